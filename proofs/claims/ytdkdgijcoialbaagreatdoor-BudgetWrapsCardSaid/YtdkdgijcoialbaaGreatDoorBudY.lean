/- The reference's meter: Pay, May, New. -/
import Derived.Test.YtdkdgijcoialbaaGreatDoorBudX
namespace Go.Proofs.YtdkdgijcoialbaaGreatDoor
open Go.RowKit

set_option linter.unusedVariables false
set_option linter.unusedSimpArgs false

def RPaid2 (g : Nat) (m m' : Mt) (n : Int) (w : World) (e : Ending) (w' : World) : Prop := RPaid g m' n w e w'
set_option maxRecDepth 100000 in
set_option maxHeartbeats 4000000 in
theorem rpay_gone (g : Nat) (m : Mt) (a : At) (w : World) (h : RAt g m w) (q : ByteArray) (k : Int) (h0 : m.out = some (q, k)) (hq : q.toList.isEmpty = false) :
    Calls Tryz.prog 9 #[.pointer (some ⟨g, 0, none⟩), .agg a.cells] w (RPaid g m 46 w) := by
  obtain ⟨kind, P, pc, n1, A1, la, cc1, n2, A2, lm, cc2, ls⟩ := a
  obtain ⟨W, hW⟩ : ∃ W, w.alloc (.cells #[.int .u8 kind, .slice P ls.length pc, .bool n1, .slice A1 la cc1, .bool n2, .slice A2 lm cc2] 31) = W := ⟨_, rfl⟩
  have hB : Below w.heap.size w W := hW ▸ (Below.refl _ w).alloc (Nat.le_refl _) _
  have HB := Lib.hid hB
  have hr := h.keep hB
  have c8 : W.cell? ⟨g, 8, none⟩ = some (.string q) := by rw [cell_of hr]; rw [part_some h0]; rfl
  have c := Lib.hid (fun nq => rgone_again g m sName q k (W.drewN nq) hr h0 hq)
  clear h hr h0 hB
  simp only [At.cells]
  go_enter Tryz.func9, Tryz.ntmps9
  go_wp2
  go_quiet (fail)
  go_wp2_with ((with_reducible refine (c.out nq).mono ?_); rintro e w1 ⟨rfl, hm1, hj⟩)
  go_ret
  exact ⟨rfl, hm1, (Just.of (HB.out.trans (Joins.below_draws _ _ _))).trans hj⟩
set_option maxRecDepth 100000 in
set_option maxHeartbeats 4000000 in
theorem rpay_steps (g : Nat) (m : Mt) (a : At) (w : World) (h : RAt g m w) (h0 : m.out = none) (hs : m.ss = m.bs) :
    Calls Tryz.prog 9 #[.pointer (some ⟨g, 0, none⟩), .agg a.cells] w (RPaid g { m with out := some (sName, m.bs) } 46 w) := by
  obtain ⟨kind, P, pc, n1, A1, la, cc1, n2, A2, lm, cc2, ls⟩ := a
  obtain ⟨W, hW⟩ : ∃ W, w.alloc (.cells #[.int .u8 kind, .slice P ls.length pc, .bool n1, .slice A1 la cc1, .bool n2, .slice A2 lm cc2] 31) = W := ⟨_, rfl⟩
  have hB : Below w.heap.size w W := hW ▸ (Below.refl _ w).alloc (Nat.le_refl _) _
  have HB := Lib.hid hB
  have hr := h.keep hB
  have c8 : W.cell? ⟨g, 8, none⟩ = some (.string ⟨#[]⟩) := by rw [cell_of hr]; rw [part_none h0]; rfl
  have b0 : W.cell? ⟨g, 0, none⟩ = some (.int .i64 m.bs) := by rw [cell_of hr]; rfl
  have b4 : W.cell? ⟨g, 4, none⟩ = some (.int .i64 m.bs) := by rw [cell_of hr, ← hs]; rfl
  have c := Lib.hid (fun nq => rgone_first g m _ sName (W.drewN nq) hr h0 m.bs rfl)
  clear h hr h0 hB hs
  generalize { m with out := some (sName, m.bs) } = m' at *
  generalize m.bs = B at *
  simp only [At.cells]
  go_enter Tryz.func9, Tryz.ntmps9
  go_wp2
  go_quiet (fail)
  go_wp2_with ((with_reducible refine (c.out nq).mono ?_); rintro e w1 ⟨rfl, hm1, hj⟩)
  go_ret
  exact ⟨rfl, hm1, (Just.of (HB.out.trans (Joins.below_draws _ _ _))).trans hj⟩
set_option maxRecDepth 100000 in
set_option maxHeartbeats 4000000 in
theorem rpay_over (g : Nat) (m : Mt) (a : At) (w : World) (h : RAt g m w) (ha : AtIs w a) (n : Nat) (hn : a.most = n) (h0 : m.out = none) (hs : m.ss < m.bs) (hl : m.bl < (n : Int)) :
    Calls Tryz.prog 9 #[.pointer (some ⟨g, 0, none⟩), .agg a.cells] w (RPaid g { m with out := some (lName, m.bl) } 46 w) := by
  obtain ⟨kind, P, pc, n1, A1, la, cc1, n2, A2, lm, cc2, ls⟩ := a
  obtain ⟨W, hW⟩ : ∃ W, w.alloc (.cells #[.int .u8 kind, .slice P ls.length pc, .bool n1, .slice A1 la cc1, .bool n2, .slice A2 lm cc2] 31) = W := ⟨_, rfl⟩
  have hB : Below w.heap.size w W := hW ▸ (Below.refl _ w).alloc (Nat.le_refl _) _
  have hx : W.heap[w.heap.size]? = some (.cells #[.int .u8 kind, .slice P ls.length pc, .bool n1, .slice A1 la cc1, .bool n2, .slice A2 lm cc2] 31 (0, 0)) := hW ▸ lone_new w _ _
  have HB := Lib.hid hB
  have hr := h.keep hB
  have hp := (ha.below hB)
  have c8 : W.cell? ⟨g, 8, none⟩ = some (.string ⟨#[]⟩) := by rw [cell_of hr]; rw [part_none h0]; rfl
  have b0 : W.cell? ⟨g, 0, none⟩ = some (.int .i64 m.bs) := by rw [cell_of hr]; rfl
  have b4 : W.cell? ⟨g, 4, none⟩ = some (.int .i64 m.ss) := by rw [cell_of hr]; rfl
  have c := Lib.hid (fun nq => rgone_first g m _ lName (W.drewN nq) hr h0 m.bl rfl)
  have HR := Lib.hid hr
  have HX := Lib.hid hx
  have HP := Lib.hid hp
  have HN := Lib.hid hn
  have HL := Lib.hid hl
  clear h hr hB hx hp hn ha hl
  have hs2 : decide (m.bs ≤ m.ss) = false := decide_eq_false (by omega)
  simp only [At.cells]
  go_enter Tryz.func9, Tryz.ntmps9
  go_wp2
  go_quiet (fail)
  obtain ⟨W2, hW2⟩ : ∃ x, x = W.drewN nq := ⟨_, rfl⟩
  rw [← hW2]
  have C := Lib.hid (hW2 ▸ c.out nq)
  have R2 := Lib.hid (show RAt g m W2 from hW2 ▸ HR.out)
  have K2 := Lib.hid (show Below w.heap.size w W2 from hW2 ▸ HB.out.trans (Joins.below_draws _ _ _))
  have X2 := (show W2.heap[w.heap.size]? = some (.cells #[.int .u8 kind, .slice P ls.length pc, .bool n1, .slice A1 la cc1, .bool n2, .slice A2 lm cc2] 31 (0, 0)) from hW2 ▸ HX.out)
  have x1 : W2.cell? ⟨w.heap.size, 1, none⟩ = some (.slice P ls.length pc) := by rw [cell_of X2]; rfl
  have x3 : W2.cell? ⟨w.heap.size, 3, none⟩ = some (.slice A1 la cc1) := by rw [cell_of X2]; rfl
  have x5 : W2.cell? ⟨w.heap.size, 5, none⟩ = some (.slice A2 lm cc2) := by rw [cell_of X2]; rfl
  have d2 : W2.cell? ⟨g, 2, none⟩ = some (.int .i64 m.bl) := by rw [cell_of R2.out]; rfl
  have d4 : W2.cell? ⟨g, 4, none⟩ = some (.int .i64 m.ss) := by rw [cell_of R2.out]; rfl
  have d6 : W2.cell? ⟨g, 6, none⟩ = some (.int .i64 m.sl) := by rw [cell_of R2.out]; rfl
  have f4 := frozen_of R2.out 4
  have f6 := frozen_of R2.out 6
  have P2 := Lib.hid (show PartsAt W2 W.heap.size P ls from hW2 ▸ HP.out.1)
  have PL := Lib.hid HP.out.2.1
  clear X2 hW2 c8 b0 b4 c h0 HX HR HP HB hW
  go_wp2
  all_goals
    obtain ⟨m0, hm0⟩ : ∃ m0, m0 = max la lm := ⟨_, rfl⟩
    have hmm : (m0 = lm ∧ la ≤ lm) ∨ (m0 = la ∧ lm < la) := by omega
    have HMM := Lib.hid hmm
    have HT := Lib.hid (show top ls m0 = n by rw [hm0]; exact HN.out)
    clear hmm hm0
    go_loopw [5, 6] (fun t i wr => ∃ k : Nat, k ≤ ls.length ∧ t = .int .i64 ((top (ls.take k) m0 : Nat) : Int) ∧ i = .int .i64 (k : Int) ∧ W2 = wr) (fun _ i _ => (ls.length - numOf i).toNat)
    case atStart => exact ⟨0, Nat.zero_le _, by have := HMM.out; simp [top]; omega, rfl, rfl⟩
    case round =>
      obtain ⟨k, hk, rfl, rfl, rfl⟩ := hrel
      rcases Nat.lt_or_ge k ls.length with hlt | hge
      · obtain ⟨b, off, rfl, hb, hc⟩ := P2.out.2 (by omega)
        obtain ⟨v, nn, A, cc, e0, e1, e2⟩ := hc k hlt
        have ht := Lib.hid (top_take ls m0 k hlt)
        have hx := P2.out.1 k
        obtain ⟨k1, hk1⟩ : ∃ k1 : Nat, wrap64 ((k : Int) + 1) = (k1 : Int) ∧ k1 = k + 1 := ⟨k + 1, by have := PL.out; unfold wrap64; omega, rfl⟩
        have HK1 := Lib.hid hk1.2
        replace hk1 := hk1.1
        clear hc
        generalize ls[k]?.getD 0 = x at *
        generalize top (ls.take k) m0 = y at *
        generalize hnl : ls.length = nl at *
        go_wp2
        refine ⟨⟨k1, by have := HK1.out; omega, ?_, by rw [hk1], trivial⟩, ?_⟩
        · rw [HK1.out, ht.out]
          congr 1
          first
            | (by_cases hyx : y < x
               · rw [if_pos hyx]; omega
               · rw [if_neg hyx]; omega)
            | omega
        · rw [hk1]; have := HK1.out; simp only [numOf]; omega
      · have he : k = ls.length := by omega
        have HT2 : Hid (top (ls.take k) m0 = n) := Lib.hid (by rw [he, List.take_length]; exact HT.out)
        obtain ⟨y, hy⟩ : ∃ y, top (ls.take k) m0 = y := ⟨_, rfl⟩
        have HY := Lib.hid (show (y : Nat) = n by rw [← hy]; exact HT2.out)
        rw [hy]
        clear hy
        have hyn : y = n := HY.out
        subst hyn
        have hll := HL.out
        generalize { m with out := some (lName, m.bl) } = m' at *
        go_wp2_with ((with_reducible refine C.out.mono ?_); rintro e w1 ⟨rfl, hm1, hj⟩)
        go_ret
        exact ⟨rfl, hm1, (Just.of K2.out).trans hj⟩
set_option maxRecDepth 100000 in
set_option maxHeartbeats 4000000 in
theorem rpay_in (g : Nat) (m : Mt) (a : At) (w : World) (h : RAt g m w) (ha : AtIs w a) (n : Nat) (hn : a.most = n) (h0 : m.out = none) (hs : m.ss < m.bs) (hl : (n : Int) ≤ m.bl) (hz : m.ss + 1 ≤ 9223372036854775807) (hz0 : 0 ≤ m.ss) :
    Calls Tryz.prog 9 #[.pointer (some ⟨g, 0, none⟩), .agg a.cells] w (RPaid g { m with ss := m.ss + 1, sl := max m.sl n } 0 w) := by
  obtain ⟨kind, P, pc, n1, A1, la, cc1, n2, A2, lm, cc2, ls⟩ := a
  obtain ⟨W, hW⟩ : ∃ W, w.alloc (.cells #[.int .u8 kind, .slice P ls.length pc, .bool n1, .slice A1 la cc1, .bool n2, .slice A2 lm cc2] 31) = W := ⟨_, rfl⟩
  have hB : Below w.heap.size w W := hW ▸ (Below.refl _ w).alloc (Nat.le_refl _) _
  have hx : W.heap[w.heap.size]? = some (.cells #[.int .u8 kind, .slice P ls.length pc, .bool n1, .slice A1 la cc1, .bool n2, .slice A2 lm cc2] 31 (0, 0)) := hW ▸ lone_new w _ _
  have HB := Lib.hid hB
  have hr := h.keep hB
  have hp := (ha.below hB)
  have c8 : W.cell? ⟨g, 8, none⟩ = some (.string ⟨#[]⟩) := by rw [cell_of hr]; rw [part_none h0]; rfl
  have b0 : W.cell? ⟨g, 0, none⟩ = some (.int .i64 m.bs) := by rw [cell_of hr]; rfl
  have b4 : W.cell? ⟨g, 4, none⟩ = some (.int .i64 m.ss) := by rw [cell_of hr]; rfl
  have c := Lib.hid (fun nq => rgone_first g m _ lName (W.drewN nq) hr h0 m.bl rfl)
  have HR := Lib.hid hr
  have HX := Lib.hid hx
  have HP := Lib.hid hp
  have HN := Lib.hid hn
  have HL := Lib.hid hl
  clear h hr hB hx hp hn ha hl
  have hs2 : decide (m.bs ≤ m.ss) = false := decide_eq_false (by omega)
  simp only [At.cells]
  go_enter Tryz.func9, Tryz.ntmps9
  go_wp2
  go_quiet (fail)
  obtain ⟨W2, hW2⟩ : ∃ x, x = W.drewN nq := ⟨_, rfl⟩
  rw [← hW2]
  have C := Lib.hid (hW2 ▸ c.out nq)
  have R2 := Lib.hid (show RAt g m W2 from hW2 ▸ HR.out)
  have K2 := Lib.hid (show Below w.heap.size w W2 from hW2 ▸ HB.out.trans (Joins.below_draws _ _ _))
  have X2 := (show W2.heap[w.heap.size]? = some (.cells #[.int .u8 kind, .slice P ls.length pc, .bool n1, .slice A1 la cc1, .bool n2, .slice A2 lm cc2] 31 (0, 0)) from hW2 ▸ HX.out)
  have x1 : W2.cell? ⟨w.heap.size, 1, none⟩ = some (.slice P ls.length pc) := by rw [cell_of X2]; rfl
  have x3 : W2.cell? ⟨w.heap.size, 3, none⟩ = some (.slice A1 la cc1) := by rw [cell_of X2]; rfl
  have x5 : W2.cell? ⟨w.heap.size, 5, none⟩ = some (.slice A2 lm cc2) := by rw [cell_of X2]; rfl
  have d2 : W2.cell? ⟨g, 2, none⟩ = some (.int .i64 m.bl) := by rw [cell_of R2.out]; rfl
  have d4 : W2.cell? ⟨g, 4, none⟩ = some (.int .i64 m.ss) := by rw [cell_of R2.out]; rfl
  have d6 : W2.cell? ⟨g, 6, none⟩ = some (.int .i64 m.sl) := by rw [cell_of R2.out]; rfl
  have f4 := frozen_of R2.out 4
  have f6 := frozen_of R2.out 6
  have P2 := Lib.hid (show PartsAt W2 W.heap.size P ls from hW2 ▸ HP.out.1)
  have PL := Lib.hid HP.out.2.1
  clear X2 hW2 c8 b0 b4 c h0 HX HR HP HB hW
  go_wp2
  all_goals
    obtain ⟨m0, hm0⟩ : ∃ m0, m0 = max la lm := ⟨_, rfl⟩
    have hmm : (m0 = lm ∧ la ≤ lm) ∨ (m0 = la ∧ lm < la) := by omega
    have HMM := Lib.hid hmm
    have HT := Lib.hid (show top ls m0 = n by rw [hm0]; exact HN.out)
    clear hmm hm0
    go_loopw [5, 6] (fun t i wr => ∃ k : Nat, k ≤ ls.length ∧ t = .int .i64 ((top (ls.take k) m0 : Nat) : Int) ∧ i = .int .i64 (k : Int) ∧ W2 = wr) (fun _ i _ => (ls.length - numOf i).toNat)
    case atStart => exact ⟨0, Nat.zero_le _, by have := HMM.out; simp [top]; omega, rfl, rfl⟩
    case round =>
      obtain ⟨k, hk, rfl, rfl, rfl⟩ := hrel
      rcases Nat.lt_or_ge k ls.length with hlt | hge
      · obtain ⟨b, off, rfl, hb, hc⟩ := P2.out.2 (by omega)
        obtain ⟨v, nn, A, cc, e0, e1, e2⟩ := hc k hlt
        have ht := Lib.hid (top_take ls m0 k hlt)
        have hx := P2.out.1 k
        obtain ⟨k1, hk1⟩ : ∃ k1 : Nat, wrap64 ((k : Int) + 1) = (k1 : Int) ∧ k1 = k + 1 := ⟨k + 1, by have := PL.out; unfold wrap64; omega, rfl⟩
        have HK1 := Lib.hid hk1.2
        replace hk1 := hk1.1
        clear hc
        generalize ls[k]?.getD 0 = x at *
        generalize top (ls.take k) m0 = y at *
        generalize hnl : ls.length = nl at *
        go_wp2
        refine ⟨⟨k1, by have := HK1.out; omega, ?_, by rw [hk1], trivial⟩, ?_⟩
        · rw [HK1.out, ht.out]
          congr 1
          first
            | (by_cases hyx : y < x
               · rw [if_pos hyx]; omega
               · rw [if_neg hyx]; omega)
            | omega
        · rw [hk1]; have := HK1.out; simp only [numOf]; omega
      · have he : k = ls.length := by omega
        have HT2 : Hid (top (ls.take k) m0 = n) := Lib.hid (by rw [he, List.take_length]; exact HT.out)
        obtain ⟨y, hy⟩ : ∃ y, top (ls.take k) m0 = y := ⟨_, rfl⟩
        have HY := Lib.hid (show (y : Nat) = n by rw [← hy]; exact HT2.out)
        rw [hy]
        clear hy
        have hyn : y = n := HY.out
        subst hyn
        have hll := HL.out
        go_wp2
        go_ret
        refine ⟨rfl, ?_, (Just.of K2.out).trans ((Just.set _ _ _ _).trans (Just.set _ _ _ _))⟩
        have := Joins.block_setCell (i := 6) (Joins.block_setCell (i := 4) (w := W2) R2.out (.int .i64 (m.ss + 1))) (.int .i64 (max m.sl (y : Int)))
        exact this
end Go.Proofs.YtdkdgijcoialbaaGreatDoor

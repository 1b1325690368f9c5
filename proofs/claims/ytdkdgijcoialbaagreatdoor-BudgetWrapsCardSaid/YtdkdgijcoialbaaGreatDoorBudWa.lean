/- BudgetWraps (mkbudw.py). -/
import Derived.Test.YtdkdgijcoialbaaGreatDoorBudZ
import Derived.Test.YtdkdgijcoialbaaGreatDoorBudTA
import Derived.Test.YtdkdgijcoialbaaGreatDoorBudIs
import Derived.Deep.RegionWith
import Derived.Deep.RegionHeld3
namespace Go.Proofs.YtdkdgijcoialbaaGreatDoor
open Go.RowKit

set_option linter.unusedVariables false
set_option linter.unusedSimpArgs false

theorem many_one (c : Cl) (b : Nat) (w : World) (hx : w.heap[b]? = some (.cells c.cells 33 (0, 0))) (ha : AtIs w c.a) :
    Calls Tryz.prog 4 #[.slice (some ⟨b, 0, none⟩) 1 1] w fun e w' => ∃ b, e = .returned (.bool b) ∧ w = w' := by
  refine many_any (some ⟨b, 0, none⟩) 1 [c] w ⟨by simp, fun _ => ⟨b, 0, rfl, (Array.getElem?_eq_some_iff.1 hx).1, fun j c' hj => ?_⟩⟩
  cases j with
  | succ j => simp at hj
  | zero =>
    simp at hj
    subst hj
    exact ⟨⟨(cell_of hx 0).trans rfl, (cell_of hx 1).trans rfl, (cell_of hx 2).trans rfl, (cell_of hx 3).trans rfl, (cell_of hx 4).trans rfl, (cell_of hx 5).trans rfl, (cell_of hx 6).trans rfl, (cell_of hx 7).trans rfl⟩, ha⟩
theorem nat_str {ws : List ByteArray} {k : Nat} (h : ∀ j, j < ws.length → (ws[j]?.getD ⟨#[]⟩).size ≤ 200) : ∀ s ∈ ws, s.size ≤ 1000 := fun s hs => by
  obtain ⟨j, hj, rfl⟩ := List.getElem_of_mem hs
  have := h j hj
  rw [List.getElem?_eq_getElem hj] at this
  simp at this
  omega
theorem no_used {p : ByteArray} {m n : Int} (h : ¬ n = 46) : ((Base.used p m).no == n) = false := by
  simp only [Base.no, beq_eq_false_iff_ne, ne_eq]
  exact fun e => h e.symm
theorem noWhat (w : World) (g : Nat) : True := trivial
theorem heap_at {k : Nat} {w w' : World} {o : Obj} (h : w.heap[k]? = some o) (hb : Below w.heap.size w w') : w'.heap[k]? = some o := (hb.block k (Array.getElem?_eq_some_iff.1 h).1).trans h
set_option maxRecDepth 100000 in
set_option maxHeartbeats 32000000 in
theorem wraps_no (s r l d : Int) (c : Cl) (A : Option Addr) (cap : Nat) (ws : List ByteArray) (n : Int) (w : World) (hT : ErrT w) (hB : Tab w) (ha : AtIs w c.a) (hs : StrsAt w A ws) (hlen : ws.length ≤ 9223372036854775807) (hm : ¬ Bmay s r l d) :
    Calls Tryz.prog 3 #[.agg #[.int .i64 s, .int .i64 r, .int .i64 l, .int .i64 d], .agg c.cells, .slice A ws.length cap, .int .i64 n] w fun e w' => e = .returned (.bool true) ∧ Below w.heap.size w w' := by
  obtain ⟨what, ⟨kind, P, pc, n1, A1, la, cc1, n2, A2, lm, cc2, ls⟩, nn⟩ := c
  simp only [Cl.cells] at *
  obtain ⟨V, hV⟩ : ∃ V, w.alloc (.cells #[.int .i64 s, .int .i64 r, .int .i64 l, .int .i64 d] 23) = V := ⟨_, rfl⟩
  obtain ⟨W, hW⟩ : ∃ W, V.alloc (.cells #[.int .u8 what, .int .u8 kind, .slice P ls.length pc, .bool n1, .slice A1 la cc1, .bool n2, .slice A2 lm cc2, .int .i64 nn] 33) = W := ⟨_, rfl⟩
  obtain ⟨U, hU⟩ : ∃ U, W.alloc (.cells #[.int .u8 what, .int .u8 kind, .slice P ls.length pc, .bool n1, .slice A1 la cc1, .bool n2, .slice A2 lm cc2, .int .i64 nn] 33) = U := ⟨_, rfl⟩
  have b1 : Below w.heap.size w V := hV ▸ (Below.refl _ w).alloc (Nat.le_refl _) _
  have b2 : Below V.heap.size V W := hW ▸ (Below.refl _ V).alloc (Nat.le_refl _) _
  have b3 : Below W.heap.size W U := hU ▸ (Below.refl _ W).alloc (Nat.le_refl _) _
  have b23 := b2.trans (b3.mono b2.size)
  have K0 := Lib.hid (b1.trans (b23.mono b1.size))
  have xb : V.heap[w.heap.size]? = some (.cells #[.int .i64 s, .int .i64 r, .int .i64 l, .int .i64 d] 23 (0, 0)) := hV ▸ lone_new w _ _
  have xc : W.heap[V.heap.size]? = some (.cells #[.int .u8 what, .int .u8 kind, .slice P ls.length pc, .bool n1, .slice A1 la cc1, .bool n2, .slice A2 lm cc2, .int .i64 nn] 33 (0, 0)) := hW ▸ lone_new V _ _
  have xd : U.heap[W.heap.size]? = some (.cells #[.int .u8 what, .int .u8 kind, .slice P ls.length pc, .bool n1, .slice A1 la cc1, .bool n2, .slice A2 lm cc2, .int .i64 nn] 33 (0, 0)) := hU ▸ lone_new W _ _
  have XB := Lib.hid (heap_at xb b23)
  have XC := Lib.hid (heap_at xc b3)
  have LB := Lib.hid (Array.getElem?_eq_some_iff.1 XB.out).1
  have LC := Lib.hid (Array.getElem?_eq_some_iff.1 XC.out).1
  have c00 : W.cell? ⟨V.heap.size, 0, none⟩ = some (.int .u8 what) := (cell_of xc 0).trans rfl
  have c01 : W.cell? ⟨V.heap.size, 1, none⟩ = some (.int .u8 kind) := (cell_of xc 1).trans rfl
  have c02 : W.cell? ⟨V.heap.size, 2, none⟩ = some (.slice P ls.length pc) := (cell_of xc 2).trans rfl
  have c03 : W.cell? ⟨V.heap.size, 3, none⟩ = some (.bool n1) := (cell_of xc 3).trans rfl
  have c04 : W.cell? ⟨V.heap.size, 4, none⟩ = some (.slice A1 la cc1) := (cell_of xc 4).trans rfl
  have c05 : W.cell? ⟨V.heap.size, 5, none⟩ = some (.bool n2) := (cell_of xc 5).trans rfl
  have c06 : W.cell? ⟨V.heap.size, 6, none⟩ = some (.slice A2 lm cc2) := (cell_of xc 6).trans rfl
  have c07 : W.cell? ⟨V.heap.size, 7, none⟩ = some (.int .i64 nn) := (cell_of xc 7).trans rfl
  have HT := Lib.hid (hT.keep K0.out)
  have HB := Lib.hid (hB.keep K0.out)
  have HA := Lib.hid (ha.below K0.out)
  have HS := Lib.hid (hs.below K0.out)
  have HL := Lib.hid hlen
  have HM := Lib.hid hm
  have c1 := Lib.hid (many_one ⟨what, ⟨kind, P, pc, n1, A1, la, cc1, n2, A2, lm, cc2, ls⟩, nn⟩ W.heap.size U xd HA.out)
  clear hT hB ha hs hlen hm b1 b2 b3 b23 xb xc xd
  go_enter Tryz.func3, Tryz.ntmps3
  generalize hnl : ws.length = nl at *
  have HNL := Lib.hid hnl
  clear hnl
  go_wp2_with fail
  (with_reducible refine c1.out.mono ?_); rintro e w' ⟨b, rfl, rfl⟩
  clear c1 c00 c01 c02 c03 c04 c05 c06 c07
  cases b
  case true =>
    go_wp2_with ((with_reducible refine (awake_any U HT.out HB.out).mono ?_); rintro e w1 ⟨rfl, hb⟩; have K1 := Lib.hid hb; clear hb)
    go_ret
    exact ⟨rfl, K0.out.trans (K1.out.mono K0.out.size)⟩
  case false =>
    by_cases h50 : 50 < nl
    · go_wp2_with ((with_reducible refine (awake_any U HT.out HB.out).mono ?_); rintro e w1 ⟨rfl, hb⟩; have K1 := Lib.hid hb; clear hb)
      go_ret
      exact ⟨rfl, K0.out.trans (K1.out.mono K0.out.size)⟩
    · go_wp2
      have H50 := Lib.hid h50
      clear h50
      go_loopw [9] (fun i wr => ∃ k : Nat, k ≤ nl ∧ i = .int .i64 (k : Int) ∧ (∀ j, j < k → (ws[j]?.getD ⟨#[]⟩).size ≤ 200) ∧ U = wr) (fun i _ => (nl - numOf i).toNat)
      case atStart => exact ⟨0, Nat.zero_le _, rfl, fun j hj => absurd hj (Nat.not_lt_zero _), rfl⟩
      case round =>
        obtain ⟨k, hk, rfl, h200, rfl⟩ := hrel
        have H2 := Lib.hid h200
        clear h200
        rcases Nat.lt_or_ge k nl with hlt | hge
        · obtain ⟨bb, off, rfl, hbb, hc⟩ := HS.out (by have := HNL.out; omega)
          have hlt' : k < ws.length := by have := HNL.out; omega
          have hcell := hc k ws[k] (List.getElem?_eq_getElem hlt')
          have HCE := Lib.hid (show ws[k]?.getD ⟨#[]⟩ = ws[k] by rw [List.getElem?_eq_getElem hlt']; rfl)
          obtain ⟨k1, hk1⟩ : ∃ k1 : Nat, wrap64 ((k : Int) + 1) = (k1 : Int) ∧ k1 = k + 1 := ⟨k + 1, by have := HL.out; unfold wrap64; omega, rfl⟩
          have HK1 := Lib.hid hk1.2
          replace hk1 := hk1.1
          clear hc hbb
          generalize ws[k] = z at *
          obtain ⟨zn, hzn⟩ : ∃ zn, z.size = zn := ⟨_, rfl⟩
          have HZN := Lib.hid hzn
          by_cases hz : 200 < zn
          · clear hk1
            go_wp2_with ((with_reducible refine (awake_any U HT.out HB.out).mono ?_); rintro e w1 ⟨rfl, hb⟩; have K1 := Lib.hid hb; clear hb)
            go_ret
            exact ⟨rfl, K0.out.trans (K1.out.mono K0.out.size)⟩
          · have HZ := Lib.hid hz
            go_wp2
            refine ⟨⟨k1, by have := HK1.out; omega, by first | rw [hk1] | (congr 1; have := HK1.out; omega), fun j hj => ?_, trivial⟩, ?_⟩
            · have := HK1.out
              rcases Nat.lt_or_ge j k with h | h
              · exact H2.out j h
              · obtain rfl : j = k := by omega
                rw [HCE.out, HZN.out]; have := HZ.out; omega
            · try rw [hk1]
              have := HK1.out; simp only [numOf]; omega
        · have HS2 := Lib.hid (nat_str (ws := ws) (k := 0) (fun j hj => H2.out j (by have := HNL.out; omega)))
          clear H2
          have hb0 := ((Below.refl U.heap.size U).block _ LB.out).trans XB.out; have q0 : U.cell? ⟨w.heap.size, 0, none⟩ = some (.int .i64 s) := (cell_of hb0 0).trans rfl; have q1 : U.cell? ⟨w.heap.size, 1, none⟩ = some (.int .i64 r) := (cell_of hb0 1).trans rfl; have q2 : U.cell? ⟨w.heap.size, 2, none⟩ = some (.int .i64 l) := (cell_of hb0 2).trans rfl; have q3 : U.cell? ⟨w.heap.size, 3, none⟩ = some (.int .i64 d) := (cell_of hb0 3).trans rfl; clear hb0
          go_wp2_with (first
            | ((with_reducible refine (new_no s r l d U HM.out).mono ?_); rintro e w1 ⟨rfl, hb⟩; have K1 := Lib.hid hb; have hb0 := (K1.out.block _ LB.out).trans XB.out; have qa0 : w1.cell? ⟨w.heap.size, 0, none⟩ = some (.int .i64 s) := (cell_of hb0 0).trans rfl; have qa1 : w1.cell? ⟨w.heap.size, 1, none⟩ = some (.int .i64 r) := (cell_of hb0 1).trans rfl; have qa2 : w1.cell? ⟨w.heap.size, 2, none⟩ = some (.int .i64 l) := (cell_of hb0 2).trans rfl; have qa3 : w1.cell? ⟨w.heap.size, 3, none⟩ = some (.int .i64 d) := (cell_of hb0 3).trans rfl; clear hb0; clear hb)
            | ((with_reducible refine (rnew_no s r l d w1 HM.out).mono ?_); rintro e w2 ⟨rfl, hb⟩; have K2 := Lib.hid (K1.out.trans (hb.mono K1.out.size)); clear hb)
            | ((with_reducible refine (awake_any w2 (HT.out.keep K2.out) (HB.out.keep K2.out)).mono ?_); rintro e w3 ⟨rfl, hb⟩; have K3 := Lib.hid (K2.out.trans (hb.mono K2.out.size)); clear hb))
          go_ret
          exact ⟨rfl, K0.out.trans (K3.out.mono K0.out.size)⟩
set_option maxRecDepth 100000 in
set_option maxHeartbeats 32000000 in
theorem wraps_w0 (s r l d : Int) (c : Cl) (A : Option Addr) (cap : Nat) (ws : List ByteArray) (n : Int) (w : World) (hT : ErrT w) (hB : Tab w) (ha : AtIs w c.a) (hs : StrsAt w A ws) (hlen : ws.length ≤ 9223372036854775807) (hm : Bmay s r l d) (hw : c.what = 0) :
    Calls Tryz.prog 3 #[.agg #[.int .i64 s, .int .i64 r, .int .i64 l, .int .i64 d], .agg c.cells, .slice A ws.length cap, .int .i64 n] w fun e w' => e = .returned (.bool true) ∧ Below w.heap.size w w' := by
  obtain ⟨what, ⟨kind, P, pc, n1, A1, la, cc1, n2, A2, lm, cc2, ls⟩, nn⟩ := c
  simp only [Cl.cells] at *
  subst hw
  obtain ⟨V, hV⟩ : ∃ V, w.alloc (.cells #[.int .i64 s, .int .i64 r, .int .i64 l, .int .i64 d] 23) = V := ⟨_, rfl⟩
  obtain ⟨W, hW⟩ : ∃ W, V.alloc (.cells #[.int .u8 0, .int .u8 kind, .slice P ls.length pc, .bool n1, .slice A1 la cc1, .bool n2, .slice A2 lm cc2, .int .i64 nn] 33) = W := ⟨_, rfl⟩
  obtain ⟨U, hU⟩ : ∃ U, W.alloc (.cells #[.int .u8 0, .int .u8 kind, .slice P ls.length pc, .bool n1, .slice A1 la cc1, .bool n2, .slice A2 lm cc2, .int .i64 nn] 33) = U := ⟨_, rfl⟩
  have b1 : Below w.heap.size w V := hV ▸ (Below.refl _ w).alloc (Nat.le_refl _) _
  have b2 : Below V.heap.size V W := hW ▸ (Below.refl _ V).alloc (Nat.le_refl _) _
  have b3 : Below W.heap.size W U := hU ▸ (Below.refl _ W).alloc (Nat.le_refl _) _
  have b23 := b2.trans (b3.mono b2.size)
  have K0 := Lib.hid (b1.trans (b23.mono b1.size))
  have xb : V.heap[w.heap.size]? = some (.cells #[.int .i64 s, .int .i64 r, .int .i64 l, .int .i64 d] 23 (0, 0)) := hV ▸ lone_new w _ _
  have xc : W.heap[V.heap.size]? = some (.cells #[.int .u8 0, .int .u8 kind, .slice P ls.length pc, .bool n1, .slice A1 la cc1, .bool n2, .slice A2 lm cc2, .int .i64 nn] 33 (0, 0)) := hW ▸ lone_new V _ _
  have xd : U.heap[W.heap.size]? = some (.cells #[.int .u8 0, .int .u8 kind, .slice P ls.length pc, .bool n1, .slice A1 la cc1, .bool n2, .slice A2 lm cc2, .int .i64 nn] 33 (0, 0)) := hU ▸ lone_new W _ _
  have XB := Lib.hid (heap_at xb b23)
  have XC := Lib.hid (heap_at xc b3)
  have LB := Lib.hid (Array.getElem?_eq_some_iff.1 XB.out).1
  have LC := Lib.hid (Array.getElem?_eq_some_iff.1 XC.out).1
  have c00 : W.cell? ⟨V.heap.size, 0, none⟩ = some (.int .u8 0) := (cell_of xc 0).trans rfl
  have c01 : W.cell? ⟨V.heap.size, 1, none⟩ = some (.int .u8 kind) := (cell_of xc 1).trans rfl
  have c02 : W.cell? ⟨V.heap.size, 2, none⟩ = some (.slice P ls.length pc) := (cell_of xc 2).trans rfl
  have c03 : W.cell? ⟨V.heap.size, 3, none⟩ = some (.bool n1) := (cell_of xc 3).trans rfl
  have c04 : W.cell? ⟨V.heap.size, 4, none⟩ = some (.slice A1 la cc1) := (cell_of xc 4).trans rfl
  have c05 : W.cell? ⟨V.heap.size, 5, none⟩ = some (.bool n2) := (cell_of xc 5).trans rfl
  have c06 : W.cell? ⟨V.heap.size, 6, none⟩ = some (.slice A2 lm cc2) := (cell_of xc 6).trans rfl
  have c07 : W.cell? ⟨V.heap.size, 7, none⟩ = some (.int .i64 nn) := (cell_of xc 7).trans rfl
  have HT := Lib.hid (hT.keep K0.out)
  have HB := Lib.hid (hB.keep K0.out)
  have HA := Lib.hid (ha.below K0.out)
  have HS := Lib.hid (hs.below K0.out)
  have HL := Lib.hid hlen
  have HM := Lib.hid hm
  have c1 := Lib.hid (many_one ⟨0, ⟨kind, P, pc, n1, A1, la, cc1, n2, A2, lm, cc2, ls⟩, nn⟩ W.heap.size U xd HA.out)
  clear hT hB ha hs hlen hm b1 b2 b3 b23 xb xc xd
  go_enter Tryz.func3, Tryz.ntmps3
  generalize hnl : ws.length = nl at *
  have HNL := Lib.hid hnl
  clear hnl
  go_wp2_with fail
  (with_reducible refine c1.out.mono ?_); rintro e w' ⟨b, rfl, rfl⟩
  clear c1 c00 c01 c02 c03 c04 c05 c06 c07
  cases b
  case true =>
    go_wp2_with ((with_reducible refine (awake_any U HT.out HB.out).mono ?_); rintro e w1 ⟨rfl, hb⟩; have K1 := Lib.hid hb; clear hb)
    go_ret
    exact ⟨rfl, K0.out.trans (K1.out.mono K0.out.size)⟩
  case false =>
    by_cases h50 : 50 < nl
    · go_wp2_with ((with_reducible refine (awake_any U HT.out HB.out).mono ?_); rintro e w1 ⟨rfl, hb⟩; have K1 := Lib.hid hb; clear hb)
      go_ret
      exact ⟨rfl, K0.out.trans (K1.out.mono K0.out.size)⟩
    · go_wp2
      have H50 := Lib.hid h50
      clear h50
      go_loopw [9] (fun i wr => ∃ k : Nat, k ≤ nl ∧ i = .int .i64 (k : Int) ∧ (∀ j, j < k → (ws[j]?.getD ⟨#[]⟩).size ≤ 200) ∧ U = wr) (fun i _ => (nl - numOf i).toNat)
      case atStart => exact ⟨0, Nat.zero_le _, rfl, fun j hj => absurd hj (Nat.not_lt_zero _), rfl⟩
      case round =>
        obtain ⟨k, hk, rfl, h200, rfl⟩ := hrel
        have H2 := Lib.hid h200
        clear h200
        rcases Nat.lt_or_ge k nl with hlt | hge
        · obtain ⟨bb, off, rfl, hbb, hc⟩ := HS.out (by have := HNL.out; omega)
          have hlt' : k < ws.length := by have := HNL.out; omega
          have hcell := hc k ws[k] (List.getElem?_eq_getElem hlt')
          have HCE := Lib.hid (show ws[k]?.getD ⟨#[]⟩ = ws[k] by rw [List.getElem?_eq_getElem hlt']; rfl)
          obtain ⟨k1, hk1⟩ : ∃ k1 : Nat, wrap64 ((k : Int) + 1) = (k1 : Int) ∧ k1 = k + 1 := ⟨k + 1, by have := HL.out; unfold wrap64; omega, rfl⟩
          have HK1 := Lib.hid hk1.2
          replace hk1 := hk1.1
          clear hc hbb
          generalize ws[k] = z at *
          obtain ⟨zn, hzn⟩ : ∃ zn, z.size = zn := ⟨_, rfl⟩
          have HZN := Lib.hid hzn
          by_cases hz : 200 < zn
          · clear hk1
            go_wp2_with ((with_reducible refine (awake_any U HT.out HB.out).mono ?_); rintro e w1 ⟨rfl, hb⟩; have K1 := Lib.hid hb; clear hb)
            go_ret
            exact ⟨rfl, K0.out.trans (K1.out.mono K0.out.size)⟩
          · have HZ := Lib.hid hz
            go_wp2
            refine ⟨⟨k1, by have := HK1.out; omega, by first | rw [hk1] | (congr 1; have := HK1.out; omega), fun j hj => ?_, trivial⟩, ?_⟩
            · have := HK1.out
              rcases Nat.lt_or_ge j k with h | h
              · exact H2.out j h
              · obtain rfl : j = k := by omega
                rw [HCE.out, HZN.out]; have := HZ.out; omega
            · try rw [hk1]
              have := HK1.out; simp only [numOf]; omega
        · have HS2 := Lib.hid (nat_str (ws := ws) (k := 0) (fun j hj => H2.out j (by have := HNL.out; omega)))
          clear H2
          have hb0 := ((Below.refl U.heap.size U).block _ LB.out).trans XB.out; have q0 : U.cell? ⟨w.heap.size, 0, none⟩ = some (.int .i64 s) := (cell_of hb0 0).trans rfl; have q1 : U.cell? ⟨w.heap.size, 1, none⟩ = some (.int .i64 r) := (cell_of hb0 1).trans rfl; have q2 : U.cell? ⟨w.heap.size, 2, none⟩ = some (.int .i64 l) := (cell_of hb0 2).trans rfl; have q3 : U.cell? ⟨w.heap.size, 3, none⟩ = some (.int .i64 d) := (cell_of hb0 3).trans rfl; clear hb0
          have HF := Lib.hid (Fine.new HM.out)
          have HO0 := Lib.hid (show OutIs (Mt.new s r l d) from .inl rfl)
          obtain ⟨m0, hm0⟩ : ∃ m, Mt.new s r l d = m := ⟨_, rfl⟩
          have NY := Lib.hid (new_yes s r l d U HM.out)
          have RY := Lib.hid (fun w1 => rnew_yes s r l d w1 HM.out)
          rw [hm0] at HF HO0 NY RY
          clear hm0
          have F' := Lib.hid (HF.out.tell ⟨0, ⟨kind, P, pc, n1, A1, la, cc1, n2, A2, lm, cc2, ls⟩, nn⟩)
          have O' := Lib.hid (HO0.out.tell ⟨0, ⟨kind, P, pc, n1, A1, la, cc1, n2, A2, lm, cc2, ls⟩, nn⟩)
          obtain ⟨m', rr, e1⟩ : ∃ m' rr, m0.tell ⟨0, ⟨kind, P, pc, n1, A1, la, cc1, n2, A2, lm, cc2, ls⟩, nn⟩ = (m', rr) := ⟨_, _, rfl⟩
          rw [e1] at F' O'
          have ET := Lib.hid e1
          have HE := Lib.hid (show m0.pay ((⟨kind, P, pc, n1, A1, la, cc1, n2, A2, lm, cc2, ls⟩ : At).most : Int) = (m', rr) by rw [← e1]; exact (if_pos rfl).symm)
          simp only at F' O'
          clear e1 HO0 
          go_wp2_with (first
            | ((with_reducible refine (NY.out).mono ?_); rintro e w1 ⟨g, hg, rfl, hm, hb⟩; have HG := Lib.hid hg; have M1 := Lib.hid hm; have K1 := Lib.hid hb; clear hb hg hm; have hb0 := (K1.out.block _ LB.out).trans XB.out; have qa0 : w1.cell? ⟨w.heap.size, 0, none⟩ = some (.int .i64 s) := (cell_of hb0 0).trans rfl; have qa1 : w1.cell? ⟨w.heap.size, 1, none⟩ = some (.int .i64 r) := (cell_of hb0 1).trans rfl; have qa2 : w1.cell? ⟨w.heap.size, 2, none⟩ = some (.int .i64 l) := (cell_of hb0 2).trans rfl; have qa3 : w1.cell? ⟨w.heap.size, 3, none⟩ = some (.int .i64 d) := (cell_of hb0 3).trans rfl; clear hb0; skip)
            | ((with_reducible refine (RY.out w1).mono ?_); rintro e w2 ⟨gx, hg, rfl, hm, hb⟩; have HGX0 := Lib.hid hg; have X2 := Lib.hid hm; have M2 := Lib.hid (M1.out.keep hb); have K2 := Lib.hid (K1.out.trans (hb.mono K1.out.size)); clear hb hg hm; have HGX := Lib.hid (show g ≠ gx from fun e => by have h1 := M1.out.lt; have := HGX0.out; omega); have GXU := Lib.hid (Nat.le_trans K1.out.size HGX0.out); have A2' := Lib.hid (HA.out.below K2.out); have t10 := tell_eq M2.out A2'.out HF.out.1 ET.out; simp only [Cl.cells] at t10; have t1 := Lib.hid t10; clear t10 qa0 qa1 qa2 qa3 q0 q1 q2 q3; have hb0 := (K2.out.block _ LC.out).trans XC.out; have ca0 : w2.cell? ⟨V.heap.size, 0, none⟩ = some (.int .u8 0) := (cell_of hb0 0).trans rfl; have ca1 : w2.cell? ⟨V.heap.size, 1, none⟩ = some (.int .u8 kind) := (cell_of hb0 1).trans rfl; have ca2 : w2.cell? ⟨V.heap.size, 2, none⟩ = some (.slice P ls.length pc) := (cell_of hb0 2).trans rfl; have ca3 : w2.cell? ⟨V.heap.size, 3, none⟩ = some (.bool n1) := (cell_of hb0 3).trans rfl; have ca4 : w2.cell? ⟨V.heap.size, 4, none⟩ = some (.slice A1 la cc1) := (cell_of hb0 4).trans rfl; have ca5 : w2.cell? ⟨V.heap.size, 5, none⟩ = some (.bool n2) := (cell_of hb0 5).trans rfl; have ca6 : w2.cell? ⟨V.heap.size, 6, none⟩ = some (.slice A2 lm cc2) := (cell_of hb0 6).trans rfl; have ca7 : w2.cell? ⟨V.heap.size, 7, none⟩ = some (.int .i64 nn) := (cell_of hb0 7).trans rfl; clear hb0; skip)
            | ((with_reducible refine (t1.out).mono ?_); rintro e w3 ⟨rfl, hm3, hj⟩; have M3 := Lib.hid hm3; have X3 := Lib.hid (show RAt gx m0 w3 from (hj.block gx X2.out.lt HGX.out.symm).trans X2.out); have K3 := Lib.hid (K2.out.trans (hj.below HG.out K2.out.size)); have A3 := Lib.hid (HA.out.below K3.out); clear hm3 hj t1 ca0 ca1 ca2 ca3 ca4 ca5 ca6 ca7; have hb0 := (K3.out.block _ LC.out).trans XC.out; have cb0 : w3.cell? ⟨V.heap.size, 0, none⟩ = some (.int .u8 0) := (cell_of hb0 0).trans rfl; have cb1 : w3.cell? ⟨V.heap.size, 1, none⟩ = some (.int .u8 kind) := (cell_of hb0 1).trans rfl; have cb2 : w3.cell? ⟨V.heap.size, 2, none⟩ = some (.slice P ls.length pc) := (cell_of hb0 2).trans rfl; have cb3 : w3.cell? ⟨V.heap.size, 3, none⟩ = some (.bool n1) := (cell_of hb0 3).trans rfl; have cb4 : w3.cell? ⟨V.heap.size, 4, none⟩ = some (.slice A1 la cc1) := (cell_of hb0 4).trans rfl; have cb5 : w3.cell? ⟨V.heap.size, 5, none⟩ = some (.bool n2) := (cell_of hb0 5).trans rfl; have cb6 : w3.cell? ⟨V.heap.size, 6, none⟩ = some (.slice A2 lm cc2) := (cell_of hb0 6).trans rfl; have cb7 : w3.cell? ⟨V.heap.size, 7, none⟩ = some (.int .i64 nn) := (cell_of hb0 7).trans rfl; clear hb0; have d00 := rpay_eq (n := ((⟨kind, P, pc, n1, A1, la, cc1, n2, A2, lm, cc2, ls⟩ : At).most : Int)) (a := ⟨kind, P, pc, n1, A1, la, cc1, n2, A2, lm, cc2, ls⟩) X3.out A3.out HF.out rfl HE.out; (try simp only at d00); have d0 := Lib.hid d00; clear d00)
            | ((with_reducible refine (d0.out).mono ?_); rintro e w4 ⟨rfl, hx4, hj⟩; have X4 := Lib.hid hx4; have M4 := Lib.hid (show MtAt g m' w4 from (hj.block g M3.out.lt HGX.out).trans M3.out); have K4 := Lib.hid (K3.out.trans (hj.below GXU.out K3.out.size)); clear hx4 hj d0 cb0 cb1 cb2 cb3 cb4 cb5 cb6 cb7))
          clear X2 X3 M1 M2 M3 K1 K2 K3 A2' A3 ET HE
          cases hout : m'.out with
          | none =>
            have OU := Lib.hid hout
            clear hout
            go_wp2_with (first
              | ((with_reducible refine (why_none M4.out OU.out).mono ?_); rintro e w' ⟨rfl, rfl⟩; skip))
            go_loopw [14, 15] (fun e i wr => ∃ k : Nat, k ≤ nl ∧ i = .int .i64 (k : Int) ∧ e = .nilIface ∧ w4 = wr) (fun _ i _ => (nl - numOf i).toNat)
            case atStart => exact ⟨0, Nat.zero_le _, rfl, rfl, rfl⟩
            case round =>
              obtain ⟨k, hk, rfl, rfl, rfl⟩ := hrel
              rcases Nat.lt_or_ge k nl with hlt | hge
              · obtain ⟨bb, off, rfl, hbb, hc⟩ := (HS.out.below K4.out) (by have := HNL.out; omega)
                have hlt' : k < ws.length := by have := HNL.out; omega
                have hcell := hc k ws[k] (List.getElem?_eq_getElem hlt')
                obtain ⟨k1, hk1⟩ : ∃ k1 : Nat, wrap64 ((k : Int) + 1) = (k1 : Int) ∧ k1 = k + 1 := ⟨k + 1, by have := HL.out; unfold wrap64; omega, rfl⟩
                have HK1 := Lib.hid hk1.2
                replace hk1 := hk1.1
                clear hc hbb
                generalize ws[k] = z at *
                go_wp2_with ((with_reducible refine (wrap_nil z w4).mono ?_); rintro e w' ⟨rfl, rfl⟩)
                refine ⟨⟨k1, by have := HK1.out; omega, by first | rw [hk1] | (congr 1; have := HK1.out; omega), rfl, trivial⟩, ?_⟩
                try rw [hk1]
                have := HK1.out; simp only [numOf]; omega
              · by_cases hn : n = 46
                · subst hn
                  go_wp2_with (first
                    | ((with_reducible refine (words_nil w4).mono ?_); rintro e w5 ⟨rfl, hb⟩; have K5 := Lib.hid (K4.out.trans (hb.mono K4.out.size)); have X5 := Lib.hid (X4.out.keep hb); clear hb)
                    | ((with_reducible refine (part_nil w5).mono ?_); rintro e w6 ⟨rfl, hb⟩; have K6 := Lib.hid (K5.out.trans (hb.mono K5.out.size)); have X6 := Lib.hid (X5.out.keep hb); clear hb; have p8 : w6.cell? ⟨gx, 8, none⟩ = some (.string ⟨#[]⟩) := by rw [cell_of X6.out, part_none OU.out]; rfl)
                    | ((with_reducible refine (text_nil w6).mono ?_); rintro e w' ⟨rfl, rfl⟩; skip)
                    | ((with_reducible refine (rtext_none gx m' w6 X6.out OU.out _).mono ?_); rintro e w' ⟨rfl, rfl⟩; skip)
                    | ((with_reducible refine (most_none gx m' w6 X6.out OU.out).mono ?_); rintro e w' ⟨rfl, rfl⟩; skip)
                    | ((with_reducible refine (isB_nil 46 (w := w6)).mono ?_); rintro e w7 ⟨rfl, hb⟩; have K7 := Lib.hid (K6.out.trans (hb.mono K6.out.size)); clear hb)
                    | ((with_reducible refine (awake_any w7 (HT.out.keep K7.out) (HB.out.keep K7.out)).mono ?_); rintro e w9 ⟨rfl, hb⟩; have K9 := Lib.hid (K7.out.trans (hb.mono K7.out.size)); clear hb))
                  go_ret
                  exact ⟨rfl, K0.out.trans (K9.out.mono K0.out.size)⟩
                · have hn' := hn
                  go_wp2_with (first
                    | ((with_reducible refine (words_nil w4).mono ?_); rintro e w5 ⟨rfl, hb⟩; have K5 := Lib.hid (K4.out.trans (hb.mono K4.out.size)); have X5 := Lib.hid (X4.out.keep hb); clear hb)
                    | ((with_reducible refine (part_nil w5).mono ?_); rintro e w6 ⟨rfl, hb⟩; have K6 := Lib.hid (K5.out.trans (hb.mono K5.out.size)); have X6 := Lib.hid (X5.out.keep hb); clear hb; have p8 : w6.cell? ⟨gx, 8, none⟩ = some (.string ⟨#[]⟩) := by rw [cell_of X6.out, part_none OU.out]; rfl)
                    | ((with_reducible refine (text_nil w6).mono ?_); rintro e w' ⟨rfl, rfl⟩; skip)
                    | ((with_reducible refine (rtext_none gx m' w6 X6.out OU.out _).mono ?_); rintro e w' ⟨rfl, rfl⟩; skip)
                    | ((with_reducible refine (most_none gx m' w6 X6.out OU.out).mono ?_); rintro e w' ⟨rfl, rfl⟩; skip)
                    | ((with_reducible refine (isB_nil 46 (w := w6)).mono ?_); rintro e w7 ⟨rfl, hb⟩; have K7 := Lib.hid (K6.out.trans (hb.mono K6.out.size)); clear hb)
                    | ((with_reducible refine (isB_nil n (w := w7)).mono ?_); rintro e w8 ⟨rfl, hb⟩; have K8 := Lib.hid (K7.out.trans (hb.mono K7.out.size)); clear hb)
                    | ((with_reducible refine (awake_any w8 (HT.out.keep K8.out) (HB.out.keep K8.out)).mono ?_); rintro e w9 ⟨rfl, hb⟩; have K9 := Lib.hid (K8.out.trans (hb.mono K8.out.size)); clear hb))
                  go_ret
                  exact ⟨rfl, K0.out.trans (K9.out.mono K0.out.size)⟩
          | some x =>
            obtain ⟨pp, kk⟩ := x
            have OU := Lib.hid hout
            have POK := Lib.hid (F'.out.2 pp kk hout)
            have BND := Lib.hid (out_bound O'.out F'.out.1 hout)
            have hpe : pp.toList.isEmpty = false := (F'.out.2 pp kk hout).1
            obtain ⟨tt, htt⟩ : ∃ t, txtOf ws.reverse (.used pp kk) = t := ⟨_, rfl⟩
            have HTT := Lib.hid htt
            clear hout htt
            go_wp2_with (first
              | ((with_reducible refine (why_used M4.out OU.out).mono ?_); rintro e w' ⟨rfl, rfl⟩; skip))
            go_loopw [14, 15] (fun e i wr => ∃ k : Nat, k ≤ nl ∧ i = .int .i64 (k : Int) ∧ ErrIs wr e (ws.take k).reverse (.used pp kk) ∧ RAt gx m' wr ∧ Below U.heap.size U wr) (fun _ i _ => (nl - numOf i).toNat)
            case atStart => exact ⟨0, Nat.zero_le _, rfl, .base (.used pp kk), X4.out, K4.out⟩
            case round =>
              obtain ⟨k, hk, rfl, he, hx, hb⟩ := hrel
              have KR := Lib.hid hb
              have XR := Lib.hid hx
              have ER := Lib.hid he
              clear he hx hb M4 X4 K4
              rcases Nat.lt_or_ge k nl with hlt | hge
              · obtain ⟨bb, off, rfl, hbb, hc⟩ := (HS.out.below KR.out) (by have := HNL.out; omega)
                have hlt' : k < ws.length := by have := HNL.out; omega
                have hcell := hc k ws[k] (List.getElem?_eq_getElem hlt')
                have HRV := Lib.hid (show (ws.take (k + 1)).reverse = ws[k] :: (ws.take k).reverse by rw [List.take_add_one, List.getElem?_eq_getElem hlt', List.reverse_append]; rfl)
                obtain ⟨k1, hk1⟩ : ∃ k1 : Nat, wrap64 ((k : Int) + 1) = (k1 : Int) ∧ k1 = k + 1 := ⟨k + 1, by have := HL.out; unfold wrap64; omega, rfl⟩
                have HK1 := Lib.hid hk1.2
                replace hk1 := hk1.1
                clear hc hbb
                generalize ws[k] = z at *
                go_wp2_with ((with_reducible refine (wrap_any z ER.out).mono ?_); rintro e w5 ⟨v5, rfl, he5, hb⟩; have E5 := Lib.hid he5; have K5 := Lib.hid (KR.out.trans (hb.mono KR.out.size)); have X5 := Lib.hid (XR.out.keep hb); clear he5 hb)
                refine ⟨⟨k1, by have := HK1.out; omega, by first | rw [hk1] | (congr 1; have := HK1.out; omega), by rw [HK1.out, HRV.out]; exact E5.out, X5.out, K5.out⟩, ?_⟩
                try rw [hk1]
                have := HK1.out; simp only [numOf]; omega
              · have HWL := Lib.hid (show ws.reverse.length ≤ 1000 by have := HNL.out; have := H50.out; simp; omega)
                have HWS := Lib.hid (show ∀ s ∈ ws.reverse, s.size ≤ 1000 from fun s hs => HS2.out s (List.mem_reverse.1 hs))
                have HWL2 := Lib.hid (show ws.length ≤ 1000 by have := HNL.out; have := H50.out; omega)
                have E0 := Lib.hid (show ErrIs wr u14 ws.reverse (.used pp kk) by have h1 := ER.out; rwa [show ws.take k = ws by rw [List.take_of_length_le]; have := HNL.out; omega] at h1)
                have HRL := Lib.hid (show ws.reverse.length = nl by rw [List.length_reverse]; exact HNL.out)
                have TX := Lib.hid (fun (w : World) (hT : ErrT w) (hB : Tab w) (he : ErrIs w u14 ws.reverse (.used pp kk)) => text_eq hT hB he POK.out HWL.out HWS.out (text_small POK.out) tt HTT.out)
                have RT0 := fun (w : World) (hx : RAt gx m' w) (hs : StrsAt w A ws) => rtext_any gx m' w hx F'.out O'.out pp kk OU.out BND.out A cap ws hs HWL2.out HS2.out
                rw [HTT.out, HNL.out] at RT0
                have RT := Lib.hid RT0
                have WD0 := words_any (HT.out.keep KR.out) E0.out HWL.out
                unfold WordsPost at WD0
                rw [HRL.out] at WD0
                have WD := Lib.hid WD0
                clear RT0 WD0 ER
                by_cases hn : n = 46
                · subst hn
                  go_wp2_with (first
                    | ((with_reducible refine (WD.out).mono ?_); rintro e w5 ⟨⟨A5, cap5, rfl, hmm, ho⟩, hb⟩; have KW := Lib.hid hb; have K5 := Lib.hid (KR.out.trans (hb.mono KR.out.size)); have O5 := Lib.hid ho; have X5 := Lib.hid (XR.out.keep hb); have E5 := Lib.hid (E0.out.keep hb); clear hmm ho hb)
                    | ((with_reducible refine (part_used (HT.out.keep K5.out) E5.out POK.out).mono ?_); rintro e w6 ⟨rfl, hb⟩; have K6 := Lib.hid (K5.out.trans (hb.mono K5.out.size)); have O6 := Lib.hid (O5.out.keep hb); have X6 := Lib.hid (X5.out.keep hb); have E6 := Lib.hid (E5.out.keep hb); clear hb; have p8 : w6.cell? ⟨gx, 8, none⟩ = some (.string pp) := by rw [cell_of X6.out, part_some OU.out]; rfl)
                    | ((with_reducible refine (TX.out w6 (HT.out.keep K6.out) (HB.out.keep K6.out) E6.out).mono ?_); rintro e w7 ⟨rfl, hb⟩; have K7 := Lib.hid (K6.out.trans (hb.mono K6.out.size)); have O7 := Lib.hid (O6.out.keep hb); have X7 := Lib.hid (X6.out.keep hb); have E7 := Lib.hid (E6.out.keep hb); have S7 := Lib.hid (HS.out.below K7.out); clear hb p8)
                    | ((with_reducible refine (RT.out w7 X7.out S7.out).mono ?_); rintro e w8 ⟨rfl, hb⟩; have K8 := Lib.hid (K7.out.trans (hb.mono K7.out.size)); have O8 := Lib.hid (O7.out.keep hb); have X8 := Lib.hid (X7.out.keep hb); have E8 := Lib.hid (E7.out.keep hb); clear hb; have p8 : w8.cell? ⟨gx, 8, none⟩ = some (.string pp) := by rw [cell_of X8.out, part_some OU.out]; rfl)
                    | ((with_reducible refine (most_any gx m' w8 X8.out O'.out pp kk OU.out).mono ?_); rintro e w' ⟨rfl, rfl⟩; skip)
                    | ((with_reducible refine (isB_some (r := true) rfl E8.out).mono ?_); rintro e w9 ⟨rfl, hb⟩; have K9 := Lib.hid (K8.out.trans (hb.mono K8.out.size)); have O9 := Lib.hid (O8.out.keep hb); have E9 := Lib.hid (E8.out.keep hb); clear hb p8))
                  go_loopw [21] (fun i wr => ∃ k : Nat, k ≤ nl ∧ i = .int .i64 (k : Int) ∧ Below w9.heap.size w9 wr) (fun i _ => (nl - numOf i).toNat)
                  case atStart => exact ⟨0, Nat.zero_le _, rfl, Below.refl _ _⟩
                  case round =>
                    obtain ⟨j, hj, rfl, hb⟩ := hrel
                    have KJ := Lib.hid (K9.out.trans (hb.mono K9.out.size))
                    have OJ := Lib.hid (O9.out.keep hb)
                    have BJ := Lib.hid hb
                    clear hb
                    rcases Nat.lt_or_ge j nl with hlt2 | hge2
                    · obtain ⟨bb, off, rfl, hbb, hc⟩ := (HS.out.below KJ.out) (by have := HNL.out; omega)
                      obtain ⟨i, hi⟩ : ∃ i : Nat, (nl : Int) - 1 - (j : Int) = (i : Int) ∧ i < ws.length ∧ i = ws.length - 1 - j := ⟨ws.length - 1 - j, by have := HNL.out; omega, by have := HNL.out; omega, rfl⟩
                      obtain ⟨i0, hi0⟩ : ∃ i0 : Nat, (nl : Int) - 1 = (i0 : Int) := ⟨nl - 1, by omega⟩
                      have hij : (i0 : Int) - (j : Int) = (i : Int) := by have := hi.1; omega
                      have hil : i < nl := by have := HNL.out; have := hi.2.1; omega
                      have hcell := hc i ws[i] (List.getElem?_eq_getElem hi.2.1)
                      obtain ⟨g5, z, rfl, hz, hcz⟩ := OJ.out.cell (j := j) (by have := HRL.out; omega)
                      have hzz : z = ws[i] := by
                        have h1 := List.getElem?_reverse (l := ws) (i := j) (by have := HNL.out; omega)
                        rw [hz, ← hi.2.2, List.getElem?_eq_getElem hi.2.1] at h1
                        exact Option.some.inj h1
                      rw [hzz] at hcz
                      obtain ⟨k1, hk1⟩ : ∃ k1 : Nat, wrap64 ((j : Int) + 1) = (k1 : Int) ∧ k1 = j + 1 := ⟨j + 1, by have := HL.out; unfold wrap64; omega, rfl⟩
                      have HK1 := Lib.hid hk1.2
                      replace hk1 := hk1.1
                      have HI := Lib.hid hi
                      have hy : IntKind.i64.wrap ((nl : Int) - 1) = (i0 : Int) := by rw [hi0, IntKind.wrap_i64]; have := HL.out; omega
                      have hy2 : IntKind.i64.wrap ((i0 : Int) - (j : Int)) = (i : Int) := by rw [hij, IntKind.wrap_i64]; have := HL.out; omega
                      generalize ws[i] = zz at *
                      clear hc hbb hz hi hzz
                      go_wp2
                      go_region
                      go_wp2
                      refine ⟨⟨k1, by have := HK1.out; omega, by first | rw [hk1] | (congr 1; have := HK1.out; omega), BJ.out.drew⟩, ?_⟩
                      try rw [hk1]
                      have := HK1.out; simp only [numOf]; omega
                    · go_wp2_with ((with_reducible refine (awake_any wr (HT.out.keep KJ.out) (HB.out.keep KJ.out)).mono ?_); rintro e w12 ⟨rfl, hb⟩; have K12 := Lib.hid (KJ.out.trans (hb.mono KJ.out.size)); clear hb)
                      go_ret
                      exact ⟨rfl, K0.out.trans (K12.out.mono K0.out.size)⟩
                · have HN := Lib.hid hn
                  go_wp2_with (first
                    | ((with_reducible refine (WD.out).mono ?_); rintro e w5 ⟨⟨A5, cap5, rfl, hmm, ho⟩, hb⟩; have KW := Lib.hid hb; have K5 := Lib.hid (KR.out.trans (hb.mono KR.out.size)); have O5 := Lib.hid ho; have X5 := Lib.hid (XR.out.keep hb); have E5 := Lib.hid (E0.out.keep hb); clear hmm ho hb)
                    | ((with_reducible refine (part_used (HT.out.keep K5.out) E5.out POK.out).mono ?_); rintro e w6 ⟨rfl, hb⟩; have K6 := Lib.hid (K5.out.trans (hb.mono K5.out.size)); have O6 := Lib.hid (O5.out.keep hb); have X6 := Lib.hid (X5.out.keep hb); have E6 := Lib.hid (E5.out.keep hb); clear hb; have p8 : w6.cell? ⟨gx, 8, none⟩ = some (.string pp) := by rw [cell_of X6.out, part_some OU.out]; rfl)
                    | ((with_reducible refine (TX.out w6 (HT.out.keep K6.out) (HB.out.keep K6.out) E6.out).mono ?_); rintro e w7 ⟨rfl, hb⟩; have K7 := Lib.hid (K6.out.trans (hb.mono K6.out.size)); have O7 := Lib.hid (O6.out.keep hb); have X7 := Lib.hid (X6.out.keep hb); have E7 := Lib.hid (E6.out.keep hb); have S7 := Lib.hid (HS.out.below K7.out); clear hb p8)
                    | ((with_reducible refine (RT.out w7 X7.out S7.out).mono ?_); rintro e w8 ⟨rfl, hb⟩; have K8 := Lib.hid (K7.out.trans (hb.mono K7.out.size)); have O8 := Lib.hid (O7.out.keep hb); have X8 := Lib.hid (X7.out.keep hb); have E8 := Lib.hid (E7.out.keep hb); clear hb; have p8 : w8.cell? ⟨gx, 8, none⟩ = some (.string pp) := by rw [cell_of X8.out, part_some OU.out]; rfl)
                    | ((with_reducible refine (most_any gx m' w8 X8.out O'.out pp kk OU.out).mono ?_); rintro e w' ⟨rfl, rfl⟩; skip)
                    | ((with_reducible refine (isB_some (r := true) rfl E8.out).mono ?_); rintro e w9 ⟨rfl, hb⟩; have K9 := Lib.hid (K8.out.trans (hb.mono K8.out.size)); have O9 := Lib.hid (O8.out.keep hb); have E9 := Lib.hid (E8.out.keep hb); clear hb p8)
                    | ((with_reducible refine (isB_some (r := false) (no_used HN.out) E9.out).mono ?_); rintro e w10 ⟨rfl, hb⟩; have K10 := Lib.hid (K9.out.trans (hb.mono K9.out.size)); have O10 := Lib.hid (O9.out.keep hb); have E10 := Lib.hid (E9.out.keep hb); clear hb))
                  go_loopw [21] (fun i wr => ∃ k : Nat, k ≤ nl ∧ i = .int .i64 (k : Int) ∧ Below w10.heap.size w10 wr) (fun i _ => (nl - numOf i).toNat)
                  case atStart => exact ⟨0, Nat.zero_le _, rfl, Below.refl _ _⟩
                  case round =>
                    obtain ⟨j, hj, rfl, hb⟩ := hrel
                    have KJ := Lib.hid (K10.out.trans (hb.mono K10.out.size))
                    have OJ := Lib.hid (O10.out.keep hb)
                    have BJ := Lib.hid hb
                    clear hb
                    rcases Nat.lt_or_ge j nl with hlt2 | hge2
                    · obtain ⟨bb, off, rfl, hbb, hc⟩ := (HS.out.below KJ.out) (by have := HNL.out; omega)
                      obtain ⟨i, hi⟩ : ∃ i : Nat, (nl : Int) - 1 - (j : Int) = (i : Int) ∧ i < ws.length ∧ i = ws.length - 1 - j := ⟨ws.length - 1 - j, by have := HNL.out; omega, by have := HNL.out; omega, rfl⟩
                      obtain ⟨i0, hi0⟩ : ∃ i0 : Nat, (nl : Int) - 1 = (i0 : Int) := ⟨nl - 1, by omega⟩
                      have hij : (i0 : Int) - (j : Int) = (i : Int) := by have := hi.1; omega
                      have hil : i < nl := by have := HNL.out; have := hi.2.1; omega
                      have hcell := hc i ws[i] (List.getElem?_eq_getElem hi.2.1)
                      obtain ⟨g5, z, rfl, hz, hcz⟩ := OJ.out.cell (j := j) (by have := HRL.out; omega)
                      have hzz : z = ws[i] := by
                        have h1 := List.getElem?_reverse (l := ws) (i := j) (by have := HNL.out; omega)
                        rw [hz, ← hi.2.2, List.getElem?_eq_getElem hi.2.1] at h1
                        exact Option.some.inj h1
                      rw [hzz] at hcz
                      obtain ⟨k1, hk1⟩ : ∃ k1 : Nat, wrap64 ((j : Int) + 1) = (k1 : Int) ∧ k1 = j + 1 := ⟨j + 1, by have := HL.out; unfold wrap64; omega, rfl⟩
                      have HK1 := Lib.hid hk1.2
                      replace hk1 := hk1.1
                      have HI := Lib.hid hi
                      have hy : IntKind.i64.wrap ((nl : Int) - 1) = (i0 : Int) := by rw [hi0, IntKind.wrap_i64]; have := HL.out; omega
                      have hy2 : IntKind.i64.wrap ((i0 : Int) - (j : Int)) = (i : Int) := by rw [hij, IntKind.wrap_i64]; have := HL.out; omega
                      generalize ws[i] = zz at *
                      clear hc hbb hz hi hzz
                      go_wp2
                      go_region
                      go_wp2
                      refine ⟨⟨k1, by have := HK1.out; omega, by first | rw [hk1] | (congr 1; have := HK1.out; omega), BJ.out.drew⟩, ?_⟩
                      try rw [hk1]
                      have := HK1.out; simp only [numOf]; omega
                    · go_wp2_with ((with_reducible refine (awake_any wr (HT.out.keep KJ.out) (HB.out.keep KJ.out)).mono ?_); rintro e w12 ⟨rfl, hb⟩; have K12 := Lib.hid (KJ.out.trans (hb.mono KJ.out.size)); clear hb)
                      go_ret
                      exact ⟨rfl, K0.out.trans (K12.out.mono K0.out.size)⟩
set_option maxRecDepth 100000 in
set_option maxHeartbeats 32000000 in
theorem wraps_w1 (s r l d : Int) (c : Cl) (A : Option Addr) (cap : Nat) (ws : List ByteArray) (n : Int) (w : World) (hT : ErrT w) (hB : Tab w) (ha : AtIs w c.a) (hs : StrsAt w A ws) (hlen : ws.length ≤ 9223372036854775807) (hm : Bmay s r l d) (hw : c.what = 1) :
    Calls Tryz.prog 3 #[.agg #[.int .i64 s, .int .i64 r, .int .i64 l, .int .i64 d], .agg c.cells, .slice A ws.length cap, .int .i64 n] w fun e w' => e = .returned (.bool true) ∧ Below w.heap.size w w' := by
  obtain ⟨what, ⟨kind, P, pc, n1, A1, la, cc1, n2, A2, lm, cc2, ls⟩, nn⟩ := c
  simp only [Cl.cells] at *
  subst hw
  obtain ⟨V, hV⟩ : ∃ V, w.alloc (.cells #[.int .i64 s, .int .i64 r, .int .i64 l, .int .i64 d] 23) = V := ⟨_, rfl⟩
  obtain ⟨W, hW⟩ : ∃ W, V.alloc (.cells #[.int .u8 1, .int .u8 kind, .slice P ls.length pc, .bool n1, .slice A1 la cc1, .bool n2, .slice A2 lm cc2, .int .i64 nn] 33) = W := ⟨_, rfl⟩
  obtain ⟨U, hU⟩ : ∃ U, W.alloc (.cells #[.int .u8 1, .int .u8 kind, .slice P ls.length pc, .bool n1, .slice A1 la cc1, .bool n2, .slice A2 lm cc2, .int .i64 nn] 33) = U := ⟨_, rfl⟩
  have b1 : Below w.heap.size w V := hV ▸ (Below.refl _ w).alloc (Nat.le_refl _) _
  have b2 : Below V.heap.size V W := hW ▸ (Below.refl _ V).alloc (Nat.le_refl _) _
  have b3 : Below W.heap.size W U := hU ▸ (Below.refl _ W).alloc (Nat.le_refl _) _
  have b23 := b2.trans (b3.mono b2.size)
  have K0 := Lib.hid (b1.trans (b23.mono b1.size))
  have xb : V.heap[w.heap.size]? = some (.cells #[.int .i64 s, .int .i64 r, .int .i64 l, .int .i64 d] 23 (0, 0)) := hV ▸ lone_new w _ _
  have xc : W.heap[V.heap.size]? = some (.cells #[.int .u8 1, .int .u8 kind, .slice P ls.length pc, .bool n1, .slice A1 la cc1, .bool n2, .slice A2 lm cc2, .int .i64 nn] 33 (0, 0)) := hW ▸ lone_new V _ _
  have xd : U.heap[W.heap.size]? = some (.cells #[.int .u8 1, .int .u8 kind, .slice P ls.length pc, .bool n1, .slice A1 la cc1, .bool n2, .slice A2 lm cc2, .int .i64 nn] 33 (0, 0)) := hU ▸ lone_new W _ _
  have XB := Lib.hid (heap_at xb b23)
  have XC := Lib.hid (heap_at xc b3)
  have LB := Lib.hid (Array.getElem?_eq_some_iff.1 XB.out).1
  have LC := Lib.hid (Array.getElem?_eq_some_iff.1 XC.out).1
  have c00 : W.cell? ⟨V.heap.size, 0, none⟩ = some (.int .u8 1) := (cell_of xc 0).trans rfl
  have c01 : W.cell? ⟨V.heap.size, 1, none⟩ = some (.int .u8 kind) := (cell_of xc 1).trans rfl
  have c02 : W.cell? ⟨V.heap.size, 2, none⟩ = some (.slice P ls.length pc) := (cell_of xc 2).trans rfl
  have c03 : W.cell? ⟨V.heap.size, 3, none⟩ = some (.bool n1) := (cell_of xc 3).trans rfl
  have c04 : W.cell? ⟨V.heap.size, 4, none⟩ = some (.slice A1 la cc1) := (cell_of xc 4).trans rfl
  have c05 : W.cell? ⟨V.heap.size, 5, none⟩ = some (.bool n2) := (cell_of xc 5).trans rfl
  have c06 : W.cell? ⟨V.heap.size, 6, none⟩ = some (.slice A2 lm cc2) := (cell_of xc 6).trans rfl
  have c07 : W.cell? ⟨V.heap.size, 7, none⟩ = some (.int .i64 nn) := (cell_of xc 7).trans rfl
  have HT := Lib.hid (hT.keep K0.out)
  have HB := Lib.hid (hB.keep K0.out)
  have HA := Lib.hid (ha.below K0.out)
  have HS := Lib.hid (hs.below K0.out)
  have HL := Lib.hid hlen
  have HM := Lib.hid hm
  have c1 := Lib.hid (many_one ⟨1, ⟨kind, P, pc, n1, A1, la, cc1, n2, A2, lm, cc2, ls⟩, nn⟩ W.heap.size U xd HA.out)
  clear hT hB ha hs hlen hm b1 b2 b3 b23 xb xc xd
  go_enter Tryz.func3, Tryz.ntmps3
  generalize hnl : ws.length = nl at *
  have HNL := Lib.hid hnl
  clear hnl
  go_wp2_with fail
  (with_reducible refine c1.out.mono ?_); rintro e w' ⟨b, rfl, rfl⟩
  clear c1 c00 c01 c02 c03 c04 c05 c06 c07
  cases b
  case true =>
    go_wp2_with ((with_reducible refine (awake_any U HT.out HB.out).mono ?_); rintro e w1 ⟨rfl, hb⟩; have K1 := Lib.hid hb; clear hb)
    go_ret
    exact ⟨rfl, K0.out.trans (K1.out.mono K0.out.size)⟩
  case false =>
    by_cases h50 : 50 < nl
    · go_wp2_with ((with_reducible refine (awake_any U HT.out HB.out).mono ?_); rintro e w1 ⟨rfl, hb⟩; have K1 := Lib.hid hb; clear hb)
      go_ret
      exact ⟨rfl, K0.out.trans (K1.out.mono K0.out.size)⟩
    · go_wp2
      have H50 := Lib.hid h50
      clear h50
      go_loopw [9] (fun i wr => ∃ k : Nat, k ≤ nl ∧ i = .int .i64 (k : Int) ∧ (∀ j, j < k → (ws[j]?.getD ⟨#[]⟩).size ≤ 200) ∧ U = wr) (fun i _ => (nl - numOf i).toNat)
      case atStart => exact ⟨0, Nat.zero_le _, rfl, fun j hj => absurd hj (Nat.not_lt_zero _), rfl⟩
      case round =>
        obtain ⟨k, hk, rfl, h200, rfl⟩ := hrel
        have H2 := Lib.hid h200
        clear h200
        rcases Nat.lt_or_ge k nl with hlt | hge
        · obtain ⟨bb, off, rfl, hbb, hc⟩ := HS.out (by have := HNL.out; omega)
          have hlt' : k < ws.length := by have := HNL.out; omega
          have hcell := hc k ws[k] (List.getElem?_eq_getElem hlt')
          have HCE := Lib.hid (show ws[k]?.getD ⟨#[]⟩ = ws[k] by rw [List.getElem?_eq_getElem hlt']; rfl)
          obtain ⟨k1, hk1⟩ : ∃ k1 : Nat, wrap64 ((k : Int) + 1) = (k1 : Int) ∧ k1 = k + 1 := ⟨k + 1, by have := HL.out; unfold wrap64; omega, rfl⟩
          have HK1 := Lib.hid hk1.2
          replace hk1 := hk1.1
          clear hc hbb
          generalize ws[k] = z at *
          obtain ⟨zn, hzn⟩ : ∃ zn, z.size = zn := ⟨_, rfl⟩
          have HZN := Lib.hid hzn
          by_cases hz : 200 < zn
          · clear hk1
            go_wp2_with ((with_reducible refine (awake_any U HT.out HB.out).mono ?_); rintro e w1 ⟨rfl, hb⟩; have K1 := Lib.hid hb; clear hb)
            go_ret
            exact ⟨rfl, K0.out.trans (K1.out.mono K0.out.size)⟩
          · have HZ := Lib.hid hz
            go_wp2
            refine ⟨⟨k1, by have := HK1.out; omega, by first | rw [hk1] | (congr 1; have := HK1.out; omega), fun j hj => ?_, trivial⟩, ?_⟩
            · have := HK1.out
              rcases Nat.lt_or_ge j k with h | h
              · exact H2.out j h
              · obtain rfl : j = k := by omega
                rw [HCE.out, HZN.out]; have := HZ.out; omega
            · try rw [hk1]
              have := HK1.out; simp only [numOf]; omega
        · have HS2 := Lib.hid (nat_str (ws := ws) (k := 0) (fun j hj => H2.out j (by have := HNL.out; omega)))
          clear H2
          have hb0 := ((Below.refl U.heap.size U).block _ LB.out).trans XB.out; have q0 : U.cell? ⟨w.heap.size, 0, none⟩ = some (.int .i64 s) := (cell_of hb0 0).trans rfl; have q1 : U.cell? ⟨w.heap.size, 1, none⟩ = some (.int .i64 r) := (cell_of hb0 1).trans rfl; have q2 : U.cell? ⟨w.heap.size, 2, none⟩ = some (.int .i64 l) := (cell_of hb0 2).trans rfl; have q3 : U.cell? ⟨w.heap.size, 3, none⟩ = some (.int .i64 d) := (cell_of hb0 3).trans rfl; clear hb0
          have HF := Lib.hid (Fine.new HM.out)
          have HO0 := Lib.hid (show OutIs (Mt.new s r l d) from .inl rfl)
          obtain ⟨m0, hm0⟩ : ∃ m, Mt.new s r l d = m := ⟨_, rfl⟩
          have NY := Lib.hid (new_yes s r l d U HM.out)
          have RY := Lib.hid (fun w1 => rnew_yes s r l d w1 HM.out)
          rw [hm0] at HF HO0 NY RY
          clear hm0
          have F' := Lib.hid (HF.out.tell ⟨1, ⟨kind, P, pc, n1, A1, la, cc1, n2, A2, lm, cc2, ls⟩, nn⟩)
          have O' := Lib.hid (HO0.out.tell ⟨1, ⟨kind, P, pc, n1, A1, la, cc1, n2, A2, lm, cc2, ls⟩, nn⟩)
          obtain ⟨m', rr, e1⟩ : ∃ m' rr, m0.tell ⟨1, ⟨kind, P, pc, n1, A1, la, cc1, n2, A2, lm, cc2, ls⟩, nn⟩ = (m', rr) := ⟨_, _, rfl⟩
          rw [e1] at F' O'
          have ET := Lib.hid e1
          have HE := Lib.hid (show m0.rows nn = (m', rr) by rw [← e1]; exact ((if_neg (by simp)).trans (if_pos rfl)).symm)
          simp only at F' O'
          clear e1 HO0 
          go_wp2_with (first
            | ((with_reducible refine (NY.out).mono ?_); rintro e w1 ⟨g, hg, rfl, hm, hb⟩; have HG := Lib.hid hg; have M1 := Lib.hid hm; have K1 := Lib.hid hb; clear hb hg hm; have hb0 := (K1.out.block _ LB.out).trans XB.out; have qa0 : w1.cell? ⟨w.heap.size, 0, none⟩ = some (.int .i64 s) := (cell_of hb0 0).trans rfl; have qa1 : w1.cell? ⟨w.heap.size, 1, none⟩ = some (.int .i64 r) := (cell_of hb0 1).trans rfl; have qa2 : w1.cell? ⟨w.heap.size, 2, none⟩ = some (.int .i64 l) := (cell_of hb0 2).trans rfl; have qa3 : w1.cell? ⟨w.heap.size, 3, none⟩ = some (.int .i64 d) := (cell_of hb0 3).trans rfl; clear hb0; skip)
            | ((with_reducible refine (RY.out w1).mono ?_); rintro e w2 ⟨gx, hg, rfl, hm, hb⟩; have HGX0 := Lib.hid hg; have X2 := Lib.hid hm; have M2 := Lib.hid (M1.out.keep hb); have K2 := Lib.hid (K1.out.trans (hb.mono K1.out.size)); clear hb hg hm; have HGX := Lib.hid (show g ≠ gx from fun e => by have h1 := M1.out.lt; have := HGX0.out; omega); have GXU := Lib.hid (Nat.le_trans K1.out.size HGX0.out); have A2' := Lib.hid (HA.out.below K2.out); have t10 := tell_eq M2.out A2'.out HF.out.1 ET.out; simp only [Cl.cells] at t10; have t1 := Lib.hid t10; clear t10 qa0 qa1 qa2 qa3 q0 q1 q2 q3; have hb0 := (K2.out.block _ LC.out).trans XC.out; have ca0 : w2.cell? ⟨V.heap.size, 0, none⟩ = some (.int .u8 1) := (cell_of hb0 0).trans rfl; have ca1 : w2.cell? ⟨V.heap.size, 1, none⟩ = some (.int .u8 kind) := (cell_of hb0 1).trans rfl; have ca2 : w2.cell? ⟨V.heap.size, 2, none⟩ = some (.slice P ls.length pc) := (cell_of hb0 2).trans rfl; have ca3 : w2.cell? ⟨V.heap.size, 3, none⟩ = some (.bool n1) := (cell_of hb0 3).trans rfl; have ca4 : w2.cell? ⟨V.heap.size, 4, none⟩ = some (.slice A1 la cc1) := (cell_of hb0 4).trans rfl; have ca5 : w2.cell? ⟨V.heap.size, 5, none⟩ = some (.bool n2) := (cell_of hb0 5).trans rfl; have ca6 : w2.cell? ⟨V.heap.size, 6, none⟩ = some (.slice A2 lm cc2) := (cell_of hb0 6).trans rfl; have ca7 : w2.cell? ⟨V.heap.size, 7, none⟩ = some (.int .i64 nn) := (cell_of hb0 7).trans rfl; clear hb0; skip)
            | ((with_reducible refine (t1.out).mono ?_); rintro e w3 ⟨rfl, hm3, hj⟩; have M3 := Lib.hid hm3; have X3 := Lib.hid (show RAt gx m0 w3 from (hj.block gx X2.out.lt HGX.out.symm).trans X2.out); have K3 := Lib.hid (K2.out.trans (hj.below HG.out K2.out.size)); have A3 := Lib.hid (HA.out.below K3.out); clear hm3 hj t1 ca0 ca1 ca2 ca3 ca4 ca5 ca6 ca7; have hb0 := (K3.out.block _ LC.out).trans XC.out; have cb0 : w3.cell? ⟨V.heap.size, 0, none⟩ = some (.int .u8 1) := (cell_of hb0 0).trans rfl; have cb1 : w3.cell? ⟨V.heap.size, 1, none⟩ = some (.int .u8 kind) := (cell_of hb0 1).trans rfl; have cb2 : w3.cell? ⟨V.heap.size, 2, none⟩ = some (.slice P ls.length pc) := (cell_of hb0 2).trans rfl; have cb3 : w3.cell? ⟨V.heap.size, 3, none⟩ = some (.bool n1) := (cell_of hb0 3).trans rfl; have cb4 : w3.cell? ⟨V.heap.size, 4, none⟩ = some (.slice A1 la cc1) := (cell_of hb0 4).trans rfl; have cb5 : w3.cell? ⟨V.heap.size, 5, none⟩ = some (.bool n2) := (cell_of hb0 5).trans rfl; have cb6 : w3.cell? ⟨V.heap.size, 6, none⟩ = some (.slice A2 lm cc2) := (cell_of hb0 6).trans rfl; have cb7 : w3.cell? ⟨V.heap.size, 7, none⟩ = some (.int .i64 nn) := (cell_of hb0 7).trans rfl; clear hb0; have d00 := rrows_eq X3.out HF.out HE.out; (try simp only at d00); have d0 := Lib.hid d00; clear d00)
            | ((with_reducible refine (d0.out).mono ?_); rintro e w4 ⟨rfl, hx4, hj⟩; have X4 := Lib.hid hx4; have M4 := Lib.hid (show MtAt g m' w4 from (hj.block g M3.out.lt HGX.out).trans M3.out); have K4 := Lib.hid (K3.out.trans (hj.below GXU.out K3.out.size)); clear hx4 hj d0 cb0 cb1 cb2 cb3 cb4 cb5 cb6 cb7))
          clear X2 X3 M1 M2 M3 K1 K2 K3 A2' A3 ET HE
          cases hout : m'.out with
          | none =>
            have OU := Lib.hid hout
            clear hout
            go_wp2_with (first
              | ((with_reducible refine (why_none M4.out OU.out).mono ?_); rintro e w' ⟨rfl, rfl⟩; skip))
            go_loopw [14, 15] (fun e i wr => ∃ k : Nat, k ≤ nl ∧ i = .int .i64 (k : Int) ∧ e = .nilIface ∧ w4 = wr) (fun _ i _ => (nl - numOf i).toNat)
            case atStart => exact ⟨0, Nat.zero_le _, rfl, rfl, rfl⟩
            case round =>
              obtain ⟨k, hk, rfl, rfl, rfl⟩ := hrel
              rcases Nat.lt_or_ge k nl with hlt | hge
              · obtain ⟨bb, off, rfl, hbb, hc⟩ := (HS.out.below K4.out) (by have := HNL.out; omega)
                have hlt' : k < ws.length := by have := HNL.out; omega
                have hcell := hc k ws[k] (List.getElem?_eq_getElem hlt')
                obtain ⟨k1, hk1⟩ : ∃ k1 : Nat, wrap64 ((k : Int) + 1) = (k1 : Int) ∧ k1 = k + 1 := ⟨k + 1, by have := HL.out; unfold wrap64; omega, rfl⟩
                have HK1 := Lib.hid hk1.2
                replace hk1 := hk1.1
                clear hc hbb
                generalize ws[k] = z at *
                go_wp2_with ((with_reducible refine (wrap_nil z w4).mono ?_); rintro e w' ⟨rfl, rfl⟩)
                refine ⟨⟨k1, by have := HK1.out; omega, by first | rw [hk1] | (congr 1; have := HK1.out; omega), rfl, trivial⟩, ?_⟩
                try rw [hk1]
                have := HK1.out; simp only [numOf]; omega
              · by_cases hn : n = 46
                · subst hn
                  go_wp2_with (first
                    | ((with_reducible refine (words_nil w4).mono ?_); rintro e w5 ⟨rfl, hb⟩; have K5 := Lib.hid (K4.out.trans (hb.mono K4.out.size)); have X5 := Lib.hid (X4.out.keep hb); clear hb)
                    | ((with_reducible refine (part_nil w5).mono ?_); rintro e w6 ⟨rfl, hb⟩; have K6 := Lib.hid (K5.out.trans (hb.mono K5.out.size)); have X6 := Lib.hid (X5.out.keep hb); clear hb; have p8 : w6.cell? ⟨gx, 8, none⟩ = some (.string ⟨#[]⟩) := by rw [cell_of X6.out, part_none OU.out]; rfl)
                    | ((with_reducible refine (text_nil w6).mono ?_); rintro e w' ⟨rfl, rfl⟩; skip)
                    | ((with_reducible refine (rtext_none gx m' w6 X6.out OU.out _).mono ?_); rintro e w' ⟨rfl, rfl⟩; skip)
                    | ((with_reducible refine (most_none gx m' w6 X6.out OU.out).mono ?_); rintro e w' ⟨rfl, rfl⟩; skip)
                    | ((with_reducible refine (isB_nil 46 (w := w6)).mono ?_); rintro e w7 ⟨rfl, hb⟩; have K7 := Lib.hid (K6.out.trans (hb.mono K6.out.size)); clear hb)
                    | ((with_reducible refine (awake_any w7 (HT.out.keep K7.out) (HB.out.keep K7.out)).mono ?_); rintro e w9 ⟨rfl, hb⟩; have K9 := Lib.hid (K7.out.trans (hb.mono K7.out.size)); clear hb))
                  go_ret
                  exact ⟨rfl, K0.out.trans (K9.out.mono K0.out.size)⟩
                · have hn' := hn
                  go_wp2_with (first
                    | ((with_reducible refine (words_nil w4).mono ?_); rintro e w5 ⟨rfl, hb⟩; have K5 := Lib.hid (K4.out.trans (hb.mono K4.out.size)); have X5 := Lib.hid (X4.out.keep hb); clear hb)
                    | ((with_reducible refine (part_nil w5).mono ?_); rintro e w6 ⟨rfl, hb⟩; have K6 := Lib.hid (K5.out.trans (hb.mono K5.out.size)); have X6 := Lib.hid (X5.out.keep hb); clear hb; have p8 : w6.cell? ⟨gx, 8, none⟩ = some (.string ⟨#[]⟩) := by rw [cell_of X6.out, part_none OU.out]; rfl)
                    | ((with_reducible refine (text_nil w6).mono ?_); rintro e w' ⟨rfl, rfl⟩; skip)
                    | ((with_reducible refine (rtext_none gx m' w6 X6.out OU.out _).mono ?_); rintro e w' ⟨rfl, rfl⟩; skip)
                    | ((with_reducible refine (most_none gx m' w6 X6.out OU.out).mono ?_); rintro e w' ⟨rfl, rfl⟩; skip)
                    | ((with_reducible refine (isB_nil 46 (w := w6)).mono ?_); rintro e w7 ⟨rfl, hb⟩; have K7 := Lib.hid (K6.out.trans (hb.mono K6.out.size)); clear hb)
                    | ((with_reducible refine (isB_nil n (w := w7)).mono ?_); rintro e w8 ⟨rfl, hb⟩; have K8 := Lib.hid (K7.out.trans (hb.mono K7.out.size)); clear hb)
                    | ((with_reducible refine (awake_any w8 (HT.out.keep K8.out) (HB.out.keep K8.out)).mono ?_); rintro e w9 ⟨rfl, hb⟩; have K9 := Lib.hid (K8.out.trans (hb.mono K8.out.size)); clear hb))
                  go_ret
                  exact ⟨rfl, K0.out.trans (K9.out.mono K0.out.size)⟩
          | some x =>
            obtain ⟨pp, kk⟩ := x
            have OU := Lib.hid hout
            have POK := Lib.hid (F'.out.2 pp kk hout)
            have BND := Lib.hid (out_bound O'.out F'.out.1 hout)
            have hpe : pp.toList.isEmpty = false := (F'.out.2 pp kk hout).1
            obtain ⟨tt, htt⟩ : ∃ t, txtOf ws.reverse (.used pp kk) = t := ⟨_, rfl⟩
            have HTT := Lib.hid htt
            clear hout htt
            go_wp2_with (first
              | ((with_reducible refine (why_used M4.out OU.out).mono ?_); rintro e w' ⟨rfl, rfl⟩; skip))
            go_loopw [14, 15] (fun e i wr => ∃ k : Nat, k ≤ nl ∧ i = .int .i64 (k : Int) ∧ ErrIs wr e (ws.take k).reverse (.used pp kk) ∧ RAt gx m' wr ∧ Below U.heap.size U wr) (fun _ i _ => (nl - numOf i).toNat)
            case atStart => exact ⟨0, Nat.zero_le _, rfl, .base (.used pp kk), X4.out, K4.out⟩
            case round =>
              obtain ⟨k, hk, rfl, he, hx, hb⟩ := hrel
              have KR := Lib.hid hb
              have XR := Lib.hid hx
              have ER := Lib.hid he
              clear he hx hb M4 X4 K4
              rcases Nat.lt_or_ge k nl with hlt | hge
              · obtain ⟨bb, off, rfl, hbb, hc⟩ := (HS.out.below KR.out) (by have := HNL.out; omega)
                have hlt' : k < ws.length := by have := HNL.out; omega
                have hcell := hc k ws[k] (List.getElem?_eq_getElem hlt')
                have HRV := Lib.hid (show (ws.take (k + 1)).reverse = ws[k] :: (ws.take k).reverse by rw [List.take_add_one, List.getElem?_eq_getElem hlt', List.reverse_append]; rfl)
                obtain ⟨k1, hk1⟩ : ∃ k1 : Nat, wrap64 ((k : Int) + 1) = (k1 : Int) ∧ k1 = k + 1 := ⟨k + 1, by have := HL.out; unfold wrap64; omega, rfl⟩
                have HK1 := Lib.hid hk1.2
                replace hk1 := hk1.1
                clear hc hbb
                generalize ws[k] = z at *
                go_wp2_with ((with_reducible refine (wrap_any z ER.out).mono ?_); rintro e w5 ⟨v5, rfl, he5, hb⟩; have E5 := Lib.hid he5; have K5 := Lib.hid (KR.out.trans (hb.mono KR.out.size)); have X5 := Lib.hid (XR.out.keep hb); clear he5 hb)
                refine ⟨⟨k1, by have := HK1.out; omega, by first | rw [hk1] | (congr 1; have := HK1.out; omega), by rw [HK1.out, HRV.out]; exact E5.out, X5.out, K5.out⟩, ?_⟩
                try rw [hk1]
                have := HK1.out; simp only [numOf]; omega
              · have HWL := Lib.hid (show ws.reverse.length ≤ 1000 by have := HNL.out; have := H50.out; simp; omega)
                have HWS := Lib.hid (show ∀ s ∈ ws.reverse, s.size ≤ 1000 from fun s hs => HS2.out s (List.mem_reverse.1 hs))
                have HWL2 := Lib.hid (show ws.length ≤ 1000 by have := HNL.out; have := H50.out; omega)
                have E0 := Lib.hid (show ErrIs wr u14 ws.reverse (.used pp kk) by have h1 := ER.out; rwa [show ws.take k = ws by rw [List.take_of_length_le]; have := HNL.out; omega] at h1)
                have HRL := Lib.hid (show ws.reverse.length = nl by rw [List.length_reverse]; exact HNL.out)
                have TX := Lib.hid (fun (w : World) (hT : ErrT w) (hB : Tab w) (he : ErrIs w u14 ws.reverse (.used pp kk)) => text_eq hT hB he POK.out HWL.out HWS.out (text_small POK.out) tt HTT.out)
                have RT0 := fun (w : World) (hx : RAt gx m' w) (hs : StrsAt w A ws) => rtext_any gx m' w hx F'.out O'.out pp kk OU.out BND.out A cap ws hs HWL2.out HS2.out
                rw [HTT.out, HNL.out] at RT0
                have RT := Lib.hid RT0
                have WD0 := words_any (HT.out.keep KR.out) E0.out HWL.out
                unfold WordsPost at WD0
                rw [HRL.out] at WD0
                have WD := Lib.hid WD0
                clear RT0 WD0 ER
                by_cases hn : n = 46
                · subst hn
                  go_wp2_with (first
                    | ((with_reducible refine (WD.out).mono ?_); rintro e w5 ⟨⟨A5, cap5, rfl, hmm, ho⟩, hb⟩; have KW := Lib.hid hb; have K5 := Lib.hid (KR.out.trans (hb.mono KR.out.size)); have O5 := Lib.hid ho; have X5 := Lib.hid (XR.out.keep hb); have E5 := Lib.hid (E0.out.keep hb); clear hmm ho hb)
                    | ((with_reducible refine (part_used (HT.out.keep K5.out) E5.out POK.out).mono ?_); rintro e w6 ⟨rfl, hb⟩; have K6 := Lib.hid (K5.out.trans (hb.mono K5.out.size)); have O6 := Lib.hid (O5.out.keep hb); have X6 := Lib.hid (X5.out.keep hb); have E6 := Lib.hid (E5.out.keep hb); clear hb; have p8 : w6.cell? ⟨gx, 8, none⟩ = some (.string pp) := by rw [cell_of X6.out, part_some OU.out]; rfl)
                    | ((with_reducible refine (TX.out w6 (HT.out.keep K6.out) (HB.out.keep K6.out) E6.out).mono ?_); rintro e w7 ⟨rfl, hb⟩; have K7 := Lib.hid (K6.out.trans (hb.mono K6.out.size)); have O7 := Lib.hid (O6.out.keep hb); have X7 := Lib.hid (X6.out.keep hb); have E7 := Lib.hid (E6.out.keep hb); have S7 := Lib.hid (HS.out.below K7.out); clear hb p8)
                    | ((with_reducible refine (RT.out w7 X7.out S7.out).mono ?_); rintro e w8 ⟨rfl, hb⟩; have K8 := Lib.hid (K7.out.trans (hb.mono K7.out.size)); have O8 := Lib.hid (O7.out.keep hb); have X8 := Lib.hid (X7.out.keep hb); have E8 := Lib.hid (E7.out.keep hb); clear hb; have p8 : w8.cell? ⟨gx, 8, none⟩ = some (.string pp) := by rw [cell_of X8.out, part_some OU.out]; rfl)
                    | ((with_reducible refine (most_any gx m' w8 X8.out O'.out pp kk OU.out).mono ?_); rintro e w' ⟨rfl, rfl⟩; skip)
                    | ((with_reducible refine (isB_some (r := true) rfl E8.out).mono ?_); rintro e w9 ⟨rfl, hb⟩; have K9 := Lib.hid (K8.out.trans (hb.mono K8.out.size)); have O9 := Lib.hid (O8.out.keep hb); have E9 := Lib.hid (E8.out.keep hb); clear hb p8))
                  go_loopw [21] (fun i wr => ∃ k : Nat, k ≤ nl ∧ i = .int .i64 (k : Int) ∧ Below w9.heap.size w9 wr) (fun i _ => (nl - numOf i).toNat)
                  case atStart => exact ⟨0, Nat.zero_le _, rfl, Below.refl _ _⟩
                  case round =>
                    obtain ⟨j, hj, rfl, hb⟩ := hrel
                    have KJ := Lib.hid (K9.out.trans (hb.mono K9.out.size))
                    have OJ := Lib.hid (O9.out.keep hb)
                    have BJ := Lib.hid hb
                    clear hb
                    rcases Nat.lt_or_ge j nl with hlt2 | hge2
                    · obtain ⟨bb, off, rfl, hbb, hc⟩ := (HS.out.below KJ.out) (by have := HNL.out; omega)
                      obtain ⟨i, hi⟩ : ∃ i : Nat, (nl : Int) - 1 - (j : Int) = (i : Int) ∧ i < ws.length ∧ i = ws.length - 1 - j := ⟨ws.length - 1 - j, by have := HNL.out; omega, by have := HNL.out; omega, rfl⟩
                      obtain ⟨i0, hi0⟩ : ∃ i0 : Nat, (nl : Int) - 1 = (i0 : Int) := ⟨nl - 1, by omega⟩
                      have hij : (i0 : Int) - (j : Int) = (i : Int) := by have := hi.1; omega
                      have hil : i < nl := by have := HNL.out; have := hi.2.1; omega
                      have hcell := hc i ws[i] (List.getElem?_eq_getElem hi.2.1)
                      obtain ⟨g5, z, rfl, hz, hcz⟩ := OJ.out.cell (j := j) (by have := HRL.out; omega)
                      have hzz : z = ws[i] := by
                        have h1 := List.getElem?_reverse (l := ws) (i := j) (by have := HNL.out; omega)
                        rw [hz, ← hi.2.2, List.getElem?_eq_getElem hi.2.1] at h1
                        exact Option.some.inj h1
                      rw [hzz] at hcz
                      obtain ⟨k1, hk1⟩ : ∃ k1 : Nat, wrap64 ((j : Int) + 1) = (k1 : Int) ∧ k1 = j + 1 := ⟨j + 1, by have := HL.out; unfold wrap64; omega, rfl⟩
                      have HK1 := Lib.hid hk1.2
                      replace hk1 := hk1.1
                      have HI := Lib.hid hi
                      have hy : IntKind.i64.wrap ((nl : Int) - 1) = (i0 : Int) := by rw [hi0, IntKind.wrap_i64]; have := HL.out; omega
                      have hy2 : IntKind.i64.wrap ((i0 : Int) - (j : Int)) = (i : Int) := by rw [hij, IntKind.wrap_i64]; have := HL.out; omega
                      generalize ws[i] = zz at *
                      clear hc hbb hz hi hzz
                      go_wp2
                      go_region
                      go_wp2
                      refine ⟨⟨k1, by have := HK1.out; omega, by first | rw [hk1] | (congr 1; have := HK1.out; omega), BJ.out.drew⟩, ?_⟩
                      try rw [hk1]
                      have := HK1.out; simp only [numOf]; omega
                    · go_wp2_with ((with_reducible refine (awake_any wr (HT.out.keep KJ.out) (HB.out.keep KJ.out)).mono ?_); rintro e w12 ⟨rfl, hb⟩; have K12 := Lib.hid (KJ.out.trans (hb.mono KJ.out.size)); clear hb)
                      go_ret
                      exact ⟨rfl, K0.out.trans (K12.out.mono K0.out.size)⟩
                · have HN := Lib.hid hn
                  go_wp2_with (first
                    | ((with_reducible refine (WD.out).mono ?_); rintro e w5 ⟨⟨A5, cap5, rfl, hmm, ho⟩, hb⟩; have KW := Lib.hid hb; have K5 := Lib.hid (KR.out.trans (hb.mono KR.out.size)); have O5 := Lib.hid ho; have X5 := Lib.hid (XR.out.keep hb); have E5 := Lib.hid (E0.out.keep hb); clear hmm ho hb)
                    | ((with_reducible refine (part_used (HT.out.keep K5.out) E5.out POK.out).mono ?_); rintro e w6 ⟨rfl, hb⟩; have K6 := Lib.hid (K5.out.trans (hb.mono K5.out.size)); have O6 := Lib.hid (O5.out.keep hb); have X6 := Lib.hid (X5.out.keep hb); have E6 := Lib.hid (E5.out.keep hb); clear hb; have p8 : w6.cell? ⟨gx, 8, none⟩ = some (.string pp) := by rw [cell_of X6.out, part_some OU.out]; rfl)
                    | ((with_reducible refine (TX.out w6 (HT.out.keep K6.out) (HB.out.keep K6.out) E6.out).mono ?_); rintro e w7 ⟨rfl, hb⟩; have K7 := Lib.hid (K6.out.trans (hb.mono K6.out.size)); have O7 := Lib.hid (O6.out.keep hb); have X7 := Lib.hid (X6.out.keep hb); have E7 := Lib.hid (E6.out.keep hb); have S7 := Lib.hid (HS.out.below K7.out); clear hb p8)
                    | ((with_reducible refine (RT.out w7 X7.out S7.out).mono ?_); rintro e w8 ⟨rfl, hb⟩; have K8 := Lib.hid (K7.out.trans (hb.mono K7.out.size)); have O8 := Lib.hid (O7.out.keep hb); have X8 := Lib.hid (X7.out.keep hb); have E8 := Lib.hid (E7.out.keep hb); clear hb; have p8 : w8.cell? ⟨gx, 8, none⟩ = some (.string pp) := by rw [cell_of X8.out, part_some OU.out]; rfl)
                    | ((with_reducible refine (most_any gx m' w8 X8.out O'.out pp kk OU.out).mono ?_); rintro e w' ⟨rfl, rfl⟩; skip)
                    | ((with_reducible refine (isB_some (r := true) rfl E8.out).mono ?_); rintro e w9 ⟨rfl, hb⟩; have K9 := Lib.hid (K8.out.trans (hb.mono K8.out.size)); have O9 := Lib.hid (O8.out.keep hb); have E9 := Lib.hid (E8.out.keep hb); clear hb p8)
                    | ((with_reducible refine (isB_some (r := false) (no_used HN.out) E9.out).mono ?_); rintro e w10 ⟨rfl, hb⟩; have K10 := Lib.hid (K9.out.trans (hb.mono K9.out.size)); have O10 := Lib.hid (O9.out.keep hb); have E10 := Lib.hid (E9.out.keep hb); clear hb))
                  go_loopw [21] (fun i wr => ∃ k : Nat, k ≤ nl ∧ i = .int .i64 (k : Int) ∧ Below w10.heap.size w10 wr) (fun i _ => (nl - numOf i).toNat)
                  case atStart => exact ⟨0, Nat.zero_le _, rfl, Below.refl _ _⟩
                  case round =>
                    obtain ⟨j, hj, rfl, hb⟩ := hrel
                    have KJ := Lib.hid (K10.out.trans (hb.mono K10.out.size))
                    have OJ := Lib.hid (O10.out.keep hb)
                    have BJ := Lib.hid hb
                    clear hb
                    rcases Nat.lt_or_ge j nl with hlt2 | hge2
                    · obtain ⟨bb, off, rfl, hbb, hc⟩ := (HS.out.below KJ.out) (by have := HNL.out; omega)
                      obtain ⟨i, hi⟩ : ∃ i : Nat, (nl : Int) - 1 - (j : Int) = (i : Int) ∧ i < ws.length ∧ i = ws.length - 1 - j := ⟨ws.length - 1 - j, by have := HNL.out; omega, by have := HNL.out; omega, rfl⟩
                      obtain ⟨i0, hi0⟩ : ∃ i0 : Nat, (nl : Int) - 1 = (i0 : Int) := ⟨nl - 1, by omega⟩
                      have hij : (i0 : Int) - (j : Int) = (i : Int) := by have := hi.1; omega
                      have hil : i < nl := by have := HNL.out; have := hi.2.1; omega
                      have hcell := hc i ws[i] (List.getElem?_eq_getElem hi.2.1)
                      obtain ⟨g5, z, rfl, hz, hcz⟩ := OJ.out.cell (j := j) (by have := HRL.out; omega)
                      have hzz : z = ws[i] := by
                        have h1 := List.getElem?_reverse (l := ws) (i := j) (by have := HNL.out; omega)
                        rw [hz, ← hi.2.2, List.getElem?_eq_getElem hi.2.1] at h1
                        exact Option.some.inj h1
                      rw [hzz] at hcz
                      obtain ⟨k1, hk1⟩ : ∃ k1 : Nat, wrap64 ((j : Int) + 1) = (k1 : Int) ∧ k1 = j + 1 := ⟨j + 1, by have := HL.out; unfold wrap64; omega, rfl⟩
                      have HK1 := Lib.hid hk1.2
                      replace hk1 := hk1.1
                      have HI := Lib.hid hi
                      have hy : IntKind.i64.wrap ((nl : Int) - 1) = (i0 : Int) := by rw [hi0, IntKind.wrap_i64]; have := HL.out; omega
                      have hy2 : IntKind.i64.wrap ((i0 : Int) - (j : Int)) = (i : Int) := by rw [hij, IntKind.wrap_i64]; have := HL.out; omega
                      generalize ws[i] = zz at *
                      clear hc hbb hz hi hzz
                      go_wp2
                      go_region
                      go_wp2
                      refine ⟨⟨k1, by have := HK1.out; omega, by first | rw [hk1] | (congr 1; have := HK1.out; omega), BJ.out.drew⟩, ?_⟩
                      try rw [hk1]
                      have := HK1.out; simp only [numOf]; omega
                    · go_wp2_with ((with_reducible refine (awake_any wr (HT.out.keep KJ.out) (HB.out.keep KJ.out)).mono ?_); rintro e w12 ⟨rfl, hb⟩; have K12 := Lib.hid (KJ.out.trans (hb.mono KJ.out.size)); clear hb)
                      go_ret
                      exact ⟨rfl, K0.out.trans (K12.out.mono K0.out.size)⟩
set_option maxRecDepth 100000 in
set_option maxHeartbeats 32000000 in
theorem wraps_w2 (s r l d : Int) (c : Cl) (A : Option Addr) (cap : Nat) (ws : List ByteArray) (n : Int) (w : World) (hT : ErrT w) (hB : Tab w) (ha : AtIs w c.a) (hs : StrsAt w A ws) (hlen : ws.length ≤ 9223372036854775807) (hm : Bmay s r l d) (hw : ¬ c.what = 0) (hw1 : ¬ c.what = 1) :
    Calls Tryz.prog 3 #[.agg #[.int .i64 s, .int .i64 r, .int .i64 l, .int .i64 d], .agg c.cells, .slice A ws.length cap, .int .i64 n] w fun e w' => e = .returned (.bool true) ∧ Below w.heap.size w w' := by
  obtain ⟨what, ⟨kind, P, pc, n1, A1, la, cc1, n2, A2, lm, cc2, ls⟩, nn⟩ := c
  simp only [Cl.cells] at *
  obtain ⟨V, hV⟩ : ∃ V, w.alloc (.cells #[.int .i64 s, .int .i64 r, .int .i64 l, .int .i64 d] 23) = V := ⟨_, rfl⟩
  obtain ⟨W, hW⟩ : ∃ W, V.alloc (.cells #[.int .u8 what, .int .u8 kind, .slice P ls.length pc, .bool n1, .slice A1 la cc1, .bool n2, .slice A2 lm cc2, .int .i64 nn] 33) = W := ⟨_, rfl⟩
  obtain ⟨U, hU⟩ : ∃ U, W.alloc (.cells #[.int .u8 what, .int .u8 kind, .slice P ls.length pc, .bool n1, .slice A1 la cc1, .bool n2, .slice A2 lm cc2, .int .i64 nn] 33) = U := ⟨_, rfl⟩
  have b1 : Below w.heap.size w V := hV ▸ (Below.refl _ w).alloc (Nat.le_refl _) _
  have b2 : Below V.heap.size V W := hW ▸ (Below.refl _ V).alloc (Nat.le_refl _) _
  have b3 : Below W.heap.size W U := hU ▸ (Below.refl _ W).alloc (Nat.le_refl _) _
  have b23 := b2.trans (b3.mono b2.size)
  have K0 := Lib.hid (b1.trans (b23.mono b1.size))
  have xb : V.heap[w.heap.size]? = some (.cells #[.int .i64 s, .int .i64 r, .int .i64 l, .int .i64 d] 23 (0, 0)) := hV ▸ lone_new w _ _
  have xc : W.heap[V.heap.size]? = some (.cells #[.int .u8 what, .int .u8 kind, .slice P ls.length pc, .bool n1, .slice A1 la cc1, .bool n2, .slice A2 lm cc2, .int .i64 nn] 33 (0, 0)) := hW ▸ lone_new V _ _
  have xd : U.heap[W.heap.size]? = some (.cells #[.int .u8 what, .int .u8 kind, .slice P ls.length pc, .bool n1, .slice A1 la cc1, .bool n2, .slice A2 lm cc2, .int .i64 nn] 33 (0, 0)) := hU ▸ lone_new W _ _
  have XB := Lib.hid (heap_at xb b23)
  have XC := Lib.hid (heap_at xc b3)
  have LB := Lib.hid (Array.getElem?_eq_some_iff.1 XB.out).1
  have LC := Lib.hid (Array.getElem?_eq_some_iff.1 XC.out).1
  have c00 : W.cell? ⟨V.heap.size, 0, none⟩ = some (.int .u8 what) := (cell_of xc 0).trans rfl
  have c01 : W.cell? ⟨V.heap.size, 1, none⟩ = some (.int .u8 kind) := (cell_of xc 1).trans rfl
  have c02 : W.cell? ⟨V.heap.size, 2, none⟩ = some (.slice P ls.length pc) := (cell_of xc 2).trans rfl
  have c03 : W.cell? ⟨V.heap.size, 3, none⟩ = some (.bool n1) := (cell_of xc 3).trans rfl
  have c04 : W.cell? ⟨V.heap.size, 4, none⟩ = some (.slice A1 la cc1) := (cell_of xc 4).trans rfl
  have c05 : W.cell? ⟨V.heap.size, 5, none⟩ = some (.bool n2) := (cell_of xc 5).trans rfl
  have c06 : W.cell? ⟨V.heap.size, 6, none⟩ = some (.slice A2 lm cc2) := (cell_of xc 6).trans rfl
  have c07 : W.cell? ⟨V.heap.size, 7, none⟩ = some (.int .i64 nn) := (cell_of xc 7).trans rfl
  have HT := Lib.hid (hT.keep K0.out)
  have HB := Lib.hid (hB.keep K0.out)
  have HA := Lib.hid (ha.below K0.out)
  have HS := Lib.hid (hs.below K0.out)
  have HL := Lib.hid hlen
  have HM := Lib.hid hm
  have c1 := Lib.hid (many_one ⟨what, ⟨kind, P, pc, n1, A1, la, cc1, n2, A2, lm, cc2, ls⟩, nn⟩ W.heap.size U xd HA.out)
  clear hT hB ha hs hlen hm b1 b2 b3 b23 xb xc xd
  go_enter Tryz.func3, Tryz.ntmps3
  generalize hnl : ws.length = nl at *
  have HNL := Lib.hid hnl
  clear hnl
  go_wp2_with fail
  (with_reducible refine c1.out.mono ?_); rintro e w' ⟨b, rfl, rfl⟩
  clear c1 c00 c01 c02 c03 c04 c05 c06 c07
  cases b
  case true =>
    go_wp2_with ((with_reducible refine (awake_any U HT.out HB.out).mono ?_); rintro e w1 ⟨rfl, hb⟩; have K1 := Lib.hid hb; clear hb)
    go_ret
    exact ⟨rfl, K0.out.trans (K1.out.mono K0.out.size)⟩
  case false =>
    by_cases h50 : 50 < nl
    · go_wp2_with ((with_reducible refine (awake_any U HT.out HB.out).mono ?_); rintro e w1 ⟨rfl, hb⟩; have K1 := Lib.hid hb; clear hb)
      go_ret
      exact ⟨rfl, K0.out.trans (K1.out.mono K0.out.size)⟩
    · go_wp2
      have H50 := Lib.hid h50
      clear h50
      go_loopw [9] (fun i wr => ∃ k : Nat, k ≤ nl ∧ i = .int .i64 (k : Int) ∧ (∀ j, j < k → (ws[j]?.getD ⟨#[]⟩).size ≤ 200) ∧ U = wr) (fun i _ => (nl - numOf i).toNat)
      case atStart => exact ⟨0, Nat.zero_le _, rfl, fun j hj => absurd hj (Nat.not_lt_zero _), rfl⟩
      case round =>
        obtain ⟨k, hk, rfl, h200, rfl⟩ := hrel
        have H2 := Lib.hid h200
        clear h200
        rcases Nat.lt_or_ge k nl with hlt | hge
        · obtain ⟨bb, off, rfl, hbb, hc⟩ := HS.out (by have := HNL.out; omega)
          have hlt' : k < ws.length := by have := HNL.out; omega
          have hcell := hc k ws[k] (List.getElem?_eq_getElem hlt')
          have HCE := Lib.hid (show ws[k]?.getD ⟨#[]⟩ = ws[k] by rw [List.getElem?_eq_getElem hlt']; rfl)
          obtain ⟨k1, hk1⟩ : ∃ k1 : Nat, wrap64 ((k : Int) + 1) = (k1 : Int) ∧ k1 = k + 1 := ⟨k + 1, by have := HL.out; unfold wrap64; omega, rfl⟩
          have HK1 := Lib.hid hk1.2
          replace hk1 := hk1.1
          clear hc hbb
          generalize ws[k] = z at *
          obtain ⟨zn, hzn⟩ : ∃ zn, z.size = zn := ⟨_, rfl⟩
          have HZN := Lib.hid hzn
          by_cases hz : 200 < zn
          · clear hk1
            go_wp2_with ((with_reducible refine (awake_any U HT.out HB.out).mono ?_); rintro e w1 ⟨rfl, hb⟩; have K1 := Lib.hid hb; clear hb)
            go_ret
            exact ⟨rfl, K0.out.trans (K1.out.mono K0.out.size)⟩
          · have HZ := Lib.hid hz
            go_wp2
            refine ⟨⟨k1, by have := HK1.out; omega, by first | rw [hk1] | (congr 1; have := HK1.out; omega), fun j hj => ?_, trivial⟩, ?_⟩
            · have := HK1.out
              rcases Nat.lt_or_ge j k with h | h
              · exact H2.out j h
              · obtain rfl : j = k := by omega
                rw [HCE.out, HZN.out]; have := HZ.out; omega
            · try rw [hk1]
              have := HK1.out; simp only [numOf]; omega
        · have HS2 := Lib.hid (nat_str (ws := ws) (k := 0) (fun j hj => H2.out j (by have := HNL.out; omega)))
          clear H2
          have hb0 := ((Below.refl U.heap.size U).block _ LB.out).trans XB.out; have q0 : U.cell? ⟨w.heap.size, 0, none⟩ = some (.int .i64 s) := (cell_of hb0 0).trans rfl; have q1 : U.cell? ⟨w.heap.size, 1, none⟩ = some (.int .i64 r) := (cell_of hb0 1).trans rfl; have q2 : U.cell? ⟨w.heap.size, 2, none⟩ = some (.int .i64 l) := (cell_of hb0 2).trans rfl; have q3 : U.cell? ⟨w.heap.size, 3, none⟩ = some (.int .i64 d) := (cell_of hb0 3).trans rfl; clear hb0
          have HF := Lib.hid (Fine.new HM.out)
          have HO0 := Lib.hid (show OutIs (Mt.new s r l d) from .inl rfl)
          obtain ⟨m0, hm0⟩ : ∃ m, Mt.new s r l d = m := ⟨_, rfl⟩
          have NY := Lib.hid (new_yes s r l d U HM.out)
          have RY := Lib.hid (fun w1 => rnew_yes s r l d w1 HM.out)
          rw [hm0] at HF HO0 NY RY
          clear hm0
          have F' := Lib.hid (HF.out.tell ⟨what, ⟨kind, P, pc, n1, A1, la, cc1, n2, A2, lm, cc2, ls⟩, nn⟩)
          have O' := Lib.hid (HO0.out.tell ⟨what, ⟨kind, P, pc, n1, A1, la, cc1, n2, A2, lm, cc2, ls⟩, nn⟩)
          obtain ⟨m', rr, e1⟩ : ∃ m' rr, m0.tell ⟨what, ⟨kind, P, pc, n1, A1, la, cc1, n2, A2, lm, cc2, ls⟩, nn⟩ = (m', rr) := ⟨_, _, rfl⟩
          rw [e1] at F' O'
          have ET := Lib.hid e1
          have HE := Lib.hid (show m0.deep nn = (m', rr) by rw [← e1]; exact ((if_neg hw).trans (if_neg hw1)).symm)
          simp only at F' O'
          clear e1 HO0 
          go_wp2_with (first
            | ((with_reducible refine (NY.out).mono ?_); rintro e w1 ⟨g, hg, rfl, hm, hb⟩; have HG := Lib.hid hg; have M1 := Lib.hid hm; have K1 := Lib.hid hb; clear hb hg hm; have hb0 := (K1.out.block _ LB.out).trans XB.out; have qa0 : w1.cell? ⟨w.heap.size, 0, none⟩ = some (.int .i64 s) := (cell_of hb0 0).trans rfl; have qa1 : w1.cell? ⟨w.heap.size, 1, none⟩ = some (.int .i64 r) := (cell_of hb0 1).trans rfl; have qa2 : w1.cell? ⟨w.heap.size, 2, none⟩ = some (.int .i64 l) := (cell_of hb0 2).trans rfl; have qa3 : w1.cell? ⟨w.heap.size, 3, none⟩ = some (.int .i64 d) := (cell_of hb0 3).trans rfl; clear hb0; skip)
            | ((with_reducible refine (RY.out w1).mono ?_); rintro e w2 ⟨gx, hg, rfl, hm, hb⟩; have HGX0 := Lib.hid hg; have X2 := Lib.hid hm; have M2 := Lib.hid (M1.out.keep hb); have K2 := Lib.hid (K1.out.trans (hb.mono K1.out.size)); clear hb hg hm; have HGX := Lib.hid (show g ≠ gx from fun e => by have h1 := M1.out.lt; have := HGX0.out; omega); have GXU := Lib.hid (Nat.le_trans K1.out.size HGX0.out); have A2' := Lib.hid (HA.out.below K2.out); have t10 := tell_eq M2.out A2'.out HF.out.1 ET.out; simp only [Cl.cells] at t10; have t1 := Lib.hid t10; clear t10 qa0 qa1 qa2 qa3 q0 q1 q2 q3; have hb0 := (K2.out.block _ LC.out).trans XC.out; have ca0 : w2.cell? ⟨V.heap.size, 0, none⟩ = some (.int .u8 what) := (cell_of hb0 0).trans rfl; have ca1 : w2.cell? ⟨V.heap.size, 1, none⟩ = some (.int .u8 kind) := (cell_of hb0 1).trans rfl; have ca2 : w2.cell? ⟨V.heap.size, 2, none⟩ = some (.slice P ls.length pc) := (cell_of hb0 2).trans rfl; have ca3 : w2.cell? ⟨V.heap.size, 3, none⟩ = some (.bool n1) := (cell_of hb0 3).trans rfl; have ca4 : w2.cell? ⟨V.heap.size, 4, none⟩ = some (.slice A1 la cc1) := (cell_of hb0 4).trans rfl; have ca5 : w2.cell? ⟨V.heap.size, 5, none⟩ = some (.bool n2) := (cell_of hb0 5).trans rfl; have ca6 : w2.cell? ⟨V.heap.size, 6, none⟩ = some (.slice A2 lm cc2) := (cell_of hb0 6).trans rfl; have ca7 : w2.cell? ⟨V.heap.size, 7, none⟩ = some (.int .i64 nn) := (cell_of hb0 7).trans rfl; clear hb0; skip)
            | ((with_reducible refine (t1.out).mono ?_); rintro e w3 ⟨rfl, hm3, hj⟩; have M3 := Lib.hid hm3; have X3 := Lib.hid (show RAt gx m0 w3 from (hj.block gx X2.out.lt HGX.out.symm).trans X2.out); have K3 := Lib.hid (K2.out.trans (hj.below HG.out K2.out.size)); have A3 := Lib.hid (HA.out.below K3.out); clear hm3 hj t1 ca0 ca1 ca2 ca3 ca4 ca5 ca6 ca7; have hb0 := (K3.out.block _ LC.out).trans XC.out; have cb0 : w3.cell? ⟨V.heap.size, 0, none⟩ = some (.int .u8 what) := (cell_of hb0 0).trans rfl; have cb1 : w3.cell? ⟨V.heap.size, 1, none⟩ = some (.int .u8 kind) := (cell_of hb0 1).trans rfl; have cb2 : w3.cell? ⟨V.heap.size, 2, none⟩ = some (.slice P ls.length pc) := (cell_of hb0 2).trans rfl; have cb3 : w3.cell? ⟨V.heap.size, 3, none⟩ = some (.bool n1) := (cell_of hb0 3).trans rfl; have cb4 : w3.cell? ⟨V.heap.size, 4, none⟩ = some (.slice A1 la cc1) := (cell_of hb0 4).trans rfl; have cb5 : w3.cell? ⟨V.heap.size, 5, none⟩ = some (.bool n2) := (cell_of hb0 5).trans rfl; have cb6 : w3.cell? ⟨V.heap.size, 6, none⟩ = some (.slice A2 lm cc2) := (cell_of hb0 6).trans rfl; have cb7 : w3.cell? ⟨V.heap.size, 7, none⟩ = some (.int .i64 nn) := (cell_of hb0 7).trans rfl; clear hb0; have d00 := rdeep_eq X3.out HF.out HE.out; (try simp only at d00); have d0 := Lib.hid d00; clear d00)
            | ((with_reducible refine (d0.out).mono ?_); rintro e w4 ⟨rfl, hx4, hj⟩; have X4 := Lib.hid hx4; have M4 := Lib.hid (show MtAt g m' w4 from (hj.block g M3.out.lt HGX.out).trans M3.out); have K4 := Lib.hid (K3.out.trans (hj.below GXU.out K3.out.size)); clear hx4 hj d0 cb0 cb1 cb2 cb3 cb4 cb5 cb6 cb7))
          clear X2 X3 M1 M2 M3 K1 K2 K3 A2' A3 ET HE
          cases hout : m'.out with
          | none =>
            have OU := Lib.hid hout
            clear hout
            go_wp2_with (first
              | ((with_reducible refine (why_none M4.out OU.out).mono ?_); rintro e w' ⟨rfl, rfl⟩; skip))
            go_loopw [14, 15] (fun e i wr => ∃ k : Nat, k ≤ nl ∧ i = .int .i64 (k : Int) ∧ e = .nilIface ∧ w4 = wr) (fun _ i _ => (nl - numOf i).toNat)
            case atStart => exact ⟨0, Nat.zero_le _, rfl, rfl, rfl⟩
            case round =>
              obtain ⟨k, hk, rfl, rfl, rfl⟩ := hrel
              rcases Nat.lt_or_ge k nl with hlt | hge
              · obtain ⟨bb, off, rfl, hbb, hc⟩ := (HS.out.below K4.out) (by have := HNL.out; omega)
                have hlt' : k < ws.length := by have := HNL.out; omega
                have hcell := hc k ws[k] (List.getElem?_eq_getElem hlt')
                obtain ⟨k1, hk1⟩ : ∃ k1 : Nat, wrap64 ((k : Int) + 1) = (k1 : Int) ∧ k1 = k + 1 := ⟨k + 1, by have := HL.out; unfold wrap64; omega, rfl⟩
                have HK1 := Lib.hid hk1.2
                replace hk1 := hk1.1
                clear hc hbb
                generalize ws[k] = z at *
                go_wp2_with ((with_reducible refine (wrap_nil z w4).mono ?_); rintro e w' ⟨rfl, rfl⟩)
                refine ⟨⟨k1, by have := HK1.out; omega, by first | rw [hk1] | (congr 1; have := HK1.out; omega), rfl, trivial⟩, ?_⟩
                try rw [hk1]
                have := HK1.out; simp only [numOf]; omega
              · by_cases hn : n = 46
                · subst hn
                  go_wp2_with (first
                    | ((with_reducible refine (words_nil w4).mono ?_); rintro e w5 ⟨rfl, hb⟩; have K5 := Lib.hid (K4.out.trans (hb.mono K4.out.size)); have X5 := Lib.hid (X4.out.keep hb); clear hb)
                    | ((with_reducible refine (part_nil w5).mono ?_); rintro e w6 ⟨rfl, hb⟩; have K6 := Lib.hid (K5.out.trans (hb.mono K5.out.size)); have X6 := Lib.hid (X5.out.keep hb); clear hb; have p8 : w6.cell? ⟨gx, 8, none⟩ = some (.string ⟨#[]⟩) := by rw [cell_of X6.out, part_none OU.out]; rfl)
                    | ((with_reducible refine (text_nil w6).mono ?_); rintro e w' ⟨rfl, rfl⟩; skip)
                    | ((with_reducible refine (rtext_none gx m' w6 X6.out OU.out _).mono ?_); rintro e w' ⟨rfl, rfl⟩; skip)
                    | ((with_reducible refine (most_none gx m' w6 X6.out OU.out).mono ?_); rintro e w' ⟨rfl, rfl⟩; skip)
                    | ((with_reducible refine (isB_nil 46 (w := w6)).mono ?_); rintro e w7 ⟨rfl, hb⟩; have K7 := Lib.hid (K6.out.trans (hb.mono K6.out.size)); clear hb)
                    | ((with_reducible refine (awake_any w7 (HT.out.keep K7.out) (HB.out.keep K7.out)).mono ?_); rintro e w9 ⟨rfl, hb⟩; have K9 := Lib.hid (K7.out.trans (hb.mono K7.out.size)); clear hb))
                  go_ret
                  exact ⟨rfl, K0.out.trans (K9.out.mono K0.out.size)⟩
                · have hn' := hn
                  go_wp2_with (first
                    | ((with_reducible refine (words_nil w4).mono ?_); rintro e w5 ⟨rfl, hb⟩; have K5 := Lib.hid (K4.out.trans (hb.mono K4.out.size)); have X5 := Lib.hid (X4.out.keep hb); clear hb)
                    | ((with_reducible refine (part_nil w5).mono ?_); rintro e w6 ⟨rfl, hb⟩; have K6 := Lib.hid (K5.out.trans (hb.mono K5.out.size)); have X6 := Lib.hid (X5.out.keep hb); clear hb; have p8 : w6.cell? ⟨gx, 8, none⟩ = some (.string ⟨#[]⟩) := by rw [cell_of X6.out, part_none OU.out]; rfl)
                    | ((with_reducible refine (text_nil w6).mono ?_); rintro e w' ⟨rfl, rfl⟩; skip)
                    | ((with_reducible refine (rtext_none gx m' w6 X6.out OU.out _).mono ?_); rintro e w' ⟨rfl, rfl⟩; skip)
                    | ((with_reducible refine (most_none gx m' w6 X6.out OU.out).mono ?_); rintro e w' ⟨rfl, rfl⟩; skip)
                    | ((with_reducible refine (isB_nil 46 (w := w6)).mono ?_); rintro e w7 ⟨rfl, hb⟩; have K7 := Lib.hid (K6.out.trans (hb.mono K6.out.size)); clear hb)
                    | ((with_reducible refine (isB_nil n (w := w7)).mono ?_); rintro e w8 ⟨rfl, hb⟩; have K8 := Lib.hid (K7.out.trans (hb.mono K7.out.size)); clear hb)
                    | ((with_reducible refine (awake_any w8 (HT.out.keep K8.out) (HB.out.keep K8.out)).mono ?_); rintro e w9 ⟨rfl, hb⟩; have K9 := Lib.hid (K8.out.trans (hb.mono K8.out.size)); clear hb))
                  go_ret
                  exact ⟨rfl, K0.out.trans (K9.out.mono K0.out.size)⟩
          | some x =>
            obtain ⟨pp, kk⟩ := x
            have OU := Lib.hid hout
            have POK := Lib.hid (F'.out.2 pp kk hout)
            have BND := Lib.hid (out_bound O'.out F'.out.1 hout)
            have hpe : pp.toList.isEmpty = false := (F'.out.2 pp kk hout).1
            obtain ⟨tt, htt⟩ : ∃ t, txtOf ws.reverse (.used pp kk) = t := ⟨_, rfl⟩
            have HTT := Lib.hid htt
            clear hout htt
            go_wp2_with (first
              | ((with_reducible refine (why_used M4.out OU.out).mono ?_); rintro e w' ⟨rfl, rfl⟩; skip))
            go_loopw [14, 15] (fun e i wr => ∃ k : Nat, k ≤ nl ∧ i = .int .i64 (k : Int) ∧ ErrIs wr e (ws.take k).reverse (.used pp kk) ∧ RAt gx m' wr ∧ Below U.heap.size U wr) (fun _ i _ => (nl - numOf i).toNat)
            case atStart => exact ⟨0, Nat.zero_le _, rfl, .base (.used pp kk), X4.out, K4.out⟩
            case round =>
              obtain ⟨k, hk, rfl, he, hx, hb⟩ := hrel
              have KR := Lib.hid hb
              have XR := Lib.hid hx
              have ER := Lib.hid he
              clear he hx hb M4 X4 K4
              rcases Nat.lt_or_ge k nl with hlt | hge
              · obtain ⟨bb, off, rfl, hbb, hc⟩ := (HS.out.below KR.out) (by have := HNL.out; omega)
                have hlt' : k < ws.length := by have := HNL.out; omega
                have hcell := hc k ws[k] (List.getElem?_eq_getElem hlt')
                have HRV := Lib.hid (show (ws.take (k + 1)).reverse = ws[k] :: (ws.take k).reverse by rw [List.take_add_one, List.getElem?_eq_getElem hlt', List.reverse_append]; rfl)
                obtain ⟨k1, hk1⟩ : ∃ k1 : Nat, wrap64 ((k : Int) + 1) = (k1 : Int) ∧ k1 = k + 1 := ⟨k + 1, by have := HL.out; unfold wrap64; omega, rfl⟩
                have HK1 := Lib.hid hk1.2
                replace hk1 := hk1.1
                clear hc hbb
                generalize ws[k] = z at *
                go_wp2_with ((with_reducible refine (wrap_any z ER.out).mono ?_); rintro e w5 ⟨v5, rfl, he5, hb⟩; have E5 := Lib.hid he5; have K5 := Lib.hid (KR.out.trans (hb.mono KR.out.size)); have X5 := Lib.hid (XR.out.keep hb); clear he5 hb)
                refine ⟨⟨k1, by have := HK1.out; omega, by first | rw [hk1] | (congr 1; have := HK1.out; omega), by rw [HK1.out, HRV.out]; exact E5.out, X5.out, K5.out⟩, ?_⟩
                try rw [hk1]
                have := HK1.out; simp only [numOf]; omega
              · have HWL := Lib.hid (show ws.reverse.length ≤ 1000 by have := HNL.out; have := H50.out; simp; omega)
                have HWS := Lib.hid (show ∀ s ∈ ws.reverse, s.size ≤ 1000 from fun s hs => HS2.out s (List.mem_reverse.1 hs))
                have HWL2 := Lib.hid (show ws.length ≤ 1000 by have := HNL.out; have := H50.out; omega)
                have E0 := Lib.hid (show ErrIs wr u14 ws.reverse (.used pp kk) by have h1 := ER.out; rwa [show ws.take k = ws by rw [List.take_of_length_le]; have := HNL.out; omega] at h1)
                have HRL := Lib.hid (show ws.reverse.length = nl by rw [List.length_reverse]; exact HNL.out)
                have TX := Lib.hid (fun (w : World) (hT : ErrT w) (hB : Tab w) (he : ErrIs w u14 ws.reverse (.used pp kk)) => text_eq hT hB he POK.out HWL.out HWS.out (text_small POK.out) tt HTT.out)
                have RT0 := fun (w : World) (hx : RAt gx m' w) (hs : StrsAt w A ws) => rtext_any gx m' w hx F'.out O'.out pp kk OU.out BND.out A cap ws hs HWL2.out HS2.out
                rw [HTT.out, HNL.out] at RT0
                have RT := Lib.hid RT0
                have WD0 := words_any (HT.out.keep KR.out) E0.out HWL.out
                unfold WordsPost at WD0
                rw [HRL.out] at WD0
                have WD := Lib.hid WD0
                clear RT0 WD0 ER
                by_cases hn : n = 46
                · subst hn
                  go_wp2_with (first
                    | ((with_reducible refine (WD.out).mono ?_); rintro e w5 ⟨⟨A5, cap5, rfl, hmm, ho⟩, hb⟩; have KW := Lib.hid hb; have K5 := Lib.hid (KR.out.trans (hb.mono KR.out.size)); have O5 := Lib.hid ho; have X5 := Lib.hid (XR.out.keep hb); have E5 := Lib.hid (E0.out.keep hb); clear hmm ho hb)
                    | ((with_reducible refine (part_used (HT.out.keep K5.out) E5.out POK.out).mono ?_); rintro e w6 ⟨rfl, hb⟩; have K6 := Lib.hid (K5.out.trans (hb.mono K5.out.size)); have O6 := Lib.hid (O5.out.keep hb); have X6 := Lib.hid (X5.out.keep hb); have E6 := Lib.hid (E5.out.keep hb); clear hb; have p8 : w6.cell? ⟨gx, 8, none⟩ = some (.string pp) := by rw [cell_of X6.out, part_some OU.out]; rfl)
                    | ((with_reducible refine (TX.out w6 (HT.out.keep K6.out) (HB.out.keep K6.out) E6.out).mono ?_); rintro e w7 ⟨rfl, hb⟩; have K7 := Lib.hid (K6.out.trans (hb.mono K6.out.size)); have O7 := Lib.hid (O6.out.keep hb); have X7 := Lib.hid (X6.out.keep hb); have E7 := Lib.hid (E6.out.keep hb); have S7 := Lib.hid (HS.out.below K7.out); clear hb p8)
                    | ((with_reducible refine (RT.out w7 X7.out S7.out).mono ?_); rintro e w8 ⟨rfl, hb⟩; have K8 := Lib.hid (K7.out.trans (hb.mono K7.out.size)); have O8 := Lib.hid (O7.out.keep hb); have X8 := Lib.hid (X7.out.keep hb); have E8 := Lib.hid (E7.out.keep hb); clear hb; have p8 : w8.cell? ⟨gx, 8, none⟩ = some (.string pp) := by rw [cell_of X8.out, part_some OU.out]; rfl)
                    | ((with_reducible refine (most_any gx m' w8 X8.out O'.out pp kk OU.out).mono ?_); rintro e w' ⟨rfl, rfl⟩; skip)
                    | ((with_reducible refine (isB_some (r := true) rfl E8.out).mono ?_); rintro e w9 ⟨rfl, hb⟩; have K9 := Lib.hid (K8.out.trans (hb.mono K8.out.size)); have O9 := Lib.hid (O8.out.keep hb); have E9 := Lib.hid (E8.out.keep hb); clear hb p8))
                  go_loopw [21] (fun i wr => ∃ k : Nat, k ≤ nl ∧ i = .int .i64 (k : Int) ∧ Below w9.heap.size w9 wr) (fun i _ => (nl - numOf i).toNat)
                  case atStart => exact ⟨0, Nat.zero_le _, rfl, Below.refl _ _⟩
                  case round =>
                    obtain ⟨j, hj, rfl, hb⟩ := hrel
                    have KJ := Lib.hid (K9.out.trans (hb.mono K9.out.size))
                    have OJ := Lib.hid (O9.out.keep hb)
                    have BJ := Lib.hid hb
                    clear hb
                    rcases Nat.lt_or_ge j nl with hlt2 | hge2
                    · obtain ⟨bb, off, rfl, hbb, hc⟩ := (HS.out.below KJ.out) (by have := HNL.out; omega)
                      obtain ⟨i, hi⟩ : ∃ i : Nat, (nl : Int) - 1 - (j : Int) = (i : Int) ∧ i < ws.length ∧ i = ws.length - 1 - j := ⟨ws.length - 1 - j, by have := HNL.out; omega, by have := HNL.out; omega, rfl⟩
                      obtain ⟨i0, hi0⟩ : ∃ i0 : Nat, (nl : Int) - 1 = (i0 : Int) := ⟨nl - 1, by omega⟩
                      have hij : (i0 : Int) - (j : Int) = (i : Int) := by have := hi.1; omega
                      have hil : i < nl := by have := HNL.out; have := hi.2.1; omega
                      have hcell := hc i ws[i] (List.getElem?_eq_getElem hi.2.1)
                      obtain ⟨g5, z, rfl, hz, hcz⟩ := OJ.out.cell (j := j) (by have := HRL.out; omega)
                      have hzz : z = ws[i] := by
                        have h1 := List.getElem?_reverse (l := ws) (i := j) (by have := HNL.out; omega)
                        rw [hz, ← hi.2.2, List.getElem?_eq_getElem hi.2.1] at h1
                        exact Option.some.inj h1
                      rw [hzz] at hcz
                      obtain ⟨k1, hk1⟩ : ∃ k1 : Nat, wrap64 ((j : Int) + 1) = (k1 : Int) ∧ k1 = j + 1 := ⟨j + 1, by have := HL.out; unfold wrap64; omega, rfl⟩
                      have HK1 := Lib.hid hk1.2
                      replace hk1 := hk1.1
                      have HI := Lib.hid hi
                      have hy : IntKind.i64.wrap ((nl : Int) - 1) = (i0 : Int) := by rw [hi0, IntKind.wrap_i64]; have := HL.out; omega
                      have hy2 : IntKind.i64.wrap ((i0 : Int) - (j : Int)) = (i : Int) := by rw [hij, IntKind.wrap_i64]; have := HL.out; omega
                      generalize ws[i] = zz at *
                      clear hc hbb hz hi hzz
                      go_wp2
                      go_region
                      go_wp2
                      refine ⟨⟨k1, by have := HK1.out; omega, by first | rw [hk1] | (congr 1; have := HK1.out; omega), BJ.out.drew⟩, ?_⟩
                      try rw [hk1]
                      have := HK1.out; simp only [numOf]; omega
                    · go_wp2_with ((with_reducible refine (awake_any wr (HT.out.keep KJ.out) (HB.out.keep KJ.out)).mono ?_); rintro e w12 ⟨rfl, hb⟩; have K12 := Lib.hid (KJ.out.trans (hb.mono KJ.out.size)); clear hb)
                      go_ret
                      exact ⟨rfl, K0.out.trans (K12.out.mono K0.out.size)⟩
                · have HN := Lib.hid hn
                  go_wp2_with (first
                    | ((with_reducible refine (WD.out).mono ?_); rintro e w5 ⟨⟨A5, cap5, rfl, hmm, ho⟩, hb⟩; have KW := Lib.hid hb; have K5 := Lib.hid (KR.out.trans (hb.mono KR.out.size)); have O5 := Lib.hid ho; have X5 := Lib.hid (XR.out.keep hb); have E5 := Lib.hid (E0.out.keep hb); clear hmm ho hb)
                    | ((with_reducible refine (part_used (HT.out.keep K5.out) E5.out POK.out).mono ?_); rintro e w6 ⟨rfl, hb⟩; have K6 := Lib.hid (K5.out.trans (hb.mono K5.out.size)); have O6 := Lib.hid (O5.out.keep hb); have X6 := Lib.hid (X5.out.keep hb); have E6 := Lib.hid (E5.out.keep hb); clear hb; have p8 : w6.cell? ⟨gx, 8, none⟩ = some (.string pp) := by rw [cell_of X6.out, part_some OU.out]; rfl)
                    | ((with_reducible refine (TX.out w6 (HT.out.keep K6.out) (HB.out.keep K6.out) E6.out).mono ?_); rintro e w7 ⟨rfl, hb⟩; have K7 := Lib.hid (K6.out.trans (hb.mono K6.out.size)); have O7 := Lib.hid (O6.out.keep hb); have X7 := Lib.hid (X6.out.keep hb); have E7 := Lib.hid (E6.out.keep hb); have S7 := Lib.hid (HS.out.below K7.out); clear hb p8)
                    | ((with_reducible refine (RT.out w7 X7.out S7.out).mono ?_); rintro e w8 ⟨rfl, hb⟩; have K8 := Lib.hid (K7.out.trans (hb.mono K7.out.size)); have O8 := Lib.hid (O7.out.keep hb); have X8 := Lib.hid (X7.out.keep hb); have E8 := Lib.hid (E7.out.keep hb); clear hb; have p8 : w8.cell? ⟨gx, 8, none⟩ = some (.string pp) := by rw [cell_of X8.out, part_some OU.out]; rfl)
                    | ((with_reducible refine (most_any gx m' w8 X8.out O'.out pp kk OU.out).mono ?_); rintro e w' ⟨rfl, rfl⟩; skip)
                    | ((with_reducible refine (isB_some (r := true) rfl E8.out).mono ?_); rintro e w9 ⟨rfl, hb⟩; have K9 := Lib.hid (K8.out.trans (hb.mono K8.out.size)); have O9 := Lib.hid (O8.out.keep hb); have E9 := Lib.hid (E8.out.keep hb); clear hb p8)
                    | ((with_reducible refine (isB_some (r := false) (no_used HN.out) E9.out).mono ?_); rintro e w10 ⟨rfl, hb⟩; have K10 := Lib.hid (K9.out.trans (hb.mono K9.out.size)); have O10 := Lib.hid (O9.out.keep hb); have E10 := Lib.hid (E9.out.keep hb); clear hb))
                  go_loopw [21] (fun i wr => ∃ k : Nat, k ≤ nl ∧ i = .int .i64 (k : Int) ∧ Below w10.heap.size w10 wr) (fun i _ => (nl - numOf i).toNat)
                  case atStart => exact ⟨0, Nat.zero_le _, rfl, Below.refl _ _⟩
                  case round =>
                    obtain ⟨j, hj, rfl, hb⟩ := hrel
                    have KJ := Lib.hid (K10.out.trans (hb.mono K10.out.size))
                    have OJ := Lib.hid (O10.out.keep hb)
                    have BJ := Lib.hid hb
                    clear hb
                    rcases Nat.lt_or_ge j nl with hlt2 | hge2
                    · obtain ⟨bb, off, rfl, hbb, hc⟩ := (HS.out.below KJ.out) (by have := HNL.out; omega)
                      obtain ⟨i, hi⟩ : ∃ i : Nat, (nl : Int) - 1 - (j : Int) = (i : Int) ∧ i < ws.length ∧ i = ws.length - 1 - j := ⟨ws.length - 1 - j, by have := HNL.out; omega, by have := HNL.out; omega, rfl⟩
                      obtain ⟨i0, hi0⟩ : ∃ i0 : Nat, (nl : Int) - 1 = (i0 : Int) := ⟨nl - 1, by omega⟩
                      have hij : (i0 : Int) - (j : Int) = (i : Int) := by have := hi.1; omega
                      have hil : i < nl := by have := HNL.out; have := hi.2.1; omega
                      have hcell := hc i ws[i] (List.getElem?_eq_getElem hi.2.1)
                      obtain ⟨g5, z, rfl, hz, hcz⟩ := OJ.out.cell (j := j) (by have := HRL.out; omega)
                      have hzz : z = ws[i] := by
                        have h1 := List.getElem?_reverse (l := ws) (i := j) (by have := HNL.out; omega)
                        rw [hz, ← hi.2.2, List.getElem?_eq_getElem hi.2.1] at h1
                        exact Option.some.inj h1
                      rw [hzz] at hcz
                      obtain ⟨k1, hk1⟩ : ∃ k1 : Nat, wrap64 ((j : Int) + 1) = (k1 : Int) ∧ k1 = j + 1 := ⟨j + 1, by have := HL.out; unfold wrap64; omega, rfl⟩
                      have HK1 := Lib.hid hk1.2
                      replace hk1 := hk1.1
                      have HI := Lib.hid hi
                      have hy : IntKind.i64.wrap ((nl : Int) - 1) = (i0 : Int) := by rw [hi0, IntKind.wrap_i64]; have := HL.out; omega
                      have hy2 : IntKind.i64.wrap ((i0 : Int) - (j : Int)) = (i : Int) := by rw [hij, IntKind.wrap_i64]; have := HL.out; omega
                      generalize ws[i] = zz at *
                      clear hc hbb hz hi hzz
                      go_wp2
                      go_region
                      go_wp2
                      refine ⟨⟨k1, by have := HK1.out; omega, by first | rw [hk1] | (congr 1; have := HK1.out; omega), BJ.out.drew⟩, ?_⟩
                      try rw [hk1]
                      have := HK1.out; simp only [numOf]; omega
                    · go_wp2_with ((with_reducible refine (awake_any wr (HT.out.keep KJ.out) (HB.out.keep KJ.out)).mono ?_); rintro e w12 ⟨rfl, hb⟩; have K12 := Lib.hid (KJ.out.trans (hb.mono KJ.out.size)); clear hb)
                      go_ret
                      exact ⟨rfl, K0.out.trans (K12.out.mono K0.out.size)⟩
theorem wraps_law (s r l d : Int) (c : Cl) (A : Option Addr) (cap : Nat) (ws : List ByteArray) (n : Int) (w : World) (hT : ErrT w) (hB : Tab w) (ha : AtIs w c.a) (hs : StrsAt w A ws) (hlen : ws.length ≤ 9223372036854775807) :
    Calls Tryz.prog 3 #[.agg #[.int .i64 s, .int .i64 r, .int .i64 l, .int .i64 d], .agg c.cells, .slice A ws.length cap, .int .i64 n] w fun e w' => e = .returned (.bool true) ∧ Below w.heap.size w w' := by
  by_cases hm : Bmay s r l d
  · by_cases h0 : c.what = 0
    · exact wraps_w0 s r l d c A cap ws n w hT hB ha hs hlen hm h0
    · by_cases h1 : c.what = 1
      · exact wraps_w1 s r l d c A cap ws n w hT hB ha hs hlen hm h1
      · exact wraps_w2 s r l d c A cap ws n w hT hB ha hs hlen hm h0 h1
  · exact wraps_no s r l d c A cap ws n w hT hB ha hs hlen hm
end Go.Proofs.YtdkdgijcoialbaaGreatDoor

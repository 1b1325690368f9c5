/- Atoms in memory: the longest of their numbers; Pay. -/
import Derived.Test.YtdkdgijcoialbaaGreatDoorBudH
import Derived.LoopN
namespace Go.Proofs.YtdkdgijcoialbaaGreatDoor
open Go.RowKit

set_option linter.unusedVariables false
set_option linter.unusedSimpArgs false

structure At where
  kind : Int
  P : Option Addr
  pc : Nat
  n1 : Bool
  A1 : Option Addr
  (la c1 : Nat)
  n2 : Bool
  A2 : Option Addr
  (lm c2 : Nat)
  ls : List Nat
def At.cells (a : At) : Array Value := #[.int .u8 a.kind, .slice a.P a.ls.length a.pc, .bool a.n1, .slice a.A1 a.la a.c1, .bool a.n2, .slice a.A2 a.lm a.c2]
def PartsAt (w : World) (B : Nat) (P : Option Addr) (ls : List Nat) : Prop :=
  (∀ j : Nat, ls[j]?.getD 0 ≤ 9223372036854775807) ∧ (0 < ls.length → ∃ b off, P = some ⟨b, off, none⟩ ∧ b < B ∧ ∀ j, j < ls.length → ∃ v n A c, w.cell? ⟨b, off + j * 3, none⟩ = some (.int .i64 v) ∧ w.cell? ⟨b, off + j * 3 + 1, none⟩ = some (.bool n) ∧ w.cell? ⟨b, off + j * 3 + 2, none⟩ = some (.slice A (ls[j]?.getD 0) c))
theorem PartsAt.below {w w' : World} {B B' : Nat} {P : Option Addr} {ls : List Nat} (h : PartsAt w B P ls) (hb : Below B' w w') (hB : B ≤ B') : PartsAt w' B P ls :=
  ⟨h.1, fun hn => by
    obtain ⟨b, off, e, hlt, hc⟩ := h.2 hn
    refine ⟨b, off, e, hlt, fun j hj => ?_⟩
    obtain ⟨v, n, A, c, h1, h2, h3⟩ := hc j hj
    exact ⟨v, n, A, c, (hb.cell (p := ⟨b, _, none⟩) (by simp; omega)).trans h1, (hb.cell (p := ⟨b, _, none⟩) (by simp; omega)).trans h2, (hb.cell (p := ⟨b, _, none⟩) (by simp; omega)).trans h3⟩⟩
def top (ls : List Nat) (n : Nat) : Nat := ls.foldl max n
theorem top_take (ls : List Nat) (n k : Nat) (hk : k < ls.length) : top (ls.take (k + 1)) n = max (top (ls.take k) n) (ls[k]?.getD 0) := by
  unfold top
  rw [List.take_add_one, List.foldl_append, List.getElem?_eq_getElem hk]
  rfl
def At.most (a : At) : Nat := top a.ls (max a.la a.lm)
def numOf : Value → Int
  | .int _ n => n
  | _ => 0

set_option maxRecDepth 100000 in
set_option maxHeartbeats 4000000 in
theorem longest_any (a : At) (w : World) (hp : PartsAt w w.heap.size a.P a.ls) (hl : a.ls.length ≤ 9223372036854775807) :
    Calls Tryz.prog 40 #[.agg a.cells] w fun e w' => e = .returned (.int .i64 (a.most : Int)) ∧ Below w.heap.size w w' := by
  obtain ⟨kind, P, pc, n1, A1, la, c1, n2, A2, lm, c2, ls⟩ := a
  simp only [At.cells, At.most] at *
  obtain ⟨m0, hm0⟩ : ∃ m, m = max la lm := ⟨_, rfl⟩
  rw [← hm0]
  have HP := Lib.hid hp
  have HL := Lib.hid hl
  have HM := Lib.hid hm0
  clear hp hl hm0
  go_enter Tryz.func40, Tryz.ntmps40
  go_wp2
  all_goals
    have hmm : (m0 = la ∧ lm ≤ la) ∨ (m0 = lm ∧ la < lm) := by have := HM.out; omega
    have HMM := Lib.hid hmm
    clear hmm HM
    go_loopw [3, 20] (fun m i wr => ∃ k : Nat, k ≤ ls.length ∧ m = .int .i64 ((top (ls.take k) m0 : Nat) : Int) ∧ i = .int .i64 (k : Int) ∧ Below w.heap.size w wr) (fun _ i _ => (ls.length - numOf i).toNat)
    case atStart => exact ⟨0, Nat.zero_le _, by have := HMM.out; simp [top]; omega, rfl, ((Below.refl _ w).alloc (Nat.le_refl _) _)⟩
    case round =>
      obtain ⟨k, hk, rfl, rfl, hB⟩ := hrel
      rcases Nat.lt_or_ge k ls.length with hlt | hge
      · obtain ⟨b, off, rfl, hb, hc⟩ := HP.out.2 (by omega)
        obtain ⟨v, n, A, c, d0, d1, d2⟩ := hc k hlt
        have e0 := (hB.cell (p := ⟨b, _, none⟩) hb).trans d0
        have e1 := (hB.cell (p := ⟨b, _, none⟩) hb).trans d1
        have e2 := (hB.cell (p := ⟨b, _, none⟩) hb).trans d2
        have ht := Lib.hid (top_take ls m0 k hlt)
        have hx := HP.out.1 k
        have HB := Lib.hid hB
        clear d0 d1 d2 hc hB
        generalize ls[k]?.getD 0 = x at *
        generalize top (ls.take k) m0 = y at *
        generalize hnl : ls.length = nl at *
        have hkb : (k : Int) + 1 ≤ 9223372036854775807 := by have := HL.out; omega
        go_wp2
        refine ⟨⟨k + 1, by omega, ?_, by simp, (HB.out).alloc HB.out.size _⟩, ?_⟩
        · rw [ht.out]
          congr 1
          by_cases hyx : y < x
          · rw [if_pos hyx]; omega
          · rw [if_neg hyx]; omega
        · simp only [numOf]; omega
      · have he : k = ls.length := by omega
        have HB := Lib.hid hB
        have HT : Hid (ls.take k = ls) := Lib.hid (by rw [he, List.take_length])
        clear hB
        go_wp2
        go_ret
        rw [HT.out]
        exact ⟨rfl, HB.out⟩

def At.val (a : At) : Value := .agg a.cells
def AtIs (w : World) (a : At) : Prop := PartsAt w w.heap.size a.P a.ls ∧ a.ls.length ≤ 9223372036854775807 ∧ a.most ≤ 9223372036854775807
theorem AtIs.below {w w' : World} {a : At} (h : AtIs w a) (hb : Below w.heap.size w w') : AtIs w' a := ⟨by
  have h1 := h.1.below hb (Nat.le_refl _)
  exact ⟨h1.1, fun hn => by obtain ⟨b, off, e, hlt, r⟩ := h1.2 hn; exact ⟨b, off, e, Nat.lt_of_lt_of_le hlt hb.size, r⟩⟩, h.2⟩
set_option maxRecDepth 100000 in
set_option maxHeartbeats 4000000 in
theorem pay_gone (g : Nat) (m : Mt) (a : At) (w : World) (h : MtAt g m w) (x : ByteArray × Int) (h0 : m.out = some x) :
    Calls Tryz.prog 20 #[.pointer (some ⟨g, 0, none⟩), .agg a.cells] w (Paid g m 46 w) := by
  obtain ⟨kind, P, pc, n1, A1, la, c1, n2, A2, lm, c2, ls⟩ := a
  simp only [At.cells] at *
  go_enter Tryz.func20, Tryz.ntmps20
  obtain ⟨W, hW⟩ : ∃ W, w.alloc (.cells #[.int .u8 kind, .slice P ls.length pc, .bool n1, .slice A1 la c1, .bool n2, .slice A2 lm c2] 31) = W := ⟨_, rfl⟩
  have hB : Below w.heap.size w W := hW ▸ (Below.refl _ w).alloc (Nat.le_refl _) _
  have c := Lib.hid (over_gone g m W (h.keep hB) x h0)
  have H := Lib.hid (h.keep hB)
  have HB := Lib.hid hB
  clear h hB h0
  go_wp2_with ((with_reducible refine c.out.mono ?_); rintro e w1 ⟨rfl, rfl⟩)
  go_ret
  exact ⟨rfl, H.out, Just.of HB.out⟩
set_option maxRecDepth 100000 in
set_option maxHeartbeats 4000000 in
theorem pay_steps (g : Nat) (m : Mt) (a : At) (w : World) (h : MtAt g m w) (h0 : m.out = none) (hs : m.ss = m.bs) :
    Calls Tryz.prog 20 #[.pointer (some ⟨g, 0, none⟩), .agg a.cells] w (Paid g { m with out := some (sName, m.bs) } 46 w) := by
  obtain ⟨kind, P, pc, n1, A1, la, c1, n2, A2, lm, c2, ls⟩ := a
  simp only [At.cells] at *
  go_enter Tryz.func20, Tryz.ntmps20
  obtain ⟨W, hW⟩ : ∃ W, w.alloc (.cells #[.int .u8 kind, .slice P ls.length pc, .bool n1, .slice A1 la c1, .bool n2, .slice A2 lm c2] 31) = W := ⟨_, rfl⟩
  have hB : Below w.heap.size w W := hW ▸ (Below.refl _ w).alloc (Nat.le_refl _) _
  have hm := h.keep hB
  have c := Lib.hid (over_free g m W hm h0)
  have d := Lib.hid (end_any g m sName m.bs W.drew hm)
  have HB := Lib.hid hB
  have c0 : W.cell? ⟨g, 0, none⟩ = some (.int .i64 m.bs) := by rw [cell_of hm]; rfl
  have c4 : W.cell? ⟨g, 4, none⟩ = some (.int .i64 m.bs) := by rw [cell_of hm, ← hs]; rfl
  clear h hB h0 hm hs
  generalize { m with out := some (sName, m.bs) } = m' at *
  generalize m.bs = B at *
  go_wp2_with ((with_reducible refine c.out.mono ?_); rintro e w1 ⟨rfl, rfl⟩)
  go_region
  go_wp2_with ((with_reducible refine d.out.mono ?_); rintro e w1 ⟨rfl, hm1, hj⟩)
  go_ret
  exact ⟨rfl, hm1, (Just.of HB.out.drew).trans hj⟩
set_option maxRecDepth 100000 in
set_option maxHeartbeats 4000000 in
theorem pay_over (g : Nat) (m : Mt) (a : At) (w : World) (h : MtAt g m w) (ha : AtIs w a) (n : Nat) (hn : a.most = n) (h0 : m.out = none) (hs : ¬ m.ss = m.bs) (hl : m.bl < (n : Int)) :
    Calls Tryz.prog 20 #[.pointer (some ⟨g, 0, none⟩), .agg a.cells] w (Paid g { m with out := some (lName, m.bl) } 46 w) := by
  obtain ⟨kind, P, pc, n1, A1, la, c1, n2, A2, lm, c2, ls⟩ := a
  obtain ⟨W, hW⟩ : ∃ W, w.alloc (.cells #[.int .u8 kind, .slice P ls.length pc, .bool n1, .slice A1 la c1, .bool n2, .slice A2 lm c2] 31) = W := ⟨_, rfl⟩
  have hB : Below w.heap.size w W := hW ▸ (Below.refl _ w).alloc (Nat.le_refl _) _
  have hx : W.heap[w.heap.size]? = some (.cells #[.int .u8 kind, .slice P ls.length pc, .bool n1, .slice A1 la c1, .bool n2, .slice A2 lm c2] 31 (0, 0)) := hW ▸ lone_new w _ _
  have hm := h.keep hB
  have c := Lib.hid (over_free g m W hm h0)
  have b0 : W.cell? ⟨g, 0, none⟩ = some (.int .i64 m.bs) := by rw [cell_of hm]; rfl
  have b2 : W.cell? ⟨g, 2, none⟩ = some (.int .i64 m.bl) := by rw [cell_of hm]; rfl
  have b4 : W.cell? ⟨g, 4, none⟩ = some (.int .i64 m.ss) := by rw [cell_of hm]; rfl
  have x0 : W.cell? ⟨w.heap.size, 0, none⟩ = some (.int .u8 kind) := by rw [cell_of hx]; rfl
  have x1 : W.cell? ⟨w.heap.size, 1, none⟩ = some (.slice P ls.length pc) := by rw [cell_of hx]; rfl
  have x2 : W.cell? ⟨w.heap.size, 2, none⟩ = some (.bool n1) := by rw [cell_of hx]; rfl
  have x3 : W.cell? ⟨w.heap.size, 3, none⟩ = some (.slice A1 la c1) := by rw [cell_of hx]; rfl
  have x4 : W.cell? ⟨w.heap.size, 4, none⟩ = some (.bool n2) := by rw [cell_of hx]; rfl
  have x5 : W.cell? ⟨w.heap.size, 5, none⟩ = some (.slice A2 lm c2) := by rw [cell_of hx]; rfl
  have l0 := longest_any _ W.drew.drew (ha.below hB).1 ha.2.1
  rw [hn] at l0
  simp only [At.cells] at *
  have HN : Hid (n ≤ 9223372036854775807) := Lib.hid (hn ▸ ha.2.2)
  have L := Lib.hid l0
  have HB := Lib.hid hB
  have HM : Hid (MtAt g m W.drew.drew) := Lib.hid hm
  have HL := Lib.hid hl
  go_enter Tryz.func20, Tryz.ntmps20
  clear l0 h hB h0 hx hm hn ha hl
  go_wp2_with ((with_reducible refine c.out.mono ?_); rintro e w1 ⟨rfl, rfl⟩)
  go_region
  go_wp2
  go_region_with (first
    | (go_at_call 40; (with_reducible refine L.out.mono ?_); rintro e w1 ⟨rfl, hb1⟩; have hm1 := HM.out.keep (w' := w1) hb1; have y0 : w1.cell? ⟨g, 2, none⟩ = some (.int .i64 m.bl) := (cell_of hm1 2).trans rfl)
    | (go_at_call 39; (with_reducible refine (told_over g 6 m lName n m.bl w1 hm1 HL.out).mono ?_); rintro e w2 ⟨rfl, hm2, hj2⟩))
  all_goals
    go_wp2
    go_ret
    exact ⟨rfl, hm2, (Just.of (HB.out.drew.drew.trans (hb1.mono HB.out.size))).trans hj2⟩
set_option maxRecDepth 100000 in
set_option maxHeartbeats 4000000 in
theorem pay_in (g : Nat) (m : Mt) (a : At) (w : World) (h : MtAt g m w) (ha : AtIs w a) (n : Nat) (hn : a.most = n) (h0 : m.out = none) (hs : ¬ m.ss = m.bs) (hl : (n : Int) ≤ m.bl) (hz : m.ss + 1 ≤ 9223372036854775807) (hz0 : 0 ≤ m.ss) :
    Calls Tryz.prog 20 #[.pointer (some ⟨g, 0, none⟩), .agg a.cells] w (Paid g { m with ss := m.ss + 1, sl := max m.sl n } 0 w) := by
  obtain ⟨kind, P, pc, n1, A1, la, c1, n2, A2, lm, c2, ls⟩ := a
  obtain ⟨W, hW⟩ : ∃ W, w.alloc (.cells #[.int .u8 kind, .slice P ls.length pc, .bool n1, .slice A1 la c1, .bool n2, .slice A2 lm c2] 31) = W := ⟨_, rfl⟩
  have hB : Below w.heap.size w W := hW ▸ (Below.refl _ w).alloc (Nat.le_refl _) _
  have hx : W.heap[w.heap.size]? = some (.cells #[.int .u8 kind, .slice P ls.length pc, .bool n1, .slice A1 la c1, .bool n2, .slice A2 lm c2] 31 (0, 0)) := hW ▸ lone_new w _ _
  have hm := h.keep hB
  have c := Lib.hid (over_free g m W hm h0)
  have b0 : W.cell? ⟨g, 0, none⟩ = some (.int .i64 m.bs) := by rw [cell_of hm]; rfl
  have b2 : W.cell? ⟨g, 2, none⟩ = some (.int .i64 m.bl) := by rw [cell_of hm]; rfl
  have b4 : W.cell? ⟨g, 4, none⟩ = some (.int .i64 m.ss) := by rw [cell_of hm]; rfl
  have x0 : W.cell? ⟨w.heap.size, 0, none⟩ = some (.int .u8 kind) := by rw [cell_of hx]; rfl
  have x1 : W.cell? ⟨w.heap.size, 1, none⟩ = some (.slice P ls.length pc) := by rw [cell_of hx]; rfl
  have x2 : W.cell? ⟨w.heap.size, 2, none⟩ = some (.bool n1) := by rw [cell_of hx]; rfl
  have x3 : W.cell? ⟨w.heap.size, 3, none⟩ = some (.slice A1 la c1) := by rw [cell_of hx]; rfl
  have x4 : W.cell? ⟨w.heap.size, 4, none⟩ = some (.bool n2) := by rw [cell_of hx]; rfl
  have x5 : W.cell? ⟨w.heap.size, 5, none⟩ = some (.slice A2 lm c2) := by rw [cell_of hx]; rfl
  have l0 := longest_any _ W.drew.drew (ha.below hB).1 ha.2.1
  rw [hn] at l0
  simp only [At.cells] at *
  have HN : Hid (n ≤ 9223372036854775807) := Lib.hid (hn ▸ ha.2.2)
  have L := Lib.hid l0
  have HB := Lib.hid hB
  have HM : Hid (MtAt g m W.drew.drew) := Lib.hid hm
  have HL := Lib.hid hl
  go_enter Tryz.func20, Tryz.ntmps20
  clear l0 h hB h0 hx hm hn ha hl
  go_wp2_with ((with_reducible refine c.out.mono ?_); rintro e w1 ⟨rfl, rfl⟩)
  go_region
  go_wp2
  go_region_with (first
    | (go_at_call 40; (with_reducible refine L.out.mono ?_); rintro e w1 ⟨rfl, hb1⟩; have hm1 := HM.out.keep (w' := w1) hb1; have y0 : w1.cell? ⟨g, 2, none⟩ = some (.int .i64 m.bl) := (cell_of hm1 2).trans rfl)
    | (go_at_call 39; (with_reducible refine (told_in g 6 m lName n m.bl m.sl w1 hm1 rfl { m with sl := max m.sl n } rfl HL.out).mono ?_); rintro e w2 ⟨rfl, hm2, hj2⟩))
  all_goals
    have z4 : w2.cell? ⟨g, 4, none⟩ = some (.int .i64 m.ss) := (cell_of hm2 4).trans rfl
    have fz := frozen_of hm2 4
    go_wp2
    go_ret
    exact ⟨rfl, hm2.set _ rfl, ((Just.of (HB.out.drew.drew.trans (hb1.mono HB.out.size))).trans hj2).trans (Just.set _ _ _ _)⟩
end Go.Proofs.YtdkdgijcoialbaaGreatDoor

/- The reference's meter. -/
import Derived.Test.YtdkdgijcoialbaaGreatDoorBudW
import Derived.Test.YtdkdgijcoialbaaGreatDoorBudP
import Derived.BigQuiet
namespace Go.Proofs.YtdkdgijcoialbaaGreatDoor
open Go.RowKit

set_option linter.unusedVariables false
set_option linter.unusedSimpArgs false

def Mt.part (m : Mt) : ByteArray := match m.out with
  | none => ⟨#[]⟩
  | some x => x.1
def RAt (g : Nat) (m : Mt) (w : World) : Prop := w.heap[g]? = some (.cells #[.int .i64 m.bs, .int .i64 m.br, .int .i64 m.bl, .int .i64 m.bd, .int .i64 m.ss, .int .i64 m.sr, .int .i64 m.sl, .int .i64 m.sd, .string m.part] 56 (0, 0))
theorem RAt.keep {g : Nat} {m : Mt} {w w' : World} (h : RAt g m w) (hb : Below w.heap.size w w') : RAt g m w' :=
  (hb.block g (Array.getElem?_eq_some_iff.1 h).1).trans h
theorem RAt.lt {g : Nat} {m : Mt} {w : World} (h : RAt g m w) : g < w.heap.size := (Array.getElem?_eq_some_iff.1 h).1
def RPaid (g : Nat) (m : Mt) (n : Int) (w : World) (e : Ending) (w' : World) : Prop := e = .returned (.int .i64 n) ∧ RAt g m w' ∧ Just g w w'
theorem part_none {m : Mt} (h : m.out = none) : m.part = ⟨#[]⟩ := by unfold Mt.part; rw [h]
theorem part_some {m : Mt} {p : ByteArray} {n : Int} (h : m.out = some (p, n)) : m.part = p := by unfold Mt.part; rw [h]
theorem rgone_first (g : Nat) (m m' : Mt) (p : ByteArray) (w : World) (h : RAt g m w) (h0 : m.out = none) (n : Int) (hm : m' = { m with out := some (p, n) }) :
    Calls Tryz.prog 27 #[.pointer (some ⟨g, 0, none⟩), .string p] w (RPaid g m' 46 w) := by
  have c8 : w.cell? ⟨g, 8, none⟩ = some (.string ⟨#[]⟩) := by rw [cell_of h]; rw [part_none h0]; rfl
  have f8 := frozen_of h 8
  have H := Lib.hid h
  have HM := Lib.hid hm
  clear h hm h0
  go_enter Tryz.func27, Tryz.ntmps27
  go_wp2
  go_ret
  refine ⟨rfl, ?_, Just.set _ _ _ _⟩
  rw [HM.out]
  exact Joins.block_setCell H.out _
theorem rgone_again (g : Nat) (m : Mt) (p q : ByteArray) (n : Int) (w : World) (h : RAt g m w) (h0 : m.out = some (q, n)) (hq : q.toList.isEmpty = false) :
    Calls Tryz.prog 27 #[.pointer (some ⟨g, 0, none⟩), .string p] w (RPaid g m 46 w) := by
  have c8 : w.cell? ⟨g, 8, none⟩ = some (.string q) := by rw [cell_of h]; rw [part_some h0]; rfl
  have H := Lib.hid h
  clear h h0
  go_enter Tryz.func27, Tryz.ntmps27
  go_wp2
  go_ret
  exact ⟨rfl, H.out, Just.of (Below.refl _ _)⟩
set_option maxHeartbeats 2000000 in
theorem rrows_any (g : Nat) (m : Mt) (n : Int) (w : World) (h : RAt g m w) (hf : Fine m) :
    Calls Tryz.prog 10 #[.pointer (some ⟨g, 0, none⟩), .int .i64 n] w (RPaid g (m.rows n).1 (m.rows n).2 w) := by
  cases h0 : m.out with
  | some x =>
    obtain ⟨q, k⟩ := x
    have hq := (hf.2 q k h0).1
    have e0 : m.rows n = (m, 46) := by unfold Mt.rows; rw [h0]
    rw [e0]
    have c8 : w.cell? ⟨g, 8, none⟩ = some (.string q) := by rw [cell_of h]; rw [part_some h0]; rfl
    have c := Lib.hid (rgone_again g m rName q k w h h0 hq)
    clear h h0 e0 hf
    go_enter Tryz.func10, Tryz.ntmps10
    go_wp2_with ((with_reducible refine c.out.mono ?_); rintro e w1 ⟨rfl, hm1, hj⟩)
    go_ret
    exact ⟨rfl, hm1, hj⟩
  | none =>
    have c8 : w.cell? ⟨g, 8, none⟩ = some (.string ⟨#[]⟩) := by rw [cell_of h]; rw [part_none h0]; rfl
    have cb : w.cell? ⟨g, 1, none⟩ = some (.int .i64 m.br) := by rw [cell_of h]; rfl
    have ck : w.cell? ⟨g, 5, none⟩ = some (.int .i64 m.sr) := by rw [cell_of h]; rfl
    have fk := frozen_of h 5
    by_cases hn : n ≤ m.br
    · have e0 : m.rows n = ({ m with sr := max m.sr n }, 0) := by unfold Mt.rows; rw [h0]; exact if_pos hn
      rw [e0]
      have H := Lib.hid h
      have H0 := Lib.hid h0
      clear h h0 e0 hf
      go_enter Tryz.func10, Tryz.ntmps10
      go_wp2
      all_goals
        go_ret
        refine ⟨rfl, ?_, Just.set _ _ _ _⟩
        have := Joins.block_setCell (i := 5) (w := w) H.out (.int .i64 (max m.sr n))
        first
          | exact this
          | (rw [Int.max_eq_right (by omega)] at this; unfold RAt; simp only [Int.max_eq_right (show m.sr ≤ n by omega)]; exact this)
          | (rw [Int.max_eq_left (by omega)] at this; unfold RAt; simp only [Int.max_eq_left (show n ≤ m.sr by omega)]; exact this)
    · have e0 : m.rows n = ({ m with out := some (rName, m.br) }, 46) := by unfold Mt.rows; rw [h0]; exact if_neg hn
      rw [e0]
      have c := Lib.hid (rgone_first g m _ rName w h h0 m.br rfl)
      clear h h0 e0 hf
      go_enter Tryz.func10, Tryz.ntmps10
      go_wp2_with ((with_reducible refine c.out.mono ?_); rintro e w1 ⟨rfl, hm1, hj⟩)
      go_ret
      exact ⟨rfl, hm1, hj⟩
set_option maxHeartbeats 2000000 in
theorem rdeep_any (g : Nat) (m : Mt) (n : Int) (w : World) (h : RAt g m w) (hf : Fine m) :
    Calls Tryz.prog 11 #[.pointer (some ⟨g, 0, none⟩), .int .i64 n] w (RPaid g (m.deep n).1 (m.deep n).2 w) := by
  cases h0 : m.out with
  | some x =>
    obtain ⟨q, k⟩ := x
    have hq := (hf.2 q k h0).1
    have e0 : m.deep n = (m, 46) := by unfold Mt.deep; rw [h0]
    rw [e0]
    have c8 : w.cell? ⟨g, 8, none⟩ = some (.string q) := by rw [cell_of h]; rw [part_some h0]; rfl
    have c := Lib.hid (rgone_again g m dName q k w h h0 hq)
    clear h h0 e0 hf
    go_enter Tryz.func11, Tryz.ntmps11
    go_wp2_with ((with_reducible refine c.out.mono ?_); rintro e w1 ⟨rfl, hm1, hj⟩)
    go_ret
    exact ⟨rfl, hm1, hj⟩
  | none =>
    have c8 : w.cell? ⟨g, 8, none⟩ = some (.string ⟨#[]⟩) := by rw [cell_of h]; rw [part_none h0]; rfl
    have cb : w.cell? ⟨g, 3, none⟩ = some (.int .i64 m.bd) := by rw [cell_of h]; rfl
    have ck : w.cell? ⟨g, 7, none⟩ = some (.int .i64 m.sd) := by rw [cell_of h]; rfl
    have fk := frozen_of h 7
    by_cases hn : n ≤ m.bd
    · have e0 : m.deep n = ({ m with sd := max m.sd n }, 0) := by unfold Mt.deep; rw [h0]; exact if_pos hn
      rw [e0]
      have H := Lib.hid h
      have H0 := Lib.hid h0
      clear h h0 e0 hf
      go_enter Tryz.func11, Tryz.ntmps11
      go_wp2
      all_goals
        go_ret
        refine ⟨rfl, ?_, Just.set _ _ _ _⟩
        have := Joins.block_setCell (i := 7) (w := w) H.out (.int .i64 (max m.sd n))
        first
          | exact this
          | (rw [Int.max_eq_right (by omega)] at this; unfold RAt; simp only [Int.max_eq_right (show m.sd ≤ n by omega)]; exact this)
          | (rw [Int.max_eq_left (by omega)] at this; unfold RAt; simp only [Int.max_eq_left (show n ≤ m.sd by omega)]; exact this)
    · have e0 : m.deep n = ({ m with out := some (dName, m.bd) }, 46) := by unfold Mt.deep; rw [h0]; exact if_neg hn
      rw [e0]
      have c := Lib.hid (rgone_first g m _ dName w h h0 m.bd rfl)
      clear h h0 e0 hf
      go_enter Tryz.func11, Tryz.ntmps11
      go_wp2_with ((with_reducible refine c.out.mono ?_); rintro e w1 ⟨rfl, hm1, hj⟩)
      go_ret
      exact ⟨rfl, hm1, hj⟩
end Go.Proofs.YtdkdgijcoialbaaGreatDoor

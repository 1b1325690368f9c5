/- The laws' words: calls in memory, many, tell, one. -/
import Derived.Test.YtdkdgijcoialbaaGreatDoorBudI
import Derived.Test.YtdkdgijcoialbaaGreatDoorBudJ
import Derived.Test.YtdkdgijcoialbaaGreatDoorBudL
namespace Go.Proofs.YtdkdgijcoialbaaGreatDoor
open Go.RowKit

set_option linter.unusedVariables false
set_option linter.unusedSimpArgs false

/-- a meter's numbers are in their bounds -/
def Good (m : Mt) : Prop := 0 ≤ m.ss ∧ m.ss ≤ m.bs ∧ m.bs ≤ 1099511627776 ∧ 0 ≤ m.sr ∧ m.sr ≤ m.br ∧ m.br ≤ 1048576 ∧ 0 ≤ m.sl ∧ m.sl ≤ m.bl ∧ m.bl ≤ 65536 ∧ 0 ≤ m.sd ∧ m.sd ≤ m.bd ∧ m.bd ≤ 65536
theorem Good.new {s r l d : Int} (h : Bmay s r l d) : Good (Mt.new s r l d) := by
  obtain ⟨⟨a, b⟩, ⟨c, d⟩, ⟨e, f⟩, g, i⟩ := h
  simp only [Good, Mt.new]; omega
theorem Good.pay {m : Mt} (h : Good m) (n : Int) (hn : 0 ≤ n) : Good (m.pay n).1 := by
  unfold Mt.pay
  cases m.out with
  | some x => exact h
  | none =>
    simp only
    unfold Good at *
    split
    · exact h
    · split <;> simp only <;> omega
theorem Good.rows {m : Mt} (h : Good m) (n : Int) : Good (m.rows n).1 := by
  unfold Mt.rows
  cases m.out with
  | some x => exact h
  | none =>
    simp only
    unfold Good at *
    split <;> simp only <;> omega
theorem Good.deep {m : Mt} (h : Good m) (n : Int) : Good (m.deep n).1 := by
  unfold Mt.deep
  cases m.out with
  | some x => exact h
  | none =>
    simp only
    unfold Good at *
    split <;> simp only <;> omega
theorem pay_any (g : Nat) (m : Mt) (a : At) (w : World) (h : MtAt g m w) (ha : AtIs w a) (hg : Good m) (n : Int) (hn : (a.most : Int) = n) :
    Calls Tryz.prog 20 #[.pointer (some ⟨g, 0, none⟩), .agg a.cells] w (Paid g (m.pay n).1 (m.pay n).2 w) := by
  subst hn
  cases h0 : m.out with
  | some x =>
    have e0 : m.pay (a.most : Int) = (m, 46) := by unfold Mt.pay; rw [h0]
    rw [e0]
    exact pay_gone g m a w h x h0
  | none =>
    by_cases hs : m.ss = m.bs
    · have e0 : m.pay (a.most : Int) = ({ m with out := some (sName, m.bs) }, 46) := by unfold Mt.pay; rw [h0]; exact if_pos hs
      rw [e0]
      exact pay_steps g m a w h h0 hs
    · by_cases hl : (a.most : Int) ≤ m.bl
      · have e0 : m.pay (a.most : Int) = ({ m with ss := m.ss + 1, sl := max m.sl (a.most : Int) }, 0) := by unfold Mt.pay; rw [h0]; exact (if_neg hs).trans (if_pos hl)
        rw [e0]
        exact pay_in g m a w h ha _ rfl h0 hs hl (by unfold Good at hg; omega) hg.1
      · have e0 : m.pay (a.most : Int) = ({ m with out := some (lName, m.bl) }, 46) := by unfold Mt.pay; rw [h0]; exact (if_neg hs).trans (if_neg hl)
        rw [e0]
        exact pay_over g m a w h ha _ rfl h0 hs (by omega)

structure Cl where
  what : Int
  a : At
  n : Int
def Cl.cells (c : Cl) : Array Value := #[.int .u8 c.what, .int .u8 c.a.kind, .slice c.a.P c.a.ls.length c.a.pc, .bool c.a.n1, .slice c.a.A1 c.a.la c.a.c1, .bool c.a.n2, .slice c.a.A2 c.a.lm c.a.c2, .int .i64 c.n]
def Mt.tell (m : Mt) (c : Cl) : Mt × Int := if c.what = 0 then m.pay c.a.most else if c.what = 1 then m.rows c.n else m.deep c.n
theorem Good.tell {m : Mt} (h : Good m) (c : Cl) : Good (m.tell c).1 := by
  unfold Mt.tell
  split
  · exact h.pay _ (by omega)
  · split
    · exact h.rows _
    · exact h.deep _
theorem tell_any (g : Nat) (m : Mt) (c : Cl) (w : World) (h : MtAt g m w) (ha : AtIs w c.a) (hg : Good m) :
    Calls Tryz.prog 8 #[.pointer (some ⟨g, 0, none⟩), .agg c.cells] w (Paid g (m.tell c).1 (m.tell c).2 w) := by
  obtain ⟨what, ⟨kind, P, pc, n1, A1, la, c1, n2, A2, lm, c2, ls⟩, n⟩ := c
  obtain ⟨W, hW⟩ : ∃ W, w.alloc (.cells #[.int .u8 what, .int .u8 kind, .slice P ls.length pc, .bool n1, .slice A1 la c1, .bool n2, .slice A2 lm c2, .int .i64 n] 33) = W := ⟨_, rfl⟩
  have hB : Below w.heap.size w W := hW ▸ (Below.refl _ w).alloc (Nat.le_refl _) _
  have hx : W.heap[w.heap.size]? = some (.cells #[.int .u8 what, .int .u8 kind, .slice P ls.length pc, .bool n1, .slice A1 la c1, .bool n2, .slice A2 lm c2, .int .i64 n] 33 (0, 0)) := hW ▸ lone_new w _ _
  have hm := h.keep hB
  have x0 : W.cell? ⟨w.heap.size, 0, none⟩ = some (.int .u8 what) := by rw [cell_of hx]; rfl
  have x1 : W.cell? ⟨w.heap.size, 1, none⟩ = some (.int .u8 kind) := by rw [cell_of hx]; rfl
  have x2 : W.cell? ⟨w.heap.size, 2, none⟩ = some (.slice P ls.length pc) := by rw [cell_of hx]; rfl
  have x3 : W.cell? ⟨w.heap.size, 3, none⟩ = some (.bool n1) := by rw [cell_of hx]; rfl
  have x4 : W.cell? ⟨w.heap.size, 4, none⟩ = some (.slice A1 la c1) := by rw [cell_of hx]; rfl
  have x5 : W.cell? ⟨w.heap.size, 5, none⟩ = some (.bool n2) := by rw [cell_of hx]; rfl
  have x6 : W.cell? ⟨w.heap.size, 6, none⟩ = some (.slice A2 lm c2) := by rw [cell_of hx]; rfl
  have x7 : W.cell? ⟨w.heap.size, 7, none⟩ = some (.int .i64 n) := by rw [cell_of hx]; rfl
  have HB := Lib.hid hB
  by_cases w0 : what = 0
  · have e0 : m.tell ⟨what, ⟨kind, P, pc, n1, A1, la, c1, n2, A2, lm, c2, ls⟩, n⟩ = m.pay ((⟨kind, P, pc, n1, A1, la, c1, n2, A2, lm, c2, ls⟩ : At).most : Int) := if_pos w0
    rw [e0]
    obtain ⟨k, hk⟩ : ∃ k, ((⟨kind, P, pc, n1, A1, la, c1, n2, A2, lm, c2, ls⟩ : At).most : Int) = k := ⟨_, rfl⟩
    have d0 := pay_any g m ⟨kind, P, pc, n1, A1, la, c1, n2, A2, lm, c2, ls⟩ W hm (ha.below hB) hg k hk
    rw [hk]
    simp only [At.cells] at d0
    have d := Lib.hid d0
    clear d0 e0 hm hB hx h ha hk
    subst w0
    simp only [Cl.cells]
    go_enter Tryz.func8, Tryz.ntmps8
    go_wp2_with ((with_reducible refine d.out.mono ?_); rintro e w1 ⟨rfl, hm1, hj⟩)
    go_ret
    exact ⟨rfl, hm1, (Just.of HB.out).trans hj⟩
  · by_cases w1 : what = 1
    · have e0 : m.tell ⟨what, ⟨kind, P, pc, n1, A1, la, c1, n2, A2, lm, c2, ls⟩, n⟩ = m.rows n := (if_neg w0).trans (if_pos w1)
      rw [e0]
      have d := Lib.hid (rows_any g m n W hm)
      clear e0 hm hB hx h ha w0
      subst w1
      simp only [Cl.cells]
      go_enter Tryz.func8, Tryz.ntmps8
      go_wp2_with ((with_reducible refine d.out.mono ?_); rintro e w1 ⟨rfl, hm1, hj⟩)
      go_ret
      exact ⟨rfl, hm1, (Just.of HB.out).trans hj⟩
    · have e0 : m.tell ⟨what, ⟨kind, P, pc, n1, A1, la, c1, n2, A2, lm, c2, ls⟩, n⟩ = m.deep n := (if_neg w0).trans (if_neg w1)
      rw [e0]
      have d := Lib.hid (deep_any g m n W hm)
      clear e0 hm hB hx h ha
      simp only [Cl.cells]
      go_enter Tryz.func8, Tryz.ntmps8
      go_wp2_with ((with_reducible refine d.out.mono ?_); rintro e w1 ⟨rfl, hm1, hj⟩)
      go_ret
      exact ⟨rfl, hm1, (Just.of HB.out).trans hj⟩
end Go.Proofs.YtdkdgijcoialbaaGreatDoor

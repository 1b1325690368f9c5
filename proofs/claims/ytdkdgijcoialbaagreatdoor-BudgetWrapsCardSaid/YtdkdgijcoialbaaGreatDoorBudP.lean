/- BudgetFirst. -/
import Derived.Test.YtdkdgijcoialbaaGreatDoorBudO
import Derived.BigQuiet
import Derived.Deep.RegionHeld3
namespace Go.Proofs.YtdkdgijcoialbaaGreatDoor
open Go.RowKit

set_option linter.unusedVariables false
set_option linter.unusedSimpArgs false

/-- a meter that may be: its numbers, and what it says -/
def Fine (m : Mt) : Prop := Good m ∧ ∀ p n, m.out = some (p, n) → (Base.used p n).ok
theorem ok_name {p : ByteArray} {n : Int} (h0 : p.toList.isEmpty = false) (h1 : p.size ≤ 1000) (a : 0 ≤ n) (b : n ≤ 1099511627776) : (Base.used p n).ok := ⟨h0, h1, by omega, by omega⟩
theorem Fine.new {s r l d : Int} (h : Bmay s r l d) : Fine (Mt.new s r l d) := ⟨Good.new h, fun p n e => by cases e⟩
theorem tell_gone {m : Mt} {c : Cl} {x : ByteArray × Int} (h0 : m.out = some x) : m.tell c = (m, 46) := by
  have e1 (n : Int) : m.pay n = (m, 46) := by unfold Mt.pay; rw [h0]
  have e2 (n : Int) : m.rows n = (m, 46) := by unfold Mt.rows; rw [h0]
  have e3 (n : Int) : m.deep n = (m, 46) := by unfold Mt.deep; rw [h0]
  unfold Mt.tell
  rw [e1, e2, e3]
  split
  · rfl
  · split <;> rfl
theorem Fine.tell {m : Mt} (h : Fine m) (c : Cl) : Fine (m.tell c).1 := by
  refine ⟨h.1.tell c, fun p n e => ?_⟩
  have hg := h.1
  unfold Good at hg
  cases h0 : m.out with
  | some x =>
    have e1 : (m.tell c).1 = m := by rw [tell_gone h0]
    rw [e1] at e
    exact h.2 p n e
  | none =>
    revert e
    unfold Mt.tell
    split
    · unfold Mt.pay
      rw [h0]
      simp only
      split
      · intro e; simp at e; obtain ⟨rfl, rfl⟩ := e; exact ok_name (by kernel_rfl) (by decide) (by omega) (by omega)
      · split
        · intro e; simp [h0] at e
        · intro e; simp at e; obtain ⟨rfl, rfl⟩ := e; exact ok_name (by kernel_rfl) (by decide) (by omega) (by omega)
    · split
      · unfold Mt.rows
        rw [h0]
        simp only
        split
        · intro e; simp [h0] at e
        · intro e; simp at e; obtain ⟨rfl, rfl⟩ := e; exact ok_name (by kernel_rfl) (by decide) (by omega) (by omega)
      · unfold Mt.deep
        rw [h0]
        simp only
        split
        · intro e; simp [h0] at e
        · intro e; simp at e; obtain ⟨rfl, rfl⟩ := e; exact ok_name (by kernel_rfl) (by decide) (by omega) (by omega)
theorem tell_cases (m : Mt) (c : Cl) : (∃ p n, m.out = some (p, n) ∧ m.tell c = (m, 46)) ∨ (m.out = none ∧ ∃ m', m.tell c = (m', 0) ∧ m'.out = none) ∨ (m.out = none ∧ ∃ m' p n, m.tell c = (m', 46) ∧ m'.out = some (p, n)) := by
  cases h0 : m.out with
  | some x =>
    left
    exact ⟨x.1, x.2, rfl, tell_gone h0⟩
  | none =>
    right
    have e1 (n : Int) : (∃ m', m.pay n = (m', 0) ∧ m'.out = none) ∨ (∃ m' p k, m.pay n = (m', 46) ∧ m'.out = some (p, k)) := by
      unfold Mt.pay; rw [h0]; simp only
      split
      · exact .inr ⟨_, _, _, rfl, rfl⟩
      · split
        · exact .inl ⟨_, rfl, rfl⟩
        · exact .inr ⟨_, _, _, rfl, rfl⟩
    have e2 (n : Int) : (∃ m', m.rows n = (m', 0) ∧ m'.out = none) ∨ (∃ m' p k, m.rows n = (m', 46) ∧ m'.out = some (p, k)) := by
      unfold Mt.rows; rw [h0]; simp only
      split
      · exact .inl ⟨_, rfl, rfl⟩
      · exact .inr ⟨_, _, _, rfl, rfl⟩
    have e3 (n : Int) : (∃ m', m.deep n = (m', 0) ∧ m'.out = none) ∨ (∃ m' p k, m.deep n = (m', 46) ∧ m'.out = some (p, k)) := by
      unfold Mt.deep; rw [h0]; simp only
      split
      · exact .inl ⟨_, rfl, rfl⟩
      · exact .inr ⟨_, _, _, rfl, rfl⟩
    have e4 : (∃ m', m.tell c = (m', 0) ∧ m'.out = none) ∨ (∃ m' p k, m.tell c = (m', 46) ∧ m'.out = some (p, k)) := by
      unfold Mt.tell
      split
      · exact e1 _
      · split
        · exact e2 _
        · exact e3 _
    rcases e4 with h | h
    · exact .inl ⟨rfl, h⟩
    · exact .inr ⟨rfl, h⟩
theorem tell_eq {g : Nat} {m m' : Mt} {c : Cl} {w : World} {r : Int} (h : MtAt g m w) (ha : AtIs w c.a) (hg : Good m) (e : m.tell c = (m', r)) :
    Calls Tryz.prog 8 #[.pointer (some ⟨g, 0, none⟩), .agg #[.int .u8 c.what, .int .u8 c.a.kind, .slice c.a.P c.a.ls.length c.a.pc, .bool c.a.n1, .slice c.a.A1 c.a.la c.a.c1, .bool c.a.n2, .slice c.a.A2 c.a.lm c.a.c2, .int .i64 c.n]] w (Paid g m' r w) := by
  have := tell_any g m c w h ha hg
  rwa [e] at this
/-- what Text says of a meter's Why -/
def Mt.text (m : Mt) : ByteArray := match m.out with
  | none => ⟨#[]⟩
  | some x => txtOf [] (.used x.1 x.2)
theorem wtext_any {m : Mt} {w : World} (hT : ErrT w) (hB : Tab w) (hf : Fine m) :
    Calls Tryz.prog 16 #[m.why] w fun e w' => e = .returned (.string m.text) ∧ Below w.heap.size w w' := by
  unfold Mt.text Mt.why
  cases h0 : m.out with
  | none => exact (text_nil w).mono fun e w' ⟨h, hw⟩ => ⟨h, hw ▸ Below.refl _ _⟩
  | some x => exact text_any hT hB (.base _) (hf.2 x.1 x.2 h0) (by simp) (by simp) (text_small (hf.2 x.1 x.2 h0))
def SpentAt (sb : Nat) (m : Mt) (w : World) : Prop := w.heap[sb]? = some (.cells #[.int .i64 m.ss, .int .i64 m.sr, .int .i64 m.sl, .int .i64 m.sd] 23 (0, 0))
theorem SpentAt.keep {g : Nat} {m : Mt} {w w' : World} (h : SpentAt g m w) (hb : Below w.heap.size w w') : SpentAt g m w' :=
  (hb.block g (Array.getElem?_eq_some_iff.1 h).1).trans h

theorem spent_store {sb : Nat} {m m' : Mt} {w : World} (h : SpentAt sb m w) : SpentAt sb m' ((((w.setCell ⟨sb, 0, none⟩ (.int .i64 m'.ss)).setCell ⟨sb, 1, none⟩ (.int .i64 m'.sr)).setCell ⟨sb, 2, none⟩ (.int .i64 m'.sl)).setCell ⟨sb, 3, none⟩ (.int .i64 m'.sd)) :=
  Joins.block_setCell (Joins.block_setCell (Joins.block_setCell (Joins.block_setCell h _) _) _) _
theorem mt_far {g sb : Nat} {m : Mt} {w : World} {a b c d : Value} (hn : sb ≠ g) (h : MtAt g m w) : MtAt g m ((((w.setCell ⟨sb, 0, none⟩ a).setCell ⟨sb, 1, none⟩ b).setCell ⟨sb, 2, none⟩ c).setCell ⟨sb, 3, none⟩ d) := by
  unfold MtAt at *
  rw [Below.heap_setCell _ _ _ _ hn.symm, Below.heap_setCell _ _ _ _ hn.symm, Below.heap_setCell _ _ _ _ hn.symm, Below.heap_setCell _ _ _ _ hn.symm]
  exact h
theorem wtext_used {m : Mt} {w : World} {p : ByteArray} {n : Int} (hT : ErrT w) (hB : Tab w) (hf : Fine m) (h0 : m.out = some (p, n)) :
    Calls Tryz.prog 16 #[.iface 76 (.agg #[.string p, .int .i64 n])] w fun e w' => e = .returned (.string m.text) ∧ Below w.heap.size w w' := by
  have := wtext_any hT hB hf
  have e : m.why = .iface 76 (.agg #[.string p, .int .i64 n]) := by unfold Mt.why; rw [h0]; rfl
  rwa [e] at this
theorem wtext_at {m : Mt} {t : ByteArray} (ht : m.text = t) {w : World} {p : ByteArray} {n : Int} (hT : ErrT w) (hB : Tab w) (hf : Fine m) (h0 : m.out = some (p, n)) :
    Calls Tryz.prog 16 #[.iface 76 (.agg #[.string p, .int .i64 n])] w fun e w' => e = .returned (.string t) ∧ Below w.heap.size w w' := ht ▸ wtext_used hT hB hf h0
theorem spent_cells {sb : Nat} {m : Mt} {w : World} (h : SpentAt sb m w) : w.cell? ⟨sb, 0, none⟩ = some (.int .i64 m.ss) ∧ w.cell? ⟨sb, 1, none⟩ = some (.int .i64 m.sr) ∧ w.cell? ⟨sb, 2, none⟩ = some (.int .i64 m.sl) ∧ w.cell? ⟨sb, 3, none⟩ = some (.int .i64 m.sd) :=
  ⟨(cell_of h 0).trans rfl, (cell_of h 1).trans rfl, (cell_of h 2).trans rfl, (cell_of h 3).trans rfl⟩
/-! ## walks -/
end Go.Proofs.YtdkdgijcoialbaaGreatDoor

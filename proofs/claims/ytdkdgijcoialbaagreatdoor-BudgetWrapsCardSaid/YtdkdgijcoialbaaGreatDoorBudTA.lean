/- BudgetTells (mkbudt.py). -/
import Derived.Test.YtdkdgijcoialbaaGreatDoorBudZ
import Derived.Deep.RegionWith
import Derived.Deep.RegionHeld3
namespace Go.Proofs.YtdkdgijcoialbaaGreatDoor
open Go.RowKit

set_option linter.unusedVariables false
set_option linter.unusedSimpArgs false

theorem OutIs.tell {m : Mt} (h : OutIs m) (c : Cl) : OutIs (m.tell c).1 := by
  cases h0 : m.out with
  | some x => rw [tell_gone h0]; exact h
  | none =>
    have e1 (n : Int) : OutIs (m.pay n).1 := by
      unfold Mt.pay; rw [h0]; simp only
      split
      · exact .inr (.inl rfl)
      · split
        · exact .inl rfl
        · exact .inr (.inr (.inr (.inl rfl)))
    have e2 (n : Int) : OutIs (m.rows n).1 := by
      unfold Mt.rows; rw [h0]; simp only
      split
      · exact .inl rfl
      · exact .inr (.inr (.inl rfl))
    have e3 (n : Int) : OutIs (m.deep n).1 := by
      unfold Mt.deep; rw [h0]; simp only
      split
      · exact .inl rfl
      · exact .inr (.inr (.inr (.inr rfl)))
    unfold Mt.tell
    split
    · exact e1 _
    · split
      · exact e2 _
      · exact e3 _
theorem out_bound {m : Mt} (ho : OutIs m) (hg : Good m) {p : ByteArray} {n : Int} (h0 : m.out = some (p, n)) : 0 ≤ n ∧ n ≤ 1099511627776 := by
  unfold Good at hg
  rcases ho with e | e | e | e | e <;> rw [h0] at e <;> simp at e <;> obtain ⟨rfl, rfl⟩ := e <;> omega
theorem rpay_eq {g : Nat} {m m' : Mt} {a : At} {w : World} {n r : Int} (h : RAt g m w) (ha : AtIs w a) (hf : Fine m) (hn : (a.most : Int) = n) (e : m.pay n = (m', r)) :
    Calls Tryz.prog 9 #[.pointer (some ⟨g, 0, none⟩), .agg #[.int .u8 a.kind, .slice a.P a.ls.length a.pc, .bool a.n1, .slice a.A1 a.la a.c1, .bool a.n2, .slice a.A2 a.lm a.c2]] w (RPaid g m' r w) := by
  have := rpay_any g m a w h ha hf n hn
  rwa [e] at this
theorem rrows_eq {g : Nat} {m m' : Mt} {w : World} {n r : Int} (h : RAt g m w) (hf : Fine m) (e : m.rows n = (m', r)) :
    Calls Tryz.prog 10 #[.pointer (some ⟨g, 0, none⟩), .int .i64 n] w (RPaid g m' r w) := by
  have := rrows_any g m n w h hf
  rwa [e] at this
theorem rdeep_eq {g : Nat} {m m' : Mt} {w : World} {n r : Int} (h : RAt g m w) (hf : Fine m) (e : m.deep n = (m', r)) :
    Calls Tryz.prog 11 #[.pointer (some ⟨g, 0, none⟩), .int .i64 n] w (RPaid g m' r w) := by
  have := rdeep_any g m n w h hf
  rwa [e] at this
theorem mayb_true {s r l d : Int} (w : World) (h : Bmay s r l d) :
    Calls Tryz.prog 24 #[.agg #[.int .i64 s, .int .i64 r, .int .i64 l, .int .i64 d]] w fun e w' => e = .returned (.bool true) ∧ Below w.heap.size w w' := by
  have := may_any s r l d w
  rwa [decide_eq_true h] at this
theorem mayb_false {s r l d : Int} (w : World) (h : ¬ Bmay s r l d) :
    Calls Tryz.prog 24 #[.agg #[.int .i64 s, .int .i64 r, .int .i64 l, .int .i64 d]] w fun e w' => e = .returned (.bool false) ∧ Below w.heap.size w w' := by
  have := may_any s r l d w
  rwa [decide_eq_false h] at this
/-- what Text says of none wrapped words around it -/
theorem rtext0 {g : Nat} {m : Mt} {w : World} {p : ByteArray} {n : Int} {t : ByteArray} (h : RAt g m w) (hf : Fine m) (ho : OutIs m) (h0 : m.out = some (p, n)) (ht : m.text = t) :
    Calls Tryz.prog 17 #[.pointer (some ⟨g, 0, none⟩), .slice none 0 0] w fun e w' => e = .returned (.string t) ∧ Below w.heap.size w w' := by
  have := rtext_any g m w h hf ho p n h0 (out_bound ho hf.1 h0) none 0 [] (fun h => absurd h (by simp)) (by simp) (by simp)
  have e : txtOf ([] : List ByteArray).reverse (.used p n) = t := by rw [← ht]; unfold Mt.text; rw [h0]; rfl
  rw [e] at this
  exact this
def Cells8 (w : World) (b o : Nat) (c : Cl) : Prop := ClAt w b o c
end Go.Proofs.YtdkdgijcoialbaaGreatDoor

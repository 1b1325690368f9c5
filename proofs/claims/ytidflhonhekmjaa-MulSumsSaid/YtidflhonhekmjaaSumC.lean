/- The law MulSums: whole; a list of lists as it is handed in. -/
import Derived.Deep.Matrix
import Derived.Test.YtidflhonhekmjaaSumB
namespace Go.Proofs.Ytidflhonhekmjaa
open Go.RowKit Go.Shelf

set_option linter.unusedVariables false

theorem rows2z_nil (w : World) : Rows2Z w (.slice none 0 0) [] := ⟨none, 0, [], rfl, by decide, fun j hj => by simp at hj, fun h => by simp at h⟩

theorem rows2z_of {w : World} {a : Addr} {base len cap : Nat} {A : Nat → Option Addr} {L C : Nat → Nat} {Z : Nat → List Int} (hl : len ≤ cap) (hm : cap ≤ maxLen)
    (H : ∀ r, r < cap → w.cell? (a.add r) = some (.slice (A r) (L r) (C r)) ∧ L r ≤ C r ∧ C r ≤ maxLen ∧ (Z r).length = C r ∧ (∀ n ∈ Z r, (Lit.int .u32 n).wf = true) ∧ (A r = none → C r = 0) ∧
        ∀ a', A r = some a' → base ≤ a'.block ∧ ∀ c, c < C r → w.cell? (a'.add c) = some (.int .u32 ((Z r).getD c 0))) :
    ∃ LL, Rows2Z w (.slice (some a) len cap) LL := by
  have each : ∀ r, r < cap → ∃ xs : List Nat, ArgZ w (.slice (A r) (L r) (C r)) xs := by
    intro r hr
    obtain ⟨h1, h2, h3, h4, h5, h6, h7⟩ := H r hr
    have hrow : (A r = none ∧ L r = 0 ∧ C r = 0 ∧ Z r = []) ∨ ∃ x, A r = some x ∧ L r ≤ C r ∧ C r ≤ maxLen ∧ (Z r).length = C r ∧ (∀ i, i < (Z r).length → w.cell? (x.add i) = some (.int .u32 ((Z r).getD i 0))) ∧ ∀ n ∈ Z r, (Lit.int .u32 n).wf = true := by
      rcases hA : A r with _ | x
      · have := h6 hA
        exact .inl ⟨rfl, by omega, this, List.eq_nil_of_length_eq_zero (by omega)⟩
      · exact .inr ⟨x, rfl, h2, h3, h4, fun i hi => (h7 x hA).2 i (by omega), h5⟩
    obtain ⟨xs, _, ha⟩ := arg_of_row hrow
    exact ⟨xs, ha, noRoom_of_row hrow⟩
  obtain ⟨F, hF⟩ : ∃ F : Nat → List Nat, ∀ r, r < cap → ArgZ w (.slice (A r) (L r) (C r)) (F r) :=
    ⟨fun r => if h : r < cap then Classical.choose (each r h) else [], fun r hr => by simp only [dif_pos hr]; exact Classical.choose_spec (each r hr)⟩
  refine ⟨(List.range len).map F, some a, cap, (List.range len).map fun r => .slice (A r) (L r) (C r), by simp, by simp; omega, fun j hj => ?_, fun h0 => ?_⟩
  · have hj' : j < len := by simpa using hj
    rw [List.getElem?_map, List.getElem?_map, List.getElem?_range hj']
    exact hF j (by omega)
  · have h0' : 0 < len := by simpa using h0
    obtain ⟨b, off, spot⟩ := a
    have hc := (H 0 (by omega)).1
    have hspot : spot = none := by simpa [Addr.add] using World.cell?_spot hc
    subst hspot
    have hblk : b < w.heap.size := by
      obtain ⟨o, ho, _⟩ := cells_of_cell hc
      simpa [Addr.add] using (Array.getElem?_eq_some_iff.1 ho).1
    refine ⟨b, off, rfl, hblk, fun j hj => ?_⟩
    have hj' : j < len := by simpa using hj
    rw [List.getElem?_map, List.getElem?_range hj']
    have hj2 := (H j (by omega)).1
    rw [Addr.add_lit] at hj2
    exact hj2

theorem msums_law (va vb : Value) (L M : List (List Nat)) (w : World) (ha : Rows2Z w va L) (hv : Rows2Z w vb M) :
    Calls Try.prog 4 #[va, vb] w fun e w' => e = .returned (.bool true) ∧ Below w.heap.size w w' := by
  rcases h1 : longL L with _ | _
  · rcases h2 : longL M with _ | _
    · exact msums_short va vb L M w ha hv h1 h2
    · exact msums_long2 va vb L M w ha hv h1 h2
  · exact msums_long1 va vb L M w ha hv h1

end Go.Proofs.Ytidflhonhekmjaa

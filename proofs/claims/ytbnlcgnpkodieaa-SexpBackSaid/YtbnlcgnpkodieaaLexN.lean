/- Contract: Same. -/
import Derived.Test.YtbnlcgnpkodieaaLexH
import Derived.Test.YtbnlcgnpkodieaaLexM
namespace Go.Proofs.Ytbnlcgnpkodieaa
open Go.RowKit Go.Shelf

set_option linter.unusedVariables false
set_option linter.unusedSimpArgs false

/-- a row of words in memory -/
def RowW (w : World) (v : Value) (S : List (Nat × List Nat)) : Prop := ∃ A cp, v = .slice A S.length cp ∧ (0 < S.length → ∃ g, A = some ⟨g, 0, none⟩ ∧ g < w.heap.size ∧ ∀ j u, (wcells S)[j]? = some u → w.cell? ⟨g, j, none⟩ = some u)
theorem rowW_of {w : World} {base : Nat} {v : Value} {S : List (Nat × List Nat)} (h : w.ownsRow base 69 4 v S.length (wcells S)) : RowW w v S := by
  obtain ⟨A, cp, rfl⟩ := slice_form h
  refine ⟨A, cp, rfl, fun h0 => ?_⟩
  obtain ⟨g, e, _, hg, hc⟩ := row_cells h h0
  exact ⟨g, e, hg, hc⟩
theorem RowW.keep {w w' : World} {v : Value} {S : List (Nat × List Nat)} (h : RowW w v S) (hb : Below w.heap.size w w') : RowW w' v S := by
  obtain ⟨A, cp, e, hc⟩ := h
  refine ⟨A, cp, e, fun h0 => ?_⟩
  obtain ⟨g, e2, hg, hcc⟩ := hc h0
  exact ⟨g, e2, Nat.lt_of_lt_of_le hg hb.size, fun j u hu => (hb.cell (p := ⟨g, j, none⟩) hg).trans (hcc j u hu)⟩

end Go.Proofs.Ytbnlcgnpkodieaa

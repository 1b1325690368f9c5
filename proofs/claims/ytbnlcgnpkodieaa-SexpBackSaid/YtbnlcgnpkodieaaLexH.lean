/- LexStand, its walk. -/
import Derived.Test.YtbnlcgnpkodieaaLexF
import Derived.Test.YtbnlcgnpkodieaaLexG
import Derived.Deep.RegionHeld3
namespace Go.Proofs.Ytbnlcgnpkodieaa
open Go.RowKit Go.Shelf

set_option linter.unusedVariables false
set_option linter.unusedSimpArgs false

theorem wcells_get : ∀ {S : List (Nat × List Nat)} {k : Nat} {x : Nat × List Nat}, S[k]? = some x → ∀ q, q < 4 → (wcells S)[k * 4 + q]? = (wordCells x)[q]?
  | [], k, x, h, q, hq => by simp at h
  | y :: S, 0, x, h, q, hq => by
    have : y = x := by simpa using h
    subst this
    rw [Nat.zero_mul, Nat.zero_add]
    unfold wcells
    rw [List.flatMap_cons, List.getElem?_append_left (by show q < 4; exact hq)]
  | y :: S, k + 1, x, h, q, hq => by
    have h' : S[k]? = some x := by simpa using h
    have ih := wcells_get h' q hq
    unfold wcells at *
    rw [List.flatMap_cons, List.getElem?_append_right (by show 4 ≤ _; omega), ← ih]
    congr 1
    show (k + 1) * 4 + q - 4 = _
    omega

theorem partsV_of {R : List Nat} (h : wds R = []) (hl : R.length ≤ 65536) : partsV R = true := by
  have hok : okw R = true := by unfold okw; rw [h]; rfl
  have h1 : wE R = 0 := by unfold wE; rw [if_neg (by omega), if_pos hok]
  have h2 : wL R = [] := by unfold wL; rw [if_neg (by omega), if_pos hok, h]
  unfold partsV
  rw [h1, h2]
  rfl

end Go.Proofs.Ytbnlcgnpkodieaa

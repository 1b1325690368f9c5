/- Contracts of the document's own answers of layer 1: Add, Sub, whatever is handed in; Low; and what the laws do beside: own, is. -/
import Derived.Test.YtlfhpoffphljfaaRefB
namespace Go.Proofs.Ytlfhpoffphljfaa
open Go.RowKit

set_option linter.unusedVariables false

set_option maxHeartbeats 1000000 in
theorem radd_any (A A' : Option Addr) (cap cap' : Nat) (xs ys : List Nat) (w : World) (hr : Rd w w.heap.size A xs) (hr' : Rd w w.heap.size A' ys) (hc : xs.length ≤ maxLen) (hc' : ys.length ≤ maxLen) :
    Calls Try.prog 54 #[.slice A xs.length cap, .slice A' ys.length cap'] w fun e w' => (∃ v, e = .returned v ∧ Own w' w.heap.size v (sAdd xs ys)) ∧ Below w.heap.size w w' := by
  rcases hx : mayb xs with _ | _
  · have hs := Lib.hid (sAdd_no (xs := xs) (ys := ys) (by simp [hx]))
    have c1 := rmay_is cap hr hc hx
    clear hx hc hc'
    go_enter Try.func54, Try.ntmps54
    go_wp2_with fail
    refine c1.mono ?_
    rintro e w' ⟨rfl, hw⟩
    obtain rfl := hw.symm
    clear c1
    go_wp2
    go_ret
    exact ⟨⟨_, rfl, by rw [hs.out]; exact Own.nil _ _⟩, Below.refl _ _⟩
  · rcases hy : mayb ys with _ | _
    · have hs := Lib.hid (sAdd_no (xs := xs) (ys := ys) (by simp [hy]))
      have c1 := rmay_is cap hr hc hx
      have c2 := rmay_is cap' hr' hc' hy
      clear hx hy hc hc'
      go_enter Try.func54, Try.ntmps54
      go_wp2_with fail
      refine c1.mono ?_
      rintro e w' ⟨rfl, hw⟩
      obtain rfl := hw.symm
      go_wp2_with fail
      refine c2.mono ?_
      rintro e w' ⟨rfl, hw⟩
      obtain rfl := hw.symm
      clear c1 c2
      go_wp2
      go_ret
      exact ⟨⟨_, rfl, by rw [hs.out]; exact Own.nil _ _⟩, Below.refl _ _⟩
    · rw [sAdd_yes (by simp [hx, hy])]
      exact radd_yes A A' cap cap' xs ys w hr hr' hx hy

theorem val_drop_cons {xs : List Nat} {k : Nat} (h : k < xs.length) : val (xs.drop k) = val (xs.drop (k + 1)) * 4294967296 + xs[k]?.getD 0 := by
  rw [List.drop_eq_getElem_cons h, List.getElem?_eq_getElem h]
  simp only [val, Option.getD_some]
  omega

end Go.Proofs.Ytlfhpoffphljfaa

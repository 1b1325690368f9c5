/- For NatNames: contracts with closed answers; the long one. -/
import Derived.Test.YtlfhpoffphljfaaNatP
namespace Go.Proofs.Ytlfhpoffphljfaa
open Go.RowKit

set_option linter.unusedVariables false

theorem Limbs.of {xs : List Nat} (h : xs.all (fun x => decide (x < 4294967296)) = true) : Limbs xs := fun x hx => by
  have := List.all_eq_true.1 h x hx
  simpa using this
theorem sSub_not {xs ys : List Nat} (h : sSubOk xs ys = false) : sSub xs ys = [] := sSub_no h
theorem blen_at {n k : Nat} (h1 : n < 2 ^ (k + 1)) (h2 : 2 ^ k ≤ n) : blen n = k + 1 := blen_unique h1 fun j hj => by
  rcases Nat.lt_or_ge k j with h | h
  · exact h
  · exfalso
    have : 2 ^ j ≤ 2 ^ k := Nat.pow_le_pow_right (by decide) h
    omega

/-! the facts -/
theorem f1 : sLow [4294967295, 4294967295] = 18446744073709551615 := by decide
theorem f2 : sLow [0, 0, 1] = 0 := by decide
theorem f3 : sSub [0, 0, 1] [1] = [4294967295, 4294967295] := sSub_eq (by decide) (by decide) (by decide) (Limbs.of (by decide)) (by decide)
theorem f4 : sSub [1] [0, 1] = [] := sSub_no (by decide)
theorem f5 : sSub [7, 7] [7, 7] = [] := sSub_eq (by decide) (by decide) (by decide) (Limbs.of (by decide)) (by decide)
theorem f6 : sAdd [4294967295, 4294967295, 4294967295] [1] = [0, 0, 0, 1] := sAdd_eq (by decide) (by decide) (by decide) (Limbs.of (by decide)) (by decide)
theorem f7 : lim 18446744073709551615 = [4294967295, 4294967295] := lim_eq (by decide) (Limbs.of (by decide)) (by decide)
theorem f8 : sCmp [0, 1] [4294967295] = 1 := by decide
theorem f9 : sCmp [1, 2] [2, 1] = 1 := by decide
theorem f10 : sCmp [] [1] = -1 := by decide
theorem f11 : sCmp [] [] = 0 := by decide
theorem f12 : sSub [5, 0] [] = [] := sSub_no (by decide)
theorem f13 : sSub [9] [5, 0] = [] := sSub_no (by decide)
theorem f14 : sAdd [5, 0] [1] = [] := sAdd_no (by decide)
theorem f15 : sAdd [1] [5, 0] = [] := sAdd_no (by decide)
theorem f16 : sShl [5, 0] 1 = [] := sShl_no1 (by decide)
theorem f17 : sShr [5, 0] 1 = [] := sShr_no1 (by decide)
theorem f18 : sBits [5, 0] = 0 := sBits_no (by decide)
theorem f19 : sBit [5, 0] 0 = false := by decide
theorem f20 : sCmp [5, 0] [] = 0 := by decide
theorem f21 : sBits [0, 1] = 33 := by rw [sBits_yes (by decide)]; exact blen_at (by decide) (by decide)
theorem f22 : sBits [4294967295] = 32 := by rw [sBits_yes (by decide)]; exact blen_at (by decide) (by decide)
theorem f23 : sBit [0, 1] 32 = true := by decide
theorem f24 : sBit [0, 1] 31 = false := by decide
theorem f25 : sBit [1] (-1) = false := by decide
theorem f26 : sBit [1] 32 = false := by decide
theorem f27 : sShl [1] (-1) = [] := sShl_no2 (by decide)
theorem f28 : sShr [1] (-1) = [] := sShr_no2 (by decide)
theorem f29 : sShr [1] 1 = [] := sShr_eq (k := 1) (by decide) (by decide) (Limbs.of (by decide)) (by decide)
theorem f30 : sShr [1] 99 = [] := sShr_eq (k := 99) (by decide) (by decide) (Limbs.of (by decide)) (by decide)
theorem f31 : sShl [] 9 = [] := sShl_nil 9
theorem f32 : sShl [4294967295] 4 = [4294967280, 15] := sShl_eq (k := 4) (by decide) (by decide) (Limbs.of (by decide)) (by decide)
theorem f33 : sShr [4294967295, 4294967295] 4 = [4294967295, 268435455] := sShr_eq (k := 4) (by decide) (by decide) (Limbs.of (by decide)) (by decide)
theorem f34 : sShl [3] 64 = [0, 0, 3] := sShl_eq (k := 64) (by decide) (by decide) (Limbs.of (by decide)) (by decide)
theorem f35 : sShr [1, 2, 3] 32 = [2, 3] := sShr_eq (k := 32) (by decide) (by decide) (Limbs.of (by decide)) (by decide)

end Go.Proofs.Ytlfhpoffphljfaa

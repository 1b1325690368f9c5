/- NatSums: the law's walk. -/
import Derived.Test.YtlfhpoffphljfaaNatP
namespace Go.Proofs.Ytlfhpoffphljfaa
open Go.RowKit

theorem sum_fits {n m k : Nat} (h1 : n < 4294967296 ^ k) (h2 : m < 4294967296 ^ k) : (lim (n + m)).length ≤ k + 1 := by
  rw [lim_length_le, Nat.pow_succ]
  omega
theorem val_pow {xs : List Nat} (h : Limbs xs) {k : Nat} (hl : xs.length ≤ k) : val xs < 4294967296 ^ k := Nat.lt_of_lt_of_le (val_lt h) (Nat.pow_le_pow_right (by decide) hl)
theorem sum_fits2 {xs ys : List Nat} (hx : Limbs xs) (hy : Limbs ys) {k : Nat} (h1 : xs.length ≤ k) (h2 : ys.length ≤ k) : (lim (val xs + val ys)).length ≤ k + 1 := sum_fits (val_pow hx h1) (val_pow hy h2)

end Go.Proofs.Ytlfhpoffphljfaa

/- DecParted. -/
import Derived.Test.YtileljokijmpaaaDoorLawD
namespace Go.Proofs.YtileljokijmpaaaDoor
open Go.RowKit Go.Shelf

set_option linter.unusedVariables false
set_option linter.unusedSimpArgs false

theorem bnd_i64d {u : Int} (h : (Lit.int .i64 u).wf = true) : -9223372036854775808 ≤ u ∧ u < 9223372036854775808 := by
  simp [Lit.wf, IntKind.min, IntKind.max, IntKind.signed, IntKind.bits] at h
  omega
theorem txt_join {q r k : Nat} (hq : q ≠ 0) (hr : r < 10 ^ k) : txt (q * 10 ^ k + r) = txt q ++ pad r k := by
  have hp : 0 < 10 ^ k := Nat.pow_pos (by decide)
  have h1 : (q * 10 ^ k + r) / 10 ^ k = q := by
    rw [Nat.add_comm, Nat.add_mul_div_right _ _ hp, Nat.div_eq_of_lt hr, Nat.zero_add]
  have h2 : (q * 10 ^ k + r) % 10 ^ k = r := by rw [Nat.add_comm, Nat.add_mul_mod_self_right, Nat.mod_eq_of_lt hr]
  have h3 : nd (q * 10 ^ k + r) = nd q + k := by
    refine nd_unique ?_ ?_ (by have := nd_pos q; omega)
    · have := Nat.mul_le_mul_right (10 ^ k) (show q + 1 ≤ 10 ^ nd q from lt_nd q)
      rw [Nat.pow_add]
      rw [Nat.add_mul, Nat.one_mul] at this
      omega
    · have := Nat.mul_le_mul_right (10 ^ k) (nd_ge hq)
      rw [← Nat.pow_add, show nd q - 1 + k = nd q + k - 1 by have := nd_pos q; omega] at this
      omega
  unfold txt
  rw [h3, pad_add, h1, ← pad_mod (q * 10 ^ k + r) k, h2]
theorem txt_shift {n k : Nat} (hn : n ≠ 0) : txt (n * 10 ^ k) = txt n ++ List.replicate k 48 := by
  have := txt_join (r := 0) (k := k) hn (Nat.pow_pos (by decide))
  rwa [Nat.add_zero, pad_zero] at this
theorem pad_nd {r k : Nat} (hr : r < 10 ^ k) (hk : 0 < k) : pad r k = List.replicate (k - nd r) 48 ++ txt r := by
  have h1 := nd_le hr hk
  have := pad_low (lt_nd r) (k - nd r)
  rwa [show k - nd r + nd r = k by omega] at this

end Go.Proofs.YtileljokijmpaaaDoor

/- NatShifts: the law's walk. -/
import Derived.Test.YtlfhpoffphljfaaNatR
namespace Go.Proofs.Ytlfhpoffphljfaa
open Go.RowKit

set_option linter.unusedVariables false

theorem shl_fits {xs : List Nat} (hx : Limbs xs) {k : Nat} (hl : xs.length ≤ 2000) (hk : k ≤ 10000) : (lim (val xs * 2 ^ k)).length ≤ 65536 := by
  rw [lim_len_blen]
  by_cases h0 : val xs = 0
  · rw [h0, Nat.zero_mul]; exact Nat.zero_le _
  · have h2 := blen_shift (n := val xs) (r := 0) (k := k) h0 (Nat.two_pow_pos k)
    rw [Nat.add_zero] at h2
    rw [h2]
    have h3 : blen (val xs) ≤ 32 * xs.length := blen_le.2 (by rw [Nat.pow_mul]; exact val_lt hx)
    omega
theorem le_fits {xs : List Nat} (hx : Limbs xs) (hm : mayb xs = true) {n : Nat} (h : n ≤ val xs) : (lim n).length ≤ 65536 :=
  Nat.le_trans (lim_length_le.2 (Nat.lt_of_le_of_lt h (val_lt hx))) (mayb_iff.1 hm).1

end Go.Proofs.Ytlfhpoffphljfaa

/- NatWhole: the law's walk. -/
import Derived.Test.YtlfhpoffphljfaaNatS
namespace Go.Proofs.Ytlfhpoffphljfaa
open Go.RowKit

set_option linter.unusedVariables false


/-- the sum of 2^j over the bits below k -/
def part (xs : List Nat) (k : Nat) : List Nat := lim (val xs % 2 ^ k)
theorem pow_fits {k : Nat} (h : k ≤ 2000) : (lim (2 ^ k)).length ≤ 65536 := by
  rw [lim_len_blen]
  have : blen (2 ^ k) ≤ k + 1 := blen_le.2 (Nat.pow_lt_pow_right (by decide) (by omega))
  omega
theorem shl_one {k : Nat} (h : k ≤ 2000) : sShl [1] (k : Int) = lim (2 ^ k) := by
  rw [sShl_yes (by decide), show val [1] = 1 from rfl, Nat.one_mul, clip_of (pow_fits h)]
theorem part_next {xs : List Nat} (hx : Limbs xs) (hm : mayb xs = true) {k : Nat} (hk : k ≤ 2000) (hb : (val xs).testBit k = true) : sAdd (part xs k) (lim (2 ^ k)) = part xs (k + 1) := by
  have e : val xs % 2 ^ (k + 1) = val xs % 2 ^ k + 2 ^ k := by
    rw [Nat.testBit_eq_decide_div_mod_eq] at hb
    have hb' : val xs / 2 ^ k % 2 = 1 := by simpa using hb
    rw [Nat.pow_succ, Nat.mod_mul, hb', Nat.mul_one]
  have h1 := mayb_lim (le_fits hx hm (Nat.mod_le (val xs) (2 ^ k)))
  have h2 := mayb_lim (le_fits hx hm (Nat.mod_le (val xs) (2 ^ (k + 1))))
  unfold part
  exact sAdd_eq h1 (mayb_lim (pow_fits hk)) h2 (lim_limbs _) (by rw [val_lim, val_lim, val_lim, e])
theorem part_same {xs : List Nat} {k : Nat} (hb : (val xs).testBit k = false) : part xs (k + 1) = part xs k := by
  have e : val xs % 2 ^ (k + 1) = val xs % 2 ^ k := by
    rw [Nat.testBit_eq_decide_div_mod_eq] at hb
    have hb' : val xs / 2 ^ k % 2 = 0 := by
      have : ¬ val xs / 2 ^ k % 2 = 1 := by simpa using hb
      omega
    rw [Nat.pow_succ, Nat.mod_mul, hb']; omega
  unfold part
  rw [e]
theorem part_all {xs : List Nat} (hx : Limbs xs) (hm : mayb xs = true) : part xs (sBits xs) = xs := by
  unfold part
  rw [sBits_yes hm, Nat.mod_eq_of_lt (blen_le.1 (Nat.le_refl _)), lim_val (mayb_canon hx hm)]
theorem part_zero (xs : List Nat) : part xs 0 = [] := by
  unfold part
  rw [Nat.pow_zero, Nat.mod_one, lim_zero]
theorem sBit_nat (xs : List Nat) (k : Nat) (hm : mayb xs = true) : sBit xs (k : Int) = (val xs).testBit k := by
  unfold sBit
  rw [hm, decide_eq_true (by omega)]
  simp

end Go.Proofs.Ytlfhpoffphljfaa

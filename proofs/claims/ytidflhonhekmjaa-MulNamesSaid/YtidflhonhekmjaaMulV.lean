/- For MulNames: numbers whose limbs are all ones. -/
import Derived.Test.YtidflhonhekmjaaMulR
namespace Go.Proofs.Ytidflhonhekmjaa
open Go.RowKit Go.Shelf

set_option linter.unusedVariables false

theorem val_fulls : ∀ n, val (fulls n) + 1 = 4294967296 ^ n
  | 0 => rfl
  | n + 1 => by
    have ih := val_fulls n
    unfold fulls at ih ⊢
    rw [List.replicate_succ, val, Nat.pow_succ]
    omega
theorem fulls_may {n : Nat} (h : n ≤ 65536) : mayb (fulls n) = true := by
  refine mayb_iff.2 ⟨by simpa [fulls] using h, fun e => ?_⟩
  have := List.mem_of_getLast? e
  have := (List.mem_replicate.1 this).2
  omega
theorem fulls_len (n : Nat) : (fulls n).length = n := by simp [fulls]
theorem fulls_lim {n : Nat} (h : n ≤ 65536) : fulls n = lim (4294967296 ^ n - 1) := by
  have h1 := val_fulls n
  rw [← lim_val (mayb_canon (fulls_limbs n) (fulls_may h))]
  congr 1
  omega
theorem pow_len (n : Nat) : (lim (4294967296 ^ n)).length ≤ n + 1 := lim_le (Nat.pow_lt_pow_right (by decide) (by omega))
theorem ones_fits {n m : Nat} (hn : 0 < n) (hm : 0 < m) : 4294967296 ^ n + 4294967296 ^ m ≤ 4294967296 ^ (n + m) := by
  rw [Nat.pow_add]
  have h1 : 4294967296 ^ 1 ≤ 4294967296 ^ n := Nat.pow_le_pow_right (by decide) hn
  have h2 : 4294967296 ^ 1 ≤ 4294967296 ^ m := Nat.pow_le_pow_right (by decide) hm
  generalize 4294967296 ^ n = a at *
  generalize 4294967296 ^ m = b at *
  have h3 : a * 2 ≤ a * b := Nat.mul_le_mul_left a (by omega)
  have h4 : 2 * b ≤ a * b := Nat.mul_le_mul_right b (by omega)
  omega
/-- The product of two that are all ones. -/
theorem ones_mul {n m : Nat} (hn : 0 < n) (hm : 0 < m) : (4294967296 ^ n - 1) * (4294967296 ^ m - 1) = 4294967296 ^ (n + m) - (4294967296 ^ n + 4294967296 ^ m) + 1 := by
  have h := ones_fits hn hm
  rw [Nat.pow_add] at h ⊢
  have h1 : 0 < 4294967296 ^ n := Nat.pow_pos (by decide)
  have h2 : 0 < 4294967296 ^ m := Nat.pow_pos (by decide)
  generalize 4294967296 ^ n = a at *
  generalize 4294967296 ^ m = b at *
  obtain ⟨c, rfl⟩ : ∃ c, a = c + 1 := ⟨a - 1, by omega⟩
  obtain ⟨d, rfl⟩ : ∃ d, b = d + 1 := ⟨b - 1, by omega⟩
  have e : (c + 1) * (d + 1) = c * d + c + d + 1 := by grind
  simp only [Nat.add_sub_cancel]
  omega
theorem shl_ones {k : Nat} (h : k ≤ 65000) : sShl (lim 1) (((32 * k : Nat)) : Int) = lim (4294967296 ^ k) := by
  have h1 := pow_len k
  rw [sShl_yes (mayb_lim (Nat.le_trans (lim_le (k := 1) (by decide)) (by decide))), val_lim, Nat.one_mul, Nat.pow_mul, clip_of (by show (lim (4294967296 ^ k)).length ≤ 65536; omega)]
theorem sub_lim {a b : Nat} (h : (lim a).length ≤ 65536) (h' : (lim b).length ≤ 65536) (hb : b ≤ a) : sSub (lim a) (lim b) = lim (a - b) ∧ sSubOk (lim a) (lim b) = true := by
  have ho : sSubOk (lim a) (lim b) = true := sSub_ok (mayb_lim h) (mayb_lim h') (by rw [val_lim, val_lim]; exact hb)
  exact ⟨by rw [sSub_yes ho, val_lim, val_lim], ho⟩

end Go.Proofs.Ytidflhonhekmjaa

/- The digits' sums: the mathematics (for DecDigits). -/
import Derived.Test.YtekdidfpilbinaaDoorLawA
namespace Go.Proofs.YtekdidfpilbinaaDoor

set_option linter.unusedVariables false

/-- the i-th digit from the end -/
theorem txt_digit {n i : Nat} (h : i < nd n) : (txt n)[nd n - 1 - i]?.getD 0 = 48 + n / 10 ^ i % 10 := by
  have key : ∀ (k n i : Nat), i < k → (pad n k)[k - 1 - i]?.getD 0 = 48 + n / 10 ^ i % 10 := by
    intro k
    induction k with
    | zero => intro n i h; omega
    | succ k ih =>
      intro n i h
      rw [pad_step]
      rcases Nat.eq_zero_or_pos i with h0 | h0
      · subst h0
        rw [List.getElem?_append_right (by rw [pad_length]; omega), pad_length, show k + 1 - 1 - 0 - k = 0 by omega]
        simp
      · obtain ⟨j, rfl⟩ : ∃ j, i = j + 1 := ⟨i - 1, by omega⟩
        rw [List.getElem?_append_left (by rw [pad_length]; omega), show k + 1 - 1 - (j + 1) = k - 1 - j by omega, ih _ _ (by omega), Nat.div_div_eq_div_mul, Nat.pow_succ, Nat.mul_comm 10]
  exact key _ _ _ h
/-- the sums so far: what is still to come stands for the rest -/
def Sums (n i : Nat) (s t : Int) : Prop :=
  0 ≤ s ∧ s ≤ 9 * i ∧ -(9 * i) ≤ t ∧ t ≤ 9 * i ∧ (s + (n / 10 ^ i : Nat)) % 9 = (n : Int) % 9 ∧ (if i % 2 = 0 then (t + (n / 10 ^ i : Nat)) % 11 = (n : Int) % 11 else (t - (n / 10 ^ i : Nat)) % 11 = (n : Int) % 11)
theorem Sums.start (n : Nat) : Sums n 0 0 0 := by simp [Sums]
theorem Sums.step {n i : Nat} {s t : Int} (h : Sums n i s t) (d : Int) (hd : d = (n / 10 ^ i % 10 : Nat)) : Sums n (i + 1) (s + d) (if i % 2 = 0 then t + d else t - d) := by
  obtain ⟨h1, h2, h3, h4, h5, h6⟩ := h
  have e : n / 10 ^ (i + 1) = n / 10 ^ i / 10 := by rw [Nat.pow_succ, Nat.div_div_eq_div_mul]
  unfold Sums
  rw [e]
  generalize n / 10 ^ i = q at *
  obtain ⟨a, ha⟩ : ∃ a : Nat, a = q / 10 := ⟨_, rfl⟩
  obtain ⟨b, hb⟩ : ∃ b : Nat, b = q % 10 := ⟨_, rfl⟩
  have hq : q = 10 * a + b := by omega
  have hb9 : b < 10 := by omega
  rw [← ha]
  rw [← hb] at hd
  subst hq hd
  clear ha hb e
  rcases Nat.mod_two_eq_zero_or_one i with hp | hp
  · rw [if_pos hp] at h6 ⊢
    rw [if_neg (by omega)]
    refine ⟨by omega, by omega, by omega, by omega, by omega, by omega⟩
  · rw [if_neg (by omega)] at h6 ⊢
    rw [if_pos (by omega)]
    refine ⟨by omega, by omega, by omega, by omega, by omega, by omega⟩
theorem Sums.done {n : Nat} {s t : Int} (h : Sums n (nd n) s t) : s % 9 = (n : Int) % 9 ∧ t % 11 = (n : Int) % 11 := by
  obtain ⟨h1, h2, h3, h4, h5, h6⟩ := h
  rw [Nat.div_eq_of_lt (lt_nd n)] at h5 h6
  split at h6 <;> exact ⟨by simpa using h5, by simpa using h6⟩

end Go.Proofs.YtekdidfpilbinaaDoor

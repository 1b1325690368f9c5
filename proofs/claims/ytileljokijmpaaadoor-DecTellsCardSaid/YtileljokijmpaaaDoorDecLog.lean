/- Decimal digits and limbs: powers of ten and of two; levels of pieces put together. -/
import Derived.KernelRfl
import Derived.Test.YtileljokijmpaaaDoorDecMath
import Derived.Test.YtileljokijmpaaaDoorPackO
namespace Go.Proofs.YtileljokijmpaaaDoor

theorem ble_le (p q : Nat) (h : Nat.ble (Nat.pow 10 p) (Nat.pow 2 q) = true) : 10 ^ p ≤ 2 ^ q := Nat.le_of_ble_eq_true h
theorem ble_le2 (p q : Nat) (h : Nat.ble (Nat.pow 2 q) (Nat.pow 10 p) = true) : 2 ^ q ≤ 10 ^ p := Nat.le_of_ble_eq_true h
theorem pw1 : ∃ p q : Nat, p = 97879 ∧ q = 325147 ∧ 10 ^ p ≤ 2 ^ q := ⟨97879, 325147, rfl, rfl, ble_le 97879 325147 (by kernel_rfl)⟩
theorem pw2 : ∃ p q : Nat, p = 789 ∧ q = 2621 ∧ 2 ^ q ≤ 10 ^ p := ⟨789, 2621, rfl, rfl, ble_le2 789 2621 (by kernel_rfl)⟩
/-- 10 to the power of (m times 0.30102999566) is not greater than 2 to the power of m. -/
theorem ten_two {m k : Nat} (h : k * 100000000000 ≤ m * 30102999566) : 10 ^ k ≤ 2 ^ m := by
  obtain ⟨p, q, hp, hq, hpq⟩ := pw1
  have h1 : k * q ≤ p * m := by
    have e1 : 30102999566 * q ≤ p * 100000000000 := by subst hp hq; decide
    have e2 : k * 100000000000 * q ≤ m * 30102999566 * q := Nat.mul_le_mul_right _ h
    have e3 : m * (30102999566 * q) ≤ m * (p * 100000000000) := Nat.mul_le_mul_left _ e1
    have e4 : k * q * 100000000000 ≤ p * m * 100000000000 := by
      calc k * q * 100000000000 = k * 100000000000 * q := by rw [Nat.mul_right_comm]
        _ ≤ m * 30102999566 * q := e2
        _ = m * (30102999566 * q) := Nat.mul_assoc _ _ _
        _ ≤ m * (p * 100000000000) := e3
        _ = p * m * 100000000000 := by rw [← Nat.mul_assoc, Nat.mul_comm m p]
    omega
  have hq0 : q ≠ 0 := by omega
  have h2 : (10 ^ k) ^ q ≤ (2 ^ m) ^ q := by
    calc (10 ^ k) ^ q = 10 ^ (k * q) := (Nat.pow_mul _ _ _).symm
      _ ≤ 10 ^ (p * m) := Nat.pow_le_pow_right (by decide) h1
      _ = (10 ^ p) ^ m := Nat.pow_mul _ _ _
      _ ≤ (2 ^ q) ^ m := Nat.pow_le_pow_left hpq m
      _ = (2 ^ m) ^ q := by rw [← Nat.pow_mul, ← Nat.pow_mul, Nat.mul_comm]
  exact (Nat.pow_le_pow_iff_left hq0).1 h2
theorem two_ten_of {m k : Nat} (h : 789 * m ≤ 2621 * k) : 2 ^ m ≤ 10 ^ k := by
  obtain ⟨p, q, hp, hq, hpq⟩ := pw2
  have h2 : p * m ≤ q * k := by subst hp hq; exact h
  have hp0 : q ≠ 0 := by omega
  have h3 : (2 ^ m) ^ q ≤ (10 ^ k) ^ q := by
    calc (2 ^ m) ^ q = (2 ^ q) ^ m := by rw [← Nat.pow_mul, ← Nat.pow_mul, Nat.mul_comm]
      _ ≤ (10 ^ p) ^ m := Nat.pow_le_pow_left hpq _
      _ = 10 ^ (p * m) := (Nat.pow_mul _ _ _).symm
      _ ≤ 10 ^ (q * k) := Nat.pow_le_pow_right (by decide) h2
      _ = (10 ^ k) ^ q := by rw [← Nat.pow_mul, Nat.mul_comm]
  exact (Nat.pow_le_pow_iff_left hp0).1 h3
/-- 2 to the power of m + 1 is not greater than 10 to the power of k + 2, where k is m times the logarithm's beginning, cut. -/
theorem two_ten {m k : Nat} (hm : m ≤ 2097152) (h : m * 30102999566 < (k + 1) * 100000000000) : 2 ^ (m + 1) ≤ 10 ^ (k + 2) :=
  two_ten_of (by omega)
theorem limb_pow (E : Nat) : 4294967296 ^ E = 2 ^ (32 * E) := by
  rw [Nat.pow_mul]
theorem ten_le {k E : Nat} (hE : E = 65536) (hk : k ≤ 631305) : 10 ^ k ≤ 4294967296 ^ E := by
  rw [limb_pow]
  exact ten_two (by omega)
theorem le_ten {k E : Nat} (hE : E = 65536) (hk : 631306 ≤ k) : 4294967296 ^ E ≤ 10 ^ k := by
  rw [limb_pow]
  exact two_ten_of (by omega)
/-- a number of so few digits is short -/
theorem ten_fits {n k : Nat} (hk : k ≤ 631305) (h : n < 10 ^ k) : (lim n).length ≤ 65536 := by
  obtain ⟨E, hE⟩ : ∃ E : Nat, E = 65536 := ⟨_, rfl⟩
  rw [← hE]
  exact lim_length_le.2 (Nat.lt_of_lt_of_le h (ten_le hE hk))
theorem ten_over {n k : Nat} (hk : 631306 ≤ k) (h : 10 ^ k ≤ n) : ¬ (lim n).length ≤ 65536 := by
  obtain ⟨E, hE⟩ : ∃ E : Nat, E = 65536 := ⟨_, rfl⟩
  rw [← hE, lim_length_le]
  have := le_ten hE hk
  omega
theorem may_lt {xs : List Nat} (hl : Limbs xs) (h : mayb xs = true) {k : Nat} (hk : 631306 ≤ k) : val xs < 10 ^ k := by
  obtain ⟨E, hE⟩ : ∃ E : Nat, E = 65536 := ⟨_, rfl⟩
  have h1 := val_lt hl
  have h2 : 4294967296 ^ xs.length ≤ 4294967296 ^ E := Nat.pow_le_pow_right (by decide) (by rw [hE]; exact (mayb_iff.1 h).1)
  exact Nat.lt_of_lt_of_le h1 (Nat.le_trans h2 (le_ten hE hk))
theorem nd_bits {n m k : Nat} (hn : blen n = m + 1) (hm : m ≤ 2097152) (h1 : k * 100000000000 ≤ m * 30102999566) (h2 : m * 30102999566 < (k + 1) * 100000000000) : k + 1 ≤ nd n ∧ nd n ≤ k + 2 := by
  have a : n < 2 ^ (m + 1) := blen_le.1 (by omega)
  have b : 2 ^ m ≤ n := by
    rcases Nat.lt_or_ge n (2 ^ m) with h | h
    · have := blen_le.2 h; omega
    · exact h
  exact ⟨nd_gt (Nat.le_trans (ten_two h1) b), nd_le (Nat.lt_of_lt_of_le a (two_ten hm h2)) (by omega)⟩
/-- a power of ten that is too long is greater than what may be -/
theorem clip_ten_nil {xs : List Nat} (hl : Limbs xs) (h : mayb xs = true) {u : Nat} (hu : u ≠ 0) (hc : clip u = []) : val xs < u := by
  rcases Nat.lt_or_ge (val xs) u with h1 | h1
  · exact h1
  · exfalso
    have hx := lim_val (mayb_canon hl h)
    have h2 : (lim u).length ≤ 65536 := by
      have := lim_length_le.1 (show (lim (val xs)).length ≤ (lim (val xs)).length from Nat.le_refl _)
      have h3 : (lim u).length ≤ (lim (val xs)).length := lim_length_le.2 (Nat.lt_of_le_of_lt h1 this)
      rw [hx] at h3
      have := (mayb_iff.1 h).1
      omega
    rw [clip_of h2, lim_eq_nil] at hc
    exact hu hc
theorem val_clip {u : Nat} (h : (lim u).length ≤ 65536) : val (clip u) = u := by rw [clip_of h, val_lim]

/-! ### pieces, put together two by two -/
theorem sSum_one {x : List Nat} {P : List Nat} (hx : mayb x = true) : sSum [x] [[1], P] = clip (val x) := by
  have h1 := (mayb_iff.1 hx).1
  have hL : longB x.length [1].length = false := (long_false (by simp; omega)).symm
  have hm1 : mayb [1] = true := by decide
  have hok : allOk [x] [[1], P] (min [x].length [[1], P].length) = true := by
    show allOk [x] [[1], P] 1 = true
    rw [allOk_succ]
    simp only [allOk, List.range_zero, List.all_nil, okAt, List.getElem?_cons_zero, Option.getD_some, hx, hm1, hL, Bool.not_false, Bool.and_true]
  rw [sSum_yes hok]
  show clip (dot [x] [[1], P] 1) = _
  simp [dot, val]
theorem sSum_two {x y P : List Nat} (hx : mayb x = true) (hy : mayb y = true) (hly : Limbs y) (hp : mayb P = true) (hlp : Limbs P) : sSum [x, y] [[1], P] = clip (val x + val y * val P) := by
  have h1 := (mayb_iff.1 hx).1
  have hL : longB x.length [1].length = false := (long_false (by simp; omega)).symm
  have hm1 : mayb [1] = true := by decide
  have e0 : okAt [x, y] [[1], P] 0 = true := by
    simp only [okAt, List.getElem?_cons_zero, Option.getD_some, hx, hm1, hL, Bool.not_false, Bool.and_true]
  have hd : dot [x, y] [[1], P] 2 = val x + val y * val P := by simp [dot, val]
  rcases hL2 : longB y.length P.length with _ | _
  · have e1 : okAt [x, y] [[1], P] 1 = true := by
      simp only [okAt, List.getElem?_cons_succ, List.getElem?_cons_zero, Option.getD_some, hy, hp, hL2, Bool.not_false, Bool.and_true]
    have hok : allOk [x, y] [[1], P] 2 = true := by
      rw [allOk_succ, allOk_succ, e0, e1]
      simp [allOk]
    rw [sSum_yes (show allOk [x, y] [[1], P] (min [x, y].length [[1], P].length) = true from hok)]
    show clip (dot [x, y] [[1], P] 2) = _
    rw [hd]
  · have e1 : okAt [x, y] [[1], P] 1 = false := by
      simp only [okAt, List.getElem?_cons_succ, List.getElem?_cons_zero, Option.getD_some, hy, hp, hL2, Bool.not_true, Bool.and_false]
    rw [sSum_no (k := 1) (by show 1 < 2; decide) e1]
    have h0 := long_clip (mayb_canon hly hy) (mayb_canon hlp hp) hL2
    have hne : val y * val P ≠ 0 := by
      unfold longB at hL2
      have hh := of_decide_eq_true hL2
      have p1 := (mayb_canon hly hy).val_pos (fun e => by rw [e] at hh; simp at hh)
      have p2 := (mayb_canon hlp hp).val_pos (fun e => by rw [e] at hh; simp at hh)
      exact Nat.ne_of_gt (Nat.mul_pos p1 p2)
    refine (clip_not ?_).symm
    intro hle
    have h3 : (lim (val y * val P)).length ≤ 65536 := by
      obtain ⟨E, hE⟩ : ∃ E : Nat, E = 65536 := ⟨_, rfl⟩
      rw [← hE] at hle ⊢
      rw [lim_length_le] at hle ⊢
      omega
    rw [clip_of h3, lim_eq_nil] at h0
    exact hne h0
/-- the numbers of pieces of W digits of N, the last piece first -/
def lev (N W c : Nat) : List (List Nat) := (List.range c).map fun j => clip (N / 10 ^ (j * W) % 10 ^ W)
/-- each two neighbours, the second one times P -/
def jbt (L : List (List Nat)) (P : List Nat) : List (List Nat) := (List.range ((L.length + 1) / 2)).map fun j => sSum ((L.drop (2 * j)).take 2) [[1], P]
theorem lev_length (N W c : Nat) : (lev N W c).length = c := by simp [lev]
theorem lev_at {N W c j : Nat} (h : j < c) : (lev N W c)[j]? = some (clip (N / 10 ^ (j * W) % 10 ^ W)) := by
  unfold lev; rw [List.getElem?_map, List.getElem?_range h]; rfl
theorem take_two {L : List (List Nat)} {i : Nat} (h : i + 1 < L.length) : (L.drop i).take 2 = [L[i]?.getD [], L[i + 1]?.getD []] := by
  rw [List.drop_eq_getElem_cons (Nat.lt_of_succ_lt h), List.drop_eq_getElem_cons h, List.getElem?_eq_getElem h, List.getElem?_eq_getElem (Nat.lt_of_succ_lt h)]
  rfl
theorem take_last {L : List (List Nat)} {i : Nat} (h : i + 1 = L.length) : (L.drop i).take 2 = [L[i]?.getD []] := by
  rw [List.drop_eq_getElem_cons (by omega), List.drop_eq_nil_of_le (by omega)]
  simp [List.getElem?_eq_getElem (show i < L.length by omega)]
theorem jbt_lev {N W c : Nat} (hfit : ∀ j, j < c → (lim (N / 10 ^ (j * W) % 10 ^ W)).length ≤ 65536) (hN : N < 10 ^ (c * W)) (hP : 1 < c → (lim (10 ^ W)).length ≤ 65536) : jbt (lev N W c) (clip (10 ^ W)) = lev N (2 * W) ((c + 1) / 2) := by
  unfold jbt
  rw [lev_length]
  show _ = (List.range ((c + 1) / 2)).map _
  refine List.map_congr_left fun j hj => ?_
  have hj := List.mem_range.1 hj
  have e1 : j * (2 * W) = 2 * j * W := by rw [← Nat.mul_assoc, Nat.mul_comm j 2]
  have e2 : 10 ^ (2 * W) = 10 ^ W * 10 ^ W := by rw [Nat.two_mul, Nat.pow_add]
  rcases Nat.lt_or_ge (2 * j + 1) c with h | h
  · rw [take_two (by rw [lev_length]; exact h), lev_at (by omega), lev_at h]
    show sSum [clip _, clip _] _ = _
    rw [sSum_two (clip_may _) (clip_may _) (clip_limbs _) (clip_may _) (clip_limbs _), val_clip (hfit _ (by omega)), val_clip (hfit _ h), val_clip (hP (by omega)), e1, e2, Nat.mod_mul, Nat.div_div_eq_div_mul, ← Nat.pow_add, Nat.mul_comm (10 ^ W), Nat.add_mul (2 * j) 1 W, Nat.one_mul]
  · have hc : 2 * j + 1 = c := by omega
    rw [take_last (by rw [lev_length]; exact hc), lev_at (by omega)]
    show sSum [clip _] _ = _
    rw [sSum_one (clip_may _), val_clip (hfit _ (by omega)), e1, e2, Nat.mod_mul]
    have : N / 10 ^ (2 * j * W) < 10 ^ W := by
      refine Nat.div_lt_of_lt_mul ?_
      rw [← Nat.pow_add, ← Nat.succ_mul, Nat.succ_eq_add_one, hc]
      exact hN
    rw [Nat.div_eq_of_lt this, Nat.zero_mod, Nat.mul_zero, Nat.add_zero]

end Go.Proofs.YtileljokijmpaaaDoor

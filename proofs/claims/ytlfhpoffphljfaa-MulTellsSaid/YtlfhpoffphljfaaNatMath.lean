/- Plain mathematics of naturals by limbs of 32 bits: lists of numbers and the natural that they are. Imports nothing of the program. -/
import Derived.Below
namespace Go.Proofs.Ytlfhpoffphljfaa

/-- The natural of limbs, the least one first. -/
def val : List Nat → Nat
  | [] => 0
  | x :: r => x + 4294967296 * val r

def Limbs (xs : List Nat) : Prop := ∀ x ∈ xs, x < 4294967296

theorem limbs_nil : Limbs [] := fun _ h => by cases h
theorem Limbs.cons {x : Nat} {r : List Nat} (hx : x < 4294967296) (h : Limbs r) : Limbs (x :: r) := fun y hy => by
  rcases List.mem_cons.1 hy with rfl | h'
  · exact hx
  · exact h y h'
theorem Limbs.head {x : Nat} {r : List Nat} (h : Limbs (x :: r)) : x < 4294967296 := h x (by simp)
theorem Limbs.tail {x : Nat} {r : List Nat} (h : Limbs (x :: r)) : Limbs r := fun y hy => h y (by simp [hy])
theorem Limbs.append {xs ys : List Nat} (h : Limbs xs) (k : Limbs ys) : Limbs (xs ++ ys) := fun y hy => by
  rcases List.mem_append.1 hy with h' | h'
  · exact h y h'
  · exact k y h'
theorem Limbs.take {xs : List Nat} (h : Limbs xs) (k : Nat) : Limbs (xs.take k) := fun y hy => h y (List.mem_of_mem_take hy)
theorem Limbs.drop {xs : List Nat} (h : Limbs xs) (k : Nat) : Limbs (xs.drop k) := fun y hy => h y (List.mem_of_mem_drop hy)
theorem Limbs.getD {xs : List Nat} (h : Limbs xs) (j : Nat) : xs[j]?.getD 0 < 4294967296 := by
  rcases Nat.lt_or_ge j xs.length with hj | hj
  · rw [List.getElem?_eq_getElem hj]; exact h _ (List.getElem_mem hj)
  · rw [List.getElem?_eq_none hj]; decide
theorem Limbs.one {x : Nat} (hx : x < 4294967296) : Limbs [x] := limbs_nil.cons hx
theorem limbs_replicate (k : Nat) : Limbs (List.replicate k 0) := fun y hy => by rw [(List.mem_replicate.1 hy).2]; decide

theorem val_append (xs ys : List Nat) : val (xs ++ ys) = val xs + 4294967296 ^ xs.length * val ys := by
  induction xs with
  | nil => simp [val]
  | cons x r ih => simp only [List.cons_append, val, ih, List.length_cons, Nat.pow_succ, Nat.mul_add]; rw [Nat.mul_comm (4294967296 ^ r.length) 4294967296, Nat.mul_assoc]; omega
theorem val_snoc (xs : List Nat) (x : Nat) : val (xs ++ [x]) = val xs + 4294967296 ^ xs.length * x := by rw [val_append]; simp [val]
theorem val_lt {xs : List Nat} (h : Limbs xs) : val xs < 4294967296 ^ xs.length := by
  induction xs with
  | nil => simp [val]
  | cons x r ih =>
    have := ih h.tail
    have hx := h.head
    simp only [val, List.length_cons, Nat.pow_succ]
    have : 4294967296 * (val r + 1) ≤ 4294967296 * 4294967296 ^ r.length := Nat.mul_le_mul_left _ this
    rw [Nat.mul_comm (4294967296 ^ r.length)]
    omega
theorem val_replicate (k : Nat) : val (List.replicate k 0) = 0 := by
  induction k with
  | zero => rfl
  | succ k ih => simp [List.replicate_succ, val, ih]
theorem val_take_succ (xs : List Nat) (k : Nat) : val (xs.take (k + 1)) = val (xs.take k) + 4294967296 ^ k * (xs[k]?.getD 0) := by
  rcases Nat.lt_or_ge k xs.length with hk | hk
  · rw [List.take_succ_eq_append_getElem hk, val_snoc, List.getElem?_eq_getElem hk, List.length_take, Nat.min_eq_left (by omega)]; rfl
  · rw [List.take_of_length_le (by omega), List.take_of_length_le hk, List.getElem?_eq_none hk]; simp
theorem val_zero_of_all {xs : List Nat} (h : ∀ j, j < xs.length → xs[j]?.getD 0 = 0) : val xs = 0 := by
  induction xs with
  | nil => rfl
  | cons x r ih =>
    have h0 := h 0 (by simp)
    have := ih fun j hj => by have := h (j + 1) (by simp; omega); simpa using this
    simp at h0
    simp [val, h0, this]

/-- Canonical: the last limb is not 0. -/
def Canon (xs : List Nat) : Prop := Limbs xs ∧ xs.getLast? ≠ some 0

theorem canon_nil : Canon [] := ⟨limbs_nil, by simp⟩
theorem Canon.tail {x : Nat} {r : List Nat} (h : Canon (x :: r)) : Canon r := by
  refine ⟨h.1.tail, ?_⟩
  cases r with
  | nil => simp
  | cons y s => have := h.2; simpa [List.getLast?_cons_cons] using this
theorem Canon.val_pos {xs : List Nat} (h : Canon xs) (hn : xs ≠ []) : 0 < val xs := by
  induction xs with
  | nil => exact absurd rfl hn
  | cons x r ih =>
    cases r with
    | nil => have := h.2; simp [val] at this ⊢; omega
    | cons y s => have := ih h.tail (by simp); simp only [val] at this ⊢; omega
theorem canon_inj : ∀ {xs ys : List Nat}, Canon xs → Canon ys → val xs = val ys → xs = ys
  | [], [], _, _, _ => rfl
  | [], y :: s, _, h, e => by have := h.val_pos (by simp); simp [val] at e this; omega
  | x :: r, [], h, _, e => by have := h.val_pos (by simp); simp [val] at e this; omega
  | x :: r, y :: s, h, k, e => by
    have hx := h.1.head; have hy := k.1.head
    simp only [val] at e
    obtain rfl : x = y := by omega
    rw [canon_inj h.tail k.tail (by omega)]

/-- The limbs of a natural. -/
def lim (n : Nat) : List Nat := if h : n = 0 then [] else n % 4294967296 :: lim (n / 4294967296)
termination_by n
decreasing_by exact Nat.div_lt_self (by omega) (by decide)

theorem lim_zero : lim 0 = [] := by rw [lim]; rfl
theorem lim_pos {n : Nat} (h : n ≠ 0) : lim n = n % 4294967296 :: lim (n / 4294967296) := by rw [lim, dif_neg h]
theorem val_lim (n : Nat) : val (lim n) = n := by
  induction n using Nat.strongRecOn with
  | ind n ih =>
    by_cases h : n = 0
    · subst h; rw [lim_zero]; rfl
    · rw [lim_pos h, val, ih _ (Nat.div_lt_self (by omega) (by decide))]; omega
theorem canon_lim (n : Nat) : Canon (lim n) := by
  induction n using Nat.strongRecOn with
  | ind n ih =>
    by_cases h : n = 0
    · subst h; rw [lim_zero]; exact canon_nil
    · have hc := ih _ (Nat.div_lt_self (n := n) (k := 4294967296) (by omega) (by decide))
      rw [lim_pos h]
      refine ⟨hc.1.cons (Nat.mod_lt _ (by decide)), ?_⟩
      by_cases h2 : n / 4294967296 = 0
      · rw [h2, lim_zero]; simp; omega
      · rw [lim_pos h2] at hc ⊢; rw [List.getLast?_cons_cons]; exact hc.2
theorem lim_val {xs : List Nat} (h : Canon xs) : lim (val xs) = xs := canon_inj (canon_lim _) h (val_lim _)
theorem lim_limbs (n : Nat) : Limbs (lim n) := (canon_lim n).1
theorem lim_eq_nil {n : Nat} : lim n = [] ↔ n = 0 := ⟨fun h => by rw [← val_lim n, h]; rfl, fun h => by rw [h]; exact lim_zero⟩
theorem lim_inj {n m : Nat} (h : lim n = lim m) : n = m := by rw [← val_lim n, h, val_lim]
theorem canon_val_ge {xs : List Nat} (h : Canon xs) (hn : xs ≠ []) : 4294967296 ^ (xs.length - 1) ≤ val xs := by
  induction xs with
  | nil => exact absurd rfl hn
  | cons x r ih =>
    cases r with
    | nil => have := h.val_pos (by simp); simp; omega
    | cons y s =>
      have := ih h.tail (by simp)
      simp only [val, List.length_cons, Nat.add_sub_cancel] at this ⊢
      rw [Nat.pow_succ, Nat.mul_comm]
      have := Nat.mul_le_mul_left 4294967296 this
      omega
theorem lim_length_le {n k : Nat} : (lim n).length ≤ k ↔ n < 4294967296 ^ k := by
  constructor
  · intro h
    have := val_lt (lim_limbs n)
    rw [val_lim] at this
    exact Nat.lt_of_lt_of_le this (Nat.pow_le_pow_right (by decide) h)
  · intro h
    by_cases h0 : n = 0
    · subst h0; rw [lim_zero]; simp
    · have hn : lim n ≠ [] := fun e => h0 (lim_eq_nil.1 e)
      have := canon_val_ge (canon_lim n) hn
      rw [val_lim] at this
      have h2 := Nat.lt_of_le_of_lt this h
      have := (Nat.pow_lt_pow_iff_right (a := 4294967296) (by decide)).1 h2
      have : 0 < (lim n).length := List.length_pos_iff.2 hn
      omega

/-- The limbs of a natural, if there are not too many: else none. -/
def clip (n : Nat) : List Nat := if (lim n).length ≤ 65536 then lim n else []
def mayb (xs : List Nat) : Bool := decide (xs.length ≤ 65536 ∧ xs.getLast? ≠ some 0)

theorem mayb_iff {xs : List Nat} : mayb xs = true ↔ xs.length ≤ 65536 ∧ xs.getLast? ≠ some 0 := by simp [mayb]
theorem mayb_nil : mayb [] = true := by simp [mayb]
theorem mayb_canon {xs : List Nat} (h : Limbs xs) (hm : mayb xs = true) : Canon xs := ⟨h, (mayb_iff.1 hm).2⟩
theorem mayb_lim {n : Nat} (h : (lim n).length ≤ 65536) : mayb (lim n) = true := mayb_iff.2 ⟨h, (canon_lim n).2⟩
theorem clip_may (n : Nat) : mayb (clip n) = true := by
  unfold clip; split
  · exact mayb_lim ‹_›
  · exact mayb_nil
theorem clip_limbs (n : Nat) : Limbs (clip n) := by
  unfold clip; split
  · exact lim_limbs n
  · exact limbs_nil
theorem clip_of {n : Nat} (h : (lim n).length ≤ 65536) : clip n = lim n := if_pos h
theorem clip_not {n : Nat} (h : ¬ (lim n).length ≤ 65536) : clip n = [] := if_neg h
theorem clip_val {xs : List Nat} (h : Limbs xs) (hm : mayb xs = true) : clip (val xs) = xs := by
  have e := lim_val (mayb_canon h hm)
  rw [clip_of (by rw [e]; exact (mayb_iff.1 hm).1), e]
theorem clip_length (n : Nat) : (clip n).length ≤ 65536 := (mayb_iff.1 (clip_may n)).1

/-- What is left without 0s behind is the natural's limbs. -/
theorem trim_spec {xs : List Nat} (h : Limbs xs) {k : Nat} (hk : k ≤ xs.length) (hz : ∀ j, k ≤ j → j < xs.length → xs[j]?.getD 0 = 0) (hl : k = 0 ∨ xs[k - 1]?.getD 0 ≠ 0) : lim (val xs) = xs.take k := by
  have hv : val xs = val (xs.take k) := by
    conv => lhs; rw [← List.take_append_drop k xs, val_append]
    rw [val_zero_of_all (xs := xs.drop k) (fun j hj => by rw [List.getElem?_drop]; exact hz _ (by omega) (by simp at hj; omega))]
    simp
  rw [hv]
  refine lim_val ⟨h.take k, ?_⟩
  rcases hl with rfl | hl
  · simp
  · rw [List.getLast?_eq_getElem?, List.length_take, Nat.min_eq_left hk]
    intro e
    rcases Nat.eq_zero_or_pos k with h0 | h0
    · subst h0; simp at e
    · rw [List.getElem?_take, if_pos (by omega)] at e
      rw [e] at hl; exact hl rfl

theorem lim_val_take {xs : List Nat} (h : Limbs xs) : ∃ k, k ≤ xs.length ∧ lim (val xs) = xs.take k := by
  induction xs with
  | nil => exact ⟨0, Nat.le_refl _, by simp [val, lim_zero]⟩
  | cons x r ih =>
    obtain ⟨k, hk, e⟩ := ih h.tail
    by_cases h0 : val (x :: r) = 0
    · exact ⟨0, by simp, by rw [h0, lim_zero]; rfl⟩
    · refine ⟨k + 1, by simp; omega, ?_⟩
      have hx := h.head
      rw [lim_pos h0, List.take_succ_cons, ← e, val]
      congr 1
      · omega
      · congr 1; omega

/-! ### how two stand -/
theorem val_split (xs : List Nat) (k : Nat) : val xs = val (xs.take k) + 4294967296 ^ (min k xs.length) * val (xs.drop k) := by
  conv => lhs; rw [← List.take_append_drop k xs, val_append, List.length_take]
theorem val_at {xs : List Nat} {k : Nat} (hk : k < xs.length) : val xs = val (xs.take k) + 4294967296 ^ k * (xs[k]?.getD 0 + 4294967296 * val (xs.drop (k + 1))) := by
  rw [val_split xs k, Nat.min_eq_left (by omega), List.drop_eq_getElem_cons hk, List.getElem?_eq_getElem hk]; rfl
theorem drop_congr {xs ys : List Nat} {k : Nat} (hl : xs.length = ys.length) (h : ∀ j, k ≤ j → j < xs.length → xs[j]?.getD 0 = ys[j]?.getD 0) : xs.drop k = ys.drop k := by
  apply List.ext_getElem
  · simp [hl]
  · intro j h1 h2
    have h3 : k + j < xs.length := by simp at h1; omega
    have := h (k + j) (by omega) h3
    rw [List.getElem?_eq_getElem h3, List.getElem?_eq_getElem (by omega)] at this
    simpa using this
theorem val_lt_at {xs ys : List Nat} {k : Nat} (hx : Limbs xs) (hl : xs.length = ys.length) (hk : k < xs.length) (h : ∀ j, k + 1 ≤ j → j < xs.length → xs[j]?.getD 0 = ys[j]?.getD 0) (hlt : xs[k]?.getD 0 < ys[k]?.getD 0) : val xs < val ys := by
  rw [val_at hk, val_at (xs := ys) (k := k) (by omega), drop_congr hl h]
  have h1 := val_lt (hx.take k)
  rw [List.length_take, Nat.min_eq_left (by omega)] at h1
  have h2 : 4294967296 ^ k * (xs[k]?.getD 0 + 4294967296 * val (ys.drop (k + 1)) + 1) ≤ 4294967296 ^ k * (ys[k]?.getD 0 + 4294967296 * val (ys.drop (k + 1))) := Nat.mul_le_mul_left _ (by omega)
  rw [Nat.mul_add, Nat.mul_one] at h2
  omega
theorem val_lt_len {xs ys : List Nat} (hx : Limbs xs) (hy : Canon ys) (h : xs.length < ys.length) : val xs < val ys := by
  have h1 := val_lt hx
  have h2 := canon_val_ge hy (fun e => by subst e; simp at h)
  have h3 : 4294967296 ^ xs.length ≤ 4294967296 ^ (ys.length - 1) := Nat.pow_le_pow_right (by decide) (by omega)
  omega

def cmpN (a b : Nat) : Int := if a < b then -1 else if b < a then 1 else 0
theorem cmpN_lt {a b : Nat} (h : a < b) : cmpN a b = -1 := by unfold cmpN; rw [if_pos h]
theorem cmpN_gt {a b : Nat} (h : b < a) : cmpN a b = 1 := by unfold cmpN; rw [if_neg (by omega), if_pos h]
theorem cmpN_eq {a b : Nat} (h : a = b) : cmpN a b = 0 := by unfold cmpN; rw [if_neg (by omega), if_neg (by omega)]
def sCmp (xs ys : List Nat) : Int := if mayb xs && mayb ys then cmpN (val xs) (val ys) else 0
theorem sCmp_no {xs ys : List Nat} (h : (mayb xs && mayb ys) = false) : sCmp xs ys = 0 := by unfold sCmp; rw [h]; rfl
theorem sCmp_yes {xs ys : List Nat} (h : (mayb xs && mayb ys) = true) : sCmp xs ys = cmpN (val xs) (val ys) := by unfold sCmp; rw [h]; rfl

end Go.Proofs.Ytlfhpoffphljfaa

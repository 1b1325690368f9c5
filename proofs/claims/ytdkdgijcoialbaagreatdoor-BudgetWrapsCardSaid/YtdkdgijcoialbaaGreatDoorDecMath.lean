/- Decimal digits: the mathematics. A text is a list of codes (48 to 57). -/
import Derived.Test.YtdkdgijcoialbaaGreatDoorPackN
namespace Go.Proofs.YtdkdgijcoialbaaGreatDoor

/-- the number that a list of digits tells, the first digit the highest -/
def dv (L : List Nat) : Nat := L.foldl (fun a c => 10 * a + (c - 48)) 0
def AllD (L : List Nat) : Prop := ∀ c ∈ L, 48 ≤ c ∧ c ≤ 57
instance (L : List Nat) : Decidable (AllD L) := by unfold AllD; infer_instance
/-- a natural's text? -/
def isT (L : List Nat) : Bool := decide (AllD L ∧ L ≠ [] ∧ (L.head? = some 48 → L.length = 1))
/-- the last k digits, 0s ahead -/
def pad (n : Nat) : Nat → List Nat
  | 0 => []
  | k + 1 => pad (n / 10) k ++ [48 + n % 10]
/-- how many digits -/
def nd (n : Nat) : Nat := if h : n < 10 then 1 else nd (n / 10) + 1
/-- a natural's text -/
def txt (n : Nat) : List Nat := pad n (nd n)

theorem dv_from : ∀ (L : List Nat) (a : Nat), L.foldl (fun a c => 10 * a + (c - 48)) a = a * 10 ^ L.length + dv L
  | [], a => by simp [dv]
  | c :: L, a => by
    unfold dv
    rw [List.foldl_cons, List.foldl_cons, dv_from L, dv_from L (10 * 0 + (c - 48)), List.length_cons, Nat.pow_succ]
    simp only [Nat.mul_zero, Nat.zero_add, Nat.add_mul]
    rw [Nat.mul_comm 10 a, Nat.mul_assoc, Nat.mul_comm 10 (10 ^ L.length), Nat.add_assoc]
theorem dv_append (A B : List Nat) : dv (A ++ B) = dv A * 10 ^ B.length + dv B := by
  show (A ++ B).foldl _ 0 = _
  rw [List.foldl_append, dv_from B]; rfl
theorem dv_nil : dv [] = 0 := rfl
theorem dv_one (c : Nat) : dv [c] = c - 48 := by simp [dv]
theorem dv_snoc (A : List Nat) (c : Nat) : dv (A ++ [c]) = 10 * dv A + (c - 48) := by
  rw [dv_append, dv_one, List.length_singleton, Nat.pow_one, Nat.mul_comm]
theorem AllD.append {A B : List Nat} (h : AllD A) (k : AllD B) : AllD (A ++ B) := fun c hc => by
  rcases List.mem_append.1 hc with hc | hc
  · exact h c hc
  · exact k c hc
theorem AllD.take {A : List Nat} (h : AllD A) (k : Nat) : AllD (A.take k) := fun c hc => h c (List.mem_of_mem_take hc)
theorem AllD.drop {A : List Nat} (h : AllD A) (k : Nat) : AllD (A.drop k) := fun c hc => h c (List.mem_of_mem_drop hc)
theorem AllD.left {A B : List Nat} (h : AllD (A ++ B)) : AllD A := fun c hc => h c (List.mem_append.2 (.inl hc))
theorem AllD.right {A B : List Nat} (h : AllD (A ++ B)) : AllD B := fun c hc => h c (List.mem_append.2 (.inr hc))
theorem alld_nil : AllD [] := fun _ h => by cases h
theorem alld_zeros (k : Nat) : AllD (List.replicate k 48) := fun c hc => by rw [(List.mem_replicate.1 hc).2]; omega
theorem dv_zeros (k : Nat) : dv (List.replicate k 48) = 0 := by
  induction k with
  | zero => rfl
  | succ k ih => rw [List.replicate_succ', dv_snoc, ih]
theorem snocInd {P : List Nat → Prop} (h0 : P []) (h1 : ∀ A c, P A → P (A ++ [c])) (L : List Nat) : P L := by
  have : ∀ M : List Nat, P M.reverse := fun M => by
    induction M with
    | nil => exact h0
    | cons c M ih => rw [List.reverse_cons]; exact h1 _ _ ih
  have h2 := this L.reverse
  rwa [List.reverse_reverse] at h2
theorem dv_lt {L : List Nat} (h : AllD L) : dv L < 10 ^ L.length := by
  induction L using snocInd with
  | h0 => simp [dv]
  | h1 A c ih =>
    have h1 := ih h.left
    have h2 := h.right c (by simp)
    rw [dv_snoc, List.length_append, List.length_singleton, Nat.pow_succ]
    omega
theorem pad_length (n k : Nat) : (pad n k).length = k := by
  induction k generalizing n with
  | zero => rfl
  | succ k ih => simp [pad, ih]
theorem pad_alld (n k : Nat) : AllD (pad n k) := by
  induction k generalizing n with
  | zero => exact alld_nil
  | succ k ih => exact (ih _).append (fun c hc => by rw [List.mem_singleton.1 hc]; omega)
theorem dv_pad (n k : Nat) : dv (pad n k) = n % 10 ^ k := by
  induction k generalizing n with
  | zero => simp [pad, dv, Nat.mod_one]
  | succ k ih =>
    rw [pad, dv_snoc, ih, Nat.add_sub_cancel_left, Nat.pow_succ, Nat.mul_comm (10 ^ k) 10, Nat.mod_mul, Nat.add_comm]
theorem pad_dv {L : List Nat} (h : AllD L) : pad (dv L) L.length = L := by
  induction L using snocInd with
  | h0 => rfl
  | h1 A c ih =>
    have h1 := ih h.left
    have h2 := h.right c (by simp)
    rw [List.length_append, List.length_singleton, pad, dv_snoc]
    rw [show (10 * dv A + (c - 48)) / 10 = dv A from by omega, show 48 + (10 * dv A + (c - 48)) % 10 = c from by omega, h1]
theorem dv_inj {A B : List Nat} (hA : AllD A) (hB : AllD B) (hl : A.length = B.length) (h : dv A = dv B) : A = B := by
  rw [← pad_dv hA, ← pad_dv hB, hl, h]
theorem pad_mod (n k : Nat) : pad (n % 10 ^ k) k = pad n k := by
  refine dv_inj (pad_alld _ _) (pad_alld _ _) (by rw [pad_length, pad_length]) ?_
  rw [dv_pad, dv_pad, Nat.mod_mod]
theorem pad_add (n a b : Nat) : pad n (a + b) = pad (n / 10 ^ b) a ++ pad n b := by
  refine dv_inj (pad_alld _ _) ((pad_alld _ _).append (pad_alld _ _)) (by simp [pad_length]) ?_
  rw [dv_append, dv_pad, dv_pad, dv_pad, pad_length, Nat.add_comm a b, Nat.pow_add, Nat.mod_mul, Nat.add_comm, Nat.mul_comm]
theorem pad_zero (k : Nat) : pad 0 k = List.replicate k 48 := by
  refine dv_inj (pad_alld _ _) (alld_zeros k) (by simp [pad_length]) ?_
  rw [dv_pad, dv_zeros, Nat.zero_mod]
theorem pad_low {n k : Nat} (h : n < 10 ^ k) (a : Nat) : pad n (a + k) = List.replicate a 48 ++ pad n k := by
  rw [pad_add, Nat.div_eq_of_lt h, pad_zero]

theorem nd_small {n : Nat} (h : n < 10) : nd n = 1 := by rw [nd, dif_pos h]
theorem nd_big {n : Nat} (h : 10 ≤ n) : nd n = nd (n / 10) + 1 := by rw [nd, dif_neg (by omega)]
theorem nd_pos (n : Nat) : 0 < nd n := by rw [nd]; split <;> omega
theorem lt_nd (n : Nat) : n < 10 ^ nd n := by
  induction n using Nat.strongRecOn with
  | _ n ih =>
    rcases Nat.lt_or_ge n 10 with h | h
    · rw [nd_small h]; omega
    · have := ih (n / 10) (by omega)
      rw [nd_big h, Nat.pow_succ]
      omega
theorem nd_ge {n : Nat} (h : n ≠ 0) : 10 ^ (nd n - 1) ≤ n := by
  induction n using Nat.strongRecOn with
  | _ n ih =>
    rcases Nat.lt_or_ge n 10 with h1 | h1
    · rw [nd_small h1]; omega
    · have := ih (n / 10) (by omega) (by omega)
      have hp := nd_pos (n / 10)
      rw [nd_big h1, Nat.add_sub_cancel]
      obtain ⟨m, hm⟩ : ∃ m, nd (n / 10) = m + 1 := ⟨nd (n / 10) - 1, by omega⟩
      rw [hm, Nat.add_sub_cancel] at this
      rw [hm, Nat.pow_succ]
      omega
theorem nd_unique {n k : Nat} (h1 : n < 10 ^ k) (h2 : 10 ^ (k - 1) ≤ n) (hk : 0 < k) : nd n = k := by
  have h3 := lt_nd n
  have hn : n ≠ 0 := by
    have : 0 < 10 ^ (k - 1) := Nat.pow_pos (by decide)
    omega
  have h4 := nd_ge hn
  have h5 := nd_pos n
  have a := (Nat.pow_lt_pow_iff_right (a := 10) (by decide)).1 (Nat.lt_of_le_of_lt h4 h1)
  have b := (Nat.pow_lt_pow_iff_right (a := 10) (by decide)).1 (Nat.lt_of_le_of_lt h2 h3)
  omega
theorem nd_zero : nd 0 = 1 := nd_small (by decide)
theorem nd_le {n k : Nat} (h : n < 10 ^ k) (hk : 0 < k) : nd n ≤ k := by
  rcases Nat.eq_zero_or_pos n with rfl | hn
  · rw [nd_zero]; omega
  · have h4 := nd_ge (n := n) (by omega)
    have a := (Nat.pow_lt_pow_iff_right (a := 10) (by decide)).1 (Nat.lt_of_le_of_lt h4 h)
    omega
theorem nd_gt {n k : Nat} (h : 10 ^ k ≤ n) : k < nd n :=
  (Nat.pow_lt_pow_iff_right (a := 10) (by decide)).1 (Nat.lt_of_le_of_lt h (lt_nd n))
theorem lt_of_nd {n k : Nat} (h : nd n ≤ k) : n < 10 ^ k := Nat.lt_of_lt_of_le (lt_nd n) (Nat.pow_le_pow_right (by decide) h)

theorem txt_length (n : Nat) : (txt n).length = nd n := pad_length _ _
theorem txt_alld (n : Nat) : AllD (txt n) := pad_alld _ _
theorem dv_txt (n : Nat) : dv (txt n) = n := by rw [txt, dv_pad, Nat.mod_eq_of_lt (lt_nd n)]
theorem txt_zero : txt 0 = [48] := by rw [txt, nd_zero]; rfl
theorem txt_ne (n : Nat) : txt n ≠ [] := fun h => by
  have := txt_length n
  rw [h] at this
  have := nd_pos n
  simp at *
  omega
theorem head_digit {n k : Nat} : (pad n (k + 1)).head? = some (48 + n / 10 ^ k % 10) := by
  induction k generalizing n with
  | zero => simp [pad]
  | succ k ih =>
    rw [pad, List.head?_append, ih, Nat.div_div_eq_div_mul, Nat.pow_succ, Nat.mul_comm 10]; rfl
theorem isT_iff {L : List Nat} : isT L = true ↔ AllD L ∧ L ≠ [] ∧ (L.head? = some 48 → L.length = 1) := by unfold isT; rw [decide_eq_true_iff]
theorem txt_isT (n : Nat) : isT (txt n) = true := by
  refine isT_iff.2 ⟨txt_alld n, txt_ne n, fun h => ?_⟩
  rw [txt_length]
  rcases Nat.lt_or_ge n 10 with h1 | h1
  · exact nd_small h1
  · exfalso
    have h2 := nd_ge (n := n) (by omega)
    have h3 := lt_nd n
    obtain ⟨k, hk⟩ : ∃ k, nd n = k + 1 := ⟨nd n - 1, by have := nd_pos n; omega⟩
    rw [hk] at h2 h3
    rw [txt, hk, head_digit] at h
    rw [Nat.add_sub_cancel] at h2
    have h4 : n / 10 ^ k < 10 := Nat.div_lt_of_lt_mul (by rw [Nat.pow_succ, Nat.mul_comm] at h3; omega)
    have h5 : 1 ≤ n / 10 ^ k := (Nat.le_div_iff_mul_le (Nat.pow_pos (by decide))).2 (by omega)
    injection h with h
    omega
/-- A text is its number's. -/
theorem isT_txt {L : List Nat} (h : isT L = true) : txt (dv L) = L := by
  obtain ⟨h1, h2, h3⟩ := isT_iff.1 h
  have hl : 0 < L.length := List.length_pos_iff.2 h2
  have hnd : nd (dv L) = L.length := by
    by_cases hz : L.head? = some 48
    · have hl1 := h3 hz
      have := dv_lt h1
      rw [hl1] at this ⊢
      exact nd_small (by omega)
    · refine nd_unique (dv_lt h1) ?_ hl
      obtain ⟨c, R, rfl⟩ := List.exists_cons_of_ne_nil h2
      have hc := h1 c (by simp)
      have hc' : c ≠ 48 := fun e => hz (by rw [e]; rfl)
      rw [show c :: R = [c] ++ R from rfl, dv_append, dv_one, List.length_append, List.length_singleton, Nat.add_sub_cancel_left]
      have : 1 * 10 ^ R.length ≤ (c - 48) * 10 ^ R.length := Nat.mul_le_mul_right _ (by omega)
      omega
  rw [txt, hnd, pad_dv h1]
theorem isT_pos {L : List Nat} (h : isT L = true) (h0 : L ≠ [48]) : 0 < dv L := by
  rcases Nat.eq_zero_or_pos (dv L) with h1 | h1
  · exfalso
    have := isT_txt h
    rw [h1, txt_zero] at this
    exact h0 this.symm
  · exact h1
/-- What is left of digits when the 0s ahead are cut. -/
theorem cut_zeros {n k : Nat} (h : n < 10 ^ k) : (pad n k).dropWhile (· == 48) = if n = 0 then [] else txt n := by
  split
  · next h0 =>
    subst h0
    rw [pad_zero]
    induction k with
    | zero => rfl
    | succ k ih => 
      rw [List.replicate_succ, List.dropWhile_cons_of_pos (by rfl)]
      exact ih (Nat.pow_pos (by decide))
  · next h0 =>
    have hk : 0 < k := by
      rcases Nat.eq_zero_or_pos k with rfl | hk
      · simp at h; omega
      · exact hk
    have hle := nd_le h hk
    obtain ⟨a, rfl⟩ : ∃ a, k = a + nd n := ⟨k - nd n, by omega⟩
    rw [pad_low (lt_nd n)]
    have hT := isT_iff.1 (txt_isT n)
    have hne : ¬ (txt n).head? = some 48 := fun e => by
      have hl := hT.2.2 e
      obtain ⟨c, R, hc⟩ := List.exists_cons_of_ne_nil hT.2.1
      rw [hc] at e hl
      have : R = [] := by simpa using hl
      subst this
      have e2 : c = 48 := by simpa using e
      subst e2
      have := dv_txt n
      rw [hc] at this
      simp [dv] at this
      omega
    have hrest : (txt n).dropWhile (· == 48) = txt n := by
      obtain ⟨c, R, hc⟩ := List.exists_cons_of_ne_nil hT.2.1
      rw [hc] at hne ⊢
      rw [List.dropWhile_cons_of_neg]
      intro e
      exact hne (by simpa using e)
    show (List.replicate a 48 ++ txt n).dropWhile _ = _
    induction a with
    | zero => exact hrest
    | succ a ih =>
      rw [List.replicate_succ, List.cons_append, List.dropWhile_cons_of_pos (by rfl)]
      have hp : nd n ≤ a + nd n := by omega
      exact ih (lt_of_nd hp) (by have := nd_pos n; omega) hp

/-- digits told with the lowest first -/
theorem pad_step (n k : Nat) : pad n (k + 1) = pad (n / 10) k ++ [48 + n % 10] := rfl
theorem pad_front (n k : Nat) : pad n (k + 1) = (48 + n / 10 ^ k % 10) :: pad n k := by
  rw [Nat.add_comm k 1, pad_add]; rfl
theorem nd_of_div {n k : Nat} (h : n / 10 ^ k = 0) (h2 : n / 10 ^ (k - 1) ≠ 0) (hk : 0 < k) : nd n = k := by
  refine nd_unique ?_ ?_ hk
  · exact (Nat.div_eq_zero_iff_lt (Nat.pow_pos (by decide))).1 h
  · rcases Nat.lt_or_ge n (10 ^ (k - 1)) with h3 | h3
    · exact absurd (Nat.div_eq_of_lt h3) h2
    · exact h3

end Go.Proofs.YtdkdgijcoialbaaGreatDoor

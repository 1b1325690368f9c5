/- Several texts in one. -/
import Derived.Test.YtdkdgijcoialbaaGreatDoorPackN

/- Plain mathematics for products: segments of lists of limbs. Imports nothing of the program. -/
namespace Go.Proofs.YtdkdgijcoialbaaGreatDoor

/-- The natural of k places of a list from a place on. -/
def seg (xs : List Nat) (i : Nat) : Nat → Nat
  | 0 => 0
  | k + 1 => seg xs i k + 4294967296 ^ k * xs[i + k]?.getD 0

theorem seg_zero (xs : List Nat) (i : Nat) : seg xs i 0 = 0 := rfl
theorem seg_succ (xs : List Nat) (i k : Nat) : seg xs i (k + 1) = seg xs i k + 4294967296 ^ k * xs[i + k]?.getD 0 := rfl
theorem seg_congr {xs ys : List Nat} {i i' : Nat} : ∀ {k : Nat}, (∀ j, j < k → xs[i + j]?.getD 0 = ys[i' + j]?.getD 0) → seg xs i k = seg ys i' k
  | 0, _ => rfl
  | k + 1, h => by rw [seg_succ, seg_succ, seg_congr (k := k) (fun j hj => h j (by omega)), h k (by omega)]
theorem seg_val_take (xs : List Nat) : ∀ k, seg xs 0 k = val (xs.take k)
  | 0 => by simp [seg, val]
  | k + 1 => by rw [seg_succ, seg_val_take xs k, val_take_succ, Nat.zero_add]
theorem seg_drop (xs : List Nat) (i : Nat) : ∀ k, seg xs i k = val ((xs.drop i).take k)
  | 0 => by simp [seg, val]
  | k + 1 => by rw [seg_succ, seg_drop xs i k, val_take_succ, List.getElem?_drop]
theorem seg_all {xs : List Nat} {k : Nat} (h : xs.length ≤ k) : seg xs 0 k = val xs := by rw [seg_val_take, List.take_of_length_le h]
theorem seg_val (xs : List Nat) : seg xs 0 xs.length = val xs := seg_all (Nat.le_refl _)
theorem seg_lt {xs : List Nat} (h : Limbs xs) (i : Nat) : ∀ k, seg xs i k < 4294967296 ^ k
  | 0 => by simp [seg]
  | k + 1 => by
    have := seg_lt h i k
    have hx := h.getD (i + k)
    rw [seg_succ, Nat.pow_succ]
    have : 4294967296 ^ k * (xs[i + k]?.getD 0 + 1) ≤ 4294967296 ^ k * 4294967296 := Nat.mul_le_mul_left _ hx
    rw [Nat.mul_add, Nat.mul_one] at this
    omega
theorem seg_add (xs : List Nat) (i j : Nat) : ∀ k, seg xs i (j + k) = seg xs i j + 4294967296 ^ j * seg xs (i + j) k
  | 0 => by simp [seg]
  | k + 1 => by rw [← Nat.add_assoc, seg_succ, seg_add xs i j k, seg_succ, Nat.mul_add, ← Nat.mul_assoc, ← Nat.pow_add, Nat.add_assoc, Nat.add_assoc i j k]
theorem getD_set {xs : List Nat} {j v : Nat} (i : Nat) (h : j < xs.length) : (xs.set j v)[i]?.getD 0 = if i = j then v else xs[i]?.getD 0 := by
  by_cases e : i = j
  · subst e; rw [if_pos rfl, List.getElem?_set_self h]; rfl
  · rw [if_neg e, List.getElem?_set_ne (Ne.symm e)]
theorem seg_replicate (n i : Nat) : ∀ k, seg (List.replicate n 0) i k = 0
  | 0 => rfl
  | k + 1 => by
    rw [seg_succ, seg_replicate n i k]
    have : (List.replicate n 0)[i + k]?.getD 0 = 0 := by
      rw [List.getElem?_replicate]; split <;> rfl
    rw [this]; simp
theorem seg_zero_of {xs : List Nat} {i : Nat} : ∀ {k : Nat}, (∀ j, j < k → xs[i + j]?.getD 0 = 0) → seg xs i k = 0
  | 0, _ => rfl
  | k + 1, h => by rw [seg_succ, seg_zero_of (k := k) (fun j hj => h j (by omega)), h k (by omega)]; simp

/-- X is Z but for the k places from off on. -/
def Same (Z : List Nat) (off k : Nat) (X : List Nat) : Prop := X.length = Z.length ∧ Limbs X ∧ (∀ j, j < off → X[j]?.getD 0 = Z[j]?.getD 0) ∧ (∀ j, off + k ≤ j → X[j]?.getD 0 = Z[j]?.getD 0)

theorem Same.refl {Z : List Nat} (h : Limbs Z) (off : Nat) : Same Z off 0 Z := ⟨rfl, h, fun _ _ => rfl, fun _ _ => rfl⟩
theorem Same.step {Z X : List Nat} {off k v : Nat} (h : Same Z off k X) (hk : off + k < Z.length) (hv : v < 4294967296) : Same Z off (k + 1) (X.set (off + k) v) :=
  ⟨by rw [List.length_set]; exact h.1, h.2.1.set _ hv,
    fun j hj => by rw [getD_set j (by rw [h.1]; exact hk), if_neg (by omega)]; exact h.2.2.1 j hj,
    fun j hj => by rw [getD_set j (by rw [h.1]; exact hk), if_neg (by omega)]; exact h.2.2.2 j (by omega)⟩
theorem Same.more {Z X : List Nat} {off k m : Nat} (h : Same Z off k X) (hm : k ≤ m) : Same Z off m X := ⟨h.1, h.2.1, h.2.2.1, fun j hj => h.2.2.2 j (by omega)⟩
theorem Same.below {Z X : List Nat} {off k : Nat} (h : Same Z off k X) : seg X 0 off = seg Z 0 off := seg_congr fun j hj => by rw [Nat.zero_add]; exact h.2.2.1 j hj
theorem Same.above {Z X : List Nat} {off k : Nat} (h : Same Z off k X) (i m : Nat) (hi : off + k ≤ i) : seg X i m = seg Z i m := seg_congr fun j hj => h.2.2.2 (i + j) (by omega)
theorem Same.seg_set {Z X : List Nat} {off k v : Nat} (h : Same Z off k X) (hk : off + k < Z.length) : seg (X.set (off + k) v) off (k + 1) = seg X off k + 4294967296 ^ k * v := by
  rw [seg_succ, getD_set (off + k) (by rw [h.1]; exact hk), if_pos rfl]
  congr 1
  exact seg_congr fun j hj => by rw [getD_set (off + j) (by rw [h.1]; exact hk), if_neg (by omega)]
/-- The whole of it. -/
theorem Same.whole {Z X : List Nat} {off k : Nat} (h : Same Z off k X) (hk : off + k ≤ Z.length) : val X + 4294967296 ^ off * seg Z off k = val Z + 4294967296 ^ off * seg X off k := by
  rw [← seg_val X, ← seg_val Z, h.1]
  have e : ∀ L : List Nat, seg L 0 Z.length = seg L 0 off + 4294967296 ^ off * seg L off k + 4294967296 ^ (off + k) * seg L (off + k) (Z.length - (off + k)) := fun L => by
    conv => lhs; rw [show Z.length = (off + k) + (Z.length - (off + k)) from by omega]
    rw [seg_add, seg_add, Nat.zero_add, Nat.zero_add]
  rw [e X, e Z, h.below, h.above (off + k) _ (Nat.le_refl _)]
  omega

/-! ### out += a times m -/
def ATI (Z : List Nat) (off : Nat) (ys : List Nat) (m k c : Nat) (X : List Nat) : Prop :=
  Same Z off k X ∧ c < 4294967296 ∧ seg X off k + 4294967296 ^ k * c = seg Z off k + seg ys 0 k * m
theorem ATI.start {Z : List Nat} (h : Limbs Z) (off : Nat) (ys : List Nat) (m : Nat) : ATI Z off ys m 0 0 Z := ⟨Same.refl h off, by decide, by simp [seg]⟩
theorem at_bound {v m x c : Nat} (hv : v < 4294967296) (hm : m < 4294967296) (hx : x < 4294967296) (hc : c < 4294967296) : v * m ≤ 18446744065119617025 ∧ (v * m + x + c) / 4294967296 < 4294967296 := by
  have : v * m ≤ 4294967295 * 4294967295 := Nat.mul_le_mul (by omega) (by omega)
  omega
theorem ATI.step {Z X ys : List Nat} {off m k c s : Nat} (h : ATI Z off ys m k c X) (hk : off + k < Z.length) (hs : s = ys[k]?.getD 0 * m + X[off + k]?.getD 0 + c) (hd : s / 4294967296 < 4294967296) :
    ATI Z off ys m (k + 1) (s / 4294967296) (X.set (off + k) (s % 4294967296)) := by
  obtain ⟨h1, h2, h3⟩ := h
  refine ⟨h1.step hk (Nat.mod_lt _ (by decide)), hd, ?_⟩
  rw [h1.seg_set hk, seg_succ Z, seg_succ ys, Nat.zero_add, ← h1.2.2.2 (off + k) (Nat.le_refl _), Nat.pow_succ]
  have e : 4294967296 ^ k * (s % 4294967296) + 4294967296 ^ k * 4294967296 * (s / 4294967296) = 4294967296 ^ k * s := by
    rw [Nat.mul_assoc, ← Nat.mul_add, Nat.mod_add_div]
  have e2 : 4294967296 ^ k * s = 4294967296 ^ k * (ys[k]?.getD 0) * m + 4294967296 ^ k * X[off + k]?.getD 0 + 4294967296 ^ k * c := by
    rw [hs, Nat.mul_add, Nat.mul_add, Nat.mul_assoc]
  rw [Nat.add_mul, Nat.add_assoc, e, e2]
  omega

/-! ### out += n -/
def AddI (Z : List Nat) (off : Nat) (ys : List Nat) (k c : Nat) (X : List Nat) : Prop :=
  Same Z off k X ∧ c ≤ 1 ∧ seg X off k + 4294967296 ^ k * c = seg Z off k + seg ys 0 k
theorem AddI.start {Z : List Nat} (h : Limbs Z) (off : Nat) (ys : List Nat) : AddI Z off ys 0 0 Z := ⟨Same.refl h off, by decide, by simp [seg]⟩
theorem AddI.step {Z X ys : List Nat} {off k c s : Nat} (h : AddI Z off ys k c X) (hk : off + k < Z.length) (hy : Limbs ys) (hs : s = c + X[off + k]?.getD 0 + ys[k]?.getD 0) :
    AddI Z off ys (k + 1) (s / 4294967296) (X.set (off + k) (s % 4294967296)) := by
  obtain ⟨h1, h2, h3⟩ := h
  have hx := h1.2.1.getD (off + k)
  have hyk := hy.getD k
  refine ⟨h1.step hk (Nat.mod_lt _ (by decide)), by omega, ?_⟩
  rw [h1.seg_set hk, seg_succ Z, seg_succ ys, Nat.zero_add, ← h1.2.2.2 (off + k) (Nat.le_refl _), Nat.pow_succ]
  have e : 4294967296 ^ k * (s % 4294967296) + 4294967296 ^ k * 4294967296 * (s / 4294967296) = 4294967296 ^ k * s := by
    rw [Nat.mul_assoc, ← Nat.mul_add, Nat.mod_add_div]
  have e2 : 4294967296 ^ k * s = 4294967296 ^ k * c + 4294967296 ^ k * X[off + k]?.getD 0 + 4294967296 ^ k * (ys[k]?.getD 0) := by
    rw [hs, Nat.mul_add, Nat.mul_add]
  rw [Nat.add_assoc, e, e2]
  omega
/-- While something is carried there is a place left. -/
theorem AddI.room {Z X ys : List Nat} {off k c n : Nat} (h : AddI Z off ys k c X) (hc : 0 < c) (hk : k ≤ n) (hl : seg Z off n + val ys < 4294967296 ^ n) (hyk : ys.length ≤ k) : k < n := by
  rcases Nat.lt_or_ge k n with h' | h'
  · exact h'
  · obtain rfl : k = n := by omega
    obtain ⟨h1, h2, h3⟩ := h
    rw [seg_all hyk] at h3
    have : 4294967296 ^ k * 1 ≤ 4294967296 ^ k * c := Nat.mul_le_mul_left _ hc
    omega
theorem AddI.done {Z X ys : List Nat} {off k n : Nat} (h : AddI Z off ys k 0 X) (hk : k ≤ n) (hyk : ys.length ≤ k) : seg X off n = seg Z off n + val ys := by
  obtain ⟨h1, h2, h3⟩ := h
  rw [show n = k + (n - k) from by omega, seg_add X, seg_add Z, h1.above (off + k) _ (Nat.le_refl _)]
  rw [seg_all hyk] at h3
  omega

/-! ### out -= n -/
def SubI (Z : List Nat) (off : Nat) (ys : List Nat) (k c : Nat) (X : List Nat) : Prop :=
  Same Z off k X ∧ c ≤ 1 ∧ seg X off k + seg ys 0 k = seg Z off k + 4294967296 ^ k * c
theorem SubI.start {Z : List Nat} (h : Limbs Z) (off : Nat) (ys : List Nat) : SubI Z off ys 0 0 Z := ⟨Same.refl h off, by decide, by simp [seg]⟩
theorem SubI.step {Z X ys : List Nat} {off k c d b : Nat} (h : SubI Z off ys k c X) (hk : off + k < Z.length) (hd : d < 4294967296) (hb : b ≤ 1) (hs : d + c + ys[k]?.getD 0 = X[off + k]?.getD 0 + 4294967296 * b) :
    SubI Z off ys (k + 1) b (X.set (off + k) d) := by
  obtain ⟨h1, h2, h3⟩ := h
  refine ⟨h1.step hk hd, hb, ?_⟩
  rw [h1.seg_set hk, seg_succ Z, seg_succ ys, Nat.zero_add, ← h1.2.2.2 (off + k) (Nat.le_refl _), Nat.pow_succ]
  have e : 4294967296 ^ k * (d + c + ys[k]?.getD 0) = 4294967296 ^ k * (X[off + k]?.getD 0 + 4294967296 * b) := by rw [hs]
  rw [Nat.mul_add, Nat.mul_add, Nat.mul_add, ← Nat.mul_assoc] at e
  omega
theorem SubI.room {Z X ys : List Nat} {off k c n : Nat} (h : SubI Z off ys k c X) (hc : 0 < c) (hk : k ≤ n) (hl : val ys ≤ seg Z off n) (hyk : ys.length ≤ k) : k < n := by
  rcases Nat.lt_or_ge k n with h' | h'
  · exact h'
  · obtain rfl : k = n := by omega
    obtain ⟨h1, h2, h3⟩ := h
    rw [seg_all hyk] at h3
    have : 4294967296 ^ k * 1 ≤ 4294967296 ^ k * c := Nat.mul_le_mul_left _ hc
    have := seg_lt h1.2.1 off k
    omega
theorem SubI.done {Z X ys : List Nat} {off k n : Nat} (h : SubI Z off ys k 0 X) (hk : k ≤ n) (hyk : ys.length ≤ k) : seg X off n + val ys = seg Z off n := by
  obtain ⟨h1, h2, h3⟩ := h
  rw [show n = k + (n - k) from by omega, seg_add X, seg_add Z, h1.above (off + k) _ (Nat.le_refl _)]
  rw [seg_all hyk] at h3
  omega

/-! ### a product by limbs -/
def BLI (xs ys : List Nat) (k : Nat) (X : List Nat) : Prop :=
  X.length = xs.length + ys.length ∧ Limbs X ∧ (∀ j, k + xs.length ≤ j → X[j]?.getD 0 = 0) ∧ val X = val xs * seg ys 0 k
theorem getD_replicate (n j : Nat) : (List.replicate n 0)[j]?.getD 0 = 0 := by rw [List.getElem?_replicate]; split <;> rfl
theorem BLI.start (xs ys : List Nat) : BLI xs ys 0 (List.replicate (xs.length + ys.length) 0) :=
  ⟨by simp, limbs_replicate _, fun j _ => getD_replicate _ j, by rw [val_replicate]; simp [seg]⟩
theorem BLI.step {xs ys X X' : List Nat} {k m c : Nat} (h : BLI xs ys k X) (hk : k < ys.length) (hm : m = ys[k]?.getD 0) (hA : ATI X k xs m xs.length c X') : BLI xs ys (k + 1) (X'.set (k + xs.length) c) := by
  obtain ⟨h1, h2, h3, h4⟩ := h
  obtain ⟨a1, a2, a3⟩ := hA
  have hlt : k + xs.length < X.length := by omega
  have hs := a1.step hlt a2
  have e1 := a1.seg_set (v := c) hlt
  have e0 : seg X k (xs.length + 1) = seg X k xs.length := by rw [seg_succ, h3 _ (Nat.le_refl _)]; simp
  have hw := hs.whole (by omega)
  rw [e1, a3, e0, seg_val] at hw
  refine ⟨by rw [hs.1, h1], hs.2.1, fun j hj => ?_, ?_⟩
  · rw [hs.2.2.2 j (by omega)]; exact h3 j (by omega)
  · rw [Nat.mul_add] at hw
    have : val (X'.set (k + xs.length) c) = val X + 4294967296 ^ k * (val xs * m) := by omega
    rw [this, h4, seg_succ, Nat.zero_add, ← hm, Nat.mul_add]
    congr 1
    rw [← Nat.mul_assoc, Nat.mul_comm (4294967296 ^ k), Nat.mul_assoc]
theorem BLI.done {xs ys X : List Nat} (h : BLI xs ys ys.length X) : val X = val xs * val ys := by rw [h.2.2.2, seg_val]

/-! ### a product with one limb -/
def SmI (xs : List Nat) (m a k c : Nat) (X : List Nat) : Prop :=
  X.length = k ∧ Limbs X ∧ c < 4294967296 ∧ val X + 4294967296 ^ k * c = seg xs 0 k * m + a
theorem SmI.start (xs : List Nat) (m : Nat) {a : Nat} (ha : a < 4294967296) : SmI xs m a 0 a [] := ⟨rfl, limbs_nil, ha, by simp [seg, val]⟩
theorem sm_bound {v m c : Nat} (hv : v < 4294967296) (hm : m < 4294967296) (hc : c < 4294967296) : v * m ≤ 18446744065119617025 ∧ (v * m + c) / 4294967296 < 4294967296 := by
  have : v * m ≤ 4294967295 * 4294967295 := Nat.mul_le_mul (by omega) (by omega)
  omega
theorem SmI.step {xs X : List Nat} {m a k c s : Nat} (h : SmI xs m a k c X) (hs : s = xs[k]?.getD 0 * m + c) (hd : s / 4294967296 < 4294967296) : SmI xs m a (k + 1) (s / 4294967296) (X ++ [s % 4294967296]) := by
  obtain ⟨h1, h2, h3, h4⟩ := h
  refine ⟨by simp [h1], h2.append (Limbs.one (Nat.mod_lt _ (by decide))), hd, ?_⟩
  rw [val_snoc, h1, seg_succ, Nat.zero_add, Nat.pow_succ, Nat.add_mul]
  have e : 4294967296 ^ k * (s % 4294967296) + 4294967296 ^ k * 4294967296 * (s / 4294967296) = 4294967296 ^ k * s := by
    rw [Nat.mul_assoc, ← Nat.mul_add, Nat.mod_add_div]
  have e2 : 4294967296 ^ k * s = 4294967296 ^ k * (xs[k]?.getD 0) * m + 4294967296 ^ k * c := by rw [hs, Nat.mul_add, Nat.mul_assoc]
  omega
theorem SmI.done {xs X : List Nat} {m a c : Nat} (h : SmI xs m a xs.length c X) : val (X ++ [c]) = val xs * m + a ∧ Limbs (X ++ [c]) := by
  obtain ⟨h1, h2, h3, h4⟩ := h
  refine ⟨?_, h2.append (Limbs.one h3)⟩
  rw [val_snoc, h1, h4, seg_val]

/-! ### a square by limbs -/
def sqs (xs : List Nat) : Nat → Nat
  | 0 => 0
  | k + 1 => sqs xs k + 4294967296 ^ (2 * k) * (xs[k]?.getD 0 * xs[k]?.getD 0)
theorem pow_two_mul (k : Nat) : 4294967296 ^ (2 * k) = 4294967296 ^ k * 4294967296 ^ k := by rw [Nat.two_mul, Nat.pow_add]
theorem seg_head (xs : List Nat) (k n : Nat) : seg xs k (n + 1) = xs[k]?.getD 0 + 4294967296 * seg xs (k + 1) n := by
  rw [Nat.add_comm n 1, seg_add]; simp [seg]
theorem seg_of_drop (xs : List Nat) (i n : Nat) : seg (xs.drop i) 0 n = seg xs i n := seg_congr fun j _ => by rw [List.getElem?_drop, Nat.zero_add]
def SqI (xs : List Nat) (k : Nat) (X : List Nat) : Prop :=
  X.length = 2 * xs.length ∧ Limbs X ∧ (∀ j, k + xs.length ≤ j → X[j]?.getD 0 = 0) ∧ sqs xs k + 2 * val X + 4294967296 ^ (2 * k) * (seg xs k (xs.length - k) * seg xs k (xs.length - k)) = val xs * val xs
theorem SqI.start (xs : List Nat) : SqI xs 0 (List.replicate (2 * xs.length) 0) :=
  ⟨by simp, limbs_replicate _, fun j _ => getD_replicate _ j, by rw [val_replicate, Nat.sub_zero, seg_val]; simp [sqs]⟩
theorem sq_split (P m D : Nat) : P * ((m + 4294967296 * D) * (m + 4294967296 * D)) = P * (m * m) + 2 * (P * 4294967296 * (D * m)) + P * 4294967296 * 4294967296 * (D * D) := by
  grind
theorem sq_last {a v P s t V : Nat} (h : a + 2 * v + (P + 2 * s + t) = V) : a + P + 2 * (v + s) + t = V := by omega
theorem SqI.step {xs X X' : List Nat} {k m c n : Nat} (h : SqI xs k X) (hk : k < xs.length) (hm : m = xs[k]?.getD 0) (hn : n + (k + 1) = xs.length) (hA : ATI X (2 * k + 1) (xs.drop (k + 1)) m n c X') : SqI xs (k + 1) (X'.set (k + xs.length) c) := by
  obtain ⟨h1, h2, h3, h4⟩ := h
  obtain ⟨a1, a2, a3⟩ := hA
  have hpl : 2 * k + 1 + n = k + xs.length := by omega
  have hlt : 2 * k + 1 + n < X.length := by omega
  have hs := a1.step hlt a2
  have e1 := a1.seg_set (v := c) hlt
  have e0 : seg X (2 * k + 1) (n + 1) = seg X (2 * k + 1) n := by rw [seg_succ, h3 _ (by omega)]; simp
  have hw := hs.whole (by omega)
  rw [e1, a3, e0] at hw
  rw [hpl] at hs hw
  refine ⟨by rw [hs.1, h1], hs.2.1, fun j hj => ?_, ?_⟩
  · rw [hs.2.2.2 j (by omega)]; exact h3 j (by omega)
  · rw [Nat.mul_add, seg_of_drop] at hw
    have hv : val (X'.set (k + xs.length) c) = val X + 4294967296 ^ (2 * k + 1) * (seg xs (k + 1) n * m) := by omega
    rw [hv]
    have hd : seg xs k (xs.length - k) = m + 4294967296 * seg xs (k + 1) n := by rw [show xs.length - k = n + 1 from by omega, seg_head, hm]
    rw [hd, sq_split] at h4
    rw [show xs.length - (k + 1) = n from by omega, sqs, ← hm]
    have p1 : 4294967296 ^ (2 * k + 1) = 4294967296 ^ (2 * k) * 4294967296 := Nat.pow_succ _ _
    have p2 : 4294967296 ^ (2 * (k + 1)) = 4294967296 ^ (2 * k) * 4294967296 * 4294967296 := by rw [show 2 * (k + 1) = (2 * k + 1) + 1 from by omega, Nat.pow_succ, Nat.pow_succ]
    rw [p1, p2]
    exact sq_last h4
theorem SqI.done {xs X : List Nat} (h : SqI xs xs.length X) : sqs xs xs.length + 2 * val X = val xs * val xs := by
  have := h.2.2.2
  rw [Nat.sub_self] at this
  simpa [seg] using this

def DbI (xs Z : List Nat) (k c : Nat) (X : List Nat) : Prop :=
  Same Z 0 (2 * k) X ∧ c ≤ 3 ∧ seg X 0 (2 * k) + 4294967296 ^ (2 * k) * c = 2 * seg Z 0 (2 * k) + sqs xs k
theorem DbI.start {xs Z : List Nat} (h : Limbs Z) : DbI xs Z 0 0 Z := ⟨Same.refl h 0, by decide, by simp [seg, sqs]⟩
theorem db_sum (P x y o c l h : Nat) (hl : l = x * 2 + o % 4294967296 + c) (hh : h = y * 2 + o / 4294967296 + l / 4294967296) :
    P * (l % 4294967296) + P * 4294967296 * (h % 4294967296) + P * 4294967296 * 4294967296 * (h / 4294967296) = P * c + 2 * (P * x) + 2 * (P * 4294967296 * y) + P * o := by
  have e : l % 4294967296 + 4294967296 * (h % 4294967296) + 4294967296 * 4294967296 * (h / 4294967296) = c + 2 * x + 2 * (4294967296 * y) + o := by omega
  have := congrArg (P * ·) e
  simp only [Nat.mul_add] at this
  grind
theorem db_last {g t5 t2 t1 z t4 t3 q po pc : Nat} (h3 : g + pc = 2 * z + q) (h : t5 + t2 + t1 = pc + 2 * t4 + 2 * t3 + po) : g + t5 + t2 + t1 = 2 * (z + t4 + t3) + (q + po) := by omega
theorem DbI.step {xs Z X : List Nat} {k c o l h : Nat} (hI : DbI xs Z k c X) (hk : 2 * k + 1 < Z.length) (ho : o = xs[k]?.getD 0 * xs[k]?.getD 0)
    (hl : l = X[2 * k]?.getD 0 * 2 + o % 4294967296 + c) (hh : h = X[2 * k + 1]?.getD 0 * 2 + o / 4294967296 + l / 4294967296) (hob : o ≤ 18446744065119617025) :
    DbI xs Z (k + 1) (h / 4294967296) ((X.set (2 * k) (l % 4294967296)).set (2 * k + 1) (h % 4294967296)) := by
  obtain ⟨h1, h2, h3⟩ := hI
  have hx := h1.2.1.getD (2 * k)
  have hy := h1.2.1.getD (2 * k + 1)
  have s1 := h1.step (v := l % 4294967296) (by omega) (Nat.mod_lt _ (by decide))
  rw [Nat.zero_add] at s1
  have e1 := h1.seg_set (v := l % 4294967296) (by omega)
  rw [Nat.zero_add] at e1
  have s2 := s1.step (v := h % 4294967296) (by omega) (Nat.mod_lt _ (by decide))
  have e2 := s1.seg_set (v := h % 4294967296) (by omega)
  rw [Nat.zero_add] at s2 e2
  refine ⟨by rw [show 2 * (k + 1) = 2 * k + 1 + 1 from by omega]; exact s2, by omega, ?_⟩
  rw [show 2 * (k + 1) = 2 * k + 1 + 1 from by omega, e2, e1, seg_succ Z, seg_succ Z, Nat.zero_add, Nat.zero_add, ← h1.2.2.2 (2 * k) (by omega), ← h1.2.2.2 (2 * k + 1) (by omega), sqs, ← ho, Nat.pow_succ, Nat.pow_succ]
  have := db_sum (4294967296 ^ (2 * k)) _ _ o c l h hl hh
  exact db_last h3 this
theorem DbI.done {xs Z X : List Nat} {c : Nat} (hI : DbI xs Z xs.length c X) (hZ : SqI xs xs.length Z) (hx : Limbs xs) : val X = val xs * val xs := by
  obtain ⟨h1, h2, h3⟩ := hI
  have hz := hZ.done
  have e1 : seg X 0 (2 * xs.length) = val X := by rw [← hZ.1, ← h1.1]; exact seg_val X
  have e2 : seg Z 0 (2 * xs.length) = val Z := by rw [← hZ.1]; exact seg_val Z
  rw [e1, e2] at h3
  have hlt : val xs * val xs < 4294967296 ^ (2 * xs.length) := by
    have := val_lt hx
    rw [pow_two_mul]
    exact Nat.mul_lt_mul'' this this
  rcases Nat.eq_zero_or_pos c with h0 | h0
  · subst h0; omega
  · have : 4294967296 ^ (2 * xs.length) * 1 ≤ 4294967296 ^ (2 * xs.length) * c := Nat.mul_le_mul_left _ h0
    omega

end Go.Proofs.YtdkdgijcoialbaaGreatDoor

/- Contracts: trim, told, tooLong, piece. -/
namespace Go.Proofs.YtdkdgijcoialbaaGreatDoor
open Go.RowKit

theorem lim_val_length_le {xs : List Nat} (h : Limbs xs) : (lim (val xs)).length ≤ xs.length := by
  obtain ⟨k, hk, e⟩ := lim_val_take h
  rw [e, List.length_take]; omega

theorem slice_len {A : Option Addr} {n k cap : Nat} (h : n = k) : Value.slice A k cap = .slice A n cap := by rw [h]

theorem slice_len2 {A : Option Addr} {n k : Nat} (h : n = k) : Value.slice A k k = .slice A n n := by rw [h]

/-- What told hands back. -/
def toldV (A : Option Addr) (k cap : Nat) : Value := if k = 0 ∨ 65536 < k then .slice none 0 0 else .slice A k cap
theorem toldV_no {A : Option Addr} {k cap : Nat} (h : k = 0 ∨ 65536 < k) : Value.slice none 0 0 = toldV A k cap := by unfold toldV; rw [if_pos h]
theorem toldV_yes {A : Option Addr} {k cap : Nat} (h : ¬ (k = 0 ∨ 65536 < k)) : Value.slice A k cap = toldV A k cap := by unfold toldV; rw [if_neg h]
/-- Own, trimmed and told. -/
theorem toldV_own {w : World} {B : Nat} {A : Option Addr} {cap n : Nat} (h : Own w B (.slice A (lim n).length cap) (lim n)) : Own w B (toldV A (lim n).length cap) (clip n) := by
  unfold toldV clip
  by_cases h1 : (lim n).length = 0
  · rw [if_pos (.inl h1), if_pos (by omega), List.eq_nil_of_length_eq_zero h1]; exact Own.nil _ _
  · by_cases h2 : (lim n).length ≤ 65536
    · rw [if_neg (by omega), if_pos h2]; exact h
    · rw [if_pos (.inr (by omega)), if_neg h2]; exact Own.nil _ _

def longB (n m : Nat) : Bool := decide (0 < n ∧ 0 < m ∧ 65536 < n + m - 1)
theorem long_true {n m : Nat} (h : 0 < n ∧ 0 < m ∧ 65536 < n + m - 1) : true = longB n m := by unfold longB; rw [decide_eq_true h]
theorem long_false {n m : Nat} (h : ¬ (0 < n ∧ 0 < m ∧ 65536 < n + m - 1)) : false = longB n m := by unfold longB; rw [decide_eq_false h]
theorem long_mid {n m : Nat} (h0 : 0 < n) (h1 : 0 < m) : decide ((65536 : Int) < (n : Int) + (m : Int) - 1) = longB n m := by
  unfold longB; rw [decide_eq_decide]; omega
/-- What stands in a piece. -/
def pieceL (xs : List Nat) (i k : Nat) : List Nat := lim (seg xs i (min k (xs.length - i)))
theorem pieceL_le {xs : List Nat} (h : Limbs xs) (i k : Nat) : (pieceL xs i k).length ≤ min k (xs.length - i) := by
  unfold pieceL; rw [lim_length_le]; exact seg_lt h i _
theorem pieceL_val (xs : List Nat) (i k : Nat) : val (pieceL xs i k) = seg xs i (min k (xs.length - i)) := val_lim _
theorem seg_take_drop (xs : List Nat) (i k : Nat) : val ((xs.drop i).take k) = seg xs i k := (seg_drop xs i k).symm
/-- A part of a slice that is read. -/
theorem Rd.part {w : World} {B b off : Nat} {xs : List Nat} (h : Rd w B (some ⟨b, off, none⟩) xs) (i k : Nat) (hi : i < xs.length) {off' : Nat} (ho : off' = off + i) : Rd w B (some ⟨b, off', none⟩) ((xs.drop i).take k) := by
  subst ho
  refine ⟨(h.1.drop i).take k, fun hn => ?_⟩
  obtain ⟨b', off'', e, hlt, hc⟩ := h.2 (by omega)
  injection e with e; injection e with e1 e2 e3
  subst e1 e2
  refine ⟨b, off + i, rfl, hlt, fun j hj => ?_⟩
  simp only [List.length_take, List.length_drop] at hj
  have := hc (i + j) (by omega)
  rw [Nat.add_assoc, this, List.getElem?_take, if_pos (by omega), List.getElem?_drop]
theorem Rd.limPart {w : World} {B : Nat} {A : Option Addr} {xs : List Nat} (h : Rd w B A xs) : Rd w B A (lim (val xs)) := by
  obtain ⟨k, hk, e⟩ := lim_val_take h.limbs
  rw [e]; exact h.take k
/-- What piece hands back. -/
def PiecePost (w : World) (B : Nat) (L : List Nat) (e : Ending) (w' : World) : Prop := (∃ A, e = .returned (.slice A L.length L.length) ∧ Rd w B A L) ∧ w' = w

end Go.Proofs.YtdkdgijcoialbaaGreatDoor

/- Contracts: addTimes, add, sub: they write into a list of the call's own. -/
namespace Go.Proofs.YtdkdgijcoialbaaGreatDoor
open Go.RowKit

/-- One place of an own list is written. -/
theorem Own.put {w : World} {B g cap j v : Nat} {Z : List Nat} (h : Own w B (.slice (some ⟨g, 0, none⟩) Z.length cap) Z) :
    Own (w.setCell ⟨g, j, none⟩ (lv v)) B (.slice (some ⟨g, 0, none⟩) (Z.set j v).length cap) (Z.set j v) := by
  have := (World.ownsRow.stored h j (lv v)).1
  unfold Own
  rw [List.length_set, u32s, List.map_set]
  exact this
theorem Own.cellAt {w : World} {B g cap j : Nat} {Z : List Nat} (h : Own w B (.slice (some ⟨g, 0, none⟩) Z.length cap) Z) (hj : j < Z.length) : w.cell? ⟨g, j, none⟩ = some (.int .u32 ((Z[j]?.getD 0 : Nat) : Int)) := by
  rw [World.ownsRow.cellAt h j (by omega), u32s, List.getElem?_map, List.getElem?_eq_getElem hj]; rfl
theorem Own.ge {w : World} {B g cap : Nat} {xs : List Nat} {n : Nat} (h : Own w B (.slice (some ⟨g, 0, none⟩) n cap) xs) : B ≤ g := by
  rcases h.2 with ⟨e, _⟩ | ⟨g', cap', cur, e, hg, _⟩
  · cases e
  · injection e with e1; injection e1 with e2; injection e2 with e3; omega

/-- What addTimes leaves. -/
def ATPost (Z : List Nat) (off : Nat) (ys : List Nat) (m g cz B : Nat) (w : World) (e : Ending) (w' : World) : Prop :=
  ∃ (c : Nat) (X : List Nat), e = .returned (.int .u32 (c : Int)) ∧ ATI Z off ys m ys.length c X ∧ Own w' B (.slice (some ⟨g, 0, none⟩) X.length cz) X ∧ Below B w w'

/-- What add leaves. -/
def AddPost (Z : List Nat) (off n : Nat) (ys : List Nat) (g cz B : Nat) (w : World) (e : Ending) (w' : World) : Prop :=
  ∃ X : List Nat, e = .returned (.tuple #[]) ∧ Same Z off n X ∧ seg X off n = seg Z off n + val ys ∧ Own w' B (.slice (some ⟨g, 0, none⟩) X.length cz) X ∧ Below B w w'

theorem wrap_neg {x s : Nat} (h : ¬ s ≤ x) (hb : s ≤ x + 4294967296) : ∃ q : Nat, IntKind.u64.wrap ((x : Int) - (s : Int)) = (q : Int) ∧ q / 9223372036854775808 = 1 ∧ q % 4294967296 + s = x + 4294967296 ∧ q < 18446744073709551616 := by
  refine ⟨x + 18446744073709551616 - s, ?_, by omega, by omega, by omega⟩
  rw [IntKind.wrap_u64]; omega

/-- What sub leaves. -/
def SubPost (Z : List Nat) (off n : Nat) (ys : List Nat) (g cz B : Nat) (w : World) (e : Ending) (w' : World) : Prop :=
  ∃ X : List Nat, e = .returned (.tuple #[]) ∧ Same Z off n X ∧ seg X off n + val ys = seg Z off n ∧ Own w' B (.slice (some ⟨g, 0, none⟩) X.length cz) X ∧ Below B w w'

end Go.Proofs.YtdkdgijcoialbaaGreatDoor

/- Contracts: byLimbs, Small. -/
namespace Go.Proofs.YtdkdgijcoialbaaGreatDoor
open Go.RowKit Go.Shelf

theorem own_made {w : World} {B g n : Nat} (h : w.ownsRow B 95 1 (.slice (some ⟨g, 0, none⟩) n n) n (madeCells (Value.int .u32 0).cells (n * 1)).toList) :
    Own w B (.slice (some ⟨g, 0, none⟩) (List.replicate n 0).length n) (List.replicate n 0) := by
  have e : (madeCells (Value.int .u32 0).cells (n * 1)).toList = u32s (List.replicate n 0) := by
    rw [show (Value.int .u32 0).cells = #[.int .u32 0] from rfl, toList_madeCells_one, Nat.mul_one, u32s, List.map_replicate]; rfl
  unfold Own
  rw [List.length_replicate, ← e]
  exact h

/-- A product in new memory. -/
def NewNat (w : World) (n : Nat) (e : Ending) (w' : World) : Prop := (∃ v, e = .returned v ∧ Own w' w.heap.size v (lim n)) ∧ Below w.heap.size w w'
theorem Own.trimmed {w : World} {B g cap : Nat} {X : List Nat} (h : Own w B (.slice (some ⟨g, 0, none⟩) X.length cap) X) (hl : Limbs X) : Own w B (.slice (some ⟨g, 0, none⟩) (lim (val X)).length cap) (lim (val X)) := by
  obtain ⟨k, hk, e⟩ := lim_val_take hl
  have := h.cut k hk
  rw [e, List.length_take, Nat.min_eq_left hk]
  exact this
theorem Own.cap {w : World} {B n cap : Nat} {A : Option Addr} {X : List Nat} (h : Own w B (.slice A n cap) X) : X.length ≤ cap ∧ cap ≤ maxLen := by
  rcases h.2 with ⟨e, h0⟩ | ⟨g, cap', cur, e, hg, hh, hle, hm, hs, ht⟩
  · injection e with e1 e2 e3; subst e3; exact ⟨by omega, by decide⟩
  · injection e with e1 e2 e3; subst e3; exact ⟨hle, hm⟩

/-! ### Small -/
def sSmall (xs : List Nat) (m a : Nat) : List Nat := if mayb xs then clip (val xs * m + a) else []
theorem sSmall_no {xs : List Nat} {m a : Nat} (h : mayb xs = false) : sSmall xs m a = [] := by unfold sSmall; rw [h]; rfl
theorem sSmall_yes {xs : List Nat} {m a : Nat} (h : mayb xs = true) : sSmall xs m a = clip (val xs * m + a) := by unfold sSmall; rw [h]; rfl
/-- An answer that is a natural in new memory. -/
def NewL (w : World) (L : List Nat) (e : Ending) (w' : World) : Prop := (∃ v, e = .returned v ∧ Own w' w.heap.size v L) ∧ Below w.heap.size w w'
theorem own_form {w : World} {B n : Nat} {v : Value} {X : List Nat} (h : w.ownsRow B 95 1 v n (u32s X)) (hn : n = X.length) : ∃ A cap, v = .slice A X.length cap := by
  subst hn
  rcases h.2 with ⟨rfl, h0⟩ | ⟨g, cap, cur, rfl, _⟩
  · exact ⟨none, 0, by rw [h0]⟩
  · exact ⟨_, cap, rfl⟩
theorem Own.trimmedAny {w : World} {B n cap : Nat} {A : Option Addr} {X : List Nat} (h : Own w B (.slice A n cap) X) (hl : Limbs X) : Own w B (.slice A (lim (val X)).length cap) (lim (val X)) := by
  obtain ⟨k, hk, e⟩ := lim_val_take hl
  have := h.cut k hk
  rw [e, List.length_take, Nat.min_eq_left hk]
  exact this

/-! ### what lies in another block -/
/-- Nothing but the block g has turned. -/
structure Only (g : Nat) (w w' : World) : Prop where
  os : w'.os = w.os
  tape : w'.tape = w.tape
  output : w'.output = w.output
  size : w'.heap.size = w.heap.size
  block : ∀ k, k ≠ g → w'.heap[k]? = w.heap[k]?
theorem Only.refl (g : Nat) (w : World) : Only g w w := ⟨rfl, rfl, rfl, rfl, fun _ _ => rfl⟩
theorem Only.setCell {g : Nat} {w w' : World} (h : Only g w w') (j : Nat) (v : Value) : Only g w (w'.setCell ⟨g, j, none⟩ v) :=
  ⟨h.os, h.tape, h.output, by simpa using h.size, fun k hk => (heap_setCell_other w' ⟨g, j, none⟩ k v (fun e => hk (by simp [e]))).trans (h.block k hk)⟩
theorem Only.cell {g : Nat} {w w' : World} (h : Only g w w') {p : Addr} (hp : p.block ≠ g) : w'.cell? p = w.cell? p := by
  unfold World.cell?
  rw [h.block p.block hp]
theorem Only.below {g B : Nat} {w w' : World} (h : Only g w w') (hB : B ≤ g) : Below B w w' := ⟨h.os, h.tape, h.output, Nat.le_of_eq h.size.symm, fun k hk => h.block k (by omega)⟩
/-- A slice of limbs in another block than g. -/
def Far (w : World) (g : Nat) (A : Option Addr) (xs : List Nat) : Prop :=
  Limbs xs ∧ (0 < xs.length → ∃ b off, A = some ⟨b, off, none⟩ ∧ b ≠ g ∧ ∀ j, j < xs.length → w.cell? ⟨b, off + j, none⟩ = some (.int .u32 ((xs[j]?.getD 0 : Nat) : Int)))
theorem Far.limbs {w : World} {g : Nat} {A : Option Addr} {xs : List Nat} (h : Far w g A xs) : Limbs xs := h.1

theorem Own.lt_size {w : World} {B g n cap : Nat} {xs : List Nat} (h : Own w B (.slice (some ⟨g, 0, none⟩) n cap) xs) : g < w.heap.size := (World.ownsRow.lt h g rfl).2

theorem Own.far {w : World} {B g : Nat} {v : Value} {xs : List Nat} (h : Own w B v xs) (hl : Limbs xs) (hg : g < B) : ∃ A cap, v = .slice A xs.length cap ∧ Far w g A xs := by
  rcases h.2 with ⟨rfl, h0⟩ | ⟨g', cap, cur, rfl, hg', hh, hle, hm, hs, ht⟩
  · have : xs = [] := List.eq_nil_of_length_eq_zero h0
    subst this
    exact ⟨none, 0, rfl, hl, fun h => absurd h (by simp)⟩
  · refine ⟨_, cap, rfl, hl, fun hn => ⟨g', 0, rfl, by omega, fun j hj => ?_⟩⟩
    have hc := World.ownsRow.cellAt h j (by omega)
    rw [Nat.zero_add, hc, u32s, List.getElem?_map, List.getElem?_eq_getElem hj]
    rfl

end Go.Proofs.YtdkdgijcoialbaaGreatDoor

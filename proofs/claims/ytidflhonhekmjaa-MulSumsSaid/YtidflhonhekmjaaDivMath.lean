/- Plain mathematics for quotients: a limb that is guessed, taken times the divisor, put back; by one limb; roots. Imports nothing of the program. -/
import Derived.Test.YtidflhonhekmjaaPackM
namespace Go.Proofs.Ytidflhonhekmjaa

theorem Same.then {Z X Y : List Nat} {off k : Nat} (h : Same Z off k X) (h2 : Same X off k Y) : Same Z off k Y :=
  ⟨h2.1.trans h.1, h2.2.1, fun j hj => (h2.2.2.1 j hj).trans (h.2.2.1 j hj), fun j hj => (h2.2.2.2 j hj).trans (h.2.2.2 j hj)⟩

/-! ### left -= d times w -/
def TTI (Z : List Nat) (off : Nat) (ys : List Nat) (m k o : Nat) (X : List Nat) : Prop :=
  Same Z off k X ∧ o ≤ 4294967296 ∧ seg X off k + seg ys 0 k * m = seg Z off k + 4294967296 ^ k * o
theorem TTI.start {Z : List Nat} (h : Limbs Z) (off : Nat) (ys : List Nat) (m : Nat) : TTI Z off ys m 0 0 Z := ⟨Same.refl h off, by decide, by simp [seg]⟩
theorem tt_bound {v m o : Nat} (hv : v < 4294967296) (hm : m < 4294967296) (ho : o ≤ 4294967296) : v * m ≤ 18446744065119617025 ∧ (o + v * m) / 4294967296 + 1 ≤ 4294967296 := by
  have : v * m ≤ 4294967295 * 4294967295 := Nat.mul_le_mul (by omega) (by omega)
  omega
theorem TTI.step {Z X ys : List Nat} {off m k o s x b : Nat} (h : TTI Z off ys m k o X) (hk : off + k < Z.length) (hs : s = o + ys[k]?.getD 0 * m) (hx : x < 4294967296) (he : x + s % 4294967296 = X[off + k]?.getD 0 + 4294967296 * b) (hd : s / 4294967296 + b ≤ 4294967296) :
    TTI Z off ys m (k + 1) (s / 4294967296 + b) (X.set (off + k) x) := by
  obtain ⟨h1, h2, h3⟩ := h
  refine ⟨h1.step hk hx, hd, ?_⟩
  rw [h1.seg_set hk, seg_succ Z, seg_succ ys, Nat.zero_add, ← h1.2.2.2 (off + k) (Nat.le_refl _), Nat.pow_succ]
  generalize 4294967296 ^ k = P at *
  have e : P * (x + s % 4294967296) = P * (X[off + k]?.getD 0 + 4294967296 * b) := by rw [he]
  have e2 : P * s = P * o + P * (ys[k]?.getD 0) * m := by rw [hs, Nat.mul_add, Nat.mul_assoc]
  have e3 : P * (s % 4294967296) + P * 4294967296 * (s / 4294967296) = P * s := by rw [Nat.mul_assoc, ← Nat.mul_add, Nat.mod_add_div]
  rw [Nat.mul_add, Nat.mul_add, ← Nat.mul_assoc] at e
  rw [Nat.add_mul, Nat.mul_add (P * 4294967296)]
  omega
/-- The last place: what is borrowed there is what was too much. -/
theorem TTI.done {Z X ys : List Nat} {off m o x b : Nat} (h : TTI Z off ys m ys.length o X) (hk : off + ys.length < Z.length) (hx : x < 4294967296) (he : x + o = X[off + ys.length]?.getD 0 + 4294967296 * b) :
    Same Z off (ys.length + 1) (X.set (off + ys.length) x) ∧ seg (X.set (off + ys.length) x) off (ys.length + 1) + val ys * m = seg Z off (ys.length + 1) + 4294967296 ^ (ys.length + 1) * b := by
  obtain ⟨h1, h2, h3⟩ := h
  refine ⟨h1.step hk hx, ?_⟩
  rw [h1.seg_set hk, seg_succ Z, ← h1.2.2.2 (off + ys.length) (Nat.le_refl _), Nat.pow_succ]
  rw [seg_val] at h3
  generalize 4294967296 ^ ys.length = P at *
  have e : P * (x + o) = P * (X[off + ys.length]?.getD 0 + 4294967296 * b) := by rw [he]
  rw [Nat.mul_add, Nat.mul_add, ← Nat.mul_assoc] at e
  omega
/-! ### left += d, wrapped -/
theorem AddI.wrap {Z X ys : List Nat} {off c : Nat} (h : AddI Z off ys ys.length c X) (hk : off + ys.length < Z.length) :
    Same Z off (ys.length + 1) (X.set (off + ys.length) ((X[off + ys.length]?.getD 0 + c) % 4294967296)) ∧ ∃ q, seg (X.set (off + ys.length) ((X[off + ys.length]?.getD 0 + c) % 4294967296)) off (ys.length + 1) + 4294967296 ^ (ys.length + 1) * q = seg Z off (ys.length + 1) + val ys := by
  obtain ⟨h1, h2, h3⟩ := h
  have hx : (X[off + ys.length]?.getD 0 + c) % 4294967296 < 4294967296 := Nat.mod_lt _ (by decide)
  refine ⟨h1.step hk hx, (X[off + ys.length]?.getD 0 + c) / 4294967296, ?_⟩
  rw [h1.seg_set hk, seg_succ Z, ← h1.2.2.2 (off + ys.length) (Nat.le_refl _), Nat.pow_succ]
  rw [seg_val] at h3
  generalize 4294967296 ^ ys.length = P at *
  generalize X[off + ys.length]?.getD 0 = z at *
  have e3 : P * ((z + c) % 4294967296) + P * 4294967296 * ((z + c) / 4294967296) = P * z + P * c := by rw [Nat.mul_assoc, ← Nat.mul_add, Nat.mod_add_div, Nat.mul_add]
  omega

/-! ### the guess -/
theorem guess_lead {D L P dl ll s f l2 w q : Nat} (hD : D = dl + P * (s + 4294967296 * f)) (hL : L = ll + P * (l2 + 4294967296 * w)) (hll : ll < P) (h2 : l2 < 4294967296) (hq : q * D ≤ L) : q * f ≤ w := by
  rcases Nat.lt_or_ge w (q * f) with h | h
  · exfalso
    have h1 : P * (4294967296 * (w + 1)) ≤ P * (4294967296 * (q * f)) := Nat.mul_le_mul_left _ (Nat.mul_le_mul_left _ h)
    have h3 : P * (l2 + 1 + 4294967296 * w) ≤ P * (4294967296 * (w + 1)) := Nat.mul_le_mul_left _ (by omega)
    have h4 : q * D = q * dl + P * (q * s) + P * (4294967296 * (q * f)) := by rw [hD]; grind
    have h5 : P * (l2 + 1 + 4294967296 * w) = P * (l2 + 4294967296 * w) + P := by grind
    omega
  · exact h
theorem guess_over {D L P dl ll s f l2 w g o : Nat} (hD : D = dl + P * (s + 4294967296 * f)) (hL : L = ll + P * (l2 + 4294967296 * w)) (hll : ll < P) (hg : g * f + o = w) (h : o * 4294967296 + l2 < g * s) : L < g * D := by
  have h1 : P * (o * 4294967296 + l2 + 1) ≤ P * (g * s) := Nat.mul_le_mul_left _ h
  have h4 : g * D = g * dl + P * (g * s) + P * (4294967296 * (g * f)) := by rw [hD]; grind
  have h5 : P * (o * 4294967296 + l2 + 1) + P * (4294967296 * (g * f)) = P * (l2 + 4294967296 * w) + P := by rw [← hg]; grind
  omega
theorem guess_near {D L P dl ll s f l2 w g o : Nat} (hD : D = dl + P * (s + 4294967296 * f)) (hL : L = ll + P * (l2 + 4294967296 * w)) (hdl : dl < P) (hf : 0 < f) (hg : g * f + o = w) (hb : g ≤ 4294967296) (h : g * s ≤ o * 4294967296 + l2) : g * D ≤ L + D := by
  have h1 : P * (g * s) ≤ P * (o * 4294967296 + l2) := Nat.mul_le_mul_left _ h
  have h4 : g * D = g * dl + P * (g * s) + P * (4294967296 * (g * f)) := by rw [hD]; grind
  have h5 : P * (o * 4294967296 + l2) + P * (4294967296 * (g * f)) = P * (l2 + 4294967296 * w) := by rw [← hg]; grind
  have h6 : g * dl ≤ 4294967296 * P := Nat.mul_le_mul hb (by omega)
  have h7 : P * (4294967296 * 1) ≤ P * (s + 4294967296 * f) := Nat.mul_le_mul_left _ (by omega)
  omega
/-- The two first limbs of a list, and the rest. -/
theorem val_top2 {ys : List Nat} (h : Limbs ys) {n : Nat} (hn : ys.length = n + 2) : ∃ dl, dl < 4294967296 ^ n ∧ val ys = dl + 4294967296 ^ n * (ys[n]?.getD 0 + 4294967296 * ys[n + 1]?.getD 0) := by
  refine ⟨seg ys 0 n, seg_lt h 0 n, ?_⟩
  rw [← seg_val ys, hn, seg_succ, seg_succ, Nat.zero_add, Nat.zero_add, Nat.pow_succ]
  grind
theorem seg_top3 {X : List Nat} (h : Limbs X) (off n : Nat) : ∃ ll, ll < 4294967296 ^ n ∧ seg X off (n + 3) = ll + 4294967296 ^ n * (X[off + n]?.getD 0 + 4294967296 * (X[off + (n + 1)]?.getD 0 + 4294967296 * X[off + (n + 2)]?.getD 0)) := by
  refine ⟨seg X off n, seg_lt h off n, ?_⟩
  rw [seg_succ, seg_succ, seg_succ, Nat.pow_succ, Nat.pow_succ]
  grind

theorem guess_top {D L P dl ll s f l2 w : Nat} (hD : D = dl + P * (s + 4294967296 * f)) (hL : L = ll + P * (l2 + 4294967296 * w)) (hdl : dl < P) (hs : s < 4294967296) (h : L < D * 4294967296) : w < 4294967296 * (f + 1) := by
  rcases Nat.lt_or_ge w (4294967296 * (f + 1)) with h1 | h1
  · exact h1
  · exfalso
    have h2 : P * (4294967296 * (4294967296 * (f + 1))) ≤ P * (4294967296 * w) := Nat.mul_le_mul_left _ (Nat.mul_le_mul_left _ h1)
    have h3 : P * (s + 4294967296 * f + 1) ≤ P * (4294967296 * (f + 1)) := Nat.mul_le_mul_left _ (by omega)
    have h4 : P * (4294967296 * (4294967296 * (f + 1))) = P * (4294967296 * (f + 1)) * 4294967296 := by grind
    have h5 : P * (s + 4294967296 * f + 1) = P * (s + 4294967296 * f) + P := by grind
    have h6 : P * (l2 + 4294967296 * w) = P * l2 + P * (4294967296 * w) := by grind
    omega
theorem guess_start {D L P dl ll s f l2 w : Nat} (hD : D = dl + P * (s + 4294967296 * f)) (hL : L = ll + P * (l2 + 4294967296 * w)) (hll : ll < P) (h2 : l2 < 4294967296) (hf : 0 < f) : L < (w / f + 1) * D := by
  rcases Nat.lt_or_ge L ((w / f + 1) * D) with h | h
  · exact h
  · have h1 := guess_lead hD hL hll h2 h
    have h3 := Nat.lt_mul_div_succ w hf
    rw [Nat.mul_comm] at h3
    omega
theorem guess_fix {M L D g x x' q : Nat} (h1 : x + D * g = L + M * 1) (hx : x < M) (hx' : x' < M) (h2 : x' + M * q = x + D) (hD : D ≤ M) (h3 : g * D ≤ L + D) : ∃ j, g = j + 1 ∧ x' + j * D = L ∧ x' < D := by
  rw [Nat.mul_comm D, Nat.mul_one] at h1
  rcases g with _ | j
  · rw [Nat.zero_mul] at h1; omega
  · rw [Nat.add_mul, Nat.one_mul] at h1 h3
    refine ⟨j, rfl, ?_⟩
    rcases q with _ | _ | q
    · rw [Nat.mul_zero] at h2; omega
    · rw [Nat.zero_add, Nat.mul_one] at h2; omega
    · have : M * (q + 1 + 1) = M * q + 2 * M := by grind
      omega
/-- What the first limbs tell. -/
def Tops (D L s f z2 wd : Nat) : Prop := ∃ P dl ll, dl < P ∧ ll < P ∧ D = dl + P * (s + 4294967296 * f) ∧ L = ll + P * (z2 + 4294967296 * wd)
theorem tops_of {ys Z : List Nat} (hy : Limbs ys) (hZ : Limbs Z) {off n : Nat} (hn : ys.length = n + 2) : Tops (val ys) (seg Z off (ys.length + 1)) (ys[n]?.getD 0) (ys[n + 1]?.getD 0) (Z[off + n]?.getD 0) (Z[off + (n + 2)]?.getD 0 * 4294967296 + Z[off + (n + 1)]?.getD 0) := by
  obtain ⟨dl, h1, h2⟩ := val_top2 hy hn
  obtain ⟨ll, h3, h4⟩ := seg_top3 hZ off n
  refine ⟨_, dl, ll, h1, h3, h2, ?_⟩
  rw [hn, show n + 2 + 1 = n + 3 from rfl, h4, Nat.add_comm (Z[off + (n + 2)]?.getD 0 * 4294967296), Nat.mul_comm _ 4294967296]

/-! ### limb by limb -/
structure QI (T D n m k : Nat) (X Q : List Nat) : Prop where
  xl : X.length = m + n
  ql : Q.length = m
  xs : Limbs X
  qs : Limbs Q
  sum : val X + D * (4294967296 ^ k * seg Q k (m - k)) = T
  lt : val X < D * 4294967296 ^ k
theorem QI.start {T D n m : Nat} {X : List Nat} (hx : Limbs X) (hl : X.length = m + n) (hv : val X = T) (hlt : T < D * 4294967296 ^ m) : QI T D n m m X (List.replicate m 0) :=
  ⟨hl, by simp, hx, limbs_replicate _, by rw [Nat.sub_self, seg_zero]; omega, by omega⟩
theorem piece_math {D P M L R S V : Nat} (e : V = S + P * (L + M * R)) (hlt : V < D * (P * 4294967296)) (h3 : D * 4294967296 ≤ M) : L < D * 4294967296 ∧ V = S + P * L := by
  have h1 : P * (L + M * R) < P * (D * 4294967296) := by
    have : D * (P * 4294967296) = P * (D * 4294967296) := by grind
    omega
  have h2 := Nat.lt_of_mul_lt_mul_left h1
  have h4 : R = 0 := by
    rcases Nat.eq_zero_or_pos R with h0 | h0
    · exact h0
    · have : M * 1 ≤ M * R := Nat.mul_le_mul_left _ h0
      omega
  subst h4
  simp only [Nat.mul_zero, Nat.add_zero] at h2 e
  exact ⟨h2, e⟩
theorem piece_split (X : List Nat) (k n r : Nat) : seg X 0 (k + (n + 1 + r)) = seg X 0 k + 4294967296 ^ k * (seg X k (n + 1) + 4294967296 ^ (n + 1) * seg X (k + (n + 1)) r) := by
  rw [seg_add X 0, Nat.zero_add, seg_add X k]
/-- The piece that is divided next. -/
theorem QI.piece {T D n m k : Nat} {X Q : List Nat} (h : QI T D n m (k + 1) X Q) (hk : k < m) (hD : D < 4294967296 ^ n) : seg X k (n + 1) < D * 4294967296 ∧ val X = seg X 0 k + 4294967296 ^ k * seg X k (n + 1) := by
  have hl : X.length = k + (n + 1 + (m - k - 1)) := by rw [h.xl]; clear h hD; omega
  have e := piece_split X k n (m - k - 1)
  rw [← hl, seg_val] at e
  have hlt := h.lt
  rw [Nat.pow_succ] at hlt
  refine piece_math e hlt ?_
  rw [Nat.pow_succ]
  exact Nat.mul_le_mul_right _ (Nat.le_of_lt hD)
theorem QI.step {T D n m k q : Nat} {X Q X' : List Nat} (h : QI T D n m (k + 1) X Q) (hk : k < m) (hD : D < 4294967296 ^ n) (hS : Same X k (n + 1) X') (hq : q < 4294967296) (he : seg X' k (n + 1) + q * D = seg X k (n + 1)) (hr : seg X' k (n + 1) < D) : QI T D n m k X' (Q.set k q) := by
  obtain ⟨h1, h2⟩ := h.piece hk hD
  have hw := hS.whole (by rw [h.xl]; omega)
  refine ⟨by rw [hS.1, h.xl], by rw [List.length_set, h.ql], hS.2.1, h.qs.set k hq, ?_, ?_⟩
  · have hs := h.sum
    have e1 : seg (Q.set k q) k (m - k) = q + 4294967296 * seg Q (k + 1) (m - (k + 1)) := by
      rw [show m - k = (m - (k + 1)) + 1 from by omega, seg_head, getD_set k (by rw [h.ql]; exact hk), if_pos rfl]
      congr 2
      refine seg_congr fun j hj => ?_
      rw [getD_set _ (by rw [h.ql]; exact hk), if_neg (by omega)]
    rw [e1, ← hs]
    rw [← he] at hw
    generalize seg Q (k + 1) (m - (k + 1)) = S at *
    generalize seg X' k (n + 1) = L at *
    rw [Nat.pow_succ]
    generalize 4294967296 ^ k = P at *
    have e2 : P * (L + q * D) = P * L + D * (P * q) := by grind
    have e3 : D * (P * (q + 4294967296 * S)) = D * (P * q) + D * (P * 4294967296 * S) := by grind
    omega
  · have e2 : val X' = seg X' 0 k + 4294967296 ^ k * seg X' k (n + 1) := by
      rw [hS.below]; omega
    rw [e2]
    have h3 := seg_lt hS.2.1 0 k
    have h4 : 4294967296 ^ k * (seg X' k (n + 1) + 1) ≤ 4294967296 ^ k * D := Nat.mul_le_mul_left _ hr
    rw [Nat.mul_add, Nat.mul_one] at h4
    rw [Nat.mul_comm D]
    omega
theorem QI.done {T D n m : Nat} {X Q : List Nat} (h : QI T D n m 0 X Q) (hD : 0 < D) : val Q = T / D ∧ val X = T % D := by
  have h1 := h.sum
  have h2 := h.lt
  rw [Nat.sub_zero, ← h.ql, seg_val, Nat.pow_zero, Nat.one_mul] at h1
  rw [Nat.pow_zero, Nat.mul_one] at h2
  have e := Nat.div_mod_unique (a := T) (b := D) (c := val X) (d := val Q) hD
  have := e.2 ⟨by rw [← h1], h2⟩
  exact ⟨this.1.symm, this.2.symm⟩

/-! ### by one limb -/
structure OI (xs : List Nat) (m k r : Nat) (Q : List Nat) : Prop where
  ql : Q.length = xs.length
  qs : Limbs Q
  sum : seg Q k (xs.length - k) * m + r = seg xs k (xs.length - k)
  lt : r < m
theorem OI.start (xs : List Nat) {m : Nat} (hm : 0 < m) : OI xs m xs.length 0 (List.replicate xs.length 0) := ⟨by simp, limbs_replicate _, by rw [Nat.sub_self, seg_zero, seg_zero]; omega, hm⟩
theorem oi_bound {x m r : Nat} (hx : x < 4294967296) (hr : r < m) : (r * 4294967296 + x) / m < 4294967296 := by
  rw [Nat.div_lt_iff_lt_mul (by omega)]
  have : (r + 1) * 4294967296 ≤ m * 4294967296 := Nat.mul_le_mul_right _ hr
  omega
theorem OI.step {xs Q : List Nat} {m k r t : Nat} (h : OI xs m (k + 1) r Q) (hk : k < xs.length) (hx : xs[k]?.getD 0 < 4294967296) (ht : t = r * 4294967296 + xs[k]?.getD 0) : OI xs m k (t % m) (Q.set k (t / m)) := by
  have hlt := h.lt
  refine ⟨by rw [List.length_set, h.ql], h.qs.set k (by rw [ht]; exact oi_bound hx hlt), ?_, Nat.mod_lt _ (by omega)⟩
  have e1 : seg (Q.set k (t / m)) k (xs.length - k) = t / m + 4294967296 * seg Q (k + 1) (xs.length - (k + 1)) := by
    rw [show xs.length - k = (xs.length - (k + 1)) + 1 from by omega, seg_head, getD_set k (by rw [h.ql]; exact hk), if_pos rfl]
    congr 2
    refine seg_congr fun j hj => ?_
    rw [getD_set _ (by rw [h.ql]; exact hk), if_neg (by omega)]
  have e2 : seg xs k (xs.length - k) = xs[k]?.getD 0 + 4294967296 * seg xs (k + 1) (xs.length - (k + 1)) := by
    rw [show xs.length - k = (xs.length - (k + 1)) + 1 from by omega, seg_head]
  have hs := h.sum
  rw [e1, e2, ← hs, Nat.add_mul]
  have e3 := Nat.div_add_mod t m
  rw [Nat.mul_comm] at e3
  generalize seg Q (k + 1) (xs.length - (k + 1)) = S at *
  have e4 : 4294967296 * (S * m + r) = 4294967296 * S * m + r * 4294967296 := by grind
  omega
theorem OI.done {xs Q : List Nat} {m r : Nat} (h : OI xs m 0 r Q) : val Q = val xs / m ∧ r = val xs % m := by
  have h1 := h.sum
  have h2 := h.lt
  rw [Nat.sub_zero, seg_val, ← h.ql, seg_val] at h1
  have e := Nat.div_mod_unique (a := val xs) (b := m) (c := r) (d := val Q) (by omega)
  have := e.2 ⟨by rw [← h1, Nat.mul_comm]; omega, h2⟩
  exact ⟨this.1.symm, this.2.symm⟩

/-! ### roots -/
/-- The greatest natural up to k whose square is not greater. -/
def rtd (n : Nat) : Nat → Nat
  | 0 => 0
  | k + 1 => if (k + 1) * (k + 1) ≤ n then k + 1 else rtd n k
/-- The root. -/
def rt (n : Nat) : Nat := rtd n n
theorem rtd_spec (n : Nat) : ∀ k, rtd n k * rtd n k ≤ n ∧ rtd n k ≤ k ∧ ∀ j, j ≤ k → j * j ≤ n → j ≤ rtd n k
  | 0 => ⟨by simp [rtd], Nat.le_refl _, fun j h _ => h⟩
  | k + 1 => by
    obtain ⟨h1, h2, h3⟩ := rtd_spec n k
    unfold rtd
    split
    · exact ⟨by assumption, Nat.le_refl _, fun j h _ => h⟩
    · refine ⟨h1, by omega, fun j hj hq => ?_⟩
      rcases Nat.lt_or_ge k j with h | h
      · obtain rfl : j = k + 1 := by omega
        contradiction
      · exact h3 j h hq
theorem rt_le (n : Nat) : rt n * rt n ≤ n := (rtd_spec n n).1
theorem rt_max {n j : Nat} (h : j * j ≤ n) : j ≤ rt n := by
  refine (rtd_spec n n).2.2 j ?_ h
  rcases Nat.eq_zero_or_pos j with h0 | h0
  · omega
  · have : j * 1 ≤ j * j := Nat.mul_le_mul_left _ h0
    omega
theorem rt_lt (n : Nat) : n < (rt n + 1) * (rt n + 1) := by
  rcases Nat.lt_or_ge n ((rt n + 1) * (rt n + 1)) with h | h
  · exact h
  · have := rt_max h; omega
theorem sq_mono {a b : Nat} (h : a ≤ b) : a * a ≤ b * b := Nat.mul_le_mul h h
theorem sq_lt {a b : Nat} (h : a < b) : a * a < b * b := by
  have := sq_mono (a := a + 1) (b := b) h
  have e : (a + 1) * (a + 1) = a * a + 2 * a + 1 := by grind
  omega
theorem lt_of_sq {a b : Nat} (h : a * a < b * b) : a < b := by
  rcases Nat.lt_or_ge a b with h1 | h1
  · exact h1
  · have := sq_mono h1; omega
theorem rt_eq {n r : Nat} (h1 : r * r ≤ n) (h2 : n < (r + 1) * (r + 1)) : rt n = r := by
  have h3 := rt_max h1
  have h4 := lt_of_sq (Nat.lt_of_le_of_lt (rt_le n) h2)
  omega
theorem rt_zero : rt 0 = 0 := rfl
theorem rt_sq (n : Nat) : rt (n * n) = n := rt_eq (Nat.le_refl _) (sq_lt (by omega))
theorem rt_mono {a b : Nat} (h : a ≤ b) : rt a ≤ rt b := rt_max (Nat.le_trans (rt_le a) h)
theorem four_sq {x q : Nat} : 4 * (x * (q + 1)) ≤ (x + q + 1) * (x + q + 1) := by
  rcases Nat.le_total x (q + 1) with h | h
  · obtain ⟨d, hd⟩ : ∃ d, q + 1 = x + d := ⟨q + 1 - x, by omega⟩
    have : x + q + 1 = x + (x + d) := by omega
    rw [this, hd]
    have e : (x + (x + d)) * (x + (x + d)) = 4 * (x * (x + d)) + d * d := by grind
    omega
  · obtain ⟨d, hd⟩ : ∃ d, x = q + 1 + d := ⟨x - (q + 1), by omega⟩
    subst hd
    have e : (q + 1 + d + q + 1) * (q + 1 + d + q + 1) = 4 * ((q + 1 + d) * (q + 1)) + d * d := by grind
    omega
/-- One step on. -/
theorem newton {n x : Nat} (hx : 0 < x) (_hlt : n / x < x) : n < ((x + n / x) / 2 + 1) * ((x + n / x) / 2 + 1) := by
  have h1 : n < x * (n / x + 1) := Nat.lt_mul_div_succ n hx
  generalize n / x = q at *
  have h2 := four_sq (x := x) (q := q)
  have h3 : x + q + 1 ≤ 2 * ((x + q) / 2 + 1) := by omega
  have h4 := sq_mono h3
  generalize (x + q) / 2 + 1 = y at *
  have e : 2 * y * (2 * y) = 4 * (y * y) := by grind
  omega
theorem newton_pos {n x : Nat} (hn : 0 < n) (hx : 0 < x) (_hlt : n / x < x) : 0 < (x + n / x) / 2 := by
  rcases Nat.eq_zero_or_pos (n / x) with h | h
  · have := (Nat.div_eq_zero_iff_lt hx).1 h
    omega
  · omega
theorem newton_end {n x : Nat} (hx : 0 < x) (h : x ≤ n / x) (hlt : n < (x + 1) * (x + 1)) : rt n = x := by
  refine rt_eq ?_ hlt
  exact (Nat.le_div_iff_mul_le hx).1 h
/-- What is begun with, by the root of the upper bits. -/
theorem above_up {n k : Nat} : n < ((rt (n / 2 ^ (2 * k)) + 1) * 2 ^ k) * ((rt (n / 2 ^ (2 * k)) + 1) * 2 ^ k) := by
  have h1 := rt_lt (n / 2 ^ (2 * k))
  generalize rt (n / 2 ^ (2 * k)) + 1 = r at *
  have h2 : (2 : Nat) ^ (2 * k) = 2 ^ k * 2 ^ k := by rw [Nat.two_mul, Nat.pow_add]
  have hp : 0 < (2 : Nat) ^ (2 * k) := Nat.two_pow_pos _
  rw [Nat.div_lt_iff_lt_mul hp, h2] at h1
  have e : r * 2 ^ k * (r * 2 ^ k) = r * r * (2 ^ k * 2 ^ k) := by grind
  omega

end Go.Proofs.Ytidflhonhekmjaa

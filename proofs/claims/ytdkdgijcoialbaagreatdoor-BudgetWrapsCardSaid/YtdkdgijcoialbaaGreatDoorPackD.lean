/- Several texts in one. -/
import Derived.Test.YtdkdgijcoialbaaGreatDoorPackM
import Derived.ScopeJumps
import Derived.WalkMore
import Derived.Laws.AppendOwnNone
import Derived.Deep.MidRow
import Derived.Lib.SliceRun

/- Plain mathematics for quotients: a limb that is guessed, taken times the divisor, put back; by one limb; roots. Imports nothing of the program. -/
namespace Go.Proofs.YtdkdgijcoialbaaGreatDoor

theorem Same.then {Z X Y : List Nat} {off k : Nat} (h : Same Z off k X) (h2 : Same X off k Y) : Same Z off k Y :=
  ⟨h2.1.trans h.1, h2.2.1, fun j hj => (h2.2.2.1 j hj).trans (h.2.2.1 j hj), fun j hj => (h2.2.2.2 j hj).trans (h.2.2.2 j hj)⟩

/-! ### left -= d times w -/
def TTI (Z : List Nat) (off : Nat) (ys : List Nat) (m k o : Nat) (X : List Nat) : Prop :=
  Same Z off k X ∧ o ≤ 4294967296 ∧ seg X off k + seg ys 0 k * m = seg Z off k + 4294967296 ^ k * o
theorem TTI.start {Z : List Nat} (h : Limbs Z) (off : Nat) (ys : List Nat) (m : Nat) : TTI Z off ys m 0 0 Z := ⟨Same.refl h off, by decide, by simp [seg]⟩
theorem tt_bound {v m o : Nat} (hv : v < 4294967296) (hm : m < 4294967296) (ho : o ≤ 4294967296) : v * m ≤ 18446744065119617025 ∧ (o + v * m) / 4294967296 + 1 ≤ 4294967296 := by
  have : v * m ≤ 4294967295 * 4294967295 := Nat.mul_le_mul (by omega) (by omega)
  omega
theorem TTI.step {Z X ys : List Nat} {off m k o s x b : Nat} (h : TTI Z off ys m k o X) (hk : off + k < Z.length) (hs : s = o + ys[k]?.getD 0 * m) (hx : x < 4294967296) (he : x + s % 4294967296 = X[off + k]?.getD 0 + 4294967296 * b) (hd : s / 4294967296 + b ≤ 4294967296) :
    TTI Z off ys m (k + 1) (s / 4294967296 + b) (X.set (off + k) x) := by
  obtain ⟨h1, h2, h3⟩ := h
  refine ⟨h1.step hk hx, hd, ?_⟩
  rw [h1.seg_set hk, seg_succ Z, seg_succ ys, Nat.zero_add, ← h1.2.2.2 (off + k) (Nat.le_refl _), Nat.pow_succ]
  generalize 4294967296 ^ k = P at *
  have e : P * (x + s % 4294967296) = P * (X[off + k]?.getD 0 + 4294967296 * b) := by rw [he]
  have e2 : P * s = P * o + P * (ys[k]?.getD 0) * m := by rw [hs, Nat.mul_add, Nat.mul_assoc]
  have e3 : P * (s % 4294967296) + P * 4294967296 * (s / 4294967296) = P * s := by rw [Nat.mul_assoc, ← Nat.mul_add, Nat.mod_add_div]
  rw [Nat.mul_add, Nat.mul_add, ← Nat.mul_assoc] at e
  rw [Nat.add_mul, Nat.mul_add (P * 4294967296)]
  omega
/-- The last place: what is borrowed there is what was too much. -/
theorem TTI.done {Z X ys : List Nat} {off m o x b : Nat} (h : TTI Z off ys m ys.length o X) (hk : off + ys.length < Z.length) (hx : x < 4294967296) (he : x + o = X[off + ys.length]?.getD 0 + 4294967296 * b) :
    Same Z off (ys.length + 1) (X.set (off + ys.length) x) ∧ seg (X.set (off + ys.length) x) off (ys.length + 1) + val ys * m = seg Z off (ys.length + 1) + 4294967296 ^ (ys.length + 1) * b := by
  obtain ⟨h1, h2, h3⟩ := h
  refine ⟨h1.step hk hx, ?_⟩
  rw [h1.seg_set hk, seg_succ Z, ← h1.2.2.2 (off + ys.length) (Nat.le_refl _), Nat.pow_succ]
  rw [seg_val] at h3
  generalize 4294967296 ^ ys.length = P at *
  have e : P * (x + o) = P * (X[off + ys.length]?.getD 0 + 4294967296 * b) := by rw [he]
  rw [Nat.mul_add, Nat.mul_add, ← Nat.mul_assoc] at e
  omega
/-! ### left += d, wrapped -/
theorem AddI.wrap {Z X ys : List Nat} {off c : Nat} (h : AddI Z off ys ys.length c X) (hk : off + ys.length < Z.length) :
    Same Z off (ys.length + 1) (X.set (off + ys.length) ((X[off + ys.length]?.getD 0 + c) % 4294967296)) ∧ ∃ q, seg (X.set (off + ys.length) ((X[off + ys.length]?.getD 0 + c) % 4294967296)) off (ys.length + 1) + 4294967296 ^ (ys.length + 1) * q = seg Z off (ys.length + 1) + val ys := by
  obtain ⟨h1, h2, h3⟩ := h
  have hx : (X[off + ys.length]?.getD 0 + c) % 4294967296 < 4294967296 := Nat.mod_lt _ (by decide)
  refine ⟨h1.step hk hx, (X[off + ys.length]?.getD 0 + c) / 4294967296, ?_⟩
  rw [h1.seg_set hk, seg_succ Z, ← h1.2.2.2 (off + ys.length) (Nat.le_refl _), Nat.pow_succ]
  rw [seg_val] at h3
  generalize 4294967296 ^ ys.length = P at *
  generalize X[off + ys.length]?.getD 0 = z at *
  have e3 : P * ((z + c) % 4294967296) + P * 4294967296 * ((z + c) / 4294967296) = P * z + P * c := by rw [Nat.mul_assoc, ← Nat.mul_add, Nat.mod_add_div, Nat.mul_add]
  omega

/-! ### the guess -/
theorem guess_lead {D L P dl ll s f l2 w q : Nat} (hD : D = dl + P * (s + 4294967296 * f)) (hL : L = ll + P * (l2 + 4294967296 * w)) (hll : ll < P) (h2 : l2 < 4294967296) (hq : q * D ≤ L) : q * f ≤ w := by
  rcases Nat.lt_or_ge w (q * f) with h | h
  · exfalso
    have h1 : P * (4294967296 * (w + 1)) ≤ P * (4294967296 * (q * f)) := Nat.mul_le_mul_left _ (Nat.mul_le_mul_left _ h)
    have h3 : P * (l2 + 1 + 4294967296 * w) ≤ P * (4294967296 * (w + 1)) := Nat.mul_le_mul_left _ (by omega)
    have h4 : q * D = q * dl + P * (q * s) + P * (4294967296 * (q * f)) := by rw [hD]; grind
    have h5 : P * (l2 + 1 + 4294967296 * w) = P * (l2 + 4294967296 * w) + P := by grind
    omega
  · exact h
theorem guess_over {D L P dl ll s f l2 w g o : Nat} (hD : D = dl + P * (s + 4294967296 * f)) (hL : L = ll + P * (l2 + 4294967296 * w)) (hll : ll < P) (hg : g * f + o = w) (h : o * 4294967296 + l2 < g * s) : L < g * D := by
  have h1 : P * (o * 4294967296 + l2 + 1) ≤ P * (g * s) := Nat.mul_le_mul_left _ h
  have h4 : g * D = g * dl + P * (g * s) + P * (4294967296 * (g * f)) := by rw [hD]; grind
  have h5 : P * (o * 4294967296 + l2 + 1) + P * (4294967296 * (g * f)) = P * (l2 + 4294967296 * w) + P := by rw [← hg]; grind
  omega
theorem guess_near {D L P dl ll s f l2 w g o : Nat} (hD : D = dl + P * (s + 4294967296 * f)) (hL : L = ll + P * (l2 + 4294967296 * w)) (hdl : dl < P) (hf : 0 < f) (hg : g * f + o = w) (hb : g ≤ 4294967296) (h : g * s ≤ o * 4294967296 + l2) : g * D ≤ L + D := by
  have h1 : P * (g * s) ≤ P * (o * 4294967296 + l2) := Nat.mul_le_mul_left _ h
  have h4 : g * D = g * dl + P * (g * s) + P * (4294967296 * (g * f)) := by rw [hD]; grind
  have h5 : P * (o * 4294967296 + l2) + P * (4294967296 * (g * f)) = P * (l2 + 4294967296 * w) := by rw [← hg]; grind
  have h6 : g * dl ≤ 4294967296 * P := Nat.mul_le_mul hb (by omega)
  have h7 : P * (4294967296 * 1) ≤ P * (s + 4294967296 * f) := Nat.mul_le_mul_left _ (by omega)
  omega
/-- The two first limbs of a list, and the rest. -/
theorem val_top2 {ys : List Nat} (h : Limbs ys) {n : Nat} (hn : ys.length = n + 2) : ∃ dl, dl < 4294967296 ^ n ∧ val ys = dl + 4294967296 ^ n * (ys[n]?.getD 0 + 4294967296 * ys[n + 1]?.getD 0) := by
  refine ⟨seg ys 0 n, seg_lt h 0 n, ?_⟩
  rw [← seg_val ys, hn, seg_succ, seg_succ, Nat.zero_add, Nat.zero_add, Nat.pow_succ]
  grind
theorem seg_top3 {X : List Nat} (h : Limbs X) (off n : Nat) : ∃ ll, ll < 4294967296 ^ n ∧ seg X off (n + 3) = ll + 4294967296 ^ n * (X[off + n]?.getD 0 + 4294967296 * (X[off + (n + 1)]?.getD 0 + 4294967296 * X[off + (n + 2)]?.getD 0)) := by
  refine ⟨seg X off n, seg_lt h off n, ?_⟩
  rw [seg_succ, seg_succ, seg_succ, Nat.pow_succ, Nat.pow_succ]
  grind

theorem guess_top {D L P dl ll s f l2 w : Nat} (hD : D = dl + P * (s + 4294967296 * f)) (hL : L = ll + P * (l2 + 4294967296 * w)) (hdl : dl < P) (hs : s < 4294967296) (h : L < D * 4294967296) : w < 4294967296 * (f + 1) := by
  rcases Nat.lt_or_ge w (4294967296 * (f + 1)) with h1 | h1
  · exact h1
  · exfalso
    have h2 : P * (4294967296 * (4294967296 * (f + 1))) ≤ P * (4294967296 * w) := Nat.mul_le_mul_left _ (Nat.mul_le_mul_left _ h1)
    have h3 : P * (s + 4294967296 * f + 1) ≤ P * (4294967296 * (f + 1)) := Nat.mul_le_mul_left _ (by omega)
    have h4 : P * (4294967296 * (4294967296 * (f + 1))) = P * (4294967296 * (f + 1)) * 4294967296 := by grind
    have h5 : P * (s + 4294967296 * f + 1) = P * (s + 4294967296 * f) + P := by grind
    have h6 : P * (l2 + 4294967296 * w) = P * l2 + P * (4294967296 * w) := by grind
    omega
theorem guess_start {D L P dl ll s f l2 w : Nat} (hD : D = dl + P * (s + 4294967296 * f)) (hL : L = ll + P * (l2 + 4294967296 * w)) (hll : ll < P) (h2 : l2 < 4294967296) (hf : 0 < f) : L < (w / f + 1) * D := by
  rcases Nat.lt_or_ge L ((w / f + 1) * D) with h | h
  · exact h
  · have h1 := guess_lead hD hL hll h2 h
    have h3 := Nat.lt_mul_div_succ w hf
    rw [Nat.mul_comm] at h3
    omega
theorem guess_fix {M L D g x x' q : Nat} (h1 : x + D * g = L + M * 1) (hx : x < M) (hx' : x' < M) (h2 : x' + M * q = x + D) (hD : D ≤ M) (h3 : g * D ≤ L + D) : ∃ j, g = j + 1 ∧ x' + j * D = L ∧ x' < D := by
  rw [Nat.mul_comm D, Nat.mul_one] at h1
  rcases g with _ | j
  · rw [Nat.zero_mul] at h1; omega
  · rw [Nat.add_mul, Nat.one_mul] at h1 h3
    refine ⟨j, rfl, ?_⟩
    rcases q with _ | _ | q
    · rw [Nat.mul_zero] at h2; omega
    · rw [Nat.zero_add, Nat.mul_one] at h2; omega
    · have : M * (q + 1 + 1) = M * q + 2 * M := by grind
      omega
/-- What the first limbs tell. -/
def Tops (D L s f z2 wd : Nat) : Prop := ∃ P dl ll, dl < P ∧ ll < P ∧ D = dl + P * (s + 4294967296 * f) ∧ L = ll + P * (z2 + 4294967296 * wd)
theorem tops_of {ys Z : List Nat} (hy : Limbs ys) (hZ : Limbs Z) {off n : Nat} (hn : ys.length = n + 2) : Tops (val ys) (seg Z off (ys.length + 1)) (ys[n]?.getD 0) (ys[n + 1]?.getD 0) (Z[off + n]?.getD 0) (Z[off + (n + 2)]?.getD 0 * 4294967296 + Z[off + (n + 1)]?.getD 0) := by
  obtain ⟨dl, h1, h2⟩ := val_top2 hy hn
  obtain ⟨ll, h3, h4⟩ := seg_top3 hZ off n
  refine ⟨_, dl, ll, h1, h3, h2, ?_⟩
  rw [hn, show n + 2 + 1 = n + 3 from rfl, h4, Nat.add_comm (Z[off + (n + 2)]?.getD 0 * 4294967296), Nat.mul_comm _ 4294967296]

/-! ### limb by limb -/
structure QI (T D n m k : Nat) (X Q : List Nat) : Prop where
  xl : X.length = m + n
  ql : Q.length = m
  xs : Limbs X
  qs : Limbs Q
  sum : val X + D * (4294967296 ^ k * seg Q k (m - k)) = T
  lt : val X < D * 4294967296 ^ k
theorem QI.start {T D n m : Nat} {X : List Nat} (hx : Limbs X) (hl : X.length = m + n) (hv : val X = T) (hlt : T < D * 4294967296 ^ m) : QI T D n m m X (List.replicate m 0) :=
  ⟨hl, by simp, hx, limbs_replicate _, by rw [Nat.sub_self, seg_zero]; omega, by omega⟩
theorem piece_math {D P M L R S V : Nat} (e : V = S + P * (L + M * R)) (hlt : V < D * (P * 4294967296)) (h3 : D * 4294967296 ≤ M) : L < D * 4294967296 ∧ V = S + P * L := by
  have h1 : P * (L + M * R) < P * (D * 4294967296) := by
    have : D * (P * 4294967296) = P * (D * 4294967296) := by grind
    omega
  have h2 := Nat.lt_of_mul_lt_mul_left h1
  have h4 : R = 0 := by
    rcases Nat.eq_zero_or_pos R with h0 | h0
    · exact h0
    · have : M * 1 ≤ M * R := Nat.mul_le_mul_left _ h0
      omega
  subst h4
  simp only [Nat.mul_zero, Nat.add_zero] at h2 e
  exact ⟨h2, e⟩
theorem piece_split (X : List Nat) (k n r : Nat) : seg X 0 (k + (n + 1 + r)) = seg X 0 k + 4294967296 ^ k * (seg X k (n + 1) + 4294967296 ^ (n + 1) * seg X (k + (n + 1)) r) := by
  rw [seg_add X 0, Nat.zero_add, seg_add X k]
/-- The piece that is divided next. -/
theorem QI.piece {T D n m k : Nat} {X Q : List Nat} (h : QI T D n m (k + 1) X Q) (hk : k < m) (hD : D < 4294967296 ^ n) : seg X k (n + 1) < D * 4294967296 ∧ val X = seg X 0 k + 4294967296 ^ k * seg X k (n + 1) := by
  have hl : X.length = k + (n + 1 + (m - k - 1)) := by rw [h.xl]; clear h hD; omega
  have e := piece_split X k n (m - k - 1)
  rw [← hl, seg_val] at e
  have hlt := h.lt
  rw [Nat.pow_succ] at hlt
  refine piece_math e hlt ?_
  rw [Nat.pow_succ]
  exact Nat.mul_le_mul_right _ (Nat.le_of_lt hD)
theorem QI.step {T D n m k q : Nat} {X Q X' : List Nat} (h : QI T D n m (k + 1) X Q) (hk : k < m) (hD : D < 4294967296 ^ n) (hS : Same X k (n + 1) X') (hq : q < 4294967296) (he : seg X' k (n + 1) + q * D = seg X k (n + 1)) (hr : seg X' k (n + 1) < D) : QI T D n m k X' (Q.set k q) := by
  obtain ⟨h1, h2⟩ := h.piece hk hD
  have hw := hS.whole (by rw [h.xl]; omega)
  refine ⟨by rw [hS.1, h.xl], by rw [List.length_set, h.ql], hS.2.1, h.qs.set k hq, ?_, ?_⟩
  · have hs := h.sum
    have e1 : seg (Q.set k q) k (m - k) = q + 4294967296 * seg Q (k + 1) (m - (k + 1)) := by
      rw [show m - k = (m - (k + 1)) + 1 from by omega, seg_head, getD_set k (by rw [h.ql]; exact hk), if_pos rfl]
      congr 2
      refine seg_congr fun j hj => ?_
      rw [getD_set _ (by rw [h.ql]; exact hk), if_neg (by omega)]
    rw [e1, ← hs]
    rw [← he] at hw
    generalize seg Q (k + 1) (m - (k + 1)) = S at *
    generalize seg X' k (n + 1) = L at *
    rw [Nat.pow_succ]
    generalize 4294967296 ^ k = P at *
    have e2 : P * (L + q * D) = P * L + D * (P * q) := by grind
    have e3 : D * (P * (q + 4294967296 * S)) = D * (P * q) + D * (P * 4294967296 * S) := by grind
    omega
  · have e2 : val X' = seg X' 0 k + 4294967296 ^ k * seg X' k (n + 1) := by
      rw [hS.below]; omega
    rw [e2]
    have h3 := seg_lt hS.2.1 0 k
    have h4 : 4294967296 ^ k * (seg X' k (n + 1) + 1) ≤ 4294967296 ^ k * D := Nat.mul_le_mul_left _ hr
    rw [Nat.mul_add, Nat.mul_one] at h4
    rw [Nat.mul_comm D]
    omega
theorem QI.done {T D n m : Nat} {X Q : List Nat} (h : QI T D n m 0 X Q) (hD : 0 < D) : val Q = T / D ∧ val X = T % D := by
  have h1 := h.sum
  have h2 := h.lt
  rw [Nat.sub_zero, ← h.ql, seg_val, Nat.pow_zero, Nat.one_mul] at h1
  rw [Nat.pow_zero, Nat.mul_one] at h2
  have e := Nat.div_mod_unique (a := T) (b := D) (c := val X) (d := val Q) hD
  have := e.2 ⟨by rw [← h1], h2⟩
  exact ⟨this.1.symm, this.2.symm⟩

/-! ### by one limb -/
structure OI (xs : List Nat) (m k r : Nat) (Q : List Nat) : Prop where
  ql : Q.length = xs.length
  qs : Limbs Q
  sum : seg Q k (xs.length - k) * m + r = seg xs k (xs.length - k)
  lt : r < m
theorem OI.start (xs : List Nat) {m : Nat} (hm : 0 < m) : OI xs m xs.length 0 (List.replicate xs.length 0) := ⟨by simp, limbs_replicate _, by rw [Nat.sub_self, seg_zero, seg_zero]; omega, hm⟩
theorem oi_bound {x m r : Nat} (hx : x < 4294967296) (hr : r < m) : (r * 4294967296 + x) / m < 4294967296 := by
  rw [Nat.div_lt_iff_lt_mul (by omega)]
  have : (r + 1) * 4294967296 ≤ m * 4294967296 := Nat.mul_le_mul_right _ hr
  omega
theorem OI.step {xs Q : List Nat} {m k r t : Nat} (h : OI xs m (k + 1) r Q) (hk : k < xs.length) (hx : xs[k]?.getD 0 < 4294967296) (ht : t = r * 4294967296 + xs[k]?.getD 0) : OI xs m k (t % m) (Q.set k (t / m)) := by
  have hlt := h.lt
  refine ⟨by rw [List.length_set, h.ql], h.qs.set k (by rw [ht]; exact oi_bound hx hlt), ?_, Nat.mod_lt _ (by omega)⟩
  have e1 : seg (Q.set k (t / m)) k (xs.length - k) = t / m + 4294967296 * seg Q (k + 1) (xs.length - (k + 1)) := by
    rw [show xs.length - k = (xs.length - (k + 1)) + 1 from by omega, seg_head, getD_set k (by rw [h.ql]; exact hk), if_pos rfl]
    congr 2
    refine seg_congr fun j hj => ?_
    rw [getD_set _ (by rw [h.ql]; exact hk), if_neg (by omega)]
  have e2 : seg xs k (xs.length - k) = xs[k]?.getD 0 + 4294967296 * seg xs (k + 1) (xs.length - (k + 1)) := by
    rw [show xs.length - k = (xs.length - (k + 1)) + 1 from by omega, seg_head]
  have hs := h.sum
  rw [e1, e2, ← hs, Nat.add_mul]
  have e3 := Nat.div_add_mod t m
  rw [Nat.mul_comm] at e3
  generalize seg Q (k + 1) (xs.length - (k + 1)) = S at *
  have e4 : 4294967296 * (S * m + r) = 4294967296 * S * m + r * 4294967296 := by grind
  omega
theorem OI.done {xs Q : List Nat} {m r : Nat} (h : OI xs m 0 r Q) : val Q = val xs / m ∧ r = val xs % m := by
  have h1 := h.sum
  have h2 := h.lt
  rw [Nat.sub_zero, seg_val, ← h.ql, seg_val] at h1
  have e := Nat.div_mod_unique (a := val xs) (b := m) (c := r) (d := val Q) (by omega)
  have := e.2 ⟨by rw [← h1, Nat.mul_comm]; omega, h2⟩
  exact ⟨this.1.symm, this.2.symm⟩

/-! ### roots -/
/-- The greatest natural up to k whose square is not greater. -/
def rtd (n : Nat) : Nat → Nat
  | 0 => 0
  | k + 1 => if (k + 1) * (k + 1) ≤ n then k + 1 else rtd n k
/-- The root. -/
def rt (n : Nat) : Nat := rtd n n
theorem rtd_spec (n : Nat) : ∀ k, rtd n k * rtd n k ≤ n ∧ rtd n k ≤ k ∧ ∀ j, j ≤ k → j * j ≤ n → j ≤ rtd n k
  | 0 => ⟨by simp [rtd], Nat.le_refl _, fun j h _ => h⟩
  | k + 1 => by
    obtain ⟨h1, h2, h3⟩ := rtd_spec n k
    unfold rtd
    split
    · exact ⟨by assumption, Nat.le_refl _, fun j h _ => h⟩
    · refine ⟨h1, by omega, fun j hj hq => ?_⟩
      rcases Nat.lt_or_ge k j with h | h
      · obtain rfl : j = k + 1 := by omega
        contradiction
      · exact h3 j h hq
theorem rt_le (n : Nat) : rt n * rt n ≤ n := (rtd_spec n n).1
theorem rt_max {n j : Nat} (h : j * j ≤ n) : j ≤ rt n := by
  refine (rtd_spec n n).2.2 j ?_ h
  rcases Nat.eq_zero_or_pos j with h0 | h0
  · omega
  · have : j * 1 ≤ j * j := Nat.mul_le_mul_left _ h0
    omega
theorem rt_lt (n : Nat) : n < (rt n + 1) * (rt n + 1) := by
  rcases Nat.lt_or_ge n ((rt n + 1) * (rt n + 1)) with h | h
  · exact h
  · have := rt_max h; omega
theorem sq_mono {a b : Nat} (h : a ≤ b) : a * a ≤ b * b := Nat.mul_le_mul h h
theorem sq_lt {a b : Nat} (h : a < b) : a * a < b * b := by
  have := sq_mono (a := a + 1) (b := b) h
  have e : (a + 1) * (a + 1) = a * a + 2 * a + 1 := by grind
  omega
theorem lt_of_sq {a b : Nat} (h : a * a < b * b) : a < b := by
  rcases Nat.lt_or_ge a b with h1 | h1
  · exact h1
  · have := sq_mono h1; omega
theorem rt_eq {n r : Nat} (h1 : r * r ≤ n) (h2 : n < (r + 1) * (r + 1)) : rt n = r := by
  have h3 := rt_max h1
  have h4 := lt_of_sq (Nat.lt_of_le_of_lt (rt_le n) h2)
  omega
theorem rt_zero : rt 0 = 0 := rfl
theorem rt_sq (n : Nat) : rt (n * n) = n := rt_eq (Nat.le_refl _) (sq_lt (by omega))
theorem rt_mono {a b : Nat} (h : a ≤ b) : rt a ≤ rt b := rt_max (Nat.le_trans (rt_le a) h)
theorem four_sq {x q : Nat} : 4 * (x * (q + 1)) ≤ (x + q + 1) * (x + q + 1) := by
  rcases Nat.le_total x (q + 1) with h | h
  · obtain ⟨d, hd⟩ : ∃ d, q + 1 = x + d := ⟨q + 1 - x, by omega⟩
    have : x + q + 1 = x + (x + d) := by omega
    rw [this, hd]
    have e : (x + (x + d)) * (x + (x + d)) = 4 * (x * (x + d)) + d * d := by grind
    omega
  · obtain ⟨d, hd⟩ : ∃ d, x = q + 1 + d := ⟨x - (q + 1), by omega⟩
    subst hd
    have e : (q + 1 + d + q + 1) * (q + 1 + d + q + 1) = 4 * ((q + 1 + d) * (q + 1)) + d * d := by grind
    omega
/-- One step on. -/
theorem newton {n x : Nat} (hx : 0 < x) (_hlt : n / x < x) : n < ((x + n / x) / 2 + 1) * ((x + n / x) / 2 + 1) := by
  have h1 : n < x * (n / x + 1) := Nat.lt_mul_div_succ n hx
  generalize n / x = q at *
  have h2 := four_sq (x := x) (q := q)
  have h3 : x + q + 1 ≤ 2 * ((x + q) / 2 + 1) := by omega
  have h4 := sq_mono h3
  generalize (x + q) / 2 + 1 = y at *
  have e : 2 * y * (2 * y) = 4 * (y * y) := by grind
  omega
theorem newton_pos {n x : Nat} (hn : 0 < n) (hx : 0 < x) (_hlt : n / x < x) : 0 < (x + n / x) / 2 := by
  rcases Nat.eq_zero_or_pos (n / x) with h | h
  · have := (Nat.div_eq_zero_iff_lt hx).1 h
    omega
  · omega
theorem newton_end {n x : Nat} (hx : 0 < x) (h : x ≤ n / x) (hlt : n < (x + 1) * (x + 1)) : rt n = x := by
  refine rt_eq ?_ hlt
  exact (Nat.le_div_iff_mul_le hx).1 h
/-- What is begun with, by the root of the upper bits. -/
theorem above_up {n k : Nat} : n < ((rt (n / 2 ^ (2 * k)) + 1) * 2 ^ k) * ((rt (n / 2 ^ (2 * k)) + 1) * 2 ^ k) := by
  have h1 := rt_lt (n / 2 ^ (2 * k))
  generalize rt (n / 2 ^ (2 * k)) + 1 = r at *
  have h2 : (2 : Nat) ^ (2 * k) = 2 ^ k * 2 ^ k := by rw [Nat.two_mul, Nat.pow_add]
  have hp : 0 < (2 : Nat) ^ (2 * k) := Nat.two_pow_pos _
  rw [Nat.div_lt_iff_lt_mul hp, h2] at h1
  have e : r * 2 ^ k * (r * 2 ^ k) = r * r * (2 ^ k * 2 ^ k) := by grind
  omega

end Go.Proofs.YtdkdgijcoialbaaGreatDoor

/- Contracts: div's trim, shifted, takeTimes, putBack. -/
namespace Go.Proofs.YtdkdgijcoialbaaGreatDoor
open Go.RowKit Go.Shelf

set_option linter.unusedVariables false

/-- What div's trim hands back. -/
def trimV (A : Option Addr) (k cap : Nat) : Value := if k = 0 then .slice none 0 0 else .slice A k cap
theorem trimV_no {A : Option Addr} {k cap : Nat} (h : k = 0) : Value.slice none 0 0 = trimV A k cap := by unfold trimV; rw [if_pos h]
theorem trimV_yes {A : Option Addr} {k k' cap : Nat} (h : k' = k) (h0 : 0 < k) : Value.slice A k cap = trimV A k' cap := by subst h; unfold trimV; rw [if_neg (by omega)]
theorem trimV_own {w : World} {B : Nat} {A : Option Addr} {cap : Nat} {xs : List Nat} (h : Own w B (.slice A xs.length cap) xs) : Own w B (trimV A xs.length cap) xs := by
  unfold trimV
  split
  · rename_i h0; rw [List.eq_nil_of_length_eq_zero h0]; exact Own.nil _ _
  · exact h

/-! ### shifted -/
theorem or_low {m c r : Nat} (hm : 2 ^ r ∣ m) (hc : c < 2 ^ r) (h1 : m < 18446744073709551616) (h2 : c < 18446744073709551616) : bits BinOp.or IntKind.u64 (m : Int) (c : Int) = (m : Int) + (c : Int) := by
  rw [u64_or_nat m c h1 h2]
  obtain ⟨q, rfl⟩ := hm
  rw [← Nat.two_pow_add_eq_or_of_lt hc]
  omega
theorem shift_carry {y c r : Nat} (hy : y < 4294967296) (hc : c < 2 ^ r) : (y * 2 ^ r + c) / 4294967296 < 2 ^ r := by
  rw [Nat.div_lt_iff_lt_mul (by decide)]
  have : (y + 1) * 2 ^ r ≤ 4294967296 * 2 ^ r := Nat.mul_le_mul_right _ hy
  rw [Nat.add_mul, Nat.one_mul] at this
  rw [Nat.mul_comm (2 ^ r)]
  omega
/-- What shifted hands back. -/
def ShiftPost (xs : List Nat) (r : Nat) (w : World) (e : Ending) (w' : World) : Prop :=
  (∃ v X, e = .returned v ∧ Own w' w.heap.size v X ∧ Limbs X ∧ X.length = xs.length + 1 ∧ val X = val xs * 2 ^ r) ∧ Below w.heap.size w w'

/-! ### takeTimes -/
/-- What takeTimes leaves. -/
def TTPost (Z : List Nat) (off : Nat) (ys : List Nat) (m g cz B : Nat) (w : World) (e : Ending) (w' : World) : Prop :=
  ∃ (b : Nat) (X : List Nat), b ≤ 1 ∧ e = .returned (.bool (decide (b = 1))) ∧ Same Z off (ys.length + 1) X ∧ seg X off (ys.length + 1) + val ys * m = seg Z off (ys.length + 1) + 4294967296 ^ (ys.length + 1) * b ∧ Own w' B (.slice (some ⟨g, 0, none⟩) X.length cz) X ∧ Only g w w'

/-! ### putBack -/
/-- What putBack leaves. -/
def PBPost (Z : List Nat) (off : Nat) (ys : List Nat) (g cz B : Nat) (w : World) (e : Ending) (w' : World) : Prop :=
  ∃ (q : Nat) (X : List Nat), e = .returned (.tuple #[]) ∧ Same Z off (ys.length + 1) X ∧ seg X off (ys.length + 1) + 4294967296 ^ (ys.length + 1) * q = seg Z off (ys.length + 1) + val ys ∧ Own w' B (.slice (some ⟨g, 0, none⟩) X.length cz) X ∧ Only g w w'

end Go.Proofs.YtdkdgijcoialbaaGreatDoor

/- Contract: nextLimb: a guess, put right by a jump back. -/
namespace Go.Proofs.YtdkdgijcoialbaaGreatDoor
open Go.RowKit Go.Shelf

set_option linter.unusedVariables false

/-- A scope with one label: what stands behind the label is walked once. -/
theorem wp_scope_label {P : Program} {a : Act} {w : World} {Q : Exit → Act → World → Prop} {c rest : Code} (l : Nat) (J : Act → World → Prop) (μ : Act → World → Nat) (hf : findLabel c l = some (Code.skip.seq rest))
    (pass : ∀ a w, J a w → rest.wp P (Exit.jump l (fun a' w' => J a' w' ∧ μ a' w' < μ a w) Q) a w)
    (first : (∀ a w, J a w → rest.wp P (Exit.jump l J Q) a w) → c.wp P (Exit.jump l J Q) a w) : (Code.scope c).wp P Q a w := by
  refine wp_scope_jumps l J μ hf (first fun a w h => wp_mono (pass a w h) fun e a' w' hq => ?_) fun a w h => wp_seq (wp_skip (pass a w h))
  cases e <;> first | exact hq | exact ⟨hq.1, hq.2.1⟩
theorem Only.trans {g : Nat} {a b c : World} (h : Only g a b) (k : Only g b c) : Only g a c := ⟨k.os.trans h.os, k.tape.trans h.tape, k.output.trans h.output, k.size.trans h.size, fun i hi => (k.block i hi).trans (h.block i hi)⟩
theorem Only.drewN (g : Nat) (w : World) (n : Nat) : Only g w (w.drewN n) := ⟨rfl, rfl, rfl, rfl, fun _ _ => rfl⟩
theorem Far.only {w w' : World} {g : Nat} {A : Option Addr} {xs : List Nat} (h : Far w g A xs) (k : Only g w w') : Far w' g A xs :=
  ⟨h.1, fun hn => by
    obtain ⟨b, off, e, hb, hc⟩ := h.2 hn
    exact ⟨b, off, e, hb, fun j hj => (k.cell (p := ⟨b, off + j, none⟩) hb).trans (hc j hj)⟩⟩

/-- What nextLimb leaves. -/
def NLPost (Z : List Nat) (off : Nat) (ys : List Nat) (g cz B : Nat) (w : World) (e : Ending) (w' : World) : Prop :=
  ∃ (q : Nat) (X : List Nat), e = .returned (.int .u32 (q : Int)) ∧ q < 4294967296 ∧ Same Z off (ys.length + 1) X ∧ seg X off (ys.length + 1) + q * val ys = seg Z off (ys.length + 1) ∧ seg X off (ys.length + 1) < val ys ∧ Own w' B (.slice (some ⟨g, 0, none⟩) X.length cz) X ∧ Only g w w'

theorem or_wide {x y : Nat} (hx : x < 4294967296) (hy : y < 4294967296) : bits BinOp.or IntKind.u64 ((x : Int) * 4294967296) (y : Int) = ((x * 4294967296 + y : Nat) : Int) := by
  have := or_low (m := x * 4294967296) (c := y) (r := 32) ⟨x, by omega⟩ hy (by omega) (by omega)
  rw [Int.natCast_mul] at this
  rw [show ((4294967296 : Nat) : Int) = 4294967296 from rfl] at this
  rw [this]; omega

/-- What holds at every jump. -/
def NLJ (g off cp : Nat) (b o cap N tp : Nat) (f s wd L D : Nat) (w : World) (a' : Act) (w' : World) : Prop :=
  (∃ n, w' = w.drewN n) ∧ ∃ (gg oo : Nat) (u2 u3 u8 u11 u12 u13 u14 u15 u16 u17 u18 u19 u20 u21 u22 u23 u24 u25 u26 u27 u28 u29 u30 u31 u32 u33 u34 u35 u36 u37 u38 u39 u40 u41 u42 u43 u44 u45 u46 u47 u48 u49 u50 u51 u52 u53 u54 u55 u56 u57 u58 u59 u60 u61 u62 u63 u64 u65 u66 u67 u68 u69 u70 u71 u72 u73 u74 u75 u76 u77 u78 u79 u80 : Value), a' = { tmps := #[.slice (some ⟨g, off, none⟩) (N + 1) cp, .slice (some ⟨b, o, none⟩) N cap, u2, u3, .int .u32 0, .int .i64 (tp : Int), .int .u64 (f : Int), .int .u64 (s : Int), u8, .int .u64 (gg : Int), .int .u64 (oo : Int), u11, u12, u13, u14, u15, u16, u17, u18, u19, u20, u21, u22, u23, u24, u25, u26, u27, u28, u29, u30, u31, u32, u33, u34, u35, u36, u37, u38, u39, u40, u41, u42, u43, u44, u45, u46, u47, u48, u49, u50, u51, u52, u53, u54, u55, u56, u57, u58, u59, u60, u61, u62, u63, u64, u65, u66, u67, u68, u69, u70, u71, u72, u73, u74, u75, u76, u77, u78, u79, u80], defers := [] } ∧ gg * f + oo = wd ∧ L < (gg + 1) * D ∧ gg < 18446744073709551616 ∧ oo < 8589934592

end Go.Proofs.YtdkdgijcoialbaaGreatDoor

/- Contracts: byLimb, byLimbs. -/
namespace Go.Proofs.YtdkdgijcoialbaaGreatDoor
open Go.RowKit Go.Shelf

set_option linter.unusedVariables false

/-! ### byLimb -/
/-- What byLimb hands back. -/
def BLPost (xs : List Nat) (m : Nat) (w : World) (e : Ending) (w' : World) : Prop :=
  (∃ v, e = .returned (.tuple #[v, .int .u32 ((val xs % m : Nat) : Int)]) ∧ Own w' w.heap.size v (lim (val xs / m))) ∧ Below w.heap.size w w'

/-! ### byLimbs -/
theorem Own.only {w w' : World} {B g h : Nat} {n cap : Nat} {xs : List Nat} (H : Own w B (.slice (some ⟨h, 0, none⟩) n cap) xs) (k : Only g w w') (hne : h ≠ g) : Own w' B (.slice (some ⟨h, 0, none⟩) n cap) xs := by
  refine ⟨H.1, ?_⟩
  rcases H.2 with ⟨e, _⟩ | ⟨g', cap', cur, e, hg, hh, r⟩
  · cases e
  · have e2 := e
    injection e2 with e1; injection e1 with e1; injection e1 with e1
    exact .inr ⟨g', cap', cur, e, hg, (k.block g' (by omega)).trans hh, r⟩
theorem Own.farOf {w : World} {B g h cap : Nat} {xs : List Nat} (H : Own w B (.slice (some ⟨h, 0, none⟩) xs.length cap) xs) (hl : Limbs xs) (hne : h ≠ g) : Far w g (some ⟨h, 0, none⟩) xs := by
  refine ⟨hl, fun hn => ⟨h, 0, rfl, hne, fun j hj => ?_⟩⟩
  have hc := World.ownsRow.cellAt H j (by omega)
  rw [Nat.zero_add, hc, u32s, List.getElem?_map, List.getElem?_eq_getElem hj]
  rfl
theorem blen_mul_pow {n r : Nat} (h : n ≠ 0) : blen (n * 2 ^ r) = blen n + r := by
  have := blen_shift (r := 0) (k := r) h (Nat.two_pow_pos r)
  rwa [Nat.add_zero] at this
/-- The divisor, shifted till its highest bit is 1, is as long as it was. -/
theorem shl_len {ys : List Nat} (hy : Canon ys) (h0 : 0 < ys.length) (hm : ys.length ≤ 65536) : sShl ys (((32 - blen (ys[ys.length - 1]?.getD 0) : Nat)) : Int) = lim (val ys * 2 ^ (32 - blen (ys[ys.length - 1]?.getD 0))) ∧ (lim (val ys * 2 ^ (32 - blen (ys[ys.length - 1]?.getD 0)))).length = ys.length := by
  have hb := blen_val hy h0
  have hl := hy.1.getD (ys.length - 1)
  have h32 : blen (ys[ys.length - 1]?.getD 0) ≤ 32 := blen_le.2 hl
  have hne : ys ≠ [] := fun e => by rw [e] at h0; simp at h0
  have hv := hy.val_pos hne
  generalize ys[ys.length - 1]?.getD 0 = t at *
  have hs := blen_mul_pow (n := val ys) (r := 32 - blen t) (by omega)
  have hlen : (lim (val ys * 2 ^ (32 - blen t))).length ≤ ys.length := lim_len_blen.2 (by omega)
  have hge : ¬ (lim (val ys * 2 ^ (32 - blen t))).length ≤ ys.length - 1 := fun h => by
    have := lim_len_blen.1 h
    omega
  have hmay : mayb ys = true := mayb_iff.2 ⟨hm, hy.2⟩
  refine ⟨?_, by omega⟩
  rw [sShl_yes hmay, clip_of (by omega)]
theorem lim_top {n : Nat} (h : 0 < (lim n).length) : 0 < (lim n)[(lim n).length - 1]?.getD 0 := by
  have := (canon_lim n).2
  rw [List.getLast?_eq_getElem?, List.getElem?_eq_getElem (by omega)] at this
  rw [List.getElem?_eq_getElem (by omega)]
  simp only [Option.getD_some]
  have h2 : (lim n)[(lim n).length - 1] ≠ 0 := fun e => this (by rw [e])
  omega
/-- What stands ahead of the first limb. -/
theorem start_lt {xs ys : List Nat} {r : Nat} (hx : Limbs xs) (hy : Canon ys) (h0 : 0 < ys.length) (hle : ys.length ≤ xs.length) : val xs * 2 ^ r < val ys * 2 ^ r * 4294967296 ^ (xs.length + 1 - ys.length) := by
  have h1 := val_lt hx
  have h2 := canon_val_ge hy (fun e => by rw [e] at h0; simp at h0)
  have h3 : 4294967296 ^ xs.length ≤ val ys * 4294967296 ^ (xs.length + 1 - ys.length) := by
    have e : xs.length = (ys.length - 1) + (xs.length + 1 - ys.length) := by omega
    conv => lhs; rw [e, Nat.pow_add]
    exact Nat.mul_le_mul_right _ h2
  have h4 : val xs * 2 ^ r < val ys * 4294967296 ^ (xs.length + 1 - ys.length) * 2 ^ r := Nat.mul_lt_mul_of_pos_right (Nat.lt_of_lt_of_le h1 h3) (Nat.two_pow_pos r)
  generalize 4294967296 ^ (xs.length + 1 - ys.length) = M at *
  have e : val ys * 2 ^ r * M = val ys * M * 2 ^ r := by grind
  omega
/-- Two slices share no block. -/
def Apart (v v' : Value) : Prop := ∀ g g' n n' c c', v = .slice (some ⟨g, 0, none⟩) n c → v' = .slice (some ⟨g', 0, none⟩) n' c' → g ≠ g'
theorem apart_nil (v : Value) : Apart (.slice none 0 0) v := fun g g' n n' c c' e _ => by cases e
theorem Own.apart {w w' : World} {B : Nat} {v v' : Value} {xs ys : List Nat} (h : Own w B v xs) (k : Own w' w.heap.size v' ys) : Apart v v' := fun g g' n n' c c' e e' => by
  subst e e'
  have h1 := h.lt_size
  have h2 := k.ge
  omega
/-- Quotient and remainder in new memory. -/
def QRPost (q r : Nat) (w : World) (e : Ending) (w' : World) : Prop :=
  (∃ v v', e = .returned (.tuple #[v, v']) ∧ Own w' w.heap.size v (lim q) ∧ Own w' w.heap.size v' (lim r) ∧ Apart v v') ∧ Below w.heap.size w w'

end Go.Proofs.YtdkdgijcoialbaaGreatDoor

/- Contracts: slices.Clone, DivMod, Small. -/
namespace Go.Proofs.YtdkdgijcoialbaaGreatDoor
open Go.RowKit Go.Shelf

set_option linter.unusedVariables false

theorem u32s_oneC (xs : List Nat) : ∀ u ∈ u32s xs, u.oneCell' = true := by
  intro u hu
  obtain ⟨x, _, rfl⟩ := List.mem_map.1 hu
  rfl
theorem own_empty (w : World) (B : Nat) : w.ownsRow B 95 1 (.slice none 0 0) 0 [] := World.ownsRow_nil _ _ _ _

/-! ### DivMod -/
def sDivE (xs ys : List Nat) : Nat := if mayb xs && mayb ys then (if ys.length = 0 then 41 else 0) else 4
def sDivQ (xs ys : List Nat) : List Nat := if sDivE xs ys = 0 then lim (val xs / val ys) else []
def sDivR (xs ys : List Nat) : List Nat := if sDivE xs ys = 0 then lim (val xs % val ys) else []
theorem sDivE_may {xs ys : List Nat} (h : (mayb xs && mayb ys) = false) : sDivE xs ys = 4 := by unfold sDivE; rw [h]; rfl
theorem sDivE_zero {xs ys : List Nat} (h : (mayb xs && mayb ys) = true) (h0 : ys.length = 0) : sDivE xs ys = 41 := by unfold sDivE; rw [h]; simp [h0]
theorem sDivE_ok {xs ys : List Nat} (h : (mayb xs && mayb ys) = true) (h0 : 0 < ys.length) : sDivE xs ys = 0 := by unfold sDivE; rw [h, if_pos rfl, if_neg (by omega)]
theorem sDivQ_no {xs ys : List Nat} (h : sDivE xs ys ≠ 0) : sDivQ xs ys = [] := if_neg h
theorem sDivR_no {xs ys : List Nat} (h : sDivE xs ys ≠ 0) : sDivR xs ys = [] := if_neg h
theorem sDivQ_ok {xs ys : List Nat} (h : sDivE xs ys = 0) : sDivQ xs ys = lim (val xs / val ys) := if_pos h
theorem sDivR_ok {xs ys : List Nat} (h : sDivE xs ys = 0) : sDivR xs ys = lim (val xs % val ys) := if_pos h
/-- Quotient, remainder, and an error in new memory. -/
def DMPost (q r : List Nat) (E : Nat) (w : World) (e : Ending) (w' : World) : Prop :=
  (∃ v v', e = .returned (.tuple #[v, v', .int .i64 (E : Int)]) ∧ Own w' w.heap.size v q ∧ Own w' w.heap.size v' r ∧ Apart v v') ∧ Below w.heap.size w w'
theorem DMPost.no {q r : List Nat} {E : Nat} {w : World} (hq : q = []) (hr : r = []) : DMPost q r E w (.returned (.tuple #[.slice none 0 0, .slice none 0 0, .int .i64 (E : Int)])) w :=
  ⟨⟨_, _, rfl, by rw [hq]; exact Own.nil _ _, by rw [hr]; exact Own.nil _ _, apart_nil _⟩, Below.refl _ _⟩

/-! ### Small -/
def sSmE (xs : List Nat) (m : Nat) : Nat := if mayb xs then (if m = 0 then 41 else 0) else 4
def sSmQ (xs : List Nat) (m : Nat) : List Nat := if sSmE xs m = 0 then lim (val xs / m) else []
def sSmR (xs : List Nat) (m : Nat) : Nat := if sSmE xs m = 0 then val xs % m else 0
def SmPost (q : List Nat) (r E : Nat) (w : World) (e : Ending) (w' : World) : Prop :=
  (∃ v, e = .returned (.tuple #[v, .int .u32 (r : Int), .int .i64 (E : Int)]) ∧ Own w' w.heap.size v q) ∧ Below w.heap.size w w'
theorem SmPost.no {q : List Nat} {r E : Nat} {w : World} (hq : q = []) (hr : r = 0) : SmPost q r E w (.returned (.tuple #[.slice none 0 0, .int .u32 0, .int .i64 (E : Int)])) w := by
  subst hq hr; exact ⟨⟨_, rfl, Own.nil _ _⟩, Below.refl _ _⟩
end Go.Proofs.YtdkdgijcoialbaaGreatDoor

/- Contracts: aboveRoot, Root. -/
namespace Go.Proofs.YtdkdgijcoialbaaGreatDoor
open Go.RowKit Go.Shelf

set_option linter.unusedVariables false

theorem u32s_inj : ∀ {xs ys : List Nat}, u32s xs = u32s ys → xs = ys
  | [], [], _ => rfl
  | [], _ :: _, h => by simp [u32s] at h
  | _ :: _, [], h => by simp [u32s] at h
  | x :: r, y :: s, h => by
    simp only [u32s, List.map_cons, List.cons.injEq] at h
    obtain ⟨h1, h2⟩ := h
    unfold lv at h1
    injection h1 with _ h1
    rw [u32s_inj (xs := r) (ys := s) h2, Int.ofNat_inj.1 h1]
/-- What an own slice holds is one list. -/
theorem Own.inj {w : World} {B B' : Nat} {v : Value} {xs ys : List Nat} (h : Own w B v xs) (k : Own w B' v ys) : xs = ys := by
  rcases h.2 with ⟨rfl, h0⟩ | ⟨g, cap, cur, rfl, hg, hh, hle, hm, hs, ht⟩
  · rcases k.2 with ⟨_, k0⟩ | ⟨g', cap', cur', e, _⟩
    · rw [List.eq_nil_of_length_eq_zero h0, List.eq_nil_of_length_eq_zero k0]
    · cases e
  · rcases k.2 with ⟨e, k0⟩ | ⟨g', cap', cur', e, hg', hh', hle', hm', hs', ht'⟩
    · cases e
    · injection e with e1 e2 e3
      injection e1 with e1
      injection e1 with e1
      subst e1
      rw [hh] at hh'
      injection hh' with hc
      injection hc with hc
      subst hc
      rw [e2] at ht
      exact u32s_inj (ht.symm.trans ht')
open Classical in
/-- The natural that an own slice holds. -/
noncomputable def natOf (w : World) (B : Nat) (v : Value) : Nat := if h : ∃ x, Own w B v (lim x) then Classical.choose h else 0
theorem natOf_own {w : World} {B x : Nat} {v : Value} (h : Own w B v (lim x)) : natOf w B v = x := by
  have he : ∃ x, Own w B v (lim x) := ⟨x, h⟩
  unfold natOf
  rw [dif_pos he]
  exact lim_inj (Own.inj (Classical.choose_spec he) h)

theorem lim_len_mono {a b : Nat} (h : a ≤ b) : (lim a).length ≤ (lim b).length := lim_length_le.2 (Nat.lt_of_le_of_lt h (lim_length_le.1 (Nat.le_refl _)))
theorem lim_len_add {a b k : Nat} (h : (lim a).length ≤ k) (hb : b ≤ a) : (lim (a + b)).length ≤ k + 1 := by
  have := lim_length_le.1 h
  refine lim_length_le.2 ?_
  rw [Nat.pow_succ]
  generalize 4294967296 ^ k = P at *
  omega
theorem rt_bits {n m : Nat} (h : n < 2 ^ m) : rt n < 2 ^ ((m + 1) / 2) := by
  refine lt_of_sq (Nat.lt_of_le_of_lt (rt_le n) (Nat.lt_of_lt_of_le h ?_))
  rw [← Nat.pow_add]
  exact Nat.pow_le_pow_right (by decide) (by omega)
theorem above_len {n m k : Nat} (h : blen n ≤ m) (hk : 2 * k ≤ m) : blen ((rt (n / 2 ^ (2 * k)) + 1) * 2 ^ k) ≤ (m + 1) / 2 + 1 := by
  rw [blen_mul_pow (by omega)]
  have h1 : n / 2 ^ (2 * k) < 2 ^ (m - 2 * k) := by
    rw [Nat.div_lt_iff_lt_mul (Nat.two_pow_pos _), ← Nat.pow_add, show m - 2 * k + 2 * k = m from by omega]
    exact blen_le.1 h
  have h2 := rt_bits h1
  have h3 : blen (rt (n / 2 ^ (2 * k)) + 1) ≤ (m - 2 * k + 1) / 2 + 1 := by
    rw [blen_le, Nat.pow_succ]
    have := Nat.two_pow_pos ((m - 2 * k + 1) / 2)
    omega
  omega
theorem small_up {n m : Nat} (h : blen n ≤ m) : n < 1 * 2 ^ ((m + 1) / 2) * (1 * 2 ^ ((m + 1) / 2)) := by
  rw [Nat.one_mul, ← Nat.pow_add]
  exact Nat.lt_of_lt_of_le (blen_le.1 h) (Nat.pow_le_pow_right (by decide) (by omega))

def sRoot (xs : List Nat) : List Nat := if mayb xs then lim (rt (val xs)) else []
theorem sRoot_yes {xs : List Nat} (h : mayb xs = true) : sRoot xs = lim (rt (val xs)) := by unfold sRoot; rw [h]; rfl
theorem sRoot_no {xs : List Nat} (h : mayb xs = false) : sRoot xs = [] := by unfold sRoot; rw [h]; rfl
theorem sRoot_nil : sRoot [] = [] := by rw [sRoot_yes mayb_nil]; show lim (rt 0) = []; rw [rt_zero, lim_zero]
theorem sRoot_limbs (xs : List Nat) : Limbs (sRoot xs) := by
  unfold sRoot; split
  · exact lim_limbs _
  · exact limbs_nil
theorem Env.newR {w0 w w' : World} {l : List (Value × List Nat)} (h : Env w0 w l) {xs : List Nat} (hl : Limbs xs) {v : Value} (ho : Own w' w.heap.size v xs) (hb : Below w.heap.size w w') : Env w0 w' ((v, xs) :: l) := h.add hb (ho.arg hl)

/-- What aboveRoot hands back. -/
def ARPost (n : Nat) (w : World) (e : Ending) (w' : World) : Prop := ∃ R v, n < R * R ∧ (lim R).length ≤ 32769 ∧ e = .returned v ∧ Own w' w.heap.size v (lim R) ∧ Below w.heap.size w w'

end Go.Proofs.YtdkdgijcoialbaaGreatDoor

/- Several texts in one. -/
import Derived.Test.YtileljokijmpaaaDoorPackM
import Derived.ScopeJumps
import Derived.WalkMore
import Derived.Laws.AppendOwnNone
import Derived.Deep.MidRow
import Derived.Lib.SliceRun

/- Plain mathematics for quotients: a limb that is guessed, taken times the divisor, put back; by one limb; roots. Imports nothing of the program. -/
namespace Go.Proofs.YtileljokijmpaaaDoor

theorem Same.then {Z X Y : List Nat} {off k : Nat} (h : Same Z off k X) (h2 : Same X off k Y) : Same Z off k Y :=
  ⟨h2.1.trans h.1, h2.2.1, fun j hj => (h2.2.2.1 j hj).trans (h.2.2.1 j hj), fun j hj => (h2.2.2.2 j hj).trans (h.2.2.2 j hj)⟩

/-! ### left -= d times w -/
def TTI (Z : List Nat) (off : Nat) (ys : List Nat) (m k o : Nat) (X : List Nat) : Prop :=
  Same Z off k X ∧ o ≤ 4294967296 ∧ seg X off k + seg ys 0 k * m = seg Z off k + 4294967296 ^ k * o
theorem TTI.start {Z : List Nat} (h : Limbs Z) (off : Nat) (ys : List Nat) (m : Nat) : TTI Z off ys m 0 0 Z := ⟨Same.refl h off, by decide, by simp [seg]⟩
theorem tt_bound {v m o : Nat} (hv : v < 4294967296) (hm : m < 4294967296) (ho : o ≤ 4294967296) : v * m ≤ 18446744065119617025 ∧ (o + v * m) / 4294967296 + 1 ≤ 4294967296 := by
  have : v * m ≤ 4294967295 * 4294967295 := Nat.mul_le_mul (by omega) (by omega)
  omega
theorem TTI.step {Z X ys : List Nat} {off m k o s x b : Nat} (h : TTI Z off ys m k o X) (hk : off + k < Z.length) (hs : s = o + ys[k]?.getD 0 * m) (hx : x < 4294967296) (he : x + s % 4294967296 = X[off + k]?.getD 0 + 4294967296 * b) (hd : s / 4294967296 + b ≤ 4294967296) :
    TTI Z off ys m (k + 1) (s / 4294967296 + b) (X.set (off + k) x) := by
  obtain ⟨h1, h2, h3⟩ := h
  refine ⟨h1.step hk hx, hd, ?_⟩
  rw [h1.seg_set hk, seg_succ Z, seg_succ ys, Nat.zero_add, ← h1.2.2.2 (off + k) (Nat.le_refl _), Nat.pow_succ]
  generalize 4294967296 ^ k = P at *
  have e : P * (x + s % 4294967296) = P * (X[off + k]?.getD 0 + 4294967296 * b) := by rw [he]
  have e2 : P * s = P * o + P * (ys[k]?.getD 0) * m := by rw [hs, Nat.mul_add, Nat.mul_assoc]
  have e3 : P * (s % 4294967296) + P * 4294967296 * (s / 4294967296) = P * s := by rw [Nat.mul_assoc, ← Nat.mul_add, Nat.mod_add_div]
  rw [Nat.mul_add, Nat.mul_add, ← Nat.mul_assoc] at e
  rw [Nat.add_mul, Nat.mul_add (P * 4294967296)]
  omega
/-- The last place: what is borrowed there is what was too much. -/
theorem TTI.done {Z X ys : List Nat} {off m o x b : Nat} (h : TTI Z off ys m ys.length o X) (hk : off + ys.length < Z.length) (hx : x < 4294967296) (he : x + o = X[off + ys.length]?.getD 0 + 4294967296 * b) :
    Same Z off (ys.length + 1) (X.set (off + ys.length) x) ∧ seg (X.set (off + ys.length) x) off (ys.length + 1) + val ys * m = seg Z off (ys.length + 1) + 4294967296 ^ (ys.length + 1) * b := by
  obtain ⟨h1, h2, h3⟩ := h
  refine ⟨h1.step hk hx, ?_⟩
  rw [h1.seg_set hk, seg_succ Z, ← h1.2.2.2 (off + ys.length) (Nat.le_refl _), Nat.pow_succ]
  rw [seg_val] at h3
  generalize 4294967296 ^ ys.length = P at *
  have e : P * (x + o) = P * (X[off + ys.length]?.getD 0 + 4294967296 * b) := by rw [he]
  rw [Nat.mul_add, Nat.mul_add, ← Nat.mul_assoc] at e
  omega
/-! ### left += d, wrapped -/
theorem AddI.wrap {Z X ys : List Nat} {off c : Nat} (h : AddI Z off ys ys.length c X) (hk : off + ys.length < Z.length) :
    Same Z off (ys.length + 1) (X.set (off + ys.length) ((X[off + ys.length]?.getD 0 + c) % 4294967296)) ∧ ∃ q, seg (X.set (off + ys.length) ((X[off + ys.length]?.getD 0 + c) % 4294967296)) off (ys.length + 1) + 4294967296 ^ (ys.length + 1) * q = seg Z off (ys.length + 1) + val ys := by
  obtain ⟨h1, h2, h3⟩ := h
  have hx : (X[off + ys.length]?.getD 0 + c) % 4294967296 < 4294967296 := Nat.mod_lt _ (by decide)
  refine ⟨h1.step hk hx, (X[off + ys.length]?.getD 0 + c) / 4294967296, ?_⟩
  rw [h1.seg_set hk, seg_succ Z, ← h1.2.2.2 (off + ys.length) (Nat.le_refl _), Nat.pow_succ]
  rw [seg_val] at h3
  generalize 4294967296 ^ ys.length = P at *
  generalize X[off + ys.length]?.getD 0 = z at *
  have e3 : P * ((z + c) % 4294967296) + P * 4294967296 * ((z + c) / 4294967296) = P * z + P * c := by rw [Nat.mul_assoc, ← Nat.mul_add, Nat.mod_add_div, Nat.mul_add]
  omega

/-! ### the guess -/
theorem guess_lead {D L P dl ll s f l2 w q : Nat} (hD : D = dl + P * (s + 4294967296 * f)) (hL : L = ll + P * (l2 + 4294967296 * w)) (hll : ll < P) (h2 : l2 < 4294967296) (hq : q * D ≤ L) : q * f ≤ w := by
  rcases Nat.lt_or_ge w (q * f) with h | h
  · exfalso
    have h1 : P * (4294967296 * (w + 1)) ≤ P * (4294967296 * (q * f)) := Nat.mul_le_mul_left _ (Nat.mul_le_mul_left _ h)
    have h3 : P * (l2 + 1 + 4294967296 * w) ≤ P * (4294967296 * (w + 1)) := Nat.mul_le_mul_left _ (by omega)
    have h4 : q * D = q * dl + P * (q * s) + P * (4294967296 * (q * f)) := by rw [hD]; grind
    have h5 : P * (l2 + 1 + 4294967296 * w) = P * (l2 + 4294967296 * w) + P := by grind
    omega
  · exact h
theorem guess_over {D L P dl ll s f l2 w g o : Nat} (hD : D = dl + P * (s + 4294967296 * f)) (hL : L = ll + P * (l2 + 4294967296 * w)) (hll : ll < P) (hg : g * f + o = w) (h : o * 4294967296 + l2 < g * s) : L < g * D := by
  have h1 : P * (o * 4294967296 + l2 + 1) ≤ P * (g * s) := Nat.mul_le_mul_left _ h
  have h4 : g * D = g * dl + P * (g * s) + P * (4294967296 * (g * f)) := by rw [hD]; grind
  have h5 : P * (o * 4294967296 + l2 + 1) + P * (4294967296 * (g * f)) = P * (l2 + 4294967296 * w) + P := by rw [← hg]; grind
  omega
theorem guess_near {D L P dl ll s f l2 w g o : Nat} (hD : D = dl + P * (s + 4294967296 * f)) (hL : L = ll + P * (l2 + 4294967296 * w)) (hdl : dl < P) (hf : 0 < f) (hg : g * f + o = w) (hb : g ≤ 4294967296) (h : g * s ≤ o * 4294967296 + l2) : g * D ≤ L + D := by
  have h1 : P * (g * s) ≤ P * (o * 4294967296 + l2) := Nat.mul_le_mul_left _ h
  have h4 : g * D = g * dl + P * (g * s) + P * (4294967296 * (g * f)) := by rw [hD]; grind
  have h5 : P * (o * 4294967296 + l2) + P * (4294967296 * (g * f)) = P * (l2 + 4294967296 * w) := by rw [← hg]; grind
  have h6 : g * dl ≤ 4294967296 * P := Nat.mul_le_mul hb (by omega)
  have h7 : P * (4294967296 * 1) ≤ P * (s + 4294967296 * f) := Nat.mul_le_mul_left _ (by omega)
  omega
/-- The two first limbs of a list, and the rest. -/
theorem val_top2 {ys : List Nat} (h : Limbs ys) {n : Nat} (hn : ys.length = n + 2) : ∃ dl, dl < 4294967296 ^ n ∧ val ys = dl + 4294967296 ^ n * (ys[n]?.getD 0 + 4294967296 * ys[n + 1]?.getD 0) := by
  refine ⟨seg ys 0 n, seg_lt h 0 n, ?_⟩
  rw [← seg_val ys, hn, seg_succ, seg_succ, Nat.zero_add, Nat.zero_add, Nat.pow_succ]
  grind
theorem seg_top3 {X : List Nat} (h : Limbs X) (off n : Nat) : ∃ ll, ll < 4294967296 ^ n ∧ seg X off (n + 3) = ll + 4294967296 ^ n * (X[off + n]?.getD 0 + 4294967296 * (X[off + (n + 1)]?.getD 0 + 4294967296 * X[off + (n + 2)]?.getD 0)) := by
  refine ⟨seg X off n, seg_lt h off n, ?_⟩
  rw [seg_succ, seg_succ, seg_succ, Nat.pow_succ, Nat.pow_succ]
  grind

theorem guess_top {D L P dl ll s f l2 w : Nat} (hD : D = dl + P * (s + 4294967296 * f)) (hL : L = ll + P * (l2 + 4294967296 * w)) (hdl : dl < P) (hs : s < 4294967296) (h : L < D * 4294967296) : w < 4294967296 * (f + 1) := by
  rcases Nat.lt_or_ge w (4294967296 * (f + 1)) with h1 | h1
  · exact h1
  · exfalso
    have h2 : P * (4294967296 * (4294967296 * (f + 1))) ≤ P * (4294967296 * w) := Nat.mul_le_mul_left _ (Nat.mul_le_mul_left _ h1)
    have h3 : P * (s + 4294967296 * f + 1) ≤ P * (4294967296 * (f + 1)) := Nat.mul_le_mul_left _ (by omega)
    have h4 : P * (4294967296 * (4294967296 * (f + 1))) = P * (4294967296 * (f + 1)) * 4294967296 := by grind
    have h5 : P * (s + 4294967296 * f + 1) = P * (s + 4294967296 * f) + P := by grind
    have h6 : P * (l2 + 4294967296 * w) = P * l2 + P * (4294967296 * w) := by grind
    omega
theorem guess_start {D L P dl ll s f l2 w : Nat} (hD : D = dl + P * (s + 4294967296 * f)) (hL : L = ll + P * (l2 + 4294967296 * w)) (hll : ll < P) (h2 : l2 < 4294967296) (hf : 0 < f) : L < (w / f + 1) * D := by
  rcases Nat.lt_or_ge L ((w / f + 1) * D) with h | h
  · exact h
  · have h1 := guess_lead hD hL hll h2 h
    have h3 := Nat.lt_mul_div_succ w hf
    rw [Nat.mul_comm] at h3
    omega
theorem guess_fix {M L D g x x' q : Nat} (h1 : x + D * g = L + M * 1) (hx : x < M) (hx' : x' < M) (h2 : x' + M * q = x + D) (hD : D ≤ M) (h3 : g * D ≤ L + D) : ∃ j, g = j + 1 ∧ x' + j * D = L ∧ x' < D := by
  rw [Nat.mul_comm D, Nat.mul_one] at h1
  rcases g with _ | j
  · rw [Nat.zero_mul] at h1; omega
  · rw [Nat.add_mul, Nat.one_mul] at h1 h3
    refine ⟨j, rfl, ?_⟩
    rcases q with _ | _ | q
    · rw [Nat.mul_zero] at h2; omega
    · rw [Nat.zero_add, Nat.mul_one] at h2; omega
    · have : M * (q + 1 + 1) = M * q + 2 * M := by grind
      omega
/-- What the first limbs tell. -/
def Tops (D L s f z2 wd : Nat) : Prop := ∃ P dl ll, dl < P ∧ ll < P ∧ D = dl + P * (s + 4294967296 * f) ∧ L = ll + P * (z2 + 4294967296 * wd)
theorem tops_of {ys Z : List Nat} (hy : Limbs ys) (hZ : Limbs Z) {off n : Nat} (hn : ys.length = n + 2) : Tops (val ys) (seg Z off (ys.length + 1)) (ys[n]?.getD 0) (ys[n + 1]?.getD 0) (Z[off + n]?.getD 0) (Z[off + (n + 2)]?.getD 0 * 4294967296 + Z[off + (n + 1)]?.getD 0) := by
  obtain ⟨dl, h1, h2⟩ := val_top2 hy hn
  obtain ⟨ll, h3, h4⟩ := seg_top3 hZ off n
  refine ⟨_, dl, ll, h1, h3, h2, ?_⟩
  rw [hn, show n + 2 + 1 = n + 3 from rfl, h4, Nat.add_comm (Z[off + (n + 2)]?.getD 0 * 4294967296), Nat.mul_comm _ 4294967296]

/-! ### limb by limb -/
structure QI (T D n m k : Nat) (X Q : List Nat) : Prop where
  xl : X.length = m + n
  ql : Q.length = m
  xs : Limbs X
  qs : Limbs Q
  sum : val X + D * (4294967296 ^ k * seg Q k (m - k)) = T
  lt : val X < D * 4294967296 ^ k
theorem QI.start {T D n m : Nat} {X : List Nat} (hx : Limbs X) (hl : X.length = m + n) (hv : val X = T) (hlt : T < D * 4294967296 ^ m) : QI T D n m m X (List.replicate m 0) :=
  ⟨hl, by simp, hx, limbs_replicate _, by rw [Nat.sub_self, seg_zero]; omega, by omega⟩
theorem piece_math {D P M L R S V : Nat} (e : V = S + P * (L + M * R)) (hlt : V < D * (P * 4294967296)) (h3 : D * 4294967296 ≤ M) : L < D * 4294967296 ∧ V = S + P * L := by
  have h1 : P * (L + M * R) < P * (D * 4294967296) := by
    have : D * (P * 4294967296) = P * (D * 4294967296) := by grind
    omega
  have h2 := Nat.lt_of_mul_lt_mul_left h1
  have h4 : R = 0 := by
    rcases Nat.eq_zero_or_pos R with h0 | h0
    · exact h0
    · have : M * 1 ≤ M * R := Nat.mul_le_mul_left _ h0
      omega
  subst h4
  simp only [Nat.mul_zero, Nat.add_zero] at h2 e
  exact ⟨h2, e⟩
theorem piece_split (X : List Nat) (k n r : Nat) : seg X 0 (k + (n + 1 + r)) = seg X 0 k + 4294967296 ^ k * (seg X k (n + 1) + 4294967296 ^ (n + 1) * seg X (k + (n + 1)) r) := by
  rw [seg_add X 0, Nat.zero_add, seg_add X k]
/-- The piece that is divided next. -/
theorem QI.piece {T D n m k : Nat} {X Q : List Nat} (h : QI T D n m (k + 1) X Q) (hk : k < m) (hD : D < 4294967296 ^ n) : seg X k (n + 1) < D * 4294967296 ∧ val X = seg X 0 k + 4294967296 ^ k * seg X k (n + 1) := by
  have hl : X.length = k + (n + 1 + (m - k - 1)) := by rw [h.xl]; clear h hD; omega
  have e := piece_split X k n (m - k - 1)
  rw [← hl, seg_val] at e
  have hlt := h.lt
  rw [Nat.pow_succ] at hlt
  refine piece_math e hlt ?_
  rw [Nat.pow_succ]
  exact Nat.mul_le_mul_right _ (Nat.le_of_lt hD)
theorem QI.step {T D n m k q : Nat} {X Q X' : List Nat} (h : QI T D n m (k + 1) X Q) (hk : k < m) (hD : D < 4294967296 ^ n) (hS : Same X k (n + 1) X') (hq : q < 4294967296) (he : seg X' k (n + 1) + q * D = seg X k (n + 1)) (hr : seg X' k (n + 1) < D) : QI T D n m k X' (Q.set k q) := by
  obtain ⟨h1, h2⟩ := h.piece hk hD
  have hw := hS.whole (by rw [h.xl]; omega)
  refine ⟨by rw [hS.1, h.xl], by rw [List.length_set, h.ql], hS.2.1, h.qs.set k hq, ?_, ?_⟩
  · have hs := h.sum
    have e1 : seg (Q.set k q) k (m - k) = q + 4294967296 * seg Q (k + 1) (m - (k + 1)) := by
      rw [show m - k = (m - (k + 1)) + 1 from by omega, seg_head, getD_set k (by rw [h.ql]; exact hk), if_pos rfl]
      congr 2
      refine seg_congr fun j hj => ?_
      rw [getD_set _ (by rw [h.ql]; exact hk), if_neg (by omega)]
    rw [e1, ← hs]
    rw [← he] at hw
    generalize seg Q (k + 1) (m - (k + 1)) = S at *
    generalize seg X' k (n + 1) = L at *
    rw [Nat.pow_succ]
    generalize 4294967296 ^ k = P at *
    have e2 : P * (L + q * D) = P * L + D * (P * q) := by grind
    have e3 : D * (P * (q + 4294967296 * S)) = D * (P * q) + D * (P * 4294967296 * S) := by grind
    omega
  · have e2 : val X' = seg X' 0 k + 4294967296 ^ k * seg X' k (n + 1) := by
      rw [hS.below]; omega
    rw [e2]
    have h3 := seg_lt hS.2.1 0 k
    have h4 : 4294967296 ^ k * (seg X' k (n + 1) + 1) ≤ 4294967296 ^ k * D := Nat.mul_le_mul_left _ hr
    rw [Nat.mul_add, Nat.mul_one] at h4
    rw [Nat.mul_comm D]
    omega
theorem QI.done {T D n m : Nat} {X Q : List Nat} (h : QI T D n m 0 X Q) (hD : 0 < D) : val Q = T / D ∧ val X = T % D := by
  have h1 := h.sum
  have h2 := h.lt
  rw [Nat.sub_zero, ← h.ql, seg_val, Nat.pow_zero, Nat.one_mul] at h1
  rw [Nat.pow_zero, Nat.mul_one] at h2
  have e := Nat.div_mod_unique (a := T) (b := D) (c := val X) (d := val Q) hD
  have := e.2 ⟨by rw [← h1], h2⟩
  exact ⟨this.1.symm, this.2.symm⟩

/-! ### by one limb -/
structure OI (xs : List Nat) (m k r : Nat) (Q : List Nat) : Prop where
  ql : Q.length = xs.length
  qs : Limbs Q
  sum : seg Q k (xs.length - k) * m + r = seg xs k (xs.length - k)
  lt : r < m
theorem OI.start (xs : List Nat) {m : Nat} (hm : 0 < m) : OI xs m xs.length 0 (List.replicate xs.length 0) := ⟨by simp, limbs_replicate _, by rw [Nat.sub_self, seg_zero, seg_zero]; omega, hm⟩
theorem oi_bound {x m r : Nat} (hx : x < 4294967296) (hr : r < m) : (r * 4294967296 + x) / m < 4294967296 := by
  rw [Nat.div_lt_iff_lt_mul (by omega)]
  have : (r + 1) * 4294967296 ≤ m * 4294967296 := Nat.mul_le_mul_right _ hr
  omega
theorem OI.step {xs Q : List Nat} {m k r t : Nat} (h : OI xs m (k + 1) r Q) (hk : k < xs.length) (hx : xs[k]?.getD 0 < 4294967296) (ht : t = r * 4294967296 + xs[k]?.getD 0) : OI xs m k (t % m) (Q.set k (t / m)) := by
  have hlt := h.lt
  refine ⟨by rw [List.length_set, h.ql], h.qs.set k (by rw [ht]; exact oi_bound hx hlt), ?_, Nat.mod_lt _ (by omega)⟩
  have e1 : seg (Q.set k (t / m)) k (xs.length - k) = t / m + 4294967296 * seg Q (k + 1) (xs.length - (k + 1)) := by
    rw [show xs.length - k = (xs.length - (k + 1)) + 1 from by omega, seg_head, getD_set k (by rw [h.ql]; exact hk), if_pos rfl]
    congr 2
    refine seg_congr fun j hj => ?_
    rw [getD_set _ (by rw [h.ql]; exact hk), if_neg (by omega)]
  have e2 : seg xs k (xs.length - k) = xs[k]?.getD 0 + 4294967296 * seg xs (k + 1) (xs.length - (k + 1)) := by
    rw [show xs.length - k = (xs.length - (k + 1)) + 1 from by omega, seg_head]
  have hs := h.sum
  rw [e1, e2, ← hs, Nat.add_mul]
  have e3 := Nat.div_add_mod t m
  rw [Nat.mul_comm] at e3
  generalize seg Q (k + 1) (xs.length - (k + 1)) = S at *
  have e4 : 4294967296 * (S * m + r) = 4294967296 * S * m + r * 4294967296 := by grind
  omega
theorem OI.done {xs Q : List Nat} {m r : Nat} (h : OI xs m 0 r Q) : val Q = val xs / m ∧ r = val xs % m := by
  have h1 := h.sum
  have h2 := h.lt
  rw [Nat.sub_zero, seg_val, ← h.ql, seg_val] at h1
  have e := Nat.div_mod_unique (a := val xs) (b := m) (c := r) (d := val Q) (by omega)
  have := e.2 ⟨by rw [← h1, Nat.mul_comm]; omega, h2⟩
  exact ⟨this.1.symm, this.2.symm⟩

/-! ### roots -/
/-- The greatest natural up to k whose square is not greater. -/
def rtd (n : Nat) : Nat → Nat
  | 0 => 0
  | k + 1 => if (k + 1) * (k + 1) ≤ n then k + 1 else rtd n k
/-- The root. -/
def rt (n : Nat) : Nat := rtd n n
theorem rtd_spec (n : Nat) : ∀ k, rtd n k * rtd n k ≤ n ∧ rtd n k ≤ k ∧ ∀ j, j ≤ k → j * j ≤ n → j ≤ rtd n k
  | 0 => ⟨by simp [rtd], Nat.le_refl _, fun j h _ => h⟩
  | k + 1 => by
    obtain ⟨h1, h2, h3⟩ := rtd_spec n k
    unfold rtd
    split
    · exact ⟨by assumption, Nat.le_refl _, fun j h _ => h⟩
    · refine ⟨h1, by omega, fun j hj hq => ?_⟩
      rcases Nat.lt_or_ge k j with h | h
      · obtain rfl : j = k + 1 := by omega
        contradiction
      · exact h3 j h hq
theorem rt_le (n : Nat) : rt n * rt n ≤ n := (rtd_spec n n).1
theorem rt_max {n j : Nat} (h : j * j ≤ n) : j ≤ rt n := by
  refine (rtd_spec n n).2.2 j ?_ h
  rcases Nat.eq_zero_or_pos j with h0 | h0
  · omega
  · have : j * 1 ≤ j * j := Nat.mul_le_mul_left _ h0
    omega
theorem rt_lt (n : Nat) : n < (rt n + 1) * (rt n + 1) := by
  rcases Nat.lt_or_ge n ((rt n + 1) * (rt n + 1)) with h | h
  · exact h
  · have := rt_max h; omega
theorem sq_mono {a b : Nat} (h : a ≤ b) : a * a ≤ b * b := Nat.mul_le_mul h h
theorem sq_lt {a b : Nat} (h : a < b) : a * a < b * b := by
  have := sq_mono (a := a + 1) (b := b) h
  have e : (a + 1) * (a + 1) = a * a + 2 * a + 1 := by grind
  omega
theorem lt_of_sq {a b : Nat} (h : a * a < b * b) : a < b := by
  rcases Nat.lt_or_ge a b with h1 | h1
  · exact h1
  · have := sq_mono h1; omega
theorem rt_eq {n r : Nat} (h1 : r * r ≤ n) (h2 : n < (r + 1) * (r + 1)) : rt n = r := by
  have h3 := rt_max h1
  have h4 := lt_of_sq (Nat.lt_of_le_of_lt (rt_le n) h2)
  omega
theorem rt_zero : rt 0 = 0 := rfl
theorem rt_sq (n : Nat) : rt (n * n) = n := rt_eq (Nat.le_refl _) (sq_lt (by omega))
theorem rt_mono {a b : Nat} (h : a ≤ b) : rt a ≤ rt b := rt_max (Nat.le_trans (rt_le a) h)
theorem four_sq {x q : Nat} : 4 * (x * (q + 1)) ≤ (x + q + 1) * (x + q + 1) := by
  rcases Nat.le_total x (q + 1) with h | h
  · obtain ⟨d, hd⟩ : ∃ d, q + 1 = x + d := ⟨q + 1 - x, by omega⟩
    have : x + q + 1 = x + (x + d) := by omega
    rw [this, hd]
    have e : (x + (x + d)) * (x + (x + d)) = 4 * (x * (x + d)) + d * d := by grind
    omega
  · obtain ⟨d, hd⟩ : ∃ d, x = q + 1 + d := ⟨x - (q + 1), by omega⟩
    subst hd
    have e : (q + 1 + d + q + 1) * (q + 1 + d + q + 1) = 4 * ((q + 1 + d) * (q + 1)) + d * d := by grind
    omega
/-- One step on. -/
theorem newton {n x : Nat} (hx : 0 < x) (_hlt : n / x < x) : n < ((x + n / x) / 2 + 1) * ((x + n / x) / 2 + 1) := by
  have h1 : n < x * (n / x + 1) := Nat.lt_mul_div_succ n hx
  generalize n / x = q at *
  have h2 := four_sq (x := x) (q := q)
  have h3 : x + q + 1 ≤ 2 * ((x + q) / 2 + 1) := by omega
  have h4 := sq_mono h3
  generalize (x + q) / 2 + 1 = y at *
  have e : 2 * y * (2 * y) = 4 * (y * y) := by grind
  omega
theorem newton_pos {n x : Nat} (hn : 0 < n) (hx : 0 < x) (_hlt : n / x < x) : 0 < (x + n / x) / 2 := by
  rcases Nat.eq_zero_or_pos (n / x) with h | h
  · have := (Nat.div_eq_zero_iff_lt hx).1 h
    omega
  · omega
theorem newton_end {n x : Nat} (hx : 0 < x) (h : x ≤ n / x) (hlt : n < (x + 1) * (x + 1)) : rt n = x := by
  refine rt_eq ?_ hlt
  exact (Nat.le_div_iff_mul_le hx).1 h
/-- What is begun with, by the root of the upper bits. -/
theorem above_up {n k : Nat} : n < ((rt (n / 2 ^ (2 * k)) + 1) * 2 ^ k) * ((rt (n / 2 ^ (2 * k)) + 1) * 2 ^ k) := by
  have h1 := rt_lt (n / 2 ^ (2 * k))
  generalize rt (n / 2 ^ (2 * k)) + 1 = r at *
  have h2 : (2 : Nat) ^ (2 * k) = 2 ^ k * 2 ^ k := by rw [Nat.two_mul, Nat.pow_add]
  have hp : 0 < (2 : Nat) ^ (2 * k) := Nat.two_pow_pos _
  rw [Nat.div_lt_iff_lt_mul hp, h2] at h1
  have e : r * 2 ^ k * (r * 2 ^ k) = r * r * (2 ^ k * 2 ^ k) := by grind
  omega

end Go.Proofs.YtileljokijmpaaaDoor

/- Contracts: div's trim, shifted, takeTimes, putBack. -/
namespace Go.Proofs.YtileljokijmpaaaDoor
open Go.RowKit Go.Shelf

set_option linter.unusedVariables false

/-- What div's trim hands back. -/
def trimV (A : Option Addr) (k cap : Nat) : Value := if k = 0 then .slice none 0 0 else .slice A k cap
theorem trimV_no {A : Option Addr} {k cap : Nat} (h : k = 0) : Value.slice none 0 0 = trimV A k cap := by unfold trimV; rw [if_pos h]
theorem trimV_yes {A : Option Addr} {k k' cap : Nat} (h : k' = k) (h0 : 0 < k) : Value.slice A k cap = trimV A k' cap := by subst h; unfold trimV; rw [if_neg (by omega)]
theorem trimV_own {w : World} {B : Nat} {A : Option Addr} {cap : Nat} {xs : List Nat} (h : Own w B (.slice A xs.length cap) xs) : Own w B (trimV A xs.length cap) xs := by
  unfold trimV
  split
  · rename_i h0; rw [List.eq_nil_of_length_eq_zero h0]; exact Own.nil _ _
  · exact h

set_option maxHeartbeats 400000 in
/-- trim hands back the first places, without 0s behind. -/
theorem dtrim_any (A : Option Addr) (cap : Nat) (xs : List Nat) (w : World) (B : Nat) (hr : Rd w B A xs) (hc : xs.length ≤ cap) (hle : cap ≤ maxLen) :
    Calls Tryd.prog 46 #[.slice A xs.length cap] w fun e w' => e = .returned (trimV A (lim (val xs)).length cap) ∧ w' = w := by
  unfold maxLen at hle
  go_enter Tryd.func46, Tryd.ntmps46
  go_wp2
  go_loop [0] (fun v => ∃ k : Nat, k ≤ xs.length ∧ v = .slice A k cap ∧ Hid (∀ j, k ≤ j → j < xs.length → xs[j]?.getD 0 = 0)) (fun v => lenOf v)
  case atStart => exact ⟨xs.length, Nat.le_refl _, rfl, fun j h1 h2 => by omega⟩
  case round =>
    obtain ⟨k, hk, rfl, hz⟩ := hrel
    rcases Nat.eq_zero_or_pos k with h0 | h0
    · subst h0
      go_wp2
      go_ret
      exact ⟨ret_val (trimV_no (by rw [trim_spec hr.limbs hk hz.out (.inl rfl)]; rfl)), rfl⟩
    · obtain ⟨b, off, rfl, hlt, hcell⟩ := hr.2 (by omega)
      have hcl := hcell (k - 1) (by omega)
      have hl := hr.limbs.getD (k - 1)
      have hk0 : (((k : Nat) : Int) == 0) = false := beq_eq_false_iff_ne.2 (by omega)
      clear hcell
      by_cases hx : xs[k - 1]?.getD 0 = 0
      · have hx' : (((xs[k - 1]?.getD 0 : Nat) : Int) == 0) = true := by simp [hx]
        have hX := Lib.hid hx
        clear hx
        go_wp2
        go_round
        case rel => exact ⟨k - 1, by omega, rfl, fun j h1 h2 => by rcases Nat.lt_or_ge j k with h3 | h3; (obtain rfl : j = k - 1 := by omega); exact hX.out; exact hz.out j h3 h2⟩
        case measure => simp [lenOf]; omega
      · have hx' : (((xs[k - 1]?.getD 0 : Nat) : Int) == 0) = false := by simp; omega
        have hL : Hid ((lim (val xs)).length = k) := by rw [trim_spec hr.limbs hk hz.out (.inr hx), List.length_take]; show min k _ = k; omega
        go_wp2
        go_ret
        exact ⟨ret_val (trimV_yes hL.out h0), rfl⟩

/-! ### shifted -/
theorem or_low {m c r : Nat} (hm : 2 ^ r ∣ m) (hc : c < 2 ^ r) (h1 : m < 18446744073709551616) (h2 : c < 18446744073709551616) : bits BinOp.or IntKind.u64 (m : Int) (c : Int) = (m : Int) + (c : Int) := by
  rw [u64_or_nat m c h1 h2]
  obtain ⟨q, rfl⟩ := hm
  rw [← Nat.two_pow_add_eq_or_of_lt hc]
  omega
theorem shift_carry {y c r : Nat} (hy : y < 4294967296) (hc : c < 2 ^ r) : (y * 2 ^ r + c) / 4294967296 < 2 ^ r := by
  rw [Nat.div_lt_iff_lt_mul (by decide)]
  have : (y + 1) * 2 ^ r ≤ 4294967296 * 2 ^ r := Nat.mul_le_mul_right _ hy
  rw [Nat.add_mul, Nat.one_mul] at this
  rw [Nat.mul_comm (2 ^ r)]
  omega
/-- What shifted hands back. -/
def ShiftPost (xs : List Nat) (r : Nat) (w : World) (e : Ending) (w' : World) : Prop :=
  (∃ v X, e = .returned v ∧ Own w' w.heap.size v X ∧ Limbs X ∧ X.length = xs.length + 1 ∧ val X = val xs * 2 ^ r) ∧ Below w.heap.size w w'

set_option maxHeartbeats 4000000 in
theorem shifted_any (A : Option Addr) (cap : Nat) (xs : List Nat) (r : Nat) (w : World) (hr : Rd w w.heap.size A xs) (hc : xs.length ≤ 65536) (hrl : r < 32) :
    Calls Tryd.prog 67 #[.slice A xs.length cap, .int .i64 (r : Int)] w (ShiftPost xs r w) := by
  obtain ⟨i0, hi, hz0, hz1, hz2⟩ := info_parts info32
  have r0 : (0 : Int) ≤ r := by omega
  have hp31 := pow31 hrl
  have HP31 := Lib.hid hp31
  clear hp31
  go_enter Tryd.func67, Tryd.ntmps67
  go_wp2_with (at_make; refine wpList_make_own _ rfl _ _ 24 rfl w.heap.size 40 i0 (.int .u32 0) 1 Tryd.underlying24 hi hz0 hz1 .i64 .i64 _ (xs.length + 1) rfl rfl (by omega) (by rw [hz2]; omega) (by unfold maxLen; omega) (Nat.le_refl _) ?_; intro w1 hown0 hgrow0)
  have hB0 : Below w.heap.size w w1 := (Below.refl _ w).grown hgrow0 (Nat.le_refl _) (fun _ h => by cases h)
  clear hgrow0
  go_loopw [5, 6, 16] (fun o cv i wr => ∃ (k c : Nat) (O : List Nat), k ≤ xs.length ∧ i = .int .i64 (k : Int) ∧ cv = .int .u64 (c : Int) ∧ SmI xs (2 ^ r) 0 k c O ∧ Hid (c < 2 ^ r) ∧ wr.ownsRow w.heap.size 40 1 o O.length (u32s O) ∧ Below w.heap.size w wr) (fun _ _ i _ => xs.length - (intOf i).toNat)
  case atStart => exact ⟨0, 0, [], Nat.zero_le _, rfl, rfl, SmI.start xs (2 ^ r) (by decide), Nat.two_pow_pos r, hown0, hB0⟩
  case round =>
    clear hown0 hB0
    obtain ⟨k, c, O, hk, rfl, rfl, hI, hcr, hown, hB⟩ := hrel
    have hol : O.length ≤ 65536 := by have := hI.1; omega
    have hcc := hI.2.2.1
    by_cases hlt : k < xs.length
    · obtain ⟨b, o, rfl, hb, hcell⟩ := hr.2 (by omega)
      have hyc := (hB.cell (p := ⟨b, o + k, none⟩) hb).trans (hcell k hlt)
      have hyl := hr.limbs.getD k
      generalize hy : xs[k]?.getD 0 = y at *
      have hab := shl_bound hyl hrl (c := c) (by have := hcr.out; have := HP31.out; omega)
      obtain ⟨m, hm⟩ : ∃ m : Nat, m = y * 2 ^ r := ⟨_, rfl⟩
      rw [← hm] at hab
      have t3 : (y : Int) * 2 ^ r = (m : Int) := by rw [hm]; simp
      have t4 : IntKind.u64.wrap ((y : Int) * 2 ^ r) = (m : Int) := by rw [t3]; exact IntWalk.u64_in _ (by omega)
      have t5 : bits BinOp.or IntKind.u64 (m : Int) (c : Int) = (m : Int) + (c : Int) := or_low (r := r) (by rw [hm]; exact Nat.dvd_mul_left _ _) hcr.out (by omega) (by omega)
      have hst := Lib.hid (hI.step (s := m + c) (by rw [hy, hm]) (by have := shift_carry hyl hcr.out; have := HP31.out; rw [hm]; omega))
      have hcn := Lib.hid (shift_carry hyl hcr.out)
      rw [← hm] at hcn
      have e1 := Lib.hid (show ((m : Int) + c) % 4294967296 = (((m + c) % 4294967296 : Nat) : Int) from by omega)
      have e2 := Lib.hid (show ((m : Int) + c) / 4294967296 = (((m + c) / 4294967296 : Nat) : Int) from by omega)
      clear hy hm hI hcell hr t3 hcr
      go_wp2_with (at_builtin; refine wpList_append_own _ rfl _ _ 24 rfl w.heap.size 40 i0 (.int .u32 0) 1 4 Tryd.underlying24 hi hz0 hz1 hz2 rfl (by decide) _ _ _ rfl (hown.alloc _) ⟨wr.heap.size, 0, none⟩ 1 1 [_] rfl rfl (cell_one_new _ _ _) (by simp [Value.oneCell']) (by unfold maxLen; omega) (by omega) (by have := hB.size; simp; omega) ?_; intro v' w2 hown' hgrow hgone; clear hgone)
      have hb2 := hB.trans (appended_plain hown hB.size hgrow).2
      have hown2 : w2.ownsRow w.heap.size 40 1 v' (O ++ [(m + c) % 4294967296]).length (u32s (O ++ [(m + c) % 4294967296])) := by rw [u32s_snoc, ← e1.out]; simpa using hown'
      clear hown' hgrow t4 t5
      go_roundw
      case rel => exact ⟨k + 1, (m + c) / 4294967296, _, by omega, by go_num, by rw [e2.out], hst.out, hcn.out, hown2, hb2⟩
      case measure => simp [intOf]; omega
    · obtain rfl : k = xs.length := by omega
      have hval := hI.done
      have hOl := Lib.hid hI.1
      have HV := Lib.hid hval.1
      have HL := Lib.hid hval.2
      clear hval hI hr hcr
      go_wp2_with (at_builtin; refine wpList_append_own _ rfl _ _ 24 rfl w.heap.size 40 i0 (.int .u32 0) 1 4 Tryd.underlying24 hi hz0 hz1 hz2 rfl (by decide) _ _ _ rfl (hown.alloc _) ⟨wr.heap.size, 0, none⟩ 1 1 [_] rfl rfl (cell_one_new _ _ _) (by simp [Value.oneCell']) (by unfold maxLen; omega) (by omega) (by have := hB.size; simp; omega) ?_; intro v' w2 hown' hgrow hgone; clear hgone)
      have hb2 := hB.trans (appended_plain hown hB.size hgrow).2
      have hown2 : Own w2 w.heap.size v' (O ++ [c]) := by unfold Own; rw [u32s_snoc]; simpa using hown'
      clear hown' hgrow hown hB
      go_ret
      exact ⟨⟨_, _, rfl, hown2, HL.out, by simp [hOl.out], HV.out⟩, hb2⟩

/-! ### takeTimes -/
/-- What takeTimes leaves. -/
def TTPost (Z : List Nat) (off : Nat) (ys : List Nat) (m g cz B : Nat) (w : World) (e : Ending) (w' : World) : Prop :=
  ∃ (b : Nat) (X : List Nat), b ≤ 1 ∧ e = .returned (.bool (decide (b = 1))) ∧ Same Z off (ys.length + 1) X ∧ seg X off (ys.length + 1) + val ys * m = seg Z off (ys.length + 1) + 4294967296 ^ (ys.length + 1) * b ∧ Own w' B (.slice (some ⟨g, 0, none⟩) X.length cz) X ∧ Only g w w'

set_option maxHeartbeats 2000000 in
theorem takeTimes_any (g off cp cz : Nat) (A : Option Addr) (cap : Nat) (ys Z : List Nat) (m : Nat) (w : World) (B : Nat) (hO : Own w B (.slice (some ⟨g, 0, none⟩) Z.length cz) Z) (hZ : Limbs Z) (hoff : off + ys.length < Z.length) (hr : Far w g A ys) (hl : ys.length ≤ 2097152) (hm : m < 4294967296) :
    Calls Tryd.prog 83 #[.slice (some ⟨g, off, none⟩) (ys.length + 1) cp, .slice A ys.length cap, .int .u64 (m : Int)] w (TTPost Z off ys m g cz B w) := by
  go_enter Tryd.func83, Tryd.ntmps83
  go_wp2
  go_loopw [7, 14] (fun o i wr => ∃ (k oo : Nat) (X : List Nat), k ≤ ys.length ∧ i = .int .i64 (k : Int) ∧ o = .int .u64 (oo : Int) ∧ TTI Z off ys m k oo X ∧ Own wr B (.slice (some ⟨g, 0, none⟩) X.length cz) X ∧ Only g w wr) (fun _ i _ => ys.length - (intOf i).toNat)
  case atStart => exact ⟨0, 0, Z, Nat.zero_le _, rfl, rfl, TTI.start hZ off ys m, hO, Only.refl _ _⟩
  case round =>
    obtain ⟨k, oo, X, hk, rfl, rfl, hI, hX, hB⟩ := hrel
    have hoo : oo ≤ 4294967296 := hI.2.1
    have hxl : X.length = Z.length := hI.1.1
    by_cases hlt : k < ys.length
    · obtain ⟨b, o, rfl, hb, hcell⟩ := hr.2 (by omega)
      have hyc := (hB.cell (p := ⟨b, o + k, none⟩) hb).trans (hcell k hlt)
      have hxc := hX.cellAt (j := off + k) (by omega)
      have hxf := World.ownsRow.frozenAt hX (off + k)
      have hyl := hr.limbs.getD k
      have hx1 := hI.1.2.1.getD (off + k)
      generalize hy : ys[k]?.getD 0 = y at *
      generalize hx : X[off + k]?.getD 0 = x at *
      have hput := Lib.hid fun v => hX.put (j := off + k) (v := v)
      have hbe := Lib.hid fun v => hB.setCell (off + k) v
      obtain ⟨p, hp⟩ : ∃ p : Nat, p = y * m := ⟨_, rfl⟩
      have hbd := tt_bound hyl hm hoo
      rw [← hp] at hbd
      obtain ⟨hbd1, hbd2⟩ := hbd
      have hpi : (y : Int) * (m : Int) = (p : Int) := by rw [hp]; simp
      have hst := Lib.hid fun (d b : Nat) (h1 : d < 4294967296) (h2 : d + (oo + p) % 4294967296 = x + 4294967296 * b) (h3 : (oo + p) / 4294967296 + b ≤ 4294967296) => hI.step (s := oo + p) (x := d) (b := b) (by omega) (by rw [hy, hp]) h1 (by rw [hx]; exact h2) h3
      obtain ⟨t, ht⟩ : ∃ t : Nat, (oo + p) % 4294967296 = t := ⟨_, rfl⟩
      obtain ⟨u, hu⟩ : ∃ u : Nat, (oo + p) / 4294967296 = u := ⟨_, rfl⟩
      have ht1 : ((oo : Int) + (p : Int)) % 4294967296 = (t : Int) := by omega
      have hu1 : ((oo : Int) + (p : Int)) / 4294967296 = (u : Int) := by omega
      have htl : t < 4294967296 := by omega
      have hul : u ≤ 4294967295 := by omega
      have HT := Lib.hid ht
      have HU := Lib.hid hu
      clear hy hx hxl hcell hI hX hB hO hr hoff hp ht hu hbd2
      by_cases hs : t ≤ x
      · obtain ⟨d, hd⟩ : ∃ d : Nat, x = d + t := ⟨x - t, by omega⟩
        have hs2 := Lib.hid (hst.out d 0 (by omega) (by rw [HT.out]; omega) (by rw [HU.out]; omega))
        have e1 := Lib.hid (show ((x : Int) - (t : Int)) = (d : Int) from by omega)
        have e0 := Lib.hid (show (x : Int) - (t : Int) = ((x : Int) - (t : Int)) % 4294967296 from by omega)
        have e2 := Lib.hid (show (u : Int) + ((x : Int) - (t : Int)) / 9223372036854775808 = ((((oo + p) / 4294967296 + 0 : Nat)) : Int) from by rw [HU.out]; omega)
        have hsi : (t : Int) ≤ (x : Int) := by omega
        clear hd hs
        go_wp2
        go_roundw
        case rel =>
          refine ⟨k + 1, (oo + p) / 4294967296 + 0, X.set (off + k) d, by omega, by go_num, by first | rw [e2.out] | (rw [← e2.out]; congr 1; omega), hs2.out, ?_, hbe.out _⟩
          have := hput.out d
          unfold lv at this
          rw [← e1.out] at this
          exact this
        case measure => simp [intOf]; omega
      · obtain ⟨q, hq, q1, q2, q3⟩ := wrap_neg (x := x) (s := t) (by omega) (by omega)
        have hs2 := Lib.hid (hst.out (q % 4294967296) 1 (by omega) (by rw [HT.out]; omega) (by rw [HU.out]; omega))
        have e1 := Lib.hid (show ((q : Int)) % 4294967296 = ((q % 4294967296 : Nat) : Int) from by omega)
        have e2 := Lib.hid (show (u : Int) + (q : Int) / 9223372036854775808 = ((((oo + p) / 4294967296 + 1 : Nat)) : Int) from by rw [HU.out]; omega)
        have hq9 : (q : Int) / 9223372036854775808 = 1 := by omega
        clear q1 q2 hs
        go_wp2
        go_roundw
        case rel =>
          refine ⟨k + 1, (oo + p) / 4294967296 + 1, X.set (off + k) (q % 4294967296), by omega, by go_num, by first | rw [e2.out] | (rw [← e2.out]; congr 1; omega), hs2.out, ?_, hbe.out _⟩
          have := hput.out (q % 4294967296)
          unfold lv at this
          rw [← e1.out] at this
          exact this
        case measure => simp [intOf]; omega
    · obtain rfl : k = ys.length := by omega
      have hxc := hX.cellAt (j := off + ys.length) (by omega)
      have hxf := World.ownsRow.frozenAt hX (off + ys.length)
      have hx1 := hI.1.2.1.getD (off + ys.length)
      have hst := Lib.hid fun (d b : Nat) (h1 : d < 4294967296) (h2 : d + oo = X[off + ys.length]?.getD 0 + 4294967296 * b) => hI.done (x := d) (b := b) hoff h1 h2
      generalize hx : X[off + ys.length]?.getD 0 = x at *
      have hput := Lib.hid fun v => hX.put (j := off + ys.length) (v := v)
      have hbe := Lib.hid fun v => hB.setCell (off + ys.length) v
      clear hx hxl hI hX hB hO hr hoff
      by_cases hs : oo ≤ x
      · obtain ⟨d, hd⟩ : ∃ d : Nat, x = d + oo := ⟨x - oo, by omega⟩
        have hs2 := Lib.hid (hst.out d 0 (by omega) (by omega))
        have e1 := Lib.hid (show ((x : Int) - (oo : Int)) = (d : Int) from by omega)
        have hsi : (oo : Int) ≤ (x : Int) := by omega
        have hf : (((x : Int) - (oo : Int)) / 9223372036854775808 == 1) = false := beq_eq_false_iff_ne.2 (by omega)
        clear hd hs
        go_wp2
        go_ret
        refine ⟨0, X.set (off + ys.length) d, by omega, rfl, hs2.out.1, hs2.out.2, ?_, hbe.out _⟩
        have := hput.out d
        unfold lv at this
        rw [← e1.out] at this
        exact this
      · obtain ⟨q, hq, q1, q2, q3⟩ := wrap_neg (x := x) (s := oo) (by omega) (by omega)
        have hs2 := Lib.hid (hst.out (q % 4294967296) 1 (by omega) (by omega))
        have e1 := Lib.hid (show ((q : Int)) % 4294967296 = ((q % 4294967296 : Nat) : Int) from by omega)
        have hf : ((q : Int) / 9223372036854775808 == 1) = true := beq_iff_eq.2 (by omega)
        clear q1 q2 hs
        go_wp2
        go_ret
        refine ⟨1, X.set (off + ys.length) (q % 4294967296), by omega, rfl, hs2.out.1, hs2.out.2, ?_, hbe.out _⟩
        have := hput.out (q % 4294967296)
        unfold lv at this
        rw [← e1.out] at this
        exact this

/-! ### putBack -/
/-- What putBack leaves. -/
def PBPost (Z : List Nat) (off : Nat) (ys : List Nat) (g cz B : Nat) (w : World) (e : Ending) (w' : World) : Prop :=
  ∃ (q : Nat) (X : List Nat), e = .returned (.tuple #[]) ∧ Same Z off (ys.length + 1) X ∧ seg X off (ys.length + 1) + 4294967296 ^ (ys.length + 1) * q = seg Z off (ys.length + 1) + val ys ∧ Own w' B (.slice (some ⟨g, 0, none⟩) X.length cz) X ∧ Only g w w'

set_option maxHeartbeats 2000000 in
theorem putBack_any (g off cp cz : Nat) (A : Option Addr) (cap : Nat) (ys Z : List Nat) (w : World) (B : Nat) (hO : Own w B (.slice (some ⟨g, 0, none⟩) Z.length cz) Z) (hZ : Limbs Z) (hoff : off + ys.length < Z.length) (hr : Far w g A ys) (hl : ys.length ≤ 2097152) :
    Calls Tryd.prog 84 #[.slice (some ⟨g, off, none⟩) (ys.length + 1) cp, .slice A ys.length cap] w (PBPost Z off ys g cz B w) := by
  go_enter Tryd.func84, Tryd.ntmps84
  go_wp2
  go_loopw [4, 9] (fun c i wr => ∃ (k cc : Nat) (X : List Nat), k ≤ ys.length ∧ i = .int .i64 (k : Int) ∧ c = .int .u64 (cc : Int) ∧ AddI Z off ys k cc X ∧ Own wr B (.slice (some ⟨g, 0, none⟩) X.length cz) X ∧ Only g w wr) (fun _ i _ => ys.length - (intOf i).toNat)
  case atStart => exact ⟨0, 0, Z, Nat.zero_le _, rfl, rfl, AddI.start hZ off ys, hO, Only.refl _ _⟩
  case round =>
    obtain ⟨k, cc, X, hk, rfl, rfl, hI, hX, hB⟩ := hrel
    have hc1 : cc ≤ 1 := hI.2.1
    have hxl : X.length = Z.length := hI.1.1
    by_cases hlt : k < ys.length
    · obtain ⟨b, o, rfl, hb, hcell⟩ := hr.2 (by omega)
      have hyc := (hB.cell (p := ⟨b, o + k, none⟩) hb).trans (hcell k hlt)
      have hxc := hX.cellAt (j := off + k) (by omega)
      have hxf := World.ownsRow.frozenAt hX (off + k)
      have hyl := hr.limbs.getD k
      have hx1 := hI.1.2.1.getD (off + k)
      generalize hy : ys[k]?.getD 0 = y at *
      generalize hx : X[off + k]?.getD 0 = x at *
      have hput := Lib.hid fun v => hX.put (j := off + k) (v := v)
      have hbe := Lib.hid fun v => hB.setCell (off + k) v
      have e1 := Lib.hid (show ((cc : Int) + (x + y)) % 4294967296 = (((cc + x + y) % 4294967296 : Nat) : Int) from by omega)
      have e2 := Lib.hid (show ((cc : Int) + (x + y)) / 4294967296 = (((cc + x + y) / 4294967296 : Nat) : Int) from by omega)
      have hst := Lib.hid (hI.step (s := cc + x + y) (by omega) hr.limbs (by rw [hy, hx]))
      clear hy hx hxl hcell hI hX hB hO hr hoff
      go_wp2
      go_roundw
      case rel =>
        refine ⟨k + 1, (cc + x + y) / 4294967296, X.set (off + k) ((cc + x + y) % 4294967296), by omega, by go_num, by rw [e2.out], hst.out, ?_, hbe.out _⟩
        have := hput.out ((cc + x + y) % 4294967296)
        unfold lv at this
        rw [← e1.out] at this
        exact this
      case measure => simp [intOf]; omega
    · obtain rfl : k = ys.length := by omega
      have hxc := hX.cellAt (j := off + ys.length) (by omega)
      have hxf := World.ownsRow.frozenAt hX (off + ys.length)
      have hx1 := hI.1.2.1.getD (off + ys.length)
      have hst := Lib.hid (hI.wrap hoff)
      generalize hx : X[off + ys.length]?.getD 0 = x at *
      have hput := Lib.hid (hX.put (j := off + ys.length) (v := (x + cc) % 4294967296))
      have hbe := Lib.hid fun v => hB.setCell (off + ys.length) v
      have e1 := Lib.hid (show ((x : Int) + (cc : Int)) % 4294967296 = (((x + cc) % 4294967296 : Nat) : Int) from by omega)
      clear hx hxl hI hX hB hO hr hoff
      go_wp2
      go_end0
      obtain ⟨hs, q, he⟩ := hst.out
      refine ⟨q, _, rfl, hs, he, ?_, hbe.out _⟩
      have := hput.out
      unfold lv at this
      rw [← e1.out] at this
      exact this

end Go.Proofs.YtileljokijmpaaaDoor

/- Contract: nextLimb: a guess, put right by a jump back. -/
namespace Go.Proofs.YtileljokijmpaaaDoor
open Go.RowKit Go.Shelf

set_option linter.unusedVariables false

/-- A scope with one label: what stands behind the label is walked once. -/
theorem wp_scope_label {P : Program} {a : Act} {w : World} {Q : Exit → Act → World → Prop} {c rest : Code} (l : Nat) (J : Act → World → Prop) (μ : Act → World → Nat) (hf : findLabel c l = some (Code.skip.seq rest))
    (pass : ∀ a w, J a w → rest.wp P (Exit.jump l (fun a' w' => J a' w' ∧ μ a' w' < μ a w) Q) a w)
    (first : (∀ a w, J a w → rest.wp P (Exit.jump l J Q) a w) → c.wp P (Exit.jump l J Q) a w) : (Code.scope c).wp P Q a w := by
  refine wp_scope_jumps l J μ hf (first fun a w h => wp_mono (pass a w h) fun e a' w' hq => ?_) fun a w h => wp_seq (wp_skip (pass a w h))
  cases e <;> first | exact hq | exact ⟨hq.1, hq.2.1⟩
theorem Only.trans {g : Nat} {a b c : World} (h : Only g a b) (k : Only g b c) : Only g a c := ⟨k.os.trans h.os, k.tape.trans h.tape, k.output.trans h.output, k.size.trans h.size, fun i hi => (k.block i hi).trans (h.block i hi)⟩
theorem Only.drewN (g : Nat) (w : World) (n : Nat) : Only g w (w.drewN n) := ⟨rfl, rfl, rfl, rfl, fun _ _ => rfl⟩
theorem Far.only {w w' : World} {g : Nat} {A : Option Addr} {xs : List Nat} (h : Far w g A xs) (k : Only g w w') : Far w' g A xs :=
  ⟨h.1, fun hn => by
    obtain ⟨b, off, e, hb, hc⟩ := h.2 hn
    exact ⟨b, off, e, hb, fun j hj => (k.cell (p := ⟨b, off + j, none⟩) hb).trans (hc j hj)⟩⟩

/-- What nextLimb leaves. -/
def NLPost (Z : List Nat) (off : Nat) (ys : List Nat) (g cz B : Nat) (w : World) (e : Ending) (w' : World) : Prop :=
  ∃ (q : Nat) (X : List Nat), e = .returned (.int .u32 (q : Int)) ∧ q < 4294967296 ∧ Same Z off (ys.length + 1) X ∧ seg X off (ys.length + 1) + q * val ys = seg Z off (ys.length + 1) ∧ seg X off (ys.length + 1) < val ys ∧ Own w' B (.slice (some ⟨g, 0, none⟩) X.length cz) X ∧ Only g w w'

theorem or_wide {x y : Nat} (hx : x < 4294967296) (hy : y < 4294967296) : bits BinOp.or IntKind.u64 ((x : Int) * 4294967296) (y : Int) = ((x * 4294967296 + y : Nat) : Int) := by
  have := or_low (m := x * 4294967296) (c := y) (r := 32) ⟨x, by omega⟩ hy (by omega) (by omega)
  rw [Int.natCast_mul] at this
  rw [show ((4294967296 : Nat) : Int) = 4294967296 from rfl] at this
  rw [this]; omega

/-- What holds at every jump. -/
def NLJ (g off cp : Nat) (b o cap N tp : Nat) (f s wd L D : Nat) (w : World) (a' : Act) (w' : World) : Prop :=
  (∃ n, w' = w.drewN n) ∧ ∃ (gg oo : Nat) (u2 u3 u8 u11 u12 u13 u14 u15 u16 u17 u18 u19 u20 u21 u22 u23 u24 u25 u26 u27 u28 u29 u30 u31 u32 u33 u34 u35 u36 u37 u38 u39 u40 u41 u42 u43 u44 u45 u46 u47 u48 u49 u50 u51 u52 u53 u54 u55 u56 u57 u58 u59 u60 u61 u62 u63 u64 u65 u66 u67 u68 u69 u70 u71 u72 u73 u74 u75 u76 u77 u78 u79 u80 : Value), a' = { tmps := #[.slice (some ⟨g, off, none⟩) (N + 1) cp, .slice (some ⟨b, o, none⟩) N cap, u2, u3, .int .u32 0, .int .i64 (tp : Int), .int .u64 (f : Int), .int .u64 (s : Int), u8, .int .u64 (gg : Int), .int .u64 (oo : Int), u11, u12, u13, u14, u15, u16, u17, u18, u19, u20, u21, u22, u23, u24, u25, u26, u27, u28, u29, u30, u31, u32, u33, u34, u35, u36, u37, u38, u39, u40, u41, u42, u43, u44, u45, u46, u47, u48, u49, u50, u51, u52, u53, u54, u55, u56, u57, u58, u59, u60, u61, u62, u63, u64, u65, u66, u67, u68, u69, u70, u71, u72, u73, u74, u75, u76, u77, u78, u79, u80], defers := [] } ∧ gg * f + oo = wd ∧ L < (gg + 1) * D ∧ gg < 18446744073709551616 ∧ oo < 8589934592

set_option maxHeartbeats 4000000 in
theorem nextLimb_any (g off cp cz : Nat) (A : Option Addr) (cap : Nat) (ys Z : List Nat) (w : World) (B : Nat) (hn : 2 ≤ ys.length) (hO : Own w B (.slice (some ⟨g, 0, none⟩) Z.length cz) Z) (hZ : Limbs Z) (hoff : off + ys.length < Z.length) (hr : Far w g A ys) (hl : ys.length ≤ 2097152) (hf : 0 < ys[ys.length - 1]?.getD 0) (hlt : seg Z off (ys.length + 1) < val ys * 4294967296) :
    Calls Tryd.prog 69 #[.slice (some ⟨g, off, none⟩) (ys.length + 1) cp, .slice A ys.length cap] w (NLPost Z off ys g cz B w) := by
  obtain ⟨N, hN⟩ : ∃ N, ys.length = N := ⟨_, rfl⟩
  obtain ⟨sp, hsp⟩ : ∃ sp, ys.length = sp + 2 := ⟨ys.length - 2, by omega⟩
  obtain ⟨tp, htp⟩ : ∃ tp, ys.length = tp + 1 := ⟨ys.length - 1, by omega⟩
  obtain ⟨b, o, rfl, hb, hcell⟩ := hr.2 (by omega)
  have c1 := hcell tp (by omega)
  have c2 := hcell sp (by omega)
  have d0 := hO.cellAt (j := off + N) (by omega)
  have d1 := hO.cellAt (j := off + tp) (by omega)
  have d2 := hO.cellAt (j := off + sp) (by omega)
  rw [show ys.length - 1 = tp from by omega] at hf
  have l1 := hr.limbs.getD tp
  have l2 := hr.limbs.getD sp
  have m0 := hZ.getD (off + N)
  have m1 := hZ.getD (off + tp)
  have m2 := hZ.getD (off + sp)
  generalize hF : ys[tp]?.getD 0 = f at *
  generalize hS : ys[sp]?.getD 0 = s at *
  generalize h0 : Z[off + N]?.getD 0 = z0 at *
  generalize h1 : Z[off + tp]?.getD 0 = z1 at *
  generalize h2 : Z[off + sp]?.getD 0 = z2 at *
  have HTOP := Lib.hid (tops_of hr.limbs hZ (off := off) hsp)
  rw [show sp + 1 = tp from by omega, show sp + 2 = N from by omega, hF, hS, h0, h1, h2] at HTOP
  have HF := Lib.hid hF
  have HS := Lib.hid hS
  have H0 := Lib.hid h0
  have H1 := Lib.hid h1
  have H2 := Lib.hid h2
  have HO := Lib.hid hO
  have HR := Lib.hid hr
  have HLT := Lib.hid hlt
  have t5 := or_wide (x := z0) (y := z1) m0 m1
  obtain ⟨wd, hwd⟩ : ∃ wd : Nat, wd = z0 * 4294967296 + z1 := ⟨_, rfl⟩
  rw [← hwd] at t5
  rw [← hwd] at HTOP
  have HW := Lib.hid hwd
  clear hF hS h0 h1 h2 hO hr hlt hcell hwd
  have q1 : (wd : Int) / (f : Int) = ((wd / f : Nat) : Int) := by simp
  have q2 : (wd : Int) % (f : Int) = ((wd % f : Nat) : Int) := by simp
  have q0 : ((f : Int) == 0) = false := beq_eq_false_iff_ne.2 (by omega)
  have q3 : wd / f < 18446744073709551616 := Nat.lt_of_le_of_lt (Nat.div_le_self _ _) (by have := HW.out; omega)
  have q4 : wd % f < 4294967296 := Nat.lt_trans (Nat.mod_lt _ hf) l1
  have hstart : Hid (wd / f * f + wd % f = wd ∧ seg Z off (ys.length + 1) < (wd / f + 1) * val ys) := by
    obtain ⟨P, dl, ll, x1, x2, x3, x4⟩ := HTOP.out
    exact ⟨by rw [Nat.mul_comm]; exact Nat.div_add_mod wd f, guess_start x3 x4 x2 m2 hf⟩
  have k1 : tp < N := by omega
  have k2 : sp < N := by omega
  have k3 : N ≤ 2097152 := by omega
  have i1 : (tp : Int) - 1 = (sp : Int) := by omega
  have i2 : (tp : Int) + 1 = (N : Int) := by omega
  have i3 := Lib.hid (show (N : Int) - 1 = (tp : Int) from by omega)
  have HN := Lib.hid hN
  have HSP := Lib.hid hsp
  have HTP := Lib.hid htp
  rw [hN]
  have HOFF := Lib.hid hoff
  have HLL := Lib.hid hl
  clear hN hsp htp hn hl hoff
  generalize wd / f = g0 at *
  generalize wd % f = o0 at *
  go_enter Tryd.func69, Tryd.ntmps69
  go_wp2
  refine wp_scope_label 0 (NLJ g off cp b o cap N tp f s wd (seg Z off (ys.length + 1)) (val ys) w) (fun a' _ => (intOf (a'.tmps.getD 9 undef)).toNat) rfl ?pass ?first
  case first =>
    intro hp
    go_wp2
    rw [i3.out]
    go_quiet (fail)
    go_wp2
    go_quiet (fail)
    go_wp2
    go_quiet (fail)
    go_wp2
    go_step3
    rw [q2]
    rename_i hK
    exact hK _ _ (hp _ _ ⟨⟨_, ((World.drewN_drewN _ _ _).trans (World.drewN_drewN _ _ _))⟩, g0, o0, _, _, _, _, _, _, _, _, _, _, _, _, _, _, _, _, _, _, _, _, _, _, _, _, _, _, _, _, _, _, _, _, _, _, _, _, _, _, _, _, _, _, _, _, _, _, _, _, _, _, _, _, _, _, _, _, _, _, _, _, _, _, _, _, _, _, _, _, _, _, _, _, _, rfl, hstart.out.1, hstart.out.2, q3, by omega⟩)
  case pass =>
    clear q0 q1 q2 q3 q4 hstart t5
    rintro a' w' ⟨⟨n, rfl⟩, gg, oo, u2, u3, u8, u11, u12, u13, u14, u15, u16, u17, u18, u19, u20, u21, u22, u23, u24, u25, u26, u27, u28, u29, u30, u31, u32, u33, u34, u35, u36, u37, u38, u39, u40, u41, u42, u43, u44, u45, u46, u47, u48, u49, u50, u51, u52, u53, u54, u55, u56, u57, u58, u59, u60, u61, u62, u63, u64, u65, u66, u67, u68, u69, u70, u71, u72, u73, u74, u75, u76, u77, u78, u79, u80, rfl, hg, hL, hgb, hob⟩
    have HG := Lib.hid hg
    have HL := Lib.hid hL
    clear hg hL
    have hv : ∃ v : Nat, v = oo + f := ⟨_, rfl⟩
    obtain ⟨v, hv⟩ := hv
    by_cases hA : oo ≤ 4294967295
    · by_cases hG : gg ≤ 4294967295
      · obtain ⟨p, hp⟩ : ∃ p : Nat, p = gg * s := ⟨_, rfl⟩
        have hpi : (gg : Int) * (s : Int) = (p : Int) := by rw [hp]; simp
        have hpb : p ≤ 18446744065119617025 := by
          have : gg * s ≤ 4294967295 * 4294967295 := Nat.mul_le_mul hG (by omega)
          rw [hp]; omega
        have t5 := or_wide (x := oo) (y := z2) (by omega) m2
        obtain ⟨tt, htt⟩ : ∃ tt : Nat, tt = oo * 4294967296 + z2 := ⟨_, rfl⟩
        rw [← htt] at t5
        have htb : tt < 18446744073709551616 := by omega
        by_cases hP : tt < p
        · have hg0 : gg ≠ 0 := by rintro rfl; rw [Nat.zero_mul] at hp; omega
          obtain ⟨j, hj⟩ : ∃ j, gg = j + 1 := ⟨gg - 1, by omega⟩
          have hji : (gg : Int) - 1 = (j : Int) := by omega
          have hvi : (oo : Int) + (f : Int) = (v : Int) := by omega
          have HJ1 : Hid (j * f + v = wd) := by
            have h1 := HG.out
            rw [hj, Nat.add_mul, Nat.one_mul] at h1
            show _ = _
            omega
          have HJ2 : Hid (seg Z off (ys.length + 1) < (j + 1) * val ys) := by
            obtain ⟨P, dl, ll, x1, x2, x3, x4⟩ := HTOP.out
            rw [← hj]
            exact guess_over x3 x4 x2 HG.out (by rw [← htt, ← hp]; exact hP)
          have hgj : 1 ≤ gg := by omega
          have hjg : j < gg := by omega
          have hvb : v < 8589934592 := by omega
          clear hp htt hj hv hg0
          go_wp2_with fail
          go_step3
          refine ⟨rfl, ⟨⟨n, rfl⟩, j, v, _, _, _, _, _, _, _, _, _, _, _, _, _, _, _, _, _, _, _, _, _, _, _, _, _, _, _, _, _, _, _, _, _, _, _, _, _, _, _, _, _, _, _, _, _, _, _, _, _, _, _, _, _, _, _, _, _, _, _, _, _, _, _, _, _, _, _, _, _, _, _, _, _, rfl, HJ1.out, HJ2.out, by omega, by omega⟩, ?_⟩
          simp [intOf]; omega
        · have HE1 : Hid (gg * s ≤ oo * 4294967296 + z2) := by rw [← htt, ← hp]; show _ ≤ _; omega
          clear hp htt hv
          have cT := takeTimes_any g off cp cz (some ⟨b, o, none⟩) cap ys Z gg (w.drewN n) B HO.out hZ HOFF.out HR.out HLL.out (by omega)
          rw [HN.out] at cT
          go_wp2_with fail
          with_reducible refine cT.mono ?_
          rintro e w2 ⟨bb, X, hbb, he, hS, hE, hO2, hOn⟩
          clear cT
          have hOn2 := (Only.drewN g w n).trans hOn
          have HOn := Lib.hid hOn2
          have HS2 := Lib.hid hS
          have HO2 := Lib.hid hO2
          clear hOn hOn2 hO2
          rcases (show bb = 0 ∨ bb = 1 from by omega) with rfl | rfl
          · obtain rfl : e = .returned (.bool false) := he
            rw [Nat.mul_zero, Nat.add_zero, Nat.mul_comm] at hE
            have HE := Lib.hid hE
            have hgs : ¬ (4294967295 < gg) := by omega
            have HLt : Hid (seg X off (ys.length + 1) < val ys) := by
              have h1 := HL.out
              have h2 := HE.out
              rw [Nat.add_mul, Nat.one_mul] at h1
              show _ < _
              omega
            clear hE hS
            go_wp2
            simp only [Exit.jump]
            go_ret
            exact ⟨gg, X, rfl, by omega, HS2.out, HE.out, HLt.out, HO2.out, HOn.out⟩
          · obtain rfl : e = .returned (.bool true) := he
            have hnear : gg * val ys ≤ seg Z off (ys.length + 1) + val ys := by
              obtain ⟨P, dl, ll, x1, x2, x3, x4⟩ := HTOP.out
              exact guess_near x3 x4 x1 hf HG.out (by omega) (HE1.out)
            have HX := Lib.hid hS.2.1
            have hxl : X.length = Z.length := hS.1
            have cP := putBack_any g off cp cz (some ⟨b, o, none⟩) cap ys X w2 B HO2.out hS.2.1 (by have := HOFF.out; omega) (HR.out.only HOn.out) HLL.out
            rw [HN.out] at cP
            have hsl := seg_lt hS.2.1 off (ys.length + 1)
            have hdl : val ys ≤ 4294967296 ^ (ys.length + 1) := Nat.le_trans (Nat.le_of_lt (val_lt HR.out.limbs)) (Nat.pow_le_pow_right (by decide) (by omega))
            have HFX := Lib.hid fun (x' q : Nat) (h1 : x' < 4294967296 ^ (ys.length + 1)) (h2 : x' + 4294967296 ^ (ys.length + 1) * q = seg X off (ys.length + 1) + val ys) => guess_fix hE hsl h1 h2 hdl hnear
            clear hE hS hsl hdl hnear hxl
            go_wp2_with fail
            with_reducible refine cP.mono ?_
            rintro e w3 ⟨q, Y, rfl, hS3, hE3, hO3, hOn3⟩
            clear cP
            have hfx := HFX.out (seg Y off (ys.length + 1)) q (seg_lt hS3.2.1 off (ys.length + 1)) hE3
            obtain ⟨j, hj, hj2, hj3⟩ := hfx
            have hji : (gg : Int) - 1 = (j : Int) := by omega
            have hgj : ¬ (gg = 0) := by omega
            have hjb : j < 4294967296 := by omega
            have HJ2 := Lib.hid hj2
            have HJ3 := Lib.hid hj3
            have HS3 := Lib.hid hS3
            have HO3 := Lib.hid hO3
            have HOn3 := Lib.hid hOn3
            clear hE3 hS3 hO3 hOn3 hj2 hj3 hj
            go_wp2
            simp only [Exit.jump]
            go_ret
            exact ⟨j, Y, rfl, hjb, HS2.out.then HS3.out, HJ2.out, HJ3.out, HO3.out, HOn.out.trans HOn3.out⟩
      · obtain ⟨j, hj⟩ : ∃ j, gg = j + 1 := ⟨gg - 1, by omega⟩
        have hji : (gg : Int) - 1 = (j : Int) := by omega
        have hvi : (oo : Int) + (f : Int) = (v : Int) := by omega
        have HJ1 : Hid (j * f + v = wd) := by
          have h1 := HG.out
          rw [hj, Nat.add_mul, Nat.one_mul] at h1
          show _ = _
          omega
        have HJ2 : Hid (seg Z off (ys.length + 1) < (j + 1) * val ys) := by
          rw [← hj]
          have h1 : 4294967296 * val ys ≤ gg * val ys := Nat.mul_le_mul_right _ (by omega)
          have h2 := HLT.out
          show _ < _
          omega
        have hgj : 1 ≤ gg := by omega
        have hjg : j < gg := by omega
        have hvb : v < 8589934592 := by omega
        clear hj hv
        go_wp2_with fail
        go_step3
        refine ⟨rfl, ⟨⟨n, rfl⟩, j, v, _, _, _, _, _, _, _, _, _, _, _, _, _, _, _, _, _, _, _, _, _, _, _, _, _, _, _, _, _, _, _, _, _, _, _, _, _, _, _, _, _, _, _, _, _, _, _, _, _, _, _, _, _, _, _, _, _, _, _, _, _, _, _, _, _, _, _, _, _, _, _, _, _, rfl, HJ1.out, HJ2.out, by omega, by omega⟩, ?_⟩
        simp [intOf]; omega
    · have hG : gg ≤ 4294967295 := by
        obtain ⟨P, dl, ll, x1, x2, x3, x4⟩ := HTOP.out
        have h1 := guess_top x3 x4 x1 l2 HLT.out
        have h2 := HG.out
        rcases Nat.lt_or_ge 4294967295 gg with h3 | h3
        · exfalso
          have h4 : 4294967296 * f ≤ gg * f := Nat.mul_le_mul_right _ h3
          omega
        · exact h3
      have HE1 : Hid (gg * s ≤ oo * 4294967296 + z2) := by
        have : gg * s ≤ 4294967295 * 4294967295 := Nat.mul_le_mul hG (by omega)
        show _ ≤ _
        omega
      clear hv
      have cT := takeTimes_any g off cp cz (some ⟨b, o, none⟩) cap ys Z gg (w.drewN n) B HO.out hZ HOFF.out HR.out HLL.out (by omega)
      rw [HN.out] at cT
      go_wp2_with fail
      with_reducible refine cT.mono ?_
      rintro e w2 ⟨bb, X, hbb, he, hS, hE, hO2, hOn⟩
      clear cT
      have hOn2 := (Only.drewN g w n).trans hOn
      have HOn := Lib.hid hOn2
      have HS2 := Lib.hid hS
      have HO2 := Lib.hid hO2
      clear hOn hOn2 hO2
      rcases (show bb = 0 ∨ bb = 1 from by omega) with rfl | rfl
      · obtain rfl : e = .returned (.bool false) := he
        rw [Nat.mul_zero, Nat.add_zero, Nat.mul_comm] at hE
        have HE := Lib.hid hE
        have hgs : ¬ (4294967295 < gg) := by omega
        have HLt : Hid (seg X off (ys.length + 1) < val ys) := by
          have h1 := HL.out
          have h2 := HE.out
          rw [Nat.add_mul, Nat.one_mul] at h1
          show _ < _
          omega
        clear hE hS
        go_wp2
        simp only [Exit.jump]
        go_ret
        exact ⟨gg, X, rfl, by omega, HS2.out, HE.out, HLt.out, HO2.out, HOn.out⟩
      · obtain rfl : e = .returned (.bool true) := he
        have hnear : gg * val ys ≤ seg Z off (ys.length + 1) + val ys := by
          obtain ⟨P, dl, ll, x1, x2, x3, x4⟩ := HTOP.out
          exact guess_near x3 x4 x1 hf HG.out (by omega) (HE1.out)
        have HX := Lib.hid hS.2.1
        have hxl : X.length = Z.length := hS.1
        have cP := putBack_any g off cp cz (some ⟨b, o, none⟩) cap ys X w2 B HO2.out hS.2.1 (by have := HOFF.out; omega) (HR.out.only HOn.out) HLL.out
        rw [HN.out] at cP
        have hsl := seg_lt hS.2.1 off (ys.length + 1)
        have hdl : val ys ≤ 4294967296 ^ (ys.length + 1) := Nat.le_trans (Nat.le_of_lt (val_lt HR.out.limbs)) (Nat.pow_le_pow_right (by decide) (by omega))
        have HFX := Lib.hid fun (x' q : Nat) (h1 : x' < 4294967296 ^ (ys.length + 1)) (h2 : x' + 4294967296 ^ (ys.length + 1) * q = seg X off (ys.length + 1) + val ys) => guess_fix hE hsl h1 h2 hdl hnear
        clear hE hS hsl hdl hnear hxl
        go_wp2_with fail
        with_reducible refine cP.mono ?_
        rintro e w3 ⟨q, Y, rfl, hS3, hE3, hO3, hOn3⟩
        clear cP
        have hfx := HFX.out (seg Y off (ys.length + 1)) q (seg_lt hS3.2.1 off (ys.length + 1)) hE3
        obtain ⟨j, hj, hj2, hj3⟩ := hfx
        have hji : (gg : Int) - 1 = (j : Int) := by omega
        have hgj : ¬ (gg = 0) := by omega
        have hjb : j < 4294967296 := by omega
        have HJ2 := Lib.hid hj2
        have HJ3 := Lib.hid hj3
        have HS3 := Lib.hid hS3
        have HO3 := Lib.hid hO3
        have HOn3 := Lib.hid hOn3
        clear hE3 hS3 hO3 hOn3 hj2 hj3 hj
        go_wp2
        simp only [Exit.jump]
        go_ret
        exact ⟨j, Y, rfl, hjb, HS2.out.then HS3.out, HJ2.out, HJ3.out, HO3.out, HOn.out.trans HOn3.out⟩

end Go.Proofs.YtileljokijmpaaaDoor

/- Contracts: byLimb, byLimbs. -/
namespace Go.Proofs.YtileljokijmpaaaDoor
open Go.RowKit Go.Shelf

set_option linter.unusedVariables false

/-! ### byLimb -/
/-- What byLimb hands back. -/
def BLPost (xs : List Nat) (m : Nat) (w : World) (e : Ending) (w' : World) : Prop :=
  (∃ v, e = .returned (.tuple #[v, .int .u32 ((val xs % m : Nat) : Int)]) ∧ Own w' w.heap.size v (lim (val xs / m))) ∧ Below w.heap.size w w'

set_option maxHeartbeats 4000000 in
theorem byLimb_any (A : Option Addr) (cap : Nat) (xs : List Nat) (m : Nat) (w : World) (hr : Rd w w.heap.size A xs) (hc : xs.length ≤ 1048576) (h0 : 0 < m) (hm : m < 4294967296) :
    Calls Tryd.prog 45 #[.slice A xs.length cap, .int .u32 (m : Int)] w (BLPost xs m w) := by
  obtain ⟨i0, hi, hz0, hz1, hz2⟩ := info_parts info32
  have q0 : ((m : Int) == 0) = false := beq_eq_false_iff_ne.2 (by omega)
  go_enter Tryd.func45, Tryd.ntmps45
  go_wp2_with (at_make; refine wpList_make_full _ rfl _ _ 24 rfl w.heap.size 40 i0 (.int .u32 0) 1 Tryd.underlying24 hi hz0 hz1 .i64 .i64 _ _ xs.length rfl rfl rfl rfl (by rw [hz2]; omega) (by unfold maxLen; omega) (Nat.le_refl _) ?_; intro w1 hown0 hgrow0)
  have hB0 : Below w.heap.size w w1 := (Below.refl _ w).grown hgrow0 (Nat.le_refl _) (fun _ h => by cases h)
  have hO0 := own_made hown0
  clear hown0 hgrow0
  go_loopw [7, 8] (fun l i wr => ∃ (k r : Nat) (X : List Nat), k ≤ xs.length ∧ i = .int .i64 ((k : Int) - 1) ∧ l = .int .u64 (r : Int) ∧ OI xs m k r X ∧ Own wr w.heap.size (.slice (some ⟨w.heap.size, 0, none⟩) X.length xs.length) X ∧ Below w.heap.size w wr) (fun _ i _ => (intOf i + 1).toNat)
  case atStart => exact ⟨xs.length, 0, _, Nat.le_refl _, rfl, rfl, OI.start xs h0, hO0, hB0⟩
  case round =>
    clear hB0 hO0
    obtain ⟨k, r, X, hk, rfl, rfl, hI, hX, hB⟩ := hrel
    have hrm := hI.lt
    have hXl := hI.ql
    rcases Nat.eq_zero_or_pos k with hk0 | hk0
    · subst hk0
      obtain ⟨A2, cap2, e2, h1, h2, hrd⟩ := hX.rd hI.qs
      injection e2 with ea eb ec
      subst ea ec
      have c := dtrim_any _ _ X wr _ hrd h1 h2
      have hfin := trimV_own (hX.trimmed hI.qs)
      obtain ⟨d1, d2⟩ := hI.done
      rw [d1] at c hfin
      have HF := Lib.hid hfin
      have HB := Lib.hid hB
      have HR := Lib.hid d2
      rw [hXl] at c
      clear hI hX hB hr hrd h1 h2 hfin d1 d2 hXl
      go_wp2_with fail
      with_reducible refine c.mono ?_
      rintro e wn ⟨rfl, hw⟩
      obtain rfl := hw.symm
      clear c
      go_wp2
      go_ret2
      exact ⟨⟨_, by first | rfl | (rw [← HR.out]; rfl), HF.out⟩, HB.out⟩
    · obtain ⟨j, rfl⟩ : ∃ j, k = j + 1 := ⟨k - 1, by omega⟩
      obtain ⟨b, o, rfl, hb, hcell⟩ := hr.2 (by omega)
      have hyc := (hB.cell (p := ⟨b, o + j, none⟩) hb).trans (hcell j (by omega))
      have hyl := hr.limbs.getD j
      have hst := Lib.hid fun t ht => hI.step (t := t) (by omega) hyl ht
      generalize hy : xs[j]?.getD 0 = y at *
      have hxc := hX.cellAt (j := j) (by omega)
      have hxf := World.ownsRow.frozenAt hX j
      have hput := Lib.hid fun v => hX.put (j := j) (v := v)
      have hbe := Lib.hid fun v => hB.setCell (p := ⟨w.heap.size, j, none⟩) (Nat.le_refl _) v
      have hxb := hI.qs.getD j
      generalize X[j]?.getD 0 = x0 at *
      have t5 := or_wide (x := r) (y := y) (by omega) hyl
      obtain ⟨t, ht⟩ : ∃ t : Nat, t = r * 4294967296 + y := ⟨_, rfl⟩
      rw [← ht] at t5
      have q1 : (t : Int) / (m : Int) = ((t / m : Nat) : Int) := by simp
      have q2 : (t : Int) % (m : Int) = ((t % m : Nat) : Int) := by simp
      have q3 : t / m < 4294967296 := by rw [ht]; exact oi_bound hyl hrm
      have q4 : t % m < m := Nat.mod_lt _ h0
      have HT := Lib.hid (hst.out t ht)
      have hri : (r : Int) < 4294967296 := by omega
      have htb : t < 18446744073709551616 := by omega
      have hi1 : ((j + 1 : Nat) : Int) - 1 = (j : Int) := by omega
      generalize hq : t / m = q at *
      generalize hs : t % m = s at *
      clear hy hI hX hB hcell hr ht hst hq hs hXl
      rw [hi1]
      go_wp2
      go_roundw
      case rel => exact ⟨j, s, X.set j q, by omega, by go_num, by rw [q2], HT.out, hput.out q, hbe.out _⟩
      case measure => simp [intOf]

/-! ### byLimbs -/
theorem Own.only {w w' : World} {B g h : Nat} {n cap : Nat} {xs : List Nat} (H : Own w B (.slice (some ⟨h, 0, none⟩) n cap) xs) (k : Only g w w') (hne : h ≠ g) : Own w' B (.slice (some ⟨h, 0, none⟩) n cap) xs := by
  refine ⟨H.1, ?_⟩
  rcases H.2 with ⟨e, _⟩ | ⟨g', cap', cur, e, hg, hh, r⟩
  · cases e
  · have e2 := e
    injection e2 with e1; injection e1 with e1; injection e1 with e1
    exact .inr ⟨g', cap', cur, e, hg, (k.block g' (by omega)).trans hh, r⟩
theorem Own.farOf {w : World} {B g h cap : Nat} {xs : List Nat} (H : Own w B (.slice (some ⟨h, 0, none⟩) xs.length cap) xs) (hl : Limbs xs) (hne : h ≠ g) : Far w g (some ⟨h, 0, none⟩) xs := by
  refine ⟨hl, fun hn => ⟨h, 0, rfl, hne, fun j hj => ?_⟩⟩
  have hc := World.ownsRow.cellAt H j (by omega)
  rw [Nat.zero_add, hc, u32s, List.getElem?_map, List.getElem?_eq_getElem hj]
  rfl
theorem lz_any (x : Nat) (hx : x < 4294967296) (h0 : 0 < x) (w : World) :
    Calls Tryd.prog 66 #[.int .u32 (x : Int)] w fun e w' => e = .returned (.int .i64 ((32 - blen x : Nat) : Int)) ∧ w' = w := by
  have := Tryd.bits_LeadingZeros32 (x : Int) w (by omega) (by omega)
  rw [Int.toNat_natCast, blen_lib hx] at this
  have h32 : blen x ≤ 32 := blen_le.2 hx
  rwa [show (32 : Int) - (blen x : Int) = ((32 - blen x : Nat) : Int) from by omega] at this
theorem blen_mul_pow {n r : Nat} (h : n ≠ 0) : blen (n * 2 ^ r) = blen n + r := by
  have := blen_shift (r := 0) (k := r) h (Nat.two_pow_pos r)
  rwa [Nat.add_zero] at this
/-- The divisor, shifted till its highest bit is 1, is as long as it was. -/
theorem shl_len {ys : List Nat} (hy : Canon ys) (h0 : 0 < ys.length) (hm : ys.length ≤ 65536) : sShl ys (((32 - blen (ys[ys.length - 1]?.getD 0) : Nat)) : Int) = lim (val ys * 2 ^ (32 - blen (ys[ys.length - 1]?.getD 0))) ∧ (lim (val ys * 2 ^ (32 - blen (ys[ys.length - 1]?.getD 0)))).length = ys.length := by
  have hb := blen_val hy h0
  have hl := hy.1.getD (ys.length - 1)
  have h32 : blen (ys[ys.length - 1]?.getD 0) ≤ 32 := blen_le.2 hl
  have hne : ys ≠ [] := fun e => by rw [e] at h0; simp at h0
  have hv := hy.val_pos hne
  generalize ys[ys.length - 1]?.getD 0 = t at *
  have hs := blen_mul_pow (n := val ys) (r := 32 - blen t) (by omega)
  have hlen : (lim (val ys * 2 ^ (32 - blen t))).length ≤ ys.length := lim_len_blen.2 (by omega)
  have hge : ¬ (lim (val ys * 2 ^ (32 - blen t))).length ≤ ys.length - 1 := fun h => by
    have := lim_len_blen.1 h
    omega
  have hmay : mayb ys = true := mayb_iff.2 ⟨hm, hy.2⟩
  refine ⟨?_, by omega⟩
  rw [sShl_yes hmay, clip_of (by omega)]
theorem lim_top {n : Nat} (h : 0 < (lim n).length) : 0 < (lim n)[(lim n).length - 1]?.getD 0 := by
  have := (canon_lim n).2
  rw [List.getLast?_eq_getElem?, List.getElem?_eq_getElem (by omega)] at this
  rw [List.getElem?_eq_getElem (by omega)]
  simp only [Option.getD_some]
  have h2 : (lim n)[(lim n).length - 1] ≠ 0 := fun e => this (by rw [e])
  omega
/-- What stands ahead of the first limb. -/
theorem start_lt {xs ys : List Nat} {r : Nat} (hx : Limbs xs) (hy : Canon ys) (h0 : 0 < ys.length) (hle : ys.length ≤ xs.length) : val xs * 2 ^ r < val ys * 2 ^ r * 4294967296 ^ (xs.length + 1 - ys.length) := by
  have h1 := val_lt hx
  have h2 := canon_val_ge hy (fun e => by rw [e] at h0; simp at h0)
  have h3 : 4294967296 ^ xs.length ≤ val ys * 4294967296 ^ (xs.length + 1 - ys.length) := by
    have e : xs.length = (ys.length - 1) + (xs.length + 1 - ys.length) := by omega
    conv => lhs; rw [e, Nat.pow_add]
    exact Nat.mul_le_mul_right _ h2
  have h4 : val xs * 2 ^ r < val ys * 4294967296 ^ (xs.length + 1 - ys.length) * 2 ^ r := Nat.mul_lt_mul_of_pos_right (Nat.lt_of_lt_of_le h1 h3) (Nat.two_pow_pos r)
  generalize 4294967296 ^ (xs.length + 1 - ys.length) = M at *
  have e : val ys * 2 ^ r * M = val ys * M * 2 ^ r := by grind
  omega
theorem nextLimb_len (g off off' cp cz n1 n2 : Nat) (A : Option Addr) (cap : Nat) (ys Z : List Nat) (w : World) (B : Nat) (h0 : off' = off) (h1 : n1 = ys.length + 1) (h2 : n2 = ys.length) (hn : 2 ≤ ys.length) (hO : Own w B (.slice (some ⟨g, 0, none⟩) Z.length cz) Z) (hZ : Limbs Z) (hoff : off + ys.length < Z.length) (hr : Far w g A ys) (hl : ys.length ≤ 2097152) (hf : 0 < ys[ys.length - 1]?.getD 0) (hlt : seg Z off (ys.length + 1) < val ys * 4294967296) :
    Calls Tryd.prog 69 #[.slice (some ⟨g, off', none⟩) n1 cp, .slice A n2 cap] w (NLPost Z off ys g cz B w) := by
  subst h0 h1 h2
  exact nextLimb_any g off' cp cz A cap ys Z w B hn hO hZ hoff hr hl hf hlt

/-- Two slices share no block. -/
def Apart (v v' : Value) : Prop := ∀ g g' n n' c c', v = .slice (some ⟨g, 0, none⟩) n c → v' = .slice (some ⟨g', 0, none⟩) n' c' → g ≠ g'
theorem apart_nil (v : Value) : Apart (.slice none 0 0) v := fun g g' n n' c c' e _ => by cases e
theorem Own.apart {w w' : World} {B : Nat} {v v' : Value} {xs ys : List Nat} (h : Own w B v xs) (k : Own w' w.heap.size v' ys) : Apart v v' := fun g g' n n' c c' e e' => by
  subst e e'
  have h1 := h.lt_size
  have h2 := k.ge
  omega
/-- Quotient and remainder in new memory. -/
def QRPost (q r : Nat) (w : World) (e : Ending) (w' : World) : Prop :=
  (∃ v v', e = .returned (.tuple #[v, v']) ∧ Own w' w.heap.size v (lim q) ∧ Own w' w.heap.size v' (lim r) ∧ Apart v v') ∧ Below w.heap.size w w'

set_option maxHeartbeats 8000000 in
theorem dbyLimbs_any (A A' : Option Addr) (cap cap' : Nat) (xs ys : List Nat) (w : World) (hr : Rd w w.heap.size A xs) (hr' : Rd w w.heap.size A' ys) (hx : mayb xs = true) (hy : mayb ys = true) (h2 : 2 ≤ ys.length) (hle : ys.length ≤ xs.length) :
    Calls Tryd.prog 48 #[.slice A xs.length cap, .slice A' ys.length cap'] w (QRPost (val xs / val ys) (val xs % val ys) w) := by
  obtain ⟨i0, hi, hz0, hz1, hz2⟩ := info_parts info32
  have hxm := (mayb_iff.1 hx).1
  have hym := (mayb_iff.1 hy).1
  have cy := mayb_canon hr'.limbs hy
  have cx := mayb_canon hr.limbs hx
  obtain ⟨b', o', rfl, hb', hcell'⟩ := hr'.2 (by omega)
  have t1 := hcell' (ys.length - 1) (by omega)
  have tl := hr'.limbs.getD (ys.length - 1)
  have hvp := cy.val_pos (fun e => by rw [e] at h2; simp at h2)
  obtain ⟨s1, s2⟩ := shl_len cy (by omega) hym
  have t0 : 0 < ys[ys.length - 1]?.getD 0 := by
    have := lim_top (n := val ys)
    rw [lim_val cy] at this
    exact this (by omega)
  have cL := lz_any _ tl t0 w
  have hb1 : 0 < blen (ys[ys.length - 1]?.getD 0) := blen_pos (by omega)
  generalize ys[ys.length - 1]?.getD 0 = tp at *
  obtain ⟨r, hrr⟩ : ∃ r, r = 32 - blen tp := ⟨_, rfl⟩
  rw [← hrr] at cL s1 s2
  have hr32 : r < 32 := by omega
  clear hb1 hrr
  have hst := start_lt (r := r) hr.limbs cy (by omega) hle
  have htop := lim_top (n := val ys * 2 ^ r) (by omega)
  have hdv : val (lim (val ys * 2 ^ r)) = val ys * 2 ^ r := val_lim _
  have hdp : 0 < val ys * 2 ^ r := Nat.mul_pos hvp (Nat.two_pow_pos r)
  have hql : val xs * 2 ^ r / (val ys * 2 ^ r) = val xs / val ys := Nat.mul_div_mul_right _ _ (Nat.two_pow_pos r)
  have hrl : val xs * 2 ^ r % (val ys * 2 ^ r) = val xs % val ys * 2 ^ r := Nat.mul_mod_mul_right _ _ _
  have hdlim : Limbs (lim (val ys * 2 ^ r)) := lim_limbs _
  have hdd : val ys * 2 ^ r < 4294967296 ^ ys.length := by
    have := val_lt hdlim
    rwa [hdv, s2] at this
  have cS := shifted_any A cap xs r w hr hxm hr32
  have HQ := Lib.hid hql
  have HRl := Lib.hid hrl
  have HST := Lib.hid hst
  have HDP := Lib.hid hdp
  have HDD := Lib.hid hdd
  clear hql hrl hst hdp hdd cy cx hvp hcell'
  generalize val ys * 2 ^ r = D at *
  generalize hds : lim D = ds at *
  have HDS := Lib.hid hds
  have HS1 := Lib.hid s1
  have HR' := Lib.hid hr'
  have HDV := Lib.hid hdv
  have HTOP := Lib.hid htop
  have HDL := Lib.hid hdlim
  clear hds s1 hr hr' hdv htop hx hdlim
  obtain ⟨n, hn⟩ : ∃ n, ys.length = n := ⟨_, rfl⟩
  rw [hn] at s2 h2 hle hym t1
  rw [hn]
  go_enter Tryd.func48, Tryd.ntmps48
  go_wp2_with fail
  with_reducible refine cL.mono ?_
  rintro e w' ⟨rfl, hw⟩
  obtain rfl := hw.symm
  clear cL
  go_wp2_with fail
  with_reducible refine cS.mono ?_
  rintro e w1 ⟨⟨v1, X0, rfl, ho1, hxl1, hxn1, hxv1⟩, hB1⟩
  clear cS
  unfold Own at ho1
  rw [hxn1] at ho1
  obtain ⟨g, cz, rfl⟩ := ownsRow_succ ho1
  rw [← hxn1] at ho1
  have hO1 : Own w1 w.heap.size (.slice (some ⟨g, 0, none⟩) X0.length cz) X0 := by unfold Own; exact ho1
  have hcz := hO1.cap
  have hg1 := hO1.lt_size
  have hgb := hO1.ge
  clear ho1
  have cS2 := shl_any (some ⟨b', o', none⟩) cap' ys (r : Int) w1 ((HR'.out.below hB1 (Nat.le_refl _)).more hB1.size) (by unfold maxLen; omega)
  rw [hn, HS1.out] at cS2
  have HO1 := Lib.hid hO1
  have HB1 := Lib.hid hB1
  have HXV := Lib.hid hxv1
  have HXL := Lib.hid hxl1
  clear hO1 hxv1 hxl1
  go_wp2_with fail
  with_reducible refine cS2.mono ?_
  rintro e w2 ⟨⟨v2, rfl, ho2⟩, hB2⟩
  clear cS2
  obtain ⟨nd, hnd⟩ : ∃ nd, n = nd + 1 := ⟨n - 1, by omega⟩
  have hdsl : ds.length = nd + 1 := by omega
  unfold Own at ho2
  rw [hdsl] at ho2
  obtain ⟨gd, cd, rfl⟩ := ownsRow_succ ho2
  rw [← hdsl] at ho2
  have hO2 : Own w2 w1.heap.size (.slice (some ⟨gd, 0, none⟩) ds.length cd) ds := by unfold Own; exact ho2
  have hgd := hO2.ge
  have hgd2 := hO2.lt_size
  have hO1' := HO1.out.below hB2
  have HO1' := Lib.hid hO1'
  have HO2 := Lib.hid (hO2.more hB1.size)
  have HB2 := Lib.hid (HB1.out.trans (hB2.mono hB1.size))
  rw [← hnd]
  have hs2 := hB2.size
  have hs1 := hB1.size
  clear ho2 hO2 hO1' hB1 hB2 hdsl hnd
  obtain ⟨m, hm⟩ : ∃ m, xs.length + 1 = m + n := ⟨xs.length + 1 - n, by omega⟩
  have hms : xs.length + 1 - n = m := by omega
  have HM := Lib.hid hm
  have hm1 : m ≤ 65537 := by omega
  have hm0 : 0 < m := by omega
  have HSTm : Hid (val xs * 2 ^ r < D * 4294967296 ^ m) := by
    have := HST.out
    rw [hn, hms] at this
    exact this
  have q1 : ((xs.length : Int) + 1) - (n : Int) = (m : Int) := by omega
  have HDDn : Hid (D < 4294967296 ^ n) := by have := HDD.out; rw [hn] at this; exact this
  clear hms
  go_wp2_with (at_make; refine wpList_make_full _ rfl _ _ 24 rfl w.heap.size 40 i0 (.int .u32 0) 1 Tryd.underlying24 hi hz0 hz1 .i64 .i64 _ _ m rfl rfl (by omega) (by omega) (by rw [hz2]; omega) (by unfold maxLen; omega) (by omega) ?_; intro w3 hown0 hgrow0)
  have hB3 : Below w2.heap.size w2 w3 := (Below.refl _ w2).grown hgrow0 (Nat.le_refl _) (fun _ h => by cases h)
  have hOQ := own_made hown0
  obtain ⟨gq, hgq⟩ : ∃ gq, w2.heap.size = gq := ⟨_, rfl⟩
  rw [hgq] at hOQ
  have hOX := HO1'.out.below hB3
  have hOD := HO2.out.below hB3
  have hBw := HB2.out.trans (hB3.mono (by omega))
  have d1 : g ≠ gd := by omega
  have d2 : g ≠ gq := by omega
  have d3 : gd ≠ gq := by omega
  clear hown0 hgrow0 hB3
  rw [hgq]
  have hQI : Hid (QI (val xs * 2 ^ r) D n m m X0 (List.replicate m 0)) := by
    refine QI.start HXL.out (by rw [hxn1]; exact HM.out) HXV.out HSTm.out
  go_loopw [9] (fun i wr => ∃ (k : Nat) (X Q : List Nat), k ≤ m ∧ i = .int .i64 ((k : Int) - 1) ∧ QI (val xs * 2 ^ r) D n m k X Q ∧ Own wr w.heap.size (.slice (some ⟨g, 0, none⟩) X.length cz) X ∧ Own wr w.heap.size (.slice (some ⟨gq, 0, none⟩) Q.length m) Q ∧ Own wr w.heap.size (.slice (some ⟨gd, 0, none⟩) ds.length cd) ds ∧ Below w.heap.size w wr) (fun i _ => (intOf i + 1).toNat)
  case atStart => exact ⟨m, X0, _, Nat.le_refl _, rfl, hQI.out, hOX, hOQ, hOD, hBw⟩
  case round =>
    clear hOX hOQ hOD hBw hQI
    obtain ⟨k, X, Q, hk, rfl, hI, hX, hQ, hD, hB⟩ := hrel
    have HI := Lib.hid hI
    have HX := Lib.hid hX
    have HQo := Lib.hid hQ
    have HD := Lib.hid hD
    have HB := Lib.hid hB
    have hXl := hI.xl
    have hQl := hI.ql
    rcases Nat.eq_zero_or_pos k with hk0 | hk0
    · subst hk0
      obtain ⟨e1, e2⟩ := hI.done HDP.out
      have hlt := hI.lt
      rw [Nat.pow_zero, Nat.mul_one] at hlt
      rw [HQ.out] at e1
      rw [HRl.out] at e2
      have hlx : (lim (val X)).length ≤ n := lim_length_le.2 (Nat.lt_trans hlt HDDn.out)
      obtain ⟨A2, cap2, ev, k1, k2, hrd⟩ := hQ.rd hI.qs
      injection ev with ea eb ec
      subst ea ec
      have cT1 := dtrim_any _ _ Q wr _ hrd k1 k2
      have hO1 := trimV_own (hQ.trimmed hI.qs)
      rw [e1] at cT1 hO1
      rw [hQl] at cT1
      obtain ⟨A2, cap2, ev, k3, k4, hrd2⟩ := hX.rd hI.xs
      injection ev with ea eb ec
      subst ea ec
      have cT2 := dtrim_any _ _ X wr _ hrd2 k3 k4
      have hO2 := trimV_own (hX.trimmed hI.xs)
      rw [hXl] at cT2
      obtain ⟨A3, cap3, ev3, k5, k6, hrd3⟩ := hO2.arg (lim_limbs _)
      have cT3 := shr_any A3 cap3 (lim (val X)) (r : Int) wr hrd3 k5 k6
      rw [← ev3] at cT3
      have hsh : sShr (lim (val X)) (r : Int) = lim (val xs % val ys) := by
        rw [sShr_yes (mayb_lim (by omega)), val_lim, e2, Nat.mul_div_cancel _ (Nat.two_pow_pos r)]
      rw [hsh] at cT3
      have HO1 := Lib.hid hO1
      have HXL := Lib.hid hXl
      clear hI hX hQ hD hB hrd hrd2 hrd3 hO1 hO2 hsh ev3 k1 k2 k3 k4 k5 k6 e1 e2 hlt hlx hXl hQl HX HQo HD
      generalize (lim (val X)).length = lx at *
      go_wp2_with fail
      with_reducible refine cT1.mono ?_
      rintro e w' ⟨rfl, hw⟩
      obtain rfl := hw.symm
      clear cT1
      go_wp2_with fail
      with_reducible refine cT2.mono ?_
      rintro e w' ⟨rfl, hw⟩
      obtain rfl := hw.symm
      clear cT2
      go_wp2_with fail
      with_reducible refine cT3.mono ?_
      rintro e w5 ⟨⟨v5, rfl, ho5⟩, hb5⟩
      have HQF := Lib.hid (HO1.out.below hb5)
      have HAP := Lib.hid (HO1.out.apart ho5)
      have HRF := Lib.hid (ho5.more HB.out.size)
      have HBF := Lib.hid (HB.out.trans (hb5.mono HB.out.size))
      clear cT3 ho5 hb5
      go_wp2
      go_ret2
      exact ⟨⟨_, _, rfl, HQF.out, HRF.out, HAP.out⟩, HBF.out⟩
    · obtain ⟨j, rfl⟩ : ∃ j, k = j + 1 := ⟨k - 1, by omega⟩
      have hi1 : ((j + 1 : Nat) : Int) - 1 = (j : Int) := by omega
      have hczX : m + n ≤ cz := by omega
      have hcz2 := hcz.2
      unfold maxLen at hcz2
      have hpc := hI.piece (by omega) HDDn.out
      have cT := nextLimb_len g j j (j + n + 1 - j) cz (j + n + 1 - j) n (some ⟨gd, 0, none⟩) cd ds X wr w.heap.size rfl (by omega) (by omega) (by omega) hX hI.xs (by omega) (hD.farOf HDL.out (by omega)) (by omega) HTOP.out (by rw [HDV.out, s2]; exact hpc.1)
      have hxb := hI.qs.getD j
      have HXL := Lib.hid hXl
      have HQL := Lib.hid hQl
      clear hI hX hQ hD hB hcz hpc hXl hQl
      rw [hi1]
      go_wp2_with fail
      with_reducible refine cT.mono ?_
      rintro e w4 ⟨q, Y, rfl, hqb, hS, hE, hR, hOY, hOn⟩
      clear cT
      rw [s2, HDV.out] at hE
      rw [s2, HDV.out] at hR
      rw [s2] at hS
      have HST4 := Lib.hid (HI.out.step (by omega) HDDn.out hS hqb hE hR)
      have hQ4 := HQo.out.only hOn (by omega)
      have hxc := hQ4.cellAt (j := j) (by rw [HQL.out]; omega)
      have hxf := World.ownsRow.frozenAt hQ4 j
      have hOgq := (Only.refl gq w4).setCell j (lv q)
      have HQ4 := Lib.hid (hQ4.put (j := j) (v := q))
      have HX4 := Lib.hid (hOY.only hOgq (by omega))
      have HD4 := Lib.hid ((HD.out.only hOn (by omega)).only hOgq (by omega))
      have HB4 := Lib.hid ((HB.out.trans (hOn.below hgb)).setCell (p := ⟨gq, j, none⟩) (by show w.heap.size ≤ gq; omega) (lv q))
      generalize Q[j]?.getD 0 = x0 at *
      clear hS hE hR hOY hOn hQ4 hOgq
      go_wp2
      go_roundw
      case rel => exact ⟨j, Y, Q.set j q, by omega, by go_num, HST4.out, HX4.out, HQ4.out, HD4.out, HB4.out⟩
      case measure => simp [intOf]

end Go.Proofs.YtileljokijmpaaaDoor

/- Contracts: slices.Clone, DivMod, Small. -/
namespace Go.Proofs.YtileljokijmpaaaDoor
open Go.RowKit Go.Shelf

set_option linter.unusedVariables false

theorem u32s_oneC (xs : List Nat) : ∀ u ∈ u32s xs, u.oneCell' = true := by
  intro u hu
  obtain ⟨x, _, rfl⟩ := List.mem_map.1 hu
  rfl
theorem own_empty (w : World) (B : Nat) : w.ownsRow B 40 1 (.slice none 0 0) 0 [] := World.ownsRow_nil _ _ _ _

set_option maxHeartbeats 1000000 in
theorem clone_none (n cap : Nat) (w : World) : Calls Tryd.prog 47 #[.slice none n cap] w fun e w' => e = .returned (.slice none 0 0) ∧ w' = w := by
  have qT : ∀ (w : World) (a : Option Addr) (n c n' c' : Nat), (binOp .eql 24 (.slice a n c) (.slice none n' c')).run Tryd.prog w = .ok (.bool a.isNone) w := fun w a n c n' c' => Lib.run_eql_slice_nil w _ _ a n c n' c' Tryd.underlying24
  go_enter Tryd.func47, Tryd.ntmps47
  go_wp2
  go_ret
  exact ⟨rfl, rfl⟩

set_option maxHeartbeats 1000000 in
theorem clone_some (ad : Addr) (cap : Nat) (xs : List Nat) (w : World) (hc : xs.length ≤ cap) (hm : cap ≤ maxLen) (hr : Rd w w.heap.size (some ad) xs) (h60 : xs.length ≤ 1048576) :
    Calls Tryd.prog 47 #[.slice (some ad) xs.length cap] w (NewL w xs) := by
  obtain ⟨i0, hi, hz0, hz1, hz2⟩ := info_parts info32
  have hown0 : (w.alloc (.cells #[] 40)).ownsRow w.heap.size 40 1 (.slice (some ⟨w.heap.size, 0, none⟩) 0 0) 0 [] := World.ownsRow_lit w #[] 0 (Nat.le_refl _) (by decide) rfl
  have hcell : ∀ j u, (u32s xs)[j]? = some u → (w.alloc (.cells #[] 40)).cell? (ad.add j) = some u := by
    intro j u hu
    have hj : j < xs.length := by
      have := (List.getElem?_eq_some_iff.1 hu).1
      simpa [u32s] using this
    obtain ⟨b, off, e, hlt, hcl⟩ := hr.2 (by omega)
    obtain rfl : ad = ⟨b, off, none⟩ := by simpa using e
    rw [Addr.add_mid]
    rw [((Below.refl _ w).alloc (Nat.le_refl _) (.cells #[] 40)).cell (p := ⟨b, off + j, none⟩) hlt, hcl j hj]
    rw [u32s, List.getElem?_map, List.getElem?_eq_getElem hj] at hu
    rw [List.getElem?_eq_getElem hj]
    exact hu
  have HC := Lib.hid hcell
  clear hcell hr
  have qT : ∀ (w : World) (a : Option Addr) (n c n' c' : Nat), (binOp .eql 24 (.slice a n c) (.slice none n' c')).run Tryd.prog w = .ok (.bool a.isNone) w := fun w a n c n' c' => Lib.run_eql_slice_nil w _ _ a n c n' c' Tryd.underlying24
  go_enter Tryd.func47, Tryd.ntmps47
  go_wp2_with (at_builtin; refine wpList_append_own _ rfl _ _ 24 rfl w.heap.size 40 i0 (.int .u32 0) 1 4 Tryd.underlying24 hi hz0 hz1 hz2 rfl (by decide) _ _ _ rfl hown0 ad xs.length cap (u32s xs) rfl (by simp [u32s]) HC.out (u32s_oneC xs) (by unfold maxLen at *; omega) (by omega) (by simp) ?_; intro v' w2 hown' hgrow hgone; clear hgone)
  have hg2 : (w.alloc (.cells #[] 40)).grownBy w2 (some w.heap.size) := hgrow
  have hb2 : Below w.heap.size w w2 := ((Below.refl _ w).alloc (Nat.le_refl _) _).grown hg2 (by simp) (fun k hk => by cases hk; exact Nat.le_refl _)
  have hO : Own w2 w.heap.size v' xs := by unfold Own; simpa using hown'
  have HO := Lib.hid hO
  clear hO hown' hgrow hg2 HC
  go_wp2
  go_ret
  exact ⟨⟨_, rfl, HO.out⟩, hb2⟩
theorem clone_any (A : Option Addr) (cap : Nat) (xs : List Nat) (w : World) (hc : xs.length ≤ cap) (hm : cap ≤ maxLen) (hr : Rd w w.heap.size A xs) (h60 : xs.length ≤ 1048576) :
    Calls Tryd.prog 47 #[.slice A xs.length cap] w (NewL w xs) := by
  rcases A with _ | ad
  · have : xs = [] := by
      rcases Nat.eq_zero_or_pos xs.length with h0 | h0
      · exact List.eq_nil_of_length_eq_zero h0
      · obtain ⟨_, _, e, _⟩ := hr.2 h0
        cases e
    subst this
    exact (clone_none _ _ w).mono fun e w' ⟨he, hw⟩ => by subst he hw; exact ⟨⟨_, rfl, Own.nil _ _⟩, Below.refl _ _⟩
  · exact clone_some ad cap xs w hc hm hr h60


/-! ### DivMod -/
def sDivE (xs ys : List Nat) : Nat := if mayb xs && mayb ys then (if ys.length = 0 then 41 else 0) else 4
def sDivQ (xs ys : List Nat) : List Nat := if sDivE xs ys = 0 then lim (val xs / val ys) else []
def sDivR (xs ys : List Nat) : List Nat := if sDivE xs ys = 0 then lim (val xs % val ys) else []
theorem sDivE_may {xs ys : List Nat} (h : (mayb xs && mayb ys) = false) : sDivE xs ys = 4 := by unfold sDivE; rw [h]; rfl
theorem sDivE_zero {xs ys : List Nat} (h : (mayb xs && mayb ys) = true) (h0 : ys.length = 0) : sDivE xs ys = 41 := by unfold sDivE; rw [h]; simp [h0]
theorem sDivE_ok {xs ys : List Nat} (h : (mayb xs && mayb ys) = true) (h0 : 0 < ys.length) : sDivE xs ys = 0 := by unfold sDivE; rw [h, if_pos rfl, if_neg (by omega)]
theorem sDivQ_no {xs ys : List Nat} (h : sDivE xs ys ≠ 0) : sDivQ xs ys = [] := if_neg h
theorem sDivR_no {xs ys : List Nat} (h : sDivE xs ys ≠ 0) : sDivR xs ys = [] := if_neg h
theorem sDivQ_ok {xs ys : List Nat} (h : sDivE xs ys = 0) : sDivQ xs ys = lim (val xs / val ys) := if_pos h
theorem sDivR_ok {xs ys : List Nat} (h : sDivE xs ys = 0) : sDivR xs ys = lim (val xs % val ys) := if_pos h
/-- Quotient, remainder, and an error in new memory. -/
def DMPost (q r : List Nat) (E : Nat) (w : World) (e : Ending) (w' : World) : Prop :=
  (∃ v v', e = .returned (.tuple #[v, v', .int .i64 (E : Int)]) ∧ Own w' w.heap.size v q ∧ Own w' w.heap.size v' r ∧ Apart v v') ∧ Below w.heap.size w w'
theorem DMPost.no {q r : List Nat} {E : Nat} {w : World} (hq : q = []) (hr : r = []) : DMPost q r E w (.returned (.tuple #[.slice none 0 0, .slice none 0 0, .int .i64 (E : Int)])) w :=
  ⟨⟨_, _, rfl, by rw [hq]; exact Own.nil _ _, by rw [hr]; exact Own.nil _ _, apart_nil _⟩, Below.refl _ _⟩

set_option maxHeartbeats 4000000 in
theorem divmod_ok (A A' : Option Addr) (cap cap' : Nat) (xs ys : List Nat) (w : World) (hr : Rd w w.heap.size A xs) (hr' : Rd w w.heap.size A' ys) (hc : xs.length ≤ cap) (hm : cap ≤ maxLen) (hc' : ys.length ≤ cap') (hm' : cap' ≤ maxLen) (hx : mayb xs = true) (hy : mayb ys = true) (h0 : 0 < ys.length) :
    Calls Tryd.prog 28 #[.slice A xs.length cap, .slice A' ys.length cap'] w (DMPost (lim (val xs / val ys)) (lim (val xs % val ys)) 0 w) := by
  have hxm := (mayb_iff.1 hx).1
  have hym := (mayb_iff.1 hy).1
  have cx := mayb_canon hr.limbs hx
  have cy := mayb_canon hr'.limbs hy
  have c1 := may_yes cap hr (by omega) hx
  have c2 := may_yes cap' hr' (by omega) hy
  have hz : (((ys.length : Nat) : Int) == 0) = false := beq_eq_false_iff_ne.2 (by omega)
  have hvp := cy.val_pos (fun e => by rw [e] at h0; simp at h0)
  by_cases h1 : ys.length = 1
  · obtain ⟨b, o, rfl, hb, hcell⟩ := hr'.2 h0
    have hcl := hcell 0 h0
    rw [Nat.add_zero] at hcl
    have hyl := hr'.limbs.getD 0
    have hv : val ys = ys[0]?.getD 0 := by
      obtain ⟨y, rfl⟩ := List.length_eq_one_iff.1 h1
      rw [val, val, Nat.mul_zero, Nat.add_zero]; rfl
    rw [hv] at hvp
    have c3 := byLimb_any A cap xs (ys[0]?.getD 0) w hr (by omega) hvp hyl
    rw [← hv] at c3
    rw [h1] at c2 ⊢
    have HV := Lib.hid hv
    have hmod : val xs % val ys < 4294967296 := by rw [hv]; exact Nat.lt_trans (Nat.mod_lt _ hvp) hyl
    have c4 := fun W => of_any (val xs % val ys) W (by omega)
    rw [hv] at c3 hmod
    simp only [hv] at c4
    generalize hg : ys[0]?.getD 0 = y at *
    have HG := Lib.hid hg
    clear hcell hv hx hy cx cy hr hr' hg
    rw [HV.out]
    generalize hmm : val xs % y = md at *
    have HMM := Lib.hid hmm
    clear hmm
    go_enter Tryd.func28, Tryd.ntmps28
    go_wp2_with fail
    with_reducible refine c1.mono ?_
    rintro e w' ⟨rfl, hw⟩
    obtain rfl := hw.symm
    go_wp2_with fail
    with_reducible refine c2.mono ?_
    rintro e w' ⟨rfl, hw⟩
    obtain rfl := hw.symm
    clear c1 c2
    go_wp2_with fail
    with_reducible refine c3.mono ?_
    rintro e w1 ⟨⟨v, rfl, ho⟩, hb1⟩
    rw [HMM.out]
    have HO := Lib.hid ho
    have HB := Lib.hid hb1
    clear c3 ho hb1
    go_wp2_with fail
    with_reducible refine (c4 w1).mono ?_
    rintro e w2 ⟨⟨v2, rfl, ho2⟩, hb2⟩
    have HO1 := Lib.hid (HO.out.below hb2)
    have HO2 := Lib.hid (ho2.more HB.out.size)
    have HAP := Lib.hid (HO.out.apart ho2)
    have HB2 := Lib.hid (HB.out.trans (hb2.mono HB.out.size))
    clear c4 ho2 hb2
    go_wp2
    go_ret3
    exact ⟨⟨_, _, rfl, HO1.out, HO2.out, HAP.out⟩, HB2.out⟩
  · have hz1 : (((ys.length : Nat) : Int) == 1) = false := beq_eq_false_iff_ne.2 (by omega)
    have c3 := cmp_any A A' cap cap' xs ys w _ hr hr' (by omega) (by omega)
    rw [sCmp_yes (by simp [hx, hy])] at c3
    rcases Nat.lt_or_ge (val xs) (val ys) with hlt | hge
    · rw [cmpN_lt hlt] at c3
      rw [Nat.div_eq_of_lt hlt, Nat.mod_eq_of_lt hlt, lim_zero, lim_val cx]
      have c4 := clone_any A cap xs (w.drewN 0) hc hm hr (by omega)
      have c4 := fun nn => clone_any A cap xs (w.drewN nn) hc hm (hr.drewN nn) (by omega)
      have hlv := lim_val cx
      have HLV := Lib.hid hlv
      have HXl := Lib.hid cx.1
      clear hlv cx cy hr hr' hx hy hlt
      go_enter Tryd.func28, Tryd.ntmps28
      go_wp2_with fail
      with_reducible refine c1.mono ?_
      rintro e w' ⟨rfl, hw⟩
      obtain rfl := hw.symm
      go_wp2_with fail
      with_reducible refine c2.mono ?_
      rintro e w' ⟨rfl, hw⟩
      obtain rfl := hw.symm
      clear c1 c2
      go_wp2_with fail
      with_reducible refine c3.mono ?_
      rintro e w1 ⟨rfl, nn, rfl⟩
      clear c3
      go_wp2_with fail
      with_reducible refine (c4 nn).mono ?_
      rintro e w2 ⟨⟨v, rfl, ho⟩, hb2⟩
      obtain ⟨A2, cap2, rfl, k1, k2, hrd⟩ := ho.rd HXl.out
      have c5 := dtrim_any A2 cap2 xs w2 _ hrd k1 k2
      rw [HLV.out] at c5
      have ho3 := trimV_own ho
      have HO := Lib.hid ho3
      have HB := Lib.hid hb2
      clear c4 ho hb2 ho3 hrd
      go_wp2_with fail
      with_reducible refine c5.mono ?_
      rintro e w' ⟨rfl, hw⟩
      obtain rfl := hw.symm
      clear c5
      go_wp2
      go_ret3
      exact ⟨⟨_, _, rfl, Own.nil _ _, HO.out, apart_nil _⟩, ⟨HB.out.os, HB.out.tape, HB.out.output, HB.out.size, HB.out.block⟩⟩
    · have hle : ys.length ≤ xs.length := by
        rcases Nat.lt_or_ge xs.length ys.length with h | h
        · have := val_lt_len hr.limbs cy h; omega
        · exact h
      have hcm : ∃ z : Int, cmpN (val xs) (val ys) = z ∧ 0 ≤ z := by
        rcases Nat.lt_or_ge (val ys) (val xs) with h | h
        · exact ⟨1, cmpN_gt h, by decide⟩
        · exact ⟨0, cmpN_eq (by omega), by decide⟩
      obtain ⟨z, hz2, hz3⟩ := hcm
      rw [hz2] at c3
      have c4 := fun nn => dbyLimbs_any A A' cap cap' xs ys (w.drewN nn) (hr.drewN nn) (hr'.drewN nn) hx hy (by omega) hle
      generalize val xs / val ys = q at *
      generalize val xs % val ys = r at *
      clear cx cy hr hr' hx hy hge hvp hle hz2
      go_enter Tryd.func28, Tryd.ntmps28
      go_wp2_with fail
      with_reducible refine c1.mono ?_
      rintro e w' ⟨rfl, hw⟩
      obtain rfl := hw.symm
      go_wp2_with fail
      with_reducible refine c2.mono ?_
      rintro e w' ⟨rfl, hw⟩
      obtain rfl := hw.symm
      clear c1 c2
      go_wp2_with fail
      with_reducible refine c3.mono ?_
      rintro e w1 ⟨rfl, nn, rfl⟩
      clear c3
      go_wp2_with fail
      with_reducible refine (c4 nn).mono ?_
      rintro e w2 ⟨⟨v, v', rfl, ho, ho', hap⟩, hb2⟩
      have HAP := Lib.hid hap
      have HO := Lib.hid ho
      have HO' := Lib.hid ho'
      have HB := Lib.hid hb2
      clear c4 ho ho' hb2 hap
      go_wp2
      go_ret3
      exact ⟨⟨_, _, rfl, HO.out, HO'.out, HAP.out⟩, ⟨HB.out.os, HB.out.tape, HB.out.output, HB.out.size, HB.out.block⟩⟩

set_option maxHeartbeats 4000000 in
theorem divmod_any (va vb : Value) (xs ys : List Nat) (w : World) (ha : Arg w va xs) (hb : Arg w vb ys) : Calls Tryd.prog 28 #[va, vb] w (DMPost (sDivQ xs ys) (sDivR xs ys) (sDivE xs ys) w) := by
  obtain ⟨A, cap, rfl, k1, k2, hr⟩ := ha
  obtain ⟨A', cap', rfl, k1', k2', hr'⟩ := hb
  by_cases hx : mayb xs = true
  · by_cases hy : mayb ys = true
    · have hxy : (mayb xs && mayb ys) = true := by simp [hx, hy]
      rcases Nat.eq_zero_or_pos ys.length with h0 | h0
      · have hE := sDivE_zero hxy h0
        have HQ := Lib.hid (sDivQ_no (xs := xs) (ys := ys) (by rw [hE]; decide))
        have HR := Lib.hid (sDivR_no (xs := xs) (ys := ys) (by rw [hE]; decide))
        rw [hE]
        have c1 := may_yes cap hr (by omega) hx
        have c2 := may_yes cap' hr' (by omega) hy
        rw [h0] at c2 ⊢
        clear hE hx hy hxy h0 hr hr'
        go_enter Tryd.func28, Tryd.ntmps28
        go_wp2_with fail
        with_reducible refine c1.mono ?_
        rintro e w' ⟨rfl, hw⟩
        obtain rfl := hw.symm
        go_wp2_with fail
        with_reducible refine c2.mono ?_
        rintro e w' ⟨rfl, hw⟩
        obtain rfl := hw.symm
        clear c1 c2
        go_wp2
        go_ret3
        exact DMPost.no HQ.out HR.out
      · have hE := sDivE_ok hxy h0
        rw [hE, sDivQ_ok hE, sDivR_ok hE]
        exact divmod_ok A A' cap cap' xs ys w hr hr' k1 k2 k1' k2' hx hy h0
    · have hE := sDivE_may (xs := xs) (ys := ys) (by simp [hy])
      have HQ := Lib.hid (sDivQ_no (xs := xs) (ys := ys) (by rw [hE]; decide))
      have HR := Lib.hid (sDivR_no (xs := xs) (ys := ys) (by rw [hE]; decide))
      rw [hE]
      have c1 := may_yes cap hr (by omega) hx
      have c2 := may_no cap' hr' (by omega) (by simpa using hy)
      clear hE hx hy hr hr'
      go_enter Tryd.func28, Tryd.ntmps28
      go_wp2_with fail
      with_reducible refine c1.mono ?_
      rintro e w' ⟨rfl, hw⟩
      obtain rfl := hw.symm
      go_wp2_with fail
      with_reducible refine c2.mono ?_
      rintro e w' ⟨rfl, hw⟩
      obtain rfl := hw.symm
      clear c1 c2
      go_wp2
      go_ret3
      exact DMPost.no HQ.out HR.out
  · have hE := sDivE_may (xs := xs) (ys := ys) (by simp [hx])
    have HQ := Lib.hid (sDivQ_no (xs := xs) (ys := ys) (by rw [hE]; decide))
    have HR := Lib.hid (sDivR_no (xs := xs) (ys := ys) (by rw [hE]; decide))
    rw [hE]
    have c1 := may_no cap hr (by omega) (by simpa using hx)
    clear hE hx hr hr'
    go_enter Tryd.func28, Tryd.ntmps28
    go_wp2_with fail
    with_reducible refine c1.mono ?_
    rintro e w' ⟨rfl, hw⟩
    obtain rfl := hw.symm
    clear c1
    go_wp2
    go_ret3
    exact DMPost.no HQ.out HR.out

/-! ### Small -/
def sSmE (xs : List Nat) (m : Nat) : Nat := if mayb xs then (if m = 0 then 41 else 0) else 4
def sSmQ (xs : List Nat) (m : Nat) : List Nat := if sSmE xs m = 0 then lim (val xs / m) else []
def sSmR (xs : List Nat) (m : Nat) : Nat := if sSmE xs m = 0 then val xs % m else 0
def SmPost (q : List Nat) (r E : Nat) (w : World) (e : Ending) (w' : World) : Prop :=
  (∃ v, e = .returned (.tuple #[v, .int .u32 (r : Int), .int .i64 (E : Int)]) ∧ Own w' w.heap.size v q) ∧ Below w.heap.size w w'
theorem SmPost.no {q : List Nat} {r E : Nat} {w : World} (hq : q = []) (hr : r = 0) : SmPost q r E w (.returned (.tuple #[.slice none 0 0, .int .u32 0, .int .i64 (E : Int)])) w := by
  subst hq hr; exact ⟨⟨_, rfl, Own.nil _ _⟩, Below.refl _ _⟩
end Go.Proofs.YtileljokijmpaaaDoor

/- Contracts: aboveRoot, Root. -/
namespace Go.Proofs.YtileljokijmpaaaDoor
open Go.RowKit Go.Shelf

set_option linter.unusedVariables false

theorem u32s_inj : ∀ {xs ys : List Nat}, u32s xs = u32s ys → xs = ys
  | [], [], _ => rfl
  | [], _ :: _, h => by simp [u32s] at h
  | _ :: _, [], h => by simp [u32s] at h
  | x :: r, y :: s, h => by
    simp only [u32s, List.map_cons, List.cons.injEq] at h
    obtain ⟨h1, h2⟩ := h
    unfold lv at h1
    injection h1 with _ h1
    rw [u32s_inj (xs := r) (ys := s) h2, Int.ofNat_inj.1 h1]
/-- What an own slice holds is one list. -/
theorem Own.inj {w : World} {B B' : Nat} {v : Value} {xs ys : List Nat} (h : Own w B v xs) (k : Own w B' v ys) : xs = ys := by
  rcases h.2 with ⟨rfl, h0⟩ | ⟨g, cap, cur, rfl, hg, hh, hle, hm, hs, ht⟩
  · rcases k.2 with ⟨_, k0⟩ | ⟨g', cap', cur', e, _⟩
    · rw [List.eq_nil_of_length_eq_zero h0, List.eq_nil_of_length_eq_zero k0]
    · cases e
  · rcases k.2 with ⟨e, k0⟩ | ⟨g', cap', cur', e, hg', hh', hle', hm', hs', ht'⟩
    · cases e
    · injection e with e1 e2 e3
      injection e1 with e1
      injection e1 with e1
      subst e1
      rw [hh] at hh'
      injection hh' with hc
      injection hc with hc
      subst hc
      rw [e2] at ht
      exact u32s_inj (ht.symm.trans ht')
open Classical in
/-- The natural that an own slice holds. -/
noncomputable def natOf (w : World) (B : Nat) (v : Value) : Nat := if h : ∃ x, Own w B v (lim x) then Classical.choose h else 0
theorem natOf_own {w : World} {B x : Nat} {v : Value} (h : Own w B v (lim x)) : natOf w B v = x := by
  have he : ∃ x, Own w B v (lim x) := ⟨x, h⟩
  unfold natOf
  rw [dif_pos he]
  exact lim_inj (Own.inj (Classical.choose_spec he) h)

theorem lim_len_mono {a b : Nat} (h : a ≤ b) : (lim a).length ≤ (lim b).length := lim_length_le.2 (Nat.lt_of_le_of_lt h (lim_length_le.1 (Nat.le_refl _)))
theorem lim_len_add {a b k : Nat} (h : (lim a).length ≤ k) (hb : b ≤ a) : (lim (a + b)).length ≤ k + 1 := by
  have := lim_length_le.1 h
  refine lim_length_le.2 ?_
  rw [Nat.pow_succ]
  generalize 4294967296 ^ k = P at *
  omega
theorem rt_bits {n m : Nat} (h : n < 2 ^ m) : rt n < 2 ^ ((m + 1) / 2) := by
  refine lt_of_sq (Nat.lt_of_le_of_lt (rt_le n) (Nat.lt_of_lt_of_le h ?_))
  rw [← Nat.pow_add]
  exact Nat.pow_le_pow_right (by decide) (by omega)
theorem above_len {n m k : Nat} (h : blen n ≤ m) (hk : 2 * k ≤ m) : blen ((rt (n / 2 ^ (2 * k)) + 1) * 2 ^ k) ≤ (m + 1) / 2 + 1 := by
  rw [blen_mul_pow (by omega)]
  have h1 : n / 2 ^ (2 * k) < 2 ^ (m - 2 * k) := by
    rw [Nat.div_lt_iff_lt_mul (Nat.two_pow_pos _), ← Nat.pow_add, show m - 2 * k + 2 * k = m from by omega]
    exact blen_le.1 h
  have h2 := rt_bits h1
  have h3 : blen (rt (n / 2 ^ (2 * k)) + 1) ≤ (m - 2 * k + 1) / 2 + 1 := by
    rw [blen_le, Nat.pow_succ]
    have := Nat.two_pow_pos ((m - 2 * k + 1) / 2)
    omega
  omega
theorem small_up {n m : Nat} (h : blen n ≤ m) : n < 1 * 2 ^ ((m + 1) / 2) * (1 * 2 ^ ((m + 1) / 2)) := by
  rw [Nat.one_mul, ← Nat.pow_add]
  exact Nat.lt_of_lt_of_le (blen_le.1 h) (Nat.pow_le_pow_right (by decide) (by omega))

def sRoot (xs : List Nat) : List Nat := if mayb xs then lim (rt (val xs)) else []
theorem sRoot_yes {xs : List Nat} (h : mayb xs = true) : sRoot xs = lim (rt (val xs)) := by unfold sRoot; rw [h]; rfl
theorem sRoot_no {xs : List Nat} (h : mayb xs = false) : sRoot xs = [] := by unfold sRoot; rw [h]; rfl
theorem sRoot_nil : sRoot [] = [] := by rw [sRoot_yes mayb_nil]; show lim (rt 0) = []; rw [rt_zero, lim_zero]
theorem sRoot_limbs (xs : List Nat) : Limbs (sRoot xs) := by
  unfold sRoot; split
  · exact lim_limbs _
  · exact limbs_nil
theorem Env.newR {w0 w w' : World} {l : List (Value × List Nat)} (h : Env w0 w l) {xs : List Nat} (hl : Limbs xs) {v : Value} (ho : Own w' w.heap.size v xs) (hb : Below w.heap.size w w') : Env w0 w' ((v, xs) :: l) := h.add hb (ho.arg hl)

/-- What aboveRoot hands back. -/
def ARPost (n : Nat) (w : World) (e : Ending) (w' : World) : Prop := ∃ R v, n < R * R ∧ (lim R).length ≤ 32769 ∧ e = .returned v ∧ Own w' w.heap.size v (lim R) ∧ Below w.heap.size w w'

theorem divmod_lim {w : World} {va vb : Value} {xs : List Nat} {x : Nat} (ha : Arg w va xs) (hb : Arg w vb (lim x)) (hx : mayb xs = true) (hl : (lim x).length ≤ 65536) (h0 : 0 < x) :
    Calls Tryd.prog 28 #[va, vb] w (DMPost (lim (val xs / x)) (lim (val xs % x)) 0 w) := by
  have hlp : 0 < (lim x).length := List.length_pos_iff.2 fun e => by have := lim_eq_nil.1 e; omega
  have hE : sDivE xs (lim x) = 0 := sDivE_ok (by rw [hx, mayb_lim hl]; rfl) hlp
  have := divmod_any va vb xs (lim x) w ha hb
  rwa [hE, sDivQ_ok hE, sDivR_ok hE, val_lim] at this

end Go.Proofs.YtileljokijmpaaaDoor

/- ref03: DivMod, Small. -/
import Derived.Outline
import Derived.Deep.RegionWith
import Derived.Deep.DeepCutAuto
import Derived.Test.YtidflhonhekmjaaRefT
namespace Go.Proofs.Ytidflhonhekmjaa
open Go.RowKit Go.Shelf

set_option linter.unusedVariables false

/-! ### mathematics: bit by bit -/
theorem dvd_fit {x s : Nat} (hx : x < 4294967296) (hs : s < 32) (h : 2 ^ (s + 1) ∣ x) : x + 2 ^ s < 4294967296 := by
  have hb : (2 : Nat) ^ (s + 1) ∣ 4294967296 := by
    rw [show (4294967296 : Nat) = 2 ^ 32 from rfl]
    exact Nat.pow_dvd_pow 2 (by omega)
  have h1 : 2 ^ s < 2 ^ (s + 1) := Nat.pow_lt_pow_right (by decide) (by omega)
  generalize 2 ^ (s + 1) = m at *
  generalize 2 ^ s = p at *
  obtain ⟨c, rfl⟩ := h
  obtain ⟨d, hd⟩ := hb
  rw [hd] at hx ⊢
  have h2 : c < d := Nat.lt_of_mul_lt_mul_left hx
  have h3 : m * (c + 1) ≤ m * d := Nat.mul_le_mul_left _ h2
  rw [Nat.mul_add, Nat.mul_one] at h3
  omega
theorem limb_at {X : List Nat} (h : Limbs X) {q : Nat} (hq : q < X.length) : X[q]?.getD 0 = val X / 4294967296 ^ q % 4294967296 := by
  have h1 := val_at (xs := X) (k := q) hq
  have h2 := val_lt (h.take q)
  rw [List.length_take, Nat.min_eq_left (by omega)] at h2
  have h3 := h.getD q
  rw [h1, Nat.add_mul_div_left _ _ (Nat.pow_pos (by decide)), Nat.div_eq_of_lt h2, Nat.zero_add, Nat.add_mul_mod_self_left, Nat.mod_eq_of_lt h3]
theorem pow_32 (q s : Nat) : (4294967296 : Nat) ^ q * 2 ^ s = 2 ^ (32 * q + s) := by
  rw [show (4294967296 : Nat) = 2 ^ 32 from rfl, ← Nat.pow_mul, ← Nat.pow_add]
theorem limb_dvd {X : List Nat} (h : Limbs X) {q s : Nat} (hs : s < 32) (hq : q < X.length) (hd : 2 ^ (32 * q + s + 1) ∣ val X) : 2 ^ (s + 1) ∣ X[q]?.getD 0 := by
  rw [limb_at h hq]
  have hb : (2 : Nat) ^ (s + 1) ∣ 4294967296 := by
    rw [show (4294967296 : Nat) = 2 ^ 32 from rfl]
    exact Nat.pow_dvd_pow 2 (by omega)
  obtain ⟨c, hc⟩ := hd
  rw [hc, show 32 * q + s + 1 = 32 * q + (s + 1) from rfl, ← pow_32, Nat.mul_assoc, Nat.mul_div_cancel_left _ (Nat.pow_pos (by decide))]
  exact (Nat.dvd_mod_iff hb).2 (Nat.dvd_mul_right _ _)
/-- What the loop keeps: places below j are still to be reckoned. -/
structure BI (A B j : Nat) (X : List Nat) (R : Nat) : Prop where
  xl : Limbs X
  sum : A = B * val X + R
  lt : R < B * 2 ^ j
  dvd : 2 ^ j ∣ val X
theorem BI.yes {A B q s R : Nat} {X : List Nat} (h : BI A B (32 * q + s + 1) X R) (hs : s < 32) (hq : q < X.length) (hR : B * 2 ^ (32 * q + s) ≤ R) :
    X[q]?.getD 0 + 2 ^ s < 4294967296 ∧ BI A B (32 * q + s) (X.set q (X[q]?.getD 0 + 2 ^ s)) (R - B * 2 ^ (32 * q + s)) := by
  have hd := limb_dvd h.xl hs hq h.dvd
  have hf := dvd_fit (h.xl.getD q) hs hd
  refine ⟨hf, ?_⟩
  have hv := val_set (x := X[q]?.getD 0 + 2 ^ s) hq
  rw [Nat.mul_add, pow_32] at hv
  have hv2 : val (X.set q (X[q]?.getD 0 + 2 ^ s)) = val X + 2 ^ (32 * q + s) := by omega
  have h1 := h.sum
  have h2 := h.lt
  have h3 := h.dvd
  rw [Nat.pow_succ] at h2 h3
  refine ⟨h.xl.set q hf, ?_, ?_, ?_⟩
  · rw [hv2, Nat.mul_add]; omega
  · have e : B * (2 ^ (32 * q + s) * 2) = B * 2 ^ (32 * q + s) + B * 2 ^ (32 * q + s) := by rw [← Nat.mul_assoc, Nat.mul_two]
    omega
  · rw [hv2]
    exact Nat.dvd_add (Nat.dvd_trans (Nat.dvd_mul_right _ _) h3) (Nat.dvd_refl _)
theorem BI.no {A B j R : Nat} {X : List Nat} (h : BI A B (j + 1) X R) (hR : ¬ B * 2 ^ j ≤ R) : BI A B j X R := by
  refine ⟨h.xl, h.sum, by omega, ?_⟩
  have h3 := h.dvd
  rw [Nat.pow_succ] at h3
  exact Nat.dvd_trans (Nat.dvd_mul_right _ _) h3
theorem BI.done {A B R : Nat} {X : List Nat} (h : BI A B 0 X R) (hB : 0 < B) : val X = A / B ∧ R = A % B := by
  have h2 := h.lt
  rw [Nat.pow_zero, Nat.mul_one] at h2
  have e := (Nat.div_mod_unique (a := A) (b := B) (c := R) (d := val X) hB).2 ⟨by have := h.sum; omega, h2⟩
  exact ⟨e.1.symm, e.2.symm⟩
theorem Own.onlyB {w w' : World} {B g : Nat} {v : Value} {xs : List Nat} (H : Own w B v xs) (k : Only g w w') (hg : g < B) : Own w' B v xs := by
  refine ⟨H.1, ?_⟩
  rcases H.2 with h | ⟨g', cap', cur, e, hg', hh, r⟩
  · exact .inl h
  · exact .inr ⟨g', cap', cur, e, hg', (k.block g' (by omega)).trans hh, r⟩

/-- Quotient, remainder and error, in new memory. -/
def RDPost (q r : List Nat) (E : Nat) (w : World) (e : Ending) (w' : World) : Prop :=
  (∃ v v', e = .returned (.tuple #[v, v', .int .i64 (E : Int)]) ∧ Own w' w.heap.size v q ∧ Own w' w.heap.size v' r) ∧ Below w.heap.size w w'
theorem RDPost.no {q r : List Nat} {E : Nat} {w : World} (hq : q = []) (hr : r = []) : RDPost q r E w (.returned (.tuple #[.slice none 0 0, .slice none 0 0, .int .i64 (E : Int)])) w :=
  ⟨⟨_, _, rfl, by rw [hq]; exact Own.nil _ _, by rw [hr]; exact Own.nil _ _⟩, Below.refl _ _⟩

section
variable {w0 w w' : World} {l : List (Value × List Nat)} {va vb : Value} {xs ys zs : List Nat}
theorem rlow_e3 (h : Env w0 w l) (ha : (va, xs) ∈ l) (n : Nat) (b : Bool) (hn : sLow xs = n) (hb : sLowOk xs = b) : Calls Try.prog 64 #[va] w fun e w' => e = .returned (.tuple #[.int .u64 (n : Nat), .bool b]) ∧ Env w0 w' l := by
  have := rlow_env h ha
  rwa [hn, hb] at this
theorem rsub_e3 (h : Env w0 w l) (ha : (va, xs) ∈ l) (hb : (vb, ys) ∈ l) (b : Bool) (hz : sSub xs ys = zs) (ho : sSubOk xs ys = b) : Calls Try.prog 67 #[va, vb] w fun e w' => (∃ v, e = .returned (.tuple #[v, .bool b]) ∧ Own w' w.heap.size v zs) ∧ Below w.heap.size w w' := by
  obtain ⟨A, cap, rfl, h1, h2, hr⟩ := h.get ha
  obtain ⟨A', cap', rfl, h1', h2', hr'⟩ := h.get hb
  subst hz ho
  exact rsub_any A A' cap cap' xs ys w hr hr' (Nat.le_trans h1 h2) (Nat.le_trans h1' h2')
end

set_option maxRecDepth 100000 in
set_option maxHeartbeats 4000000 in
theorem rdiv_err (A A' : Option Addr) (cap cap' : Nat) (xs ys : List Nat) (w : World) (ha : Arg w (.slice A xs.length cap) xs) (hb : Arg w (.slice A' ys.length cap') ys) (hE : sDivE xs ys ≠ 0) :
    Calls Try.prog 39 #[.slice A xs.length cap, .slice A' ys.length cap'] w (RDPost (sDivQ xs ys) (sDivR xs ys) (sDivE xs ys) w) := by
  have env := (env_start1 hb).add (Below.refl _ _) ha
  have HQ := Lib.hid (sDivQ_no hE)
  have HR := Lib.hid (sDivR_no hE)
  rcases hx : mayb xs with _ | _
  · have hE4 := sDivE_may (xs := xs) (ys := ys) (by rw [hx]; rfl)
    have c1 := rmay_e3 env (va := .slice A xs.length cap) (xs := xs) (by simp) false hx
    rw [hE4]
    clear hE hx hE4 ha hb env
    go_enter Try.func39, Try.ntmps39
    go_wp2_with fail
    with_reducible refine c1.mono ?_
    rintro e w' ⟨rfl, hw⟩
    obtain rfl := hw.symm
    clear c1
    go_wp2
    go_ret3
    exact RDPost.no HQ.out HR.out
  · have c1 := rmay_e3 env (va := .slice A xs.length cap) (xs := xs) (by simp) true hx
    rcases hy : mayb ys with _ | _
    · have hE4 := sDivE_may (xs := xs) (ys := ys) (by rw [hx, hy]; rfl)
      have c2 := rmay_e3 env (va := .slice A' ys.length cap') (xs := ys) (by simp) false hy
      rw [hE4]
      clear hE hx hy hE4 ha hb env
      go_enter Try.func39, Try.ntmps39
      go_wp2_with fail
      with_reducible refine c1.mono ?_
      rintro e w' ⟨rfl, hw⟩
      obtain rfl := hw.symm
      go_wp2_with fail
      with_reducible refine c2.mono ?_
      rintro e w' ⟨rfl, hw⟩
      obtain rfl := hw.symm
      clear c1 c2
      go_wp2
      go_ret3
      exact RDPost.no HQ.out HR.out
    · have h0 : ys.length = 0 := by
        rcases Nat.eq_zero_or_pos ys.length with h | h
        · exact h
        · exact absurd (sDivE_ok (by rw [hx, hy]; rfl) h) hE
      have hE4 := sDivE_zero (xs := xs) (ys := ys) (by rw [hx, hy]; rfl) h0
      have c2 := rmay_e3 env (va := .slice A' ys.length cap') (xs := ys) (by simp) true hy
      rw [hE4]
      rw [h0] at c2 ⊢
      clear hE hx hy hE4 ha hb env h0
      go_enter Try.func39, Try.ntmps39
      go_wp2_with fail
      with_reducible refine c1.mono ?_
      rintro e w' ⟨rfl, hw⟩
      obtain rfl := hw.symm
      go_wp2_with fail
      with_reducible refine c2.mono ?_
      rintro e w' ⟨rfl, hw⟩
      obtain rfl := hw.symm
      clear c1 c2
      go_wp2
      go_ret3
      exact RDPost.no HQ.out HR.out

theorem low_of {xs : List Nat} (hm : mayb xs = true) (hl : xs.length ≤ 2) (hx : Limbs xs) : sLow xs = val xs ∧ sLowOk xs = true ∧ val xs < 18446744073709551616 := by
  have ho : sLowOk xs = true := by unfold sLowOk; rw [hm, decide_eq_true hl]; rfl
  refine ⟨sLow_yes ho, ho, Nat.lt_of_lt_of_le (val_lt hx) ?_⟩
  exact Nat.le_trans (Nat.pow_le_pow_right (by decide) hl) (by decide : 4294967296 ^ 2 ≤ 18446744073709551616)

set_option maxRecDepth 100000 in
set_option maxHeartbeats 4000000 in
theorem rdiv_short (A A' : Option Addr) (cap cap' : Nat) (xs ys : List Nat) (w : World) (ha : Arg w (.slice A xs.length cap) xs) (hb : Arg w (.slice A' ys.length cap') ys) (hx : mayb xs = true) (hy : mayb ys = true) (h0 : 0 < ys.length) (l1 : xs.length ≤ 2) (l2 : ys.length ≤ 2) :
    Calls Try.prog 39 #[.slice A xs.length cap, .slice A' ys.length cap'] w (RDPost (lim (val xs / val ys)) (lim (val xs % val ys)) 0 w) := by
  have env := (env_start1 hb).add (Below.refl _ _) ha
  have c1 := rmay_e3 env (va := .slice A xs.length cap) (xs := xs) (by simp) true hx
  have c2 := rmay_e3 env (va := .slice A' ys.length cap') (xs := ys) (by simp) true hy
  obtain ⟨a1, a2, a3⟩ := low_of hx l1 ha.limbs
  obtain ⟨b1, b2, b3⟩ := low_of hy l2 hb.limbs
  have hvp := (mayb_canon hb.limbs hy).val_pos (fun e => by rw [e] at h0; simp at h0)
  have hz : (((ys.length : Nat) : Int) == 0) = false := beq_eq_false_iff_ne.2 (by omega)
  have A1 := Lib.hid a1
  have A2 := Lib.hid a2
  have B1 := Lib.hid b1
  have B2 := Lib.hid b2
  generalize val xs = x at *
  generalize val ys = y at *
  have q0 : ((y : Int) == 0) = false := beq_eq_false_iff_ne.2 (by omega)
  have q1 : (x : Int) / (y : Int) = ((x / y : Nat) : Int) := by simp
  have q2 : (x : Int) % (y : Int) = ((x % y : Nat) : Int) := by simp
  have q3 : x / y < 18446744073709551616 := Nat.lt_of_le_of_lt (Nat.div_le_self _ _) a3
  have q4 : x % y < 18446744073709551616 := Nat.lt_of_le_of_lt (Nat.mod_le _ _) a3
  generalize x / y = q at *
  generalize x % y = r at *
  have q5 : (x : Int).tdiv (y : Int) = (q : Int) := by rw [Int.tdiv_eq_ediv_of_nonneg (by omega)]; exact q1
  have q6 : (x : Int).tmod (y : Int) = (r : Int) := by rw [Int.tmod_eq_emod_of_nonneg (by omega)]; exact q2
  have q7 : IntKind.u64.wrap (q : Int) = (q : Int) := IntWalk.u64_in _ (by omega)
  have cq := Lib.hid fun W => rof_any q W q3
  have cr := Lib.hid fun W => rof_any r W q4
  clear ha hb hx hy a1 a2 b1 b2 h0
  go_enter Try.func39, Try.ntmps39
  go_wp2_with fail
  with_reducible refine c1.mono ?_
  rintro e w' ⟨rfl, hw⟩
  obtain rfl := hw.symm
  go_wp2_with fail
  with_reducible refine c2.mono ?_
  rintro e w' ⟨rfl, hw⟩
  obtain rfl := hw.symm
  clear c1 c2
  go_wp2_with fail
  refine (rlow_e3 env (va := .slice A xs.length cap) (xs := xs) (by simp) x true A1.out A2.out).mono ?_
  rintro e w1 ⟨rfl, env1⟩
  clear env
  go_wp2_with fail
  refine (rlow_e3 env1 (va := .slice A' ys.length cap') (xs := ys) (by simp) y true B1.out B2.out).mono ?_
  rintro e w2 ⟨rfl, env2⟩
  have HB := Lib.hid env2.1
  clear env1 env2
  go_upto_region 8 with fail
  go_region_with (first
    | (go_at_call 65; (with_reducible refine (cq.out _).mono ?_); rintro e w3 ⟨⟨v3, rfl, ho3⟩, hb3⟩)
    | (go_at_call 65; (with_reducible refine (cr.out _).mono ?_); rintro e w4 ⟨⟨v4, rfl, ho4⟩, hb4⟩))
  all_goals
    have HO3 := Lib.hid ((ho3.below hb4).more (B' := w.heap.size) HB.out.size)
    have HO4 := Lib.hid (ho4.more (B' := w.heap.size) (Nat.le_trans HB.out.size hb3.size))
    have HB4 := Lib.hid (HB.out.drew.trans ((hb3.mono HB.out.size).trans (hb4.mono (Nat.le_trans HB.out.size hb3.size))))
    clear ho3 ho4 hb3 hb4
    go_wp2
    go_ret3
    exact ⟨⟨_, _, rfl, HO3.out, HO4.out⟩, HB4.out⟩

/-! ### by bits -/
theorem sDivR_limbs3 (xs ys : List Nat) : Limbs (sDivR xs ys) := by
  unfold sDivR; split
  · exact lim_limbs _
  · exact limbs_nil
theorem bits_lt {x y : Nat} (h : blen x < blen y) : x < y := by
  rcases Nat.lt_or_ge x y with h1 | h1
  · exact h1
  · have := blen_le.1 (Nat.le_refl (blen x))
    have := blen_le.2 (Nat.lt_of_le_of_lt h1 this)
    omega
theorem bits_start {x y k : Nat} (hy : 0 < y) (h : blen x = blen y + k) : x < y * 2 ^ (k + 1) := by
  have h1 := blen_le.1 (Nat.le_refl (blen x))
  have h2 : 2 ^ (blen y - 1) ≤ y := by
    rcases Nat.lt_or_ge y (2 ^ (blen y - 1)) with h3 | h3
    · have := blen_le.2 h3
      have := blen_pos (n := y) (by omega)
      omega
    · exact h3
  have h3 := blen_pos (n := y) (by omega)
  have h4 : 2 ^ blen x ≤ y * 2 ^ (k + 1) := by
    rw [show blen x = (blen y - 1) + (k + 1) from by omega, Nat.pow_add]
    exact Nat.mul_le_mul_right _ h2
  omega

set_option maxRecDepth 100000 in
set_option maxHeartbeats 8000000 in
theorem rdiv_less_long (ad : Addr) (A' : Option Addr) (cap cap' : Nat) (xs ys : List Nat) (w : World) (ha : Arg w (.slice (some ad) xs.length cap) xs) (hb : Arg w (.slice A' ys.length cap') ys) (hx : mayb xs = true) (hy : mayb ys = true) (h0 : 0 < ys.length) (hk : blen (val xs) < blen (val ys)) (l1 : 2 < xs.length) :
    Calls Try.prog 39 #[.slice (some ad) xs.length cap, .slice A' ys.length cap'] w (RDPost (lim (val xs / val ys)) (lim (val xs % val ys)) 0 w) := by
  have env := (env_start1 hb).add (Below.refl _ _) ha
  have c1 := rmay_e3 env (va := .slice (some ad) xs.length cap) (xs := xs) (by simp) true hx
  have c2 := rmay_e3 env (va := .slice A' ys.length cap') (xs := ys) (by simp) true hy
  have hz : (((ys.length : Nat) : Int) == 0) = false := beq_eq_false_iff_ne.2 (by omega)
  have cA := rbits_e3 env (va := .slice (some ad) xs.length cap) (xs := xs) (by simp) _ rfl
  have cB := rbits_e3 env (va := .slice A' ys.length cap') (xs := ys) (by simp) _ rfl
  have bA := sBits_yes hx
  have bB := sBits_yes hy
  have bm1 := sBits_le' ha.limbs
  have bm2 := sBits_le' hb.limbs
  obtain ⟨i0, hti, hz0, hz1, hz2⟩ := info_parts info32
  have hlt := bits_lt hk
  rw [Nat.div_eq_of_lt hlt, Nat.mod_eq_of_lt hlt, lim_zero, lim_val (mayb_canon ha.limbs hx)]
  have hxm := (mayb_iff.1 hx).1
  have hneg : (sBits xs : Int) - (sBits ys : Int) < 0 := by omega
  have p1 : ¬ ((xs.length : Int) ≤ 2) := by omega
  have hown0 : (w.alloc (.cells #[] 26)).ownsRow w.heap.size 26 1 (.slice (some ⟨w.heap.size, 0, none⟩) 0 0) 0 [] := World.ownsRow_lit w #[] 0 (Nat.le_refl _) (by decide) rfl
  have hcell : ∀ j u, (u32s xs)[j]? = some u → (w.alloc (.cells #[] 26)).cell? (ad.add j) = some u := by
    intro j u hu
    have hj : j < xs.length := by
      have := (List.getElem?_eq_some_iff.1 hu).1
      simpa [u32s] using this
    obtain ⟨A2, cap2, e2, _, _, hr⟩ := ha
    injection e2 with e3 _ _
    obtain ⟨b, off, e, hlt2, hcl⟩ := hr.2 (by omega)
    obtain rfl : ad = ⟨b, off, none⟩ := by rw [← e3] at e; simpa using e
    rw [Addr.add_mid]
    rw [((Below.refl _ w).alloc (Nat.le_refl _) (.cells #[] 26)).cell (p := ⟨b, off + j, none⟩) hlt2, hcl j hj]
    rw [u32s, List.getElem?_map, List.getElem?_eq_getElem hj] at hu
    rw [List.getElem?_eq_getElem hj]
    exact hu
  have HC := Lib.hid hcell
  clear hcell
  have HXM := Lib.hid hxm
  generalize sBits xs = bx at *
  generalize sBits ys = by' at *
  clear hx hy hb env bA bB hlt hk ha h0
  go_enter Try.func39, Try.ntmps39
  go_wp2_with fail
  with_reducible refine c1.mono ?_
  rintro e w' ⟨rfl, hw⟩
  obtain rfl := hw.symm
  go_wp2_with fail
  with_reducible refine c2.mono ?_
  rintro e w' ⟨rfl, hw⟩
  obtain rfl := hw.symm
  clear c1 c2
  go_wp2_with fail
  with_reducible refine cA.mono ?_
  rintro e w' ⟨rfl, hw⟩
  obtain rfl := hw.symm
  go_wp2_with fail
  with_reducible refine cB.mono ?_
  rintro e w' ⟨rfl, hw⟩
  obtain rfl := hw.symm
  clear cA cB
  go_wp2_with (at_builtin; refine wpList_append_own _ rfl _ _ 23 rfl w.heap.size 26 i0 (.int .u32 0) 1 4 Try.underlying23 hti hz0 hz1 hz2 rfl (by decide) _ _ _ rfl hown0 ad xs.length cap (u32s xs) rfl (by simp [u32s]) HC.out (u32s_one xs) (by unfold maxLen at *; omega) (by have := HXM.out; omega) (by simp) ?_; intro v' w2 hown' hgrow hgone; clear hgone)
  have hg2 : (w.alloc (.cells #[] 26)).grownBy w2 (some w.heap.size) := hgrow
  have hb2 : Below w.heap.size w w2 := ((Below.refl _ w).alloc (Nat.le_refl _) _).grown hg2 (by simp) (fun k hk => by cases hk; exact Nat.le_refl _)
  have hO : Own w2 w.heap.size v' xs := by unfold Own; simpa using hown'
  have HO := Lib.hid hO
  clear hO hown' hgrow hg2 HC
  go_wp2
  go_ret3
  exact ⟨⟨_, _, rfl, Own.nil _ _, HO.out⟩, hb2⟩

set_option maxRecDepth 100000 in
set_option maxHeartbeats 8000000 in
theorem rdiv_less_some (ad : Addr) (A' : Option Addr) (cap cap' : Nat) (xs ys : List Nat) (w : World) (ha : Arg w (.slice (some ad) xs.length cap) xs) (hb : Arg w (.slice A' ys.length cap') ys) (hx : mayb xs = true) (hy : mayb ys = true) (h0 : 0 < ys.length) (hk : blen (val xs) < blen (val ys)) (l1 : xs.length ≤ 2) (l2 : 2 < ys.length) :
    Calls Try.prog 39 #[.slice (some ad) xs.length cap, .slice A' ys.length cap'] w (RDPost (lim (val xs / val ys)) (lim (val xs % val ys)) 0 w) := by
  have env := (env_start1 hb).add (Below.refl _ _) ha
  have c1 := rmay_e3 env (va := .slice (some ad) xs.length cap) (xs := xs) (by simp) true hx
  have c2 := rmay_e3 env (va := .slice A' ys.length cap') (xs := ys) (by simp) true hy
  have hz : (((ys.length : Nat) : Int) == 0) = false := beq_eq_false_iff_ne.2 (by omega)
  have cA := rbits_e3 env (va := .slice (some ad) xs.length cap) (xs := xs) (by simp) _ rfl
  have cB := rbits_e3 env (va := .slice A' ys.length cap') (xs := ys) (by simp) _ rfl
  have bA := sBits_yes hx
  have bB := sBits_yes hy
  have bm1 := sBits_le' ha.limbs
  have bm2 := sBits_le' hb.limbs
  obtain ⟨i0, hti, hz0, hz1, hz2⟩ := info_parts info32
  have hlt := bits_lt hk
  rw [Nat.div_eq_of_lt hlt, Nat.mod_eq_of_lt hlt, lim_zero, lim_val (mayb_canon ha.limbs hx)]
  have hxm := (mayb_iff.1 hx).1
  have hneg : (sBits xs : Int) - (sBits ys : Int) < 0 := by omega
  have p2 : ¬ ((ys.length : Int) ≤ 2) := by omega
  have hown0 : (w.alloc (.cells #[] 26)).ownsRow w.heap.size 26 1 (.slice (some ⟨w.heap.size, 0, none⟩) 0 0) 0 [] := World.ownsRow_lit w #[] 0 (Nat.le_refl _) (by decide) rfl
  have hcell : ∀ j u, (u32s xs)[j]? = some u → (w.alloc (.cells #[] 26)).cell? (ad.add j) = some u := by
    intro j u hu
    have hj : j < xs.length := by
      have := (List.getElem?_eq_some_iff.1 hu).1
      simpa [u32s] using this
    obtain ⟨A2, cap2, e2, _, _, hr⟩ := ha
    injection e2 with e3 _ _
    obtain ⟨b, off, e, hlt2, hcl⟩ := hr.2 (by omega)
    obtain rfl : ad = ⟨b, off, none⟩ := by rw [← e3] at e; simpa using e
    rw [Addr.add_mid]
    rw [((Below.refl _ w).alloc (Nat.le_refl _) (.cells #[] 26)).cell (p := ⟨b, off + j, none⟩) hlt2, hcl j hj]
    rw [u32s, List.getElem?_map, List.getElem?_eq_getElem hj] at hu
    rw [List.getElem?_eq_getElem hj]
    exact hu
  have HC := Lib.hid hcell
  clear hcell
  have HXM := Lib.hid hxm
  generalize sBits xs = bx at *
  generalize sBits ys = by' at *
  clear hx hy hb env bA bB hlt hk ha h0
  go_enter Try.func39, Try.ntmps39
  go_wp2_with fail
  with_reducible refine c1.mono ?_
  rintro e w' ⟨rfl, hw⟩
  obtain rfl := hw.symm
  go_wp2_with fail
  with_reducible refine c2.mono ?_
  rintro e w' ⟨rfl, hw⟩
  obtain rfl := hw.symm
  clear c1 c2
  go_wp2_with fail
  with_reducible refine cA.mono ?_
  rintro e w' ⟨rfl, hw⟩
  obtain rfl := hw.symm
  go_wp2_with fail
  with_reducible refine cB.mono ?_
  rintro e w' ⟨rfl, hw⟩
  obtain rfl := hw.symm
  clear cA cB
  go_wp2_with (at_builtin; refine wpList_append_own _ rfl _ _ 23 rfl w.heap.size 26 i0 (.int .u32 0) 1 4 Try.underlying23 hti hz0 hz1 hz2 rfl (by decide) _ _ _ rfl hown0 ad xs.length cap (u32s xs) rfl (by simp [u32s]) HC.out (u32s_one xs) (by unfold maxLen at *; omega) (by have := HXM.out; omega) (by simp) ?_; intro v' w2 hown' hgrow hgone; clear hgone)
  have hg2 : (w.alloc (.cells #[] 26)).grownBy w2 (some w.heap.size) := hgrow
  have hb2 : Below w.heap.size w w2 := ((Below.refl _ w).alloc (Nat.le_refl _) _).grown hg2 (by simp) (fun k hk => by cases hk; exact Nat.le_refl _)
  have hO : Own w2 w.heap.size v' xs := by unfold Own; simpa using hown'
  have HO := Lib.hid hO
  clear hO hown' hgrow hg2 HC
  go_wp2
  go_ret3
  exact ⟨⟨_, _, rfl, Own.nil _ _, HO.out⟩, hb2⟩

set_option maxRecDepth 100000 in
set_option maxHeartbeats 8000000 in
theorem rdiv_less_none (A' : Option Addr) (cap' : Nat) (ys : List Nat) (w : World) (ha : Arg w (.slice none 0 0) []) (hb : Arg w (.slice A' ys.length cap') ys) (hx : mayb [] = true) (hy : mayb ys = true) (h0 : 0 < ys.length) (hk : blen (val []) < blen (val ys)) (l2 : 2 < ys.length) :
    Calls Try.prog 39 #[.slice none 0 0, .slice A' ys.length cap'] w (RDPost (lim (val [] / val ys)) (lim (val [] % val ys)) 0 w) := by
  have env := (env_start1 hb).add (Below.refl _ _) ha
  have c1 := rmay_e3 env (va := .slice none 0 0) (xs := []) (by simp) true hx
  have c2 := rmay_e3 env (va := .slice A' ys.length cap') (xs := ys) (by simp) true hy
  have hz : (((ys.length : Nat) : Int) == 0) = false := beq_eq_false_iff_ne.2 (by omega)
  have cA := rbits_e3 env (va := .slice none 0 0) (xs := []) (by simp) _ rfl
  have cB := rbits_e3 env (va := .slice A' ys.length cap') (xs := ys) (by simp) _ rfl
  have bA := sBits_yes hx
  have bB := sBits_yes hy
  have bm1 := sBits_le' ha.limbs
  have bm2 := sBits_le' hb.limbs
  obtain ⟨i0, hti, hz0, hz1, hz2⟩ := info_parts info32
  have hlt := bits_lt hk
  rw [Nat.div_eq_of_lt hlt, Nat.mod_eq_of_lt hlt, lim_zero, lim_val (mayb_canon ha.limbs hx)]
  have hxm := (mayb_iff.1 hx).1
  have hneg : (sBits [] : Int) - (sBits ys : Int) < 0 := by omega
  have p2 : ¬ ((ys.length : Int) ≤ 2) := by omega
  have hown0 : (w.alloc (.cells #[] 26)).ownsRow w.heap.size 26 1 (.slice (some ⟨w.heap.size, 0, none⟩) 0 0) 0 [] := World.ownsRow_lit w #[] 0 (Nat.le_refl _) (by decide) rfl
  have HO := Lib.hid hown0
  have HB := Lib.hid ((Below.refl _ w).alloc (Nat.le_refl _) (.cells #[] 26))
  generalize sBits [] = bx at *
  generalize sBits ys = by' at *
  clear hx hy hb env bA bB hlt hk ha hxm h0
  go_enter Try.func39, Try.ntmps39
  go_wp2_with fail
  with_reducible refine c1.mono ?_
  rintro e w' ⟨rfl, hw⟩
  obtain rfl := hw.symm
  go_wp2_with fail
  with_reducible refine c2.mono ?_
  rintro e w' ⟨rfl, hw⟩
  obtain rfl := hw.symm
  clear c1 c2
  go_wp2_with fail
  with_reducible refine cA.mono ?_
  rintro e w' ⟨rfl, hw⟩
  obtain rfl := hw.symm
  go_wp2_with fail
  with_reducible refine cB.mono ?_
  rintro e w' ⟨rfl, hw⟩
  obtain rfl := hw.symm
  clear cA cB
  go_wp2_with (at_builtin; refine wpList_append_own_none rfl _ _ 23 rfl w.heap.size 26 i0 1 Try.underlying23 hti _ _ _ rfl hown0 rfl ?_; clear hown0)
  go_wp2
  go_ret3
  exact ⟨⟨_, _, rfl, Own.nil _ _, HO.out⟩, HB.out⟩

set_option maxRecDepth 100000 in
set_option maxHeartbeats 8000000 in
theorem rdiv_main (ad : Addr) (A' : Option Addr) (cap cap' : Nat) (xs ys : List Nat) (w : World) (ha : Arg w (.slice (some ad) xs.length cap) xs) (hb : Arg w (.slice A' ys.length cap') ys) (hx : mayb xs = true) (hy : mayb ys = true) (h0 : 0 < ys.length) (k : Nat) (hk : blen (val xs) = blen (val ys) + k) (l1 : 2 < xs.length) :
    Calls Try.prog 39 #[.slice (some ad) xs.length cap, .slice A' ys.length cap'] w (RDPost (lim (val xs / val ys)) (lim (val xs % val ys)) 0 w) := by
  have env := (env_start1 hb).add (Below.refl _ _) ha
  have c1 := rmay_e3 env (va := .slice (some ad) xs.length cap) (xs := xs) (by simp) true hx
  have c2 := rmay_e3 env (va := .slice A' ys.length cap') (xs := ys) (by simp) true hy
  have hz : (((ys.length : Nat) : Int) == 0) = false := beq_eq_false_iff_ne.2 (by omega)
  have cA := rbits_e3 env (va := .slice (some ad) xs.length cap) (xs := xs) (by simp) _ rfl
  have cB := rbits_e3 env (va := .slice A' ys.length cap') (xs := ys) (by simp) _ rfl
  have bA := sBits_yes hx
  have bB := sBits_yes hy
  have bm1 := sBits_le' ha.limbs
  have bm2 := sBits_le' hb.limbs
  obtain ⟨i0, hti, hz0, hz1, hz2⟩ := info_parts info32
  have hvp := (mayb_canon hb.limbs hy).val_pos (fun e => by rw [e] at h0; simp at h0)
  have hxm := (mayb_iff.1 hx).1
  have hlv := lim_val (mayb_canon ha.limbs hx)
  have hst := bits_start hvp hk
  have p1 : ¬ ((xs.length : Int) ≤ 2) := by omega
  obtain ⟨kq, hkq⟩ : ∃ kq, k / 32 = kq := ⟨_, rfl⟩
  have f0 : (sBits xs : Int) - (sBits ys : Int) = (k : Int) := by omega
  have f1 : (k : Int) / 32 = (kq : Int) := by omega
  have f2 : (k : Int).tdiv 32 = (kq : Int) := by rw [Int.tdiv_eq_ediv_of_nonneg (by omega)]; exact f1
  have hkb : k ≤ 2097152 := by omega
  have hkq2 : kq ≤ 65536 := by omega
  have HXM := Lib.hid hxm
  have HA := Lib.hid ha
  have HB0 := Lib.hid hb
  have HMY := Lib.hid hy
  obtain ⟨a, hA⟩ : ∃ a, val xs = a := ⟨_, rfl⟩
  obtain ⟨b, hBv⟩ : ∃ b, val ys = b := ⟨_, rfl⟩
  rw [hA] at hlv hst hk bA ⊢
  rw [hBv] at hvp hst hk bB ⊢
  have HV := Lib.hid hlv
  have HBV := Lib.hid hBv
  have HST := Lib.hid hst
  have HVP := Lib.hid hvp
  have hba : blen a ≤ 2097152 := by omega
  have HBK := Lib.hid hk
  have HBA := Lib.hid hba
  have HLA := Lib.hid (show (lim a).length ≤ 65536 by rw [hlv]; exact hxm)
  have HKQ := Lib.hid hkq
  generalize sBits xs = bx at *
  generalize sBits ys = by' at *
  clear hx hy hb env bA bB hk ha h0 hst hvp hA hBv hlv hba hkq hxm
  go_enter Try.func39, Try.ntmps39
  go_wp2_with fail
  with_reducible refine c1.mono ?_
  rintro e w' ⟨rfl, hw⟩
  obtain rfl := hw.symm
  go_wp2_with fail
  with_reducible refine c2.mono ?_
  rintro e w' ⟨rfl, hw⟩
  obtain rfl := hw.symm
  clear c1 c2
  go_wp2_with fail
  with_reducible refine cA.mono ?_
  rintro e w' ⟨rfl, hw⟩
  obtain rfl := hw.symm
  go_wp2_with fail
  with_reducible refine cB.mono ?_
  rintro e w' ⟨rfl, hw⟩
  obtain rfl := hw.symm
  clear cA cB
  have hcapx : xs.length ≤ cap ∧ cap ≤ maxLen := by obtain ⟨_, c2, e2, q1, q2, _⟩ := HA.out; injection e2 with _ _ e3; subst e3; exact ⟨q1, q2⟩
  have hcw : Hid (∀ W, Arg W (.slice (some ad) xs.length cap) xs → ∀ j u, (u32s xs)[j]? = some u → (W.alloc (.cells #[] 26)).cell? (ad.add j) = some u) := by
    intro W haW j u hu
    have hj : j < xs.length := by
      have := (List.getElem?_eq_some_iff.1 hu).1
      simpa [u32s] using this
    obtain ⟨A2, cap2, e2, _, _, hr⟩ := haW
    injection e2 with e3 _ _
    obtain ⟨b, off, e, hlt2, hcl⟩ := hr.2 (by omega)
    obtain rfl : ad = ⟨b, off, none⟩ := by rw [← e3] at e; simpa using e
    rw [Addr.add_mid]
    rw [((Below.refl _ W).alloc (Nat.le_refl _) (.cells #[] 26)).cell (p := ⟨b, off + j, none⟩) hlt2, hcl j hj]
    rw [u32s, List.getElem?_map, List.getElem?_eq_getElem hj] at hu
    rw [List.getElem?_eq_getElem hj]
    exact hu
  obtain ⟨hc, hm⟩ := hcapx
  go_wp2_with (first
    | (at_make; refine wpList_make_full _ rfl _ _ 23 rfl w.heap.size 26 i0 (.int .u32 0) 1 Try.underlying23 hti hz0 hz1 .i64 .i64 _ _ (kq + 1) rfl rfl (by omega) (by omega) (by rw [hz2]; omega) (by unfold maxLen; omega) (Nat.le_refl _) ?_; intro w1 hown1 hgrow1; have hB1 : Below w.heap.size w w1 := (Below.refl _ w).grown hgrow1 (Nat.le_refl _) (fun _ h => by cases h); have hQ1 := own_made hown1; have hgq := hQ1.lt_size; have hB1s := hB1.size; have HC := Lib.hid (hcw.out w1 (HA.out.below hB1)); have hown0 : (w1.alloc (.cells #[] 26)).ownsRow w1.heap.size 26 1 (.slice (some ⟨w1.heap.size, 0, none⟩) 0 0) 0 [] := World.ownsRow_lit w1 #[] 0 (Nat.le_refl _) (by decide) rfl; clear hown1 hgrow1)
    | (at_builtin; refine wpList_append_own _ rfl _ _ 23 rfl w1.heap.size 26 i0 (.int .u32 0) 1 4 Try.underlying23 hti hz0 hz1 hz2 rfl (by decide) _ _ _ rfl hown0 ad xs.length cap (u32s xs) rfl (by simp [u32s]) HC.out (u32s_one xs) (by unfold maxLen at *; omega) (by have := HXM.out; omega) (by simp) ?_; intro v' w2 hown' hgrow hgone; clear hgone))
  have hg2 : (w1.alloc (.cells #[] 26)).grownBy w2 (some w1.heap.size) := hgrow
  have hb2 : Below w1.heap.size w1 w2 := ((Below.refl _ w1).alloc (Nat.le_refl _) _).grown hg2 (by simp) (fun k hk => by cases hk; exact Nat.le_refl _)
  have hO : Own w2 w1.heap.size v' xs := by unfold Own; simpa using hown'
  rw [← HV.out] at hO
  have hQ2 := hQ1.below hb2
  have hR2 := hO.more (B' := w.heap.size + 1) (by omega)
  have hB2 := hB1.trans (hb2.mono (by omega))
  clear hO hown' hgrow hg2 HC hown0 hb2 hQ1 hB1 hcw
  have hBI : BI a b (k + 1) (List.replicate (kq + 1) 0) a := ⟨limbs_replicate _, by rw [val_replicate]; omega, HST.out, by rw [val_replicate]; exact Nat.dvd_zero _⟩
  go_loopw [11, 13] (fun i rv wr => ∃ (j : Nat) (X : List Nat) (R : Nat), j ≤ k + 1 ∧ i = .int .i64 ((j : Int) - 1) ∧ BI a b j X R ∧ X.length = kq + 1 ∧ Own wr w.heap.size (.slice (some ⟨w.heap.size, 0, none⟩) X.length (kq + 1)) X ∧ Own wr (w.heap.size + 1) rv (lim R) ∧ Below w.heap.size w wr ∧ w.heap.size + 1 ≤ wr.heap.size) (fun i _ _ => (intOf i + 1).toNat)
  case atStart => exact ⟨k + 1, _, a, Nat.le_refl _, by go_num, hBI, by simp, hQ2, hR2, hB2, hQ2.lt_size⟩
  case round =>
    clear hBI hQ2 hR2 hB2
    obtain ⟨j, X, R, hj, rfl, hI, hXl, hX, hR, hB, hsz⟩ := hrel
    have HX := Lib.hid hX
    have HR := Lib.hid hR
    have HBw := Lib.hid hB
    have HI := Lib.hid hI
    have HXl := Lib.hid hXl
    rcases Nat.eq_zero_or_pos j with hj0 | hj0
    · subst hj0
      obtain ⟨d1, d2⟩ := hI.done HVP.out
      have HD1 := Lib.hid d1
      have HD2 := Lib.hid d2
      clear hX hR hB hI d1 d2
      go_wp2_with fail
      go_loop [16] (fun i => ∃ n : Nat, n ≤ kq + 1 ∧ i = .int .i64 (n : Int) ∧ Hid (∀ j, n ≤ j → j < X.length → X[j]?.getD 0 = 0)) (fun i => (intOf i).toNat)
      case atStart => exact ⟨kq + 1, Nat.le_refl _, by go_num, fun j h1 h2 => by omega⟩
      case round =>
        obtain ⟨n, hn, rfl, hzz⟩ := hrel
        have fin : (n = 0 ∨ X[n - 1]?.getD 0 ≠ 0) → Own wr w.heap.size (.slice (some ⟨w.heap.size, 0, none⟩) n (kq + 1)) (lim (a / b)) := fun h => by
          have h1 := trim_spec HI.out.xl (k := n) (by rw [HXl.out]; exact hn) hzz.out h
          have h2 := HX.out.cut n (by rw [HXl.out]; exact hn)
          rw [HD1.out] at h1
          rw [h1]
          exact h2
        have FIN := Lib.hid fin
        clear fin hXl
        rcases Nat.eq_zero_or_pos n with hn0 | hn0
        · subst hn0
          go_wp2
          go_ret3
          exact ⟨⟨_, _, rfl, FIN.out (by first | exact .inl rfl | exact .inl trivial | simp), by rw [← HD2.out]; exact HR.out.more (by omega)⟩, HBw.out⟩
        · have hxc := HX.out.cellAt (j := n - 1) (by rw [HXl.out]; omega)
          have hxb := HI.out.xl.getD (n - 1)
          by_cases hx0 : X[n - 1]?.getD 0 = 0
          · have hzn := Lib.hid (show ∀ j, n - 1 ≤ j → j < X.length → X[j]?.getD 0 = 0 from fun j h1 h2 => by
              rcases Nat.lt_or_ge j n with h3 | h3
              · obtain rfl : j = n - 1 := by omega
                exact hx0
              · exact hzz.out j h3 h2)
            have hx' : (((X[n - 1]?.getD 0 : Nat) : Int) == 0) = true := by simp [hx0]
            generalize X[n - 1]?.getD 0 = x at *
            clear hx0 hzz
            go_wp2
            go_round
            case rel => exact ⟨n - 1, by omega, by go_num, hzn.out⟩
            case measure => simp [intOf]; omega
          · have HF := Lib.hid (FIN.out (.inr hx0))
            have hx' : (((X[n - 1]?.getD 0 : Nat) : Int) == 0) = false := by simp; omega
            generalize X[n - 1]?.getD 0 = x at *
            clear hx0 hzz FIN
            go_wp2
            go_ret3
            exact ⟨⟨_, _, rfl, HF.out, by rw [← HD2.out]; exact HR.out.more (by omega)⟩, HBw.out⟩
    · obtain ⟨m, rfl⟩ : ∃ m, j = m + 1 := ⟨j - 1, by omega⟩
      have hi1 : ((m + 1 : Nat) : Int) - 1 = (m : Int) := by omega
      obtain ⟨q, hq⟩ : ∃ q, m / 32 = q := ⟨_, rfl⟩
      obtain ⟨s, hs⟩ : ∃ s, m % 32 = s := ⟨_, rfl⟩
      have hms : m = 32 * q + s := by omega
      have hs32 : s < 32 := by omega
      have hqX : q < kq + 1 := by have := HKQ.out; omega
      have g1 : (m : Int) / 32 = (q : Int) := by omega
      have g2 : (m : Int).tdiv 32 = (q : Int) := by rw [Int.tdiv_eq_ediv_of_nonneg (by omega)]; exact g1
      have g3 : (m : Int).tmod 32 = (s : Int) := by rw [Int.tmod_eq_emod_of_nonneg (by omega)]; omega
      have g4 : (m : Int) % 32 = (s : Int) := by omega
      have hRA : R ≤ a := by have := hI.sum; omega
      have lR : (lim R).length ≤ 65536 := Nat.le_trans (lim_len_mono hRA) HLA.out
      have hbB : blen (b * 2 ^ m) ≤ 2097152 := by
        rw [blen_mul_pow (by have := HVP.out; omega)]
        have h1 := HBK.out
        have h2 := HBA.out
        omega
      have lB : (lim (b * 2 ^ m)).length ≤ 65536 := lim_len_blen.2 (by omega)
      have HSH := Lib.hid (show sShl ys (m : Int) = lim (b * 2 ^ m) by rw [sShl_yes HMY.out, HBV.out, clip_of lB])
      have e0 : Env wr wr [(u13, lim R), (.slice A' ys.length cap', ys)] := ((env_start wr).add (Below.refl _ _) (HB0.out.below hB)).add (Below.refl _ _) (hR.arg (lim_limbs _))
      have hsz2 := hsz
      clear hX hR hB hXl
      by_cases hge : b * 2 ^ m ≤ R
      · have ho : sSubOk (lim R) (lim (b * 2 ^ m)) = true := sSub_ok (mayb_lim lR) (mayb_lim lB) (by rw [val_lim, val_lim]; exact hge)
        have HSO := Lib.hid ho
        have HSS := Lib.hid (show sSub (lim R) (lim (b * 2 ^ m)) = lim (R - b * 2 ^ m) by rw [sSub_yes ho, val_lim, val_lim])
        have hI2 : BI a b (32 * q + s + 1) X R := by rw [← hms]; exact hI
        obtain ⟨hfit, hnext⟩ := hI2.yes hs32 (by rw [HXl.out]; exact hqX) (by rw [← hms]; exact hge)
        rw [← hms] at hnext
        have HN := Lib.hid hnext
        have hxb := hI.xl.getD q
        obtain ⟨p, hp⟩ : ∃ p, 2 ^ s = p := ⟨_, rfl⟩
        have hp31 := pow31 hs32
        have s0 : (0 : Int) ≤ s := by omega
        have t1 : IntKind.u32.wrap ((1 : Int) * 2 ^ s) = (p : Int) := by
          rw [show (1 : Int) * 2 ^ s = ((2 ^ s : Nat) : Int) from by simp, hp]
          exact IntWalk.u32_in _ (by omega)
        have t2 : IntKind.u32.wrap ((2 : Int) ^ s) = (p : Int) := by rw [← t1, Int.one_mul]
        rw [hp] at hfit HN hp31
        have hpb : p ≤ 2147483648 := hp31
        clear hI hI2 ho hge hnext hp hp31 hbB lB lR hRA hq hs hms
        rw [hi1]
        go_wp2_with fail
        refine (rshl_e3 e0 (va := .slice A' ys.length cap') (xs := ys) (by simp) (m : Int) (by omega) HSH.out).mono ?_
        rintro e w3 ⟨r3, rfl, e3⟩
        clear e0
        go_wp2_with fail
        refine (rsub_e3 e3 (va := u13) (xs := lim R) (vb := r3) (ys := lim (b * 2 ^ m)) (by simp) (by simp) true HSS.out HSO.out).mono ?_
        rintro e w4 ⟨⟨v4, rfl, ho4⟩, hb4⟩
        have hbw := e3.1.trans (hb4.mono e3.1.size)
        have hX4 := HX.out.below hbw
        have hR4 := ho4.more (B' := w.heap.size + 1) (by have := e3.1.size; omega)
        have hxc := hX4.cellAt (j := q) (by rw [HXl.out]; exact hqX)
        have hxf := World.ownsRow.frozenAt hX4 q
        generalize hxx : X[q]?.getD 0 = x at *
        have hput := hX4.put (j := q) (v := x + p)
        have hOn := (Only.refl w.heap.size w4).setCell q (lv (x + p))
        have HP := Lib.hid hput
        have HR4 := Lib.hid (hR4.onlyB hOn (by omega))
        have HB4 := Lib.hid ((HBw.out.trans (hbw.mono HBw.out.size)).setCell (p := ⟨w.heap.size, q, none⟩) (Nat.le_refl _) (lv (x + p)))
        have HSZ := Lib.hid (show w.heap.size + 1 ≤ (w4.setCell ⟨w.heap.size, q, none⟩ (lv (x + p))).heap.size by have := hbw.size; simp; omega)
        have hxp : ((x : Int) + (p : Int)) = ((x + p : Nat) : Int) := by omega
        have HXP := Lib.hid hxp
        clear e3 ho4 hb4 hbw hX4 hR4 hput hOn hxx hxp
        go_wp2
        go_roundw
        case rel => exact ⟨m, X.set q (x + p), R - b * 2 ^ m, by omega, by go_num, HN.out, by rw [List.length_set]; exact HXl.out, by have := HP.out; unfold lv at this; first | exact this | (rw [HXP.out]; exact this), by have := HR4.out; unfold lv at this; first | exact this | (rw [HXP.out]; exact this), by have := HB4.out; unfold lv at this; first | exact this | (rw [HXP.out]; exact this), by have := HSZ.out; unfold lv at this; first | exact this | (rw [HXP.out]; exact this)⟩
        case measure => simp [intOf]
      · have ho : sSubOk (lim R) (lim (b * 2 ^ m)) = false := by
          unfold sSubOk
          rw [val_lim, val_lim, decide_eq_false hge, Bool.and_false, Bool.and_false]
        have HSO := Lib.hid ho
        have HSS := Lib.hid (sSub_no ho)
        have HN := Lib.hid (hI.no hge)
        clear hI ho hge hbB lB lR hRA hq hs hms
        rw [hi1]
        go_wp2_with fail
        refine (rshl_e3 e0 (va := .slice A' ys.length cap') (xs := ys) (by simp) (m : Int) (by omega) HSH.out).mono ?_
        rintro e w3 ⟨r3, rfl, e3⟩
        clear e0
        go_wp2_with fail
        refine (rsub_e3 e3 (va := u13) (xs := lim R) (vb := r3) (ys := lim (b * 2 ^ m)) (by simp) (by simp) false HSS.out HSO.out).mono ?_
        rintro e w4 ⟨⟨v4, rfl, ho4⟩, hb4⟩
        have hbw := e3.1.trans (hb4.mono e3.1.size)
        have HX4 := Lib.hid (HX.out.below hbw)
        have HR4 := Lib.hid (HR.out.below hbw)
        have HB4 := Lib.hid (HBw.out.trans (hbw.mono HBw.out.size))
        have HSZ := Lib.hid (show w.heap.size + 1 ≤ w4.heap.size by have := hbw.size; omega)
        clear e3 ho4 hb4 hbw
        go_wp2_with fail
        go_roundw
        case rel => exact ⟨m, X, R, by omega, by go_num, HN.out, HXl.out, HX4.out, HR4.out, HB4.out, HSZ.out⟩
        case measure => simp [intOf]

theorem blen_ge {xs : List Nat} (h : Canon xs) (hl : 2 < xs.length) : 64 < blen (val xs) := by
  have h1 := canon_val_ge h (fun e => by rw [e] at hl; simp at hl)
  rcases Nat.lt_or_ge 64 (blen (val xs)) with h2 | h2
  · exact h2
  · have h3 := blen_le.1 h2
    have h4 : (4294967296 : Nat) ^ 2 ≤ 4294967296 ^ (xs.length - 1) := Nat.pow_le_pow_right (by decide) (by omega)
    have h5 : (4294967296 : Nat) ^ 2 = 2 ^ 64 := by decide
    omega
theorem blen_small {xs : List Nat} (h : Limbs xs) (hl : xs.length ≤ 2) : blen (val xs) ≤ 64 := by
  refine blen_le.2 (Nat.lt_of_lt_of_le (val_lt h) ?_)
  exact Nat.le_trans (Nat.pow_le_pow_right (by decide) hl) (by decide : 4294967296 ^ 2 ≤ 2 ^ 64)
theorem arg_some {w : World} {A : Option Addr} {cap n : Nat} {xs : List Nat} (h : Arg w (.slice A n cap) xs) (h0 : 0 < xs.length) : ∃ ad, A = some ad := by
  obtain ⟨A', cap', e, _, _, hr⟩ := h
  injection e with e1 _ _
  obtain ⟨b, o, e2, _⟩ := hr.2 h0
  exact ⟨_, e1.trans e2⟩
theorem rdivmod_any (va vb : Value) (xs ys : List Nat) (w : World) (ha : ArgZ w va xs) (hb : Arg w vb ys) : Calls Try.prog 39 #[va, vb] w (RDPost (sDivQ xs ys) (sDivR xs ys) (sDivE xs ys) w) := by
  obtain ⟨ha, hz⟩ := ha
  obtain ⟨A, cap, rfl, k1, k2, hr⟩ := id ha
  obtain ⟨A', cap', rfl, k1', k2', hr'⟩ := id hb
  by_cases hE : sDivE xs ys = 0
  · have hxy : (mayb xs && mayb ys) = true := by
      rcases h : (mayb xs && mayb ys) with _ | _
      · rw [sDivE_may h] at hE; cases hE
      · rfl
    have hx : mayb xs = true := by rw [Bool.and_eq_true] at hxy; exact hxy.1
    have hy : mayb ys = true := by rw [Bool.and_eq_true] at hxy; exact hxy.2
    have h0 : 0 < ys.length := by
      rcases Nat.eq_zero_or_pos ys.length with h | h
      · rw [sDivE_zero hxy h] at hE; cases hE
      · exact h
    rw [sDivQ_ok hE, sDivR_ok hE, hE]
    by_cases hs : xs.length ≤ 2 ∧ ys.length ≤ 2
    · exact rdiv_short A A' cap cap' xs ys w ha hb hx hy h0 hs.1 hs.2
    · by_cases hk : blen (val xs) < blen (val ys)
      · rcases Nat.lt_or_ge 2 xs.length with l1 | l1
        · obtain ⟨ad, rfl⟩ := arg_some ha (by omega)
          exact rdiv_less_long ad A' cap cap' xs ys w ha hb hx hy h0 hk l1
        · have l2 : 2 < ys.length := by omega
          rcases A with _ | ad
          · have hx0 : xs.length = 0 := by
              rcases Nat.eq_zero_or_pos xs.length with h | h
              · exact h
              · obtain ⟨ad, e⟩ := arg_some ha h; cases e
            obtain rfl := hz _ _ rfl
            obtain rfl : xs = [] := List.eq_nil_of_length_eq_zero hx0
            exact rdiv_less_none A' cap' ys w ha hb hx hy h0 hk l2
          · exact rdiv_less_some ad A' cap cap' xs ys w ha hb hx hy h0 hk l1 l2
      · have l1 : 2 < xs.length := by
          rcases Nat.lt_or_ge 2 xs.length with l1 | l1
          · exact l1
          · have h1 := blen_small hr.limbs l1
            have h2 := blen_ge (mayb_canon hr'.limbs hy) (by omega)
            omega
        obtain ⟨ad, rfl⟩ := arg_some ha (by omega)
        exact rdiv_main ad A' cap cap' xs ys w ha hb hx hy h0 (blen (val xs) - blen (val ys)) (by omega) l1
  · exact rdiv_err A A' cap cap' xs ys w ha hb hE

/-! ### Small -/
theorem rsm_E (xs : List Nat) {m : Nat} (hm : m < 4294967296) : sDivE xs (lim m) = sSmE xs m := by
  have l1 : (lim m).length ≤ 1 := lim_length_le.2 (by omega)
  unfold sDivE sSmE
  rw [mayb_lim (by omega), Bool.and_true]
  by_cases h : m = 0
  · subst h; rw [lim_zero]; rfl
  · rw [if_neg (fun e => h (lim_eq_nil.1 (List.eq_nil_of_length_eq_zero e))), if_neg h]
theorem rsm_Q (xs : List Nat) {m : Nat} (hm : m < 4294967296) : sDivQ xs (lim m) = sSmQ xs m := by
  unfold sDivQ sSmQ
  rw [rsm_E xs hm, val_lim]
theorem rsm_R (xs : List Nat) {m : Nat} (hm : m < 4294967296) : sLow (sDivR xs (lim m)) = sSmR xs m ∧ sLowOk (sDivR xs (lim m)) = true ∧ sSmR xs m < 4294967296 := by
  unfold sDivR sSmR
  rw [rsm_E xs hm, val_lim]
  by_cases h : sSmE xs m = 0
  · rw [if_pos h, if_pos h]
    have h0 : 0 < m := by
      rcases Nat.eq_zero_or_pos m with h1 | h1
      · subst h1; unfold sSmE at h; split at h <;> cases h
      · exact h1
    have hlt : val xs % m < 4294967296 := Nat.lt_trans (Nat.mod_lt _ h0) hm
    have l1 : (lim (val xs % m)).length ≤ 1 := lim_length_le.2 (by omega)
    obtain ⟨e1, e2, _⟩ := low_of (xs := lim (val xs % m)) (mayb_lim (by omega)) (by omega) (lim_limbs _)
    exact ⟨by rw [e1, val_lim], e2, hlt⟩
  · rw [if_neg h, if_neg h]
    exact ⟨rfl, by decide, by decide⟩

set_option maxRecDepth 100000 in
set_option maxHeartbeats 4000000 in
theorem rsmall_any (va : Value) (xs : List Nat) (m : Nat) (w : World) (ha : ArgZ w va xs) (hm : m < 4294967296) : Calls Try.prog 40 #[va, .int .u32 (m : Int)] w (SmPost (sSmQ xs m) (sSmR xs m) (sSmE xs m) w) := by
  obtain ⟨r1, r2, r3⟩ := rsm_R xs hm
  have R1 := Lib.hid r1
  have R2 := Lib.hid r2
  have HQ := Lib.hid (rsm_Q xs hm)
  have HE := Lib.hid (rsm_E xs hm)
  have HAZ := Lib.hid ha
  generalize hrr : sSmR xs m = rr at *
  clear r1 r2 ha hrr
  have env := env_start w
  go_enter Try.func40, Try.ntmps40
  go_wp2_with fail
  refine (rof_any m w (by omega)).mono ?_
  rintro e w1 ⟨⟨v1, rfl, ho1⟩, hb1⟩
  have c2 := rdivmod_any va v1 xs (lim m) w1 ⟨HAZ.out.1.below hb1, HAZ.out.2⟩ (ho1.arg (lim_limbs _))
  rw [HQ.out, HE.out] at c2
  have HB1 := Lib.hid hb1
  clear env ho1 hb1
  go_wp2_with fail
  with_reducible refine c2.mono ?_
  rintro e w2 ⟨⟨v, v', rfl, ho, ho'⟩, hb2⟩
  have e2 : Env w2 w2 [(v', sDivR xs (lim m))] := env_start1 (ho'.arg (sDivR_limbs3 _ _))
  have HO := Lib.hid (ho.more (B' := w.heap.size) HB1.out.size)
  have HB2 := Lib.hid (HB1.out.trans (hb2.mono HB1.out.size))
  clear c2 ho ho' hb2
  go_wp2_with fail
  refine (rlow_e3 e2 (va := v') (xs := sDivR xs (lim m)) (by simp) rr true R1.out R2.out).mono ?_
  rintro e w3 ⟨rfl, e3⟩
  have HOF := Lib.hid (HO.out.below e3.1)
  have HBF := Lib.hid (HB2.out.trans (e3.1.mono HB2.out.size))
  clear e2 e3
  go_wp2
  go_ret3
  exact ⟨⟨_, rfl, HOF.out⟩, HBF.out⟩

end Go.Proofs.Ytidflhonhekmjaa

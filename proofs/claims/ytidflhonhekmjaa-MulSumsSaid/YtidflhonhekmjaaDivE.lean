/- Contracts: aboveRoot, Root. -/
import Derived.Test.YtidflhonhekmjaaDivD
namespace Go.Proofs.Ytidflhonhekmjaa
open Go.RowKit Go.Shelf

set_option linter.unusedVariables false

theorem u32s_inj : ∀ {xs ys : List Nat}, u32s xs = u32s ys → xs = ys
  | [], [], _ => rfl
  | [], _ :: _, h => by simp [u32s] at h
  | _ :: _, [], h => by simp [u32s] at h
  | x :: r, y :: s, h => by
    simp only [u32s, List.map_cons, List.cons.injEq] at h
    obtain ⟨h1, h2⟩ := h
    unfold lv at h1
    injection h1 with _ h1
    rw [u32s_inj (xs := r) (ys := s) h2, Int.ofNat_inj.1 h1]
/-- What an own slice holds is one list. -/
theorem Own.inj {w : World} {B B' : Nat} {v : Value} {xs ys : List Nat} (h : Own w B v xs) (k : Own w B' v ys) : xs = ys := by
  rcases h.2 with ⟨rfl, h0⟩ | ⟨g, cap, cur, rfl, hg, hh, hle, hm, hs, ht⟩
  · rcases k.2 with ⟨_, k0⟩ | ⟨g', cap', cur', e, _⟩
    · rw [List.eq_nil_of_length_eq_zero h0, List.eq_nil_of_length_eq_zero k0]
    · cases e
  · rcases k.2 with ⟨e, k0⟩ | ⟨g', cap', cur', e, hg', hh', hle', hm', hs', ht'⟩
    · cases e
    · injection e with e1 e2 e3
      injection e1 with e1
      injection e1 with e1
      subst e1
      rw [hh] at hh'
      injection hh' with hc
      injection hc with hc
      subst hc
      rw [e2] at ht
      exact u32s_inj (ht.symm.trans ht')
open Classical in
/-- The natural that an own slice holds. -/
noncomputable def natOf (w : World) (B : Nat) (v : Value) : Nat := if h : ∃ x, Own w B v (lim x) then Classical.choose h else 0
theorem natOf_own {w : World} {B x : Nat} {v : Value} (h : Own w B v (lim x)) : natOf w B v = x := by
  have he : ∃ x, Own w B v (lim x) := ⟨x, h⟩
  unfold natOf
  rw [dif_pos he]
  exact lim_inj (Own.inj (Classical.choose_spec he) h)

theorem lim_len_mono {a b : Nat} (h : a ≤ b) : (lim a).length ≤ (lim b).length := lim_length_le.2 (Nat.lt_of_le_of_lt h (lim_length_le.1 (Nat.le_refl _)))
theorem lim_len_add {a b k : Nat} (h : (lim a).length ≤ k) (hb : b ≤ a) : (lim (a + b)).length ≤ k + 1 := by
  have := lim_length_le.1 h
  refine lim_length_le.2 ?_
  rw [Nat.pow_succ]
  generalize 4294967296 ^ k = P at *
  omega
theorem rt_bits {n m : Nat} (h : n < 2 ^ m) : rt n < 2 ^ ((m + 1) / 2) := by
  refine lt_of_sq (Nat.lt_of_le_of_lt (rt_le n) (Nat.lt_of_lt_of_le h ?_))
  rw [← Nat.pow_add]
  exact Nat.pow_le_pow_right (by decide) (by omega)
theorem above_len {n m k : Nat} (h : blen n ≤ m) (hk : 2 * k ≤ m) : blen ((rt (n / 2 ^ (2 * k)) + 1) * 2 ^ k) ≤ (m + 1) / 2 + 1 := by
  rw [blen_mul_pow (by omega)]
  have h1 : n / 2 ^ (2 * k) < 2 ^ (m - 2 * k) := by
    rw [Nat.div_lt_iff_lt_mul (Nat.two_pow_pos _), ← Nat.pow_add, show m - 2 * k + 2 * k = m from by omega]
    exact blen_le.1 h
  have h2 := rt_bits h1
  have h3 : blen (rt (n / 2 ^ (2 * k)) + 1) ≤ (m - 2 * k + 1) / 2 + 1 := by
    rw [blen_le, Nat.pow_succ]
    have := Nat.two_pow_pos ((m - 2 * k + 1) / 2)
    omega
  omega
theorem small_up {n m : Nat} (h : blen n ≤ m) : n < 1 * 2 ^ ((m + 1) / 2) * (1 * 2 ^ ((m + 1) / 2)) := by
  rw [Nat.one_mul, ← Nat.pow_add]
  exact Nat.lt_of_lt_of_le (blen_le.1 h) (Nat.pow_le_pow_right (by decide) (by omega))

def sRoot (xs : List Nat) : List Nat := if mayb xs then lim (rt (val xs)) else []
theorem sRoot_yes {xs : List Nat} (h : mayb xs = true) : sRoot xs = lim (rt (val xs)) := by unfold sRoot; rw [h]; rfl
theorem sRoot_no {xs : List Nat} (h : mayb xs = false) : sRoot xs = [] := by unfold sRoot; rw [h]; rfl
theorem sRoot_nil : sRoot [] = [] := by rw [sRoot_yes mayb_nil]; show lim (rt 0) = []; rw [rt_zero, lim_zero]
theorem sRoot_limbs (xs : List Nat) : Limbs (sRoot xs) := by
  unfold sRoot; split
  · exact lim_limbs _
  · exact limbs_nil
/-- Root, for naturals up to n. -/
def RootAt (n : Nat) : Prop := ∀ (va : Value) (xs : List Nat) (w : World), Arg w va xs → val xs ≤ n → Calls Try.prog 37 #[va] w (NewL w (sRoot xs))
theorem Env.newR {w0 w w' : World} {l : List (Value × List Nat)} (h : Env w0 w l) {xs : List Nat} (hl : Limbs xs) {v : Value} (ho : Own w' w.heap.size v xs) (hb : Below w.heap.size w w') : Env w0 w' ((v, xs) :: l) := h.add hb (ho.arg hl)

/-- What aboveRoot hands back. -/
def ARPost (n : Nat) (w : World) (e : Ending) (w' : World) : Prop := ∃ R v, n < R * R ∧ (lim R).length ≤ 32769 ∧ e = .returned v ∧ Own w' w.heap.size v (lim R) ∧ Below w.heap.size w w'

set_option maxRecDepth 100000 in
set_option maxHeartbeats 4000000 in
theorem aboveRoot_any {n : Nat} (IH : RootAt n) (va : Value) (xs : List Nat) (w : World) (ha : Arg w va xs) (hx : mayb xs = true) (h0 : 0 < xs.length) (hn : val xs ≤ n + 1) : Calls Try.prog 63 #[va] w (ARPost (val xs) w) := by
  have env := env_start1 ha
  have hv := (mayb_canon ha.limbs hx).val_pos (fun e => by rw [e] at h0; simp at h0)
  have hbl := sBits_yes hx
  have hb2 := sBits_le' ha.limbs
  have cB := bits_is env (va := va) (xs := xs) (by simp) rfl
  generalize hbb : sBits xs = bl at *
  have HBB := Lib.hid hbb
  obtain ⟨b4, hb4⟩ : ∃ b4, bl / 4 = b4 := ⟨_, rfl⟩
  have q4 : (bl : Int) / 4 = (b4 : Int) := by omega
  by_cases hk : bl ≤ 11
  · have q5 : b4 ≤ 2 := by omega
    have HUP := Lib.hid (small_up (n := val xs) (m := bl) (by omega))
    have hlen : (lim (1 * 2 ^ ((bl + 1) / 2))).length ≤ 1 := by
      rw [lim_len_blen, Nat.one_mul, blen_le]
      exact Nat.pow_lt_pow_right (by decide) (by omega)
    have HLEN := Lib.hid hlen
    have hl1 : lim 1 = [1] := lim_eq (by decide) (Limbs.one (by decide)) (by decide)
    have hsh : sShl [1] (((bl + 1) / 2 : Nat) : Int) = lim (1 * 2 ^ ((bl + 1) / 2)) := by
      rw [sShl_yes (by decide), show val [1] = 1 from by decide, clip_of (by omega)]
    have HS := Lib.hid hsh
    have HL1 := Lib.hid hl1
    generalize hee : (bl + 1) / 2 = ee at *
    have hee2 : ee ≤ 6 := by omega
    have q6 : ((bl : Int) + 1) / 2 = (ee : Int) := by omega
    clear hb4 hv hbl hlen hsh hl1 hee ha hx h0 hbb
    go_enter Try.func63, Try.ntmps63
    go_wp2_with fail
    with_reducible refine cB.mono ?_
    rintro e w1 ⟨rfl, env1⟩
    clear env cB
    go_wp2_with fail
    refine (of_is env1 1 (by decide) HL1.out).mono ?_
    rintro e w2 ⟨r2, rfl, env2⟩
    clear env1
    go_wp2_with fail
    refine (bits_is env2 (va := va) (xs := xs) (by simp) HBB.out).mono ?_
    rintro e w3 ⟨rfl, env3⟩
    clear env2
    obtain ⟨A2, cap2, rfl, k1, k2, hrd⟩ := env3.get (v := r2) (xs := [1]) (by simp)
    have cS := shl_any A2 cap2 [1] (ee : Int) w3 hrd (by omega)
    rw [HS.out, show ([1] : List Nat).length = 1 from rfl] at cS
    have HE := Lib.hid env3.1
    clear env3 hrd k1 k2
    go_wp2_with fail
    with_reducible refine cS.mono ?_
    rintro e w4 ⟨⟨v4, rfl, ho4⟩, hb4⟩
    have HO := Lib.hid (ho4.more HE.out.size)
    have HB := Lib.hid (HE.out.trans (hb4.mono HE.out.size))
    clear cS ho4 hb4
    go_wp2
    go_ret
    exact ⟨_, _, HUP.out, by have := HLEN.out; omega, rfl, HO.out, HB.out⟩
  · obtain ⟨k, hk1⟩ : ∃ k, b4 = k + 2 := ⟨b4 - 2, by omega⟩
    have hk0 : 0 < k := by omega
    have q5 : (b4 : Int) - 2 = (k : Int) := by omega
    have h4k : 4 * k + 8 ≤ bl := by omega
    obtain ⟨k2, hk2⟩ : ∃ k2, k2 = 2 * k := ⟨_, rfl⟩
    have q6 : (2 : Int) * (k : Int) = (k2 : Int) := by omega
    have hk2b : k2 ≤ 2097152 := by omega
    have HUP := Lib.hid (above_up (n := val xs) (k := k))
    have hal := above_len (n := val xs) (m := bl) (k := k) (by omega) (by omega)
    rw [← hk2] at hal HUP
    have hlen : (lim ((rt (val xs / 2 ^ k2) + 1) * 2 ^ k)).length ≤ 32769 := lim_len_blen.2 (by omega)
    have hl1 : lim 1 = [1] := lim_eq (by decide) (Limbs.one (by decide)) (by decide)
    have hsr := sShr_yes hx k2
    have hdlt : val xs / 2 ^ k2 < val xs := Nat.div_lt_self hv (Nat.one_lt_two_pow (by omega))
    have hdm : mayb (lim (val xs / 2 ^ k2)) = true := mayb_lim (Nat.le_trans (lim_len_mono (Nat.div_le_self _ _)) (by rw [lim_val (mayb_canon ha.limbs hx)]; exact (mayb_iff.1 hx).1))
    have hrt1 : (lim (rt (val xs / 2 ^ k2) + 1)).length ≤ 32769 := by
      refine Nat.le_trans (lim_len_mono ?_) hlen
      have := Nat.mul_le_mul_left (rt (val xs / 2 ^ k2) + 1) (Nat.two_pow_pos k)
      omega
    have hrt0 : (lim (rt (val xs / 2 ^ k2))).length ≤ 32769 := Nat.le_trans (lim_len_mono (by omega)) hrt1
    have hro := sRoot_yes hdm
    rw [val_lim] at hro
    have had : sAdd (lim (rt (val xs / 2 ^ k2))) [1] = lim (rt (val xs / 2 ^ k2) + 1) := by
      rw [sAdd_yes (by rw [mayb_lim (by omega)]; rfl), val_lim, show val [1] = 1 from by decide, clip_of (by omega)]
    have hsl : sShl (lim (rt (val xs / 2 ^ k2) + 1)) (k : Int) = lim ((rt (val xs / 2 ^ k2) + 1) * 2 ^ k) := by
      rw [sShl_yes (mayb_lim (by omega)), val_lim, clip_of (by omega)]
    have hIH : val (lim (val xs / 2 ^ k2)) ≤ n := by rw [val_lim]; omega
    have HIH := Lib.hid hIH
    have HSR := Lib.hid hsr
    have HRO := Lib.hid hro
    have HAD := Lib.hid had
    have HSL := Lib.hid hsl
    have HLEN := Lib.hid hlen
    have HL1 := Lib.hid hl1
    have hl5 : (lim (rt (val xs / 2 ^ k2) + 1)).length ≤ maxLen := by unfold maxLen; omega
    generalize val xs / 2 ^ k2 = n2 at *
    clear hal hlen hl1 hsr hdlt hdm hrt1 hrt0 hro had hsl hIH hk2 hk1 hb4 hv hbl ha hx h0 hbb hn
    go_enter Try.func63, Try.ntmps63
    go_wp2_with fail
    with_reducible refine cB.mono ?_
    rintro e w1 ⟨rfl, env1⟩
    clear env cB
    go_wp2_with fail
    refine (shr_is env1 (va := va) (xs := xs) (by simp) HSR.out).mono ?_
    rintro e w2 ⟨r2, rfl, env2⟩
    clear env1
    go_wp2_with fail
    refine (IH r2 _ w2 (env2.get (by simp)) HIH.out).mono ?_
    rintro e w3 ⟨⟨r3, rfl, ho3⟩, hb3⟩
    rw [HRO.out] at ho3
    have env3 := env2.newR (lim_limbs _) ho3 hb3
    clear env2 ho3 hb3
    go_wp2_with fail
    refine (of_is env3 1 (by decide) HL1.out).mono ?_
    rintro e w4 ⟨r4, rfl, env4⟩
    clear env3
    go_wp2_with fail
    refine (add_is env4 (va := r3) (vb := r4) (by simp) (by simp) HAD.out).mono ?_
    rintro e w5 ⟨r5, rfl, env5⟩
    clear env4
    obtain ⟨A2, cap2, rfl, k1, k3, hrd⟩ := env5.get (v := r5) (xs := lim (rt n2 + 1)) (by simp)
    have cS := shl_any A2 cap2 _ (k : Int) w5 hrd hl5
    rw [HSL.out] at cS
    have HE := Lib.hid env5.1
    clear env5 hrd k1 k3
    go_wp2_with fail
    with_reducible refine cS.mono ?_
    rintro e w6 ⟨⟨v6, rfl, ho6⟩, hb6⟩
    have HO := Lib.hid (ho6.more HE.out.size)
    have HB := Lib.hid (HE.out.trans (hb6.mono HE.out.size))
    clear cS ho6 hb6
    go_wp2
    go_ret
    exact ⟨_, _, HUP.out, HLEN.out, rfl, HO.out, HB.out⟩

theorem divmod_lim {w : World} {va vb : Value} {xs : List Nat} {x : Nat} (ha : Arg w va xs) (hb : Arg w vb (lim x)) (hx : mayb xs = true) (hl : (lim x).length ≤ 65536) (h0 : 0 < x) :
    Calls Try.prog 33 #[va, vb] w (DMPost (lim (val xs / x)) (lim (val xs % x)) 0 w) := by
  have hlp : 0 < (lim x).length := List.length_pos_iff.2 fun e => by have := lim_eq_nil.1 e; omega
  have hE : sDivE xs (lim x) = 0 := sDivE_ok (by rw [hx, mayb_lim hl]; rfl) hlp
  have := divmod_any va vb xs (lim x) w ha hb
  rwa [hE, sDivQ_ok hE, sDivR_ok hE, val_lim] at this

set_option maxRecDepth 100000 in
set_option maxHeartbeats 4000000 in
theorem root_loop {n : Nat} (IH : RootAt n) (A : Option Addr) (cap : Nat) (xs : List Nat) (w : World) (ha : Arg w (.slice A xs.length cap) xs) (hx : mayb xs = true) (h0 : 0 < xs.length) (hn : val xs ≤ n + 1) : Calls Try.prog 37 #[.slice A xs.length cap] w (NewL w (sRoot xs)) := by
  have cM := may_is (env_start1 ha) (va := .slice A xs.length cap) (xs := xs) (by simp) hx
  have cA := aboveRoot_any IH (.slice A xs.length cap) xs w ha hx h0 hn
  have hv := (mayb_canon ha.limbs hx).val_pos (fun e => by rw [e] at h0; simp at h0)
  have hz : (((xs.length : Nat) : Int) == 0) = false := beq_eq_false_iff_ne.2 (by omega)
  have HS := Lib.hid (sRoot_yes hx)
  have HA := Lib.hid ha
  have HX := Lib.hid hx
  have HV := Lib.hid hv
  have hxm := (mayb_iff.1 hx).1
  have cM := may_any A cap xs w _ (by obtain ⟨A', c', e, k1, k2, hr⟩ := ha; injection e with e1 e2 e3; subst e1 e3; exact hr) (by unfold maxLen; omega)
  rw [hx] at cM
  clear ha hx hv hn IH
  go_enter Try.func37, Try.ntmps37
  go_wp2_with fail
  with_reducible refine cM.mono ?_
  rintro e w' ⟨rfl, hw⟩
  obtain rfl := hw.symm
  clear cM
  go_wp2_with fail
  with_reducible refine cA.mono ?_
  rintro e w1 ⟨R, rv, hR, hRl, rfl, hO, hB⟩
  clear cA
  have hR1 : val xs < (R + 1) * (R + 1) := Nat.lt_of_lt_of_le hR (sq_mono (by omega))
  have hR0 : 0 < R := by
    rcases Nat.eq_zero_or_pos R with e | e
    · rw [e] at hR; omega
    · exact e
  have HR1 := Lib.hid hR1
  clear hR hR1
  go_wp2_with fail
  go_loopw [3] (fun v wr => ∃ x : Nat, 0 < x ∧ Hid (val xs < (x + 1) * (x + 1)) ∧ (lim x).length ≤ 32769 ∧ Own wr w.heap.size v (lim x) ∧ Below w.heap.size w wr) (fun v wr => natOf wr w.heap.size v)
  case atStart => exact ⟨R, hR0, HR1.out, hRl, hO, hB⟩
  case round =>
    clear hO hB hR0 hRl HR1
    obtain ⟨x, hx0, hxu, hxl, hO, hB⟩ := hrel
    have ha2 := HA.out.below hB
    have hvO := hO.arg (lim_limbs _)
    have cD := divmod_lim ha2 hvO HX.out (by omega) hx0
    have env0 := (env_start1 ha2).add (Below.refl _ _) hvO
    have hql : (lim (val xs / x)).length ≤ 65536 := Nat.le_trans (lim_len_mono (Nat.div_le_self _ _)) (by rw [lim_val (mayb_canon HA.out.limbs HX.out)]; exact hxm)
    have hcm : sCmp (lim (val xs / x)) (lim x) = cmpN (val xs / x) x := by rw [sCmp_yes (by rw [mayb_lim hql, mayb_lim (by omega)]; rfl), val_lim, val_lim]
    have HO := Lib.hid hO
    have HB := Lib.hid hB
    have HN := Lib.hid (natOf_own hO)
    by_cases hq : x ≤ val xs / x
    · have hcz : ∃ z : Int, cmpN (val xs / x) x = z ∧ 0 ≤ z := by
        rcases Nat.lt_or_ge x (val xs / x) with h | h
        · exact ⟨1, cmpN_gt h, by decide⟩
        · exact ⟨0, cmpN_eq (by omega), by decide⟩
      obtain ⟨z, hz1, hz2⟩ := hcz
      rw [hz1] at hcm
      have HC := Lib.hid hcm
      have HE := Lib.hid (newton_end hx0 hq hxu.out)
      generalize val xs / x = q at *
      clear hcm hq hql hz1 hO hB hvO ha2
      go_wp2_with fail
      with_reducible refine cD.mono ?_
      rintro e w2 ⟨⟨v1, v2, rfl, ho1, ho2, _⟩, hb2⟩
      have env1 := env0.newR (lim_limbs _) ho1 hb2
      clear env0 cD ho1 ho2 hb2
      go_wp2_with fail
      refine (cmp_is env1 (va := v1) (xs := lim q) (vb := u3) (ys := lim x) (by simp) (by simp) HC.out).mono ?_
      rintro e w3 ⟨rfl, env2⟩
      have HOF := Lib.hid (HO.out.below env2.1)
      have HBF := Lib.hid (HB.out.trans (env2.1.mono HB.out.size))
      clear env1 env2
      go_wp2
      go_ret
      exact ⟨⟨_, rfl, by rw [HS.out, HE.out]; exact HOF.out⟩, HBF.out⟩
    · have hlt : val xs / x < x := by omega
      rw [cmpN_lt hlt] at hcm
      have HC := Lib.hid hcm
      have HU := Lib.hid (newton hx0 hlt)
      have HP := Lib.hid (newton_pos HV.out hx0 hlt)
      have hsum := lim_len_add hxl (Nat.le_of_lt hlt)
      have hle : (x + val xs / x) / 2 ≤ x := by omega
      have hlt2 : Hid ((x + val xs / x) / 2 < x) := by show _ < _; omega
      have hnl := Nat.le_trans (lim_len_mono hle) hxl
      have had : sAdd (lim x) (lim (val xs / x)) = lim (x + val xs / x) := by
        rw [sAdd_yes (by rw [mayb_lim (by omega), mayb_lim hql]; rfl), val_lim, val_lim, clip_of (by omega)]
      have hsr : sShr (lim (x + val xs / x)) ((1 : Nat) : Int) = lim ((x + val xs / x) / 2) := by
        rw [sShr_yes (mayb_lim (by omega)), val_lim, Nat.pow_one]
      rw [show (((1 : Nat) : Int)) = 1 from rfl] at hsr
      have HAD := Lib.hid had
      have HSR := Lib.hid hsr
      have HNL := Lib.hid hnl
      generalize val xs / x = q at *
      clear hcm hq hql hO hB hvO ha2 had hsr hsum hle hnl hlt
      go_wp2_with fail
      with_reducible refine cD.mono ?_
      rintro e w2 ⟨⟨v1, v2, rfl, ho1, ho2, _⟩, hb2⟩
      have env1 := env0.newR (lim_limbs _) ho1 hb2
      clear env0 cD ho1 ho2 hb2
      go_wp2_with fail
      refine (cmp_is env1 (va := v1) (xs := lim q) (vb := u3) (ys := lim x) (by simp) (by simp) HC.out).mono ?_
      rintro e w3 ⟨rfl, env2⟩
      clear env1
      go_wp2_with fail
      refine (add_is env2 (va := u3) (xs := lim x) (vb := v1) (ys := lim q) (by simp) (by simp) HAD.out).mono ?_
      rintro e w4 ⟨r4, rfl, env3⟩
      clear env2
      obtain ⟨A2, cap2, rfl, k1, k2, hrd⟩ := env3.get (v := r4) (xs := lim (x + q)) (by simp)
      have cS := shr_any A2 cap2 _ 1 w4 hrd k1 k2
      rw [HSR.out] at cS
      have HE := Lib.hid env3.1
      clear env3 hrd k1 k2
      go_wp2_with fail
      with_reducible refine cS.mono ?_
      rintro e w5 ⟨⟨v5, rfl, ho5⟩, hb5⟩
      have hB4 := HB.out.trans (HE.out.mono HB.out.size)
      have HOF := Lib.hid (ho5.more hB4.size)
      have HBF := Lib.hid (hB4.trans (hb5.mono hB4.size))
      clear cS ho5 hb5 hB4
      go_wp2_with fail
      go_roundw
      case rel => exact ⟨(x + q) / 2, HP.out, HU.out, HNL.out, HOF.out, HBF.out⟩
      case measure => rw [natOf_own HOF.out, HN.out]; exact hlt2.out

theorem root_nil {w : World} {va : Value} (ha : Arg w va []) : Calls Try.prog 37 #[va] w (NewL w (sRoot [])) := by
  obtain ⟨A, cap, rfl, k1, k2, hr⟩ := ha
  have cM := may_any A cap [] w _ hr (by unfold maxLen; simp)
  rw [mayb_nil, show ([] : List Nat).length = 0 from rfl] at cM
  rw [show ([] : List Nat).length = 0 from rfl]
  have HS := Lib.hid sRoot_nil
  clear hr
  go_enter Try.func37, Try.ntmps37
  go_wp2_with fail
  with_reducible refine cM.mono ?_
  rintro e w' ⟨rfl, hw⟩
  obtain rfl := hw.symm
  clear cM
  go_wp2
  go_ret
  exact ⟨⟨_, rfl, by rw [HS.out]; exact Own.nil _ _⟩, Below.refl _ _⟩
theorem root_bad {w : World} {va : Value} {xs : List Nat} (ha : Arg w va xs) (hx : mayb xs = false) : Calls Try.prog 37 #[va] w (NewL w (sRoot xs)) := by
  obtain ⟨A, cap, rfl, k1, k2, hr⟩ := ha
  have cM := may_any A cap xs w _ hr (by omega)
  rw [hx] at cM
  have HS := Lib.hid (sRoot_no hx)
  clear hr hx
  go_enter Try.func37, Try.ntmps37
  go_wp2_with fail
  with_reducible refine cM.mono ?_
  rintro e w' ⟨rfl, hw⟩
  obtain rfl := hw.symm
  clear cM
  go_wp2
  go_ret
  exact ⟨⟨_, rfl, by rw [HS.out]; exact Own.nil _ _⟩, Below.refl _ _⟩
theorem rootAt : ∀ n, RootAt n := by
  intro n
  induction n with
  | zero =>
    intro va xs w ha hn
    rcases hm : mayb xs with _ | _
    · exact root_bad ha hm
    · rcases Nat.eq_zero_or_pos xs.length with h0 | h0
      · obtain rfl := List.eq_nil_of_length_eq_zero h0
        exact root_nil ha
      · have := (mayb_canon ha.limbs hm).val_pos (fun e => by rw [e] at h0; simp at h0)
        omega
  | succ n ih =>
    intro va xs w ha hn
    rcases hm : mayb xs with _ | _
    · exact root_bad ha hm
    · rcases Nat.eq_zero_or_pos xs.length with h0 | h0
      · obtain rfl := List.eq_nil_of_length_eq_zero h0
        exact root_nil ha
      · obtain ⟨A, cap, rfl, _⟩ := id ha
        exact root_loop ih A cap xs w ha hm h0 hn
theorem root_any (va : Value) (xs : List Nat) (w : World) (ha : Arg w va xs) : Calls Try.prog 37 #[va] w (NewL w (sRoot xs)) := rootAt (val xs) va xs w ha (Nat.le_refl _)

end Go.Proofs.Ytidflhonhekmjaa

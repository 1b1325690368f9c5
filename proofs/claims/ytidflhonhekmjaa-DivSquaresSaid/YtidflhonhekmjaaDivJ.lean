/- DivSquares. -/
import Derived.Test.YtidflhonhekmjaaDivG
namespace Go.Proofs.Ytidflhonhekmjaa
open Go.RowKit Go.Shelf

set_option linter.unusedVariables false

theorem rt_self (n : Nat) : rt n ≤ n := (rtd_spec n n).2.1
theorem cmpN_le {a b : Nat} (h : a ≤ b) : ∃ z : Int, cmpN a b = z ∧ z ≤ 0 := by
  rcases Nat.lt_or_ge a b with h1 | h1
  · exact ⟨-1, cmpN_lt h1, by decide⟩
  · exact ⟨0, cmpN_eq (by omega), by decide⟩
theorem root_lim {A : Nat} (h : (lim A).length ≤ 65536) : sRoot (lim A) = lim (rt A) := by rw [sRoot_yes (mayb_lim h), val_lim]

set_option maxRecDepth 100000 in
set_option maxHeartbeats 8000000 in
theorem dsqrs_longa {Pa : Option Addr} {na ca : Nat} {Pb : Option Addr} {nb cb : Nat} {xa xb : List Nat} (w : World)  (ha : Arg w (.slice Pa na ca) (xa)) (hb : Arg w (.slice Pb nb cb) (xb))  (la : 60 < xa.length) : Calls Try.prog 11 #[(.slice Pa na ca), (.slice Pb nb cb)] w fun e w' => e = .returned (.bool true) ∧ Below w.heap.size w w' := by
  have hna : na = (xa).length := by obtain ⟨_, _, e, _⟩ := ha; injection e
  have hnb : nb = (xb).length := by obtain ⟨_, _, e, _⟩ := hb; injection e
  have pa : decide ((60 : Int) < (na : Int)) = true := decide_eq_true (by omega)
  clear la
  have env0 : Env w w [((.slice Pa na ca), xa), ((.slice Pb nb cb), xb)] := (((env_start w).add (Below.refl _ _) hb).add (Below.refl _ _) ha)
  clear ha hna hb hnb
  go_enter Try.func11, Try.ntmps11
  go_wp2_with fail
  refine (awake3_env env0).mono ?_
  rintro e w1 ⟨rfl, env1⟩
  clear env0
  have HB := Lib.hid env1.1
  clear env1
  go_wp2
  go_ret
  exact ⟨rfl, HB.out⟩

set_option maxRecDepth 100000 in
set_option maxHeartbeats 8000000 in
theorem dsqrs_longb {Pa : Option Addr} {na ca : Nat} {Pb : Option Addr} {nb cb : Nat} {xa xb : List Nat} (w : World)  (ha : Arg w (.slice Pa na ca) (xa)) (hb : Arg w (.slice Pb nb cb) (xb)) (la : xa.length ≤ 60) (lb : 60 < xb.length) : Calls Try.prog 11 #[(.slice Pa na ca), (.slice Pb nb cb)] w fun e w' => e = .returned (.bool true) ∧ Below w.heap.size w w' := by
  have hna : na = (xa).length := by obtain ⟨_, _, e, _⟩ := ha; injection e
  have hnb : nb = (xb).length := by obtain ⟨_, _, e, _⟩ := hb; injection e
  have pa : decide ((60 : Int) < (na : Int)) = false := decide_eq_false (by omega)
  have pb : decide ((60 : Int) < (nb : Int)) = true := decide_eq_true (by omega)
  clear la lb
  have env0 : Env w w [((.slice Pa na ca), xa), ((.slice Pb nb cb), xb)] := (((env_start w).add (Below.refl _ _) hb).add (Below.refl _ _) ha)
  clear ha hna hb hnb
  go_enter Try.func11, Try.ntmps11
  go_wp2_with fail
  refine (awake3_env env0).mono ?_
  rintro e w1 ⟨rfl, env1⟩
  clear env0
  have HB := Lib.hid env1.1
  clear env1
  go_wp2
  go_ret
  exact ⟨rfl, HB.out⟩

set_option maxRecDepth 100000 in
set_option maxHeartbeats 8000000 in
theorem dsqrs_bada {Pa : Option Addr} {na ca : Nat} {Pb : Option Addr} {nb cb : Nat} {xa xb : List Nat} (w : World)  (ha : Arg w (.slice Pa na ca) (xa)) (hb : Arg w (.slice Pb nb cb) (xb)) (la : (xa).length ≤ 60) (lb : (xb).length ≤ 60) (ma : mayb xa = false) : Calls Try.prog 11 #[(.slice Pa na ca), (.slice Pb nb cb)] w fun e w' => e = .returned (.bool true) ∧ Below w.heap.size w w' := by
  have hna : na = (xa).length := by obtain ⟨_, _, e, _⟩ := ha; injection e
  have hnb : nb = (xb).length := by obtain ⟨_, _, e, _⟩ := hb; injection e
  have pa : decide ((60 : Int) < (na : Int)) = false := decide_eq_false (by omega)
  have pb : decide ((60 : Int) < (nb : Int)) = false := decide_eq_false (by omega)
  have Ma := Lib.hid ma
  clear la lb ma
  have env0 : Env w w [((.slice Pa na ca), xa), ((.slice Pb nb cb), xb)] := (((env_start w).add (Below.refl _ _) hb).add (Below.refl _ _) ha)
  clear ha hna hb hnb
  go_enter Try.func11, Try.ntmps11
  go_wp2_with fail
  refine (awake3_env env0).mono ?_
  rintro e w1 ⟨rfl, env1⟩
  clear env0
  go_wp2_with fail
  refine (may_is env1 (va := (.slice Pa na ca)) (xs := xa) (by simp) Ma.out).mono ?_
  rintro e w2 ⟨rfl, env2⟩
  clear env1
  have HB := Lib.hid env2.1
  clear env2
  go_wp2
  go_ret
  exact ⟨rfl, HB.out⟩

set_option maxRecDepth 100000 in
set_option maxHeartbeats 8000000 in
theorem dsqrs_badb {Pa : Option Addr} {na ca : Nat} {Pb : Option Addr} {nb cb : Nat} {xa xb : List Nat} (w : World)  (ha : Arg w (.slice Pa na ca) (xa)) (hb : Arg w (.slice Pb nb cb) (xb)) (la : (xa).length ≤ 60) (lb : (xb).length ≤ 60) (ma : mayb xa = true) (mb : mayb xb = false) : Calls Try.prog 11 #[(.slice Pa na ca), (.slice Pb nb cb)] w fun e w' => e = .returned (.bool true) ∧ Below w.heap.size w w' := by
  have hna : na = (xa).length := by obtain ⟨_, _, e, _⟩ := ha; injection e
  have hnb : nb = (xb).length := by obtain ⟨_, _, e, _⟩ := hb; injection e
  have pa : decide ((60 : Int) < (na : Int)) = false := decide_eq_false (by omega)
  have pb : decide ((60 : Int) < (nb : Int)) = false := decide_eq_false (by omega)
  have Ma := Lib.hid ma
  have Mb := Lib.hid mb
  clear la lb ma mb
  have env0 : Env w w [((.slice Pa na ca), xa), ((.slice Pb nb cb), xb)] := (((env_start w).add (Below.refl _ _) hb).add (Below.refl _ _) ha)
  clear ha hna hb hnb
  go_enter Try.func11, Try.ntmps11
  go_wp2_with fail
  refine (awake3_env env0).mono ?_
  rintro e w1 ⟨rfl, env1⟩
  clear env0
  go_wp2_with fail
  refine (may_is env1 (va := (.slice Pa na ca)) (xs := xa) (by simp) Ma.out).mono ?_
  rintro e w2 ⟨rfl, env2⟩
  clear env1
  go_wp2_with fail
  refine (may_is env2 (va := (.slice Pb nb cb)) (xs := xb) (by simp) Mb.out).mono ?_
  rintro e w3 ⟨rfl, env3⟩
  clear env2
  have HB := Lib.hid env3.1
  clear env3
  go_wp2
  go_ret
  exact ⟨rfl, HB.out⟩

set_option maxRecDepth 100000 in
set_option maxHeartbeats 8000000 in
theorem dsqrs_gt {Pa : Option Addr} {na ca : Nat} {Pb : Option Addr} {nb cb : Nat} {A B : Nat} (w : World)  (ha : Arg w (.slice Pa na ca) (lim A)) (hb : Arg w (.slice Pb nb cb) (lim B)) (la : (lim A).length ≤ 60) (lb : (lim B).length ≤ 60) (hR : B < A) : Calls Try.prog 11 #[(.slice Pa na ca), (.slice Pb nb cb)] w fun e w' => e = .returned (.bool true) ∧ Below w.heap.size w w' := by
  have hna : na = (lim A).length := by obtain ⟨_, _, e, _⟩ := ha; injection e
  have hnb : nb = (lim B).length := by obtain ⟨_, _, e, _⟩ := hb; injection e
  have pa : decide ((60 : Int) < (na : Int)) = false := decide_eq_false (by omega)
  have pb : decide ((60 : Int) < (nb : Int)) = false := decide_eq_false (by omega)
  have k1 := lim_len_mono (rt_self A)
  have k2 := lim_len_mono (rt_self B)
  have k3 := len_addD (rt A) 1
  have k4 := len_mulD (rt A) (rt A)
  have k5 := len_mulD (rt A + 1) (rt A + 1)
  have k6 := len_mulD A A
  have one : (lim 1).length ≤ 1 := lim_le (by decide)
  have hl1 : lim 1 = [1] := lim_eq (by decide) (Limbs.one (by decide)) (by decide)
  have MA := Lib.hid (mayb_lim (n := A) (by omega))
  have MB := Lib.hid (mayb_lim (n := B) (by omega))
  have HRA := Lib.hid (root_lim (A := A) (by omega))
  have HRB := Lib.hid (root_lim (A := B) (by omega))
  have HN := Lib.hid (show sAdd (lim (rt A)) [1] = lim (rt A + 1) by rw [← hl1, add_limD (by omega) (by omega)])
  have HX := Lib.hid (mul_limD (a := rt A) (b := rt A) (by omega))
  have HY := Lib.hid (mul_limD (a := rt A + 1) (b := rt A + 1) (by omega))
  have HZ := Lib.hid (mul_limD (a := A) (b := A) (by omega))
  obtain ⟨z1, hz1, hz2⟩ := cmpN_le (rt_le A)
  have HC1 := Lib.hid (show sCmp (lim (rt A * rt A)) (lim A) = z1 by rw [cmp_limD (by omega) (by omega), hz1])
  have HC2 := Lib.hid (show sCmp (lim ((rt A + 1) * (rt A + 1))) (lim A) = 1 by rw [cmp_limD (by omega) (by omega), cmpN_gt (rt_lt A)])
  have HRZ := Lib.hid (show sRoot (lim (A * A)) = lim A by rw [root_lim (by omega), rt_sq])
  have HC3 := Lib.hid (show sCmp (lim A) (lim B) = 1 by rw [cmp_limD (by omega) (by omega), cmpN_gt hR])
  clear k1 k2 k3 k4 k5 k6 one hl1 hz1 la lb hR
  have env0 : Env w w [((.slice Pa na ca), lim A), ((.slice Pb nb cb), lim B)] := (((env_start w).add (Below.refl _ _) hb).add (Below.refl _ _) ha)
  clear ha hna hb hnb
  go_enter Try.func11, Try.ntmps11
  go_wp2_with fail
  refine (awake3_env env0).mono ?_
  rintro e w1 ⟨rfl, env1⟩
  clear env0
  go_wp2_with fail
  refine (may_is env1 (va := (.slice Pa na ca)) (xs := lim A) (by simp) MA.out).mono ?_
  rintro e w2 ⟨rfl, env2⟩
  clear env1
  go_wp2_with fail
  refine (may_is env2 (va := (.slice Pb nb cb)) (xs := lim B) (by simp) MB.out).mono ?_
  rintro e w3 ⟨rfl, env3⟩
  clear env2
  go_wp2_with fail
  refine (root_is env3 (va := (.slice Pa na ca)) (xs := lim A) (by simp) HRA.out).mono ?_
  rintro e w4 ⟨r4, rfl, env4⟩
  clear env3
  go_wp2_with fail
  refine (root_is env4 (va := (.slice Pb nb cb)) (xs := lim B) (by simp) HRB.out).mono ?_
  rintro e w5 ⟨r5, rfl, env5⟩
  clear env4
  go_wp2_with fail
  refine (of3_env (env5.lit1 1 1 rfl (by decide))).mono ?_
  rintro e w6 ⟨rfl, env6⟩
  clear env5
  go_wp2_with fail
  refine (add_is env6 (va := r4) (vb := (.slice (some ⟨w5.heap.size, 0, none⟩) 1 1)) (xs := lim (rt A)) (ys := [1]) (by simp) (by simp) HN.out).mono ?_
  rintro e w7 ⟨r7, rfl, env7⟩
  clear env6
  go_wp2_with fail
  refine (mul_is env7 (va := r4) (vb := r4) (xs := lim (rt A)) (ys := lim (rt A)) (by simp) (by simp) HX.out).mono ?_
  rintro e w8 ⟨r8, rfl, env8⟩
  clear env7
  go_wp2_with fail
  refine (cmp_is env8 (va := r8) (vb := (.slice Pa na ca)) (xs := lim (rt A * rt A)) (ys := lim A) (by simp) (by simp) HC1.out).mono ?_
  rintro e w9 ⟨rfl, env9⟩
  clear env8
  go_wp2_with fail
  refine (mul_is env9 (va := r7) (vb := r7) (xs := lim (rt A + 1)) (ys := lim (rt A + 1)) (by simp) (by simp) HY.out).mono ?_
  rintro e w10 ⟨r10, rfl, env10⟩
  clear env9
  go_wp2_with fail
  refine (cmp_is env10 (va := r10) (vb := (.slice Pa na ca)) (xs := lim ((rt A + 1) * (rt A + 1))) (ys := lim A) (by simp) (by simp) HC2.out).mono ?_
  rintro e w11 ⟨rfl, env11⟩
  clear env10
  go_wp2_with fail
  refine (mul_is env11 (va := (.slice Pa na ca)) (vb := (.slice Pa na ca)) (xs := lim A) (ys := lim A) (by simp) (by simp) HZ.out).mono ?_
  rintro e w12 ⟨r12, rfl, env12⟩
  clear env11
  go_wp2_with fail
  refine (root_is env12 (va := r12) (xs := lim (A * A)) (by simp) HRZ.out).mono ?_
  rintro e w13 ⟨r13, rfl, env13⟩
  clear env12
  go_wp2_with fail
  refine (same3_yes env13 (va := r13) (vb := (.slice Pa na ca)) (xs := lim A) (ys := lim A) (by simp) (by simp) rfl).mono ?_
  rintro e w14 ⟨rfl, env14⟩
  clear env13
  go_wp2_with fail
  refine (cmp_is env14 (va := (.slice Pa na ca)) (vb := (.slice Pb nb cb)) (xs := lim A) (ys := lim B) (by simp) (by simp) HC3.out).mono ?_
  rintro e w15 ⟨rfl, env15⟩
  clear env14
  have HB := Lib.hid env15.1
  clear env15
  go_wp2
  go_ret
  exact ⟨rfl, HB.out⟩

set_option maxRecDepth 100000 in
set_option maxHeartbeats 8000000 in
theorem dsqrs_le {Pa : Option Addr} {na ca : Nat} {Pb : Option Addr} {nb cb : Nat} {A B : Nat} (w : World)  (ha : Arg w (.slice Pa na ca) (lim A)) (hb : Arg w (.slice Pb nb cb) (lim B)) (la : (lim A).length ≤ 60) (lb : (lim B).length ≤ 60) (hR : A ≤ B) : Calls Try.prog 11 #[(.slice Pa na ca), (.slice Pb nb cb)] w fun e w' => e = .returned (.bool true) ∧ Below w.heap.size w w' := by
  have hna : na = (lim A).length := by obtain ⟨_, _, e, _⟩ := ha; injection e
  have hnb : nb = (lim B).length := by obtain ⟨_, _, e, _⟩ := hb; injection e
  have pa : decide ((60 : Int) < (na : Int)) = false := decide_eq_false (by omega)
  have pb : decide ((60 : Int) < (nb : Int)) = false := decide_eq_false (by omega)
  have k1 := lim_len_mono (rt_self A)
  have k2 := lim_len_mono (rt_self B)
  have k3 := len_addD (rt A) 1
  have k4 := len_mulD (rt A) (rt A)
  have k5 := len_mulD (rt A + 1) (rt A + 1)
  have k6 := len_mulD A A
  have one : (lim 1).length ≤ 1 := lim_le (by decide)
  have hl1 : lim 1 = [1] := lim_eq (by decide) (Limbs.one (by decide)) (by decide)
  have MA := Lib.hid (mayb_lim (n := A) (by omega))
  have MB := Lib.hid (mayb_lim (n := B) (by omega))
  have HRA := Lib.hid (root_lim (A := A) (by omega))
  have HRB := Lib.hid (root_lim (A := B) (by omega))
  have HN := Lib.hid (show sAdd (lim (rt A)) [1] = lim (rt A + 1) by rw [← hl1, add_limD (by omega) (by omega)])
  have HX := Lib.hid (mul_limD (a := rt A) (b := rt A) (by omega))
  have HY := Lib.hid (mul_limD (a := rt A + 1) (b := rt A + 1) (by omega))
  have HZ := Lib.hid (mul_limD (a := A) (b := A) (by omega))
  obtain ⟨z1, hz1, hz2⟩ := cmpN_le (rt_le A)
  have HC1 := Lib.hid (show sCmp (lim (rt A * rt A)) (lim A) = z1 by rw [cmp_limD (by omega) (by omega), hz1])
  have HC2 := Lib.hid (show sCmp (lim ((rt A + 1) * (rt A + 1))) (lim A) = 1 by rw [cmp_limD (by omega) (by omega), cmpN_gt (rt_lt A)])
  have HRZ := Lib.hid (show sRoot (lim (A * A)) = lim A by rw [root_lim (by omega), rt_sq])
  obtain ⟨z3, hz3, hz4⟩ := cmpN_le hR
  have HC3 := Lib.hid (show sCmp (lim A) (lim B) = z3 by rw [cmp_limD (by omega) (by omega), hz3])
  obtain ⟨z5, hz5, hz6⟩ := cmpN_le (rt_mono hR)
  have HC5 := Lib.hid (show sCmp (lim (rt A)) (lim (rt B)) = z5 by rw [cmp_limD (by omega) (by omega), hz5])
  clear k1 k2 k3 k4 k5 k6 one hl1 hz1 la lb hR hz3 hz5
  have env0 : Env w w [((.slice Pa na ca), lim A), ((.slice Pb nb cb), lim B)] := (((env_start w).add (Below.refl _ _) hb).add (Below.refl _ _) ha)
  clear ha hna hb hnb
  go_enter Try.func11, Try.ntmps11
  go_wp2_with fail
  refine (awake3_env env0).mono ?_
  rintro e w1 ⟨rfl, env1⟩
  clear env0
  go_wp2_with fail
  refine (may_is env1 (va := (.slice Pa na ca)) (xs := lim A) (by simp) MA.out).mono ?_
  rintro e w2 ⟨rfl, env2⟩
  clear env1
  go_wp2_with fail
  refine (may_is env2 (va := (.slice Pb nb cb)) (xs := lim B) (by simp) MB.out).mono ?_
  rintro e w3 ⟨rfl, env3⟩
  clear env2
  go_wp2_with fail
  refine (root_is env3 (va := (.slice Pa na ca)) (xs := lim A) (by simp) HRA.out).mono ?_
  rintro e w4 ⟨r4, rfl, env4⟩
  clear env3
  go_wp2_with fail
  refine (root_is env4 (va := (.slice Pb nb cb)) (xs := lim B) (by simp) HRB.out).mono ?_
  rintro e w5 ⟨r5, rfl, env5⟩
  clear env4
  go_wp2_with fail
  refine (of3_env (env5.lit1 1 1 rfl (by decide))).mono ?_
  rintro e w6 ⟨rfl, env6⟩
  clear env5
  go_wp2_with fail
  refine (add_is env6 (va := r4) (vb := (.slice (some ⟨w5.heap.size, 0, none⟩) 1 1)) (xs := lim (rt A)) (ys := [1]) (by simp) (by simp) HN.out).mono ?_
  rintro e w7 ⟨r7, rfl, env7⟩
  clear env6
  go_wp2_with fail
  refine (mul_is env7 (va := r4) (vb := r4) (xs := lim (rt A)) (ys := lim (rt A)) (by simp) (by simp) HX.out).mono ?_
  rintro e w8 ⟨r8, rfl, env8⟩
  clear env7
  go_wp2_with fail
  refine (cmp_is env8 (va := r8) (vb := (.slice Pa na ca)) (xs := lim (rt A * rt A)) (ys := lim A) (by simp) (by simp) HC1.out).mono ?_
  rintro e w9 ⟨rfl, env9⟩
  clear env8
  go_wp2_with fail
  refine (mul_is env9 (va := r7) (vb := r7) (xs := lim (rt A + 1)) (ys := lim (rt A + 1)) (by simp) (by simp) HY.out).mono ?_
  rintro e w10 ⟨r10, rfl, env10⟩
  clear env9
  go_wp2_with fail
  refine (cmp_is env10 (va := r10) (vb := (.slice Pa na ca)) (xs := lim ((rt A + 1) * (rt A + 1))) (ys := lim A) (by simp) (by simp) HC2.out).mono ?_
  rintro e w11 ⟨rfl, env11⟩
  clear env10
  go_wp2_with fail
  refine (mul_is env11 (va := (.slice Pa na ca)) (vb := (.slice Pa na ca)) (xs := lim A) (ys := lim A) (by simp) (by simp) HZ.out).mono ?_
  rintro e w12 ⟨r12, rfl, env12⟩
  clear env11
  go_wp2_with fail
  refine (root_is env12 (va := r12) (xs := lim (A * A)) (by simp) HRZ.out).mono ?_
  rintro e w13 ⟨r13, rfl, env13⟩
  clear env12
  go_wp2_with fail
  refine (same3_yes env13 (va := r13) (vb := (.slice Pa na ca)) (xs := lim A) (ys := lim A) (by simp) (by simp) rfl).mono ?_
  rintro e w14 ⟨rfl, env14⟩
  clear env13
  go_wp2_with fail
  refine (cmp_is env14 (va := (.slice Pa na ca)) (vb := (.slice Pb nb cb)) (xs := lim A) (ys := lim B) (by simp) (by simp) HC3.out).mono ?_
  rintro e w15 ⟨rfl, env15⟩
  clear env14
  go_wp2_with fail
  refine (cmp_is env15 (va := r4) (vb := r5) (xs := lim (rt A)) (ys := lim (rt B)) (by simp) (by simp) HC5.out).mono ?_
  rintro e w16 ⟨rfl, env16⟩
  clear env15
  have HB := Lib.hid env16.1
  clear env16
  go_wp2
  go_ret
  exact ⟨rfl, HB.out⟩

theorem dsqrs_law {Pa : Option Addr} {na ca : Nat} {Pb : Option Addr} {nb cb : Nat} {xa xb : List Nat} (w : World) (ha : Arg w (.slice Pa na ca) xa) (hb : Arg w (.slice Pb nb cb) xb) : Calls Try.prog 11 #[(.slice Pa na ca), (.slice Pb nb cb)] w (fun e w' => e = .returned (.bool true) ∧ Below w.heap.size w w') := by
  rcases Nat.lt_or_ge 60 xa.length with la | la
  · exact dsqrs_longa w ha hb la
  rcases Nat.lt_or_ge 60 xb.length with lb | lb
  · exact dsqrs_longb w ha hb la lb
  rcases ma : mayb xa with _ | _
  · exact dsqrs_bada w ha hb la lb ma
  rcases mb : mayb xb with _ | _
  · exact dsqrs_badb w ha hb la lb ma mb
  obtain ⟨A, rfl⟩ := may_limD ha.limbs ma
  obtain ⟨B, rfl⟩ := may_limD hb.limbs mb
  rcases Nat.lt_or_ge B A with hR | hR
  · exact dsqrs_gt w ha hb la lb hR
  · exact dsqrs_le w ha hb la lb hR

end Go.Proofs.Ytidflhonhekmjaa

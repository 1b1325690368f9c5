/- DivProducts. -/
import Derived.Test.YtidflhonhekmjaaDivG
namespace Go.Proofs.Ytidflhonhekmjaa
open Go.RowKit Go.Shelf

set_option linter.unusedVariables false

set_option maxRecDepth 100000 in
set_option maxHeartbeats 8000000 in
theorem dprod_longa {Pa : Option Addr} {na ca : Nat} {Pb : Option Addr} {nb cb : Nat} {Pr : Option Addr} {nr cr : Nat} {xa xb xr : List Nat} (w : World)  (ha : Arg w (.slice Pa na ca) (xa)) (hb : Arg w (.slice Pb nb cb) (xb)) (hr : Arg w (.slice Pr nr cr) (xr))  (la : 200 < xa.length) : Calls Try.prog 9 #[(.slice Pa na ca), (.slice Pb nb cb), (.slice Pr nr cr)] w fun e w' => e = .returned (.bool true) ∧ Below w.heap.size w w' := by
  have hna : na = (xa).length := by obtain ⟨_, _, e, _⟩ := ha; injection e
  have hnb : nb = (xb).length := by obtain ⟨_, _, e, _⟩ := hb; injection e
  have hnr : nr = (xr).length := by obtain ⟨_, _, e, _⟩ := hr; injection e
  have pa : decide ((200 : Int) < (na : Int)) = true := decide_eq_true (by omega)
  clear la
  have env0 : Env w w [((.slice Pa na ca), xa), ((.slice Pb nb cb), xb), ((.slice Pr nr cr), xr)] := ((((env_start w).add (Below.refl _ _) hr).add (Below.refl _ _) hb).add (Below.refl _ _) ha)
  clear ha hna hb hnb hr hnr
  go_enter Try.func9, Try.ntmps9
  go_wp2_with fail
  refine (awake3_env env0).mono ?_
  rintro e w1 ⟨rfl, env1⟩
  clear env0
  have HB := Lib.hid env1.1
  clear env1
  go_wp2
  go_ret
  exact ⟨rfl, HB.out⟩

set_option maxRecDepth 100000 in
set_option maxHeartbeats 8000000 in
theorem dprod_longb {Pa : Option Addr} {na ca : Nat} {Pb : Option Addr} {nb cb : Nat} {Pr : Option Addr} {nr cr : Nat} {xa xb xr : List Nat} (w : World)  (ha : Arg w (.slice Pa na ca) (xa)) (hb : Arg w (.slice Pb nb cb) (xb)) (hr : Arg w (.slice Pr nr cr) (xr)) (la : xa.length ≤ 200) (lb : 200 < xb.length) : Calls Try.prog 9 #[(.slice Pa na ca), (.slice Pb nb cb), (.slice Pr nr cr)] w fun e w' => e = .returned (.bool true) ∧ Below w.heap.size w w' := by
  have hna : na = (xa).length := by obtain ⟨_, _, e, _⟩ := ha; injection e
  have hnb : nb = (xb).length := by obtain ⟨_, _, e, _⟩ := hb; injection e
  have hnr : nr = (xr).length := by obtain ⟨_, _, e, _⟩ := hr; injection e
  have pa : decide ((200 : Int) < (na : Int)) = false := decide_eq_false (by omega)
  have pb : decide ((200 : Int) < (nb : Int)) = true := decide_eq_true (by omega)
  clear la lb
  have env0 : Env w w [((.slice Pa na ca), xa), ((.slice Pb nb cb), xb), ((.slice Pr nr cr), xr)] := ((((env_start w).add (Below.refl _ _) hr).add (Below.refl _ _) hb).add (Below.refl _ _) ha)
  clear ha hna hb hnb hr hnr
  go_enter Try.func9, Try.ntmps9
  go_wp2_with fail
  refine (awake3_env env0).mono ?_
  rintro e w1 ⟨rfl, env1⟩
  clear env0
  have HB := Lib.hid env1.1
  clear env1
  go_wp2
  go_ret
  exact ⟨rfl, HB.out⟩

set_option maxRecDepth 100000 in
set_option maxHeartbeats 8000000 in
theorem dprod_longr {Pa : Option Addr} {na ca : Nat} {Pb : Option Addr} {nb cb : Nat} {Pr : Option Addr} {nr cr : Nat} {xa xb xr : List Nat} (w : World)  (ha : Arg w (.slice Pa na ca) (xa)) (hb : Arg w (.slice Pb nb cb) (xb)) (hr : Arg w (.slice Pr nr cr) (xr)) (la : xa.length ≤ 200) (lb : xb.length ≤ 200) (lr : 200 < xr.length) : Calls Try.prog 9 #[(.slice Pa na ca), (.slice Pb nb cb), (.slice Pr nr cr)] w fun e w' => e = .returned (.bool true) ∧ Below w.heap.size w w' := by
  have hna : na = (xa).length := by obtain ⟨_, _, e, _⟩ := ha; injection e
  have hnb : nb = (xb).length := by obtain ⟨_, _, e, _⟩ := hb; injection e
  have hnr : nr = (xr).length := by obtain ⟨_, _, e, _⟩ := hr; injection e
  have pa : decide ((200 : Int) < (na : Int)) = false := decide_eq_false (by omega)
  have pb : decide ((200 : Int) < (nb : Int)) = false := decide_eq_false (by omega)
  have pr : decide ((200 : Int) < (nr : Int)) = true := decide_eq_true (by omega)
  clear la lb lr
  have env0 : Env w w [((.slice Pa na ca), xa), ((.slice Pb nb cb), xb), ((.slice Pr nr cr), xr)] := ((((env_start w).add (Below.refl _ _) hr).add (Below.refl _ _) hb).add (Below.refl _ _) ha)
  clear ha hna hb hnb hr hnr
  go_enter Try.func9, Try.ntmps9
  go_wp2_with fail
  refine (awake3_env env0).mono ?_
  rintro e w1 ⟨rfl, env1⟩
  clear env0
  have HB := Lib.hid env1.1
  clear env1
  go_wp2
  go_ret
  exact ⟨rfl, HB.out⟩

set_option maxRecDepth 100000 in
set_option maxHeartbeats 8000000 in
theorem dprod_bada {Pa : Option Addr} {na ca : Nat} {Pb : Option Addr} {nb cb : Nat} {Pr : Option Addr} {nr cr : Nat} {xa xb xr : List Nat} (w : World)  (ha : Arg w (.slice Pa na ca) (xa)) (hb : Arg w (.slice Pb nb cb) (xb)) (hr : Arg w (.slice Pr nr cr) (xr)) (la : (xa).length ≤ 200) (lb : (xb).length ≤ 200) (lr : (xr).length ≤ 200) (ma : mayb xa = false) : Calls Try.prog 9 #[(.slice Pa na ca), (.slice Pb nb cb), (.slice Pr nr cr)] w fun e w' => e = .returned (.bool true) ∧ Below w.heap.size w w' := by
  have hna : na = (xa).length := by obtain ⟨_, _, e, _⟩ := ha; injection e
  have hnb : nb = (xb).length := by obtain ⟨_, _, e, _⟩ := hb; injection e
  have hnr : nr = (xr).length := by obtain ⟨_, _, e, _⟩ := hr; injection e
  have pa : decide ((200 : Int) < (na : Int)) = false := decide_eq_false (by omega)
  have pb : decide ((200 : Int) < (nb : Int)) = false := decide_eq_false (by omega)
  have pr : decide ((200 : Int) < (nr : Int)) = false := decide_eq_false (by omega)
  have Ma := Lib.hid ma
  clear la lb lr ma
  have env0 : Env w w [((.slice Pa na ca), xa), ((.slice Pb nb cb), xb), ((.slice Pr nr cr), xr)] := ((((env_start w).add (Below.refl _ _) hr).add (Below.refl _ _) hb).add (Below.refl _ _) ha)
  clear ha hna hb hnb hr hnr
  go_enter Try.func9, Try.ntmps9
  go_wp2_with fail
  refine (awake3_env env0).mono ?_
  rintro e w1 ⟨rfl, env1⟩
  clear env0
  go_wp2_with fail
  refine (may_is env1 (va := (.slice Pa na ca)) (xs := xa) (by simp) Ma.out).mono ?_
  rintro e w2 ⟨rfl, env2⟩
  clear env1
  have HB := Lib.hid env2.1
  clear env2
  go_wp2
  go_ret
  exact ⟨rfl, HB.out⟩

set_option maxRecDepth 100000 in
set_option maxHeartbeats 8000000 in
theorem dprod_badb {Pa : Option Addr} {na ca : Nat} {Pb : Option Addr} {nb cb : Nat} {Pr : Option Addr} {nr cr : Nat} {xa xb xr : List Nat} (w : World)  (ha : Arg w (.slice Pa na ca) (xa)) (hb : Arg w (.slice Pb nb cb) (xb)) (hr : Arg w (.slice Pr nr cr) (xr)) (la : (xa).length ≤ 200) (lb : (xb).length ≤ 200) (lr : (xr).length ≤ 200) (ma : mayb xa = true) (mb : mayb xb = false) : Calls Try.prog 9 #[(.slice Pa na ca), (.slice Pb nb cb), (.slice Pr nr cr)] w fun e w' => e = .returned (.bool true) ∧ Below w.heap.size w w' := by
  have hna : na = (xa).length := by obtain ⟨_, _, e, _⟩ := ha; injection e
  have hnb : nb = (xb).length := by obtain ⟨_, _, e, _⟩ := hb; injection e
  have hnr : nr = (xr).length := by obtain ⟨_, _, e, _⟩ := hr; injection e
  have pa : decide ((200 : Int) < (na : Int)) = false := decide_eq_false (by omega)
  have pb : decide ((200 : Int) < (nb : Int)) = false := decide_eq_false (by omega)
  have pr : decide ((200 : Int) < (nr : Int)) = false := decide_eq_false (by omega)
  have Ma := Lib.hid ma
  have Mb := Lib.hid mb
  clear la lb lr ma mb
  have env0 : Env w w [((.slice Pa na ca), xa), ((.slice Pb nb cb), xb), ((.slice Pr nr cr), xr)] := ((((env_start w).add (Below.refl _ _) hr).add (Below.refl _ _) hb).add (Below.refl _ _) ha)
  clear ha hna hb hnb hr hnr
  go_enter Try.func9, Try.ntmps9
  go_wp2_with fail
  refine (awake3_env env0).mono ?_
  rintro e w1 ⟨rfl, env1⟩
  clear env0
  go_wp2_with fail
  refine (may_is env1 (va := (.slice Pa na ca)) (xs := xa) (by simp) Ma.out).mono ?_
  rintro e w2 ⟨rfl, env2⟩
  clear env1
  go_wp2_with fail
  refine (may_is env2 (va := (.slice Pb nb cb)) (xs := xb) (by simp) Mb.out).mono ?_
  rintro e w3 ⟨rfl, env3⟩
  clear env2
  have HB := Lib.hid env3.1
  clear env3
  go_wp2
  go_ret
  exact ⟨rfl, HB.out⟩

set_option maxRecDepth 100000 in
set_option maxHeartbeats 8000000 in
theorem dprod_badr {Pa : Option Addr} {na ca : Nat} {Pb : Option Addr} {nb cb : Nat} {Pr : Option Addr} {nr cr : Nat} {xa xb xr : List Nat} (w : World)  (ha : Arg w (.slice Pa na ca) (xa)) (hb : Arg w (.slice Pb nb cb) (xb)) (hr : Arg w (.slice Pr nr cr) (xr)) (la : (xa).length ≤ 200) (lb : (xb).length ≤ 200) (lr : (xr).length ≤ 200) (ma : mayb xa = true) (mb : mayb xb = true) (mr : mayb xr = false) : Calls Try.prog 9 #[(.slice Pa na ca), (.slice Pb nb cb), (.slice Pr nr cr)] w fun e w' => e = .returned (.bool true) ∧ Below w.heap.size w w' := by
  have hna : na = (xa).length := by obtain ⟨_, _, e, _⟩ := ha; injection e
  have hnb : nb = (xb).length := by obtain ⟨_, _, e, _⟩ := hb; injection e
  have hnr : nr = (xr).length := by obtain ⟨_, _, e, _⟩ := hr; injection e
  have pa : decide ((200 : Int) < (na : Int)) = false := decide_eq_false (by omega)
  have pb : decide ((200 : Int) < (nb : Int)) = false := decide_eq_false (by omega)
  have pr : decide ((200 : Int) < (nr : Int)) = false := decide_eq_false (by omega)
  have Ma := Lib.hid ma
  have Mb := Lib.hid mb
  have Mr := Lib.hid mr
  clear la lb lr ma mb mr
  have env0 : Env w w [((.slice Pa na ca), xa), ((.slice Pb nb cb), xb), ((.slice Pr nr cr), xr)] := ((((env_start w).add (Below.refl _ _) hr).add (Below.refl _ _) hb).add (Below.refl _ _) ha)
  clear ha hna hb hnb hr hnr
  go_enter Try.func9, Try.ntmps9
  go_wp2_with fail
  refine (awake3_env env0).mono ?_
  rintro e w1 ⟨rfl, env1⟩
  clear env0
  go_wp2_with fail
  refine (may_is env1 (va := (.slice Pa na ca)) (xs := xa) (by simp) Ma.out).mono ?_
  rintro e w2 ⟨rfl, env2⟩
  clear env1
  go_wp2_with fail
  refine (may_is env2 (va := (.slice Pb nb cb)) (xs := xb) (by simp) Mb.out).mono ?_
  rintro e w3 ⟨rfl, env3⟩
  clear env2
  go_wp2_with fail
  refine (may_is env3 (va := (.slice Pr nr cr)) (xs := xr) (by simp) Mr.out).mono ?_
  rintro e w4 ⟨rfl, env4⟩
  clear env3
  have HB := Lib.hid env4.1
  clear env4
  go_wp2
  go_ret
  exact ⟨rfl, HB.out⟩

set_option maxRecDepth 100000 in
set_option maxHeartbeats 8000000 in
theorem dprod_zero {Pa : Option Addr} {na ca : Nat} {Pb : Option Addr} {nb cb : Nat} {Pr : Option Addr} {nr cr : Nat} {xa xb xr : List Nat} (w : World)  (ha : Arg w (.slice Pa na ca) (xa)) (hb : Arg w (.slice Pb nb cb) (xb)) (hr : Arg w (.slice Pr nr cr) (xr)) (la : (xa).length ≤ 200) (lb : (xb).length ≤ 200) (lr : (xr).length ≤ 200) (ma : mayb xa = true) (mb : mayb xb = true) (mr : mayb xr = true) (hb0 : xb.length = 0) : Calls Try.prog 9 #[(.slice Pa na ca), (.slice Pb nb cb), (.slice Pr nr cr)] w fun e w' => e = .returned (.bool true) ∧ Below w.heap.size w w' := by
  have hna : na = (xa).length := by obtain ⟨_, _, e, _⟩ := ha; injection e
  have hnb : nb = (xb).length := by obtain ⟨_, _, e, _⟩ := hb; injection e
  have hnr : nr = (xr).length := by obtain ⟨_, _, e, _⟩ := hr; injection e
  have pa : decide ((200 : Int) < (na : Int)) = false := decide_eq_false (by omega)
  have pb : decide ((200 : Int) < (nb : Int)) = false := decide_eq_false (by omega)
  have pr : decide ((200 : Int) < (nr : Int)) = false := decide_eq_false (by omega)
  have Ma := Lib.hid ma
  have Mb := Lib.hid mb
  have Mr := Lib.hid mr
  have z1 : ((nb : Int) == 0) = true := beq_iff_eq.2 (by omega)
  clear hb0
  clear la lb lr ma mb mr
  have env0 : Env w w [((.slice Pa na ca), xa), ((.slice Pb nb cb), xb), ((.slice Pr nr cr), xr)] := ((((env_start w).add (Below.refl _ _) hr).add (Below.refl _ _) hb).add (Below.refl _ _) ha)
  clear ha hna hb hnb hr hnr
  go_enter Try.func9, Try.ntmps9
  go_wp2_with fail
  refine (awake3_env env0).mono ?_
  rintro e w1 ⟨rfl, env1⟩
  clear env0
  go_wp2_with fail
  refine (may_is env1 (va := (.slice Pa na ca)) (xs := xa) (by simp) Ma.out).mono ?_
  rintro e w2 ⟨rfl, env2⟩
  clear env1
  go_wp2_with fail
  refine (may_is env2 (va := (.slice Pb nb cb)) (xs := xb) (by simp) Mb.out).mono ?_
  rintro e w3 ⟨rfl, env3⟩
  clear env2
  go_wp2_with fail
  refine (may_is env3 (va := (.slice Pr nr cr)) (xs := xr) (by simp) Mr.out).mono ?_
  rintro e w4 ⟨rfl, env4⟩
  clear env3
  have HB := Lib.hid env4.1
  clear env4
  go_wp2
  go_ret
  exact ⟨rfl, HB.out⟩

set_option maxRecDepth 100000 in
set_option maxHeartbeats 8000000 in
theorem dprod_ge {Pa : Option Addr} {na ca : Nat} {Pb : Option Addr} {nb cb : Nat} {Pr : Option Addr} {nr cr : Nat} {A B R : Nat} (w : World)  (ha : Arg w (.slice Pa na ca) (lim A)) (hb : Arg w (.slice Pb nb cb) (lim B)) (hr : Arg w (.slice Pr nr cr) (lim R)) (la : (lim A).length ≤ 200) (lb : (lim B).length ≤ 200) (lr : (lim R).length ≤ 200) (hB0 : 0 < B) (hR : B ≤ R) : Calls Try.prog 9 #[(.slice Pa na ca), (.slice Pb nb cb), (.slice Pr nr cr)] w fun e w' => e = .returned (.bool true) ∧ Below w.heap.size w w' := by
  have hna : na = (lim A).length := by obtain ⟨_, _, e, _⟩ := ha; injection e
  have hnb : nb = (lim B).length := by obtain ⟨_, _, e, _⟩ := hb; injection e
  have hnr : nr = (lim R).length := by obtain ⟨_, _, e, _⟩ := hr; injection e
  have pa : decide ((200 : Int) < (na : Int)) = false := decide_eq_false (by omega)
  have pb : decide ((200 : Int) < (nb : Int)) = false := decide_eq_false (by omega)
  have pr : decide ((200 : Int) < (nr : Int)) = false := decide_eq_false (by omega)
  have hbp := lim_pos_len hB0
  have z1 : ((nb : Int) == 0) = false := beq_eq_false_iff_ne.2 (by omega)
  have k1 := len_mulD A B
  have MA := Lib.hid (mayb_lim (n := A) (by omega))
  have MB := Lib.hid (mayb_lim (n := B) (by omega))
  have MR := Lib.hid (mayb_lim (n := R) (by omega))
  have HP := Lib.hid (mul_limD (a := A) (b := B) (by omega))
  have HE := Lib.hid (div_lim_E (A := A * B) (B := B) (by omega) (by omega) hB0)
  have HQ := Lib.hid (show sDivQ (lim (A * B)) (lim B) = lim A by rw [div_lim_Q (by omega) (by omega) hB0, Nat.mul_div_cancel _ hB0])
  have HR := Lib.hid (show sDivR (lim (A * B)) (lim B) = [] by rw [div_lim_R (by omega) (by omega) hB0, Nat.mul_mod_left, lim_zero])
  obtain ⟨z, hz1, hz2⟩ := cmpN_ge hR
  have HC := Lib.hid (show sCmp (lim R) (lim B) = z by rw [cmp_limD (by omega) (by omega), hz1])
  clear k1 hbp hB0 la lb lr hR hz1
  have env0 : Env w w [((.slice Pa na ca), lim A), ((.slice Pb nb cb), lim B), ((.slice Pr nr cr), lim R)] := ((((env_start w).add (Below.refl _ _) hr).add (Below.refl _ _) hb).add (Below.refl _ _) ha)
  clear ha hna hb hnb hr hnr
  go_enter Try.func9, Try.ntmps9
  go_wp2_with fail
  refine (awake3_env env0).mono ?_
  rintro e w1 ⟨rfl, env1⟩
  clear env0
  go_wp2_with fail
  refine (may_is env1 (va := (.slice Pa na ca)) (xs := lim A) (by simp) MA.out).mono ?_
  rintro e w2 ⟨rfl, env2⟩
  clear env1
  go_wp2_with fail
  refine (may_is env2 (va := (.slice Pb nb cb)) (xs := lim B) (by simp) MB.out).mono ?_
  rintro e w3 ⟨rfl, env3⟩
  clear env2
  go_wp2_with fail
  refine (may_is env3 (va := (.slice Pr nr cr)) (xs := lim R) (by simp) MR.out).mono ?_
  rintro e w4 ⟨rfl, env4⟩
  clear env3
  go_wp2_with fail
  refine (mul_is env4 (va := (.slice Pa na ca)) (vb := (.slice Pb nb cb)) (xs := lim A) (ys := lim B) (by simp) (by simp) HP.out).mono ?_
  rintro e w5 ⟨r5, rfl, env5⟩
  clear env4
  go_wp2_with fail
  refine (divmod_is env5 (va := r5) (vb := (.slice Pb nb cb)) (xs := lim (A * B)) (ys := lim B) (by simp) (by simp) HQ.out HR.out HE.out).mono ?_
  rintro e w6 ⟨q6, r6, rfl, env6⟩
  clear env5
  obtain ⟨Ar6, capr6, rfl, _⟩ := env6.get (v := r6) (xs := []) (by simp)
  go_wp2_with fail
  refine (same3_yes env6 (va := q6) (vb := (.slice Pa na ca)) (xs := lim A) (ys := lim A) (by simp) (by simp) rfl).mono ?_
  rintro e w7 ⟨rfl, env7⟩
  clear env6
  go_wp2_with fail
  refine (cmp_is env7 (va := (.slice Pr nr cr)) (vb := (.slice Pb nb cb)) (xs := lim R) (ys := lim B) (by simp) (by simp) HC.out).mono ?_
  rintro e w8 ⟨rfl, env8⟩
  clear env7
  have HB := Lib.hid env8.1
  clear env8
  go_wp2
  go_ret
  exact ⟨rfl, HB.out⟩

set_option maxRecDepth 100000 in
set_option maxHeartbeats 8000000 in
theorem dprod_lt {Pa : Option Addr} {na ca : Nat} {Pb : Option Addr} {nb cb : Nat} {Pr : Option Addr} {nr cr : Nat} {A B R : Nat} (w : World)  (ha : Arg w (.slice Pa na ca) (lim A)) (hb : Arg w (.slice Pb nb cb) (lim B)) (hr : Arg w (.slice Pr nr cr) (lim R)) (la : (lim A).length ≤ 200) (lb : (lim B).length ≤ 200) (lr : (lim R).length ≤ 200) (hB0 : 0 < B) (hR : R < B) : Calls Try.prog 9 #[(.slice Pa na ca), (.slice Pb nb cb), (.slice Pr nr cr)] w fun e w' => e = .returned (.bool true) ∧ Below w.heap.size w w' := by
  have hna : na = (lim A).length := by obtain ⟨_, _, e, _⟩ := ha; injection e
  have hnb : nb = (lim B).length := by obtain ⟨_, _, e, _⟩ := hb; injection e
  have hnr : nr = (lim R).length := by obtain ⟨_, _, e, _⟩ := hr; injection e
  have pa : decide ((200 : Int) < (na : Int)) = false := decide_eq_false (by omega)
  have pb : decide ((200 : Int) < (nb : Int)) = false := decide_eq_false (by omega)
  have pr : decide ((200 : Int) < (nr : Int)) = false := decide_eq_false (by omega)
  have hbp := lim_pos_len hB0
  have z1 : ((nb : Int) == 0) = false := beq_eq_false_iff_ne.2 (by omega)
  have k1 := len_mulD A B
  have MA := Lib.hid (mayb_lim (n := A) (by omega))
  have MB := Lib.hid (mayb_lim (n := B) (by omega))
  have MR := Lib.hid (mayb_lim (n := R) (by omega))
  have HP := Lib.hid (mul_limD (a := A) (b := B) (by omega))
  have HE := Lib.hid (div_lim_E (A := A * B) (B := B) (by omega) (by omega) hB0)
  have HQ := Lib.hid (show sDivQ (lim (A * B)) (lim B) = lim A by rw [div_lim_Q (by omega) (by omega) hB0, Nat.mul_div_cancel _ hB0])
  have HR := Lib.hid (show sDivR (lim (A * B)) (lim B) = [] by rw [div_lim_R (by omega) (by omega) hB0, Nat.mul_mod_left, lim_zero])
  have HC := Lib.hid (show sCmp (lim R) (lim B) = -1 by rw [cmp_limD (by omega) (by omega), cmpN_lt hR])
  have k2 := len_addD (A * B) R
  have HA := Lib.hid (add_limD (a := A * B) (b := R) (by omega) (by omega))
  have hu := (Nat.div_mod_unique (a := A * B + R) (b := B) (c := R) (d := A) hB0).2 ⟨by rw [Nat.mul_comm B]; omega, hR⟩
  have HE2 := Lib.hid (div_lim_E (A := A * B + R) (B := B) (by omega) (by omega) hB0)
  have HQ2 := Lib.hid (show sDivQ (lim (A * B + R)) (lim B) = lim A by rw [div_lim_Q (by omega) (by omega) hB0, hu.1])
  have HR2 := Lib.hid (show sDivR (lim (A * B + R)) (lim B) = lim R by rw [div_lim_R (by omega) (by omega) hB0, hu.2])
  clear k1 hbp hB0 la lb lr hR k2 hu
  have env0 : Env w w [((.slice Pa na ca), lim A), ((.slice Pb nb cb), lim B), ((.slice Pr nr cr), lim R)] := ((((env_start w).add (Below.refl _ _) hr).add (Below.refl _ _) hb).add (Below.refl _ _) ha)
  clear ha hna hb hnb hr hnr
  go_enter Try.func9, Try.ntmps9
  go_wp2_with fail
  refine (awake3_env env0).mono ?_
  rintro e w1 ⟨rfl, env1⟩
  clear env0
  go_wp2_with fail
  refine (may_is env1 (va := (.slice Pa na ca)) (xs := lim A) (by simp) MA.out).mono ?_
  rintro e w2 ⟨rfl, env2⟩
  clear env1
  go_wp2_with fail
  refine (may_is env2 (va := (.slice Pb nb cb)) (xs := lim B) (by simp) MB.out).mono ?_
  rintro e w3 ⟨rfl, env3⟩
  clear env2
  go_wp2_with fail
  refine (may_is env3 (va := (.slice Pr nr cr)) (xs := lim R) (by simp) MR.out).mono ?_
  rintro e w4 ⟨rfl, env4⟩
  clear env3
  go_wp2_with fail
  refine (mul_is env4 (va := (.slice Pa na ca)) (vb := (.slice Pb nb cb)) (xs := lim A) (ys := lim B) (by simp) (by simp) HP.out).mono ?_
  rintro e w5 ⟨r5, rfl, env5⟩
  clear env4
  go_wp2_with fail
  refine (divmod_is env5 (va := r5) (vb := (.slice Pb nb cb)) (xs := lim (A * B)) (ys := lim B) (by simp) (by simp) HQ.out HR.out HE.out).mono ?_
  rintro e w6 ⟨q6, r6, rfl, env6⟩
  clear env5
  obtain ⟨Ar6, capr6, rfl, _⟩ := env6.get (v := r6) (xs := []) (by simp)
  go_wp2_with fail
  refine (same3_yes env6 (va := q6) (vb := (.slice Pa na ca)) (xs := lim A) (ys := lim A) (by simp) (by simp) rfl).mono ?_
  rintro e w7 ⟨rfl, env7⟩
  clear env6
  go_wp2_with fail
  refine (cmp_is env7 (va := (.slice Pr nr cr)) (vb := (.slice Pb nb cb)) (xs := lim R) (ys := lim B) (by simp) (by simp) HC.out).mono ?_
  rintro e w8 ⟨rfl, env8⟩
  clear env7
  go_wp2_with fail
  refine (add_is env8 (va := r5) (vb := (.slice Pr nr cr)) (xs := lim (A * B)) (ys := lim R) (by simp) (by simp) HA.out).mono ?_
  rintro e w9 ⟨r9, rfl, env9⟩
  clear env8
  go_wp2_with fail
  refine (divmod_is env9 (va := r9) (vb := (.slice Pb nb cb)) (xs := lim (A * B + R)) (ys := lim B) (by simp) (by simp) HQ2.out HR2.out HE2.out).mono ?_
  rintro e w10 ⟨q10, r10, rfl, env10⟩
  clear env9
  go_wp2_with fail
  refine (same3_yes env10 (va := q10) (vb := (.slice Pa na ca)) (xs := lim A) (ys := lim A) (by simp) (by simp) rfl).mono ?_
  rintro e w11 ⟨rfl, env11⟩
  clear env10
  go_wp2_with fail
  refine (same3_yes env11 (va := r10) (vb := (.slice Pr nr cr)) (xs := lim R) (ys := lim R) (by simp) (by simp) rfl).mono ?_
  rintro e w12 ⟨rfl, env12⟩
  clear env11
  have HB := Lib.hid env12.1
  clear env12
  go_wp2
  go_ret
  exact ⟨rfl, HB.out⟩

theorem dprod_law {Pa : Option Addr} {na ca : Nat} {Pb : Option Addr} {nb cb : Nat} {Pr : Option Addr} {nr cr : Nat} {xa xb xr : List Nat} (w : World) (ha : Arg w (.slice Pa na ca) xa) (hb : Arg w (.slice Pb nb cb) xb) (hr : Arg w (.slice Pr nr cr) xr) : Calls Try.prog 9 #[(.slice Pa na ca), (.slice Pb nb cb), (.slice Pr nr cr)] w (fun e w' => e = .returned (.bool true) ∧ Below w.heap.size w w') := by
  rcases Nat.lt_or_ge 200 xa.length with la | la
  · exact dprod_longa w ha hb hr la
  rcases Nat.lt_or_ge 200 xb.length with lb | lb
  · exact dprod_longb w ha hb hr la lb
  rcases Nat.lt_or_ge 200 xr.length with lr | lr
  · exact dprod_longr w ha hb hr la lb lr
  rcases ma : mayb xa with _ | _
  · exact dprod_bada w ha hb hr la lb lr ma
  rcases mb : mayb xb with _ | _
  · exact dprod_badb w ha hb hr la lb lr ma mb
  rcases mr : mayb xr with _ | _
  · exact dprod_badr w ha hb hr la lb lr ma mb mr
  rcases Nat.eq_zero_or_pos xb.length with hb0 | hb0
  · exact dprod_zero w ha hb hr la lb lr ma mb mr hb0
  obtain ⟨A, rfl⟩ := may_limD ha.limbs ma
  obtain ⟨B, rfl⟩ := may_limD hb.limbs mb
  obtain ⟨R, rfl⟩ := may_limD hr.limbs mr
  have hB0 : 0 < B := by
    rcases Nat.eq_zero_or_pos B with h | h
    · subst h; rw [lim_zero] at hb0; simp at hb0
    · exact h
  rcases Nat.lt_or_ge R B with hR | hR
  · exact dprod_lt w ha hb hr la lb lr hB0 hR
  · exact dprod_ge w ha hb hr la lb lr hB0 hR

end Go.Proofs.Ytidflhonhekmjaa

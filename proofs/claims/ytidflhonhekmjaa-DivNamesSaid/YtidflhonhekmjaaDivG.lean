/- DivParts. -/
import Derived.Test.YtidflhonhekmjaaDivF
namespace Go.Proofs.Ytidflhonhekmjaa
open Go.RowKit Go.Shelf

set_option linter.unusedVariables false

theorem div_lim_E {A B : Nat} (ha : (lim A).length ≤ 65536) (hb : (lim B).length ≤ 65536) (h0 : 0 < B) : sDivE (lim A) (lim B) = 0 :=
  sDivE_yes (mayb_lim ha) (mayb_lim hb) (List.length_pos_iff.2 fun e => by have := lim_eq_nil.1 e; omega)
theorem div_lim_Q {A B : Nat} (ha : (lim A).length ≤ 65536) (hb : (lim B).length ≤ 65536) (h0 : 0 < B) : sDivQ (lim A) (lim B) = lim (A / B) := by
  rw [sDivQ_ok (div_lim_E ha hb h0), val_lim, val_lim]
theorem div_lim_R {A B : Nat} (ha : (lim A).length ≤ 65536) (hb : (lim B).length ≤ 65536) (h0 : 0 < B) : sDivR (lim A) (lim B) = lim (A % B) := by
  rw [sDivR_ok (div_lim_E ha hb h0), val_lim, val_lim]
theorem len_mulD (a b : Nat) : (lim (a * b)).length ≤ (lim a).length + (lim b).length := by
  refine lim_le ?_
  rw [Nat.pow_add]
  have h1 := val_lt (lim_limbs a)
  have h2 := val_lt (lim_limbs b)
  rw [val_lim] at h1 h2
  exact Nat.mul_lt_mul'' h1 h2
theorem len_addD (a b : Nat) : (lim (a + b)).length ≤ max (lim a).length (lim b).length + 1 := by
  have h := sum_room (s := a) (p := b) (n := max (lim a).length (lim b).length + 1) (by omega) (by omega)
  exact lim_le h
theorem mul_limD {a b : Nat} (h : (lim a).length + (lim b).length ≤ 65536) : sMul (lim a) (lim b) = lim (a * b) := by
  have := len_mulD a b
  rw [sMul_yes (by rw [mayb_lim (by omega), mayb_lim (by omega)]; rfl), val_lim, val_lim, clip_of (by omega)]
theorem add_limD {a b : Nat} (h : (lim a).length < 65536) (h' : (lim b).length < 65536) : sAdd (lim a) (lim b) = lim (a + b) := by
  have := len_addD a b
  rw [sAdd_yes (by rw [mayb_lim (by omega), mayb_lim (by omega)]; rfl), val_lim, val_lim, clip_of (by omega)]
theorem cmp_limD {a b : Nat} (h : (lim a).length ≤ 65536) (h' : (lim b).length ≤ 65536) : sCmp (lim a) (lim b) = cmpN a b := by
  rw [sCmp_yes (by rw [mayb_lim h, mayb_lim h']; rfl), val_lim, val_lim]
theorem may_limD {xs : List Nat} (hl : Limbs xs) (h : mayb xs = true) : ∃ a, xs = lim a := ⟨val xs, (lim_val (mayb_canon hl h)).symm⟩
theorem lim_pos_len {B : Nat} (h : 0 < B) : 0 < (lim B).length := List.length_pos_iff.2 fun e => by have := lim_eq_nil.1 e; omega
theorem eqb_no {xs ys : List Nat} (h : xs ≠ ys) : eqb xs ys = false := by unfold eqb; rw [decide_eq_false h]
theorem cmpN_ge {a b : Nat} (h : b ≤ a) : ∃ z : Int, cmpN a b = z ∧ 0 ≤ z := by
  rcases Nat.lt_or_ge b a with h1 | h1
  · exact ⟨1, cmpN_gt h1, by decide⟩
  · exact ⟨0, cmpN_eq (by omega), by decide⟩

set_option maxRecDepth 100000 in
set_option maxHeartbeats 8000000 in
theorem dparts_longa {Pa : Option Addr} {na ca : Nat} {Pb : Option Addr} {nb cb : Nat} {Pq : Option Addr} {nq cq : Nat} {Pr : Option Addr} {nr cr : Nat} {xa xb xq xr : List Nat} (w : World)  (ha : Arg w (.slice Pa na ca) (xa)) (hb : Arg w (.slice Pb nb cb) (xb)) (hq : Arg w (.slice Pq nq cq) (xq)) (hr : Arg w (.slice Pr nr cr) (xr))  (la : 300 < xa.length) : Calls Try.prog 8 #[(.slice Pa na ca), (.slice Pb nb cb), (.slice Pq nq cq), (.slice Pr nr cr)] w fun e w' => e = .returned (.bool true) ∧ Below w.heap.size w w' := by
  have hna : na = (xa).length := by obtain ⟨_, _, e, _⟩ := ha; injection e
  have hnb : nb = (xb).length := by obtain ⟨_, _, e, _⟩ := hb; injection e
  have hnq : nq = (xq).length := by obtain ⟨_, _, e, _⟩ := hq; injection e
  have hnr : nr = (xr).length := by obtain ⟨_, _, e, _⟩ := hr; injection e
  have pa : decide ((300 : Int) < (na : Int)) = true := decide_eq_true (by omega)
  clear la
  have env0 : Env w w [((.slice Pa na ca), xa), ((.slice Pb nb cb), xb), ((.slice Pq nq cq), xq), ((.slice Pr nr cr), xr)] := (((((env_start w).add (Below.refl _ _) hr).add (Below.refl _ _) hq).add (Below.refl _ _) hb).add (Below.refl _ _) ha)
  clear ha hna hb hnb hq hnq hr hnr
  go_enter Try.func8, Try.ntmps8
  go_wp2_with fail
  refine (awake3_env env0).mono ?_
  rintro e w1 ⟨rfl, env1⟩
  clear env0
  have HB := Lib.hid env1.1
  clear env1
  go_wp2
  go_ret
  exact ⟨rfl, HB.out⟩

set_option maxRecDepth 100000 in
set_option maxHeartbeats 8000000 in
theorem dparts_longb {Pa : Option Addr} {na ca : Nat} {Pb : Option Addr} {nb cb : Nat} {Pq : Option Addr} {nq cq : Nat} {Pr : Option Addr} {nr cr : Nat} {xa xb xq xr : List Nat} (w : World)  (ha : Arg w (.slice Pa na ca) (xa)) (hb : Arg w (.slice Pb nb cb) (xb)) (hq : Arg w (.slice Pq nq cq) (xq)) (hr : Arg w (.slice Pr nr cr) (xr)) (la : xa.length ≤ 300) (lb : 300 < xb.length) : Calls Try.prog 8 #[(.slice Pa na ca), (.slice Pb nb cb), (.slice Pq nq cq), (.slice Pr nr cr)] w fun e w' => e = .returned (.bool true) ∧ Below w.heap.size w w' := by
  have hna : na = (xa).length := by obtain ⟨_, _, e, _⟩ := ha; injection e
  have hnb : nb = (xb).length := by obtain ⟨_, _, e, _⟩ := hb; injection e
  have hnq : nq = (xq).length := by obtain ⟨_, _, e, _⟩ := hq; injection e
  have hnr : nr = (xr).length := by obtain ⟨_, _, e, _⟩ := hr; injection e
  have pa : decide ((300 : Int) < (na : Int)) = false := decide_eq_false (by omega)
  have pb : decide ((300 : Int) < (nb : Int)) = true := decide_eq_true (by omega)
  clear la lb
  have env0 : Env w w [((.slice Pa na ca), xa), ((.slice Pb nb cb), xb), ((.slice Pq nq cq), xq), ((.slice Pr nr cr), xr)] := (((((env_start w).add (Below.refl _ _) hr).add (Below.refl _ _) hq).add (Below.refl _ _) hb).add (Below.refl _ _) ha)
  clear ha hna hb hnb hq hnq hr hnr
  go_enter Try.func8, Try.ntmps8
  go_wp2_with fail
  refine (awake3_env env0).mono ?_
  rintro e w1 ⟨rfl, env1⟩
  clear env0
  have HB := Lib.hid env1.1
  clear env1
  go_wp2
  go_ret
  exact ⟨rfl, HB.out⟩

set_option maxRecDepth 100000 in
set_option maxHeartbeats 8000000 in
theorem dparts_longq {Pa : Option Addr} {na ca : Nat} {Pb : Option Addr} {nb cb : Nat} {Pq : Option Addr} {nq cq : Nat} {Pr : Option Addr} {nr cr : Nat} {xa xb xq xr : List Nat} (w : World)  (ha : Arg w (.slice Pa na ca) (xa)) (hb : Arg w (.slice Pb nb cb) (xb)) (hq : Arg w (.slice Pq nq cq) (xq)) (hr : Arg w (.slice Pr nr cr) (xr)) (la : xa.length ≤ 300) (lb : xb.length ≤ 300) (lq : 300 < xq.length) : Calls Try.prog 8 #[(.slice Pa na ca), (.slice Pb nb cb), (.slice Pq nq cq), (.slice Pr nr cr)] w fun e w' => e = .returned (.bool true) ∧ Below w.heap.size w w' := by
  have hna : na = (xa).length := by obtain ⟨_, _, e, _⟩ := ha; injection e
  have hnb : nb = (xb).length := by obtain ⟨_, _, e, _⟩ := hb; injection e
  have hnq : nq = (xq).length := by obtain ⟨_, _, e, _⟩ := hq; injection e
  have hnr : nr = (xr).length := by obtain ⟨_, _, e, _⟩ := hr; injection e
  have pa : decide ((300 : Int) < (na : Int)) = false := decide_eq_false (by omega)
  have pb : decide ((300 : Int) < (nb : Int)) = false := decide_eq_false (by omega)
  have pq : decide ((300 : Int) < (nq : Int)) = true := decide_eq_true (by omega)
  clear la lb lq
  have env0 : Env w w [((.slice Pa na ca), xa), ((.slice Pb nb cb), xb), ((.slice Pq nq cq), xq), ((.slice Pr nr cr), xr)] := (((((env_start w).add (Below.refl _ _) hr).add (Below.refl _ _) hq).add (Below.refl _ _) hb).add (Below.refl _ _) ha)
  clear ha hna hb hnb hq hnq hr hnr
  go_enter Try.func8, Try.ntmps8
  go_wp2_with fail
  refine (awake3_env env0).mono ?_
  rintro e w1 ⟨rfl, env1⟩
  clear env0
  have HB := Lib.hid env1.1
  clear env1
  go_wp2
  go_ret
  exact ⟨rfl, HB.out⟩

set_option maxRecDepth 100000 in
set_option maxHeartbeats 8000000 in
theorem dparts_longr {Pa : Option Addr} {na ca : Nat} {Pb : Option Addr} {nb cb : Nat} {Pq : Option Addr} {nq cq : Nat} {Pr : Option Addr} {nr cr : Nat} {xa xb xq xr : List Nat} (w : World)  (ha : Arg w (.slice Pa na ca) (xa)) (hb : Arg w (.slice Pb nb cb) (xb)) (hq : Arg w (.slice Pq nq cq) (xq)) (hr : Arg w (.slice Pr nr cr) (xr)) (la : xa.length ≤ 300) (lb : xb.length ≤ 300) (lq : xq.length ≤ 300) (lr : 300 < xr.length) : Calls Try.prog 8 #[(.slice Pa na ca), (.slice Pb nb cb), (.slice Pq nq cq), (.slice Pr nr cr)] w fun e w' => e = .returned (.bool true) ∧ Below w.heap.size w w' := by
  have hna : na = (xa).length := by obtain ⟨_, _, e, _⟩ := ha; injection e
  have hnb : nb = (xb).length := by obtain ⟨_, _, e, _⟩ := hb; injection e
  have hnq : nq = (xq).length := by obtain ⟨_, _, e, _⟩ := hq; injection e
  have hnr : nr = (xr).length := by obtain ⟨_, _, e, _⟩ := hr; injection e
  have pa : decide ((300 : Int) < (na : Int)) = false := decide_eq_false (by omega)
  have pb : decide ((300 : Int) < (nb : Int)) = false := decide_eq_false (by omega)
  have pq : decide ((300 : Int) < (nq : Int)) = false := decide_eq_false (by omega)
  have pr : decide ((300 : Int) < (nr : Int)) = true := decide_eq_true (by omega)
  clear la lb lq lr
  have env0 : Env w w [((.slice Pa na ca), xa), ((.slice Pb nb cb), xb), ((.slice Pq nq cq), xq), ((.slice Pr nr cr), xr)] := (((((env_start w).add (Below.refl _ _) hr).add (Below.refl _ _) hq).add (Below.refl _ _) hb).add (Below.refl _ _) ha)
  clear ha hna hb hnb hq hnq hr hnr
  go_enter Try.func8, Try.ntmps8
  go_wp2_with fail
  refine (awake3_env env0).mono ?_
  rintro e w1 ⟨rfl, env1⟩
  clear env0
  have HB := Lib.hid env1.1
  clear env1
  go_wp2
  go_ret
  exact ⟨rfl, HB.out⟩

set_option maxRecDepth 100000 in
set_option maxHeartbeats 8000000 in
theorem dparts_bada {Pa : Option Addr} {na ca : Nat} {Pb : Option Addr} {nb cb : Nat} {Pq : Option Addr} {nq cq : Nat} {Pr : Option Addr} {nr cr : Nat} {xa xb xq xr : List Nat} (w : World)  (ha : Arg w (.slice Pa na ca) (xa)) (hb : Arg w (.slice Pb nb cb) (xb)) (hq : Arg w (.slice Pq nq cq) (xq)) (hr : Arg w (.slice Pr nr cr) (xr)) (la : (xa).length ≤ 300) (lb : (xb).length ≤ 300) (lq : (xq).length ≤ 300) (lr : (xr).length ≤ 300) (ma : mayb xa = false) : Calls Try.prog 8 #[(.slice Pa na ca), (.slice Pb nb cb), (.slice Pq nq cq), (.slice Pr nr cr)] w fun e w' => e = .returned (.bool true) ∧ Below w.heap.size w w' := by
  have hna : na = (xa).length := by obtain ⟨_, _, e, _⟩ := ha; injection e
  have hnb : nb = (xb).length := by obtain ⟨_, _, e, _⟩ := hb; injection e
  have hnq : nq = (xq).length := by obtain ⟨_, _, e, _⟩ := hq; injection e
  have hnr : nr = (xr).length := by obtain ⟨_, _, e, _⟩ := hr; injection e
  have pa : decide ((300 : Int) < (na : Int)) = false := decide_eq_false (by omega)
  have pb : decide ((300 : Int) < (nb : Int)) = false := decide_eq_false (by omega)
  have pq : decide ((300 : Int) < (nq : Int)) = false := decide_eq_false (by omega)
  have pr : decide ((300 : Int) < (nr : Int)) = false := decide_eq_false (by omega)
  have hE : sDivE xa xb = 4 := sDivE_may (by rw [ma]; rfl)
  have HE := Lib.hid hE
  have HQ := Lib.hid (sDivQ_no (xs := xa) (ys := xb) (by rw [hE]; decide))
  have HR := Lib.hid (sDivR_no (xs := xa) (ys := xb) (by rw [hE]; decide))
  have Ma := Lib.hid ma
  clear la lb lq lr
  clear hE ma
  have env0 : Env w w [((.slice Pa na ca), xa), ((.slice Pb nb cb), xb), ((.slice Pq nq cq), xq), ((.slice Pr nr cr), xr)] := (((((env_start w).add (Below.refl _ _) hr).add (Below.refl _ _) hq).add (Below.refl _ _) hb).add (Below.refl _ _) ha)
  clear ha hna hb hnb hq hnq hr hnr
  go_enter Try.func8, Try.ntmps8
  go_wp2_with fail
  refine (awake3_env env0).mono ?_
  rintro e w1 ⟨rfl, env1⟩
  clear env0
  go_wp2_with fail
  refine (divmod_is env1 (va := (.slice Pa na ca)) (vb := (.slice Pb nb cb)) (xs := xa) (ys := xb) (by simp) (by simp) HQ.out HR.out HE.out).mono ?_
  rintro e w2 ⟨q2, r2, rfl, env2⟩
  clear env1
  obtain ⟨Aq2, capq2, rfl, _⟩ := env2.get (v := q2) (xs := []) (by simp)
  obtain ⟨Ar2, capr2, rfl, _⟩ := env2.get (v := r2) (xs := []) (by simp)
  go_wp2_with fail
  refine (may_is env2 (va := (.slice Pa na ca)) (xs := xa) (by simp) Ma.out).mono ?_
  rintro e w3 ⟨rfl, env3⟩
  clear env2
  have HB := Lib.hid env3.1
  clear env3
  go_wp2
  go_ret
  exact ⟨rfl, HB.out⟩

set_option maxRecDepth 100000 in
set_option maxHeartbeats 8000000 in
theorem dparts_badb {Pa : Option Addr} {na ca : Nat} {Pb : Option Addr} {nb cb : Nat} {Pq : Option Addr} {nq cq : Nat} {Pr : Option Addr} {nr cr : Nat} {xa xb xq xr : List Nat} (w : World)  (ha : Arg w (.slice Pa na ca) (xa)) (hb : Arg w (.slice Pb nb cb) (xb)) (hq : Arg w (.slice Pq nq cq) (xq)) (hr : Arg w (.slice Pr nr cr) (xr)) (la : (xa).length ≤ 300) (lb : (xb).length ≤ 300) (lq : (xq).length ≤ 300) (lr : (xr).length ≤ 300) (ma : mayb xa = true) (mb : mayb xb = false) : Calls Try.prog 8 #[(.slice Pa na ca), (.slice Pb nb cb), (.slice Pq nq cq), (.slice Pr nr cr)] w fun e w' => e = .returned (.bool true) ∧ Below w.heap.size w w' := by
  have hna : na = (xa).length := by obtain ⟨_, _, e, _⟩ := ha; injection e
  have hnb : nb = (xb).length := by obtain ⟨_, _, e, _⟩ := hb; injection e
  have hnq : nq = (xq).length := by obtain ⟨_, _, e, _⟩ := hq; injection e
  have hnr : nr = (xr).length := by obtain ⟨_, _, e, _⟩ := hr; injection e
  have pa : decide ((300 : Int) < (na : Int)) = false := decide_eq_false (by omega)
  have pb : decide ((300 : Int) < (nb : Int)) = false := decide_eq_false (by omega)
  have pq : decide ((300 : Int) < (nq : Int)) = false := decide_eq_false (by omega)
  have pr : decide ((300 : Int) < (nr : Int)) = false := decide_eq_false (by omega)
  have hE : sDivE xa xb = 4 := sDivE_may (by rw [ma, mb]; rfl)
  have HE := Lib.hid hE
  have HQ := Lib.hid (sDivQ_no (xs := xa) (ys := xb) (by rw [hE]; decide))
  have HR := Lib.hid (sDivR_no (xs := xa) (ys := xb) (by rw [hE]; decide))
  have Ma := Lib.hid ma
  have Mb := Lib.hid mb
  clear la lb lq lr
  clear hE ma mb
  have env0 : Env w w [((.slice Pa na ca), xa), ((.slice Pb nb cb), xb), ((.slice Pq nq cq), xq), ((.slice Pr nr cr), xr)] := (((((env_start w).add (Below.refl _ _) hr).add (Below.refl _ _) hq).add (Below.refl _ _) hb).add (Below.refl _ _) ha)
  clear ha hna hb hnb hq hnq hr hnr
  go_enter Try.func8, Try.ntmps8
  go_wp2_with fail
  refine (awake3_env env0).mono ?_
  rintro e w1 ⟨rfl, env1⟩
  clear env0
  go_wp2_with fail
  refine (divmod_is env1 (va := (.slice Pa na ca)) (vb := (.slice Pb nb cb)) (xs := xa) (ys := xb) (by simp) (by simp) HQ.out HR.out HE.out).mono ?_
  rintro e w2 ⟨q2, r2, rfl, env2⟩
  clear env1
  obtain ⟨Aq2, capq2, rfl, _⟩ := env2.get (v := q2) (xs := []) (by simp)
  obtain ⟨Ar2, capr2, rfl, _⟩ := env2.get (v := r2) (xs := []) (by simp)
  go_wp2_with fail
  refine (may_is env2 (va := (.slice Pa na ca)) (xs := xa) (by simp) Ma.out).mono ?_
  rintro e w3 ⟨rfl, env3⟩
  clear env2
  go_wp2_with fail
  refine (may_is env3 (va := (.slice Pb nb cb)) (xs := xb) (by simp) Mb.out).mono ?_
  rintro e w4 ⟨rfl, env4⟩
  clear env3
  have HB := Lib.hid env4.1
  clear env4
  go_wp2
  go_ret
  exact ⟨rfl, HB.out⟩

set_option maxRecDepth 100000 in
set_option maxHeartbeats 8000000 in
theorem dparts_zero {Pa : Option Addr} {na ca : Nat} {Pb : Option Addr} {nb cb : Nat} {Pq : Option Addr} {nq cq : Nat} {Pr : Option Addr} {nr cr : Nat} {xa xb xq xr : List Nat} (w : World)  (ha : Arg w (.slice Pa na ca) (xa)) (hb : Arg w (.slice Pb nb cb) (xb)) (hq : Arg w (.slice Pq nq cq) (xq)) (hr : Arg w (.slice Pr nr cr) (xr)) (la : (xa).length ≤ 300) (lb : (xb).length ≤ 300) (lq : (xq).length ≤ 300) (lr : (xr).length ≤ 300) (ma : mayb xa = true) (mb : mayb xb = true) (hb0 : xb.length = 0) : Calls Try.prog 8 #[(.slice Pa na ca), (.slice Pb nb cb), (.slice Pq nq cq), (.slice Pr nr cr)] w fun e w' => e = .returned (.bool true) ∧ Below w.heap.size w w' := by
  have hna : na = (xa).length := by obtain ⟨_, _, e, _⟩ := ha; injection e
  have hnb : nb = (xb).length := by obtain ⟨_, _, e, _⟩ := hb; injection e
  have hnq : nq = (xq).length := by obtain ⟨_, _, e, _⟩ := hq; injection e
  have hnr : nr = (xr).length := by obtain ⟨_, _, e, _⟩ := hr; injection e
  have pa : decide ((300 : Int) < (na : Int)) = false := decide_eq_false (by omega)
  have pb : decide ((300 : Int) < (nb : Int)) = false := decide_eq_false (by omega)
  have pq : decide ((300 : Int) < (nq : Int)) = false := decide_eq_false (by omega)
  have pr : decide ((300 : Int) < (nr : Int)) = false := decide_eq_false (by omega)
  have hE : sDivE xa xb = 41 := sDivE_zero (by rw [ma, mb]; rfl) hb0
  have HE := Lib.hid hE
  have HQ := Lib.hid (sDivQ_no (xs := xa) (ys := xb) (by rw [hE]; decide))
  have HR := Lib.hid (sDivR_no (xs := xa) (ys := xb) (by rw [hE]; decide))
  have Ma := Lib.hid ma
  have Mb := Lib.hid mb
  clear la lb lq lr
  clear hE ma mb hb0
  have env0 : Env w w [((.slice Pa na ca), xa), ((.slice Pb nb cb), xb), ((.slice Pq nq cq), xq), ((.slice Pr nr cr), xr)] := (((((env_start w).add (Below.refl _ _) hr).add (Below.refl _ _) hq).add (Below.refl _ _) hb).add (Below.refl _ _) ha)
  clear ha hna hb hnb hq hnq hr hnr
  go_enter Try.func8, Try.ntmps8
  go_wp2_with fail
  refine (awake3_env env0).mono ?_
  rintro e w1 ⟨rfl, env1⟩
  clear env0
  go_wp2_with fail
  refine (divmod_is env1 (va := (.slice Pa na ca)) (vb := (.slice Pb nb cb)) (xs := xa) (ys := xb) (by simp) (by simp) HQ.out HR.out HE.out).mono ?_
  rintro e w2 ⟨q2, r2, rfl, env2⟩
  clear env1
  obtain ⟨Aq2, capq2, rfl, _⟩ := env2.get (v := q2) (xs := []) (by simp)
  obtain ⟨Ar2, capr2, rfl, _⟩ := env2.get (v := r2) (xs := []) (by simp)
  go_wp2_with fail
  refine (may_is env2 (va := (.slice Pa na ca)) (xs := xa) (by simp) Ma.out).mono ?_
  rintro e w3 ⟨rfl, env3⟩
  clear env2
  go_wp2_with fail
  refine (may_is env3 (va := (.slice Pb nb cb)) (xs := xb) (by simp) Mb.out).mono ?_
  rintro e w4 ⟨rfl, env4⟩
  clear env3
  have HB := Lib.hid env4.1
  clear env4
  go_wp2
  go_ret
  exact ⟨rfl, HB.out⟩

set_option maxRecDepth 100000 in
set_option maxHeartbeats 8000000 in
theorem dparts_qno {Pa : Option Addr} {na ca : Nat} {Pb : Option Addr} {nb cb : Nat} {Pq : Option Addr} {nq cq : Nat} {Pr : Option Addr} {nr cr : Nat} {A B : Nat} {xq xr : List Nat} (w : World)  (ha : Arg w (.slice Pa na ca) (lim A)) (hb : Arg w (.slice Pb nb cb) (lim B)) (hq : Arg w (.slice Pq nq cq) (xq)) (hr : Arg w (.slice Pr nr cr) (xr)) (la : (lim A).length ≤ 300) (lb : (lim B).length ≤ 300) (lq : (xq).length ≤ 300) (lr : (xr).length ≤ 300) (hB0 : 0 < B) (mq : mayb xq = false) : Calls Try.prog 8 #[(.slice Pa na ca), (.slice Pb nb cb), (.slice Pq nq cq), (.slice Pr nr cr)] w fun e w' => e = .returned (.bool true) ∧ Below w.heap.size w w' := by
  have hna : na = (lim A).length := by obtain ⟨_, _, e, _⟩ := ha; injection e
  have hnb : nb = (lim B).length := by obtain ⟨_, _, e, _⟩ := hb; injection e
  have hnq : nq = (xq).length := by obtain ⟨_, _, e, _⟩ := hq; injection e
  have hnr : nr = (xr).length := by obtain ⟨_, _, e, _⟩ := hr; injection e
  have pa : decide ((300 : Int) < (na : Int)) = false := decide_eq_false (by omega)
  have pb : decide ((300 : Int) < (nb : Int)) = false := decide_eq_false (by omega)
  have pq : decide ((300 : Int) < (nq : Int)) = false := decide_eq_false (by omega)
  have pr : decide ((300 : Int) < (nr : Int)) = false := decide_eq_false (by omega)
  have hbp := lim_pos_len hB0
  have z1 : ((nb : Int) == 0) = false := beq_eq_false_iff_ne.2 (by omega)
  have k1 := lim_len_mono (Nat.div_le_self A B)
  have k2 := lim_len_mono (Nat.le_of_lt (Nat.mod_lt A hB0))
  have HE := Lib.hid (div_lim_E (A := A) (B := B) (by omega) (by omega) hB0)
  have HQ := Lib.hid (div_lim_Q (A := A) (B := B) (by omega) (by omega) hB0)
  have HR := Lib.hid (div_lim_R (A := A) (B := B) (by omega) (by omega) hB0)
  have HM1 := Lib.hid (mayb_lim (n := A / B) (by omega))
  have HM2 := Lib.hid (mayb_lim (n := A % B) (by omega))
  have k3 := len_mulD (A / B) B
  have HP := Lib.hid (mul_limD (a := A / B) (b := B) (by omega))
  have HA := Lib.hid (show sAdd (lim (A / B * B)) (lim (A % B)) = lim A by rw [add_limD (by omega) (by omega), Nat.div_add_mod'])
  have HC := Lib.hid (show sCmp (lim (A % B)) (lim B) = -1 by rw [cmp_limD (by omega) (by omega), cmpN_lt (Nat.mod_lt A hB0)])
  have MQ := Lib.hid mq
  clear k1 k2 k3 hbp hB0 mq
  clear la lb lq lr
  have env0 : Env w w [((.slice Pa na ca), lim A), ((.slice Pb nb cb), lim B), ((.slice Pq nq cq), xq), ((.slice Pr nr cr), xr)] := (((((env_start w).add (Below.refl _ _) hr).add (Below.refl _ _) hq).add (Below.refl _ _) hb).add (Below.refl _ _) ha)
  clear ha hna hb hnb hq hnq hr hnr
  go_enter Try.func8, Try.ntmps8
  go_wp2_with fail
  refine (awake3_env env0).mono ?_
  rintro e w1 ⟨rfl, env1⟩
  clear env0
  go_wp2_with fail
  refine (divmod_is env1 (va := (.slice Pa na ca)) (vb := (.slice Pb nb cb)) (xs := lim A) (ys := lim B) (by simp) (by simp) HQ.out HR.out HE.out).mono ?_
  rintro e w2 ⟨q2, r2, rfl, env2⟩
  clear env1
  go_wp2_with fail
  refine (may_is env2 (va := q2) (xs := lim (A / B)) (by simp) HM1.out).mono ?_
  rintro e w3 ⟨rfl, env3⟩
  clear env2
  go_wp2_with fail
  refine (may_is env3 (va := r2) (xs := lim (A % B)) (by simp) HM2.out).mono ?_
  rintro e w4 ⟨rfl, env4⟩
  clear env3
  go_wp2_with fail
  refine (mul_is env4 (va := q2) (vb := (.slice Pb nb cb)) (xs := lim (A / B)) (ys := lim B) (by simp) (by simp) HP.out).mono ?_
  rintro e w5 ⟨r5, rfl, env5⟩
  clear env4
  go_wp2_with fail
  refine (add_is env5 (va := r5) (vb := r2) (xs := lim (A / B * B)) (ys := lim (A % B)) (by simp) (by simp) HA.out).mono ?_
  rintro e w6 ⟨r6, rfl, env6⟩
  clear env5
  go_wp2_with fail
  refine (same3_yes env6 (va := r6) (vb := (.slice Pa na ca)) (xs := lim A) (ys := lim A) (by simp) (by simp) rfl).mono ?_
  rintro e w7 ⟨rfl, env7⟩
  clear env6
  go_wp2_with fail
  refine (cmp_is env7 (va := r2) (vb := (.slice Pb nb cb)) (xs := lim (A % B)) (ys := lim B) (by simp) (by simp) HC.out).mono ?_
  rintro e w8 ⟨rfl, env8⟩
  clear env7
  go_wp2_with fail
  refine (may_is env8 (va := (.slice Pq nq cq)) (xs := xq) (by simp) MQ.out).mono ?_
  rintro e w9 ⟨rfl, env9⟩
  clear env8
  have HB := Lib.hid env9.1
  clear env9
  go_wp2
  go_ret
  exact ⟨rfl, HB.out⟩

set_option maxRecDepth 100000 in
set_option maxHeartbeats 8000000 in
theorem dparts_rno {Pa : Option Addr} {na ca : Nat} {Pb : Option Addr} {nb cb : Nat} {Pq : Option Addr} {nq cq : Nat} {Pr : Option Addr} {nr cr : Nat} {A B : Nat} {xq xr : List Nat} (w : World)  (ha : Arg w (.slice Pa na ca) (lim A)) (hb : Arg w (.slice Pb nb cb) (lim B)) (hq : Arg w (.slice Pq nq cq) (xq)) (hr : Arg w (.slice Pr nr cr) (xr)) (la : (lim A).length ≤ 300) (lb : (lim B).length ≤ 300) (lq : (xq).length ≤ 300) (lr : (xr).length ≤ 300) (hB0 : 0 < B) (mq : mayb xq = true) (mr : mayb xr = false) : Calls Try.prog 8 #[(.slice Pa na ca), (.slice Pb nb cb), (.slice Pq nq cq), (.slice Pr nr cr)] w fun e w' => e = .returned (.bool true) ∧ Below w.heap.size w w' := by
  have hna : na = (lim A).length := by obtain ⟨_, _, e, _⟩ := ha; injection e
  have hnb : nb = (lim B).length := by obtain ⟨_, _, e, _⟩ := hb; injection e
  have hnq : nq = (xq).length := by obtain ⟨_, _, e, _⟩ := hq; injection e
  have hnr : nr = (xr).length := by obtain ⟨_, _, e, _⟩ := hr; injection e
  have pa : decide ((300 : Int) < (na : Int)) = false := decide_eq_false (by omega)
  have pb : decide ((300 : Int) < (nb : Int)) = false := decide_eq_false (by omega)
  have pq : decide ((300 : Int) < (nq : Int)) = false := decide_eq_false (by omega)
  have pr : decide ((300 : Int) < (nr : Int)) = false := decide_eq_false (by omega)
  have hbp := lim_pos_len hB0
  have z1 : ((nb : Int) == 0) = false := beq_eq_false_iff_ne.2 (by omega)
  have k1 := lim_len_mono (Nat.div_le_self A B)
  have k2 := lim_len_mono (Nat.le_of_lt (Nat.mod_lt A hB0))
  have HE := Lib.hid (div_lim_E (A := A) (B := B) (by omega) (by omega) hB0)
  have HQ := Lib.hid (div_lim_Q (A := A) (B := B) (by omega) (by omega) hB0)
  have HR := Lib.hid (div_lim_R (A := A) (B := B) (by omega) (by omega) hB0)
  have HM1 := Lib.hid (mayb_lim (n := A / B) (by omega))
  have HM2 := Lib.hid (mayb_lim (n := A % B) (by omega))
  have k3 := len_mulD (A / B) B
  have HP := Lib.hid (mul_limD (a := A / B) (b := B) (by omega))
  have HA := Lib.hid (show sAdd (lim (A / B * B)) (lim (A % B)) = lim A by rw [add_limD (by omega) (by omega), Nat.div_add_mod'])
  have HC := Lib.hid (show sCmp (lim (A % B)) (lim B) = -1 by rw [cmp_limD (by omega) (by omega), cmpN_lt (Nat.mod_lt A hB0)])
  have MQ := Lib.hid mq
  have MR := Lib.hid mr
  clear k1 k2 k3 hbp hB0 mq mr
  clear la lb lq lr
  have env0 : Env w w [((.slice Pa na ca), lim A), ((.slice Pb nb cb), lim B), ((.slice Pq nq cq), xq), ((.slice Pr nr cr), xr)] := (((((env_start w).add (Below.refl _ _) hr).add (Below.refl _ _) hq).add (Below.refl _ _) hb).add (Below.refl _ _) ha)
  clear ha hna hb hnb hq hnq hr hnr
  go_enter Try.func8, Try.ntmps8
  go_wp2_with fail
  refine (awake3_env env0).mono ?_
  rintro e w1 ⟨rfl, env1⟩
  clear env0
  go_wp2_with fail
  refine (divmod_is env1 (va := (.slice Pa na ca)) (vb := (.slice Pb nb cb)) (xs := lim A) (ys := lim B) (by simp) (by simp) HQ.out HR.out HE.out).mono ?_
  rintro e w2 ⟨q2, r2, rfl, env2⟩
  clear env1
  go_wp2_with fail
  refine (may_is env2 (va := q2) (xs := lim (A / B)) (by simp) HM1.out).mono ?_
  rintro e w3 ⟨rfl, env3⟩
  clear env2
  go_wp2_with fail
  refine (may_is env3 (va := r2) (xs := lim (A % B)) (by simp) HM2.out).mono ?_
  rintro e w4 ⟨rfl, env4⟩
  clear env3
  go_wp2_with fail
  refine (mul_is env4 (va := q2) (vb := (.slice Pb nb cb)) (xs := lim (A / B)) (ys := lim B) (by simp) (by simp) HP.out).mono ?_
  rintro e w5 ⟨r5, rfl, env5⟩
  clear env4
  go_wp2_with fail
  refine (add_is env5 (va := r5) (vb := r2) (xs := lim (A / B * B)) (ys := lim (A % B)) (by simp) (by simp) HA.out).mono ?_
  rintro e w6 ⟨r6, rfl, env6⟩
  clear env5
  go_wp2_with fail
  refine (same3_yes env6 (va := r6) (vb := (.slice Pa na ca)) (xs := lim A) (ys := lim A) (by simp) (by simp) rfl).mono ?_
  rintro e w7 ⟨rfl, env7⟩
  clear env6
  go_wp2_with fail
  refine (cmp_is env7 (va := r2) (vb := (.slice Pb nb cb)) (xs := lim (A % B)) (ys := lim B) (by simp) (by simp) HC.out).mono ?_
  rintro e w8 ⟨rfl, env8⟩
  clear env7
  go_wp2_with fail
  refine (may_is env8 (va := (.slice Pq nq cq)) (xs := xq) (by simp) MQ.out).mono ?_
  rintro e w9 ⟨rfl, env9⟩
  clear env8
  go_wp2_with fail
  refine (may_is env9 (va := (.slice Pr nr cr)) (xs := xr) (by simp) MR.out).mono ?_
  rintro e w10 ⟨rfl, env10⟩
  clear env9
  have HB := Lib.hid env10.1
  clear env10
  go_wp2
  go_ret
  exact ⟨rfl, HB.out⟩

set_option maxRecDepth 100000 in
set_option maxHeartbeats 8000000 in
theorem dparts_rge {Pa : Option Addr} {na ca : Nat} {Pb : Option Addr} {nb cb : Nat} {Pq : Option Addr} {nq cq : Nat} {Pr : Option Addr} {nr cr : Nat} {A B Q R : Nat} (w : World)  (ha : Arg w (.slice Pa na ca) (lim A)) (hb : Arg w (.slice Pb nb cb) (lim B)) (hq : Arg w (.slice Pq nq cq) (lim Q)) (hr : Arg w (.slice Pr nr cr) (lim R)) (la : (lim A).length ≤ 300) (lb : (lim B).length ≤ 300) (lq : (lim Q).length ≤ 300) (lr : (lim R).length ≤ 300) (hB0 : 0 < B) (hR : B ≤ R) : Calls Try.prog 8 #[(.slice Pa na ca), (.slice Pb nb cb), (.slice Pq nq cq), (.slice Pr nr cr)] w fun e w' => e = .returned (.bool true) ∧ Below w.heap.size w w' := by
  have hna : na = (lim A).length := by obtain ⟨_, _, e, _⟩ := ha; injection e
  have hnb : nb = (lim B).length := by obtain ⟨_, _, e, _⟩ := hb; injection e
  have hnq : nq = (lim Q).length := by obtain ⟨_, _, e, _⟩ := hq; injection e
  have hnr : nr = (lim R).length := by obtain ⟨_, _, e, _⟩ := hr; injection e
  have pa : decide ((300 : Int) < (na : Int)) = false := decide_eq_false (by omega)
  have pb : decide ((300 : Int) < (nb : Int)) = false := decide_eq_false (by omega)
  have pq : decide ((300 : Int) < (nq : Int)) = false := decide_eq_false (by omega)
  have pr : decide ((300 : Int) < (nr : Int)) = false := decide_eq_false (by omega)
  have hbp := lim_pos_len hB0
  have z1 : ((nb : Int) == 0) = false := beq_eq_false_iff_ne.2 (by omega)
  have k1 := lim_len_mono (Nat.div_le_self A B)
  have k2 := lim_len_mono (Nat.le_of_lt (Nat.mod_lt A hB0))
  have HE := Lib.hid (div_lim_E (A := A) (B := B) (by omega) (by omega) hB0)
  have HQ := Lib.hid (div_lim_Q (A := A) (B := B) (by omega) (by omega) hB0)
  have HR := Lib.hid (div_lim_R (A := A) (B := B) (by omega) (by omega) hB0)
  have HM1 := Lib.hid (mayb_lim (n := A / B) (by omega))
  have HM2 := Lib.hid (mayb_lim (n := A % B) (by omega))
  have k3 := len_mulD (A / B) B
  have HP := Lib.hid (mul_limD (a := A / B) (b := B) (by omega))
  have HA := Lib.hid (show sAdd (lim (A / B * B)) (lim (A % B)) = lim A by rw [add_limD (by omega) (by omega), Nat.div_add_mod'])
  have HC := Lib.hid (show sCmp (lim (A % B)) (lim B) = -1 by rw [cmp_limD (by omega) (by omega), cmpN_lt (Nat.mod_lt A hB0)])
  have MQ := Lib.hid (mayb_lim (n := Q) (by omega))
  have MR := Lib.hid (mayb_lim (n := R) (by omega))
  obtain ⟨z, hz1, hz2⟩ := cmpN_ge hR
  have HC2 := Lib.hid (show sCmp (lim R) (lim B) = z by rw [cmp_limD (by omega) (by omega), hz1])
  clear k1 k2 k3 hbp hB0 hR hz1
  clear la lb lq lr
  have env0 : Env w w [((.slice Pa na ca), lim A), ((.slice Pb nb cb), lim B), ((.slice Pq nq cq), lim Q), ((.slice Pr nr cr), lim R)] := (((((env_start w).add (Below.refl _ _) hr).add (Below.refl _ _) hq).add (Below.refl _ _) hb).add (Below.refl _ _) ha)
  clear ha hna hb hnb hq hnq hr hnr
  go_enter Try.func8, Try.ntmps8
  go_wp2_with fail
  refine (awake3_env env0).mono ?_
  rintro e w1 ⟨rfl, env1⟩
  clear env0
  go_wp2_with fail
  refine (divmod_is env1 (va := (.slice Pa na ca)) (vb := (.slice Pb nb cb)) (xs := lim A) (ys := lim B) (by simp) (by simp) HQ.out HR.out HE.out).mono ?_
  rintro e w2 ⟨q2, r2, rfl, env2⟩
  clear env1
  go_wp2_with fail
  refine (may_is env2 (va := q2) (xs := lim (A / B)) (by simp) HM1.out).mono ?_
  rintro e w3 ⟨rfl, env3⟩
  clear env2
  go_wp2_with fail
  refine (may_is env3 (va := r2) (xs := lim (A % B)) (by simp) HM2.out).mono ?_
  rintro e w4 ⟨rfl, env4⟩
  clear env3
  go_wp2_with fail
  refine (mul_is env4 (va := q2) (vb := (.slice Pb nb cb)) (xs := lim (A / B)) (ys := lim B) (by simp) (by simp) HP.out).mono ?_
  rintro e w5 ⟨r5, rfl, env5⟩
  clear env4
  go_wp2_with fail
  refine (add_is env5 (va := r5) (vb := r2) (xs := lim (A / B * B)) (ys := lim (A % B)) (by simp) (by simp) HA.out).mono ?_
  rintro e w6 ⟨r6, rfl, env6⟩
  clear env5
  go_wp2_with fail
  refine (same3_yes env6 (va := r6) (vb := (.slice Pa na ca)) (xs := lim A) (ys := lim A) (by simp) (by simp) rfl).mono ?_
  rintro e w7 ⟨rfl, env7⟩
  clear env6
  go_wp2_with fail
  refine (cmp_is env7 (va := r2) (vb := (.slice Pb nb cb)) (xs := lim (A % B)) (ys := lim B) (by simp) (by simp) HC.out).mono ?_
  rintro e w8 ⟨rfl, env8⟩
  clear env7
  go_wp2_with fail
  refine (may_is env8 (va := (.slice Pq nq cq)) (xs := lim Q) (by simp) MQ.out).mono ?_
  rintro e w9 ⟨rfl, env9⟩
  clear env8
  go_wp2_with fail
  refine (may_is env9 (va := (.slice Pr nr cr)) (xs := lim R) (by simp) MR.out).mono ?_
  rintro e w10 ⟨rfl, env10⟩
  clear env9
  go_wp2_with fail
  refine (cmp_is env10 (va := (.slice Pr nr cr)) (vb := (.slice Pb nb cb)) (xs := lim R) (ys := lim B) (by simp) (by simp) HC2.out).mono ?_
  rintro e w11 ⟨rfl, env11⟩
  clear env10
  have HB := Lib.hid env11.1
  clear env11
  go_wp2
  go_ret
  exact ⟨rfl, HB.out⟩

set_option maxRecDepth 100000 in
set_option maxHeartbeats 8000000 in
theorem dparts_unlike {Pa : Option Addr} {na ca : Nat} {Pb : Option Addr} {nb cb : Nat} {Pq : Option Addr} {nq cq : Nat} {Pr : Option Addr} {nr cr : Nat} {A B Q R : Nat} (w : World)  (ha : Arg w (.slice Pa na ca) (lim A)) (hb : Arg w (.slice Pb nb cb) (lim B)) (hq : Arg w (.slice Pq nq cq) (lim Q)) (hr : Arg w (.slice Pr nr cr) (lim R)) (la : (lim A).length ≤ 300) (lb : (lim B).length ≤ 300) (lq : (lim Q).length ≤ 300) (lr : (lim R).length ≤ 300) (hB0 : 0 < B) (hR : R < B) (hS : Q * B + R ≠ A) : Calls Try.prog 8 #[(.slice Pa na ca), (.slice Pb nb cb), (.slice Pq nq cq), (.slice Pr nr cr)] w fun e w' => e = .returned (.bool true) ∧ Below w.heap.size w w' := by
  have hna : na = (lim A).length := by obtain ⟨_, _, e, _⟩ := ha; injection e
  have hnb : nb = (lim B).length := by obtain ⟨_, _, e, _⟩ := hb; injection e
  have hnq : nq = (lim Q).length := by obtain ⟨_, _, e, _⟩ := hq; injection e
  have hnr : nr = (lim R).length := by obtain ⟨_, _, e, _⟩ := hr; injection e
  have pa : decide ((300 : Int) < (na : Int)) = false := decide_eq_false (by omega)
  have pb : decide ((300 : Int) < (nb : Int)) = false := decide_eq_false (by omega)
  have pq : decide ((300 : Int) < (nq : Int)) = false := decide_eq_false (by omega)
  have pr : decide ((300 : Int) < (nr : Int)) = false := decide_eq_false (by omega)
  have hbp := lim_pos_len hB0
  have z1 : ((nb : Int) == 0) = false := beq_eq_false_iff_ne.2 (by omega)
  have k1 := lim_len_mono (Nat.div_le_self A B)
  have k2 := lim_len_mono (Nat.le_of_lt (Nat.mod_lt A hB0))
  have HE := Lib.hid (div_lim_E (A := A) (B := B) (by omega) (by omega) hB0)
  have HQ := Lib.hid (div_lim_Q (A := A) (B := B) (by omega) (by omega) hB0)
  have HR := Lib.hid (div_lim_R (A := A) (B := B) (by omega) (by omega) hB0)
  have HM1 := Lib.hid (mayb_lim (n := A / B) (by omega))
  have HM2 := Lib.hid (mayb_lim (n := A % B) (by omega))
  have k3 := len_mulD (A / B) B
  have HP := Lib.hid (mul_limD (a := A / B) (b := B) (by omega))
  have HA := Lib.hid (show sAdd (lim (A / B * B)) (lim (A % B)) = lim A by rw [add_limD (by omega) (by omega), Nat.div_add_mod'])
  have HC := Lib.hid (show sCmp (lim (A % B)) (lim B) = -1 by rw [cmp_limD (by omega) (by omega), cmpN_lt (Nat.mod_lt A hB0)])
  have MQ := Lib.hid (mayb_lim (n := Q) (by omega))
  have MR := Lib.hid (mayb_lim (n := R) (by omega))
  have HC2 := Lib.hid (show sCmp (lim R) (lim B) = -1 by rw [cmp_limD (by omega) (by omega), cmpN_lt hR])
  have k4 := len_mulD Q B
  have HP2 := Lib.hid (mul_limD (a := Q) (b := B) (by omega))
  have HA2 := Lib.hid (add_limD (a := Q * B) (b := R) (by omega) (by omega))
  have HS := Lib.hid (eqb_no (fun e => hS (lim_inj e)) : eqb (lim (Q * B + R)) (lim A) = false)
  clear k1 k2 k3 hbp hB0 hR hS k4
  clear la lb lq lr
  have env0 : Env w w [((.slice Pa na ca), lim A), ((.slice Pb nb cb), lim B), ((.slice Pq nq cq), lim Q), ((.slice Pr nr cr), lim R)] := (((((env_start w).add (Below.refl _ _) hr).add (Below.refl _ _) hq).add (Below.refl _ _) hb).add (Below.refl _ _) ha)
  clear ha hna hb hnb hq hnq hr hnr
  go_enter Try.func8, Try.ntmps8
  go_wp2_with fail
  refine (awake3_env env0).mono ?_
  rintro e w1 ⟨rfl, env1⟩
  clear env0
  go_wp2_with fail
  refine (divmod_is env1 (va := (.slice Pa na ca)) (vb := (.slice Pb nb cb)) (xs := lim A) (ys := lim B) (by simp) (by simp) HQ.out HR.out HE.out).mono ?_
  rintro e w2 ⟨q2, r2, rfl, env2⟩
  clear env1
  go_wp2_with fail
  refine (may_is env2 (va := q2) (xs := lim (A / B)) (by simp) HM1.out).mono ?_
  rintro e w3 ⟨rfl, env3⟩
  clear env2
  go_wp2_with fail
  refine (may_is env3 (va := r2) (xs := lim (A % B)) (by simp) HM2.out).mono ?_
  rintro e w4 ⟨rfl, env4⟩
  clear env3
  go_wp2_with fail
  refine (mul_is env4 (va := q2) (vb := (.slice Pb nb cb)) (xs := lim (A / B)) (ys := lim B) (by simp) (by simp) HP.out).mono ?_
  rintro e w5 ⟨r5, rfl, env5⟩
  clear env4
  go_wp2_with fail
  refine (add_is env5 (va := r5) (vb := r2) (xs := lim (A / B * B)) (ys := lim (A % B)) (by simp) (by simp) HA.out).mono ?_
  rintro e w6 ⟨r6, rfl, env6⟩
  clear env5
  go_wp2_with fail
  refine (same3_yes env6 (va := r6) (vb := (.slice Pa na ca)) (xs := lim A) (ys := lim A) (by simp) (by simp) rfl).mono ?_
  rintro e w7 ⟨rfl, env7⟩
  clear env6
  go_wp2_with fail
  refine (cmp_is env7 (va := r2) (vb := (.slice Pb nb cb)) (xs := lim (A % B)) (ys := lim B) (by simp) (by simp) HC.out).mono ?_
  rintro e w8 ⟨rfl, env8⟩
  clear env7
  go_wp2_with fail
  refine (may_is env8 (va := (.slice Pq nq cq)) (xs := lim Q) (by simp) MQ.out).mono ?_
  rintro e w9 ⟨rfl, env9⟩
  clear env8
  go_wp2_with fail
  refine (may_is env9 (va := (.slice Pr nr cr)) (xs := lim R) (by simp) MR.out).mono ?_
  rintro e w10 ⟨rfl, env10⟩
  clear env9
  go_wp2_with fail
  refine (cmp_is env10 (va := (.slice Pr nr cr)) (vb := (.slice Pb nb cb)) (xs := lim R) (ys := lim B) (by simp) (by simp) HC2.out).mono ?_
  rintro e w11 ⟨rfl, env11⟩
  clear env10
  go_wp2_with fail
  refine (mul_is env11 (va := (.slice Pq nq cq)) (vb := (.slice Pb nb cb)) (xs := lim Q) (ys := lim B) (by simp) (by simp) HP2.out).mono ?_
  rintro e w12 ⟨r12, rfl, env12⟩
  clear env11
  go_wp2_with fail
  refine (add_is env12 (va := r12) (vb := (.slice Pr nr cr)) (xs := lim (Q * B)) (ys := lim R) (by simp) (by simp) HA2.out).mono ?_
  rintro e w13 ⟨r13, rfl, env13⟩
  clear env12
  go_wp2_with fail
  refine (same3_is env13 (va := r13) (vb := (.slice Pa na ca)) (xs := lim (Q * B + R)) (ys := lim A) (by simp) (by simp) HS.out).mono ?_
  rintro e w14 ⟨rfl, env14⟩
  clear env13
  have HB := Lib.hid env14.1
  clear env14
  go_wp2
  go_ret
  exact ⟨rfl, HB.out⟩

set_option maxRecDepth 100000 in
set_option maxHeartbeats 8000000 in
theorem dparts_alike {Pa : Option Addr} {na ca : Nat} {Pb : Option Addr} {nb cb : Nat} {Pq : Option Addr} {nq cq : Nat} {Pr : Option Addr} {nr cr : Nat} {A B Q R : Nat} (w : World)  (ha : Arg w (.slice Pa na ca) (lim A)) (hb : Arg w (.slice Pb nb cb) (lim B)) (hq : Arg w (.slice Pq nq cq) (lim Q)) (hr : Arg w (.slice Pr nr cr) (lim R)) (la : (lim A).length ≤ 300) (lb : (lim B).length ≤ 300) (lq : (lim Q).length ≤ 300) (lr : (lim R).length ≤ 300) (hB0 : 0 < B) (hR : R < B) (hS : Q * B + R = A) : Calls Try.prog 8 #[(.slice Pa na ca), (.slice Pb nb cb), (.slice Pq nq cq), (.slice Pr nr cr)] w fun e w' => e = .returned (.bool true) ∧ Below w.heap.size w w' := by
  have hna : na = (lim A).length := by obtain ⟨_, _, e, _⟩ := ha; injection e
  have hnb : nb = (lim B).length := by obtain ⟨_, _, e, _⟩ := hb; injection e
  have hnq : nq = (lim Q).length := by obtain ⟨_, _, e, _⟩ := hq; injection e
  have hnr : nr = (lim R).length := by obtain ⟨_, _, e, _⟩ := hr; injection e
  have pa : decide ((300 : Int) < (na : Int)) = false := decide_eq_false (by omega)
  have pb : decide ((300 : Int) < (nb : Int)) = false := decide_eq_false (by omega)
  have pq : decide ((300 : Int) < (nq : Int)) = false := decide_eq_false (by omega)
  have pr : decide ((300 : Int) < (nr : Int)) = false := decide_eq_false (by omega)
  have hbp := lim_pos_len hB0
  have z1 : ((nb : Int) == 0) = false := beq_eq_false_iff_ne.2 (by omega)
  have k1 := lim_len_mono (Nat.div_le_self A B)
  have k2 := lim_len_mono (Nat.le_of_lt (Nat.mod_lt A hB0))
  have HE := Lib.hid (div_lim_E (A := A) (B := B) (by omega) (by omega) hB0)
  have HQ := Lib.hid (div_lim_Q (A := A) (B := B) (by omega) (by omega) hB0)
  have HR := Lib.hid (div_lim_R (A := A) (B := B) (by omega) (by omega) hB0)
  have HM1 := Lib.hid (mayb_lim (n := A / B) (by omega))
  have HM2 := Lib.hid (mayb_lim (n := A % B) (by omega))
  have k3 := len_mulD (A / B) B
  have HP := Lib.hid (mul_limD (a := A / B) (b := B) (by omega))
  have HA := Lib.hid (show sAdd (lim (A / B * B)) (lim (A % B)) = lim A by rw [add_limD (by omega) (by omega), Nat.div_add_mod'])
  have HC := Lib.hid (show sCmp (lim (A % B)) (lim B) = -1 by rw [cmp_limD (by omega) (by omega), cmpN_lt (Nat.mod_lt A hB0)])
  have MQ := Lib.hid (mayb_lim (n := Q) (by omega))
  have MR := Lib.hid (mayb_lim (n := R) (by omega))
  have HC2 := Lib.hid (show sCmp (lim R) (lim B) = -1 by rw [cmp_limD (by omega) (by omega), cmpN_lt hR])
  have k4 := len_mulD Q B
  have HP2 := Lib.hid (mul_limD (a := Q) (b := B) (by omega))
  have HA2 := Lib.hid (add_limD (a := Q * B) (b := R) (by omega) (by omega))
  have HS := Lib.hid (show eqb (lim (Q * B + R)) (lim A) = true by rw [hS, eqb_refl])
  have hu := (Nat.div_mod_unique (a := A) (b := B) (c := R) (d := Q) hB0).2 ⟨by rw [Nat.mul_comm B]; omega, hR⟩
  have HS1 := Lib.hid (show eqb (lim Q) (lim (A / B)) = true by rw [hu.1, eqb_refl])
  have HS2 := Lib.hid (show eqb (lim R) (lim (A % B)) = true by rw [hu.2, eqb_refl])
  clear k1 k2 k3 hbp hB0 hR hS k4 hu
  clear la lb lq lr
  have env0 : Env w w [((.slice Pa na ca), lim A), ((.slice Pb nb cb), lim B), ((.slice Pq nq cq), lim Q), ((.slice Pr nr cr), lim R)] := (((((env_start w).add (Below.refl _ _) hr).add (Below.refl _ _) hq).add (Below.refl _ _) hb).add (Below.refl _ _) ha)
  clear ha hna hb hnb hq hnq hr hnr
  go_enter Try.func8, Try.ntmps8
  go_wp2_with fail
  refine (awake3_env env0).mono ?_
  rintro e w1 ⟨rfl, env1⟩
  clear env0
  go_wp2_with fail
  refine (divmod_is env1 (va := (.slice Pa na ca)) (vb := (.slice Pb nb cb)) (xs := lim A) (ys := lim B) (by simp) (by simp) HQ.out HR.out HE.out).mono ?_
  rintro e w2 ⟨q2, r2, rfl, env2⟩
  clear env1
  go_wp2_with fail
  refine (may_is env2 (va := q2) (xs := lim (A / B)) (by simp) HM1.out).mono ?_
  rintro e w3 ⟨rfl, env3⟩
  clear env2
  go_wp2_with fail
  refine (may_is env3 (va := r2) (xs := lim (A % B)) (by simp) HM2.out).mono ?_
  rintro e w4 ⟨rfl, env4⟩
  clear env3
  go_wp2_with fail
  refine (mul_is env4 (va := q2) (vb := (.slice Pb nb cb)) (xs := lim (A / B)) (ys := lim B) (by simp) (by simp) HP.out).mono ?_
  rintro e w5 ⟨r5, rfl, env5⟩
  clear env4
  go_wp2_with fail
  refine (add_is env5 (va := r5) (vb := r2) (xs := lim (A / B * B)) (ys := lim (A % B)) (by simp) (by simp) HA.out).mono ?_
  rintro e w6 ⟨r6, rfl, env6⟩
  clear env5
  go_wp2_with fail
  refine (same3_yes env6 (va := r6) (vb := (.slice Pa na ca)) (xs := lim A) (ys := lim A) (by simp) (by simp) rfl).mono ?_
  rintro e w7 ⟨rfl, env7⟩
  clear env6
  go_wp2_with fail
  refine (cmp_is env7 (va := r2) (vb := (.slice Pb nb cb)) (xs := lim (A % B)) (ys := lim B) (by simp) (by simp) HC.out).mono ?_
  rintro e w8 ⟨rfl, env8⟩
  clear env7
  go_wp2_with fail
  refine (may_is env8 (va := (.slice Pq nq cq)) (xs := lim Q) (by simp) MQ.out).mono ?_
  rintro e w9 ⟨rfl, env9⟩
  clear env8
  go_wp2_with fail
  refine (may_is env9 (va := (.slice Pr nr cr)) (xs := lim R) (by simp) MR.out).mono ?_
  rintro e w10 ⟨rfl, env10⟩
  clear env9
  go_wp2_with fail
  refine (cmp_is env10 (va := (.slice Pr nr cr)) (vb := (.slice Pb nb cb)) (xs := lim R) (ys := lim B) (by simp) (by simp) HC2.out).mono ?_
  rintro e w11 ⟨rfl, env11⟩
  clear env10
  go_wp2_with fail
  refine (mul_is env11 (va := (.slice Pq nq cq)) (vb := (.slice Pb nb cb)) (xs := lim Q) (ys := lim B) (by simp) (by simp) HP2.out).mono ?_
  rintro e w12 ⟨r12, rfl, env12⟩
  clear env11
  go_wp2_with fail
  refine (add_is env12 (va := r12) (vb := (.slice Pr nr cr)) (xs := lim (Q * B)) (ys := lim R) (by simp) (by simp) HA2.out).mono ?_
  rintro e w13 ⟨r13, rfl, env13⟩
  clear env12
  go_wp2_with fail
  refine (same3_is env13 (va := r13) (vb := (.slice Pa na ca)) (xs := lim (Q * B + R)) (ys := lim A) (by simp) (by simp) HS.out).mono ?_
  rintro e w14 ⟨rfl, env14⟩
  clear env13
  go_wp2_with fail
  refine (same3_is env14 (va := (.slice Pq nq cq)) (vb := q2) (xs := lim Q) (ys := lim (A / B)) (by simp) (by simp) HS1.out).mono ?_
  rintro e w15 ⟨rfl, env15⟩
  clear env14
  go_wp2_with fail
  refine (same3_is env15 (va := (.slice Pr nr cr)) (vb := r2) (xs := lim R) (ys := lim (A % B)) (by simp) (by simp) HS2.out).mono ?_
  rintro e w16 ⟨rfl, env16⟩
  clear env15
  have HB := Lib.hid env16.1
  clear env16
  go_wp2
  go_ret
  exact ⟨rfl, HB.out⟩

theorem dparts_law {Pa : Option Addr} {na ca : Nat} {Pb : Option Addr} {nb cb : Nat} {Pq : Option Addr} {nq cq : Nat} {Pr : Option Addr} {nr cr : Nat} {xa xb xq xr : List Nat} (w : World) (ha : Arg w (.slice Pa na ca) xa) (hb : Arg w (.slice Pb nb cb) xb) (hq : Arg w (.slice Pq nq cq) xq) (hr : Arg w (.slice Pr nr cr) xr) : Calls Try.prog 8 #[(.slice Pa na ca), (.slice Pb nb cb), (.slice Pq nq cq), (.slice Pr nr cr)] w (fun e w' => e = .returned (.bool true) ∧ Below w.heap.size w w') := by
  rcases Nat.lt_or_ge 300 xa.length with la | la
  · exact dparts_longa w ha hb hq hr la
  rcases Nat.lt_or_ge 300 xb.length with lb | lb
  · exact dparts_longb w ha hb hq hr la lb
  rcases Nat.lt_or_ge 300 xq.length with lq | lq
  · exact dparts_longq w ha hb hq hr la lb lq
  rcases Nat.lt_or_ge 300 xr.length with lr | lr
  · exact dparts_longr w ha hb hq hr la lb lq lr
  rcases ma : mayb xa with _ | _
  · exact dparts_bada w ha hb hq hr la lb lq lr ma
  rcases mb : mayb xb with _ | _
  · exact dparts_badb w ha hb hq hr la lb lq lr ma mb
  rcases Nat.eq_zero_or_pos xb.length with hb0 | hb0
  · exact dparts_zero w ha hb hq hr la lb lq lr ma mb hb0
  obtain ⟨A, rfl⟩ := may_limD ha.limbs ma
  obtain ⟨B, rfl⟩ := may_limD hb.limbs mb
  have hB0 : 0 < B := by
    rcases Nat.eq_zero_or_pos B with h | h
    · subst h; rw [lim_zero] at hb0; simp at hb0
    · exact h
  rcases mq : mayb xq with _ | _
  · exact dparts_qno w ha hb hq hr la lb lq lr hB0 mq
  rcases mr : mayb xr with _ | _
  · exact dparts_rno w ha hb hq hr la lb lq lr hB0 mq mr
  obtain ⟨Q, rfl⟩ := may_limD hq.limbs mq
  obtain ⟨R, rfl⟩ := may_limD hr.limbs mr
  rcases Nat.lt_or_ge R B with hR | hR
  · by_cases hS : Q * B + R = A
    · exact dparts_alike w ha hb hq hr la lb lq lr hB0 hR hS
    · exact dparts_unlike w ha hb hq hr la lb lq lr hB0 hR hS
  · exact dparts_rge w ha hb hq hr la lb lq lr hB0 hR

end Go.Proofs.Ytidflhonhekmjaa

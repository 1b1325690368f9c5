/- NatShifts: the law's walk. -/
import Derived.Test.YtdbmandbddechaaNatR
namespace Go.Proofs.Ytdbmandbddechaa
open Go.RowKit

set_option linter.unusedVariables false

theorem shl_is {w0 w : World} {l : List (Value × List Nat)} {va : Value} {xs zs : List Nat} {k : Int} (h : Env w0 w l) (ha : (va, xs) ∈ l) (hz : sShl xs k = zs) : Calls Try.prog 18 #[va, .int .i64 k] w fun e w' => ∃ r, e = .returned r ∧ Env w0 w' ((r, zs) :: l) := by
  have := shl_env h ha k
  rwa [hz] at this
theorem shr_is {w0 w : World} {l : List (Value × List Nat)} {va : Value} {xs zs : List Nat} {k : Int} (h : Env w0 w l) (ha : (va, xs) ∈ l) (hz : sShr xs k = zs) : Calls Try.prog 19 #[va, .int .i64 k] w fun e w' => ∃ r, e = .returned r ∧ Env w0 w' ((r, zs) :: l) := by
  have := shr_env h ha k
  rwa [hz] at this
theorem bits_is {w0 w : World} {l : List (Value × List Nat)} {va : Value} {xs : List Nat} {n : Nat} (h : Env w0 w l) (ha : (va, xs) ∈ l) (hx : sBits xs = n) : Calls Try.prog 20 #[va] w fun e w' => e = .returned (.int .i64 (n : Nat)) ∧ Env w0 w' l := by
  have := bits_env h ha
  rw [hx] at this
  exact this.mono fun _ _ ⟨he, hw⟩ => ⟨he, by rw [hw]; exact h⟩

set_option maxRecDepth 100000 in
set_option maxHeartbeats 4000000 in
theorem shifts_long1 (va : Value) (xs : List Nat) (k m : Int) (w : World) (env : Env w w [(va, xs)]) (la : 2000 < xs.length) :
    Calls Try.prog 8 #[va, .int .i64 k, .int .i64 m] w fun e w' => e = .returned (.bool true) ∧ Below w.heap.size w w' := by
  obtain ⟨A, cap, rfl, _⟩ := env.get (v := va) (xs := xs) (by simp)
  have p1 : decide ((2000 : Int) < (xs.length : Int)) = true := decide_eq_true (by omega)
  go_enter Try.func8, Try.ntmps8
  go_wp2_with fail
  refine (awake_env env  ).mono ?_
  rintro e w1 ⟨rfl, env1⟩
  clear env
  have hB := Lib.hid env1.1
  clear env1
  go_wp2
  go_ret
  exact ⟨rfl, hB.out⟩

set_option maxRecDepth 100000 in
set_option maxHeartbeats 4000000 in
theorem shifts_long2 (va : Value) (xs : List Nat) (k m : Int) (w : World) (env : Env w w [(va, xs)]) (la : xs.length ≤ 2000) (lb : 5000 < k) :
    Calls Try.prog 8 #[va, .int .i64 k, .int .i64 m] w fun e w' => e = .returned (.bool true) ∧ Below w.heap.size w w' := by
  obtain ⟨A, cap, rfl, _⟩ := env.get (v := va) (xs := xs) (by simp)
  have p1 : decide ((2000 : Int) < (xs.length : Int)) = false := decide_eq_false (by omega)
  have p2 : decide ((5000 : Int) < k) = true := decide_eq_true (by omega)
  go_enter Try.func8, Try.ntmps8
  go_wp2_with fail
  refine (awake_env env  ).mono ?_
  rintro e w1 ⟨rfl, env1⟩
  clear env
  have hB := Lib.hid env1.1
  clear env1
  go_wp2
  go_ret
  exact ⟨rfl, hB.out⟩

set_option maxRecDepth 100000 in
set_option maxHeartbeats 4000000 in
theorem shifts_long3 (va : Value) (xs : List Nat) (k m : Int) (w : World) (env : Env w w [(va, xs)]) (la : xs.length ≤ 2000) (lb : k ≤ 5000) (lc : 5000 < m) :
    Calls Try.prog 8 #[va, .int .i64 k, .int .i64 m] w fun e w' => e = .returned (.bool true) ∧ Below w.heap.size w w' := by
  obtain ⟨A, cap, rfl, _⟩ := env.get (v := va) (xs := xs) (by simp)
  have p1 : decide ((2000 : Int) < (xs.length : Int)) = false := decide_eq_false (by omega)
  have p2 : decide ((5000 : Int) < k) = false := decide_eq_false (by omega)
  have p3 : decide ((5000 : Int) < m) = true := decide_eq_true (by omega)
  go_enter Try.func8, Try.ntmps8
  go_wp2_with fail
  refine (awake_env env  ).mono ?_
  rintro e w1 ⟨rfl, env1⟩
  clear env
  have hB := Lib.hid env1.1
  clear env1
  go_wp2
  go_ret
  exact ⟨rfl, hB.out⟩

set_option maxRecDepth 100000 in
set_option maxHeartbeats 4000000 in
theorem shifts_no1 (va : Value) (xs : List Nat) (k m : Int) (w : World) (env : Env w w [(va, xs)]) (la : xs.length ≤ 2000) (lb : k ≤ 5000) (lc : m ≤ 5000) (hma : Hid (mayb xs = false)) :
    Calls Try.prog 8 #[va, .int .i64 k, .int .i64 m] w fun e w' => e = .returned (.bool true) ∧ Below w.heap.size w w' := by
  obtain ⟨A, cap, rfl, _⟩ := env.get (v := va) (xs := xs) (by simp)
  have p1 : decide ((2000 : Int) < (xs.length : Int)) = false := decide_eq_false (by omega)
  have p2 : decide ((5000 : Int) < k) = false := decide_eq_false (by omega)
  have p3 : decide ((5000 : Int) < m) = false := decide_eq_false (by omega)
  go_enter Try.func8, Try.ntmps8
  go_wp2_with fail
  refine (awake_env env  ).mono ?_
  rintro e w1 ⟨rfl, env1⟩
  clear env
  go_wp2_with fail
  refine (may_is env1 (va := (.slice A xs.length cap)) (xs := xs) (by simp) hma.out).mono ?_
  rintro e w2 ⟨rfl, env2⟩
  clear env1
  have hB := Lib.hid env2.1
  clear env2
  go_wp2
  go_ret
  exact ⟨rfl, hB.out⟩

set_option maxRecDepth 100000 in
set_option maxHeartbeats 4000000 in
theorem shifts_no2 (va : Value) (xs : List Nat) (k m : Int) (w : World) (env : Env w w [(va, xs)]) (la : xs.length ≤ 2000) (lb : k ≤ 5000) (lc : m ≤ 5000) (hma : Hid (mayb xs = true)) (hk : k < 0) :
    Calls Try.prog 8 #[va, .int .i64 k, .int .i64 m] w fun e w' => e = .returned (.bool true) ∧ Below w.heap.size w w' := by
  obtain ⟨A, cap, rfl, _⟩ := env.get (v := va) (xs := xs) (by simp)
  have p1 : decide ((2000 : Int) < (xs.length : Int)) = false := decide_eq_false (by omega)
  have p2 : decide ((5000 : Int) < k) = false := decide_eq_false (by omega)
  have p3 : decide ((5000 : Int) < m) = false := decide_eq_false (by omega)
  have p4 : decide (k < (0 : Int)) = true := decide_eq_true (by omega)
  go_enter Try.func8, Try.ntmps8
  go_wp2_with fail
  refine (awake_env env  ).mono ?_
  rintro e w1 ⟨rfl, env1⟩
  clear env
  go_wp2_with fail
  refine (may_is env1 (va := (.slice A xs.length cap)) (xs := xs) (by simp) hma.out).mono ?_
  rintro e w2 ⟨rfl, env2⟩
  clear env1
  have hB := Lib.hid env2.1
  clear env2
  go_wp2
  go_ret
  exact ⟨rfl, hB.out⟩

set_option maxRecDepth 100000 in
set_option maxHeartbeats 4000000 in
theorem shifts_no3 (va : Value) (xs : List Nat) (k m : Int) (w : World) (env : Env w w [(va, xs)]) (la : xs.length ≤ 2000) (lb : k ≤ 5000) (lc : m ≤ 5000) (hma : Hid (mayb xs = true)) (hk : 0 ≤ k) (hm : m < 0) :
    Calls Try.prog 8 #[va, .int .i64 k, .int .i64 m] w fun e w' => e = .returned (.bool true) ∧ Below w.heap.size w w' := by
  obtain ⟨A, cap, rfl, _⟩ := env.get (v := va) (xs := xs) (by simp)
  have p1 : decide ((2000 : Int) < (xs.length : Int)) = false := decide_eq_false (by omega)
  have p2 : decide ((5000 : Int) < k) = false := decide_eq_false (by omega)
  have p3 : decide ((5000 : Int) < m) = false := decide_eq_false (by omega)
  have p4 : decide (k < (0 : Int)) = false := decide_eq_false (by omega)
  have p5 : decide (m < (0 : Int)) = true := decide_eq_true (by omega)
  go_enter Try.func8, Try.ntmps8
  go_wp2_with fail
  refine (awake_env env  ).mono ?_
  rintro e w1 ⟨rfl, env1⟩
  clear env
  go_wp2_with fail
  refine (may_is env1 (va := (.slice A xs.length cap)) (xs := xs) (by simp) hma.out).mono ?_
  rintro e w2 ⟨rfl, env2⟩
  clear env1
  have hB := Lib.hid env2.1
  clear env2
  go_wp2
  go_ret
  exact ⟨rfl, hB.out⟩

set_option maxRecDepth 100000 in
set_option maxHeartbeats 4000000 in
theorem shifts_nil (va : Value) (xs U D K R V T : List Nat) (j i bR : Nat) (w : World) (env : Env w w [(va, xs)]) (la : xs.length ≤ 2000) (lb : j ≤ 5000) (lc : i ≤ 5000) (l0 : xs.length ≤ 0) (hma : Hid (mayb xs = true)) (hU : Hid (sShl xs (j : Int) = U)) (hD : Hid (sShr xs (j : Int) = D)) (hK : Hid (sShl D (j : Int) = K)) (hok : Hid (sSubOk xs K = true)) (hR : Hid (sSub xs K = R)) (hUj : Hid (sShr U (j : Int) = xs)) (hbR : Hid (sBits R = bR)) (hbRj : bR ≤ j) (hUi : Hid (sShl U (i : Int) = V)) (hai : Hid (sShl xs ((j : Int) + i) = V)) (hDi : Hid (sShr D (i : Int) = T)) (hri : Hid (sShr xs ((j : Int) + i) = T))  :
    Calls Try.prog 8 #[va, .int .i64 (j : Int), .int .i64 (i : Int)] w fun e w' => e = .returned (.bool true) ∧ Below w.heap.size w w' := by
  obtain ⟨A, cap, rfl, _⟩ := env.get (v := va) (xs := xs) (by simp)
  have p1 : decide ((2000 : Int) < (xs.length : Int)) = false := decide_eq_false (by omega)
  have p2 : decide ((5000 : Int) < (j : Int)) = false := decide_eq_false (by omega)
  have p3 : decide ((5000 : Int) < (i : Int)) = false := decide_eq_false (by omega)
  have p4 : decide ((j : Int) < (0 : Int)) = false := decide_eq_false (by omega)
  have p5 : decide ((i : Int) < (0 : Int)) = false := decide_eq_false (by omega)
  have p6 : decide (bR ≤ j) = true := decide_eq_true hbRj
  have p7 : ((xs.length : Int) == 0) = true := beq_iff_eq.2 (by omega)
  go_enter Try.func8, Try.ntmps8
  go_wp2_with fail
  refine (awake_env env  ).mono ?_
  rintro e w1 ⟨rfl, env1⟩
  clear env
  go_wp2_with fail
  refine (may_is env1 (va := (.slice A xs.length cap)) (xs := xs) (by simp) hma.out).mono ?_
  rintro e w2 ⟨rfl, env2⟩
  clear env1
  go_wp2_with fail
  refine (shl_is env2 (va := (.slice A xs.length cap)) (xs := xs) (by simp) hU.out).mono ?_
  rintro e w3 ⟨r3, rfl, env3⟩
  clear env2
  go_wp2_with fail
  refine (shr_is env3 (va := (.slice A xs.length cap)) (xs := xs) (by simp) hD.out).mono ?_
  rintro e w4 ⟨r4, rfl, env4⟩
  clear env3
  go_wp2_with fail
  refine (shl_is env4 (va := r4) (xs := D) (by simp) hK.out).mono ?_
  rintro e w5 ⟨r5, rfl, env5⟩
  clear env4
  go_wp2_with fail
  refine (sub_is env5 (va := (.slice A xs.length cap)) (xs := xs) (vb := r5) (ys := K) (by simp) (by simp) hok.out hR.out).mono ?_
  rintro e w6 ⟨r6, rfl, env6⟩
  clear env5
  go_wp2_with fail
  refine (shr_is env6 (va := r3) (xs := U) (by simp) hUj.out).mono ?_
  rintro e w7 ⟨r7, rfl, env7⟩
  clear env6
  go_wp2_with fail
  refine (same_yes env7 (va := r7) (xs := xs) (vb := (.slice A xs.length cap)) (ys := xs) (by simp) (by simp) rfl).mono ?_
  rintro e w8 ⟨rfl, env8⟩
  clear env7
  go_wp2_with fail
  refine (bits_is env8 (va := r6) (xs := R) (by simp) hbR.out).mono ?_
  rintro e w9 ⟨rfl, env9⟩
  clear env8
  go_wp2_with fail
  refine (shl_is env9 (va := r3) (xs := U) (by simp) hUi.out).mono ?_
  rintro e w10 ⟨r10, rfl, env10⟩
  clear env9
  go_wp2_with fail
  refine (shl_is env10 (va := (.slice A xs.length cap)) (xs := xs) (by simp) hai.out).mono ?_
  rintro e w11 ⟨r11, rfl, env11⟩
  clear env10
  go_wp2_with fail
  refine (same_yes env11 (va := r10) (xs := V) (vb := r11) (ys := V) (by simp) (by simp) rfl).mono ?_
  rintro e w12 ⟨rfl, env12⟩
  clear env11
  go_wp2_with fail
  refine (shr_is env12 (va := r4) (xs := D) (by simp) hDi.out).mono ?_
  rintro e w13 ⟨r13, rfl, env13⟩
  clear env12
  go_wp2_with fail
  refine (shr_is env13 (va := (.slice A xs.length cap)) (xs := xs) (by simp) hri.out).mono ?_
  rintro e w14 ⟨r14, rfl, env14⟩
  clear env13
  go_wp2_with fail
  refine (same_yes env14 (va := r13) (xs := T) (vb := r14) (ys := T) (by simp) (by simp) rfl).mono ?_
  rintro e w15 ⟨rfl, env15⟩
  clear env14
  have hB := Lib.hid env15.1
  clear env15
  go_wp2
  go_ret
  exact ⟨rfl, hB.out⟩

set_option maxRecDepth 100000 in
set_option maxHeartbeats 4000000 in
theorem shifts_pos (va : Value) (xs U D K R V T : List Nat) (j i bR bA : Nat) (w : World) (env : Env w w [(va, xs)]) (la : xs.length ≤ 2000) (lb : j ≤ 5000) (lc : i ≤ 5000) (l0 : 0 < xs.length) (hma : Hid (mayb xs = true)) (hU : Hid (sShl xs (j : Int) = U)) (hD : Hid (sShr xs (j : Int) = D)) (hK : Hid (sShl D (j : Int) = K)) (hok : Hid (sSubOk xs K = true)) (hR : Hid (sSub xs K = R)) (hUj : Hid (sShr U (j : Int) = xs)) (hbR : Hid (sBits R = bR)) (hbRj : bR ≤ j) (hUi : Hid (sShl U (i : Int) = V)) (hai : Hid (sShl xs ((j : Int) + i) = V)) (hDi : Hid (sShr D (i : Int) = T)) (hri : Hid (sShr xs ((j : Int) + i) = T)) (hbU : Hid (sBits U = bA + j)) (hbA : Hid (sBits xs = bA)) (hbl : bA ≤ 2097152) :
    Calls Try.prog 8 #[va, .int .i64 (j : Int), .int .i64 (i : Int)] w fun e w' => e = .returned (.bool true) ∧ Below w.heap.size w w' := by
  obtain ⟨A, cap, rfl, _⟩ := env.get (v := va) (xs := xs) (by simp)
  have p1 : decide ((2000 : Int) < (xs.length : Int)) = false := decide_eq_false (by omega)
  have p2 : decide ((5000 : Int) < (j : Int)) = false := decide_eq_false (by omega)
  have p3 : decide ((5000 : Int) < (i : Int)) = false := decide_eq_false (by omega)
  have p4 : decide ((j : Int) < (0 : Int)) = false := decide_eq_false (by omega)
  have p5 : decide ((i : Int) < (0 : Int)) = false := decide_eq_false (by omega)
  have p6 : decide (bR ≤ j) = true := decide_eq_true hbRj
  have p7 : ((xs.length : Int) == 0) = false := beq_eq_false_iff_ne.2 (by omega)
  go_enter Try.func8, Try.ntmps8
  go_wp2_with fail
  refine (awake_env env  ).mono ?_
  rintro e w1 ⟨rfl, env1⟩
  clear env
  go_wp2_with fail
  refine (may_is env1 (va := (.slice A xs.length cap)) (xs := xs) (by simp) hma.out).mono ?_
  rintro e w2 ⟨rfl, env2⟩
  clear env1
  go_wp2_with fail
  refine (shl_is env2 (va := (.slice A xs.length cap)) (xs := xs) (by simp) hU.out).mono ?_
  rintro e w3 ⟨r3, rfl, env3⟩
  clear env2
  go_wp2_with fail
  refine (shr_is env3 (va := (.slice A xs.length cap)) (xs := xs) (by simp) hD.out).mono ?_
  rintro e w4 ⟨r4, rfl, env4⟩
  clear env3
  go_wp2_with fail
  refine (shl_is env4 (va := r4) (xs := D) (by simp) hK.out).mono ?_
  rintro e w5 ⟨r5, rfl, env5⟩
  clear env4
  go_wp2_with fail
  refine (sub_is env5 (va := (.slice A xs.length cap)) (xs := xs) (vb := r5) (ys := K) (by simp) (by simp) hok.out hR.out).mono ?_
  rintro e w6 ⟨r6, rfl, env6⟩
  clear env5
  go_wp2_with fail
  refine (shr_is env6 (va := r3) (xs := U) (by simp) hUj.out).mono ?_
  rintro e w7 ⟨r7, rfl, env7⟩
  clear env6
  go_wp2_with fail
  refine (same_yes env7 (va := r7) (xs := xs) (vb := (.slice A xs.length cap)) (ys := xs) (by simp) (by simp) rfl).mono ?_
  rintro e w8 ⟨rfl, env8⟩
  clear env7
  go_wp2_with fail
  refine (bits_is env8 (va := r6) (xs := R) (by simp) hbR.out).mono ?_
  rintro e w9 ⟨rfl, env9⟩
  clear env8
  go_wp2_with fail
  refine (shl_is env9 (va := r3) (xs := U) (by simp) hUi.out).mono ?_
  rintro e w10 ⟨r10, rfl, env10⟩
  clear env9
  go_wp2_with fail
  refine (shl_is env10 (va := (.slice A xs.length cap)) (xs := xs) (by simp) hai.out).mono ?_
  rintro e w11 ⟨r11, rfl, env11⟩
  clear env10
  go_wp2_with fail
  refine (same_yes env11 (va := r10) (xs := V) (vb := r11) (ys := V) (by simp) (by simp) rfl).mono ?_
  rintro e w12 ⟨rfl, env12⟩
  clear env11
  go_wp2_with fail
  refine (shr_is env12 (va := r4) (xs := D) (by simp) hDi.out).mono ?_
  rintro e w13 ⟨r13, rfl, env13⟩
  clear env12
  go_wp2_with fail
  refine (shr_is env13 (va := (.slice A xs.length cap)) (xs := xs) (by simp) hri.out).mono ?_
  rintro e w14 ⟨r14, rfl, env14⟩
  clear env13
  go_wp2_with fail
  refine (same_yes env14 (va := r13) (xs := T) (vb := r14) (ys := T) (by simp) (by simp) rfl).mono ?_
  rintro e w15 ⟨rfl, env15⟩
  clear env14
  go_wp2_with fail
  refine (bits_is env15 (va := r3) (xs := U) (by simp) hbU.out).mono ?_
  rintro e w16 ⟨rfl, env16⟩
  clear env15
  go_wp2_with fail
  refine (bits_is env16 (va := (.slice A xs.length cap)) (xs := xs) (by simp) hbA.out).mono ?_
  rintro e w17 ⟨rfl, env17⟩
  clear env16
  have hB := Lib.hid env17.1
  clear env17
  go_wp2
  go_ret
  exact ⟨rfl, hB.out⟩

theorem shl_fits {xs : List Nat} (hx : Limbs xs) {k : Nat} (hl : xs.length ≤ 2000) (hk : k ≤ 10000) : (lim (val xs * 2 ^ k)).length ≤ 65536 := by
  rw [lim_len_blen]
  by_cases h0 : val xs = 0
  · rw [h0, Nat.zero_mul]; exact Nat.zero_le _
  · have h2 := blen_shift (n := val xs) (r := 0) (k := k) h0 (Nat.two_pow_pos k)
    rw [Nat.add_zero] at h2
    rw [h2]
    have h3 : blen (val xs) ≤ 32 * xs.length := blen_le.2 (by rw [Nat.pow_mul]; exact val_lt hx)
    omega
theorem le_fits {xs : List Nat} (hx : Limbs xs) (hm : mayb xs = true) {n : Nat} (h : n ≤ val xs) : (lim n).length ≤ 65536 :=
  Nat.le_trans (lim_length_le.2 (Nat.lt_of_le_of_lt h (val_lt hx))) (mayb_iff.1 hm).1

theorem natShifts_law {va : Value} {xs : List Nat} (w : World) (ha : Arg w va xs) (k : Int) (_hk : (Lit.int .i64 k).wf = true) (m : Int) (_hm : (Lit.int .i64 m).wf = true) :
    Calls Try.prog 8 #[va, .int .i64 k, .int .i64 m] w fun e w' => e = .returned (.bool true) ∧ Below w.heap.size w w' := by
  have env : Env w w [(va, xs)] := env_start1 ha
  have lx := ha.limbs
  rcases Nat.lt_or_ge 2000 xs.length with la | la
  · exact shifts_long1 va xs k m w env la
  rcases Int.lt_or_le 5000 k with lb | lb
  · exact shifts_long2 va xs k m w env la lb
  rcases Int.lt_or_le 5000 m with lc | lc
  · exact shifts_long3 va xs k m w env la lb lc
  rcases hma : mayb xs with _ | _
  · exact shifts_no1 va xs k m w env la lb lc hma
  rcases Int.lt_or_le k 0 with hk | hk
  · exact shifts_no2 va xs k m w env la lb lc hma hk
  rcases Int.lt_or_le m 0 with hm | hm
  · exact shifts_no3 va xs k m w env la lb lc hma hk hm
  obtain ⟨j, rfl⟩ := Int.eq_ofNat_of_zero_le hk
  obtain ⟨i, rfl⟩ := Int.eq_ofNat_of_zero_le hm
  have hU : sShl xs (j : Int) = lim (val xs * 2 ^ j) := by rw [sShl_yes hma, clip_of (shl_fits lx la (by omega))]
  have hmU := mayb_lim (shl_fits lx la (show j ≤ 10000 by omega))
  have hD := sShr_yes hma j
  have hdl := Nat.div_le_self (val xs) (2 ^ j)
  have hmD := mayb_lim (le_fits lx hma hdl)
  have hml : val xs / 2 ^ j * 2 ^ j ≤ val xs := Nat.div_mul_le_self _ _
  have hK : sShl (lim (val xs / 2 ^ j)) (j : Int) = lim (val xs / 2 ^ j * 2 ^ j) := by rw [sShl_yes hmD, val_lim, clip_of (le_fits lx hma hml)]
  have hmK := mayb_lim (le_fits lx hma hml)
  have hok : sSubOk xs (lim (val xs / 2 ^ j * 2 ^ j)) = true := sSub_ok hma hmK (by rw [val_lim]; exact hml)
  have hR : sSub xs (lim (val xs / 2 ^ j * 2 ^ j)) = lim (val xs % 2 ^ j) := by
    rw [sSub_yes hok, val_lim]
    congr 1
    have := Nat.div_add_mod (val xs) (2 ^ j)
    rw [Nat.mul_comm] at this
    omega
  have hUj : sShr (lim (val xs * 2 ^ j)) (j : Int) = xs := by rw [sShr_yes hmU, val_lim, Nat.mul_div_cancel _ (Nat.two_pow_pos j), lim_val (mayb_canon lx hma)]
  have hmR := mayb_lim (le_fits lx hma (Nat.mod_le (val xs) (2 ^ j)))
  have hbR : sBits (lim (val xs % 2 ^ j)) = blen (val xs % 2 ^ j) := by rw [sBits_yes hmR, val_lim]
  have hbRj : blen (val xs % 2 ^ j) ≤ j := blen_le.2 (Nat.mod_lt _ (Nat.two_pow_pos j))
  have ecast : ((j : Int) + (i : Int)) = ((j + i : Nat) : Int) := by omega
  have hai : sShl xs ((j : Int) + i) = sShl (lim (val xs * 2 ^ j)) (i : Int) := by rw [ecast, sShl_yes hma, sShl_yes hmU, val_lim, Nat.pow_add, Nat.mul_assoc]
  have hri : sShr xs ((j : Int) + i) = sShr (lim (val xs / 2 ^ j)) (i : Int) := by rw [ecast, sShr_yes hma, sShr_yes hmD, val_lim, Nat.div_div_eq_div_mul, Nat.pow_add]
  have hbl := sBits_le' lx
  rcases Nat.eq_zero_or_pos xs.length with h0 | h0
  · exact shifts_nil va xs _ _ _ _ _ _ j i _ w env la (by omega) (by omega) (by omega) hma hU hD hK hok hR hUj hbR hbRj rfl hai rfl hri
  · refine shifts_pos va xs _ _ _ _ _ _ j i _ _ w env la (by omega) (by omega) h0 hma hU hD hK hok hR hUj hbR hbRj rfl hai rfl hri ?_ rfl hbl
    show _ = _
    have hv : val xs ≠ 0 := by have := (mayb_canon lx hma).val_pos (fun e => by subst e; simp at h0); omega
    have h2 := blen_shift (n := val xs) (r := 0) (k := j) hv (Nat.two_pow_pos j)
    rw [Nat.add_zero] at h2
    rw [sBits_yes hmU, val_lim, h2, sBits_yes hma]

end Go.Proofs.Ytdbmandbddechaa

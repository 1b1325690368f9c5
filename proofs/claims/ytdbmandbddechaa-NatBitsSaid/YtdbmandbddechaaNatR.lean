/- NatSums: the law's walk. -/
import Derived.Test.YtdbmandbddechaaNatP
namespace Go.Proofs.Ytdbmandbddechaa
open Go.RowKit

set_option maxRecDepth 100000 in
set_option maxHeartbeats 4000000 in
theorem sums_long1 (va vb vc : Value) (xs ys zs : List Nat) (w : World) (env : Env w w [(va, xs), (vb, ys), (vc, zs)]) (la : 2000 < xs.length) :
    Calls Try.prog 6 #[va, vb, vc] w fun e w' => e = .returned (.bool true) ∧ Below w.heap.size w w' := by
  obtain ⟨A, cap, rfl, _⟩ := env.get (v := va) (xs := xs) (by simp)
  obtain ⟨A', cap', rfl, _⟩ := env.get (v := vb) (xs := ys) (by simp)
  obtain ⟨A'', cap'', rfl, _⟩ := env.get (v := vc) (xs := zs) (by simp)
  have p1 : decide ((2000 : Int) < (xs.length : Int)) = true := decide_eq_true (by omega)
  go_enter Try.func6, Try.ntmps6
  go_wp2_with fail
  refine (awake_env env  ).mono ?_
  rintro e w1 ⟨rfl, env1⟩
  clear env
  have hB := Lib.hid env1.1
  clear env1
  go_wp2
  go_ret
  exact ⟨rfl, hB.out⟩

set_option maxRecDepth 100000 in
set_option maxHeartbeats 4000000 in
theorem sums_long2 (va vb vc : Value) (xs ys zs : List Nat) (w : World) (env : Env w w [(va, xs), (vb, ys), (vc, zs)]) (la : xs.length ≤ 2000) (lb : 2000 < ys.length) :
    Calls Try.prog 6 #[va, vb, vc] w fun e w' => e = .returned (.bool true) ∧ Below w.heap.size w w' := by
  obtain ⟨A, cap, rfl, _⟩ := env.get (v := va) (xs := xs) (by simp)
  obtain ⟨A', cap', rfl, _⟩ := env.get (v := vb) (xs := ys) (by simp)
  obtain ⟨A'', cap'', rfl, _⟩ := env.get (v := vc) (xs := zs) (by simp)
  have p1 : decide ((2000 : Int) < (xs.length : Int)) = false := decide_eq_false (by omega)
  have p2 : decide ((2000 : Int) < (ys.length : Int)) = true := decide_eq_true (by omega)
  go_enter Try.func6, Try.ntmps6
  go_wp2_with fail
  refine (awake_env env  ).mono ?_
  rintro e w1 ⟨rfl, env1⟩
  clear env
  have hB := Lib.hid env1.1
  clear env1
  go_wp2
  go_ret
  exact ⟨rfl, hB.out⟩

set_option maxRecDepth 100000 in
set_option maxHeartbeats 4000000 in
theorem sums_long3 (va vb vc : Value) (xs ys zs : List Nat) (w : World) (env : Env w w [(va, xs), (vb, ys), (vc, zs)]) (la : xs.length ≤ 2000) (lb : ys.length ≤ 2000) (lc : 2000 < zs.length) :
    Calls Try.prog 6 #[va, vb, vc] w fun e w' => e = .returned (.bool true) ∧ Below w.heap.size w w' := by
  obtain ⟨A, cap, rfl, _⟩ := env.get (v := va) (xs := xs) (by simp)
  obtain ⟨A', cap', rfl, _⟩ := env.get (v := vb) (xs := ys) (by simp)
  obtain ⟨A'', cap'', rfl, _⟩ := env.get (v := vc) (xs := zs) (by simp)
  have p1 : decide ((2000 : Int) < (xs.length : Int)) = false := decide_eq_false (by omega)
  have p2 : decide ((2000 : Int) < (ys.length : Int)) = false := decide_eq_false (by omega)
  have p3 : decide ((2000 : Int) < (zs.length : Int)) = true := decide_eq_true (by omega)
  go_enter Try.func6, Try.ntmps6
  go_wp2_with fail
  refine (awake_env env  ).mono ?_
  rintro e w1 ⟨rfl, env1⟩
  clear env
  have hB := Lib.hid env1.1
  clear env1
  go_wp2
  go_ret
  exact ⟨rfl, hB.out⟩

set_option maxRecDepth 100000 in
set_option maxHeartbeats 4000000 in
theorem sums_no1 (va vb vc : Value) (xs ys zs : List Nat) (w : World) (env : Env w w [(va, xs), (vb, ys), (vc, zs)]) (la : xs.length ≤ 2000) (lb : ys.length ≤ 2000) (lc : zs.length ≤ 2000) (hma : Hid (mayb xs = false)) :
    Calls Try.prog 6 #[va, vb, vc] w fun e w' => e = .returned (.bool true) ∧ Below w.heap.size w w' := by
  obtain ⟨A, cap, rfl, _⟩ := env.get (v := va) (xs := xs) (by simp)
  obtain ⟨A', cap', rfl, _⟩ := env.get (v := vb) (xs := ys) (by simp)
  obtain ⟨A'', cap'', rfl, _⟩ := env.get (v := vc) (xs := zs) (by simp)
  have p1 : decide ((2000 : Int) < (xs.length : Int)) = false := decide_eq_false (by omega)
  have p2 : decide ((2000 : Int) < (ys.length : Int)) = false := decide_eq_false (by omega)
  have p3 : decide ((2000 : Int) < (zs.length : Int)) = false := decide_eq_false (by omega)
  go_enter Try.func6, Try.ntmps6
  go_wp2_with fail
  refine (awake_env env  ).mono ?_
  rintro e w1 ⟨rfl, env1⟩
  clear env
  go_wp2_with fail
  refine (may_is env1 (va := (.slice A xs.length cap)) (xs := xs) (by simp) hma.out).mono ?_
  rintro e w2 ⟨rfl, env2⟩
  clear env1
  have hB := Lib.hid env2.1
  clear env2
  go_wp2
  go_ret
  exact ⟨rfl, hB.out⟩

set_option maxRecDepth 100000 in
set_option maxHeartbeats 4000000 in
theorem sums_no2 (va vb vc : Value) (xs ys zs : List Nat) (w : World) (env : Env w w [(va, xs), (vb, ys), (vc, zs)]) (la : xs.length ≤ 2000) (lb : ys.length ≤ 2000) (lc : zs.length ≤ 2000) (hma : Hid (mayb xs = true)) (hmb : Hid (mayb ys = false)) :
    Calls Try.prog 6 #[va, vb, vc] w fun e w' => e = .returned (.bool true) ∧ Below w.heap.size w w' := by
  obtain ⟨A, cap, rfl, _⟩ := env.get (v := va) (xs := xs) (by simp)
  obtain ⟨A', cap', rfl, _⟩ := env.get (v := vb) (xs := ys) (by simp)
  obtain ⟨A'', cap'', rfl, _⟩ := env.get (v := vc) (xs := zs) (by simp)
  have p1 : decide ((2000 : Int) < (xs.length : Int)) = false := decide_eq_false (by omega)
  have p2 : decide ((2000 : Int) < (ys.length : Int)) = false := decide_eq_false (by omega)
  have p3 : decide ((2000 : Int) < (zs.length : Int)) = false := decide_eq_false (by omega)
  go_enter Try.func6, Try.ntmps6
  go_wp2_with fail
  refine (awake_env env  ).mono ?_
  rintro e w1 ⟨rfl, env1⟩
  clear env
  go_wp2_with fail
  refine (may_is env1 (va := (.slice A xs.length cap)) (xs := xs) (by simp) hma.out).mono ?_
  rintro e w2 ⟨rfl, env2⟩
  clear env1
  go_wp2_with fail
  refine (may_is env2 (va := (.slice A' ys.length cap')) (xs := ys) (by simp) hmb.out).mono ?_
  rintro e w3 ⟨rfl, env3⟩
  clear env2
  have hB := Lib.hid env3.1
  clear env3
  go_wp2
  go_ret
  exact ⟨rfl, hB.out⟩

set_option maxRecDepth 100000 in
set_option maxHeartbeats 4000000 in
theorem sums_no3 (va vb vc : Value) (xs ys zs : List Nat) (w : World) (env : Env w w [(va, xs), (vb, ys), (vc, zs)]) (la : xs.length ≤ 2000) (lb : ys.length ≤ 2000) (lc : zs.length ≤ 2000) (hma : Hid (mayb xs = true)) (hmb : Hid (mayb ys = true)) (hmc : Hid (mayb zs = false)) :
    Calls Try.prog 6 #[va, vb, vc] w fun e w' => e = .returned (.bool true) ∧ Below w.heap.size w w' := by
  obtain ⟨A, cap, rfl, _⟩ := env.get (v := va) (xs := xs) (by simp)
  obtain ⟨A', cap', rfl, _⟩ := env.get (v := vb) (xs := ys) (by simp)
  obtain ⟨A'', cap'', rfl, _⟩ := env.get (v := vc) (xs := zs) (by simp)
  have p1 : decide ((2000 : Int) < (xs.length : Int)) = false := decide_eq_false (by omega)
  have p2 : decide ((2000 : Int) < (ys.length : Int)) = false := decide_eq_false (by omega)
  have p3 : decide ((2000 : Int) < (zs.length : Int)) = false := decide_eq_false (by omega)
  go_enter Try.func6, Try.ntmps6
  go_wp2_with fail
  refine (awake_env env  ).mono ?_
  rintro e w1 ⟨rfl, env1⟩
  clear env
  go_wp2_with fail
  refine (may_is env1 (va := (.slice A xs.length cap)) (xs := xs) (by simp) hma.out).mono ?_
  rintro e w2 ⟨rfl, env2⟩
  clear env1
  go_wp2_with fail
  refine (may_is env2 (va := (.slice A' ys.length cap')) (xs := ys) (by simp) hmb.out).mono ?_
  rintro e w3 ⟨rfl, env3⟩
  clear env2
  go_wp2_with fail
  refine (may_is env3 (va := (.slice A'' zs.length cap'')) (xs := zs) (by simp) hmc.out).mono ?_
  rintro e w4 ⟨rfl, env4⟩
  clear env3
  have hB := Lib.hid env4.1
  clear env4
  go_wp2
  go_ret
  exact ⟨rfl, hB.out⟩

set_option maxRecDepth 100000 in
set_option maxHeartbeats 4000000 in
theorem sums_zero (va vb vc : Value) (xs ys zs S T U : List Nat) (w : World) (env : Env w w [(va, xs), (vb, ys), (vc, zs)]) (la : xs.length ≤ 2000) (lb : ys.length ≤ 2000) (lc : zs.length ≤ 2000) (lb0 : ys.length ≤ 0) (hma : Hid (mayb xs = true)) (hmb : Hid (mayb ys = true)) (hmc : Hid (mayb zs = true)) (hS : Hid (sAdd xs ys = S)) (hS' : Hid (sAdd ys xs = S)) (hmS : Hid (mayb S = true)) (hT : Hid (sAdd S zs = T)) (hU : Hid (sAdd ys zs = U)) (hV : Hid (sAdd xs U = T)) (hok : Hid (sSubOk S ys = true)) (hD : Hid (sSub S ys = xs)) (hC : Hid (sCmp S xs = 0)) (hN : Hid (sAdd xs [] = xs)) :
    Calls Try.prog 6 #[va, vb, vc] w fun e w' => e = .returned (.bool true) ∧ Below w.heap.size w w' := by
  obtain ⟨A, cap, rfl, _⟩ := env.get (v := va) (xs := xs) (by simp)
  obtain ⟨A', cap', rfl, _⟩ := env.get (v := vb) (xs := ys) (by simp)
  obtain ⟨A'', cap'', rfl, _⟩ := env.get (v := vc) (xs := zs) (by simp)
  have p1 : decide ((2000 : Int) < (xs.length : Int)) = false := decide_eq_false (by omega)
  have p2 : decide ((2000 : Int) < (ys.length : Int)) = false := decide_eq_false (by omega)
  have p3 : decide ((2000 : Int) < (zs.length : Int)) = false := decide_eq_false (by omega)
  have p4 : decide ((0 : Int) < (ys.length : Int)) = false := decide_eq_false (by omega)
  have p5 : decide (0 < ys.length) = false := decide_eq_false (by omega)
  go_enter Try.func6, Try.ntmps6
  go_wp2_with fail
  refine (awake_env env  ).mono ?_
  rintro e w1 ⟨rfl, env1⟩
  clear env
  go_wp2_with fail
  refine (may_is env1 (va := (.slice A xs.length cap)) (xs := xs) (by simp) hma.out).mono ?_
  rintro e w2 ⟨rfl, env2⟩
  clear env1
  go_wp2_with fail
  refine (may_is env2 (va := (.slice A' ys.length cap')) (xs := ys) (by simp) hmb.out).mono ?_
  rintro e w3 ⟨rfl, env3⟩
  clear env2
  go_wp2_with fail
  refine (may_is env3 (va := (.slice A'' zs.length cap'')) (xs := zs) (by simp) hmc.out).mono ?_
  rintro e w4 ⟨rfl, env4⟩
  clear env3
  go_wp2_with fail
  refine (add_is env4 (va := (.slice A xs.length cap)) (xs := xs) (vb := (.slice A' ys.length cap')) (ys := ys) (by simp) (by simp) hS.out).mono ?_
  rintro e w5 ⟨r5, rfl, env5⟩
  clear env4
  go_wp2_with fail
  refine (sub_is env5 (va := r5) (xs := S) (vb := (.slice A' ys.length cap')) (ys := ys) (by simp) (by simp) hok.out hD.out).mono ?_
  rintro e w6 ⟨r6, rfl, env6⟩
  clear env5
  go_wp2_with fail
  refine (may_is env6 (va := r5) (xs := S) (by simp) hmS.out).mono ?_
  rintro e w7 ⟨rfl, env7⟩
  clear env6
  go_wp2_with fail
  refine (add_is env7 (va := (.slice A' ys.length cap')) (xs := ys) (vb := (.slice A xs.length cap)) (ys := xs) (by simp) (by simp) hS'.out).mono ?_
  rintro e w8 ⟨r8, rfl, env8⟩
  clear env7
  go_wp2_with fail
  refine (same_yes env8 (va := r5) (xs := S) (vb := r8) (ys := S) (by simp) (by simp) rfl).mono ?_
  rintro e w9 ⟨rfl, env9⟩
  clear env8
  go_wp2_with fail
  refine (add_is env9 (va := r5) (xs := S) (vb := (.slice A'' zs.length cap'')) (ys := zs) (by simp) (by simp) hT.out).mono ?_
  rintro e w10 ⟨r10, rfl, env10⟩
  clear env9
  go_wp2_with fail
  refine (add_is env10 (va := (.slice A' ys.length cap')) (xs := ys) (vb := (.slice A'' zs.length cap'')) (ys := zs) (by simp) (by simp) hU.out).mono ?_
  rintro e w11 ⟨r11, rfl, env11⟩
  clear env10
  go_wp2_with fail
  refine (add_is env11 (va := (.slice A xs.length cap)) (xs := xs) (vb := r11) (ys := U) (by simp) (by simp) hV.out).mono ?_
  rintro e w12 ⟨r12, rfl, env12⟩
  clear env11
  go_wp2_with fail
  refine (same_yes env12 (va := r10) (xs := T) (vb := r12) (ys := T) (by simp) (by simp) rfl).mono ?_
  rintro e w13 ⟨rfl, env13⟩
  clear env12
  go_wp2_with fail
  refine (same_yes env13 (va := r6) (xs := xs) (vb := (.slice A xs.length cap)) (ys := xs) (by simp) (by simp) rfl).mono ?_
  rintro e w14 ⟨rfl, env14⟩
  clear env13
  go_wp2_with fail
  refine (cmp_is env14 (va := r5) (xs := S) (vb := (.slice A xs.length cap)) (ys := xs) (by simp) (by simp) hC.out).mono ?_
  rintro e w15 ⟨rfl, env15⟩
  clear env14
  go_wp2_with fail
  refine (cmp_is env15 (va := r5) (xs := S) (vb := (.slice A xs.length cap)) (ys := xs) (by simp) (by simp) hC.out).mono ?_
  rintro e w16 ⟨rfl, env16⟩
  clear env15
  go_wp2_with fail
  refine (add_is env16.nil (va := .slice A xs.length cap) (vb := .slice none 0 0) (xs := xs) (ys := []) (by simp) (by simp) hN.out).mono ?_
  rintro e w17 ⟨r17, rfl, env17⟩
  clear env16
  go_wp2_with fail
  refine (same_yes env17 (va := r17) (xs := xs) (vb := (.slice A xs.length cap)) (ys := xs) (by simp) (by simp) rfl).mono ?_
  rintro e w18 ⟨rfl, env18⟩
  clear env17
  have hB := Lib.hid env18.1
  clear env18
  go_wp2
  go_ret
  exact ⟨rfl, hB.out⟩

set_option maxRecDepth 100000 in
set_option maxHeartbeats 4000000 in
theorem sums_pos (va vb vc : Value) (xs ys zs S T U : List Nat) (w : World) (env : Env w w [(va, xs), (vb, ys), (vc, zs)]) (la : xs.length ≤ 2000) (lb : ys.length ≤ 2000) (lc : zs.length ≤ 2000) (lb0 : 0 < ys.length) (hma : Hid (mayb xs = true)) (hmb : Hid (mayb ys = true)) (hmc : Hid (mayb zs = true)) (hS : Hid (sAdd xs ys = S)) (hS' : Hid (sAdd ys xs = S)) (hmS : Hid (mayb S = true)) (hT : Hid (sAdd S zs = T)) (hU : Hid (sAdd ys zs = U)) (hV : Hid (sAdd xs U = T)) (hok : Hid (sSubOk S ys = true)) (hD : Hid (sSub S ys = xs)) (hC : Hid (sCmp S xs = 1)) (hN : Hid (sAdd xs [] = xs)) :
    Calls Try.prog 6 #[va, vb, vc] w fun e w' => e = .returned (.bool true) ∧ Below w.heap.size w w' := by
  obtain ⟨A, cap, rfl, _⟩ := env.get (v := va) (xs := xs) (by simp)
  obtain ⟨A', cap', rfl, _⟩ := env.get (v := vb) (xs := ys) (by simp)
  obtain ⟨A'', cap'', rfl, _⟩ := env.get (v := vc) (xs := zs) (by simp)
  have p1 : decide ((2000 : Int) < (xs.length : Int)) = false := decide_eq_false (by omega)
  have p2 : decide ((2000 : Int) < (ys.length : Int)) = false := decide_eq_false (by omega)
  have p3 : decide ((2000 : Int) < (zs.length : Int)) = false := decide_eq_false (by omega)
  have p4 : decide ((0 : Int) < (ys.length : Int)) = true := decide_eq_true (by omega)
  have p5 : decide (0 < ys.length) = true := decide_eq_true (by omega)
  go_enter Try.func6, Try.ntmps6
  go_wp2_with fail
  refine (awake_env env  ).mono ?_
  rintro e w1 ⟨rfl, env1⟩
  clear env
  go_wp2_with fail
  refine (may_is env1 (va := (.slice A xs.length cap)) (xs := xs) (by simp) hma.out).mono ?_
  rintro e w2 ⟨rfl, env2⟩
  clear env1
  go_wp2_with fail
  refine (may_is env2 (va := (.slice A' ys.length cap')) (xs := ys) (by simp) hmb.out).mono ?_
  rintro e w3 ⟨rfl, env3⟩
  clear env2
  go_wp2_with fail
  refine (may_is env3 (va := (.slice A'' zs.length cap'')) (xs := zs) (by simp) hmc.out).mono ?_
  rintro e w4 ⟨rfl, env4⟩
  clear env3
  go_wp2_with fail
  refine (add_is env4 (va := (.slice A xs.length cap)) (xs := xs) (vb := (.slice A' ys.length cap')) (ys := ys) (by simp) (by simp) hS.out).mono ?_
  rintro e w5 ⟨r5, rfl, env5⟩
  clear env4
  go_wp2_with fail
  refine (sub_is env5 (va := r5) (xs := S) (vb := (.slice A' ys.length cap')) (ys := ys) (by simp) (by simp) hok.out hD.out).mono ?_
  rintro e w6 ⟨r6, rfl, env6⟩
  clear env5
  go_wp2_with fail
  refine (may_is env6 (va := r5) (xs := S) (by simp) hmS.out).mono ?_
  rintro e w7 ⟨rfl, env7⟩
  clear env6
  go_wp2_with fail
  refine (add_is env7 (va := (.slice A' ys.length cap')) (xs := ys) (vb := (.slice A xs.length cap)) (ys := xs) (by simp) (by simp) hS'.out).mono ?_
  rintro e w8 ⟨r8, rfl, env8⟩
  clear env7
  go_wp2_with fail
  refine (same_yes env8 (va := r5) (xs := S) (vb := r8) (ys := S) (by simp) (by simp) rfl).mono ?_
  rintro e w9 ⟨rfl, env9⟩
  clear env8
  go_wp2_with fail
  refine (add_is env9 (va := r5) (xs := S) (vb := (.slice A'' zs.length cap'')) (ys := zs) (by simp) (by simp) hT.out).mono ?_
  rintro e w10 ⟨r10, rfl, env10⟩
  clear env9
  go_wp2_with fail
  refine (add_is env10 (va := (.slice A' ys.length cap')) (xs := ys) (vb := (.slice A'' zs.length cap'')) (ys := zs) (by simp) (by simp) hU.out).mono ?_
  rintro e w11 ⟨r11, rfl, env11⟩
  clear env10
  go_wp2_with fail
  refine (add_is env11 (va := (.slice A xs.length cap)) (xs := xs) (vb := r11) (ys := U) (by simp) (by simp) hV.out).mono ?_
  rintro e w12 ⟨r12, rfl, env12⟩
  clear env11
  go_wp2_with fail
  refine (same_yes env12 (va := r10) (xs := T) (vb := r12) (ys := T) (by simp) (by simp) rfl).mono ?_
  rintro e w13 ⟨rfl, env13⟩
  clear env12
  go_wp2_with fail
  refine (same_yes env13 (va := r6) (xs := xs) (vb := (.slice A xs.length cap)) (ys := xs) (by simp) (by simp) rfl).mono ?_
  rintro e w14 ⟨rfl, env14⟩
  clear env13
  go_wp2_with fail
  refine (cmp_is env14 (va := r5) (xs := S) (vb := (.slice A xs.length cap)) (ys := xs) (by simp) (by simp) hC.out).mono ?_
  rintro e w15 ⟨rfl, env15⟩
  clear env14
  go_wp2_with fail
  refine (cmp_is env15 (va := r5) (xs := S) (vb := (.slice A xs.length cap)) (ys := xs) (by simp) (by simp) hC.out).mono ?_
  rintro e w16 ⟨rfl, env16⟩
  clear env15
  go_wp2_with fail
  refine (add_is env16.nil (va := .slice A xs.length cap) (vb := .slice none 0 0) (xs := xs) (ys := []) (by simp) (by simp) hN.out).mono ?_
  rintro e w17 ⟨r17, rfl, env17⟩
  clear env16
  go_wp2_with fail
  refine (same_yes env17 (va := r17) (xs := xs) (vb := (.slice A xs.length cap)) (ys := xs) (by simp) (by simp) rfl).mono ?_
  rintro e w18 ⟨rfl, env18⟩
  clear env17
  have hB := Lib.hid env18.1
  clear env18
  go_wp2
  go_ret
  exact ⟨rfl, hB.out⟩

theorem sum_fits {n m k : Nat} (h1 : n < 4294967296 ^ k) (h2 : m < 4294967296 ^ k) : (lim (n + m)).length ≤ k + 1 := by
  rw [lim_length_le, Nat.pow_succ]
  omega
theorem val_pow {xs : List Nat} (h : Limbs xs) {k : Nat} (hl : xs.length ≤ k) : val xs < 4294967296 ^ k := Nat.lt_of_lt_of_le (val_lt h) (Nat.pow_le_pow_right (by decide) hl)
theorem sum_fits2 {xs ys : List Nat} (hx : Limbs xs) (hy : Limbs ys) {k : Nat} (h1 : xs.length ≤ k) (h2 : ys.length ≤ k) : (lim (val xs + val ys)).length ≤ k + 1 := sum_fits (val_pow hx h1) (val_pow hy h2)

theorem natSums_law {va vb vc : Value} {xs ys zs : List Nat} (w : World) (ha : Arg w va xs) (hb : Arg w vb ys) (hc : Arg w vc zs) :
    Calls Try.prog 6 #[va, vb, vc] w fun e w' => e = .returned (.bool true) ∧ Below w.heap.size w w' := by
  have env : Env w w [(va, xs), (vb, ys), (vc, zs)] := (((env_start w).add (Below.refl _ _) hc).add (Below.refl _ _) hb).add (Below.refl _ _) ha
  have lx := ha.limbs; have ly := hb.limbs; have lz := hc.limbs
  rcases Nat.lt_or_ge 2000 xs.length with la | la
  · exact sums_long1 va vb vc xs ys zs w env la
  rcases Nat.lt_or_ge 2000 ys.length with lb | lb
  · exact sums_long2 va vb vc xs ys zs w env la lb
  rcases Nat.lt_or_ge 2000 zs.length with lc | lc
  · exact sums_long3 va vb vc xs ys zs w env la lb lc
  rcases hma : mayb xs with _ | _
  · exact sums_no1 va vb vc xs ys zs w env la lb lc hma
  rcases hmb : mayb ys with _ | _
  · exact sums_no2 va vb vc xs ys zs w env la lb lc hma hmb
  rcases hmc : mayb zs with _ | _
  · exact sums_no3 va vb vc xs ys zs w env la lb lc hma hmb hmc
  have f1 : (lim (val xs + val ys)).length ≤ 65536 := Nat.le_trans (sum_fits2 lx ly la lb) (by decide)
  have f2 : (lim (val ys + val zs)).length ≤ 65536 := Nat.le_trans (sum_fits2 ly lz lb lc) (by decide)
  have hS : sAdd xs ys = lim (val xs + val ys) := by rw [sAdd_yes (by simp [hma, hmb]), clip_of f1]
  have hU : sAdd ys zs = lim (val ys + val zs) := by rw [sAdd_yes (by simp [hmb, hmc]), clip_of f2]
  have hmS := mayb_lim f1
  have hmU := mayb_lim f2
  have hV : sAdd xs (lim (val ys + val zs)) = sAdd (lim (val xs + val ys)) zs := by
    rw [sAdd_yes (by simp [hma, hmU]), sAdd_yes (by simp [hmS, hmc]), val_lim, val_lim, Nat.add_assoc]
  have hok : sSubOk (lim (val xs + val ys)) ys = true := sSub_ok hmS hmb (by rw [val_lim]; omega)
  have hD : sSub (lim (val xs + val ys)) ys = xs := sSub_eq hmS hmb hma lx (by rw [val_lim]; omega)
  have hN : sAdd xs [] = xs := sAdd_eq hma mayb_nil hma lx rfl
  have hcy := sCmp_yes (xs := lim (val xs + val ys)) (ys := xs) (by simp [hma, hmS])
  rw [val_lim] at hcy
  rcases Nat.eq_zero_or_pos ys.length with h0 | h0
  · have hy0 : ys = [] := List.eq_nil_of_length_eq_zero h0
    refine sums_zero va vb vc xs ys zs _ _ _ w env la lb lc (by omega) hma hmb hmc hS (by rw [sAdd_comm]; exact hS) hmS rfl hU hV hok hD ?_ hN
    show _ = _
    rw [hcy, cmpN_eq (by rw [hy0]; rfl)]
  · refine sums_pos va vb vc xs ys zs _ _ _ w env la lb lc h0 hma hmb hmc hS (by rw [sAdd_comm]; exact hS) hmS rfl hU hV hok hD ?_ hN
    show _ = _
    have := (mayb_canon ly hmb).val_pos (fun e => by subst e; simp at h0)
    rw [hcy, cmpN_gt (by omega)]

end Go.Proofs.Ytdbmandbddechaa

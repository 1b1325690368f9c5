/- NatRow: the law's walk, whatever is handed in. -/
import Derived.Test.YtdbmandbddechaaNatP
namespace Go.Proofs.Ytdbmandbddechaa
open Go.RowKit

set_option maxRecDepth 100000 in
set_option maxHeartbeats 2000000 in
theorem row_long1 (va vb vc : Value) (xs ys zs : List Nat) (w : World) (env : Env w w [(va, xs), (vb, ys), (vc, zs)]) (la : 2000 < xs.length) :
    Calls Try.prog 7 #[va, vb, vc] w fun e w' => e = .returned (.bool true) ∧ Below w.heap.size w w' := by
  obtain ⟨A, cap, rfl, _⟩ := env.get (v := va) (xs := xs) (by simp)
  obtain ⟨A', cap', rfl, _⟩ := env.get (v := vb) (xs := ys) (by simp)
  obtain ⟨A'', cap'', rfl, _⟩ := env.get (v := vc) (xs := zs) (by simp)
  have p1 : decide ((2000 : Int) < (xs.length : Int)) = true := decide_eq_true (by omega)
  go_enter Try.func7, Try.ntmps7
  go_wp2_with fail
  refine (awake_env env  ).mono ?_
  rintro e w1 ⟨rfl, env1⟩
  clear env
  have hB := Lib.hid env1.1
  clear env1
  go_wp2
  go_ret
  exact ⟨rfl, hB.out⟩

set_option maxRecDepth 100000 in
set_option maxHeartbeats 2000000 in
theorem row_long2 (va vb vc : Value) (xs ys zs : List Nat) (w : World) (env : Env w w [(va, xs), (vb, ys), (vc, zs)]) (la : xs.length ≤ 2000) (lb : 2000 < ys.length) :
    Calls Try.prog 7 #[va, vb, vc] w fun e w' => e = .returned (.bool true) ∧ Below w.heap.size w w' := by
  obtain ⟨A, cap, rfl, _⟩ := env.get (v := va) (xs := xs) (by simp)
  obtain ⟨A', cap', rfl, _⟩ := env.get (v := vb) (xs := ys) (by simp)
  obtain ⟨A'', cap'', rfl, _⟩ := env.get (v := vc) (xs := zs) (by simp)
  have p1 : decide ((2000 : Int) < (xs.length : Int)) = false := decide_eq_false (by omega)
  have p2 : decide ((2000 : Int) < (ys.length : Int)) = true := decide_eq_true (by omega)
  go_enter Try.func7, Try.ntmps7
  go_wp2_with fail
  refine (awake_env env  ).mono ?_
  rintro e w1 ⟨rfl, env1⟩
  clear env
  have hB := Lib.hid env1.1
  clear env1
  go_wp2
  go_ret
  exact ⟨rfl, hB.out⟩

set_option maxRecDepth 100000 in
set_option maxHeartbeats 2000000 in
theorem row_long3 (va vb vc : Value) (xs ys zs : List Nat) (w : World) (env : Env w w [(va, xs), (vb, ys), (vc, zs)]) (la : xs.length ≤ 2000) (lb : ys.length ≤ 2000) (lc : 2000 < zs.length) :
    Calls Try.prog 7 #[va, vb, vc] w fun e w' => e = .returned (.bool true) ∧ Below w.heap.size w w' := by
  obtain ⟨A, cap, rfl, _⟩ := env.get (v := va) (xs := xs) (by simp)
  obtain ⟨A', cap', rfl, _⟩ := env.get (v := vb) (xs := ys) (by simp)
  obtain ⟨A'', cap'', rfl, _⟩ := env.get (v := vc) (xs := zs) (by simp)
  have p1 : decide ((2000 : Int) < (xs.length : Int)) = false := decide_eq_false (by omega)
  have p2 : decide ((2000 : Int) < (ys.length : Int)) = false := decide_eq_false (by omega)
  have p3 : decide ((2000 : Int) < (zs.length : Int)) = true := decide_eq_true (by omega)
  go_enter Try.func7, Try.ntmps7
  go_wp2_with fail
  refine (awake_env env  ).mono ?_
  rintro e w1 ⟨rfl, env1⟩
  clear env
  have hB := Lib.hid env1.1
  clear env1
  go_wp2
  go_ret
  exact ⟨rfl, hB.out⟩

set_option maxRecDepth 100000 in
set_option maxHeartbeats 2000000 in
theorem row_no1 (va vb vc : Value) (xs ys zs : List Nat) (w : World) (env : Env w w [(va, xs), (vb, ys), (vc, zs)]) (la : xs.length ≤ 2000) (lb : ys.length ≤ 2000) (lc : zs.length ≤ 2000) (hma : Hid (mayb xs = false)) (hX : Hid (sCmp xs ys = 0)) (hok : Hid (sSubOk xs ys = false)) (hds : Hid (sSub xs ys = [])) :
    Calls Try.prog 7 #[va, vb, vc] w fun e w' => e = .returned (.bool true) ∧ Below w.heap.size w w' := by
  obtain ⟨A, cap, rfl, _⟩ := env.get (v := va) (xs := xs) (by simp)
  obtain ⟨A', cap', rfl, _⟩ := env.get (v := vb) (xs := ys) (by simp)
  obtain ⟨A'', cap'', rfl, _⟩ := env.get (v := vc) (xs := zs) (by simp)
  have p1 : decide ((2000 : Int) < (xs.length : Int)) = false := decide_eq_false (by omega)
  have p2 : decide ((2000 : Int) < (ys.length : Int)) = false := decide_eq_false (by omega)
  have p3 : decide ((2000 : Int) < (zs.length : Int)) = false := decide_eq_false (by omega)
  go_enter Try.func7, Try.ntmps7
  go_wp2_with fail
  refine (awake_env env  ).mono ?_
  rintro e w1 ⟨rfl, env1⟩
  clear env
  go_wp2_with fail
  refine (cmp_is env1 (va := (.slice A xs.length cap)) (xs := xs) (vb := (.slice A' ys.length cap')) (ys := ys) (by simp) (by simp) hX.out).mono ?_
  rintro e w2 ⟨rfl, env2⟩
  clear env1
  go_wp2_with fail
  refine (cmp_env env2 (va := (.slice A' ys.length cap')) (xs := ys) (vb := (.slice A'' zs.length cap'')) (ys := zs) (by simp) (by simp)).mono ?_
  rintro e w3 ⟨rfl, env3⟩
  clear env2
  go_wp2_with fail
  refine (cmp_env env3 (va := (.slice A xs.length cap)) (xs := xs) (vb := (.slice A'' zs.length cap'')) (ys := zs) (by simp) (by simp)).mono ?_
  rintro e w4 ⟨rfl, env4⟩
  clear env3
  go_wp2_with fail
  refine (sub_is env4 (va := (.slice A xs.length cap)) (xs := xs) (vb := (.slice A' ys.length cap')) (ys := ys) (by simp) (by simp) hok.out hds.out).mono ?_
  rintro e w5 ⟨r5, rfl, env5⟩
  clear env4
  go_wp2_with fail
  refine (may_is env5 (va := (.slice A xs.length cap)) (xs := xs) (by simp) hma.out).mono ?_
  rintro e w6 ⟨rfl, env6⟩
  clear env5
  obtain ⟨Ad, capd, rfl, _⟩ := env6.get (v := r5) (xs := []) (by simp)
  have hB := Lib.hid env6.1
  clear env6
  go_wp2
  go_ret
  exact ⟨rfl, hB.out⟩

set_option maxRecDepth 100000 in
set_option maxHeartbeats 2000000 in
theorem row_no2 (va vb vc : Value) (xs ys zs : List Nat) (w : World) (env : Env w w [(va, xs), (vb, ys), (vc, zs)]) (la : xs.length ≤ 2000) (lb : ys.length ≤ 2000) (lc : zs.length ≤ 2000) (hma : Hid (mayb xs = true)) (hmb : Hid (mayb ys = false)) (hX : Hid (sCmp xs ys = 0)) (hok : Hid (sSubOk xs ys = false)) (hds : Hid (sSub xs ys = [])) :
    Calls Try.prog 7 #[va, vb, vc] w fun e w' => e = .returned (.bool true) ∧ Below w.heap.size w w' := by
  obtain ⟨A, cap, rfl, _⟩ := env.get (v := va) (xs := xs) (by simp)
  obtain ⟨A', cap', rfl, _⟩ := env.get (v := vb) (xs := ys) (by simp)
  obtain ⟨A'', cap'', rfl, _⟩ := env.get (v := vc) (xs := zs) (by simp)
  have p1 : decide ((2000 : Int) < (xs.length : Int)) = false := decide_eq_false (by omega)
  have p2 : decide ((2000 : Int) < (ys.length : Int)) = false := decide_eq_false (by omega)
  have p3 : decide ((2000 : Int) < (zs.length : Int)) = false := decide_eq_false (by omega)
  go_enter Try.func7, Try.ntmps7
  go_wp2_with fail
  refine (awake_env env  ).mono ?_
  rintro e w1 ⟨rfl, env1⟩
  clear env
  go_wp2_with fail
  refine (cmp_is env1 (va := (.slice A xs.length cap)) (xs := xs) (vb := (.slice A' ys.length cap')) (ys := ys) (by simp) (by simp) hX.out).mono ?_
  rintro e w2 ⟨rfl, env2⟩
  clear env1
  go_wp2_with fail
  refine (cmp_env env2 (va := (.slice A' ys.length cap')) (xs := ys) (vb := (.slice A'' zs.length cap'')) (ys := zs) (by simp) (by simp)).mono ?_
  rintro e w3 ⟨rfl, env3⟩
  clear env2
  go_wp2_with fail
  refine (cmp_env env3 (va := (.slice A xs.length cap)) (xs := xs) (vb := (.slice A'' zs.length cap'')) (ys := zs) (by simp) (by simp)).mono ?_
  rintro e w4 ⟨rfl, env4⟩
  clear env3
  go_wp2_with fail
  refine (sub_is env4 (va := (.slice A xs.length cap)) (xs := xs) (vb := (.slice A' ys.length cap')) (ys := ys) (by simp) (by simp) hok.out hds.out).mono ?_
  rintro e w5 ⟨r5, rfl, env5⟩
  clear env4
  go_wp2_with fail
  refine (may_is env5 (va := (.slice A xs.length cap)) (xs := xs) (by simp) hma.out).mono ?_
  rintro e w6 ⟨rfl, env6⟩
  clear env5
  go_wp2_with fail
  refine (may_is env6 (va := (.slice A' ys.length cap')) (xs := ys) (by simp) hmb.out).mono ?_
  rintro e w7 ⟨rfl, env7⟩
  clear env6
  obtain ⟨Ad, capd, rfl, _⟩ := env7.get (v := r5) (xs := []) (by simp)
  have hB := Lib.hid env7.1
  clear env7
  go_wp2
  go_ret
  exact ⟨rfl, hB.out⟩

theorem cmpN_swap (a b : Nat) : cmpN b a = -cmpN a b := by
  unfold cmpN
  rcases Nat.lt_trichotomy a b with h | h | h
  · rw [if_neg (by omega), if_pos h, if_pos h]; rfl
  · subst h; rw [if_neg (Nat.lt_irrefl _), if_neg (Nat.lt_irrefl _)]; rfl
  · rw [if_pos h, if_neg (by omega), if_pos h]
theorem mayb_eq {xs ys : List Nat} (hx : Limbs xs) (hy : Limbs ys) (h1 : mayb xs = true) (h2 : mayb ys = true) : eqb xs ys = decide (val xs = val ys) := by
  unfold eqb
  rw [decide_eq_decide]
  exact ⟨fun h => by rw [h], fun h => canon_inj (mayb_canon hx h1) (mayb_canon hy h2) h⟩
theorem sub_add_back {xs ys : List Nat} (hx : Limbs xs) (h1 : mayb xs = true) (h2 : mayb ys = true) (h : val ys ≤ val xs) : sAdd (sSub xs ys) ys = xs := by
  rw [sSub_yes (sSub_ok h1 h2 h)]
  have hl : (lim (val xs - val ys)).length ≤ 65536 := by
    refine Nat.le_trans (lim_length_le.2 ?_) (mayb_iff.1 h1).1
    have := val_lt hx
    omega
  exact sAdd_eq (mayb_lim hl) h2 h1 hx (by rw [val_lim]; omega)

theorem natRow_law {va vb vc : Value} {xs ys zs : List Nat} (w : World) (ha : Arg w va xs) (hb : Arg w vb ys) (hc : Arg w vc zs) :
    Calls Try.prog 7 #[va, vb, vc] w fun e w' => e = .returned (.bool true) ∧ Below w.heap.size w w' := by
  have env : Env w w [(va, xs), (vb, ys), (vc, zs)] := (((env_start w).add (Below.refl _ _) hc).add (Below.refl _ _) hb).add (Below.refl _ _) ha
  have lx := ha.limbs; have ly := hb.limbs; have lz := hc.limbs
  rcases Nat.lt_or_ge 2000 xs.length with la | la
  · exact row_long1 va vb vc xs ys zs w env la
  rcases Nat.lt_or_ge 2000 ys.length with lb | lb
  · exact row_long2 va vb vc xs ys zs w env la lb
  rcases Nat.lt_or_ge 2000 zs.length with lc | lc
  · exact row_long3 va vb vc xs ys zs w env la lb lc
  rcases hma : mayb xs with _ | _
  · have hok : sSubOk xs ys = false := by unfold sSubOk; simp [hma]
    exact row_no1 va vb vc xs ys zs w env la lb lc hma (sCmp_no (by simp [hma])) hok (sSub_no hok)
  rcases hmb : mayb ys with _ | _
  · have hok : sSubOk xs ys = false := by unfold sSubOk; simp [hmb]
    exact row_no2 va vb vc xs ys zs w env la lb lc hma hmb (sCmp_no (by simp [hmb])) hok (sSub_no hok)
  have hX := sCmp_yes (xs := xs) (ys := ys) (by simp [hma, hmb])
  have hX' := sCmp_yes (xs := ys) (ys := xs) (by simp [hma, hmb])
  have he := mayb_eq lx ly hma hmb
  rcases Nat.lt_trichotomy (val xs) (val ys) with h | h | h
  · rw [cmpN_lt h] at hX
    rw [cmpN_gt h] at hX'
    rw [decide_eq_false (by omega)] at he
    have hok : sSubOk xs ys = false := by unfold sSubOk; simp [hma, hmb]; omega
    rcases hmc : mayb zs with _ | _
    · exact row_lt_false va vb vc xs ys zs _ _ _ w env la lb lc hma hmb hmc hX hX' rfl rfl hok rfl he
    · refine row_lt_true va vb vc xs ys zs _ _ _ w env la lb lc hma hmb hmc hX hX' rfl rfl hok rfl he ?_
      show _ = _
      rw [sCmp_yes (xs := ys) (ys := zs) (by simp [hmb, hmc]), sCmp_yes (xs := xs) (ys := zs) (by simp [hma, hmc])]
      unfold cmpN
      rcases Nat.lt_trichotomy (val ys) (val zs) with h2 | h2 | h2
      · rw [if_pos h2, if_pos (show val xs < val zs by omega)]; decide
      · rw [if_neg (by omega), if_neg (by omega), if_pos (show val xs < val zs by omega)]; decide
      · rw [if_neg (by omega), if_pos h2]; (repeat' split) <;> decide
  · rw [cmpN_eq h] at hX
    rw [cmpN_eq h.symm] at hX'
    rw [decide_eq_true h] at he
    have hok := sSub_ok hma hmb (show val ys ≤ val xs by omega)
    have hadd := sub_add_back lx hma hmb (show val ys ≤ val xs by omega)
    rcases hmc : mayb zs with _ | _
    · exact row_eq_false va vb vc xs ys zs _ _ _ w env la lb lc hma hmb hmc hX hX' rfl rfl hok rfl he hadd
    · refine row_eq_true va vb vc xs ys zs _ _ _ w env la lb lc hma hmb hmc hX hX' rfl rfl hok rfl he hadd ?_
      show _ = _
      rw [sCmp_yes (xs := ys) (ys := zs) (by simp [hmb, hmc]), sCmp_yes (xs := xs) (ys := zs) (by simp [hma, hmc]), h]
      unfold cmpN
      (repeat' split) <;> decide
  · rw [cmpN_gt h] at hX
    rw [cmpN_lt h] at hX'
    rw [decide_eq_false (by omega)] at he
    have hok := sSub_ok hma hmb (show val ys ≤ val xs by omega)
    have hadd := sub_add_back lx hma hmb (show val ys ≤ val xs by omega)
    rcases hmc : mayb zs with _ | _
    · exact row_gt_false va vb vc xs ys zs _ _ _ w env la lb lc hma hmb hmc hX hX' rfl rfl hok rfl he hadd
    · refine row_gt_true va vb vc xs ys zs _ _ _ w env la lb lc hma hmb hmc hX hX' rfl rfl hok rfl he hadd ?_
      show _ = _
      simp

end Go.Proofs.Ytdbmandbddechaa

/- MulNames: the walk. -/
import Derived.Test.YtidflhonhekmjaaMulV
namespace Go.Proofs.Ytidflhonhekmjaa
open Go.RowKit Go.Shelf

set_option linter.unusedVariables false

def lens : Array Value := #[.int .i64 1, .int .i64 2, .int .i64 39, .int .i64 40, .int .i64 41, .int .i64 42, .int .i64 80, .int .i64 81, .int .i64 82, .int .i64 83, .int .i64 160, .int .i64 161, .int .i64 165]
theorem lens_at {k : Nat} (h : k < 13) : ∃ n : Nat, lens[k]? = some (.int .i64 (n : Int)) ∧ 0 < n ∧ n ≤ 165 := by
  have : k = 0 ∨ k = 1 ∨ k = 2 ∨ k = 3 ∨ k = 4 ∨ k = 5 ∨ k = 6 ∨ k = 7 ∨ k = 8 ∨ k = 9 ∨ k = 10 ∨ k = 11 ∨ k = 12 := by omega
  rcases this with rfl | rfl | rfl | rfl | rfl | rfl | rfl | rfl | rfl | rfl | rfl | rfl | rfl
  · exact ⟨1, rfl, by decide, by decide⟩
  · exact ⟨2, rfl, by decide, by decide⟩
  · exact ⟨39, rfl, by decide, by decide⟩
  · exact ⟨40, rfl, by decide, by decide⟩
  · exact ⟨41, rfl, by decide, by decide⟩
  · exact ⟨42, rfl, by decide, by decide⟩
  · exact ⟨80, rfl, by decide, by decide⟩
  · exact ⟨81, rfl, by decide, by decide⟩
  · exact ⟨82, rfl, by decide, by decide⟩
  · exact ⟨83, rfl, by decide, by decide⟩
  · exact ⟨160, rfl, by decide, by decide⟩
  · exact ⟨161, rfl, by decide, by decide⟩
  · exact ⟨165, rfl, by decide, by decide⟩
theorem three_at {n k : Nat} (hn : n ≤ 165) (hn0 : 0 < n) (h : k < 3) : ∃ m : Nat, (#[.int .i64 (n : Int), .int .i64 ((n : Int) + 1), .int .i64 (2 * (n : Int) + 3)] : Array Value)[k]? = some (.int .i64 (m : Int)) ∧ 0 < m ∧ m ≤ 400 := by
  have : k = 0 ∨ k = 1 ∨ k = 2 := by omega
  rcases this with rfl | rfl | rfl
  · exact ⟨n, rfl, by omega, by omega⟩
  · exact ⟨n + 1, by simp, by omega, by omega⟩
  · exact ⟨2 * n + 3, by simp, by omega, by omega⟩

theorem blen_pow2 (e : Nat) : blen (2 ^ e) = e + 1 := by
  apply blen_unique
  · exact Nat.pow_lt_pow_right (by decide) (by omega)
  · intro j hj
    exact (Nat.pow_lt_pow_iff_right (a := 2) (by decide)).1 hj
theorem pow2_le {e n : Nat} (h : e < 32 * n) : (lim (2 ^ e)).length ≤ n := by rw [lim_len_blen, blen_pow2]; exact h
theorem pow2_gt {e n : Nat} (h : 32 * n ≤ e) : ¬ (lim (2 ^ e)).length ≤ n := by rw [lim_len_blen, blen_pow2]; omega
theorem clip_pow2 {e : Nat} (h : e < 2097152) : clip (2 ^ e) = lim (2 ^ e) := clip_of (pow2_le (by omega))
theorem clip_pow2_no {e : Nat} (h : 2097152 ≤ e) : clip (2 ^ e) = [] := clip_not (pow2_gt (by omega))
theorem may_pow2 {e : Nat} (h : e < 2097152) : mayb (lim (2 ^ e)) = true := mayb_lim (pow2_le (by omega))
theorem shl_pow2 {e : Nat} (h : e < 2097152) : sShl (lim 1) (e : Int) = lim (2 ^ e) := by
  rw [sShl_yes (mayb_lim (Nat.le_trans (lim_le (k := 1) (by decide)) (by decide))), val_lim, Nat.one_mul, clip_pow2 h]
theorem mul_pow2 {a b : Nat} (ha : a < 2097152) (hb : b < 2097152) (h : a + b < 2097152) : sMul (lim (2 ^ a)) (lim (2 ^ b)) = lim (2 ^ (a + b)) := by
  rw [sMul_yes (by rw [may_pow2 ha, may_pow2 hb]; rfl), val_lim, val_lim, ← Nat.pow_add, clip_pow2 h]
theorem mul_pow2_no {a b : Nat} (ha : a < 2097152) (hb : b < 2097152) (h : 2097152 ≤ a + b) : sMul (lim (2 ^ a)) (lim (2 ^ b)) = [] := by
  rw [sMul_yes (by rw [may_pow2 ha, may_pow2 hb]; rfl), val_lim, val_lim, ← Nat.pow_add, clip_pow2_no h]
theorem bits_pow2 {e n : Nat} (h : e < 2097152) (hn : n = e + 1) : sBits (lim (2 ^ e)) = n := by
  rw [sBits_yes (may_pow2 h), val_lim, blen_pow2, hn]
theorem plus_one_len {e n : Nat} (h0 : 0 < e) (h : e < 32 * n) (h1 : 32 * (n - 1) ≤ e) (hn : 0 < n) : (lim (2 ^ e + 1)).length = n := by
  have hb : blen (2 ^ e + 1) = e + 1 := by
    apply blen_unique
    · have : 2 ^ 1 ≤ 2 ^ e := Nat.pow_le_pow_right (by decide) h0
      rw [Nat.pow_succ]
      generalize 2 ^ e = P at *
      omega
    · intro j hj
      exact (Nat.pow_lt_pow_iff_right (a := 2) (by decide)).1 (Nat.lt_of_le_of_lt (Nat.le_add_right (2 ^ e) 1) hj)
  have k1 : (lim (2 ^ e + 1)).length ≤ n := by rw [lim_len_blen, hb]; exact h
  have k2 : ¬ (lim (2 ^ e + 1)).length ≤ n - 1 := by rw [lim_len_blen, hb]; omega
  omega
theorem small2_no {e : Nat} (h : e < 2097152) (h1 : 2097152 ≤ e + 1) : sSmall (lim (2 ^ e)) 2 0 = [] := by
  rw [sSmall_yes (may_pow2 h), val_lim, Nat.add_zero, ← Nat.pow_succ, clip_pow2_no h1]
theorem small1 {e : Nat} (h0 : 0 < e) (h : e < 2097152) (h1 : 2097120 ≤ e) : sSmall (lim (2 ^ e)) 1 1 = lim (2 ^ e + 1) ∧ (lim (2 ^ e + 1)).length = 65536 := by
  have hl := plus_one_len (n := 65536) h0 (by omega) (by omega) (by omega)
  refine ⟨?_, hl⟩
  rw [sSmall_yes (may_pow2 h), val_lim, Nat.mul_one, clip_of (by omega)]
theorem pow_pow2 {e : Nat} (h : e < 2097152) : sPow (lim 2) (e : Int) = lim (2 ^ e) := by
  rw [sPow_yes (mayb_lim (Nat.le_trans (lim_le (k := 1) (by decide)) (by decide))), val_lim, clip_pow2 h]
def ks : Array Value := #[.int .i64 9223372036854775807, .int .i64 1099511627776, .int .i64 2097152, .int .i64 (-1)]
theorem ks_at {k : Nat} (h : k < 4) : ∃ z : Int, ks[k]? = some (.int .i64 z) ∧ ((2097152 ≤ z ∧ z < 9223372036854775808) ∨ z = -1) := by
  have : k = 0 ∨ k = 1 ∨ k = 2 ∨ k = 3 := by omega
  rcases this with rfl | rfl | rfl | rfl
  · exact ⟨_, rfl, .inl ⟨by decide, by decide⟩⟩
  · exact ⟨_, rfl, .inl ⟨by decide, by decide⟩⟩
  · exact ⟨_, rfl, .inl ⟨by decide, by decide⟩⟩
  · exact ⟨_, rfl, .inr rfl⟩
theorem long_pows {z : Int} (h : 2097152 ≤ z) : sPow (lim 2) z = [] ∧ sPow (lim 1) z = lim 1 ∧ sPow [] z = [] := by
  obtain ⟨n, rfl⟩ := Int.eq_ofNat_of_zero_le (show 0 ≤ z by omega)
  have m2 : mayb (lim 2) = true := mayb_lim (Nat.le_trans (lim_le (k := 1) (by decide)) (by decide))
  have l1 : (lim 1).length ≤ 65536 := Nat.le_trans (lim_le (k := 1) (by decide)) (by decide)
  refine ⟨?_, ?_, ?_⟩
  · show sPow (lim 2) ((n : Nat) : Int) = []
    rw [sPow_yes m2, val_lim, clip_pow2_no (by omega)]
  · show sPow (lim 1) ((n : Nat) : Int) = lim 1
    rw [sPow_yes (mayb_lim l1), val_lim, Nat.one_pow, clip_of l1]
  · show sPow [] ((n : Nat) : Int) = []
    rw [sPow_yes mayb_nil, show val [] = 0 from rfl, Nat.zero_pow (by omega), clip_zero]
theorem sum_long {a b : Nat} (ha : a < 1048576) (hb : b ≤ 1048576) (h0 : 0 < a + b) (h1 : 2097120 ≤ a + b) : sSum [lim 1, lim (2 ^ a)] [lim 1, lim (2 ^ b), [1, 0]] = lim (2 ^ (a + b) + 1) := by
  have l1 : (lim 1).length ≤ 1 := lim_le (by decide)
  have p1 := pow2_le (e := a) (n := 32768) (by omega)
  have p2 := pow2_le (e := b) (n := 32769) (by omega)
  have n1 : longB (lim 1).length (lim 1).length = false := (long_false (by omega)).symm
  have n2 : longB (lim (2 ^ a)).length (lim (2 ^ b)).length = false := (long_false (by omega)).symm
  have m1 : mayb (lim 1) = true := mayb_lim (by omega)
  have ma : mayb (lim (2 ^ a)) = true := mayb_lim (by omega)
  have mb : mayb (lim (2 ^ b)) = true := mayb_lim (by omega)
  have hl := plus_one_len (e := a + b) (n := 65536) h0 (by omega) (by omega) (by omega)
  have e : dot [lim 1, lim (2 ^ a)] [lim 1, lim (2 ^ b), [1, 0]] 2 = 2 ^ (a + b) + 1 := by
    rw [Nat.pow_add]
    simp only [dot, List.getElem?_cons_zero, List.getElem?_cons_succ, Option.getD_some, val_lim]
    omega
  rw [sSum_yes (by show allOk _ _ 2 = true; rw [allOk_succ, allOk_succ]; simp [allOk, okAt, m1, ma, mb, n1, n2]), show min [lim 1, lim (2 ^ a)].length [lim 1, lim (2 ^ b), [1, 0]].length = 2 from rfl, e, clip_of (by omega)]
theorem rows_nil (w : World) : Rows2 w (.slice none 0 0) [] := ⟨none, 0, [], rfl, by unfold maxLen; simp, fun j hj => by simp at hj, fun h => by simp at h⟩

set_option maxRecDepth 1000000 in
set_option maxHeartbeats 8000000 in
theorem mnames_all (w : World) : Calls Try.prog 3 #[] w fun e w' => e = .returned (.bool true) ∧ Below w.heap.size w w' := by
  have env0 := env_start w
  have H1 := Lib.hid (lim_eq (u := 1) (zs := [1]) (by decide) (Limbs.one (by decide)) (by decide))
  go_enter Try.func3, Try.ntmps3
  go_wp2_with fail
  refine (works_env env0).mono ?_
  rintro e w1 ⟨rfl, env1⟩
  clear env0
  go_wp2_with fail
  refine (of_env env1 1 (by decide)).mono ?_
  rintro e w2 ⟨one, rfl, env2⟩
  clear env1
  have env3 := env2.lit2 1 0 1 0 rfl rfl (by decide) (by decide)
  obtain ⟨wA, hwA⟩ : ∃ wA, wA = (w2.alloc (.cells #[.int .u32 1, .int .u32 0] 26)).alloc (.cells lens 3) := ⟨_, rfl⟩
  have env4 : Env w wA [(.slice (some ⟨w2.heap.size, 0, none⟩) 2 2, [1, 0]), (one, lim 1)] := by rw [hwA]; exact env3.step ((Below.refl _ _).alloc (Nat.le_refl _) _)
  have hsz : wA.heap.size = w2.heap.size + 2 := by rw [hwA]; simp
  have hlens : ∀ j, wA.cell? ⟨w2.heap.size + 1, j, none⟩ = lens[j]? := fun j => by rw [hwA]; exact World.cell?_alloc_at _ _ _ _ (by simp)
  have HLENS := Lib.hid hlens
  have HWA := Lib.hid hwA
  have HSZ := Lib.hid hsz
  clear env2 env3 hlens hwA hsz
  go_wp2_with fail
  unfold lens at HWA
  rw [← HWA.out]
  have envA : Env wA wA [(.slice (some ⟨w2.heap.size, 0, none⟩) 2 2, [1, 0]), (one, lim 1)] := ⟨Below.refl _ _, env4.2⟩
  have HBA := Lib.hid env4.1
  clear env4
  go_loopw [23] (fun i wr => ∃ k : Nat, k ≤ 13 ∧ i = .int .i64 (k : Int) ∧ Env wA wr [(.slice (some ⟨w2.heap.size, 0, none⟩) 2 2, [1, 0]), (one, lim 1)]) (fun i _ => 13 - (intOf i).toNat)
  case atStart => exact ⟨0, by decide, rfl, envA⟩
  case round =>
    clear envA
    obtain ⟨k, hk, rfl, E⟩ := hrel
    have hB := E.1
    by_cases hlt : k < 13
    · obtain ⟨n, hn, hn0, hn1⟩ := lens_at hlt
      have hd13 : decide ((k : Int) < 13) = true := decide_eq_true (by omega)
      have x1 := (hB.cell (p := ⟨w2.heap.size + 1, k, none⟩) (by rw [HSZ.out]; show w2.heap.size + 1 < _; omega)).trans ((HLENS.out k).trans hn)
      have HB := Lib.hid hB
      have HE := Lib.hid E
      clear hn hB E
      obtain ⟨wo, rfl⟩ : ∃ wo : World, wo = wr := ⟨_, rfl⟩
      obtain ⟨wC, hwC⟩ : ∃ wC, wC = wo.alloc (.cells #[.int .i64 (n : Int), .int .i64 ((n : Int) + 1), .int .i64 (2 * (n : Int) + 3)] 3) := ⟨_, rfl⟩
      have eC : Env wC wC [(.slice (some ⟨w2.heap.size, 0, none⟩) 2 2, [1, 0]), (one, lim 1)] := ⟨Below.refl _ _, by rw [hwC]; exact (HE.out.step ((Below.refl _ _).alloc (Nat.le_refl _) _)).2⟩
      have hszC : wC.heap.size = wo.heap.size + 1 := by rw [hwC]; simp
      have hcC : ∀ j, wC.cell? ⟨wo.heap.size, j, none⟩ = (#[.int .i64 (n : Int), .int .i64 ((n : Int) + 1), .int .i64 (2 * (n : Int) + 3)] : Array Value)[j]? := fun j => by rw [hwC]; exact World.cell?_alloc_at _ _ _ _ rfl
      have HCC := Lib.hid hcC
      have HWC := Lib.hid hwC
      have HSC := Lib.hid hszC
      have HBC := Lib.hid (show Below wA.heap.size wA wC by rw [hwC]; exact HB.out.alloc HB.out.size _)
      clear hcC hwC hszC HE
      go_wp2_with fail
      rw [← HWC.out]
      go_loopw [35] (fun i wr => ∃ j : Nat, j ≤ 3 ∧ i = .int .i64 (j : Int) ∧ Env wC wr [(.slice (some ⟨w2.heap.size, 0, none⟩) 2 2, [1, 0]), (one, lim 1)]) (fun i _ => 3 - (intOf i).toNat)
      case atStart => exact ⟨0, by decide, rfl, eC⟩
      case round =>
        clear eC
        obtain ⟨j, hj, rfl, E2⟩ := hrel
        have hB2 := E2.1
        by_cases hjt : j < 3
        · obtain ⟨m, hm, hm0, hm1⟩ := three_at hn1 hn0 hjt
          have x2 := (hB2.cell (p := ⟨wo.heap.size, j, none⟩) (by rw [HSC.out]; show wo.heap.size < _; omega)).trans ((HCC.out j).trans hm)
          have p1 := pow_len n
          have p2 := pow_len m
          have p3 := pow_len (n + m)
          have p4 := len_add (4294967296 ^ n) (4294967296 ^ m)
          have hfit := ones_fits hn0 hm0
          have hmul := ones_mul hn0 hm0
          have one1 : (lim 1).length ≤ 1 := lim_le (by decide)
          have q1 := sub_lim (a := 4294967296 ^ (n + m)) (b := 4294967296 ^ n + 4294967296 ^ m) (by omega) (by omega) hfit
          have e1 : (lim (4294967296 ^ n - 1)).length ≤ n + 1 := lim_le (Nat.lt_of_le_of_lt (Nat.sub_le _ _) (Nat.pow_lt_pow_right (by decide) (by omega)))
          have e2 : (lim (4294967296 ^ m - 1)).length ≤ m + 1 := lim_le (Nat.lt_of_le_of_lt (Nat.sub_le _ _) (Nat.pow_lt_pow_right (by decide) (by omega)))
          have e3 : (lim (4294967296 ^ (n + m) - (4294967296 ^ n + 4294967296 ^ m))).length ≤ n + m + 1 := lim_le (Nat.lt_of_le_of_lt (Nat.sub_le _ _) (Nat.pow_lt_pow_right (by decide) (by omega)))
          have G1 := Lib.hid (show sShl (lim 1) (32 * ((n : Int) + (m : Int))) = lim (4294967296 ^ (n + m)) by rw [show (32 * ((n : Int) + (m : Int))) = ((32 * (n + m) : Nat) : Int) from by omega]; exact shl_ones (by omega))
          have G2 := Lib.hid (show sShl (lim 1) (32 * (n : Int)) = lim (4294967296 ^ n) by rw [show (32 * (n : Int)) = ((32 * n : Nat) : Int) from by omega]; exact shl_ones (by omega))
          have G3 := Lib.hid (show sShl (lim 1) (32 * (m : Int)) = lim (4294967296 ^ m) by rw [show (32 * (m : Int)) = ((32 * m : Nat) : Int) from by omega]; exact shl_ones (by omega))
          have G4 := Lib.hid (add_lim (a := 4294967296 ^ n) (b := 4294967296 ^ m) (by omega) (by omega))
          have G5 := Lib.hid q1.1
          have G6 := Lib.hid q1.2
          have G7 := Lib.hid (show sMul (fulls n) (fulls m) = lim ((4294967296 ^ n - 1) * (4294967296 ^ m - 1)) by rw [fulls_lim (by omega), fulls_lim (by omega)]; exact mul_lim (by omega))
          have G8 := Lib.hid (show sAdd (lim (4294967296 ^ (n + m) - (4294967296 ^ n + 4294967296 ^ m))) (lim 1) = lim ((4294967296 ^ n - 1) * (4294967296 ^ m - 1)) by rw [hmul]; exact add_lim (by omega) (by omega))
          have G9 := Lib.hid (show sMul (fulls m) (fulls n) = lim ((4294967296 ^ n - 1) * (4294967296 ^ m - 1)) by rw [fulls_lim (by omega), fulls_lim (by omega), Nat.mul_comm (4294967296 ^ n - 1)]; exact mul_lim (by omega))
          have HB2 := Lib.hid hB2
          clear p1 p2 p3 p4 hfit hmul one1 q1 e1 e2 e3 hm hB2
          have K0 := Lib.hid E2
          generalize hPn : 4294967296 ^ n = Pn at *
          generalize hPm : 4294967296 ^ m = Pm at *
          generalize hPnm : 4294967296 ^ (n + m) = Pnm at *
          clear hPn hPm hPnm
          have b0 := E2
          clear E2
          go_wp2_with fail
          refine (ones_is b0 n (by omega)).mono ?_
          rintro e v1 ⟨r1, rfl, b1⟩
          clear b0
          go_wp2_with fail
          refine (ones_is b1 m (by omega)).mono ?_
          rintro e v2 ⟨r2, rfl, b2⟩
          clear b1
          go_wp2_with fail
          refine (shl_is b2 (va := one) (xs := lim 1) (by simp) G1.out).mono ?_
          rintro e v3 ⟨r3, rfl, b3⟩
          clear b2
          go_wp2_with fail
          refine (shl_is b3 (va := one) (xs := lim 1) (by simp) G2.out).mono ?_
          rintro e v4 ⟨r4, rfl, b4⟩
          clear b3
          go_wp2_with fail
          refine (shl_is b4 (va := one) (xs := lim 1) (by simp) G3.out).mono ?_
          rintro e v5 ⟨r5, rfl, b5⟩
          clear b4
          go_wp2_with fail
          refine (add_is b5 (va := r4) (vb := r5) (xs := lim Pn) (ys := lim Pm) (by simp) (by simp) G4.out).mono ?_
          rintro e v6 ⟨r6, rfl, b6⟩
          clear b5
          go_wp2_with fail
          refine (sub_is b6 (va := r3) (vb := r6) (xs := lim Pnm) (ys := lim (Pn + Pm)) (by simp) (by simp) G6.out G5.out).mono ?_
          rintro e v7 ⟨r7, rfl, b7⟩
          clear b6
          go_wp2_with fail
          refine (mul_is b7 (va := r1) (vb := r2) (xs := fulls n) (ys := fulls m) (by simp) (by simp) G7.out).mono ?_
          rintro e v8 ⟨r8, rfl, b8⟩
          clear b7
          go_wp2_with fail
          refine (add_is b8 (va := r7) (vb := one) (xs := lim (Pnm - (Pn + Pm))) (ys := lim 1) (by simp) (by simp) G8.out).mono ?_
          rintro e v9 ⟨r9, rfl, b9⟩
          clear b8
          go_wp2_with fail
          refine (same2_yes b9 (va := r8) (vb := r9) (xs := lim ((Pn - 1) * (Pm - 1))) (ys := lim ((Pn - 1) * (Pm - 1))) (by simp) (by simp) rfl).mono ?_
          rintro e v10 ⟨rfl, b10⟩
          clear b9
          go_wp2_with fail
          refine (mul_is b10 (va := r2) (vb := r1) (xs := fulls m) (ys := fulls n) (by simp) (by simp) G9.out).mono ?_
          rintro e v11 ⟨r11, rfl, b11⟩
          clear b10
          go_wp2_with fail
          refine (mul_is b11 (va := r1) (vb := r2) (xs := fulls n) (ys := fulls m) (by simp) (by simp) G7.out).mono ?_
          rintro e v12 ⟨r12, rfl, b12⟩
          clear b11
          go_wp2_with fail
          refine (same2_yes b12 (va := r11) (vb := r12) (xs := lim ((Pn - 1) * (Pm - 1))) (ys := lim ((Pn - 1) * (Pm - 1))) (by simp) (by simp) rfl).mono ?_
          rintro e v13 ⟨rfl, b13⟩
          clear b12
          have HFE : Hid (Env wC _ [(.slice (some ⟨w2.heap.size, 0, none⟩) 2 2, [1, 0]), (one, lim 1)]) := ⟨b13.1, fun p hp => b13.2 p (List.mem_cons_of_mem _ (List.mem_cons_of_mem _ (List.mem_cons_of_mem _ (List.mem_cons_of_mem _ (List.mem_cons_of_mem _ (List.mem_cons_of_mem _ (List.mem_cons_of_mem _ (List.mem_cons_of_mem _ (List.mem_cons_of_mem _ (List.mem_cons_of_mem _ (List.mem_cons_of_mem _ hp)))))))))))⟩
          clear b13 K0 HB2
          go_wp2_with fail
          go_roundw
          case rel => first | exact ⟨j + 1, by omega, by go_num, HFE.out⟩ | ((repeat apply Exists.intro); exact ⟨⟨j + 1, by omega, by go_num, HFE.out⟩, rfl⟩)
          case measure => simp [intOf]; omega
        · have HFE : Hid (Env wA _ [(.slice (some ⟨w2.heap.size, 0, none⟩) 2 2, [1, 0]), (one, lim 1)]) := ⟨HBC.out.trans (E2.1.mono HBC.out.size), E2.2⟩
          clear E2 hB2
          go_wp2_with fail
          go_roundw
          case rel => exact ⟨k + 1, by omega, by go_num, HFE.out⟩
          case measure => simp [intOf]; omega
    · have HE : Hid (Env w _ [(.slice (some ⟨w2.heap.size, 0, none⟩) 2 2, [1, 0]), (one, lim 1)]) := ⟨HBA.out.trans (E.1.mono HBA.out.size), E.2⟩
      clear E hB
      have c0 := HE.out
      go_wp2_with fail
      obtain ⟨e1, he1⟩ : ∃ e : Nat, e = 1048575 := ⟨_, rfl⟩
      obtain ⟨e2, he2⟩ : ∃ e : Nat, e = 1048576 := ⟨_, rfl⟩
      obtain ⟨e3, he3⟩ : ∃ e : Nat, e = 2097151 := ⟨_, rfl⟩
      have S1 := Lib.hid (show sShl (lim 1) 1048575 = lim (2 ^ e1) by rw [show (1048575 : Int) = (e1 : Int) from by omega]; exact shl_pow2 (by omega))
      have S2 := Lib.hid (show sShl (lim 1) 1048576 = lim (2 ^ e2) by rw [show (1048576 : Int) = (e2 : Int) from by omega]; exact shl_pow2 (by omega))
      have S3 := Lib.hid (show sShl (lim 1) 2097151 = lim (2 ^ e3) by rw [show (2097151 : Int) = (e3 : Int) from by omega]; exact shl_pow2 (by omega))
      have M1 := Lib.hid (mul_pow2 (a := e1) (b := e1) (by omega) (by omega) (by omega))
      have N1 := Lib.hid (bits_pow2 (e := e1 + e1) (n := 2097151) (by omega) (by omega))
      have M2 := Lib.hid (mul_pow2 (a := e2) (b := e1) (by omega) (by omega) (by omega))
      have N2 := Lib.hid (bits_pow2 (e := e2 + e1) (n := 2097152) (by omega) (by omega))
      have M3 := Lib.hid (mul_pow2_no (a := e2) (b := e2) (by omega) (by omega) (by omega))
      have M4 := Lib.hid (small2_no (e := e3) (by omega) (by omega))
      have M5 := Lib.hid (small1 (e := e3) (by omega) (by omega) (by omega))
      have P3 := Lib.hid (show sPow (lim 2) 2097151 = lim (2 ^ e3) by rw [show (2097151 : Int) = (e3 : Int) from by omega]; exact pow_pow2 (by omega))
      have N3 := Lib.hid (bits_pow2 (e := e3) (n := 2097152) (by omega) (by omega))
      have SL := Lib.hid (sum_long (a := e1) (b := e2) (by omega) (by omega) (by omega) (by omega))
      have SN := Lib.hid (plus_one_len (e := e1 + e2) (n := 65536) (by omega) (by omega) (by omega) (by omega))
      clear he1 he2 he3
      refine (shl_is c0 (va := one) (xs := lim 1) (by simp) S1.out).mono ?_
      rintro e up1 ⟨rp1, rfl, Ep1⟩
      clear c0
      go_wp2_with fail
      refine (shl_is Ep1 (va := one) (xs := lim 1) (by simp) S2.out).mono ?_
      rintro e up2 ⟨rp2, rfl, Ep2⟩
      clear Ep1
      go_wp2_with fail
      refine (square_is Ep2 (va := rp1) (xs := lim (2 ^ e1)) (by simp) M1.out).mono ?_
      rintro e up3 ⟨rp3, rfl, Ep3⟩
      clear Ep2
      go_wp2_with fail
      refine (bits_is Ep3 (va := rp3) (xs := lim (2 ^ (e1 + e1))) (by simp) N1.out).mono ?_
      rintro e up4 ⟨rfl, Ep4⟩
      clear Ep3
      go_wp2_with fail
      refine (mul_is Ep4 (va := rp2) (vb := rp1) (xs := lim (2 ^ e2)) (ys := lim (2 ^ e1)) (by simp) (by simp) M2.out).mono ?_
      rintro e up5 ⟨rp5, rfl, Ep5⟩
      clear Ep4
      go_wp2_with fail
      refine (bits_is Ep5 (va := rp5) (xs := lim (2 ^ (e2 + e1))) (by simp) N2.out).mono ?_
      rintro e up6 ⟨rfl, Ep6⟩
      clear Ep5
      go_wp2_with fail
      refine (square_is Ep6 (va := rp2) (xs := lim (2 ^ e2)) (by simp) M3.out).mono ?_
      rintro e up7 ⟨rp7, rfl, Ep7⟩
      clear Ep6
      obtain ⟨Arp7, caprp7, rfl, _⟩ := Ep7.get (v := rp7) (xs := []) (by simp)
      go_wp2_with fail
      refine (shl_is Ep7 (va := one) (xs := lim 1) (by simp) S3.out).mono ?_
      rintro e up8 ⟨rp8, rfl, Ep8⟩
      clear Ep7
      go_wp2_with fail
      refine (small_is Ep8 (va := rp8) (xs := lim (2 ^ e3)) (by simp) 2 0 (by decide) (by decide) M4.out).mono ?_
      rintro e up9 ⟨rp9, rfl, Ep9⟩
      clear Ep8
      obtain ⟨Arp9, caprp9, rfl, _⟩ := Ep9.get (v := rp9) (xs := []) (by simp)
      go_wp2_with fail
      refine (shl_is Ep9 (va := one) (xs := lim 1) (by simp) S3.out).mono ?_
      rintro e up10 ⟨rp10, rfl, Ep10⟩
      clear Ep9
      go_wp2_with fail
      refine (small_is Ep10 (va := rp10) (xs := lim (2 ^ e3)) (by simp) 1 1 (by decide) (by decide) M5.out.1).mono ?_
      rintro e up11 ⟨rp11, rfl, Ep11⟩
      clear Ep10
      obtain ⟨Arp11, caprp11, rfl, _⟩ := Ep11.get (v := rp11) (xs := lim (2 ^ e3 + 1)) (by simp)
      rw [M5.out.2]
      have EK : Env w up11 [(rp1, lim (2 ^ e1)), (rp2, lim (2 ^ e2)), (.slice (some ⟨w2.heap.size, 0, none⟩) 2 2, [1, 0]), (one, lim 1)] := ⟨Ep11.1, fun p hp => Ep11.2 p (by
        simp only [List.mem_cons, List.not_mem_nil, or_false] at hp
        rcases hp with rfl | rfl | rfl | rfl <;> simp)⟩
      obtain ⟨wK, hwK⟩ : ∃ wK, wK = up11.alloc (.cells ks 3) := ⟨_, rfl⟩
      have EK2 : Env w wK [(rp1, lim (2 ^ e1)), (rp2, lim (2 ^ e2)), (.slice (some ⟨w2.heap.size, 0, none⟩) 2 2, [1, 0]), (one, lim 1)] := by rw [hwK]; exact EK.step ((Below.refl _ _).alloc (Nat.le_refl _) _)
      have hszK : wK.heap.size = up11.heap.size + 1 := by rw [hwK]; simp
      have hcK : ∀ j, wK.cell? ⟨up11.heap.size, j, none⟩ = ks[j]? := fun j => by rw [hwK]; exact World.cell?_alloc_at _ _ _ _ rfl
      have HCK := Lib.hid hcK
      have HWK := Lib.hid hwK
      have HSK := Lib.hid hszK
      have EKA : Env wK wK [(rp1, lim (2 ^ e1)), (rp2, lim (2 ^ e2)), (.slice (some ⟨w2.heap.size, 0, none⟩) 2 2, [1, 0]), (one, lim 1)] := ⟨Below.refl _ _, EK2.2⟩
      have HBK := Lib.hid EK2.1
      have HONE := Lib.hid (lim_eq (u := 2) (zs := lim 2) (mayb_lim (Nat.le_trans (lim_le (k := 1) (by decide)) (by decide))) (lim_limbs 2) (val_lim 2))
      clear Ep11 EK EK2 hcK hwK hszK
      go_wp2_with fail
      unfold ks at HWK
      rw [← HWK.out]
      go_loopw [123] (fun i wr => ∃ k : Nat, k ≤ 4 ∧ i = .int .i64 (k : Int) ∧ Env wK wr [(rp1, lim (2 ^ e1)), (rp2, lim (2 ^ e2)), (.slice (some ⟨w2.heap.size, 0, none⟩) 2 2, [1, 0]), (one, lim 1)]) (fun i _ => 4 - (intOf i).toNat)
      case atStart => exact ⟨0, by decide, rfl, EKA⟩
      case round =>
        clear EKA
        obtain ⟨k, hk, rfl, D0⟩ := hrel
        by_cases hlt : k < 4
        · obtain ⟨z, hz, hzz⟩ := ks_at hlt
          have hd4 : decide ((k : Int) < 4) = true := decide_eq_true (by omega)
          have x1 := (D0.1.cell (p := ⟨up11.heap.size, k, none⟩) (by rw [HSK.out]; show up11.heap.size < _; omega)).trans ((HCK.out k).trans hz)
          clear hz
          rcases hzz with ⟨hz1, hz2⟩ | rfl
          · have HP := Lib.hid (long_pows hz1)
            have hzp : decide (0 < z) = true := decide_eq_true (by omega)
            go_wp2_with fail
            refine (of_env D0 2 (by decide)).mono ?_
            rintro e uq1 ⟨rq1, rfl, Eq1⟩
            clear D0
            go_wp2_with fail
            refine (pow_is Eq1 (va := rq1) (xs := lim 2) (by simp) z hz2 (by omega) HP.out.1).mono ?_
            rintro e uq2 ⟨rq2, rfl, Eq2⟩
            clear Eq1
            obtain ⟨Arq2, caprq2, rfl, _⟩ := Eq2.get (v := rq2) (xs := []) (by simp)
            go_wp2_with fail
            refine (pow_is Eq2 (va := one) (xs := lim 1) (by simp) z hz2 (by omega) HP.out.2.1).mono ?_
            rintro e uq3 ⟨rq3, rfl, Eq3⟩
            clear Eq2
            go_wp2_with fail
            refine (same2_yes Eq3 (va := rq3) (vb := one) (xs := lim 1) (ys := lim 1) (by simp) (by simp) rfl).mono ?_
            rintro e uq4 ⟨rfl, Eq4⟩
            clear Eq3
            go_wp2_with fail
            refine (pow_is Eq4.nil (va := .slice none 0 0) (xs := []) (by simp) z hz2 (by omega) HP.out.2.2).mono ?_
            rintro e uq5 ⟨rq5, rfl, Eq5⟩
            clear Eq4
            obtain ⟨Arq5, caprq5, rfl, _⟩ := Eq5.get (v := rq5) (xs := []) (by simp)
            have HFE : Hid (Env wK uq5 [(rp1, lim (2 ^ e1)), (rp2, lim (2 ^ e2)), (.slice (some ⟨w2.heap.size, 0, none⟩) 2 2, [1, 0]), (one, lim 1)]) := ⟨Eq5.1, fun p hp => Eq5.2 p (by
              simp only [List.mem_cons, List.not_mem_nil, or_false] at hp
              rcases hp with rfl | rfl | rfl | rfl <;> simp)⟩
            clear Eq5
            go_wp2_with fail
            go_roundw
            case rel => exact ⟨k + 1, by omega, by go_num, HFE.out⟩
            case measure => simp [intOf]; omega
          · go_wp2_with fail
            refine (of_env D0 2 (by decide)).mono ?_
            rintro e us1 ⟨rs1, rfl, Es1⟩
            clear D0
            go_wp2_with fail
            refine (pow_is Es1 (va := rs1) (xs := lim 2) (by simp) (-1) (by decide) (by decide) (sPow_no2 (by decide))).mono ?_
            rintro e us2 ⟨rs2, rfl, Es2⟩
            clear Es1
            obtain ⟨Ars2, caprs2, rfl, _⟩ := Es2.get (v := rs2) (xs := []) (by simp)
            have HFE : Hid (Env wK us2 [(rp1, lim (2 ^ e1)), (rp2, lim (2 ^ e2)), (.slice (some ⟨w2.heap.size, 0, none⟩) 2 2, [1, 0]), (one, lim 1)]) := ⟨Es2.1, fun p hp => Es2.2 p (by
              simp only [List.mem_cons, List.not_mem_nil, or_false] at hp
              rcases hp with rfl | rfl | rfl | rfl <;> simp)⟩
            clear Es2
            go_wp2_with fail
            go_roundw
            case rel => exact ⟨k + 1, by omega, by go_num, HFE.out⟩
            case measure => simp [intOf]; omega
        · have C0 : Env w wr [(rp1, lim (2 ^ e1)), (rp2, lim (2 ^ e2)), (.slice (some ⟨w2.heap.size, 0, none⟩) 2 2, [1, 0]), (one, lim 1)] := ⟨HBK.out.trans (D0.1.mono HBK.out.size), D0.2⟩
          clear D0
          go_wp2_with fail
          refine (of_env C0 2 (by decide)).mono ?_
          rintro e ut1 ⟨rt1, rfl, Et1⟩
          clear C0
          go_wp2_with fail
          refine (pow_is Et1 (va := rt1) (xs := lim 2) (by simp) 2097151 (by decide) (by decide) P3.out).mono ?_
          rintro e ut2 ⟨rt2, rfl, Et2⟩
          clear Et1
          go_wp2_with fail
          refine (bits_is Et2 (va := rt2) (xs := lim (2 ^ e3)) (by simp) N3.out).mono ?_
          rintro e ut3 ⟨rfl, Et3⟩
          clear Et2
          have l1 : (lim 1).length ≤ 1 := lim_le (by decide)
          have m1 : mayb (lim 1) = true := mayb_lim (by omega)
          have Z1 := Lib.hid (show sMul [1, 0] (lim 1) = [] from sMul_no (by rw [show mayb [1, 0] = false from by decide]; rfl))
          have Z2 := Lib.hid (show sMul (lim 1) [1, 0] = [] from sMul_no (by rw [show mayb [1, 0] = false from by decide, Bool.and_false]))
          have Z3 := Lib.hid (show sSmall [1, 0] 1 1 = [] from sSmall_no (by decide))
          have Z4 := Lib.hid (show sPow [1, 0] 0 = [] from sPow_no1 (by decide))
          have Z5 := Lib.hid (show sMul [1, 0] [1, 0] = [] from sMul_no (by decide))
          have Z6 := Lib.hid (show sSum [lim 1, [1, 0]] [lim 1, lim 1] = [] from sSum_no (k := 1) (by decide) (by show ((mayb [1, 0] && _) && _) = false; rw [show mayb [1, 0] = false from by decide]; rfl))
          have Z7 := Lib.hid (show sSum [] [] = [] by rw [sSum_yes (by decide)]; exact clip_zero)
          have Z8 := Lib.hid (show sSmall [] 5 9 = lim 9 by rw [sSmall_yes mayb_nil, show val [] * 5 + 9 = 9 from rfl, clip_of (Nat.le_trans (lim_le (k := 1) (by decide)) (by decide))])
          have Z9 := Lib.hid (show sSmall (lim 1) 0 0 = [] by rw [sSmall_yes m1, Nat.mul_zero, Nat.add_zero, clip_zero])
          have Z10 := Lib.hid (show sMul [] (lim 1) = [] by rw [sMul_yes (by rw [m1]; rfl), show val [] = 0 from rfl, Nat.zero_mul, clip_zero])
          clear l1 m1
          go_wp2_with fail
          refine (mul_is Et3 (va := (.slice (some ⟨w2.heap.size, 0, none⟩) 2 2)) (vb := one) (xs := [1, 0]) (ys := lim 1) (by simp) (by simp) Z1.out).mono ?_
          rintro e ut4 ⟨rt4, rfl, Et4⟩
          clear Et3
          obtain ⟨Art4, caprt4, rfl, _⟩ := Et4.get (v := rt4) (xs := []) (by simp)
          go_wp2_with fail
          refine (mul_is Et4 (va := one) (vb := (.slice (some ⟨w2.heap.size, 0, none⟩) 2 2)) (xs := lim 1) (ys := [1, 0]) (by simp) (by simp) Z2.out).mono ?_
          rintro e ut5 ⟨rt5, rfl, Et5⟩
          clear Et4
          obtain ⟨Art5, caprt5, rfl, _⟩ := Et5.get (v := rt5) (xs := []) (by simp)
          go_wp2_with fail
          refine (small_is Et5 (va := (.slice (some ⟨w2.heap.size, 0, none⟩) 2 2)) (xs := [1, 0]) (by simp) 1 1 (by decide) (by decide) Z3.out).mono ?_
          rintro e ut6 ⟨rt6, rfl, Et6⟩
          clear Et5
          obtain ⟨Art6, caprt6, rfl, _⟩ := Et6.get (v := rt6) (xs := []) (by simp)
          go_wp2_with fail
          refine (pow_is Et6 (va := (.slice (some ⟨w2.heap.size, 0, none⟩) 2 2)) (xs := [1, 0]) (by simp) 0 (by decide) (by decide) Z4.out).mono ?_
          rintro e ut7 ⟨rt7, rfl, Et7⟩
          clear Et6
          obtain ⟨Art7, caprt7, rfl, _⟩ := Et7.get (v := rt7) (xs := []) (by simp)
          go_wp2_with fail
          refine (square_is Et7 (va := (.slice (some ⟨w2.heap.size, 0, none⟩) 2 2)) (xs := [1, 0]) (by simp) Z5.out).mono ?_
          rintro e ut8 ⟨rt8, rfl, Et8⟩
          clear Et7
          obtain ⟨Art8, caprt8, rfl, _⟩ := Et8.get (v := rt8) (xs := []) (by simp)
          obtain ⟨A1, c1, rfl, _⟩ := Et8.get (v := one) (xs := lim 1) (by simp)
          obtain ⟨A2, c2, rfl, _⟩ := Et8.get (v := rp1) (xs := lim (2 ^ e1)) (by simp)
          obtain ⟨A3, c3, rfl, _⟩ := Et8.get (v := rp2) (xs := lim (2 ^ e2)) (by simp)
          go_wp2_with fail
          obtain ⟨rS, eS⟩ := rows2 Et8 (va := (.slice A1 (lim 1).length c1)) (xs := lim 1) (vb := (.slice (some ⟨w2.heap.size, 0, none⟩) 2 2)) (ys := [1, 0]) ut8.heap.size rfl (by simp) (by simp) 
          obtain ⟨rT, eT⟩ := rows2 eS (va := (.slice A1 (lim 1).length c1)) (xs := lim 1) (vb := (.slice A1 (lim 1).length c1)) (ys := lim 1) (ut8.heap.size + 1) (by simp) (by simp) (by simp) 
          refine (sum_is eT (rS.alloc _) rT Z6.out).mono ?_
          rintro e ut9 ⟨rt9, rfl, Et9⟩
          clear Et8 eS eT rS rT
          obtain ⟨Art9, caprt9, rfl, _⟩ := Et9.get (v := rt9) (xs := []) (by simp)
          go_wp2_with fail
          obtain ⟨rS, eS⟩ := rows2 Et9 (va := (.slice A1 (lim 1).length c1)) (xs := lim 1) (vb := (.slice A2 (lim (2 ^ e1)).length c2)) (ys := lim (2 ^ e1)) ut9.heap.size rfl (by simp) (by simp) 
          obtain ⟨rT, eT⟩ := rows3 eS (va := (.slice A1 (lim 1).length c1)) (xs := lim 1) (vb := (.slice A3 (lim (2 ^ e2)).length c3)) (ys := lim (2 ^ e2)) (vc := (.slice (some ⟨w2.heap.size, 0, none⟩) 2 2)) (zs := [1, 0]) (ut9.heap.size + 1) (by simp) (by simp) (by simp) (by simp) 
          refine (sum_is eT (rS.alloc _) rT SL.out).mono ?_
          rintro e ut10 ⟨rt10, rfl, Et10⟩
          clear Et9 eS eT rS rT
          obtain ⟨Art10, caprt10, rfl, _⟩ := Et10.get (v := rt10) (xs := lim (2 ^ (e1 + e2) + 1)) (by simp)
          rw [SN.out]
          go_wp2_with fail
          refine (sum_is Et10 (rows_nil _) (rows_nil _) Z7.out).mono ?_
          rintro e ut11 ⟨rt11, rfl, Et11⟩
          clear Et10
          obtain ⟨Art11, caprt11, rfl, _⟩ := Et11.get (v := rt11) (xs := []) (by simp)
          go_wp2_with fail
          refine (small_is Et11.nil (va := .slice none 0 0) (xs := []) (by simp) 5 9 (by decide) (by decide) Z8.out).mono ?_
          rintro e ut12 ⟨rt12, rfl, Et12⟩
          clear Et11
          go_wp2_with fail
          refine (of_env Et12 9 (by decide)).mono ?_
          rintro e ut13 ⟨rt13, rfl, Et13⟩
          clear Et12
          go_wp2_with fail
          refine (same2_yes Et13 (va := rt12) (vb := rt13) (xs := lim 9) (ys := lim 9) (by simp) (by simp) rfl).mono ?_
          rintro e ut14 ⟨rfl, Et14⟩
          clear Et13
          go_wp2_with fail
          refine (small_is Et14 (va := (.slice A1 (lim 1).length c1)) (xs := lim 1) (by simp) 0 0 (by decide) (by decide) Z9.out).mono ?_
          rintro e ut15 ⟨rt15, rfl, Et15⟩
          clear Et14
          obtain ⟨Art15, caprt15, rfl, _⟩ := Et15.get (v := rt15) (xs := []) (by simp)
          go_wp2_with fail
          refine (mul_is Et15.nil (va := .slice none 0 0) (vb := (.slice A1 (lim 1).length c1)) (xs := []) (ys := lim 1) (by simp) (by simp) Z10.out).mono ?_
          rintro e ut16 ⟨rt16, rfl, Et16⟩
          clear Et15
          obtain ⟨Art16, caprt16, rfl, _⟩ := Et16.get (v := rt16) (xs := []) (by simp)
          have HB := Lib.hid Et16.1
          clear Et16
          go_wp2
          go_ret
          exact ⟨rfl, HB.out⟩

end Go.Proofs.Ytidflhonhekmjaa

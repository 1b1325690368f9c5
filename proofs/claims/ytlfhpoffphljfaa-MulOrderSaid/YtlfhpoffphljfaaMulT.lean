/- MulOrder. -/
import Derived.Test.YtlfhpoffphljfaaMulR
namespace Go.Proofs.Ytlfhpoffphljfaa
open Go.RowKit Go.Shelf

set_option linter.unusedVariables false

theorem cmp_sq (a b : Nat) : cmpN (a * a) (b * b) = cmpN a b := by
  rcases Nat.lt_trichotomy a b with h | h | h
  · rw [cmpN_lt h, cmpN_lt (Nat.mul_lt_mul'' h h)]
  · rw [cmpN_eq h, h, cmpN_eq rfl]
  · rw [cmpN_gt h, cmpN_gt (Nat.mul_lt_mul'' h h)]
theorem cmp_ge {a b : Nat} (h : b ≤ a) : 0 ≤ cmpN a b := by
  rcases Nat.lt_or_ge b a with h1 | h1
  · rw [cmpN_gt h1]; decide
  · rw [cmpN_eq (by omega)]; decide
theorem blen_ge {n : Nat} (h : 0 < n) : 2 ^ (blen n - 1) ≤ n := by
  rcases Nat.lt_or_ge n (2 ^ (blen n - 1)) with h3 | h3
  · have := blen_le.2 h3
    have := blen_pos (n := n) (by omega)
    omega
  · exact h3
theorem blen_mul {a b : Nat} (ha : 0 < a) (hb : 0 < b) : blen (a * b) = blen a + blen b ∨ blen (a * b) + 1 = blen a + blen b := by
  have h1 : a * b < 2 ^ (blen a + blen b) := by rw [Nat.pow_add]; exact Nat.mul_lt_mul'' (blen_le.1 (Nat.le_refl _)) (blen_le.1 (Nat.le_refl _))
  have h2 := Nat.mul_le_mul (blen_ge ha) (blen_ge hb)
  rw [← Nat.pow_add] at h2
  have h3 := blen_le.2 h1
  have h4 : blen a - 1 + (blen b - 1) < blen (a * b) := by
    have := blen_le.1 (Nat.le_refl (blen (a * b)))
    exact (Nat.pow_lt_pow_iff_right (a := 2) (by decide)).1 (Nat.lt_of_le_of_lt h2 this)
  have := blen_pos (n := a) (by omega)
  have := blen_pos (n := b) (by omega)
  omega

set_option maxRecDepth 100000 in
set_option maxHeartbeats 8000000 in
theorem order_long {Pa : Option Addr} {na ca : Nat} {Pb : Option Addr} {nb cb : Nat} {xs ys : List Nat} (w : World) (h0 : Arg w (.slice Pa na ca) xs) (h1 : Arg w (.slice Pb nb cb) ys) (hL : longL [xs, ys] = true) : Calls Try.prog 8 #[(.slice Pa na ca), (.slice Pb nb cb)] w fun e w' => e = .returned (.bool true) ∧ Below w.heap.size w w' := by
  have env0 : Env w w [((.slice Pa na ca), xs), ((.slice Pb nb cb), ys)] := (((env_start w).add (Below.refl _ _) h1).add (Below.refl _ _) h0)
  clear h0 h1
  go_enter Try.func8, Try.ntmps8
  go_wp2_with fail
  refine (works_env env0).mono ?_
  rintro e w1 ⟨rfl, env1⟩
  clear env0
  go_wp2_with fail
  obtain ⟨rL, env2⟩ := rows2 env1 (va := (.slice Pa na ca)) (xs := xs) (vb := (.slice Pb nb cb)) (ys := ys) w1.heap.size rfl (by simp) (by simp) 
  have cL := long_any _ _ _ rL
  rw [hL] at cL
  with_reducible refine cL.mono ?_
  rintro e w2 ⟨rfl, rfl⟩
  clear env1 cL
  go_wp2_with fail
  refine (works_env env2).mono ?_
  rintro e w9 ⟨rfl, env9⟩
  have HB := Lib.hid env9.1
  clear env9 env2 rL
  go_wp2
  go_ret
  exact ⟨rfl, HB.out⟩

set_option maxRecDepth 100000 in
set_option maxHeartbeats 8000000 in
theorem order_no {Pa : Option Addr} {na ca : Nat} {Pb : Option Addr} {nb cb : Nat} {xs ys : List Nat} (w : World) (h0 : Arg w (.slice Pa na ca) xs) (h1 : Arg w (.slice Pb nb cb) ys) (hL : longL [xs, ys] = false) (hM : [xs, ys].all mayb = false) : Calls Try.prog 8 #[(.slice Pa na ca), (.slice Pb nb cb)] w fun e w' => e = .returned (.bool true) ∧ Below w.heap.size w w' := by
  have env0 : Env w w [((.slice Pa na ca), xs), ((.slice Pb nb cb), ys)] := (((env_start w).add (Below.refl _ _) h1).add (Below.refl _ _) h0)
  clear h0 h1
  go_enter Try.func8, Try.ntmps8
  go_wp2_with fail
  refine (works_env env0).mono ?_
  rintro e w1 ⟨rfl, env1⟩
  clear env0
  go_wp2_with fail
  obtain ⟨rL, env2⟩ := rows2 env1 (va := (.slice Pa na ca)) (xs := xs) (vb := (.slice Pb nb cb)) (ys := ys) w1.heap.size rfl (by simp) (by simp) 
  have cL := long_any _ _ _ rL
  rw [hL] at cL
  with_reducible refine cL.mono ?_
  rintro e w2 ⟨rfl, rfl⟩
  clear env1 cL
  go_wp2_with fail
  obtain ⟨rM, env3⟩ := rows2 env2 (va := (.slice Pa na ca)) (xs := xs) (vb := (.slice Pb nb cb)) (ys := ys) (w1.heap.size + 1) (by simp) (by simp) (by simp) 
  have cM := may2_any _ _ _ rM
  rw [hM] at cM
  with_reducible refine cM.mono ?_
  rintro e w2 ⟨rfl, rfl⟩
  clear env2 cM
  go_wp2_with fail
  refine (works_env env3).mono ?_
  rintro e w9 ⟨rfl, env9⟩
  have HB := Lib.hid env9.1
  clear env9 env3 rL rM
  go_wp2
  go_ret
  exact ⟨rfl, HB.out⟩

set_option maxRecDepth 100000 in
set_option maxHeartbeats 8000000 in
theorem order_za {Pa : Option Addr} {na ca : Nat} {Pb : Option Addr} {nb cb : Nat} {A B : Nat} (w : World) (h0 : Arg w (.slice Pa na ca) (lim A)) (h1 : Arg w (.slice Pb nb cb) (lim B)) (hL : longL [lim A, lim B] = false) (hM : [lim A, lim B].all mayb = true) (hA : A = 0) : Calls Try.prog 8 #[(.slice Pa na ca), (.slice Pb nb cb)] w fun e w' => e = .returned (.bool true) ∧ Below w.heap.size w w' := by
  have l0 := long_no hL (xs := lim A) (by simp)
  have l1 := long_no hL (xs := lim B) (by simp)
  have k1 := len_mul A A
  have k2 := len_mul B B
  have k6 := len_mul A B
  have H1 := Lib.hid (mul_lim (a := A) (b := A) (by omega))
  have H2 := Lib.hid (mul_lim (a := B) (b := B) (by omega))
  have H3 := Lib.hid (show sCmp (lim (A * A)) (lim (B * B)) = cmpN A B by rw [cmp_lim (by omega) (by omega), cmp_sq])
  have H4 := Lib.hid (cmp_lim (a := A) (b := B) (by omega) (by omega))
  have hna : na = (lim A).length := by obtain ⟨_, _, e, _⟩ := h0; injection e
  have hnb : nb = (lim B).length := by obtain ⟨_, _, e, _⟩ := h1; injection e
  have H5 := Lib.hid (show sMul (lim A) (lim B) = [] by rw [mul_lim (by omega), hA, Nat.zero_mul, lim_zero])
  have z1 : na = 0 := by rw [hna, hA, lim_zero]; rfl
  subst z1
  clear hna hnb hA
  have env0 : Env w w [((.slice Pa 0 ca), lim A), ((.slice Pb nb cb), lim B)] := (((env_start w).add (Below.refl _ _) h1).add (Below.refl _ _) h0)
  clear h0 h1 l0 l1 k1 k2 k6
  go_enter Try.func8, Try.ntmps8
  go_wp2_with fail
  refine (works_env env0).mono ?_
  rintro e w1 ⟨rfl, env1⟩
  clear env0
  go_wp2_with fail
  obtain ⟨rL, env2⟩ := rows2 env1 (va := (.slice Pa 0 ca)) (xs := lim A) (vb := (.slice Pb nb cb)) (ys := lim B) w1.heap.size rfl (by simp) (by simp) 
  have cL := long_any _ _ _ rL
  rw [hL] at cL
  with_reducible refine cL.mono ?_
  rintro e w2 ⟨rfl, rfl⟩
  clear env1 cL
  go_wp2_with fail
  obtain ⟨rM, env3⟩ := rows2 env2 (va := (.slice Pa 0 ca)) (xs := lim A) (vb := (.slice Pb nb cb)) (ys := lim B) (w1.heap.size + 1) (by simp) (by simp) (by simp) 
  have cM := may2_any _ _ _ rM
  rw [hM] at cM
  with_reducible refine cM.mono ?_
  rintro e w2 ⟨rfl, rfl⟩
  clear env2 cM
  go_wp2_with fail
  refine (square_is env3 (va := (.slice Pa 0 ca)) (xs := lim A) (by simp) H1.out).mono ?_
  rintro e w4 ⟨r4, rfl, env4⟩
  clear env3
  go_wp2_with fail
  refine (square_is env4 (va := (.slice Pb nb cb)) (xs := lim B) (by simp) H2.out).mono ?_
  rintro e w5 ⟨r5, rfl, env5⟩
  clear env4
  go_wp2_with fail
  refine (cmp_is env5 (va := r4) (vb := r5) (xs := lim (A * A)) (ys := lim (B * B)) (by simp) (by simp) H3.out).mono ?_
  rintro e w6 ⟨rfl, env6⟩
  clear env5
  go_wp2_with fail
  refine (cmp_is env6 (va := (.slice Pa 0 ca)) (vb := (.slice Pb nb cb)) (xs := lim A) (ys := lim B) (by simp) (by simp) H4.out).mono ?_
  rintro e w7 ⟨rfl, env7⟩
  clear env6
  go_wp2_with fail
  refine (mul_is env7 (va := (.slice Pa 0 ca)) (vb := (.slice Pb nb cb)) (xs := lim A) (ys := lim B) (by simp) (by simp) H5.out).mono ?_
  rintro e w8 ⟨r8, rfl, env8⟩
  clear env7
  obtain ⟨Ap, capp, rfl, _⟩ := env8.get (v := r8) (xs := []) (by simp)
  have HB := Lib.hid env8.1
  clear env8 rL rM
  go_wp2
  go_ret
  exact ⟨rfl, HB.out⟩

set_option maxRecDepth 100000 in
set_option maxHeartbeats 8000000 in
theorem order_zb {Pa : Option Addr} {na ca : Nat} {Pb : Option Addr} {nb cb : Nat} {A B : Nat} (w : World) (h0 : Arg w (.slice Pa na ca) (lim A)) (h1 : Arg w (.slice Pb nb cb) (lim B)) (hL : longL [lim A, lim B] = false) (hM : [lim A, lim B].all mayb = true) (hA : 0 < A) (hB : B = 0) : Calls Try.prog 8 #[(.slice Pa na ca), (.slice Pb nb cb)] w fun e w' => e = .returned (.bool true) ∧ Below w.heap.size w w' := by
  have l0 := long_no hL (xs := lim A) (by simp)
  have l1 := long_no hL (xs := lim B) (by simp)
  have k1 := len_mul A A
  have k2 := len_mul B B
  have k6 := len_mul A B
  have H1 := Lib.hid (mul_lim (a := A) (b := A) (by omega))
  have H2 := Lib.hid (mul_lim (a := B) (b := B) (by omega))
  have H3 := Lib.hid (show sCmp (lim (A * A)) (lim (B * B)) = cmpN A B by rw [cmp_lim (by omega) (by omega), cmp_sq])
  have H4 := Lib.hid (cmp_lim (a := A) (b := B) (by omega) (by omega))
  have hna : na = (lim A).length := by obtain ⟨_, _, e, _⟩ := h0; injection e
  have hnb : nb = (lim B).length := by obtain ⟨_, _, e, _⟩ := h1; injection e
  have H5 := Lib.hid (show sMul (lim A) (lim B) = [] by rw [mul_lim (by omega), hB, Nat.mul_zero, lim_zero])
  have z1 : nb = 0 := by rw [hnb, hB, lim_zero]; rfl
  have p1 : 0 < na := by rw [hna]; exact List.length_pos_iff.2 fun e => by have := lim_eq_nil.1 e; omega
  have q1 : ((na : Int) == 0) = false := beq_eq_false_iff_ne.2 (by omega)
  subst z1
  clear hna hnb hA hB
  have env0 : Env w w [((.slice Pa na ca), lim A), ((.slice Pb 0 cb), lim B)] := (((env_start w).add (Below.refl _ _) h1).add (Below.refl _ _) h0)
  clear h0 h1 l0 l1 k1 k2 k6
  go_enter Try.func8, Try.ntmps8
  go_wp2_with fail
  refine (works_env env0).mono ?_
  rintro e w1 ⟨rfl, env1⟩
  clear env0
  go_wp2_with fail
  obtain ⟨rL, env2⟩ := rows2 env1 (va := (.slice Pa na ca)) (xs := lim A) (vb := (.slice Pb 0 cb)) (ys := lim B) w1.heap.size rfl (by simp) (by simp) 
  have cL := long_any _ _ _ rL
  rw [hL] at cL
  with_reducible refine cL.mono ?_
  rintro e w2 ⟨rfl, rfl⟩
  clear env1 cL
  go_wp2_with fail
  obtain ⟨rM, env3⟩ := rows2 env2 (va := (.slice Pa na ca)) (xs := lim A) (vb := (.slice Pb 0 cb)) (ys := lim B) (w1.heap.size + 1) (by simp) (by simp) (by simp) 
  have cM := may2_any _ _ _ rM
  rw [hM] at cM
  with_reducible refine cM.mono ?_
  rintro e w2 ⟨rfl, rfl⟩
  clear env2 cM
  go_wp2_with fail
  refine (square_is env3 (va := (.slice Pa na ca)) (xs := lim A) (by simp) H1.out).mono ?_
  rintro e w4 ⟨r4, rfl, env4⟩
  clear env3
  go_wp2_with fail
  refine (square_is env4 (va := (.slice Pb 0 cb)) (xs := lim B) (by simp) H2.out).mono ?_
  rintro e w5 ⟨r5, rfl, env5⟩
  clear env4
  go_wp2_with fail
  refine (cmp_is env5 (va := r4) (vb := r5) (xs := lim (A * A)) (ys := lim (B * B)) (by simp) (by simp) H3.out).mono ?_
  rintro e w6 ⟨rfl, env6⟩
  clear env5
  go_wp2_with fail
  refine (cmp_is env6 (va := (.slice Pa na ca)) (vb := (.slice Pb 0 cb)) (xs := lim A) (ys := lim B) (by simp) (by simp) H4.out).mono ?_
  rintro e w7 ⟨rfl, env7⟩
  clear env6
  go_wp2_with fail
  refine (mul_is env7 (va := (.slice Pa na ca)) (vb := (.slice Pb 0 cb)) (xs := lim A) (ys := lim B) (by simp) (by simp) H5.out).mono ?_
  rintro e w8 ⟨r8, rfl, env8⟩
  clear env7
  obtain ⟨Ap, capp, rfl, _⟩ := env8.get (v := r8) (xs := []) (by simp)
  have HB := Lib.hid env8.1
  clear env8 rL rM
  go_wp2
  go_ret
  exact ⟨rfl, HB.out⟩

set_option maxRecDepth 100000 in
set_option maxHeartbeats 8000000 in
theorem order_n1 {Pa : Option Addr} {na ca : Nat} {Pb : Option Addr} {nb cb : Nat} {A B : Nat} (w : World) (h0 : Arg w (.slice Pa na ca) (lim A)) (h1 : Arg w (.slice Pb nb cb) (lim B)) (hL : longL [lim A, lim B] = false) (hM : [lim A, lim B].all mayb = true) (hA : 0 < A) (hB : 0 < B) (hn : blen (A * B) = blen A + blen B) : Calls Try.prog 8 #[(.slice Pa na ca), (.slice Pb nb cb)] w fun e w' => e = .returned (.bool true) ∧ Below w.heap.size w w' := by
  have l0 := long_no hL (xs := lim A) (by simp)
  have l1 := long_no hL (xs := lim B) (by simp)
  have k1 := len_mul A A
  have k2 := len_mul B B
  have k6 := len_mul A B
  have H1 := Lib.hid (mul_lim (a := A) (b := A) (by omega))
  have H2 := Lib.hid (mul_lim (a := B) (b := B) (by omega))
  have H3 := Lib.hid (show sCmp (lim (A * A)) (lim (B * B)) = cmpN A B by rw [cmp_lim (by omega) (by omega), cmp_sq])
  have H4 := Lib.hid (cmp_lim (a := A) (b := B) (by omega) (by omega))
  have hna : na = (lim A).length := by obtain ⟨_, _, e, _⟩ := h0; injection e
  have hnb : nb = (lim B).length := by obtain ⟨_, _, e, _⟩ := h1; injection e
  have H5 := Lib.hid (mul_lim (a := A) (b := B) (by omega))
  have HM := Lib.hid (mayb_lim (n := A * B) (by omega))
  have H6 := Lib.hid (show sBits (lim (A * B)) = blen (A * B) by rw [sBits_yes (mayb_lim (by omega)), val_lim])
  have H7 := Lib.hid (show sBits (lim A) = blen A by rw [sBits_yes (mayb_lim (by omega)), val_lim])
  have H8 := Lib.hid (show sBits (lim B) = blen B by rw [sBits_yes (mayb_lim (by omega)), val_lim])
  obtain ⟨t1, ht1, hq1⟩ : ∃ t : Int, sCmp (lim (A * B)) (lim A) = t ∧ 0 ≤ t := ⟨_, rfl, by rw [cmp_lim (by omega) (by omega)]; exact cmp_ge (Nat.le_mul_of_pos_right A hB)⟩
  obtain ⟨t2, ht2, hq2⟩ : ∃ t : Int, sCmp (lim (A * B)) (lim B) = t ∧ 0 ≤ t := ⟨_, rfl, by rw [cmp_lim (by omega) (by omega)]; exact cmp_ge (Nat.le_mul_of_pos_left B hA)⟩
  have H9 := Lib.hid ht1
  have H10 := Lib.hid ht2
  have p1 : 0 < na := by rw [hna]; exact List.length_pos_iff.2 fun e => by have := lim_eq_nil.1 e; omega
  have p2 : 0 < nb := by rw [hnb]; exact List.length_pos_iff.2 fun e => by have := lim_eq_nil.1 e; omega
  have q1 : ((na : Int) == 0) = false := beq_eq_false_iff_ne.2 (by omega)
  have q2 : ((nb : Int) == 0) = false := beq_eq_false_iff_ne.2 (by omega)
  have b1 : blen (A * B) ≤ 2097152 := by rw [← H6.out]; exact sBits_le' (lim_limbs _)
  have b2 : blen A ≤ 2097152 := by rw [← H7.out]; exact sBits_le' (lim_limbs _)
  have b3 : blen B ≤ 2097152 := by rw [← H8.out]; exact sBits_le' (lim_limbs _)
  generalize blen (A * B) = x at *
  generalize blen A = y at *
  generalize blen B = z at *
  have g1 : ((x : Int) == (y : Int) + (z : Int)) = true := beq_iff_eq.2 (by omega)
  clear hna hnb ht1 ht2 hn hA hB
  have env0 : Env w w [((.slice Pa na ca), lim A), ((.slice Pb nb cb), lim B)] := (((env_start w).add (Below.refl _ _) h1).add (Below.refl _ _) h0)
  clear h0 h1 l0 l1 k1 k2 k6
  go_enter Try.func8, Try.ntmps8
  go_wp2_with fail
  refine (works_env env0).mono ?_
  rintro e w1 ⟨rfl, env1⟩
  clear env0
  go_wp2_with fail
  obtain ⟨rL, env2⟩ := rows2 env1 (va := (.slice Pa na ca)) (xs := lim A) (vb := (.slice Pb nb cb)) (ys := lim B) w1.heap.size rfl (by simp) (by simp) 
  have cL := long_any _ _ _ rL
  rw [hL] at cL
  with_reducible refine cL.mono ?_
  rintro e w2 ⟨rfl, rfl⟩
  clear env1 cL
  go_wp2_with fail
  obtain ⟨rM, env3⟩ := rows2 env2 (va := (.slice Pa na ca)) (xs := lim A) (vb := (.slice Pb nb cb)) (ys := lim B) (w1.heap.size + 1) (by simp) (by simp) (by simp) 
  have cM := may2_any _ _ _ rM
  rw [hM] at cM
  with_reducible refine cM.mono ?_
  rintro e w2 ⟨rfl, rfl⟩
  clear env2 cM
  go_wp2_with fail
  refine (square_is env3 (va := (.slice Pa na ca)) (xs := lim A) (by simp) H1.out).mono ?_
  rintro e w4 ⟨r4, rfl, env4⟩
  clear env3
  go_wp2_with fail
  refine (square_is env4 (va := (.slice Pb nb cb)) (xs := lim B) (by simp) H2.out).mono ?_
  rintro e w5 ⟨r5, rfl, env5⟩
  clear env4
  go_wp2_with fail
  refine (cmp_is env5 (va := r4) (vb := r5) (xs := lim (A * A)) (ys := lim (B * B)) (by simp) (by simp) H3.out).mono ?_
  rintro e w6 ⟨rfl, env6⟩
  clear env5
  go_wp2_with fail
  refine (cmp_is env6 (va := (.slice Pa na ca)) (vb := (.slice Pb nb cb)) (xs := lim A) (ys := lim B) (by simp) (by simp) H4.out).mono ?_
  rintro e w7 ⟨rfl, env7⟩
  clear env6
  go_wp2_with fail
  refine (mul_is env7 (va := (.slice Pa na ca)) (vb := (.slice Pb nb cb)) (xs := lim A) (ys := lim B) (by simp) (by simp) H5.out).mono ?_
  rintro e w8 ⟨r8, rfl, env8⟩
  clear env7
  go_wp2_with fail
  refine (bits_is env8 (va := r8) (xs := lim (A * B)) (by simp) H6.out).mono ?_
  rintro e w9 ⟨rfl, env9⟩
  clear env8
  go_wp2_with fail
  refine (bits_is env9 (va := (.slice Pa na ca)) (xs := lim A) (by simp) H7.out).mono ?_
  rintro e w10 ⟨rfl, env10⟩
  clear env9
  go_wp2_with fail
  refine (bits_is env10 (va := (.slice Pb nb cb)) (xs := lim B) (by simp) H8.out).mono ?_
  rintro e w11 ⟨rfl, env11⟩
  clear env10
  go_wp2_with fail
  refine (may_is env11 (va := r8) (xs := lim (A * B)) (by simp) HM.out).mono ?_
  rintro e w12 ⟨rfl, env12⟩
  clear env11
  go_wp2_with fail
  refine (cmp_is env12 (va := r8) (vb := (.slice Pa na ca)) (xs := lim (A * B)) (ys := lim A) (by simp) (by simp) H9.out).mono ?_
  rintro e w13 ⟨rfl, env13⟩
  clear env12
  go_wp2_with fail
  refine (cmp_is env13 (va := r8) (vb := (.slice Pb nb cb)) (xs := lim (A * B)) (ys := lim B) (by simp) (by simp) H10.out).mono ?_
  rintro e w14 ⟨rfl, env14⟩
  clear env13
  have HB := Lib.hid env14.1
  clear env14 rL rM
  go_wp2
  go_ret
  exact ⟨rfl, HB.out⟩

set_option maxRecDepth 100000 in
set_option maxHeartbeats 8000000 in
theorem order_n2 {Pa : Option Addr} {na ca : Nat} {Pb : Option Addr} {nb cb : Nat} {A B : Nat} (w : World) (h0 : Arg w (.slice Pa na ca) (lim A)) (h1 : Arg w (.slice Pb nb cb) (lim B)) (hL : longL [lim A, lim B] = false) (hM : [lim A, lim B].all mayb = true) (hA : 0 < A) (hB : 0 < B) (hn : blen (A * B) + 1 = blen A + blen B) : Calls Try.prog 8 #[(.slice Pa na ca), (.slice Pb nb cb)] w fun e w' => e = .returned (.bool true) ∧ Below w.heap.size w w' := by
  have l0 := long_no hL (xs := lim A) (by simp)
  have l1 := long_no hL (xs := lim B) (by simp)
  have k1 := len_mul A A
  have k2 := len_mul B B
  have k6 := len_mul A B
  have H1 := Lib.hid (mul_lim (a := A) (b := A) (by omega))
  have H2 := Lib.hid (mul_lim (a := B) (b := B) (by omega))
  have H3 := Lib.hid (show sCmp (lim (A * A)) (lim (B * B)) = cmpN A B by rw [cmp_lim (by omega) (by omega), cmp_sq])
  have H4 := Lib.hid (cmp_lim (a := A) (b := B) (by omega) (by omega))
  have hna : na = (lim A).length := by obtain ⟨_, _, e, _⟩ := h0; injection e
  have hnb : nb = (lim B).length := by obtain ⟨_, _, e, _⟩ := h1; injection e
  have H5 := Lib.hid (mul_lim (a := A) (b := B) (by omega))
  have HM := Lib.hid (mayb_lim (n := A * B) (by omega))
  have H6 := Lib.hid (show sBits (lim (A * B)) = blen (A * B) by rw [sBits_yes (mayb_lim (by omega)), val_lim])
  have H7 := Lib.hid (show sBits (lim A) = blen A by rw [sBits_yes (mayb_lim (by omega)), val_lim])
  have H8 := Lib.hid (show sBits (lim B) = blen B by rw [sBits_yes (mayb_lim (by omega)), val_lim])
  obtain ⟨t1, ht1, hq1⟩ : ∃ t : Int, sCmp (lim (A * B)) (lim A) = t ∧ 0 ≤ t := ⟨_, rfl, by rw [cmp_lim (by omega) (by omega)]; exact cmp_ge (Nat.le_mul_of_pos_right A hB)⟩
  obtain ⟨t2, ht2, hq2⟩ : ∃ t : Int, sCmp (lim (A * B)) (lim B) = t ∧ 0 ≤ t := ⟨_, rfl, by rw [cmp_lim (by omega) (by omega)]; exact cmp_ge (Nat.le_mul_of_pos_left B hA)⟩
  have H9 := Lib.hid ht1
  have H10 := Lib.hid ht2
  have p1 : 0 < na := by rw [hna]; exact List.length_pos_iff.2 fun e => by have := lim_eq_nil.1 e; omega
  have p2 : 0 < nb := by rw [hnb]; exact List.length_pos_iff.2 fun e => by have := lim_eq_nil.1 e; omega
  have q1 : ((na : Int) == 0) = false := beq_eq_false_iff_ne.2 (by omega)
  have q2 : ((nb : Int) == 0) = false := beq_eq_false_iff_ne.2 (by omega)
  have b1 : blen (A * B) ≤ 2097152 := by rw [← H6.out]; exact sBits_le' (lim_limbs _)
  have b2 : blen A ≤ 2097152 := by rw [← H7.out]; exact sBits_le' (lim_limbs _)
  have b3 : blen B ≤ 2097152 := by rw [← H8.out]; exact sBits_le' (lim_limbs _)
  generalize blen (A * B) = x at *
  generalize blen A = y at *
  generalize blen B = z at *
  have g1 : ((x : Int) == (y : Int) + (z : Int)) = false := beq_eq_false_iff_ne.2 (by omega)
  have g2 : ((x : Int) == (y : Int) + (z : Int) - 1) = true := beq_iff_eq.2 (by omega)
  clear hna hnb ht1 ht2 hn hA hB
  have env0 : Env w w [((.slice Pa na ca), lim A), ((.slice Pb nb cb), lim B)] := (((env_start w).add (Below.refl _ _) h1).add (Below.refl _ _) h0)
  clear h0 h1 l0 l1 k1 k2 k6
  go_enter Try.func8, Try.ntmps8
  go_wp2_with fail
  refine (works_env env0).mono ?_
  rintro e w1 ⟨rfl, env1⟩
  clear env0
  go_wp2_with fail
  obtain ⟨rL, env2⟩ := rows2 env1 (va := (.slice Pa na ca)) (xs := lim A) (vb := (.slice Pb nb cb)) (ys := lim B) w1.heap.size rfl (by simp) (by simp) 
  have cL := long_any _ _ _ rL
  rw [hL] at cL
  with_reducible refine cL.mono ?_
  rintro e w2 ⟨rfl, rfl⟩
  clear env1 cL
  go_wp2_with fail
  obtain ⟨rM, env3⟩ := rows2 env2 (va := (.slice Pa na ca)) (xs := lim A) (vb := (.slice Pb nb cb)) (ys := lim B) (w1.heap.size + 1) (by simp) (by simp) (by simp) 
  have cM := may2_any _ _ _ rM
  rw [hM] at cM
  with_reducible refine cM.mono ?_
  rintro e w2 ⟨rfl, rfl⟩
  clear env2 cM
  go_wp2_with fail
  refine (square_is env3 (va := (.slice Pa na ca)) (xs := lim A) (by simp) H1.out).mono ?_
  rintro e w4 ⟨r4, rfl, env4⟩
  clear env3
  go_wp2_with fail
  refine (square_is env4 (va := (.slice Pb nb cb)) (xs := lim B) (by simp) H2.out).mono ?_
  rintro e w5 ⟨r5, rfl, env5⟩
  clear env4
  go_wp2_with fail
  refine (cmp_is env5 (va := r4) (vb := r5) (xs := lim (A * A)) (ys := lim (B * B)) (by simp) (by simp) H3.out).mono ?_
  rintro e w6 ⟨rfl, env6⟩
  clear env5
  go_wp2_with fail
  refine (cmp_is env6 (va := (.slice Pa na ca)) (vb := (.slice Pb nb cb)) (xs := lim A) (ys := lim B) (by simp) (by simp) H4.out).mono ?_
  rintro e w7 ⟨rfl, env7⟩
  clear env6
  go_wp2_with fail
  refine (mul_is env7 (va := (.slice Pa na ca)) (vb := (.slice Pb nb cb)) (xs := lim A) (ys := lim B) (by simp) (by simp) H5.out).mono ?_
  rintro e w8 ⟨r8, rfl, env8⟩
  clear env7
  go_wp2_with fail
  refine (bits_is env8 (va := r8) (xs := lim (A * B)) (by simp) H6.out).mono ?_
  rintro e w9 ⟨rfl, env9⟩
  clear env8
  go_wp2_with fail
  refine (bits_is env9 (va := (.slice Pa na ca)) (xs := lim A) (by simp) H7.out).mono ?_
  rintro e w10 ⟨rfl, env10⟩
  clear env9
  go_wp2_with fail
  refine (bits_is env10 (va := (.slice Pb nb cb)) (xs := lim B) (by simp) H8.out).mono ?_
  rintro e w11 ⟨rfl, env11⟩
  clear env10
  go_wp2_with fail
  refine (may_is env11 (va := r8) (xs := lim (A * B)) (by simp) HM.out).mono ?_
  rintro e w12 ⟨rfl, env12⟩
  clear env11
  go_wp2_with fail
  refine (cmp_is env12 (va := r8) (vb := (.slice Pa na ca)) (xs := lim (A * B)) (ys := lim A) (by simp) (by simp) H9.out).mono ?_
  rintro e w13 ⟨rfl, env13⟩
  clear env12
  go_wp2_with fail
  refine (cmp_is env13 (va := r8) (vb := (.slice Pb nb cb)) (xs := lim (A * B)) (ys := lim B) (by simp) (by simp) H10.out).mono ?_
  rintro e w14 ⟨rfl, env14⟩
  clear env13
  have HB := Lib.hid env14.1
  clear env14 rL rM
  go_wp2
  go_ret
  exact ⟨rfl, HB.out⟩

theorem order_go {Pa : Option Addr} {na ca : Nat} {Pb : Option Addr} {nb cb : Nat} {xs ys : List Nat} (w : World) (h0 : Arg w (.slice Pa na ca) xs) (h1 : Arg w (.slice Pb nb cb) ys) (hL : longL [xs, ys] = false) (hM : [xs, ys].all mayb = true) : Calls Try.prog 8 #[(.slice Pa na ca), (.slice Pb nb cb)] w fun e w' => e = .returned (.bool true) ∧ Below w.heap.size w w' := by
  have hMs := hM
  simp only [List.all_cons, List.all_nil, Bool.and_true, Bool.and_eq_true] at hMs
  obtain ⟨m0, m1⟩ := hMs
  obtain ⟨A, rfl⟩ := may_lim h0.limbs m0
  obtain ⟨B, rfl⟩ := may_lim h1.limbs m1
  rcases Nat.eq_zero_or_pos A with hA | hA
  · exact order_za w h0 h1 hL hM hA
  · rcases Nat.eq_zero_or_pos B with hB | hB
    · exact order_zb w h0 h1 hL hM hA hB
    · rcases blen_mul hA hB with h | h
      · exact order_n1 w h0 h1 hL hM hA hB h
      · exact order_n2 w h0 h1 hL hM hA hB h

theorem order_law {Pa : Option Addr} {na ca : Nat} {Pb : Option Addr} {nb cb : Nat} {xs ys : List Nat} (w : World) (h0 : Arg w (.slice Pa na ca) xs) (h1 : Arg w (.slice Pb nb cb) ys) : Calls Try.prog 8 #[(.slice Pa na ca), (.slice Pb nb cb)] w fun e w' => e = .returned (.bool true) ∧ Below w.heap.size w w' := by
  by_cases hL : longL [xs, ys] = true
  · exact order_long w h0 h1 hL
  · have hL' : longL [xs, ys] = false := by simpa using hL
    by_cases hM : [xs, ys].all mayb = true
    · exact order_go w h0 h1 hL' hM
    · exact order_no w h0 h1 hL' (Bool.eq_false_iff.2 hM)

end Go.Proofs.Ytlfhpoffphljfaa

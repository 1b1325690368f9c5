/- MulRing. -/
import Derived.Test.YtlfhpoffphljfaaMulR
namespace Go.Proofs.Ytlfhpoffphljfaa
open Go.RowKit Go.Shelf

set_option linter.unusedVariables false

set_option maxRecDepth 100000 in
set_option maxHeartbeats 8000000 in
theorem ring_long {Pa : Option Addr} {na ca : Nat} {Pb : Option Addr} {nb cb : Nat} {Pc : Option Addr} {nc cc : Nat} {xs ys zs : List Nat} (w : World) (h0 : Arg w (.slice Pa na ca) xs) (h1 : Arg w (.slice Pb nb cb) ys) (h2 : Arg w (.slice Pc nc cc) zs) (hL : longL [xs, ys, zs] = true) : Calls Try.prog 7 #[(.slice Pa na ca), (.slice Pb nb cb), (.slice Pc nc cc)] w fun e w' => e = .returned (.bool true) ∧ Below w.heap.size w w' := by
  have env0 : Env w w [((.slice Pa na ca), xs), ((.slice Pb nb cb), ys), ((.slice Pc nc cc), zs)] := ((((env_start w).add (Below.refl _ _) h2).add (Below.refl _ _) h1).add (Below.refl _ _) h0)
  clear h0 h1 h2
  go_enter Try.func7, Try.ntmps7
  go_wp2_with fail
  refine (works_env env0).mono ?_
  rintro e w1 ⟨rfl, env1⟩
  clear env0
  go_wp2_with fail
  obtain ⟨rL, env2⟩ := rows3 env1 (va := (.slice Pa na ca)) (xs := xs) (vb := (.slice Pb nb cb)) (ys := ys) (vc := (.slice Pc nc cc)) (zs := zs) w1.heap.size rfl (by simp) (by simp) (by simp) 
  have cL := long_any _ _ _ rL
  rw [hL] at cL
  with_reducible refine cL.mono ?_
  rintro e w2 ⟨rfl, rfl⟩
  clear env1 cL
  go_wp2_with fail
  refine (works_env env2).mono ?_
  rintro e w9 ⟨rfl, env9⟩
  have HB := Lib.hid env9.1
  clear env9 env2 rL
  go_wp2
  go_ret
  exact ⟨rfl, HB.out⟩

set_option maxRecDepth 100000 in
set_option maxHeartbeats 8000000 in
theorem ring_no {Pa : Option Addr} {na ca : Nat} {Pb : Option Addr} {nb cb : Nat} {Pc : Option Addr} {nc cc : Nat} {xs ys zs : List Nat} (w : World) (h0 : Arg w (.slice Pa na ca) xs) (h1 : Arg w (.slice Pb nb cb) ys) (h2 : Arg w (.slice Pc nc cc) zs) (hL : longL [xs, ys, zs] = false) (hM : [xs, ys, zs].all mayb = false) : Calls Try.prog 7 #[(.slice Pa na ca), (.slice Pb nb cb), (.slice Pc nc cc)] w fun e w' => e = .returned (.bool true) ∧ Below w.heap.size w w' := by
  have env0 : Env w w [((.slice Pa na ca), xs), ((.slice Pb nb cb), ys), ((.slice Pc nc cc), zs)] := ((((env_start w).add (Below.refl _ _) h2).add (Below.refl _ _) h1).add (Below.refl _ _) h0)
  clear h0 h1 h2
  go_enter Try.func7, Try.ntmps7
  go_wp2_with fail
  refine (works_env env0).mono ?_
  rintro e w1 ⟨rfl, env1⟩
  clear env0
  go_wp2_with fail
  obtain ⟨rL, env2⟩ := rows3 env1 (va := (.slice Pa na ca)) (xs := xs) (vb := (.slice Pb nb cb)) (ys := ys) (vc := (.slice Pc nc cc)) (zs := zs) w1.heap.size rfl (by simp) (by simp) (by simp) 
  have cL := long_any _ _ _ rL
  rw [hL] at cL
  with_reducible refine cL.mono ?_
  rintro e w2 ⟨rfl, rfl⟩
  clear env1 cL
  go_wp2_with fail
  obtain ⟨rM, env3⟩ := rows3 env2 (va := (.slice Pa na ca)) (xs := xs) (vb := (.slice Pb nb cb)) (ys := ys) (vc := (.slice Pc nc cc)) (zs := zs) (w1.heap.size + 1) (by simp) (by simp) (by simp) (by simp) 
  have cM := may2_any _ _ _ rM
  rw [hM] at cM
  with_reducible refine cM.mono ?_
  rintro e w2 ⟨rfl, rfl⟩
  clear env2 cM
  go_wp2_with fail
  refine (works_env env3).mono ?_
  rintro e w9 ⟨rfl, env9⟩
  have HB := Lib.hid env9.1
  clear env9 env3 rL rM
  go_wp2
  go_ret
  exact ⟨rfl, HB.out⟩

set_option maxRecDepth 100000 in
set_option maxHeartbeats 8000000 in
theorem ring_go {Pa : Option Addr} {na ca : Nat} {Pb : Option Addr} {nb cb : Nat} {Pc : Option Addr} {nc cc : Nat} {xs ys zs : List Nat} (w : World) (h0 : Arg w (.slice Pa na ca) xs) (h1 : Arg w (.slice Pb nb cb) ys) (h2 : Arg w (.slice Pc nc cc) zs) (hL : longL [xs, ys, zs] = false) (hM : [xs, ys, zs].all mayb = true) : Calls Try.prog 7 #[(.slice Pa na ca), (.slice Pb nb cb), (.slice Pc nc cc)] w fun e w' => e = .returned (.bool true) ∧ Below w.heap.size w w' := by
  have l0 := long_no hL (xs := xs) (by simp)
  have l1 := long_no hL (xs := ys) (by simp)
  have l2 := long_no hL (xs := zs) (by simp)
  have hMs := hM
  simp only [List.all_cons, List.all_nil, Bool.and_true, Bool.and_eq_true] at hMs
  obtain ⟨m0, m1, m2⟩ := hMs
  obtain ⟨A, rfl⟩ := may_lim h0.limbs m0
  obtain ⟨B, rfl⟩ := may_lim h1.limbs m1
  obtain ⟨C, rfl⟩ := may_lim h2.limbs m2
  have k1 := len_mul A B
  have k2 := len_mul B C
  have k3 := len_mul A C
  have k4 := len_add B C
  have k5 := len_add (A * B) (A * C)
  have k6 := len_mul (A * B) C
  have k7 := len_mul A (B * C)
  have k8 := len_mul A (B + C)
  have one : (lim 1).length ≤ 1 := lim_le (by decide)
  have H1 := Lib.hid (mul_lim (a := A) (b := B) (by omega))
  have H2 := Lib.hid (show sMul (lim B) (lim A) = lim (A * B) by rw [mul_lim (by omega), Nat.mul_comm])
  have H3 := Lib.hid (mul_lim (a := A * B) (b := C) (by omega))
  have H4 := Lib.hid (mul_lim (a := B) (b := C) (by omega))
  have H5 := Lib.hid (show sMul (lim A) (lim (B * C)) = lim (A * B * C) by rw [mul_lim (by omega), Nat.mul_assoc])
  have H6 := Lib.hid (add_lim (a := B) (b := C) (by omega) (by omega))
  have H7 := Lib.hid (show sMul (lim A) (lim (B + C)) = lim (A * B + A * C) by rw [mul_lim (by omega), Nat.mul_add])
  have H8 := Lib.hid (mul_lim (a := A) (b := C) (by omega))
  have H9 := Lib.hid (add_lim (a := A * B) (b := A * C) (by omega) (by omega))
  have H10 := Lib.hid (show sMul (lim A) (lim 1) = lim A by rw [mul_lim (by omega), Nat.mul_one])
  have H11 := Lib.hid (show sMul (lim A) [] = [] by rw [← lim_zero, mul_lim (by rw [lim_zero]; simp; omega), Nat.mul_zero])
  have H12 := Lib.hid (show sSum [lim A, lim A] [lim B, lim C] = lim (A * B + A * C) by
    have n1 : longB (lim A).length (lim B).length = false := (long_false (by omega)).symm
    have n2 : longB (lim A).length (lim C).length = false := (long_false (by omega)).symm
    have e : dot [lim A, lim A] [lim B, lim C] 2 = A * B + A * C := by simp [dot, val_lim]
    rw [sSum_yes (by show allOk _ _ 2 = true; rw [allOk_succ, allOk_succ]; simp [allOk, okAt, m0, m1, m2, n1, n2]), show min [lim A, lim A].length [lim B, lim C].length = 2 from rfl, e, clip_of (by omega)])
  clear k1 k2 k3 k4 k5 k6 k7 k8 one
  have env0 : Env w w [((.slice Pa na ca), lim A), ((.slice Pb nb cb), lim B), ((.slice Pc nc cc), lim C)] := ((((env_start w).add (Below.refl _ _) h2).add (Below.refl _ _) h1).add (Below.refl _ _) h0)
  clear h0 h1 h2 l0 m0 l1 m1 l2 m2
  go_enter Try.func7, Try.ntmps7
  go_wp2_with fail
  refine (works_env env0).mono ?_
  rintro e w1 ⟨rfl, env1⟩
  clear env0
  go_wp2_with fail
  obtain ⟨rL, env2⟩ := rows3 env1 (va := (.slice Pa na ca)) (xs := lim A) (vb := (.slice Pb nb cb)) (ys := lim B) (vc := (.slice Pc nc cc)) (zs := lim C) w1.heap.size rfl (by simp) (by simp) (by simp) 
  have cL := long_any _ _ _ rL
  rw [hL] at cL
  with_reducible refine cL.mono ?_
  rintro e w2 ⟨rfl, rfl⟩
  clear env1 cL
  go_wp2_with fail
  obtain ⟨rM, env3⟩ := rows3 env2 (va := (.slice Pa na ca)) (xs := lim A) (vb := (.slice Pb nb cb)) (ys := lim B) (vc := (.slice Pc nc cc)) (zs := lim C) (w1.heap.size + 1) (by simp) (by simp) (by simp) (by simp) 
  have cM := may2_any _ _ _ rM
  rw [hM] at cM
  with_reducible refine cM.mono ?_
  rintro e w2 ⟨rfl, rfl⟩
  clear env2 cM
  go_wp2_with fail
  refine (mul_is env3 (va := (.slice Pa na ca)) (vb := (.slice Pb nb cb)) (xs := lim A) (ys := lim B) (by simp) (by simp) H1.out).mono ?_
  rintro e w4 ⟨r4, rfl, env4⟩
  clear env3
  go_wp2_with fail
  refine (mul_is env4 (va := (.slice Pb nb cb)) (vb := (.slice Pa na ca)) (xs := lim B) (ys := lim A) (by simp) (by simp) H2.out).mono ?_
  rintro e w5 ⟨r5, rfl, env5⟩
  clear env4
  go_wp2_with fail
  refine (same2_yes env5 (va := r4) (vb := r5) (xs := lim (A * B)) (ys := lim (A * B)) (by simp) (by simp) rfl).mono ?_
  rintro e w6 ⟨rfl, env6⟩
  clear env5
  go_wp2_with fail
  refine (mul_is env6 (va := r4) (vb := (.slice Pc nc cc)) (xs := lim (A * B)) (ys := lim C) (by simp) (by simp) H3.out).mono ?_
  rintro e w7 ⟨r7, rfl, env7⟩
  clear env6
  go_wp2_with fail
  refine (mul_is env7 (va := (.slice Pb nb cb)) (vb := (.slice Pc nc cc)) (xs := lim B) (ys := lim C) (by simp) (by simp) H4.out).mono ?_
  rintro e w8 ⟨r8, rfl, env8⟩
  clear env7
  go_wp2_with fail
  refine (mul_is env8 (va := (.slice Pa na ca)) (vb := r8) (xs := lim A) (ys := lim (B * C)) (by simp) (by simp) H5.out).mono ?_
  rintro e w9 ⟨r9, rfl, env9⟩
  clear env8
  go_wp2_with fail
  refine (same2_yes env9 (va := r7) (vb := r9) (xs := lim (A * B * C)) (ys := lim (A * B * C)) (by simp) (by simp) rfl).mono ?_
  rintro e w10 ⟨rfl, env10⟩
  clear env9
  go_wp2_with fail
  refine (add_is env10 (va := (.slice Pb nb cb)) (vb := (.slice Pc nc cc)) (xs := lim B) (ys := lim C) (by simp) (by simp) H6.out).mono ?_
  rintro e w11 ⟨r11, rfl, env11⟩
  clear env10
  go_wp2_with fail
  refine (mul_is env11 (va := (.slice Pa na ca)) (vb := r11) (xs := lim A) (ys := lim (B + C)) (by simp) (by simp) H7.out).mono ?_
  rintro e w12 ⟨r12, rfl, env12⟩
  clear env11
  go_wp2_with fail
  refine (mul_is env12 (va := (.slice Pa na ca)) (vb := (.slice Pc nc cc)) (xs := lim A) (ys := lim C) (by simp) (by simp) H8.out).mono ?_
  rintro e w13 ⟨r13, rfl, env13⟩
  clear env12
  go_wp2_with fail
  refine (add_is env13 (va := r4) (vb := r13) (xs := lim (A * B)) (ys := lim (A * C)) (by simp) (by simp) H9.out).mono ?_
  rintro e w14 ⟨r14, rfl, env14⟩
  clear env13
  go_wp2_with fail
  refine (same2_yes env14 (va := r12) (vb := r14) (xs := lim (A * B + A * C)) (ys := lim (A * B + A * C)) (by simp) (by simp) rfl).mono ?_
  rintro e w15 ⟨rfl, env15⟩
  clear env14
  go_wp2_with fail
  refine (of_env env15 1 (by decide)).mono ?_
  rintro e w16 ⟨r16, rfl, env16⟩
  clear env15
  go_wp2_with fail
  refine (mul_is env16 (va := (.slice Pa na ca)) (vb := r16) (xs := lim A) (ys := lim 1) (by simp) (by simp) H10.out).mono ?_
  rintro e w17 ⟨r17, rfl, env17⟩
  clear env16
  go_wp2_with fail
  refine (same2_yes env17 (va := r17) (vb := (.slice Pa na ca)) (xs := lim A) (ys := lim A) (by simp) (by simp) rfl).mono ?_
  rintro e w18 ⟨rfl, env18⟩
  clear env17
  go_wp2_with fail
  refine (mul_is env18.nil (va := (.slice Pa na ca)) (vb := .slice none 0 0) (xs := lim A) (ys := []) (by simp) (by simp) H11.out).mono ?_
  rintro e w19 ⟨r19, rfl, env19⟩
  clear env18
  obtain ⟨Az, capz, rfl, _⟩ := env19.get (v := r19) (xs := []) (by simp)
  go_wp2_with fail
  obtain ⟨rS, envS⟩ := rows2 env19 (va := (.slice Pa na ca)) (xs := lim A) (vb := (.slice Pa na ca)) (ys := lim A) w19.heap.size rfl (by simp) (by simp)
  obtain ⟨rT, envT⟩ := rows2 envS (va := (.slice Pb nb cb)) (xs := lim B) (vb := (.slice Pc nc cc)) (ys := lim C) (w19.heap.size + 1) (by simp) (by simp) (by simp)
  refine (sum_is envT (rS.alloc _) rT H12.out).mono ?_
  rintro e w20 ⟨r20, rfl, env20⟩
  clear env19 envS envT rS rT
  go_wp2_with fail
  refine (mul_is env20 (va := (.slice Pa na ca)) (vb := (.slice Pc nc cc)) (xs := lim A) (ys := lim C) (by simp) (by simp) H8.out).mono ?_
  rintro e w21 ⟨r21, rfl, env21⟩
  clear env20
  go_wp2_with fail
  refine (add_is env21 (va := r4) (vb := r21) (xs := lim (A * B)) (ys := lim (A * C)) (by simp) (by simp) H9.out).mono ?_
  rintro e w22 ⟨r22, rfl, env22⟩
  clear env21
  go_wp2_with fail
  refine (same2_yes env22 (va := r20) (vb := r22) (xs := lim (A * B + A * C)) (ys := lim (A * B + A * C)) (by simp) (by simp) rfl).mono ?_
  rintro e w23 ⟨rfl, env23⟩
  clear env22
  have HB := Lib.hid env23.1
  clear env23 rL rM
  go_wp2
  go_ret
  exact ⟨rfl, HB.out⟩

theorem ring_law {Pa : Option Addr} {na ca : Nat} {Pb : Option Addr} {nb cb : Nat} {Pc : Option Addr} {nc cc : Nat} {xs ys zs : List Nat} (w : World) (h0 : Arg w (.slice Pa na ca) xs) (h1 : Arg w (.slice Pb nb cb) ys) (h2 : Arg w (.slice Pc nc cc) zs) : Calls Try.prog 7 #[(.slice Pa na ca), (.slice Pb nb cb), (.slice Pc nc cc)] w fun e w' => e = .returned (.bool true) ∧ Below w.heap.size w w' := by
  by_cases hL : longL [xs, ys, zs] = true
  · exact ring_long w h0 h1 h2 hL
  · have hL' : longL [xs, ys, zs] = false := by simpa using hL
    by_cases hM : [xs, ys, zs].all mayb = true
    · exact ring_go w h0 h1 h2 hL' hM
    · exact ring_no w h0 h1 h2 hL' (Bool.eq_false_iff.2 hM)

end Go.Proofs.Ytlfhpoffphljfaa

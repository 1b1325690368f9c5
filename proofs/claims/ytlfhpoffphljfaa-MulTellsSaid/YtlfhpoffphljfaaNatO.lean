/- Contract: awake (the examples): true, and nothing that lay has turned. -/
import Derived.Test.YtlfhpoffphljfaaNatN
namespace Go.Proofs.Ytlfhpoffphljfaa
open Go.RowKit

set_option maxRecDepth 100000 in
set_option maxHeartbeats 2000000 in
theorem awake_any (w : World) : Calls Try.prog 11 #[] w fun e w' => e = .returned (.bool true) ∧ Below w.heap.size w w' := by
  have env := env_start w
  have m01 : mayb [0, 1] = true := by decide
  have m1 : mayb [1] = true := by decide
  have mf : mayb [4294967295] = true := by decide
  have m02 : mayb [0, 2] = true := by decide
  have l01 : Limbs [0, 1] := (Limbs.one (by decide)).cons (by decide)
  have l02 : Limbs [0, 2] := (Limbs.one (by decide)).cons (by decide)
  have lf : Limbs [4294967295] := Limbs.one (by decide)
  have l1 : Limbs [1] := Limbs.one (by decide)
  have H1 := Lib.hid (sSub_ok m01 m1 (by decide))
  have H2 := Lib.hid (lim_eq (u := 4294967296) m01 l01 (by decide))
  have H3 := Lib.hid (sAdd_eq mf m1 m01 l01 (by decide))
  have H4 := Lib.hid (sSub_eq m01 m1 mf lf (by decide))
  have H5 : Hid (sBits [5] = 3) := by show _ = _; rw [sBits_yes (by decide)]; exact blen_unique (by decide) (fun j hj => by
    rcases Nat.lt_or_ge j 3 with h | h
    · have : (2 : Nat) ^ j ≤ 2 ^ 2 := Nat.pow_le_pow_right (by decide) (by omega)
      simp only [val] at hj; omega
    · exact h)
  have H6 := Lib.hid (sShl_eq (k := 33) m1 m02 l02 (by decide))
  have H7 := Lib.hid (sShr_eq (k := 33) m02 m1 l1 (by decide))
  have H8 : Hid (mayb [1, 0] = false) := by show _ = _; decide
  have H9 : Hid (mayb [] = true) := by show _ = _; decide
  have H0 := Lib.hid lim_zero
  clear m01 m1 mf m02 l01 l02 lf l1
  go_enter Try.func11, Try.ntmps11
  go_wp2_with fail
  refine (lof_env (env.lit2 0 1 0 1 rfl rfl (by decide) (by decide))).mono ?_
  rintro e w1 ⟨r1, rfl, env1⟩
  clear env
  go_wp2_with fail
  refine (lof_env (env1.lit1 1 1 rfl (by decide))).mono ?_
  rintro e w2 ⟨r2, rfl, env2⟩
  clear env1
  go_wp2_with fail
  refine (sub_env env2 (va := r1) (vb := r2) (xs := [0, 1]) (ys := [1]) (by simp) (by simp)).mono ?_
  rw [H1.out, H4.out]
  rintro e w3 ⟨r3, rfl, env3⟩
  clear env2
  go_wp2_with fail
  refine (of_env env3 0 (by decide)).mono ?_
  rintro e w4 ⟨r4, rfl, env4⟩
  clear env3
  rw [H0.out] at env4
  obtain ⟨A4, cap4, rfl, _⟩ := env4.get (v := r4) (xs := []) (by simp)
  go_wp2_with fail
  refine (of_env env4 4294967296 (by decide)).mono ?_
  rw [H2.out]
  rintro e w5 ⟨r5, rfl, env5⟩
  clear env4
  go_wp2_with fail
  refine (lof_env (env5.lit2 0 1 0 1 rfl rfl (by decide) (by decide))).mono ?_
  rintro e w6 ⟨r6, rfl, env6⟩
  clear env5
  go_wp2_with fail
  refine (same_yes env6 (va := r5) (xs := [0, 1]) (vb := r6) (ys := [0, 1]) (by simp) (by simp) rfl).mono ?_
  rintro e w7 ⟨rfl, env7⟩
  clear env6
  go_wp2_with fail
  refine (lof_env (env7.lit1 4294967295 4294967295 rfl (by decide))).mono ?_
  rintro e w8 ⟨r8, rfl, env8⟩
  clear env7
  go_wp2_with fail
  refine (lof_env (env8.lit1 1 1 rfl (by decide))).mono ?_
  rintro e w9 ⟨r9, rfl, env9⟩
  clear env8
  go_wp2_with fail
  refine (add_env env9 (va := r8) (xs := [4294967295]) (vb := r9) (ys := [1]) (by simp) (by simp)).mono ?_
  rw [H3.out]
  rintro e w10 ⟨r10, rfl, env10⟩
  clear env9
  go_wp2_with fail
  refine (lof_env (env10.lit2 0 1 0 1 rfl rfl (by decide) (by decide))).mono ?_
  rintro e w11 ⟨r11, rfl, env11⟩
  clear env10
  go_wp2_with fail
  refine (same_yes env11 (va := r10) (xs := [0, 1]) (vb := r11) (ys := [0, 1]) (by simp) (by simp) rfl).mono ?_
  rintro e w12 ⟨rfl, env12⟩
  clear env11
  go_wp2_with fail
  refine (lof_env (env12.lit1 4294967295 4294967295 rfl (by decide))).mono ?_
  rintro e w13 ⟨r13, rfl, env13⟩
  clear env12
  go_wp2_with fail
  refine (same_yes env13 (va := r3) (xs := [4294967295]) (vb := r13) (ys := [4294967295]) (by simp) (by simp) rfl).mono ?_
  rintro e w14 ⟨rfl, env14⟩
  clear env13
  go_wp2_with fail
  refine (lof_env (env14.lit1 5 5 rfl (by decide))).mono ?_
  rintro e w15 ⟨r15, rfl, env15⟩
  clear env14
  go_wp2_with fail
  refine (bits_env env15 (va := r15) (xs := [5]) (by simp)).mono ?_
  rw [H5.out]
  rintro e w16 ⟨rfl, hw⟩
  obtain rfl := hw
  go_wp2_with fail
  refine (lof_env (env15.lit1 1 1 rfl (by decide))).mono ?_
  rintro e w17 ⟨r17, rfl, env17⟩
  clear env15
  go_wp2_with fail
  refine (shl_env env17 (va := r17) (xs := [1]) (by simp) ((33 : Nat) : Int)).mono ?_
  rw [H6.out]
  rintro e w18 ⟨r18, rfl, env18⟩
  clear env17
  go_wp2_with fail
  refine (lof_env (env18.lit2 0 2 0 2 rfl rfl (by decide) (by decide))).mono ?_
  rintro e w19 ⟨r19, rfl, env19⟩
  clear env18
  go_wp2_with fail
  refine (same_yes env19 (va := r18) (xs := [0, 2]) (vb := r19) (ys := [0, 2]) (by simp) (by simp) rfl).mono ?_
  rintro e w20 ⟨rfl, env20⟩
  clear env19
  go_wp2_with fail
  refine (lof_env (env20.lit2 0 2 0 2 rfl rfl (by decide) (by decide))).mono ?_
  rintro e w21 ⟨r21, rfl, env21⟩
  clear env20
  go_wp2_with fail
  refine (shr_env env21 (va := r21) (xs := [0, 2]) (by simp) ((33 : Nat) : Int)).mono ?_
  rw [H7.out]
  rintro e w22 ⟨r22, rfl, env22⟩
  clear env21
  go_wp2_with fail
  refine (lof_env (env22.lit1 1 1 rfl (by decide))).mono ?_
  rintro e w23 ⟨r23, rfl, env23⟩
  clear env22
  go_wp2_with fail
  refine (same_yes env23 (va := r22) (xs := [1]) (vb := r23) (ys := [1]) (by simp) (by simp) rfl).mono ?_
  rintro e w24 ⟨rfl, env24⟩
  clear env23
  go_wp2_with fail
  refine (lof_env (env24.lit2 1 0 1 0 rfl rfl (by decide) (by decide))).mono ?_
  rintro e w25 ⟨r25, rfl, env25⟩
  clear env24
  go_wp2_with fail
  refine (may_env env25 (va := r25) (xs := [1, 0]) (by simp)).mono ?_
  rw [H8.out]
  rintro e w26 ⟨rfl, hw⟩
  obtain rfl := hw
  go_wp2_with fail
  refine (may_env env25.nil (va := .slice none 0 0) (xs := []) (by simp)).mono ?_
  rw [H9.out]
  rintro e w99 ⟨rfl, hw⟩
  obtain rfl := hw
  go_wp2
  go_ret
  exact ⟨rfl, env25.1⟩

end Go.Proofs.Ytlfhpoffphljfaa

/- MulSquares. -/
import Derived.Test.YtlfhpoffphljfaaMulQ
namespace Go.Proofs.Ytlfhpoffphljfaa
open Go.RowKit Go.Shelf

set_option linter.unusedVariables false

theorem len_mul (a b : Nat) : (lim (a * b)).length ≤ (lim a).length + (lim b).length := by
  refine lim_le ?_
  rw [Nat.pow_add]
  have h1 := val_lt (lim_limbs a)
  have h2 := val_lt (lim_limbs b)
  rw [val_lim] at h1 h2
  exact Nat.mul_lt_mul'' h1 h2
theorem len_add (a b : Nat) : (lim (a + b)).length ≤ max (lim a).length (lim b).length + 1 := by
  have h := sum_room (s := a) (p := b) (n := max (lim a).length (lim b).length + 1) (by omega) (by omega)
  exact lim_le h
theorem len_two (a : Nat) : (lim (a * 2 ^ 1)).length ≤ (lim a).length + 1 := by
  have h := len_add a a
  rw [show a * 2 ^ 1 = a + a from by omega]
  omega
theorem mul_lim {a b : Nat} (h : (lim a).length + (lim b).length ≤ 65536) : sMul (lim a) (lim b) = lim (a * b) := by
  have := len_mul a b
  rw [sMul_yes (by rw [mayb_lim (by omega), mayb_lim (by omega)]; rfl), val_lim, val_lim, clip_of (by omega)]
theorem add_lim {a b : Nat} (h : (lim a).length < 65536) (h' : (lim b).length < 65536) : sAdd (lim a) (lim b) = lim (a + b) := by
  have := len_add a b
  rw [sAdd_yes (by rw [mayb_lim (by omega), mayb_lim (by omega)]; rfl), val_lim, val_lim, clip_of (by omega)]
theorem shl_lim {a : Nat} (h : (lim a).length < 65536) : sShl (lim a) ((1 : Nat) : Int) = lim (a * 2 ^ 1) := by
  have := len_two a
  rw [sShl_yes (mayb_lim (by omega)), val_lim, clip_of (by omega)]
theorem cmp_lim {a b : Nat} (h : (lim a).length ≤ 65536) (h' : (lim b).length ≤ 65536) : sCmp (lim a) (lim b) = cmpN a b := by
  rw [sCmp_yes (by rw [mayb_lim h, mayb_lim h']; rfl), val_lim, val_lim]
theorem tot_mem {xs : List Nat} : ∀ L : List (List Nat), xs ∈ L → 1 + min 700 xs.length ≤ tot L
  | [], hx => by cases hx
  | y :: r, hx => by
    simp only [tot]
    rcases List.mem_cons.1 hx with rfl | hx
    · omega
    · have := tot_mem r hx; omega
theorem long_no {L : List (List Nat)} (h : longL L = false) {xs : List Nat} (hx : xs ∈ L) : xs.length < 700 := by
  unfold longL at h
  have h := of_decide_eq_false h
  have := tot_mem L hx
  omega
theorem may_lim {xs : List Nat} (hl : Limbs xs) (h : mayb xs = true) : ∃ a, xs = lim a := ⟨val xs, (lim_val (mayb_canon hl h)).symm⟩

set_option maxRecDepth 100000 in
set_option maxHeartbeats 8000000 in
theorem squares_long {Pa : Option Addr} {na ca : Nat} {Pb : Option Addr} {nb cb : Nat} {xs ys : List Nat} (w : World) (h0 : Arg w (.slice Pa na ca) xs) (h1 : Arg w (.slice Pb nb cb) ys) (hL : longL [xs, ys] = true) : Calls Try.prog 10 #[(.slice Pa na ca), (.slice Pb nb cb)] w fun e w' => e = .returned (.bool true) ∧ Below w.heap.size w w' := by
  have env0 : Env w w [((.slice Pa na ca), xs), ((.slice Pb nb cb), ys)] := (((env_start w).add (Below.refl _ _) h1).add (Below.refl _ _) h0)
  clear h0 h1
  go_enter Try.func10, Try.ntmps10
  go_wp2_with fail
  refine (works_env env0).mono ?_
  rintro e w1 ⟨rfl, env1⟩
  clear env0
  go_wp2_with fail
  obtain ⟨rL, env2⟩ := rows2 env1 (va := (.slice Pa na ca)) (xs := xs) (vb := (.slice Pb nb cb)) (ys := ys) w1.heap.size rfl (by simp) (by simp) 
  have cL := long_any _ _ _ rL
  rw [hL] at cL
  with_reducible refine cL.mono ?_
  rintro e w2 ⟨rfl, rfl⟩
  clear env1 cL
  go_wp2_with fail
  refine (works_env env2).mono ?_
  rintro e w9 ⟨rfl, env9⟩
  have HB := Lib.hid env9.1
  clear env9 env2 rL
  go_wp2
  go_ret
  exact ⟨rfl, HB.out⟩

set_option maxRecDepth 100000 in
set_option maxHeartbeats 8000000 in
theorem squares_no {Pa : Option Addr} {na ca : Nat} {Pb : Option Addr} {nb cb : Nat} {xs ys : List Nat} (w : World) (h0 : Arg w (.slice Pa na ca) xs) (h1 : Arg w (.slice Pb nb cb) ys) (hL : longL [xs, ys] = false) (hM : [xs, ys].all mayb = false) : Calls Try.prog 10 #[(.slice Pa na ca), (.slice Pb nb cb)] w fun e w' => e = .returned (.bool true) ∧ Below w.heap.size w w' := by
  have env0 : Env w w [((.slice Pa na ca), xs), ((.slice Pb nb cb), ys)] := (((env_start w).add (Below.refl _ _) h1).add (Below.refl _ _) h0)
  clear h0 h1
  go_enter Try.func10, Try.ntmps10
  go_wp2_with fail
  refine (works_env env0).mono ?_
  rintro e w1 ⟨rfl, env1⟩
  clear env0
  go_wp2_with fail
  obtain ⟨rL, env2⟩ := rows2 env1 (va := (.slice Pa na ca)) (xs := xs) (vb := (.slice Pb nb cb)) (ys := ys) w1.heap.size rfl (by simp) (by simp) 
  have cL := long_any _ _ _ rL
  rw [hL] at cL
  with_reducible refine cL.mono ?_
  rintro e w2 ⟨rfl, rfl⟩
  clear env1 cL
  go_wp2_with fail
  obtain ⟨rM, env3⟩ := rows2 env2 (va := (.slice Pa na ca)) (xs := xs) (vb := (.slice Pb nb cb)) (ys := ys) (w1.heap.size + 1) (by simp) (by simp) (by simp) 
  have cM := may2_any _ _ _ rM
  rw [hM] at cM
  with_reducible refine cM.mono ?_
  rintro e w2 ⟨rfl, rfl⟩
  clear env2 cM
  go_wp2_with fail
  refine (works_env env3).mono ?_
  rintro e w9 ⟨rfl, env9⟩
  have HB := Lib.hid env9.1
  clear env9 env3 rL rM
  go_wp2
  go_ret
  exact ⟨rfl, HB.out⟩

set_option maxRecDepth 100000 in
set_option maxHeartbeats 8000000 in
theorem squares_go {Pa : Option Addr} {na ca : Nat} {Pb : Option Addr} {nb cb : Nat} {xs ys : List Nat} (w : World) (h0 : Arg w (.slice Pa na ca) xs) (h1 : Arg w (.slice Pb nb cb) ys) (hL : longL [xs, ys] = false) (hM : [xs, ys].all mayb = true) : Calls Try.prog 10 #[(.slice Pa na ca), (.slice Pb nb cb)] w fun e w' => e = .returned (.bool true) ∧ Below w.heap.size w w' := by
  have l0 := long_no hL (xs := xs) (by simp)
  have l1 := long_no hL (xs := ys) (by simp)
  have hMs := hM
  simp only [List.all_cons, List.all_nil, Bool.and_true, Bool.and_eq_true] at hMs
  obtain ⟨m0, m1⟩ := hMs
  obtain ⟨A, rfl⟩ := may_lim h0.limbs m0
  obtain ⟨B, rfl⟩ := may_lim h1.limbs m1
  have k1 := len_mul A A
  have k2 := len_mul B B
  have k3 := len_add (A * A) (B * B)
  have k4 := len_add A B
  have k5 := len_mul (A + B) (A + B)
  have k6 := len_mul A B
  have k7 := len_two (A * B)
  have H1 := Lib.hid (mul_lim (a := A) (b := A) (by omega))
  have H2 := Lib.hid (mul_lim (a := B) (b := B) (by omega))
  have H3 := Lib.hid (add_lim (a := A * A) (b := B * B) (by omega) (by omega))
  have H4 := Lib.hid (add_lim (a := A) (b := B) (by omega) (by omega))
  have H5 := Lib.hid (mul_lim (a := A + B) (b := A + B) (by omega))
  have H6 := Lib.hid (mul_lim (a := A) (b := B) (by omega))
  have H7 := Lib.hid (shl_lim (a := A * B) (by omega))
  have H8 := Lib.hid (add_lim (a := A * A + B * B) (b := A * B * 2 ^ 1) (by omega) (by omega))
  have HE := Lib.hid (show lim ((A + B) * (A + B)) = lim (A * A + B * B + A * B * 2 ^ 1) from congrArg lim (by grind))
  clear k1 k2 k3 k4 k5 k6 k7
  have env0 : Env w w [((.slice Pa na ca), lim A), ((.slice Pb nb cb), lim B)] := (((env_start w).add (Below.refl _ _) h1).add (Below.refl _ _) h0)
  clear h0 h1 l0 m0 l1 m1
  go_enter Try.func10, Try.ntmps10
  go_wp2_with fail
  refine (works_env env0).mono ?_
  rintro e w1 ⟨rfl, env1⟩
  clear env0
  go_wp2_with fail
  obtain ⟨rL, env2⟩ := rows2 env1 (va := (.slice Pa na ca)) (xs := lim A) (vb := (.slice Pb nb cb)) (ys := lim B) w1.heap.size rfl (by simp) (by simp) 
  have cL := long_any _ _ _ rL
  rw [hL] at cL
  with_reducible refine cL.mono ?_
  rintro e w2 ⟨rfl, rfl⟩
  clear env1 cL
  go_wp2_with fail
  obtain ⟨rM, env3⟩ := rows2 env2 (va := (.slice Pa na ca)) (xs := lim A) (vb := (.slice Pb nb cb)) (ys := lim B) (w1.heap.size + 1) (by simp) (by simp) (by simp) 
  have cM := may2_any _ _ _ rM
  rw [hM] at cM
  with_reducible refine cM.mono ?_
  rintro e w2 ⟨rfl, rfl⟩
  clear env2 cM
  go_wp2_with fail
  refine (square_is env3 (va := .slice Pa na ca) (xs := lim A) (by simp) H1.out).mono ?_
  rintro e w4 ⟨r4, rfl, env4⟩
  clear env3
  go_wp2_with fail
  refine (square_is env4 (va := .slice Pb nb cb) (xs := lim B) (by simp) H2.out).mono ?_
  rintro e w5 ⟨r5, rfl, env5⟩
  clear env4
  go_wp2_with fail
  refine (add_is env5 (va := r4) (vb := r5) (xs := lim (A * A)) (ys := lim (B * B)) (by simp) (by simp) H3.out).mono ?_
  rintro e w6 ⟨r6, rfl, env6⟩
  clear env5
  go_wp2_with fail
  refine (add_is env6 (va := .slice Pa na ca) (vb := .slice Pb nb cb) (xs := lim A) (ys := lim B) (by simp) (by simp) H4.out).mono ?_
  rintro e w7 ⟨r7, rfl, env7⟩
  clear env6
  go_wp2_with fail
  refine (square_is env7 (va := r7) (xs := lim (A + B)) (by simp) H5.out).mono ?_
  rintro e w8 ⟨r8, rfl, env8⟩
  clear env7
  go_wp2_with fail
  refine (mul_is env8 (va := .slice Pa na ca) (vb := .slice Pb nb cb) (xs := lim A) (ys := lim B) (by simp) (by simp) H6.out).mono ?_
  rintro e w9 ⟨r9, rfl, env9⟩
  clear env8
  go_wp2_with fail
  refine (shl_is env9 (va := r9) (xs := lim (A * B)) (by simp) H7.out).mono ?_
  rintro e w10 ⟨r10, rfl, env10⟩
  clear env9
  go_wp2_with fail
  refine (add_is env10 (va := r6) (vb := r10) (xs := lim (A * A + B * B)) (ys := lim (A * B * 2 ^ 1)) (by simp) (by simp) H8.out).mono ?_
  rintro e w11 ⟨r11, rfl, env11⟩
  clear env10
  go_wp2_with fail
  refine (same2_yes env11 (va := r8) (vb := r11) (xs := lim ((A + B) * (A + B))) (ys := lim (A * A + B * B + A * B * 2 ^ 1)) (by simp) (by simp) HE.out).mono ?_
  rintro e w12 ⟨rfl, env12⟩
  clear env11
  have HB := Lib.hid env12.1
  clear env12 rL rM
  go_wp2
  go_ret
  exact ⟨rfl, HB.out⟩

theorem squares_law {Pa : Option Addr} {na ca : Nat} {Pb : Option Addr} {nb cb : Nat} {xs ys : List Nat} (w : World) (h0 : Arg w (.slice Pa na ca) xs) (h1 : Arg w (.slice Pb nb cb) ys) : Calls Try.prog 10 #[(.slice Pa na ca), (.slice Pb nb cb)] w fun e w' => e = .returned (.bool true) ∧ Below w.heap.size w w' := by
  by_cases hL : longL [xs, ys] = true
  · exact squares_long w h0 h1 hL
  · have hL' : longL [xs, ys] = false := by simpa using hL
    by_cases hM : [xs, ys].all mayb = true
    · exact squares_go w h0 h1 hL' hM
    · exact squares_no w h0 h1 hL' (Bool.eq_false_iff.2 hM)

end Go.Proofs.Ytlfhpoffphljfaa

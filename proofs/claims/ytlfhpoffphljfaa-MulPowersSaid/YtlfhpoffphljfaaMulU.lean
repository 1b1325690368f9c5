/- MulPowers. -/
import Derived.Test.YtlfhpoffphljfaaMulR
namespace Go.Proofs.Ytlfhpoffphljfaa
open Go.RowKit Go.Shelf

set_option linter.unusedVariables false

theorem len_pow (a : Nat) : ∀ n, (lim (a ^ n)).length ≤ n * (lim a).length + 1
  | 0 => by rw [Nat.pow_zero, Nat.zero_mul]; exact lim_le (by decide)
  | n + 1 => by
    have h1 := len_pow a n
    have h2 := len_mul (a ^ n) a
    rw [Nat.pow_succ, Nat.add_mul, Nat.one_mul]
    omega
theorem pow_lim {a n : Nat} (h : n * (lim a).length + 1 ≤ 65536) (ha : (lim a).length ≤ 65536) : sPow (lim a) (n : Int) = lim (a ^ n) := by
  have := len_pow a n
  rw [sPow_yes (mayb_lim ha), val_lim, clip_of (by omega)]
theorem small_lim {a m d : Nat} (ha : (lim a).length < 65000) (hm : m < 4294967296) (hd : d < 4294967296) : sSmall (lim a) m d = lim (a * m + d) := by
  have h1 := len_mul a m
  have h2 := len_add (a * m) d
  have h3 : (lim m).length ≤ 1 := lim_le (by omega)
  have h4 : (lim d).length ≤ 1 := lim_le (by omega)
  rw [sSmall_yes (mayb_lim (by omega)), val_lim, clip_of (by omega)]
theorem rows6 {w0 w : World} {l : List (Value × List Nat)} {va vb : Value} {xs ys : List Nat} (h : Env w0 w l) (n : Nat) (hn : n = w.heap.size) (h1 : (va, xs) ∈ l) (h2 : (vb, ys) ∈ l) : Rows2 (w.alloc (.cells #[va, va, va, vb, vb, vb] 26)) (.slice (some ⟨n, 0, none⟩) 6 6) [xs, xs, xs, ys, ys, ys] ∧ Env w0 (w.alloc (.cells #[va, va, va, vb, vb, vb] 26)) l := by
  subst hn
  exact rows_of h [(va, xs), (va, xs), (va, xs), (vb, ys), (vb, ys), (vb, ys)] (fun p hp => by
    simp only [List.mem_cons, List.not_mem_nil, or_false] at hp
    rcases hp with rfl | rfl | rfl | rfl | rfl | rfl <;> assumption) (by unfold maxLen; simp)
theorem mod5 (j : Int) : ∃ J jj : Nat, IntKind.u64.wrap j = (J : Int) ∧ J < 18446744073709551616 ∧ jj = J % 5 := by
  refine ⟨(IntKind.u64.wrap j).toNat, _, ?_, ?_, rfl⟩
  · rw [IntKind.wrap_u64]; omega
  · rw [IntKind.wrap_u64]; omega

set_option maxRecDepth 100000 in
set_option maxHeartbeats 8000000 in
theorem powers_long {Pa : Option Addr} {na ca : Nat} {Pb : Option Addr} {nb cb : Nat} {xs ys : List Nat} (w : World) (h0 : Arg w (.slice Pa na ca) xs) (h1 : Arg w (.slice Pb nb cb) ys) (j k : Int) (m d : Nat) (hL : longL [xs, xs, xs, ys, ys, ys] = true) : Calls Try.prog 9 #[(.slice Pa na ca), (.slice Pb nb cb), .int .i64 j, .int .i64 k, .int .u32 (m : Int), .int .u32 (d : Int)] w fun e w' => e = .returned (.bool true) ∧ Below w.heap.size w w' := by
  have env0 : Env w w [((.slice Pa na ca), xs), ((.slice Pb nb cb), ys)] := (((env_start w).add (Below.refl _ _) h1).add (Below.refl _ _) h0)
  clear h0 h1
  go_enter Try.func9, Try.ntmps9
  go_wp2_with fail
  refine (works_env env0).mono ?_
  rintro e w1 ⟨rfl, env1⟩
  clear env0
  go_wp2_with fail
  obtain ⟨rL, env2⟩ := rows6 env1 (va := (.slice Pa na ca)) (xs := xs) (vb := (.slice Pb nb cb)) (ys := ys) w1.heap.size rfl (by simp) (by simp)
  have cL := long_any _ _ _ rL
  rw [hL] at cL
  with_reducible refine cL.mono ?_
  rintro e w2 ⟨rfl, rfl⟩
  clear env1 cL
  go_wp2_with fail
  refine (works_env env2).mono ?_
  rintro e w9 ⟨rfl, env9⟩
  have HB := Lib.hid env9.1
  clear env9 env2 rL
  go_wp2
  go_ret
  exact ⟨rfl, HB.out⟩

set_option maxRecDepth 100000 in
set_option maxHeartbeats 8000000 in
theorem powers_no {Pa : Option Addr} {na ca : Nat} {Pb : Option Addr} {nb cb : Nat} {xs ys : List Nat} (w : World) (h0 : Arg w (.slice Pa na ca) xs) (h1 : Arg w (.slice Pb nb cb) ys) (j k : Int) (m d : Nat) (hL : longL [xs, xs, xs, ys, ys, ys] = false) (hM : [xs, ys].all mayb = false) : Calls Try.prog 9 #[(.slice Pa na ca), (.slice Pb nb cb), .int .i64 j, .int .i64 k, .int .u32 (m : Int), .int .u32 (d : Int)] w fun e w' => e = .returned (.bool true) ∧ Below w.heap.size w w' := by
  have env0 : Env w w [((.slice Pa na ca), xs), ((.slice Pb nb cb), ys)] := (((env_start w).add (Below.refl _ _) h1).add (Below.refl _ _) h0)
  clear h0 h1
  go_enter Try.func9, Try.ntmps9
  go_wp2_with fail
  refine (works_env env0).mono ?_
  rintro e w1 ⟨rfl, env1⟩
  clear env0
  go_wp2_with fail
  obtain ⟨rL, env2⟩ := rows6 env1 (va := (.slice Pa na ca)) (xs := xs) (vb := (.slice Pb nb cb)) (ys := ys) w1.heap.size rfl (by simp) (by simp)
  have cL := long_any _ _ _ rL
  rw [hL] at cL
  with_reducible refine cL.mono ?_
  rintro e w2 ⟨rfl, rfl⟩
  clear env1 cL
  go_wp2_with fail
  obtain ⟨rM, env3⟩ := rows2 env2 (va := (.slice Pa na ca)) (xs := xs) (vb := (.slice Pb nb cb)) (ys := ys) (w1.heap.size + 1) (by simp) (by simp) (by simp) 
  have cM := may2_any _ _ _ rM
  rw [hM] at cM
  with_reducible refine cM.mono ?_
  rintro e w2 ⟨rfl, rfl⟩
  clear env2 cM
  go_wp2_with fail
  refine (works_env env3).mono ?_
  rintro e w9 ⟨rfl, env9⟩
  have HB := Lib.hid env9.1
  clear env9 env3 rL rM
  go_wp2
  go_ret
  exact ⟨rfl, HB.out⟩

set_option maxRecDepth 100000 in
set_option maxHeartbeats 8000000 in
theorem powers_go {Pa : Option Addr} {na ca : Nat} {Pb : Option Addr} {nb cb : Nat} {xs ys : List Nat} (w : World) (h0 : Arg w (.slice Pa na ca) xs) (h1 : Arg w (.slice Pb nb cb) ys) (j k : Int) (m d : Nat) (hm : m < 4294967296) (hd : d < 4294967296) (hL : longL [xs, xs, xs, ys, ys, ys] = false) (hM : [xs, ys].all mayb = true) : Calls Try.prog 9 #[(.slice Pa na ca), (.slice Pb nb cb), .int .i64 j, .int .i64 k, .int .u32 (m : Int), .int .u32 (d : Int)] w fun e w' => e = .returned (.bool true) ∧ Below w.heap.size w w' := by
  have l0 : xs.length ≤ 232 := by unfold longL at hL; have := of_decide_eq_false hL; simp only [tot] at this; omega
  have l1 : ys.length ≤ 232 := by unfold longL at hL; have := of_decide_eq_false hL; simp only [tot] at this; omega
  have hMs := hM
  simp only [List.all_cons, List.all_nil, Bool.and_true, Bool.and_eq_true] at hMs
  obtain ⟨m0, m1⟩ := hMs
  obtain ⟨A, rfl⟩ := may_lim h0.limbs m0
  obtain ⟨B, rfl⟩ := may_lim h1.limbs m1
  obtain ⟨J, jj, hJ, hJb, hjj⟩ := mod5 j
  obtain ⟨K, kk, hK, hKb, hkk⟩ := mod5 k
  have hJ5 : (J : Int) % 5 = (jj : Int) := by omega
  have hK5 : (K : Int) % 5 = (kk : Int) := by omega
  have hj4 : jj ≤ 4 := by omega
  have hk4 : kk ≤ 4 := by omega
  clear hjj hkk
  have mulLe : ∀ {n N y Y : Nat}, n ≤ N → y ≤ Y → n * y ≤ N * Y := fun h1 h2 => Nat.mul_le_mul h1 h2
  have e1 := mulLe (show jj + kk ≤ 8 by omega) l0
  have e2 := mulLe hj4 l0
  have e3 := mulLe hk4 l0
  have e4 := mulLe hk4 l1
  have k0 := len_mul A B
  have e5 := mulLe hk4 (show (lim (A * B)).length ≤ 464 by omega)
  have p2 := len_pow A jj
  have p3 := len_pow A kk
  have p4 := len_pow B kk
  have two : (lim 2).length ≤ 1 := lim_le (by decide)
  have one : (lim 1).length ≤ 1 := lim_le (by decide)
  have e6 := mulLe (show 33 * kk + jj ≤ 136 by omega) two
  have q1 := len_pow 2 (33 * kk + jj)
  have z1 : (lim m).length ≤ 1 := lim_le (by omega)
  have z2 : (lim d).length ≤ 1 := lim_le (by omega)
  have z3 := len_mul A m
  have H1 := Lib.hid (show sPow (lim A) ((jj : Int) + (kk : Int)) = lim (A ^ (jj + kk)) by rw [← Int.natCast_add]; exact pow_lim (by omega) (by omega))
  have H2 := Lib.hid (pow_lim (a := A) (n := jj) (by omega) (by omega))
  have H3 := Lib.hid (pow_lim (a := A) (n := kk) (by omega) (by omega))
  have H4 := Lib.hid (show sMul (lim (A ^ jj)) (lim (A ^ kk)) = lim (A ^ (jj + kk)) by rw [mul_lim (by omega), Nat.pow_add])
  have H5 := Lib.hid (mul_lim (a := A) (b := B) (by omega))
  have H6 := Lib.hid (pow_lim (a := A * B) (n := kk) (by omega) (by omega))
  have H7 := Lib.hid (pow_lim (a := B) (n := kk) (by omega) (by omega))
  have H8 := Lib.hid (show sMul (lim (A ^ kk)) (lim (B ^ kk)) = lim ((A * B) ^ kk) by rw [mul_lim (by omega), Nat.mul_pow])
  have H9 := Lib.hid (show sPow (lim 2) (33 * (kk : Int) + (jj : Int)) = lim (2 ^ (33 * kk + jj)) by rw [show (33 * (kk : Int) + (jj : Int)) = ((33 * kk + jj : Nat) : Int) from by omega]; exact pow_lim (by omega) (by omega))
  have H10 := Lib.hid (show sShl (lim 1) (33 * (kk : Int) + (jj : Int)) = lim (2 ^ (33 * kk + jj)) by rw [show (33 * (kk : Int) + (jj : Int)) = ((33 * kk + jj : Nat) : Int) from by omega, sShl_yes (mayb_lim (by omega)), val_lim, Nat.one_mul, clip_of (by omega)])
  have H11 := Lib.hid (small_lim (a := A) (m := m) (d := d) (by omega) hm hd)
  have H12 := Lib.hid (mul_lim (a := A) (b := m) (by omega))
  have H13 := Lib.hid (add_lim (a := A * m) (b := d) (by omega) (by omega))
  clear mulLe e1 e2 e3 e4 e5 e6 k0 p2 p3 p4 two one q1 z1 z2 z3
  have env0 : Env w w [((.slice Pa na ca), lim A), ((.slice Pb nb cb), lim B)] := (((env_start w).add (Below.refl _ _) h1).add (Below.refl _ _) h0)
  clear h0 h1 l0 l1 m0 m1
  go_enter Try.func9, Try.ntmps9
  go_wp2_with fail
  refine (works_env env0).mono ?_
  rintro e w1 ⟨rfl, env1⟩
  clear env0
  go_wp2_with fail
  obtain ⟨rL, env2⟩ := rows6 env1 (va := (.slice Pa na ca)) (xs := lim A) (vb := (.slice Pb nb cb)) (ys := lim B) w1.heap.size rfl (by simp) (by simp)
  have cL := long_any _ _ _ rL
  rw [hL] at cL
  with_reducible refine cL.mono ?_
  rintro e w2 ⟨rfl, rfl⟩
  clear env1 cL
  go_wp2_with fail
  obtain ⟨rM, env3⟩ := rows2 env2 (va := (.slice Pa na ca)) (xs := lim A) (vb := (.slice Pb nb cb)) (ys := lim B) (w1.heap.size + 1) (by simp) (by simp) (by simp) 
  have cM := may2_any _ _ _ rM
  rw [hM] at cM
  with_reducible refine cM.mono ?_
  rintro e w2 ⟨rfl, rfl⟩
  clear env2 cM
  go_wp2_with fail
  refine (pow_is env3 (va := (.slice Pa na ca)) (xs := lim A) (by simp) ((jj : Int) + (kk : Int)) (by omega) (by omega) H1.out).mono ?_
  rintro e w4 ⟨r4, rfl, env4⟩
  clear env3
  go_wp2_with fail
  refine (pow_is env4 (va := (.slice Pa na ca)) (xs := lim A) (by simp) ((jj : Int)) (by omega) (by omega) H2.out).mono ?_
  rintro e w5 ⟨r5, rfl, env5⟩
  clear env4
  go_wp2_with fail
  refine (pow_is env5 (va := (.slice Pa na ca)) (xs := lim A) (by simp) ((kk : Int)) (by omega) (by omega) H3.out).mono ?_
  rintro e w6 ⟨r6, rfl, env6⟩
  clear env5
  go_wp2_with fail
  refine (mul_is env6 (va := r5) (vb := r6) (xs := lim (A ^ jj)) (ys := lim (A ^ kk)) (by simp) (by simp) H4.out).mono ?_
  rintro e w7 ⟨r7, rfl, env7⟩
  clear env6
  go_wp2_with fail
  refine (same2_yes env7 (va := r4) (vb := r7) (xs := lim (A ^ (jj + kk))) (ys := lim (A ^ (jj + kk))) (by simp) (by simp) rfl).mono ?_
  rintro e w8 ⟨rfl, env8⟩
  clear env7
  go_wp2_with fail
  refine (mul_is env8 (va := (.slice Pa na ca)) (vb := (.slice Pb nb cb)) (xs := lim A) (ys := lim B) (by simp) (by simp) H5.out).mono ?_
  rintro e w9 ⟨r9, rfl, env9⟩
  clear env8
  go_wp2_with fail
  refine (pow_is env9 (va := r9) (xs := lim (A * B)) (by simp) ((kk : Int)) (by omega) (by omega) H6.out).mono ?_
  rintro e w10 ⟨r10, rfl, env10⟩
  clear env9
  go_wp2_with fail
  refine (pow_is env10 (va := (.slice Pa na ca)) (xs := lim A) (by simp) ((kk : Int)) (by omega) (by omega) H3.out).mono ?_
  rintro e w11 ⟨r11, rfl, env11⟩
  clear env10
  go_wp2_with fail
  refine (pow_is env11 (va := (.slice Pb nb cb)) (xs := lim B) (by simp) ((kk : Int)) (by omega) (by omega) H7.out).mono ?_
  rintro e w12 ⟨r12, rfl, env12⟩
  clear env11
  go_wp2_with fail
  refine (mul_is env12 (va := r11) (vb := r12) (xs := lim (A ^ kk)) (ys := lim (B ^ kk)) (by simp) (by simp) H8.out).mono ?_
  rintro e w13 ⟨r13, rfl, env13⟩
  clear env12
  go_wp2_with fail
  refine (same2_yes env13 (va := r10) (vb := r13) (xs := lim ((A * B) ^ kk)) (ys := lim ((A * B) ^ kk)) (by simp) (by simp) rfl).mono ?_
  rintro e w14 ⟨rfl, env14⟩
  clear env13
  go_wp2_with fail
  refine (of_env env14 2 (by decide)).mono ?_
  rintro e w15 ⟨r15, rfl, env15⟩
  clear env14
  go_wp2_with fail
  refine (pow_is env15 (va := r15) (xs := lim 2) (by simp) (33 * (kk : Int) + (jj : Int)) (by omega) (by omega) H9.out).mono ?_
  rintro e w16 ⟨r16, rfl, env16⟩
  clear env15
  go_wp2_with fail
  refine (of_env env16 1 (by decide)).mono ?_
  rintro e w17 ⟨r17, rfl, env17⟩
  clear env16
  go_wp2_with fail
  refine (shl_is env17 (va := r17) (xs := lim 1) (by simp) H10.out).mono ?_
  rintro e w18 ⟨r18, rfl, env18⟩
  clear env17
  go_wp2_with fail
  refine (same2_yes env18 (va := r16) (vb := r18) (xs := lim (2 ^ (33 * kk + jj))) (ys := lim (2 ^ (33 * kk + jj))) (by simp) (by simp) rfl).mono ?_
  rintro e w19 ⟨rfl, env19⟩
  clear env18
  go_wp2_with fail
  refine (small_is env19 (va := (.slice Pa na ca)) (xs := lim A) (by simp) m d hm hd H11.out).mono ?_
  rintro e w20 ⟨r20, rfl, env20⟩
  clear env19
  go_wp2_with fail
  refine (of_env env20 m (by omega)).mono ?_
  rintro e w21 ⟨r21, rfl, env21⟩
  clear env20
  go_wp2_with fail
  refine (mul_is env21 (va := (.slice Pa na ca)) (vb := r21) (xs := lim A) (ys := lim m) (by simp) (by simp) H12.out).mono ?_
  rintro e w22 ⟨r22, rfl, env22⟩
  clear env21
  go_wp2_with fail
  refine (of_env env22 d (by omega)).mono ?_
  rintro e w23 ⟨r23, rfl, env23⟩
  clear env22
  go_wp2_with fail
  refine (add_is env23 (va := r22) (vb := r23) (xs := lim (A * m)) (ys := lim d) (by simp) (by simp) H13.out).mono ?_
  rintro e w24 ⟨r24, rfl, env24⟩
  clear env23
  go_wp2_with fail
  refine (same2_yes env24 (va := r20) (vb := r24) (xs := lim (A * m + d)) (ys := lim (A * m + d)) (by simp) (by simp) rfl).mono ?_
  rintro e w25 ⟨rfl, env25⟩
  clear env24
  have HB := Lib.hid env25.1
  clear env25 rL rM
  go_wp2
  go_ret
  exact ⟨rfl, HB.out⟩

theorem bnd_u32 {u : Int} (h : (Lit.int .u32 u).wf = true) : 0 ≤ u ∧ u < 4294967296 := by
  simp [Lit.wf, IntKind.min, IntKind.max, IntKind.signed, IntKind.bits] at h
  omega
theorem powers_law {Pa : Option Addr} {na ca : Nat} {Pb : Option Addr} {nb cb : Nat} {xs ys : List Nat} (w : World) (h0 : Arg w (.slice Pa na ca) xs) (h1 : Arg w (.slice Pb nb cb) ys) (j : Int) (_hj : (Lit.int .i64 j).wf = true) (k : Int) (_hk : (Lit.int .i64 k).wf = true) (u : Int) (hu : (Lit.int .u32 u).wf = true) (v : Int) (hv : (Lit.int .u32 v).wf = true) :
    Calls Try.prog 9 #[(.slice Pa na ca), (.slice Pb nb cb), .int .i64 j, .int .i64 k, .int .u32 u, .int .u32 v] w fun e w' => e = .returned (.bool true) ∧ Below w.heap.size w w' := by
  have bu := bnd_u32 hu
  have bv := bnd_u32 hv
  obtain ⟨m, rfl⟩ : ∃ n : Nat, u = (n : Int) := ⟨u.toNat, by omega⟩
  obtain ⟨d, rfl⟩ : ∃ n : Nat, v = (n : Int) := ⟨v.toNat, by omega⟩
  by_cases hL : longL [xs, xs, xs, ys, ys, ys] = true
  · exact powers_long w h0 h1 j k m d hL
  · have hL' : longL [xs, xs, xs, ys, ys, ys] = false := by simpa using hL
    by_cases hM : [xs, ys].all mayb = true
    · exact powers_go w h0 h1 j k m d (by omega) (by omega) hL' hM
    · exact powers_no w h0 h1 j k m d hL' (Bool.eq_false_iff.2 hM)

end Go.Proofs.Ytlfhpoffphljfaa

/- DecParted. -/
import Derived.Test.YtekdidfpilbinaaDoorLawD
namespace Go.Proofs.YtekdidfpilbinaaDoor
open Go.RowKit Go.Shelf

set_option linter.unusedVariables false
set_option linter.unusedSimpArgs false

theorem bnd_i64d {u : Int} (h : (Lit.int .i64 u).wf = true) : -9223372036854775808 ≤ u ∧ u < 9223372036854775808 := by
  simp [Lit.wf, IntKind.min, IntKind.max, IntKind.signed, IntKind.bits] at h
  omega
theorem txt_join {q r k : Nat} (hq : q ≠ 0) (hr : r < 10 ^ k) : txt (q * 10 ^ k + r) = txt q ++ pad r k := by
  have hp : 0 < 10 ^ k := Nat.pow_pos (by decide)
  have h1 : (q * 10 ^ k + r) / 10 ^ k = q := by
    rw [Nat.add_comm, Nat.add_mul_div_right _ _ hp, Nat.div_eq_of_lt hr, Nat.zero_add]
  have h2 : (q * 10 ^ k + r) % 10 ^ k = r := by rw [Nat.add_comm, Nat.add_mul_mod_self_right, Nat.mod_eq_of_lt hr]
  have h3 : nd (q * 10 ^ k + r) = nd q + k := by
    refine nd_unique ?_ ?_ (by have := nd_pos q; omega)
    · have := Nat.mul_le_mul_right (10 ^ k) (show q + 1 ≤ 10 ^ nd q from lt_nd q)
      rw [Nat.pow_add]
      rw [Nat.add_mul, Nat.one_mul] at this
      omega
    · have := Nat.mul_le_mul_right (10 ^ k) (nd_ge hq)
      rw [← Nat.pow_add, show nd q - 1 + k = nd q + k - 1 by have := nd_pos q; omega] at this
      omega
  unfold txt
  rw [h3, pad_add, h1, ← pad_mod (q * 10 ^ k + r) k, h2]
theorem txt_shift {n k : Nat} (hn : n ≠ 0) : txt (n * 10 ^ k) = txt n ++ List.replicate k 48 := by
  have := txt_join (r := 0) (k := k) hn (Nat.pow_pos (by decide))
  rwa [Nat.add_zero, pad_zero] at this
theorem pad_nd {r k : Nat} (hr : r < 10 ^ k) (hk : 0 < k) : pad r k = List.replicate (k - nd r) 48 ++ txt r := by
  have h1 := nd_le hr hk
  have := pad_low (lt_nd r) (k - nd r)
  rwa [show k - nd r + nd r = k by omega] at this

set_option maxRecDepth 100000 in
set_option maxHeartbeats 8000000 in
theorem parted_a {A : Option Addr} {cap : Nat} {xs : List Nat} (w : World) (h : Arg w (.slice A xs.length cap) xs) (hx : xs.length < 9223372036854775808) (k : Int) (hk : k < 9223372036854775808) (hk0 : -9223372036854775808 ≤ k) (h1 : 300 < xs.length) : Calls Tryd.prog 9 #[.slice A xs.length cap, .int .i64 k] w fun e w' => e = .returned (.bool true) ∧ Below w.heap.size w w' := by
  have env0 : Env w w [(.slice A xs.length cap, xs)] := (env_start w).add (Below.refl _ _) h
  clear h
  go_enter Tryd.func9, Tryd.ntmps9
  go_wp2_with fail
  refine (works4_env env0).mono ?_
  rintro e w1 ⟨rfl, env1⟩
  clear env0
  go_wp2_with fail
  refine (works4_env env1).mono ?_
  rintro e w2 ⟨rfl, env2⟩
  have HB := Lib.hid env2.1
  clear env1 env2
  go_wp2
  go_ret
  exact ⟨rfl, HB.out⟩

set_option maxRecDepth 100000 in
set_option maxHeartbeats 8000000 in
theorem parted_b {A : Option Addr} {cap : Nat} {xs : List Nat} (w : World) (h : Arg w (.slice A xs.length cap) xs) (hx : xs.length < 9223372036854775808) (k : Int) (hk : k < 9223372036854775808) (hk0 : -9223372036854775808 ≤ k) (h1 : xs.length ≤ 300) (hm : mayb xs = false) : Calls Tryd.prog 9 #[.slice A xs.length cap, .int .i64 k] w fun e w' => e = .returned (.bool true) ∧ Below w.heap.size w w' := by
  have env0 : Env w w [(.slice A xs.length cap, xs)] := (env_start w).add (Below.refl _ _) h
  clear h
  go_enter Tryd.func9, Tryd.ntmps9
  go_wp2_with fail
  refine (works4_env env0).mono ?_
  rintro e w1 ⟨rfl, env1⟩
  clear env0
  have cm := may_env env1 (va := .slice A xs.length cap) (xs := xs) (by simp)
  rw [hm] at cm
  go_wp2_with fail
  refine cm.mono ?_
  rintro e w' ⟨rfl, rfl⟩
  clear cm
  go_wp2_with fail
  refine (works4_env env1).mono ?_
  rintro e w2 ⟨rfl, env2⟩
  have HB := Lib.hid env2.1
  clear env1 env2
  go_wp2
  go_ret
  exact ⟨rfl, HB.out⟩

set_option maxRecDepth 100000 in
set_option maxHeartbeats 8000000 in
theorem parted_c {A : Option Addr} {cap : Nat} {xs : List Nat} (w : World) (h : Arg w (.slice A xs.length cap) xs) (hx : xs.length < 9223372036854775808) (k : Int) (hk : k < 9223372036854775808) (hk0 : -9223372036854775808 ≤ k) (h1 : xs.length ≤ 300) (hm : mayb xs = true) (h2 : k < 0) : Calls Tryd.prog 9 #[.slice A xs.length cap, .int .i64 k] w fun e w' => e = .returned (.bool true) ∧ Below w.heap.size w w' := by
  have env0 : Env w w [(.slice A xs.length cap, xs)] := (env_start w).add (Below.refl _ _) h
  clear h
  go_enter Tryd.func9, Tryd.ntmps9
  go_wp2_with fail
  refine (works4_env env0).mono ?_
  rintro e w1 ⟨rfl, env1⟩
  clear env0
  have cm := may_env env1 (va := .slice A xs.length cap) (xs := xs) (by simp)
  rw [hm] at cm
  go_wp2_with fail
  refine cm.mono ?_
  rintro e w' ⟨rfl, rfl⟩
  clear cm
  go_wp2_with fail
  refine (works4_env env1).mono ?_
  rintro e w2 ⟨rfl, env2⟩
  have HB := Lib.hid env2.1
  clear env1 env2
  go_wp2
  go_ret
  exact ⟨rfl, HB.out⟩

set_option maxRecDepth 100000 in
set_option maxHeartbeats 8000000 in
theorem parted_d {A : Option Addr} {cap : Nat} {xs : List Nat} (w : World) (h : Arg w (.slice A xs.length cap) xs) (hx : xs.length < 9223372036854775808) (k : Int) (hk : k < 9223372036854775808) (hk0 : -9223372036854775808 ≤ k) (h1 : xs.length ≤ 300) (hm : mayb xs = true) (h2 : ¬ k < 0) (h3 : 2000 < k) : Calls Tryd.prog 9 #[.slice A xs.length cap, .int .i64 k] w fun e w' => e = .returned (.bool true) ∧ Below w.heap.size w w' := by
  have env0 : Env w w [(.slice A xs.length cap, xs)] := (env_start w).add (Below.refl _ _) h
  clear h
  go_enter Tryd.func9, Tryd.ntmps9
  go_wp2_with fail
  refine (works4_env env0).mono ?_
  rintro e w1 ⟨rfl, env1⟩
  clear env0
  have cm := may_env env1 (va := .slice A xs.length cap) (xs := xs) (by simp)
  rw [hm] at cm
  go_wp2_with fail
  refine cm.mono ?_
  rintro e w' ⟨rfl, rfl⟩
  clear cm
  go_wp2_with fail
  refine (works4_env env1).mono ?_
  rintro e w2 ⟨rfl, env2⟩
  have HB := Lib.hid env2.1
  clear env1 env2
  go_wp2
  go_ret
  exact ⟨rfl, HB.out⟩

set_option maxRecDepth 100000 in
set_option maxHeartbeats 16000000 in
theorem parted_1 {A : Option Addr} {cap : Nat} (w : World) (h : Arg w (.slice A 0 cap) []) (hm : mayb [] = true) (k : Nat) (hk : k ≤ 2000) (Lo T M1 M2 : List Nat) (Sn Sl Sh Sm U : ByteArray) (m : Nat)
    (f1 : sHi [] (k : Int) = []) (f2 : sLo [] (k : Int) = Lo) (f3 : sPow [10] (k : Int) = T) (f4 : sMul [] T = M1) (f5 : sAdd M1 Lo = []) (f6 : sCmp Lo T = -1) (f7 : sMul [] T = M2)
    (g1 : str (sShow []) = Sn) (g2 : str (sShow Lo) = Sl) (g3 : str (sShow []) = Sh) (g4 : str (sShow M2) = Sm) (hSl : Sl.size = m) (hq : (Sn.toList == Sl.toList) = true) : Calls Tryd.prog 9 #[.slice A 0 cap, .int .i64 (k : Int)] w fun e w' => e = .returned (.bool true) ∧ Below w.heap.size w w' := by
  have env0 : Env w w [(.slice A 0 cap, [])] := (env_start w).add (Below.refl _ _) h
  have HM := Lib.hid hm
  have F1 := Lib.hid f1
  have F2 := Lib.hid f2
  have F3 := Lib.hid f3
  have F4 := Lib.hid f4
  have F5 := Lib.hid f5
  have F6 := Lib.hid f6
  have F7 := Lib.hid f7
  have G1 := Lib.hid g1
  have G2 := Lib.hid g2
  have G3 := Lib.hid g3
  have G4 := Lib.hid g4
  have cp := fun s hs => copies_any s hs
  clear h hm f1 f2 f3 f4 f5 f6 f7 g1 g2 g3 g4
  clear cp
  go_enter Tryd.func9, Tryd.ntmps9
  go_wp2_with fail
  refine (works4_env env0).mono ?_
  rintro e w1 ⟨rfl, env1⟩
  clear env0
  have cm := may_env env1 (va := .slice A 0 cap) (xs := []) (by simp)
  rw [HM.out] at cm
  go_wp2_with fail
  refine cm.mono ?_
  rintro e w' ⟨rfl, rfl⟩
  clear cm
  go_wp2_with fail
  refine (split_env env1 (va := .slice A 0 cap) (xs := []) (by simp) (k : Int) (by omega) (by omega) F1.out F2.out).mono ?_
  rintro e w2 ⟨Ah, ch, rl, rfl, env2⟩
  clear env1
  go_wp2_with fail
  refine (ten_env env2 (k : Int) (by omega) (by omega) F3.out).mono ?_
  rintro e w3 ⟨rt, rfl, env3⟩
  clear env2
  go_wp2_with fail
  refine (mul_is env3 (va := .slice Ah ([] : List Nat).length ch) (xs := []) (vb := rt) (ys := T) (by simp) (by simp) F4.out).mono ?_
  rintro e w4 ⟨rm, rfl, env4⟩
  clear env3
  go_wp2_with fail
  refine (add_is env4 (va := rm) (xs := M1) (vb := rl) (ys := Lo) (by simp) (by simp) F5.out).mono ?_
  rintro e w5 ⟨ra, rfl, env5⟩
  clear env4
  go_wp2_with fail
  refine (same4_yes env5 (va := ra) (vb := .slice A 0 cap) (xs := []) (ys := []) (by simp) (by simp) rfl).mono ?_
  rintro e w6 ⟨rfl, env6⟩
  clear env5
  go_wp2_with fail
  refine (ten_env env6 (k : Int) (by omega) (by omega) F3.out).mono ?_
  rintro e w7 ⟨ru, rfl, env7⟩
  clear env6
  have cc := cmp_env env7 (va := rl) (xs := Lo) (vb := ru) (ys := T) (by simp) (by simp)
  rw [F6.out] at cc
  go_wp2_with fail
  refine cc.mono ?_
  rintro e w8 ⟨rfl, env8⟩
  clear env7 cc
  have c1 := show_env env8 (va := rl) (xs := Lo) (by simp)
  rw [G2.out] at c1
  go_wp2_with fail
  refine c1.mono ?_
  rintro e w9 ⟨rfl, env9⟩
  clear c1 env8
  have env10 := env9
  clear env9
  have c4 := show_env env10 (va := .slice A 0 cap) (xs := []) (by simp)
  rw [G1.out] at c4
  go_wp2_with fail
  refine c4.mono ?_
  rintro e w11 ⟨rfl, env11⟩
  clear c4 env10
  have HB := Lib.hid env11.1
  clear env11
  go_wp2
  go_ret
  exact ⟨rfl, HB.out⟩

set_option maxRecDepth 100000 in
set_option maxHeartbeats 16000000 in
theorem parted_2 {A : Option Addr} {cap : Nat} {xs : List Nat} {nx : Nat} (h1 : nx ≤ 300) (w : World) (h : Arg w (.slice A nx cap) xs) (hm : mayb xs = true) (k : Nat) (hk : k ≤ 2000) (Lo T M1 M2 : List Nat) (Sn Sl Sh Sm U : ByteArray) (m : Nat)
    (f1 : sHi xs (k : Int) = []) (f2 : sLo xs (k : Int) = Lo) (f3 : sPow [10] (k : Int) = T) (f4 : sMul [] T = M1) (f5 : sAdd M1 Lo = xs) (f6 : sCmp Lo T = -1) (f7 : sMul xs T = M2)
    (g1 : str (sShow xs) = Sn) (g2 : str (sShow Lo) = Sl) (g3 : str (sShow []) = Sh) (g4 : str (sShow M2) = Sm) (hSl : Sl.size = m) (hX : ¬ nx = 0) (hq : (Sn.toList == Sl.toList) = true) (a3 : ∀ w, (Op.stringOp .add Sn (str (List.replicate k 48))).run Tryd.prog w = .ok (.string Sm) w) (hq3 : (Sm.toList == Sm.toList) = true) : Calls Tryd.prog 9 #[.slice A nx cap, .int .i64 (k : Int)] w fun e w' => e = .returned (.bool true) ∧ Below w.heap.size w w' := by
  have env0 : Env w w [(.slice A nx cap, xs)] := (env_start w).add (Below.refl _ _) h
  have HM := Lib.hid hm
  have F1 := Lib.hid f1
  have F2 := Lib.hid f2
  have F3 := Lib.hid f3
  have F4 := Lib.hid f4
  have F5 := Lib.hid f5
  have F6 := Lib.hid f6
  have F7 := Lib.hid f7
  have G1 := Lib.hid g1
  have G2 := Lib.hid g2
  have G3 := Lib.hid g3
  have G4 := Lib.hid g4
  have cp := fun s hs => copies_any s hs
  clear h hm f1 f2 f3 f4 f5 f6 f7 g1 g2 g3 g4
  have C2 : Hid (∀ w, Calls Tryd.prog 15 #[.string ⟨#[48]⟩, .int .i64 (k : Int)] w fun e w' => e = .returned (.string (str (List.replicate k 48))) ∧ w' = w) := fun w => copies_any ⟨#[48]⟩ rfl k (by omega) w
  generalize str (List.replicate k 48) = R2 at *
  clear cp
  go_enter Tryd.func9, Tryd.ntmps9
  go_wp2_with fail
  refine (works4_env env0).mono ?_
  rintro e w1 ⟨rfl, env1⟩
  clear env0
  have cm := may_env env1 (va := .slice A nx cap) (xs := xs) (by simp)
  rw [HM.out] at cm
  go_wp2_with fail
  refine cm.mono ?_
  rintro e w' ⟨rfl, rfl⟩
  clear cm
  go_wp2_with fail
  refine (split_env env1 (va := .slice A nx cap) (xs := xs) (by simp) (k : Int) (by omega) (by omega) F1.out F2.out).mono ?_
  rintro e w2 ⟨Ah, ch, rl, rfl, env2⟩
  clear env1
  go_wp2_with fail
  refine (ten_env env2 (k : Int) (by omega) (by omega) F3.out).mono ?_
  rintro e w3 ⟨rt, rfl, env3⟩
  clear env2
  go_wp2_with fail
  refine (mul_is env3 (va := .slice Ah ([] : List Nat).length ch) (xs := []) (vb := rt) (ys := T) (by simp) (by simp) F4.out).mono ?_
  rintro e w4 ⟨rm, rfl, env4⟩
  clear env3
  go_wp2_with fail
  refine (add_is env4 (va := rm) (xs := M1) (vb := rl) (ys := Lo) (by simp) (by simp) F5.out).mono ?_
  rintro e w5 ⟨ra, rfl, env5⟩
  clear env4
  go_wp2_with fail
  refine (same4_yes env5 (va := ra) (vb := .slice A nx cap) (xs := xs) (ys := xs) (by simp) (by simp) rfl).mono ?_
  rintro e w6 ⟨rfl, env6⟩
  clear env5
  go_wp2_with fail
  refine (ten_env env6 (k : Int) (by omega) (by omega) F3.out).mono ?_
  rintro e w7 ⟨ru, rfl, env7⟩
  clear env6
  have cc := cmp_env env7 (va := rl) (xs := Lo) (vb := ru) (ys := T) (by simp) (by simp)
  rw [F6.out] at cc
  go_wp2_with fail
  refine cc.mono ?_
  rintro e w8 ⟨rfl, env8⟩
  clear env7 cc
  have c1 := show_env env8 (va := rl) (xs := Lo) (by simp)
  rw [G2.out] at c1
  go_wp2_with fail
  refine c1.mono ?_
  rintro e w9 ⟨rfl, env9⟩
  clear c1 env8
  have env10 := env9
  clear env9
  have c4 := show_env env10 (va := .slice A nx cap) (xs := xs) (by simp)
  rw [G1.out] at c4
  go_wp2_with fail
  refine c4.mono ?_
  rintro e w11 ⟨rfl, env11⟩
  clear c4 env10
  go_wp2_with fail
  refine (ten_env env11 (k : Int) (by omega) (by omega) F3.out).mono ?_
  rintro e w12 ⟨rv, rfl, env12⟩
  clear env11
  go_wp2_with fail
  refine (mul_is env12 (va := .slice A nx cap) (xs := xs) (vb := rv) (ys := T) (by simp) (by simp) F7.out).mono ?_
  rintro e w13 ⟨rw', rfl, env13⟩
  clear env12
  have c5 := show_env env13 (va := rw') (xs := M2) (by simp)
  rw [G4.out] at c5
  go_wp2_with fail
  refine c5.mono ?_
  rintro e w14 ⟨rfl, env14⟩
  clear c5 env13
  have c6 := show_env env14 (va := .slice A nx cap) (xs := xs) (by simp)
  rw [G1.out] at c6
  go_wp2_with fail
  refine c6.mono ?_
  rintro e w15 ⟨rfl, env15⟩
  clear c6 env14
  have c7 := C2.out w15
  go_wp2_with fail
  refine c7.mono ?_
  rintro e w' ⟨rfl, rfl⟩
  clear c7
  have b3 := a3 w'
  have HB := Lib.hid env15.1
  clear env15
  go_wp2
  go_ret
  exact ⟨rfl, HB.out⟩

set_option maxRecDepth 100000 in
set_option maxHeartbeats 16000000 in
theorem parted_3 {A : Option Addr} {cap : Nat} {xs : List Nat} {nx : Nat} (h1 : nx ≤ 300) (w : World) (h : Arg w (.slice A nx cap) xs) (hm : mayb xs = true) (k : Nat) (hk : k ≤ 2000) (H Lo T M1 M2 : List Nat) (Sn Sl Sh Sm U : ByteArray) (m : Nat)
    (f1 : sHi xs (k : Int) = H) (f2 : sLo xs (k : Int) = Lo) (f3 : sPow [10] (k : Int) = T) (f4 : sMul H T = M1) (f5 : sAdd M1 Lo = xs) (f6 : sCmp Lo T = -1) (f7 : sMul xs T = M2)
    (g1 : str (sShow xs) = Sn) (g2 : str (sShow Lo) = Sl) (g3 : str (sShow H) = Sh) (g4 : str (sShow M2) = Sm) (hSl : Sl.size = m) (hH : 0 < H.length) (hX : ¬ nx = 0) (hk0 : k = 0) (a1 : ∀ w, (Op.stringOp .add Sh (str (List.replicate 0 48))).run Tryd.prog w = .ok (.string U) w) (a2 : ∀ w, (Op.stringOp .add U ⟨#[]⟩).run Tryd.prog w = .ok (.string Sn) w) (hq : (Sn.toList == Sn.toList) = true) (a3 : ∀ w, (Op.stringOp .add Sn (str (List.replicate k 48))).run Tryd.prog w = .ok (.string Sm) w) (hq3 : (Sm.toList == Sm.toList) = true) : Calls Tryd.prog 9 #[.slice A nx cap, .int .i64 (k : Int)] w fun e w' => e = .returned (.bool true) ∧ Below w.heap.size w w' := by
  have env0 : Env w w [(.slice A nx cap, xs)] := (env_start w).add (Below.refl _ _) h
  have HM := Lib.hid hm
  have F1 := Lib.hid f1
  have F2 := Lib.hid f2
  have F3 := Lib.hid f3
  have F4 := Lib.hid f4
  have F5 := Lib.hid f5
  have F6 := Lib.hid f6
  have F7 := Lib.hid f7
  have G1 := Lib.hid g1
  have G2 := Lib.hid g2
  have G3 := Lib.hid g3
  have G4 := Lib.hid g4
  have cp := fun s hs => copies_any s hs
  clear h hm f1 f2 f3 f4 f5 f6 f7 g1 g2 g3 g4
  subst hk0
  have C2 : Hid (∀ w, Calls Tryd.prog 15 #[.string ⟨#[48]⟩, .int .i64 0] w fun e w' => e = .returned (.string (str (List.replicate 0 48))) ∧ w' = w) := fun w => copies_any ⟨#[48]⟩ rfl 0 (by omega) w
  generalize str (List.replicate 0 48) = R2 at *
  have hz : ((0 : Nat) : Int) = 0 := rfl
  rw [hz] at F1 F2 F3 ⊢
  clear cp
  go_enter Tryd.func9, Tryd.ntmps9
  go_wp2_with fail
  refine (works4_env env0).mono ?_
  rintro e w1 ⟨rfl, env1⟩
  clear env0
  have cm := may_env env1 (va := .slice A nx cap) (xs := xs) (by simp)
  rw [HM.out] at cm
  go_wp2_with fail
  refine cm.mono ?_
  rintro e w' ⟨rfl, rfl⟩
  clear cm
  go_wp2_with fail
  refine (split_env env1 (va := .slice A nx cap) (xs := xs) (by simp) 0 (by omega) (by omega) F1.out F2.out).mono ?_
  rintro e w2 ⟨Ah, ch, rl, rfl, env2⟩
  clear env1
  go_wp2_with fail
  refine (ten_env env2 0 (by omega) (by omega) F3.out).mono ?_
  rintro e w3 ⟨rt, rfl, env3⟩
  clear env2
  go_wp2_with fail
  refine (mul_is env3 (va := .slice Ah H.length ch) (xs := H) (vb := rt) (ys := T) (by simp) (by simp) F4.out).mono ?_
  rintro e w4 ⟨rm, rfl, env4⟩
  clear env3
  go_wp2_with fail
  refine (add_is env4 (va := rm) (xs := M1) (vb := rl) (ys := Lo) (by simp) (by simp) F5.out).mono ?_
  rintro e w5 ⟨ra, rfl, env5⟩
  clear env4
  go_wp2_with fail
  refine (same4_yes env5 (va := ra) (vb := .slice A nx cap) (xs := xs) (ys := xs) (by simp) (by simp) rfl).mono ?_
  rintro e w6 ⟨rfl, env6⟩
  clear env5
  go_wp2_with fail
  refine (ten_env env6 0 (by omega) (by omega) F3.out).mono ?_
  rintro e w7 ⟨ru, rfl, env7⟩
  clear env6
  have cc := cmp_env env7 (va := rl) (xs := Lo) (vb := ru) (ys := T) (by simp) (by simp)
  rw [F6.out] at cc
  go_wp2_with fail
  refine cc.mono ?_
  rintro e w8 ⟨rfl, env8⟩
  clear env7 cc
  have c1 := show_env env8 (va := rl) (xs := Lo) (by simp)
  rw [G2.out] at c1
  go_wp2_with fail
  refine c1.mono ?_
  rintro e w9 ⟨rfl, env9⟩
  clear c1 env8
  have c2 := show_env env9 (va := .slice Ah H.length ch) (xs := H) (by simp)
  rw [G3.out] at c2
  go_wp2_with fail
  refine c2.mono ?_
  rintro e w10 ⟨rfl, env10⟩
  clear c2 env9
  have c3 := C2.out w10
  go_wp2_with fail
  refine c3.mono ?_
  rintro e w' ⟨rfl, rfl⟩
  clear c3
  have b1 := a1 w'
  have b2 := a2 w'
  have c4 := show_env env10 (va := .slice A nx cap) (xs := xs) (by simp)
  rw [G1.out] at c4
  go_wp2_with fail
  refine c4.mono ?_
  rintro e w11 ⟨rfl, env11⟩
  clear c4 env10
  go_wp2_with fail
  refine (ten_env env11 0 (by omega) (by omega) F3.out).mono ?_
  rintro e w12 ⟨rv, rfl, env12⟩
  clear env11
  go_wp2_with fail
  refine (mul_is env12 (va := .slice A nx cap) (xs := xs) (vb := rv) (ys := T) (by simp) (by simp) F7.out).mono ?_
  rintro e w13 ⟨rw', rfl, env13⟩
  clear env12
  have c5 := show_env env13 (va := rw') (xs := M2) (by simp)
  rw [G4.out] at c5
  go_wp2_with fail
  refine c5.mono ?_
  rintro e w14 ⟨rfl, env14⟩
  clear c5 env13
  have c6 := show_env env14 (va := .slice A nx cap) (xs := xs) (by simp)
  rw [G1.out] at c6
  go_wp2_with fail
  refine c6.mono ?_
  rintro e w15 ⟨rfl, env15⟩
  clear c6 env14
  have c7 := C2.out w15
  go_wp2_with fail
  refine c7.mono ?_
  rintro e w' ⟨rfl, rfl⟩
  clear c7
  have b3 := a3 w'
  have HB := Lib.hid env15.1
  clear env15
  go_wp2
  go_ret
  exact ⟨rfl, HB.out⟩

set_option maxRecDepth 100000 in
set_option maxHeartbeats 16000000 in
theorem parted_4 {A : Option Addr} {cap : Nat} {xs : List Nat} {nx : Nat} (h1 : nx ≤ 300) (w : World) (h : Arg w (.slice A nx cap) xs) (hm : mayb xs = true) (k : Nat) (hk : k ≤ 2000) (H Lo T M1 M2 : List Nat) (Sn Sl Sh Sm U : ByteArray) (m : Nat)
    (f1 : sHi xs (k : Int) = H) (f2 : sLo xs (k : Int) = Lo) (f3 : sPow [10] (k : Int) = T) (f4 : sMul H T = M1) (f5 : sAdd M1 Lo = xs) (f6 : sCmp Lo T = -1) (f7 : sMul xs T = M2)
    (g1 : str (sShow xs) = Sn) (g2 : str (sShow Lo) = Sl) (g3 : str (sShow H) = Sh) (g4 : str (sShow M2) = Sm) (hSl : Sl.size = m) (hH : 0 < H.length) (hX : ¬ nx = 0) (hk0 : 0 < k) (hmk : m ≤ k) (a1 : ∀ w, (Op.stringOp .add Sh (str (List.replicate (k - m) 48))).run Tryd.prog w = .ok (.string U) w) (a2 : ∀ w, (Op.stringOp .add U Sl).run Tryd.prog w = .ok (.string Sn) w) (hq : (Sn.toList == Sn.toList) = true) (a3 : ∀ w, (Op.stringOp .add Sn (str (List.replicate k 48))).run Tryd.prog w = .ok (.string Sm) w) (hq3 : (Sm.toList == Sm.toList) = true) : Calls Tryd.prog 9 #[.slice A nx cap, .int .i64 (k : Int)] w fun e w' => e = .returned (.bool true) ∧ Below w.heap.size w w' := by
  have env0 : Env w w [(.slice A nx cap, xs)] := (env_start w).add (Below.refl _ _) h
  have HM := Lib.hid hm
  have F1 := Lib.hid f1
  have F2 := Lib.hid f2
  have F3 := Lib.hid f3
  have F4 := Lib.hid f4
  have F5 := Lib.hid f5
  have F6 := Lib.hid f6
  have F7 := Lib.hid f7
  have G1 := Lib.hid g1
  have G2 := Lib.hid g2
  have G3 := Lib.hid g3
  have G4 := Lib.hid g4
  have cp := fun s hs => copies_any s hs
  clear h hm f1 f2 f3 f4 f5 f6 f7 g1 g2 g3 g4
  have C1 : Hid (∀ w, Calls Tryd.prog 15 #[.string ⟨#[48]⟩, .int .i64 ((k : Int) - (m : Int))] w fun e w' => e = .returned (.string (str (List.replicate (k - m) 48))) ∧ w' = w) := fun w => by
    have := copies_any ⟨#[48]⟩ rfl (k - m) (by omega) w
    rwa [show ((k - m : Nat) : Int) = (k : Int) - (m : Int) by omega] at this
  have C2 : Hid (∀ w, Calls Tryd.prog 15 #[.string ⟨#[48]⟩, .int .i64 (k : Int)] w fun e w' => e = .returned (.string (str (List.replicate k 48))) ∧ w' = w) := fun w => copies_any ⟨#[48]⟩ rfl k (by omega) w
  generalize str (List.replicate (k - m) 48) = R1 at *
  generalize str (List.replicate k 48) = R2 at *
  clear cp
  go_enter Tryd.func9, Tryd.ntmps9
  go_wp2_with fail
  refine (works4_env env0).mono ?_
  rintro e w1 ⟨rfl, env1⟩
  clear env0
  have cm := may_env env1 (va := .slice A nx cap) (xs := xs) (by simp)
  rw [HM.out] at cm
  go_wp2_with fail
  refine cm.mono ?_
  rintro e w' ⟨rfl, rfl⟩
  clear cm
  go_wp2_with fail
  refine (split_env env1 (va := .slice A nx cap) (xs := xs) (by simp) (k : Int) (by omega) (by omega) F1.out F2.out).mono ?_
  rintro e w2 ⟨Ah, ch, rl, rfl, env2⟩
  clear env1
  go_wp2_with fail
  refine (ten_env env2 (k : Int) (by omega) (by omega) F3.out).mono ?_
  rintro e w3 ⟨rt, rfl, env3⟩
  clear env2
  go_wp2_with fail
  refine (mul_is env3 (va := .slice Ah H.length ch) (xs := H) (vb := rt) (ys := T) (by simp) (by simp) F4.out).mono ?_
  rintro e w4 ⟨rm, rfl, env4⟩
  clear env3
  go_wp2_with fail
  refine (add_is env4 (va := rm) (xs := M1) (vb := rl) (ys := Lo) (by simp) (by simp) F5.out).mono ?_
  rintro e w5 ⟨ra, rfl, env5⟩
  clear env4
  go_wp2_with fail
  refine (same4_yes env5 (va := ra) (vb := .slice A nx cap) (xs := xs) (ys := xs) (by simp) (by simp) rfl).mono ?_
  rintro e w6 ⟨rfl, env6⟩
  clear env5
  go_wp2_with fail
  refine (ten_env env6 (k : Int) (by omega) (by omega) F3.out).mono ?_
  rintro e w7 ⟨ru, rfl, env7⟩
  clear env6
  have cc := cmp_env env7 (va := rl) (xs := Lo) (vb := ru) (ys := T) (by simp) (by simp)
  rw [F6.out] at cc
  go_wp2_with fail
  refine cc.mono ?_
  rintro e w8 ⟨rfl, env8⟩
  clear env7 cc
  have c1 := show_env env8 (va := rl) (xs := Lo) (by simp)
  rw [G2.out] at c1
  go_wp2_with fail
  refine c1.mono ?_
  rintro e w9 ⟨rfl, env9⟩
  clear c1 env8
  have c2 := show_env env9 (va := .slice Ah H.length ch) (xs := H) (by simp)
  rw [G3.out] at c2
  go_wp2_with fail
  refine c2.mono ?_
  rintro e w10 ⟨rfl, env10⟩
  clear c2 env9
  have c3 := C1.out w10
  go_wp2_with fail
  refine c3.mono ?_
  rintro e w' ⟨rfl, rfl⟩
  clear c3
  have b1 := a1 w'
  have b2 := a2 w'
  have c4 := show_env env10 (va := .slice A nx cap) (xs := xs) (by simp)
  rw [G1.out] at c4
  go_wp2_with fail
  refine c4.mono ?_
  rintro e w11 ⟨rfl, env11⟩
  clear c4 env10
  go_wp2_with fail
  refine (ten_env env11 (k : Int) (by omega) (by omega) F3.out).mono ?_
  rintro e w12 ⟨rv, rfl, env12⟩
  clear env11
  go_wp2_with fail
  refine (mul_is env12 (va := .slice A nx cap) (xs := xs) (vb := rv) (ys := T) (by simp) (by simp) F7.out).mono ?_
  rintro e w13 ⟨rw', rfl, env13⟩
  clear env12
  have c5 := show_env env13 (va := rw') (xs := M2) (by simp)
  rw [G4.out] at c5
  go_wp2_with fail
  refine c5.mono ?_
  rintro e w14 ⟨rfl, env14⟩
  clear c5 env13
  have c6 := show_env env14 (va := .slice A nx cap) (xs := xs) (by simp)
  rw [G1.out] at c6
  go_wp2_with fail
  refine c6.mono ?_
  rintro e w15 ⟨rfl, env15⟩
  clear c6 env14
  have c7 := C2.out w15
  go_wp2_with fail
  refine c7.mono ?_
  rintro e w' ⟨rfl, rfl⟩
  clear c7
  have b3 := a3 w'
  have HB := Lib.hid env15.1
  clear env15
  go_wp2
  go_ret
  exact ⟨rfl, HB.out⟩

theorem decParted_law (w : World) {a0 : Option Addr} {len0 cap0 : Nat} {xs : List Nat} (h : Arg w (.slice a0 len0 cap0) xs) (k : Int) (hk : (Lit.int .i64 k).wf = true) :
    Calls Tryd.prog 9 #[.slice a0 len0 cap0, .int .i64 k] w fun e w' => e = .returned (.bool true) ∧ Below w.heap.size w w' := by
  obtain ⟨A, cap, e, hcc, hcm, hr⟩ := id h
  injection e with e1 e2 e3
  subst e1 e2 e3
  have hkb : -9223372036854775808 ≤ k ∧ k < 9223372036854775808 := bnd_i64d hk
  unfold maxLen at *
  have hlx := hr.limbs
  rcases Nat.lt_or_ge 300 xs.length with h1 | h1
  · exact parted_a w h (by omega) k hkb.2 hkb.1 h1
  rcases hm : mayb xs with _ | _
  · exact parted_b w h (by omega) k hkb.2 hkb.1 h1 hm
  by_cases h2 : k < 0
  · exact parted_c w h (by omega) k hkb.2 hkb.1 h1 hm h2
  by_cases h3 : 2000 < k
  · exact parted_d w h (by omega) k hkb.2 hkb.1 h1 hm h2 h3
  obtain ⟨j, rfl⟩ : ∃ j : Nat, k = (j : Int) := ⟨k.toNat, by omega⟩
  have hj : j ≤ 2000 := by omega
  clear h2 h3 hkb hk
  -- the numbers
  have hc := mayb_canon hlx hm
  obtain ⟨n, rfl⟩ : ∃ n, xs = lim n := ⟨val xs, (lim_val hc).symm⟩
  have hP : 0 < 10 ^ j := Nat.pow_pos (by decide)
  obtain ⟨E3, hE3⟩ : ∃ E : Nat, E = 3000 := ⟨_, rfl⟩
  obtain ⟨E6, hE6⟩ : ∃ E : Nat, E = 6000 := ⟨_, rfl⟩
  have hn : n < 10 ^ E3 := by
    have := val_lt hlx
    rw [val_lim] at this
    refine Nat.lt_of_lt_of_le this (Nat.le_trans (Nat.pow_le_pow_left (show 4294967296 ≤ 10 ^ 10 by decide) _) ?_)
    rw [← Nat.pow_mul]
    exact Nat.pow_le_pow_right (by decide) (by omega)
  have fit : ∀ {u : Nat}, u < 10 ^ E6 → (lim u).length ≤ 65536 := fun h => ten_fits (k := E6) (by omega) h
  have up : ∀ {u : Nat}, u ≤ n → u < 10 ^ E6 := fun h => Nat.lt_of_le_of_lt h (Nat.lt_of_lt_of_le hn (Nat.pow_le_pow_right (by decide) (by omega)))
  have hT : 10 ^ j < 10 ^ E6 := Nat.pow_lt_pow_right (by decide) (by omega)
  have hM : n * 10 ^ j < 10 ^ E6 := by
    have h5 : 10 ^ j ≤ 10 ^ E3 := Nat.pow_le_pow_right (by decide) (by omega)
    have h6 := Nat.mul_lt_mul_of_lt_of_le hn h5 (Nat.pow_pos (by decide))
    rwa [← Nat.pow_add, show E3 + E3 = E6 by omega] at h6
  generalize hB6 : 10 ^ E6 = B6 at *
  generalize 10 ^ E3 = B3 at *
  obtain ⟨q, hq⟩ : ∃ q, q = n / 10 ^ j := ⟨_, rfl⟩
  obtain ⟨r, hr2⟩ : ∃ r, r = n % 10 ^ j := ⟨_, rfl⟩
  have hqr : q * 10 ^ j + r = n := by rw [hq, hr2, Nat.mul_comm]; exact Nat.div_add_mod n (10 ^ j)
  have hrl : r < 10 ^ j := by rw [hr2]; exact Nat.mod_lt _ hP
  have hqn : q ≤ n := by rw [hq]; exact Nat.div_le_self _ _
  have hqj : q * 10 ^ j ≤ n := by omega
  have hrn : r ≤ n := by omega
  have mq := mayb_lim (fit (up hqn))
  have mr := mayb_lim (fit (up hrn))
  have mT := mayb_lim (fit hT)
  have mM := mayb_lim (fit hM)
  have mM1 := mayb_lim (fit (up hqj))
  have f1 : sHi (lim n) (j : Int) = lim q := by
    unfold sHi; rw [hm, if_pos (by simp), val_lim, Int.toNat_natCast, ← hq]
  have f2 : sLo (lim n) (j : Int) = lim r := by
    unfold sLo; rw [hm, if_pos (by simp), val_lim, Int.toNat_natCast, ← hr2]
  have f3 : sPow [10] (j : Int) = lim (10 ^ j) := by
    rw [sPow_yes (by decide), show val [10] = 10 from rfl, clip_of (fit hT)]
  have f4 : sMul (lim q) (lim (10 ^ j)) = lim (q * 10 ^ j) := by
    rw [sMul_yes (by rw [mq, mT]; rfl), val_lim, val_lim, clip_of (fit (up hqj))]
  have f5 : sAdd (lim (q * 10 ^ j)) (lim r) = lim n := by
    rw [sAdd_yes (by rw [mM1, mr]; rfl), val_lim, val_lim, hqr, clip_of (fit (up (Nat.le_refl _)))]
  have f6 : sCmp (lim r) (lim (10 ^ j)) = -1 := by
    rw [sCmp_yes (by rw [mr, mT]; rfl), val_lim, val_lim, cmpN_lt hrl]
  have f7 : sMul (lim n) (lim (10 ^ j)) = lim (n * 10 ^ j) := by
    rw [sMul_yes (by rw [hm, mT]; rfl), val_lim, val_lim, clip_of (fit hM)]
  have g1 : str (sShow (lim n)) = str (txt n) := by rw [sShow_yes hm, val_lim]
  have g2 : str (sShow (lim r)) = str (txt r) := by rw [sShow_yes mr, val_lim]
  have g3 : str (sShow (lim q)) = str (txt q) := by rw [sShow_yes mq, val_lim]
  have g4 : str (sShow (lim (n * 10 ^ j))) = str (txt (n * 10 ^ j)) := by rw [sShow_yes mM, val_lim]
  have hSl : (str (txt r)).size = nd r := by rw [str_size, txt_length]
  have eqs : ∀ u, ((str (txt u)).toList == (str (txt u)).toList) = true := fun u => by
    rw [str_beq (txt_alld u).codes (txt_alld u).codes, decide_eq_true rfl]
  have ndn : ∀ {u}, u ≤ n → nd u ≤ 6000 := fun h => by
    have := nd_le (k := E6) (by rw [hB6]; exact up h) (by omega)
    omega
  have a3 : n ≠ 0 → ∀ w, (Op.stringOp .add (str (txt n)) (str (List.replicate j 48))).run Tryd.prog w = .ok (.string (str (txt (n * 10 ^ j)))) w := fun h w => by
    rw [add_run _ _ _ (by rw [txt_length, List.length_replicate]; have := ndn (Nat.le_refl n); omega), txt_shift h]
  have len0 : ∀ {u}, u = 0 → (lim u).length = 0 := fun h => by rw [h, lim_zero]; rfl
  have lenP : ∀ {u}, u ≠ 0 → 0 < (lim u).length := fun h => by
    rcases Nat.eq_zero_or_pos (lim _).length with h5 | h5
    · exact absurd (lim_eq_nil.1 (List.eq_nil_of_length_eq_zero h5)) h
    · exact h5
  by_cases hq0 : q = 0
  · have hrn2 : r = n := by rw [hq0, Nat.zero_mul, Nat.zero_add] at hqr; exact hqr
    by_cases hn0 : n = 0
    · have e := lim_eq_nil.2 hn0
      have e2 := lim_eq_nil.2 hq0
      rw [e2] at f1 f4 g3
      rw [e] at h f1 f2 f5 f7 g1 hm ⊢
      exact parted_1 w h hm j hj _ _ _ _ _ _ _ _ (str []) _ f1 f2 f3 f4 f5 f6 f7 g1 g2 g3 g4 hSl (by rw [hrn2]; exact eqs n)
    · have e2 := lim_eq_nil.2 hq0
      rw [e2] at f1 f4 g3
      exact parted_2 h1 w h hm j hj _ _ _ _ _ _ _ _ (str []) _ f1 f2 f3 f4 f5 f6 f7 g1 g2 g3 g4 hSl (by have := lenP hn0; omega) (by rw [hrn2]; exact eqs n) (a3 hn0) (eqs _)
  · have hn0 : n ≠ 0 := by omega
    have hj2 := txt_join hq0 hrl
    rw [hqr] at hj2
    have lq := ndn hqn
    have lr := ndn hrn
    by_cases hj0 : j = 0
    · refine parted_3 h1 w h hm j hj _ _ _ _ _ _ _ _ _ (str (txt q)) _ f1 f2 f3 f4 f5 f6 f7 g1 g2 g3 g4 hSl (lenP hq0) (by have := lenP hn0; omega) hj0 (fun w => ?_) (fun w => ?_) (eqs _) (a3 hn0) (eqs _)
      · rw [add_run _ _ _ (by rw [txt_length, List.length_replicate]; omega), List.replicate_zero, List.append_nil]
      · have e0 : (⟨#[]⟩ : ByteArray) = str [] := rfl
        rw [e0, add_run _ _ _ (by rw [txt_length, List.length_nil]; omega), hj2, hj0]
        rfl
    · have hmk : nd r ≤ j := nd_le hrl (by omega)
      rw [pad_nd hrl (by omega), ← List.append_assoc] at hj2
      refine parted_4 h1 w h hm j hj _ _ _ _ _ _ _ _ _ (str (txt q ++ List.replicate (j - nd r) 48)) _ f1 f2 f3 f4 f5 f6 f7 g1 g2 g3 g4 hSl (lenP hq0) (by have := lenP hn0; omega) (by omega) hmk (fun w => ?_) (fun w => ?_) (eqs _) (a3 hn0) (eqs _)
      · rw [add_run _ _ _ (by rw [txt_length, List.length_replicate]; omega)]
      · rw [add_run _ _ _ (by rw [List.length_append, txt_length, txt_length, List.length_replicate]; omega), hj2]

end Go.Proofs.YtekdidfpilbinaaDoor

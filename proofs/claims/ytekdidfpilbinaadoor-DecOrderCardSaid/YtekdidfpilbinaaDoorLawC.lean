/- DecOrder. -/
import Derived.Test.YtekdidfpilbinaaDoorLawA
namespace Go.Proofs.YtekdidfpilbinaaDoor
open Go.RowKit Go.Shelf

set_option linter.unusedVariables false
set_option linter.unusedSimpArgs false

theorem dv_cons (a : Nat) (x : List Nat) : dv (a :: x) = (a - 48) * 10 ^ x.length + dv x := by
  have := dv_append [a] x
  rwa [dv_one] at this
theorem u8_lt {a b : Nat} (ha : a < 256) (hb : b < 256) : (UInt8.ofNat a < UInt8.ofNat b) ↔ a < b := by
  rw [UInt8.lt_iff_toNat_lt, UInt8.toNat_ofNat', UInt8.toNat_ofNat', Nat.mod_eq_of_lt ha, Nat.mod_eq_of_lt hb]
theorem u8_eq {a b : Nat} (ha : a < 256) (hb : b < 256) : (UInt8.ofNat a = UInt8.ofNat b) ↔ a = b := by
  rw [← UInt8.toNat_inj, UInt8.toNat_ofNat', UInt8.toNat_ofNat', Nat.mod_eq_of_lt ha, Nat.mod_eq_of_lt hb]
theorem less_dv : ∀ (A B : List Nat), AllD A → AllD B → A.length = B.length → Op.bytesLess (A.map UInt8.ofNat) (B.map UInt8.ofNat) = decide (dv A < dv B)
  | [], [], _, _, _ => by simp [Op.bytesLess]
  | [], _ :: _, _, _, h => by simp at h
  | _ :: _, [], _, _, h => by simp at h
  | a :: x, b :: y, hA, hB, h => by
    have hl : x.length = y.length := by simpa using h
    have ha := hA a (by simp)
    have hb := hB b (by simp)
    have hx : AllD x := fun c hc => hA c (by simp [hc])
    have hy : AllD y := fun c hc => hB c (by simp [hc])
    have ih := less_dv x y hx hy hl
    have dx := dv_lt hx
    have dy := dv_lt hy
    rw [List.map_cons, List.map_cons, Op.bytesLess, ih, dv_cons, dv_cons, hl]
    rw [hl] at dx
    generalize 10 ^ y.length = P at *
    rcases Nat.lt_trichotomy a b with h1 | h1 | h1
    · have e : (a - 48 + 1) * P ≤ (b - 48) * P := Nat.mul_le_mul_right _ (by omega)
      rw [Nat.add_mul, Nat.one_mul] at e
      rw [decide_eq_true ((u8_lt (by omega) (by omega)).2 h1), Bool.true_or, decide_eq_true (by omega)]
    · subst h1
      rw [decide_eq_false (fun h => absurd ((u8_lt (by omega) (by omega)).1 h) (by omega)), Bool.false_or, beq_self_eq_true, Bool.true_and]
      by_cases h2 : dv x < dv y
      · rw [decide_eq_true h2, decide_eq_true (by omega)]
      · rw [decide_eq_false h2, decide_eq_false (by omega)]
    · have e : (b - 48 + 1) * P ≤ (a - 48) * P := Nat.mul_le_mul_right _ (by omega)
      rw [Nat.add_mul, Nat.one_mul] at e
      rw [decide_eq_false (fun h => absurd ((u8_lt (by omega) (by omega)).1 h) (by omega)), Bool.false_or, beq_eq_false_iff_ne.2 (fun h => absurd ((u8_eq (by omega) (by omega)).1 h) (by omega)), Bool.false_and, decide_eq_false (by omega)]
theorem less_txt {a b : Nat} (h : nd a = nd b) : Op.bytesLess (str (txt a)).toList (str (txt b)).toList = decide (a < b) := by
  rw [str_toList, str_toList, less_dv _ _ (txt_alld a) (txt_alld b) (by rw [txt_length, txt_length, h]), dv_txt, dv_txt]
theorem eq_txt (a b : Nat) : ((str (txt a)).toList == (str (txt b)).toList) = decide (a = b) := by
  rw [str_beq (txt_alld a).codes (txt_alld b).codes]
  by_cases h : a = b
  · subst h; simp
  · rw [decide_eq_false h, decide_eq_false]
    intro e
    exact h (by rw [← dv_txt a, e, dv_txt])
theorem nd_mono {a b : Nat} (h : a ≤ b) : nd a ≤ nd b := nd_le (Nat.lt_of_le_of_lt h (lt_nd b)) (nd_pos b)

set_option maxRecDepth 100000 in
set_option maxHeartbeats 8000000 in
theorem order_a {A A' : Option Addr} {cap cap' : Nat} {xs ys : List Nat} (w : World) (h : Arg w (.slice A xs.length cap) xs) (h' : Arg w (.slice A' ys.length cap') ys) (hx : xs.length < 9223372036854775808) (hy : ys.length < 9223372036854775808) (h1 : 300 < xs.length) : Calls Tryd.prog 7 #[.slice A xs.length cap, .slice A' ys.length cap'] w fun e w' => e = .returned (.bool true) ∧ Below w.heap.size w w' := by
  have env0 : Env w w [(.slice A' ys.length cap', ys), (.slice A xs.length cap, xs)] := ((env_start w).add (Below.refl _ _) h).add (Below.refl _ _) h'
  clear h h'
  go_enter Tryd.func7, Tryd.ntmps7
  go_wp2_with fail
  refine (works4_env env0).mono ?_
  rintro e w1 ⟨rfl, env1⟩
  clear env0
  go_wp2_with fail
  refine (works4_env env1).mono ?_
  rintro e w2 ⟨rfl, env2⟩
  have HB := Lib.hid env2.1
  clear env1 env2
  go_wp2
  go_ret
  exact ⟨rfl, HB.out⟩

set_option maxRecDepth 100000 in
set_option maxHeartbeats 8000000 in
theorem order_b {A A' : Option Addr} {cap cap' : Nat} {xs ys : List Nat} (w : World) (h : Arg w (.slice A xs.length cap) xs) (h' : Arg w (.slice A' ys.length cap') ys) (hx : xs.length < 9223372036854775808) (hy : ys.length < 9223372036854775808) (h1 : xs.length ≤ 300) (h2 : 300 < ys.length) : Calls Tryd.prog 7 #[.slice A xs.length cap, .slice A' ys.length cap'] w fun e w' => e = .returned (.bool true) ∧ Below w.heap.size w w' := by
  have env0 : Env w w [(.slice A' ys.length cap', ys), (.slice A xs.length cap, xs)] := ((env_start w).add (Below.refl _ _) h).add (Below.refl _ _) h'
  clear h h'
  go_enter Tryd.func7, Tryd.ntmps7
  go_wp2_with fail
  refine (works4_env env0).mono ?_
  rintro e w1 ⟨rfl, env1⟩
  clear env0
  go_wp2_with fail
  refine (works4_env env1).mono ?_
  rintro e w2 ⟨rfl, env2⟩
  have HB := Lib.hid env2.1
  clear env1 env2
  go_wp2
  go_ret
  exact ⟨rfl, HB.out⟩

set_option maxRecDepth 100000 in
set_option maxHeartbeats 8000000 in
theorem order_c {A A' : Option Addr} {cap cap' : Nat} {xs ys : List Nat} (w : World) (h : Arg w (.slice A xs.length cap) xs) (h' : Arg w (.slice A' ys.length cap') ys) (hx : xs.length < 9223372036854775808) (hy : ys.length < 9223372036854775808) (h1 : xs.length ≤ 300) (h2 : ys.length ≤ 300) (hm : mayb xs = false) : Calls Tryd.prog 7 #[.slice A xs.length cap, .slice A' ys.length cap'] w fun e w' => e = .returned (.bool true) ∧ Below w.heap.size w w' := by
  have env0 : Env w w [(.slice A' ys.length cap', ys), (.slice A xs.length cap, xs)] := ((env_start w).add (Below.refl _ _) h).add (Below.refl _ _) h'
  clear h h'
  go_enter Tryd.func7, Tryd.ntmps7
  go_wp2_with fail
  refine (works4_env env0).mono ?_
  rintro e w1 ⟨rfl, env1⟩
  clear env0
  have cmxs := may_env env1 (va := .slice A xs.length cap) (xs := xs) (by simp)
  rw [hm] at cmxs
  go_wp2_with fail
  refine cmxs.mono ?_
  rintro e w' ⟨rfl, rfl⟩
  clear cmxs
  go_wp2_with fail
  refine (works4_env env1).mono ?_
  rintro e w2 ⟨rfl, env2⟩
  have HB := Lib.hid env2.1
  clear env1 env2
  go_wp2
  go_ret
  exact ⟨rfl, HB.out⟩

set_option maxRecDepth 100000 in
set_option maxHeartbeats 8000000 in
theorem order_d {A A' : Option Addr} {cap cap' : Nat} {xs ys : List Nat} (w : World) (h : Arg w (.slice A xs.length cap) xs) (h' : Arg w (.slice A' ys.length cap') ys) (hx : xs.length < 9223372036854775808) (hy : ys.length < 9223372036854775808) (h1 : xs.length ≤ 300) (h2 : ys.length ≤ 300) (hm : mayb xs = true) (hm' : mayb ys = false) : Calls Tryd.prog 7 #[.slice A xs.length cap, .slice A' ys.length cap'] w fun e w' => e = .returned (.bool true) ∧ Below w.heap.size w w' := by
  have env0 : Env w w [(.slice A' ys.length cap', ys), (.slice A xs.length cap, xs)] := ((env_start w).add (Below.refl _ _) h).add (Below.refl _ _) h'
  clear h h'
  go_enter Tryd.func7, Tryd.ntmps7
  go_wp2_with fail
  refine (works4_env env0).mono ?_
  rintro e w1 ⟨rfl, env1⟩
  clear env0
  have cmxs := may_env env1 (va := .slice A xs.length cap) (xs := xs) (by simp)
  rw [hm] at cmxs
  go_wp2_with fail
  refine cmxs.mono ?_
  rintro e w' ⟨rfl, rfl⟩
  clear cmxs
  have cmys := may_env env1 (va := .slice A' ys.length cap') (xs := ys) (by simp)
  rw [hm'] at cmys
  go_wp2_with fail
  refine cmys.mono ?_
  rintro e w' ⟨rfl, rfl⟩
  clear cmys
  go_wp2_with fail
  refine (works4_env env1).mono ?_
  rintro e w2 ⟨rfl, env2⟩
  have HB := Lib.hid env2.1
  clear env1 env2
  go_wp2
  go_ret
  exact ⟨rfl, HB.out⟩

set_option maxRecDepth 100000 in
set_option maxHeartbeats 8000000 in
theorem order_lt {A A' : Option Addr} {cap cap' : Nat} {xs ys : List Nat} (w : World) (h : Arg w (.slice A xs.length cap) xs) (h' : Arg w (.slice A' ys.length cap') ys) (h1 : xs.length ≤ 300) (h2 : ys.length ≤ 300) (hm : mayb xs = true) (hm' : mayb ys = true)
    (s t : ByteArray) (m n : Nat) (hS : str (txt (val xs)) = s) (hT : str (txt (val ys)) = t) (hs : s.size = m) (ht : t.size = n) (hm2 : m < 9223372036854775808) (hn2 : n < 9223372036854775808) (hV : sCmp xs ys = -1) (hmn : m < n) : Calls Tryd.prog 7 #[.slice A xs.length cap, .slice A' ys.length cap'] w fun e w' => e = .returned (.bool true) ∧ Below w.heap.size w w' := by
  have env0 : Env w w [(.slice A' ys.length cap', ys), (.slice A xs.length cap, xs)] := ((env_start w).add (Below.refl _ _) h).add (Below.refl _ _) h'
  have S1 : Hid (str (sShow xs) = s) := by show _ = _; rw [sShow_yes hm]; exact hS
  have S2 : Hid (str (sShow ys) = t) := by show _ = _; rw [sShow_yes hm']; exact hT
  have HV := Lib.hid hV
  have HX := Lib.hid hm
  have HY := Lib.hid hm'
  clear h h' hS hT hm hm' hV
  go_enter Tryd.func7, Tryd.ntmps7
  go_wp2_with fail
  refine (works4_env env0).mono ?_
  rintro e w1 ⟨rfl, env1⟩
  clear env0
  have cm := may_env env1 (va := .slice A xs.length cap) (xs := xs) (by simp)
  rw [HX.out] at cm
  go_wp2_with fail
  refine cm.mono ?_
  rintro e w' ⟨rfl, rfl⟩
  clear cm
  have cm := may_env env1 (va := .slice A' ys.length cap') (xs := ys) (by simp)
  rw [HY.out] at cm
  go_wp2_with fail
  refine cm.mono ?_
  rintro e w' ⟨rfl, rfl⟩
  clear cm
  have c1 := show_env env1 (va := .slice A xs.length cap) (xs := xs) (by simp)
  rw [S1.out] at c1
  go_wp2_with fail
  refine c1.mono ?_
  rintro e w2 ⟨rfl, env2⟩
  clear c1 env1
  have c2 := show_env env2 (va := .slice A' ys.length cap') (xs := ys) (by simp)
  rw [S2.out] at c2
  go_wp2_with fail
  refine c2.mono ?_
  rintro e w3 ⟨rfl, env3⟩
  clear c2 env2
  have c3 := cmp_env env3 (va := .slice A xs.length cap) (xs := xs) (vb := .slice A' ys.length cap') (ys := ys) (by simp) (by simp)
  rw [HV.out] at c3
  go_wp2_with fail
  refine c3.mono ?_
  rintro e w4 ⟨rfl, env4⟩
  have HB := Lib.hid env4.1
  clear c3 env3 env4
  go_wp2
  go_ret
  exact ⟨rfl, HB.out⟩

set_option maxRecDepth 100000 in
set_option maxHeartbeats 8000000 in
theorem order_eqlt {A A' : Option Addr} {cap cap' : Nat} {xs ys : List Nat} (w : World) (h : Arg w (.slice A xs.length cap) xs) (h' : Arg w (.slice A' ys.length cap') ys) (h1 : xs.length ≤ 300) (h2 : ys.length ≤ 300) (hm : mayb xs = true) (hm' : mayb ys = true)
    (s t : ByteArray) (m n : Nat) (hS : str (txt (val xs)) = s) (hT : str (txt (val ys)) = t) (hs : s.size = m) (ht : t.size = n) (hm2 : m < 9223372036854775808) (hn2 : n < 9223372036854775808) (hV : sCmp xs ys = -1) (hmn : m = n) (hl : Op.bytesLess s.toList t.toList = true) : Calls Tryd.prog 7 #[.slice A xs.length cap, .slice A' ys.length cap'] w fun e w' => e = .returned (.bool true) ∧ Below w.heap.size w w' := by
  have env0 : Env w w [(.slice A' ys.length cap', ys), (.slice A xs.length cap, xs)] := ((env_start w).add (Below.refl _ _) h).add (Below.refl _ _) h'
  have S1 : Hid (str (sShow xs) = s) := by show _ = _; rw [sShow_yes hm]; exact hS
  have S2 : Hid (str (sShow ys) = t) := by show _ = _; rw [sShow_yes hm']; exact hT
  have HV := Lib.hid hV
  have HX := Lib.hid hm
  have HY := Lib.hid hm'
  clear h h' hS hT hm hm' hV
  go_enter Tryd.func7, Tryd.ntmps7
  go_wp2_with fail
  refine (works4_env env0).mono ?_
  rintro e w1 ⟨rfl, env1⟩
  clear env0
  have cm := may_env env1 (va := .slice A xs.length cap) (xs := xs) (by simp)
  rw [HX.out] at cm
  go_wp2_with fail
  refine cm.mono ?_
  rintro e w' ⟨rfl, rfl⟩
  clear cm
  have cm := may_env env1 (va := .slice A' ys.length cap') (xs := ys) (by simp)
  rw [HY.out] at cm
  go_wp2_with fail
  refine cm.mono ?_
  rintro e w' ⟨rfl, rfl⟩
  clear cm
  have c1 := show_env env1 (va := .slice A xs.length cap) (xs := xs) (by simp)
  rw [S1.out] at c1
  go_wp2_with fail
  refine c1.mono ?_
  rintro e w2 ⟨rfl, env2⟩
  clear c1 env1
  have c2 := show_env env2 (va := .slice A' ys.length cap') (xs := ys) (by simp)
  rw [S2.out] at c2
  go_wp2_with fail
  refine c2.mono ?_
  rintro e w3 ⟨rfl, env3⟩
  clear c2 env2
  have c3 := cmp_env env3 (va := .slice A xs.length cap) (xs := xs) (vb := .slice A' ys.length cap') (ys := ys) (by simp) (by simp)
  rw [HV.out] at c3
  go_wp2_with fail
  refine c3.mono ?_
  rintro e w4 ⟨rfl, env4⟩
  have HB := Lib.hid env4.1
  clear c3 env3 env4
  go_wp2
  go_ret
  exact ⟨rfl, HB.out⟩

set_option maxRecDepth 100000 in
set_option maxHeartbeats 8000000 in
theorem order_eq {A A' : Option Addr} {cap cap' : Nat} {xs ys : List Nat} (w : World) (h : Arg w (.slice A xs.length cap) xs) (h' : Arg w (.slice A' ys.length cap') ys) (h1 : xs.length ≤ 300) (h2 : ys.length ≤ 300) (hm : mayb xs = true) (hm' : mayb ys = true)
    (s t : ByteArray) (m n : Nat) (hS : str (txt (val xs)) = s) (hT : str (txt (val ys)) = t) (hs : s.size = m) (ht : t.size = n) (hm2 : m < 9223372036854775808) (hn2 : n < 9223372036854775808) (hV : sCmp xs ys = 0) (hmn : m = n) (hl : Op.bytesLess s.toList t.toList = false) (he : (s.toList == t.toList) = true) : Calls Tryd.prog 7 #[.slice A xs.length cap, .slice A' ys.length cap'] w fun e w' => e = .returned (.bool true) ∧ Below w.heap.size w w' := by
  have env0 : Env w w [(.slice A' ys.length cap', ys), (.slice A xs.length cap, xs)] := ((env_start w).add (Below.refl _ _) h).add (Below.refl _ _) h'
  have S1 : Hid (str (sShow xs) = s) := by show _ = _; rw [sShow_yes hm]; exact hS
  have S2 : Hid (str (sShow ys) = t) := by show _ = _; rw [sShow_yes hm']; exact hT
  have HV := Lib.hid hV
  have HX := Lib.hid hm
  have HY := Lib.hid hm'
  clear h h' hS hT hm hm' hV
  go_enter Tryd.func7, Tryd.ntmps7
  go_wp2_with fail
  refine (works4_env env0).mono ?_
  rintro e w1 ⟨rfl, env1⟩
  clear env0
  have cm := may_env env1 (va := .slice A xs.length cap) (xs := xs) (by simp)
  rw [HX.out] at cm
  go_wp2_with fail
  refine cm.mono ?_
  rintro e w' ⟨rfl, rfl⟩
  clear cm
  have cm := may_env env1 (va := .slice A' ys.length cap') (xs := ys) (by simp)
  rw [HY.out] at cm
  go_wp2_with fail
  refine cm.mono ?_
  rintro e w' ⟨rfl, rfl⟩
  clear cm
  have c1 := show_env env1 (va := .slice A xs.length cap) (xs := xs) (by simp)
  rw [S1.out] at c1
  go_wp2_with fail
  refine c1.mono ?_
  rintro e w2 ⟨rfl, env2⟩
  clear c1 env1
  have c2 := show_env env2 (va := .slice A' ys.length cap') (xs := ys) (by simp)
  rw [S2.out] at c2
  go_wp2_with fail
  refine c2.mono ?_
  rintro e w3 ⟨rfl, env3⟩
  clear c2 env2
  have c3 := cmp_env env3 (va := .slice A xs.length cap) (xs := xs) (vb := .slice A' ys.length cap') (ys := ys) (by simp) (by simp)
  rw [HV.out] at c3
  go_wp2_with fail
  refine c3.mono ?_
  rintro e w4 ⟨rfl, env4⟩
  have HB := Lib.hid env4.1
  clear c3 env3 env4
  go_wp2
  go_ret
  exact ⟨rfl, HB.out⟩

set_option maxRecDepth 100000 in
set_option maxHeartbeats 8000000 in
theorem order_eqgt {A A' : Option Addr} {cap cap' : Nat} {xs ys : List Nat} (w : World) (h : Arg w (.slice A xs.length cap) xs) (h' : Arg w (.slice A' ys.length cap') ys) (h1 : xs.length ≤ 300) (h2 : ys.length ≤ 300) (hm : mayb xs = true) (hm' : mayb ys = true)
    (s t : ByteArray) (m n : Nat) (hS : str (txt (val xs)) = s) (hT : str (txt (val ys)) = t) (hs : s.size = m) (ht : t.size = n) (hm2 : m < 9223372036854775808) (hn2 : n < 9223372036854775808) (hV : sCmp xs ys = 1) (hmn : m = n) (hl : Op.bytesLess s.toList t.toList = false) (he : (s.toList == t.toList) = false) : Calls Tryd.prog 7 #[.slice A xs.length cap, .slice A' ys.length cap'] w fun e w' => e = .returned (.bool true) ∧ Below w.heap.size w w' := by
  have env0 : Env w w [(.slice A' ys.length cap', ys), (.slice A xs.length cap, xs)] := ((env_start w).add (Below.refl _ _) h).add (Below.refl _ _) h'
  have S1 : Hid (str (sShow xs) = s) := by show _ = _; rw [sShow_yes hm]; exact hS
  have S2 : Hid (str (sShow ys) = t) := by show _ = _; rw [sShow_yes hm']; exact hT
  have HV := Lib.hid hV
  have HX := Lib.hid hm
  have HY := Lib.hid hm'
  clear h h' hS hT hm hm' hV
  go_enter Tryd.func7, Tryd.ntmps7
  go_wp2_with fail
  refine (works4_env env0).mono ?_
  rintro e w1 ⟨rfl, env1⟩
  clear env0
  have cm := may_env env1 (va := .slice A xs.length cap) (xs := xs) (by simp)
  rw [HX.out] at cm
  go_wp2_with fail
  refine cm.mono ?_
  rintro e w' ⟨rfl, rfl⟩
  clear cm
  have cm := may_env env1 (va := .slice A' ys.length cap') (xs := ys) (by simp)
  rw [HY.out] at cm
  go_wp2_with fail
  refine cm.mono ?_
  rintro e w' ⟨rfl, rfl⟩
  clear cm
  have c1 := show_env env1 (va := .slice A xs.length cap) (xs := xs) (by simp)
  rw [S1.out] at c1
  go_wp2_with fail
  refine c1.mono ?_
  rintro e w2 ⟨rfl, env2⟩
  clear c1 env1
  have c2 := show_env env2 (va := .slice A' ys.length cap') (xs := ys) (by simp)
  rw [S2.out] at c2
  go_wp2_with fail
  refine c2.mono ?_
  rintro e w3 ⟨rfl, env3⟩
  clear c2 env2
  have c3 := cmp_env env3 (va := .slice A xs.length cap) (xs := xs) (vb := .slice A' ys.length cap') (ys := ys) (by simp) (by simp)
  rw [HV.out] at c3
  go_wp2_with fail
  refine c3.mono ?_
  rintro e w4 ⟨rfl, env4⟩
  have HB := Lib.hid env4.1
  clear c3 env3 env4
  go_wp2
  go_ret
  exact ⟨rfl, HB.out⟩

set_option maxRecDepth 100000 in
set_option maxHeartbeats 8000000 in
theorem order_gt {A A' : Option Addr} {cap cap' : Nat} {xs ys : List Nat} (w : World) (h : Arg w (.slice A xs.length cap) xs) (h' : Arg w (.slice A' ys.length cap') ys) (h1 : xs.length ≤ 300) (h2 : ys.length ≤ 300) (hm : mayb xs = true) (hm' : mayb ys = true)
    (s t : ByteArray) (m n : Nat) (hS : str (txt (val xs)) = s) (hT : str (txt (val ys)) = t) (hs : s.size = m) (ht : t.size = n) (hm2 : m < 9223372036854775808) (hn2 : n < 9223372036854775808) (hV : sCmp xs ys = 1) (hmn : n < m) (he : (s.toList == t.toList) = false) : Calls Tryd.prog 7 #[.slice A xs.length cap, .slice A' ys.length cap'] w fun e w' => e = .returned (.bool true) ∧ Below w.heap.size w w' := by
  have env0 : Env w w [(.slice A' ys.length cap', ys), (.slice A xs.length cap, xs)] := ((env_start w).add (Below.refl _ _) h).add (Below.refl _ _) h'
  have S1 : Hid (str (sShow xs) = s) := by show _ = _; rw [sShow_yes hm]; exact hS
  have S2 : Hid (str (sShow ys) = t) := by show _ = _; rw [sShow_yes hm']; exact hT
  have HV := Lib.hid hV
  have HX := Lib.hid hm
  have HY := Lib.hid hm'
  clear h h' hS hT hm hm' hV
  go_enter Tryd.func7, Tryd.ntmps7
  go_wp2_with fail
  refine (works4_env env0).mono ?_
  rintro e w1 ⟨rfl, env1⟩
  clear env0
  have cm := may_env env1 (va := .slice A xs.length cap) (xs := xs) (by simp)
  rw [HX.out] at cm
  go_wp2_with fail
  refine cm.mono ?_
  rintro e w' ⟨rfl, rfl⟩
  clear cm
  have cm := may_env env1 (va := .slice A' ys.length cap') (xs := ys) (by simp)
  rw [HY.out] at cm
  go_wp2_with fail
  refine cm.mono ?_
  rintro e w' ⟨rfl, rfl⟩
  clear cm
  have c1 := show_env env1 (va := .slice A xs.length cap) (xs := xs) (by simp)
  rw [S1.out] at c1
  go_wp2_with fail
  refine c1.mono ?_
  rintro e w2 ⟨rfl, env2⟩
  clear c1 env1
  have c2 := show_env env2 (va := .slice A' ys.length cap') (xs := ys) (by simp)
  rw [S2.out] at c2
  go_wp2_with fail
  refine c2.mono ?_
  rintro e w3 ⟨rfl, env3⟩
  clear c2 env2
  have c3 := cmp_env env3 (va := .slice A xs.length cap) (xs := xs) (vb := .slice A' ys.length cap') (ys := ys) (by simp) (by simp)
  rw [HV.out] at c3
  go_wp2_with fail
  refine c3.mono ?_
  rintro e w4 ⟨rfl, env4⟩
  have HB := Lib.hid env4.1
  clear c3 env3 env4
  go_wp2
  go_ret
  exact ⟨rfl, HB.out⟩

theorem decOrder_law (w : World) {a0 : Option Addr} {len0 cap0 : Nat} {xs : List Nat} (h : Arg w (.slice a0 len0 cap0) xs) {a1 : Option Addr} {len1 cap1 : Nat} {ys : List Nat} (h' : Arg w (.slice a1 len1 cap1) ys) :
    Calls Tryd.prog 7 #[.slice a0 len0 cap0, .slice a1 len1 cap1] w fun e w' => e = .returned (.bool true) ∧ Below w.heap.size w w' := by
  obtain ⟨A, cap, e, hcc, hcm, hr⟩ := id h
  injection e with e1 e2 e3
  subst e1 e2 e3
  obtain ⟨A', cap', e, hcc', hcm', hr'⟩ := id h'
  injection e with e1 e2 e3
  subst e1 e2 e3
  unfold maxLen at *
  rcases Nat.lt_or_ge 300 xs.length with h1 | h1
  · exact order_a w h h' (by omega) (by omega) h1
  rcases Nat.lt_or_ge 300 ys.length with h2 | h2
  · exact order_b w h h' (by omega) (by omega) h1 h2
  rcases hm : mayb xs with _ | _
  · exact order_c w h h' (by omega) (by omega) h1 h2 hm
  rcases hm' : mayb ys with _ | _
  · exact order_d w h h' (by omega) (by omega) h1 h2 hm hm'
  have b1 := nd_le (may_lt hr.limbs hm (Nat.le_refl 631306)) (by decide)
  have b2 := nd_le (may_lt hr'.limbs hm' (Nat.le_refl 631306)) (by decide)
  have s1 : (str (txt (val xs))).size = nd (val xs) := by rw [str_size, txt_length]
  have s2 : (str (txt (val ys))).size = nd (val ys) := by rw [str_size, txt_length]
  have hc : sCmp xs ys = cmpN (val xs) (val ys) := sCmp_yes (by rw [hm, hm']; rfl)
  have he := eq_txt (val xs) (val ys)
  rcases Nat.lt_trichotomy (nd (val xs)) (nd (val ys)) with h3 | h3 | h3
  · have hlt : val xs < val ys := by
      rcases Nat.lt_or_ge (val xs) (val ys) with h | h
      · exact h
      · have := nd_mono h; omega
    exact order_lt w h h' h1 h2 hm hm' _ _ _ _ rfl rfl s1 s2 (by omega) (by omega) (by rw [hc, cmpN_lt hlt]) h3
  · have hl := less_txt h3
    rcases Nat.lt_trichotomy (val xs) (val ys) with h4 | h4 | h4
    · exact order_eqlt w h h' h1 h2 hm hm' _ _ _ _ rfl rfl s1 s2 (by omega) (by omega) (by rw [hc, cmpN_lt h4]) h3 (by rw [hl, decide_eq_true h4])
    · exact order_eq w h h' h1 h2 hm hm' _ _ _ _ rfl rfl s1 s2 (by omega) (by omega) (by rw [hc, cmpN_eq h4]) h3 (by rw [hl, decide_eq_false (by omega)]) (by rw [he, decide_eq_true h4])
    · exact order_eqgt w h h' h1 h2 hm hm' _ _ _ _ rfl rfl s1 s2 (by omega) (by omega) (by rw [hc, cmpN_gt h4]) h3 (by rw [hl, decide_eq_false (by omega)]) (by rw [he, decide_eq_false (by omega)])
  · have hlt : val ys < val xs := by
      rcases Nat.lt_or_ge (val ys) (val xs) with h | h
      · exact h
      · have := nd_mono h; omega
    exact order_gt w h h' h1 h2 hm hm' _ _ _ _ rfl rfl s1 s2 (by omega) (by omega) (by rw [hc, cmpN_gt hlt]) h3 (by rw [he, decide_eq_false (by omega)])

end Go.Proofs.YtekdidfpilbinaaDoor

/- DecBack. -/
import Derived.Test.YtekdidfpilbinaaDoorLawA
namespace Go.Proofs.YtekdidfpilbinaaDoor
open Go.RowKit Go.Shelf

set_option linter.unusedVariables false
set_option linter.unusedSimpArgs false

theorem pN_text {L : List Nat} (h : isT L = true) (hl : L.length ≤ 3000) : pN L = lim (dv L) ∧ pE L = 0 ∧ mayb (lim (dv L)) = true ∧ sShow (lim (dv L)) = L := by
  have hf : (lim (dv L)).length ≤ 65536 := ten_fits (k := L.length) (by omega) (dv_lt (isT_iff.1 h).1)
  have hm := mayb_lim hf
  refine ⟨by unfold pN; rw [h, if_pos rfl, clip_of hf], by unfold pE; rw [h, if_pos rfl, if_pos hf], hm, ?_⟩
  rw [sShow_yes hm, val_lim, isT_txt h]

set_option maxRecDepth 100000 in
set_option maxHeartbeats 8000000 in
theorem back_long {A : Option Addr} {cap : Nat} {xs L : List Nat} (w : World) (h : Arg w (.slice A xs.length cap) xs) (hc : Codes L) (hl : L.length < 9223372036854775808) (hx : xs.length < 9223372036854775808) (hL : 300 < xs.length ∨ 3000 < L.length) : Calls Tryd.prog 6 #[.slice A xs.length cap, .string (str L)] w fun e w' => e = .returned (.bool true) ∧ Below w.heap.size w w' := by
  have env0 : Env w w [(.slice A xs.length cap, xs)] := (env_start w).add (Below.refl _ _) h
  have hsz := str_size L
  clear h
  rcases Nat.lt_or_ge 300 xs.length with h1 | h1
  · go_enter Tryd.func6, Tryd.ntmps6
    go_wp2_with fail
    refine (works4_env env0).mono ?_
    rintro e w1 ⟨rfl, env1⟩
    clear env0
    go_wp2_with fail
    refine (works4_env env1).mono ?_
    rintro e w2 ⟨rfl, env2⟩
    have HB := Lib.hid env2.1
    clear env1 env2
    go_wp2
    go_ret
    exact ⟨rfl, HB.out⟩
  · have h2 : 3000 < L.length := by omega
    clear hL
    go_enter Tryd.func6, Tryd.ntmps6
    go_wp2_with fail
    refine (works4_env env0).mono ?_
    rintro e w1 ⟨rfl, env1⟩
    clear env0
    go_wp2_with fail
    refine (works4_env env1).mono ?_
    rintro e w2 ⟨rfl, env2⟩
    have HB := Lib.hid env2.1
    clear env1 env2
    go_wp2
    go_ret
    exact ⟨rfl, HB.out⟩

set_option maxRecDepth 100000 in
set_option maxHeartbeats 8000000 in
theorem back_yy {A : Option Addr} {cap : Nat} {xs L : List Nat} (w : World) (h : Arg w (.slice A xs.length cap) xs) (hc : Codes L) (hx : xs.length ≤ 300) (hl : L.length ≤ 3000) (hm : mayb xs = true) (hT : isT L = true) : Calls Tryd.prog 6 #[.slice A xs.length cap, .string (str L)] w fun e w' => e = .returned (.bool true) ∧ Below w.heap.size w w' := by
  have env0 : Env w w [(.slice A xs.length cap, xs)] := (env_start w).add (Below.refl _ _) h
  have hlx := h.limbs
  have hsz := str_size L
  have HM := Lib.hid hm
  have HC := Lib.hid hc
  have S1 := Lib.hid (sShow_yes hm)
  have S2 := Lib.hid (pN_txt hlx hm)
  have S3 := Lib.hid (pE_txt hlx hm)
  have S4 := Lib.hid (txt_alld (val xs)).codes
  have S5 : Hid ((txt (val xs)).length < 9223372036854775808) := by
    show _ < _
    rw [txt_length]
    have := nd_le (may_lt hlx hm (Nat.le_refl 631306)) (by decide)
    omega
  obtain ⟨t1, t2, t3, t4⟩ := pN_text hT hl
  have T1 := Lib.hid t1
  have T2 := Lib.hid t2
  have T3 := Lib.hid t3
  have T4 := Lib.hid t4
  have hbq := str_beq hc hc
  rw [decide_eq_true rfl] at hbq
  clear t1 t2 t3 t4
  clear h hm hT hlx hc
  go_enter Tryd.func6, Tryd.ntmps6
  go_wp2_with fail
  refine (works4_env env0).mono ?_
  rintro e w1 ⟨rfl, env1⟩
  clear env0
  have c1 := show_env env1 (va := .slice A xs.length cap) (xs := xs) List.mem_cons_self
  rw [S1.out] at c1
  go_wp2_with fail
  refine c1.mono ?_
  rintro e w2 ⟨rfl, env2⟩
  clear c1 env1
  have c2 := parse_env env2 S4.out S5.out
  rw [S2.out, S3.out] at c2
  go_wp2_with fail
  refine c2.mono ?_
  rintro e w3 ⟨Am, cm, rfl, env3⟩
  clear c2 env2
  have c3 := may_env env3 (va := .slice A xs.length cap) (xs := xs) (by simp)
  rw [HM.out] at c3
  go_wp2_with fail
  refine c3.mono ?_
  rintro e w' ⟨rfl, rfl⟩
  go_wp2_with fail
  refine (same4_yes env3 (va := .slice Am xs.length cm) (vb := .slice A xs.length cap) (xs := xs) (ys := xs) (by simp) (by simp) rfl).mono ?_
  rintro e w4 ⟨rfl, env4⟩
  clear env3 c3
  have c4 := may_env env4 (va := .slice A xs.length cap) (xs := xs) (by simp)
  rw [HM.out] at c4
  go_wp2_with fail
  refine c4.mono ?_
  rintro e w' ⟨rfl, rfl⟩
  clear c4
  have c5 := parse_env env4 HC.out (by omega)
  rw [T1.out, T2.out] at c5
  go_wp2_with fail
  refine c5.mono ?_
  rintro e w5 ⟨Ap, cp, rfl, env5⟩
  clear c5 env4
  have c6 := show_env env5 (va := .slice Ap (lim (dv L)).length cp) (xs := lim (dv L)) (by simp)
  rw [T4.out] at c6
  go_wp2_with fail
  refine c6.mono ?_
  rintro e w6 ⟨rfl, env6⟩
  clear c6 env5
  have c7 := may_env env6 (va := .slice Ap (lim (dv L)).length cp) (xs := lim (dv L)) (by simp)
  rw [T3.out] at c7
  go_wp2_with fail
  refine c7.mono ?_
  rintro e w' ⟨rfl, rfl⟩
  have HB := Lib.hid env6.1
  clear c7 env6
  go_wp2
  go_ret
  exact ⟨rfl, HB.out⟩

set_option maxRecDepth 100000 in
set_option maxHeartbeats 8000000 in
theorem back_yn {A : Option Addr} {cap : Nat} {xs L : List Nat} (w : World) (h : Arg w (.slice A xs.length cap) xs) (hc : Codes L) (hx : xs.length ≤ 300) (hl : L.length ≤ 3000) (hm : mayb xs = true) (hT : isT L = false) : Calls Tryd.prog 6 #[.slice A xs.length cap, .string (str L)] w fun e w' => e = .returned (.bool true) ∧ Below w.heap.size w w' := by
  have env0 : Env w w [(.slice A xs.length cap, xs)] := (env_start w).add (Below.refl _ _) h
  have hlx := h.limbs
  have hsz := str_size L
  have HM := Lib.hid hm
  have HC := Lib.hid hc
  have S1 := Lib.hid (sShow_yes hm)
  have S2 := Lib.hid (pN_txt hlx hm)
  have S3 := Lib.hid (pE_txt hlx hm)
  have S4 := Lib.hid (txt_alld (val xs)).codes
  have S5 : Hid ((txt (val xs)).length < 9223372036854775808) := by
    show _ < _
    rw [txt_length]
    have := nd_le (may_lt hlx hm (Nat.le_refl 631306)) (by decide)
    omega
  have T1 := Lib.hid (pN_no hT)
  have T2 := Lib.hid (pE_no hT)
  clear h hm hT hlx hc
  go_enter Tryd.func6, Tryd.ntmps6
  go_wp2_with fail
  refine (works4_env env0).mono ?_
  rintro e w1 ⟨rfl, env1⟩
  clear env0
  have c1 := show_env env1 (va := .slice A xs.length cap) (xs := xs) List.mem_cons_self
  rw [S1.out] at c1
  go_wp2_with fail
  refine c1.mono ?_
  rintro e w2 ⟨rfl, env2⟩
  clear c1 env1
  have c2 := parse_env env2 S4.out S5.out
  rw [S2.out, S3.out] at c2
  go_wp2_with fail
  refine c2.mono ?_
  rintro e w3 ⟨Am, cm, rfl, env3⟩
  clear c2 env2
  have c3 := may_env env3 (va := .slice A xs.length cap) (xs := xs) (by simp)
  rw [HM.out] at c3
  go_wp2_with fail
  refine c3.mono ?_
  rintro e w' ⟨rfl, rfl⟩
  go_wp2_with fail
  refine (same4_yes env3 (va := .slice Am xs.length cm) (vb := .slice A xs.length cap) (xs := xs) (ys := xs) (by simp) (by simp) rfl).mono ?_
  rintro e w4 ⟨rfl, env4⟩
  clear env3 c3
  have c4 := may_env env4 (va := .slice A xs.length cap) (xs := xs) (by simp)
  rw [HM.out] at c4
  go_wp2_with fail
  refine c4.mono ?_
  rintro e w' ⟨rfl, rfl⟩
  clear c4
  have c5 := parse_env env4 HC.out (by omega)
  rw [T1.out, T2.out] at c5
  go_wp2_with fail
  refine c5.mono ?_
  rintro e w5 ⟨Ap, cp, rfl, env5⟩
  clear c5 env4
  have HB := Lib.hid env5.1
  clear env5
  go_wp2
  go_ret
  exact ⟨rfl, HB.out⟩

set_option maxRecDepth 100000 in
set_option maxHeartbeats 8000000 in
theorem back_ny {A : Option Addr} {cap : Nat} {xs L : List Nat} (w : World) (h : Arg w (.slice A xs.length cap) xs) (hc : Codes L) (hx : xs.length ≤ 300) (hl : L.length ≤ 3000) (hm : mayb xs = false) (hT : isT L = true) : Calls Tryd.prog 6 #[.slice A xs.length cap, .string (str L)] w fun e w' => e = .returned (.bool true) ∧ Below w.heap.size w w' := by
  have env0 : Env w w [(.slice A xs.length cap, xs)] := (env_start w).add (Below.refl _ _) h
  have hlx := h.limbs
  have hsz := str_size L
  have HM := Lib.hid hm
  have HC := Lib.hid hc
  have S1 := Lib.hid (sShow_no hm)
  have S2 := Lib.hid (pN_no (L := []) (by decide))
  have S3 := Lib.hid (pE_no (L := []) (by decide))
  have S4 : Hid (Codes []) := fun c hc => by cases hc
  have e2 : (str []).toList.isEmpty = true := by rw [str_toList]; rfl
  obtain ⟨t1, t2, t3, t4⟩ := pN_text hT hl
  have T1 := Lib.hid t1
  have T2 := Lib.hid t2
  have T3 := Lib.hid t3
  have T4 := Lib.hid t4
  have hbq := str_beq hc hc
  rw [decide_eq_true rfl] at hbq
  clear t1 t2 t3 t4
  clear h hm hT hlx hc
  go_enter Tryd.func6, Tryd.ntmps6
  go_wp2_with fail
  refine (works4_env env0).mono ?_
  rintro e w1 ⟨rfl, env1⟩
  clear env0
  have c1 := show_env env1 (va := .slice A xs.length cap) (xs := xs) List.mem_cons_self
  rw [S1.out] at c1
  go_wp2_with fail
  refine c1.mono ?_
  rintro e w2 ⟨rfl, env2⟩
  clear c1 env1
  have c2 := parse_env env2 S4.out (by decide)
  rw [S2.out, S3.out] at c2
  go_wp2_with fail
  refine c2.mono ?_
  rintro e w3 ⟨Am, cm, rfl, env3⟩
  clear c2 env2
  have c3 := may_env env3 (va := .slice A xs.length cap) (xs := xs) (by simp)
  rw [HM.out] at c3
  go_wp2_with fail
  refine c3.mono ?_
  rintro e w' ⟨rfl, rfl⟩
  go_wp2_with fail
  refine c3.mono ?_
  rintro e w' ⟨rfl, rfl⟩
  have env4 := env3
  clear c3 env3
  have c5 := parse_env env4 HC.out (by omega)
  rw [T1.out, T2.out] at c5
  go_wp2_with fail
  refine c5.mono ?_
  rintro e w5 ⟨Ap, cp, rfl, env5⟩
  clear c5 env4
  have c6 := show_env env5 (va := .slice Ap (lim (dv L)).length cp) (xs := lim (dv L)) (by simp)
  rw [T4.out] at c6
  go_wp2_with fail
  refine c6.mono ?_
  rintro e w6 ⟨rfl, env6⟩
  clear c6 env5
  have c7 := may_env env6 (va := .slice Ap (lim (dv L)).length cp) (xs := lim (dv L)) (by simp)
  rw [T3.out] at c7
  go_wp2_with fail
  refine c7.mono ?_
  rintro e w' ⟨rfl, rfl⟩
  have HB := Lib.hid env6.1
  clear c7 env6
  go_wp2
  go_ret
  exact ⟨rfl, HB.out⟩

set_option maxRecDepth 100000 in
set_option maxHeartbeats 8000000 in
theorem back_nn {A : Option Addr} {cap : Nat} {xs L : List Nat} (w : World) (h : Arg w (.slice A xs.length cap) xs) (hc : Codes L) (hx : xs.length ≤ 300) (hl : L.length ≤ 3000) (hm : mayb xs = false) (hT : isT L = false) : Calls Tryd.prog 6 #[.slice A xs.length cap, .string (str L)] w fun e w' => e = .returned (.bool true) ∧ Below w.heap.size w w' := by
  have env0 : Env w w [(.slice A xs.length cap, xs)] := (env_start w).add (Below.refl _ _) h
  have hlx := h.limbs
  have hsz := str_size L
  have HM := Lib.hid hm
  have HC := Lib.hid hc
  have S1 := Lib.hid (sShow_no hm)
  have S2 := Lib.hid (pN_no (L := []) (by decide))
  have S3 := Lib.hid (pE_no (L := []) (by decide))
  have S4 : Hid (Codes []) := fun c hc => by cases hc
  have e2 : (str []).toList.isEmpty = true := by rw [str_toList]; rfl
  have T1 := Lib.hid (pN_no hT)
  have T2 := Lib.hid (pE_no hT)
  clear h hm hT hlx hc
  go_enter Tryd.func6, Tryd.ntmps6
  go_wp2_with fail
  refine (works4_env env0).mono ?_
  rintro e w1 ⟨rfl, env1⟩
  clear env0
  have c1 := show_env env1 (va := .slice A xs.length cap) (xs := xs) List.mem_cons_self
  rw [S1.out] at c1
  go_wp2_with fail
  refine c1.mono ?_
  rintro e w2 ⟨rfl, env2⟩
  clear c1 env1
  have c2 := parse_env env2 S4.out (by decide)
  rw [S2.out, S3.out] at c2
  go_wp2_with fail
  refine c2.mono ?_
  rintro e w3 ⟨Am, cm, rfl, env3⟩
  clear c2 env2
  have c3 := may_env env3 (va := .slice A xs.length cap) (xs := xs) (by simp)
  rw [HM.out] at c3
  go_wp2_with fail
  refine c3.mono ?_
  rintro e w' ⟨rfl, rfl⟩
  go_wp2_with fail
  refine c3.mono ?_
  rintro e w' ⟨rfl, rfl⟩
  have env4 := env3
  clear c3 env3
  have c5 := parse_env env4 HC.out (by omega)
  rw [T1.out, T2.out] at c5
  go_wp2_with fail
  refine c5.mono ?_
  rintro e w5 ⟨Ap, cp, rfl, env5⟩
  clear c5 env4
  have HB := Lib.hid env5.1
  clear env5
  go_wp2
  go_ret
  exact ⟨rfl, HB.out⟩

theorem decBack_law (w : World) {a0 : Option Addr} {len0 cap0 : Nat} {xs : List Nat} (h : Arg w (.slice a0 len0 cap0) xs) (a1 : ByteArray) (w1 : a1.size ≤ maxLen) :
    Calls Tryd.prog 6 #[.slice a0 len0 cap0, .string a1] w fun e w' => e = .returned (.bool true) ∧ Below w.heap.size w w' := by
  obtain ⟨L, hc, hl, rfl⟩ := bytes_str a1
  obtain ⟨A, cap, e, hcc, hcm, hr⟩ := id h
  injection e with e1 e2 e3
  subst e1 e2 e3
  unfold maxLen at *
  by_cases hL : 300 < xs.length ∨ 3000 < L.length
  · exact back_long w h hc (by omega) (by omega) hL
  · rcases hm : mayb xs with _ | _ <;> rcases hT : isT L with _ | _
    · exact back_nn w h hc (by omega) (by omega) hm hT
    · exact back_ny w h hc (by omega) (by omega) hm hT
    · exact back_yn w h hc (by omega) (by omega) hm hT
    · exact back_yy w h hc (by omega) (by omega) hm hT

end Go.Proofs.YtekdidfpilbinaaDoor

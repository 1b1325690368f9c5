/- DivNames: the walk. -/
import Derived.Test.YtidflhonhekmjaaDivG
namespace Go.Proofs.Ytidflhonhekmjaa
open Go.RowKit Go.Shelf

set_option linter.unusedVariables false

theorem Env.noneD {w0 w : World} {l : List (Value × List Nat)} (h : Env w0 w l) : Env w0 w [] := ⟨h.1, fun _ h => by cases h⟩
theorem Env.lit5 {w0 w : World} {l : List (Value × List Nat)} (h : Env w0 w l) (x y z t u : Nat) (X Y Z T U : Int) (hX : X = (x : Int)) (hY : Y = (y : Int)) (hZ : Z = (z : Int)) (hT : T = (t : Int)) (hU : U = (u : Int)) (hx : x < 4294967296) (hy : y < 4294967296) (hz : z < 4294967296) (ht : t < 4294967296) (hu : u < 4294967296) : Env w0 (w.alloc (.cells #[.int .u32 X, .int .u32 Y, .int .u32 Z, .int .u32 T, .int .u32 U] 26)) ((.slice (some ⟨w.heap.size, 0, none⟩) 5 5, [x, y, z, t, u]) :: l) := by subst hX hY hZ hT hU; exact h.lit [x, y, z, t, u] (((((Limbs.one hu).cons ht).cons hz).cons hy).cons hx) (by unfold maxLen; simp)
def dnB : List (List Nat) := [[4294967295, 0, 2147483648], [4294967295, 4294967295, 2147483648], [1, 0, 2147483648], [4294967295, 4294967295, 4294967295], [0, 4294967295, 2147483648]]
def dnA : List (List Nat) := [[0, 0, 0, 2147483648], [4294967295, 4294967295, 4294967295, 2147483647], [0, 0, 4294967295, 2147483647], [4294967295, 0, 0, 0, 2147483648], [3, 2, 1, 2147483648]]
theorem dnB_at {k : Nat} (h : k < 5) : ∃ B, dnB[k]?.getD [] = lim B ∧ (lim B).length ≤ 5 ∧ 0 < B := by
  have : k = 0 ∨ k = 1 ∨ k = 2 ∨ k = 3 ∨ k = 4 := by omega
  rcases this with rfl | rfl | rfl | rfl | rfl
  · have e : lim (val [4294967295, 0, 2147483648]) = [4294967295, 0, 2147483648] := lim_val (mayb_canon (((limbs_nil.cons (by decide)).cons (by decide)).cons (by decide)) (by decide))
    exact ⟨val [4294967295, 0, 2147483648], e.symm, by rw [e]; decide, by decide⟩
  · have e : lim (val [4294967295, 4294967295, 2147483648]) = [4294967295, 4294967295, 2147483648] := lim_val (mayb_canon (((limbs_nil.cons (by decide)).cons (by decide)).cons (by decide)) (by decide))
    exact ⟨val [4294967295, 4294967295, 2147483648], e.symm, by rw [e]; decide, by decide⟩
  · have e : lim (val [1, 0, 2147483648]) = [1, 0, 2147483648] := lim_val (mayb_canon (((limbs_nil.cons (by decide)).cons (by decide)).cons (by decide)) (by decide))
    exact ⟨val [1, 0, 2147483648], e.symm, by rw [e]; decide, by decide⟩
  · have e : lim (val [4294967295, 4294967295, 4294967295]) = [4294967295, 4294967295, 4294967295] := lim_val (mayb_canon (((limbs_nil.cons (by decide)).cons (by decide)).cons (by decide)) (by decide))
    exact ⟨val [4294967295, 4294967295, 4294967295], e.symm, by rw [e]; decide, by decide⟩
  · have e : lim (val [0, 4294967295, 2147483648]) = [0, 4294967295, 2147483648] := lim_val (mayb_canon (((limbs_nil.cons (by decide)).cons (by decide)).cons (by decide)) (by decide))
    exact ⟨val [0, 4294967295, 2147483648], e.symm, by rw [e]; decide, by decide⟩
theorem dnA_at {k : Nat} (h : k < 5) : ∃ A, dnA[k]?.getD [] = lim A ∧ (lim A).length ≤ 5 := by
  have : k = 0 ∨ k = 1 ∨ k = 2 ∨ k = 3 ∨ k = 4 := by omega
  rcases this with rfl | rfl | rfl | rfl | rfl
  · have e : lim (val [0, 0, 0, 2147483648]) = [0, 0, 0, 2147483648] := lim_val (mayb_canon ((((limbs_nil.cons (by decide)).cons (by decide)).cons (by decide)).cons (by decide)) (by decide))
    exact ⟨val [0, 0, 0, 2147483648], e.symm, by rw [e]; decide⟩
  · have e : lim (val [4294967295, 4294967295, 4294967295, 2147483647]) = [4294967295, 4294967295, 4294967295, 2147483647] := lim_val (mayb_canon ((((limbs_nil.cons (by decide)).cons (by decide)).cons (by decide)).cons (by decide)) (by decide))
    exact ⟨val [4294967295, 4294967295, 4294967295, 2147483647], e.symm, by rw [e]; decide⟩
  · have e : lim (val [0, 0, 4294967295, 2147483647]) = [0, 0, 4294967295, 2147483647] := lim_val (mayb_canon ((((limbs_nil.cons (by decide)).cons (by decide)).cons (by decide)).cons (by decide)) (by decide))
    exact ⟨val [0, 0, 4294967295, 2147483647], e.symm, by rw [e]; decide⟩
  · have e : lim (val [4294967295, 0, 0, 0, 2147483648]) = [4294967295, 0, 0, 0, 2147483648] := lim_val (mayb_canon (((((limbs_nil.cons (by decide)).cons (by decide)).cons (by decide)).cons (by decide)).cons (by decide)) (by decide))
    exact ⟨val [4294967295, 0, 0, 0, 2147483648], e.symm, by rw [e]; decide⟩
  · have e : lim (val [3, 2, 1, 2147483648]) = [3, 2, 1, 2147483648] := lim_val (mayb_canon ((((limbs_nil.cons (by decide)).cons (by decide)).cons (by decide)).cons (by decide)) (by decide))
    exact ⟨val [3, 2, 1, 2147483648], e.symm, by rw [e]; decide⟩

set_option maxRecDepth 1000000 in
set_option maxHeartbeats 16000000 in
theorem dnames_all (w : World) : Calls Try.prog 5 #[] w fun e w' => e = .returned (.bool true) ∧ Below w.heap.size w w' := by
  have env0 := env_start w
  have H1 := Lib.hid (sDivE_yes (xs := [4294967295, 4294967295, 4294967295]) (ys := [4294967295, 4294967295]) (by decide) (by decide) (by decide))
  have H2 := Lib.hid (sDivQ_eq (xs := [4294967295, 4294967295, 4294967295]) (ys := [4294967295, 4294967295]) (zs := [0, 1]) (by decide) (by decide) (by decide) (by decide) ((limbs_nil.cons (by decide)).cons (by decide)) (by decide))
  have H3 := Lib.hid (sDivR_eq (xs := [4294967295, 4294967295, 4294967295]) (ys := [4294967295, 4294967295]) (zs := [4294967295]) (by decide) (by decide) (by decide) (by decide) (limbs_nil.cons (by decide)) (by decide))
  have H4 := Lib.hid (sDivE_yes (xs := [4294967295, 4294967295, 4294967295]) (ys := [0, 2147483648]) (by decide) (by decide) (by decide))
  have H5 := Lib.hid (sDivQ_eq (xs := [4294967295, 4294967295, 4294967295]) (ys := [0, 2147483648]) (zs := [4294967295, 1]) (by decide) (by decide) (by decide) (by decide) ((limbs_nil.cons (by decide)).cons (by decide)) (by decide))
  have H6 := Lib.hid (sDivR_eq (xs := [4294967295, 4294967295, 4294967295]) (ys := [0, 2147483648]) (zs := [4294967295, 2147483647]) (by decide) (by decide) (by decide) (by decide) ((limbs_nil.cons (by decide)).cons (by decide)) (by decide))
  have H7 := Lib.hid (sDivE_yes (xs := [0, 0, 1]) (ys := [4294967295, 4294967295]) (by decide) (by decide) (by decide))
  have H8 := Lib.hid (sDivQ_eq (xs := [0, 0, 1]) (ys := [4294967295, 4294967295]) (zs := [1]) (by decide) (by decide) (by decide) (by decide) (limbs_nil.cons (by decide)) (by decide))
  have H9 := Lib.hid (sDivR_eq (xs := [0, 0, 1]) (ys := [4294967295, 4294967295]) (zs := [1]) (by decide) (by decide) (by decide) (by decide) (limbs_nil.cons (by decide)) (by decide))
  have H10 := Lib.hid (sDivE_yes (xs := [7, 7]) (ys := [7, 7]) (by decide) (by decide) (by decide))
  have H11 := Lib.hid (sDivQ_eq (xs := [7, 7]) (ys := [7, 7]) (zs := [1]) (by decide) (by decide) (by decide) (by decide) (limbs_nil.cons (by decide)) (by decide))
  have H12 := Lib.hid (sDivR_eq (xs := [7, 7]) (ys := [7, 7]) (zs := []) (by decide) (by decide) (by decide) (by decide) limbs_nil (by decide))
  have H13 := Lib.hid (sDivE_yes (xs := [6, 7]) (ys := [7, 7]) (by decide) (by decide) (by decide))
  have H14 := Lib.hid (sDivQ_eq (xs := [6, 7]) (ys := [7, 7]) (zs := []) (by decide) (by decide) (by decide) (by decide) limbs_nil (by decide))
  have H15 := Lib.hid (sDivR_eq (xs := [6, 7]) (ys := [7, 7]) (zs := [6, 7]) (by decide) (by decide) (by decide) (by decide) ((limbs_nil.cons (by decide)).cons (by decide)) (by decide))
  have H16 := Lib.hid (sDivE_yes (xs := []) (ys := [0, 1]) (by decide) (by decide) (by decide))
  have H17 := Lib.hid (sDivQ_eq (xs := []) (ys := [0, 1]) (zs := []) (by decide) (by decide) (by decide) (by decide) limbs_nil (by decide))
  have H18 := Lib.hid (sDivR_eq (xs := []) (ys := [0, 1]) (zs := []) (by decide) (by decide) (by decide) (by decide) limbs_nil (by decide))
  have H19 := Lib.hid (sDivE_yes (xs := [0, 0, 0, 1]) (ys := [1]) (by decide) (by decide) (by decide))
  have H20 := Lib.hid (sDivQ_eq (xs := [0, 0, 0, 1]) (ys := [1]) (zs := [0, 0, 0, 1]) (by decide) (by decide) (by decide) (by decide) ((((limbs_nil.cons (by decide)).cons (by decide)).cons (by decide)).cons (by decide)) (by decide))
  have H21 := Lib.hid (sDivR_eq (xs := [0, 0, 0, 1]) (ys := [1]) (zs := []) (by decide) (by decide) (by decide) (by decide) limbs_nil (by decide))
  have H22 := Lib.hid (show sDivE [3, 0] [] = 4 from sDivE_may (by decide))
  have H23 := Lib.hid (sDivQ_no (xs := [3, 0]) (ys := []) (by rw [show sDivE [3, 0] [] = 4 from sDivE_may (by decide)]; decide))
  have H24 := Lib.hid (sDivR_no (xs := [3, 0]) (ys := []) (by rw [show sDivE [3, 0] [] = 4 from sDivE_may (by decide)]; decide))
  have H25 := Lib.hid (show sDivE [1] [3, 0] = 4 from sDivE_may (by decide))
  have H26 := Lib.hid (sDivQ_no (xs := [1]) (ys := [3, 0]) (by rw [show sDivE [1] [3, 0] = 4 from sDivE_may (by decide)]; decide))
  have H27 := Lib.hid (sDivR_no (xs := [1]) (ys := [3, 0]) (by rw [show sDivE [1] [3, 0] = 4 from sDivE_may (by decide)]; decide))
  have H28 := Lib.hid (show sSmE [3, 0] 0 = 4 from by decide)
  have H29 := Lib.hid (show sSmQ [3, 0] 0 = [] from if_neg (by decide))
  have H30 := Lib.hid (show sSmR [3, 0] 0 = 0 from by decide)
  have H31 := Lib.hid (show sSmE [9] 0 = 41 from by decide)
  have H32 := Lib.hid (show sSmQ [9] 0 = [] from if_neg (by decide))
  have H33 := Lib.hid (show sSmR [9] 0 = 0 from by decide)
  have H34 := Lib.hid (show sSmE [] 5 = 0 from by decide)
  have H35 := Lib.hid (show sSmQ [] 5 = [] from by unfold sSmQ; rw [if_pos (by decide)]; exact lim_zero)
  have H36 := Lib.hid (show sSmR [] 5 = 0 from by decide)
  have H37 := Lib.hid (show sRoot [3, 0] = [] from sRoot_no (by decide))
  have H38 := Lib.hid (sRoot_eq (xs := [1]) (zs := [1]) (by decide) (by decide) (limbs_nil.cons (by decide)) (by decide) (by decide))
  have H39 := Lib.hid (sRoot_eq (xs := [4294967295, 4294967295]) (zs := [4294967295]) (by decide) (by decide) (limbs_nil.cons (by decide)) (by decide) (by decide))
  have H40 := Lib.hid (sRoot_eq (xs := [0, 0, 1]) (zs := [0, 1]) (by decide) (by decide) ((limbs_nil.cons (by decide)).cons (by decide)) (by decide) (by decide))
  have H41 := Lib.hid (sRoot_eq (xs := [3]) (zs := [1]) (by decide) (by decide) (limbs_nil.cons (by decide)) (by decide) (by decide))
  have H42 := Lib.hid (sRoot_eq (xs := [4]) (zs := [2]) (by decide) (by decide) (limbs_nil.cons (by decide)) (by decide) (by decide))
  go_enter Try.func5, Try.ntmps5
  go_wp2_with fail
  refine (awake3_env env0).mono ?_
  rintro e wa1 ⟨rfl, Ea1⟩
  clear env0
  go_wp2_with fail
  refine (of3_env (Ea1.lit3 4294967295 4294967295 4294967295 4294967295 4294967295 4294967295 rfl rfl rfl (by decide) (by decide) (by decide))).mono ?_
  rintro e wa2 ⟨rfl, Ea2⟩
  clear Ea1
  go_wp2_with fail
  refine (of3_env (Ea2.lit2 4294967295 4294967295 4294967295 4294967295 rfl rfl (by decide) (by decide))).mono ?_
  rintro e wa3 ⟨rfl, Ea3⟩
  clear Ea2
  go_wp2_with fail
  refine (of3_env (Ea3.lit2 0 1 0 1 rfl rfl (by decide) (by decide))).mono ?_
  rintro e wa4 ⟨rfl, Ea4⟩
  clear Ea3
  go_wp2_with fail
  refine (of3_env (Ea4.lit1 4294967295 4294967295 rfl (by decide))).mono ?_
  rintro e wa5 ⟨rfl, Ea5⟩
  clear Ea4
  go_wp2_with fail
  refine (parts_is Ea5.nil (va := (.slice (some ⟨wa1.heap.size, 0, none⟩) 3 3)) (vb := (.slice (some ⟨wa2.heap.size, 0, none⟩) 2 2)) (vc := (.slice (some ⟨wa3.heap.size, 0, none⟩) 2 2)) (vd := (.slice (some ⟨wa4.heap.size, 0, none⟩) 1 1)) (xs := [4294967295, 4294967295, 4294967295]) (ys := [4294967295, 4294967295]) (qs := [0, 1]) (rs := [4294967295]) (by simp) (by simp) (by simp) (by simp) H1.out H2.out H3.out).mono ?_
  rintro e wa6 ⟨rfl, Ea6⟩
  clear Ea5
  replace Ea6 := Ea6.noneD
  go_wp2_with fail
  refine (of3_env (Ea6.lit3 4294967295 4294967295 4294967295 4294967295 4294967295 4294967295 rfl rfl rfl (by decide) (by decide) (by decide))).mono ?_
  rintro e wa7 ⟨rfl, Ea7⟩
  clear Ea6
  go_wp2_with fail
  refine (of3_env (Ea7.lit2 0 2147483648 0 2147483648 rfl rfl (by decide) (by decide))).mono ?_
  rintro e wa8 ⟨rfl, Ea8⟩
  clear Ea7
  go_wp2_with fail
  refine (of3_env (Ea8.lit2 4294967295 1 4294967295 1 rfl rfl (by decide) (by decide))).mono ?_
  rintro e wa9 ⟨rfl, Ea9⟩
  clear Ea8
  go_wp2_with fail
  refine (of3_env (Ea9.lit2 4294967295 2147483647 4294967295 2147483647 rfl rfl (by decide) (by decide))).mono ?_
  rintro e wa10 ⟨rfl, Ea10⟩
  clear Ea9
  go_wp2_with fail
  refine (parts_is Ea10.nil (va := (.slice (some ⟨wa6.heap.size, 0, none⟩) 3 3)) (vb := (.slice (some ⟨wa7.heap.size, 0, none⟩) 2 2)) (vc := (.slice (some ⟨wa8.heap.size, 0, none⟩) 2 2)) (vd := (.slice (some ⟨wa9.heap.size, 0, none⟩) 2 2)) (xs := [4294967295, 4294967295, 4294967295]) (ys := [0, 2147483648]) (qs := [4294967295, 1]) (rs := [4294967295, 2147483647]) (by simp) (by simp) (by simp) (by simp) H4.out H5.out H6.out).mono ?_
  rintro e wa11 ⟨rfl, Ea11⟩
  clear Ea10
  replace Ea11 := Ea11.noneD
  go_wp2_with fail
  refine (of3_env (Ea11.lit3 0 0 1 0 0 1 rfl rfl rfl (by decide) (by decide) (by decide))).mono ?_
  rintro e wa12 ⟨rfl, Ea12⟩
  clear Ea11
  go_wp2_with fail
  refine (of3_env (Ea12.lit2 4294967295 4294967295 4294967295 4294967295 rfl rfl (by decide) (by decide))).mono ?_
  rintro e wa13 ⟨rfl, Ea13⟩
  clear Ea12
  go_wp2_with fail
  refine (of3_env (Ea13.lit1 1 1 rfl (by decide))).mono ?_
  rintro e wa14 ⟨rfl, Ea14⟩
  clear Ea13
  go_wp2_with fail
  refine (of3_env (Ea14.lit1 1 1 rfl (by decide))).mono ?_
  rintro e wa15 ⟨rfl, Ea15⟩
  clear Ea14
  go_wp2_with fail
  refine (parts_is Ea15.nil (va := (.slice (some ⟨wa11.heap.size, 0, none⟩) 3 3)) (vb := (.slice (some ⟨wa12.heap.size, 0, none⟩) 2 2)) (vc := (.slice (some ⟨wa13.heap.size, 0, none⟩) 1 1)) (vd := (.slice (some ⟨wa14.heap.size, 0, none⟩) 1 1)) (xs := [0, 0, 1]) (ys := [4294967295, 4294967295]) (qs := [1]) (rs := [1]) (by simp) (by simp) (by simp) (by simp) H7.out H8.out H9.out).mono ?_
  rintro e wa16 ⟨rfl, Ea16⟩
  clear Ea15
  replace Ea16 := Ea16.noneD
  go_wp2_with fail
  refine (of3_env (Ea16.lit2 7 7 7 7 rfl rfl (by decide) (by decide))).mono ?_
  rintro e wa17 ⟨rfl, Ea17⟩
  clear Ea16
  go_wp2_with fail
  refine (of3_env (Ea17.lit2 7 7 7 7 rfl rfl (by decide) (by decide))).mono ?_
  rintro e wa18 ⟨rfl, Ea18⟩
  clear Ea17
  go_wp2_with fail
  refine (of3_env (Ea18.lit1 1 1 rfl (by decide))).mono ?_
  rintro e wa19 ⟨rfl, Ea19⟩
  clear Ea18
  go_wp2_with fail
  refine (parts_is Ea19.nil (va := (.slice (some ⟨wa16.heap.size, 0, none⟩) 2 2)) (vb := (.slice (some ⟨wa17.heap.size, 0, none⟩) 2 2)) (vc := (.slice (some ⟨wa18.heap.size, 0, none⟩) 1 1)) (vd := (.slice none 0 0)) (xs := [7, 7]) (ys := [7, 7]) (qs := [1]) (rs := []) (by simp) (by simp) (by simp) (by simp) H10.out H11.out H12.out).mono ?_
  rintro e wa20 ⟨rfl, Ea20⟩
  clear Ea19
  replace Ea20 := Ea20.noneD
  go_wp2_with fail
  refine (of3_env (Ea20.lit2 6 7 6 7 rfl rfl (by decide) (by decide))).mono ?_
  rintro e wa21 ⟨rfl, Ea21⟩
  clear Ea20
  go_wp2_with fail
  refine (of3_env (Ea21.lit2 7 7 7 7 rfl rfl (by decide) (by decide))).mono ?_
  rintro e wa22 ⟨rfl, Ea22⟩
  clear Ea21
  go_wp2_with fail
  refine (of3_env (Ea22.lit2 6 7 6 7 rfl rfl (by decide) (by decide))).mono ?_
  rintro e wa23 ⟨rfl, Ea23⟩
  clear Ea22
  go_wp2_with fail
  refine (parts_is Ea23.nil (va := (.slice (some ⟨wa20.heap.size, 0, none⟩) 2 2)) (vb := (.slice (some ⟨wa21.heap.size, 0, none⟩) 2 2)) (vc := (.slice none 0 0)) (vd := (.slice (some ⟨wa22.heap.size, 0, none⟩) 2 2)) (xs := [6, 7]) (ys := [7, 7]) (qs := []) (rs := [6, 7]) (by simp) (by simp) (by simp) (by simp) H13.out H14.out H15.out).mono ?_
  rintro e wa24 ⟨rfl, Ea24⟩
  clear Ea23
  replace Ea24 := Ea24.noneD
  go_wp2_with fail
  refine (of3_env (Ea24.lit2 0 1 0 1 rfl rfl (by decide) (by decide))).mono ?_
  rintro e wa25 ⟨rfl, Ea25⟩
  clear Ea24
  go_wp2_with fail
  refine (parts_is Ea25.nil (va := (.slice none 0 0)) (vb := (.slice (some ⟨wa24.heap.size, 0, none⟩) 2 2)) (vc := (.slice none 0 0)) (vd := (.slice none 0 0)) (xs := []) (ys := [0, 1]) (qs := []) (rs := []) (by simp) (by simp) (by simp) (by simp) H16.out H17.out H18.out).mono ?_
  rintro e wa26 ⟨rfl, Ea26⟩
  clear Ea25
  replace Ea26 := Ea26.noneD
  go_wp2_with fail
  refine (of3_env (Ea26.lit4 0 0 0 1 0 0 0 1 rfl rfl rfl rfl (by decide) (by decide) (by decide) (by decide))).mono ?_
  rintro e wa27 ⟨rfl, Ea27⟩
  clear Ea26
  go_wp2_with fail
  refine (of3_env (Ea27.lit1 1 1 rfl (by decide))).mono ?_
  rintro e wa28 ⟨rfl, Ea28⟩
  clear Ea27
  go_wp2_with fail
  refine (of3_env (Ea28.lit4 0 0 0 1 0 0 0 1 rfl rfl rfl rfl (by decide) (by decide) (by decide) (by decide))).mono ?_
  rintro e wa29 ⟨rfl, Ea29⟩
  clear Ea28
  go_wp2_with fail
  refine (parts_is Ea29.nil (va := (.slice (some ⟨wa26.heap.size, 0, none⟩) 4 4)) (vb := (.slice (some ⟨wa27.heap.size, 0, none⟩) 1 1)) (vc := (.slice (some ⟨wa28.heap.size, 0, none⟩) 4 4)) (vd := (.slice none 0 0)) (xs := [0, 0, 0, 1]) (ys := [1]) (qs := [0, 0, 0, 1]) (rs := []) (by simp) (by simp) (by simp) (by simp) H19.out H20.out H21.out).mono ?_
  rintro e wa30 ⟨rfl, Ea30⟩
  clear Ea29
  replace Ea30 := Ea30.noneD
  go_wp2_with fail
  refine (of3_env (Ea30.lit3 4294967295 0 2147483648 4294967295 0 2147483648 rfl rfl rfl (by decide) (by decide) (by decide))).mono ?_
  rintro e wa31 ⟨rfl, Ea31⟩
  clear Ea30
  go_wp2_with fail
  refine (of3_env (Ea31.lit3 4294967295 4294967295 2147483648 4294967295 4294967295 2147483648 rfl rfl rfl (by decide) (by decide) (by decide))).mono ?_
  rintro e wa32 ⟨rfl, Ea32⟩
  clear Ea31
  go_wp2_with fail
  refine (of3_env (Ea32.lit3 1 0 2147483648 1 0 2147483648 rfl rfl rfl (by decide) (by decide) (by decide))).mono ?_
  rintro e wa33 ⟨rfl, Ea33⟩
  clear Ea32
  go_wp2_with fail
  refine (of3_env (Ea33.lit3 4294967295 4294967295 4294967295 4294967295 4294967295 4294967295 rfl rfl rfl (by decide) (by decide) (by decide))).mono ?_
  rintro e wa34 ⟨rfl, Ea34⟩
  clear Ea33
  go_wp2_with fail
  refine (of3_env (Ea34.lit3 0 4294967295 2147483648 0 4294967295 2147483648 rfl rfl rfl (by decide) (by decide) (by decide))).mono ?_
  rintro e wa35 ⟨rfl, Ea35⟩
  clear Ea34
  obtain ⟨RB, ERB⟩ := rows_of Ea35 [((.slice (some ⟨wa30.heap.size, 0, none⟩) 3 3), [4294967295, 0, 2147483648]), ((.slice (some ⟨wa31.heap.size, 0, none⟩) 3 3), [4294967295, 4294967295, 2147483648]), ((.slice (some ⟨wa32.heap.size, 0, none⟩) 3 3), [1, 0, 2147483648]), ((.slice (some ⟨wa33.heap.size, 0, none⟩) 3 3), [4294967295, 4294967295, 4294967295]), ((.slice (some ⟨wa34.heap.size, 0, none⟩) 3 3), [0, 4294967295, 2147483648])] (by intro p hp; simp only [List.mem_cons, List.not_mem_nil, or_false] at hp; rcases hp with rfl | rfl | rfl | rfl | rfl <;> simp) (by unfold maxLen; simp)
  obtain ⟨wA, hwA⟩ : ∃ wA, wA = wa35.alloc (.cells #[(.slice (some ⟨wa30.heap.size, 0, none⟩) 3 3), (.slice (some ⟨wa31.heap.size, 0, none⟩) 3 3), (.slice (some ⟨wa32.heap.size, 0, none⟩) 3 3), (.slice (some ⟨wa33.heap.size, 0, none⟩) 3 3), (.slice (some ⟨wa34.heap.size, 0, none⟩) 3 3)] 23) := ⟨_, rfl⟩
  have RB2 : Rows2 wA (.slice (some ⟨wa35.heap.size, 0, none⟩) 5 5) dnB := by rw [hwA]; exact RB
  have HBA : Hid (Below w.heap.size w wA) := by rw [hwA]; exact ERB.1
  have HWA := Lib.hid hwA
  have HRB := Lib.hid RB2
  clear RB ERB RB2 hwA Ea35
  go_wp2_with fail
  rw [← HWA.out]
  have eA : Env wA wA [] := env_start wA
  go_loopw [108] (fun i wr => ∃ k : Nat, k ≤ 5 ∧ i = .int .i64 (k : Int) ∧ Env wA wr []) (fun i _ => 5 - (intOf i).toNat)
  case atStart => exact ⟨0, by decide, rfl, eA⟩
  case round =>
    clear eA
    obtain ⟨k, hk, rfl, E⟩ := hrel
    have HBW := Lib.hid E.1
    by_cases hlt : k < 5
    · obtain ⟨Bn, hBn, hBl, hB0⟩ := dnB_at hlt
      have hd5 : decide ((k : Int) < 5) = true := decide_eq_true (by omega)
      obtain ⟨RA0, rcap, vs, re, _, rha, rhc⟩ := HRB.out.below HBW.out
      injection re with re1 re2 re3
      obtain ⟨gb, go, re4, _, rcell⟩ := rhc (by decide)
      rw [← re1] at re4
      injection re4 with re4
      injection re4 with re5 re6
      subst re5 re6
      have x1 := rcell k hlt
      have ab := rha k hlt
      rw [hBn] at ab
      generalize vs[k]?.getD undef = ub at *
      rw [Nat.zero_add] at x1
      obtain ⟨wo, rfl⟩ : ∃ wo : World, wo = wr := ⟨_, rfl⟩
      have HAB := Lib.hid ab
      have E0 : Env _ _ [(ub, lim Bn)] := (env_start _).add (Below.refl _ _) ab
      clear rha rcell rhc ab hBn re1 re2 re3 E
  
      go_wp2_with fail
      refine (of3_env (E0.lit4 0 0 0 2147483648 0 0 0 2147483648 rfl rfl rfl rfl (by decide) (by decide) (by decide) (by decide))).mono ?_
      rintro e wb1 ⟨rfl, Eb1⟩
      clear E0
      go_wp2_with fail
      refine (of3_env (Eb1.lit4 4294967295 4294967295 4294967295 2147483647 4294967295 4294967295 4294967295 2147483647 rfl rfl rfl rfl (by decide) (by decide) (by decide) (by decide))).mono ?_
      rintro e wb2 ⟨rfl, Eb2⟩
      clear Eb1
      go_wp2_with fail
      refine (of3_env (Eb2.lit4 0 0 4294967295 2147483647 0 0 4294967295 2147483647 rfl rfl rfl rfl (by decide) (by decide) (by decide) (by decide))).mono ?_
      rintro e wb3 ⟨rfl, Eb3⟩
      clear Eb2
      go_wp2_with fail
      refine (of3_env (Eb3.lit5 4294967295 0 0 0 2147483648 4294967295 0 0 0 2147483648 rfl rfl rfl rfl rfl (by decide) (by decide) (by decide) (by decide) (by decide))).mono ?_
      rintro e wb4 ⟨rfl, Eb4⟩
      clear Eb3
      go_wp2_with fail
      refine (of3_env (Eb4.lit4 3 2 1 2147483648 3 2 1 2147483648 rfl rfl rfl rfl (by decide) (by decide) (by decide) (by decide))).mono ?_
      rintro e wb5 ⟨rfl, Eb5⟩
      clear Eb4
      obtain ⟨RA, ERA⟩ := rows_of Eb5 [((.slice (some ⟨wo.heap.size, 0, none⟩) 4 4), [0, 0, 0, 2147483648]), ((.slice (some ⟨wb1.heap.size, 0, none⟩) 4 4), [4294967295, 4294967295, 4294967295, 2147483647]), ((.slice (some ⟨wb2.heap.size, 0, none⟩) 4 4), [0, 0, 4294967295, 2147483647]), ((.slice (some ⟨wb3.heap.size, 0, none⟩) 5 5), [4294967295, 0, 0, 0, 2147483648]), ((.slice (some ⟨wb4.heap.size, 0, none⟩) 4 4), [3, 2, 1, 2147483648])] (by intro p hp; simp only [List.mem_cons, List.not_mem_nil, or_false] at hp; rcases hp with rfl | rfl | rfl | rfl | rfl <;> simp) (by unfold maxLen; simp)
      obtain ⟨wC, hwC⟩ : ∃ wC, wC = wb5.alloc (.cells #[(.slice (some ⟨wo.heap.size, 0, none⟩) 4 4), (.slice (some ⟨wb1.heap.size, 0, none⟩) 4 4), (.slice (some ⟨wb2.heap.size, 0, none⟩) 4 4), (.slice (some ⟨wb3.heap.size, 0, none⟩) 5 5), (.slice (some ⟨wb4.heap.size, 0, none⟩) 4 4)] 23) := ⟨_, rfl⟩
      have RA2 : Rows2 wC (.slice (some ⟨wb5.heap.size, 0, none⟩) 5 5) dnA := by rw [hwC]; exact RA
      have HBC : Hid (Below wo.heap.size wo wC) := by rw [hwC]; exact ERA.1
      have HWC := Lib.hid hwC
      have HRA := Lib.hid RA2
      have HUB := Lib.hid (show Arg wC ub (lim Bn) from HAB.out.below HBC.out)
      clear RA ERA RA2 hwC Eb5 x1
      go_wp2_with fail
      rw [← HWC.out]
      have eC : Env wC wC [] := env_start wC
      go_loopw [124] (fun i wr => ∃ j : Nat, j ≤ 5 ∧ i = .int .i64 (j : Int) ∧ Env wC wr []) (fun i _ => 5 - (intOf i).toNat)
      case atStart => exact ⟨0, by decide, rfl, eC⟩
      case round =>
        clear eC
        obtain ⟨j, hj, rfl, E2⟩ := hrel
        have HBX := Lib.hid E2.1
        by_cases hjt : j < 5
        · obtain ⟨An, hAn, hAl⟩ := dnA_at hjt
          obtain ⟨RA0, rcap, vs, re, _, rha, rhc⟩ := HRA.out.below HBX.out
          injection re with re1 re2 re3
          obtain ⟨gb, go, re4, _, rcell⟩ := rhc (by decide)
          rw [← re1] at re4
          injection re4 with re4
          injection re4 with re5 re6
          subst re5 re6
          have x2 := rcell j hjt
          have aa := rha j hjt
          rw [hAn] at aa
          generalize vs[j]?.getD undef = ua at *
          rw [Nat.zero_add] at x2
          have D0 : Env wC wr [(ua, lim An), (ub, lim Bn)] := ⟨HBX.out, fun p hp => by
            rcases List.mem_cons.1 hp with rfl | hp
            · exact aa
            · rcases List.mem_cons.1 hp with rfl | hp
              · exact HUB.out.below HBX.out
              · cases hp⟩
          have k1 := lim_len_mono (Nat.div_le_self An Bn)
          have k2 := lim_len_mono (Nat.le_of_lt (Nat.mod_lt An hB0))
          have k3 := len_mulD (An / Bn) Bn
          have G1 := Lib.hid (div_lim_E (A := An) (B := Bn) (by omega) (by omega) hB0)
          have G2 := Lib.hid (div_lim_Q (A := An) (B := Bn) (by omega) (by omega) hB0)
          have G3 := Lib.hid (div_lim_R (A := An) (B := Bn) (by omega) (by omega) hB0)
          have G4 := Lib.hid (mul_limD (a := An / Bn) (b := Bn) (by omega))
          have G5 := Lib.hid (show sAdd (lim (An / Bn * Bn)) (lim (An % Bn)) = lim An by rw [add_limD (by omega) (by omega), Nat.div_add_mod'])
          have G6 := Lib.hid (show sCmp (lim (An % Bn)) (lim Bn) = -1 by rw [cmp_limD (by omega) (by omega), cmpN_lt (Nat.mod_lt An hB0)])
          clear rha rcell rhc aa hAn re1 re2 re3 E2 k1 k2 k3
      
          go_wp2_with fail
          refine (divmod_is D0 (va := ua) (vb := ub) (xs := lim An) (ys := lim Bn) (by simp) (by simp) G2.out G3.out G1.out).mono ?_
          rintro e wc1 ⟨qc1, rc1, rfl, Ec1⟩
          clear D0
          go_wp2_with fail
          refine (mul_is Ec1 (va := qc1) (vb := ub) (xs := lim (An / Bn)) (ys := lim Bn) (by simp) (by simp) G4.out).mono ?_
          rintro e wc2 ⟨rc2, rfl, Ec2⟩
          clear Ec1
          go_wp2_with fail
          refine (add_is Ec2 (va := rc2) (vb := rc1) (xs := lim (An / Bn * Bn)) (ys := lim (An % Bn)) (by simp) (by simp) G5.out).mono ?_
          rintro e wc3 ⟨rc3, rfl, Ec3⟩
          clear Ec2
          go_wp2_with fail
          refine (same3_yes Ec3 (va := rc3) (vb := ua) (xs := lim An) (ys := lim An) (by simp) (by simp) rfl).mono ?_
          rintro e wc4 ⟨rfl, Ec4⟩
          clear Ec3
          go_wp2_with fail
          refine (cmp_is Ec4 (va := rc1) (vb := ub) (xs := lim (An % Bn)) (ys := lim Bn) (by simp) (by simp) G6.out).mono ?_
          rintro e wc5 ⟨rfl, Ec5⟩
          clear Ec4
          have HFE := Lib.hid Ec5.noneD
          clear Ec5 x2
          go_wp2_with fail
          go_roundw
          case rel => exact ⟨j + 1, by omega, by go_num, HFE.out⟩
          case measure => simp [intOf]; omega
        · have HFE : Hid (Env wA wr []) := ⟨HBW.out.trans ((HBC.out.mono HBW.out.size).trans (HBX.out.mono (Nat.le_trans HBW.out.size HBC.out.size))), fun _ h => by cases h⟩
          clear E2
          go_wp2_with fail
          go_roundw
          case rel => exact ⟨k + 1, by omega, by go_num, HFE.out⟩
          case measure => simp [intOf]; omega
    · have C0 : Env w wr [] := ⟨HBA.out.trans (HBW.out.mono HBA.out.size), fun _ h => by cases h⟩
      clear E
      go_wp2_with fail
      refine (of3_env (C0.lit2 3 0 3 0 rfl rfl (by decide) (by decide))).mono ?_
      rintro e wf1 ⟨rfl, Ef1⟩
      clear C0
      go_wp2_with fail
      refine (divmod_is Ef1.nil (va := (.slice (some ⟨wr.heap.size, 0, none⟩) 2 2)) (vb := (.slice none 0 0)) (xs := [3, 0]) (ys := []) (by simp) (by simp) H23.out H24.out H22.out).mono ?_
      rintro e wf2 ⟨qf2, rf2, rfl, Ef2⟩
      clear Ef1
      go_wp2_with fail
      refine (of3_env (Ef2.lit1 1 1 rfl (by decide))).mono ?_
      rintro e wf3 ⟨rfl, Ef3⟩
      clear Ef2
      go_wp2_with fail
      refine (divmod_is Ef3 (va := (.slice (some ⟨wf2.heap.size, 0, none⟩) 1 1)) (vb := (.slice (some ⟨wr.heap.size, 0, none⟩) 2 2)) (xs := [1]) (ys := [3, 0]) (by simp) (by simp) H26.out H27.out H25.out).mono ?_
      rintro e wf4 ⟨qf4, rf4, rfl, Ef4⟩
      clear Ef3
      go_wp2_with fail
      refine (dsmall_is Ef4 (va := (.slice (some ⟨wr.heap.size, 0, none⟩) 2 2)) (xs := [3, 0]) (by simp) 0 (by decide) H29.out H30.out H28.out).mono ?_
      rintro e wf5 ⟨qf5, rfl, Ef5⟩
      clear Ef4
      go_wp2_with fail
      refine (of3_env (Ef5.lit1 9 9 rfl (by decide))).mono ?_
      rintro e wf6 ⟨rfl, Ef6⟩
      clear Ef5
      go_wp2_with fail
      refine (dsmall_is Ef6 (va := (.slice (some ⟨wf5.heap.size, 0, none⟩) 1 1)) (xs := [9]) (by simp) 0 (by decide) H32.out H33.out H31.out).mono ?_
      rintro e wf7 ⟨qf7, rfl, Ef7⟩
      clear Ef6
      go_wp2_with fail
      refine (dsmall_is Ef7.nil (va := (.slice none 0 0)) (xs := []) (by simp) 5 (by decide) H35.out H36.out H34.out).mono ?_
      rintro e wf8 ⟨qf8, rfl, Ef8⟩
      clear Ef7
      obtain ⟨Aqf2, capqf2, rfl, _⟩ := Ef8.get (v := qf2) (xs := []) (by simp)
      obtain ⟨Arf2, caprf2, rfl, _⟩ := Ef8.get (v := rf2) (xs := []) (by simp)
      obtain ⟨Aqf5, capqf5, rfl, _⟩ := Ef8.get (v := qf5) (xs := []) (by simp)
      go_wp2_with fail
      refine (root_is Ef8 (va := (.slice (some ⟨wr.heap.size, 0, none⟩) 2 2)) (xs := [3, 0]) (by simp) H37.out).mono ?_
      rintro e wf9 ⟨rf9, rfl, Ef9⟩
      clear Ef8
      obtain ⟨Arf9, caprf9, rfl, _⟩ := Ef9.get (v := rf9) (xs := []) (by simp)
      go_wp2_with fail
      refine (of3_env (Ef9.lit1 1 1 rfl (by decide))).mono ?_
      rintro e wf10 ⟨rfl, Ef10⟩
      clear Ef9
      go_wp2_with fail
      refine (root_is Ef10 (va := (.slice (some ⟨wf9.heap.size, 0, none⟩) 1 1)) (xs := [1]) (by simp) H38.out).mono ?_
      rintro e wf11 ⟨rf11, rfl, Ef11⟩
      clear Ef10
      go_wp2_with fail
      refine (of3_env (Ef11.lit1 1 1 rfl (by decide))).mono ?_
      rintro e wf12 ⟨rfl, Ef12⟩
      clear Ef11
      go_wp2_with fail
      refine (same3_yes Ef12 (va := rf11) (vb := (.slice (some ⟨wf11.heap.size, 0, none⟩) 1 1)) (xs := [1]) (ys := [1]) (by simp) (by simp) rfl).mono ?_
      rintro e wf13 ⟨rfl, Ef13⟩
      clear Ef12
      go_wp2_with fail
      refine (of3_env (Ef13.lit2 4294967295 4294967295 4294967295 4294967295 rfl rfl (by decide) (by decide))).mono ?_
      rintro e wf14 ⟨rfl, Ef14⟩
      clear Ef13
      go_wp2_with fail
      refine (root_is Ef14 (va := (.slice (some ⟨wf13.heap.size, 0, none⟩) 2 2)) (xs := [4294967295, 4294967295]) (by simp) H39.out).mono ?_
      rintro e wf15 ⟨rf15, rfl, Ef15⟩
      clear Ef14
      go_wp2_with fail
      refine (of3_env (Ef15.lit1 4294967295 4294967295 rfl (by decide))).mono ?_
      rintro e wf16 ⟨rfl, Ef16⟩
      clear Ef15
      go_wp2_with fail
      refine (same3_yes Ef16 (va := rf15) (vb := (.slice (some ⟨wf15.heap.size, 0, none⟩) 1 1)) (xs := [4294967295]) (ys := [4294967295]) (by simp) (by simp) rfl).mono ?_
      rintro e wf17 ⟨rfl, Ef17⟩
      clear Ef16
      go_wp2_with fail
      refine (of3_env (Ef17.lit3 0 0 1 0 0 1 rfl rfl rfl (by decide) (by decide) (by decide))).mono ?_
      rintro e wf18 ⟨rfl, Ef18⟩
      clear Ef17
      go_wp2_with fail
      refine (root_is Ef18 (va := (.slice (some ⟨wf17.heap.size, 0, none⟩) 3 3)) (xs := [0, 0, 1]) (by simp) H40.out).mono ?_
      rintro e wf19 ⟨rf19, rfl, Ef19⟩
      clear Ef18
      go_wp2_with fail
      refine (of3_env (Ef19.lit2 0 1 0 1 rfl rfl (by decide) (by decide))).mono ?_
      rintro e wf20 ⟨rfl, Ef20⟩
      clear Ef19
      go_wp2_with fail
      refine (same3_yes Ef20 (va := rf19) (vb := (.slice (some ⟨wf19.heap.size, 0, none⟩) 2 2)) (xs := [0, 1]) (ys := [0, 1]) (by simp) (by simp) rfl).mono ?_
      rintro e wf21 ⟨rfl, Ef21⟩
      clear Ef20
      go_wp2_with fail
      refine (of3_env (Ef21.lit1 3 3 rfl (by decide))).mono ?_
      rintro e wf22 ⟨rfl, Ef22⟩
      clear Ef21
      go_wp2_with fail
      refine (root_is Ef22 (va := (.slice (some ⟨wf21.heap.size, 0, none⟩) 1 1)) (xs := [3]) (by simp) H41.out).mono ?_
      rintro e wf23 ⟨rf23, rfl, Ef23⟩
      clear Ef22
      go_wp2_with fail
      refine (of3_env (Ef23.lit1 1 1 rfl (by decide))).mono ?_
      rintro e wf24 ⟨rfl, Ef24⟩
      clear Ef23
      go_wp2_with fail
      refine (same3_yes Ef24 (va := rf23) (vb := (.slice (some ⟨wf23.heap.size, 0, none⟩) 1 1)) (xs := [1]) (ys := [1]) (by simp) (by simp) rfl).mono ?_
      rintro e wf25 ⟨rfl, Ef25⟩
      clear Ef24
      go_wp2_with fail
      refine (of3_env (Ef25.lit1 4 4 rfl (by decide))).mono ?_
      rintro e wf26 ⟨rfl, Ef26⟩
      clear Ef25
      go_wp2_with fail
      refine (root_is Ef26 (va := (.slice (some ⟨wf25.heap.size, 0, none⟩) 1 1)) (xs := [4]) (by simp) H42.out).mono ?_
      rintro e wf27 ⟨rf27, rfl, Ef27⟩
      clear Ef26
      go_wp2_with fail
      refine (of3_env (Ef27.lit1 2 2 rfl (by decide))).mono ?_
      rintro e wf28 ⟨rfl, Ef28⟩
      clear Ef27
      go_wp2_with fail
      refine (same3_yes Ef28 (va := rf27) (vb := (.slice (some ⟨wf27.heap.size, 0, none⟩) 1 1)) (xs := [2]) (ys := [2]) (by simp) (by simp) rfl).mono ?_
      rintro e wf29 ⟨rfl, Ef29⟩
      clear Ef28
      have HB := Lib.hid Ef29.1
      clear Ef29
      go_wp2
      go_ret
      exact ⟨rfl, HB.out⟩

end Go.Proofs.Ytidflhonhekmjaa

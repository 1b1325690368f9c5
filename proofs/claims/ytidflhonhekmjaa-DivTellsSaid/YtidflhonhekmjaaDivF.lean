/- The laws' words for quotients: calls in an environment; parts; the examples. -/
import Derived.Test.YtidflhonhekmjaaPackO
import Derived.Test.YtidflhonhekmjaaDivE
namespace Go.Proofs.Ytidflhonhekmjaa
open Go.RowKit Go.Shelf

set_option linter.unusedVariables false

section
variable {w0 w w' : World} {l : List (Value × List Nat)} {va vb vc vd : Value} {xs ys zs qs rs : List Nat}
theorem sDivQ_limbs (xs ys : List Nat) : Limbs (sDivQ xs ys) := by
  unfold sDivQ; split
  · exact lim_limbs _
  · exact limbs_nil
theorem sDivR_limbs (xs ys : List Nat) : Limbs (sDivR xs ys) := by
  unfold sDivR; split
  · exact lim_limbs _
  · exact limbs_nil
theorem sSmQ_limbs (xs : List Nat) (m : Nat) : Limbs (sSmQ xs m) := by
  unfold sSmQ; split
  · exact lim_limbs _
  · exact limbs_nil
theorem divmod_is {E : Nat} (h : Env w0 w l) (ha : (va, xs) ∈ l) (hb : (vb, ys) ∈ l) (hq : sDivQ xs ys = qs) (hr : sDivR xs ys = rs) (hE : sDivE xs ys = E) :
    Calls Try.prog 33 #[va, vb] w fun e w' => ∃ q r, e = .returned (.tuple #[q, r, .int .i64 (E : Int)]) ∧ Env w0 w' ((r, rs) :: (q, qs) :: l) := by
  subst hq hr hE
  refine (divmod_any va vb xs ys w (h.get ha) (h.get hb)).mono fun e w' hn => ?_
  obtain ⟨⟨v, v', he, ho, ho', _⟩, hbl⟩ := hn
  have e1 := h.newR (sDivQ_limbs xs ys) ho hbl
  refine ⟨v, v', he, e1.1, fun p hp => ?_⟩
  rcases List.mem_cons.1 hp with rfl | hp
  · exact ho'.arg (sDivR_limbs xs ys)
  · exact e1.2 p hp
theorem dsmall_is {E r : Nat} (h : Env w0 w l) (ha : (va, xs) ∈ l) (m : Nat) (hm : m < 4294967296) (hq : sSmQ xs m = qs) (hr : sSmR xs m = r) (hE : sSmE xs m = E) :
    Calls Try.prog 36 #[va, .int .u32 (m : Int)] w fun e w' => ∃ q, e = .returned (.tuple #[q, .int .u32 (r : Int), .int .i64 (E : Int)]) ∧ Env w0 w' ((q, qs) :: l) := by
  subst hq hr hE
  refine (dsmall_any va xs m w (h.get ha) hm).mono fun e w' hn => ?_
  obtain ⟨⟨v, he, ho⟩, hbl⟩ := hn
  exact ⟨v, he, h.newR (sSmQ_limbs xs m) ho hbl⟩
theorem root_is (h : Env w0 w l) (ha : (va, xs) ∈ l) (hz : sRoot xs = zs) : Calls Try.prog 37 #[va] w fun e w' => ∃ r, e = .returned r ∧ Env w0 w' ((r, zs) :: l) := by
  subst hz
  refine (root_any va xs w (h.get ha)).mono fun e w' hn => ?_
  obtain ⟨⟨v, he, ho⟩, hbl⟩ := hn
  exact ⟨v, he, h.newR (sRoot_limbs xs) ho hbl⟩
theorem of3_env {v : Value} (h : Env w0 w ((v, xs) :: l)) : Calls Try.prog 32 #[v] w fun e w' => e = .returned v ∧ Env w0 w' ((v, xs) :: l) := by
  have HE := Lib.hid h
  clear h
  go_enter Try.func32, Try.ntmps32
  go_wp2
  go_ret
  exact ⟨rfl, HE.out⟩
set_option maxHeartbeats 1000000 in
theorem same3_env (h : Env w0 w l) (ha : (va, xs) ∈ l) (hb : (vb, ys) ∈ l) : Calls Try.prog 34 #[va, vb] w fun e w' => e = .returned (.bool (eqb xs ys)) ∧ Env w0 w' l := by
  have c := refsame_env h ha hb
  clear h ha hb
  go_enter Try.func34, Try.ntmps34
  go_wp2_with fail
  refine c.mono ?_
  rintro e w' ⟨rfl, env⟩
  clear c
  go_wp2
  go_ret
  exact ⟨rfl, env⟩
theorem same3_yes (h : Env w0 w l) (ha : (va, xs) ∈ l) (hb : (vb, ys) ∈ l) (he : xs = ys) : Calls Try.prog 34 #[va, vb] w fun e w' => e = .returned (.bool true) ∧ Env w0 w' l := by
  have := same3_env h ha hb
  subst he
  rwa [eqb_refl] at this
theorem same3_is {b : Bool} (h : Env w0 w l) (ha : (va, xs) ∈ l) (hb : (vb, ys) ∈ l) (hx : eqb xs ys = b) : Calls Try.prog 34 #[va, vb] w fun e w' => e = .returned (.bool b) ∧ Env w0 w' l := by
  have := same3_env h ha hb
  rwa [hx] at this
theorem ok_int : ((0 : Nat) : Int) = 0 := rfl
set_option maxHeartbeats 1000000 in
theorem parts_is (h : Env w0 w l) (ha : (va, xs) ∈ l) (hb : (vb, ys) ∈ l) (hc : (vc, qs) ∈ l) (hd : (vd, rs) ∈ l) (hE : sDivE xs ys = 0) (hq : sDivQ xs ys = qs) (hr : sDivR xs ys = rs) :
    Calls Try.prog 31 #[va, vb, vc, vd] w fun e w' => e = .returned (.bool true) ∧ Env w0 w' l := by
  have c := divmod_is h ha hb hq hr hE
  have HC := Lib.hid hc
  have HD := Lib.hid hd
  clear h ha hb hc hd hE hq hr
  go_enter Try.func31, Try.ntmps31
  go_wp2_with fail
  with_reducible refine c.mono ?_
  rintro e w1 ⟨q, r, rfl, env1⟩
  clear c
  go_wp2_with fail
  refine (same3_yes env1 (va := q) (vb := vc) (xs := qs) (ys := qs) (by simp) (by simp [HC.out]) rfl).mono ?_
  rintro e w2 ⟨rfl, env2⟩
  clear env1
  go_wp2_with fail
  refine (same3_yes env2 (va := r) (vb := vd) (xs := rs) (ys := rs) (by simp) (by simp [HD.out]) rfl).mono ?_
  rintro e w3 ⟨rfl, env3⟩
  clear env2
  have HE := Lib.hid env3.pop.pop
  clear env3
  go_wp2
  go_ret
  exact ⟨rfl, HE.out⟩
end

theorem sDivE_yes {xs ys : List Nat} (hx : mayb xs = true) (hy : mayb ys = true) (h0 : 0 < ys.length) : sDivE xs ys = 0 := sDivE_ok (by rw [hx, hy]; rfl) h0
theorem sDivQ_eq {xs ys zs : List Nat} (hx : mayb xs = true) (hy : mayb ys = true) (h0 : 0 < ys.length) (hz : mayb zs = true) (hl : Limbs zs) (h : val xs / val ys = val zs) : sDivQ xs ys = zs := by
  rw [sDivQ_ok (sDivE_yes hx hy h0), h, lim_val (mayb_canon hl hz)]
theorem sDivR_eq {xs ys zs : List Nat} (hx : mayb xs = true) (hy : mayb ys = true) (h0 : 0 < ys.length) (hz : mayb zs = true) (hl : Limbs zs) (h : val xs % val ys = val zs) : sDivR xs ys = zs := by
  rw [sDivR_ok (sDivE_yes hx hy h0), h, lim_val (mayb_canon hl hz)]
theorem sRoot_eq {xs zs : List Nat} (hx : mayb xs = true) (hz : mayb zs = true) (hl : Limbs zs) (h1 : val zs * val zs ≤ val xs) (h2 : val xs < (val zs + 1) * (val zs + 1)) : sRoot xs = zs := by
  rw [sRoot_yes hx, rt_eq h1 h2, lim_val (mayb_canon hl hz)]

set_option maxRecDepth 100000 in
set_option maxHeartbeats 8000000 in
theorem awake3_any (w : World) : Calls Try.prog 30 #[] w fun e w' => e = .returned (.bool true) ∧ Below w.heap.size w w' := by
  have env0 := env_start w
  have H1 := Lib.hid (sDivE_zero (xs := [1]) (ys := []) (by decide) rfl)
  have H2 := Lib.hid (sDivQ_no (xs := [1]) (ys := []) (by rw [sDivE_zero (by decide) rfl]; decide))
  have H3 := Lib.hid (sDivR_no (xs := [1]) (ys := []) (by rw [sDivE_zero (by decide) rfl]; decide))
  have H4 := Lib.hid (show sSmE [0, 1] 10 = 0 from by decide)
  have H5 := Lib.hid (show sSmQ [0, 1] 10 = [429496729] from by unfold sSmQ; rw [if_pos (by decide), show val [0, 1] / 10 = 429496729 from by decide, lim_eq (zs := [429496729]) (by decide) (Limbs.one (by decide)) (by decide)])
  have H6 := Lib.hid (show sSmR [0, 1] 10 = 6 from by decide)
  have H7 := Lib.hid (sDivE_yes (xs := [100]) (ys := [7]) (by decide) (by decide) (by decide))
  have H8 := Lib.hid (sDivQ_eq (xs := [100]) (ys := [7]) (zs := [14]) (by decide) (by decide) (by decide) (by decide) (limbs_nil.cons (by decide)) (by decide))
  have H9 := Lib.hid (sDivR_eq (xs := [100]) (ys := [7]) (zs := [2]) (by decide) (by decide) (by decide) (by decide) (limbs_nil.cons (by decide)) (by decide))
  have H10 := Lib.hid (sDivE_yes (xs := [0, 0, 1]) (ys := [1, 1]) (by decide) (by decide) (by decide))
  have H11 := Lib.hid (sDivQ_eq (xs := [0, 0, 1]) (ys := [1, 1]) (zs := [4294967295]) (by decide) (by decide) (by decide) (by decide) (limbs_nil.cons (by decide)) (by decide))
  have H12 := Lib.hid (sDivR_eq (xs := [0, 0, 1]) (ys := [1, 1]) (zs := [1]) (by decide) (by decide) (by decide) (by decide) (limbs_nil.cons (by decide)) (by decide))
  have H13 := Lib.hid (sDivE_yes (xs := [5]) (ys := [9]) (by decide) (by decide) (by decide))
  have H14 := Lib.hid (sDivQ_eq (xs := [5]) (ys := [9]) (zs := []) (by decide) (by decide) (by decide) (by decide) limbs_nil (by decide))
  have H15 := Lib.hid (sDivR_eq (xs := [5]) (ys := [9]) (zs := [5]) (by decide) (by decide) (by decide) (by decide) (limbs_nil.cons (by decide)) (by decide))
  have H16 := Lib.hid (sRoot_eq (xs := [99]) (zs := [9]) (by decide) (by decide) (limbs_nil.cons (by decide)) (by decide) (by decide))
  have H17 := Lib.hid (sRoot_eq (xs := [100]) (zs := [10]) (by decide) (by decide) (limbs_nil.cons (by decide)) (by decide) (by decide))
  have H18 := Lib.hid (sRoot_nil)
  go_enter Try.func30, Try.ntmps30
  go_wp2_with fail
  refine (of3_env (env0.lit1 1 1 rfl (by decide))).mono ?_
  rintro e w1 ⟨rfl, env1⟩
  clear env0
  go_wp2_with fail
  refine (divmod_is env1.nil (va := (.slice (some ⟨w.heap.size, 0, none⟩) 1 1)) (vb := (.slice none 0 0)) (xs := [1]) (ys := []) (by simp) (by simp) H2.out H3.out H1.out).mono ?_
  rintro e w2 ⟨q2, r2, rfl, env2⟩
  clear env1
  go_wp2_with fail
  refine (of3_env (env2.lit2 0 1 0 1 rfl rfl (by decide) (by decide))).mono ?_
  rintro e w3 ⟨rfl, env3⟩
  clear env2
  go_wp2_with fail
  refine (dsmall_is env3 (va := (.slice (some ⟨w2.heap.size, 0, none⟩) 2 2)) (xs := [0, 1]) (by simp) 10 (by decide) H5.out H6.out H4.out).mono ?_
  rintro e w4 ⟨q4, rfl, env4⟩
  clear env3
  go_wp2_with fail
  refine (of3_env (env4.lit1 100 100 rfl (by decide))).mono ?_
  rintro e w5 ⟨rfl, env5⟩
  clear env4
  go_wp2_with fail
  refine (of3_env (env5.lit1 7 7 rfl (by decide))).mono ?_
  rintro e w6 ⟨rfl, env6⟩
  clear env5
  go_wp2_with fail
  refine (of3_env (env6.lit1 14 14 rfl (by decide))).mono ?_
  rintro e w7 ⟨rfl, env7⟩
  clear env6
  go_wp2_with fail
  refine (of3_env (env7.lit1 2 2 rfl (by decide))).mono ?_
  rintro e w8 ⟨rfl, env8⟩
  clear env7
  go_wp2_with fail
  refine (parts_is (w := w8) env8 (va := (.slice (some ⟨w4.heap.size, 0, none⟩) 1 1)) (vb := (.slice (some ⟨w5.heap.size, 0, none⟩) 1 1)) (vc := (.slice (some ⟨w6.heap.size, 0, none⟩) 1 1)) (vd := (.slice (some ⟨w7.heap.size, 0, none⟩) 1 1)) (xs := [100]) (ys := [7]) (qs := [14]) (rs := [2]) (by simp) (by simp) (by simp) (by simp) H7.out H8.out H9.out).mono ?_
  rintro e w9 ⟨rfl, env9⟩
  clear env8
  go_wp2_with fail
  refine (of3_env (env9.lit3 0 0 1 0 0 1 rfl rfl rfl (by decide) (by decide) (by decide))).mono ?_
  rintro e w10 ⟨rfl, env10⟩
  clear env9
  go_wp2_with fail
  refine (of3_env (env10.lit2 1 1 1 1 rfl rfl (by decide) (by decide))).mono ?_
  rintro e w11 ⟨rfl, env11⟩
  clear env10
  go_wp2_with fail
  refine (of3_env (env11.lit1 4294967295 4294967295 rfl (by decide))).mono ?_
  rintro e w12 ⟨rfl, env12⟩
  clear env11
  go_wp2_with fail
  refine (of3_env (env12.lit1 1 1 rfl (by decide))).mono ?_
  rintro e w13 ⟨rfl, env13⟩
  clear env12
  go_wp2_with fail
  refine (parts_is (w := w13) env13 (va := (.slice (some ⟨w9.heap.size, 0, none⟩) 3 3)) (vb := (.slice (some ⟨w10.heap.size, 0, none⟩) 2 2)) (vc := (.slice (some ⟨w11.heap.size, 0, none⟩) 1 1)) (vd := (.slice (some ⟨w12.heap.size, 0, none⟩) 1 1)) (xs := [0, 0, 1]) (ys := [1, 1]) (qs := [4294967295]) (rs := [1]) (by simp) (by simp) (by simp) (by simp) H10.out H11.out H12.out).mono ?_
  rintro e w14 ⟨rfl, env14⟩
  clear env13
  go_wp2_with fail
  refine (of3_env (env14.lit1 5 5 rfl (by decide))).mono ?_
  rintro e w15 ⟨rfl, env15⟩
  clear env14
  go_wp2_with fail
  refine (of3_env (env15.lit1 9 9 rfl (by decide))).mono ?_
  rintro e w16 ⟨rfl, env16⟩
  clear env15
  go_wp2_with fail
  refine (of3_env (env16.lit1 5 5 rfl (by decide))).mono ?_
  rintro e w17 ⟨rfl, env17⟩
  clear env16
  go_wp2_with fail
  refine (parts_is (w := w17) env17.nil (va := (.slice (some ⟨w14.heap.size, 0, none⟩) 1 1)) (vb := (.slice (some ⟨w15.heap.size, 0, none⟩) 1 1)) (vc := (.slice none 0 0)) (vd := (.slice (some ⟨w16.heap.size, 0, none⟩) 1 1)) (xs := [5]) (ys := [9]) (qs := []) (rs := [5]) (by simp) (by simp) (by simp) (by simp) H13.out H14.out H15.out).mono ?_
  rintro e w18 ⟨rfl, env18⟩
  clear env17
  go_wp2_with fail
  refine (of3_env (env18.lit1 99 99 rfl (by decide))).mono ?_
  rintro e w19 ⟨rfl, env19⟩
  clear env18
  go_wp2_with fail
  refine (root_is env19 (va := (.slice (some ⟨w18.heap.size, 0, none⟩) 1 1)) (xs := [99]) (by simp) H16.out).mono ?_
  rintro e w20 ⟨r20, rfl, env20⟩
  clear env19
  go_wp2_with fail
  refine (of3_env (env20.lit1 9 9 rfl (by decide))).mono ?_
  rintro e w21 ⟨rfl, env21⟩
  clear env20
  go_wp2_with fail
  refine (same3_yes env21 (va := r20) (vb := (.slice (some ⟨w20.heap.size, 0, none⟩) 1 1)) (xs := [9]) (ys := [9]) (by simp) (by simp) rfl).mono ?_
  rintro e w22 ⟨rfl, env22⟩
  clear env21
  go_wp2_with fail
  refine (of3_env (env22.lit1 100 100 rfl (by decide))).mono ?_
  rintro e w23 ⟨rfl, env23⟩
  clear env22
  go_wp2_with fail
  refine (root_is env23 (va := (.slice (some ⟨w22.heap.size, 0, none⟩) 1 1)) (xs := [100]) (by simp) H17.out).mono ?_
  rintro e w24 ⟨r24, rfl, env24⟩
  clear env23
  go_wp2_with fail
  refine (of3_env (env24.lit1 10 10 rfl (by decide))).mono ?_
  rintro e w25 ⟨rfl, env25⟩
  clear env24
  go_wp2_with fail
  refine (same3_yes env25 (va := r24) (vb := (.slice (some ⟨w24.heap.size, 0, none⟩) 1 1)) (xs := [10]) (ys := [10]) (by simp) (by simp) rfl).mono ?_
  rintro e w26 ⟨rfl, env26⟩
  clear env25
  go_wp2_with fail
  refine (root_is env26.nil (va := (.slice none 0 0)) (xs := []) (by simp) H18.out).mono ?_
  rintro e w27 ⟨r27, rfl, env27⟩
  clear env26
  obtain ⟨Az, capz, rfl, _⟩ := env27.get (v := r27) (xs := []) (by simp)
  go_wp2_with fail
  refine (of3_env (env27.lit1 429496729 429496729 rfl (by decide))).mono ?_
  rintro e w28 ⟨rfl, env28⟩
  clear env27
  go_wp2_with fail
  refine (same3_yes env28 (va := q4) (vb := (.slice (some ⟨w27.heap.size, 0, none⟩) 1 1)) (xs := [429496729]) (ys := [429496729]) (by simp) (by simp) rfl).mono ?_
  rintro e w29 ⟨rfl, env29⟩
  clear env28
  have HB := Lib.hid env29.1
  clear env29
  go_wp2
  go_ret
  exact ⟨rfl, HB.out⟩
theorem awake3_env {w0 w : World} {l : List (Value × List Nat)} (h : Env w0 w l) : Calls Try.prog 30 #[] w fun e w' => e = .returned (.bool true) ∧ Env w0 w' l :=
  (awake3_any w).mono fun _ _ ⟨he, hb⟩ => ⟨he, h.step hb⟩

end Go.Proofs.Ytidflhonhekmjaa

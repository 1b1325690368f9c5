/- ref02: Sum. -/
import Derived.Outline
import Derived.Deep.RegionWith
import Derived.Deep.DeepCutAuto
import Derived.Test.YtidflhonhekmjaaPackS
import Derived.Test.YtidflhonhekmjaaRefT
namespace Go.Proofs.Ytidflhonhekmjaa
open Go.RowKit Go.Shelf

set_option linter.unusedVariables false

theorem dot_mono {L M : List (List Nat)} : ∀ {n k : Nat}, k ≤ n → dot L M k ≤ dot L M n
  | 0, k, h => by rw [show k = 0 from by omega]; exact Nat.le_refl _
  | n + 1, k, h => by
    rcases Nat.lt_or_ge n k with h1 | h1
    · rw [show k = n + 1 from by omega]; exact Nat.le_refl _
    · rw [dot]; exact Nat.le_trans (dot_mono h1) (Nat.le_add_right _ _)
theorem sum_big {L M : List (List Nat)} {k : Nat} (hk : k < min L.length M.length) (h : ¬ (lim (dot L M (k + 1))).length ≤ 65536) : sSum L M = [] := by
  unfold sSum
  split
  · exact clip_not fun h2 => h (Nat.le_trans (lim_len_mono (dot_mono hk)) h2)
  · rfl
theorem lim_pos_iff {n : Nat} : 0 < (lim n).length ↔ 0 < n := by
  constructor
  · intro h
    rcases Nat.eq_zero_or_pos n with h1 | h1
    · subst h1; rw [lim_zero] at h; simp at h
    · exact h1
  · intro h
    exact List.length_pos_iff.2 fun e => by have := lim_eq_nil.1 e; omega

/-- What a round of Sum is handed. -/
structure SumAt (w wr : World) (L M : List (List Nat)) (nL nM k : Nat) (b off b' off' : Nat) (Ax Ay : Option Addr) (xs ys : List Nat) (capx capy : Nat) (Ao : Option Addr) (co : Nat) : Prop where
  lt : k < min L.length M.length
  c1 : wr.cell? ⟨b, off + k, none⟩ = some (.slice Ax xs.length capx)
  c2 : wr.cell? ⟨b', off' + k, none⟩ = some (.slice Ay ys.length capy)
  b1 : b < wr.heap.size
  b2 : b' < wr.heap.size
  a1 : Arg wr (.slice Ax xs.length capx) xs
  a2 : Arg wr (.slice Ay ys.length capy) ys
  xk : L[k]?.getD [] = xs
  yk : M[k]?.getD [] = ys
  ok : allOk L M k = true
  len : (lim (dot L M k)).length ≤ 65536
  own : Own wr w.heap.size (.slice Ao (lim (dot L M k)).length co) (lim (dot L M k))
  below : Below w.heap.size w wr

set_option maxRecDepth 100000 in
set_option maxHeartbeats 16000000 in
theorem rsum_any (va vb : Value) (L M : List (List Nat)) (w : World) (ha : Rows2 w va L) (hv : Rows2 w vb M) : Calls Try.prog 28 #[va, vb] w (NewL w (sSum L M)) := by
  obtain ⟨A, cap, vs, rfl, hl, hva, hca⟩ := id ha
  obtain ⟨A', cap', vs', rfl, hl', hvb, hcb⟩ := id hv
  unfold maxLen at hl hl'
  have HVA := Lib.hid hva
  have HVB := Lib.hid hvb
  have HCA := Lib.hid hca
  have HCB := Lib.hid hcb
  clear ha hv hva hvb hca hcb
  generalize hnL : L.length = nL at *
  generalize hnM : M.length = nM at *
  have HNL := Lib.hid hnL
  have HNM := Lib.hid hnM
  clear hnL hnM
  go_enter Try.func28, Try.ntmps28
  go_wp2
  go_loopw [5, 6] (fun s i wr => ∃ k : Nat, k ≤ min nL nM ∧ i = .int .i64 (k : Int) ∧ allOk L M k = true ∧ (lim (dot L M k)).length ≤ 65536 ∧ Own wr w.heap.size s (lim (dot L M k)) ∧ Below w.heap.size w wr) (fun _ i _ => min nL nM - (intOf i).toNat)
  case atStart => exact ⟨0, Nat.zero_le _, rfl, rfl, by rw [dot, lim_zero]; simp, by rw [dot, lim_zero]; exact Own.nil _ _, Below.refl _ _⟩
  case round =>
    obtain ⟨k, hk, rfl, hok, hdl, ho, hb⟩ := hrel
    rcases Nat.lt_or_ge k (min nL nM) with hlt | hge
    · have kL : k < nL := by omega
      have kM : k < nM := by omega
      obtain ⟨b, off, rfl, hblt, hcl⟩ := HCA.out (by omega)
      obtain ⟨b', off', rfl, hblt', hcl'⟩ := HCB.out (by omega)
      have x1 := (hb.cell (p := ⟨b, off + k, none⟩) hblt).trans (hcl k kL)
      have x2 := (hb.cell (p := ⟨b', off' + k, none⟩) hblt').trans (hcl' k kM)
      have hA := (HVA.out k kL).below hb
      have hB := (HVB.out k kM).below hb
      clear hcl hcl'
      generalize hvk : vs[k]?.getD undef = vk at *
      generalize hvk' : vs'[k]?.getD undef = vk' at *
      generalize hxk : L[k]?.getD [] = xs at *
      generalize hyk : M[k]?.getD [] = ys at *
      clear hvk hvk'
      obtain ⟨Ax, capx, rfl, p1, p2, rx⟩ := id hA
      obtain ⟨Ay, capy, rfl, q1, q2, ry⟩ := id hB
      obtain ⟨Ao, co, rfl⟩ := own_form ho rfl
      have HS : Hid (SumAt w wr L M nL nM k b off b' off' Ax Ay xs ys capx capy Ao co) := ⟨by rw [HNL.out, HNM.out]; exact hlt, x1, x2, Nat.lt_of_lt_of_le hblt hb.size, Nat.lt_of_lt_of_le hblt' hb.size, hA, hB, hxk, hyk, hok, hdl, ho, hb⟩
      have cM := rmul_any (.slice Ax xs.length capx) (.slice Ay ys.length capy) xs ys wr.drew hA hB
      have y1 : wr.drew.cell? ⟨b, off + k, none⟩ = some (.slice Ax xs.length capx) := x1
      have y2 : wr.drew.cell? ⟨b', off' + k, none⟩ = some (.slice Ay ys.length capy) := x2
      have z1 := Lib.hid fun W (h : Below wr.heap.size wr W) => (h.cell (p := ⟨b, off + k, none⟩) (Nat.lt_of_lt_of_le hblt hb.size)).trans x1
      have z2 := Lib.hid fun W (h : Below wr.heap.size wr W) => (h.cell (p := ⟨b', off' + k, none⟩) (Nat.lt_of_lt_of_le hblt' hb.size)).trans x2
      have lx : xs.length ≤ 9223372036854775807 := by unfold maxLen at p2; omega
      have ly : ys.length ≤ 9223372036854775807 := by unfold maxLen at q2; omega
      have hgo : ∀ (v : Value) (w1 : World), True := fun _ _ => trivial
      have hdot : Hid (dot L M (k + 1) = dot L M k + val xs * val ys) := by show _ = _; rw [dot, hxk, hyk]
      clear x1 x2 hxk hyk hok ho hb p1 p2 q1 q2 hdl hgo
      rcases hx : mayb xs with _ | _
      · have HZ := Lib.hid (sSum_no HS.out.lt (by unfold okAt; rw [HS.out.xk, hx]; rfl))
        go_upto_region 5 with fail
        go_region_with ((go_at_call 56; (with_reducible refine cM.mono ?_); rintro e w1 ⟨⟨r1, rfl, ho1⟩, hb1⟩))
        all_goals
          have hbw : Below wr.heap.size wr w1 := (Below.refl wr.heap.size wr).drew.trans hb1
          have u1 := z1.out w1 hbw
          have u2 := z2.out w1 hbw
          have HBW := Lib.hid hbw
          have cA := rmay_e3 (env_start1 (HS.out.a1.below hbw)) (va := .slice Ax xs.length capx) (xs := xs) (by simp) false hx
          have HB1 := Lib.hid (HS.out.below.trans (HBW.out.mono HS.out.below.size))
          clear ho1 hb1 hbw hx y1 y2
          go_wp2_with fail
          with_reducible refine cA.mono ?_
          rintro e w' ⟨rfl, hw⟩
          obtain rfl := hw.symm
          clear cA
          go_wp2
          go_ret
          exact ⟨⟨_, rfl, by rw [HZ.out]; exact Own.nil _ _⟩, HB1.out⟩
      rcases hy : mayb ys with _ | _
      · have HZ := Lib.hid (sSum_no HS.out.lt (by unfold okAt; rw [HS.out.yk, hy, Bool.and_false]; rfl))
        go_upto_region 5 with fail
        go_region_with ((go_at_call 56; (with_reducible refine cM.mono ?_); rintro e w1 ⟨⟨r1, rfl, ho1⟩, hb1⟩))
        all_goals
          have hbw : Below wr.heap.size wr w1 := (Below.refl wr.heap.size wr).drew.trans hb1
          have u1 := z1.out w1 hbw
          have u2 := z2.out w1 hbw
          have HBW := Lib.hid hbw
          have cA := rmay_e3 (env_start1 (HS.out.a1.below hbw)) (va := .slice Ax xs.length capx) (xs := xs) (by simp) true hx
          have cB := rmay_e3 (env_start1 (HS.out.a2.below hbw)) (va := .slice Ay ys.length capy) (xs := ys) (by simp) false hy
          have HB1 := Lib.hid (HS.out.below.trans (HBW.out.mono HS.out.below.size))
          clear ho1 hb1 hbw hx hy y1 y2
          go_wp2_with fail
          with_reducible refine cA.mono ?_
          rintro e w' ⟨rfl, hw⟩
          obtain rfl := hw.symm
          clear cA
          go_wp2_with fail
          with_reducible refine cB.mono ?_
          rintro e w' ⟨rfl, hw⟩
          obtain rfl := hw.symm
          clear cB
          go_wp2
          go_ret
          exact ⟨⟨_, rfl, by rw [HZ.out]; exact Own.nil _ _⟩, HB1.out⟩
      have hxm := (mayb_iff.1 hx).1
      have hym := (mayb_iff.1 hy).1
      have cx := mayb_canon HS.out.a1.limbs hx
      have cy := mayb_canon HS.out.a2.limbs hy
      have hsm := sMul_yes (xs := xs) (ys := ys) (by rw [hx, hy]; rfl)
      by_cases hP : (lim (val xs * val ys)).length ≤ 65536
      · rw [hsm, clip_of hP] at cM
        have hok1 : Hid (allOk L M (k + 1) = true) := by
          have hLf : longB xs.length ys.length = false := by
            rcases hL : longB xs.length ys.length with _ | _
            · rfl
            · have h1 := long_clip cx cy hL
              rw [clip_of hP] at h1
              have h2 := lim_eq_nil.1 h1
              unfold longB at hL
              have h3 := of_decide_eq_true hL
              have h4 := Nat.mul_pos (cx.val_pos (fun e => by rw [e] at h3; simp at h3)) (cy.val_pos (fun e => by rw [e] at h3; simp at h3))
              omega
          show _ = _
          rw [allOk_succ, HS.out.ok]; unfold okAt; rw [HS.out.xk, HS.out.yk, hx, hy, hLf]; rfl
        generalize hPv : val xs * val ys = P at *
        generalize hDv : dot L M k = D at *
        have hDl : (lim D).length ≤ 65536 := by rw [← hDv]; exact HS.out.len
        have hmD := mayb_lim hDl
        have hmP := mayb_lim hP
        have hadd : sAdd (lim D) (lim P) = clip (D + P) := by rw [sAdd_yes (by rw [hmD, hmP]; rfl), val_lim, val_lim]
        have HOD := HS.out.own
        rw [hDv] at HOD
        have hOD := Lib.hid HOD
        clear HOD hmD hmP
        have lD := hDl
        by_cases hP0 : 0 < P
        · have lP := lim_pos_iff.2 hP0
          have zP : (((lim P).length : Int) == 0) = false := beq_eq_false_iff_ne.2 (by omega)
          by_cases HF : (lim (D + P)).length ≤ 65536
          · have lN := lim_pos_iff.2 (show 0 < D + P by omega)
            have zN : (((lim (D + P)).length : Int) == 0) = false := beq_eq_false_iff_ne.2 (by omega)
            have HADD := Lib.hid (show sAdd (lim D) (lim P) = lim (D + P) by rw [hadd, clip_of HF])
            have HLN : Hid ((lim (dot L M (k + 1))).length ≤ 65536) := by show _ ≤ _; rw [hdot.out]; exact HF
            have HNX : Hid (∀ {W v}, Own W w.heap.size v (lim (D + P)) → Own W w.heap.size v (lim (dot L M (k + 1)))) := by intro W v h; rw [hdot.out]; exact h
            clear hadd HF hPv hDv hxm hym cx cy hsm
            go_upto_region 5 with fail
            go_region_with ((go_at_call 56; (with_reducible refine cM.mono ?_); rintro e w1 ⟨⟨r1, rfl, ho1⟩, hb1⟩))
            all_goals
              have hbw : Below wr.heap.size wr w1 := (Below.refl wr.heap.size wr).drew.trans hb1
              have u1 := z1.out w1 hbw
              have u2 := z2.out w1 hbw
              have HBW := Lib.hid hbw
              have cA := rmay_e3 (env_start1 (HS.out.a1.below hbw)) (va := .slice Ax xs.length capx) (xs := xs) (by simp) true hx
              have cB := rmay_e3 (env_start1 (HS.out.a2.below hbw)) (va := .slice Ay ys.length capy) (xs := ys) (by simp) true hy
              have HO1 := Lib.hid (show Own w1 wr.heap.size r1 (lim P) from ho1)
              have e2 : Env w1 w1 [(.slice Ao (lim D).length co, lim D), (r1, lim P)] := ((env_start w1).add (Below.refl _ _) (HO1.out.arg (by first | exact lim_limbs _ | (rw [← lim_zero]; exact lim_limbs 0)))).add (Below.refl _ _) ((hOD.out.below hbw).arg (by first | exact lim_limbs _ | (rw [← lim_zero]; exact lim_limbs 0)))
              clear ho1 hb1 hbw hx hy y1 y2
              obtain ⟨A1, c1, rfl⟩ := own_form HO1.out rfl
              go_wp2_with fail
              with_reducible refine cA.mono ?_
              rintro e w' ⟨rfl, hw⟩
              obtain rfl := hw.symm
              clear cA
              go_wp2_with fail
              with_reducible refine cB.mono ?_
              rintro e w' ⟨rfl, hw⟩
              obtain rfl := hw.symm
              clear cB
              go_wp2_with fail
              refine (radd_e3 e2 (va := .slice Ao (lim D).length co) (xs := lim D) (vb := .slice A1 (lim P).length c1) (ys := lim P) (by simp) (by simp) HADD.out).mono ?_
              rintro e w2 ⟨⟨r2, rfl, ho2⟩, hb2⟩
              obtain ⟨A2, c2, rfl⟩ := own_form ho2 rfl
              have HB1 := Lib.hid (HS.out.below.trans (HBW.out.mono HS.out.below.size))
              have HB2 := Lib.hid (HB1.out.trans (hb2.mono HB1.out.size))
              have HO2 := Lib.hid (ho2.more (B' := w.heap.size) HB1.out.size)
              clear e2 ho2 hb2
              go_wp2_with fail
              go_roundw
              case rel => exact ⟨k + 1, by omega, by go_num, hok1.out, HLN.out, HNX.out HO2.out, HB2.out⟩
              case measure => simp [intOf]; omega
          · have HADD := Lib.hid (show sAdd (lim D) (lim P) = [] by rw [hadd, clip_not HF])
            have HZ := Lib.hid (sum_big HS.out.lt (by rw [hdot.out]; exact HF))
            clear hadd HF hPv hDv hxm hym cx cy hsm
            go_upto_region 5 with fail
            go_region_with ((go_at_call 56; (with_reducible refine cM.mono ?_); rintro e w1 ⟨⟨r1, rfl, ho1⟩, hb1⟩))
            all_goals
              have hbw : Below wr.heap.size wr w1 := (Below.refl wr.heap.size wr).drew.trans hb1
              have u1 := z1.out w1 hbw
              have u2 := z2.out w1 hbw
              have HBW := Lib.hid hbw
              have cA := rmay_e3 (env_start1 (HS.out.a1.below hbw)) (va := .slice Ax xs.length capx) (xs := xs) (by simp) true hx
              have cB := rmay_e3 (env_start1 (HS.out.a2.below hbw)) (va := .slice Ay ys.length capy) (xs := ys) (by simp) true hy
              have HO1 := Lib.hid (show Own w1 wr.heap.size r1 (lim P) from ho1)
              have e2 : Env w1 w1 [(.slice Ao (lim D).length co, lim D), (r1, lim P)] := ((env_start w1).add (Below.refl _ _) (HO1.out.arg (by first | exact lim_limbs _ | (rw [← lim_zero]; exact lim_limbs 0)))).add (Below.refl _ _) ((hOD.out.below hbw).arg (by first | exact lim_limbs _ | (rw [← lim_zero]; exact lim_limbs 0)))
              clear ho1 hb1 hbw hx hy y1 y2
              obtain ⟨A1, c1, rfl⟩ := own_form HO1.out rfl
              go_wp2_with fail
              with_reducible refine cA.mono ?_
              rintro e w' ⟨rfl, hw⟩
              obtain rfl := hw.symm
              clear cA
              go_wp2_with fail
              with_reducible refine cB.mono ?_
              rintro e w' ⟨rfl, hw⟩
              obtain rfl := hw.symm
              clear cB
              go_wp2_with fail
              refine (radd_e3 e2 (va := .slice Ao (lim D).length co) (xs := lim D) (vb := .slice A1 (lim P).length c1) (ys := lim P) (by simp) (by simp) HADD.out).mono ?_
              rintro e w2 ⟨⟨r2, rfl, ho2⟩, hb2⟩
              obtain ⟨A2, c2, rfl⟩ := own_form ho2 rfl
              have HB1 := Lib.hid (HS.out.below.trans (HBW.out.mono HS.out.below.size))
              have HB2 := Lib.hid (HB1.out.trans (hb2.mono HB1.out.size))
              have HO2 := Lib.hid (ho2.more (B' := w.heap.size) HB1.out.size)
              clear e2 ho2 hb2
              go_wp2
              go_ret
              exact ⟨⟨_, rfl, by rw [HZ.out]; exact Own.nil _ _⟩, HB2.out⟩
        · obtain rfl : P = 0 := by omega
          have HF : (lim (D + 0)).length ≤ 65536 := hDl
          have HADD := Lib.hid (show sAdd (lim D) (lim 0) = lim (D) from hadd.trans (clip_of HF))
          have HLN : Hid ((lim (dot L M (k + 1))).length ≤ 65536) := by show _ ≤ _; rw [hdot.out]; exact HF
          have HNX : Hid (∀ {W v}, Own W w.heap.size v (lim (D)) → Own W w.heap.size v (lim (dot L M (k + 1)))) := by intro W v h; rw [hdot.out]; exact h
          have hab : xs.length = 0 ∨ ys.length = 0 := by
            rcases Nat.eq_zero_or_pos xs.length with h1 | h1
            · exact .inl h1
            · rcases Nat.eq_zero_or_pos ys.length with h2 | h2
              · exact .inr h2
              · have h4 := Nat.mul_pos (cx.val_pos (fun e => by rw [e] at h1; simp at h1)) (cy.val_pos (fun e => by rw [e] at h2; simp at h2))
                omega
          rw [lim_zero] at *
          by_cases hD0 : 0 < D
          · have lN := lim_pos_iff.2 hD0
            have zN : (((lim D).length : Int) == 0) = false := beq_eq_false_iff_ne.2 (by omega)
            clear hadd HF hPv hDv hxm hym cx cy hsm
            rcases Nat.eq_zero_or_pos xs.length with h1 | h1
            · have h1' : ¬ (0 < xs.length) := by omega
              clear h1 hab
              go_upto_region 5 with fail
              go_region_with ((go_at_call 56; (with_reducible refine cM.mono ?_); rintro e w1 ⟨⟨r1, rfl, ho1⟩, hb1⟩))
              all_goals
                have hbw : Below wr.heap.size wr w1 := (Below.refl wr.heap.size wr).drew.trans hb1
                have u1 := z1.out w1 hbw
                have u2 := z2.out w1 hbw
                have HBW := Lib.hid hbw
                have cA := rmay_e3 (env_start1 (HS.out.a1.below hbw)) (va := .slice Ax xs.length capx) (xs := xs) (by simp) true hx
                have cB := rmay_e3 (env_start1 (HS.out.a2.below hbw)) (va := .slice Ay ys.length capy) (xs := ys) (by simp) true hy
                have HO1 := Lib.hid (show Own w1 wr.heap.size r1 ([]) from ho1)
                have e2 : Env w1 w1 [(.slice Ao (lim D).length co, lim D), (r1, [])] := ((env_start w1).add (Below.refl _ _) (HO1.out.arg (by first | exact lim_limbs _ | (rw [← lim_zero]; exact lim_limbs 0)))).add (Below.refl _ _) ((hOD.out.below hbw).arg (by first | exact lim_limbs _ | (rw [← lim_zero]; exact lim_limbs 0)))
                clear ho1 hb1 hbw hx hy y1 y2
                obtain ⟨A1, c1, rfl⟩ := own_form HO1.out rfl
                go_wp2_with fail
                with_reducible refine cA.mono ?_
                rintro e w' ⟨rfl, hw⟩
                obtain rfl := hw.symm
                clear cA
                go_wp2_with fail
                with_reducible refine cB.mono ?_
                rintro e w' ⟨rfl, hw⟩
                obtain rfl := hw.symm
                clear cB
                go_wp2_with fail
                refine (radd_e3 e2 (va := .slice Ao (lim D).length co) (xs := lim D) (vb := .slice A1 0 c1) (ys := []) (by simp) (by simp) HADD.out).mono ?_
                rintro e w2 ⟨⟨r2, rfl, ho2⟩, hb2⟩
                obtain ⟨A2, c2, rfl⟩ := own_form ho2 rfl
                have HB1 := Lib.hid (HS.out.below.trans (HBW.out.mono HS.out.below.size))
                have HB2 := Lib.hid (HB1.out.trans (hb2.mono HB1.out.size))
                have HO2 := Lib.hid (ho2.more (B' := w.heap.size) HB1.out.size)
                clear e2 ho2 hb2
                go_wp2_with fail
                go_roundw
                case rel => exact ⟨k + 1, by omega, by go_num, hok1.out, HLN.out, HNX.out HO2.out, HB2.out⟩
                case measure => simp [intOf]; omega
            · have h2 : ys.length = 0 := by omega
              have h2' : ¬ (0 < ys.length) := by omega
              clear h2 hab
              go_upto_region 5 with fail
              go_region_with ((go_at_call 56; (with_reducible refine cM.mono ?_); rintro e w1 ⟨⟨r1, rfl, ho1⟩, hb1⟩))
              all_goals
                have hbw : Below wr.heap.size wr w1 := (Below.refl wr.heap.size wr).drew.trans hb1
                have u1 := z1.out w1 hbw
                have u2 := z2.out w1 hbw
                have HBW := Lib.hid hbw
                have cA := rmay_e3 (env_start1 (HS.out.a1.below hbw)) (va := .slice Ax xs.length capx) (xs := xs) (by simp) true hx
                have cB := rmay_e3 (env_start1 (HS.out.a2.below hbw)) (va := .slice Ay ys.length capy) (xs := ys) (by simp) true hy
                have HO1 := Lib.hid (show Own w1 wr.heap.size r1 ([]) from ho1)
                have e2 : Env w1 w1 [(.slice Ao (lim D).length co, lim D), (r1, [])] := ((env_start w1).add (Below.refl _ _) (HO1.out.arg (by first | exact lim_limbs _ | (rw [← lim_zero]; exact lim_limbs 0)))).add (Below.refl _ _) ((hOD.out.below hbw).arg (by first | exact lim_limbs _ | (rw [← lim_zero]; exact lim_limbs 0)))
                clear ho1 hb1 hbw hx hy y1 y2
                obtain ⟨A1, c1, rfl⟩ := own_form HO1.out rfl
                go_wp2_with fail
                with_reducible refine cA.mono ?_
                rintro e w' ⟨rfl, hw⟩
                obtain rfl := hw.symm
                clear cA
                go_wp2_with fail
                with_reducible refine cB.mono ?_
                rintro e w' ⟨rfl, hw⟩
                obtain rfl := hw.symm
                clear cB
                go_wp2_with fail
                refine (radd_e3 e2 (va := .slice Ao (lim D).length co) (xs := lim D) (vb := .slice A1 0 c1) (ys := []) (by simp) (by simp) HADD.out).mono ?_
                rintro e w2 ⟨⟨r2, rfl, ho2⟩, hb2⟩
                obtain ⟨A2, c2, rfl⟩ := own_form ho2 rfl
                have HB1 := Lib.hid (HS.out.below.trans (HBW.out.mono HS.out.below.size))
                have HB2 := Lib.hid (HB1.out.trans (hb2.mono HB1.out.size))
                have HO2 := Lib.hid (ho2.more (B' := w.heap.size) HB1.out.size)
                clear e2 ho2 hb2
                go_wp2_with fail
                go_roundw
                case rel => exact ⟨k + 1, by omega, by go_num, hok1.out, HLN.out, HNX.out HO2.out, HB2.out⟩
                case measure => simp [intOf]; omega
          · obtain rfl : D = 0 := by omega
            clear hadd HF hPv hDv hxm hym cx cy hsm
            rw [lim_zero] at *
            rcases Nat.eq_zero_or_pos xs.length with h1 | h1
            · have h1' : ¬ (0 < xs.length) := by omega
              clear h1 hab
              go_upto_region 5 with fail
              go_region_with ((go_at_call 56; (with_reducible refine cM.mono ?_); rintro e w1 ⟨⟨r1, rfl, ho1⟩, hb1⟩))
              all_goals
                have hbw : Below wr.heap.size wr w1 := (Below.refl wr.heap.size wr).drew.trans hb1
                have u1 := z1.out w1 hbw
                have u2 := z2.out w1 hbw
                have HBW := Lib.hid hbw
                have cA := rmay_e3 (env_start1 (HS.out.a1.below hbw)) (va := .slice Ax xs.length capx) (xs := xs) (by simp) true hx
                have cB := rmay_e3 (env_start1 (HS.out.a2.below hbw)) (va := .slice Ay ys.length capy) (xs := ys) (by simp) true hy
                have HO1 := Lib.hid (show Own w1 wr.heap.size r1 ([]) from ho1)
                have e2 : Env w1 w1 [(.slice Ao 0 co, []), (r1, [])] := ((env_start w1).add (Below.refl _ _) (HO1.out.arg (by first | exact lim_limbs _ | (rw [← lim_zero]; exact lim_limbs 0)))).add (Below.refl _ _) ((hOD.out.below hbw).arg (by first | exact lim_limbs _ | (rw [← lim_zero]; exact lim_limbs 0)))
                clear ho1 hb1 hbw hx hy y1 y2
                obtain ⟨A1, c1, rfl⟩ := own_form HO1.out rfl
                go_wp2_with fail
                with_reducible refine cA.mono ?_
                rintro e w' ⟨rfl, hw⟩
                obtain rfl := hw.symm
                clear cA
                go_wp2_with fail
                with_reducible refine cB.mono ?_
                rintro e w' ⟨rfl, hw⟩
                obtain rfl := hw.symm
                clear cB
                go_wp2_with fail
                refine (radd_e3 e2 (va := .slice Ao 0 co) (xs := []) (vb := .slice A1 0 c1) (ys := []) (by simp) (by simp) HADD.out).mono ?_
                rintro e w2 ⟨⟨r2, rfl, ho2⟩, hb2⟩
                obtain ⟨A2, c2, rfl⟩ := own_form ho2 rfl
                have HB1 := Lib.hid (HS.out.below.trans (HBW.out.mono HS.out.below.size))
                have HB2 := Lib.hid (HB1.out.trans (hb2.mono HB1.out.size))
                have HO2 := Lib.hid (ho2.more (B' := w.heap.size) HB1.out.size)
                clear e2 ho2 hb2
                go_wp2_with fail
                go_roundw
                case rel => exact ⟨k + 1, by omega, by go_num, hok1.out, HLN.out, HNX.out HO2.out, HB2.out⟩
                case measure => simp [intOf]; omega
            · have h2 : ys.length = 0 := by omega
              have h2' : ¬ (0 < ys.length) := by omega
              clear h2 hab
              go_upto_region 5 with fail
              go_region_with ((go_at_call 56; (with_reducible refine cM.mono ?_); rintro e w1 ⟨⟨r1, rfl, ho1⟩, hb1⟩))
              all_goals
                have hbw : Below wr.heap.size wr w1 := (Below.refl wr.heap.size wr).drew.trans hb1
                have u1 := z1.out w1 hbw
                have u2 := z2.out w1 hbw
                have HBW := Lib.hid hbw
                have cA := rmay_e3 (env_start1 (HS.out.a1.below hbw)) (va := .slice Ax xs.length capx) (xs := xs) (by simp) true hx
                have cB := rmay_e3 (env_start1 (HS.out.a2.below hbw)) (va := .slice Ay ys.length capy) (xs := ys) (by simp) true hy
                have HO1 := Lib.hid (show Own w1 wr.heap.size r1 ([]) from ho1)
                have e2 : Env w1 w1 [(.slice Ao 0 co, []), (r1, [])] := ((env_start w1).add (Below.refl _ _) (HO1.out.arg (by first | exact lim_limbs _ | (rw [← lim_zero]; exact lim_limbs 0)))).add (Below.refl _ _) ((hOD.out.below hbw).arg (by first | exact lim_limbs _ | (rw [← lim_zero]; exact lim_limbs 0)))
                clear ho1 hb1 hbw hx hy y1 y2
                obtain ⟨A1, c1, rfl⟩ := own_form HO1.out rfl
                go_wp2_with fail
                with_reducible refine cA.mono ?_
                rintro e w' ⟨rfl, hw⟩
                obtain rfl := hw.symm
                clear cA
                go_wp2_with fail
                with_reducible refine cB.mono ?_
                rintro e w' ⟨rfl, hw⟩
                obtain rfl := hw.symm
                clear cB
                go_wp2_with fail
                refine (radd_e3 e2 (va := .slice Ao 0 co) (xs := []) (vb := .slice A1 0 c1) (ys := []) (by simp) (by simp) HADD.out).mono ?_
                rintro e w2 ⟨⟨r2, rfl, ho2⟩, hb2⟩
                obtain ⟨A2, c2, rfl⟩ := own_form ho2 rfl
                have HB1 := Lib.hid (HS.out.below.trans (HBW.out.mono HS.out.below.size))
                have HB2 := Lib.hid (HB1.out.trans (hb2.mono HB1.out.size))
                have HO2 := Lib.hid (ho2.more (B' := w.heap.size) HB1.out.size)
                clear e2 ho2 hb2
                go_wp2_with fail
                go_roundw
                case rel => exact ⟨k + 1, by omega, by go_num, hok1.out, HLN.out, HNX.out HO2.out, HB2.out⟩
                case measure => simp [intOf]; omega
      · have hPn : clip (val xs * val ys) = [] := clip_not hP
        rw [hsm, hPn] at cM
        have HZ := Lib.hid (sum_big HS.out.lt (by rw [hdot.out]; exact fun h => hP (Nat.le_trans (lim_len_mono (Nat.le_add_left _ _)) h)))
        have lx0 : 0 < xs.length := by
          rcases Nat.eq_zero_or_pos xs.length with h1 | h1
          · exfalso; apply hP; rw [List.eq_nil_of_length_eq_zero h1, show val [] = 0 from rfl, Nat.zero_mul, lim_zero]; simp
          · exact h1
        have ly0 : 0 < ys.length := by
          rcases Nat.eq_zero_or_pos ys.length with h1 | h1
          · exfalso; apply hP; rw [List.eq_nil_of_length_eq_zero h1, show val [] = 0 from rfl, Nat.mul_zero, lim_zero]; simp
          · exact h1
        clear hxm hym cx cy hsm hPn hP
        go_upto_region 5 with fail
        go_region_with ((go_at_call 56; (with_reducible refine cM.mono ?_); rintro e w1 ⟨⟨r1, rfl, ho1⟩, hb1⟩))
        all_goals
          have hbw : Below wr.heap.size wr w1 := (Below.refl wr.heap.size wr).drew.trans hb1
          have u1 := z1.out w1 hbw
          have u2 := z2.out w1 hbw
          have HBW := Lib.hid hbw
          have cA := rmay_e3 (env_start1 (HS.out.a1.below hbw)) (va := .slice Ax xs.length capx) (xs := xs) (by simp) true hx
          have cB := rmay_e3 (env_start1 (HS.out.a2.below hbw)) (va := .slice Ay ys.length capy) (xs := ys) (by simp) true hy
          obtain ⟨A1, c1, rfl⟩ := own_form ho1 rfl
          have HB1 := Lib.hid (HS.out.below.trans (HBW.out.mono HS.out.below.size))
          clear ho1 hb1 hbw hx hy y1 y2
          go_wp2_with fail
          with_reducible refine cA.mono ?_
          rintro e w' ⟨rfl, hw⟩
          obtain rfl := hw.symm
          clear cA
          go_wp2_with fail
          with_reducible refine cB.mono ?_
          rintro e w' ⟨rfl, hw⟩
          obtain rfl := hw.symm
          clear cB
          go_wp2
          go_ret
          exact ⟨⟨_, rfl, by rw [HZ.out]; exact Own.nil _ _⟩, HB1.out⟩
    · have hdone : k = min nL nM := by omega
      have HD : Hid (sSum L M = lim (dot L M k)) := by
        have e : min L.length M.length = k := by rw [HNL.out, HNM.out]; exact hdone.symm
        show _ = _
        rw [sSum_yes (by rw [e]; exact hok), e, clip_of hdl]
      have HO := Lib.hid ho
      have HB := Lib.hid hb
      rcases Nat.lt_or_ge k nL with h1 | h1
      · have h2 : ¬ k < nM := by omega
        clear ho hb hok hdl hdone
        go_wp2
        go_ret
        exact ⟨⟨_, rfl, by rw [HD.out]; exact HO.out⟩, HB.out⟩
      · have h2 : ¬ k < nL := by omega
        clear ho hb hok hdl hdone
        go_wp2
        go_ret
        exact ⟨⟨_, rfl, by rw [HD.out]; exact HO.out⟩, HB.out⟩

end Go.Proofs.Ytidflhonhekmjaa

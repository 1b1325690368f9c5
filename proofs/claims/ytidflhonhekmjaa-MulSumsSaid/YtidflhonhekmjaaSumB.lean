/- The law MulSums: where neither list is long. -/
import Derived.Test.YtidflhonhekmjaaSumA
namespace Go.Proofs.Ytidflhonhekmjaa
open Go.RowKit Go.Shelf

set_option linter.unusedVariables false

set_option maxRecDepth 100000 in
set_option maxHeartbeats 16000000 in
theorem msums_short (va vb : Value) (L M : List (List Nat)) (w : World) (ha : Rows2Z w va L) (hv : Rows2Z w vb M) (h1 : longL L = false) (h2 : longL M = false) :
    Calls Try.prog 4 #[va, vb] w fun e w' => e = .returned (.bool true) ∧ Below w.heap.size w w' := by
  obtain ⟨i0, hi, hz0, hz1, hz2⟩ := info_parts infoL
  obtain ⟨A, cap, vs, rfl, hl, hva, hca⟩ := id ha
  obtain ⟨A', cap', vs', rfl, hl', hvb, hcb⟩ := id hv
  have c1 := long_any _ L w ha.rows
  have c2 := long_any _ M w hv.rows
  rw [h1] at c1
  rw [h2] at c2
  have HRA := Lib.hid ha
  have HRB := Lib.hid hv
  have HLL := Lib.hid (fun j (hj : j < L.length) => ha.limbs hj)
  have HLM := Lib.hid (fun j (hj : j < M.length) => hv.limbs hj)
  have HBL := Lib.hid (longL_no h1).2
  have HBM := Lib.hid (longL_no h2).2
  have bL := (longL_no h1).1
  have bM := (longL_no h2).1
  have HVA := Lib.hid hva
  have HVB := Lib.hid hvb
  have HCA := Lib.hid hca
  have HCB := Lib.hid hcb
  clear ha hv hva hvb hca hcb h1 h2 hl hl'
  generalize hnL : L.length = nL at *
  generalize hnM : M.length = nM at *
  have HNL := Lib.hid hnL
  have HNM := Lib.hid hnM
  clear hnL hnM
  go_enter Try.func4, Try.ntmps4
  go_wp2_with fail
  with_reducible refine c1.mono ?_
  rintro e w' ⟨rfl, hw⟩
  obtain rfl := hw.symm
  clear c1
  go_wp2_with fail
  with_reducible refine c2.mono ?_
  rintro e w' ⟨rfl, hw⟩
  obtain rfl := hw.symm
  clear c2
  go_wp2_with fail
  go_loopw [5, 7] (fun s i wr => ∃ k : Nat, k ≤ nL ∧ i = .int .i64 (k : Int) ∧ OwnL wr w.heap.size s (L.take k) ∧ Below w.heap.size w wr) (fun _ i _ => nL - (intOf i).toNat)
  case atStart => exact ⟨0, Nat.zero_le _, rfl, by rw [List.take_zero]; exact OwnL.nil _ _, Below.refl _ _⟩
  case round =>
    obtain ⟨k, hk, rfl, ho, hb⟩ := hrel
    by_cases hlt : k < nL
    · have hko : (L.take k).length = k := by rw [List.length_take, HNL.out]; omega
      obtain ⟨us, hul, hrow, hall⟩ := ho
      rw [hko] at hul hrow hall
      obtain ⟨b, off, rfl, hblt, hcl⟩ := HCA.out (by omega)
      have hbw := hb
      have x1 := (hbw.cell (p := ⟨b, off + k, none⟩) hblt).trans (hcl k (by omega))
      have hA : ArgZ wr (vs[k]?.getD undef) (L[k]?.getD []) := ⟨(HVA.out k (by omega)).1.below hbw, (HVA.out k (by omega)).2⟩
      have hlen := HBL.out k (by omega)
      have HTK := Lib.hid (show L.take (k + 1) = L.take k ++ [L[k]?.getD []] by rw [List.take_succ_eq_append_getElem (by rw [HNL.out]; omega), List.getElem?_eq_getElem (by rw [HNL.out]; omega)]; rfl)
      clear hcl hbw
      generalize hvk : vs[k]?.getD undef = vk at *
      generalize hxk : L[k]?.getD [] = xs at *
      generalize hT : L.take k = T at *
      clear hvk hxk hT
      obtain ⟨⟨Ax, capx, rfl, p1, p2, rx⟩, hz⟩ := id hA
      have cC := copied_any hA (by omega)
      clear hA hz rx
      have HBR := Lib.hid hb
      clear hb
      go_wp2_with fail
      refine cC.mono ?_
      rintro e w1 ⟨⟨c, rfl, hc⟩, hb1⟩
      clear cC
      obtain ⟨Ac, cc, rfl⟩ := own_form hc rfl
      have hbs := HBR.out.size
      have hbt := hb1.size
      have hrow1 : w1.ownsRow w.heap.size 23 1 _ k us := rowL_below hrow hb1
      have HAL := Lib.hid (fun j hj => (hall j hj).below hb1)
      have HC := Lib.hid (hc.more (B' := w.heap.size) hbs)
      have HBN := Lib.hid (HBR.out.trans (hb1.mono hbs))
      clear hrow hall hc hb1
      go_wp2_with (at_builtin; refine wpList_append_own _ rfl _ _ 38 rfl w.heap.size 23 i0 (.slice none 0 0) 1 24 Try.underlying38 hi hz0 hz1 hz2 rfl (by decide) _ _ _ rfl (hrow1.alloc _) ⟨w1.heap.size, 0, none⟩ 1 1 [_] rfl rfl (cell_one_new _ _ _) (by simp [Value.oneCell']) (by unfold maxLen; omega) (by omega) (by simp; omega) ?_; intro v' w2 hown' hgrow hgone; clear hgone)
      have hb2 := HBN.out.trans (appended_plain hrow1 (by omega) hgrow).2
      have HN := Lib.hid (OwnL.snoc (by rw [hko]; exact hul) (by rw [hko]; exact hrow1) (by rw [hko]; exact HAL.out) HC.out (by rw [hko]; exact hown') hgrow)
      have HB' := Lib.hid hb2
      clear hown' hgrow hb2 hrow1
      go_roundw
      case rel => exact ⟨k + 1, by omega, by go_num, by rw [HTK.out]; exact HN.out, HB'.out⟩
      case measure => simp [intOf]; omega
    · obtain rfl : nL = k := by omega
      rw [List.take_of_length_le (by rw [HNL.out]; exact Nat.le_refl _)] at ho
      have HOX := Lib.hid ho
      have HB1 := Lib.hid hb
      clear ho hb hk
      obtain ⟨wo, rfl⟩ : ∃ wo : World, wo = wr := ⟨_, rfl⟩
      go_wp2_with fail
      go_loopw [6, 8] (fun s i wr => ∃ k : Nat, k ≤ nM ∧ i = .int .i64 (k : Int) ∧ OwnL wr wo.heap.size s (M.take k) ∧ Below wo.heap.size wo wr) (fun _ i _ => nM - (intOf i).toNat)
      case atStart => exact ⟨0, Nat.zero_le _, rfl, by rw [List.take_zero]; exact OwnL.nil _ _, Below.refl _ _⟩
      case round =>
        obtain ⟨k2, hk, rfl, ho, hb⟩ := hrel
        by_cases hlt2 : k2 < nM
        · have hko : (M.take k2).length = k2 := by rw [List.length_take, HNM.out]; omega
          obtain ⟨us, hul, hrow, hall⟩ := ho
          rw [hko] at hul hrow hall
          obtain ⟨b, off, rfl, hblt, hcl⟩ := HCB.out (by omega)
          have hbw := HB1.out.trans (hb.mono HB1.out.size)
          have x1 := (hbw.cell (p := ⟨b, off + k2, none⟩) hblt).trans (hcl k2 (by omega))
          have hA : ArgZ wr (vs'[k2]?.getD undef) (M[k2]?.getD []) := ⟨(HVB.out k2 (by omega)).1.below hbw, (HVB.out k2 (by omega)).2⟩
          have hlen := HBM.out k2 (by omega)
          have HTK := Lib.hid (show M.take (k2 + 1) = M.take k2 ++ [M[k2]?.getD []] by rw [List.take_succ_eq_append_getElem (by rw [HNM.out]; omega), List.getElem?_eq_getElem (by rw [HNM.out]; omega)]; rfl)
          clear hcl hbw
          generalize hvk : vs'[k2]?.getD undef = vk at *
          generalize hxk : M[k2]?.getD [] = xs at *
          generalize hT : M.take k2 = T at *
          clear hvk hxk hT
          obtain ⟨⟨Ax, capx, rfl, p1, p2, rx⟩, hz⟩ := id hA
          have cC := copied_any hA (by omega)
          clear hA hz rx
          have HBR := Lib.hid hb
          clear hb
          go_wp2_with fail
          refine cC.mono ?_
          rintro e w1 ⟨⟨c, rfl, hc⟩, hb1⟩
          clear cC
          obtain ⟨Ac, cc, rfl⟩ := own_form hc rfl
          have hbs := HBR.out.size
          have hbt := hb1.size
          have hrow1 : w1.ownsRow wo.heap.size 23 1 _ k2 us := rowL_below hrow hb1
          have HAM := Lib.hid (fun j hj => (hall j hj).below hb1)
          have HC := Lib.hid (hc.more (B' := wo.heap.size) hbs)
          have HBN := Lib.hid (HBR.out.trans (hb1.mono hbs))
          clear hrow hall hc hb1
          go_wp2_with (at_builtin; refine wpList_append_own _ rfl _ _ 38 rfl wo.heap.size 23 i0 (.slice none 0 0) 1 24 Try.underlying38 hi hz0 hz1 hz2 rfl (by decide) _ _ _ rfl (hrow1.alloc _) ⟨w1.heap.size, 0, none⟩ 1 1 [_] rfl rfl (cell_one_new _ _ _) (by simp [Value.oneCell']) (by unfold maxLen; omega) (by omega) (by simp; omega) ?_; intro v' w2 hown' hgrow hgone; clear hgone)
          have hb2 := HBN.out.trans (appended_plain hrow1 (by omega) hgrow).2
          have HN := Lib.hid (OwnL.snoc (by rw [hko]; exact hul) (by rw [hko]; exact hrow1) (by rw [hko]; exact HAM.out) HC.out (by rw [hko]; exact hown') hgrow)
          have HB' := Lib.hid hb2
          clear hown' hgrow hb2 hrow1
          go_roundw
          case rel => exact ⟨k2 + 1, by omega, by go_num, by rw [HTK.out]; exact HN.out, HB'.out⟩
          case measure => simp [intOf]; omega
        · obtain rfl : nM = k2 := by omega
          rw [List.take_of_length_le (by rw [HNM.out]; exact Nat.le_refl _)] at ho
          have hx := HOX.out.below hb
          have HOX2 := Lib.hid hx
          have HOY := Lib.hid ho
          have hb0 := HB1.out.trans (hb.mono HB1.out.size)
          have HB2 := Lib.hid hb0
          have RX := Lib.hid (hx.rows (by rw [HNL.out]; exact HLL.out))
          have RY := Lib.hid (ho.rows (by rw [HNM.out]; exact HLM.out))
          have RA := Lib.hid (HRA.out.rows.below hb0)
          have RB := Lib.hid (HRB.out.rows.below hb0)
          clear ho hb hk hx hb0
          obtain ⟨wp, rfl⟩ : ∃ wp : World, wp = wr := ⟨_, rfl⟩
          go_wp2_with fail
          go_loopw [9] (fun i wr => ∃ n : Nat, n ≤ 2 ∧ i = .int .i64 (n : Int) ∧ Below wp.heap.size wp wr) (fun i _ => 2 - (intOf i).toNat)
          case atStart => exact ⟨0, by decide, rfl, Below.refl _ _⟩
          case round =>
            obtain ⟨n, hn, rfl, hb⟩ := hrel
            by_cases hlt3 : n < 2
            · have HB := Lib.hid hb
              have cS := sum_any _ _ L M wr (RX.out.below hb) (RY.out.below hb)
              have hs := sSum_limbs L M
              generalize hS : sSum L M = S at *
              have HS := Lib.hid hS
              clear hS hb
              go_wp2_with fail
              refine cS.mono ?_
              rintro e w1 ⟨⟨r1, rfl, ho1⟩, hb1⟩
              clear cS
              have hb1' := HB.out.trans (hb1.mono HB.out.size)
              have cR := rsum_any _ _ L M w1 (RA.out.below hb1') (RB.out.below hb1')
              rw [HS.out] at cR
              have E1 : Env w1 w1 [(r1, S)] := env_start1 (ho1.arg hs)
              have HO1 := Lib.hid ho1
              have HB1' := Lib.hid hb1
              clear ho1 hb1 hb1'
              go_wp2_with fail
              refine cR.mono ?_
              rintro e w2 ⟨⟨r2, rfl, ho2⟩, hb2⟩
              clear cR
              have E2 := E1.add hb2 (ho2.arg hs)
              clear E1 ho2 hb2
              go_wp2_with fail
              refine (refsame_env E2 (va := r1) (vb := r2) (xs := S) (ys := S) (by simp) (by simp)).mono ?_
              rintro e w3 ⟨rfl, E3⟩
              rw [eqb_refl]
              have cP := spoil_any (HO1.out.below E3.1) (Own.cap_le HO1.out)
              have HB3 := Lib.hid (HB1'.out.trans (E3.1.mono HB1'.out.size))
              clear E2 E3
              go_wp2_with fail
              refine cP.mono ?_
              rintro e w4 ⟨rfl, S4⟩
              clear cP
              have HB4 := Lib.hid (HB.out.trans ((HB3.out.trans S4.1).mono HB.out.size))
              clear S4
              go_wp2_with fail
              go_roundw
              case rel => exact ⟨n + 1, by omega, by go_num, HB4.out⟩
              case measure => simp [intOf]; omega
            · have HB := Lib.hid hb
              clear hb
              obtain ⟨wq, rfl⟩ : ∃ wq : World, wq = wr := ⟨_, rfl⟩
              obtain ⟨Ax, capx, us, hsx, _, hua, huc⟩ := id RX.out
              rw [HNL.out] at hsx hua huc
              subst hsx
              have HUA := Lib.hid hua
              have HUC := Lib.hid huc
              clear hua huc
              go_wp2_with fail
              go_loopw [11] (fun i wr => ∃ k : Nat, k ≤ nL ∧ i = .int .i64 (k : Int) ∧ Below wp.heap.size wp wr) (fun i _ => nL - (intOf i).toNat)
              case atStart => exact ⟨0, Nat.zero_le _, rfl, HB.out⟩
              case round =>
                obtain ⟨k, hk, rfl, hb⟩ := hrel
                by_cases hlt4 : k < nL
                · obtain ⟨bx, ox, rfl, hbx, hcx⟩ := HUC.out (by omega)
                  obtain ⟨b, off, rfl, hblt, hcl⟩ := HCA.out (by omega)
                  have hbw := HB2.out.trans (hb.mono HB2.out.size)
                  have x1 := (hb.cell (p := ⟨bx, ox + k, none⟩) hbx).trans (hcx k hlt4)
                  have x2 := (hbw.cell (p := ⟨b, off + k, none⟩) hblt).trans (hcl k hlt4)
                  have hX := (HUA.out k hlt4).below hb
                  have hA := (HVA.out k hlt4).1.below hbw
                  clear hcx hcl hbw
                  generalize hvk : vs[k]?.getD undef = vk at *
                  generalize huk : us[k]?.getD undef = uk at *
                  generalize hxk : L[k]?.getD [] = xs at *
                  clear hvk huk hxk
                  obtain ⟨A1, cap1, rfl, p1, p2, q1⟩ := id hX
                  obtain ⟨A2, cap2, rfl, p3, p4, q2⟩ := id hA
                  have hX' : Arg wr.drew (.slice A1 xs.length cap1) xs := hX
                  have hA' : Arg wr.drew (.slice A2 xs.length cap2) xs := hA
                  have E0 : Env wr.drew wr.drew [(.slice A2 xs.length cap2, xs), (.slice A1 xs.length cap1, xs)] := (env_start1 hX').add (Below.refl _ _) hA'
                  have cS := refsame_env E0 (va := .slice A1 xs.length cap1) (vb := .slice A2 xs.length cap2) (xs := xs) (ys := xs) (by simp) (by simp)
                  rw [eqb_refl] at cS
                  have y1 : wr.drew.cell? ⟨bx, ox + k, none⟩ = some (.slice A1 xs.length cap1) := x1
                  have y2 : wr.drew.cell? ⟨b, off + k, none⟩ = some (.slice A2 xs.length cap2) := x2
                  have HBR := Lib.hid hb
                  have lx : xs.length ≤ 9223372036854775807 := by unfold maxLen at p2; omega
                  clear hX hA hX' hA' E0 p1 p2 p3 p4 q1 q2 hb
                  go_upto_region 22 with fail
                  go_region_with ((go_at_call 27; (with_reducible refine cS.mono ?_); rintro e w1 ⟨rfl, E1⟩))
                  all_goals
                    have HBN := Lib.hid (HBR.out.trans (((Below.refl wr.heap.size wr).drew.trans E1.1).mono HBR.out.size))
                    clear E1
                    go_wp2_with fail
                    go_roundw
                    case rel => exact ⟨k + 1, by omega, by go_num, HBN.out⟩
                    case measure => simp [intOf]; omega
                · have HB5 := Lib.hid (HB2.out.trans (hb.mono HB2.out.size))
                  clear hb
                  go_wp2_with fail
                  refine (works_any _).mono ?_
                  rintro e w5 ⟨rfl, hb5⟩
                  have HB6 := Lib.hid (HB5.out.trans (hb5.mono HB5.out.size))
                  clear hb5
                  go_wp2
                  go_ret
                  exact ⟨rfl, HB6.out⟩

end Go.Proofs.Ytidflhonhekmjaa

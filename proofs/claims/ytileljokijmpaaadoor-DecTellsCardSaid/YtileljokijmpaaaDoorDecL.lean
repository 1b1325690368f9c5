/- Contract: joined. -/
import Derived.Deep.RegionHeld
import Derived.Test.YtileljokijmpaaaDoorRound
import Derived.Test.YtileljokijmpaaaDoorDecC
import Derived.Test.YtileljokijmpaaaDoorDecJ
import Derived.Test.YtileljokijmpaaaDoorDecK
namespace Go.Proofs.YtileljokijmpaaaDoor
open Go.RowKit Go.Shelf

attribute [local go_sem] Oper.semAt_some
set_option linter.unusedVariables false
set_option linter.unusedSimpArgs false

set_option maxRecDepth 100000 in
set_option maxHeartbeats 8000000 in
theorem joined_any (L : List Nat) (w : World) (hd : AllD L) (h0 : 0 < L.length) (hl : L.length ≤ 631306) : Calls Tryd.prog 31 #[.string (str L)] w (NewL w (clip (dv L))) := by
  refine (callsIn_wide (n := 8)).1 ?_
  obtain ⟨i0, hi, hz0, hz1, hz2⟩ := info_parts infoL
  have hpn : pieceN L ≤ 1048576 := by unfold pieceN; omega
  have hN := dv_lt hd
  refine callsIn_of_wp_marks Tryd.func31 rfl trivial ?_ rfl
  simp only [Tryd.ntmps31, List.size_toArray, List.length_cons, List.length_nil, Nat.reduceAdd, Nat.reduceSub, Array.replicate_succ, Array.replicate_zero, List.push_toArray, List.append_toArray, List.nil_append, List.cons_append]
  gi_wp2_with fail
  refine ⟨trivial, ?_⟩
  refine (pieces_in Fence.wide _ trivial rfl (str L) _).mono ?_
  rintro e w' ⟨rfl, rfl⟩
  gi_wp2_with fail
  have bL0 := Boxed.new w 58 (.slice none 0 0)
  have bL := bL0.alloc (.cells #[.string (str L)] 9)
  have bS := Boxed.new (w.alloc (.cells #[.slice none 0 0] 58)) 9 (.string (str L))
  have hB0 : Below w.heap.size w ((w.alloc (.cells #[.slice none 0 0] 58)).alloc (.cells #[.string (str L)] 9)) := ((Below.refl _ w).alloc (Nat.le_refl _) _).alloc (by simp) _
  simp only [World.size_alloc] at bS
  have bSx := bS.cell
  have bLy := Lib.hid bL
  have bSy := Lib.hid bS
  clear bL0 bL bS
  refine wpIn_rangeFunc_ownG rfl (by decide) (gf := 71) (lb := #[.pointer (some ⟨w.heap.size + 1, 0, none⟩)]) rfl trivial (enters_of Tryd.func71 (by kernel_rfl) rfl)
    (pieces_stops Fence.wide 7 trivial rfl (by decide) (w.heap.size + 1) w.heap.size L (by omega) _ (by simp) bSx) kpC_t (kpC_b (by simp; omega) (by simp)) (Below.refl _ _) (fun _ => rfl)
    (fun pre W => ((∃ v, Boxed W w.heap.size 58 v ∧ OwnL W w.heap.size v (pre.map (pv L))) ∧ Boxed W (w.heap.size + 1) 9 (.string (str L))) ∧ Below w.heap.size w W)
    (fun _ _ _ => False)
    (OwnFrom.and (OwnFrom.and (Own.from (fun s W W' row hs hg hr => by
        obtain ⟨v, hv, hL⟩ := hs
        exact ⟨v, (boxed_own w.heap.size 58 (fun _ => v)) s W W' row hv hg hr, hL.abide hg hr⟩) _) (Own.from (boxed_own (w.heap.size + 1) 9 (fun _ => .string (str L))) _)) (ownFrom_below (Nat.le_refl _) (by simp; omega)))
    (fun _ _ _ _ _ hs _ _ => hs)
    ⟨⟨⟨_, bLy.out, OwnL.nil _ _⟩, bSy.out⟩, hB0⟩
    (fun x => { tmps := #[.string (str L), undef, .slice none 0 0, .pointer (some ⟨w.heap.size, 0, none⟩), .string (str (piece L x.1)), undef, .string (str L), .func (.func 71) #[] #[.pointer (some ⟨w.heap.size + 1, 0, none⟩)], .string (str (piece L x.1)), undef, undef, undef, undef, undef, undef, undef, undef, undef, undef, undef, undef, undef, undef, undef, undef, undef, undef, undef, undef], defers := [] }) ?assign ?body ?done ?stop
  case assign =>
    intro l x W K hK
    unfold tellP
    gi_wp2
    exact hK
  case body =>
    rintro l pre x W ⟨⟨⟨v, hv, hL⟩, hbs⟩, hB⟩ hlt
    have hlen : (pre.map (pv L)).length = pre.length := List.length_map ..
    obtain ⟨us, hul, hrow, hall⟩ := hL
    rw [hlen] at hul hrow hall
    have hcv := hv.cell
    have hpd := piece_alld hd x.1
    have hpl := piece_length L x.1
    have hdl : dv (piece L x.1) < 18446744073709551616 := Nat.lt_of_lt_of_le (dv_lt hpd) (Nat.le_trans (Nat.pow_le_pow_right (by decide) hpl) (by decide))
    have hmx : Tryd.prog.follows .mixedOrders = true := by kernel_rfl
    have cP := fun w' => pieceValue_any _ w' hpd hpl
    have hpv : lim (dv (piece L x.1)) = pv L x := rfl
    generalize piece L x.1 = Pc at *
    gi_wp2_with fail
    refine region_in_round (fun W' => W'.cell? ⟨w.heap.size, 0, none⟩ = some v) 6 hmx (by kernel_rfl) ?_
    refine held_take 1 (v := .string (str Pc)) rfl rfl (by kernel_rfl) (by decide) (by kernel_rfl) (by kernel_rfl) (by kernel_rfl) (by kernel_rfl) rfl hcv (fun w' hS => rfl) ?_
    refine held_take 0 (v := v) rfl rfl (by kernel_rfl) (by decide) (by kernel_rfl) (by kernel_rfl) (by kernel_rfl) (by kernel_rfl) rfl hcv (fun w' hS => ?_) ?_
    · go_simp
    simp only [Act.put, List.setIfInBounds_toArray, List.set_cons_zero, List.set_cons_succ]
    refine held_one (i := 2) (by kernel_rfl) ?_
    refine held_call (f := 50) (args := #[.string (str Pc)]) rfl rfl (by go_simp) (cP _) ?_
    rintro e w2 ⟨rfl, hb2'⟩
    have hb2 : Below W.heap.size W w2 := (Below.refl _ W).drew.trans hb2'
    refine ⟨_, rfl, (hb2.cell (p := ⟨w.heap.size, 0, none⟩) hv.lt).trans hcv, ?_⟩
    simp only [Act.put, List.setIfInBounds_toArray, List.set_cons_zero, List.set_cons_succ]
    refine held_one (i := 3) (by kernel_rfl) ?_
    refine held_call (f := 8) (args := #[.int .u64 (dv Pc : Nat)]) rfl rfl (by go_simp) (of_any (dv Pc) _ hdl) ?_
    rintro e w4 ⟨⟨v4, rfl, ho4⟩, hb4'⟩
    have hb4 := hb2.trans (hb4'.mono hb2.size)
    have hv4 : Boxed w4 w.heap.size 58 v := (hb4.block _ hv.lt).trans hv
    have hbs4 : Boxed w4 (w.heap.size + 1) 9 (.string (str L)) := (hb4.block _ hbs.lt).trans hbs
    refine ⟨_, rfl, hv4.cell, ?_⟩
    obtain ⟨A4, c4, rfl⟩ := own_form ho4 rfl
    simp only [Act.put, List.setIfInBounds_toArray, List.set_cons_zero, List.set_cons_succ]
    refine held_one (i := 4) (by kernel_rfl) ?_
    rw [hpv] at ho4
    generalize hz : (lim (dv Pc)).length = nz
    rw [hpv] at hz
    rw [hz] at ho4
    refine held_value (v := .slice (some ⟨w4.heap.size, 0, none⟩) 1 1) (w' := w4.alloc (.cells #[.slice A4 nz c4] 24)) rfl rfl (by go_simp) ?_
    refine ⟨(hv4.alloc _).cell, ?_⟩
    simp only [Act.put, List.setIfInBounds_toArray, List.set_cons_zero, List.set_cons_succ]
    have hrow4 : w4.ownsRow w.heap.size 24 1 v pre.length us := rowL_below hrow hb4
    refine held_one (i := 5) (by kernel_rfl) ?_
    refine held_wp (o := _) rfl rfl ?_
    refine wp_append_own _ _ _ 58 rfl w.heap.size 24 i0 (.slice none 0 0) 1 24 Tryd.underlying58 hi hz0 hz1 hz2 rfl (by decide) v pre.length us rfl (hrow4.alloc _) ⟨w4.heap.size, 0, none⟩ 1 1 [.slice A4 nz c4] rfl rfl (cell_one_new _ _ _) (by simp [Value.oneCell']) (by unfold maxLen; omega) (by omega) (by have := hv4.lt; simp; omega) ?_
    intro v' w6 hown' hgrow hgone
    clear hgone
    obtain ⟨bV, bV', bR, bK, bB⟩ := hv4.appended (by decide) hrow4 (by have := hv4.lt; omega) (by omega) hown' hgrow
    have bbs := ((hbs4.alloc _).kept hgrow (hbs4.not_row (by decide) hrow4)).other (B' := w.heap.size) (by omega) v'
    have hN2 := OwnL.snoc (L := pre.map (pv L)) (xs := pv L x) (vs := us) (by rw [hlen]; exact hul) (by rw [hlen]; exact hrow4) (by rw [hlen]; exact fun j hj => (hall j hj).below hb4) (ho4.more (by have := hb2.size; have := hv.lt; omega)) (by rw [hlen]; exact hown') hgrow
    have hNs := hN2.store bV (by decide) (by decide) v'
    have q1 := bV.cell
    have q2 := bV.frozen
    obtain ⟨g', cap', rfl⟩ := ownsRow_succ hown'
    simp only [Act.put, List.setIfInBounds_toArray, List.set_cons_zero, List.set_cons_succ]
    refine ⟨q1, ?_⟩
    refine held_last (k := 6) (by kernel_rfl) (by kernel_rfl) ?_
    refine held_skip (w' := w6.setCell ⟨w.heap.size, 0, none⟩ (.slice (some ⟨g', 0, none⟩) (pre.length + 1) cap')) rfl rfl (by go_simp) ?_
    refine held_done (by kernel_rfl) ⟨rfl, ?_⟩ _
    refine ⟨KeepsFrom.trans ⟨hb4.size, fun k o _ hk ho => (hb4.block k (Array.getElem?_eq_some_iff.1 hk).1).trans hk⟩ (bK.from _), ⟨(hb4.mono hB.size).trans (bB.mono (by omega)), ?_⟩, ⟨⟨_, bV', ?_⟩, bbs⟩, (hB.trans (hb4.mono hB.size)).trans (bB.mono (by omega))⟩
    · intro B hBm
      rw [List.mem_singleton] at hBm
      subst hBm
      exact bbs.trans hbs.symm
    · rw [List.map_append]
      exact hNs
  case done =>
    rintro D ys' W hD rfl ⟨⟨⟨v, hv, hL⟩, hbs⟩, hB⟩ hK
    rw [pv_all hd] at hL
    have hDs : w.heap.size < D := by simp at hD; omega
    have hDlt : D < W.heap.size := (Array.getElem?_eq_some_iff.1 hK).1
    gi_wp2_with fail
    refine ⟨trivial, ?_⟩
    refine (callsIn_wide.2 (of_any 1000000000 _ (by decide))).mono ?_
    rintro e w1 ⟨⟨p0, rfl, ho0⟩, hb0⟩
    have hf0 : Own w1 w.heap.size p0 (clip (10 ^ (9 * 2 ^ 0))) := by
      rw [clip_of (ten_fits (k := 10) (by decide) (by decide))]
      exact ho0.more hB.size
    have hv1 : Boxed w1 w.heap.size 58 v := (hb0.block _ hv.lt).trans hv
    have hL1 : OwnL w1 w.heap.size v (lev (dv L) (9 * 2 ^ 0) (pieceN L)) := hL.below hb0
    have hK1 := (hb0.block _ hDlt).trans hK
    have hB1 := hB.trans (hb0.mono hB.size)
    clear hv hL hbs hB hK hDlt ho0 hb0
    gi_wp2_with fail
    gi_loopw [5] (fun p wr => ∃ (k c : Nat) (v : Value), Lvl L.length k c ∧ c ≤ 1048576 ∧ Boxed wr w.heap.size 58 v ∧ OwnL wr w.heap.size v (lev (dv L) (9 * 2 ^ k) c) ∧ Own wr w.heap.size p (clip (10 ^ (9 * 2 ^ k))) ∧ Below w.heap.size w wr ∧ wr.heap[D]? = some (.deferred (some [])))
      (fun _ wr => lenOf ((wr.cell? ⟨w.heap.size, 0, none⟩).getD undef))
    case atStart => exact ⟨0, pieceN L, v, Lvl.start hl h0, hpn, hv1, hL1, hf0, hB1, hK1⟩
    case round =>
      clear hv1 hL1 hf0 hB1 hK1
      obtain ⟨k, c, v, hLv, hc, hvr, hLr, hpr, hBr, hKr⟩ := hrel
      have hll := lev_length (dv L) (9 * 2 ^ k) c
      obtain ⟨Av, cv, rfl⟩ := row_form hLr.choose_spec.2.1
      obtain ⟨Ap, cp, rfl⟩ := own_form hpr rfl
      have hcell := hvr.cell
      have hfro := hvr.frozen
      have hrb := hLr.rowsB (fun j hj => by rw [hll] at hj; rw [lev_at hj]; exact clip_limbs _)
      have cj := jbt_row _ _ _ _ wr hrb (hpr.arg (clip_limbs _)) (by rw [hll]; exact hLv.pos) (by rw [hll]; exact hc)
      rw [hll] at hcell cj
      by_cases h2 : 2 < c
      · gi_wp2_with fail
        refine ⟨trivial, ?_⟩
        refine (callsIn_wide.2 cj).mono ?_
        rintro e w3 ⟨⟨v3, rfl, hL3⟩, hb3⟩
        rw [hLv.jbt hN] at hL3
        have hll3 := lev_length (dv L) (9 * 2 ^ (k + 1)) ((c + 1) / 2)
        have hv3 : Boxed w3 w.heap.size 58 (.slice Av (lev (dv L) (9 * 2 ^ k) c).length cv) := (hb3.block _ hvr.lt).trans hvr
        have hp3 := hpr.below hb3
        have hK3 := (hb3.block D (Array.getElem?_eq_some_iff.1 hKr).1).trans hKr
        have hB3 := hBr.trans (hb3.mono hBr.size)
        have hL3' := hL3.more hBr.size
        have HC := Lib.hid hcell
        clear hL3 hb3 hpr hvr hrb cj hKr hcell hfro
        obtain ⟨A3, c3, rfl⟩ := row_form hL3'.choose_spec.2.1
        have f1 := hv3.cell
        have f2 := hv3.frozen
        have hv4 := hv3.set (.slice A3 (lev (dv L) (9 * 2 ^ (k + 1)) ((c + 1) / 2)).length c3)
        have hp4 : Own (w3.setCell ⟨w.heap.size, 0, none⟩ (.slice A3 (lev (dv L) (9 * 2 ^ (k + 1)) ((c + 1) / 2)).length c3)) w.heap.size _ _ := World.ownsRow.kept hp3 (grownBy_setCell' w3 w.heap.size _) (.inr (hv3.not_row (by decide) hp3).symm)
        have hL4 := hL3'.store hv3 (by decide) (by decide) (.slice A3 (lev (dv L) (9 * 2 ^ (k + 1)) ((c + 1) / 2)).length c3)
        have hB4 := hB3.setCell (p := ⟨w.heap.size, 0, none⟩) (Nat.le_refl _) (.slice A3 (lev (dv L) (9 * 2 ^ (k + 1)) ((c + 1) / 2)).length c3)
        have hK4 := ((grownBy_setCell' w3 w.heap.size (.slice A3 (lev (dv L) (9 * 2 ^ (k + 1)) ((c + 1) / 2)).length c3)).block D (Array.getElem?_eq_some_iff.1 hK3).1 (by intro h; injection h; omega)).trans hK3
        have sq := square_any _ _ _ (hp4.arg (clip_limbs _))
        have hsq : sMul (clip (10 ^ (9 * 2 ^ k))) (clip (10 ^ (9 * 2 ^ k))) = clip (10 ^ (9 * 2 ^ (k + 1))) := by
          rw [sMul_yes (by rw [clip_may]; rfl), hLv.square]
        rw [hsq] at sq
        rw [hll3] at *
        gi_wp2_with fail
        refine ⟨trivial, ?_⟩
        refine (callsIn_wide.2 sq).mono ?_
        rintro e w5 ⟨⟨p5, rfl, ho5⟩, hb5⟩
        gi_wp2_with fail
        go_roundw
        case rel => exact ⟨k + 1, (c + 1) / 2, _, hLv.next h2, by omega, (hb5.block _ hv4.lt).trans hv4, hL4.below hb5, ho5.more hB4.size, hB4.trans (hb5.mono hB4.size), (hb5.block D (Array.getElem?_eq_some_iff.1 hK4).1).trans hK4⟩
        case measure =>
          have e5 : w5.cell? ⟨w.heap.size, 0, none⟩ = _ := Boxed.cell (show Boxed w5 w.heap.size _ _ from (hb5.block _ hv4.lt).trans hv4)
          rw [e5, HC.out]
          simp [lenOf]
          omega
      · gi_wp2_with fail
        refine ⟨trivial, ?_⟩
        refine (callsIn_wide.2 cj).mono ?_
        rintro e w3 ⟨⟨v3, rfl, hL3⟩, hb3⟩
        rw [hLv.jbt hN, hLv.done (by omega) hN] at hL3
        have hK3 := (hb3.block D (Array.getElem?_eq_some_iff.1 hKr).1).trans hKr
        have hB3 := hBr.trans (hb3.mono hBr.size)
        obtain ⟨us, hul, hrow, hall⟩ := hL3.more hBr.size
        obtain ⟨u, rfl⟩ : ∃ u, us = [u] := List.length_eq_one_iff.1 hul
        have ho : Own w3 w.heap.size u (clip (dv L)) := hall 0 (by simp)
        obtain ⟨g, cg, rfl⟩ := ownsRow_succ (k := 0) hrow
        have hcg := World.ownsRow.cellAt (g := g) hrow 0 (by simp)
        obtain ⟨Au, cu, rfl⟩ := own_form ho rfl
        have HO := Lib.hid (ownsRow_putObj ho (.deferred none) hK3 rfl)
        have HB := Lib.hid (hB3.trans (belowK_b (w := w) (Nat.le_refl _) _ D _ (.deferred none) (by omega) hK3 rfl rfl))
        clear hL3 hrow hall hb3 hB3 ho hvr hcell hfro cj hrb
        gi_wp2_with fail
        refine ⟨by simp, .inl ⟨_, _, rfl, run_takeDeferred hK3, ?_⟩⟩
        exact ⟨_, results_tmp rfl _ _ _, ⟨.slice Au (clip (dv L)).length cu, rfl, HO.out⟩, HB.out⟩
  case stop =>
    rintro D c pre W _ _ h _
    exact h.elim

end Go.Proofs.YtileljokijmpaaaDoor

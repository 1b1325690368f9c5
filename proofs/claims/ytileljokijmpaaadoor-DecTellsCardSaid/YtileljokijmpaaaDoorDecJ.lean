/- Contract: joinedByTwo. -/
import Derived.Deep.RegionHeld
import Derived.Test.YtileljokijmpaaaDoorRound
import Derived.Test.YtileljokijmpaaaDoorDecD
import Derived.Test.YtileljokijmpaaaDoorDecG
namespace Go.Proofs.YtileljokijmpaaaDoor
open Go.RowKit Go.Shelf

attribute [local go_sem] Oper.semAt_some
set_option linter.unusedVariables false
set_option linter.unusedSimpArgs false

def pf (L : List (List Nat)) (P : List Nat) {n : Nat} (x : Fin n) : List Nat := sSum ((L.drop (2 * x.1)).take 2) [[1], P]
theorem pf_all (L : List (List Nat)) (P : List Nat) : (List.finRange (pairN L.length)).map (pf L P) = jbt L P := by
  unfold jbt pairN
  apply List.ext_getElem
  · simp
  · intro i h1 h2
    simp [pf]
theorem OwnL.abide {W W' : World} {B : Nat} {v : Value} {L : List (List Nat)} {row : Option Nat} (h : OwnL W B v L) (hg : W.grownBy W' row) (hr : ∀ r, row = some r → ∃ o : Obj, W.heap[r]? = some o ∧ o.isCells = false) : OwnL W' B v L := by
  have keep : ∀ {e : TypeId} {n : Nat} {u : Value} {us : List Value}, W.ownsRow B e 1 u n us → W'.ownsRow B e 1 u n us := by
    intro e n u us hu
    refine World.ownsRow.kept hu hg ?_
    rcases hu1 : u.ownBlock with _ | k
    · exact .inl rfl
    · right
      intro e2
      obtain ⟨o, ho, hc⟩ := hr k e2.symm
      obtain ⟨c1, f1, q1⟩ := Lib.ownsRow_kind hu k hu1
      rw [q1] at ho
      injection ho with ho
      subst ho
      cases hc
  obtain ⟨vs, hvl, ho, ha⟩ := h
  exact ⟨vs, hvl, keep ho, fun j hj => keep (ha j hj)⟩
theorem OwnL.more {w : World} {B B' : Nat} {v : Value} {L : List (List Nat)} (h : OwnL w B v L) (hb : B' ≤ B) : OwnL w B' v L := by
  have m : ∀ {e : TypeId} {n : Nat} {u : Value} {us : List Value}, w.ownsRow B e 1 u n us → w.ownsRow B' e 1 u n us := by
    intro e n u us hu
    refine ⟨hu.1, ?_⟩
    rcases hu.2 with h2 | ⟨g, cap, cur, e1, hg, r⟩
    · exact .inl h2
    · exact .inr ⟨g, cap, cur, e1, Nat.le_trans hb hg, r⟩
  obtain ⟨vs, hvl, ho, ha⟩ := h
  exact ⟨vs, hvl, m ho, fun j hj => m (ha j hj)⟩
theorem OwnL.putObj {w : World} {B l : Nat} {v : Value} {L : List (List Nat)} {o : Obj} (h : OwnL w B v L) (o' : Obj) (hl : w.heap[l]? = some o) (ho : o.isCells = false) : OwnL (w.putObj l o') B v L := by
  obtain ⟨vs, hvl, hr, ha⟩ := h
  exact ⟨vs, hvl, ownsRow_putObj hr o' hl ho, fun j hj => ownsRow_putObj (ha j hj) o' hl ho⟩
theorem OwnL.store {w : World} {B b : Nat} {t : TypeId} {u v : Value} {L : List (List Nat)} (h : OwnL w B v L) (hb : Boxed w b t u) (h1 : t ≠ 24) (h2 : t ≠ 40) (u' : Value) : OwnL (w.setCell ⟨b, 0, none⟩ u') B v L := by
  obtain ⟨vs, hvl, hr, ha⟩ := h
  exact ⟨vs, hvl, hr.kept (grownBy_setCell' w b u') (.inr (hb.not_row h1 hr).symm), fun j hj => World.ownsRow.kept (ha j hj) (grownBy_setCell' w b u') (.inr (hb.not_row h2 (ha j hj)).symm)⟩
theorem rows_part {w : World} {B b off c cap m i cc : Nat} {L : List (List Nat)} (h : RowsB w B (.slice (some ⟨b, off, none⟩) c cap) L) (hB : B ≤ w.heap.size) (hm : i + m ≤ L.length) (hm0 : 0 < m) : Rows2 w (.slice (some ⟨b, off + i, none⟩) m cc) ((L.drop i).take m) := by
  obtain ⟨A', cap', vs, e, h1, h2, ha, hc⟩ := h
  injection e with e1 e2 e3
  subst e1 e3
  obtain ⟨b', off', e4, hlt, hcl⟩ := hc (by omega)
  injection e4 with e4
  injection e4 with e5 e6
  subst e5 e6
  have hl : ((L.drop i).take m).length = m := by rw [List.length_take, List.length_drop]; omega
  refine ⟨_, cc, vs.drop i, by rw [hl], by omega, fun j hj => ?_, fun _ => ⟨b, off + i, rfl, by omega, fun j hj => ?_⟩⟩
  · rw [hl] at hj
    rw [List.getElem?_drop, List.getElem?_take, if_pos hj, List.getElem?_drop]
    exact (ha (i + j) (by omega)).arg hB
  · rw [hl] at hj
    rw [List.getElem?_drop, Nat.add_assoc]
    exact hcl (i + j) (by omega)

set_option maxRecDepth 100000 in
set_option maxHeartbeats 8000000 in
theorem jbt_any (b off cap : Nat) (vp : Value) (L : List (List Nat)) (P : List Nat) (w : World) (ha : RowsB w w.heap.size (.slice (some ⟨b, off, none⟩) L.length cap) L) (hp : Arg w vp P) (h0 : 0 < L.length) (hsm : L.length ≤ 1048576) :
    Calls Tryd.prog 51 #[.slice (some ⟨b, off, none⟩) L.length cap, vp] w fun e w' => (∃ v, e = .returned v ∧ OwnL w' w.heap.size v (jbt L P)) ∧ Below w.heap.size w w' := by
  refine (callsIn_wide (n := 8)).1 ?_
  obtain ⟨i0, hi, hz0, hz1, hz2⟩ := info_parts infoL
  obtain ⟨_, _, vs0, e0, hcap, hcm, _, _⟩ := id ha
  injection e0 with e1 e2 e3
  subst e3
  clear e1 e2
  have HA := Lib.hid ha
  have HP := Lib.hid hp
  have h2c : (((L.length : Int) + 1) / 2) = ((pairN L.length : Nat) : Int) := by unfold pairN; omega
  have hpn : pairN L.length ≤ 1048576 := by unfold pairN; omega
  obtain ⟨Ap, capp, rfl, _⟩ := id hp
  clear ha hp
  refine callsIn_of_wp_marks Tryd.func51 rfl trivial ?_ rfl
  simp only [Tryd.ntmps51, List.size_toArray, List.length_cons, List.length_nil, Nat.reduceAdd, Nat.reduceSub, Array.replicate_succ, Array.replicate_zero, List.push_toArray, List.append_toArray, List.nil_append, List.cons_append]
  gi_wp2_with (gi_at_make; refine wpListIn_make_own _ rfl _ _ 58 rfl (w.heap.size + 1) 24 i0 (.slice none 0 0) 1 Tryd.underlying58 hi hz0 hz1 .i64 .i64 _ (pairN L.length) rfl rfl (by omega) (by rw [hz2]; omega) (by unfold maxLen; omega) (by simp) ?_; intro w1 hown0 hgrow0)
  refine ⟨trivial, ?_⟩
  refine (callsIn_wide.2 (callsIn_wide.1 (chunk_any _ _ _ _))).mono ?_
  rintro e w' ⟨rfl, rfl⟩
  gi_wp2_with fail
  have hs1 : w.heap.size < w1.heap.size := by have := hgrow0.size; simp at this; omega
  have bP0 : Boxed (w.alloc (.cells #[.slice Ap P.length capp] 24)) w.heap.size 24 (.slice Ap P.length capp) := Boxed.new w _ _
  have bP : Boxed w1 w.heap.size 24 (.slice Ap P.length capp) := bP0.kept hgrow0 (by simp)
  have hB1 : Below w.heap.size w w1 := ((Below.refl _ w).alloc (Nat.le_refl _) _).grown hgrow0 (by simp) (fun _ h => by cases h)
  have bO := Boxed.new w1 58 (.slice (some ⟨w.heap.size + 1, 0, none⟩) 0 (pairN L.length))
  have bS := Boxed.new (w1.alloc (.cells #[.slice (some ⟨w.heap.size + 1, 0, none⟩) 0 (pairN L.length)] 58)) 58 (.slice (some ⟨b, off, none⟩) L.length cap)
  have bN := Boxed.new ((w1.alloc (.cells #[.slice (some ⟨w.heap.size + 1, 0, none⟩) 0 (pairN L.length)] 58)).alloc (.cells #[.slice (some ⟨b, off, none⟩) L.length cap] 58)) 3 (.int .i64 2)
  have hB4 : Below w.heap.size w (((w1.alloc (.cells #[.slice (some ⟨w.heap.size + 1, 0, none⟩) 0 (pairN L.length)] 58)).alloc (.cells #[.slice (some ⟨b, off, none⟩) L.length cap] 58)).alloc (.cells #[.int .i64 2] 3)) :=
    ((hB1.alloc (by omega) _).alloc (by simp; omega) _).alloc (by simp; omega) _
  simp only [World.size_alloc] at bS bN
  have hown00 : w1.ownsRow (w.heap.size + 1) 24 1 (.slice (some ⟨w.heap.size + 1, 0, none⟩) 0 (pairN L.length)) 0 [] := by simpa using hown0
  have bOx := Lib.hid ((bO.alloc (.cells #[.slice (some ⟨b, off, none⟩) L.length cap] 58)).alloc (.cells #[.int .i64 2] 3))
  have bPx := Lib.hid (((bP.alloc (.cells #[.slice (some ⟨w.heap.size + 1, 0, none⟩) 0 (pairN L.length)] 58)).alloc (.cells #[.slice (some ⟨b, off, none⟩) L.length cap] 58)).alloc (.cells #[.int .i64 2] 3))
  have hOx := Lib.hid (((hown00.alloc (.cells #[.slice (some ⟨w.heap.size + 1, 0, none⟩) 0 (pairN L.length)] 58)).alloc (.cells #[.slice (some ⟨b, off, none⟩) L.length cap] 58)).alloc (.cells #[.int .i64 2] 3))
  have bSx := (bS.alloc (.cells #[.int .i64 2] 3)).cell
  have bNx := bN.cell
  have bSy := Lib.hid (bS.alloc (.cells #[.int .i64 2] 3))
  have bNy := Lib.hid bN
  clear bP0 bP bO bS bN hown0 hown00 hgrow0
  refine wpIn_rangeFunc_ownG rfl (by decide) (gf := 85) (lb := #[.pointer (some ⟨w1.heap.size + 1, 0, none⟩), .pointer (some ⟨w1.heap.size + 1 + 1, 0, none⟩)]) rfl trivial (enters_of Tryd.func85 (by kernel_rfl) rfl)
    (chunk_stops 7 (by decide) (w1.heap.size + 1) (w1.heap.size + 1 + 1) w.heap.size b off L.length cap hcap hsm hcm _ (by simp) (by simp) bSx bNx) kpC_t (kpC_b (by simp; omega) (by simp)) (Below.refl _ _) (fun _ => rfl)
    (fun pre W => ((((∃ v, Boxed W w1.heap.size 58 v ∧ OwnL W (w.heap.size + 1) v (pre.map (pf L P))) ∧ Boxed W w.heap.size 24 (.slice Ap P.length capp)) ∧ Boxed W (w1.heap.size + 1) 58 (.slice (some ⟨b, off, none⟩) L.length cap)) ∧ Boxed W (w1.heap.size + 1 + 1) 3 (.int .i64 2)) ∧ Below w.heap.size w W)
    (fun _ _ _ => False)
    (OwnFrom.and (OwnFrom.and (OwnFrom.and (OwnFrom.and (Own.from (fun s W W' row hs hg hr => by
        obtain ⟨v, hv, hL⟩ := hs
        exact ⟨v, (boxed_own w1.heap.size 58 (fun _ => v)) s W W' row hv hg hr, hL.abide hg hr⟩) _) (Own.from (boxed_own w.heap.size 24 (fun _ => .slice Ap P.length capp)) _)) (Own.from (boxed_own (w1.heap.size + 1) 58 (fun _ => .slice (some ⟨b, off, none⟩) L.length cap)) _)) (Own.from (boxed_own (w1.heap.size + 1 + 1) 3 (fun _ => .int .i64 2)) _)) (ownFrom_below (Nat.le_refl _) (by simp; omega)))
    (fun _ _ _ _ _ hs _ _ => hs)
    ⟨⟨⟨⟨⟨_, bOx.out, [], rfl, hOx.out, fun j hj => by simp at hj⟩, bPx.out⟩, bSy.out⟩, bNy.out⟩, hB4⟩
    (fun x => { tmps := #[.slice (some ⟨b, off, none⟩) L.length cap, .slice Ap P.length capp, undef, .pointer (some ⟨w.heap.size, 0, none⟩), .slice none 0 0, .pointer (some ⟨w1.heap.size, 0, none⟩), .slice (some ⟨b, off + 2 * x.1, none⟩) (min 2 (L.length - 2 * x.1)) (min 2 (L.length - 2 * x.1)), .slice (some ⟨b, off, none⟩) L.length cap, .int .i64 (L.length : Int), .int .i64 ((L.length : Int) + 1), .int .i64 ((pairN L.length : Nat) : Int), .slice (some ⟨w.heap.size + 1, 0, none⟩) 0 (pairN L.length), .slice (some ⟨b, off, none⟩) L.length cap, .func (.func 85) #[] #[.pointer (some ⟨w1.heap.size + 1, 0, none⟩), .pointer (some ⟨w1.heap.size + 1 + 1, 0, none⟩)], .slice (some ⟨b, off + 2 * x.1, none⟩) (min 2 (L.length - 2 * x.1)) (min 2 (L.length - 2 * x.1)), undef, undef, undef, undef, undef, undef, undef, undef, undef], defers := [] }) ?assign ?body ?done ?stop
  case assign =>
    intro l x W K hK
    unfold tellC
    gi_wp2
    exact hK
  case body =>
    rintro l pre x W ⟨⟨⟨⟨⟨v, hv, hL⟩, hbp⟩, hbs⟩, hbn⟩, hB⟩ hlt
    have hlen : (pre.map (pf L P)).length = pre.length := List.length_map ..
    obtain ⟨us, hul, hrow, hall⟩ := hL
    rw [hlen] at hul hrow hall
    have hx2 : 2 * x.1 < L.length := by have := x.2; unfold pairN at this; omega
    obtain ⟨m, hm⟩ : ∃ m, m = min 2 (L.length - 2 * x.1) := ⟨_, rfl⟩
    have hrp := rows_part (cc := m) (m := m) (i := 2 * x.1) (HA.out.below hB (Nat.le_refl _)) hB.size (by omega) (by omega)
    have hcv := hv.cell
    have hcp := hbp.cell
    have hmx : Tryd.prog.follows .mixedOrders = true := by kernel_rfl
    rw [← hm]
    gi_wp2_with fail
    refine region_in_round (fun W' => W'.cell? ⟨w1.heap.size, 0, none⟩ = some v ∧ W'.cell? ⟨w.heap.size, 0, none⟩ = some (.slice Ap P.length capp)) 8 hmx (by kernel_rfl) ?_
    refine held_take 1 (v := .slice (some ⟨b, off + 2 * x.1, none⟩) m m) rfl rfl (by kernel_rfl) (by decide) (by kernel_rfl) (by kernel_rfl) (by kernel_rfl) (by kernel_rfl) rfl ⟨hcv, hcp⟩ (fun w' hS => rfl) ?_
    refine held_take 0 (v := v) rfl rfl (by kernel_rfl) (by decide) (by kernel_rfl) (by kernel_rfl) (by kernel_rfl) (by kernel_rfl) rfl ⟨hcv, hcp⟩ (fun w' hS => ?_) ?_
    · obtain ⟨q1, q2⟩ := hS
      go_simp
    refine held_take 3 (v := .slice Ap P.length capp) rfl rfl (by kernel_rfl) (by decide) (by kernel_rfl) (by kernel_rfl) (by kernel_rfl) (by kernel_rfl) rfl ⟨hcv, hcp⟩ (fun w' hS => ?_) ?_
    · obtain ⟨q1, q2⟩ := hS
      go_simp
    simp only [Act.put, List.setIfInBounds_toArray, List.set_cons_zero, List.set_cons_succ]
    refine held_one (i := 2) (by kernel_rfl) ?_
    refine held_call (f := 8) (args := #[.int .u64 1]) rfl rfl (by go_simp) (of_any 1 _ (by decide)) ?_
    rintro e w2 ⟨⟨v1, rfl, ho1⟩, hb2'⟩
    have hb2 : Below W.heap.size W w2 := (Below.refl _ W).drew.trans hb2'
    have hc2 := (hb2.cell (p := ⟨w1.heap.size, 0, none⟩) hv.lt).trans hcv
    have hp2 := (hb2.cell (p := ⟨w.heap.size, 0, none⟩) hbp.lt).trans hcp
    refine ⟨_, rfl, ⟨hc2, hp2⟩, ?_⟩
    have hl1 : lim 1 = [1] := lim_eq (zs := [1]) (by decide) (Limbs.one (by decide)) (by decide)
    rw [hl1] at ho1
    obtain ⟨A1, c1, rfl⟩ := own_form ho1 rfl
    simp only [Act.put, List.setIfInBounds_toArray, List.set_cons_zero, List.set_cons_succ]
    have hPW := HP.out.below ((hB.trans (hb2.mono hB.size)))
    have hrw := rows2 ((env_start1 hPW).add (Below.refl _ _) (ho1.arg (Limbs.one (by decide)))) w2.heap.size rfl (va := .slice A1 [1].length c1) (vb := .slice Ap P.length capp) (xs := [1]) (ys := P) (by simp) (by simp)
    have hb3 : Below W.heap.size W (w2.alloc (.cells #[.slice A1 [1].length c1, .slice Ap P.length capp] 24)) := hb2.alloc hb2.size _
    refine held_one (i := 4) (by kernel_rfl) ?_
    refine held_value (v := .slice (some ⟨w2.heap.size, 0, none⟩) 2 2) (w' := w2.alloc (.cells #[.slice A1 [1].length c1, .slice Ap P.length capp] 24)) rfl rfl (by go_simp) ?_
    refine ⟨⟨(hb3.cell (p := ⟨w1.heap.size, 0, none⟩) hv.lt).trans hcv, (hb3.cell (p := ⟨w.heap.size, 0, none⟩) hbp.lt).trans hcp⟩, ?_⟩
    simp only [Act.put, List.setIfInBounds_toArray, List.set_cons_zero, List.set_cons_succ]
    have cS := sum_any _ _ _ _ _ (hrp.below hb3) hrw.1
    generalize w2.alloc (.cells #[.slice A1 [1].length c1, .slice Ap P.length capp] 24) = w3 at *
    refine held_one (i := 5) (by kernel_rfl) ?_
    refine held_call (f := 73) (args := #[.slice (some ⟨b, off + 2 * x.1, none⟩) m m, .slice (some ⟨w2.heap.size, 0, none⟩) 2 2]) rfl rfl (by go_simp) cS ?_
    rintro e w4 ⟨⟨v4, rfl, ho4⟩, hb4'⟩
    have hb4 := hb3.trans (hb4'.mono hb3.size)
    have hv4 : Boxed w4 w1.heap.size 58 v := (hb4.block _ hv.lt).trans hv
    have hbp4 : Boxed w4 w.heap.size 24 (.slice Ap P.length capp) := (hb4.block _ hbp.lt).trans hbp
    have hbs4 : Boxed w4 (w1.heap.size + 1) 58 (.slice (some ⟨b, off, none⟩) L.length cap) := (hb4.block _ hbs.lt).trans hbs
    have hbn4 : Boxed w4 (w1.heap.size + 1 + 1) 3 (.int .i64 2) := (hb4.block _ hbn.lt).trans hbn
    refine ⟨_, rfl, ⟨hv4.cell, hbp4.cell⟩, ?_⟩
    obtain ⟨A4, c4, rfl⟩ := own_form ho4 rfl
    simp only [Act.put, List.setIfInBounds_toArray, List.set_cons_zero, List.set_cons_succ]
    refine held_one (i := 6) (by kernel_rfl) ?_
    have hpf : sSum ((L.drop (2 * x.1)).take m) [[1], P] = pf L P x := by
      unfold pf
      rw [hm]
      congr 1
      rw [← List.length_drop, ← List.take_eq_take_min]
    rw [hpf] at ho4
    generalize hz : (sSum ((L.drop (2 * x.1)).take m) [[1], P]).length = nz
    rw [hpf] at hz
    rw [hz] at ho4
    refine held_value (v := .slice (some ⟨w4.heap.size, 0, none⟩) 1 1) (w' := w4.alloc (.cells #[.slice A4 nz c4] 24)) rfl rfl (by go_simp) ?_
    refine ⟨⟨(hv4.alloc _).cell, (hbp4.alloc _).cell⟩, ?_⟩
    simp only [Act.put, List.setIfInBounds_toArray, List.set_cons_zero, List.set_cons_succ]
    have hrow4 : w4.ownsRow (w.heap.size + 1) 24 1 v pre.length us := rowL_below hrow hb4
    refine held_one (i := 7) (by kernel_rfl) ?_
    refine held_wp (o := _) rfl rfl ?_
    refine wp_append_own _ _ _ 58 rfl (w.heap.size + 1) 24 i0 (.slice none 0 0) 1 24 Tryd.underlying58 hi hz0 hz1 hz2 rfl (by decide) v pre.length us rfl (hrow4.alloc _) ⟨w4.heap.size, 0, none⟩ 1 1 [.slice A4 nz c4] rfl rfl (cell_one_new _ _ _) (by simp [Value.oneCell']) (by unfold maxLen; omega) (by omega) (by have := hv4.lt; simp; omega) ?_
    intro v' w6 hown' hgrow hgone
    clear hgone
    obtain ⟨bV, bV', bR, bK, bB⟩ := hv4.appended (by decide) hrow4 (by have := hv4.lt; omega) (by omega) hown' hgrow
    have bbp : Boxed w6 w.heap.size 24 (.slice Ap P.length capp) := ((appended_plain hrow4 (by have := hv4.lt; omega) hgrow).2.block _ (by omega)).trans hbp4
    have bbs := ((hbs4.alloc _).kept hgrow (hbs4.not_row (by decide) hrow4)).other (B' := w1.heap.size) (by omega) v'
    have bbn := ((hbn4.alloc _).kept hgrow (hbn4.not_row (by decide) hrow4)).other (B' := w1.heap.size) (by omega) v'
    have bbq := bbp.other (B' := w1.heap.size) (by omega) v'
    have hN := OwnL.snoc (L := pre.map (pf L P)) (xs := pf L P x) (vs := us) (by rw [hlen]; exact hul) (by rw [hlen]; exact hrow4) (by rw [hlen]; exact fun j hj => (hall j hj).below hb4) (ho4.more (by have := hb3.size; have := hv.lt; omega)) (by rw [hlen]; exact hown') hgrow
    have hNs := hN.store bV (by decide) (by decide) v'
    have q1 := bV.cell
    have q2 := bV.frozen
    obtain ⟨g', cap', rfl⟩ := ownsRow_succ hown'
    simp only [Act.put, List.setIfInBounds_toArray, List.set_cons_zero, List.set_cons_succ]
    refine ⟨⟨q1, bbp.cell⟩, ?_⟩
    refine held_last (k := 8) (by kernel_rfl) (by kernel_rfl) ?_
    refine held_skip (w' := w6.setCell ⟨w1.heap.size, 0, none⟩ (.slice (some ⟨g', 0, none⟩) (pre.length + 1) cap')) rfl rfl (by go_simp) ?_
    refine held_done (by kernel_rfl) ⟨rfl, ?_⟩ _
    refine ⟨KeepsFrom.trans ⟨hb4.size, fun k o _ hk ho => (hb4.block k (Array.getElem?_eq_some_iff.1 hk).1).trans hk⟩ (bK.from _), ⟨(hb4.mono hB.size).trans (bB.mono (by omega)), ?_⟩, ⟨⟨⟨⟨_, bV', ?_⟩, bbq⟩, bbs⟩, bbn⟩, (hB.trans (hb4.mono hB.size)).trans (bB.mono (by omega))⟩
    · intro B hBm
      rw [List.mem_cons, List.mem_singleton] at hBm
      rcases hBm with rfl | rfl
      · exact bbs.trans hbs.symm
      · exact bbn.trans hbn.symm
    · rw [List.map_append]
      exact hNs
  case done =>
    rintro D ys' W hD rfl ⟨⟨⟨⟨⟨v, hv, hL⟩, hbp⟩, hbs⟩, hbn⟩, hB⟩ hK
    rw [pf_all] at hL
    have hL2 := (hL.putObj (.deferred none) hK rfl).more (B' := w.heap.size) (by omega)
    have hB' := Lib.hid (hB.trans (belowK_b (w := w) (Nat.le_refl _) _ D _ (.deferred none) (by simp at hD; omega) hK rfl rfl))
    obtain ⟨Av, cv, rfl⟩ := row_form hL.choose_spec.2.1
    have HL := Lib.hid hL2
    have hv1 := hv.cell
    clear hL hL2
    gi_wp2_with fail
    refine ⟨by simp, .inl ⟨_, _, rfl, run_takeDeferred hK, ?_⟩⟩
    exact ⟨_, results_tmp rfl _ _ _, ⟨.slice Av (jbt L P).length cv, rfl, HL.out⟩, hB'.out⟩
  case stop =>
    rintro D c pre W _ _ h _
    exact h.elim

theorem jbt_row (v vp : Value) (L : List (List Nat)) (P : List Nat) (w : World) (ha : RowsB w w.heap.size v L) (hp : Arg w vp P) (h0 : 0 < L.length) (hsm : L.length ≤ 1048576) :
    Calls Tryd.prog 51 #[v, vp] w fun e w' => (∃ v, e = .returned v ∧ OwnL w' w.heap.size v (jbt L P)) ∧ Below w.heap.size w w' := by
  obtain ⟨A, cap, vs, rfl, h1, h2, h3, h4⟩ := id ha
  obtain ⟨b, off, rfl, _, _⟩ := h4 h0
  exact jbt_any b off cap vp L P w ha hp h0 hsm

end Go.Proofs.YtileljokijmpaaaDoor

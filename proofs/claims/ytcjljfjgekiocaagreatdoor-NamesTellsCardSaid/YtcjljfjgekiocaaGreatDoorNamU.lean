/- Contract: Of. (Printed by wip/mknamu.py out of XNamT.) -/
import Derived.Test.YtcjljfjgekiocaaGreatDoorNamT
namespace Go.Proofs.YtcjljfjgekiocaaGreatDoor
open Go.RowKit Go.Shelf

attribute [local go_sem] Oper.semAt_some
set_option linter.unusedVariables false
set_option linter.unusedSimpArgs false

/-- the block that has the variable -/
def ofd (T : Tb) (L : Int) : Option Nat := (blks T.sc.length).find? fun i => isVr (vrAt T i) L
def ofV (T : Tb) (L : Int) : List Nat := match ofd T L with
  | some i => (((vrAt T i)[atV (vrAt T i) L]?).map (·.1)).getD []
  | none => []
theorem GoodT.vll {T : Tb} (h : GoodT T) (i : Nat) : (vrAt T i).length ≤ 1048576 := by
  have := h.nl i
  have := (h.nm i).2.2.2.2
  omega
theorem isVr_get {l : List Ent} {k : Int} (h : isVr l k = true) : ∃ e, l[atV l k]? = some e := by
  unfold isVr at h
  cases he : l[atV l k]? with
  | none => rw [he] at h; cases h
  | some e => exact ⟨e, rfl⟩
theorem results_of (tmps : Array Value) (w : World) (b0 b1 : Nat) (v x : Value) (h0 : tmps.getD 4 undef = .pointer (some ⟨b0, 0, none⟩)) (h1 : tmps.getD 5 undef = .pointer (some ⟨b1, 0, none⟩))
    (c0 : w.cell? ⟨b0, 0, none⟩ = some v) (c1 : w.cell? ⟨b1, 0, none⟩ = some x) :
    (results Tryz.f16 tmps).run Tryz.prog w = .ok (.tuple #[v, x]) w := by
  have hf : Tryz.f16.results = #[.cell 4 9, .cell 5 4] := rfl
  have h0' : tmps[4]?.getD undef = .pointer (some ⟨b0, 0, none⟩) := by simpa using h0
  have h1' : tmps[5]?.getD undef = .pointer (some ⟨b1, 0, none⟩) := by simpa using h1
  simp [results, hf, h0', h1', asAddr, loadVar, isAgg, underlying, Tryz.underlying9, Tryz.underlying4, c0, c1, Result.andThen, go_sem]
def OI (w : World) (g : Nat) (T : Tb) (L : Int) (pre : List Nat) (W : World) : Prop :=
  ((((Boxed W w.heap.size 3 (.int .i64 L) ∧ Boxed W (w.heap.size + 1) 9 (.string ⟨#[]⟩)) ∧ (Boxed W (w.heap.size + 2) 4 (.bool false))) ∧ Boxed W (w.heap.size + 3) 27 (.pointer (some ⟨g, 0, none⟩))) ∧ Below w.heap.size w W) ∧ ∀ j ∈ pre, isVr (vrAt T j) L = false
def OX (w : World) (T : Tb) (L : Int) (pre : List Nat) (W : World) : Prop :=
  ((((∃ v : List Nat, Boxed W (w.heap.size + 1) 9 (.string (str v)) ∧ (∀ k, (blks T.sc.length).take k = pre → ofV T L = v ∧ (ofd T L).isSome = true)) ∧ Boxed W (w.heap.size + 2) 4 (.bool true)) ∧ Below w.heap.size w W))
theorem OI_own (w : World) (g : Nat) (T : Tb) (L : Int) (B : Nat) (hB : w.heap.size ≤ B) : OwnFrom B (OI w g T L) :=
  OwnFrom.and (OwnFrom.and (OwnFrom.and (OwnFrom.and (OwnFrom.and (Own.from (boxed_own _ _ (fun _ => _)) _) (Own.from (boxed_own _ _ (fun _ => _)) _)) (Own.from (boxed_own _ _ (fun _ => _)) _)) (Own.from (boxed_own _ _ (fun _ => _)) _)) (ownFrom_below (Nat.le_refl _) hB)) (ownFrom_pure _ _)
theorem OX_own (w : World) (T : Tb) (L : Int) (B : Nat) (hB : w.heap.size ≤ B) : OwnFrom B (OX w T L) :=
  OwnFrom.and (OwnFrom.and (fun s X Y row ⟨v, h1, h2⟩ hg hr => ⟨v, boxed_own _ _ (fun _ : Unit => Value.string (str v)) () X Y row h1 hg (fun r e => (hr r e).2), h2⟩) (Own.from (boxed_own _ _ (fun _ => _)) _)) (ownFrom_below (Nat.le_refl _) hB)
set_option maxRecDepth 100000 in
set_option maxHeartbeats 8000000 in
theorem tabOf_any (g : Nat) (T : Tb) (ks : List Nat) (L : Int) (w : World) (B : Nat) (h : TabAt w B g T ks) (hG : GoodT T) :
    Calls Tryz.prog 16 #[.pointer (some ⟨g, 0, none⟩), .int .i64 L] w fun e w' => e = .returned (.tuple #[.string (str (ofV T L)), .bool (ofd T L).isSome]) ∧ Below w.heap.size w w' := by
  obtain ⟨a, b, s, xs, k0, h, rfl⟩ := h
  obtain ⟨f, A, c, hcell, hR, hf⟩ := tab_rd h
  have hgw : g < w.heap.size := kind_lt2 h.cell
  have HG := Lib.hid hG
  have HF := Lib.hid hf
  have HR := Lib.hid hR
  have HC := Lib.hid hcell
  have hsl := hG.sl
  clear h hG hf hR hcell
  refine (callsIn_wide (n := 9)).1 ?_
  refine callsIn_of_wp_marks Tryz.func16 rfl trivial ?_ rfl
  simp only [Tryz.ntmps16, List.size_toArray, List.length_cons, List.length_nil, Nat.reduceAdd, Nat.reduceSub, Array.replicate_succ, Array.replicate_zero, List.push_toArray, List.append_toArray, List.nil_append, List.cons_append]
  gi_wp2_with fail
  refine ⟨trivial, ?_⟩
  refine (blocks_in _ _ _).mono ?_
  rintro e w' ⟨rfl, rfl⟩
  gi_wp2_with fail
  obtain ⟨W4, hW4⟩ : ∃ W4, (((w.alloc (.cells #[.int .i64 L] 3)).alloc (.cells #[.string ⟨#[]⟩] 9)).alloc (.cells #[.bool false] 4)).alloc (.cells #[.pointer (some ⟨g, 0, none⟩)] 27) = W4 := ⟨_, rfl⟩
  have b1 : Boxed W4 w.heap.size 3 (.int .i64 L) := hW4 ▸ (((Boxed.new w _ _).alloc _).alloc _).alloc _
  have b2 : Boxed W4 (w.heap.size + 1) 9 (.string ⟨#[]⟩) := by
    have := ((Boxed.new (w.alloc (.cells #[.int .i64 L] 3)) 9 (.string ⟨#[]⟩)).alloc (.cells #[.bool false] 4)).alloc (.cells #[.pointer (some ⟨g, 0, none⟩)] 27)
    rw [World.size_alloc, hW4] at this
    exact this
  have b3 : Boxed W4 (w.heap.size + 2) 4 (.bool false) := by
    have := (Boxed.new ((w.alloc (.cells #[.int .i64 L] 3)).alloc (.cells #[.string ⟨#[]⟩] 9)) 4 (.bool false)).alloc (.cells #[.pointer (some ⟨g, 0, none⟩)] 27)
    rw [World.size_alloc, World.size_alloc, hW4] at this
    exact this
  have b4 : Boxed W4 (w.heap.size + 3) 27 (.pointer (some ⟨g, 0, none⟩)) := by
    have := Boxed.new (((w.alloc (.cells #[.int .i64 L] 3)).alloc (.cells #[.string ⟨#[]⟩] 9)).alloc (.cells #[.bool false] 4)) 27 (.pointer (some ⟨g, 0, none⟩))
    rw [World.size_alloc, World.size_alloc, World.size_alloc, hW4] at this
    exact this
  have hB4 : Below w.heap.size w W4 := hW4 ▸ ((((Below.refl _ w).alloc (Nat.le_refl _) _).alloc (by simp) _).alloc (by simp; omega) _).alloc (by simp; omega) _
  have hs4 : W4.heap.size = w.heap.size + 4 := by rw [← hW4]; simp
  simp only [World.size_alloc, hW4]
  clear hW4
  refine wpIn_rangeN (by decide) (gf := 66) (lb := #[.pointer (some ⟨w.heap.size + 3, 0, none⟩)]) rfl (enters_of Tryz.func66 (by kernel_rfl) rfl)
    (blocks_seq (w.heap.size + 3) w.heap.size g _ _ A T.sc.length c f hsl W4 (by omega) b4 hgw ((hB4.block g hgw).trans HC.out) (HR.out.below hB4)) (Below.refl _ _) (by omega) (fun B hB => by rw [List.mem_singleton.1 hB]; omega) (fun _ => rfl)
    (OI w g T L) (OX w T L) (OI_own w g T L _ (by omega)) (OX_own w T L _ (by omega)) ⟨⟨⟨⟨⟨b1, b2⟩, b3⟩, b4⟩, hB4⟩, by simp⟩
    (fun x => VarB W4.heap.size (f x) (fun gv => { tmps := #[.pointer (some ⟨g, 0, none⟩), .int .i64 L, undef, .pointer (some ⟨w.heap.size, 0, none⟩), .pointer (some ⟨w.heap.size + 1, 0, none⟩), .pointer (some ⟨w.heap.size + 2, 0, none⟩), .pointer (some ⟨gv, 0, none⟩), undef, undef, .pointer (some ⟨g, 0, none⟩), .func (.func 66) #[] #[.pointer (some ⟨w.heap.size + 3, 0, none⟩)], .agg #[sv (f x).1, sv (f x).2], undef, undef, undef, undef, undef, undef, undef, undef, undef, undef, undef, undef, undef, undef], defers := [] }))
    (fun x a' => VarB.own a') ?assign ?body ?done ?stop
  case assign =>
    intro l2 pre x W3 K hI hK
    unfold tellK
    generalize f x = fx at *
    obtain ⟨⟨fa, fb, fc⟩, ⟨fd, fe, ff⟩⟩ := fx
    dsimp only [sv] at *
    gi_wp2_with fail
    have hbe : Below W3.heap.size W3 (W3.alloc (.cells #[.slice fa fb fc, .slice fd fe ff] 62)) := (Below.refl _ W3).alloc (Nat.le_refl _) _
    have hsz := hI.1.2.size
    have l1 := hI.1.1.2.lt
    refine hK _ _ (KaF.of_below hbe) (NKp.of_below hbe (by omega) (fun B hB => by rw [List.mem_singleton.1 hB]; omega)) (OwnFrom.alloc (OI_own w g T L W4.heap.size (by omega)) _ hI) ⟨_, rfl, by omega, lone_new W3 _ _⟩
  case body =>
    rintro l2 pre x a' W3 hlw hlr ⟨⟨⟨⟨⟨u1, u2⟩, u3⟩, u4⟩, hB⟩, hno⟩ ⟨gv, rfl, hgv, hgc⟩ hlt
    obtain ⟨A1, c1, A2, c2, hfx, hr1, hr2⟩ := HF.out x
    obtain ⟨-, hs1, -, hok1, -⟩ := HG.out.nm x
    rw [hfx] at hgc ⊢
    dsimp only [sv] at hgc ⊢
    have hrd := hr2.below hB
    have C := lookV_any (vrAt T x) L A2 c2 W3 hrd hs1 hok1 trivial (HG.out.vll x)
    have HCC := Lib.hid C
    have HRD := Lib.hid hrd
    have HNO := Lib.hid hno
    have q1 := u1.cell
    have q2 := cell_of_row W3 gv 1 _ _ _ hgc
    simp only [List.getElem?_toArray, List.getElem?_cons_zero, List.getElem?_cons_succ] at q2
    clear hr1 hr2 hs1 hok1 hrd hno C hlr
    cases hI : isVr (vrAt T x) L with
    | false =>
      rw [hI] at HCC
      have HNI := Lib.hid hI
      clear hI
      generalize (vrAt T x).length = n1 at *
      generalize atV (vrAt T x) L = at1 at *
      gi_wp2_with fail
      refine ⟨trivial, ?_⟩
      refine (CallsIn.inRound l2 (callsIn_wide.2 HCC.out)).mono ?_
      rintro e W5 ⟨rfl, hb5⟩
      have v1 : Boxed W5 w.heap.size 3 (.int .i64 L) := (hb5.block _ u1.lt).trans u1
      have v2 : Boxed W5 (w.heap.size + 1) 9 (.string ⟨#[]⟩) := (hb5.block _ u2.lt).trans u2
      have v3 : Boxed W5 (w.heap.size + 2) 4 (.bool false) := (hb5.block _ u3.lt).trans u3
      have v4 : Boxed W5 (w.heap.size + 3) 27 (.pointer (some ⟨g, 0, none⟩)) := (hb5.block _ u4.lt).trans u4
      have hsz := hB.size
      have l4 := u4.lt
      have HFF := Lib.hid (show KaF W4.heap.size W3 W5 ∧ NKp w.heap.size [w.heap.size + 3] W3 W5 ∧ OI w g T L (pre ++ [x]) W5 from ⟨KaF.of_below hb5, NKp.of_below hb5 hsz (fun B hB => by rw [List.mem_singleton.1 hB]; exact l4), ⟨⟨⟨⟨v1, v2⟩, v3⟩, v4⟩, hB.trans (hb5.mono hsz)⟩, fun j hj => by
        rcases List.mem_append.1 hj with q | q
        · exact HNO.out j q
        · rw [List.mem_singleton.1 q]; exact HNI.out⟩)
      clear hb5 v1 v2 v3 v4 q1 q2 hB u1 u2 u3 u4
      gi_wp2_with fail
      exact HFF.out
    | true =>
      rw [hI] at HCC
      obtain ⟨ee, hee⟩ := isVr_get hI
      have HNI := Lib.hid hI
      obtain ⟨bb, oo, rfl, hbq, hcl⟩ := HRD.out.at hee
      have hev := (hcl _ _ hee).1
      have hat : atV (vrAt T x) L < (vrAt T x).length := (List.getElem?_eq_some_iff.1 hee).1
      have HEE := Lib.hid hee
      clear hI hee hcl
      have HVV : Hid (∀ k, (blks T.sc.length).take k = pre ++ [x] → ofV T L = ee.1 ∧ (ofd T L).isSome = true) := fun k hk => by
        have e : ofd T L = some x := find_first hk HNO.out HNI.out
        unfold ofV
        rw [e]
        dsimp only
        rw [HEE.out]
        exact ⟨rfl, rfl⟩
      generalize (vrAt T x).length = n1 at *
      generalize atV (vrAt T x) L = at1 at *
      have hati : (at1 : Int) < (n1 : Int) := by omega
      gi_wp2_with fail
      refine ⟨trivial, ?_⟩
      refine (CallsIn.inRound l2 (callsIn_wide.2 HCC.out)).mono ?_
      rintro e W5 ⟨rfl, hb5⟩
      have v2 : Boxed W5 (w.heap.size + 1) 9 (.string ⟨#[]⟩) := (hb5.block _ u2.lt).trans u2
      have v3 : Boxed W5 (w.heap.size + 2) 4 (.bool false) := (hb5.block _ u3.lt).trans u3
      have hev5 := (hb5.cell (p := ⟨bb, oo + at1 * 2, none⟩) hbq).trans hev
      have q25 := (hb5.cell (p := ⟨gv, 1, none⟩) (World.block_lt_of_cell? W3 _ q2)).trans q2
      have hsz := hB.size
      have y2 := v2.set (.string (str ee.1))
      have y3 := v3.other (B' := w.heap.size + 1) (by omega) (.string (str ee.1))
      have z2 := y2.other (B' := w.heap.size + 2) (by omega) (.bool true)
      have z3 := y3.set (.bool true)
      have HFF : Hid (KaF W4.heap.size W3 ((W5.setCell ⟨w.heap.size + 1, 0, none⟩ (.string (str ee.1))).setCell ⟨w.heap.size + 2, 0, none⟩ (.bool true)) ∧ OX w T L (pre ++ [x]) ((W5.setCell ⟨w.heap.size + 1, 0, none⟩ (.string (str ee.1))).setCell ⟨w.heap.size + 2, 0, none⟩ (.bool true))) :=
        ⟨(KaF.of_below hb5).trans ((KaF.set _ _ (by omega)).trans (KaF.set _ _ (by omega))), ⟨⟨_, z2, HVV.out⟩, z3⟩, ((hB.trans (hb5.mono hsz)).setCell (p := ⟨w.heap.size + 1, 0, none⟩) (Nat.le_succ _) _).setCell (p := ⟨w.heap.size + 2, 0, none⟩) (by show _ ≤ w.heap.size + 2; omega) _⟩
      have c2' := v2.cell
      have f2' := v2.frozen
      have c3' := y3.cell
      have f3' := y3.frozen
      clear hb5 y2 y3 z2 z3 v2 v3 q1 q2 hB u1 u2 u3 u4 hev hgc
      gi_wp2_with fail
      exact HFF.out
  case done =>
    rintro D ys W3 hD rfl ⟨⟨⟨⟨⟨u1, u2⟩, u3⟩, u4⟩, hB⟩, hno⟩ hK
    have e : ofd T L = none := List.find?_eq_none.2 fun j hj => by rw [hno j hj]; decide
    have HE1 : Hid (ofV T L = []) := by show ofV T L = []; unfold ofV; rw [e]
    have HE2 : Hid ((ofd T L).isSome = false) := by show _ = _; rw [e]; rfl
    have y2 := u2.set (.string ⟨#[]⟩)
    have y3 := u3.other (B' := w.heap.size + 1) (by omega) (.string ⟨#[]⟩)
    have z2 := y2.other (B' := w.heap.size + 2) (by omega) (.bool false)
    have z3 := y3.set (.bool false)
    have HB := Lib.hid ((hB.setCell (p := ⟨w.heap.size + 1, 0, none⟩) (Nat.le_succ _) (.string ⟨#[]⟩)).setCell (p := ⟨w.heap.size + 2, 0, none⟩) (by show _ ≤ w.heap.size + 2; omega) (.bool false))
    have hK1 := (KeepsOthers.setCell W3 ⟨w.heap.size + 1, 0, none⟩ (.string ⟨#[]⟩)).same D _ hK rfl
    have hK2 := Lib.hid ((KeepsOthers.setCell _ ⟨w.heap.size + 2, 0, none⟩ (.bool false)).same D _ hK1 rfl)
    have Z2 := Lib.hid z2
    have Z3 := Lib.hid z3
    have c2' := u2.cell
    have f2' := u2.frozen
    have c3' := y3.cell
    have f3' := y3.frozen
    clear hK hK1 y2 y3 z2 z3 u1 u2 u3 u4 hB hno e b1 b2 b3 b4
    gi_wp2_with fail
    refine ⟨by simp, .inl ⟨_, _, rfl, run_takeDeferred hK2.out, ?_⟩⟩
    have t2 := Z2.out.kept (grownBy_putObj' _ D (.deferred none)) (fun e => by cases e; omega)
    have t3 := Z3.out.kept (grownBy_putObj' _ D (.deferred none)) (fun e => by cases e; omega)
    refine ⟨_, results_of _ _ _ _ _ _ rfl rfl t2.cell t3.cell, by rw [HE1.out, HE2.out]; rfl, ?_⟩
    exact HB.out.trans (belowK_b (w := w) (Nat.le_refl _) _ D _ (.deferred none) (by omega) hK2.out rfl rfl)
  case stop =>
    rintro D pre W3 hD ⟨k, hk, rfl⟩ ⟨⟨⟨v, u2, hv⟩, u3⟩, hB⟩ hK
    obtain ⟨hv1, hv2⟩ := hv _ rfl
    have HE1 := Lib.hid hv1
    have HE2 := Lib.hid hv2
    have HB := Lib.hid (hB.trans (belowK_b (w := w) (Nat.le_refl _) _ D _ (.deferred none) (by omega) hK rfl rfl))
    have t2 := Lib.hid (u2.kept (grownBy_putObj' _ D (.deferred none)) (fun e => by cases e; omega))
    have t3 := Lib.hid (u3.kept (grownBy_putObj' _ D (.deferred none)) (fun e => by cases e; omega))
    clear hv hv1 hv2 hB b1 b2 b3 b4 u2 u3
    gi_wp2_with fail
    refine ⟨by simp, .inl ⟨_, _, rfl, run_takeDeferred hK, ?_⟩⟩
    exact ⟨_, results_of _ _ _ _ _ _ rfl rfl t2.out.cell t3.out.cell, by rw [HE1.out, HE2.out], HB.out⟩
end Go.Proofs.YtcjljfjgekiocaaGreatDoor

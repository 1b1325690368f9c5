/- Contract: Find. -/
import Derived.Test.YtcjljfjgekiocaaGreatDoorNamS
namespace Go.Proofs.YtcjljfjgekiocaaGreatDoor
open Go.RowKit Go.Shelf

attribute [local go_sem] Oper.semAt_some
set_option linter.unusedVariables false
set_option linter.unusedSimpArgs false

theorem srV_len {n : Nat} : ∀ {l : List Ent} {m : Nat}, SrV l → (∀ e ∈ l, m ≤ e.2 ∧ e.2 < n) → l.length ≤ n - m
  | [], m, _, _ => Nat.zero_le _
  | e :: r, m, h, hb => by
    obtain ⟨h1, h2⟩ := List.pairwise_cons.1 h
    have := srV_len (m := e.2 + 1) h2 fun x hx => ⟨h1 x hx, (hb x (by simp [hx])).2⟩
    have := hb e (by simp)
    rw [List.length_cons]
    omega
theorem GoodT.nl {T : Tb} (h : GoodT T) (i : Nat) : (nmAt T i).length ≤ 1048576 := by
  unfold nmAt
  by_cases hm : i = T.sc.length
  · rw [if_pos hm]
    have := h.dl
    omega
  · rw [if_neg hm]
    cases hs : T.sc[i]? with
    | none => simp
    | some s =>
      obtain ⟨h1, h2, h3, -, h5⟩ := h.scs s (List.mem_of_getElem? hs)
      have := srV_len (m := 0) (n := T.nx) h2 fun e he => ⟨Nat.zero_le _, (h5 e he).2.2.2⟩
      have := h3.length_eq
      have := h.nx
      show s.1.length ≤ _
      omega
theorem results_find (tmps : Array Value) (w : World) (b0 b1 : Nat) (v x : Value) (h0 : tmps.getD 4 undef = .pointer (some ⟨b0, 0, none⟩)) (h1 : tmps.getD 5 undef = .pointer (some ⟨b1, 0, none⟩))
    (c0 : w.cell? ⟨b0, 0, none⟩ = some v) (c1 : w.cell? ⟨b1, 0, none⟩ = some x) :
    (results Tryz.f15 tmps).run Tryz.prog w = .ok (.tuple #[v, x]) w := by
  have hf : Tryz.f15.results = #[.cell 4 3, .cell 5 4] := rfl
  have h0' : tmps[4]?.getD undef = .pointer (some ⟨b0, 0, none⟩) := by simpa using h0
  have h1' : tmps[5]?.getD undef = .pointer (some ⟨b1, 0, none⟩) := by simpa using h1
  simp [results, hf, h0', h1', asAddr, loadVar, isAgg, underlying, Tryz.underlying3, Tryz.underlying4, c0, c1, Result.andThen, go_sem]
theorem isNm_get {l : List Ent} {k : List Nat} (h : isNm l k = true) : ∃ e, l[atN l k]? = some e := by
  unfold isNm at h
  cases he : l[atN l k]? with
  | none => rw [he] at h; cases h
  | some e => exact ⟨e, rfl⟩
def FI (w : World) (g : Nat) (T : Tb) (L : List Nat) (pre : List Nat) (W : World) : Prop :=
  ((((Boxed W w.heap.size 9 (.string (str L)) ∧ Boxed W (w.heap.size + 1) 3 (.int .i64 0)) ∧ (Boxed W (w.heap.size + 2) 4 (.bool false))) ∧ Boxed W (w.heap.size + 3) 27 (.pointer (some ⟨g, 0, none⟩))) ∧ Below w.heap.size w W) ∧ ∀ j ∈ pre, isNm (nmAt T j) L = false
def FX (w : World) (T : Tb) (L : List Nat) (pre : List Nat) (W : World) : Prop :=
  ((((∃ v, Boxed W (w.heap.size + 1) 3 (.int .i64 ((v : Nat) : Int)) ∧ (∀ k, (blks T.sc.length).take k = pre → findV T L = v ∧ (fnd T L).isSome = true)) ∧ Boxed W (w.heap.size + 2) 4 (.bool true)) ∧ Below w.heap.size w W))
theorem FI_own (w : World) (g : Nat) (T : Tb) (L : List Nat) (B : Nat) (hB : w.heap.size ≤ B) : OwnFrom B (FI w g T L) :=
  OwnFrom.and (OwnFrom.and (OwnFrom.and (OwnFrom.and (OwnFrom.and (Own.from (boxed_own _ _ (fun _ => _)) _) (Own.from (boxed_own _ _ (fun _ => _)) _)) (Own.from (boxed_own _ _ (fun _ => _)) _)) (Own.from (boxed_own _ _ (fun _ => _)) _)) (ownFrom_below (Nat.le_refl _) hB)) (ownFrom_pure _ _)
theorem FX_own (w : World) (T : Tb) (L : List Nat) (B : Nat) (hB : w.heap.size ≤ B) : OwnFrom B (FX w T L) :=
  OwnFrom.and (OwnFrom.and (fun s X Y row ⟨v, h1, h2⟩ hg hr => ⟨v, boxed_own _ _ (fun _ : Unit => Value.int .i64 ((v : Nat) : Int)) () X Y row h1 hg (fun r e => (hr r e).2), h2⟩) (Own.from (boxed_own _ _ (fun _ => _)) _)) (ownFrom_below (Nat.le_refl _) hB)
set_option maxRecDepth 100000 in
set_option maxHeartbeats 8000000 in
theorem find_any (g : Nat) (T : Tb) (ks : List Nat) (L : List Nat) (w : World) (B : Nat) (h : TabAt w B g T ks) (hG : GoodT T) (hc : Codes L) (hl : L.length < 9223372036854775807) :
    Calls Tryz.prog 15 #[.pointer (some ⟨g, 0, none⟩), .string (str L)] w fun e w' => e = .returned (.tuple #[.int .i64 ((findV T L : Nat) : Int), .bool (fnd T L).isSome]) ∧ Below w.heap.size w w' := by
  obtain ⟨a, b, s, xs, k0, h, rfl⟩ := h
  obtain ⟨f, A, c, hcell, hR, hf⟩ := tab_rd h
  have hgw : g < w.heap.size := kind_lt2 h.cell
  have HG := Lib.hid hG
  have HF := Lib.hid hf
  have HR := Lib.hid hR
  have HC := Lib.hid hcell
  have HCL := Lib.hid hc
  have hsl := hG.sl
  clear h hG hf hR hcell hc
  refine (callsIn_wide (n := 9)).1 ?_
  refine callsIn_of_wp_marks Tryz.func15 rfl trivial ?_ rfl
  simp only [Tryz.ntmps15, List.size_toArray, List.length_cons, List.length_nil, Nat.reduceAdd, Nat.reduceSub, Array.replicate_succ, Array.replicate_zero, List.push_toArray, List.append_toArray, List.nil_append, List.cons_append]
  gi_wp2_with fail
  refine ⟨trivial, ?_⟩
  refine (blocks_in _ _ _).mono ?_
  rintro e w' ⟨rfl, rfl⟩
  gi_wp2_with fail
  obtain ⟨W4, hW4⟩ : ∃ W4, (((w.alloc (.cells #[.string (str L)] 9)).alloc (.cells #[.int .i64 0] 3)).alloc (.cells #[.bool false] 4)).alloc (.cells #[.pointer (some ⟨g, 0, none⟩)] 27) = W4 := ⟨_, rfl⟩
  have b1 : Boxed W4 w.heap.size 9 (.string (str L)) := hW4 ▸ (((Boxed.new w _ _).alloc _).alloc _).alloc _
  have b2 : Boxed W4 (w.heap.size + 1) 3 (.int .i64 0) := by
    have := ((Boxed.new (w.alloc (.cells #[.string (str L)] 9)) 3 (.int .i64 0)).alloc (.cells #[.bool false] 4)).alloc (.cells #[.pointer (some ⟨g, 0, none⟩)] 27)
    rw [World.size_alloc, hW4] at this
    exact this
  have b3 : Boxed W4 (w.heap.size + 2) 4 (.bool false) := by
    have := (Boxed.new ((w.alloc (.cells #[.string (str L)] 9)).alloc (.cells #[.int .i64 0] 3)) 4 (.bool false)).alloc (.cells #[.pointer (some ⟨g, 0, none⟩)] 27)
    rw [World.size_alloc, World.size_alloc, hW4] at this
    exact this
  have b4 : Boxed W4 (w.heap.size + 3) 27 (.pointer (some ⟨g, 0, none⟩)) := by
    have := Boxed.new (((w.alloc (.cells #[.string (str L)] 9)).alloc (.cells #[.int .i64 0] 3)).alloc (.cells #[.bool false] 4)) 27 (.pointer (some ⟨g, 0, none⟩))
    rw [World.size_alloc, World.size_alloc, World.size_alloc, hW4] at this
    exact this
  have hB4 : Below w.heap.size w W4 := hW4 ▸ ((((Below.refl _ w).alloc (Nat.le_refl _) _).alloc (by simp) _).alloc (by simp; omega) _).alloc (by simp; omega) _
  have hs4 : W4.heap.size = w.heap.size + 4 := by rw [← hW4]; simp
  simp only [World.size_alloc, hW4]
  clear hW4
  refine wpIn_rangeN (by decide) (gf := 66) (lb := #[.pointer (some ⟨w.heap.size + 3, 0, none⟩)]) rfl (enters_of Tryz.func66 (by kernel_rfl) rfl)
    (blocks_seq (w.heap.size + 3) w.heap.size g _ _ A T.sc.length c f hsl W4 (by omega) b4 hgw ((hB4.block g hgw).trans HC.out) (HR.out.below hB4)) (Below.refl _ _) (by omega) (fun B hB => by rw [List.mem_singleton.1 hB]; omega) (fun _ => rfl)
    (FI w g T L) (FX w T L) (FI_own w g T L _ (by omega)) (FX_own w T L _ (by omega)) ⟨⟨⟨⟨⟨b1, b2⟩, b3⟩, b4⟩, hB4⟩, by simp⟩
    (fun x => VarB W4.heap.size (f x) (fun gv => { tmps := #[.pointer (some ⟨g, 0, none⟩), .string (str L), undef, .pointer (some ⟨w.heap.size, 0, none⟩), .pointer (some ⟨w.heap.size + 1, 0, none⟩), .pointer (some ⟨w.heap.size + 2, 0, none⟩), .pointer (some ⟨gv, 0, none⟩), undef, undef, .pointer (some ⟨g, 0, none⟩), .func (.func 66) #[] #[.pointer (some ⟨w.heap.size + 3, 0, none⟩)], .agg #[sv (f x).1, sv (f x).2], undef, undef, undef, undef, undef, undef, undef, undef, undef, undef, undef, undef, undef, undef], defers := [] }))
    (fun x a' => VarB.own a') ?assign ?body ?done ?stop
  case assign =>
    intro l2 pre x W3 K hI hK
    unfold tellK
    generalize f x = fx at *
    obtain ⟨⟨fa, fb, fc⟩, ⟨fd, fe, ff⟩⟩ := fx
    dsimp only [sv] at *
    gi_wp2_with fail
    have hbe : Below W3.heap.size W3 (W3.alloc (.cells #[.slice fa fb fc, .slice fd fe ff] 62)) := (Below.refl _ W3).alloc (Nat.le_refl _) _
    have hsz := hI.1.2.size
    have l1 := hI.1.1.2.lt
    refine hK _ _ (KaF.of_below hbe) (NKp.of_below hbe (by omega) (fun B hB => by rw [List.mem_singleton.1 hB]; omega)) (OwnFrom.alloc (FI_own w g T L W4.heap.size (by omega)) _ hI) ⟨_, rfl, by omega, lone_new W3 _ _⟩
  case body =>
    rintro l2 pre x a' W3 hlw hlr ⟨⟨⟨⟨⟨u1, u2⟩, u3⟩, u4⟩, hB⟩, hno⟩ ⟨gv, rfl, hgv, hgc⟩ hlt
    obtain ⟨A1, c1, A2, c2, hfx, hr1, hr2⟩ := HF.out x
    obtain ⟨hs1, -, hok1, -, -⟩ := HG.out.nm x
    rw [hfx] at hgc ⊢
    dsimp only [sv] at hgc ⊢
    have hrd := hr1.below hB
    have C := lookN_any (nmAt T x) L A1 c1 W3 hrd hs1 hok1 HCL.out (HG.out.nl x)
    have HCC := Lib.hid C
    have HRD := Lib.hid hrd
    have HNO := Lib.hid hno
    have q1 := u1.cell
    have q2 := cell_of_row W3 gv 0 _ _ _ hgc
    simp only [List.getElem?_toArray, List.getElem?_cons_zero, List.getElem?_cons_succ] at q2
    clear hr1 hr2 hs1 hok1 hrd hno C hlr
    cases hI : isNm (nmAt T x) L with
    | false =>
      rw [hI] at HCC
      have HNI := Lib.hid hI
      clear hI
      generalize (nmAt T x).length = n1 at *
      generalize atN (nmAt T x) L = at1 at *
      gi_wp2_with fail
      refine ⟨trivial, ?_⟩
      refine (CallsIn.inRound l2 (callsIn_wide.2 HCC.out)).mono ?_
      rintro e W5 ⟨rfl, hb5⟩
      have v1 : Boxed W5 w.heap.size 9 (.string (str L)) := (hb5.block _ u1.lt).trans u1
      have v2 : Boxed W5 (w.heap.size + 1) 3 (.int .i64 0) := (hb5.block _ u2.lt).trans u2
      have v3 : Boxed W5 (w.heap.size + 2) 4 (.bool false) := (hb5.block _ u3.lt).trans u3
      have v4 : Boxed W5 (w.heap.size + 3) 27 (.pointer (some ⟨g, 0, none⟩)) := (hb5.block _ u4.lt).trans u4
      have hsz := hB.size
      have l4 := u4.lt
      have HFF := Lib.hid (show KaF W4.heap.size W3 W5 ∧ NKp w.heap.size [w.heap.size + 3] W3 W5 ∧ FI w g T L (pre ++ [x]) W5 from ⟨KaF.of_below hb5, NKp.of_below hb5 hsz (fun B hB => by rw [List.mem_singleton.1 hB]; exact l4), ⟨⟨⟨⟨v1, v2⟩, v3⟩, v4⟩, hB.trans (hb5.mono hsz)⟩, fun j hj => by
        rcases List.mem_append.1 hj with q | q
        · exact HNO.out j q
        · rw [List.mem_singleton.1 q]; exact HNI.out⟩)
      clear hb5 v1 v2 v3 v4 q1 q2 hB u1 u2 u3 u4
      gi_wp2_with fail
      exact HFF.out
    | true =>
      rw [hI] at HCC
      obtain ⟨ee, hee⟩ := isNm_get hI
      have HNI := Lib.hid hI
      obtain ⟨bb, oo, rfl, hbq, hcl⟩ := HRD.out.at hee
      have hev := (hcl _ _ hee).2
      have hat : atN (nmAt T x) L < (nmAt T x).length := (List.getElem?_eq_some_iff.1 hee).1
      have HEE := Lib.hid hee
      clear hI hee hcl
      have HVV : Hid (∀ k, (blks T.sc.length).take k = pre ++ [x] → findV T L = ee.2 ∧ (fnd T L).isSome = true) := fun k hk => by
        have e : fnd T L = some x := find_first hk HNO.out HNI.out
        unfold findV
        rw [e]
        dsimp only
        rw [HEE.out]
        exact ⟨rfl, rfl⟩
      generalize (nmAt T x).length = n1 at *
      generalize atN (nmAt T x) L = at1 at *
      have hati : (at1 : Int) < (n1 : Int) := by omega
      gi_wp2_with fail
      refine ⟨trivial, ?_⟩
      refine (CallsIn.inRound l2 (callsIn_wide.2 HCC.out)).mono ?_
      rintro e W5 ⟨rfl, hb5⟩
      have v2 : Boxed W5 (w.heap.size + 1) 3 (.int .i64 0) := (hb5.block _ u2.lt).trans u2
      have v3 : Boxed W5 (w.heap.size + 2) 4 (.bool false) := (hb5.block _ u3.lt).trans u3
      have hev5 := (hb5.cell (p := ⟨bb, oo + at1 * 2 + 1, none⟩) hbq).trans hev
      have q25 := (hb5.cell (p := ⟨gv, 0, none⟩) (World.block_lt_of_cell? W3 _ q2)).trans q2
      have hsz := hB.size
      have y2 := v2.set (.int .i64 ((ee.2 : Nat) : Int))
      have y3 := v3.other (B' := w.heap.size + 1) (by omega) (.int .i64 ((ee.2 : Nat) : Int))
      have z2 := y2.other (B' := w.heap.size + 2) (by omega) (.bool true)
      have z3 := y3.set (.bool true)
      have HFF : Hid (KaF W4.heap.size W3 ((W5.setCell ⟨w.heap.size + 1, 0, none⟩ (.int .i64 ((ee.2 : Nat) : Int))).setCell ⟨w.heap.size + 2, 0, none⟩ (.bool true)) ∧ FX w T L (pre ++ [x]) ((W5.setCell ⟨w.heap.size + 1, 0, none⟩ (.int .i64 ((ee.2 : Nat) : Int))).setCell ⟨w.heap.size + 2, 0, none⟩ (.bool true))) :=
        ⟨(KaF.of_below hb5).trans ((KaF.set _ _ (by omega)).trans (KaF.set _ _ (by omega))), ⟨⟨_, z2, HVV.out⟩, z3⟩, ((hB.trans (hb5.mono hsz)).setCell (p := ⟨w.heap.size + 1, 0, none⟩) (Nat.le_succ _) _).setCell (p := ⟨w.heap.size + 2, 0, none⟩) (by show _ ≤ w.heap.size + 2; omega) _⟩
      have c2' := v2.cell
      have f2' := v2.frozen
      have c3' := y3.cell
      have f3' := y3.frozen
      clear hb5 y2 y3 z2 z3 v2 v3 q1 q2 hB u1 u2 u3 u4 hev hgc
      gi_wp2_with fail
      exact HFF.out
  case done =>
    rintro D ys W3 hD rfl ⟨⟨⟨⟨⟨u1, u2⟩, u3⟩, u4⟩, hB⟩, hno⟩ hK
    have e : fnd T L = none := List.find?_eq_none.2 fun j hj => by rw [hno j hj]; decide
    have HE1 : Hid (findV T L = 0) := by show findV T L = 0; unfold findV; rw [e]
    have HE2 : Hid ((fnd T L).isSome = false) := by show _ = _; rw [e]; rfl
    have y2 := u2.set (.int .i64 0)
    have y3 := u3.other (B' := w.heap.size + 1) (by omega) (.int .i64 0)
    have z2 := y2.other (B' := w.heap.size + 2) (by omega) (.bool false)
    have z3 := y3.set (.bool false)
    have HB := Lib.hid ((hB.setCell (p := ⟨w.heap.size + 1, 0, none⟩) (Nat.le_succ _) (.int .i64 0)).setCell (p := ⟨w.heap.size + 2, 0, none⟩) (by show _ ≤ w.heap.size + 2; omega) (.bool false))
    have hK1 := (KeepsOthers.setCell W3 ⟨w.heap.size + 1, 0, none⟩ (.int .i64 0)).same D _ hK rfl
    have hK2 := Lib.hid ((KeepsOthers.setCell _ ⟨w.heap.size + 2, 0, none⟩ (.bool false)).same D _ hK1 rfl)
    have Z2 := Lib.hid z2
    have Z3 := Lib.hid z3
    have c2' := u2.cell
    have f2' := u2.frozen
    have c3' := y3.cell
    have f3' := y3.frozen
    clear hK hK1 y2 y3 z2 z3 u1 u2 u3 u4 hB hno e b1 b2 b3 b4
    gi_wp2_with fail
    refine ⟨by simp, .inl ⟨_, _, rfl, run_takeDeferred hK2.out, ?_⟩⟩
    have t2 := Z2.out.kept (grownBy_putObj' _ D (.deferred none)) (fun e => by cases e; omega)
    have t3 := Z3.out.kept (grownBy_putObj' _ D (.deferred none)) (fun e => by cases e; omega)
    refine ⟨_, results_find _ _ _ _ _ _ rfl rfl t2.cell t3.cell, by rw [HE1.out, HE2.out]; rfl, ?_⟩
    exact HB.out.trans (belowK_b (w := w) (Nat.le_refl _) _ D _ (.deferred none) (by omega) hK2.out rfl rfl)
  case stop =>
    rintro D pre W3 hD ⟨k, hk, rfl⟩ ⟨⟨⟨v, u2, hv⟩, u3⟩, hB⟩ hK
    obtain ⟨hv1, hv2⟩ := hv _ rfl
    have HE1 := Lib.hid hv1
    have HE2 := Lib.hid hv2
    have HB := Lib.hid (hB.trans (belowK_b (w := w) (Nat.le_refl _) _ D _ (.deferred none) (by omega) hK rfl rfl))
    have t2 := Lib.hid (u2.kept (grownBy_putObj' _ D (.deferred none)) (fun e => by cases e; omega))
    have t3 := Lib.hid (u3.kept (grownBy_putObj' _ D (.deferred none)) (fun e => by cases e; omega))
    clear hv hv1 hv2 hB b1 b2 b3 b4 u2 u3
    gi_wp2_with fail
    refine ⟨by simp, .inl ⟨_, _, rfl, run_takeDeferred hK, ?_⟩⟩
    exact ⟨_, results_find _ _ _ _ _ _ rfl rfl t2.out.cell t3.out.cell, by rw [HE1.out, HE2.out], HB.out⟩
end Go.Proofs.YtcjljfjgekiocaaGreatDoor

/- Find and Of of no table. (Printed by wip/mknamn.py out of XNamT.) -/
import Derived.Test.YtcjljfjgekiocaaGreatDoorNamY
namespace Go.Proofs.YtcjljfjgekiocaaGreatDoor
open Go.RowKit Go.Shelf

attribute [local go_sem] Oper.semAt_some
set_option linter.unusedVariables false
set_option linter.unusedSimpArgs false

def NI (w : World) (L : List Nat) (pre : List Nat) (W : World) : Prop :=
  ((((Boxed W w.heap.size 9 (.string (str L)) ∧ Boxed W (w.heap.size + 1) 3 (.int .i64 0)) ∧ (Boxed W (w.heap.size + 2) 4 (.bool false))) ∧ Boxed W (w.heap.size + 3) 27 (.pointer none)) ∧ Below w.heap.size w W) ∧ True
theorem NI_own (w : World) (L : List Nat) (B : Nat) (hB : w.heap.size ≤ B) : OwnFrom B (NI w L) :=
  OwnFrom.and (OwnFrom.and (OwnFrom.and (OwnFrom.and (OwnFrom.and (Own.from (boxed_own _ _ (fun _ => _)) _) (Own.from (boxed_own _ _ (fun _ => _)) _)) (Own.from (boxed_own _ _ (fun _ => _)) _)) (Own.from (boxed_own _ _ (fun _ => _)) _)) (ownFrom_below (Nat.le_refl _) hB)) (ownFrom_pure _ _)
set_option maxRecDepth 100000 in
set_option maxHeartbeats 8000000 in
theorem find_nil (L : List Nat) (w : World) :
    Calls Tryz.prog 15 #[.pointer none, .string (str L)] w fun e w' => e = .returned (.tuple #[.int .i64 0, .bool false]) ∧ Below w.heap.size w w' := by
  refine (callsIn_wide (n := 9)).1 ?_
  refine callsIn_of_wp_marks Tryz.func15 rfl trivial ?_ rfl
  simp only [Tryz.ntmps15, List.size_toArray, List.length_cons, List.length_nil, Nat.reduceAdd, Nat.reduceSub, Array.replicate_succ, Array.replicate_zero, List.push_toArray, List.append_toArray, List.nil_append, List.cons_append]
  gi_wp2_with fail
  refine ⟨trivial, ?_⟩
  refine (blocks_in _ _ _).mono ?_
  rintro e w' ⟨rfl, rfl⟩
  gi_wp2_with fail
  obtain ⟨W4, hW4⟩ : ∃ W4, (((w.alloc (.cells #[.string (str L)] 9)).alloc (.cells #[.int .i64 0] 3)).alloc (.cells #[.bool false] 4)).alloc (.cells #[.pointer none] 27) = W4 := ⟨_, rfl⟩
  have b1 : Boxed W4 w.heap.size 9 (.string (str L)) := hW4 ▸ (((Boxed.new w _ _).alloc _).alloc _).alloc _
  have b2 : Boxed W4 (w.heap.size + 1) 3 (.int .i64 0) := by
    have := ((Boxed.new (w.alloc (.cells #[.string (str L)] 9)) 3 (.int .i64 0)).alloc (.cells #[.bool false] 4)).alloc (.cells #[.pointer none] 27)
    rw [World.size_alloc, hW4] at this
    exact this
  have b3 : Boxed W4 (w.heap.size + 2) 4 (.bool false) := by
    have := (Boxed.new ((w.alloc (.cells #[.string (str L)] 9)).alloc (.cells #[.int .i64 0] 3)) 4 (.bool false)).alloc (.cells #[.pointer none] 27)
    rw [World.size_alloc, World.size_alloc, hW4] at this
    exact this
  have b4 : Boxed W4 (w.heap.size + 3) 27 (.pointer none) := by
    have := Boxed.new (((w.alloc (.cells #[.string (str L)] 9)).alloc (.cells #[.int .i64 0] 3)).alloc (.cells #[.bool false] 4)) 27 (.pointer none)
    rw [World.size_alloc, World.size_alloc, World.size_alloc, hW4] at this
    exact this
  have hB4 : Below w.heap.size w W4 := hW4 ▸ ((((Below.refl _ w).alloc (Nat.le_refl _) _).alloc (by simp) _).alloc (by simp; omega) _).alloc (by simp; omega) _
  have hs4 : W4.heap.size = w.heap.size + 4 := by rw [← hW4]; simp
  simp only [World.size_alloc, hW4]
  clear hW4
  refine wpIn_rangeN (by decide) (gf := 66) (lb := #[.pointer (some ⟨w.heap.size + 3, 0, none⟩)]) rfl (enters_of Tryz.func66 (by kernel_rfl) rfl)
    (blocks_nil (w.heap.size + 3) w.heap.size _ (fun _ => ((none, 0, 0), (none, 0, 0))) W4 b4) (Below.refl _ _) (by omega) (fun B hB => by rw [List.mem_singleton.1 hB]; omega) (fun _ => rfl)
    (NI w L) (fun _ _ => False) (NI_own w L _ (by omega)) (fun _ _ _ _ h _ _ => h) ⟨⟨⟨⟨⟨b1, b2⟩, b3⟩, b4⟩, hB4⟩, trivial⟩
    (fun x => VarB W4.heap.size ((none, 0, 0), (none, 0, 0)) (fun gv => { tmps := #[.pointer none, .string (str L), undef, .pointer (some ⟨w.heap.size, 0, none⟩), .pointer (some ⟨w.heap.size + 1, 0, none⟩), .pointer (some ⟨w.heap.size + 2, 0, none⟩), .pointer (some ⟨gv, 0, none⟩), undef, undef, .pointer none, .func (.func 66) #[] #[.pointer (some ⟨w.heap.size + 3, 0, none⟩)], .agg #[sv (none, 0, 0), sv (none, 0, 0)], undef, undef, undef, undef, undef, undef, undef, undef, undef, undef, undef, undef, undef, undef], defers := [] }))
    (fun x a' => VarB.own a') ?assign ?body ?done ?stop
  case assign =>
    intro l2 pre x W3 K hI hK
    unfold tellK
    dsimp only [sv]
    gi_wp2_with fail
    have hbe : Below W3.heap.size W3 (W3.alloc (.cells #[.slice none 0 0, .slice none 0 0] 62)) := (Below.refl _ W3).alloc (Nat.le_refl _) _
    have hsz := hI.1.2.size
    have l1 := hI.1.1.2.lt
    exact hK _ _ (KaF.of_below hbe) (NKp.of_below hbe (by omega) (fun B hB => by rw [List.mem_singleton.1 hB]; omega)) (OwnFrom.alloc (NI_own w L W4.heap.size (by omega)) _ hI) ⟨_, rfl, by omega, lone_new W3 _ _⟩
  case body =>
    intro l2 pre x a' W3 _ _ _ _ hlt
    exact absurd hlt (Nat.not_lt_zero _)
  case done =>
    rintro D ys W3 hD rfl ⟨⟨⟨⟨⟨u1, u2⟩, u3⟩, u4⟩, hB⟩, -⟩ hK
    have y2 := u2.set (.int .i64 0)
    have y3 := u3.other (B' := w.heap.size + 1) (by omega) (.int .i64 0)
    have z2 := y2.other (B' := w.heap.size + 2) (by omega) (.bool false)
    have z3 := y3.set (.bool false)
    have HB := Lib.hid ((hB.setCell (p := ⟨w.heap.size + 1, 0, none⟩) (Nat.le_succ _) (.int .i64 0)).setCell (p := ⟨w.heap.size + 2, 0, none⟩) (by show _ ≤ w.heap.size + 2; omega) (.bool false))
    have hK1 := (KeepsOthers.setCell W3 ⟨w.heap.size + 1, 0, none⟩ (.int .i64 0)).same D _ hK rfl
    have hK2 := Lib.hid ((KeepsOthers.setCell _ ⟨w.heap.size + 2, 0, none⟩ (.bool false)).same D _ hK1 rfl)
    have Z2 := Lib.hid z2
    have Z3 := Lib.hid z3
    have c2' := u2.cell
    have f2' := u2.frozen
    have c3' := y3.cell
    have f3' := y3.frozen
    clear hK hK1 y2 y3 z2 z3 u1 u2 u3 u4 hB b1 b2 b3 b4
    gi_wp2_with fail
    refine ⟨by simp, .inl ⟨_, _, rfl, run_takeDeferred hK2.out, ?_⟩⟩
    have t2 := Z2.out.kept (grownBy_putObj' _ D (.deferred none)) (fun e => by cases e; omega)
    have t3 := Z3.out.kept (grownBy_putObj' _ D (.deferred none)) (fun e => by cases e; omega)
    refine ⟨_, results_find _ _ _ _ _ _ rfl rfl t2.cell t3.cell, rfl, ?_⟩
    exact HB.out.trans (belowK_b (w := w) (Nat.le_refl _) _ D _ (.deferred none) (by omega) hK2.out rfl rfl)
  case stop =>
    intro D pre W3 _ h
    exact h.elim
def NO (w : World) (L : Int) (pre : List Nat) (W : World) : Prop :=
  ((((Boxed W w.heap.size 3 (.int .i64 L) ∧ Boxed W (w.heap.size + 1) 9 (.string ⟨#[]⟩)) ∧ (Boxed W (w.heap.size + 2) 4 (.bool false))) ∧ Boxed W (w.heap.size + 3) 27 (.pointer none)) ∧ Below w.heap.size w W) ∧ True
theorem NO_own (w : World) (L : Int) (B : Nat) (hB : w.heap.size ≤ B) : OwnFrom B (NO w L) :=
  OwnFrom.and (OwnFrom.and (OwnFrom.and (OwnFrom.and (OwnFrom.and (Own.from (boxed_own _ _ (fun _ => _)) _) (Own.from (boxed_own _ _ (fun _ => _)) _)) (Own.from (boxed_own _ _ (fun _ => _)) _)) (Own.from (boxed_own _ _ (fun _ => _)) _)) (ownFrom_below (Nat.le_refl _) hB)) (ownFrom_pure _ _)
set_option maxRecDepth 100000 in
set_option maxHeartbeats 8000000 in
theorem of_nil (L : Int) (w : World) :
    Calls Tryz.prog 16 #[.pointer none, .int .i64 L] w fun e w' => e = .returned (.tuple #[.string ⟨#[]⟩, .bool false]) ∧ Below w.heap.size w w' := by
  refine (callsIn_wide (n := 9)).1 ?_
  refine callsIn_of_wp_marks Tryz.func16 rfl trivial ?_ rfl
  simp only [Tryz.ntmps16, List.size_toArray, List.length_cons, List.length_nil, Nat.reduceAdd, Nat.reduceSub, Array.replicate_succ, Array.replicate_zero, List.push_toArray, List.append_toArray, List.nil_append, List.cons_append]
  gi_wp2_with fail
  refine ⟨trivial, ?_⟩
  refine (blocks_in _ _ _).mono ?_
  rintro e w' ⟨rfl, rfl⟩
  gi_wp2_with fail
  obtain ⟨W4, hW4⟩ : ∃ W4, (((w.alloc (.cells #[.int .i64 L] 3)).alloc (.cells #[.string ⟨#[]⟩] 9)).alloc (.cells #[.bool false] 4)).alloc (.cells #[.pointer none] 27) = W4 := ⟨_, rfl⟩
  have b1 : Boxed W4 w.heap.size 3 (.int .i64 L) := hW4 ▸ (((Boxed.new w _ _).alloc _).alloc _).alloc _
  have b2 : Boxed W4 (w.heap.size + 1) 9 (.string ⟨#[]⟩) := by
    have := ((Boxed.new (w.alloc (.cells #[.int .i64 L] 3)) 9 (.string ⟨#[]⟩)).alloc (.cells #[.bool false] 4)).alloc (.cells #[.pointer none] 27)
    rw [World.size_alloc, hW4] at this
    exact this
  have b3 : Boxed W4 (w.heap.size + 2) 4 (.bool false) := by
    have := (Boxed.new ((w.alloc (.cells #[.int .i64 L] 3)).alloc (.cells #[.string ⟨#[]⟩] 9)) 4 (.bool false)).alloc (.cells #[.pointer none] 27)
    rw [World.size_alloc, World.size_alloc, hW4] at this
    exact this
  have b4 : Boxed W4 (w.heap.size + 3) 27 (.pointer none) := by
    have := Boxed.new (((w.alloc (.cells #[.int .i64 L] 3)).alloc (.cells #[.string ⟨#[]⟩] 9)).alloc (.cells #[.bool false] 4)) 27 (.pointer none)
    rw [World.size_alloc, World.size_alloc, World.size_alloc, hW4] at this
    exact this
  have hB4 : Below w.heap.size w W4 := hW4 ▸ ((((Below.refl _ w).alloc (Nat.le_refl _) _).alloc (by simp) _).alloc (by simp; omega) _).alloc (by simp; omega) _
  have hs4 : W4.heap.size = w.heap.size + 4 := by rw [← hW4]; simp
  simp only [World.size_alloc, hW4]
  clear hW4
  refine wpIn_rangeN (by decide) (gf := 66) (lb := #[.pointer (some ⟨w.heap.size + 3, 0, none⟩)]) rfl (enters_of Tryz.func66 (by kernel_rfl) rfl)
    (blocks_nil (w.heap.size + 3) w.heap.size _ (fun _ => ((none, 0, 0), (none, 0, 0))) W4 b4) (Below.refl _ _) (by omega) (fun B hB => by rw [List.mem_singleton.1 hB]; omega) (fun _ => rfl)
    (NO w L) (fun _ _ => False) (NO_own w L _ (by omega)) (fun _ _ _ _ h _ _ => h) ⟨⟨⟨⟨⟨b1, b2⟩, b3⟩, b4⟩, hB4⟩, trivial⟩
    (fun x => VarB W4.heap.size ((none, 0, 0), (none, 0, 0)) (fun gv => { tmps := #[.pointer none, .int .i64 L, undef, .pointer (some ⟨w.heap.size, 0, none⟩), .pointer (some ⟨w.heap.size + 1, 0, none⟩), .pointer (some ⟨w.heap.size + 2, 0, none⟩), .pointer (some ⟨gv, 0, none⟩), undef, undef, .pointer none, .func (.func 66) #[] #[.pointer (some ⟨w.heap.size + 3, 0, none⟩)], .agg #[sv (none, 0, 0), sv (none, 0, 0)], undef, undef, undef, undef, undef, undef, undef, undef, undef, undef, undef, undef, undef, undef], defers := [] }))
    (fun x a' => VarB.own a') ?assign ?body ?done ?stop
  case assign =>
    intro l2 pre x W3 K hI hK
    unfold tellK
    dsimp only [sv]
    gi_wp2_with fail
    have hbe : Below W3.heap.size W3 (W3.alloc (.cells #[.slice none 0 0, .slice none 0 0] 62)) := (Below.refl _ W3).alloc (Nat.le_refl _) _
    have hsz := hI.1.2.size
    have l1 := hI.1.1.2.lt
    exact hK _ _ (KaF.of_below hbe) (NKp.of_below hbe (by omega) (fun B hB => by rw [List.mem_singleton.1 hB]; omega)) (OwnFrom.alloc (NO_own w L W4.heap.size (by omega)) _ hI) ⟨_, rfl, by omega, lone_new W3 _ _⟩
  case body =>
    intro l2 pre x a' W3 _ _ _ _ hlt
    exact absurd hlt (Nat.not_lt_zero _)
  case done =>
    rintro D ys W3 hD rfl ⟨⟨⟨⟨⟨u1, u2⟩, u3⟩, u4⟩, hB⟩, -⟩ hK
    have y2 := u2.set (.string ⟨#[]⟩)
    have y3 := u3.other (B' := w.heap.size + 1) (by omega) (.string ⟨#[]⟩)
    have z2 := y2.other (B' := w.heap.size + 2) (by omega) (.bool false)
    have z3 := y3.set (.bool false)
    have HB := Lib.hid ((hB.setCell (p := ⟨w.heap.size + 1, 0, none⟩) (Nat.le_succ _) (.string ⟨#[]⟩)).setCell (p := ⟨w.heap.size + 2, 0, none⟩) (by show _ ≤ w.heap.size + 2; omega) (.bool false))
    have hK1 := (KeepsOthers.setCell W3 ⟨w.heap.size + 1, 0, none⟩ (.string ⟨#[]⟩)).same D _ hK rfl
    have hK2 := Lib.hid ((KeepsOthers.setCell _ ⟨w.heap.size + 2, 0, none⟩ (.bool false)).same D _ hK1 rfl)
    have Z2 := Lib.hid z2
    have Z3 := Lib.hid z3
    have c2' := u2.cell
    have f2' := u2.frozen
    have c3' := y3.cell
    have f3' := y3.frozen
    clear hK hK1 y2 y3 z2 z3 u1 u2 u3 u4 hB b1 b2 b3 b4
    gi_wp2_with fail
    refine ⟨by simp, .inl ⟨_, _, rfl, run_takeDeferred hK2.out, ?_⟩⟩
    have t2 := Z2.out.kept (grownBy_putObj' _ D (.deferred none)) (fun e => by cases e; omega)
    have t3 := Z3.out.kept (grownBy_putObj' _ D (.deferred none)) (fun e => by cases e; omega)
    refine ⟨_, results_of _ _ _ _ _ _ rfl rfl t2.cell t3.cell, rfl, ?_⟩
    exact HB.out.trans (belowK_b (w := w) (Nat.le_refl _) _ D _ (.deferred none) (by omega) hK2.out rfl rfl)
  case stop =>
    intro D pre W3 _ h
    exact h.elim
end Go.Proofs.YtcjljfjgekiocaaGreatDoor

/- Contract: Words. -/
import Derived.Test.YtbnlcgnpkodieaaRound
import Derived.Test.YtbnlcgnpkodieaaLexD
namespace Go.Proofs.Ytbnlcgnpkodieaa
open Go.RowKit Go.Shelf

attribute [local go_sem] Oper.semAt_some
set_option linter.unusedVariables false
set_option linter.unusedSimpArgs false

def wordCells (x : Nat × List Nat) : List Value := [.int .u8 ((kd x.2 : Nat) : Int), .int .i64 (x.1 : Int), .int .i64 ((x.1 : Int) + (x.2.length : Int)), .string (str x.2)]
def wcells (S : List (Nat × List Nat)) : List Value := S.flatMap wordCells
theorem wcells_len : ∀ S : List (Nat × List Nat), (wcells S).length = S.length * 4
  | [] => rfl
  | x :: S => by
    have := wcells_len S
    unfold wcells at *
    rw [List.flatMap_cons, List.length_append, this, List.length_cons]
    show 4 + _ = _
    omega
theorem wcells_snoc (S : List (Nat × List Nat)) (x : Nat × List Nat) : wcells (S ++ [x]) = wcells S ++ wordCells x := by
  unfold wcells
  rw [List.flatMap_append, List.flatMap_cons, List.flatMap_nil, List.append_nil]
theorem wordCells_one (x : Nat × List Nat) : ∀ v ∈ wordCells x, v.oneCell' = true := by
  intro v hv
  simp only [wordCells, List.mem_cons, List.not_mem_nil, or_false] at hv
  rcases hv with rfl | rfl | rfl | rfl <;> rfl
def WordsPost (L : List Nat) (w : World) (e : Ending) (w' : World) : Prop :=
  (∃ v, e = .returned (.tuple #[v, .int .i64 ((wAt L : Nat) : Int), .int .i64 ((wE L : Nat) : Int)]) ∧ w'.ownsRow w.heap.size 69 4 v (wL L).length (wcells (wL L))) ∧ Below w.heap.size w w'
theorem infoWord : (Try.prog.info? 69).map (fun i => (i.zero, i.size, i.bytes)) = some (some (.agg #[.int .u8 0, .int .i64 0, .int .i64 0, .string ⟨#[]⟩]), 4, 40) := by kernel_rfl
/-- the loop variable: a block of its own -/
def VarW (B : Nat) (x : Nat × List Nat) (mk : Nat → Act) (a : Act) (W : World) : Prop := ∃ g, a = mk g ∧ B ≤ g ∧ W.heap[g]? = some (.cells (wordCells x).toArray 69 (0, 0))
theorem VarW.own {B C : Nat} {x : Nat × List Nat} {mk : Nat → Act} (a : Act) : OwnFrom C (fun (_ : Unit) W => VarW B x mk a W) := by
  rintro _ X Y row ⟨g, ha, hB, hg⟩ hgr hr
  refine ⟨g, ha, hB, (hgr.block g (Array.getElem?_eq_some_iff.1 hg).1 fun e => ?_).trans hg⟩
  obtain ⟨_, o, ho, hc⟩ := hr g e.symm
  rw [hg] at ho; cases ho; cases hc

theorem results_words (tmps : Array Value) (w : World) (b0 b1 b2 : Nat) (v x y : Value) (h0 : tmps.getD 2 undef = .pointer (some ⟨b0, 0, none⟩)) (h1 : tmps.getD 3 undef = .pointer (some ⟨b1, 0, none⟩)) (h2 : tmps.getD 4 undef = .pointer (some ⟨b2, 0, none⟩))
    (c0 : w.cell? ⟨b0, 0, none⟩ = some v) (c1 : w.cell? ⟨b1, 0, none⟩ = some x) (c2 : w.cell? ⟨b2, 0, none⟩ = some y) :
    (results Try.f29 tmps).run Try.prog w = .ok (.tuple #[v, x, y]) w := by
  have hf : Try.f29.results = #[.cell 2 63, .cell 3 3, .cell 4 31] := rfl
  have h0' : tmps[2]?.getD undef = .pointer (some ⟨b0, 0, none⟩) := by simpa using h0
  have h1' : tmps[3]?.getD undef = .pointer (some ⟨b1, 0, none⟩) := by simpa using h1
  have h2' : tmps[4]?.getD undef = .pointer (some ⟨b2, 0, none⟩) := by simpa using h2
  simp [results, hf, h0', h1', h2', asAddr, loadVar, isAgg, underlying, Try.underlying63, Try.underlying3, Try.underlying31, c0, c1, c2, Result.andThen, go_sem]

theorem three_boxes (w : World) (v x y : Value) :
    Boxed (((w.alloc (.cells #[v] 63)).alloc (.cells #[x] 3)).alloc (.cells #[y] 31)) w.heap.size 63 v ∧
    Boxed (((w.alloc (.cells #[v] 63)).alloc (.cells #[x] 3)).alloc (.cells #[y] 31)) (w.heap.size + 1) 3 x ∧
    Boxed (((w.alloc (.cells #[v] 63)).alloc (.cells #[x] 3)).alloc (.cells #[y] 31)) (w.heap.size + 1 + 1) 31 y ∧
    Below w.heap.size w (((w.alloc (.cells #[v] 63)).alloc (.cells #[x] 3)).alloc (.cells #[y] 31)) ∧
    (((w.alloc (.cells #[v] 63)).alloc (.cells #[x] 3)).alloc (.cells #[y] 31)).heap.size = w.heap.size + 1 + 1 + 1 := by
  have h0 := Boxed.new w 63 v
  have h1 := Boxed.new (w.alloc (.cells #[v] 63)) 3 x
  have h2 := Boxed.new ((w.alloc (.cells #[v] 63)).alloc (.cells #[x] 3)) 31 y
  simp only [World.size_alloc] at h1 h2
  exact ⟨(h0.alloc _).alloc _, h1.alloc _, h2, (((Below.refl _ w).alloc (Nat.le_refl _) _).alloc (by simp) _).alloc (by simp; omega) _, by simp⟩

def lastAt (pre : List (Nat × List Nat)) : Nat := (pre.getLast?.map Prod.fst).getD 0
theorem lastAt_snoc (p : List (Nat × List Nat)) (x : Nat × List Nat) : lastAt (p ++ [x]) = x.1 := by simp [lastAt]
theorem cell_set_ne {b g j : Nat} {u : Value} (h : b ≠ g) (W : World) : (W.setCell ⟨b, 0, none⟩ u).cell? ⟨g, j, none⟩ = W.cell? ⟨g, j, none⟩ :=
  World.cell?_of_block (heap_setCell_other W ⟨b, 0, none⟩ g u (fun e => h e.symm))
theorem slice_form {w : World} {base : Nat} {e : TypeId} {size : Nat} {v : Value} {n : Nat} {xs : List Value} (h : w.ownsRow base e size v n xs) : ∃ A c, v = .slice A n c := by
  rcases h.2 with ⟨rfl, rfl⟩ | ⟨g, cap, cur, rfl, _⟩
  · exact ⟨_, _, rfl⟩
  · exact ⟨_, _, rfl⟩
def WI (w : World) (L : List Nat) (pre : List (Nat × List Nat)) (W : World) : Prop :=
  (((((∃ v, Boxed W w.heap.size 63 v ∧ W.ownsRow w.heap.size 69 4 v pre.length (wcells pre) ∧ True) ∧ Boxed W (w.heap.size + 1) 3 (.int .i64 0)) ∧ Boxed W (w.heap.size + 1 + 1) 31 (.int .i64 0)) ∧ Boxed W (w.heap.size + 1 + 1 + 1) 9 (.string (str L))) ∧ Below w.heap.size w W) ∧ ∀ x ∈ pre, kd x.2 ≠ 0
def WX (w : World) (c : Code) (pre : List (Nat × List Nat)) (W : World) : Prop :=
  (((Boxed W w.heap.size 63 (.slice none 0 0) ∧ Boxed W (w.heap.size + 1) 3 (.int .i64 ((lastAt pre : Nat) : Int))) ∧ Boxed W (w.heap.size + 1 + 1) 31 (.int .i64 4)) ∧ Below w.heap.size w W) ∧ (c = .ret ∧ ∃ p x, pre = p ++ [x] ∧ (∀ y ∈ p, kd y.2 ≠ 0) ∧ kd x.2 = 0)
theorem WI_own (w : World) (L : List Nat) (B : Nat) (hB : w.heap.size ≤ B) : OwnFrom B (WI w L) :=
  OwnFrom.and (OwnFrom.and (OwnFrom.and (OwnFrom.and (OwnFrom.and (Own.from (holdsRow_own w.heap.size w.heap.size 63 69 4 (fun pre => pre.length) wcells (fun _ _ => True)) _) (Own.from (boxed_own (w.heap.size + 1) 3 (fun _ => .int .i64 0)) _)) (Own.from (boxed_own (w.heap.size + 1 + 1) 31 (fun _ => .int .i64 0)) _)) (Own.from (boxed_own (w.heap.size + 1 + 1 + 1) 9 (fun _ => .string (str L))) _)) (ownFrom_below (Nat.le_refl _) hB)) (fun _ _ _ _ hs _ _ => hs)
theorem WX_own (w : World) (B : Nat) (hB : w.heap.size ≤ B) (c : Code) : OwnFrom B (WX w c) :=
  OwnFrom.and (OwnFrom.and (OwnFrom.and (OwnFrom.and (Own.from (boxed_own w.heap.size 63 (fun _ => .slice none 0 0)) _) (Own.from (boxed_own (w.heap.size + 1) 3 (fun pre => .int .i64 ((lastAt pre : Nat) : Int))) _)) (Own.from (boxed_own (w.heap.size + 1 + 1) 31 (fun _ => .int .i64 4)) _)) (ownFrom_below (Nat.le_refl _) hB)) (fun _ _ _ _ hs _ _ => hs)

set_option maxRecDepth 100000 in
set_option maxHeartbeats 8000000 in
theorem words_any (L : List Nat) (hc : Codes L) (hm : L.length < 9223372036854775807) (w : World) :
    Calls Try.prog 29 #[.string (str L)] w (WordsPost L w) := by
  have hsz := str_size L
  by_cases hlong : 65536 < L.length
  · have hE : Hid (wE L = 40) := by show _ = _; unfold wE; rw [if_pos hlong]
    have hA : Hid (wAt L = 65536) := by show _ = _; unfold wAt; rw [if_pos hlong]
    have hW : Hid (wL L = []) := by show _ = _; unfold wL; rw [if_pos hlong]
    go_enter Try.func29, Try.ntmps29
    go_wp2
    obtain ⟨x0, x1, x2, hb, _⟩ := three_boxes w (.slice none 0 0) (.int .i64 65536) (.int .i64 40)
    refine bodyPost_ret (results_words _ _ _ _ _ _ _ _ rfl rfl rfl x0.cell x1.cell x2.cell) rfl ?_
    exact ⟨⟨.slice none 0 0, by rw [hE.out, hA.out]; rfl, by rw [hW.out]; exact ⟨rfl, .inl ⟨rfl, rfl⟩⟩⟩, hb⟩
  · refine (callsIn_wide (n := 8)).1 ?_
    obtain ⟨i0, hi, hz0, hz1, hz2⟩ := info_parts infoWord
    refine callsIn_of_wp_marks Try.func29 rfl trivial ?_ rfl
    simp only [Try.ntmps29, List.size_toArray, List.length_cons, List.length_nil, Nat.reduceAdd, Nat.reduceSub, Array.replicate_succ, Array.replicate_zero, List.push_toArray, List.append_toArray, List.nil_append, List.cons_append]
    gi_wp2_with fail
    refine ⟨trivial, ?_⟩
    refine (told_in _ _ _).mono ?_
    rintro e w' ⟨rfl, rfl⟩
    gi_wp2_with fail
    obtain ⟨y0, y1, y2, hb, hs3⟩ := three_boxes w (.slice none 0 0) (.int .i64 0) (.int .i64 0)
    have x3 := Boxed.new (((w.alloc (.cells #[.slice none 0 0] 63)).alloc (.cells #[.int .i64 0] 3)).alloc (.cells #[.int .i64 0] 31)) 9 (.string (str L))
    have x0 := y0.alloc (.cells #[.string (str L)] 9)
    have x1 := y1.alloc (.cells #[.string (str L)] 9)
    have x2 := y2.alloc (.cells #[.string (str L)] 9)
    have hB4 := hb.alloc (by omega) (.cells #[.string (str L)] 9)
    have hs4 := World.size_alloc (((w.alloc (.cells #[.slice none 0 0] 63)).alloc (.cells #[.int .i64 0] 3)).alloc (.cells #[.int .i64 0] 31)) (.cells #[.string (str L)] 9)
    rw [hs3] at x3 hs4
    clear y0 y1 y2 hb hs3
    generalize ((((w.alloc (.cells #[.slice none 0 0] 63)).alloc (.cells #[.int .i64 0] 3)).alloc (.cells #[.int .i64 0] 31)).alloc (.cells #[.string (str L)] 9)) = W4 at *
    refine wpIn_rangeFunc_ownH rfl (by decide) (gf := 46) (lb := #[.pointer (some ⟨w.heap.size + 1 + 1 + 1, 0, none⟩)]) rfl trivial (enters_of Try.func46 (by kernel_rfl) rfl)
      (told_stops 7 (by decide) (w.heap.size + 1 + 1 + 1) w.heap.size L hc (by omega) W4 (by omega) (by omega) x3.cell) kpW_t (kpW_b (by omega) (fun B hB => by rw [List.mem_singleton.1 hB]; omega)) (Below.refl _ _) (fun _ => rfl)
      (WI w L) (WX w) (WI_own w L W4.heap.size (by omega)) (WX_own w W4.heap.size (by omega)) ⟨⟨⟨⟨⟨⟨_, x0, ⟨rfl, .inl ⟨rfl, rfl⟩⟩, trivial⟩, x1⟩, x2⟩, x3⟩, hB4⟩, by simp⟩
      (fun x => VarW w.heap.size x (fun g => { tmps := #[.string (str L), undef, .pointer (some ⟨w.heap.size, 0, none⟩), .pointer (some ⟨w.heap.size + 1, 0, none⟩), .pointer (some ⟨w.heap.size + 1 + 1, 0, none⟩), .pointer (some ⟨g, 0, none⟩), .string (str L), .int .i64 (L.length : Int), .bool (decide (65536 < (L.length : Int))), .string (str L), .func (.func 46) #[] #[.pointer (some ⟨w.heap.size + 1 + 1 + 1, 0, none⟩)], wordV x, undef, undef, undef, undef, undef, undef, undef, undef, undef, undef], defers := [] }))
      (fun x a' => VarW.own a') ?assign ?body ?done ?stop
    case assign =>
      intro l pre x W K hI hK
      unfold tellW wordV
      gi_wp2_with fail
      have hbe : Below W.heap.size W (W.alloc (.cells (wordCells x).toArray 69)) := (Below.refl _ W).alloc (Nat.le_refl _) _
      exact hK _ _ ⟨hbe.size, fun k o _ hk _ => (hbe.block k (Array.getElem?_eq_some_iff.1 hk).1).trans hk⟩ (KpW.of_below hbe hI.1.2.size (fun B hB => by rw [List.mem_singleton.1 hB]; exact hI.1.1.2.lt)) (OwnFrom.alloc (WI_own w L W4.heap.size (by omega)) _ hI) ⟨_, rfl, hI.1.2.size, World.alloc_heap_new W _⟩
    case body =>
      rintro l pre x a' W hlw hlr ⟨⟨⟨⟨⟨⟨v, b0, hrow, _⟩, b1⟩, b2⟩, b3⟩, hB⟩, hgood⟩ ⟨g, rfl, hgB, hgc⟩ hlt
      have g0 : W.cell? ⟨g, 0, none⟩ = some (.int .u8 ((kd x.2 : Nat) : Int)) := by rw [cell_of_row W g _ _ _ _ hgc]; rfl
      have g1 : W.cell? ⟨g, 1, none⟩ = some (.int .i64 (x.1 : Int)) := by rw [cell_of_row W g _ _ _ _ hgc]; rfl
      have hwl := wds_len L
      by_cases hk0 : kd x.2 = 0
      · have HK0 := Lib.hid hk0
        rw [hk0] at g0
        have f0 := b0.frozen
        have f1 := b1.frozen
        have f2 := b2.frozen
        have q0 := b0.cell
        have q1 := b1.cell
        have q2 := b2.cell
        clear hrow hlr hk0
        gi_wp2_with fail
        rename_i hret
        have hmx : Try.prog.follows .mixedOrders = true := by kernel_rfl
        have n0 : w.heap.size ≠ g := by rintro rfl; rw [show W.heap[w.heap.size]? = _ from b0] at hgc; cases hgc
        have n1 : w.heap.size + 1 ≠ g := by rintro rfl; rw [show W.heap[w.heap.size + 1]? = _ from b1] at hgc; cases hgc
        have n2 : w.heap.size + 1 + 1 ≠ g := by rintro rfl; rw [show W.heap[w.heap.size + 1 + 1]? = _ from b2] at hgc; cases hgc
        have D0 : Boxed W.drew w.heap.size 63 v := b0
        have D1 : Boxed W.drew (w.heap.size + 1) 3 (.int .i64 0) := b1
        have D2 : Boxed W.drew (w.heap.size + 1 + 1) 31 (.int .i64 0) := b2
        have hgd : (W.drew).cell? ⟨g, 1, none⟩ = some (.int .i64 (x.1 : Int)) := g1
        have y0 := D0.set (.slice none 0 0)
        have y1 := D1.other (B' := w.heap.size) (by omega) (.slice none 0 0)
        have y2 := D2.other (B' := w.heap.size) (by omega) (.slice none 0 0)
        have yg : (W.drew.setCell ⟨w.heap.size, 0, none⟩ (.slice none 0 0)).cell? ⟨g, 1, none⟩ = some (.int .i64 (x.1 : Int)) := (cell_set_ne n0 _).trans hgd
        have z0 := y0.other (B' := w.heap.size + 1) (by omega) (.int .i64 (x.1 : Int))
        have z1 := y1.set (.int .i64 (x.1 : Int))
        have z2 := y2.other (B' := w.heap.size + 1) (by omega) (.int .i64 (x.1 : Int))
        have zg := (cell_set_ne (j := 1) (u := .int .i64 (x.1 : Int)) n1 (W.drew.setCell ⟨w.heap.size, 0, none⟩ (.slice none 0 0))).trans yg
        have u0 := z0.other (B' := w.heap.size + 1 + 1) (by omega) (.int .i64 4)
        have u1 := z1.other (B' := w.heap.size + 1 + 1) (by omega) (.int .i64 4)
        have u2 := z2.set (.int .i64 4)
        have kf : KeepsFrom W4.heap.size W (((W.drew.setCell ⟨w.heap.size, 0, none⟩ (.slice none 0 0)).setCell ⟨w.heap.size + 1, 0, none⟩ (.int .i64 (x.1 : Int))).setCell ⟨w.heap.size + 1 + 1, 0, none⟩ (.int .i64 4)) :=
          KeepsFrom.trans (KeepsFrom.trans (KeepsFrom.trans (show KeepsFrom W4.heap.size W W.drew from ⟨Nat.le_refl _, fun k o _ hk _ => hk⟩) (KeepsFrom.of_grownBy (B := W4.heap.size) (row := some w.heap.size) (W := W.drew) (grownBy_setCell' W.drew w.heap.size _) (fun j hj => by cases hj; omega))) (KeepsFrom.of_grownBy (B := W4.heap.size) (row := some (w.heap.size + 1)) (grownBy_setCell' _ (w.heap.size + 1) _) (fun j hj => by cases hj; omega))) (KeepsFrom.of_grownBy (B := W4.heap.size) (row := some (w.heap.size + 1 + 1)) (grownBy_setCell' _ (w.heap.size + 1 + 1) _) (fun j hj => by cases hj; omega))
        have hbf : Below w.heap.size w (((W.drew.setCell ⟨w.heap.size, 0, none⟩ (.slice none 0 0)).setCell ⟨w.heap.size + 1, 0, none⟩ (.int .i64 (x.1 : Int))).setCell ⟨w.heap.size + 1 + 1, 0, none⟩ (.int .i64 4)) :=
          ((hB.drew.setCell (p := ⟨w.heap.size, 0, none⟩) (Nat.le_refl _) _).setCell (p := ⟨w.heap.size + 1, 0, none⟩) (Nat.le_succ _) _).setCell (p := ⟨w.heap.size + 1 + 1, 0, none⟩) (by show _ ≤ w.heap.size + 1 + 1; omega) _
        refine region_in_round (fun W' => (W'.cell? ⟨g, 1, none⟩ = some (.int .i64 (x.1 : Int)))) 3 hmx (by kernel_rfl) ?_
        refine held_take 0 (v := .pointer (some ⟨g, 1, none⟩)) rfl rfl (by kernel_rfl) (by decide) (by kernel_rfl) (by kernel_rfl) (by kernel_rfl) (by kernel_rfl) rfl g1 (fun w' hS => rfl) ?_
        simp only [Act.put, List.setIfInBounds_toArray, List.set_cons_zero, List.set_cons_succ]
        refine held_take 1 (v := .int .i64 (x.1 : Int)) rfl rfl (by kernel_rfl) (by decide) (by kernel_rfl) (by kernel_rfl) (by kernel_rfl) (by kernel_rfl) rfl g1 (fun w' hS => by go_simp) ?_
        simp only [Act.put, List.setIfInBounds_toArray, List.set_cons_zero, List.set_cons_succ]
        have d0 := D0.cell
        have e0 := D0.frozen
        refine held_one (i := 2) (by kernel_rfl) ?_
        refine held_skip (w' := W.drew.setCell ⟨w.heap.size, 0, none⟩ (.slice none 0 0)) rfl rfl (by go_simp) ?_
        refine ⟨yg, ?_⟩
        clear d0 e0
        generalize W.drew.setCell ⟨w.heap.size, 0, none⟩ (.slice none 0 0) = WA at *
        have d1 := y1.cell
        have e1 := y1.frozen
        refine held_one (i := 3) (by kernel_rfl) ?_
        refine held_skip (w' := WA.setCell ⟨w.heap.size + 1, 0, none⟩ (.int .i64 (x.1 : Int))) rfl rfl (by go_simp) ?_
        refine ⟨zg, ?_⟩
        clear d1 e1
        generalize WA.setCell ⟨w.heap.size + 1, 0, none⟩ (.int .i64 (x.1 : Int)) = WB at *
        have d2 := z2.cell
        have e2 := z2.frozen
        refine held_one (i := 4) (by kernel_rfl) ?_
        refine held_skip (w' := WB.setCell ⟨w.heap.size + 1 + 1, 0, none⟩ (.int .i64 4)) rfl rfl (by go_simp) ?_
        refine ⟨(cell_set_ne n2 _).trans zg, ?_⟩
        refine held_done (by kernel_rfl) ⟨rfl, ?_⟩ _
        refine hret _ _ ?_
        have kf2 := kf
        rw [hs4] at kf2
        gi_wp2
        exact ⟨by first | exact kf | exact kf2, ⟨⟨⟨⟨u0, by rw [lastAt_snoc]; exact u1⟩, u2⟩, hbf⟩, rfl, pre, x, rfl, hgood, HK0.out⟩⟩
      · have q0 := b0.cell
        have g2 : W.cell? ⟨g, 2, none⟩ = some (.int .i64 ((x.1 : Int) + (x.2.length : Int))) := by rw [cell_of_row W g _ _ _ _ hgc]; rfl
        have g3 : W.cell? ⟨g, 3, none⟩ = some (.string (str x.2)) := by rw [cell_of_row W g _ _ _ _ hgc]; rfl
        have HK0 := Lib.hid hk0
        have hkne : ((kd x.2 : Nat) : Int) ≠ 0 := by omega
        have hnews : ∀ j u, (wordCells x)[j]? = some u → (W.alloc (.cells (wordCells x).toArray 69)).cell? ((⟨W.heap.size, 0, none⟩ : Addr).add j) = some u := fun j u hu => by
          rw [Addr.add_lit, Nat.zero_add, cell_of_row _ _ _ _ _ _ (World.alloc_heap_new W _), List.getElem?_toArray]; exact hu
        have hone := wordCells_one x
        have hxl : (wordCells x).length = 1 * 4 := rfl
        have HGOOD := Lib.hid hgood
        clear hlr hgood hk0
        gi_wp2_with (gi_at_builtin; refine wpListIn_append_own _ rfl _ _ 63 rfl w.heap.size 69 i0 _ 4 40 Try.underlying63 hi hz0 hz1 hz2 rfl (by decide) v pre.length (wcells pre) rfl (hrow.alloc _) ⟨W.heap.size, 0, none⟩ 1 1 (wordCells x) rfl hxl hnews hone (by unfold maxLen; omega) (by omega) (by have := hB.size; simp; omega) ?_; intro v' w6 hown' hgrow hgone; clear hgone; obtain ⟨g', cap', rfl⟩ := ownsRow_succ hown'; obtain ⟨hv1, hv2, hr2, hk2, hb2⟩ := b0.appended (by decide) hrow hB.size (Nat.le_refl _) hown' hgrow; have hc1 := hv1.cell; have hf1 := hv1.frozen)
        have bb1 := ((b1.alloc _).kept hgrow (b1.not_row (by decide) hrow)).other (B' := w.heap.size) (by omega) (.slice (some ⟨g', 0, none⟩) (pre.length + 1) cap')
        have bb2 := ((b2.alloc _).kept hgrow (b2.not_row (by decide) hrow)).other (B' := w.heap.size) (by omega) (.slice (some ⟨g', 0, none⟩) (pre.length + 1) cap')
        have bb3 := ((b3.alloc _).kept hgrow (b3.not_row (by decide) hrow)).other (B' := w.heap.size) (by omega) (.slice (some ⟨g', 0, none⟩) (pre.length + 1) cap')
        refine ⟨hk2.from _, ⟨hb2, fun B hBm => ?_⟩, ⟨⟨⟨⟨⟨_, hv2, ?_, trivial⟩, bb1⟩, bb2⟩, bb3⟩, hB.trans hb2⟩, ?_⟩
        · rw [List.mem_singleton.1 hBm]; exact Eq.trans bb3 (Eq.symm b3)
        · rw [List.length_append, wcells_snoc]; exact hr2
        · intro y hy
          rcases List.mem_append.1 hy with hy | hy
          · exact HGOOD.out y hy
          · rw [List.mem_singleton.1 hy]; exact HK0.out
    case done =>
      rintro D ys W hD rfl ⟨⟨⟨⟨⟨⟨v, b0, hrow, _⟩, b1⟩, b2⟩, b3⟩, hB⟩, hgood⟩ hK
      have hok := okw_of_all hgood
      have hE : Hid (wE L = 0) := by show _ = _; unfold wE; rw [if_neg hlong, if_pos hok]
      have hA : Hid (wAt L = 0) := by show _ = _; unfold wAt; rw [if_neg hlong, if_pos hok]
      have hW : Hid (wL L = wds L) := by show _ = _; unfold wL; rw [if_neg hlong, if_pos hok]
      obtain ⟨A, cp, rfl⟩ := slice_form hrow
      have u0 := b0.set (.slice A (wds L).length cp)
      have u1 := b1.other (B' := w.heap.size) (by omega) (.slice A (wds L).length cp)
      have u2 := b2.other (B' := w.heap.size) (by omega) (.slice A (wds L).length cp)
      have v0 := u0.other (B' := w.heap.size + 1) (by omega) (.int .i64 0)
      have v1 := u1.set (.int .i64 0)
      have v2 := u2.other (B' := w.heap.size + 1) (by omega) (.int .i64 0)
      have t0 := v0.other (B' := w.heap.size + 1 + 1) (by omega) (.int .i64 0)
      have t1 := v1.other (B' := w.heap.size + 1 + 1) (by omega) (.int .i64 0)
      have t2 := v2.set (.int .i64 0)
      have r1 := hrow.kept (grownBy_setCell' W w.heap.size (.slice A (wds L).length cp)) (.inr (b0.not_row (by decide) hrow).symm)
      have r2 := r1.kept (grownBy_setCell' _ (w.heap.size + 1) (.int .i64 0)) (.inr (u1.not_row (by decide) r1).symm)
      have r3 := r2.kept (grownBy_setCell' _ (w.heap.size + 1 + 1) (.int .i64 0)) (.inr (v2.not_row (by decide) r2).symm)
      have HB := Lib.hid (((hB.setCell (p := ⟨w.heap.size, 0, none⟩) (Nat.le_refl _) (.slice A (wds L).length cp)).setCell (p := ⟨w.heap.size + 1, 0, none⟩) (Nat.le_succ _) (.int .i64 0)).setCell (p := ⟨w.heap.size + 1 + 1, 0, none⟩) (by show _ ≤ w.heap.size + 1 + 1; omega) (.int .i64 0))
      have q0 := b0.cell
      have f0 := b0.frozen
      have q1 := u1.cell
      have f1 := u1.frozen
      have q2 := v2.cell
      have f2 := v2.frozen
      have hDD : W4.heap.size ≤ D := hD
      have hK1 := ((KeepsOthers.setCell W ⟨w.heap.size, 0, none⟩ (.slice A (wds L).length cp)).same D _ hK rfl)
      have hK2 := ((KeepsOthers.setCell _ ⟨w.heap.size + 1, 0, none⟩ (.int .i64 0)).same D _ hK1 rfl)
      have hK3 := Lib.hid ((KeepsOthers.setCell _ ⟨w.heap.size + 1 + 1, 0, none⟩ (.int .i64 0)).same D _ hK2 rfl)
      have R3 := Lib.hid r3
      have T0 := Lib.hid t0
      have T1 := Lib.hid t1
      have T2 := Lib.hid t2
      clear hrow b1 b2 b3 hB hK hgood u0 u2 v0 v1 t0 t1 t2 r1 r2 r3 hK1 hK2
      gi_wp2_with fail
      refine ⟨by simp, .inl ⟨_, _, rfl, run_takeDeferred hK3.out, ?_⟩⟩
      have t0 := T0.out.kept (grownBy_putObj' _ D (.deferred none)) (fun e => by cases e; omega)
      have t1 := T1.out.kept (grownBy_putObj' _ D (.deferred none)) (fun e => by cases e; omega)
      have t2 := T2.out.kept (grownBy_putObj' _ D (.deferred none)) (fun e => by cases e; omega)
      refine ⟨_, results_words _ _ _ _ _ _ _ _ rfl rfl rfl t0.cell t1.cell t2.cell, ⟨_, by rw [hA.out, hE.out]; rfl, ?_⟩, ?_⟩
      · rw [hW.out]; exact ownsRow_putObj R3.out _ hK3.out rfl
      · exact HB.out.trans (belowK_b (w := w) (Nat.le_refl _) _ D _ (.deferred none) (by omega) hK3.out rfl rfl)
    case stop =>
      rintro D c pre W hD ⟨k, rfl⟩ ⟨⟨⟨⟨b0, b1⟩, b2⟩, hB⟩, rfl, p, x, hp, hgood, hbad⟩ hK
      obtain ⟨hok, hfb⟩ := bad_of hp hgood hbad
      have hE : Hid (wE L = 4) := by show _ = _; unfold wE; rw [if_neg hlong, if_neg (by rw [hok]; decide)]
      have hA : Hid (wAt L = lastAt ((wds L).take k)) := by show _ = _; unfold wAt; rw [if_neg hlong, if_neg (by rw [hok]; decide), hp, lastAt_snoc, hfb]
      have hW : Hid (wL L = []) := by show _ = _; unfold wL; rw [if_neg hlong, if_neg (by rw [hok]; decide)]
      have hDD : W4.heap.size ≤ D := hD
      have t0 := Lib.hid (b0.kept (grownBy_putObj' _ D (.deferred none)) (fun e => by cases e; omega))
      have t1 := Lib.hid (b1.kept (grownBy_putObj' _ D (.deferred none)) (fun e => by cases e; omega))
      have t2 := Lib.hid (b2.kept (grownBy_putObj' _ D (.deferred none)) (fun e => by cases e; omega))
      have HB := Lib.hid (hB.trans (belowK_b (w := w) (Nat.le_refl _) _ D _ (.deferred none) (by omega) hK rfl rfl))
      gi_wp2_with fail
      refine ⟨by simp, .inl ⟨_, _, rfl, run_takeDeferred hK, ?_⟩⟩
      refine ⟨_, results_words _ _ _ _ _ _ _ _ rfl rfl rfl t0.out.cell t1.out.cell t2.out.cell, ⟨_, by rw [hA.out, hE.out]; rfl, ?_⟩, HB.out⟩
      rw [hW.out]; exact ⟨rfl, .inl ⟨rfl, rfl⟩⟩

end Go.Proofs.Ytbnlcgnpkodieaa

/- What blocks tells: the scopes, the last one first, and behind them what is declared. -/
import Derived.Shelf.RegionOpen
import Derived.Test.YtcjljfjgekiocaaGreatDoorNamQ
namespace Go.Proofs.YtcjljfjgekiocaaGreatDoor
open Go.RowKit Go.Shelf

attribute [local go_sem] Oper.semAt_some
set_option linter.unusedVariables false
set_option linter.unusedSimpArgs false

/-- a block, by its number: the declared one is m -/
def tellK (f : Nat → SD × SD) (i : Nat) : Array Value := #[.agg #[sv (f i).1, sv (f i).2]]
def blks (m : Nat) : List Nat := bkw m m ++ [m]
theorem blks_take {m k : Nat} (h : k ≤ m) : (blks m).take k = bkw m k := by
  unfold blks
  rw [List.take_append_of_le_length (by rw [bkw_len]; exact h)]
  unfold bkw
  rw [← List.map_take, List.take_range, Nat.min_eq_left h]
theorem yieldAny {m m' l l2 : Nat} {args : Array Value} {W : World} {R : Ending → World → Prop} (h : YieldAt Fence.wide m Tryz.prog l args W R) : YieldAt (Fence.wide.inRound l2) m' Tryz.prog l args W R := by
  obtain ⟨fn, tmps, assign, body, hy, hR⟩ := h
  exact ⟨fn, tmps, assign, body, hy, hR.1, fun c cs _ => hR.2 c cs (room_wide _)⟩
theorem yieldAny0 {m m' l : Nat} {args : Array Value} {W : World} {R : Ending → World → Prop} (h : YieldAt Fence.wide m Tryz.prog l args W R) : YieldAt Fence.wide m' Tryz.prog l args W R := by
  obtain ⟨fn, tmps, assign, body, hy, hR⟩ := h
  exact ⟨fn, tmps, assign, body, hy, hR.1, fun c cs _ => hR.2 c cs (room_wide _)⟩
def NormQ (Q : Act → World → Prop) : Exit → Act → World → Prop
  | .normal, a, w => Q a w
  | _, _, _ => False
theorem wpIn_norm {c : Code} {F : Fence} {n : Nat} {P : Program} {Q : Exit → Act → World → Prop} {a : Act} {w : World} (h : c.wpIn F n P (NormQ (Q .normal)) a w) : c.wpIn F n P Q a w :=
  wpIn_mono h fun e a w h => by cases e <;> first | exact h | exact h.elim
def VarB (B : Nat) (x : SD × SD) (F : Nat → Act) (a' : Act) (W : World) : Prop := ∃ g, a' = F g ∧ B ≤ g ∧ W.heap[g]? = some (.cells #[sv x.1, sv x.2] 62 (0, 0))
theorem VarB.own {B B' : Nat} {x : SD × SD} {F : Nat → Act} (a' : Act) : OwnFrom B' (fun (_ : Unit) W => VarB B x F a' W) := fun s A C row ⟨g, h1, h2, h3⟩ hg hr =>
  ⟨g, h1, h2, (hg.block g (Array.getElem?_eq_some_iff.1 h3).1 fun e => by
    obtain ⟨-, o, ho, hc⟩ := hr g e.symm
    rw [h3] at ho
    cases ho
    cases hc).trans h3⟩
set_option maxRecDepth 100000 in
set_option maxHeartbeats 8000000 in
theorem blocks_seq (Bt n₀ g : Nat) (T : TypeId) (nx : Value) (A : Option Addr) (m c : Nat) (f : Nat → SD × SD) (hm : m ≤ 64) (w : World) (hn₀ : n₀ ≤ w.heap.size) (hBt : Boxed w Bt T (.pointer (some ⟨g, 0, none⟩))) (hg : g < n₀) (hcell : w.heap[g]? = some (.cells #[sv (f m).1, sv (f m).2, .slice A m c, nx] 65 (0, 0))) (hR : RdB w n₀ A m f) :
    SeqN 8 66 #[.pointer (some ⟨Bt, 0, none⟩)] (tellK f) n₀ [Bt] (fun ys => ys = blks m) (fun pre => ∃ k, k ≤ m ∧ pre = (blks m).take (k + 1)) (m + 1) w := by
  intro l J Jx W hW hJ hJx hY h0
  have hBtl := hBt.lt
  have hWs := hW.size
  have hBtW : Boxed W Bt T (.pointer (some ⟨g, 0, none⟩)) := (hW.block Bt hBtl).trans hBt
  have hgw : g < w.heap.size := by omega
  have hcW : W.heap[g]? = some (.cells #[sv (f m).1, sv (f m).2, .slice A m c, nx] 65 (0, 0)) := (hW.block g hgw).trans hcell
  have hRW : RdB W n₀ A m f := hR.below (hW.mono hn₀)
  have t1 := hBtW.cell
  have g2 : W.cell? ⟨g, 2, none⟩ = some (.slice A m c) := cell_of_row W g 2 _ _ _ hcW
  have hgW : g < W.heap.size := by omega
  have hBtl2 : Bt < W.heap.size := by omega
  refine callsIn_of_wp_marks Tryz.func66 rfl trivial ?_ rfl
  simp only [Tryz.ntmps66, List.size_toArray, List.length_cons, List.length_nil, Nat.reduceAdd, Nat.reduceSub, Array.replicate_succ, Array.replicate_zero, List.push_toArray, List.append_toArray, List.nil_append, List.cons_append]
  gi_wp2_with fail
  refine ⟨trivial, ?_⟩
  refine (back_in _ _ _ _ _).mono ?_
  rintro e w' ⟨rfl, rfl⟩
  gi_wp2_with fail
  obtain ⟨W2, hW2⟩ : ∃ W2, (W.alloc (.cells #[.func (.yield l) #[] #[]] 99)).alloc (.cells #[.slice A m c] 63) = W2 := ⟨_, rfl⟩
  have bY : Boxed W2 W.heap.size 99 (.func (.yield l) #[] #[]) := hW2 ▸ (Boxed.new W _ _).alloc _
  have bS : Boxed W2 (W.heap.size + 1) 63 (.slice A m c) := by
    have := Boxed.new (W.alloc (.cells #[.func (.yield l) #[] #[]] 99)) 63 (.slice A m c)
    rw [World.size_alloc, hW2] at this
    exact this
  have bT : Boxed W2 Bt T (.pointer (some ⟨g, 0, none⟩)) := hW2 ▸ (hBtW.alloc _).alloc _
  have hB2 : Below W.heap.size W W2 := hW2 ▸ ((Below.refl _ W).alloc (Nat.le_refl _) _).alloc (by simp) _
  have hs2 : W2.heap.size = W.heap.size + 2 := by rw [← hW2]; simp
  have hJ2 : J [] W2 := hW2 ▸ hJ.alloc _ (hJ.alloc _ h0)
  rw [hW2]
  have HR2 := Lib.hid (hRW.below (hB2.mono (by omega)))
  clear hW2 hcW hRW t1 g2 hBtW
  refine wpIn_rangeFunc_ownH rfl (by decide) (gf := 83) (lb := #[.pointer (some ⟨W.heap.size + 1, 0, none⟩)]) rfl trivial (enters_of Tryz.func83 (by kernel_rfl) rfl)
    (back_stops 7 (by decide) (W.heap.size + 1) n₀ A m c f hm W2 (by omega) (by omega) bS.cell HR2.out) nkp_t (nkp_b (by omega) (fun B hB => by rw [List.mem_singleton.1 hB]; omega)) (Below.refl _ _) (fun _ => rfl)
    (fun pre W' => (((J pre W' ∧ Boxed W' W.heap.size 99 (.func (.yield l) #[] #[])) ∧ Boxed W' (W.heap.size + 1) 63 (.slice A m c)) ∧ Boxed W' Bt T (.pointer (some ⟨g, 0, none⟩))) ∧ Below n₀ W W')
    (fun cd pre W' => Jx pre W' ∧ (cd = .ret ∧ True))
    (OwnFrom.and (OwnFrom.and (OwnFrom.and (OwnFrom.and (fun s A B row hs hg hr => hJ _ A B row hs hg fun r e => by obtain ⟨q1, q2⟩ := hr r e; exact ⟨by omega, q2⟩) (Own.from (boxed_own _ _ (fun _ => _)) _)) (Own.from (boxed_own _ _ (fun _ => _)) _)) (Own.from (boxed_own _ _ (fun _ => _)) _)) (ownFrom_below (by omega) (by omega)))
    (fun cd => OwnFrom.and (fun s A B row hs hg hr => hJx _ A B row hs hg fun r e => by obtain ⟨q1, q2⟩ := hr r e; exact ⟨by omega, q2⟩) (ownFrom_pure _ _))
    ⟨⟨⟨⟨hJ2, bY⟩, bS⟩, bT⟩, hB2.mono (by omega)⟩
    (fun x => VarB W2.heap.size (f x) (fun gv => { tmps := #[.func (.yield l) #[] #[], .pointer (some ⟨Bt, 0, none⟩), .pointer (some ⟨W.heap.size, 0, none⟩), undef, .pointer (some ⟨gv, 0, none⟩), .pointer (some ⟨g, 0, none⟩), .bool false, .pointer (some ⟨g, 0, none⟩), .pointer (some ⟨g, 0, none⟩), .pointer (some ⟨g, 2, none⟩), .slice A m c, .func (.func 83) #[] #[.pointer (some ⟨W.heap.size + 1, 0, none⟩)], .int .i64 (x : Int), .agg #[sv (f x).1, sv (f x).2], undef, undef, undef, undef, undef, undef, undef, undef, undef, undef], defers := [] }))
    (fun x a' => VarB.own a') ?assign ?body ?done ?stop
  case assign =>
    intro l2 pre x W3 K hI hK
    unfold tellB
    generalize f x = fx at *
    obtain ⟨⟨fa, fb, fc⟩, ⟨fd, fe, ff⟩⟩ := fx
    dsimp only [sv] at *
    gi_wp2_with fail
    have hbe : Below W3.heap.size W3 (W3.alloc (.cells #[.slice fa fb fc, .slice fd fe ff] 62)) := (Below.refl _ W3).alloc (Nat.le_refl _) _
    obtain ⟨⟨⟨⟨hJ3, b1⟩, b2⟩, b3⟩, hB⟩ := hI
    have l2 := b2.lt
    refine hK _ _ (KaF.of_below hbe).keeps (NKp.of_below hbe (by omega) (fun B hB => by rw [List.mem_singleton.1 hB]; exact l2)) ⟨⟨⟨⟨hJ.alloc _ hJ3, b1.alloc _⟩, b2.alloc _⟩, b3.alloc _⟩, hB.alloc (by omega) _⟩ ⟨_, rfl, by omega, lone_new W3 _ _⟩
  case body =>
    rintro l2 pre x a' W3 hlw hlr ⟨⟨⟨⟨hJ3, b1⟩, b2⟩, b3⟩, hB⟩ ⟨gv, rfl, hgv, hgc⟩ hlt
    have hYY := yieldAny (l2 := l2) (m' := 5) (hY pre x W3 hJ3 (by omega))
    unfold tellK at hYY
    have HX := Lib.hid (rfl : f x = f x)
    generalize f x = fx at *
    obtain ⟨⟨fa, fb, fc⟩, ⟨fd, fe, ff⟩⟩ := fx
    dsimp only [sv] at *
    obtain ⟨fn, tmps, assign, body, hy, hRR⟩ := hYY
    have q1 := b1.cell
    have q2 := cell_of_row W3 gv 0 _ _ _ hgc
    have q3 := cell_of_row W3 gv 1 _ _ _ hgc
    simp only [List.getElem?_toArray, List.getElem?_cons_zero, List.getElem?_cons_succ] at q2 q3
    clear hY hlr
    gi_wp2_with fail
    refine hRR.mono ?_
    rintro e W5 (⟨rfl, hJ5, hn5, hk5⟩ | ⟨rfl, hJx5, hk5⟩)
    · have u1 : Boxed W5 W.heap.size 99 (.func (.yield l) #[] #[]) := hk5.same _ _ (Nat.le_refl _) b1
      have u2 : Boxed W5 (W.heap.size + 1) 63 (.slice A m c) := hk5.same _ _ (by omega) b2
      have u3 : Boxed W5 Bt T (.pointer (some ⟨g, 0, none⟩)) := (hn5.2 Bt (by simp)).trans b3
      have HF := Lib.hid (show KeepsFrom W2.heap.size W3 W5 ∧ NKp n₀ [W.heap.size + 1] W3 W5 ∧ (((J (pre ++ [x]) W5 ∧ Boxed W5 W.heap.size 99 (.func (.yield l) #[] #[])) ∧ Boxed W5 (W.heap.size + 1) 63 (.slice A m c)) ∧ Boxed W5 Bt T (.pointer (some ⟨g, 0, none⟩))) ∧ Below n₀ W W5 from
        ⟨(hk5.mono (by omega)).keeps, ⟨hn5.1, fun B hB => by rw [List.mem_singleton.1 hB]; exact u2.trans b2.symm⟩, ⟨⟨⟨hJ5, u1⟩, u2⟩, u3⟩, hB.trans hn5.1⟩)
      clear hJ5 hn5 hk5 u1 u2 u3 hRR hy q1 q2 q3
      gi_wp2_with fail
      exact HF.out
    · have HF := Lib.hid (show KeepsFrom W2.heap.size W3 W5 ∧ Jx (pre ++ [x]) W5 ∧ (Code.ret = .ret ∧ True) from ⟨(hk5.mono (by omega)).keeps, hJx5, rfl, trivial⟩)
      clear hJx5 hk5 hRR hy q1 q2 q3
      gi_wp2_with fail
      exact ⟨HF.out.1, HF.out.2.1, rfl, trivial⟩
  case done =>
    rintro D ys W3 hD rfl ⟨⟨⟨⟨hJ3, b1⟩, b2⟩, b3⟩, hB⟩ hK
    have hgW3 : W3.heap[g]? = some (.cells #[sv (f m).1, sv (f m).2, .slice A m c, nx] 65 (0, 0)) := (hB.block g hg).trans ((hW.block g hgw).trans hcell)
    have hYY := yieldAny0 (m' := 7) (hY (bkw m m) m W3.drew (hJ _ _ _ none hJ3 ⟨rfl, rfl, rfl, Nat.le_refl _, fun _ _ _ => rfl⟩ fun r e => by cases e) (by rw [bkw_len]; omega))
    unfold tellK at hYY
    generalize f m = fx at *
    obtain ⟨⟨fa, fb, fc⟩, ⟨fd, fe, ff⟩⟩ := fx
    dsimp only [sv] at *
    obtain ⟨fn, tmps, assign, body, hy, hRR⟩ := hYY
    have q1 := b1.cell
    have q3 := b3.cell
    have z0 := cell_of_row W3 g 0 _ _ _ hgW3
    have z1 := cell_of_row W3 g 1 _ _ _ hgW3
    simp only [List.getElem?_toArray, List.getElem?_cons_zero, List.getElem?_cons_succ] at z0 z1
    clear hY hcell hgW3
    gi_wp2_with fail
    have HRR : Hid (RoundIn Fence.wide 7 Tryz.prog l fn tmps assign body W3.drew fun e W5 => ∃ bv, e = .returned (.bool bv) ∧ W5.heap[D]? = some (.deferred (some [])) ∧ ((∃ ys, ys = blks m ∧ J ys W5) ∨ (∃ pre, (∃ k, k ≤ m ∧ pre = (blks m).take (k + 1)) ∧ Jx pre W5))) := hRR.mono fun e W5 hor => by
      rcases hor with ⟨rfl, hJ5, hn5, hk5⟩ | ⟨rfl, hJx5, hk5⟩
      · exact ⟨true, rfl, hk5.same D _ (by omega) hK, .inl ⟨_, rfl, hJ5⟩⟩
      · exact ⟨false, rfl, hk5.same D _ (by omega) hK, .inr ⟨_, ⟨m, Nat.le_refl _, (List.take_of_length_le (by simp [blks, bkw_len])).symm⟩, hJx5⟩⟩
    refine wpIn_norm ?_
    gi_region_with (refine HRR.out.mono ?_; rintro e W5 ⟨bv, rfl, hD5, hor⟩)
    all_goals
      refine ⟨by simp, .inl ⟨_, _, rfl, run_takeDeferred hD5, ?_⟩⟩
      refine ⟨_, results_none rfl _ _ _, ⟨_, rfl⟩, ?_⟩
      rcases hor with ⟨ys, rfl, h⟩ | ⟨pre, hp, h⟩
      · exact .inl ⟨_, rfl, hJ.putObj _ h (by omega) hD5 rfl⟩
      · exact .inr ⟨_, hp, hJx.putObj _ h (by omega) hD5 rfl⟩
  case stop =>
    rintro D cd pre W3 hD ⟨k, hk, rfl⟩ ⟨hJx3, rfl, -⟩ hK
    have HF := Lib.hid (show ∃ pre, (∃ k, k ≤ m ∧ pre = (blks m).take (k + 1)) ∧ Jx pre (W3.putObj D (.deferred none)) from ⟨_, ⟨k, by omega, (blks_take (show k + 1 ≤ m from hk)).symm⟩, hJx.putObj _ hJx3 (by omega) hK rfl⟩)
    clear hJx3 hY
    gi_wp2_with fail
    refine ⟨by simp, .inl ⟨_, _, rfl, run_takeDeferred hK, ?_⟩⟩
    exact ⟨_, results_none rfl _ _ _, ⟨_, rfl⟩, .inr HF.out⟩
end Go.Proofs.YtcjljfjgekiocaaGreatDoor

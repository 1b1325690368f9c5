/- Contract: Add. -/
import Derived.Test.YtlfhpoffphljfaaNatE
namespace Go.Proofs.Ytlfhpoffphljfaa
open Go.RowKit Go.Shelf

attribute [local go_sem] Oper.semAt_some

theorem info32 : (Try.prog.info? 28).map (fun i => (i.zero, i.size, i.bytes)) = some (some (.int .u32 0), 1, 4) := by kernel_rfl

def sAdd (xs ys : List Nat) : List Nat := if mayb xs && mayb ys then clip (val xs + val ys) else []
theorem sAdd_no {xs ys : List Nat} (h : (mayb xs && mayb ys) = false) : sAdd xs ys = [] := by unfold sAdd; rw [h]; rfl
theorem sAdd_yes {xs ys : List Nat} (h : (mayb xs && mayb ys) = true) : sAdd xs ys = clip (val xs + val ys) := by unfold sAdd; rw [h]; rfl
theorem sAdd_comm (xs ys : List Nat) : sAdd xs ys = sAdd ys xs := by unfold sAdd; rw [Bool.and_comm, Nat.add_comm]

/-! ### the rounds, as a fold -/
def addSum (xs ys : List Nat) (c k : Nat) : Nat := xs[k]?.getD 0 + ys[k]?.getD 0 + c
def addStep (xs ys : List Nat) (st : Nat × List Nat) (j : Fin xs.length) : Nat × List Nat := (addSum xs ys st.1 j.1 / 4294967296, st.2 ++ [addSum xs ys st.1 j.1 % 4294967296])
def addTo (xs ys : List Nat) (pre : List (Fin xs.length)) : Nat × List Nat := pre.foldl (addStep xs ys) (0, [])
theorem addTo_snoc (xs ys : List Nat) (pre : List (Fin xs.length)) (j : Fin xs.length) : addTo xs ys (pre ++ [j]) = addStep xs ys (addTo xs ys pre) j := by simp [addTo]
theorem addTo_from {xs ys : List Nat} (hx : Limbs xs) (hy : Limbs ys) : ∀ (pre : List (Fin xs.length)) (st : Nat × List Nat), st.1 ≤ 1 → Limbs st.2 →
    (pre.foldl (addStep xs ys) st).1 ≤ 1 ∧ Limbs (pre.foldl (addStep xs ys) st).2 ∧ (pre.foldl (addStep xs ys) st).2.length = st.2.length + pre.length
  | [], st, h, k => ⟨h, k, rfl⟩
  | j :: r, st, h, k => by
    have h1 := hx.getD j.1
    have h2 := hy.getD j.1
    have := addTo_from hx hy r (addStep xs ys st j) (by unfold addStep addSum; show _ / 4294967296 ≤ 1; omega) (by unfold addStep; exact k.append (Limbs.one (Nat.mod_lt _ (by decide))))
    rw [List.foldl_cons]
    refine ⟨this.1, this.2.1, this.2.2.trans ?_⟩
    simp [addStep]
    omega
theorem addTo_ok {xs ys : List Nat} (hx : Limbs xs) (hy : Limbs ys) (pre : List (Fin xs.length)) : (addTo xs ys pre).1 ≤ 1 ∧ Limbs (addTo xs ys pre).2 ∧ (addTo xs ys pre).2.length = pre.length := by
  have := addTo_from hx hy pre (0, []) (by simp) limbs_nil
  simpa [addTo] using this
theorem addTo_val (xs ys : List Nat) : ∀ {k : Nat} (hk : k ≤ xs.length), val (addTo xs ys (upTo k hk)).2 + 4294967296 ^ k * (addTo xs ys (upTo k hk)).1 = val (xs.take k) + val (ys.take k) ∧ (addTo xs ys (upTo k hk)).2.length = k := by
  intro k
  induction k with
  | zero => intro _; simp [addTo, upTo, val]
  | succ k ih =>
    intro hk
    obtain ⟨h1, h2⟩ := ih (Nat.le_of_lt hk)
    rw [upTo_succ hk, addTo_snoc]
    generalize addTo xs ys (upTo k (Nat.le_of_lt hk)) = st at h1 h2
    obtain ⟨c, out⟩ := st
    simp only [addStep] at h1 h2 ⊢
    refine ⟨?_, by simp [h2]⟩
    rw [val_snoc, h2, val_take_succ, val_take_succ]
    have hs : addSum xs ys c k = xs[k]?.getD 0 + ys[k]?.getD 0 + c := rfl
    have hd := Nat.mod_add_div (addSum xs ys c k) 4294967296
    generalize addSum xs ys c k = s at hs hd ⊢
    rw [Nat.pow_succ, Nat.mul_assoc, Nat.add_assoc, ← Nat.mul_add, hd, hs, Nat.mul_add, Nat.mul_add]
    omega
theorem add_next {xs ys : List Nat} {pre : List (Fin xs.length)} {k a y c : Nat} {out : List Nat} {hk : k < xs.length} (hA : addTo xs ys (pre ++ [⟨k, hk⟩]) = addStep xs ys (addTo xs ys pre) ⟨k, hk⟩)
    (h1 : (addTo xs ys pre).1 = c) (h2 : (addTo xs ys pre).2 = out) (h3 : xs[k]?.getD 0 = a) (h4 : ys[k]?.getD 0 = y) : addTo xs ys (pre ++ [⟨k, hk⟩]) = ((a + y + c) / 4294967296, out ++ [(a + y + c) % 4294967296]) := by
  rw [hA]
  unfold addStep addSum
  rw [h1, h2, h3, h4]
theorem addTo_all {xs ys : List Nat} (hl : ys.length ≤ xs.length) :
    val ((addTo xs ys (List.finRange xs.length)).2 ++ [(addTo xs ys (List.finRange xs.length)).1]) = val xs + val ys := by
  obtain ⟨h1, h2⟩ := addTo_val xs ys (Nat.le_refl xs.length)
  rw [upTo_all] at h1 h2
  rw [val_snoc, h2, h1, List.take_of_length_le (Nat.le_refl _), List.take_of_length_le hl]

/-- Every plain contract holds inside the wide fence. -/
theorem wided {F : Fence} (hF : Hid (F = Fence.wide)) {n : Nat} {f : FuncId} {args : Array Value} {w : World} {R : Ending → World → Prop} (h : Calls Try.prog f args w R) : CallsIn F n Try.prog f args w R := by
  have := hF.out
  subst this
  exact callsIn_wide.2 h
theorem wide_fn {F : Fence} (hF : Hid (F = Fence.wide)) (g : FuncId) : F.fn g := by
  have := hF.out
  subst this
  trivial

theorem ownsRow_box {W : World} {n₀ B : Nat} {t e : TypeId} {size k : Nat} {v u : Value} {xs : List Value} (h : W.ownsRow n₀ e size v k xs) (hb : Boxed W B t u) (hte : t ≠ e) (u' : Value) : (W.setCell ⟨B, 0, none⟩ u').ownsRow n₀ e size v k xs :=
  h.kept (grownBy_setCell' W B u') (.inr (hb.not_row hte h).symm)

/-- A round that appends to a slice in a box, then stores into another box: all that the walk owes. -/
theorem round_kept {W w2 : World} {n₀ Bo Bc : Nat} {t tc e : TypeId} {size k m : Nat} {v v' u : Value} {xs ys : List Value} {tmp : Obj}
    (hv : Boxed W Bo t v) (hrow : W.ownsRow n₀ e size v k xs) (hcar : Boxed W Bc tc u) (hte : t ≠ e) (htc : tc ≠ e) (hn₀ : n₀ ≤ W.heap.size) (ho : n₀ ≤ Bo) (hc : n₀ ≤ Bc) (hne : Bc ≠ Bo)
    (hown' : w2.ownsRow n₀ e size v' m ys) (hgrow : (W.alloc tmp).grownBy w2 v.ownBlock) :
    Boxed w2 Bo t v ∧ Boxed (w2.setCell ⟨Bo, 0, none⟩ v') Bc tc u ∧ ∀ u', KeepsOthers W ((w2.setCell ⟨Bo, 0, none⟩ v').setCell ⟨Bc, 0, none⟩ u') ∧ Below n₀ W ((w2.setCell ⟨Bo, 0, none⟩ v').setCell ⟨Bc, 0, none⟩ u') ∧
      Boxed ((w2.setCell ⟨Bo, 0, none⟩ v').setCell ⟨Bc, 0, none⟩ u') Bo t v' ∧ ((w2.setCell ⟨Bo, 0, none⟩ v').setCell ⟨Bc, 0, none⟩ u').ownsRow n₀ e size v' m ys ∧ Boxed ((w2.setCell ⟨Bo, 0, none⟩ v').setCell ⟨Bc, 0, none⟩ u') Bc tc u' := by
  obtain ⟨hv1, hv2, hr2, hk2, hb2⟩ := hv.appended hte hrow hn₀ ho hown' hgrow
  have hc1 : Boxed w2 Bc tc u := (hcar.alloc tmp).kept hgrow (hcar.not_row htc hrow)
  have hc2 : Boxed (w2.setCell ⟨Bo, 0, none⟩ v') Bc tc u := hc1.other hne v'
  exact ⟨hv1, hc2, fun u' => ⟨hk2.trans (KeepsOthers.setCell _ _ _), hb2.setCell (p := ⟨Bc, 0, none⟩) hc _, hv2.other hne.symm _, ownsRow_box hr2 hc2 htc _, hc2.set _⟩⟩
/-- A third box lies as it lay. -/
theorem round_box {W w2 : World} {n₀ Bo Bc Bb : Nat} {tb e : TypeId} {size k : Nat} {v v' u s : Value} {xs : List Value} {tmp : Obj}
    (hbb : Boxed W Bb tb s) (hrow : W.ownsRow n₀ e size v k xs) (htb : tb ≠ e) (h1 : Bb ≠ Bo) (h2 : Bb ≠ Bc) (hgrow : (W.alloc tmp).grownBy w2 v.ownBlock) : Boxed ((w2.setCell ⟨Bo, 0, none⟩ v').setCell ⟨Bc, 0, none⟩ u) Bb tb s :=
  (((hbb.alloc tmp).kept hgrow (hbb.not_row htb hrow)).other h1 _).other h2 _

/-- tidy of a slice of the call's own. -/
theorem tidy_own {w : World} {base : Nat} {A : Option Addr} {n cap : Nat} {zs : List Nat} (h : w.ownsRow base 28 1 (.slice A n cap) n (u32s zs)) (hl : Limbs zs) :
    Calls Try.prog 42 #[.slice A n cap] w fun e w' => (∃ v, e = .returned v ∧ Own w base v (clip (val zs))) ∧ w' = w := by
  have hn : zs.length = n := by have := h.1; simp [u32s] at this; omega
  subst hn
  have ho : Own w base (.slice A zs.length cap) zs := h
  obtain ⟨A', cap', hv, h1, h2, hr⟩ := ho.rd hl
  injection hv with e1 e2 e3
  subst e1 e3
  exact (tidy_any _ _ _ _ _ hr h1 h2).mono fun e w' ⟨he, hw⟩ => ⟨⟨_, he, tidied_own ho hl⟩, hw⟩

/-- An append alone. -/
theorem appended_plain {W w2 : World} {n₀ : Nat} {e : TypeId} {size k : Nat} {v : Value} {xs : List Value} {tmp : Obj} (hrow : W.ownsRow n₀ e size v k xs) (hn₀ : n₀ ≤ W.heap.size) (hgrow : (W.alloc tmp).grownBy w2 v.ownBlock) : KeepsOthers W w2 ∧ Below n₀ W w2 := by
  refine ⟨(KeepsOthers.alloc W tmp).trans (KeepsOthers.of_grownBy hgrow fun j o ej hj => ?_), ((Below.refl n₀ W).alloc hn₀ tmp).grown hgrow (by simp; omega) fun j ej => ?_⟩
  · rcases (hrow.alloc tmp).2 with ⟨rfl, _⟩ | ⟨g, cap, cur, rfl, _, hgb, _⟩
    · simp [Value.ownBlock] at ej
    · obtain rfl : g = j := by simpa [Value.ownBlock] using ej
      rw [hgb] at hj; cases hj; rfl
  · rcases hrow.2 with ⟨rfl, _⟩ | ⟨g, cap, cur, rfl, hb, _, _⟩
    · simp [Value.ownBlock] at ej
    · obtain rfl : g = j := by simpa [Value.ownBlock] using ej
      exact hb

theorem u32s_snoc (xs : List Nat) (x : Nat) : u32s (xs ++ [x]) = u32s xs ++ [.int .u32 (x : Int)] := by simp [u32s, lv]

set_option maxRecDepth 100000 in
set_option maxHeartbeats 4000000 in
theorem add_long (F : Fence) (n : Nat) (hF : Hid (F = Fence.wide)) (hro : F.round = none) (hn : 8 ≤ n) (A A' : Option Addr) (cap cap' : Nat) (xs ys : List Nat) (w : World) (hr : Rd w w.heap.size A xs) (hr' : Rd w w.heap.size A' ys)
    (hx : mayb xs = true) (hy : mayb ys = true) (hl : ys.length ≤ xs.length) :
    CallsIn F n Try.prog 16 #[.slice A xs.length cap, .slice A' ys.length cap'] w fun e w' => (∃ v, e = .returned v ∧ Own w' w.heap.size v (clip (val xs + val ys))) ∧ Below w.heap.size w w' := by
  have h1 : 1 ≤ n := by omega
  have hxm := (mayb_iff.1 hx).1
  obtain ⟨i0, hi, hz0, hz1, hz2⟩ := info_parts info32
  have hB0 : Below w.heap.size w (w.alloc (.cells #[.slice A' ys.length cap'] 26)) := (Below.refl _ w).alloc (Nat.le_refl _) _
  have c1 := may_yes cap (hr.below hB0 (Nat.le_refl _)) (by unfold maxLen; omega) hx
  have c2 := may_yes cap' (hr'.below hB0 (Nat.le_refl _)) (by unfold maxLen; omega) hy
  have hf22 := wide_fn hF 23
  have hf36 := wide_fn hF 41
  have hf37 := wide_fn hF 42
  have hf42 := wide_fn hF 55
  refine callsIn_of_wp_marks Try.func16 rfl (wide_fn hF _) ?_ hro
  simp only [Try.ntmps16, List.size_toArray, List.length_cons, List.length_nil, Nat.reduceAdd, Nat.reduceSub, Array.replicate_succ, Array.replicate_zero, List.push_toArray, List.append_toArray, List.nil_append, List.cons_append]
  gi_wp2_with fail
  refine (wided hF c1).mono ?_
  rintro e w' ⟨rfl, rfl⟩
  gi_wp2_with fail
  refine (wided hF c2).mono ?_
  rintro e w' ⟨rfl, hw2⟩
  subst hw2
  clear c1 c2
  gi_wp2_with (gi_at_make; refine wpListIn_make_own _ rfl _ _ 26 rfl w.heap.size 28 i0 (.int .u32 0) 1 Try.underlying26 hi hz0 hz1 .i64 .i64 _ (xs.length + 1) rfl rfl (by omega) (by rw [hz2]; omega) (by unfold maxLen; omega) (by simp) ?_; intro w1 hown0 hgrow0)
  refine (limbs_in F _ hf36 hro _ _ _ _).mono ?_
  rintro e w' ⟨rfl, rfl⟩
  have hB1 : Below w.heap.size w w1 := hB0.grown hgrow0 (by simp) (fun _ h => by cases h)
  have bB : Boxed w1 w.heap.size 26 (.slice A' ys.length cap') := (Boxed.new w _ _).kept hgrow0 (by simp)
  have hsz := bB.lt
  have bO := Boxed.new w1 26 (.slice (some ⟨w.heap.size + 1, 0, none⟩) 0 (xs.length + 1))
  have bC := Boxed.new (w1.alloc (.cells #[.slice (some ⟨w.heap.size + 1, 0, none⟩) 0 (xs.length + 1)] 26)) 23 (.int .u64 0)
  have bN := Boxed.new ((w1.alloc (.cells #[.slice (some ⟨w.heap.size + 1, 0, none⟩) 0 (xs.length + 1)] 26)).alloc (.cells #[.int .u64 0] 23)) 26 (.slice A xs.length cap)
  simp only [World.size_alloc] at bC bN
  have hB3 : Below w.heap.size w (((w1.alloc (.cells #[.slice (some ⟨w.heap.size + 1, 0, none⟩) 0 (xs.length + 1)] 26)).alloc (.cells #[.int .u64 0] 23)).alloc (.cells #[.slice A xs.length cap] 26)) :=
    ((hB1.alloc (by omega) _).alloc (by simp; omega) _).alloc (by simp; omega) _
  rw [World.size_alloc] at hown0
  have hO := Lib.hid (((hown0.alloc (.cells #[.slice (some ⟨w.heap.size + 1, 0, none⟩) 0 (xs.length + 1)] 26)).alloc (.cells #[.int .u64 0] 23)).alloc (.cells #[.slice A xs.length cap] 26))
  have hBx := Lib.hid (((bB.alloc (.cells #[.slice (some ⟨w.heap.size + 1, 0, none⟩) 0 (xs.length + 1)] 26)).alloc (.cells #[.int .u64 0] 23)).alloc (.cells #[.slice A xs.length cap] 26))
  have hOx := Lib.hid ((bO.alloc (.cells #[.int .u64 0] 23)).alloc (.cells #[.slice A xs.length cap] 26))
  have hCx := Lib.hid (bC.alloc (.cells #[.slice A xs.length cap] 26))
  clear bB bO bC hown0 hgrow0
  gi_wp2_with fail
  refine wpIn_rangeFunc_ownG hro h1 (gf := 55) (lb := #[.pointer (some ⟨w1.heap.size + 2, 0, none⟩)]) rfl hf42 (enters_of Try.func55 (by kernel_rfl) rfl)
    (limbs_stops F (n - 1) hf42 hro (by omega) (w1.heap.size + 2) w.heap.size A cap xs (by unfold maxLen; omega) _ (by simp) (by simp; omega) bN.cell (hr.below hB3 (Nat.le_refl _))) belowK_t (belowK_b (by simp; omega)) (Below.refl _ _) (fun _ => rfl)
    (fun pre W => ((∃ v, Boxed W w1.heap.size 26 v ∧ W.ownsRow w.heap.size 28 1 v (addTo xs ys pre).2.length (u32s (addTo xs ys pre).2) ∧ True) ∧ Boxed W (w1.heap.size + 1) 23 (.int .u64 ((addTo xs ys pre).1 : Nat)) ∧ Boxed W w.heap.size 26 (.slice A' ys.length cap')) ∧ Below w.heap.size w W)
    (fun _ _ _ => False)
    (OwnFrom.and (OwnFrom.and (Own.from (holdsRow_own w.heap.size w1.heap.size 26 28 1 (fun pre => (addTo xs ys pre).2.length) (fun pre => u32s (addTo xs ys pre).2) (fun _ _ => True)) _)
      (OwnFrom.and (Own.from (boxed_own (w1.heap.size + 1) 23 (fun pre => .int .u64 ((addTo xs ys pre).1 : Nat))) _) (Own.from (boxed_own w.heap.size 26 (fun _ => .slice A' ys.length cap')) _)))
      (ownFrom_below (Nat.le_refl _) (by simp; omega)))
    (fun _ _ _ _ _ hs _ _ => hs)
    ⟨⟨⟨_, hOx.out, hO.out, trivial⟩, hCx.out, hBx.out⟩, hB3⟩
    ?a₁ ?assign ?body ?done ?stop
  case assign =>
    intro l x W K hK
    gi_wp2
    exact hK
  case body =>
    rintro l pre ⟨k, hk⟩ W ⟨⟨⟨v, hv, hrow, _⟩, hcar, hbb⟩, hB⟩ hlt
    have hA := Lib.hid (addTo_snoc xs ys pre ⟨k, hk⟩)
    have hok := addTo_ok hr.limbs hr'.limbs pre
    have hxk := hr.limbs.getD k
    have hyk := hr'.limbs.getD k
    unfold tells
    dsimp only
    generalize hcc : (addTo xs ys pre).1 = c at *
    generalize hoo : (addTo xs ys pre).2 = out at *
    generalize haa : xs[k]?.getD 0 = a at *
    have HC := Lib.hid hcc
    have HO := Lib.hid hoo
    have HX := Lib.hid haa
    clear hcc hoo haa
    have hc1 := hcar.cell
    have hc2 := hcar.frozen
    have hb1 := hbb.cell
    have hv1 := hv.cell
    have hv2 := hv.frozen
    obtain ⟨ok1, ok2, ok3⟩ := hok
    generalize hyy : ys[k]?.getD 0 = y at *
    have HY := Lib.hid hyy
    rcases Nat.lt_or_ge k ys.length with hky | hky
    · obtain ⟨b, off, rfl, hb0, hcell⟩ := hr'.2 (by omega)
      have hcl := (hB.cell (p := ⟨b, off + k, none⟩) hb0).trans (hcell k hky)
      rw [hyy] at hcl
      clear hyy hcell hx hy hr hr'
      have HOK := Lib.hid ok3
      have hol : out.length ≤ 65536 := by omega
      clear ok3
      have hn := Lib.hid (add_next hA.out HC.out HO.out HX.out HY.out)
      have e1 := Lib.hid (show (((a : Int) + y + c) % 4294967296 : Int) = (((a + y + c) % 4294967296 : Nat) : Int) from by omega)
      have e2 := Lib.hid (show (((a : Int) + y + c) / 4294967296 : Int) = (((a + y + c) / 4294967296 : Nat) : Int) from by omega)
      gi_wp2_with (gi_at_builtin; refine wpListIn_append_own _ rfl _ _ 26 rfl w.heap.size 28 i0 (.int .u32 0) 1 4 Try.underlying26 hi hz0 hz1 hz2 rfl (by decide) _ _ _ rfl (hrow.alloc _) ⟨W.heap.size, 0, none⟩ 1 1 [_] rfl rfl (cell_one_new _ _ _) (by simp [Value.oneCell']) (by unfold maxLen; omega) (by omega) (by have := hB.size; simp; omega) ?_; intro v' w2 hown' hgrow hgone; clear hgone; obtain ⟨g', cap', rfl⟩ := ownsRow_succ hown'; obtain ⟨b1, b2, b3⟩ := round_kept hv hrow hcar (by decide) (by decide) hB.size (by omega) (by omega) (by omega) hown' hgrow; have q1 := b1.cell; have q2 := b1.frozen; have q3 := b2.cell; have q4 := b2.frozen)
      refine ⟨(b3 _).1.from _, (b3 _).2.1, ⟨⟨⟨_, (b3 _).2.2.1, ?_, trivial⟩, ?_, round_box hbb hrow (by decide) (by omega) (by omega) hgrow⟩, hB.trans (b3 _).2.1⟩⟩
      · have h := (b3 (.int .u64 (((a : Int) + y + c) / 4294967296))).2.2.2.1
        rw [hn.out, u32s_snoc, ← e1.out]
        simpa using h
      · have h := (b3 (.int .u64 (((a : Int) + y + c) / 4294967296))).2.2.2.2
        rw [hn.out, ← e2.out]
        exact h
    · have hy0 : y ≤ 0 := by rw [← hyy, List.getElem?_eq_none hky]; exact Nat.le_refl _
      clear hyy hx hy hr hr'
      rcases Nat.lt_or_ge 0 c with hc0 | hc0
      · skip
        have HOK := Lib.hid ok3
        have hol : out.length ≤ 65536 := by omega
        clear ok3
        have hn := Lib.hid (add_next hA.out HC.out HO.out HX.out HY.out)
        have e1 := Lib.hid (show (((a : Int) + c) % 4294967296 : Int) = (((a + y + c) % 4294967296 : Nat) : Int) from by omega)
        have e2 := Lib.hid (show (((a : Int) + c) / 4294967296 : Int) = (((a + y + c) / 4294967296 : Nat) : Int) from by omega)
        gi_wp2_with (gi_at_builtin; refine wpListIn_append_own _ rfl _ _ 26 rfl w.heap.size 28 i0 (.int .u32 0) 1 4 Try.underlying26 hi hz0 hz1 hz2 rfl (by decide) _ _ _ rfl (hrow.alloc _) ⟨W.heap.size, 0, none⟩ 1 1 [_] rfl rfl (cell_one_new _ _ _) (by simp [Value.oneCell']) (by unfold maxLen; omega) (by omega) (by have := hB.size; simp; omega) ?_; intro v' w2 hown' hgrow hgone; clear hgone; obtain ⟨g', cap', rfl⟩ := ownsRow_succ hown'; obtain ⟨b1, b2, b3⟩ := round_kept hv hrow hcar (by decide) (by decide) hB.size (by omega) (by omega) (by omega) hown' hgrow; have q1 := b1.cell; have q2 := b1.frozen; have q3 := b2.cell; have q4 := b2.frozen)
        refine ⟨(b3 _).1.from _, (b3 _).2.1, ⟨⟨⟨_, (b3 _).2.2.1, ?_, trivial⟩, ?_, round_box hbb hrow (by decide) (by omega) (by omega) hgrow⟩, hB.trans (b3 _).2.1⟩⟩
        · have h := (b3 (.int .u64 (((a : Int) + c) / 4294967296))).2.2.2.1
          rw [hn.out, u32s_snoc, ← e1.out]
          simpa using h
        · have h := (b3 (.int .u64 (((a : Int) + c) / 4294967296))).2.2.2.2
          rw [hn.out, ← e2.out]
          exact h
      · skip
        have HOK := Lib.hid ok3
        have hol : out.length ≤ 65536 := by omega
        clear ok3
        have hn := Lib.hid (add_next hA.out HC.out HO.out HX.out HY.out)
        have e1 := Lib.hid (show ((a : Int)) = (((a + y + c) % 4294967296 : Nat) : Int) from by omega)
        have e2 := Lib.hid (show (((a : Int)) / 4294967296 : Int) = (((a + y + c) / 4294967296 : Nat) : Int) from by omega)
        gi_wp2_with (gi_at_builtin; refine wpListIn_append_own _ rfl _ _ 26 rfl w.heap.size 28 i0 (.int .u32 0) 1 4 Try.underlying26 hi hz0 hz1 hz2 rfl (by decide) _ _ _ rfl (hrow.alloc _) ⟨W.heap.size, 0, none⟩ 1 1 [_] rfl rfl (cell_one_new _ _ _) (by simp [Value.oneCell']) (by unfold maxLen; omega) (by omega) (by have := hB.size; simp; omega) ?_; intro v' w2 hown' hgrow hgone; clear hgone; obtain ⟨g', cap', rfl⟩ := ownsRow_succ hown'; obtain ⟨b1, b2, b3⟩ := round_kept hv hrow hcar (by decide) (by decide) hB.size (by omega) (by omega) (by omega) hown' hgrow; have q1 := b1.cell; have q2 := b1.frozen; have q3 := b2.cell; have q4 := b2.frozen)
        refine ⟨(b3 _).1.from _, (b3 _).2.1, ⟨⟨⟨_, (b3 _).2.2.1, ?_, trivial⟩, ?_, round_box hbb hrow (by decide) (by omega) (by omega) hgrow⟩, hB.trans (b3 _).2.1⟩⟩
        · have h := (b3 (.int .u64 (((a : Int)) / 4294967296))).2.2.2.1
          rw [hn.out, u32s_snoc, ← e1.out]
          simpa using h
        · have h := (b3 (.int .u64 (((a : Int)) / 4294967296))).2.2.2.2
          rw [hn.out, ← e2.out]
          exact h
  case done =>
    rintro D ys' W hD rfl ⟨⟨⟨v, hv, hrow, _⟩, hcar, _⟩, hB⟩ hK
    have hok := addTo_ok hr.limbs hr'.limbs (List.finRange xs.length)
    have hval := addTo_all (xs := xs) (ys := ys) hl
    generalize (addTo xs ys (List.finRange xs.length)).1 = c at *
    generalize (addTo xs ys (List.finRange xs.length)).2 = out at *
    obtain ⟨ok1, ok2, ok3⟩ := hok
    have hol : out.length ≤ 65536 := by rw [ok3]; simpa using hxm
    have HV := Lib.hid hval
    have hlz : Limbs (out ++ [c]) := ok2.append (Limbs.one (by omega))
    have hc1 := hcar.cell
    have hv1 := hv.cell
    clear ok3 hval hx hy
    gi_wp2_with (gi_at_builtin; refine wpListIn_append_own _ rfl _ _ 26 rfl w.heap.size 28 i0 (.int .u32 0) 1 4 Try.underlying26 hi hz0 hz1 hz2 rfl (by decide) _ _ _ rfl (hrow.alloc _) ⟨W.heap.size, 0, none⟩ 1 1 [_] rfl rfl (cell_one_new _ _ _) (by simp [Value.oneCell']) (by unfold maxLen; omega) (by omega) (by have := hB.size; simp; omega) ?_; intro v' w2 hown' hgrow hgone; clear hgone; obtain ⟨g', cap', rfl⟩ := ownsRow_succ hown')
    have hown2 : w2.ownsRow w.heap.size 28 1 (.slice (some ⟨g', 0, none⟩) (out.length + 1) cap') (out.length + 1) (u32s (out ++ [c])) := by rw [u32s_snoc]; exact hown'
    obtain ⟨hk2, hb2⟩ := appended_plain hrow hB.size hgrow
    have hK2 := hk2.same D _ hK rfl
    refine (wided hF (tidy_own hown2 hlz)).mono ?_
    rintro e w' ⟨⟨v', rfl, hv'⟩, hww⟩
    subst hww
    clear hown' hgrow hown2
    gi_wp2
    refine ⟨by simp, .inl ⟨_, _, rfl, run_takeDeferred hK2, ?_⟩⟩
    refine ⟨_, results_tmp rfl _ _ _, ⟨v', rfl, ?_⟩, (hB.trans hb2).trans (belowK_b (w := w) (Nat.le_refl _) _ D _ _ (by simp at hD; omega) hK2 rfl rfl)⟩
    rw [HV.out] at hv'
    exact ownsRow_putObj hv' _ hK2 rfl
  case stop =>
    rintro D c pre W _ _ h _
    exact h.elim

set_option maxRecDepth 100000 in
set_option maxHeartbeats 4000000 in
theorem add_short (F : Fence) (n : Nat) (hF : Hid (F = Fence.wide)) (hro : F.round = none) (hn : 8 ≤ n) (A A' : Option Addr) (cap cap' : Nat) (xs ys : List Nat) (w : World) (hr : Rd w w.heap.size A xs) (hr' : Rd w w.heap.size A' ys)
    (hx : mayb xs = true) (hy : mayb ys = true) (hlt0 : ys.length < xs.length) :
    CallsIn F n Try.prog 16 #[.slice A' ys.length cap', .slice A xs.length cap] w fun e w' => (∃ v, e = .returned v ∧ Own w' w.heap.size v (clip (val xs + val ys))) ∧ Below w.heap.size w w' := by
  have h1 : 1 ≤ n := by omega
  have hxm := (mayb_iff.1 hx).1
  obtain ⟨i0, hi, hz0, hz1, hz2⟩ := info_parts info32
  have hB0 : Below w.heap.size w (w.alloc (.cells #[.slice A' ys.length cap'] 26)) := (Below.refl _ w).alloc (Nat.le_refl _) _
  have hB00 : Below w.heap.size w (w.alloc (.cells #[.slice A xs.length cap] 26)) := (Below.refl _ w).alloc (Nat.le_refl _) _
  have hl : ys.length ≤ xs.length := Nat.le_of_lt hlt0
  have c1 := may_yes cap' (hr'.below hB00 (Nat.le_refl _)) (by unfold maxLen; omega) hy
  have c2 := may_yes cap (hr.below hB00 (Nat.le_refl _)) (by unfold maxLen; omega) hx
  have hf22 := wide_fn hF 23
  have hf36 := wide_fn hF 41
  have hf37 := wide_fn hF 42
  have hf42 := wide_fn hF 55
  refine callsIn_of_wp_marks Try.func16 rfl (wide_fn hF _) ?_ hro
  simp only [Try.ntmps16, List.size_toArray, List.length_cons, List.length_nil, Nat.reduceAdd, Nat.reduceSub, Array.replicate_succ, Array.replicate_zero, List.push_toArray, List.append_toArray, List.nil_append, List.cons_append]
  gi_wp2_with fail
  refine (wided hF c1).mono ?_
  rintro e w' ⟨rfl, rfl⟩
  gi_wp2_with fail
  refine (wided hF c2).mono ?_
  rintro e w' ⟨rfl, hw2⟩
  subst hw2
  clear c1 c2
  gi_wp2_with (gi_at_make; refine wpListIn_make_own _ rfl _ _ 26 rfl w.heap.size 28 i0 (.int .u32 0) 1 Try.underlying26 hi hz0 hz1 .i64 .i64 _ (xs.length + 1) rfl rfl (by omega) (by rw [hz2]; omega) (by unfold maxLen; omega) (by simp) ?_; intro w1 hown0 hgrow0)
  refine (limbs_in F _ hf36 hro _ _ _ _).mono ?_
  rintro e w' ⟨rfl, rfl⟩
  have hB1 : Below w.heap.size w w1 := hB0.grown hgrow0 (by simp) (fun _ h => by cases h)
  have bB : Boxed w1 w.heap.size 26 (.slice A' ys.length cap') := (Boxed.new w _ _).kept hgrow0 (by simp)
  have hsz := bB.lt
  have bO := Boxed.new w1 26 (.slice (some ⟨w.heap.size + 1, 0, none⟩) 0 (xs.length + 1))
  have bC := Boxed.new (w1.alloc (.cells #[.slice (some ⟨w.heap.size + 1, 0, none⟩) 0 (xs.length + 1)] 26)) 23 (.int .u64 0)
  have bN := Boxed.new ((w1.alloc (.cells #[.slice (some ⟨w.heap.size + 1, 0, none⟩) 0 (xs.length + 1)] 26)).alloc (.cells #[.int .u64 0] 23)) 26 (.slice A xs.length cap)
  simp only [World.size_alloc] at bC bN
  have hB3 : Below w.heap.size w (((w1.alloc (.cells #[.slice (some ⟨w.heap.size + 1, 0, none⟩) 0 (xs.length + 1)] 26)).alloc (.cells #[.int .u64 0] 23)).alloc (.cells #[.slice A xs.length cap] 26)) :=
    ((hB1.alloc (by omega) _).alloc (by simp; omega) _).alloc (by simp; omega) _
  rw [World.size_alloc] at hown0
  have hO := Lib.hid (((hown0.alloc (.cells #[.slice (some ⟨w.heap.size + 1, 0, none⟩) 0 (xs.length + 1)] 26)).alloc (.cells #[.int .u64 0] 23)).alloc (.cells #[.slice A xs.length cap] 26))
  have hBx := Lib.hid (((bB.alloc (.cells #[.slice (some ⟨w.heap.size + 1, 0, none⟩) 0 (xs.length + 1)] 26)).alloc (.cells #[.int .u64 0] 23)).alloc (.cells #[.slice A xs.length cap] 26))
  have hOx := Lib.hid ((bO.alloc (.cells #[.int .u64 0] 23)).alloc (.cells #[.slice A xs.length cap] 26))
  have hCx := Lib.hid (bC.alloc (.cells #[.slice A xs.length cap] 26))
  clear bB bO bC hown0 hgrow0
  gi_wp2_with fail
  refine wpIn_rangeFunc_ownG hro h1 (gf := 55) (lb := #[.pointer (some ⟨w1.heap.size + 2, 0, none⟩)]) rfl hf42 (enters_of Try.func55 (by kernel_rfl) rfl)
    (limbs_stops F (n - 1) hf42 hro (by omega) (w1.heap.size + 2) w.heap.size A cap xs (by unfold maxLen; omega) _ (by simp) (by simp; omega) bN.cell (hr.below hB3 (Nat.le_refl _))) belowK_t (belowK_b (by simp; omega)) (Below.refl _ _) (fun _ => rfl)
    (fun pre W => ((∃ v, Boxed W w1.heap.size 26 v ∧ W.ownsRow w.heap.size 28 1 v (addTo xs ys pre).2.length (u32s (addTo xs ys pre).2) ∧ True) ∧ Boxed W (w1.heap.size + 1) 23 (.int .u64 ((addTo xs ys pre).1 : Nat)) ∧ Boxed W w.heap.size 26 (.slice A' ys.length cap')) ∧ Below w.heap.size w W)
    (fun _ _ _ => False)
    (OwnFrom.and (OwnFrom.and (Own.from (holdsRow_own w.heap.size w1.heap.size 26 28 1 (fun pre => (addTo xs ys pre).2.length) (fun pre => u32s (addTo xs ys pre).2) (fun _ _ => True)) _)
      (OwnFrom.and (Own.from (boxed_own (w1.heap.size + 1) 23 (fun pre => .int .u64 ((addTo xs ys pre).1 : Nat))) _) (Own.from (boxed_own w.heap.size 26 (fun _ => .slice A' ys.length cap')) _)))
      (ownFrom_below (Nat.le_refl _) (by simp; omega)))
    (fun _ _ _ _ _ hs _ _ => hs)
    ⟨⟨⟨_, hOx.out, hO.out, trivial⟩, hCx.out, hBx.out⟩, hB3⟩
    ?a₁ ?assign ?body ?done ?stop
  case assign =>
    intro l x W K hK
    gi_wp2
    exact hK
  case body =>
    rintro l pre ⟨k, hk⟩ W ⟨⟨⟨v, hv, hrow, _⟩, hcar, hbb⟩, hB⟩ hlt
    have hA := Lib.hid (addTo_snoc xs ys pre ⟨k, hk⟩)
    have hok := addTo_ok hr.limbs hr'.limbs pre
    have hxk := hr.limbs.getD k
    have hyk := hr'.limbs.getD k
    unfold tells
    dsimp only
    generalize hcc : (addTo xs ys pre).1 = c at *
    generalize hoo : (addTo xs ys pre).2 = out at *
    generalize haa : xs[k]?.getD 0 = a at *
    have HC := Lib.hid hcc
    have HO := Lib.hid hoo
    have HX := Lib.hid haa
    clear hcc hoo haa
    have hc1 := hcar.cell
    have hc2 := hcar.frozen
    have hb1 := hbb.cell
    have hv1 := hv.cell
    have hv2 := hv.frozen
    obtain ⟨ok1, ok2, ok3⟩ := hok
    generalize hyy : ys[k]?.getD 0 = y at *
    have HY := Lib.hid hyy
    rcases Nat.lt_or_ge k ys.length with hky | hky
    · obtain ⟨b, off, rfl, hb0, hcell⟩ := hr'.2 (by omega)
      have hcl := (hB.cell (p := ⟨b, off + k, none⟩) hb0).trans (hcell k hky)
      rw [hyy] at hcl
      clear hyy hcell hx hy hr hr'
      have HOK := Lib.hid ok3
      have hol : out.length ≤ 65536 := by omega
      clear ok3
      have hn := Lib.hid (add_next hA.out HC.out HO.out HX.out HY.out)
      have e1 := Lib.hid (show (((a : Int) + y + c) % 4294967296 : Int) = (((a + y + c) % 4294967296 : Nat) : Int) from by omega)
      have e2 := Lib.hid (show (((a : Int) + y + c) / 4294967296 : Int) = (((a + y + c) / 4294967296 : Nat) : Int) from by omega)
      gi_wp2_with (gi_at_builtin; refine wpListIn_append_own _ rfl _ _ 26 rfl w.heap.size 28 i0 (.int .u32 0) 1 4 Try.underlying26 hi hz0 hz1 hz2 rfl (by decide) _ _ _ rfl (hrow.alloc _) ⟨W.heap.size, 0, none⟩ 1 1 [_] rfl rfl (cell_one_new _ _ _) (by simp [Value.oneCell']) (by unfold maxLen; omega) (by omega) (by have := hB.size; simp; omega) ?_; intro v' w2 hown' hgrow hgone; clear hgone; obtain ⟨g', cap', rfl⟩ := ownsRow_succ hown'; obtain ⟨b1, b2, b3⟩ := round_kept hv hrow hcar (by decide) (by decide) hB.size (by omega) (by omega) (by omega) hown' hgrow; have q1 := b1.cell; have q2 := b1.frozen; have q3 := b2.cell; have q4 := b2.frozen)
      refine ⟨(b3 _).1.from _, (b3 _).2.1, ⟨⟨⟨_, (b3 _).2.2.1, ?_, trivial⟩, ?_, round_box hbb hrow (by decide) (by omega) (by omega) hgrow⟩, hB.trans (b3 _).2.1⟩⟩
      · have h := (b3 (.int .u64 (((a : Int) + y + c) / 4294967296))).2.2.2.1
        rw [hn.out, u32s_snoc, ← e1.out]
        simpa using h
      · have h := (b3 (.int .u64 (((a : Int) + y + c) / 4294967296))).2.2.2.2
        rw [hn.out, ← e2.out]
        exact h
    · have hy0 : y ≤ 0 := by rw [← hyy, List.getElem?_eq_none hky]; exact Nat.le_refl _
      clear hyy hx hy hr hr'
      rcases Nat.lt_or_ge 0 c with hc0 | hc0
      · skip
        have HOK := Lib.hid ok3
        have hol : out.length ≤ 65536 := by omega
        clear ok3
        have hn := Lib.hid (add_next hA.out HC.out HO.out HX.out HY.out)
        have e1 := Lib.hid (show (((a : Int) + c) % 4294967296 : Int) = (((a + y + c) % 4294967296 : Nat) : Int) from by omega)
        have e2 := Lib.hid (show (((a : Int) + c) / 4294967296 : Int) = (((a + y + c) / 4294967296 : Nat) : Int) from by omega)
        gi_wp2_with (gi_at_builtin; refine wpListIn_append_own _ rfl _ _ 26 rfl w.heap.size 28 i0 (.int .u32 0) 1 4 Try.underlying26 hi hz0 hz1 hz2 rfl (by decide) _ _ _ rfl (hrow.alloc _) ⟨W.heap.size, 0, none⟩ 1 1 [_] rfl rfl (cell_one_new _ _ _) (by simp [Value.oneCell']) (by unfold maxLen; omega) (by omega) (by have := hB.size; simp; omega) ?_; intro v' w2 hown' hgrow hgone; clear hgone; obtain ⟨g', cap', rfl⟩ := ownsRow_succ hown'; obtain ⟨b1, b2, b3⟩ := round_kept hv hrow hcar (by decide) (by decide) hB.size (by omega) (by omega) (by omega) hown' hgrow; have q1 := b1.cell; have q2 := b1.frozen; have q3 := b2.cell; have q4 := b2.frozen)
        refine ⟨(b3 _).1.from _, (b3 _).2.1, ⟨⟨⟨_, (b3 _).2.2.1, ?_, trivial⟩, ?_, round_box hbb hrow (by decide) (by omega) (by omega) hgrow⟩, hB.trans (b3 _).2.1⟩⟩
        · have h := (b3 (.int .u64 (((a : Int) + c) / 4294967296))).2.2.2.1
          rw [hn.out, u32s_snoc, ← e1.out]
          simpa using h
        · have h := (b3 (.int .u64 (((a : Int) + c) / 4294967296))).2.2.2.2
          rw [hn.out, ← e2.out]
          exact h
      · skip
        have HOK := Lib.hid ok3
        have hol : out.length ≤ 65536 := by omega
        clear ok3
        have hn := Lib.hid (add_next hA.out HC.out HO.out HX.out HY.out)
        have e1 := Lib.hid (show ((a : Int)) = (((a + y + c) % 4294967296 : Nat) : Int) from by omega)
        have e2 := Lib.hid (show (((a : Int)) / 4294967296 : Int) = (((a + y + c) / 4294967296 : Nat) : Int) from by omega)
        gi_wp2_with (gi_at_builtin; refine wpListIn_append_own _ rfl _ _ 26 rfl w.heap.size 28 i0 (.int .u32 0) 1 4 Try.underlying26 hi hz0 hz1 hz2 rfl (by decide) _ _ _ rfl (hrow.alloc _) ⟨W.heap.size, 0, none⟩ 1 1 [_] rfl rfl (cell_one_new _ _ _) (by simp [Value.oneCell']) (by unfold maxLen; omega) (by omega) (by have := hB.size; simp; omega) ?_; intro v' w2 hown' hgrow hgone; clear hgone; obtain ⟨g', cap', rfl⟩ := ownsRow_succ hown'; obtain ⟨b1, b2, b3⟩ := round_kept hv hrow hcar (by decide) (by decide) hB.size (by omega) (by omega) (by omega) hown' hgrow; have q1 := b1.cell; have q2 := b1.frozen; have q3 := b2.cell; have q4 := b2.frozen)
        refine ⟨(b3 _).1.from _, (b3 _).2.1, ⟨⟨⟨_, (b3 _).2.2.1, ?_, trivial⟩, ?_, round_box hbb hrow (by decide) (by omega) (by omega) hgrow⟩, hB.trans (b3 _).2.1⟩⟩
        · have h := (b3 (.int .u64 (((a : Int)) / 4294967296))).2.2.2.1
          rw [hn.out, u32s_snoc, ← e1.out]
          simpa using h
        · have h := (b3 (.int .u64 (((a : Int)) / 4294967296))).2.2.2.2
          rw [hn.out, ← e2.out]
          exact h
  case done =>
    rintro D ys' W hD rfl ⟨⟨⟨v, hv, hrow, _⟩, hcar, _⟩, hB⟩ hK
    have hok := addTo_ok hr.limbs hr'.limbs (List.finRange xs.length)
    have hval := addTo_all (xs := xs) (ys := ys) hl
    generalize (addTo xs ys (List.finRange xs.length)).1 = c at *
    generalize (addTo xs ys (List.finRange xs.length)).2 = out at *
    obtain ⟨ok1, ok2, ok3⟩ := hok
    have hol : out.length ≤ 65536 := by rw [ok3]; simpa using hxm
    have HV := Lib.hid hval
    have hlz : Limbs (out ++ [c]) := ok2.append (Limbs.one (by omega))
    have hc1 := hcar.cell
    have hv1 := hv.cell
    clear ok3 hval hx hy
    gi_wp2_with (gi_at_builtin; refine wpListIn_append_own _ rfl _ _ 26 rfl w.heap.size 28 i0 (.int .u32 0) 1 4 Try.underlying26 hi hz0 hz1 hz2 rfl (by decide) _ _ _ rfl (hrow.alloc _) ⟨W.heap.size, 0, none⟩ 1 1 [_] rfl rfl (cell_one_new _ _ _) (by simp [Value.oneCell']) (by unfold maxLen; omega) (by omega) (by have := hB.size; simp; omega) ?_; intro v' w2 hown' hgrow hgone; clear hgone; obtain ⟨g', cap', rfl⟩ := ownsRow_succ hown')
    have hown2 : w2.ownsRow w.heap.size 28 1 (.slice (some ⟨g', 0, none⟩) (out.length + 1) cap') (out.length + 1) (u32s (out ++ [c])) := by rw [u32s_snoc]; exact hown'
    obtain ⟨hk2, hb2⟩ := appended_plain hrow hB.size hgrow
    have hK2 := hk2.same D _ hK rfl
    refine (wided hF (tidy_own hown2 hlz)).mono ?_
    rintro e w' ⟨⟨v', rfl, hv'⟩, hww⟩
    subst hww
    clear hown' hgrow hown2
    gi_wp2
    refine ⟨by simp, .inl ⟨_, _, rfl, run_takeDeferred hK2, ?_⟩⟩
    refine ⟨_, results_tmp rfl _ _ _, ⟨v', rfl, ?_⟩, (hB.trans hb2).trans (belowK_b (w := w) (Nat.le_refl _) _ D _ _ (by simp at hD; omega) hK2 rfl rfl)⟩
    rw [HV.out] at hv'
    exact ownsRow_putObj hv' _ hK2 rfl
  case stop =>
    rintro D c pre W _ _ h _
    exact h.elim


theorem rd_below_alloc {w : World} {A : Option Addr} {xs : List Nat} (h : Rd w w.heap.size A xs) (o : Obj) : Rd (w.alloc o) w.heap.size A xs := h.below ((Below.refl _ w).alloc (Nat.le_refl _) o) (Nat.le_refl _)

set_option maxHeartbeats 1000000 in
theorem add_any (A A' : Option Addr) (cap cap' : Nat) (xs ys : List Nat) (w : World) (hr : Rd w w.heap.size A xs) (hr' : Rd w w.heap.size A' ys) (hc : xs.length ≤ maxLen) (hc' : ys.length ≤ maxLen) :
    Calls Try.prog 16 #[.slice A xs.length cap, .slice A' ys.length cap'] w fun e w' => (∃ v, e = .returned v ∧ Own w' w.heap.size v (sAdd xs ys)) ∧ Below w.heap.size w w' := by
  by_cases hx : mayb xs = true
  · by_cases hy : mayb ys = true
    · rw [sAdd_yes (by simp [hx, hy])]
      refine (callsIn_wide (n := 8)).1 ?_
      rcases Nat.lt_or_ge xs.length ys.length with h | h
      · rw [Nat.add_comm]
        exact add_short Fence.wide 8 rfl rfl (by omega) A' A cap' cap ys xs w hr' hr hy hx h
      · exact add_long Fence.wide 8 rfl rfl (by omega) A A' cap cap' xs ys w hr hr' hx hy h
    · have hs := Lib.hid (sAdd_no (xs := xs) (ys := ys) (by simp [hy]))
      have c1 := may_yes cap (rd_below_alloc hr (.cells #[.slice A' ys.length cap'] 26)) hc hx
      have c2 := may_no cap' (rd_below_alloc hr' (.cells #[.slice A' ys.length cap'] 26)) hc' (by simpa using hy)
      clear hx hy hc hc'
      go_enter Try.func16, Try.ntmps16
      go_wp2_with fail
      refine c1.mono ?_
      rintro e w' ⟨rfl, rfl⟩
      go_wp2_with fail
      refine c2.mono ?_
      rintro e w' ⟨rfl, hw⟩
      subst hw
      clear c1 c2
      go_wp2
      go_ret
      exact ⟨⟨_, rfl, by rw [hs.out]; exact Own.nil _ _⟩, (Below.refl _ w).alloc (Nat.le_refl _) _⟩
  · have hs := Lib.hid (sAdd_no (xs := xs) (ys := ys) (by simp [hx]))
    have c1 := may_no cap (rd_below_alloc hr (.cells #[.slice A' ys.length cap'] 26)) hc (by simpa using hx)
    clear hx hc hc'
    go_enter Try.func16, Try.ntmps16
    go_wp2_with fail
    refine c1.mono ?_
    rintro e w' ⟨rfl, hw⟩
    subst hw
    clear c1
    go_wp2
    go_ret
    exact ⟨⟨_, rfl, by rw [hs.out]; exact Own.nil _ _⟩, (Below.refl _ w).alloc (Nat.le_refl _) _⟩

end Go.Proofs.Ytlfhpoffphljfaa

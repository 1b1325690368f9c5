/- Contract: Sub. -/
import Derived.Test.YtlfhpoffphljfaaNatF
namespace Go.Proofs.Ytlfhpoffphljfaa
open Go.RowKit Go.Shelf

attribute [local go_sem] Oper.semAt_some

def sSubOk (xs ys : List Nat) : Bool := mayb xs && (mayb ys && decide (val ys ≤ val xs))
def sSub (xs ys : List Nat) : List Nat := if sSubOk xs ys then lim (val xs - val ys) else []
theorem sSub_no {xs ys : List Nat} (h : sSubOk xs ys = false) : sSub xs ys = [] := by unfold sSub; rw [h]; rfl
theorem sSub_yes {xs ys : List Nat} (h : sSubOk xs ys = true) : sSub xs ys = lim (val xs - val ys) := by unfold sSub; rw [h]; rfl

/-! ### the rounds, as a fold -/
def subSum (xs ys : List Nat) (c k : Nat) : Nat := xs[k]?.getD 0 + 4294967296 - ys[k]?.getD 0 - c
def subStep (xs ys : List Nat) (st : Nat × List Nat) (j : Fin xs.length) : Nat × List Nat := (1 - subSum xs ys st.1 j.1 / 4294967296, st.2 ++ [subSum xs ys st.1 j.1 % 4294967296])
def subTo (xs ys : List Nat) (pre : List (Fin xs.length)) : Nat × List Nat := pre.foldl (subStep xs ys) (0, [])
theorem subTo_snoc (xs ys : List Nat) (pre : List (Fin xs.length)) (j : Fin xs.length) : subTo xs ys (pre ++ [j]) = subStep xs ys (subTo xs ys pre) j := by simp [subTo]
theorem subTo_from {xs ys : List Nat} : ∀ (pre : List (Fin xs.length)) (st : Nat × List Nat), st.1 ≤ 1 → Limbs st.2 →
    (pre.foldl (subStep xs ys) st).1 ≤ 1 ∧ Limbs (pre.foldl (subStep xs ys) st).2 ∧ (pre.foldl (subStep xs ys) st).2.length = st.2.length + pre.length
  | [], st, h, k => ⟨h, k, rfl⟩
  | j :: r, st, _, k => by
    have := subTo_from (ys := ys) r (subStep xs ys st j) (by unfold subStep; show 1 - _ ≤ 1; omega) (by unfold subStep; exact k.append (Limbs.one (Nat.mod_lt _ (by decide))))
    rw [List.foldl_cons]
    refine ⟨this.1, this.2.1, this.2.2.trans ?_⟩
    simp [subStep]
    omega
theorem subTo_ok (xs ys : List Nat) (pre : List (Fin xs.length)) : (subTo xs ys pre).1 ≤ 1 ∧ Limbs (subTo xs ys pre).2 ∧ (subTo xs ys pre).2.length = pre.length := by
  have := subTo_from (ys := ys) pre (0, []) (by simp) limbs_nil
  simpa [subTo] using this
theorem subTo_val {xs ys : List Nat} (hx : Limbs xs) (hy : Limbs ys) : ∀ {k : Nat} (hk : k ≤ xs.length), val (subTo xs ys (upTo k hk)).2 + val (ys.take k) = val (xs.take k) + 4294967296 ^ k * (subTo xs ys (upTo k hk)).1 ∧ (subTo xs ys (upTo k hk)).2.length = k ∧ (subTo xs ys (upTo k hk)).1 ≤ 1 := by
  intro k
  induction k with
  | zero => intro _; simp [subTo, upTo, val]
  | succ k ih =>
    intro hk
    obtain ⟨h1, h2, h3⟩ := ih (Nat.le_of_lt hk)
    have q1 := hx.getD k
    have q2 := hy.getD k
    rw [upTo_succ hk, subTo_snoc]
    generalize subTo xs ys (upTo k (Nat.le_of_lt hk)) = st at h1 h2 h3
    obtain ⟨c, out⟩ := st
    simp only [subStep] at h1 h2 h3 ⊢
    refine ⟨?_, by simp [h2], by omega⟩
    rw [val_snoc, h2, val_take_succ, val_take_succ]
    have hs : subSum xs ys c k = xs[k]?.getD 0 + 4294967296 - ys[k]?.getD 0 - c := rfl
    have hd : subSum xs ys c k % 4294967296 + ys[k]?.getD 0 + c = xs[k]?.getD 0 + 4294967296 * (1 - subSum xs ys c k / 4294967296) := by omega
    generalize subSum xs ys c k % 4294967296 = m at hd ⊢
    generalize 1 - subSum xs ys c k / 4294967296 = q at hd ⊢
    have := congrArg (4294967296 ^ k * ·) hd
    simp only [Nat.mul_add] at this
    rw [Nat.pow_succ, Nat.mul_assoc]
    omega
theorem subTo_all {xs ys : List Nat} (hx : Limbs xs) (hy : Limbs ys) (hl : ys.length ≤ xs.length) (hv : val ys ≤ val xs) : val (subTo xs ys (List.finRange xs.length)).2 = val xs - val ys := by
  obtain ⟨h1, h2, h3⟩ := subTo_val hx hy (Nat.le_refl xs.length)
  rw [upTo_all] at h1 h2 h3
  rw [List.take_of_length_le (Nat.le_refl _), List.take_of_length_le hl] at h1
  have hlt := val_lt (subTo_ok xs ys (List.finRange xs.length)).2.1
  rw [h2] at hlt
  generalize (subTo xs ys (List.finRange xs.length)).1 = c at *
  have : c = 0 ∨ c = 1 := by omega
  rcases this with rfl | rfl
  · omega
  · rw [Nat.mul_one] at h1; omega
theorem sub_next {xs ys : List Nat} {pre : List (Fin xs.length)} {k a y c : Nat} {out : List Nat} {hk : k < xs.length} (hA : subTo xs ys (pre ++ [⟨k, hk⟩]) = subStep xs ys (subTo xs ys pre) ⟨k, hk⟩)
    (h1 : (subTo xs ys pre).1 = c) (h2 : (subTo xs ys pre).2 = out) (h3 : xs[k]?.getD 0 = a) (h4 : ys[k]?.getD 0 = y) : subTo xs ys (pre ++ [⟨k, hk⟩]) = (1 - (a + 4294967296 - y - c) / 4294967296, out ++ [(a + 4294967296 - y - c) % 4294967296]) := by
  rw [hA]
  unfold subStep subSum
  rw [h1, h2, h3, h4]

theorem cell_one_at (W : World) (v : Value) (e : TypeId) (n : Nat) (h : n = W.heap.size) : ∀ j u, [v][j]? = some u → (W.alloc (.cells #[v] e)).cell? ((⟨n, 0, none⟩ : Addr).add j) = some u := by subst h; exact cell_one_new _ _ _

/-- An append into a boxed slice, another box beside it. -/
theorem appended_beside {W w2 : World} {n₀ Bo Bc : Nat} {t tc e : TypeId} {size k m : Nat} {v v' u : Value} {xs ys : List Value} {tmp : Obj}
    (hv : Boxed W Bo t v) (hrow : W.ownsRow n₀ e size v k xs) (hcar : Boxed W Bc tc u) (hte : t ≠ e) (htc : tc ≠ e) (hn₀ : n₀ ≤ W.heap.size) (ho : n₀ ≤ Bo) (hne : Bc ≠ Bo)
    (hown' : w2.ownsRow n₀ e size v' m ys) (hgrow : (W.alloc tmp).grownBy w2 v.ownBlock) :
    Boxed w2 Bo t v ∧ KeepsOthers W (w2.setCell ⟨Bo, 0, none⟩ v') ∧ Below n₀ W (w2.setCell ⟨Bo, 0, none⟩ v') ∧
      Boxed (w2.setCell ⟨Bo, 0, none⟩ v') Bo t v' ∧ (w2.setCell ⟨Bo, 0, none⟩ v').ownsRow n₀ e size v' m ys ∧ Boxed (w2.setCell ⟨Bo, 0, none⟩ v') Bc tc u := by
  obtain ⟨hv1, hv2, hr2, hk2, hb2⟩ := hv.appended hte hrow hn₀ ho hown' hgrow
  exact ⟨hv1, hk2, hb2, hv2, hr2, ((hcar.alloc tmp).kept hgrow (hcar.not_row htc hrow)).other hne v'⟩

set_option maxRecDepth 100000 in
set_option maxHeartbeats 4000000 in
theorem sub_loop (F : Fence) (n : Nat) (hF : Hid (F = Fence.wide)) (hro : F.round = none) (hn : 8 ≤ n) (A A' : Option Addr) (cap cap' : Nat) (xs ys : List Nat) (w : World) (hr : Rd w w.heap.size A xs) (hr' : Rd w w.heap.size A' ys)
    (hx : mayb xs = true) (hy : mayb ys = true) (hvv : val ys ≤ val xs) :
    CallsIn F n Try.prog 14 #[.slice A xs.length cap, .slice A' ys.length cap'] w fun e w' => (∃ v, e = .returned (.tuple #[v, .bool true]) ∧ Own w' w.heap.size v (lim (val xs - val ys))) ∧ Below w.heap.size w w' := by
  have h1 : 1 ≤ n := by omega
  have hxm := (mayb_iff.1 hx).1
  have hym := (mayb_iff.1 hy).1
  have hl : ys.length ≤ xs.length := by
    rcases Nat.lt_or_ge xs.length ys.length with h | h
    · have := val_lt_len hr.limbs (mayb_canon hr'.limbs hy) h
      omega
    · exact h
  have hs0 : (0 : Int) ≤ sCmp xs ys := by
    rw [sCmp_yes (by simp [hx, hy])]
    unfold cmpN
    rw [if_neg (by omega)]
    split <;> decide
  obtain ⟨i0, hi, hz0, hz1, hz2⟩ := info_parts info32
  have hB0 : Below w.heap.size w (w.alloc (.cells #[.slice A' ys.length cap'] 26)) := (Below.refl _ w).alloc (Nat.le_refl _) _
  have c1 := may_yes cap (hr.below hB0 (Nat.le_refl _)) (by unfold maxLen; omega) hx
  have c2 := may_yes cap' (hr'.below hB0 (Nat.le_refl _)) (by unfold maxLen; omega) hy
  have c3 := cmp_any A A' cap cap' xs ys _ _ (hr.below hB0 (Nat.le_refl _)) (hr'.below hB0 (Nat.le_refl _)) (by unfold maxLen; omega) (by unfold maxLen; omega)
  have hf22 := wide_fn hF 23
  have hf17 := wide_fn hF 18
  have hf36 := wide_fn hF 41
  have hf37 := wide_fn hF 42
  have hf42 := wide_fn hF 55
  have hfits : clip (val xs - val ys) = lim (val xs - val ys) := by
    refine clip_of (Nat.le_trans (lim_length_le.2 ?_) hxm)
    have := val_lt hr.limbs
    omega
  have HFT := Lib.hid hfits
  clear hfits
  refine callsIn_of_wp_marks Try.func14 rfl (wide_fn hF _) ?_ hro
  simp only [Try.ntmps14, List.size_toArray, List.length_cons, List.length_nil, Nat.reduceAdd, Nat.reduceSub, Array.replicate_succ, Array.replicate_zero, List.push_toArray, List.append_toArray, List.nil_append, List.cons_append]
  gi_wp2_with fail
  refine (wided hF c1).mono ?_
  rintro e w' ⟨rfl, rfl⟩
  gi_wp2_with fail
  refine (wided hF c2).mono ?_
  rintro e w' ⟨rfl, hw2⟩
  subst hw2
  gi_wp2_with fail
  refine (wided hF c3).mono ?_
  rintro e w' ⟨rfl, nq, hw3⟩
  subst hw3
  clear c1 c2 c3
  gi_wp2_with (gi_at_make; refine wpListIn_make_own _ rfl _ _ 26 rfl w.heap.size 28 i0 (.int .u32 0) 1 Try.underlying26 hi hz0 hz1 .i64 .i64 _ xs.length rfl rfl (by omega) (by rw [hz2]; omega) (by unfold maxLen; omega) (by simp) ?_; intro w1 hown0 hgrow0)
  refine (limbs_in F _ hf36 hro _ _ _ _).mono ?_
  rintro e w' ⟨rfl, rfl⟩
  have hB0' : Below w.heap.size w ((w.alloc (.cells #[.slice A' ys.length cap'] 26)).drewN nq) := ⟨hB0.os, hB0.tape, hB0.output, hB0.size, hB0.block⟩
  have hB1 : Below w.heap.size w w1 := hB0'.grown hgrow0 (by simp) (fun _ h => by cases h)
  have bB0 : Boxed ((w.alloc (.cells #[.slice A' ys.length cap'] 26)).drewN nq) w.heap.size 26 (.slice A' ys.length cap') := Boxed.new w _ _
  have bB : Boxed w1 w.heap.size 26 (.slice A' ys.length cap') := bB0.kept hgrow0 (by simp)
  have hsz := bB.lt
  have bO := Boxed.new w1 26 (.slice (some ⟨w.heap.size + 1, 0, none⟩) 0 xs.length)
  have bC := Boxed.new (w1.alloc (.cells #[.slice (some ⟨w.heap.size + 1, 0, none⟩) 0 xs.length] 26)) 2 (.int .i64 0)
  have bN := Boxed.new ((w1.alloc (.cells #[.slice (some ⟨w.heap.size + 1, 0, none⟩) 0 xs.length] 26)).alloc (.cells #[.int .i64 0] 2)) 26 (.slice A xs.length cap)
  simp only [World.size_alloc] at bC bN
  have hB3 : Below w.heap.size w (((w1.alloc (.cells #[.slice (some ⟨w.heap.size + 1, 0, none⟩) 0 xs.length] 26)).alloc (.cells #[.int .i64 0] 2)).alloc (.cells #[.slice A xs.length cap] 26)) :=
    ((hB1.alloc (by omega) _).alloc (by simp; omega) _).alloc (by simp; omega) _
  have hown00 : w1.ownsRow w.heap.size 28 1 (.slice (some ⟨w.heap.size + 1, 0, none⟩) 0 xs.length) 0 [] := by simpa using hown0
  have hO := Lib.hid (((hown00.alloc (.cells #[.slice (some ⟨w.heap.size + 1, 0, none⟩) 0 xs.length] 26)).alloc (.cells #[.int .i64 0] 2)).alloc (.cells #[.slice A xs.length cap] 26))
  have hBx := Lib.hid (((bB.alloc (.cells #[.slice (some ⟨w.heap.size + 1, 0, none⟩) 0 xs.length] 26)).alloc (.cells #[.int .i64 0] 2)).alloc (.cells #[.slice A xs.length cap] 26))
  have hOx := Lib.hid ((bO.alloc (.cells #[.int .i64 0] 2)).alloc (.cells #[.slice A xs.length cap] 26))
  have hCx := Lib.hid (bC.alloc (.cells #[.slice A xs.length cap] 26))
  clear bB0 bB bO bC hown0 hown00 hgrow0 hB0 hB0'
  gi_wp2_with fail
  refine wpIn_rangeFunc_ownG hro h1 (gf := 55) (lb := #[.pointer (some ⟨w1.heap.size + 2, 0, none⟩)]) rfl hf42 (enters_of Try.func55 (by kernel_rfl) rfl)
    (limbs_stops F (n - 1) hf42 hro (by omega) (w1.heap.size + 2) w.heap.size A cap xs (by unfold maxLen; omega) _ (by simp) (by simp; omega) bN.cell (hr.below hB3 (Nat.le_refl _))) belowK_t (belowK_b (by simp; omega)) (Below.refl _ _) (fun _ => rfl)
    (fun pre W => ((∃ v, Boxed W w1.heap.size 26 v ∧ W.ownsRow w.heap.size 28 1 v (subTo xs ys pre).2.length (u32s (subTo xs ys pre).2) ∧ True) ∧ Boxed W (w1.heap.size + 1) 2 (.int .i64 ((subTo xs ys pre).1 : Nat)) ∧ Boxed W w.heap.size 26 (.slice A' ys.length cap')) ∧ Below w.heap.size w W)
    (fun _ _ _ => False)
    (OwnFrom.and (OwnFrom.and (Own.from (holdsRow_own w.heap.size w1.heap.size 26 28 1 (fun pre => (subTo xs ys pre).2.length) (fun pre => u32s (subTo xs ys pre).2) (fun _ _ => True)) _)
      (OwnFrom.and (Own.from (boxed_own (w1.heap.size + 1) 2 (fun pre => .int .i64 ((subTo xs ys pre).1 : Nat))) _) (Own.from (boxed_own w.heap.size 26 (fun _ => .slice A' ys.length cap')) _)))
      (ownFrom_below (Nat.le_refl _) (by simp; omega)))
    (fun _ _ _ _ _ hs _ _ => hs)
    ⟨⟨⟨_, hOx.out, hO.out, trivial⟩, hCx.out, hBx.out⟩, hB3⟩
    ?a₁ ?assign ?body ?done ?stop
  case assign =>
    intro l x W K hK
    gi_wp2
    exact hK
  case body =>
    rintro l pre ⟨k, hk⟩ W ⟨⟨⟨v, hv, hrow, _⟩, hcar, hbb⟩, hB⟩ hlt
    have hA := Lib.hid (subTo_snoc xs ys pre ⟨k, hk⟩)
    have hok := subTo_ok xs ys pre
    have hxk := hr.limbs.getD k
    have hyk := hr'.limbs.getD k
    unfold tells
    dsimp only
    generalize hcc : (subTo xs ys pre).1 = c at *
    generalize hoo : (subTo xs ys pre).2 = out at *
    generalize haa : xs[k]?.getD 0 = a at *
    have HC := Lib.hid hcc
    have HO := Lib.hid hoo
    have HX := Lib.hid haa
    clear hcc hoo haa
    have hc1 := hcar.cell
    have hc2 := hcar.frozen
    have hb1 := hbb.cell
    have hv1 := hv.cell
    have hv2 := hv.frozen
    obtain ⟨ok1, ok2, ok3⟩ := hok
    generalize hyy : ys[k]?.getD 0 = y at *
    have HY := Lib.hid hyy
    have HOK := Lib.hid ok3
    have hol : out.length ≤ 65536 := by omega
    clear ok3
    have hn := Lib.hid (sub_next hA.out HC.out HO.out HX.out HY.out)
    -- the borrow's box is written first
    have hA1 := hcar.set (.int .i64 0)
    have hA2 := hA1.set (.int .i64 1)
    have hneB : w1.heap.size ≠ w1.heap.size + 1 := by omega
    have hV1 := hv.other hneB (.int .i64 0)
    have hV2 := hV1.other hneB (.int .i64 1)
    have hR1 := ownsRow_box hrow hcar (by decide) (.int .i64 0)
    have hR2 := ownsRow_box hR1 hA1 (by decide) (.int .i64 1)
    have hneW : w.heap.size ≠ w1.heap.size + 1 := by omega
    have hneW' : w.heap.size ≠ w1.heap.size := by omega
    have hBB1 := hbb.other hneW (.int .i64 0)
    have hBB2 := hBB1.other hneW (.int .i64 1)
    have hKB1 : Below w.heap.size W (W.setCell ⟨w1.heap.size + 1, 0, none⟩ (.int .i64 0)) := (Below.refl _ W).setCell (p := ⟨w1.heap.size + 1, 0, none⟩) (by simp; omega) _
    have hKB2 : Below w.heap.size W ((W.setCell ⟨w1.heap.size + 1, 0, none⟩ (.int .i64 0)).setCell ⟨w1.heap.size + 1, 0, none⟩ (.int .i64 1)) := hKB1.setCell (p := ⟨w1.heap.size + 1, 0, none⟩) (by simp; omega) _
    have hKO1 : KeepsOthers W (W.setCell ⟨w1.heap.size + 1, 0, none⟩ (.int .i64 0)) := KeepsOthers.setCell _ _ _
    have hKO2 : KeepsOthers W ((W.setCell ⟨w1.heap.size + 1, 0, none⟩ (.int .i64 0)).setCell ⟨w1.heap.size + 1, 0, none⟩ (.int .i64 1)) := hKO1.trans (KeepsOthers.setCell _ _ _)
    have f1 := hA1.cell
    have f2 := hA1.frozen
    have f3 := hA2.cell
    have f4 := hV1.cell
    have f5 := hV2.cell
    rcases Nat.lt_or_ge k ys.length with hky | hky
    · obtain ⟨b, off, rfl, hb0, hcell⟩ := hr'.2 (by omega)
      have hcl := (hB.cell (p := ⟨b, off + k, none⟩) hb0).trans (hcell k hky)
      rw [hyy] at hcl
      clear hyy hcell hx hy hr hr'
      rcases Nat.lt_or_ge a (y + c) with hneg | hneg
      · have e1 := Lib.hid (show (((a : Int) - y - c) + 4294967296 : Int) = (((a + 4294967296 - y - c) % 4294967296 : Nat) : Int) from by omega)
        have e2 := Lib.hid (show (1 : Int) = ((1 - (a + 4294967296 - y - c) / 4294967296 : Nat) : Int) from by omega)
        gi_wp2_with (gi_at_builtin; refine wpListIn_append_own _ rfl _ _ 26 rfl w.heap.size 28 i0 (.int .u32 0) 1 4 Try.underlying26 hi hz0 hz1 hz2 rfl (by decide) _ _ _ rfl (hR2.alloc _) ⟨W.heap.size, 0, none⟩ 1 1 [_] rfl rfl (cell_one_at _ _ _ _ (by simp)) (by simp [Value.oneCell']) (by unfold maxLen; omega) (by omega) (by have := hB.size; have := hKB2.size; simp only [World.size_alloc]; omega) ?_; intro v' w2 hown' hgrow hgone; clear hgone; obtain ⟨g', cap', rfl⟩ := ownsRow_succ hown'; obtain ⟨b1, bk, bb, bv2, br2, bc2⟩ := appended_beside hV2 hR2 hA2 (by decide) (by decide) (by have := hB.size; have := hKB2.size; omega) (by omega) (by omega) hown' hgrow; have q1 := b1.cell; have q2 := b1.frozen)
        refine ⟨(hKO2.trans bk).from _, hKB2.trans bb, ⟨⟨⟨_, bv2, ?_, trivial⟩, ?_, ((hBB2.alloc _).kept hgrow (hBB2.not_row (by decide) hR2)).other hneW' _⟩, hB.trans (hKB2.trans bb)⟩⟩
        · rw [hn.out, u32s_snoc, ← e1.out]
          simpa using br2
        · rw [hn.out, ← e2.out]
          exact bc2
      · have e1 := Lib.hid (show ((a : Int) - y - c : Int) = (((a + 4294967296 - y - c) % 4294967296 : Nat) : Int) from by omega)
        have e2 := Lib.hid (show (0 : Int) = ((1 - (a + 4294967296 - y - c) / 4294967296 : Nat) : Int) from by omega)
        gi_wp2_with (gi_at_builtin; refine wpListIn_append_own _ rfl _ _ 26 rfl w.heap.size 28 i0 (.int .u32 0) 1 4 Try.underlying26 hi hz0 hz1 hz2 rfl (by decide) _ _ _ rfl (hR1.alloc _) ⟨W.heap.size, 0, none⟩ 1 1 [_] rfl rfl (cell_one_at _ _ _ _ (by simp)) (by simp [Value.oneCell']) (by unfold maxLen; omega) (by omega) (by have := hB.size; have := hKB1.size; simp only [World.size_alloc]; omega) ?_; intro v' w2 hown' hgrow hgone; clear hgone; obtain ⟨g', cap', rfl⟩ := ownsRow_succ hown'; obtain ⟨b1, bk, bb, bv2, br2, bc2⟩ := appended_beside hV1 hR1 hA1 (by decide) (by decide) (by have := hB.size; have := hKB1.size; omega) (by omega) (by omega) hown' hgrow; have q1 := b1.cell; have q2 := b1.frozen)
        refine ⟨(hKO1.trans bk).from _, hKB1.trans bb, ⟨⟨⟨_, bv2, ?_, trivial⟩, ?_, ((hBB1.alloc _).kept hgrow (hBB1.not_row (by decide) hR1)).other hneW' _⟩, hB.trans (hKB1.trans bb)⟩⟩
        · rw [hn.out, u32s_snoc, ← e1.out]
          simpa using br2
        · rw [hn.out, ← e2.out]
          exact bc2
    · have hy0 : y ≤ 0 := by rw [← hyy, List.getElem?_eq_none hky]; exact Nat.le_refl _
      clear hyy hx hy hr hr'
      rcases Nat.lt_or_ge 0 c with hc0 | hc0
      · rcases Nat.lt_or_ge a c with hneg | hneg
        · have e1 := Lib.hid (show (((a : Int) - c) + 4294967296 : Int) = (((a + 4294967296 - y - c) % 4294967296 : Nat) : Int) from by omega)
          have e2 := Lib.hid (show (1 : Int) = ((1 - (a + 4294967296 - y - c) / 4294967296 : Nat) : Int) from by omega)
          gi_wp2_with (gi_at_builtin; refine wpListIn_append_own _ rfl _ _ 26 rfl w.heap.size 28 i0 (.int .u32 0) 1 4 Try.underlying26 hi hz0 hz1 hz2 rfl (by decide) _ _ _ rfl (hR2.alloc _) ⟨W.heap.size, 0, none⟩ 1 1 [_] rfl rfl (cell_one_at _ _ _ _ (by simp)) (by simp [Value.oneCell']) (by unfold maxLen; omega) (by omega) (by have := hB.size; have := hKB2.size; simp only [World.size_alloc]; omega) ?_; intro v' w2 hown' hgrow hgone; clear hgone; obtain ⟨g', cap', rfl⟩ := ownsRow_succ hown'; obtain ⟨b1, bk, bb, bv2, br2, bc2⟩ := appended_beside hV2 hR2 hA2 (by decide) (by decide) (by have := hB.size; have := hKB2.size; omega) (by omega) (by omega) hown' hgrow; have q1 := b1.cell; have q2 := b1.frozen)
          refine ⟨(hKO2.trans bk).from _, hKB2.trans bb, ⟨⟨⟨_, bv2, ?_, trivial⟩, ?_, ((hBB2.alloc _).kept hgrow (hBB2.not_row (by decide) hR2)).other hneW' _⟩, hB.trans (hKB2.trans bb)⟩⟩
          · rw [hn.out, u32s_snoc, ← e1.out]
            simpa using br2
          · rw [hn.out, ← e2.out]
            exact bc2
        · have e1 := Lib.hid (show ((a : Int) - c : Int) = (((a + 4294967296 - y - c) % 4294967296 : Nat) : Int) from by omega)
          have e2 := Lib.hid (show (0 : Int) = ((1 - (a + 4294967296 - y - c) / 4294967296 : Nat) : Int) from by omega)
          gi_wp2_with (gi_at_builtin; refine wpListIn_append_own _ rfl _ _ 26 rfl w.heap.size 28 i0 (.int .u32 0) 1 4 Try.underlying26 hi hz0 hz1 hz2 rfl (by decide) _ _ _ rfl (hR1.alloc _) ⟨W.heap.size, 0, none⟩ 1 1 [_] rfl rfl (cell_one_at _ _ _ _ (by simp)) (by simp [Value.oneCell']) (by unfold maxLen; omega) (by omega) (by have := hB.size; have := hKB1.size; simp only [World.size_alloc]; omega) ?_; intro v' w2 hown' hgrow hgone; clear hgone; obtain ⟨g', cap', rfl⟩ := ownsRow_succ hown'; obtain ⟨b1, bk, bb, bv2, br2, bc2⟩ := appended_beside hV1 hR1 hA1 (by decide) (by decide) (by have := hB.size; have := hKB1.size; omega) (by omega) (by omega) hown' hgrow; have q1 := b1.cell; have q2 := b1.frozen)
          refine ⟨(hKO1.trans bk).from _, hKB1.trans bb, ⟨⟨⟨_, bv2, ?_, trivial⟩, ?_, ((hBB1.alloc _).kept hgrow (hBB1.not_row (by decide) hR1)).other hneW' _⟩, hB.trans (hKB1.trans bb)⟩⟩
          · rw [hn.out, u32s_snoc, ← e1.out]
            simpa using br2
          · rw [hn.out, ← e2.out]
            exact bc2
      · have e1 := Lib.hid (show ((a : Int) : Int) = (((a + 4294967296 - y - c) % 4294967296 : Nat) : Int) from by omega)
        have e2 := Lib.hid (show (0 : Int) = ((1 - (a + 4294967296 - y - c) / 4294967296 : Nat) : Int) from by omega)
        gi_wp2_with (gi_at_builtin; refine wpListIn_append_own _ rfl _ _ 26 rfl w.heap.size 28 i0 (.int .u32 0) 1 4 Try.underlying26 hi hz0 hz1 hz2 rfl (by decide) _ _ _ rfl (hR1.alloc _) ⟨W.heap.size, 0, none⟩ 1 1 [_] rfl rfl (cell_one_at _ _ _ _ (by simp)) (by simp [Value.oneCell']) (by unfold maxLen; omega) (by omega) (by have := hB.size; have := hKB1.size; simp only [World.size_alloc]; omega) ?_; intro v' w2 hown' hgrow hgone; clear hgone; obtain ⟨g', cap', rfl⟩ := ownsRow_succ hown'; obtain ⟨b1, bk, bb, bv2, br2, bc2⟩ := appended_beside hV1 hR1 hA1 (by decide) (by decide) (by have := hB.size; have := hKB1.size; omega) (by omega) (by omega) hown' hgrow; have q1 := b1.cell; have q2 := b1.frozen)
        refine ⟨(hKO1.trans bk).from _, hKB1.trans bb, ⟨⟨⟨_, bv2, ?_, trivial⟩, ?_, ((hBB1.alloc _).kept hgrow (hBB1.not_row (by decide) hR1)).other hneW' _⟩, hB.trans (hKB1.trans bb)⟩⟩
        · rw [hn.out, u32s_snoc, ← e1.out]
          simpa using br2
        · rw [hn.out, ← e2.out]
          exact bc2
  case done =>
    rintro D ys' W hD rfl ⟨⟨⟨v, hv, hrow, _⟩, _, _⟩, hB⟩ hK
    have hok := subTo_ok xs ys (List.finRange xs.length)
    have hval := subTo_all hr.limbs hr'.limbs hl hvv
    generalize (subTo xs ys (List.finRange xs.length)).2 = out at *
    obtain ⟨_, ok2, ok3⟩ := hok
    have HV := Lib.hid hval
    have hv1 := hv.cell
    have hvs : ∃ A' cap', v = .slice A' out.length cap' := by
      rcases hrow.2 with ⟨rfl, h0⟩ | ⟨g, cap, cur, rfl, _⟩
      · exact ⟨none, 0, by rw [h0]⟩
      · exact ⟨_, cap, rfl⟩
    obtain ⟨Av, capv, rfl⟩ := hvs
    have ct := tidy_own hrow ok2
    clear ok3 hval hx hy
    gi_wp2_with fail
    refine (wided hF ct).mono ?_
    rintro e w' ⟨⟨v', rfl, hv'⟩, hww⟩
    subst hww
    rw [HV.out, HFT.out] at hv'
    have HO' := Lib.hid (ownsRow_putObj hv' (.deferred none) hK rfl)
    have HB' := Lib.hid (hB.trans (belowK_b (w := w) (Nat.le_refl _) _ D _ (.deferred none) (by simp at hD; omega) hK rfl rfl))
    clear hv' ct hrow hv hv1
    gi_wp2
    refine ⟨by simp, .inl ⟨_, _, rfl, run_takeDeferred hK, ?_⟩⟩
    exact ⟨_, results_tmp2 rfl _ _ _, ⟨v', rfl, HO'.out⟩, HB'.out⟩
  case stop =>
    rintro D c pre W _ _ h _
    exact h.elim

end Go.Proofs.Ytlfhpoffphljfaa

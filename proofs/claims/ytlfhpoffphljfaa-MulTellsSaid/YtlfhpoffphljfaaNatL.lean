/- Contract: Shr. -/
import Derived.Test.YtlfhpoffphljfaaNatK
namespace Go.Proofs.Ytlfhpoffphljfaa
open Go.RowKit Go.Shelf

attribute [local go_sem] Oper.semAt_some

set_option maxRecDepth 100000 in
set_option maxHeartbeats 4000000 in
theorem shr_loop (F : Fence) (n : Nat) (hF : Hid (F = Fence.wide)) (hro : F.round = none) (hn : 8 ≤ n) (A : Option Addr) (cap : Nat) (xs : List Nat) (k : Nat) (w : World) (hr : Rd w w.heap.size A xs) (hlc : xs.length ≤ cap) (_hcm : cap ≤ maxLen)
    (hk : k < sBits xs) :
    CallsIn F n Try.prog 20 #[.slice A xs.length cap, .int .i64 (k : Int)] w fun e w' => (∃ v, e = .returned v ∧ Own w' w.heap.size v (lim (val xs / 2 ^ k))) ∧ Below w.heap.size w w' := by
  have h1 : 1 ≤ n := by omega
  have hx := sBits_may (xs := xs) (by omega)
  have hxm := (mayb_iff.1 hx).1
  have hq := sBits_le hr.limbs
  have hb := sBits_le' hr.limbs
  have hlk : k / 32 < xs.length := by omega
  obtain ⟨i0, hi, hz0, hz1, hz2⟩ := info_parts info32
  have hB0 : Below w.heap.size w (w.alloc (.cells #[.int .i64 (k : Int)] 3)) := (Below.refl _ w).alloc (Nat.le_refl _) _
  have c2 := fun nn => bits_any A cap xs _ _ ((hr.below hB0 (Nat.le_refl _)).drewN nn) (by unfold maxLen; omega)
  have HC2 := Lib.hid c2
  clear c2
  unfold maxLen at _hcm
  obtain ⟨b, off, rfl, hbw, hcell⟩ := hr.2 (by omega)
  -- what is kept
  have hrk : Rd w w.heap.size (some ⟨b, off + k / 32, none⟩) (xs.drop (k / 32)) := ⟨hr.limbs.drop _, fun _ => ⟨b, off + k / 32, rfl, hbw, fun j hj => by
    have := hcell (k / 32 + j) (by simp at hj; omega)
    rw [List.getElem?_drop, Nat.add_assoc, this]⟩⟩
  have HRK := Lib.hid hrk
  have hlen : (xs.drop (k / 32)).length = xs.length - k / 32 := List.length_drop
  have HLEN := Lib.hid hlen
  have hf36 := wide_fn hF 41
  have hf37 := wide_fn hF 42
  have hf42 := wide_fn hF 55
  have hk0 : decide ((k : Int) < 0) = false := decide_eq_false (by omega)
  have hk1 : decide (sBits xs ≤ k) = false := decide_eq_false (by omega)
  clear hcell hrk hlen
  refine callsIn_of_wp_marks Try.func20 rfl (wide_fn hF _) ?_ hro
  simp only [Try.ntmps20, List.size_toArray, List.length_cons, List.length_nil, Nat.reduceAdd, Nat.reduceSub, Array.replicate_succ, Array.replicate_zero, List.push_toArray, List.append_toArray, List.nil_append, List.cons_append]
  gi_wp2_with fail
  refine wpIn_of_wide hF ?_
  go_quiet (((go_at_call 21; exact Calls.quiet_of_same (HC2.out _))))
  obtain ⟨wB, hwB⟩ : ∃ wB, (w.alloc (.cells #[.int .i64 (k : Int)] 3)).drewN nq = wB := ⟨_, rfl⟩
  have hBB : Below w.heap.size w wB := by rw [← hwB]; exact ⟨hB0.os, hB0.tape, hB0.output, hB0.size, hB0.block⟩
  have bK : Boxed wB w.heap.size 3 (.int .i64 (k : Int)) := by rw [← hwB]; exact Boxed.new w _ _
  have hszB : Hid (wB.heap.size = w.heap.size + 1) := by rw [← hwB]; exact World.size_alloc _ _
  have hkc := bK.cell
  rw [hwB]
  clear hwB HC2 hB0
  obtain ⟨m, hm⟩ : ∃ m, xs.length - k / 32 = m := ⟨_, rfl⟩
  have hm1 : m ≤ 65536 := by omega
  have hm0 : 0 < m := by omega
  have HM := Lib.hid hm
  gi_wp2_with (gi_at_make; (simp only [HM.out]); refine wpListIn_make_own _ rfl _ _ 26 rfl w.heap.size 28 i0 (.int .u32 0) 1 Try.underlying26 hi hz0 hz1 .i64 .i64 _ m rfl rfl rfl (by rw [hz2]; omega) (by unfold maxLen; omega) hBB.size ?_; intro w1 hown0 hgrow0)
  refine (limbs_in F _ hf36 hro _ _ _ _).mono ?_
  rintro e w' ⟨rfl, rfl⟩
  have hB1 : Below w.heap.size w w1 := hBB.grown hgrow0 hBB.size (fun _ h => by cases h)
  have bK1 : Boxed w1 w.heap.size 3 (.int .i64 (k : Int)) := bK.kept hgrow0 (by simp)
  have hsz := bK1.lt
  have bO := Boxed.new w1 26 (.slice (some ⟨wB.heap.size, 0, none⟩) 0 m)
  have bN := Boxed.new (w1.alloc (.cells #[.slice (some ⟨wB.heap.size, 0, none⟩) 0 m] 26)) 26 (.slice (some ⟨b, off + k / 32, none⟩) m (cap - k / 32))
  simp only [World.size_alloc] at bN
  have hB3 : Below w.heap.size w ((w1.alloc (.cells #[.slice (some ⟨wB.heap.size, 0, none⟩) 0 m] 26)).alloc (.cells #[.slice (some ⟨b, off + k / 32, none⟩) m (cap - k / 32)] 26)) :=
    (hB1.alloc (by omega) _).alloc (by simp; omega) _
  have hO := Lib.hid ((hown0.alloc (.cells #[.slice (some ⟨wB.heap.size, 0, none⟩) 0 m] 26)).alloc (.cells #[.slice (some ⟨b, off + k / 32, none⟩) m (cap - k / 32)] 26))
  have hKx := Lib.hid ((bK1.alloc (.cells #[.slice (some ⟨wB.heap.size, 0, none⟩) 0 m] 26)).alloc (.cells #[.slice (some ⟨b, off + k / 32, none⟩) m (cap - k / 32)] 26))
  have hOx := Lib.hid (bO.alloc (.cells #[.slice (some ⟨b, off + k / 32, none⟩) m (cap - k / 32)] 26))
  clear bK1 bO hown0 hgrow0 bK hkc
  obtain ⟨ys, hys⟩ : ∃ ys, xs.drop (k / 32) = ys := ⟨_, rfl⟩
  have hyl : ys.length = m := by rw [← hys, HLEN.out, hm]
  have HYS := Lib.hid hys
  have hrk : Rd w w.heap.size (some ⟨b, off + k / 32, none⟩) ys := by rw [← hys]; exact HRK.out
  have HYL := Lib.hid hyl
  have hbn : ((w1.alloc (.cells #[.slice (some ⟨wB.heap.size, 0, none⟩) 0 m] 26)).alloc (.cells #[.slice (some ⟨b, off + k / 32, none⟩) m (cap - k / 32)] 26)).cell? ⟨w1.heap.size + 1, 0, none⟩ = some (.slice (some ⟨b, off + k / 32, none⟩) ys.length (cap - k / 32)) := by rw [hyl]; exact bN.cell
  clear hm hys hyl HRK HLEN bN
  gi_wp2_with fail
  refine range_at hro h1 (gf := 55) (lb := #[.pointer (some ⟨w1.heap.size + 1, 0, none⟩)]) rfl hf42 (enters_of Try.func55 (by kernel_rfl) rfl)
    (limbs_at F (n - 1) hf42 hro (by omega) (w1.heap.size + 1) w.heap.size _ (cap - k / 32) ys (by rw [HYL.out]; unfold maxLen; omega) _ (by simp) (by simp; omega) hbn (hrk.below hB3 (Nat.le_refl _))) (Below.refl _ _) (fun _ => rfl) (by simp; omega)
    (fun i W => ((∃ out, (∃ v, Boxed W w1.heap.size 26 v ∧ W.ownsRow w.heap.size 28 1 v out.length (u32s out) ∧ True) ∧ ShrOk ys (k % 32) i out) ∧ Boxed W w.heap.size 3 (.int .i64 (k : Int))) ∧ Below w.heap.size w W)
    (OwnFrom.and (OwnFrom.and (fun s X Y row ⟨out, h, ho⟩ hg hrw => ⟨out, (Own.from (holdsRow_own (β := Unit) w.heap.size w1.heap.size 26 28 1 (fun _ => out.length) (fun _ => u32s out) (fun _ _ => True)) _) () X Y row h hg hrw, ho⟩)
      (Own.from (boxed_own w.heap.size 3 (fun _ => .int .i64 (k : Int))) _))
      (ownFrom_below (Nat.le_refl _) (by simp; omega)))
    ⟨⟨⟨[], ⟨_, hOx.out, hO.out, trivial⟩, shr_zero ys _⟩, hKx.out⟩, hB3⟩
    ?a₁ ?assign ?body ?done
  case assign =>
    intro l x W K hK
    gi_wp2
    exact hK
  case body =>
    rintro l i W ⟨⟨⟨out, ⟨v, hv, hrow, _⟩, hok⟩, hbb⟩, hB⟩ hlt
    rw [HYL.out] at hlt
    have hyk := hrk.limbs.getD i
    unfold tellAt
    generalize hyy : ys[i]?.getD 0 = y at *
    have HY := Lib.hid hyy
    have hb1 := hbb.cell
    have hv1 := hv.cell
    have hv2 := hv.frozen
    clear hyy
    have hrl : k % 32 < 32 := by omega
    have hzz : y * 2 ^ (32 - k % 32) ≤ 18446744073709551615 := by
      have h2 : (2 : Nat) ^ (32 - k % 32) ≤ 2 ^ 32 := Nat.pow_le_pow_right (by decide) (by omega)
      have := Nat.mul_le_mul (show y ≤ 4294967295 from by omega) h2
      omega
    have hcast : (y : Int) * 2 ^ (32 - k % 32) = ((y * 2 ^ (32 - k % 32) : Nat) : Int) := by simp
    have hhi := Lib.hid (shr_hi (y := y) hrl)
    generalize hze : y * 2 ^ (32 - k % 32) = z at *
    have HZ := Lib.hid hze
    have t4 : IntKind.u64.wrap ((y : Int) * 2 ^ (32 - k % 32)) = (z : Int) := by rw [hcast]; exact IntWalk.u64_in _ (by omega)
    clear hze hcast
    rcases Nat.eq_zero_or_pos i with hi0 | hi0
    · subst hi0
      have ho0 : out = [] := List.eq_nil_of_length_eq_zero hok.2.1
      subst ho0
      replace hrow : W.ownsRow w.heap.size 28 1 v 0 [] := hrow
      gi_wp2_with (gi_at_builtin; refine wpListIn_append_own _ rfl _ _ 26 rfl w.heap.size 28 i0 (.int .u32 0) 1 4 Try.underlying26 hi hz0 hz1 hz2 rfl (by decide) _ _ _ rfl (hrow.alloc _) ⟨W.heap.size, 0, none⟩ 1 1 [_] rfl rfl (cell_one_new _ _ _) (by simp [Value.oneCell']) (by unfold maxLen; omega) (by omega) (by have := hB.size; simp; omega) ?_; intro v' w2 hown' hgrow hgone; clear hgone; obtain ⟨g', cap', rfl⟩ := ownsRow_succ hown'; obtain ⟨b1, b2, b3, b4, b5⟩ := hv.appended (by decide) hrow hB.size (by omega) hown' hgrow; have q1 := b1.cell; have q2 := b1.frozen)
      refine ⟨rfl, b4.from _, b5, ⟨⟨[y / 2 ^ (k % 32)], ⟨_, b2, ?_, trivial⟩, ?_⟩, (hbb.alloc _).kept hgrow (hbb.not_row (by decide) hrow) |>.other (by omega) _⟩, hB.trans b5⟩
      · rw [← hhi.out]
        simpa [u32s, lv] using b3
      · have := shr_first (ys := ys) hrl hrk.limbs
        rw [HY.out] at this
        exact this
    · obtain ⟨t, rfl⟩ : ∃ t, i = t + 1 := ⟨i - 1, by omega⟩
      have hol := hok.2.1
      obtain ⟨g, capv, rfl⟩ : ∃ g capv, v = .slice (some ⟨g, 0, none⟩) out.length capv := by
        rcases hrow.2 with ⟨_, h0⟩ | ⟨g, capv, cur, rfl, _⟩
        · omega
        · exact ⟨g, capv, rfl⟩
      have hgS : w.heap.size ≤ g := by
        rcases hrow.2 with ⟨h0, _⟩ | ⟨g', capv', cur, h0, hg, _⟩
        · cases h0
        · cases h0; exact hg
      have hcl : W.cell? ⟨g, t, none⟩ = some (.int .u32 ((out[t]?.getD 0 : Nat) : Int)) := by
        rw [hrow.cellAt t (by omega), u32s, List.getElem?_map, List.getElem?_eq_getElem (by omega)]
        rfl
      have hfz := hrow.frozenAt t
      have hfit := hok.2.2.2 (by omega)
      rw [Nat.add_sub_cancel] at hfit
      have hfits := shr_fits (y := y) hrl hfit
      rw [HZ.out] at hfits
      generalize htt : out[t]?.getD 0 = tt at *
      have HTT := Lib.hid htt
      have hst := hrow.stored t (.int .u32 ((tt : Int) + (z : Int) % 4294967296))
      have hR1 := hst.1
      have hV1 := hv.kept hst.2 (hv.not_row (by decide) hrow)
      have hK1 := hbb.kept hst.2 (hbb.not_row (by decide) hrow)
      have hko : KeepsOthers W (W.setCell ⟨g, t, none⟩ (.int .u32 ((tt : Int) + (z : Int) % 4294967296))) := KeepsOthers.setCell _ _ _
      have hb0 : Below w.heap.size W (W.setCell ⟨g, t, none⟩ (.int .u32 ((tt : Int) + (z : Int) % 4294967296))) := (Below.refl _ W).setCell (p := ⟨g, t, none⟩) hgS _
      have hv1' := hV1.cell
      have HOL := Lib.hid hol
      have hol2 : out.length ≤ 65536 := by omega
      have e32 : Hid ((tt : Int) + (z : Int) % 4294967296 = ((tt + z % 4294967296 : Nat) : Int)) := by show _ = _; omega
      have hti : ((t + 1 : Nat) : Int) - 1 = (t : Int) := by omega
      have htl : t < out.length := by omega
      clear hol htt hst hfit
      gi_wp2_with (gi_at_builtin; refine wpListIn_append_own _ rfl _ _ 26 rfl w.heap.size 28 i0 (.int .u32 0) 1 4 Try.underlying26 hi hz0 hz1 hz2 rfl (by decide) _ _ _ rfl (hR1.alloc _) ⟨W.heap.size, 0, none⟩ 1 1 [_] rfl rfl (cell_one_at _ _ _ _ (by simp)) (by simp [Value.oneCell']) (by unfold maxLen; omega) (by omega) (by have := hB.size; have := hb0.size; simp only [World.size_alloc]; omega) ?_; intro v' w2 hown' hgrow hgone; clear hgone; obtain ⟨g', cap', rfl⟩ := ownsRow_succ hown'; obtain ⟨b1, b2, b3, b4, b5⟩ := hV1.appended (by decide) hR1 (by have := hB.size; have := hb0.size; omega) (by omega) hown' hgrow; have q1 := b1.cell; have q2 := b1.frozen)
      refine ⟨rfl, (hko.trans b4).from _, hb0.trans b5, ⟨⟨out.set t (tt + z % 4294967296) ++ [y / 2 ^ (k % 32)], ⟨_, b2, ?_, trivial⟩, ?_⟩, (hK1.alloc _).kept hgrow (hK1.not_row (by decide) hR1) |>.other (by omega) _⟩, hB.trans (hb0.trans b5)⟩
      · rw [e32.out] at b3
        rw [← hhi.out]
        simpa [u32s, lv, List.map_set] using b3
      · have := shr_next hrl hok HY.out (by omega) HTT.out
        rw [HZ.out] at this
        exact this
  case done =>
    rintro D W hD ⟨⟨⟨out, ⟨v, hv, hrow, _⟩, hok⟩, _⟩, hB⟩ hK
    have hval := shr_all hr.limbs (k := k) (by omega) (out := out) (by rw [HYS.out]; exact hok)
    have HV := Lib.hid hval
    have hv1 := hv.cell
    obtain ⟨Av, capv, rfl⟩ : ∃ A' cap', v = .slice A' out.length cap' := by
      rcases hrow.2 with ⟨rfl, h0⟩ | ⟨g, cap, cur, rfl, _⟩
      · exact ⟨none, 0, by rw [h0]⟩
      · exact ⟨_, cap, rfl⟩
    have ct := tidy_own hrow hok.1
    have hfits : clip (val xs / 2 ^ k) = lim (val xs / 2 ^ k) := by
      refine clip_of (Nat.le_trans (lim_length_le.2 ?_) hxm)
      exact Nat.lt_of_le_of_lt (Nat.div_le_self _ _) (val_lt hr.limbs)
    have HFT := Lib.hid hfits
    clear hval hx hok hk0 hk1 hfits
    gi_wp2_with fail
    refine (wided hF ct).mono ?_
    rintro e w' ⟨⟨v', rfl, hv'⟩, hww⟩
    subst hww
    rw [HV.out, HFT.out] at hv'
    have HO' := Lib.hid (ownsRow_putObj hv' (.deferred none) hK rfl)
    have HB' := Lib.hid (hB.trans (belowK_b (w := w) (Nat.le_refl _) _ D _ (.deferred none) (by simp at hD; omega) hK rfl rfl))
    clear hv' ct hrow hv hv1
    gi_wp2
    refine ⟨by simp, .inl ⟨_, _, rfl, run_takeDeferred hK, ?_⟩⟩
    exact ⟨_, results_tmp rfl _ _ _, ⟨v', rfl, HO'.out⟩, HB'.out⟩

end Go.Proofs.Ytlfhpoffphljfaa

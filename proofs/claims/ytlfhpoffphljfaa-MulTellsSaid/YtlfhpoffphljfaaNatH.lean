/- Contracts: Sub, Low. -/
import Derived.BigRegionIn
import Derived.Test.YtlfhpoffphljfaaNatG
namespace Go.Proofs.Ytlfhpoffphljfaa
open Go.RowKit Go.Shelf

attribute [local go_sem] Oper.semAt_some

set_option maxHeartbeats 1000000 in
theorem sub_any (A A' : Option Addr) (cap cap' : Nat) (xs ys : List Nat) (w : World) (hr : Rd w w.heap.size A xs) (hr' : Rd w w.heap.size A' ys) (hc : xs.length ≤ maxLen) (hc' : ys.length ≤ maxLen) :
    Calls Try.prog 14 #[.slice A xs.length cap, .slice A' ys.length cap'] w fun e w' => (∃ v, e = .returned (.tuple #[v, .bool (sSubOk xs ys)]) ∧ Own w' w.heap.size v (sSub xs ys)) ∧ Below w.heap.size w w' := by
  have r1 := rd_below_alloc hr (.cells #[.slice A' ys.length cap'] 26)
  have r2 := rd_below_alloc hr' (.cells #[.slice A' ys.length cap'] 26)
  by_cases hx : mayb xs = true
  · by_cases hy : mayb ys = true
    · rcases Nat.lt_or_ge (val xs) (val ys) with h | h
      · have hok : sSubOk xs ys = false := by unfold sSubOk; simp [hx, hy]; omega
        have hs := Lib.hid (sSub_no hok)
        have hcm : sCmp xs ys = -1 := by rw [sCmp_yes (by simp [hx, hy]), cmpN_lt h]
        have c1 := may_yes cap r1 hc hx
        have c2 := may_yes cap' r2 hc' hy
        have c3 := cmp_any A A' cap cap' xs ys _ _ r1 r2 hc hc'
        rw [hcm] at c3
        rw [hok]
        clear hx hy hc hc' hok hcm r1 r2
        go_enter Try.func14, Try.ntmps14
        go_wp2_with fail
        refine c1.mono ?_
        rintro e w' ⟨rfl, rfl⟩
        go_wp2_with fail
        refine c2.mono ?_
        rintro e w' ⟨rfl, hw⟩
        subst hw
        go_wp2_with fail
        refine c3.mono ?_
        rintro e w' ⟨rfl, nq, hw⟩
        subst hw
        clear c1 c2 c3
        go_wp2
        go_ret2
        have hB := (Below.refl w.heap.size w).alloc (Nat.le_refl _) (.cells #[.slice A' ys.length cap'] 26)
        exact ⟨⟨_, rfl, by rw [hs.out]; exact Own.nil _ _⟩, ⟨hB.os, hB.tape, hB.output, hB.size, hB.block⟩⟩
      · have hok : sSubOk xs ys = true := by unfold sSubOk; simp [hx, hy, h]
        rw [sSub_yes hok, hok]
        exact (callsIn_wide (n := 8)).1 (sub_loop Fence.wide 8 rfl rfl (by omega) A A' cap cap' xs ys w hr hr' hx hy h)
    · have hok : sSubOk xs ys = false := by unfold sSubOk; simp [hy]
      have hs := Lib.hid (sSub_no hok)
      have c1 := may_yes cap r1 hc hx
      have c2 := may_no cap' r2 hc' (by simpa using hy)
      rw [hok]
      clear hx hy hc hc' hok r1 r2
      go_enter Try.func14, Try.ntmps14
      go_wp2_with fail
      refine c1.mono ?_
      rintro e w' ⟨rfl, rfl⟩
      go_wp2_with fail
      refine c2.mono ?_
      rintro e w' ⟨rfl, hw⟩
      subst hw
      clear c1 c2
      go_wp2
      go_ret2
      exact ⟨⟨_, rfl, by rw [hs.out]; exact Own.nil _ _⟩, (Below.refl _ w).alloc (Nat.le_refl _) _⟩
  · have hok : sSubOk xs ys = false := by unfold sSubOk; simp [hx]
    have hs := Lib.hid (sSub_no hok)
    have c1 := may_no cap r1 hc (by simpa using hx)
    rw [hok]
    clear hx hc hc' hok r1 r2
    go_enter Try.func14, Try.ntmps14
    go_wp2_with fail
    refine c1.mono ?_
    rintro e w' ⟨rfl, hw⟩
    subst hw
    clear c1
    go_wp2
    go_ret2
    exact ⟨⟨_, rfl, by rw [hs.out]; exact Own.nil _ _⟩, (Below.refl _ w).alloc (Nat.le_refl _) _⟩

/-! ### Low -/
def sLowOk (xs : List Nat) : Bool := mayb xs && decide (xs.length ≤ 2)
def sLow (xs : List Nat) : Nat := if sLowOk xs then val xs else 0
theorem sLow_no {xs : List Nat} (h : sLowOk xs = false) : sLow xs = 0 := by unfold sLow; rw [h]; rfl
theorem sLow_yes {xs : List Nat} (h : sLowOk xs = true) : sLow xs = val xs := by unfold sLow; rw [h]; rfl

/-- the rounds: what u is; whatever order places come in -/
def lowStep (xs : List Nat) (u : Nat) (j : Fin xs.length) : Nat := u ||| xs[j.1]?.getD 0 * 2 ^ (32 * j.1) % 18446744073709551616
def lowTo (xs : List Nat) (pre : List (Fin xs.length)) : Nat := pre.foldl (lowStep xs) 0
theorem lowTo_snoc (xs : List Nat) (pre : List (Fin xs.length)) (j : Fin xs.length) : lowTo xs (pre ++ [j]) = lowStep xs (lowTo xs pre) j := by simp [lowTo]
theorem low_0 {xs : List Nat} {pre : List (Fin xs.length)} {c a : Nat} {hk : 0 < xs.length} (hA : lowTo xs (pre ++ [⟨0, hk⟩]) = lowStep xs c ⟨0, hk⟩) (hX : xs[0]?.getD 0 = a) (hc : c < 18446744073709551616) (ha : a < 18446744073709551616) :
    bits BinOp.or IntKind.u64 (c : Int) (a : Int) = ((lowTo xs (pre ++ [⟨0, hk⟩]) : Nat) : Int) := by
  rw [u64_or_nat c a hc ha, hA]
  unfold lowStep
  simp only [hX, Nat.mul_zero, Nat.pow_zero, Nat.mul_one, Nat.mod_eq_of_lt ha]
theorem low_1 {xs : List Nat} {pre : List (Fin xs.length)} {c a : Nat} {hk : 1 < xs.length} (hA : lowTo xs (pre ++ [⟨1, hk⟩]) = lowStep xs c ⟨1, hk⟩) (hX : xs[1]?.getD 0 = a) (hc : c < 18446744073709551616) (ha : a < 4294967296) :
    bits BinOp.or IntKind.u64 (c : Int) ((a : Int) * 4294967296) = ((lowTo xs (pre ++ [⟨1, hk⟩]) : Nat) : Int) := by
  have e : (a : Int) * 4294967296 = ((a * 4294967296 : Nat) : Int) := by omega
  have hl : a * 4294967296 < 18446744073709551616 := by omega
  rw [e, u64_or_nat c _ hc hl, hA]
  unfold lowStep
  simp only [hX, Nat.mul_one, show (2 : Nat) ^ 32 = 4294967296 from rfl, Nat.mod_eq_of_lt hl]
theorem lowTo_lt (xs : List Nat) (pre : List (Fin xs.length)) : lowTo xs pre < 18446744073709551616 := by
  have : ∀ (pre : List (Fin xs.length)) (u : Nat), u < 18446744073709551616 → pre.foldl (lowStep xs) u < 18446744073709551616 := by
    intro pre
    induction pre with
    | nil => exact fun u h => h
    | cons j r ih =>
      intro u h
      rw [List.foldl_cons]
      refine ih _ ?_
      unfold lowStep
      exact Nat.or_lt_two_pow (n := 64) h (Nat.mod_lt _ (by decide))
  exact this pre 0 (by decide)
theorem lowTo_all {xs : List Nat} (h : Limbs xs) (hl : xs.length ≤ 2) : lowTo xs (List.finRange xs.length) = val xs := by
  match xs, h, hl with
  | [], _, _ => rfl
  | [x], h, _ =>
    have := h.head
    simp [lowTo, lowStep, List.finRange, val]
    omega
  | [x, y], h, _ =>
    have h1 := h.head
    have h2 := h.tail.head
    have e : (List.finRange [x, y].length) = [⟨0, by simp⟩, ⟨1, by simp⟩] := rfl
    rw [e]
    simp only [lowTo, lowStep, List.foldl_cons, List.foldl_nil, val, Nat.mul_zero, Nat.pow_zero, Nat.mul_one, Nat.zero_or, List.getElem?_cons_zero, List.getElem?_cons_succ, Option.getD_some, Nat.add_zero]
    rw [Nat.mod_eq_of_lt (by omega), Nat.mod_eq_of_lt (show y * 2 ^ 32 < 18446744073709551616 from by omega), Nat.or_comm, nat_join 32 (y * 2 ^ 32) x (Nat.mul_mod_left _ _) h1]
    omega
  | _ :: _ :: _ :: _, _, hl => simp at hl

set_option maxRecDepth 100000 in
set_option maxHeartbeats 4000000 in
theorem low_loop (F : Fence) (n : Nat) (hF : Hid (F = Fence.wide)) (hro : F.round = none) (hn : 8 ≤ n) (A : Option Addr) (cap : Nat) (xs : List Nat) (w : World) (hr : Rd w w.heap.size A xs) (hx : mayb xs = true) (hl : xs.length ≤ 2) :
    CallsIn F n Try.prog 12 #[.slice A xs.length cap] w fun e w' => e = .returned (.tuple #[.int .u64 (val xs : Nat), .bool true]) ∧ Below w.heap.size w w' := by
  have h1 : 1 ≤ n := by omega
  have c1 := may_yes cap hr (by unfold maxLen; omega) hx
  have hf22 := wide_fn hF 23
  have hf36 := wide_fn hF 41
  have hf42 := wide_fn hF 55
  refine callsIn_of_wp_marks Try.func12 rfl (wide_fn hF _) ?_ hro
  simp only [Try.ntmps12, List.size_toArray, List.length_cons, List.length_nil, Nat.reduceAdd, Nat.reduceSub, Array.replicate_succ, Array.replicate_zero, List.push_toArray, List.append_toArray, List.nil_append, List.cons_append]
  gi_wp2_with fail
  refine (wided hF c1).mono ?_
  rintro e w' ⟨rfl, hw⟩
  obtain rfl := hw.symm
  clear c1
  gi_wp2_with fail
  refine (limbs_in F _ hf36 hro _ _ _ _).mono ?_
  rintro e w' ⟨rfl, rfl⟩
  have bU := Boxed.new w 23 (.int .u64 0)
  have bN := Boxed.new (w.alloc (.cells #[.int .u64 0] 23)) 26 (.slice A xs.length cap)
  simp only [World.size_alloc] at bN
  have hB3 : Below w.heap.size w ((w.alloc (.cells #[.int .u64 0] 23)).alloc (.cells #[.slice A xs.length cap] 26)) := ((Below.refl _ w).alloc (Nat.le_refl _) _).alloc (by simp) _
  gi_wp2_with fail
  refine wpIn_rangeFunc_ownG hro h1 (gf := 55) (lb := #[.pointer (some ⟨w.heap.size + 1, 0, none⟩)]) rfl hf42 (enters_of Try.func55 (by kernel_rfl) rfl)
    (limbs_stops F (n - 1) hf42 hro (by omega) (w.heap.size + 1) w.heap.size A cap xs (by unfold maxLen; omega) _ (by simp) (by simp; omega) bN.cell (hr.below hB3 (Nat.le_refl _))) belowK_t (belowK_b (by simp; omega)) (Below.refl _ _) (fun _ => rfl)
    (fun pre W => Boxed W w.heap.size 23 (.int .u64 (lowTo xs pre : Nat)) ∧ Below w.heap.size w W)
    (fun _ _ _ => False)
    (OwnFrom.and (Own.from (boxed_own w.heap.size 23 (fun pre => .int .u64 (lowTo xs pre : Nat))) _) (ownFrom_below (Nat.le_refl _) (by simp; omega)))
    (fun _ _ _ _ _ hs _ _ => hs)
    ⟨bU.alloc _, hB3⟩
    ?a₁ ?assign ?body ?done ?stop
  case assign =>
    intro l x W K hK
    gi_wp2
    exact hK
  case body =>
    rintro l pre ⟨k, hk⟩ W ⟨hv, hB⟩ hlt
    have hA := Lib.hid (lowTo_snoc xs pre ⟨k, hk⟩)
    have hxk := hr.limbs.getD k
    unfold tells
    dsimp only
    generalize hcc : lowTo xs pre = c at *
    generalize haa : xs[k]?.getD 0 = a at *
    have HX := Lib.hid haa
    have hv1 := hv.cell
    have hv2 := hv.frozen
    have hcl : c < 18446744073709551616 := by rw [← hcc]; exact lowTo_lt xs pre
    clear hcc haa
    have hk2 : k = 0 ∨ k = 1 := by omega
    have t1 : IntKind.u64.wrap (a : Int) = a := IntWalk.u64_in _ (by omega)
    have t2 : IntKind.i64.wrap 0 = 0 := rfl
    have t3 : IntKind.i64.wrap 32 = 32 := rfl
    rcases hk2 with rfl | rfl
    · have e1 := Lib.hid (low_0 hA.out HX.out hcl (by omega))
      gi_wp2_with fail
      gi_region
      all_goals gi_wp2
      all_goals (refine ⟨((KeepsOthers.setCell _ _ _).trans (KeepsOthers.drew _)).from _, ((Below.refl _ W).setCell (p := ⟨w.heap.size, 0, none⟩) (Nat.le_refl _) _).drew, ?_, (hB.setCell (p := ⟨w.heap.size, 0, none⟩) (Nat.le_refl _) _).drew⟩; rw [← e1.out]; exact hv.set _)
    · have e1 := Lib.hid (low_1 hA.out HX.out hcl hxk)
      have t4 : IntKind.u64.wrap ((a : Int) * 4294967296) = (a : Int) * 4294967296 := IntWalk.u64_in _ (by omega)
      gi_wp2_with fail
      gi_region
      all_goals gi_wp2
      all_goals (refine ⟨((KeepsOthers.setCell _ _ _).trans (KeepsOthers.drew _)).from _, ((Below.refl _ W).setCell (p := ⟨w.heap.size, 0, none⟩) (Nat.le_refl _) _).drew, ?_, (hB.setCell (p := ⟨w.heap.size, 0, none⟩) (Nat.le_refl _) _).drew⟩; rw [← e1.out]; exact hv.set _)
  case done =>
    rintro D ys' W hD rfl ⟨hv, hB⟩ hK
    rw [lowTo_all hr.limbs hl] at hv
    have hv1 := hv.cell
    have HB' := Lib.hid (hB.trans (belowK_b (w := w) (Nat.le_refl _) _ D _ (.deferred none) (by simp at hD; omega) hK rfl rfl))
    clear hx
    gi_wp2
    refine ⟨by simp, .inl ⟨_, _, rfl, run_takeDeferred hK, ?_⟩⟩
    exact ⟨_, results_tmp2 rfl _ _ _, rfl, HB'.out⟩
  case stop =>
    rintro D c pre W _ _ h _
    exact h.elim

set_option maxHeartbeats 1000000 in
theorem low_any (A : Option Addr) (cap : Nat) (xs : List Nat) (w : World) (hr : Rd w w.heap.size A xs) (hc : xs.length ≤ maxLen) :
    Calls Try.prog 12 #[.slice A xs.length cap] w fun e w' => e = .returned (.tuple #[.int .u64 (sLow xs : Nat), .bool (sLowOk xs)]) ∧ Below w.heap.size w w' := by
  by_cases hx : mayb xs = true
  · by_cases hl : xs.length ≤ 2
    · have hok : sLowOk xs = true := by unfold sLowOk; simp [hx, hl]
      rw [sLow_yes hok, hok]
      exact (callsIn_wide (n := 8)).1 (low_loop Fence.wide 8 rfl rfl (by omega) A cap xs w hr hx hl)
    · have hok : sLowOk xs = false := by unfold sLowOk; simp [hl]
      have c1 := may_yes cap hr hc hx
      rw [sLow_no hok, hok]
      clear hx hc hok
      go_enter Try.func12, Try.ntmps12
      go_wp2_with fail
      refine c1.mono ?_
      rintro e w' ⟨rfl, hw⟩
      obtain rfl := hw.symm
      clear c1
      go_wp2
      go_ret2
      exact ⟨rfl, Below.refl _ _⟩
  · have hok : sLowOk xs = false := by unfold sLowOk; simp [hx]
    have c1 := may_no cap hr hc (by simpa using hx)
    rw [sLow_no hok, hok]
    clear hx hc hok
    go_enter Try.func12, Try.ntmps12
    go_wp2_with fail
    refine c1.mono ?_
    rintro e w' ⟨rfl, hw⟩
    obtain rfl := hw.symm
    clear c1
    go_wp2
    go_ret2
    exact ⟨rfl, Below.refl _ _⟩

end Go.Proofs.Ytlfhpoffphljfaa

/- Contracts: byLimbs, Small. -/
import Derived.Test.YtlfhpoffphljfaaMulB
namespace Go.Proofs.Ytlfhpoffphljfaa
open Go.RowKit Go.Shelf

theorem own_made {w : World} {B g n : Nat} (h : w.ownsRow B 28 1 (.slice (some ⟨g, 0, none⟩) n n) n (madeCells (Value.int .u32 0).cells (n * 1)).toList) :
    Own w B (.slice (some ⟨g, 0, none⟩) (List.replicate n 0).length n) (List.replicate n 0) := by
  have e : (madeCells (Value.int .u32 0).cells (n * 1)).toList = u32s (List.replicate n 0) := by
    rw [show (Value.int .u32 0).cells = #[.int .u32 0] from rfl, toList_madeCells_one, Nat.mul_one, u32s, List.map_replicate]; rfl
  unfold Own
  rw [List.length_replicate, ← e]
  exact h

/-- A product in new memory. -/
def NewNat (w : World) (n : Nat) (e : Ending) (w' : World) : Prop := (∃ v, e = .returned v ∧ Own w' w.heap.size v (lim n)) ∧ Below w.heap.size w w'
theorem Own.trimmed {w : World} {B g cap : Nat} {X : List Nat} (h : Own w B (.slice (some ⟨g, 0, none⟩) X.length cap) X) (hl : Limbs X) : Own w B (.slice (some ⟨g, 0, none⟩) (lim (val X)).length cap) (lim (val X)) := by
  obtain ⟨k, hk, e⟩ := lim_val_take hl
  have := h.cut k hk
  rw [e, List.length_take, Nat.min_eq_left hk]
  exact this
theorem Own.cap {w : World} {B n cap : Nat} {A : Option Addr} {X : List Nat} (h : Own w B (.slice A n cap) X) : X.length ≤ cap ∧ cap ≤ maxLen := by
  rcases h.2 with ⟨e, h0⟩ | ⟨g, cap', cur, e, hg, hh, hle, hm, hs, ht⟩
  · injection e with e1 e2 e3; subst e3; exact ⟨by omega, by decide⟩
  · injection e with e1 e2 e3; subst e3; exact ⟨hle, hm⟩

set_option maxHeartbeats 4000000 in
theorem byLimbs_any (A A' : Option Addr) (cap cap' : Nat) (xs ys : List Nat) (w : World) (hr : Rd w w.heap.size A xs) (hr' : Rd w w.heap.size A' ys) (hx : xs.length ≤ 1048576) (hy : ys.length ≤ 1048576) :
    Calls Try.prog 56 #[.slice A xs.length cap, .slice A' ys.length cap'] w (NewNat w (val xs * val ys)) := by
  obtain ⟨i0, hi, hz0, hz1, hz2⟩ := info_parts info32
  go_enter Try.func56, Try.ntmps56
  go_wp2_with (at_make; refine wpList_make_full _ rfl _ _ 26 rfl w.heap.size 28 i0 (.int .u32 0) 1 Try.underlying26 hi hz0 hz1 .i64 .i64 _ _ (xs.length + ys.length) rfl rfl (by omega) (by omega) (by rw [hz2]; omega) (by unfold maxLen; omega) (Nat.le_refl _) ?_; intro w1 hown0 hgrow0)
  have hB0 : Below w.heap.size w w1 := (Below.refl _ w).grown hgrow0 (Nat.le_refl _) (fun _ h => by cases h)
  have hO0 := own_made hown0
  clear hown0 hgrow0
  go_loopw [16] (fun i wr => ∃ (k : Nat) (X : List Nat), k ≤ ys.length ∧ i = .int .i64 (k : Int) ∧ BLI xs ys k X ∧ Own wr w.heap.size (.slice (some ⟨w.heap.size, 0, none⟩) X.length (xs.length + ys.length)) X ∧ Below w.heap.size w wr) (fun i _ => ys.length - (intOf i).toNat)
  case atStart => exact ⟨0, _, Nat.zero_le _, rfl, BLI.start xs ys, hO0, hB0⟩
  case round =>
    clear hB0 hO0
    obtain ⟨k, X, hk, rfl, hI, hX, hB⟩ := hrel
    by_cases hlt : k < ys.length
    · obtain ⟨b, o, rfl, hb, hcell⟩ := hr'.2 (by omega)
      have hyc := (hB.cell (p := ⟨b, o + k, none⟩) hb).trans (hcell k hlt)
      have hyl := hr'.limbs.getD k
      generalize hm : ys[k]?.getD 0 = m at *
      have c := addTimes_any w.heap.size k (xs.length + ys.length - k) _ A cap xs X m wr w.heap.size hX hI.2.1 (by rw [hI.1]; omega) (hr.below hB (Nat.le_refl _)) (by omega) hyl
      have HM := Lib.hid hm
      have HI := Lib.hid hI
      have HB := Lib.hid hB
      clear hm hI hX hB hcell hr hr'
      go_wp2_with fail
      refine c.mono ?_
      rintro e wn ⟨cc, X', rfl, hA, hX', hB'⟩
      clear c
      have hst := Lib.hid (HI.out.step hlt HM.out.symm hA)
      have hxl : Hid (X'.length = xs.length + ys.length) := by show _ = _; rw [hA.1.1, HI.out.1]
      have hxc := hX'.cellAt (j := k + xs.length) (by have := hxl.out; omega)
      have hxf := World.ownsRow.frozenAt hX' (k + xs.length)
      have hput := Lib.hid (hX'.put (j := k + xs.length) (v := cc))
      have hbe := Lib.hid ((HB.out.trans hB').setCell (p := ⟨w.heap.size, k + xs.length, none⟩) (Nat.le_refl _) (lv cc))
      have hcc := hA.2.1
      clear hA hX' hB'
      go_wp2
      go_roundw
      case rel => exact ⟨k + 1, _, by omega, by go_num, hst.out, hput.out, hbe.out⟩
      case measure => simp [intOf]; omega
    · obtain rfl : k = ys.length := by omega
      obtain ⟨A2, cap2, e2, h1, h2, hrd⟩ := hX.rd hI.2.1
      injection e2 with ea eb ec
      subst ea ec
      have c := trim_any _ _ X wr _ hrd h1 h2
      have hfin := hX.trimmed hI.2.1
      rw [hI.done] at c hfin
      have HF := Lib.hid hfin
      have HL := Lib.hid hI.1
      have HB := Lib.hid hB
      rw [hI.1] at c
      clear hI hX hB hr hr' hrd h1 h2 hfin
      go_wp2_with fail
      refine c.mono ?_
      rintro e wn ⟨rfl, rfl⟩
      clear c
      go_wp2
      go_ret
      exact ⟨⟨_, rfl, HF.out⟩, HB.out⟩

/-! ### Small -/
def sSmall (xs : List Nat) (m a : Nat) : List Nat := if mayb xs then clip (val xs * m + a) else []
theorem sSmall_no {xs : List Nat} {m a : Nat} (h : mayb xs = false) : sSmall xs m a = [] := by unfold sSmall; rw [h]; rfl
theorem sSmall_yes {xs : List Nat} {m a : Nat} (h : mayb xs = true) : sSmall xs m a = clip (val xs * m + a) := by unfold sSmall; rw [h]; rfl
/-- An answer that is a natural in new memory. -/
def NewL (w : World) (L : List Nat) (e : Ending) (w' : World) : Prop := (∃ v, e = .returned v ∧ Own w' w.heap.size v L) ∧ Below w.heap.size w w'
theorem own_form {w : World} {B n : Nat} {v : Value} {X : List Nat} (h : w.ownsRow B 28 1 v n (u32s X)) (hn : n = X.length) : ∃ A cap, v = .slice A X.length cap := by
  subst hn
  rcases h.2 with ⟨rfl, h0⟩ | ⟨g, cap, cur, rfl, _⟩
  · exact ⟨none, 0, by rw [h0]⟩
  · exact ⟨_, cap, rfl⟩
theorem Own.trimmedAny {w : World} {B n cap : Nat} {A : Option Addr} {X : List Nat} (h : Own w B (.slice A n cap) X) (hl : Limbs X) : Own w B (.slice A (lim (val X)).length cap) (lim (val X)) := by
  obtain ⟨k, hk, e⟩ := lim_val_take hl
  have := h.cut k hk
  rw [e, List.length_take, Nat.min_eq_left hk]
  exact this

set_option maxHeartbeats 4000000 in
theorem small_any (A : Option Addr) (cap : Nat) (xs : List Nat) (m a : Nat) (w : World) (hr : Rd w w.heap.size A xs) (hc : xs.length ≤ maxLen) (hm : m < 4294967296) (ha : a < 4294967296) :
    Calls Try.prog 29 #[.slice A xs.length cap, .int .u32 (m : Int), .int .u32 (a : Int)] w (NewL w (sSmall xs m a)) := by
  by_cases hx : mayb xs = true
  · obtain ⟨i0, hi, hz0, hz1, hz2⟩ := info_parts info32
    have hxm := (mayb_iff.1 hx).1
    have c := may_yes cap hr hc hx
    have hs := Lib.hid (sSmall_yes (m := m) (a := a) hx)
    clear hx
    go_enter Try.func29, Try.ntmps29
    go_wp2_with fail
    refine c.mono ?_
    rintro e w' ⟨rfl, hw⟩
    obtain rfl := hw.symm
    clear c
    go_wp2_with (at_make; refine wpList_make_own _ rfl _ _ 26 rfl w.heap.size 28 i0 (.int .u32 0) 1 Try.underlying26 hi hz0 hz1 .i64 .i64 _ (xs.length + 1) rfl rfl (by omega) (by rw [hz2]; omega) (by unfold maxLen; omega) (Nat.le_refl _) ?_; intro w1 hown0 hgrow0)
    have hB0 : Below w.heap.size w w1 := (Below.refl _ w).grown hgrow0 (Nat.le_refl _) (fun _ h => by cases h)
    clear hgrow0
    go_loopw [7, 8, 23] (fun o cv i wr => ∃ (k c : Nat) (O : List Nat), k ≤ xs.length ∧ i = .int .i64 (k : Int) ∧ cv = .int .u64 (c : Int) ∧ SmI xs m a k c O ∧ wr.ownsRow w.heap.size 28 1 o O.length (u32s O) ∧ Below w.heap.size w wr) (fun _ _ i _ => xs.length - (intOf i).toNat)
    case atStart => exact ⟨0, a, [], Nat.zero_le _, rfl, rfl, SmI.start xs m ha, hown0, hB0⟩
    case round =>
      clear hown0 hB0
      obtain ⟨k, c, O, hk, rfl, rfl, hI, hown, hB⟩ := hrel
      have hol : O.length ≤ 65536 := by have := hI.1; omega
      have hcc := hI.2.2.1
      by_cases hlt : k < xs.length
      · obtain ⟨b, o, rfl, hb, hcell⟩ := hr.2 (by omega)
        have hyc := (hB.cell (p := ⟨b, o + k, none⟩) hb).trans (hcell k hlt)
        have hyl := hr.limbs.getD k
        generalize hy : xs[k]?.getD 0 = y at *
        obtain ⟨p, hp⟩ : ∃ p : Nat, p = y * m := ⟨_, rfl⟩
        have hbd := sm_bound hyl hm hcc
        rw [← hp] at hbd
        obtain ⟨hbd1, hbd2⟩ := hbd
        have hpi : (y : Int) * (m : Int) = (p : Int) := by rw [hp]; simp
        have hst := Lib.hid (hI.step (s := p + c) (by rw [hy, hp]) hbd2)
        have e1 := Lib.hid (show ((p : Int) + c) % 4294967296 = (((p + c) % 4294967296 : Nat) : Int) from by omega)
        have e2 := Lib.hid (show ((p : Int) + c) / 4294967296 = (((p + c) / 4294967296 : Nat) : Int) from by omega)
        clear hy hp hI hcell hr
        go_wp2_with (at_builtin; refine wpList_append_own _ rfl _ _ 26 rfl w.heap.size 28 i0 (.int .u32 0) 1 4 Try.underlying26 hi hz0 hz1 hz2 rfl (by decide) _ _ _ rfl (hown.alloc _) ⟨wr.heap.size, 0, none⟩ 1 1 [_] rfl rfl (cell_one_new _ _ _) (by simp [Value.oneCell']) (by unfold maxLen; omega) (by omega) (by have := hB.size; simp; omega) ?_; intro v' w2 hown' hgrow hgone; clear hgone)
        have hb2 := hB.trans (appended_plain hown hB.size hgrow).2
        have hown2 : w2.ownsRow w.heap.size 28 1 v' (O ++ [(p + c) % 4294967296]).length (u32s (O ++ [(p + c) % 4294967296])) := by rw [u32s_snoc, ← e1.out]; simpa using hown'
        clear hown' hgrow
        go_roundw
        case rel => exact ⟨k + 1, (p + c) / 4294967296, _, by omega, by go_num, by rw [e2.out], hst.out, hown2, hb2⟩
        case measure => simp [intOf]; omega
      · obtain rfl : k = xs.length := by omega
        have hval := hI.done
        have HV := Lib.hid hval.1
        have HL := Lib.hid hval.2
        clear hval hI hr
        go_wp2_with (at_builtin; refine wpList_append_own _ rfl _ _ 26 rfl w.heap.size 28 i0 (.int .u32 0) 1 4 Try.underlying26 hi hz0 hz1 hz2 rfl (by decide) _ _ _ rfl (hown.alloc _) ⟨wr.heap.size, 0, none⟩ 1 1 [_] rfl rfl (cell_one_new _ _ _) (by simp [Value.oneCell']) (by unfold maxLen; omega) (by omega) (by have := hB.size; simp; omega) ?_; intro v' w2 hown' hgrow hgone; clear hgone)
        have hb2 := hB.trans (appended_plain hown hB.size hgrow).2
        have hown2 : Own w2 w.heap.size v' (O ++ [c]) := by unfold Own; rw [u32s_snoc]; simpa using hown'
        clear hown' hgrow hown hB
        obtain ⟨A2, cap2, rfl, h1, h2, hrd⟩ := hown2.rd HL.out
        have ct := trim_any _ _ _ w2 _ hrd h1 h2
        have hfin := hown2.trimmedAny HL.out
        rw [HV.out] at ct hfin
        have hl65 : (lim (val xs * m + a)).length ≤ maxLen := by have := hfin.cap; omega
        have cd := told_any A2 (lim (val xs * m + a)).length cap2 w2 hl65
        have HF := Lib.hid (toldV_own hfin)
        have HB := Lib.hid hb2
        clear hown2 hrd hfin hb2 h1 h2 hl65
        go_wp2_with fail
        refine ct.mono ?_
        rintro e wn ⟨rfl, hw⟩
        obtain rfl := hw.symm
        go_wp2_with fail
        refine cd.mono ?_
        rintro e wn ⟨rfl, hw⟩
        obtain rfl := hw.symm
        clear ct cd
        go_wp2
        go_ret
        exact ⟨⟨_, rfl, by rw [hs.out]; exact HF.out⟩, HB.out⟩
  · have hs := Lib.hid (sSmall_no (m := m) (a := a) (by simpa using hx))
    have c := may_no cap hr hc (by simpa using hx)
    clear hx hc
    go_enter Try.func29, Try.ntmps29
    go_wp2_with fail
    refine c.mono ?_
    rintro e w' ⟨rfl, hw⟩
    obtain rfl := hw.symm
    clear c
    go_wp2
    go_ret
    exact ⟨⟨_, rfl, by rw [hs.out]; exact Own.nil _ _⟩, Below.refl _ w⟩

end Go.Proofs.Ytlfhpoffphljfaa

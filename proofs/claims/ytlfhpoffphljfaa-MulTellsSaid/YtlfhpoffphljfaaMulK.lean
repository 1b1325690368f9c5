/- Contracts: times, square, Mul, Square. -/
import Derived.Test.YtlfhpoffphljfaaMulJ
namespace Go.Proofs.Ytlfhpoffphljfaa
open Go.RowKit Go.Shelf

set_option linter.unusedVariables false

theorem NewNat.of_alloc {w wB : World} {n : Nat} {e : Ending} {w' : World} (hb : Below w.heap.size w wB) (h : NewNat wB n e w') : NewNat w n e w' := by
  obtain ⟨⟨v, he, ho⟩, hbl⟩ := h
  exact ⟨⟨v, he, ho.more hb.size⟩, hb.trans (hbl.mono hb.size)⟩
theorem two_boxes (w : World) (v1 v2 : Value) (t : TypeId) : Below w.heap.size w ((w.alloc (.cells #[v1] t)).alloc (.cells #[v2] t)) ∧ Box ((w.alloc (.cells #[v1] t)).alloc (.cells #[v2] t)) w.heap.size v1 ∧ Box ((w.alloc (.cells #[v1] t)).alloc (.cells #[v2] t)) (w.heap.size + 1) v2 :=
  ⟨((Below.refl _ w).alloc (Nat.le_refl _) _).alloc (by simp) _, (Box.new w _ _).past _, Box.new' _ _ _ (by simp)⟩

set_option maxRecDepth 100000 in
set_option maxHeartbeats 2000000 in
theorem times_plimbs {n : Nat} (IH : TimesAt n) (A A' : Option Addr) (cap cap' : Nat) (xs ys : List Nat) (w : World) (ha : Arg w (.slice A xs.length cap) xs) (hv : Arg w (.slice A' ys.length cap') ys) (cx : Canon xs) (cy : Canon ys) (hl : xs.length ≤ 65536) (hl' : ys.length ≤ 65536) (hn : xs.length + ys.length ≤ n + 1) (h1 : ¬ xs.length < ys.length) (h2 : ys.length < 64) :
    Calls Try.prog 46 #[.slice A xs.length cap, .slice A' ys.length cap'] w (NewNat w (val xs * val ys)) := by
  obtain ⟨hb, x1, x2⟩ := two_boxes w (.slice A xs.length cap) (.slice A' ys.length cap') 26
  obtain ⟨wB, hwB⟩ : ∃ wB, wB = (w.alloc (.cells #[(.slice A xs.length cap)] 26)).alloc (.cells #[(.slice A' ys.length cap')] 26) := ⟨_, rfl⟩
  rw [← hwB] at hb x1 x2
  have a1 := (ha).below hb
  have a2 := (hv).below hb
  have r1 : Rd wB wB.heap.size A xs := by obtain ⟨A1, c1, e1, _, _, hr1⟩ := a1; injection e1 with e2; rw [e2]; exact hr1
  have r2 : Rd wB wB.heap.size A' ys := by obtain ⟨A1, c1, e1, _, _, hr1⟩ := a2; injection e1 with e2; rw [e2]; exact hr1
  have c := byLimbs_any A A' cap cap' xs ys wB r1 r2 (by omega) (by omega)
  have HB := Lib.hid hb
  have HW := Lib.hid hwB
  rw [hwB] at c
  clear a1 a2 x1 x2 hb hwB ha hv cx cy r1 r2 IH
  go_enter Try.func46, Try.ntmps46
  go_wp2_with fail
  with_reducible refine c.mono ?_
  rintro e w' hN
  obtain ⟨⟨v, rfl, ho⟩, hbl⟩ := hN
  rw [← HW.out] at ho hbl
  have HO := Lib.hid (ho.more HB.out.size)
  have HL := Lib.hid (HB.out.trans (hbl.mono HB.out.size))
  clear ho hbl c
  go_wp2
  go_ret
  exact ⟨⟨_, rfl, HO.out⟩, HL.out⟩

set_option maxRecDepth 100000 in
set_option maxHeartbeats 2000000 in
theorem times_ppieces {n : Nat} (IH : TimesAt n) (A A' : Option Addr) (cap cap' : Nat) (xs ys : List Nat) (w : World) (ha : Arg w (.slice A xs.length cap) xs) (hv : Arg w (.slice A' ys.length cap') ys) (cx : Canon xs) (cy : Canon ys) (hl : xs.length ≤ 65536) (hl' : ys.length ≤ 65536) (hn : xs.length + ys.length ≤ n + 1) (h1 : ¬ xs.length < ys.length) (h2 : ¬ ys.length < 64) (h3 : ys.length ≤ (xs.length + 1) / 2) :
    Calls Try.prog 46 #[.slice A xs.length cap, .slice A' ys.length cap'] w (NewNat w (val xs * val ys)) := by
  obtain ⟨hb, x1, x2⟩ := two_boxes w (.slice A xs.length cap) (.slice A' ys.length cap') 26
  obtain ⟨wB, hwB⟩ : ∃ wB, wB = (w.alloc (.cells #[(.slice A xs.length cap)] 26)).alloc (.cells #[(.slice A' ys.length cap')] 26) := ⟨_, rfl⟩
  rw [← hwB] at hb x1 x2
  have a1 := (ha).below hb
  have a2 := (hv).below hb
  have c := byPieces_any IH (.slice A xs.length cap) (.slice A' ys.length cap') xs ys wB a1 a2 cx cy (by omega) (by omega) (by omega) (by omega) (by omega)
  have HB := Lib.hid hb
  have HW := Lib.hid hwB
  rw [hwB] at c
  have g3 : ((ys.length : Nat) : Int) ≤ (((xs.length : Nat) : Int) + 1) / 2 := by omega
  clear a1 a2 x1 x2 hb hwB ha hv cx cy h3 IH
  go_enter Try.func46, Try.ntmps46
  go_wp2_with fail
  with_reducible refine c.mono ?_
  rintro e w' hN
  obtain ⟨⟨v, rfl, ho⟩, hbl⟩ := hN
  rw [← HW.out] at ho hbl
  have HO := Lib.hid (ho.more HB.out.size)
  have HL := Lib.hid (HB.out.trans (hbl.mono HB.out.size))
  clear ho hbl c
  go_wp2
  go_ret
  exact ⟨⟨_, rfl, HO.out⟩, HL.out⟩

set_option maxRecDepth 100000 in
set_option maxHeartbeats 2000000 in
theorem times_phalves {n : Nat} (IH : TimesAt n) (A A' : Option Addr) (cap cap' : Nat) (xs ys : List Nat) (w : World) (ha : Arg w (.slice A xs.length cap) xs) (hv : Arg w (.slice A' ys.length cap') ys) (cx : Canon xs) (cy : Canon ys) (hl : xs.length ≤ 65536) (hl' : ys.length ≤ 65536) (hn : xs.length + ys.length ≤ n + 1) (h1 : ¬ xs.length < ys.length) (h2 : ¬ ys.length < 64) (h3 : ¬ ys.length ≤ (xs.length + 1) / 2) :
    Calls Try.prog 46 #[.slice A xs.length cap, .slice A' ys.length cap'] w (NewNat w (val xs * val ys)) := by
  obtain ⟨hb, x1, x2⟩ := two_boxes w (.slice A xs.length cap) (.slice A' ys.length cap') 26
  obtain ⟨wB, hwB⟩ : ∃ wB, wB = (w.alloc (.cells #[(.slice A xs.length cap)] 26)).alloc (.cells #[(.slice A' ys.length cap')] 26) := ⟨_, rfl⟩
  rw [← hwB] at hb x1 x2
  have a1 := (ha).below hb
  have a2 := (hv).below hb
  have c := byHalves_times (half := (xs.length + 1) / 2) IH a1 a2 cx cy (by omega) (by omega) (by omega) (by omega) x1 x2 (by omega) (by omega) (by omega)
  rw [show ((((xs.length + 1) / 2 : Nat)) : Int) = (((xs.length : Nat) : Int) + 1) / 2 from by omega] at c
  have HB := Lib.hid hb
  have HW := Lib.hid hwB
  rw [hwB] at c
  have g3 : ¬ ((ys.length : Nat) : Int) ≤ (((xs.length : Nat) : Int) + 1) / 2 := by omega
  clear a1 a2 x1 x2 hb hwB ha hv cx cy h3 IH
  go_enter Try.func46, Try.ntmps46
  go_wp2_with fail
  with_reducible refine c.mono ?_
  rintro e w' hN
  obtain ⟨⟨v, rfl, ho⟩, hbl⟩ := hN
  rw [← HW.out] at ho hbl
  have HO := Lib.hid (ho.more HB.out.size)
  have HL := Lib.hid (HB.out.trans (hbl.mono HB.out.size))
  clear ho hbl c
  go_wp2
  go_ret
  exact ⟨⟨_, rfl, HO.out⟩, HL.out⟩

set_option maxRecDepth 100000 in
set_option maxHeartbeats 2000000 in
theorem times_slimbs {n : Nat} (IH : TimesAt n) (A A' : Option Addr) (cap cap' : Nat) (xs ys : List Nat) (w : World) (ha : Arg w (.slice A xs.length cap) xs) (hv : Arg w (.slice A' ys.length cap') ys) (cx : Canon xs) (cy : Canon ys) (hl : xs.length ≤ 65536) (hl' : ys.length ≤ 65536) (hn : xs.length + ys.length ≤ n + 1) (h1 : xs.length < ys.length) (h2 : xs.length < 64) :
    Calls Try.prog 46 #[.slice A xs.length cap, .slice A' ys.length cap'] w (NewNat w (val ys * val xs)) := by
  obtain ⟨hb, x1, x2⟩ := two_boxes w (.slice A' ys.length cap') (.slice A xs.length cap) 26
  obtain ⟨wB, hwB⟩ : ∃ wB, wB = (w.alloc (.cells #[(.slice A' ys.length cap')] 26)).alloc (.cells #[(.slice A xs.length cap)] 26) := ⟨_, rfl⟩
  rw [← hwB] at hb x1 x2
  have a1 := (hv).below hb
  have a2 := (ha).below hb
  have r1 : Rd wB wB.heap.size A' ys := by obtain ⟨A1, c1, e1, _, _, hr1⟩ := a1; injection e1 with e2; rw [e2]; exact hr1
  have r2 : Rd wB wB.heap.size A xs := by obtain ⟨A1, c1, e1, _, _, hr1⟩ := a2; injection e1 with e2; rw [e2]; exact hr1
  have c := byLimbs_any A' A cap' cap ys xs wB r1 r2 (by omega) (by omega)
  have HB := Lib.hid hb
  have HW := Lib.hid hwB
  rw [hwB] at c
  clear a1 a2 x1 x2 hb hwB ha hv cx cy r1 r2 IH
  go_enter Try.func46, Try.ntmps46
  go_wp2_with fail
  with_reducible refine c.mono ?_
  rintro e w' hN
  obtain ⟨⟨v, rfl, ho⟩, hbl⟩ := hN
  rw [← HW.out] at ho hbl
  have HO := Lib.hid (ho.more HB.out.size)
  have HL := Lib.hid (HB.out.trans (hbl.mono HB.out.size))
  clear ho hbl c
  go_wp2
  go_ret
  exact ⟨⟨_, rfl, HO.out⟩, HL.out⟩

set_option maxRecDepth 100000 in
set_option maxHeartbeats 2000000 in
theorem times_spieces {n : Nat} (IH : TimesAt n) (A A' : Option Addr) (cap cap' : Nat) (xs ys : List Nat) (w : World) (ha : Arg w (.slice A xs.length cap) xs) (hv : Arg w (.slice A' ys.length cap') ys) (cx : Canon xs) (cy : Canon ys) (hl : xs.length ≤ 65536) (hl' : ys.length ≤ 65536) (hn : xs.length + ys.length ≤ n + 1) (h1 : xs.length < ys.length) (h2 : ¬ xs.length < 64) (h3 : xs.length ≤ (ys.length + 1) / 2) :
    Calls Try.prog 46 #[.slice A xs.length cap, .slice A' ys.length cap'] w (NewNat w (val ys * val xs)) := by
  obtain ⟨hb, x1, x2⟩ := two_boxes w (.slice A' ys.length cap') (.slice A xs.length cap) 26
  obtain ⟨wB, hwB⟩ : ∃ wB, wB = (w.alloc (.cells #[(.slice A' ys.length cap')] 26)).alloc (.cells #[(.slice A xs.length cap)] 26) := ⟨_, rfl⟩
  rw [← hwB] at hb x1 x2
  have a1 := (hv).below hb
  have a2 := (ha).below hb
  have c := byPieces_any IH (.slice A' ys.length cap') (.slice A xs.length cap) ys xs wB a1 a2 cy cx (by omega) (by omega) (by omega) (by omega) (by omega)
  have HB := Lib.hid hb
  have HW := Lib.hid hwB
  rw [hwB] at c
  have g3 : ((xs.length : Nat) : Int) ≤ (((ys.length : Nat) : Int) + 1) / 2 := by omega
  clear a1 a2 x1 x2 hb hwB ha hv cx cy h3 IH
  go_enter Try.func46, Try.ntmps46
  go_wp2_with fail
  with_reducible refine c.mono ?_
  rintro e w' hN
  obtain ⟨⟨v, rfl, ho⟩, hbl⟩ := hN
  rw [← HW.out] at ho hbl
  have HO := Lib.hid (ho.more HB.out.size)
  have HL := Lib.hid (HB.out.trans (hbl.mono HB.out.size))
  clear ho hbl c
  go_wp2
  go_ret
  exact ⟨⟨_, rfl, HO.out⟩, HL.out⟩

set_option maxRecDepth 100000 in
set_option maxHeartbeats 2000000 in
theorem times_shalves {n : Nat} (IH : TimesAt n) (A A' : Option Addr) (cap cap' : Nat) (xs ys : List Nat) (w : World) (ha : Arg w (.slice A xs.length cap) xs) (hv : Arg w (.slice A' ys.length cap') ys) (cx : Canon xs) (cy : Canon ys) (hl : xs.length ≤ 65536) (hl' : ys.length ≤ 65536) (hn : xs.length + ys.length ≤ n + 1) (h1 : xs.length < ys.length) (h2 : ¬ xs.length < 64) (h3 : ¬ xs.length ≤ (ys.length + 1) / 2) :
    Calls Try.prog 46 #[.slice A xs.length cap, .slice A' ys.length cap'] w (NewNat w (val ys * val xs)) := by
  obtain ⟨hb, x1, x2⟩ := two_boxes w (.slice A' ys.length cap') (.slice A xs.length cap) 26
  obtain ⟨wB, hwB⟩ : ∃ wB, wB = (w.alloc (.cells #[(.slice A' ys.length cap')] 26)).alloc (.cells #[(.slice A xs.length cap)] 26) := ⟨_, rfl⟩
  rw [← hwB] at hb x1 x2
  have a1 := (hv).below hb
  have a2 := (ha).below hb
  have c := byHalves_times (half := (ys.length + 1) / 2) IH a1 a2 cy cx (by omega) (by omega) (by omega) (by omega) x1 x2 (by omega) (by omega) (by omega)
  rw [show ((((ys.length + 1) / 2 : Nat)) : Int) = (((ys.length : Nat) : Int) + 1) / 2 from by omega] at c
  have HB := Lib.hid hb
  have HW := Lib.hid hwB
  rw [hwB] at c
  have g3 : ¬ ((xs.length : Nat) : Int) ≤ (((ys.length : Nat) : Int) + 1) / 2 := by omega
  clear a1 a2 x1 x2 hb hwB ha hv cx cy h3 IH
  go_enter Try.func46, Try.ntmps46
  go_wp2_with fail
  with_reducible refine c.mono ?_
  rintro e w' hN
  obtain ⟨⟨v, rfl, ho⟩, hbl⟩ := hN
  rw [← HW.out] at ho hbl
  have HO := Lib.hid (ho.more HB.out.size)
  have HL := Lib.hid (HB.out.trans (hbl.mono HB.out.size))
  clear ho hbl c
  go_wp2
  go_ret
  exact ⟨⟨_, rfl, HO.out⟩, HL.out⟩

set_option maxRecDepth 100000 in
set_option maxHeartbeats 2000000 in
theorem times_zero (A A' : Option Addr) (cap cap' : Nat) (xs ys : List Nat) (w : World) (ha : Arg w (.slice A xs.length cap) xs) (hv : Arg w (.slice A' ys.length cap') ys) (hn : xs.length + ys.length ≤ 0) :
    Calls Try.prog 46 #[.slice A xs.length cap, .slice A' ys.length cap'] w (NewNat w (val xs * val ys)) := by
  obtain ⟨hb, x1, x2⟩ := two_boxes w (.slice A xs.length cap) (.slice A' ys.length cap') 26
  obtain ⟨wB, hwB⟩ : ∃ wB, wB = (w.alloc (.cells #[(.slice A xs.length cap)] 26)).alloc (.cells #[(.slice A' ys.length cap')] 26) := ⟨_, rfl⟩
  rw [← hwB] at hb x1 x2
  have a1 := (ha).below hb
  have a2 := (hv).below hb
  have r1 : Rd wB wB.heap.size A xs := by obtain ⟨A1, c1, e1, _, _, hr1⟩ := a1; injection e1 with e2; rw [e2]; exact hr1
  have r2 : Rd wB wB.heap.size A' ys := by obtain ⟨A1, c1, e1, _, _, hr1⟩ := a2; injection e1 with e2; rw [e2]; exact hr1
  have c := byLimbs_any A A' cap cap' xs ys wB r1 r2 (by omega) (by omega)
  have h1 : ¬ xs.length < ys.length := by omega
  have h2 : ys.length < 64 := by omega
  have HB := Lib.hid hb
  have HW := Lib.hid hwB
  rw [hwB] at c
  clear a1 a2 x1 x2 hb hwB ha hv r1 r2
  go_enter Try.func46, Try.ntmps46
  go_wp2_with fail
  with_reducible refine c.mono ?_
  rintro e w' hN
  obtain ⟨⟨v, rfl, ho⟩, hbl⟩ := hN
  rw [← HW.out] at ho hbl
  have HO := Lib.hid (ho.more HB.out.size)
  have HL := Lib.hid (HB.out.trans (hbl.mono HB.out.size))
  clear ho hbl c
  go_wp2
  go_ret
  exact ⟨⟨_, rfl, HO.out⟩, HL.out⟩

theorem timesAt : ∀ n, TimesAt n := by
  have step : ∀ n, TimesAt n → TimesAt (n + 1) := by
    intro n IH va vb xs ys w ha hv cx cy hl hl' hn
    obtain ⟨A, cap, rfl, _⟩ := id ha
    obtain ⟨A', cap', rfl, _⟩ := id hv
    by_cases h1 : xs.length < ys.length
    · rw [Nat.mul_comm]
      by_cases h2 : xs.length < 64
      · exact times_slimbs IH A A' cap cap' xs ys w ha hv cx cy hl hl' hn h1 h2
      · by_cases h3 : xs.length ≤ (ys.length + 1) / 2
        · exact times_spieces IH A A' cap cap' xs ys w ha hv cx cy hl hl' hn h1 h2 h3
        · exact times_shalves IH A A' cap cap' xs ys w ha hv cx cy hl hl' hn h1 h2 h3
    · by_cases h2 : ys.length < 64
      · exact times_plimbs IH A A' cap cap' xs ys w ha hv cx cy hl hl' hn h1 h2
      · by_cases h3 : ys.length ≤ (xs.length + 1) / 2
        · exact times_ppieces IH A A' cap cap' xs ys w ha hv cx cy hl hl' hn h1 h2 h3
        · exact times_phalves IH A A' cap cap' xs ys w ha hv cx cy hl hl' hn h1 h2 h3
  intro n
  induction n with
  | zero =>
    intro va vb xs ys w ha hv cx cy hl hl' hn
    obtain ⟨A, cap, rfl, _⟩ := id ha
    obtain ⟨A', cap', rfl, _⟩ := id hv
    have IH0 : TimesAt 0 ∨ True := .inr trivial
    exact times_zero A A' cap cap' xs ys w ha hv hn
  | succ n ih => exact step n ih

end Go.Proofs.Ytlfhpoffphljfaa

/- Contracts: square, Mul, Square. -/
import Derived.Test.YtlfhpoffphljfaaMulK
namespace Go.Proofs.Ytlfhpoffphljfaa
open Go.RowKit Go.Shelf

set_option linter.unusedVariables false

theorem one_box (w : World) (v1 : Value) (t : TypeId) : Below w.heap.size w (w.alloc (.cells #[v1] t)) ∧ Box (w.alloc (.cells #[v1] t)) w.heap.size v1 :=
  ⟨(Below.refl _ w).alloc (Nat.le_refl _) _, Box.new w _ _⟩

set_option maxRecDepth 100000 in
set_option maxHeartbeats 2000000 in
theorem square_short (A : Option Addr) (cap : Nat) (xs : List Nat) (w : World) (ha : Arg w (.slice A xs.length cap) xs) (h2 : xs.length < 64) :
    Calls Try.prog 47 #[.slice A xs.length cap] w (NewNat w (val xs * val xs)) := by
  obtain ⟨hb, x1⟩ := one_box w (.slice A xs.length cap) 26
  obtain ⟨wB, hwB⟩ : ∃ wB, wB = w.alloc (.cells #[.slice A xs.length cap] 26) := ⟨_, rfl⟩
  rw [← hwB] at hb x1
  obtain ⟨A1, c1, e1, g1, g2, hr1⟩ := ha.below hb
  injection e1 with e2 _ e3
  subst e2 e3
  have c := squareByLimbs_any A cap xs wB hr1 (by omega) g1 g2
  have HB := Lib.hid hb
  have HW := Lib.hid hwB
  rw [hwB] at c
  clear x1 hb hwB ha hr1 g1 g2
  go_enter Try.func47, Try.ntmps47
  go_wp2_with fail
  with_reducible refine c.mono ?_
  rintro e w' hN
  obtain ⟨⟨v, rfl, ho⟩, hbl⟩ := hN
  rw [← HW.out] at ho hbl
  have HO := Lib.hid (ho.more HB.out.size)
  have HL := Lib.hid (HB.out.trans (hbl.mono HB.out.size))
  clear ho hbl c
  go_wp2
  go_ret
  exact ⟨⟨_, rfl, HO.out⟩, HL.out⟩

set_option maxRecDepth 100000 in
set_option maxHeartbeats 2000000 in
theorem square_long {n : Nat} (IH : SquareAt n) (A : Option Addr) (cap : Nat) (xs : List Nat) (w : World) (ha : Arg w (.slice A xs.length cap) xs) (cx : Canon xs) (hl : xs.length ≤ 65536) (hn : xs.length ≤ n + 1) (h2 : ¬ xs.length < 64) :
    Calls Try.prog 47 #[.slice A xs.length cap] w (NewNat w (val xs * val xs)) := by
  obtain ⟨hb, x1⟩ := one_box w (.slice A xs.length cap) 26
  obtain ⟨wB, hwB⟩ : ∃ wB, wB = w.alloc (.cells #[.slice A xs.length cap] 26) := ⟨_, rfl⟩
  rw [← hwB] at hb x1
  have c := byHalves_square (half := (xs.length + 1) / 2) IH (ha.below hb) cx (by omega) (by omega) x1 (by omega) (by omega) (by omega)
  rw [show ((((xs.length + 1) / 2 : Nat)) : Int) = (((xs.length : Nat) : Int) + 1) / 2 from by omega] at c
  have HB := Lib.hid hb
  have HW := Lib.hid hwB
  rw [hwB] at c
  clear x1 hb hwB ha cx IH
  go_enter Try.func47, Try.ntmps47
  go_wp2_with fail
  with_reducible refine c.mono ?_
  rintro e w' hN
  obtain ⟨⟨v, rfl, ho⟩, hbl⟩ := hN
  rw [← HW.out] at ho hbl
  have HO := Lib.hid (ho.more HB.out.size)
  have HL := Lib.hid (HB.out.trans (hbl.mono HB.out.size))
  clear ho hbl c
  go_wp2
  go_ret
  exact ⟨⟨_, rfl, HO.out⟩, HL.out⟩

theorem squareAt : ∀ n, SquareAt n := by
  intro n
  induction n with
  | zero =>
    intro va xs w ha cx hl hn
    obtain ⟨A, cap, rfl, _⟩ := id ha
    exact square_short A cap xs w ha (by omega)
  | succ n ih =>
    intro va xs w ha cx hl hn
    obtain ⟨A, cap, rfl, _⟩ := id ha
    by_cases h2 : xs.length < 64
    · exact square_short A cap xs w ha h2
    · exact square_long ih A cap xs w ha cx hl hn h2

/-! ### Mul -/
def sMul (xs ys : List Nat) : List Nat := if mayb xs && mayb ys then clip (val xs * val ys) else []
theorem sMul_no {xs ys : List Nat} (h : (mayb xs && mayb ys) = false) : sMul xs ys = [] := by unfold sMul; rw [h]; rfl
theorem sMul_yes {xs ys : List Nat} (h : (mayb xs && mayb ys) = true) : sMul xs ys = clip (val xs * val ys) := by unfold sMul; rw [h]; rfl
theorem sMul_limbs (xs ys : List Nat) : Limbs (sMul xs ys) := by
  unfold sMul; split
  · exact clip_limbs _
  · exact limbs_nil
/-- What is too long to be seen without reckoning is too long. -/
theorem long_clip {xs ys : List Nat} (hx : Canon xs) (hy : Canon ys) (h : longB xs.length ys.length = true) : clip (val xs * val ys) = [] := by
  unfold longB at h
  have h := of_decide_eq_true h
  refine clip_not fun hle => ?_
  rw [lim_length_le] at hle
  have h1 := canon_val_ge hx (fun e => by rw [e] at h; simp at h)
  have h2 := canon_val_ge hy (fun e => by rw [e] at h; simp at h)
  have h3 := Nat.mul_le_mul h1 h2
  rw [← Nat.pow_add] at h3
  have h4 := (Nat.pow_lt_pow_iff_right (a := 4294967296) (by decide)).1 (Nat.lt_of_le_of_lt h3 hle)
  omega
theorem prod_len {xs ys : List Nat} (hx : Limbs xs) (hy : Limbs ys) : (lim (val xs * val ys)).length ≤ xs.length + ys.length := lim_le (mul_lt_pow hx hy)

set_option maxHeartbeats 2000000 in
theorem mul_any (va vb : Value) (xs ys : List Nat) (w : World) (ha : Arg w va xs) (hv : Arg w vb ys) : Calls Try.prog 27 #[va, vb] w (NewL w (sMul xs ys)) := by
  obtain ⟨A, cap, rfl, k1, k2, hr⟩ := id ha
  obtain ⟨A', cap', rfl, k1', k2', hr'⟩ := id hv
  by_cases hx : mayb xs = true
  · have c1 := may_yes cap hr (by omega) hx
    by_cases hy : mayb ys = true
    · have c2 := may_yes cap' hr' (by omega) hy
      have hxm := (mayb_iff.1 hx).1
      have hym := (mayb_iff.1 hy).1
      have c3 := tooLong_any A A' xs.length ys.length cap cap' w hxm hym
      have cx := mayb_canon hr.limbs hx
      have cy := mayb_canon hr'.limbs hy
      have hs := sMul_yes (xs := xs) (ys := ys) (by simp [hx, hy])
      by_cases hL : longB xs.length ys.length = true
      · rw [long_clip cx cy hL] at hs
        rw [hL] at c3
        have HS := Lib.hid hs
        clear hs hL hx hy ha hv hr hr'
        go_enter Try.func27, Try.ntmps27
        go_wp2_with fail
        with_reducible refine c1.mono ?_
        rintro e w' ⟨rfl, hw⟩
        obtain rfl := hw.symm
        go_wp2_with fail
        with_reducible refine c2.mono ?_
        rintro e w' ⟨rfl, hw⟩
        obtain rfl := hw.symm
        go_wp2_with fail
        with_reducible refine c3.mono ?_
        rintro e w' ⟨rfl, hw⟩
        obtain rfl := hw.symm
        clear c1 c2 c3
        go_wp2
        go_ret
        exact ⟨⟨_, rfl, by rw [HS.out]; exact Own.nil _ _⟩, Below.refl _ w⟩
      · rw [Bool.eq_false_iff.2 hL] at c3
        have c4 := timesAt _ _ _ xs ys w ha hv cx cy hxm hym (Nat.le_refl _)
        have hpl := prod_len hr.limbs hr'.limbs
        have HS := Lib.hid hs
        clear hs hL hx hy ha hv hr hr'
        go_enter Try.func27, Try.ntmps27
        go_wp2_with fail
        with_reducible refine c1.mono ?_
        rintro e w' ⟨rfl, hw⟩
        obtain rfl := hw.symm
        go_wp2_with fail
        with_reducible refine c2.mono ?_
        rintro e w' ⟨rfl, hw⟩
        obtain rfl := hw.symm
        go_wp2_with fail
        with_reducible refine c3.mono ?_
        rintro e w' ⟨rfl, hw⟩
        obtain rfl := hw.symm
        go_wp2_with fail
        with_reducible refine c4.mono ?_
        rintro e w2 ⟨⟨v, rfl, ho⟩, hb⟩
        obtain ⟨A3, cap3, rfl⟩ := own_form ho rfl
        have c5 := told_any A3 (lim (val xs * val ys)).length cap3 w2 (by unfold maxLen; omega)
        have HO := Lib.hid (toldV_own ho)
        have HB := Lib.hid hb
        clear c1 c2 c3 c4 ho hb
        go_wp2_with fail
        with_reducible refine c5.mono ?_
        rintro e w' ⟨rfl, hw⟩
        obtain rfl := hw.symm
        clear c5
        go_wp2
        go_ret
        exact ⟨⟨_, rfl, by rw [HS.out]; exact HO.out⟩, HB.out⟩
    · have c2 := may_no cap' hr' (by omega) (by simpa using hy)
      have HS := Lib.hid (sMul_no (xs := xs) (ys := ys) (by simp [hy]))
      clear hx hy ha hv hr hr'
      go_enter Try.func27, Try.ntmps27
      go_wp2_with fail
      with_reducible refine c1.mono ?_
      rintro e w' ⟨rfl, hw⟩
      obtain rfl := hw.symm
      go_wp2_with fail
      with_reducible refine c2.mono ?_
      rintro e w' ⟨rfl, hw⟩
      obtain rfl := hw.symm
      clear c1 c2
      go_wp2
      go_ret
      exact ⟨⟨_, rfl, by rw [HS.out]; exact Own.nil _ _⟩, Below.refl _ w⟩
  · have c1 := may_no cap hr (by omega) (by simpa using hx)
    have HS := Lib.hid (sMul_no (xs := xs) (ys := ys) (by simp [hx]))
    clear hx ha hv hr hr'
    go_enter Try.func27, Try.ntmps27
    go_wp2_with fail
    with_reducible refine c1.mono ?_
    rintro e w' ⟨rfl, hw⟩
    obtain rfl := hw.symm
    clear c1
    go_wp2
    go_ret
    exact ⟨⟨_, rfl, by rw [HS.out]; exact Own.nil _ _⟩, Below.refl _ w⟩

set_option maxHeartbeats 2000000 in
theorem square_any (va : Value) (xs : List Nat) (w : World) (ha : Arg w va xs) : Calls Try.prog 28 #[va] w (NewL w (sMul xs xs)) := by
  obtain ⟨A, cap, rfl, k1, k2, hr⟩ := id ha
  by_cases hx : mayb xs = true
  · have c1 := may_yes cap hr (by omega) hx
    have hxm := (mayb_iff.1 hx).1
    have c3 := tooLong_any A A xs.length xs.length cap cap w hxm hxm
    have cx := mayb_canon hr.limbs hx
    have hs := sMul_yes (xs := xs) (ys := xs) (by simp [hx])
    by_cases hL : longB xs.length xs.length = true
    · rw [long_clip cx cx hL] at hs
      rw [hL] at c3
      have HS := Lib.hid hs
      clear hs hL hx ha hr
      go_enter Try.func28, Try.ntmps28
      go_wp2_with fail
      with_reducible refine c1.mono ?_
      rintro e w' ⟨rfl, hw⟩
      obtain rfl := hw.symm
      go_wp2_with fail
      with_reducible refine c3.mono ?_
      rintro e w' ⟨rfl, hw⟩
      obtain rfl := hw.symm
      clear c1 c3
      go_wp2
      go_ret
      exact ⟨⟨_, rfl, by rw [HS.out]; exact Own.nil _ _⟩, Below.refl _ w⟩
    · rw [Bool.eq_false_iff.2 hL] at c3
      have c4 := squareAt _ _ xs w ha cx hxm (Nat.le_refl _)
      have hpl := prod_len hr.limbs hr.limbs
      have HS := Lib.hid hs
      clear hs hL hx ha hr
      go_enter Try.func28, Try.ntmps28
      go_wp2_with fail
      with_reducible refine c1.mono ?_
      rintro e w' ⟨rfl, hw⟩
      obtain rfl := hw.symm
      go_wp2_with fail
      with_reducible refine c3.mono ?_
      rintro e w' ⟨rfl, hw⟩
      obtain rfl := hw.symm
      go_wp2_with fail
      with_reducible refine c4.mono ?_
      rintro e w2 ⟨⟨v, rfl, ho⟩, hb⟩
      obtain ⟨A3, cap3, rfl⟩ := own_form ho rfl
      have c5 := told_any A3 (lim (val xs * val xs)).length cap3 w2 (by unfold maxLen; omega)
      have HO := Lib.hid (toldV_own ho)
      have HB := Lib.hid hb
      clear c1 c3 c4 ho hb
      go_wp2_with fail
      with_reducible refine c5.mono ?_
      rintro e w' ⟨rfl, hw⟩
      obtain rfl := hw.symm
      clear c5
      go_wp2
      go_ret
      exact ⟨⟨_, rfl, by rw [HS.out]; exact HO.out⟩, HB.out⟩
  · have c1 := may_no cap hr (by omega) (by simpa using hx)
    have HS := Lib.hid (sMul_no (xs := xs) (ys := xs) (by simp [hx]))
    clear hx ha hr
    go_enter Try.func28, Try.ntmps28
    go_wp2_with fail
    with_reducible refine c1.mono ?_
    rintro e w' ⟨rfl, hw⟩
    obtain rfl := hw.symm
    clear c1
    go_wp2
    go_ret
    exact ⟨⟨_, rfl, by rw [HS.out]; exact Own.nil _ _⟩, Below.refl _ w⟩

end Go.Proofs.Ytlfhpoffphljfaa

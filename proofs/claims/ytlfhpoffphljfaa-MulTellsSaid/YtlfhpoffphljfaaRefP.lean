/- References of layer 2: Pow whole; the law's copied, spoil. -/
import Derived.Test.YtlfhpoffphljfaaRefO
namespace Go.Proofs.Ytlfhpoffphljfaa
open Go.RowKit Go.Shelf

set_option linter.unusedVariables false

set_option maxRecDepth 100000 in
set_option maxHeartbeats 2000000 in
theorem rpow_any (va : Value) (xs : List Nat) (k : Int) (w : World) (ha : ArgZ w va xs) (hk : k < 9223372036854775808) : Calls Try.prog 37 #[va, .int .i64 k] w (NewL w (sPow xs k)) := by
  obtain ⟨A, cap, rfl, k1, k2, hr⟩ := id ha.1
  by_cases hx : mayb xs = true
  · have c1 := rmay_is cap hr (by omega) hx
    rcases Int.lt_or_le k 0 with h | h
    · have HS := Lib.hid (sPow_no2 (xs := xs) h)
      clear hx hr ha
      go_enter Try.func37, Try.ntmps37
      go_wp2_with fail
      with_reducible refine c1.mono ?_
      rintro e w' ⟨rfl, hw⟩
      obtain rfl := hw.symm
      clear c1
      go_wp2
      go_ret
      exact ⟨⟨_, rfl, by rw [HS.out]; exact Own.nil _ _⟩, Below.refl _ w⟩
    · obtain ⟨n, rfl⟩ := Int.eq_ofNat_of_zero_le h
      rcases Nat.eq_zero_or_pos n with h0 | h0
      · subst h0
        have hs : sPow xs ((0 : Nat) : Int) = [1] := sPow_eq hx (by decide) (Limbs.one (by decide)) (by simp [val])
        have HS := Lib.hid hs
        have ho : Own (w.alloc (.cells #[.int .u32 1] 28)) w.heap.size (.slice (some ⟨w.heap.size, 0, none⟩) 1 1) [1] := World.ownsRow_lit w _ 1 (Nat.le_refl _) (by decide) rfl
        have HO := Lib.hid ho
        clear hx hr ha hs ho
        go_enter Try.func37, Try.ntmps37
        go_wp2_with fail
        with_reducible refine c1.mono ?_
        rintro e w' ⟨rfl, hw⟩
        obtain rfl := hw.symm
        clear c1
        go_wp2
        go_ret
        exact ⟨⟨_, rfl, by rw [HS.out]; exact HO.out⟩, (Below.refl _ w).alloc (Nat.le_refl _) _⟩
      · rcases Nat.eq_zero_or_pos xs.length with h1 | h1
        · have hx0 : xs = [] := List.eq_nil_of_length_eq_zero h1
          have hs : sPow xs (n : Int) = [] := by rw [hx0]; exact sPow_eq (by decide) (by decide) limbs_nil (by simp only [val]; exact Nat.zero_pow h0)
          have HS := Lib.hid hs
          have hq1 : (((n : Nat) : Int) == 0) = false := beq_eq_false_iff_ne.2 (by omega)
          have hn0 : ¬ ((n : Int) < 0) := by omega
          clear hs hx hr ha h1 k1 k2
          subst hx0
          go_enter Try.func37, Try.ntmps37
          go_wp2_with fail
          refine c1.mono ?_
          rintro e w' ⟨rfl, hw⟩
          obtain rfl := hw.symm
          clear c1 h0 h hk
          go_wp2
          go_ret
          exact ⟨⟨_, rfl, by rw [HS.out]; exact Own.nil _ _⟩, Below.refl _ w⟩
        · rw [sPow_yes hx]
          exact rpow_yes A cap xs n w ha hx (by omega) h0 h1
  · have c1 := rmay_is cap hr (by omega) (b := false) (by simpa using hx)
    have HS := Lib.hid (sPow_no1 (xs := xs) (k := k) (by simpa using hx))
    clear hx ha hr
    go_enter Try.func37, Try.ntmps37
    go_wp2_with fail
    with_reducible refine c1.mono ?_
    rintro e w' ⟨rfl, hw⟩
    obtain rfl := hw.symm
    clear c1
    go_wp2
    go_ret
    exact ⟨⟨_, rfl, by rw [HS.out]; exact Own.nil _ _⟩, Below.refl _ w⟩

/-! ### copied -/
set_option maxHeartbeats 1000000 in
theorem copied_any {w : World} {v : Value} {xs : List Nat} (h : ArgZ w v xs) (h60 : xs.length ≤ 1048576) : Calls Try.prog 33 #[v] w (NewL w xs) := by
  obtain ⟨i0, hti, hz0, hz1, hz2⟩ := info_parts info32
  obtain ⟨⟨A, cap, rfl, g1, g2, hr⟩, hz⟩ := h
  have hown0 : (w.alloc (.cells #[] 28)).ownsRow w.heap.size 28 1 (.slice (some ⟨w.heap.size, 0, none⟩) 0 0) 0 [] := World.ownsRow_lit w #[] 0 (Nat.le_refl _) (by decide) rfl
  rcases A with _ | ad
  · obtain rfl := hz _ _ rfl
    obtain rfl : xs = [] := List.eq_nil_of_length_eq_zero (by omega)
    have HO := Lib.hid hown0
    have HB := Lib.hid ((Below.refl _ w).alloc (Nat.le_refl _) (.cells #[] 28))
    clear hr hz
    go_enter Try.func33, Try.ntmps33
    go_wp2_with (at_builtin; refine wpList_append_own_none rfl _ _ 26 rfl w.heap.size 28 i0 1 Try.underlying26 hti _ _ _ rfl hown0 rfl ?_; clear hown0)
    go_wp2
    go_ret
    exact ⟨⟨_, rfl, HO.out⟩, HB.out⟩
  · have hcell : ∀ j u, (u32s xs)[j]? = some u → (w.alloc (.cells #[] 28)).cell? (ad.add j) = some u := by
      intro j u hu
      have hj : j < xs.length := by
        have := (List.getElem?_eq_some_iff.1 hu).1
        simpa [u32s] using this
      obtain ⟨b, off, e, hlt, hcl⟩ := hr.2 (by omega)
      obtain rfl : ad = ⟨b, off, none⟩ := by simpa using e
      rw [Addr.add_mid]
      rw [((Below.refl _ w).alloc (Nat.le_refl _) (.cells #[] 28)).cell (p := ⟨b, off + j, none⟩) hlt, hcl j hj]
      rw [u32s, List.getElem?_map, List.getElem?_eq_getElem hj] at hu
      rw [List.getElem?_eq_getElem hj]
      exact hu
    have HC := Lib.hid hcell
    clear hcell hr hz
    go_enter Try.func33, Try.ntmps33
    go_wp2_with (at_builtin; refine wpList_append_own _ rfl _ _ 26 rfl w.heap.size 28 i0 (.int .u32 0) 1 4 Try.underlying26 hti hz0 hz1 hz2 rfl (by decide) _ _ _ rfl hown0 ad xs.length cap (u32s xs) rfl (by simp [u32s]) HC.out (u32s_one xs) (by unfold maxLen at *; omega) (by omega) (by simp) ?_; intro v' w2 hown' hgrow hgone; clear hgone)
    have hg2 : (w.alloc (.cells #[] 28)).grownBy w2 (some w.heap.size) := hgrow
    have hb2 : Below w.heap.size w w2 := ((Below.refl _ w).alloc (Nat.le_refl _) _).grown hg2 (by simp) (fun k hk => by cases hk; exact Nat.le_refl _)
    have hO : Own w2 w.heap.size v' xs := by unfold Own; simpa using hown'
    have HO := Lib.hid hO
    clear hO hown' hgrow hg2 HC
    go_wp2
    go_ret
    exact ⟨⟨_, rfl, HO.out⟩, hb2⟩

/-! ### spoil -/
/-- What lay below B lies as it lay; what was a row of the call's own is one still. -/
def Spoilt (B : Nat) (w w' : World) : Prop := Below B w w' ∧ ∀ v n zs, w.ownsRow B 28 1 v n zs → ∃ zs', w'.ownsRow B 28 1 v n zs'
theorem Spoilt.refl (B : Nat) (w : World) : Spoilt B w w := ⟨Below.refl _ _, fun v n zs h => ⟨zs, h⟩⟩
theorem Spoilt.trans {B : Nat} {a b c : World} (h : Spoilt B a b) (k : Spoilt B b c) : Spoilt B a c := ⟨h.1.trans k.1, fun v n zs ho => by
  obtain ⟨zs', h'⟩ := h.2 v n zs ho
  exact k.2 v n zs' h'⟩
theorem Spoilt.put {B g : Nat} (w : World) (j : Nat) (u : Value) (hg : B ≤ g) : Spoilt B w (w.setCell ⟨g, j, none⟩ u) := by
  refine ⟨(Below.refl B w).setCell hg u, fun v n zs ho => ?_⟩
  rcases ho.2 with ⟨rfl, h0⟩ | ⟨g', cap, cur, rfl, hb, hh, r⟩
  · exact ⟨zs, ho.1, .inl ⟨rfl, h0⟩⟩
  · by_cases e : g' = g
    · subst e
      exact ⟨_, (World.ownsRow.stored ho j u).1⟩
    · exact ⟨zs, ho.1, .inr ⟨g', cap, cur, rfl, hb, by rw [heap_setCell_other w ⟨g, j, none⟩ g' u (fun e2 => e (by simp [e2]))]; exact hh, r⟩⟩

set_option maxHeartbeats 1000000 in
theorem spoil_any {w : World} {B n : Nat} {v : Value} {zs : List Value} (h : w.ownsRow B 28 1 v n zs) (hn : n ≤ maxLen) : Calls Try.prog 38 #[v] w fun e w' => e = .returned (.tuple #[]) ∧ Spoilt B w w' := by
  unfold maxLen at hn
  rcases h.2 with ⟨rfl, h0⟩ | ⟨g, cap, cur, rfl, hb, hh, r⟩
  · clear h
    subst h0
    go_enter Try.func38, Try.ntmps38
    go_wp2
    go_loop [2] (fun i => i = .int .i64 0) (fun _ => 0)
    case atStart => rfl
    case round =>
      obtain rfl := hrel
      go_wp2
      go_end0
      exact ⟨rfl, Spoilt.refl _ _⟩
  · clear hh r
    go_enter Try.func38, Try.ntmps38
    go_wp2
    go_loopw [2] (fun i wr => ∃ (k : Nat) (ys : List Value), k ≤ n ∧ i = .int .i64 (k : Int) ∧ wr.ownsRow B 28 1 (.slice (some ⟨g, 0, none⟩) n cap) n ys ∧ Spoilt B w wr) (fun i _ => n - (intOf i).toNat)
    case atStart => exact ⟨0, zs, Nat.zero_le _, rfl, h, Spoilt.refl _ _⟩
    case round =>
      clear h
      obtain ⟨k, ys, hk, rfl, ho, hs⟩ := hrel
      by_cases hlt : k < n
      · have hl : ys.length = n := by have := ho.1; omega
        have hc := World.ownsRow.cellAt ho k (by omega)
        rw [List.getElem?_eq_getElem (by omega)] at hc
        have hf := World.ownsRow.frozenAt ho k
        have HO := Lib.hid (World.ownsRow.stored ho k (.int .u32 7)).1
        have HS := Lib.hid (hs.trans (Spoilt.put wr k (.int .u32 7) hb))
        generalize ys[k] = y at *
        clear ho hs hl
        go_wp2
        go_roundw
        case rel => exact ⟨k + 1, _, by omega, by go_num, HO.out, HS.out⟩
        case measure => simp [intOf]; omega
      · have HS := Lib.hid hs
        clear ho hs
        go_wp2
        go_end0
        exact ⟨rfl, HS.out⟩

end Go.Proofs.Ytlfhpoffphljfaa

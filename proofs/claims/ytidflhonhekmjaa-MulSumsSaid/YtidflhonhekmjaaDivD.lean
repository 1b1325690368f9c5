/- Contracts: slices.Clone, DivMod, Small. -/
import Derived.Laws.AppendOwnNone
import Derived.Deep.MidRow
import Derived.Lib.SliceRun
import Derived.Test.YtidflhonhekmjaaDivC
namespace Go.Proofs.Ytidflhonhekmjaa
open Go.RowKit Go.Shelf

set_option linter.unusedVariables false

theorem u32s_oneC (xs : List Nat) : ∀ u ∈ u32s xs, u.oneCell' = true := by
  intro u hu
  obtain ⟨x, _, rfl⟩ := List.mem_map.1 hu
  rfl
theorem own_empty (w : World) (B : Nat) : w.ownsRow B 26 1 (.slice none 0 0) 0 [] := World.ownsRow_nil _ _ _ _

set_option maxHeartbeats 1000000 in
theorem clone_none (n cap : Nat) (w : World) : Calls Try.prog 61 #[.slice none n cap] w fun e w' => e = .returned (.slice none 0 0) ∧ w' = w := by
  have qT : ∀ (w : World) (a : Option Addr) (n c n' c' : Nat), (binOp .eql 23 (.slice a n c) (.slice none n' c')).run Try.prog w = .ok (.bool a.isNone) w := fun w a n c n' c' => Lib.run_eql_slice_nil w _ _ a n c n' c' Try.underlying23
  go_enter Try.func61, Try.ntmps61
  go_wp2
  go_ret
  exact ⟨rfl, rfl⟩

set_option maxHeartbeats 1000000 in
theorem clone_some (ad : Addr) (cap : Nat) (xs : List Nat) (w : World) (hc : xs.length ≤ cap) (hm : cap ≤ maxLen) (hr : Rd w w.heap.size (some ad) xs) (h60 : xs.length ≤ 1048576) :
    Calls Try.prog 61 #[.slice (some ad) xs.length cap] w (NewL w xs) := by
  obtain ⟨i0, hi, hz0, hz1, hz2⟩ := info_parts info32
  have hown0 : (w.alloc (.cells #[] 26)).ownsRow w.heap.size 26 1 (.slice (some ⟨w.heap.size, 0, none⟩) 0 0) 0 [] := World.ownsRow_lit w #[] 0 (Nat.le_refl _) (by decide) rfl
  have hcell : ∀ j u, (u32s xs)[j]? = some u → (w.alloc (.cells #[] 26)).cell? (ad.add j) = some u := by
    intro j u hu
    have hj : j < xs.length := by
      have := (List.getElem?_eq_some_iff.1 hu).1
      simpa [u32s] using this
    obtain ⟨b, off, e, hlt, hcl⟩ := hr.2 (by omega)
    obtain rfl : ad = ⟨b, off, none⟩ := by simpa using e
    rw [Addr.add_mid]
    rw [((Below.refl _ w).alloc (Nat.le_refl _) (.cells #[] 26)).cell (p := ⟨b, off + j, none⟩) hlt, hcl j hj]
    rw [u32s, List.getElem?_map, List.getElem?_eq_getElem hj] at hu
    rw [List.getElem?_eq_getElem hj]
    exact hu
  have HC := Lib.hid hcell
  clear hcell hr
  have qT : ∀ (w : World) (a : Option Addr) (n c n' c' : Nat), (binOp .eql 23 (.slice a n c) (.slice none n' c')).run Try.prog w = .ok (.bool a.isNone) w := fun w a n c n' c' => Lib.run_eql_slice_nil w _ _ a n c n' c' Try.underlying23
  go_enter Try.func61, Try.ntmps61
  go_wp2_with (at_builtin; refine wpList_append_own _ rfl _ _ 23 rfl w.heap.size 26 i0 (.int .u32 0) 1 4 Try.underlying23 hi hz0 hz1 hz2 rfl (by decide) _ _ _ rfl hown0 ad xs.length cap (u32s xs) rfl (by simp [u32s]) HC.out (u32s_oneC xs) (by unfold maxLen at *; omega) (by omega) (by simp) ?_; intro v' w2 hown' hgrow hgone; clear hgone)
  have hg2 : (w.alloc (.cells #[] 26)).grownBy w2 (some w.heap.size) := hgrow
  have hb2 : Below w.heap.size w w2 := ((Below.refl _ w).alloc (Nat.le_refl _) _).grown hg2 (by simp) (fun k hk => by cases hk; exact Nat.le_refl _)
  have hO : Own w2 w.heap.size v' xs := by unfold Own; simpa using hown'
  have HO := Lib.hid hO
  clear hO hown' hgrow hg2 HC
  go_wp2
  go_ret
  exact ⟨⟨_, rfl, HO.out⟩, hb2⟩
theorem clone_any (A : Option Addr) (cap : Nat) (xs : List Nat) (w : World) (hc : xs.length ≤ cap) (hm : cap ≤ maxLen) (hr : Rd w w.heap.size A xs) (h60 : xs.length ≤ 1048576) :
    Calls Try.prog 61 #[.slice A xs.length cap] w (NewL w xs) := by
  rcases A with _ | ad
  · have : xs = [] := by
      rcases Nat.eq_zero_or_pos xs.length with h0 | h0
      · exact List.eq_nil_of_length_eq_zero h0
      · obtain ⟨_, _, e, _⟩ := hr.2 h0
        cases e
    subst this
    exact (clone_none _ _ w).mono fun e w' ⟨he, hw⟩ => by subst he hw; exact ⟨⟨_, rfl, Own.nil _ _⟩, Below.refl _ _⟩
  · exact clone_some ad cap xs w hc hm hr h60


/-! ### DivMod -/
def sDivE (xs ys : List Nat) : Nat := if mayb xs && mayb ys then (if ys.length = 0 then 41 else 0) else 4
def sDivQ (xs ys : List Nat) : List Nat := if sDivE xs ys = 0 then lim (val xs / val ys) else []
def sDivR (xs ys : List Nat) : List Nat := if sDivE xs ys = 0 then lim (val xs % val ys) else []
theorem sDivE_may {xs ys : List Nat} (h : (mayb xs && mayb ys) = false) : sDivE xs ys = 4 := by unfold sDivE; rw [h]; rfl
theorem sDivE_zero {xs ys : List Nat} (h : (mayb xs && mayb ys) = true) (h0 : ys.length = 0) : sDivE xs ys = 41 := by unfold sDivE; rw [h]; simp [h0]
theorem sDivE_ok {xs ys : List Nat} (h : (mayb xs && mayb ys) = true) (h0 : 0 < ys.length) : sDivE xs ys = 0 := by unfold sDivE; rw [h, if_pos rfl, if_neg (by omega)]
theorem sDivQ_no {xs ys : List Nat} (h : sDivE xs ys ≠ 0) : sDivQ xs ys = [] := if_neg h
theorem sDivR_no {xs ys : List Nat} (h : sDivE xs ys ≠ 0) : sDivR xs ys = [] := if_neg h
theorem sDivQ_ok {xs ys : List Nat} (h : sDivE xs ys = 0) : sDivQ xs ys = lim (val xs / val ys) := if_pos h
theorem sDivR_ok {xs ys : List Nat} (h : sDivE xs ys = 0) : sDivR xs ys = lim (val xs % val ys) := if_pos h
/-- Quotient, remainder, and an error in new memory. -/
def DMPost (q r : List Nat) (E : Nat) (w : World) (e : Ending) (w' : World) : Prop :=
  (∃ v v', e = .returned (.tuple #[v, v', .int .i64 (E : Int)]) ∧ Own w' w.heap.size v q ∧ Own w' w.heap.size v' r ∧ Apart v v') ∧ Below w.heap.size w w'
theorem DMPost.no {q r : List Nat} {E : Nat} {w : World} (hq : q = []) (hr : r = []) : DMPost q r E w (.returned (.tuple #[.slice none 0 0, .slice none 0 0, .int .i64 (E : Int)])) w :=
  ⟨⟨_, _, rfl, by rw [hq]; exact Own.nil _ _, by rw [hr]; exact Own.nil _ _, apart_nil _⟩, Below.refl _ _⟩

set_option maxHeartbeats 4000000 in
theorem divmod_ok (A A' : Option Addr) (cap cap' : Nat) (xs ys : List Nat) (w : World) (hr : Rd w w.heap.size A xs) (hr' : Rd w w.heap.size A' ys) (hc : xs.length ≤ cap) (hm : cap ≤ maxLen) (hc' : ys.length ≤ cap') (hm' : cap' ≤ maxLen) (hx : mayb xs = true) (hy : mayb ys = true) (h0 : 0 < ys.length) :
    Calls Try.prog 33 #[.slice A xs.length cap, .slice A' ys.length cap'] w (DMPost (lim (val xs / val ys)) (lim (val xs % val ys)) 0 w) := by
  have hxm := (mayb_iff.1 hx).1
  have hym := (mayb_iff.1 hy).1
  have cx := mayb_canon hr.limbs hx
  have cy := mayb_canon hr'.limbs hy
  have c1 := may_yes cap hr (by omega) hx
  have c2 := may_yes cap' hr' (by omega) hy
  have hz : (((ys.length : Nat) : Int) == 0) = false := beq_eq_false_iff_ne.2 (by omega)
  have hvp := cy.val_pos (fun e => by rw [e] at h0; simp at h0)
  by_cases h1 : ys.length = 1
  · obtain ⟨b, o, rfl, hb, hcell⟩ := hr'.2 h0
    have hcl := hcell 0 h0
    rw [Nat.add_zero] at hcl
    have hyl := hr'.limbs.getD 0
    have hv : val ys = ys[0]?.getD 0 := by
      obtain ⟨y, rfl⟩ := List.length_eq_one_iff.1 h1
      rw [val, val, Nat.mul_zero, Nat.add_zero]; rfl
    rw [hv] at hvp
    have c3 := byLimb_any A cap xs (ys[0]?.getD 0) w hr (by omega) hvp hyl
    rw [← hv] at c3
    rw [h1] at c2 ⊢
    have HV := Lib.hid hv
    have hmod : val xs % val ys < 4294967296 := by rw [hv]; exact Nat.lt_trans (Nat.mod_lt _ hvp) hyl
    have c4 := fun W => of_any (val xs % val ys) W (by omega)
    rw [hv] at c3 hmod
    simp only [hv] at c4
    generalize hg : ys[0]?.getD 0 = y at *
    have HG := Lib.hid hg
    clear hcell hv hx hy cx cy hr hr' hg
    rw [HV.out]
    generalize hmm : val xs % y = md at *
    have HMM := Lib.hid hmm
    clear hmm
    go_enter Try.func33, Try.ntmps33
    go_wp2_with fail
    with_reducible refine c1.mono ?_
    rintro e w' ⟨rfl, hw⟩
    obtain rfl := hw.symm
    go_wp2_with fail
    with_reducible refine c2.mono ?_
    rintro e w' ⟨rfl, hw⟩
    obtain rfl := hw.symm
    clear c1 c2
    go_wp2_with fail
    with_reducible refine c3.mono ?_
    rintro e w1 ⟨⟨v, rfl, ho⟩, hb1⟩
    rw [HMM.out]
    have HO := Lib.hid ho
    have HB := Lib.hid hb1
    clear c3 ho hb1
    go_wp2_with fail
    with_reducible refine (c4 w1).mono ?_
    rintro e w2 ⟨⟨v2, rfl, ho2⟩, hb2⟩
    have HO1 := Lib.hid (HO.out.below hb2)
    have HO2 := Lib.hid (ho2.more HB.out.size)
    have HAP := Lib.hid (HO.out.apart ho2)
    have HB2 := Lib.hid (HB.out.trans (hb2.mono HB.out.size))
    clear c4 ho2 hb2
    go_wp2
    go_ret3
    exact ⟨⟨_, _, rfl, HO1.out, HO2.out, HAP.out⟩, HB2.out⟩
  · have hz1 : (((ys.length : Nat) : Int) == 1) = false := beq_eq_false_iff_ne.2 (by omega)
    have c3 := cmp_any A A' cap cap' xs ys w _ hr hr' (by omega) (by omega)
    rw [sCmp_yes (by simp [hx, hy])] at c3
    rcases Nat.lt_or_ge (val xs) (val ys) with hlt | hge
    · rw [cmpN_lt hlt] at c3
      rw [Nat.div_eq_of_lt hlt, Nat.mod_eq_of_lt hlt, lim_zero, lim_val cx]
      have c4 := clone_any A cap xs (w.drewN 0) hc hm hr (by omega)
      have c4 := fun nn => clone_any A cap xs (w.drewN nn) hc hm (hr.drewN nn) (by omega)
      have hlv := lim_val cx
      have HLV := Lib.hid hlv
      have HXl := Lib.hid cx.1
      clear hlv cx cy hr hr' hx hy hlt
      go_enter Try.func33, Try.ntmps33
      go_wp2_with fail
      with_reducible refine c1.mono ?_
      rintro e w' ⟨rfl, hw⟩
      obtain rfl := hw.symm
      go_wp2_with fail
      with_reducible refine c2.mono ?_
      rintro e w' ⟨rfl, hw⟩
      obtain rfl := hw.symm
      clear c1 c2
      go_wp2_with fail
      with_reducible refine c3.mono ?_
      rintro e w1 ⟨rfl, nn, rfl⟩
      clear c3
      go_wp2_with fail
      with_reducible refine (c4 nn).mono ?_
      rintro e w2 ⟨⟨v, rfl, ho⟩, hb2⟩
      obtain ⟨A2, cap2, rfl, k1, k2, hrd⟩ := ho.rd HXl.out
      have c5 := dtrim_any A2 cap2 xs w2 _ hrd k1 k2
      rw [HLV.out] at c5
      have ho3 := trimV_own ho
      have HO := Lib.hid ho3
      have HB := Lib.hid hb2
      clear c4 ho hb2 ho3 hrd
      go_wp2_with fail
      with_reducible refine c5.mono ?_
      rintro e w' ⟨rfl, hw⟩
      obtain rfl := hw.symm
      clear c5
      go_wp2
      go_ret3
      exact ⟨⟨_, _, rfl, Own.nil _ _, HO.out, apart_nil _⟩, ⟨HB.out.os, HB.out.tape, HB.out.output, HB.out.size, HB.out.block⟩⟩
    · have hle : ys.length ≤ xs.length := by
        rcases Nat.lt_or_ge xs.length ys.length with h | h
        · have := val_lt_len hr.limbs cy h; omega
        · exact h
      have hcm : ∃ z : Int, cmpN (val xs) (val ys) = z ∧ 0 ≤ z := by
        rcases Nat.lt_or_ge (val ys) (val xs) with h | h
        · exact ⟨1, cmpN_gt h, by decide⟩
        · exact ⟨0, cmpN_eq (by omega), by decide⟩
      obtain ⟨z, hz2, hz3⟩ := hcm
      rw [hz2] at c3
      have c4 := fun nn => dbyLimbs_any A A' cap cap' xs ys (w.drewN nn) (hr.drewN nn) (hr'.drewN nn) hx hy (by omega) hle
      generalize val xs / val ys = q at *
      generalize val xs % val ys = r at *
      clear cx cy hr hr' hx hy hge hvp hle hz2
      go_enter Try.func33, Try.ntmps33
      go_wp2_with fail
      with_reducible refine c1.mono ?_
      rintro e w' ⟨rfl, hw⟩
      obtain rfl := hw.symm
      go_wp2_with fail
      with_reducible refine c2.mono ?_
      rintro e w' ⟨rfl, hw⟩
      obtain rfl := hw.symm
      clear c1 c2
      go_wp2_with fail
      with_reducible refine c3.mono ?_
      rintro e w1 ⟨rfl, nn, rfl⟩
      clear c3
      go_wp2_with fail
      with_reducible refine (c4 nn).mono ?_
      rintro e w2 ⟨⟨v, v', rfl, ho, ho', hap⟩, hb2⟩
      have HAP := Lib.hid hap
      have HO := Lib.hid ho
      have HO' := Lib.hid ho'
      have HB := Lib.hid hb2
      clear c4 ho ho' hb2 hap
      go_wp2
      go_ret3
      exact ⟨⟨_, _, rfl, HO.out, HO'.out, HAP.out⟩, ⟨HB.out.os, HB.out.tape, HB.out.output, HB.out.size, HB.out.block⟩⟩

set_option maxHeartbeats 4000000 in
theorem divmod_any (va vb : Value) (xs ys : List Nat) (w : World) (ha : Arg w va xs) (hb : Arg w vb ys) : Calls Try.prog 33 #[va, vb] w (DMPost (sDivQ xs ys) (sDivR xs ys) (sDivE xs ys) w) := by
  obtain ⟨A, cap, rfl, k1, k2, hr⟩ := ha
  obtain ⟨A', cap', rfl, k1', k2', hr'⟩ := hb
  by_cases hx : mayb xs = true
  · by_cases hy : mayb ys = true
    · have hxy : (mayb xs && mayb ys) = true := by simp [hx, hy]
      rcases Nat.eq_zero_or_pos ys.length with h0 | h0
      · have hE := sDivE_zero hxy h0
        have HQ := Lib.hid (sDivQ_no (xs := xs) (ys := ys) (by rw [hE]; decide))
        have HR := Lib.hid (sDivR_no (xs := xs) (ys := ys) (by rw [hE]; decide))
        rw [hE]
        have c1 := may_yes cap hr (by omega) hx
        have c2 := may_yes cap' hr' (by omega) hy
        rw [h0] at c2 ⊢
        clear hE hx hy hxy h0 hr hr'
        go_enter Try.func33, Try.ntmps33
        go_wp2_with fail
        with_reducible refine c1.mono ?_
        rintro e w' ⟨rfl, hw⟩
        obtain rfl := hw.symm
        go_wp2_with fail
        with_reducible refine c2.mono ?_
        rintro e w' ⟨rfl, hw⟩
        obtain rfl := hw.symm
        clear c1 c2
        go_wp2
        go_ret3
        exact DMPost.no HQ.out HR.out
      · have hE := sDivE_ok hxy h0
        rw [hE, sDivQ_ok hE, sDivR_ok hE]
        exact divmod_ok A A' cap cap' xs ys w hr hr' k1 k2 k1' k2' hx hy h0
    · have hE := sDivE_may (xs := xs) (ys := ys) (by simp [hy])
      have HQ := Lib.hid (sDivQ_no (xs := xs) (ys := ys) (by rw [hE]; decide))
      have HR := Lib.hid (sDivR_no (xs := xs) (ys := ys) (by rw [hE]; decide))
      rw [hE]
      have c1 := may_yes cap hr (by omega) hx
      have c2 := may_no cap' hr' (by omega) (by simpa using hy)
      clear hE hx hy hr hr'
      go_enter Try.func33, Try.ntmps33
      go_wp2_with fail
      with_reducible refine c1.mono ?_
      rintro e w' ⟨rfl, hw⟩
      obtain rfl := hw.symm
      go_wp2_with fail
      with_reducible refine c2.mono ?_
      rintro e w' ⟨rfl, hw⟩
      obtain rfl := hw.symm
      clear c1 c2
      go_wp2
      go_ret3
      exact DMPost.no HQ.out HR.out
  · have hE := sDivE_may (xs := xs) (ys := ys) (by simp [hx])
    have HQ := Lib.hid (sDivQ_no (xs := xs) (ys := ys) (by rw [hE]; decide))
    have HR := Lib.hid (sDivR_no (xs := xs) (ys := ys) (by rw [hE]; decide))
    rw [hE]
    have c1 := may_no cap hr (by omega) (by simpa using hx)
    clear hE hx hr hr'
    go_enter Try.func33, Try.ntmps33
    go_wp2_with fail
    with_reducible refine c1.mono ?_
    rintro e w' ⟨rfl, hw⟩
    obtain rfl := hw.symm
    clear c1
    go_wp2
    go_ret3
    exact DMPost.no HQ.out HR.out

/-! ### Small -/
def sSmE (xs : List Nat) (m : Nat) : Nat := if mayb xs then (if m = 0 then 41 else 0) else 4
def sSmQ (xs : List Nat) (m : Nat) : List Nat := if sSmE xs m = 0 then lim (val xs / m) else []
def sSmR (xs : List Nat) (m : Nat) : Nat := if sSmE xs m = 0 then val xs % m else 0
def SmPost (q : List Nat) (r E : Nat) (w : World) (e : Ending) (w' : World) : Prop :=
  (∃ v, e = .returned (.tuple #[v, .int .u32 (r : Int), .int .i64 (E : Int)]) ∧ Own w' w.heap.size v q) ∧ Below w.heap.size w w'
theorem SmPost.no {q : List Nat} {r E : Nat} {w : World} (hq : q = []) (hr : r = 0) : SmPost q r E w (.returned (.tuple #[.slice none 0 0, .int .u32 0, .int .i64 (E : Int)])) w := by
  subst hq hr; exact ⟨⟨_, rfl, Own.nil _ _⟩, Below.refl _ _⟩
set_option maxHeartbeats 4000000 in
theorem dsmall_any (va : Value) (xs : List Nat) (m : Nat) (w : World) (ha : Arg w va xs) (hm : m < 4294967296) : Calls Try.prog 36 #[va, .int .u32 (m : Int)] w (SmPost (sSmQ xs m) (sSmR xs m) (sSmE xs m) w) := by
  obtain ⟨A, cap, rfl, k1, k2, hr⟩ := ha
  by_cases hx : mayb xs = true
  · have c1 := may_yes cap hr (by omega) hx
    have hxm := (mayb_iff.1 hx).1
    rcases Nat.eq_zero_or_pos m with h0 | h0
    · subst h0
      have hE : sSmE xs 0 = 41 := by unfold sSmE; rw [hx]; rfl
      have HQ : Hid (sSmQ xs 0 = []) := if_neg (by rw [hE]; decide)
      have HR : Hid (sSmR xs 0 = 0) := if_neg (by rw [hE]; decide)
      rw [hE]
      clear hE hx hr
      go_enter Try.func36, Try.ntmps36
      go_wp2_with fail
      with_reducible refine c1.mono ?_
      rintro e w' ⟨rfl, hw⟩
      obtain rfl := hw.symm
      clear c1
      go_wp2
      go_ret3
      exact SmPost.no HQ.out HR.out
    · have hE : sSmE xs m = 0 := by unfold sSmE; rw [hx, if_pos rfl, if_neg (by omega)]
      have HQ : sSmQ xs m = lim (val xs / m) := if_pos hE
      have HR : sSmR xs m = val xs % m := if_pos hE
      rw [hE, HQ, HR]
      have c2 := byLimb_any A cap xs m w hr (by omega) h0 hm
      have hz : ((m : Int) == 0) = false := beq_eq_false_iff_ne.2 (by omega)
      clear hE hx hr HQ HR
      go_enter Try.func36, Try.ntmps36
      go_wp2_with fail
      with_reducible refine c1.mono ?_
      rintro e w' ⟨rfl, hw⟩
      obtain rfl := hw.symm
      clear c1
      go_wp2_with fail
      with_reducible refine c2.mono ?_
      rintro e w1 ⟨⟨v, rfl, ho⟩, hb1⟩
      have HO := Lib.hid ho
      have HB := Lib.hid hb1
      clear c2 ho hb1
      generalize val xs % m = md at *
      go_wp2
      go_ret3
      exact ⟨⟨_, rfl, HO.out⟩, HB.out⟩
  · have c1 := may_no cap hr (by omega) (by simpa using hx)
    have hE : sSmE xs m = 4 := by unfold sSmE; rw [Bool.eq_false_iff.2 hx]; rfl
    have HQ : Hid (sSmQ xs m = []) := if_neg (by rw [hE]; decide)
    have HR : Hid (sSmR xs m = 0) := if_neg (by rw [hE]; decide)
    rw [hE]
    clear hE hx hr
    go_enter Try.func36, Try.ntmps36
    go_wp2_with fail
    with_reducible refine c1.mono ?_
    rintro e w' ⟨rfl, hw⟩
    obtain rfl := hw.symm
    clear c1
    go_wp2
    go_ret3
    exact SmPost.no HQ.out HR.out

end Go.Proofs.Ytidflhonhekmjaa

/- Contract: Split. -/
import Derived.Test.YtileljokijmpaaaDoorDecG
namespace Go.Proofs.YtileljokijmpaaaDoor
open Go.RowKit Go.Shelf

set_option linter.unusedVariables false

def sHi (xs : List Nat) (k : Int) : List Nat := if mayb xs && decide (0 ≤ k) then lim (val xs / 10 ^ k.toNat) else []
def sLo (xs : List Nat) (k : Int) : List Nat := if mayb xs && decide (0 ≤ k) then lim (val xs % 10 ^ k.toNat) else []
theorem sHi_no {xs : List Nat} {k : Int} (h : ¬ (mayb xs = true ∧ 0 ≤ k)) : sHi xs k = [] := by
  unfold sHi; rw [if_neg]; simpa using h
theorem sLo_no {xs : List Nat} {k : Int} (h : ¬ (mayb xs = true ∧ 0 ≤ k)) : sLo xs k = [] := by
  unfold sLo; rw [if_neg]; simpa using h
theorem sHi_yes {xs : List Nat} (h : mayb xs = true) (k : Nat) : sHi xs (k : Int) = lim (val xs / 10 ^ k) := by
  unfold sHi; rw [if_pos (by simp [h])]; rfl
theorem sLo_yes {xs : List Nat} (h : mayb xs = true) (k : Nat) : sLo xs (k : Int) = lim (val xs % 10 ^ k) := by
  unfold sLo; rw [if_pos (by simp [h])]; rfl
theorem sHi_limbs (xs : List Nat) (k : Int) : Limbs (sHi xs k) := by
  unfold sHi; split
  · exact lim_limbs _
  · exact limbs_nil
theorem sLo_limbs (xs : List Nat) (k : Int) : Limbs (sLo xs k) := by
  unfold sLo; split
  · exact lim_limbs _
  · exact limbs_nil
def SplitPost (hi lo : List Nat) (w : World) (e : Ending) (w' : World) : Prop :=
  (∃ v v', e = .returned (.tuple #[v, v']) ∧ Own w' w.heap.size v hi ∧ Own w' w.heap.size v' lo) ∧ Below w.heap.size w w'

set_option maxRecDepth 100000 in
set_option maxHeartbeats 4000000 in
theorem split_any (va : Value) (xs : List Nat) (k : Int) (w : World) (ha : Arg w va xs) (hk : k < 9223372036854775808) (hk0 : -9223372036854775808 ≤ k) : Calls Tryd.prog 13 #[va, .int .i64 k] w (SplitPost (sHi xs k) (sLo xs k) w) := by
  obtain ⟨A, cap, rfl, hcc, hcm, hrd⟩ := id ha
  by_cases hneg : k < 0
  · have h1 := Lib.hid (sHi_no (xs := xs) (k := k) (fun h => by omega))
    have h2 := Lib.hid (sLo_no (xs := xs) (k := k) (fun h => by omega))
    clear ha hrd
    go_enter Tryd.func13, Tryd.ntmps13
    go_wp2
    go_ret2
    exact ⟨⟨_, _, rfl, by rw [h1.out]; exact Own.nil _ _, by rw [h2.out]; exact Own.nil _ _⟩, Below.refl _ _⟩
  · have c0 := may_any A cap xs w _ hrd (by omega)
    rcases hm : mayb xs with _ | _
    · rw [hm] at c0
      have h1 := Lib.hid (sHi_no (xs := xs) (k := k) (fun h => by rw [hm] at h; cases h.1))
      have h2 := Lib.hid (sLo_no (xs := xs) (k := k) (fun h => by rw [hm] at h; cases h.1))
      clear ha hrd hm
      go_enter Tryd.func13, Tryd.ntmps13
      go_wp2_with fail
      refine c0.mono ?_
      rintro e w' ⟨rfl, hw⟩
      obtain rfl := hw.symm
      clear c0
      go_wp2
      go_ret2
      exact ⟨⟨_, _, rfl, by rw [h1.out]; exact Own.nil _ _, by rw [h2.out]; exact Own.nil _ _⟩, Below.refl _ _⟩
    · rw [hm] at c0
      obtain ⟨q, rfl⟩ : ∃ q : Nat, k = (q : Int) := ⟨k.toNat, by omega⟩
      have h1 := sHi_yes hm q
      have h2 := sLo_yes hm q
      have c1 := digits_any _ xs w ha
      rw [sDigits_yes hm] at c1
      have hlim := lim_val (mayb_canon hrd.limbs hm)
      have hb := lt_nd (val xs)
      have hnl := nd_le (may_lt hrd.limbs hm (Nat.le_refl 631306)) (by decide)
      rcases Nat.lt_or_ge q (nd (val xs)) with hq | hq
      · have hle : 10 ^ q ≤ val xs ∨ val xs = 0 := by
          rcases Nat.eq_zero_or_pos (val xs) with h | h
          · exact .inr h
          · have := nd_ge (n := val xs) (by omega)
            have h3 := Nat.pow_le_pow_right (n := 10) (by decide) (show q ≤ nd (val xs) - 1 by omega)
            omega
        have hfit : (lim (10 ^ q)).length ≤ 65536 := by
          rcases hle with h | h
          · have h3 := lim_len_mono h
            rw [hlim] at h3
            have := (mayb_iff.1 hm).1
            omega
          · rw [h, nd_zero] at hq
            exact ten_fits (k := 1) (by decide) (by obtain rfl : q = 0 := by omega
                                                    decide)
        have hpos : 0 < (lim (10 ^ q)).length := List.length_pos_iff.2 (fun e => by
          rw [lim_eq_nil] at e
          exact absurd e (Nat.ne_of_gt (Nat.pow_pos (by decide))))
        have hE : sDivE xs (lim (10 ^ q)) = 0 := sDivE_ok (by rw [hm, mayb_lim hfit]; rfl) hpos
        have hQ : sDivQ xs (lim (10 ^ q)) = sHi xs q := by rw [sDivQ_ok hE, val_lim, h1]
        have hR : sDivR xs (lim (10 ^ q)) = sLo xs q := by rw [sDivR_ok hE, val_lim, h2]
        have ht := sPow_ten q
        rw [clip_of hfit] at ht
        have HT := Lib.hid ht
        have HA := Lib.hid ha
        have HE := Lib.hid hE
        have HQ := Lib.hid hQ
        have HR := Lib.hid hR
        have hqi : decide (((nd (val xs) : Nat) : Int) ≤ (q : Int)) = false := decide_eq_false (by omega)
        have hTl := lim_limbs (10 ^ q)
        generalize nd (val xs) = N at *
        generalize lim (10 ^ q) = T at *
        have HTL := Lib.hid hTl
        have HC2 := Lib.hid (show ∀ w1, Calls Tryd.prog 10 #[.int .i64 (q : Int)] w1 (NewL w1 T) from fun w1 => by have := ten_any (q : Int) w1 hk hk0; rwa [HT.out] at this)
        have hq0 : decide ((q : Int) < 0) = false := decide_eq_false (by omega)
        generalize (q : Int) = qi at *
        clear h1 h2 ha hrd hm hlim hb hle hE hQ hR ht hfit hpos hTl hq hneg hnl hk hk0
        go_enter Tryd.func13, Tryd.ntmps13
        go_wp2_with fail
        refine c0.mono ?_
        rintro e w' ⟨rfl, hw⟩
        obtain rfl := hw.symm
        clear c0
        go_wp2_with fail
        refine c1.mono ?_
        rintro e w1 ⟨rfl, hb1⟩
        clear c1
        have c2 := HC2.out w1

        go_wp2_with fail
        refine c2.mono ?_
        rintro e w2 ⟨⟨v, rfl, ho⟩, hb2⟩
        clear c2
        have hb12 := hb1.trans (hb2.mono hb1.size)
        have c3 := divmod_any _ v xs _ w2 (HA.out.below hb12) (ho.arg HTL.out)
        rw [HE.out, HQ.out, HR.out] at c3
        obtain ⟨Av, cv, rfl⟩ := own_form ho rfl
        have HB := Lib.hid hb12
        clear ho hb1 hb2 hb12
        go_wp2_with fail
        refine c3.mono ?_
        rintro e w3 ⟨⟨x, x', rfl, ho1, ho2, _⟩, hb3⟩
        clear c3
        have HO1 := Lib.hid (ho1.more HB.out.size)
        have HO2 := Lib.hid (ho2.more HB.out.size)
        have HB3 := Lib.hid (HB.out.trans (hb3.mono HB.out.size))
        clear ho1 ho2 hb3
        go_wp2
        go_ret2
        exact ⟨⟨_, _, rfl, HO1.out, HO2.out⟩, HB3.out⟩
      · have hlt : val xs < 10 ^ q := lt_of_nd hq
        rw [Nat.div_eq_of_lt hlt, lim_zero] at h1
        rw [Nat.mod_eq_of_lt hlt, hlim] at h2
        have hadd : sAdd xs [] = xs := by
          unfold sAdd
          rw [hm, mayb_nil]
          show clip (val xs + 0) = xs
          exact clip_val hrd.limbs hm
        have H1 := Lib.hid h1
        have H2 := Lib.hid h2
        have HA := Lib.hid ha
        have HAD := Lib.hid hadd
        have hqi : ((nd (val xs) : Nat) : Int) ≤ (q : Int) := by omega
        generalize nd (val xs) = N at *
        clear h1 h2 ha hrd hm hlim hb hadd hlt
        go_enter Tryd.func13, Tryd.ntmps13
        go_wp2_with fail
        refine c0.mono ?_
        rintro e w' ⟨rfl, hw⟩
        obtain rfl := hw.symm
        clear c0
        go_wp2_with fail
        refine c1.mono ?_
        rintro e w1 ⟨rfl, hb1⟩
        clear c1
        have hA1 := HA.out.below hb1
        obtain ⟨_, _, e6, h6, h7, hrA⟩ := id hA1
        injection e6 with e6 e7 e8
        subst e6 e8
        have c2 := add_any A none cap 0 xs [] w1 hrA (Rd.nil _ _ _) (by omega) (by decide)
        rw [HAD.out] at c2
        have HB := Lib.hid hb1
        clear hb1 hA1 hrA
        go_wp2_with fail
        refine c2.mono ?_
        rintro e w2 ⟨⟨v, rfl, ho⟩, hb2⟩
        clear c2
        have HO := Lib.hid (ho.more HB.out.size)
        have HB2 := Lib.hid (HB.out.trans (hb2.mono HB.out.size))
        clear ho hb2
        go_wp2
        go_ret2
        exact ⟨⟨_, _, rfl, by rw [H1.out]; exact Own.nil _ _, by rw [H2.out]; exact HO.out⟩, HB2.out⟩

end Go.Proofs.YtileljokijmpaaaDoor

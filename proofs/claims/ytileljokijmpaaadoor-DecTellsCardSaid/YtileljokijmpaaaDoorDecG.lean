/- Contracts: powersUpTo, Show. -/
import Derived.Test.YtileljokijmpaaaDoorOwnL
import Derived.Test.YtileljokijmpaaaDoorDecLog
import Derived.Test.YtileljokijmpaaaDoorDecF
import Derived.Test.YtileljokijmpaaaDoorDecH
namespace Go.Proofs.YtileljokijmpaaaDoor
open Go.RowKit Go.Shelf

set_option linter.unusedVariables false

def pws (k : Nat) : List (List Nat) := (List.range k).map fun j => lim (10 ^ (9 * 2 ^ j))
theorem pws_length (k : Nat) : (pws k).length = k := by simp [pws]
theorem pws_at {k j : Nat} (h : j < k) : (pws k)[j]?.getD [] = lim (10 ^ (9 * 2 ^ j)) := by
  unfold pws; rw [List.getElem?_map, List.getElem?_range h]; rfl
theorem pws_succ (k : Nat) : pws (k + 1) = pws k ++ [lim (10 ^ (9 * 2 ^ k))] := by
  unfold pws; rw [List.range_succ, List.map_append]; rfl
/-- What powersUpTo hands back. -/
def PUPost (n : Nat) (w : World) (e : Ending) (w' : World) : Prop :=
  (∃ v k, e = .returned v ∧ OwnL w' w.heap.size v (pws k) ∧ n < 10 ^ (9 * 2 ^ k) ∧ 9 * 2 ^ k ≤ 1262612 ∧ ∀ j, j < k → 10 ^ (9 * 2 ^ j) ≤ n) ∧ Below w.heap.size w w'

theorem row_form {w : World} {B n size : Nat} {e : TypeId} {v : Value} {us : List Value} (h : w.ownsRow B e size v n us) : ∃ A cap, v = .slice A n cap := by
  rcases h.2 with ⟨rfl, h0⟩ | ⟨g, cap, cur, rfl, _⟩
  · exact ⟨none, 0, by rw [h0]⟩
  · exact ⟨_, cap, rfl⟩
theorem nine_pow {k n : Nat} (hn : nd n ≤ 631306) (h : 10 ^ (9 * 2 ^ k) ≤ n) : 9 * 2 ^ (k + 1) ≤ 1262612 := by
  have := nd_gt h
  rw [Nat.pow_succ]
  omega
theorem pow_two_lt {k : Nat} (h : 9 * 2 ^ k ≤ 1262612) : k ≤ 18 := by
  rcases Nat.lt_or_ge 18 k with h1 | h1
  · have := Nat.pow_le_pow_right (n := 2) (by decide) h1
    omega
  · exact h1

set_option maxRecDepth 100000 in
set_option maxHeartbeats 8000000 in
theorem powers_any (va : Value) (xs : List Nat) (w : World) (ha : Arg w va xs) (hm : mayb xs = true) : Calls Tryd.prog 32 #[va] w (PUPost (val xs) w) := by
  obtain ⟨i0, hi, hz0, hz1, hz2⟩ := info_parts infoL
  obtain ⟨A, cap, rfl, hcc, hcm, hrd⟩ := id ha
  have hnl := nd_le (may_lt hrd.limbs hm (Nat.le_refl 631306)) (by decide)
  have hlx := hrd.limbs
  have c0 := of_any 1000000000 w (by decide)
  have HA := Lib.hid ha
  have HM := Lib.hid hm
  have HL := Lib.hid hlx
  have HN := Lib.hid hnl
  clear ha hrd hm hlx hnl
  go_enter Tryd.func32, Tryd.ntmps32
  go_wp2_with fail
  refine c0.mono ?_
  rintro e w1 ⟨⟨p0, rfl, ho0⟩, hb0⟩
  clear c0
  have hf0 : Own w1 w.heap.size p0 (clip (10 ^ (9 * 2 ^ 0))) := by
    rw [clip_of (ten_fits (k := 10) (by decide) (by decide))]
    exact ho0
  go_wp2_with fail
  go_loopw [3, 4] (fun l p wr => ∃ k : Nat, 9 * 2 ^ k ≤ 1262612 ∧ (∀ j, j < k → 10 ^ (9 * 2 ^ j) ≤ val xs) ∧ OwnL wr w.heap.size l (pws k) ∧ Own wr w.heap.size p (clip (10 ^ (9 * 2 ^ k))) ∧ Below w.heap.size w wr) (fun l _ _ => 20 - lenOf l)
  case atStart => exact ⟨0, by decide, fun j hj => by omega, OwnL.nil _ _, hf0, hb0⟩
  case round =>
    clear ho0 hb0 hf0
    obtain ⟨k, hk, hle, hL, hp, hB⟩ := hrel
    have hk18 := pow_two_lt hk
    have hLl := pws_length k
    have hvs := hL
    obtain ⟨us, hul, hrow, hall⟩ := hvs
    rw [hLl] at hul hrow hall
    have hP0 : 10 ^ (9 * 2 ^ k) ≠ 0 := Nat.ne_of_gt (Nat.pow_pos (by decide))
    have hdbl : 10 ^ (9 * 2 ^ (k + 1)) = 10 ^ (9 * 2 ^ k) * 10 ^ (9 * 2 ^ k) := by
      rw [← Nat.pow_add]; congr 1; rw [Nat.pow_succ]; omega
    generalize hP : 10 ^ (9 * 2 ^ k) = P at *
    obtain ⟨Ap, cp, rfl⟩ := own_form hp rfl
    have HPe := Lib.hid hP
    have HLE := Lib.hid hle
    have HLL := Lib.hid hL
    have HB := Lib.hid hB
    have HOP := Lib.hid hp
    have HDB := Lib.hid hdbl
    obtain ⟨Al, cl, rfl⟩ := row_form hrow
    by_cases hnil : clip P = []
    · have hlt := clip_ten_nil HL.out HM.out hP0 hnil
      have hl0 : (clip P).length = 0 := by rw [hnil]; rfl
      have HLT := Lib.hid hlt
      clear hle hL hrow hall hp hB hP hdbl hnil hP0
      rw [hl0]
      go_wp2_with fail
      go_ret
      exact ⟨⟨_, k, rfl, HLL.out, by rw [HPe.out]; exact HLT.out, hk, HLE.out⟩, HB.out⟩
    · have hfit : (lim P).length ≤ 65536 := by
        rcases Nat.lt_or_ge 65536 (lim P).length with h | h
        · exact absurd (clip_not (by omega)) hnil
        · exact h
      have hce := clip_of hfit
      have hlp : 0 < (clip P).length := List.length_pos_iff.2 hnil
      have hlpc := clip_length P
      have hmP : mayb (clip P) = true := clip_may P
      obtain ⟨_, _, e3, h3, h4, hrP⟩ := hp.rd (clip_limbs P)
      injection e3 with e3 e4 e5
      subst e3 e5
      obtain ⟨_, _, e6, h6, h7, hrA⟩ := id HA.out
      injection e6 with e6 e7 e8
      subst e6 e8
      have c1 := cmp_any Ap A cp cap (clip P) xs wr wr.heap.size hrP ((hrA.below hB (Nat.le_refl _)).more hB.size) (by omega) (by omega)
      have hcmp : sCmp (clip P) xs = cmpN P (val xs) := by rw [sCmp_yes (by rw [hmP, HM.out]; rfl), hce, val_lim]
      rw [hcmp] at c1
      have hsq : sMul (clip P) (clip P) = clip (P * P) := by rw [sMul_yes (by rw [hmP]; rfl), hce, val_lim]
      have HSQ := Lib.hid hsq
      have HMP := Lib.hid hmP
      have HCE := Lib.hid hce
      clear hle hL hB hdbl hnil hP0 hP hrP hrA hcmp hsq hmP h3 h4 hce hfit
      by_cases hle : P ≤ val xs
      · have hcm : cmpN P (val xs) ≤ 0 := by
          unfold cmpN
          split
          · decide
          · rw [if_neg (by omega)]; decide
        have HLE2 := Lib.hid hle
        generalize cmpN P (val xs) = cmpv at *
        clear hle
        go_wp2_with fail
        refine c1.mono ?_
        rintro e w' ⟨rfl, nq, hw⟩
        subst hw
        clear c1
        have hrow2 : (wr.drewN nq).ownsRow w.heap.size 24 1 (.slice Al k cl) k us := hrow
        have HOP2 : Hid (Own (wr.drewN nq) w.heap.size (.slice Ap (clip P).length cp) (clip P)) := HOP.out
        have HAL2 : Hid (∀ j, j < k → Own (wr.drewN nq) w.heap.size (us[j]?.getD undef) ((pws k)[j]?.getD [])) := hall
        have HB2 := Lib.hid (below_drewN HB.out nq)
        have hbs := HB2.out.size
        clear hrow hall hp HOP HB HLL
        generalize wr.drewN nq = w2 at *
        go_wp2_with (at_builtin; refine wpList_append_own _ rfl _ _ 58 rfl w.heap.size 24 i0 (.slice none 0 0) 1 24 Tryd.underlying58 hi hz0 hz1 hz2 rfl (by decide) _ _ _ rfl (hrow2.alloc _) ⟨w2.heap.size, 0, none⟩ 1 1 [_] rfl rfl (cell_one_new _ _ _) (by simp [Value.oneCell']) (by unfold maxLen; omega) (by omega) (by simp; omega) ?_; intro v' w3 hown' hgrow hgone; clear hgone)
        have hb3 := HB2.out.trans (appended_plain hrow2 hbs hgrow).2
        have HO3 := Lib.hid (own_past (by decide) hrow2 HOP2.out hgrow)
        have HN3 := Lib.hid (OwnL.snoc (L := pws k) (by rw [pws_length]; exact hul) (by rw [pws_length]; exact hrow2) (by rw [pws_length]; exact HAL2.out) HOP2.out (by rw [pws_length]; exact hown') hgrow)
        have hlv : lenOf v' = k + 1 := by
          obtain ⟨Ax, cx, rfl⟩ := row_form hown'
          rfl
        have HB3 := Lib.hid hb3
        have c2 := square_any _ _ w3 (HO3.out.arg (clip_limbs P))
        rw [HSQ.out] at c2
        clear hown' hgrow hb3 hrow2
        refine c2.mono ?_
        rintro e w4 ⟨⟨v4, rfl, ho4⟩, hb4⟩
        clear c2
        have HO4 := Lib.hid (ho4.more HB3.out.size)
        have HN4 := Lib.hid (HN3.out.below hb4)
        have HB4 := Lib.hid (HB3.out.trans (hb4.mono HB3.out.size))
        clear ho4 hb4
        go_wp2_with fail
        go_roundw
        case rel => exact ⟨k + 1, nine_pow HN.out (by rw [HPe.out]; exact HLE2.out), fun j hj => by
          rcases Nat.lt_or_ge j k with h | h
          · exact HLE.out j h
          · obtain rfl : j = k := by omega
            rw [HPe.out]; exact HLE2.out, by rw [pws_succ, HPe.out, ← HCE.out]; exact HN4.out, by rw [HDB.out]; exact HO4.out, HB4.out⟩
        case measure => rw [hlv]; simp [lenOf]; omega
      · have hcm : ¬ cmpN P (val xs) ≤ 0 := by
          rw [cmpN_gt (by omega)]; decide
        have HLT := Lib.hid (show val xs < P by omega)
        generalize cmpN P (val xs) = cmpv at *
        clear hle
        go_wp2_with fail
        refine c1.mono ?_
        rintro e w' ⟨rfl, nq, hw⟩
        subst hw
        clear c1
        go_wp2_with fail
        go_ret
        exact ⟨⟨_, k, rfl, HLL.out, by rw [HPe.out]; exact HLT.out, hk, HLE.out⟩, below_drewN HB.out nq⟩

theorem OwnL.rowsB {w : World} {B : Nat} {v : Value} {L : List (List Nat)} (h : OwnL w B v L) (hl : ∀ j, j < L.length → Limbs (L[j]?.getD [])) : RowsB w w.heap.size v L := by
  obtain ⟨vs, hvl, ho, ha⟩ := h
  rcases ho.2 with ⟨rfl, h0⟩ | ⟨g, cap, cur, rfl, hb, hh, hle, hm, r⟩
  · exact ⟨none, 0, vs, by rw [h0], by omega, by decide, fun j hj => by omega, fun h => by omega⟩
  · refine ⟨_, cap, vs, rfl, hle, hm, fun j hj => (ha j hj).arg (hl j hj), fun h0 => ⟨g, 0, rfl, (Array.getElem?_eq_some_iff.1 hh).1, fun j hj => ?_⟩⟩
    have hc := World.ownsRow.cellAt ho j (by omega)
    rw [Nat.zero_add, hc, List.getElem?_eq_getElem (by omega)]
    rfl
/-- bytes that were made -/
theorem text_made {w : World} {B g n : Nat} (h : w.ownsRow B 5 1 (.slice (some ⟨g, 0, none⟩) n n) n (madeCells (Value.int .u8 0).cells (n * 1)).toList) : TextAt w g (List.replicate n 0) := by
  have e : (madeCells (Value.int .u8 0).cells (n * 1)).toList = b8s (List.replicate n 0) := by
    rw [show (Value.int .u8 0).cells = #[.int .u8 0] from rfl, toList_madeCells_one, Nat.mul_one, b8s, List.map_replicate]; rfl
  rw [e] at h
  rcases h.2 with ⟨e1, _⟩ | ⟨g', cap, cur, e1, hb, hh, hle, hm, hs, ht⟩
  · cases e1
  · injection e1 with e1 e2 e3
    injection e1 with e1
    injection e1 with e1
    subst e1 e3
    unfold TextAt
    rw [hh]
    have : cur = (b8s (List.replicate n 0)).toArray := by
      apply Array.ext'
      rw [← ht]
      rw [List.take_of_length_le (by simp [hs])]
    rw [this]

set_option maxRecDepth 100000 in
set_option maxHeartbeats 8000000 in
theorem show_yes (va : Value) (xs : List Nat) (w : World) (ha : Arg w va xs) (hm : mayb xs = true) : Calls Tryd.prog 16 #[va] w fun e w' => e = .returned (.string (str (txt (val xs)))) ∧ Below w.heap.size w w' := by
  obtain ⟨i0, hi, hz0, hz1, hz2⟩ := info_parts info8
  obtain ⟨A, cap, rfl, hcc, hcm, hrd⟩ := id ha
  have c0 := may_any A cap xs w _ hrd (by omega)
  rw [hm] at c0
  have c1 := powers_any _ xs w ha hm
  have HA := Lib.hid ha
  have HM := Lib.hid hm
  clear ha hrd hm
  go_enter Tryd.func16, Tryd.ntmps16
  go_wp2_with fail
  refine c0.mono ?_
  rintro e w' ⟨rfl, hw⟩
  obtain rfl := hw.symm
  clear c0
  go_wp2_with fail
  refine c1.mono ?_
  rintro e w1 ⟨⟨v, k, rfl, hL, hlt, hsz, hle⟩, hb1⟩
  clear c1
  have hk18 := pow_two_lt hsz
  obtain ⟨Al, cl, rfl⟩ : ∃ A cap, v = .slice A k cap := by
    obtain ⟨us, hul, hrow, hall⟩ := hL
    rw [pws_length] at hrow
    exact row_form hrow
  have HL := Lib.hid hL
  have HLT := Lib.hid hlt
  have HLE := Lib.hid hle
  have HB1 := Lib.hid hb1
  obtain ⟨N, hN⟩ : ∃ N : Nat, N = 9 * 2 ^ k := ⟨_, rfl⟩
  rw [← hN] at hsz hlt
  have hsh : (9 : Int) * 2 ^ k = (N : Int) := by rw [hN]; simp
  have HNN := Lib.hid hN
  clear hL hlt hle hb1 hN
  go_wp2_with (at_make; refine wpList_make_full _ rfl _ _ 60 rfl w1.heap.size 5 i0 (.int .u8 0) 1 Tryd.underlying60 hi hz0 hz1 .i64 .i64 _ _ N rfl rfl rfl rfl (by rw [hz2]; omega) (by unfold maxLen; omega) (Nat.le_refl _) ?_; intro w2 hown0 hgrow0)
  have hb2 : Below w1.heap.size w1 w2 := (Below.refl _ w1).grown hgrow0 (Nat.le_refl _) (fun _ h => by cases h)
  have ht2 := text_made hown0
  have hA1 := HA.out.below HB1.out
  have hA2 := (hA1.argO (Nat.le_refl _)).but (but_of (g := w1.heap.size) hb2)
  have hP2 := (HL.out.rowsB (fun j hj => by rw [pws_length] at hj; rw [pws_at hj]; exact lim_limbs _)).below hb2 (Nat.le_refl _)
  have hN0 : 0 < N := by rw [HNN.out]; have := Nat.two_pow_pos k; omega
  have hpw : Pows (pws k) := fun j hj => by
    rw [pws_length] at hj
    refine ⟨pws_at hj, ?_⟩
    have h1 := lim_len_mono (HLE.out j hj)
    have h2 := (mayb_iff.1 HM.out).1
    rw [lim_val (mayb_canon hA1.limbs HM.out)] at h1
    omega
  have cp := put_any k w1.heap.size 0 N _ Al cl (pws k) xs (List.replicate N 0) w2 (by rw [HNN.out]; exact Nat.le_refl _) ht2 (by rw [List.length_replicate, HNN.out]; omega) (by rw [List.length_replicate]; omega) hA2 HM.out (by have := HLT.out; exact this) hP2 (pws_length k) hpw
  rw [← HNN.out] at cp
  have HB2 := Lib.hid (HB1.out.trans (hb2.mono HB1.out.size))
  have HV : Hid (val xs < 10 ^ N) := by show _ < _; rw [HNN.out]; exact HLT.out
  clear hown0 hgrow0 ht2 hA1 hA2 hP2 hpw hb2
  go_wp2_with fail
  refine cp.mono ?_
  rintro e w3 ⟨rfl, ht3, hg3⟩
  clear cp
  have hsp : splice (List.replicate N 0) 0 (pad (val xs) N) = pad (val xs) N := by
    unfold splice
    rw [List.take_zero, List.nil_append, pad_length, Nat.zero_add, List.drop_eq_nil_of_le (by simp), List.append_nil]
  rw [hsp] at ht3
  have hlen := pad_length (val xs) N
  have hcell : ∀ j, j < N → w3.cell? ⟨w1.heap.size, j, none⟩ = some (bv ((pad (val xs) N)[j]?.getD 0)) := fun j hj => by
    rw [cell_of_row _ _ _ _ _ _ ht3]
    rw [List.getElem?_toArray, b8s_at (by omega)]
  have HC := Lib.hid hcell
  have c2 := trimLeft_any w1.heap.size N (pad (val xs) N) w3 hlen hcell (by omega) hN0
  unfold TrimPost at c2
  rw [hlen, cut_zeros HV.out] at c2
  have HB3 := Lib.hid (HB2.out.trans (but_below hg3 HB1.out.size HB2.out.size))
  have HSP := Lib.hid hlen
  clear hcell hsp ht3 hg3 hlen
  go_wp2_with fail
  refine c2.mono ?_
  rintro e w4 ⟨⟨q, hq, hqN, rfl⟩, rfl⟩
  clear c2
  by_cases hz : val xs = 0
  · rw [if_pos hz] at hq
    have hqe : q = N := by
      have := congrArg List.length hq
      rw [List.length_drop, HSP.out] at this
      simp at this
      omega
    rw [if_pos hqe]
    have HZ := Lib.hid hz
    clear hq hqe hqN hz
    go_wp2
    go_ret
    exact ⟨by rw [HZ.out, txt_zero]; rfl, HB3.out⟩
  · rw [if_neg hz] at hq
    have hql : (txt (val xs)).length = N - q := by
      rw [hq, List.length_drop, HSP.out]
    have hqe : ¬ q = N := by
      intro h
      have := txt_ne (val xs)
      rw [hq] at this
      exact this (List.drop_eq_nil_of_le (by rw [HSP.out]; omega))
    rw [if_neg hqe]
    have hbk := back_str (w := w4) (g := w1.heap.size) (off := q) (cap := N - q) (txt_alld (val xs)).codes (fun j hj => by
      rw [HC.out (q + j) (by omega), hq, List.getElem?_drop])
    rw [hql] at hbk
    have hnq : ¬ ((N - q : Nat) : Int) = 0 := by omega
    clear hq hz hqN
    go_wp2
    go_ret
    exact ⟨rfl, HB3.out⟩

theorem show_any (va : Value) (xs : List Nat) (w : World) (ha : Arg w va xs) : Calls Tryd.prog 16 #[va] w fun e w' => e = .returned (.string (str (sShow xs))) ∧ Below w.heap.size w w' := by
  rcases hm : mayb xs with _ | _
  · rw [sShow_no hm]
    obtain ⟨A, cap, rfl, hcc, hcm, hrd⟩ := ha
    have c0 := may_any A cap xs w _ hrd (by omega)
    rw [hm] at c0
    clear hm hrd
    go_enter Tryd.func16, Tryd.ntmps16
    go_wp2_with fail
    refine c0.mono ?_
    rintro e w' ⟨rfl, hw⟩
    obtain rfl := hw.symm
    clear c0
    go_wp2
    go_ret
    exact ⟨rfl, Below.refl _ _⟩
  · rw [sShow_yes hm]
    exact show_yes va xs w ha hm

/-! ### Ten, Digits, Split -/
theorem ten_any (k : Int) (w : World) (hk : k < 9223372036854775808) (hk0 : -9223372036854775808 ≤ k) : Calls Tryd.prog 10 #[.int .i64 k] w (NewL w (sPow [10] k)) := by
  have c0 := of_any 10 w (by decide)
  have hl10 : lim 10 = [10] := lim_eq (zs := [10]) (by decide) (Limbs.one (by decide)) (by decide)
  rw [hl10] at c0
  go_enter Tryd.func10, Tryd.ntmps10
  go_wp2_with fail
  refine c0.mono ?_
  rintro e w1 ⟨⟨v, rfl, ho⟩, hb⟩
  clear c0
  have c1 := pow_any v [10] k w1 (ho.arg (Limbs.one (by decide))) hk hk0
  have HB := Lib.hid hb
  clear ho hb
  go_wp2_with fail
  refine c1.mono ?_
  rintro e w2 ⟨⟨v2, rfl, ho2⟩, hb2⟩
  clear c1
  have HO := Lib.hid (ho2.more HB.out.size)
  have HB2 := Lib.hid (HB.out.trans (hb2.mono HB.out.size))
  clear ho2 hb2
  go_wp2
  go_ret
  exact ⟨⟨_, rfl, HO.out⟩, HB2.out⟩
theorem sPow_ten (k : Nat) : sPow [10] (k : Int) = clip (10 ^ k) := by
  rw [sPow_yes (by decide)]
  rfl

def sDigits (xs : List Nat) : Nat := if mayb xs then nd (val xs) else 0
theorem sDigits_yes {xs : List Nat} (h : mayb xs = true) : sDigits xs = nd (val xs) := by unfold sDigits; rw [h]; rfl
theorem sDigits_no {xs : List Nat} (h : mayb xs = false) : sDigits xs = 0 := by unfold sDigits; rw [h]; rfl

set_option maxRecDepth 100000 in
set_option maxHeartbeats 4000000 in
theorem digits_any (va : Value) (xs : List Nat) (w : World) (ha : Arg w va xs) : Calls Tryd.prog 17 #[va] w fun e w' => e = .returned (.int .i64 (sDigits xs : Nat)) ∧ Below w.heap.size w w' := by
  obtain ⟨A, cap, rfl, hcc, hcm, hrd⟩ := id ha
  have c0 := may_any A cap xs w _ hrd (by omega)
  rcases hm : mayb xs with _ | _
  · rw [hm] at c0
    have HD := Lib.hid (sDigits_no hm)
    clear hm hrd ha
    go_enter Tryd.func17, Tryd.ntmps17
    go_wp2_with fail
    refine c0.mono ?_
    rintro e w' ⟨rfl, hw⟩
    obtain rfl := hw.symm
    clear c0
    go_wp2
    go_ret
    exact ⟨ret_int (by rw [HD.out]; rfl), Below.refl _ _⟩
  · rw [hm] at c0
    have hd := sDigits_yes hm
    rcases Nat.eq_zero_or_pos xs.length with h0 | h0
    · have hx : xs = [] := List.eq_nil_of_length_eq_zero h0
      subst hx
      rw [show val [] = 0 from rfl, nd_zero] at hd
      have HD := Lib.hid hd
      clear hm hrd ha hd
      go_enter Tryd.func17, Tryd.ntmps17
      go_wp2_with fail
      refine c0.mono ?_
      rintro e w' ⟨rfl, hw⟩
      obtain rfl := hw.symm
      clear c0
      go_wp2
      go_ret
      exact ⟨ret_int (by rw [HD.out]; rfl), Below.refl _ _⟩
    · have c1 := bits_any A cap xs w _ hrd (by omega)
      have hcan := mayb_canon hrd.limbs hm
      have hvp := hcan.val_pos (fun e => by rw [e] at h0; simp at h0)
      have hbl : sBits xs ≤ 2097152 := sBits_le' hrd.limbs
      have hb0 : 0 < sBits xs := by rw [sBits_yes hm]; exact blen_pos (by omega)
      obtain ⟨m, hmm⟩ : ∃ m, sBits xs = m + 1 := ⟨sBits xs - 1, by omega⟩
      obtain ⟨k, hk⟩ : ∃ k : Nat, k = m * 30102999566 / 100000000000 := ⟨_, rfl⟩
      have hnd := nd_bits (n := val xs) (m := m) (k := k) (by rw [← sBits_yes hm, hmm]) (by omega) (by omega) (by omega)
      have c2 := ten_any ((k + 1 : Nat) : Int) w (by omega) (by omega)
      rw [sPow_ten, show ((k + 1 : Nat) : Int) = (k : Int) + 1 from rfl] at c2
      rw [hmm] at c1
      have q2 : (m : Int) * 30102999566 / 100000000000 = (k : Int) := by omega
      have HD := Lib.hid hd
      have HND := Lib.hid hnd
      have HA := Lib.hid ha
      have HM := Lib.hid hm
      have hmb : m ≤ 2097152 := by omega
      have hkb : k ≤ 2097152 := by omega
      have q00 : ((xs.length : Int) == 0) = false := beq_eq_false_iff_ne.2 (by omega)
      clear hd hnd ha hrd hm hmm hk hcan hbl hb0
      go_enter Tryd.func17, Tryd.ntmps17
      go_wp2_with fail
      refine c0.mono ?_
      rintro e w' ⟨rfl, hw⟩
      obtain rfl := hw.symm
      clear c0
      go_wp2_with fail
      refine c1.mono ?_
      rintro e w' ⟨rfl, hw⟩
      obtain rfl := hw.symm
      clear c1
      go_wp2_with fail
      refine c2.mono ?_
      rintro e w1 ⟨⟨v, rfl, ho⟩, hb⟩
      clear c2
      have hP0 : 10 ^ (k + 1) ≠ 0 := Nat.ne_of_gt (Nat.pow_pos (by decide))
      have hne : clip (10 ^ (k + 1)) = [] → nd (val xs) = k + 1 := fun h => by
        have h1 := clip_ten_nil HA.out.limbs HM.out hP0 h
        have h2 := nd_le h1 (by omega)
        have := HND.out
        omega
      have hlt : val xs < 10 ^ (k + 1) → nd (val xs) = k + 1 := fun h => by
        have h2 := nd_le h (by omega)
        have := HND.out
        omega
      have hge : 10 ^ (k + 1) ≤ val xs → nd (val xs) = k + 2 := fun h => by
        have h2 := nd_gt h
        have := HND.out
        omega
      generalize 10 ^ (k + 1) = P at *
      obtain ⟨Ap, cp, rfl⟩ := own_form ho rfl
      obtain ⟨_, _, e3, h3, h4, hrP⟩ := ho.rd (clip_limbs P)
      injection e3 with e3 e4 e5
      subst e3 e5
      have hA1 := HA.out.below hb
      obtain ⟨_, _, e6, h6, h7, hrA⟩ := id hA1
      injection e6 with e6 e7 e8
      subst e6 e8
      have c3 := cmp_any A Ap cap cp xs (clip P) w1 w1.heap.size hrA hrP (by omega) (by omega)
      have HB := Lib.hid hb
      by_cases hnil : clip P = []
      · have HN := Lib.hid (hne hnil)
        have hl0 : (clip P).length = 0 := by rw [hnil]; rfl
        clear hne hlt hge ho hb hrP hA1 hrA c3 hnil hP0 h3 h4
        rw [hl0]
        go_wp2
        go_ret
        exact ⟨ret_int (by rw [HD.out, HN.out]; omega), HB.out⟩
      · have hfit : (lim P).length ≤ 65536 := by
          rcases Nat.lt_or_ge 65536 (lim P).length with h | h
          · exact absurd (clip_not (by omega)) hnil
          · exact h
        have hlp : 0 < (clip P).length := List.length_pos_iff.2 hnil
        have hlpc := clip_length P
        have hcmp : sCmp xs (clip P) = cmpN (val xs) P := by rw [sCmp_yes (by rw [clip_may P, HM.out]; rfl), clip_of hfit, val_lim]
        rw [hcmp] at c3
        have hp0 : (((clip P).length : Int) == 0) = false := beq_eq_false_iff_ne.2 (by omega)
        have HLT := Lib.hid hlt
        have HGE := Lib.hid hge
        clear hne hlt hge ho hb hrP hA1 hrA hnil hP0 h3 h4 hfit hcmp
        by_cases hle : val xs < P
        · have hcm : cmpN (val xs) P < 0 := by rw [cmpN_lt hle]; decide
          have HN := Lib.hid (HLT.out hle)
          generalize cmpN (val xs) P = cv at *
          clear hle
          go_wp2_with fail
          refine c3.mono ?_
          rintro e w' ⟨rfl, nq, hw⟩
          subst hw
          clear c3
          go_wp2
          go_ret
          exact ⟨ret_int (by rw [HD.out, HN.out]; omega), below_drewN HB.out nq⟩
        · have hcm : ¬ cmpN (val xs) P < 0 := by
            unfold cmpN
            rw [if_neg hle]
            split <;> decide
          have HN := Lib.hid (HGE.out (by omega))
          generalize cmpN (val xs) P = cv at *
          clear hle
          go_wp2_with fail
          refine c3.mono ?_
          rintro e w' ⟨rfl, nq, hw⟩
          subst hw
          clear c3
          go_wp2
          go_ret
          exact ⟨ret_int (by rw [HD.out, HN.out]; omega), below_drewN HB.out nq⟩

end Go.Proofs.YtileljokijmpaaaDoor

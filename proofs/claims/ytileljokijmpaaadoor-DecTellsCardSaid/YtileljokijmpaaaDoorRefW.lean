/- References of layer 4: Parse, Ten. -/
import Derived.Test.YtileljokijmpaaaDoorLawA
import Derived.Test.YtileljokijmpaaaDoorPackS
import Derived.Test.YtileljokijmpaaaDoorDecF
namespace Go.Proofs.YtileljokijmpaaaDoor
open Go.RowKit Go.Shelf

set_option linter.unusedVariables false
set_option linter.unusedSimpArgs false

theorem str_byte {L : List Nat} (hc : Codes L) {k : Nat} (hk : k < L.length) : ∀ h : k < (str L).size, ((str L)[k]'h).toNat = L[k]?.getD 0 := fun h => by
  rw [str_at hk h, UInt8.toNat_ofNat', Nat.mod_eq_of_lt (hc _ (by rw [List.getElem?_eq_getElem hk]; exact List.getElem_mem hk))]
theorem parse_no {w w' : World} {L : List Nat} (h : isT L = false) (hb : Below w.heap.size w w') : ParsePost w (pN L) (pE L) (.returned (.tuple #[.slice none 0 0, .int .i64 4])) w' := by
  rw [pN_no h, pE_no h]
  exact ⟨⟨_, rfl, World.ownsRow_nil _ _ _ _⟩, hb⟩
theorem dv_take_le (L : List Nat) (k : Nat) : dv (L.take k) ≤ dv L := by
  have h : dv L = dv (L.take k ++ L.drop k) := by rw [List.take_append_drop]
  rw [h, dv_append]
  exact Nat.le_trans (Nat.le_mul_of_pos_right _ (Nat.pow_pos (by decide))) (Nat.le_add_right _ _)
theorem parse_over {w w' : World} {L : List Nat} {D k : Nat} (h : isT L = true) (hD : dv (L.take k) = D) (hf : ¬ (lim D).length ≤ 65536) (hb : Below w.heap.size w w') : ParsePost w (pN L) (pE L) (.returned (.tuple #[.slice none 0 0, .int .i64 40])) w' := by
  have h1 : ¬ (lim (dv L)).length ≤ 65536 := fun h2 => hf (Nat.le_trans (lim_len_mono (by rw [← hD]; exact dv_take_le L k)) h2)
  unfold pN pE
  rw [h, if_pos rfl, if_pos rfl, if_neg h1, clip_over h1]
  exact ⟨⟨_, rfl, World.ownsRow_nil _ _ _ _⟩, hb⟩
theorem parse_all {w w' : World} {L : List Nat} {D : Nat} {v : Value} (h : isT L = true) (hD : dv L = D) (hf : (lim D).length ≤ 65536) (ho : Own w' w.heap.size v (lim D)) (hb : Below w.heap.size w w') : ParsePost w (pN L) (pE L) (.returned (.tuple #[v, .int .i64 0])) w' := by
  subst hD
  unfold pN pE
  rw [h, if_pos rfl, if_pos rfl, if_pos hf, clip_of hf]
  exact ⟨⟨_, rfl, ho⟩, hb⟩
theorem dv_take_next {L : List Nat} {k : Nat} (hk : k < L.length) : dv (L.take (k + 1)) = 10 * dv (L.take k) + (L[k]?.getD 0 - 48) := by
  rw [List.take_succ_eq_append_getElem hk, dv_snoc, List.getElem?_eq_getElem hk]; rfl

set_option maxRecDepth 100000 in
set_option maxHeartbeats 8000000 in
/-- one more digit, the natural at the loop's head; what the loop does is told by 'J' and by 'over' -/
theorem rnext {D d : Nat} (hf : (lim D).length ≤ 65536) : sSmall (lim D) 10 d = clip (10 * D + d) := by
  rw [sSmall_yes (mayb_lim hf), val_lim, Nat.mul_comm]

set_option maxRecDepth 100000 in
set_option maxHeartbeats 8000000 in
theorem rparse_any (L : List Nat) (w : World) (hc : Codes L) (hl : L.length < 9223372036854775808) :
    Calls Tryd.prog 19 #[.string (str L)] w (ParsePost w (pN L) (pE L)) := by
  have hsz := str_size L
  have e1 := str_beq hc (show Codes [] from fun c h => by cases h)
  rw [show (str []).toList = [] from by rw [str_toList]; rfl] at e1
  go_enter Tryd.func19, Tryd.ntmps19
  go_wp2
  go_loopw [4] (fun i wr => ∃ k : Nat, k ≤ L.length ∧ i = .int .i64 (k : Int) ∧ AllD (L.take k) ∧ wr = w) (fun i _ => L.length - (intOf i).toNat)
  case atStart => exact ⟨0, Nat.zero_le _, rfl, by rw [List.take_zero]; exact alld_nil, rfl⟩
  case round =>
    obtain ⟨k, hk, rfl, hA, hw⟩ := hrel
    obtain rfl := hw.symm
    by_cases hlt : k < L.length
    · have hx := str_byte hc hlt
      have HM := Lib.hid (show L[k]?.getD 0 ∈ L by rw [List.getElem?_eq_getElem hlt]; exact List.getElem_mem hlt)
      have HN := Lib.hid (show 48 ≤ L[k]?.getD 0 ∧ L[k]?.getD 0 ≤ 57 → AllD (L.take (k + 1)) from fun h => by
        rw [List.take_succ_eq_append_getElem hlt]
        exact hA.append fun c hc => by
          rw [List.mem_singleton.1 hc]
          rw [List.getElem?_eq_getElem hlt] at h
          exact h)
      have hcb := hc _ HM.out
      clear e1 hA
      generalize L[k]?.getD 0 = c at *
      by_cases h48 : c < 48
      · have HP := Lib.hid (parse_no (isT_bad HM.out (fun h => by omega)) (Below.refl w.heap.size w))
        go_wp2
        go_ret2
        exact HP.out
      · by_cases h57 : 57 < c
        · have HP := Lib.hid (parse_no (isT_bad HM.out (fun h => by omega)) (Below.refl w.heap.size w))
          go_wp2
          go_ret2
          exact HP.out
        · go_wp2
          go_roundw
          case rel => exact ⟨k + 1, by omega, by go_num, HN.out ⟨by omega, by omega⟩, trivial⟩
          case measure => simp [intOf]; omega
    · obtain rfl : k = L.length := by omega
      rw [List.take_length] at hA
      by_cases h0 : L = []
      · subst h0
        have e2 : (str []).toList.isEmpty = true := by rw [str_toList]; rfl
        have HP := Lib.hid (parse_no (L := []) rfl (Below.refl w.heap.size w))
        go_wp2
        go_ret2
        exact HP.out
      · have hlen : 0 < L.length := List.length_pos_iff.2 h0
        have e2 : (str L).toList.isEmpty = false := by
          rw [str_toList]
          cases L with
          | nil => exact absurd rfl h0
          | cons a r => rfl
        rw [decide_eq_false h0] at e1
        have e3 := str_byte hc hlen
        have AD := Lib.hid hA
        by_cases hc48 : L[0]?.getD 0 = 48
        · rw [hc48] at e3
          by_cases h1 : 1 < L.length
          · have HP := Lib.hid (parse_no (L := L) (w := w) (w' := w) (by
              rcases hb : isT L with _ | _
              · rfl
              · have := (isT_iff.1 hb).2.2 (by rw [List.head?_eq_getElem?]; rw [List.getElem?_eq_getElem hlen] at hc48 ⊢; exact congrArg some hc48)
                omega) (Below.refl w.heap.size w))
            clear hA h0 hc48
            go_wp2
            go_ret2
            exact HP.out
          · have TT := Lib.hid (isT_iff.2 ⟨hA, h0, fun _ => by omega⟩)
            clear hA h0 hc48
            go_wp2_with fail
            go_loopw [5, 6] (fun nv i wr => ∃ k : Nat, k ≤ L.length ∧ i = .int .i64 (k : Int) ∧ Own wr w.heap.size nv (lim (dv (L.take k))) ∧ (lim (dv (L.take k))).length ≤ 65536 ∧ Below w.heap.size w wr) (fun _ i _ => L.length - (intOf i).toNat)
            case atStart => exact ⟨0, Nat.zero_le _, rfl, by rw [List.take_zero, dv_nil, lim_zero]; exact World.ownsRow_nil _ _ _ _, by rw [List.take_zero, dv_nil, lim_zero]; exact Nat.zero_le _, Below.refl _ _⟩
            case round =>
              obtain ⟨k, hk, rfl, ho, hfit, hB⟩ := hrel
              obtain ⟨A, cap, rfl⟩ := own_form ho rfl
              by_cases hlt : k < L.length
              · have hx := str_byte hc hlt
                have hD := AD.out (L[k]?.getD 0) (by rw [List.getElem?_eq_getElem hlt]; exact List.getElem_mem hlt)
                have hn := dv_take_next hlt
                generalize dv (L.take k) = D at *
                generalize L[k]?.getD 0 = c at *
                obtain ⟨d, hd⟩ : ∃ d, d = c - 48 := ⟨_, rfl⟩
                rw [← hd] at hn
                have q8 : (c : Int) - 48 = (d : Int) := by omega
                have hd9 : d < 10 := by omega
                have hc1 := hD.1
                have hc2 := hD.2
                obtain ⟨_, _, e3, h3, h4, hrd⟩ := ho.rd (lim_limbs D)
                injection e3 with e3 e4 e5
                subst e3 e5
                have c1 : Calls Tryd.prog 38 #[.slice A (lim D).length cap, .int .u32 10, .int .u32 (d : Int)] wr (NewL wr (sSmall (lim D) 10 d)) := rsmall_any A cap (lim D) 10 d wr hrd (by unfold maxLen; omega) (by decide) (by omega)
                rw [rnext hfit] at c1
                have HB := Lib.hid hB
                have HD := Lib.hid hn
                have HF := Lib.hid hfit
                clear hn hd hD ho hrd h3 h4 hB hfit
                by_cases hf2 : (lim (10 * D + d)).length ≤ 65536
                · rw [clip_of hf2] at c1
                  rw [← HD.out] at c1 hf2
                  have HF2 := Lib.hid hf2
                  by_cases hz : (lim (dv (L.take (k + 1)))).length = 0
                  · have hz0 : dv (L.take (k + 1)) = 0 := lim_eq_nil.1 (List.eq_nil_of_length_eq_zero hz)
                    have hD0 : D = 0 := by have := HD.out; omega
                    subst hD0
                    rw [lim_zero, List.length_nil] at c1 ⊢
                    rw [hz0, lim_zero] at c1
                    have HZ0 := Lib.hid hz0
                    clear hf2 hz hz0
                    go_wp2_with fail
                    refine c1.mono ?_
                    rintro e w1 ⟨⟨v1, rfl, ho1⟩, hb1⟩
                    clear c1
                    obtain ⟨A1, cap1, rfl⟩ := own_form (X := []) ho1 rfl
                    have HO := Lib.hid (ho1.more HB.out.size)
                    have HB1 := Lib.hid (HB.out.trans (hb1.mono HB.out.size))
                    clear ho1 hb1
                    go_wp2
                    go_roundw
                    case rel => exact ⟨k + 1, by omega, by go_num, by rw [HZ0.out, lim_zero]; exact HO.out, HF2.out, HB1.out⟩
                    case measure => simp [intOf]; omega
                  · clear hf2
                    go_wp2_with fail
                    refine c1.mono ?_
                    rintro e w1 ⟨⟨v1, rfl, ho1⟩, hb1⟩
                    clear c1
                    obtain ⟨A1, cap1, rfl⟩ := own_form ho1 rfl
                    have HO := Lib.hid (ho1.more HB.out.size)
                    have HB1 := Lib.hid (HB.out.trans (hb1.mono HB.out.size))
                    clear ho1 hb1
                    generalize hnz : (lim (dv (L.take (k + 1)))).length = nz at *
                    have HNZ := Lib.hid hnz
                    clear hnz
                    go_wp2
                    go_roundw
                    case rel => exact ⟨k + 1, by omega, by go_num, HO.out, by rw [HNZ.out]; exact HF2.out, HB1.out⟩
                    case measure => simp [intOf]; omega
                · have hD0 : ¬ D = 0 := fun h => hf2 (by
                    subst h
                    exact Nat.le_trans (lim_length_le.2 (show 10 * 0 + d < 4294967296 ^ 1 by omega)) (by decide))
                  rw [clip_not hf2] at c1
                  obtain ⟨nz, hnz⟩ : ∃ nz, nz = (lim D).length := ⟨_, rfl⟩
                  have hnz0 : 0 < nz := by
                    rw [hnz]
                    exact List.length_pos_iff.2 fun e => hD0 (lim_eq_nil.1 e)
                  have HO := Lib.hid (fun (w1 : World) => parse_over (w := w) (w' := w1) TT.out HD.out hf2)
                  have hfl := HF.out
                  rw [← hnz] at c1 hfl ⊢
                  clear hf2 hD0 hnz
                  go_wp2_with fail
                  refine c1.mono ?_
                  rintro e w1 ⟨⟨v1, rfl, ho1⟩, hb1⟩
                  clear c1
                  obtain ⟨A1, cap1, rfl⟩ := own_form (X := []) ho1 rfl
                  have HB1 := Lib.hid (HB.out.trans (hb1.mono HB.out.size))
                  clear ho1 hb1
                  go_wp2
                  go_ret2
                  exact HO.out _ HB1.out
              · obtain rfl : k = L.length := by omega
                have HO := Lib.hid ho
                have HB := Lib.hid hB
                have HF := Lib.hid hfit
                clear ho hB hfit
                go_wp2
                go_ret2
                exact parse_all TT.out (by rw [List.take_length]) HF.out HO.out HB.out
        · have TT := Lib.hid (isT_iff.2 ⟨hA, h0, fun e => by
            rw [List.head?_eq_getElem?, List.getElem?_eq_getElem hlen] at e
            rw [List.getElem?_eq_getElem hlen] at hc48
            exact absurd (Option.some.inj e) hc48⟩)
          clear hA h0
          generalize L[0]?.getD 0 = c0 at *
          go_wp2_with fail
          go_loopw [5, 6] (fun nv i wr => ∃ k : Nat, k ≤ L.length ∧ i = .int .i64 (k : Int) ∧ Own wr w.heap.size nv (lim (dv (L.take k))) ∧ (lim (dv (L.take k))).length ≤ 65536 ∧ Below w.heap.size w wr) (fun _ i _ => L.length - (intOf i).toNat)
          case atStart => exact ⟨0, Nat.zero_le _, rfl, by rw [List.take_zero, dv_nil, lim_zero]; exact World.ownsRow_nil _ _ _ _, by rw [List.take_zero, dv_nil, lim_zero]; exact Nat.zero_le _, Below.refl _ _⟩
          case round =>
            obtain ⟨k, hk, rfl, ho, hfit, hB⟩ := hrel
            obtain ⟨A, cap, rfl⟩ := own_form ho rfl
            by_cases hlt : k < L.length
            · have hx := str_byte hc hlt
              have hD := AD.out (L[k]?.getD 0) (by rw [List.getElem?_eq_getElem hlt]; exact List.getElem_mem hlt)
              have hn := dv_take_next hlt
              generalize dv (L.take k) = D at *
              generalize L[k]?.getD 0 = c at *
              obtain ⟨d, hd⟩ : ∃ d, d = c - 48 := ⟨_, rfl⟩
              rw [← hd] at hn
              have q8 : (c : Int) - 48 = (d : Int) := by omega
              have hd9 : d < 10 := by omega
              have hc1 := hD.1
              have hc2 := hD.2
              obtain ⟨_, _, e3, h3, h4, hrd⟩ := ho.rd (lim_limbs D)
              injection e3 with e3 e4 e5
              subst e3 e5
              have c1 : Calls Tryd.prog 38 #[.slice A (lim D).length cap, .int .u32 10, .int .u32 (d : Int)] wr (NewL wr (sSmall (lim D) 10 d)) := rsmall_any A cap (lim D) 10 d wr hrd (by unfold maxLen; omega) (by decide) (by omega)
              rw [rnext hfit] at c1
              have HB := Lib.hid hB
              have HD := Lib.hid hn
              have HF := Lib.hid hfit
              clear hn hd hD ho hrd h3 h4 hB hfit
              by_cases hf2 : (lim (10 * D + d)).length ≤ 65536
              · rw [clip_of hf2] at c1
                rw [← HD.out] at c1 hf2
                have HF2 := Lib.hid hf2
                by_cases hz : (lim (dv (L.take (k + 1)))).length = 0
                · have hz0 : dv (L.take (k + 1)) = 0 := lim_eq_nil.1 (List.eq_nil_of_length_eq_zero hz)
                  have hD0 : D = 0 := by have := HD.out; omega
                  subst hD0
                  rw [lim_zero, List.length_nil] at c1 ⊢
                  rw [hz0, lim_zero] at c1
                  have HZ0 := Lib.hid hz0
                  clear hf2 hz hz0
                  go_wp2_with fail
                  refine c1.mono ?_
                  rintro e w1 ⟨⟨v1, rfl, ho1⟩, hb1⟩
                  clear c1
                  obtain ⟨A1, cap1, rfl⟩ := own_form (X := []) ho1 rfl
                  have HO := Lib.hid (ho1.more HB.out.size)
                  have HB1 := Lib.hid (HB.out.trans (hb1.mono HB.out.size))
                  clear ho1 hb1
                  go_wp2
                  go_roundw
                  case rel => exact ⟨k + 1, by omega, by go_num, by rw [HZ0.out, lim_zero]; exact HO.out, HF2.out, HB1.out⟩
                  case measure => simp [intOf]; omega
                · clear hf2
                  go_wp2_with fail
                  refine c1.mono ?_
                  rintro e w1 ⟨⟨v1, rfl, ho1⟩, hb1⟩
                  clear c1
                  obtain ⟨A1, cap1, rfl⟩ := own_form ho1 rfl
                  have HO := Lib.hid (ho1.more HB.out.size)
                  have HB1 := Lib.hid (HB.out.trans (hb1.mono HB.out.size))
                  clear ho1 hb1
                  generalize hnz : (lim (dv (L.take (k + 1)))).length = nz at *
                  have HNZ := Lib.hid hnz
                  clear hnz
                  go_wp2
                  go_roundw
                  case rel => exact ⟨k + 1, by omega, by go_num, HO.out, by rw [HNZ.out]; exact HF2.out, HB1.out⟩
                  case measure => simp [intOf]; omega
              · have hD0 : ¬ D = 0 := fun h => hf2 (by
                  subst h
                  exact Nat.le_trans (lim_length_le.2 (show 10 * 0 + d < 4294967296 ^ 1 by omega)) (by decide))
                rw [clip_not hf2] at c1
                obtain ⟨nz, hnz⟩ : ∃ nz, nz = (lim D).length := ⟨_, rfl⟩
                have hnz0 : 0 < nz := by
                  rw [hnz]
                  exact List.length_pos_iff.2 fun e => hD0 (lim_eq_nil.1 e)
                have HO := Lib.hid (fun (w1 : World) => parse_over (w := w) (w' := w1) TT.out HD.out hf2)
                have hfl := HF.out
                rw [← hnz] at c1 hfl ⊢
                clear hf2 hD0 hnz
                go_wp2_with fail
                refine c1.mono ?_
                rintro e w1 ⟨⟨v1, rfl, ho1⟩, hb1⟩
                clear c1
                obtain ⟨A1, cap1, rfl⟩ := own_form (X := []) ho1 rfl
                have HB1 := Lib.hid (HB.out.trans (hb1.mono HB.out.size))
                clear ho1 hb1
                go_wp2
                go_ret2
                exact HO.out _ HB1.out
            · obtain rfl : k = L.length := by omega
              have HO := Lib.hid ho
              have HB := Lib.hid hB
              have HF := Lib.hid hfit
              clear ho hB hfit
              go_wp2
              go_ret2
              exact parse_all TT.out (by rw [List.take_length]) HF.out HO.out HB.out

theorem rten_any4 (k : Int) (w : World) (hk : k < 9223372036854775808) : Calls Tryd.prog 20 #[.int .i64 k] w (NewL w (sPow [10] k)) := by
  have env := (env_start w).lit1 10 10 rfl (by decide)
  have ha : ArgZ (w.alloc (.cells #[.int .u32 10] 40)) (.slice (some ⟨w.heap.size, 0, none⟩) 1 1) [10] := ⟨env.get (by simp), fun n cap h => by cases h⟩
  have c1 := rpow_any _ [10] k _ ha hk
  have HB := Lib.hid env.1
  clear env ha
  go_enter Tryd.func20, Tryd.ntmps20
  go_wp2_with fail
  refine c1.mono ?_
  rintro e w2 ⟨⟨v2, rfl, ho2⟩, hb2⟩
  clear c1
  have HO := Lib.hid (ho2.more HB.out.size)
  have HB2 := Lib.hid (HB.out.trans (hb2.mono HB.out.size))
  clear ho2 hb2
  go_wp2
  go_ret
  exact ⟨⟨_, rfl, HO.out⟩, HB2.out⟩

end Go.Proofs.YtileljokijmpaaaDoor

/- References of layer 2: Pow. -/
import Derived.Test.YtlfhpoffphljfaaRefN
import Derived.Test.YtlfhpoffphljfaaRefD
namespace Go.Proofs.Ytlfhpoffphljfaa
open Go.RowKit Go.Shelf

set_option linter.unusedVariables false

theorem Own.argZ {w : World} {B : Nat} {v : Value} {xs : List Nat} (h : Own w B v xs) (hl : Limbs xs) : ArgZ w v xs := by
  refine ⟨h.arg hl, fun n cap e => ?_⟩
  rcases h.2 with ⟨e2, _⟩ | ⟨g, cap', cur, e2, _⟩
  · rw [e2] at e; injection e with _ _ e3; exact e3.symm
  · rw [e2] at e; cases e
/-- A power on the way that is too long stays so. -/
theorem pow_big {v n s : Nat} (hv : 0 < v) (h : clip (v ^ (n / 2 ^ s)) = []) : clip (v ^ n) = [] := by
  have hp : 0 < v ^ (n / 2 ^ s) := Nat.pow_pos hv
  have hb : ¬ (lim (v ^ (n / 2 ^ s))).length ≤ 65536 := fun hle => by
    rw [clip_of hle] at h
    have := lim_eq_nil.1 h
    omega
  refine clip_not fun hle => hb ?_
  have hm : v ^ (n / 2 ^ s) ≤ v ^ n := Nat.pow_le_pow_right hv (Nat.div_le_self _ _)
  have h2 := val_lt (lim_limbs (v ^ n))
  rw [val_lim] at h2
  have h3 : (lim (v ^ (n / 2 ^ s))).length ≤ (lim (v ^ n)).length := lim_le (Nat.lt_of_le_of_lt hm h2)
  omega

set_option maxRecDepth 100000 in
set_option maxHeartbeats 8000000 in
theorem rpow_yes (A : Option Addr) (cap : Nat) (xs : List Nat) (K : Nat) (w : World) (ha : ArgZ w (.slice A xs.length cap) xs) (hx : mayb xs = true) (hK : K < 9223372036854775808) (hK0 : 0 < K) (h0 : 0 < xs.length) :
    Calls Try.prog 37 #[.slice A xs.length cap, .int .i64 (K : Int)] w (NewL w (clip (val xs ^ K))) := by
  obtain ⟨i0, hti, hz0, hz1, hz2⟩ := info_parts info32
  obtain ⟨A1, cap1, e1, k1, k2, hr⟩ := ha.1
  injection e1 with ea _ eb
  subst ea eb
  have c1 := rmay_is cap hr (by omega) hx
  have hxm := (mayb_iff.1 hx).1
  have HXC := Lib.hid (clip_val hr.limbs hx)
  have HPOS := Lib.hid ((mayb_canon hr.limbs hx).val_pos (fun e => by rw [e] at h0; simp at h0))
  have HA := Lib.hid ha
  have hq1 : (((K : Nat) : Int) == 0) = false := beq_eq_false_iff_ne.2 (by omega)
  have hq2 : (((xs.length : Nat) : Int) == 0) = false := beq_eq_false_iff_ne.2 (by omega)
  have hKI : (0 : Int) ≤ (K : Int) := by omega
  clear hx hr ha k1 k2
  go_enter Try.func37, Try.ntmps37
  go_wp2_with fail
  with_reducible refine c1.mono ?_
  rintro e w' ⟨rfl, hw⟩
  obtain rfl := hw.symm
  clear c1
  go_wp2_with fail
  go_loop [5, 6] (fun t n => ∃ (s m : Nat), t = .int .i64 (s : Int) ∧ n = .int .i64 (m : Int) ∧ 1 ≤ m ∧ m ≤ K ∧ s ≤ 63 ∧ Hid (m = K / 2 ^ s)) (fun _ n => (intOf n).toNat)
  case atStart => exact ⟨0, K, rfl, rfl, hK0, Nat.le_refl _, by decide, by show _ = _; simp⟩
  case round =>
    obtain ⟨s, m, rfl, rfl, hm1, hmK, hs, hm⟩ := hrel
    by_cases h1 : 1 < m
    · have hs2 : s + 1 ≤ 63 := by
        rcases Nat.lt_or_ge s 62 with h | h
        · omega
        · exfalso
          have e := hm.out
          have h62 : (2 : Nat) ^ 62 ≤ 2 ^ s := Nat.pow_le_pow_right (by decide) h
          have h3 : K / 2 ^ s ≤ K / 2 ^ 62 := Nat.div_le_div_left h62 (by decide)
          omega
      have hd : Hid (m / 2 = K / 2 ^ (s + 1)) := by show _ = _; rw [hm.out, Nat.div_div_eq_div_mul, Nat.pow_succ]
      go_wp2_with fail
      go_round
      case rel => exact ⟨s + 1, m / 2, by go_num, by simp, by omega, by omega, hs2, hd⟩
      case measure => simp [intOf]; omega
    · obtain rfl : m = 1 := by omega
      have hstart : Hid (xs = clip (val xs ^ (K / 2 ^ s))) := by show _ = _; rw [← hm.out, Nat.pow_one, HXC.out]
      clear hm
      go_wp2_with fail
      go_loopw [7, 8] (fun r i wr => ∃ (t : Nat) (L : List Nat), t ≤ 63 ∧ i = .int .i64 ((t : Int) - 1) ∧ L = clip (val xs ^ (K / 2 ^ t)) ∧ ArgZ wr r L ∧ Below w.heap.size w wr) (fun _ i _ => (intOf i + 1).toNat)
      case atStart => exact ⟨s, xs, hs, rfl, hstart.out, HA.out, Below.refl _ _⟩
      case round =>
        obtain ⟨t, L, ht, hi, hL, hZ, hB⟩ := hrel
        have hLl : Limbs L := by rw [hL]; exact clip_limbs _
        have hLm0 : L.length ≤ 65536 := by rw [hL]; exact clip_length _
        rcases t with _ | q
        · obtain rfl : u8 = .int .i64 (-1) := hi
          have hval : clip (val xs ^ K) = L := by rw [hL, Nat.pow_zero, Nat.div_one]
          clear hL
          obtain ⟨⟨A7, cap7, rfl, g1, g2, hr7⟩, hz7⟩ := hZ
          rcases A7 with _ | ad
          · obtain rfl := hz7 _ _ rfl
            have hl0 : L = [] := List.eq_nil_of_length_eq_zero (by omega)
            subst hl0
            have hown0 : (wr.alloc (.cells #[] 28)).ownsRow wr.heap.size 28 1 (.slice (some ⟨wr.heap.size, 0, none⟩) 0 0) 0 [] := World.ownsRow_lit wr #[] 0 (Nat.le_refl _) (by decide) rfl
            have HO := Lib.hid hown0
            have HB2 := Lib.hid (hB.trans ((Below.refl _ wr).alloc (hB.size) (.cells #[] 28)))
            have HSZ := Lib.hid hB.size
            have HV := Lib.hid hval
            clear hr7 hz7 hB hval g1 g2
            go_wp2_with (at_builtin; refine wpList_append_own_none rfl _ _ 26 rfl wr.heap.size 28 i0 1 Try.underlying26 hti _ _ _ rfl hown0 rfl ?_; clear hown0)
            go_wp2
            go_ret
            exact ⟨⟨_, rfl, by rw [HV.out]; exact Own.more (show Own _ wr.heap.size _ [] from HO.out) HSZ.out⟩, HB2.out⟩
          · have hown0 : (wr.alloc (.cells #[] 28)).ownsRow wr.heap.size 28 1 (.slice (some ⟨wr.heap.size, 0, none⟩) 0 0) 0 [] := World.ownsRow_lit wr #[] 0 (Nat.le_refl _) (by decide) rfl
            have hcell : ∀ j u, (u32s L)[j]? = some u → (wr.alloc (.cells #[] 28)).cell? (ad.add j) = some u := by
              intro j u hu
              have hj : j < L.length := by
                have := (List.getElem?_eq_some_iff.1 hu).1
                simpa [u32s] using this
              obtain ⟨b, off, e, hlt, hcl⟩ := hr7.2 (by omega)
              obtain rfl : ad = ⟨b, off, none⟩ := by simpa using e
              rw [Addr.add_mid]
              rw [((Below.refl _ wr).alloc (Nat.le_refl _) (.cells #[] 28)).cell (p := ⟨b, off + j, none⟩) hlt, hcl j hj]
              rw [u32s, List.getElem?_map, List.getElem?_eq_getElem hj] at hu
              rw [List.getElem?_eq_getElem hj]
              exact hu
            have HC := Lib.hid hcell
            have HB0 := Lib.hid hB
            have HV := Lib.hid hval
            have hLm : L.length ≤ 65536 := hLm0
            clear hcell hr7 hz7 hB hval hLm0
            go_wp2_with (at_builtin; refine wpList_append_own _ rfl _ _ 26 rfl wr.heap.size 28 i0 (.int .u32 0) 1 4 Try.underlying26 hti hz0 hz1 hz2 rfl (by decide) _ _ _ rfl hown0 ad L.length cap7 (u32s L) rfl (by simp [u32s]) HC.out (u32s_one L) (by unfold maxLen; omega) (by omega) (by simp) ?_; intro v' w2 hown' hgrow hgone; clear hgone)
            have hg2 : (wr.alloc (.cells #[] 28)).grownBy w2 (some wr.heap.size) := hgrow
            have hb2 : Below wr.heap.size wr w2 := ((Below.refl _ wr).alloc (Nat.le_refl _) _).grown hg2 (by simp) (fun k hk => by cases hk; exact Nat.le_refl _)
            have hO : Own w2 wr.heap.size v' L := by unfold Own; simpa using hown'
            have HO := Lib.hid (hO.more HB0.out.size)
            have HB2 := Lib.hid (HB0.out.trans (hb2.mono HB0.out.size))
            clear hO hown' hgrow hg2 HC hb2
            go_wp2
            go_ret
            exact ⟨⟨_, rfl, by rw [HV.out]; exact HO.out⟩, HB2.out⟩
        · obtain rfl : u8 = .int .i64 (q : Int) := by rw [hi]; congr 1; omega
          clear hi
          rcases Nat.eq_zero_or_pos L.length with hz | hz
          · have hLn : L = [] := List.eq_nil_of_length_eq_zero hz
            have hval : clip (val xs ^ K) = L := by rw [hLn]; exact pow_big HPOS.out (by rw [← hL, hLn])
            have hLz : L.length ≤ 65536 := by omega
            have hz2' : ¬ ((0 : Int) < (L.length : Int)) := by omega
            clear hL hz hLn
            obtain ⟨⟨A7, cap7, rfl, g1, g2, hr7⟩, hz7⟩ := hZ
            rcases A7 with _ | ad
            · obtain rfl := hz7 _ _ rfl
              have hl0 : L = [] := List.eq_nil_of_length_eq_zero (by omega)
              subst hl0
              have hown0 : (wr.alloc (.cells #[] 28)).ownsRow wr.heap.size 28 1 (.slice (some ⟨wr.heap.size, 0, none⟩) 0 0) 0 [] := World.ownsRow_lit wr #[] 0 (Nat.le_refl _) (by decide) rfl
              have HO := Lib.hid hown0
              have HB2 := Lib.hid (hB.trans ((Below.refl _ wr).alloc (hB.size) (.cells #[] 28)))
              have HSZ := Lib.hid hB.size
              have HV := Lib.hid hval
              clear hr7 hz7 hB hval g1 g2
              go_wp2_with (at_builtin; refine wpList_append_own_none rfl _ _ 26 rfl wr.heap.size 28 i0 1 Try.underlying26 hti _ _ _ rfl hown0 rfl ?_; clear hown0)
              go_wp2
              go_ret
              exact ⟨⟨_, rfl, by rw [HV.out]; exact Own.more (show Own _ wr.heap.size _ [] from HO.out) HSZ.out⟩, HB2.out⟩
            · have hown0 : (wr.alloc (.cells #[] 28)).ownsRow wr.heap.size 28 1 (.slice (some ⟨wr.heap.size, 0, none⟩) 0 0) 0 [] := World.ownsRow_lit wr #[] 0 (Nat.le_refl _) (by decide) rfl
              have hcell : ∀ j u, (u32s L)[j]? = some u → (wr.alloc (.cells #[] 28)).cell? (ad.add j) = some u := by
                intro j u hu
                have hj : j < L.length := by
                  have := (List.getElem?_eq_some_iff.1 hu).1
                  simpa [u32s] using this
                obtain ⟨b, off, e, hlt, hcl⟩ := hr7.2 (by omega)
                obtain rfl : ad = ⟨b, off, none⟩ := by simpa using e
                rw [Addr.add_mid]
                rw [((Below.refl _ wr).alloc (Nat.le_refl _) (.cells #[] 28)).cell (p := ⟨b, off + j, none⟩) hlt, hcl j hj]
                rw [u32s, List.getElem?_map, List.getElem?_eq_getElem hj] at hu
                rw [List.getElem?_eq_getElem hj]
                exact hu
              have HC := Lib.hid hcell
              have HB0 := Lib.hid hB
              have HV := Lib.hid hval
              have hLm : L.length ≤ 65536 := hLm0
              clear hcell hr7 hz7 hB hval hLm0
              go_wp2_with (at_builtin; refine wpList_append_own _ rfl _ _ 26 rfl wr.heap.size 28 i0 (.int .u32 0) 1 4 Try.underlying26 hti hz0 hz1 hz2 rfl (by decide) _ _ _ rfl hown0 ad L.length cap7 (u32s L) rfl (by simp [u32s]) HC.out (u32s_one L) (by unfold maxLen; omega) (by omega) (by simp) ?_; intro v' w2 hown' hgrow hgone; clear hgone)
              have hg2 : (wr.alloc (.cells #[] 28)).grownBy w2 (some wr.heap.size) := hgrow
              have hb2 : Below wr.heap.size wr w2 := ((Below.refl _ wr).alloc (Nat.le_refl _) _).grown hg2 (by simp) (fun k hk => by cases hk; exact Nat.le_refl _)
              have hO : Own w2 wr.heap.size v' L := by unfold Own; simpa using hown'
              have HO := Lib.hid (hO.more HB0.out.size)
              have HB2 := Lib.hid (HB0.out.trans (hb2.mono HB0.out.size))
              clear hO hown' hgrow hg2 HC hb2
              go_wp2
              go_ret
              exact ⟨⟨_, rfl, by rw [HV.out]; exact HO.out⟩, HB2.out⟩
          · have hzI : (0 : Int) < (L.length : Int) := by omega
            have c5 := rmul_any u7 u7 L L wr hZ.1 hZ.1
            rw [hL, clip_mul] at c5
            have hmod : Hid ((K / 2 ^ q) % 2 = (K / 2 ^ q) % 2) := rfl
            have HB := Lib.hid hB
            obtain ⟨A7, cap7, e7, g1, g2, hr7⟩ := id hZ.1
            have hq63 : q ≤ 63 := by omega
            clear hz hB hr7 g1 g2 hZ hLl hLm0
            subst e7
            rw [hL] at hzI
            subst hL
            obtain ⟨wo, rfl⟩ : ∃ wo : World, wo = wr := ⟨_, rfl⟩
            go_wp2_with fail
            with_reducible refine c5.mono ?_
            rintro e w2 ⟨⟨r2, rfl, ho2⟩, hb2⟩
            have HO2 := Lib.hid (ho2.more HB.out.size)
            have HB2 := Lib.hid (HB.out.trans (hb2.mono HB.out.size))
            clear c5 ho2 hb2
            go_wp2_with fail
            go_loop [9, 10] (fun bv jv => ∃ (j m : Nat), jv = .int .i64 (j : Int) ∧ bv = .int .i64 (m : Int) ∧ j ≤ q ∧ m ≤ K ∧ Hid (m = K / 2 ^ j)) (fun _ jv => q - (intOf jv).toNat)
            case atStart => exact ⟨0, K, rfl, rfl, Nat.zero_le _, Nat.le_refl _, by show _ = _; simp⟩
            case round =>
              obtain ⟨j, m, rfl, rfl, hj, hmK2, hm2⟩ := hrel
              by_cases hjq : j < q
              · have hd : Hid (m / 2 = K / 2 ^ (j + 1)) := by show _ = _; rw [hm2.out, Nat.div_div_eq_div_mul, Nat.pow_succ]
                go_wp2_with fail
                go_round
                case rel => exact ⟨j + 1, m / 2, by go_num, by simp, by omega, by omega, hd⟩
                case measure => simp [intOf]; omega
              · obtain rfl : j = q := by omega
                have hm3 := hm2.out
                rcases Nat.mod_two_eq_zero_or_one m with hbit | hbit
                · have hpe := Lib.hid (pow_even (v := val xs) (n := K) (s := j) (by rw [← hm3]; exact hbit))
                  have htest : ((m : Int) % 2 == 1) = false := beq_eq_false_iff_ne.2 (by omega)
                  have HF := Lib.hid (by have := HO2.out; rw [hpe.out] at this; exact this)
                  clear hm3 hbit
                  go_wp2_with fail
                  go_roundw
                  case rel => exact ⟨j, _, hq63, rfl, rfl, HF.out.argZ (clip_limbs _), HB2.out⟩
                  case measure => simp [intOf]
                · have e6 : sMul (clip (val xs ^ (K / 2 ^ (j + 1)) * val xs ^ (K / 2 ^ (j + 1)))) xs = clip (val xs ^ (K / 2 ^ j)) := by
                    conv => lhs; arg 2; rw [← HXC.out]
                    rw [clip_mul, pow_odd (by rw [← hm3]; exact hbit)]
                  have htest : ((m : Int) % 2 == 1) = true := beq_iff_eq.2 (by omega)
                  have c6 := rmul_any r2 (.slice A xs.length cap) _ xs w2 (HO2.out.arg (clip_limbs _)) (HA.out.1.below HB2.out)
                  rw [e6] at c6
                  clear hm3 hbit e6
                  go_wp2_with fail
                  with_reducible refine c6.mono ?_
                  rintro e w3 ⟨⟨r3, rfl, ho3⟩, hb3⟩
                  have HO3 := Lib.hid (ho3.more HB2.out.size)
                  have HB3 := Lib.hid (HB2.out.trans (hb3.mono HB2.out.size))
                  clear c6 ho3 hb3
                  go_wp2_with fail
                  go_roundw
                  case rel => exact ⟨j, _, hq63, rfl, rfl, HO3.out.argZ (clip_limbs _), HB3.out⟩
                  case measure => simp [intOf]

end Go.Proofs.Ytlfhpoffphljfaa

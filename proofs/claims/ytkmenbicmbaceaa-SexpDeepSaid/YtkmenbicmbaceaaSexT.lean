/- SexpDeep, the law. -/
import Derived.Test.YtkmenbicmbaceaaSexS
import Derived.Test.YtkmenbicmbaceaaSexR
namespace Go.Proofs.Ytkmenbicmbaceaa
open Go.RowKit

set_option linter.unusedVariables false
set_option linter.unusedSimpArgs false

def d2of (a : Int) (D : Nat) : Nat := ((a % 18446744073709551616) % (D : Int)).toNat
set_option maxRecDepth 100000 in
set_option maxHeartbeats 8000000 in
theorem deep_law (w : World) (s : ByteArray) (hs : s.size ≤ 9223372036854775807) (a : Int) :
    Calls Try.prog 7 #[.string s, .int .i64 a] w fun e w' => e = .returned (.bool true) ∧ Below w.heap.size w w' := by
  obtain ⟨L, hc, -, rfl⟩ := bytes_str s
  have hsz := str_size L
  rw [hsz] at hs
  have CA := Lib.hid awake_any
  by_cases hlong : 2000 < L.length
  · go_enter Try.func7, Try.ntmps7
    go_wp2_with fail
    refine (CA.out _).mono ?_
    rintro e w1 ⟨rfl, hb1⟩
    go_wp2
    go_ret
    exact ⟨rfl, hb1⟩
  · have CR := Lib.hid (fun (d : Int) w1 h0 h1 => readfn_any L d w1 hc (by omega) h0 h1)
    have hsz2 := rdd_siz 65536 L
    have HDR := Lib.hid (fun (d : Int) hd => deep_rdd d 65536 L hd (by decide))
    obtain ⟨g1, -, -, -⟩ := rdd_good 65536 L (by decide)
    have HRD : Hid (∀ d : Int, rdd d L = rdd d L) := fun _ => rfl
    unfold ReadQ at CR
    have cr := CR.out 65536 w (by decide) (by decide)
    obtain ⟨r, hr⟩ : ∃ r, r = rdd 65536 L := ⟨_, rfl⟩
    rw [← hr] at hsz2 HDR g1
    have HR := Lib.hid hr
    obtain ⟨rm, rF, ra, re⟩ := r
    dsimp only at g1 hsz2 HDR
    have hls := For.len_siz rF
    replace hsz2 : rF.siz < 70000 := by omega
    have HC := Lib.hid hc
    clear cr hr hc
    have CR0 : Hid (∀ w1, Calls Try.prog 9 #[.string (str L), .int .i64 65536] w1 fun e w' => (∃ v B ks, e = .returned (.tuple #[v, .int .i64 ra, .int .i64 re]) ∧ w1.heap.size ≤ B ∧ KidsC w' B v rF ks ∧ ks.Nodup) ∧ Below w1.heap.size w1 w') := fun w1 => by
      have := CR.out 65536 w1 (by decide) (by decide)
      rw [← HR.out] at this
      exact this
    by_cases he : re = 0
    rotate_left
    · have he1 : (re == 0) = false := by simp [he]
      have he2 : (re != 0) = true := by simp [he]
      clear he g1
      go_enter Try.func7, Try.ntmps7
      go_wp2_with fail
      refine (CA.out _).mono ?_
      rintro e w1 ⟨rfl, hb1⟩
      have HB1 := Lib.hid hb1
      clear hb1
      go_wp2_with fail
      refine (CR0.out w1).mono ?_
      rintro e w2 ⟨⟨v, B, ks, rfl, hB, hK, hn⟩, hb2⟩
      obtain ⟨A, cp, rfl, -⟩ := hK.kds
      have HB2 := Lib.hid (HB1.out.trans (hb2.mono HB1.out.size))
      clear hK hn hB hb2
      go_wp2
      go_ret
      exact ⟨rfl, HB2.out⟩
    · obtain ⟨-, hdp, -, -⟩ := g1 he
      subst he
      have HDP := Lib.hid hdp
      obtain ⟨D, hD⟩ : ∃ D, D = rF.dep := ⟨_, rfl⟩
      have hDl : D ≤ 65536 := by omega
      rw [← hD] at HDR
      have HDD := Lib.hid hD
      obtain ⟨f1, f2, f3⟩ := (HDR.out (D : Int) (by omega) rfl).1 (Int.le_refl _)
      have HDR2 := Lib.hid (fun (d : Int) hd => (HDR.out d hd rfl).2)
      have CR1 : Hid (∀ w1, Calls Try.prog 9 #[.string (str L), .int .i64 (D : Int)] w1 fun e w' => (∃ v B ks, e = .returned (.tuple #[v, .int .i64 0, .int .i64 0]) ∧ w1.heap.size ≤ B ∧ KidsC w' B v rF ks ∧ ks.Nodup) ∧ Below w1.heap.size w1 w') := fun w1 => by
        have := CR.out (D : Int) w1 (by omega) (by omega)
        rw [f1, f2, f3] at this
        exact this
      clear g1 hdp f1 f2 f3 hD
      go_enter Try.func7, Try.ntmps7
      go_wp2_with fail
      refine (CA.out _).mono ?_
      rintro e w1 ⟨rfl, hb1⟩
      have HB1 := Lib.hid hb1
      clear hb1
      go_wp2_with fail
      refine (CR0.out w1).mono ?_
      rintro e w2 ⟨⟨v, B, ks, rfl, hB, hK, hn⟩, hb2⟩
      obtain ⟨A, cp, rfl, hKd⟩ := hK.kds
      have HB2 := Lib.hid (HB1.out.trans (hb2.mono HB1.out.size))
      have HK := Lib.hid hKd
      clear hK hn hB hb2 hKd
      go_wp2_with fail
      go_loopw [8, 9] (fun q i wr => ∃ (j dd : Nat) (R : For), q = .int .i64 (dd : Int) ∧ i = .int .i64 (j : Int) ∧ j + R.len = rF.len ∧ max dd R.dep = D ∧ R.siz ≤ rF.siz ∧ (R = .nil ∨ ∃ b o, A = some ⟨b, o, none⟩ ∧ Nds w2 R b (o + j * 4)) ∧ Below w2.heap.size w2 wr) (fun _ i _ => rF.len - (intOf i).toNat)
      case atStart =>
        refine ⟨0, 0, rF, rfl, rfl, Nat.zero_add _, by rw [HDD.out]; exact Nat.zero_max _, Nat.le_refl _, ?_, Below.refl _ _⟩
        rcases HK.out with h | ⟨b, o, h, h'⟩
        · exact .inl h
        · exact .inr ⟨b, o, h, by simpa using h'⟩
      case round =>
        obtain ⟨j, dd, R, rfl, rfl, hj, hdm, hs3, hR, hB⟩ := hrel
        cases R with
        | nil =>
          have hj' : j = rF.len := hj
          have hdd : dd = D := by rw [← hdm]; exact (Nat.max_zero _).symm
          subst hj' hdd
          have HB3 := Lib.hid (HB2.out.trans (hB.mono HB2.out.size))
          have HKr := Lib.hid (HK.out.below hB)
          clear hj hdm hs3 hR hB
          go_wp2_with fail
          refine (CR1.out wr).mono ?_
          rintro e w3 ⟨⟨v3, B3, k3, rfl, hB3, hK3, -⟩, hb3⟩
          obtain ⟨A3, cp3, rfl, hKd3⟩ := hK3.kds
          have HB4 := Lib.hid (HB3.out.trans (hb3.mono HB3.out.size))
          have HK3 := Lib.hid hKd3
          have HK4 := Lib.hid (HKr.out.below hb3)
          clear hK3 hB3 hb3 hKd3
          go_wp2_with fail
          refine (told_any _ rF A3 cp3 w3 (Nat.lt_succ_self _) hsz2 HK3.out).mono ?_
          rintro e w4 ⟨⟨v4, k4, rfl, hK5⟩, hb4⟩
          obtain ⟨A4, cp4, rfl, hKd4⟩ := hK5.kds
          have HB5 := Lib.hid (HB4.out.trans (hb4.mono HB4.out.size))
          have HK6 := Lib.hid hKd4
          have HK7 := Lib.hid (HK4.out.below hb4)
          clear hK5 hb4 hKd4
          go_wp2_with fail
          refine (told_any _ rF A cp w4 (Nat.lt_succ_self _) hsz2 HK7.out).mono ?_
          rintro e w5 ⟨⟨v5, k5, rfl, hK8⟩, hb5⟩
          obtain ⟨A5, cp5, rfl, hKd5⟩ := hK8.kds
          have HB6 := Lib.hid (HB5.out.trans (hb5.mono HB5.out.size))
          have HK9 := Lib.hid hKd5
          have HK10 := Lib.hid (HK6.out.below hb5)
          clear hK8 hb5 hKd5
          go_wp2_with fail
          refine (exact_any _ rF A4 cp4 A5 cp5 w5 (Nat.lt_succ_self _) hsz2 HK10.out HK9.out).mono ?_
          rintro e w6 ⟨rfl, hb6⟩
          have HB7 := Lib.hid (HB6.out.trans (hb6.mono HB6.out.size))
          clear hb6
          by_cases hD0 : dd = 0
          · have hd0 : ((dd : Int) == 0) = true := by simp [hD0]
            clear hD0
            go_wp2
            go_ret
            exact ⟨rfl, HB7.out⟩
          · have hd0 : ((dd : Int) == 0) = false := by simp [hD0]
            have hd1 : ¬ (dd : Int) = 0 := by omega
            obtain ⟨d2, hd2⟩ : ∃ d2, d2 = d2of a dd := ⟨_, rfl⟩
            have hlt2 : d2 < dd := by
              rw [hd2]; unfold d2of
              have h1 := Int.emod_lt_of_pos (a % 18446744073709551616) (show (0 : Int) < (dd : Int) by omega)
              have h2 := Int.emod_nonneg (a % 18446744073709551616) hd1
              omega
            have e1 : wrap64 ((IntKind.u64.wrap a).tmod (dd : Int)) = (d2 : Int) := by
              have h1 := Int.emod_lt_of_pos (a % 18446744073709551616) (show (0 : Int) < (dd : Int) by omega)
              have h2 := Int.emod_nonneg (a % 18446744073709551616) hd1
              rw [IntKind.wrap_u64, Int.tmod_eq_emod_of_nonneg (by omega), hd2]
              unfold wrap64 d2of
              omega
            have e2 : IntKind.u64.wrap (dd : Int) = (dd : Int) := by rw [IntKind.wrap_u64]; omega
            obtain ⟨q1, p, q2, hpl, q3⟩ := HDR2.out (d2 : Int) (by omega) (by omega)
            have hpb := byte_at HC.out hpl (by rw [hsz]; exact hpl)
            rw [q3] at hpb
            have CR2 : Hid (∀ w1, Calls Try.prog 9 #[.string (str L), .int .i64 (d2 : Int)] w1 fun e w' => (∃ v B ks, e = .returned (.tuple #[v, .int .i64 (p : Int), .int .i64 46]) ∧ w1.heap.size ≤ B ∧ KidsC w' B v (rdd (d2 : Int) L).F ks ∧ ks.Nodup) ∧ Below w1.heap.size w1 w') := fun w1 => by
              have := CR.out (d2 : Int) w1 (by omega) (by omega)
              rw [q1, q2] at this
              exact this
            clear q1 q2 q3 hd2
            go_wp2_with fail
            refine (CR2.out w6).mono ?_
            rintro e w7 ⟨⟨v7, B7, k7, rfl, hB7, hK11, -⟩, hb7⟩
            obtain ⟨A7, cp7, rfl, -⟩ := hK11.kds
            have HB8 := Lib.hid (HB7.out.trans (hb7.mono HB7.out.size))
            clear hK11 hB7 hb7
            go_wp2
            go_ret
            exact ⟨rfl, HB8.out⟩
        | cons k t0 t c R =>
          rcases hR with hR | ⟨b, o, rfl, h0, h1, h2, h3, h4, h5, ⟨A', m', h6, h7⟩, h8⟩
          · cases hR
          have hlen : j < rF.len := by simp only [For.len] at hj; omega
          have hcz : c.siz < 4611686018427387904 := by simp only [For.siz] at hs3; omega
          have HJ := Lib.hid (show j + 1 + R.len = rF.len by simp only [For.len] at hj; omega)
          have HS := Lib.hid (show R.siz ≤ rF.siz by simp only [For.siz] at hs3; omega)
          have cd := depth_any _ k t0 t c A' m' wr h3 (Nat.lt_succ_self _) hcz ((show Kds w2 c A' from h7).below hB)
          have y0 := (hB.cell (World.block_lt_of_cell? w2 _ h0)).trans h0
          have y1 := (hB.cell (World.block_lt_of_cell? w2 _ h1)).trans h1
          have y2 := (hB.cell (World.block_lt_of_cell? w2 _ h2)).trans h2
          have y6 := (hB.cell (World.block_lt_of_cell? w2 _ h6)).trans h6
          have HDM := Lib.hid (show max dd (max (For.ndep k c) R.dep) = D from hdm)
          have H8 := Lib.hid h8
          have HBR := Lib.hid hB
          have hdb : For.ndep k c ≤ D := by have := HDM.out; omega
          have hddb : dd ≤ D := by have := HDM.out; omega
          clear hj hs3 hdm h0 h1 h2 h4 h6 h7 h8 hB
          generalize For.ndep k c = nd at *
          go_wp2_with fail
          refine cd.mono ?_
          rintro e w3 ⟨rfl, hb3⟩
          have HB3 := Lib.hid (HBR.out.trans (hb3.mono HBR.out.size))
          clear hb3 cd
          go_wp2_with fail
          go_roundw
          case rel =>
            refine ⟨j + 1, max dd nd, R, by congr 1; omega, by go_num, HJ.out, by have := HDM.out; omega, HS.out, ?_, HB3.out⟩
            exact .inr ⟨b, o, rfl, by have := H8.out; rwa [show o + j * 4 + 4 = o + (j + 1) * 4 from by omega] at this⟩
          case measure => simp [intOf]; omega

end Go.Proofs.Ytkmenbicmbaceaa

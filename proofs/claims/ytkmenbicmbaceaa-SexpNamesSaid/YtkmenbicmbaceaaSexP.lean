/- SexpPlaces, the law. -/
import Derived.Test.YtkmenbicmbaceaaSexO
namespace Go.Proofs.Ytkmenbicmbaceaa
open Go.RowKit

set_option linter.unusedVariables false
set_option linter.unusedSimpArgs false

theorem run_siz : ∀ (l : List (Nat × List Nat)) (s : St), (run s l).1.all.siz ≤ s.all.siz + l.length
  | [], s => by simp [run]
  | x :: l, s => by
    have h1 := stp_siz s x
    unfold run
    split
    · have := run_siz l (stp s x).1
      rw [List.length_cons]; omega
    · show (stp s x).1.all.siz ≤ _
      rw [List.length_cons]; omega
theorem rdd_siz (d : Int) (L : List Nat) : (rdd d L).F.siz ≤ L.length + 1 := by
  unfold rdd rd
  have h := run_siz (wds L) (St.new (Mt.new 0 0 0 d))
  have hw := wds_len L
  have h0 : (St.new (Mt.new 0 0 0 d)).all.siz = 1 := rfl
  generalize run (St.new (Mt.new 0 0 0 d)) (wds L) = R at *
  have hF : R.1.F.siz ≤ R.1.all.siz := by
    unfold St.all
    rw [For.siz_app]
    simp only [For.one, For.siz]
    omega
  split
  · split
    · split
      · show R.1.F.siz ≤ _
        omega
      · exact Nat.zero_le _
    · exact Nat.zero_le _
  · exact Nat.zero_le _
/-- a number, taken as one without a sign, and a remainder by 65537 -/
def dof (a : Int) : Nat := ((a % 18446744073709551616) % 65537).toNat
theorem dof_lt (a : Int) : dof a < 65537 := by unfold dof; omega

theorem may_nodes {F : For} (h : F.may = true) : ∀ {k : Nat} {a : Int} {t : List Nat} {c r : For}, F = .cons k a t c r → For.nmay k t c = true ∧ r.may = true := by
  intro k a t c r e
  rw [e, For.may_cons, Bool.and_eq_true] at h
  exact h
set_option maxRecDepth 100000 in
set_option maxHeartbeats 8000000 in
theorem places_law (w : World) (s : ByteArray) (hs : s.size ≤ 9223372036854775807) (a : Int) :
    Calls Try.prog 6 #[.string s, .int .i64 a] w fun e w' => e = .returned (.bool true) ∧ Below w.heap.size w w' := by
  obtain ⟨L, hc, -, rfl⟩ := bytes_str s
  have hsz := str_size L
  rw [hsz] at hs
  have CA := Lib.hid awake_any
  by_cases hlong : 2000 < L.length
  · go_enter Try.func6, Try.ntmps6
    go_wp2_with fail
    refine (CA.out _).mono ?_
    rintro e w1 ⟨rfl, hb1⟩
    go_wp2
    go_ret
    exact ⟨rfl, hb1⟩
  · have hdl := dof_lt a
    obtain ⟨d, hd⟩ : ∃ d, d = dof a := ⟨_, rfl⟩
    rw [← hd] at hdl
    have e1 : wrap64 ((IntKind.u64.wrap a).tmod 65537) = (d : Int) := by
      rw [IntKind.wrap_u64, Int.tmod_eq_emod_of_nonneg (by omega), hd]
      unfold wrap64 dof
      omega
    have cr := Lib.hid (fun w1 => readfn_any L (d : Int) w1 hc (by omega) (by omega) (by omega))
    obtain ⟨g1, g2, g3, g4⟩ := rdd_good (d : Int) L (by omega)
    have hsz2 := rdd_siz (d : Int) L
    have HC := Lib.hid hc
    unfold ReadQ at cr
    generalize rdd (d : Int) L = r at *
    obtain ⟨rm, rF, ra, re⟩ := r
    dsimp only at cr g1 g2 g3 g4 hsz2
    have hls := For.len_siz rF
    replace hsz2 : rF.siz < 70000 := by omega
    clear hd hc
    by_cases he : re = 0
    · obtain ⟨hm, hdp, ⟨su, hsu⟩, ha0⟩ := g1 he
      subst he ha0
      have HM := Lib.hid hm
      have HDP := Lib.hid hdp
      have HSU := Lib.hid hsu
      clear g1 g2 g3 g4 hm hdp hsu
      go_enter Try.func6, Try.ntmps6
      go_wp2_with fail
      refine (CA.out _).mono ?_
      rintro e w1 ⟨rfl, hb1⟩
      have HB1 := Lib.hid hb1
      clear hb1
      go_wp2_with fail
      refine (cr.out w1).mono ?_
      rintro e w2 ⟨⟨v, B, ks, rfl, hB, hK, hn⟩, hb2⟩
      obtain ⟨A, cp, rfl, hKd⟩ := hK.kds
      have HB2 := Lib.hid (HB1.out.trans (hb2.mono HB1.out.size))
      have HK := Lib.hid hKd
      clear hK hn hB hb2 hKd cr
      go_wp2_with fail
      go_loopw [8] (fun i wr => ∃ (j : Nat) (R : For), i = .int .i64 (j : Int) ∧ j + R.len = rF.len ∧ R.siz ≤ rF.siz ∧ R.may = true ∧ (R.dep : Int) ≤ (d : Int) ∧ (R = .nil ∨ ∃ b o, A = some ⟨b, o, none⟩ ∧ Nds wr R b (o + j * 4)) ∧ Below w2.heap.size w2 wr) (fun i _ => rF.len - (intOf i).toNat)
      case atStart =>
        refine ⟨0, rF, rfl, Nat.zero_add _, Nat.le_refl _, HM.out, HDP.out, ?_, Below.refl _ _⟩
        rcases HK.out with h | ⟨b, o, h, h'⟩
        · exact .inl h
        · exact .inr ⟨b, o, h, by simpa using h'⟩
      case round =>
        obtain ⟨j, R, rfl, hj, hs3, hm, hdp, hR, hB⟩ := hrel
        cases R with
        | nil =>
          have hj' : j = rF.len := hj
          subst hj'
          have cs := stands_any _ L rF A cp 0 su wr HC.out (by omega) (Nat.lt_succ_self _) hsz2 (HK.out.below hB) HSU.out (Nat.zero_le _)
          have HB3 := Lib.hid (HB2.out.trans (hB.mono HB2.out.size))
          clear hj hs3 hm hdp hR hB
          go_wp2_with fail
          refine cs.mono ?_
          rintro e w3 ⟨rfl, hb3⟩
          go_wp2
          go_ret
          exact ⟨rfl, HB3.out.trans (hb3.mono HB3.out.size)⟩
        | cons k a t c R =>
          rcases hR with hR | ⟨b, o, rfl, h0, h1, h2, h3, h4, h5, ⟨A', m', h6, h7⟩, h8⟩
          · cases hR
          have hlen : j < rF.len := by simp only [For.len] at hj; omega
          have hcz : c.siz < 4611686018427387904 := by simp only [For.siz] at hs3; omega
          have HJ := Lib.hid (show j + 1 + R.len = rF.len by simp only [For.len] at hj; omega)
          have HS := Lib.hid (show R.siz ≤ rF.siz by simp only [For.siz] at hs3; omega)
          rw [For.may_cons, Bool.and_eq_true] at hm
          have HM2 := Lib.hid hm.2
          have cm := may_node _ k a t c A' m' wr h3 h4 h5 (Nat.lt_succ_self _) hcz h7
          rw [hm.1] at cm
          have hnd : (For.ndep k c : Int) ≤ (d : Int) := by
            have e : (For.cons k a t c R).dep = max (For.ndep k c) R.dep := rfl
            rw [e] at hdp; omega
          have HDR := Lib.hid (show (R.dep : Int) ≤ (d : Int) by
            have e : (For.cons k a t c R).dep = max (For.ndep k c) R.dep := rfl
            rw [e] at hdp; omega)
          have CD := Lib.hid (fun w3 (h : Kds w3 c A') => depth_any _ k a t c A' m' w3 h3 (Nat.lt_succ_self _) hcz h)
          have H7 := Lib.hid (show Kds wr c A' from h7)
          have H8 := Lib.hid h8
          have HBR := Lib.hid hB
          have hnd2 : For.ndep k c ≤ d := by omega
          clear hj hs3 hm hdp h4 h7 h8 hB
          generalize For.ndep k c = nd at *
          go_wp2_with fail
          refine cm.mono ?_
          rintro e w3 ⟨rfl, hb3⟩
          have y0 := keep_below hb3 _ _ h0
          have y1 := keep_below hb3 _ _ h1
          have y2 := keep_below hb3 _ _ h2
          have y6 := keep_below hb3 _ _ h6
          have HB3 := Lib.hid (HBR.out.trans (hb3.mono HBR.out.size))
          have HK3 := Lib.hid (H7.out.below hb3)
          have H83 := Lib.hid (H8.out.below hb3)
          clear cm hb3
          go_wp2_with fail
          refine (CD.out w3 HK3.out).mono ?_
          rintro e w4 ⟨rfl, hb4⟩
          have HB4 := Lib.hid (HB3.out.trans (hb4.mono HB3.out.size))
          have H84 := Lib.hid (H83.out.below hb4)
          clear hb4
          go_wp2_with fail
          go_roundw
          case rel =>
            refine ⟨j + 1, R, by go_num, HJ.out, HS.out, HM2.out, HDR.out, ?_, HB4.out⟩
            exact .inr ⟨b, o, rfl, by have := H84.out; rwa [show o + j * 4 + 4 = o + (j + 1) * 4 from by omega] at this⟩
          case measure => simp [intOf]; omega
    · have hF := g2 he
      subst hF
      have he1 : (re == 0) = false := by simp [he]
      have he2 : (re != 0) = true := by simp [he]
      have hg3 : ¬ ra < 0 := by omega
      have hg4 : ¬ (L.length : Int) < ra := by omega
      have e0 : For.nil.len = 0 := rfl
      clear g1 g2 g3 g4 he hls hsz2
      go_enter Try.func6, Try.ntmps6
      go_wp2_with fail
      refine (CA.out _).mono ?_
      rintro e w1 ⟨rfl, hb1⟩
      have HB1 := Lib.hid hb1
      clear hb1
      go_wp2_with fail
      refine (cr.out w1).mono ?_
      rintro e w2 ⟨⟨v, B, ks, rfl, hB, hK, hn⟩, hb2⟩
      obtain ⟨A, cp, rfl, hKd⟩ := hK.kds
      have HB2 := Lib.hid (HB1.out.trans (hb2.mono HB1.out.size))
      have cs := stands_any 1 L .nil A cp 0 0 w2 HC.out (by omega) (by decide) (by decide) hKd rfl (Nat.zero_le _)
      rw [e0] at cs ⊢
      clear hK hn hB hb2 hKd cr e0
      go_wp2_with fail
      go_loopw [8] (fun i wr => i = .int .i64 0 ∧ wr = w2) (fun i _ => 0)
      case atStart => exact ⟨rfl, rfl⟩
      case round =>
        obtain ⟨rfl, rfl⟩ := hrel
        go_wp2_with fail
        refine cs.mono ?_
        rintro e w3 ⟨rfl, hb3⟩
        go_wp2
        go_ret
        exact ⟨rfl, HB2.out.trans (hb3.mono HB2.out.size)⟩

end Go.Proofs.Ytkmenbicmbaceaa

/- SexpReads, the law. -/
import Derived.Test.YtkmenbicmbaceaaSexW
import Derived.Test.YtkmenbicmbaceaaSexX
import Derived.Test.YtkmenbicmbaceaaSexP
namespace Go.Proofs.Ytkmenbicmbaceaa
open Go.RowKit

set_option linter.unusedVariables false
set_option linter.unusedSimpArgs false

theorem spent_field (a b c d : Int) (w : World) : (Instr.field 46 (.agg #[.int .i64 a, .int .i64 b, .int .i64 c, .int .i64 d]) 3).run Try.prog w = .ok (.int .i64 d) w := by kernel_rfl
set_option maxRecDepth 100000 in
set_option maxHeartbeats 8000000 in
theorem reads_law (w : World) (s : ByteArray) (hs : s.size ≤ 9223372036854775807) (a : Int) :
    Calls Try.prog 4 #[.string s, .int .i64 a] w fun e w' => e = .returned (.bool true) ∧ Below w.heap.size w w' := by
  obtain ⟨L, hc, -, rfl⟩ := bytes_str s
  have hsz := str_size L
  rw [hsz] at hs
  have CA := Lib.hid awake_any
  by_cases hlong : 2000 < L.length
  · go_enter Try.func4, Try.ntmps4
    go_wp2_with fail
    refine (CA.out _).mono ?_
    rintro e w1 ⟨rfl, hb1⟩
    go_wp2
    go_ret
    exact ⟨rfl, hb1⟩
  · have hdl := dof_lt a
    obtain ⟨d, hd⟩ : ∃ d, d = dof a := ⟨_, rfl⟩
    rw [← hd] at hdl
    have e1 : wrap64 ((IntKind.u64.wrap a).tmod 65537) = (d : Int) := by
      rw [IntKind.wrap_u64, Int.tmod_eq_emod_of_nonneg (by omega), hd]
      unfold wrap64 dof
      omega
    have cw := rread_any L (d : Int) w hc (by omega) (by omega) (by omega)
    have CN := Lib.hid (fun w1 => new_yes 0 0 0 (d : Int) w1 ⟨⟨by decide, by decide⟩, ⟨by decide, by decide⟩, ⟨by decide, by decide⟩, by omega, by omega⟩)
    have CR := Lib.hid (fun mb w1 hm => read_any L mb (Mt.new 0 0 0 (d : Int)) w1 hc (by omega) hm)
    have hsz2 := rdd_siz (d : Int) L
    obtain ⟨f1, f2, f3, f4⟩ := refR_rdd (d : Int) L
    have hv : rd (Mt.new 0 0 0 (d : Int)) L = rdd (d : Int) L := rfl
    unfold ReadP at CR
    unfold RReadQ at cw
    rw [hv] at CR
    rw [← f1, ← f2, ← f3, ← f4] at cw
    clear f1 f2 f3 f4 hv
    generalize rdd (d : Int) L = r at *
    obtain ⟨rm, rF, ra, re⟩ := r
    dsimp only at cw CR hsz2
    generalize Mt.new 0 0 0 (d : Int) = m0 at *
    have hls := For.len_siz rF
    replace hsz2 : rF.siz < 70000 := by omega
    clear hd hc
    go_enter Try.func4, Try.ntmps4
    go_wp2_with fail
    refine cw.mono ?_
    rintro e w1 ⟨⟨vD, kD, rfl, hkD⟩, hb1⟩
    obtain ⟨AD, cD, rfl, hKD⟩ := hkD.kds
    have HKD := Lib.hid hKD
    have HB1 := Lib.hid hb1
    clear hkD hKD hb1 cw
    go_wp2_with fail
    go_loopw [9] (fun i wr => ∃ j : Nat, i = .int .i64 (j : Int) ∧ j ≤ 2 ∧ Below w1.heap.size w1 wr) (fun i _ => 2 - (intOf i).toNat)
    case atStart => exact ⟨0, rfl, by omega, Below.refl _ _⟩
    case round =>
      obtain ⟨j, rfl, hj, hB⟩ := hrel
      have HB := Lib.hid hB
      clear hB
      by_cases hj2 : j < 2
      · have hj3 : (j : Int) < 2 := by omega
        have hj0 : (0 : Int) ≤ (j : Int) := by omega
        go_wp2_with fail
        refine (CN.out wr).mono ?_
        rintro e w2 ⟨g, hg, rfl, hm, hb2⟩
        have HB2 := Lib.hid (HB.out.trans (hb2.mono HB.out.size))
        have HG := Lib.hid hg
        have cr := CR.out g w2 hm
        have HS2 := Lib.hid hb2.size
        clear hb2 hg hm
        go_wp2_with fail
        refine cr.mono ?_
        rintro e w3 ⟨⟨v, B, ks, rfl, hBB, hK, hn⟩, hm3, hj3⟩
        obtain ⟨A, cp, rfl, hKd⟩ := hK.kds
        have ct := told_any _ rF A cp w3 (Nat.lt_succ_self _) hsz2 hKd
        have HB3 := Lib.hid (HB2.out.trans (hj3.below (Nat.le_trans HB.out.size HG.out) (Nat.le_trans HB.out.size HS2.out)))
        have hBw : w1.heap.size ≤ B := Nat.le_trans HB.out.size (Nat.le_trans HS2.out hBB)
        have HBW := Lib.hid hBw
        have HK := Lib.hid hK
        have HN := Lib.hid hn
        have HM3 := Lib.hid hm3
        clear hBB hBw hK hn hm3 hj3 hKd cr
        go_wp2_with fail
        refine ct.mono ?_
        rintro e w4 ⟨⟨vt, kt, rfl, hkt⟩, hb4⟩
        obtain ⟨At, cpt, rfl, hKt⟩ := hkt.kds
        have HB4 := Lib.hid (HB3.out.trans (hb4.mono HB3.out.size))
        have ce := exact_any _ rF At cpt AD cD w4 (Nat.lt_succ_self _) hsz2 hKt (HKD.out.below HB4.out)
        have H4 := Lib.hid hb4
        clear hkt hb4 hKt ct
        go_wp2_with fail
        refine ce.mono ?_
        rintro e w5 ⟨rfl, hb5⟩
        have HB5 := Lib.hid (HB4.out.trans (hb5.mono HB4.out.size))
        have H5 := Lib.hid (H4.out.trans (hb5.mono H4.out.size))
        have cs := spent_any g rm w5 (HM3.out.keep H5.out)
        clear hb5 ce
        go_wp2_with fail
        refine cs.mono ?_
        rintro e w6 ⟨rfl, hb6⟩
        have HB6 := Lib.hid (HB5.out.trans (hb6.mono HB5.out.size))
        have H6 := Lib.hid (H5.out.trans (hb6.mono H5.out.size))
        have csp := spoil_any _ rF A cp w6 B ks (Nat.lt_succ_self _) hsz2 (HK.out.keep fun b hb => by
          obtain ⟨_, cc, hcc⟩ := HK.out.kind b hb
          exact H6.out.block b (kind_lt hcc)) HN.out
        clear hb6 cs
        have hfd := fun w => spent_field rm.ss rm.sr rm.sl rm.sd w
        go_wp2_with fail
        refine csp.mono ?_
        rintro e w7 ⟨rfl, hbut⟩
        have HB7 := Lib.hid (show Below w1.heap.size w1 w7 from ⟨hbut.os.trans HB6.out.os, hbut.tape.trans HB6.out.tape, hbut.output.trans HB6.out.output, Nat.le_trans HB6.out.size hbut.size, fun q hq => (hbut.block q (Nat.lt_of_lt_of_le hq HB6.out.size) (fun h => by
          have h8 := (HK.out.kind q h).1
          have h9 := HBW.out
          omega)).trans (HB6.out.block q hq)⟩)
        clear hbut csp
        go_wp2_with fail
        go_roundw
        case measure => simp only [intOf]; omega
        case rel => exact ⟨j + 1, by congr 1, by omega, HB7.out⟩
      · have hj3 : ¬ (j : Int) < 2 := by omega
        go_wp2_with fail
        refine (CA.out _).mono ?_
        rintro e w2 ⟨rfl, hb2⟩
        have HB4 := Lib.hid (HB1.out.trans ((HB.out.trans (hb2.mono HB.out.size)).mono HB1.out.size))
        clear hb2
        go_wp2
        go_ret
        exact ⟨rfl, HB4.out⟩

end Go.Proofs.Ytkmenbicmbaceaa

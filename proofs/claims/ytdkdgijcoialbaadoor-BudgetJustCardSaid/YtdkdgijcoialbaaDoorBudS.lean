/- BudgetJust (mkbuds.py). -/
import Derived.Test.YtdkdgijcoialbaaDoorBudR
import Derived.Deep.RegionWith
import Derived.Deep.RegionHeld3
import Derived.Deep.RegionHeldLaw
namespace Go.Proofs.YtdkdgijcoialbaaDoor
open Go.RowKit

set_option linter.unusedVariables false
set_option linter.unusedSimpArgs false

set_option maxRecDepth 100000 in
set_option maxHeartbeats 16000000 in
theorem just_no (s r l d s' r' l' d' : Int) (A : Option Addr) (cap : Nat) (cs : List Cl) (w : World) (hT : ErrT w) (hB : Tab w) (hc : CallsAt w A cs) (hm : ¬ Bmay s r l d) :
    Calls Tryd.prog 5 #[.agg #[.int .i64 s, .int .i64 r, .int .i64 l, .int .i64 d], .agg #[.int .i64 s', .int .i64 r', .int .i64 l', .int .i64 d'], .slice A cs.length cap] w fun e w' => e = .returned (.bool true) ∧ Below w.heap.size w w' := by
  obtain ⟨W, hW⟩ : ∃ W, (w.alloc (.cells #[.int .i64 s, .int .i64 r, .int .i64 l, .int .i64 d] 24)).alloc (.cells #[.int .i64 s', .int .i64 r', .int .i64 l', .int .i64 d'] 24) = W := ⟨_, rfl⟩
  have K0 := Lib.hid (show Below w.heap.size w W from hW ▸ ((Below.refl _ w).alloc (Nat.le_refl _) _).alloc (by simp) _)
  have XB := Lib.hid (show W.heap[w.heap.size]? = some (.cells #[.int .i64 s, .int .i64 r, .int .i64 l, .int .i64 d] 24 (0, 0)) from hW ▸ lone_old _ (lone_new w _ _))
  have XM := Lib.hid (show W.heap[w.heap.size + 1]? = some (.cells #[.int .i64 s', .int .i64 r', .int .i64 l', .int .i64 d'] 24 (0, 0)) from hW ▸ lone_new_at _ _ _ _ (by simp))
  have XL := Lib.hid (show w.heap.size < W.heap.size ∧ w.heap.size + 1 < W.heap.size from ⟨(Array.getElem?_eq_some_iff.1 XB.out).1, (Array.getElem?_eq_some_iff.1 XM.out).1⟩)
  have HT := Lib.hid (hT.keep K0.out)
  have HB := Lib.hid (hB.keep K0.out)
  have HC := Lib.hid (hc.below K0.out)
  have c1 := Lib.hid (many_any A cap cs W HC.out)
  have c2 := Lib.hid (fun w1 => new_no s r l d w1 hm)
  clear hT hB hc hm
  go_enter Tryd.func5, Tryd.ntmps5
  go_wp2_with fail
  (with_reducible refine c1.out.mono ?_); rintro e w' ⟨b, rfl, rfl⟩
  clear c1
  cases b
  case true =>
    go_wp2_with ((with_reducible refine (awake_any W HT.out HB.out).mono ?_); rintro e w1 ⟨rfl, hb⟩; have K1 := Lib.hid hb; clear hb)
    go_ret
    exact ⟨rfl, K0.out.trans (K1.out.mono K0.out.size)⟩
  case false =>
    go_wp2_with (first
      | ((with_reducible refine (awake_any W HT.out HB.out).mono ?_); rintro e w1 ⟨rfl, hb⟩; have K1 := Lib.hid hb; clear hb; have hb0 := (K1.out.block _ XL.out.1).trans XB.out; have hb1 := (K1.out.block _ XL.out.2).trans XM.out; have qw10 : w1.cell? ⟨w.heap.size, 0, none⟩ = some (.int .i64 s) := (cell_of hb0 0).trans rfl; have qw11 : w1.cell? ⟨w.heap.size, 1, none⟩ = some (.int .i64 r) := (cell_of hb0 1).trans rfl; have qw12 : w1.cell? ⟨w.heap.size, 2, none⟩ = some (.int .i64 l) := (cell_of hb0 2).trans rfl; have qw13 : w1.cell? ⟨w.heap.size, 3, none⟩ = some (.int .i64 d) := (cell_of hb0 3).trans rfl; have pw10 : w1.cell? ⟨w.heap.size + 1, 0, none⟩ = some (.int .i64 s') := (cell_of hb1 0).trans rfl; have pw11 : w1.cell? ⟨w.heap.size + 1, 1, none⟩ = some (.int .i64 r') := (cell_of hb1 1).trans rfl; have pw12 : w1.cell? ⟨w.heap.size + 1, 2, none⟩ = some (.int .i64 l') := (cell_of hb1 2).trans rfl; have pw13 : w1.cell? ⟨w.heap.size + 1, 3, none⟩ = some (.int .i64 d') := (cell_of hb1 3).trans rfl; clear hb0 hb1)
      | ((with_reducible refine (c2.out w1).mono ?_); rintro e w2 ⟨rfl, hb⟩; have K2 := Lib.hid (K1.out.trans (hb.mono K1.out.size)); clear hb))
    go_ret
    exact ⟨rfl, K0.out.trans (K2.out.mono K0.out.size)⟩
set_option maxRecDepth 100000 in
set_option maxHeartbeats 16000000 in
theorem just_yes (s r l d s' r' l' d' : Int) (A : Option Addr) (cap : Nat) (cs : List Cl) (w : World) (hT : ErrT w) (hB : Tab w) (hc : CallsAt w A cs) (hm : Bmay s r l d) :
    Calls Tryd.prog 5 #[.agg #[.int .i64 s, .int .i64 r, .int .i64 l, .int .i64 d], .agg #[.int .i64 s', .int .i64 r', .int .i64 l', .int .i64 d'], .slice A cs.length cap] w fun e w' => e = .returned (.bool true) ∧ Below w.heap.size w w' := by
  obtain ⟨W, hW⟩ : ∃ W, (w.alloc (.cells #[.int .i64 s, .int .i64 r, .int .i64 l, .int .i64 d] 24)).alloc (.cells #[.int .i64 s', .int .i64 r', .int .i64 l', .int .i64 d'] 24) = W := ⟨_, rfl⟩
  have K0 := Lib.hid (show Below w.heap.size w W from hW ▸ ((Below.refl _ w).alloc (Nat.le_refl _) _).alloc (by simp) _)
  have XB := Lib.hid (show W.heap[w.heap.size]? = some (.cells #[.int .i64 s, .int .i64 r, .int .i64 l, .int .i64 d] 24 (0, 0)) from hW ▸ lone_old _ (lone_new w _ _))
  have XM := Lib.hid (show W.heap[w.heap.size + 1]? = some (.cells #[.int .i64 s', .int .i64 r', .int .i64 l', .int .i64 d'] 24 (0, 0)) from hW ▸ lone_new_at _ _ _ _ (by simp))
  have XL := Lib.hid (show w.heap.size < W.heap.size ∧ w.heap.size + 1 < W.heap.size from ⟨(Array.getElem?_eq_some_iff.1 XB.out).1, (Array.getElem?_eq_some_iff.1 XM.out).1⟩)
  have HT := Lib.hid (hT.keep K0.out)
  have HB := Lib.hid (hB.keep K0.out)
  have HC := Lib.hid (hc.below K0.out)
  have c1 := Lib.hid (many_any A cap cs W HC.out)
  have c2 := Lib.hid (fun w1 => new_yes s r l d w1 hm)
  have HF := Lib.hid (Fine.new hm)
  clear hT hB hc hm
  go_enter Tryd.func5, Tryd.ntmps5
  go_wp2_with fail
  (with_reducible refine c1.out.mono ?_); rintro e w' ⟨b, rfl, rfl⟩
  clear c1
  cases b
  case true =>
    go_wp2_with ((with_reducible refine (awake_any W HT.out HB.out).mono ?_); rintro e w1 ⟨rfl, hb⟩; have K1 := Lib.hid hb; clear hb)
    go_ret
    exact ⟨rfl, K0.out.trans (K1.out.mono K0.out.size)⟩
  case false =>
    go_wp2_with (first
      | ((with_reducible refine (awake_any W HT.out HB.out).mono ?_); rintro e w1 ⟨rfl, hb⟩; have K1 := Lib.hid hb; clear hb; have hb0 := (K1.out.block _ XL.out.1).trans XB.out; have hb1 := (K1.out.block _ XL.out.2).trans XM.out; have qw10 : w1.cell? ⟨w.heap.size, 0, none⟩ = some (.int .i64 s) := (cell_of hb0 0).trans rfl; have qw11 : w1.cell? ⟨w.heap.size, 1, none⟩ = some (.int .i64 r) := (cell_of hb0 1).trans rfl; have qw12 : w1.cell? ⟨w.heap.size, 2, none⟩ = some (.int .i64 l) := (cell_of hb0 2).trans rfl; have qw13 : w1.cell? ⟨w.heap.size, 3, none⟩ = some (.int .i64 d) := (cell_of hb0 3).trans rfl; have pw10 : w1.cell? ⟨w.heap.size + 1, 0, none⟩ = some (.int .i64 s') := (cell_of hb1 0).trans rfl; have pw11 : w1.cell? ⟨w.heap.size + 1, 1, none⟩ = some (.int .i64 r') := (cell_of hb1 1).trans rfl; have pw12 : w1.cell? ⟨w.heap.size + 1, 2, none⟩ = some (.int .i64 l') := (cell_of hb1 2).trans rfl; have pw13 : w1.cell? ⟨w.heap.size + 1, 3, none⟩ = some (.int .i64 d') := (cell_of hb1 3).trans rfl; clear hb0 hb1)
      | ((with_reducible refine (c2.out w1).mono ?_); rintro e w2 ⟨g, hg, rfl, hm, hb⟩; have HG := Lib.hid (Nat.le_trans K1.out.size hg); have M2 := Lib.hid hm; have K2 := Lib.hid (K1.out.trans (hb.mono K1.out.size)); clear hb hm hg))
    clear c2 qw10 qw11 qw12 qw13 pw10 pw11 pw12 pw13 hW
    obtain ⟨m0, hm0⟩ : ∃ m0, Mt.new s r l d = m0 := ⟨_, rfl⟩
    have HM0 := Lib.hid hm0
    rw [hm0] at HF M2
    clear hm0
    go_loopw [9] (fun i wr => ∃ k : Nat, k ≤ cs.length ∧ i = .int .i64 (k : Int) ∧ MtAt g (behind m0 cs k) wr ∧ AllOk m0 cs k ∧ (behind m0 cs k).out = none ∧ Below W.heap.size W wr) (fun i _ => (cs.length - numOf i).toNat)
    case atStart => exact ⟨0, Nat.zero_le _, rfl, M2.out, fun i _ h => absurd h (Nat.not_lt_zero _), by rw [← HM0.out]; rfl, K2.out⟩
    case round =>
      obtain ⟨k, hk, rfl, hm, hall, hout, hb⟩ := hrel
      obtain ⟨wo, rfl⟩ : ∃ wo : World, wo = wr := ⟨_, rfl⟩
      have M := Lib.hid hm
      have K := Lib.hid hb
      have AK := Lib.hid hall
      have HO := Lib.hid hout
      clear M2 K2 hm hb hall hout
      rcases Nat.lt_or_ge k cs.length with hlt | hge
      · obtain ⟨b, off, rfl, hb, hc⟩ := (HC.out.below K.out).2 (by omega)
        obtain ⟨⟨d0, d1, d2, d3, d4, d5, d6, d7⟩, ha⟩ := hc k cs[k] (List.getElem?_eq_getElem hlt)
        have HA := Lib.hid ha
        obtain ⟨k1, hk1⟩ : ∃ k1 : Nat, wrap64 ((k : Int) + 1) = (k1 : Int) ∧ k1 = k + 1 := ⟨k + 1, by have := HC.out.1; unfold wrap64; omega, rfl⟩
        have HK1 := Lib.hid hk1.2
        replace hk1 := hk1.1
        have HCK := Lib.hid (show cs[k] = cs[k] from rfl)
        clear hc ha
        rcases tell_cases (behind m0 cs k) cs[k] with ⟨p, n, e0, e1⟩ | ⟨e0, m', e1, e2⟩ | ⟨e0, m', p, n, e1, e2⟩
        · exact absurd (HO.out.symm.trans e0) (by simp)
        · have t1 := Lib.hid (tell_eq M.out HA.out (behind_good cs HF.out k).1 e1)
          have AK1 := Lib.hid (AK.out.succ hlt e0 e1)
          have E2 := Lib.hid e2
          clear e0 e1 e2 HA
          generalize cs[k] = c at *
          obtain ⟨what, ⟨kind, P, pc, n1, A1, la, cc1, n2, A2, lm, cc2, ls⟩, n⟩ := c
          simp only at d0 d1 d2 d3 d4 d5 d6 d7 t1
          generalize hnl : cs.length = nl at *
          go_wp2_with ((with_reducible refine t1.out.mono ?_); rintro e w4 ⟨rfl, hm4, hj4⟩; have M4 := Lib.hid hm4; have J4 := Lib.hid hj4; clear hm4 hj4)
          refine ⟨⟨k1, by have := HK1.out; omega, by rw [hk1], ?_, ?_, ?_, K.out.trans (J4.out.below HG.out K.out.size)⟩, ?_⟩
          · rw [HK1.out, ← AK1.out.2]; exact M4.out
          · rw [HK1.out]; exact AK1.out.1
          · rw [HK1.out, ← AK1.out.2]; exact E2.out
          · rw [hk1]; have := HK1.out; simp only [numOf]; omega
        · have t1 := Lib.hid (tell_eq M.out HA.out (behind_good cs HF.out k).1 e1)
          have RF := Lib.hid (tell_refused e1)
          clear e0 e1 e2 HA
          generalize cs[k] = c at *
          obtain ⟨what, ⟨kind, P, pc, n1, A1, la, cc1, n2, A2, lm, cc2, ls⟩, nn⟩ := c
          simp only at d0 d1 d2 d3 d4 d5 d6 d7 t1
          generalize hnl : cs.length = nl at *
          go_wp2_with ((with_reducible refine t1.out.mono ?_); rintro e w4 ⟨rfl, hm4, hj4⟩; have M4 := Lib.hid hm4; have K4 := Lib.hid (K.out.trans (hj4.below HG.out K.out.size)); clear hm4 hj4)
          have FK := behind_good cs HF.out k
          have BK := behind_budget AK.out k (Nat.le_refl _) (by first | exact hk | (have := hnl; omega))
          obtain ⟨mk, hmk⟩ : ∃ mk, behind m0 cs k = mk := ⟨_, rfl⟩
          rw [hmk] at FK BK
          rw [← HM0.out] at BK
          simp only [Mt.new] at BK
          have GK := FK.1
          unfold Good at GK
          have L0 : mk.ss ≤ s := by omega
          have L1 : mk.sr ≤ r := by omega
          have L2 : mk.sl ≤ l := by omega
          have L3 : mk.sd ≤ d := by omega
          have HMAY := Lib.hid (show Bmay mk.ss mk.sr mk.sl mk.sd by unfold Bmay; omega)
          have HMK := Lib.hid hmk
          have HFK := Lib.hid FK
          have EQ := Lib.hid (show m'.ss = mk.ss ∧ m'.sr = mk.sr ∧ m'.sl = mk.sl ∧ m'.sd = mk.sd by rw [← hmk]; exact RF.out)
          clear hmk FK BK GK
          go_wp2_with (first
            | ((with_reducible refine (spent_eq M4.out EQ.out.1 EQ.out.2.1 EQ.out.2.2.1 EQ.out.2.2.2).mono ?_); rintro e w6 ⟨rfl, hb⟩; have K6 := Lib.hid (K4.out.trans (hb.mono K4.out.size)); clear hb
               obtain ⟨w7, h7⟩ : ∃ w7, w6.alloc (.cells #[.int .i64 mk.ss, .int .i64 mk.sr, .int .i64 mk.sl, .int .i64 mk.sd] 24) = w7 := ⟨_, rfl⟩
               have K7 := Lib.hid (show Below W.heap.size W w7 from h7 ▸ K6.out.alloc K6.out.size _)
               have S7 := Lib.hid (show SpentAt w6.heap.size mk w7 from h7 ▸ lone_new w6 _ _)
               have yw70 : w7.cell? ⟨w6.heap.size, 0, none⟩ = some (.int .i64 mk.ss) := (cell_of S7.out 0).trans rfl; have yw71 : w7.cell? ⟨w6.heap.size, 1, none⟩ = some (.int .i64 mk.sr) := (cell_of S7.out 1).trans rfl; have yw72 : w7.cell? ⟨w6.heap.size, 2, none⟩ = some (.int .i64 mk.sl) := (cell_of S7.out 2).trans rfl; have yw73 : w7.cell? ⟨w6.heap.size, 3, none⟩ = some (.int .i64 mk.sd) := (cell_of S7.out 3).trans rfl;)
            | ((with_reducible refine (new_yes mk.ss mk.sr mk.sl mk.sd w7 HMAY.out).mono ?_); rintro e w8 ⟨gx, hg, rfl, hm, hb⟩; have GX := Lib.hid hg; have MX := Lib.hid hm; have K8 := Lib.hid (K7.out.trans (hb.mono K7.out.size)); have S8 := Lib.hid (S7.out.keep hb); clear hb hm hg
               have yw80 : w8.cell? ⟨w6.heap.size, 0, none⟩ = some (.int .i64 mk.ss) := (cell_of S8.out 0).trans rfl; have yw81 : w8.cell? ⟨w6.heap.size, 1, none⟩ = some (.int .i64 mk.sr) := (cell_of S8.out 1).trans rfl; have yw82 : w8.cell? ⟨w6.heap.size, 2, none⟩ = some (.int .i64 mk.sl) := (cell_of S8.out 2).trans rfl; have yw83 : w8.cell? ⟨w6.heap.size, 3, none⟩ = some (.int .i64 mk.sd) := (cell_of S8.out 3).trans rfl;
               have hb0 := (K8.out.block _ XL.out.1).trans XB.out; have hb1 := (K8.out.block _ XL.out.2).trans XM.out; have qw80 : w8.cell? ⟨w.heap.size, 0, none⟩ = some (.int .i64 s) := (cell_of hb0 0).trans rfl; have qw81 : w8.cell? ⟨w.heap.size, 1, none⟩ = some (.int .i64 r) := (cell_of hb0 1).trans rfl; have qw82 : w8.cell? ⟨w.heap.size, 2, none⟩ = some (.int .i64 l) := (cell_of hb0 2).trans rfl; have qw83 : w8.cell? ⟨w.heap.size, 3, none⟩ = some (.int .i64 d) := (cell_of hb0 3).trans rfl; have pw80 : w8.cell? ⟨w.heap.size + 1, 0, none⟩ = some (.int .i64 s') := (cell_of hb1 0).trans rfl; have pw81 : w8.cell? ⟨w.heap.size + 1, 1, none⟩ = some (.int .i64 r') := (cell_of hb1 1).trans rfl; have pw82 : w8.cell? ⟨w.heap.size + 1, 2, none⟩ = some (.int .i64 l') := (cell_of hb1 2).trans rfl; have pw83 : w8.cell? ⟨w.heap.size + 1, 3, none⟩ = some (.int .i64 d') := (cell_of hb1 3).trans rfl; clear hb0 hb1))
          obtain ⟨w9, h9⟩ : ∃ w9, w8.alloc (.cells #[.int .i64 (max s s'), .int .i64 (max r r'), .int .i64 (max l l'), .int .i64 (max d d')] 24) = w9 := ⟨_, rfl⟩
          have K9 := Lib.hid (show Below W.heap.size W w9 from h9 ▸ K8.out.alloc K8.out.size _)
          have S9 := Lib.hid (show SpentAt w6.heap.size mk w9 from h9 ▸ S8.out.keep ((Below.refl _ w8).alloc (Nat.le_refl _) _))
          have MX9 := Lib.hid (show MtAt gx (Mt.new mk.ss mk.sr mk.sl mk.sd) w9 from h9 ▸ MX.out.keep ((Below.refl _ w8).alloc (Nat.le_refl _) _))
          have GXW := Lib.hid (show W.heap.size ≤ gx from Nat.le_trans K7.out.size GX.out)
          have HN := Lib.hid (show w6.heap.size ≠ gx from fun e => by have h1 := (Array.getElem?_eq_some_iff.1 S7.out).1; have := GX.out; omega)
          rw [h9]
          clear h7 h9 S7 S8 K7 K8 MX yw70 yw71 yw72 yw73 yw80 yw81 yw82 yw83 qw80 qw81 qw82 qw83 pw80 pw81 pw82 pw83
          generalize w6.heap.size = sb at *
          generalize hws : max s s' = ws
          generalize hwr : max r r' = wr'
          generalize hwl : max l l' = wl
          generalize hwd : max d d' = wd
          by_cases hwide : Bmay ws wr' wl wd
          · have c3 := Lib.hid (new_yes ws wr' wl wd w9 hwide)
            have HW := Lib.hid hwide
            have HWL := Lib.hid (show mk.ss ≤ ws ∧ mk.sr ≤ wr' ∧ mk.sl ≤ wl ∧ mk.sd ≤ wd by omega)
            clear hwide
            go_wp2_with ((with_reducible refine c3.out.mono ?_); rintro e w10 ⟨gy, hg, rfl, hm, hb⟩; have GY := Lib.hid hg; have MY := Lib.hid hm; have K10 := Lib.hid (K9.out.trans (hb.mono K9.out.size)); have S10 := Lib.hid (S9.out.keep hb); have MX10 := Lib.hid (MX9.out.keep hb); clear hb hm hg)
            have HNY := Lib.hid (show sb ≠ gy from fun e => by have h1 := (Array.getElem?_eq_some_iff.1 S9.out).1; have := GY.out; omega)
            have HXY := Lib.hid (show gx ≠ gy from fun e => by have h1 := MX9.out.lt; have := GY.out; omega)
            have GYW := Lib.hid (show W.heap.size ≤ gy from Nat.le_trans K9.out.size GY.out)
            have HHK := Lib.hid (show k ≤ cs.length by first | exact hk | (have := hnl; omega))
            clear c3 L0 L1 L2 L3 hws hwr hwl hwd
            go_loopw [15] (fun j wq => ∃ i : Nat, i ≤ k ∧ j = .int .i64 (i : Int) ∧ MtAt gx ((Mt.new mk.ss mk.sr mk.sl mk.sd).as (behind m0 cs i)) wq ∧ MtAt gy ((Mt.new ws wr' wl wd).as (behind m0 cs i)) wq ∧ SpentAt sb mk wq ∧ Below W.heap.size W wq) (fun j _ => (k - numOf j).toNat)
            case atStart => exact ⟨0, Nat.zero_le _, rfl, by rw [show behind m0 cs 0 = m0 from rfl, ← HM0.out]; exact MX10.out, by rw [show behind m0 cs 0 = m0 from rfl, ← HM0.out]; exact MY.out, S10.out, K10.out⟩
            case round =>
              obtain ⟨i, hik, rfl, hmx, hmy, hsb, hbq⟩ := hrel
              have QX := Lib.hid hmx
              have QS := Lib.hid hsb
              have QK := Lib.hid hbq
              have QY := Lib.hid hmy
              clear hmy MY
              clear hmx hsb hbq MX10 S10 K10
              rcases Nat.lt_or_ge i k with hik1 | hik1
              · have hil : i < cs.length := Nat.lt_of_lt_of_le hik1 HHK.out
                obtain ⟨b2, off2, hA2, hbw, hc2⟩ := HC.out.2 (by omega)
                have hcl := hc2 i cs[i] (List.getElem?_eq_getElem hil)
                have HA2 := Lib.hid (hcl.2.below QK.out)
                have tx := just_step HF.out AK.out HHK.out hik1 hil HMK.out (Mt.new mk.ss mk.sr mk.sl mk.sd) HMAY.out ⟨Int.le_refl _, Int.le_refl _, Int.le_refl _, Int.le_refl _⟩
                have t1 := Lib.hid (tell_eq QX.out HA2.out tx.2 tx.1)
                have TY := Lib.hid (just_step HF.out AK.out HHK.out hik1 hil HMK.out (Mt.new ws wr' wl wd) HW.out HWL.out)
                obtain ⟨i1, hi1⟩ : ∃ i1 : Nat, wrap64 ((i : Int) + 1) = (i1 : Int) ∧ i1 = i + 1 := ⟨i + 1, by have := HC.out.1; have := HHK.out; unfold wrap64; omega, rfl⟩
                have HI1 := Lib.hid hi1.2
                replace hi1 := hi1.1
                first | subst hA2 | (injection hA2 with hA2; injection hA2 with hA2 hA3; subst hA2 hA3)
                have HCL := Lib.hid hcl
                have HBW := Lib.hid hbw
                have ccu := (hcl.1.below QK.out hbw); obtain ⟨u0, u1, u2, u3, u4, u5, u6, u7⟩ := ccu; 
                clear tx hcl hbw hc2
                try (have hin : i < nl := hnl ▸ hil)
                try clear hnl hk hlt
                generalize cs[i] = c at *
                obtain ⟨what2, ⟨kind2, P2, pc2, n12, A12, la2, cc12, n22, A22, lm2, cc22, ls2⟩, nn2⟩ := c
                simp only at u0 u1 u2 u3 u4 u5 u6 u7 t1 TY HCL
                generalize hnl2 : cs.length = nl2 at *
                have hil2 : i < nl2 := by omega
                go_wp2_with (first
                  | ((with_reducible refine t1.out.mono ?_); rintro e wa ⟨rfl, hma, hja⟩; have MA := Lib.hid hma; have KA := Lib.hid (QK.out.trans (hja.below GXW.out QK.out.size)); have SA := Lib.hid (show SpentAt sb mk wa from (hja.block sb (Array.getElem?_eq_some_iff.1 QS.out).1 HN.out).trans QS.out)
                     have YA := Lib.hid (show MtAt gy ((Mt.new ws wr' wl wd).as (behind m0 cs i)) wa from (hja.block gy QY.out.lt HXY.out.symm).trans QY.out)
                     have t2 := Lib.hid (tell_eq YA.out (HCL.out.2.below KA.out) TY.out.2 TY.out.1)
                     have cv := (HCL.out.1.below KA.out HBW.out); obtain ⟨v0, v1, v2, v3, v4, v5, v6, v7⟩ := cv
                     simp only at v0 v1 v2 v3 v4 v5 v6 v7 t2
                     clear hma hja)
                  | ((with_reducible refine t2.out.mono ?_); rintro e wb ⟨rfl, hmb, hjb⟩; have MB := Lib.hid hmb; have KB := Lib.hid (KA.out.trans (hjb.below GYW.out KA.out.size)); have SB := Lib.hid (show SpentAt sb mk wb from (hjb.block sb (Array.getElem?_eq_some_iff.1 SA.out).1 HNY.out).trans SA.out); have XB2 := Lib.hid (show MtAt gx ((Mt.new mk.ss mk.sr mk.sl mk.sd).as (behind m0 cs (i + 1))) wb from (hjb.block gx MA.out.lt HXY.out).trans MA.out); clear hmb hjb)
                  )
                refine ⟨⟨i1, by have := HI1.out; omega, by rw [hi1], by rw [HI1.out]; exact XB2.out, by rw [HI1.out]; exact MB.out, SB.out, KB.out⟩, ?_⟩
                rw [hi1]; have := HI1.out; simp only [numOf]; omega
              · have hik2 : i = k := by omega
                have ex : (Mt.new mk.ss mk.sr mk.sl mk.sd).as (behind m0 cs i) = (Mt.new mk.ss mk.sr mk.sl mk.sd).as mk := by rw [hik2, HMK.out]
                have QX2 := Lib.hid (show MtAt gx ((Mt.new mk.ss mk.sr mk.sl mk.sd).as mk) wr from ex ▸ QX.out)
                have ey : (Mt.new ws wr' wl wd).as (behind m0 cs i) = (Mt.new ws wr' wl wd).as mk := by rw [hik2, HMK.out]
                have QY2 := Lib.hid (show MtAt gy ((Mt.new ws wr' wl wd).as mk) wr from ey ▸ QY.out)
                clear ey
                clear ex hik2
                have R0 := Lib.hid (show SpentAt sb mk wr.drew from QS.out)
                have RX0 := Lib.hid (show MtAt gx ((Mt.new mk.ss mk.sr mk.sl mk.sd).as mk) wr.drew from QX2.out)
                have RK0 := Lib.hid (show Below W.heap.size W wr.drew from QK.out.drew)
                have RY0 := Lib.hid (show MtAt gy ((Mt.new ws wr' wl wd).as mk) wr.drew from QY2.out)
                have s0 := spent_cells R0.out
                clear QS QX QX2 QK
                try clear d0 d1 d2 d3 d4 d5 d6 d7
                go_wp2
                go_region_held3 (fun w' => w'.cell? ⟨sb, 0, none⟩ = some (.int .i64 mk.ss) ∧ w'.cell? ⟨sb, 1, none⟩ = some (.int .i64 mk.sr) ∧ w'.cell? ⟨sb, 2, none⟩ = some (.int .i64 mk.sl) ∧ w'.cell? ⟨sb, 3, none⟩ = some (.int .i64 mk.sd)) (first | exact s0 | exact s1 | exact s2) (first
                  | (go_at_call 15; (with_reducible refine (spent_eq (a := mk.ss) (b := mk.sr) (c := mk.sl) (d := mk.sd) RX0.out rfl rfl rfl rfl).mono ?_); rintro e wa ⟨rfl, hb⟩; have RK1 := Lib.hid (RK0.out.trans (hb.mono RK0.out.size)); have RX1 := Lib.hid (RX0.out.keep hb); have R1 := Lib.hid (R0.out.keep hb); have RY1 := Lib.hid (RY0.out.keep hb); have s1 := spent_cells R1.out; clear hb)
                  | (go_at_call 16; (with_reducible refine (why_none RX1.out rfl).mono ?_); rintro e w' ⟨rfl, rfl⟩)
                  | (go_at_call 15; (with_reducible refine (spent_eq (a := mk.ss) (b := mk.sr) (c := mk.sl) (d := mk.sd) RY1.out rfl rfl rfl rfl).mono ?_); rintro e wb ⟨rfl, hb⟩; have RK2 := Lib.hid (RK1.out.trans (hb.mono RK1.out.size)); have R2 := Lib.hid (R1.out.keep hb); have s2 := spent_cells R2.out; clear hb))
                all_goals
                  go_wp2
                  go_ret
                  exact ⟨rfl, K0.out.trans (RK2.out.mono K0.out.size)⟩
          · have c3 := Lib.hid (new_no ws wr' wl wd w9 hwide)
            clear hwide
            go_wp2_with ((with_reducible refine c3.out.mono ?_); rintro e w10 ⟨rfl, hb⟩; have K10 := Lib.hid (K9.out.trans (hb.mono K9.out.size)); have S10 := Lib.hid (S9.out.keep hb); have MX10 := Lib.hid (MX9.out.keep hb); clear hb)
            have HHK := Lib.hid (show k ≤ cs.length by first | exact hk | (have := hnl; omega))
            clear c3 L0 L1 L2 L3 hws hwr hwl hwd
            go_loopw [15] (fun j wq => ∃ i : Nat, i ≤ k ∧ j = .int .i64 (i : Int) ∧ MtAt gx ((Mt.new mk.ss mk.sr mk.sl mk.sd).as (behind m0 cs i)) wq ∧ SpentAt sb mk wq ∧ Below W.heap.size W wq) (fun j _ => (k - numOf j).toNat)
            case atStart => exact ⟨0, Nat.zero_le _, rfl, by rw [show behind m0 cs 0 = m0 from rfl, ← HM0.out]; exact MX10.out, S10.out, K10.out⟩
            case round =>
              obtain ⟨i, hik, rfl, hmx, hsb, hbq⟩ := hrel
              have QX := Lib.hid hmx
              have QS := Lib.hid hsb
              have QK := Lib.hid hbq
              clear hmx hsb hbq MX10 S10 K10
              rcases Nat.lt_or_ge i k with hik1 | hik1
              · have hil : i < cs.length := Nat.lt_of_lt_of_le hik1 HHK.out
                obtain ⟨b2, off2, hA2, hbw, hc2⟩ := HC.out.2 (by omega)
                have hcl := hc2 i cs[i] (List.getElem?_eq_getElem hil)
                have HA2 := Lib.hid (hcl.2.below QK.out)
                have tx := just_step HF.out AK.out HHK.out hik1 hil HMK.out (Mt.new mk.ss mk.sr mk.sl mk.sd) HMAY.out ⟨Int.le_refl _, Int.le_refl _, Int.le_refl _, Int.le_refl _⟩
                have t1 := Lib.hid (tell_eq QX.out HA2.out tx.2 tx.1)
                obtain ⟨i1, hi1⟩ : ∃ i1 : Nat, wrap64 ((i : Int) + 1) = (i1 : Int) ∧ i1 = i + 1 := ⟨i + 1, by have := HC.out.1; have := HHK.out; unfold wrap64; omega, rfl⟩
                have HI1 := Lib.hid hi1.2
                replace hi1 := hi1.1
                first | subst hA2 | (injection hA2 with hA2; injection hA2 with hA2 hA3; subst hA2 hA3)
                have HCL := Lib.hid hcl
                have HBW := Lib.hid hbw
                have ccu := (hcl.1.below QK.out hbw); obtain ⟨u0, u1, u2, u3, u4, u5, u6, u7⟩ := ccu; 
                clear tx hcl hbw hc2
                try (have hin : i < nl := hnl ▸ hil)
                try clear hnl hk hlt
                generalize cs[i] = c at *
                obtain ⟨what2, ⟨kind2, P2, pc2, n12, A12, la2, cc12, n22, A22, lm2, cc22, ls2⟩, nn2⟩ := c
                simp only at u0 u1 u2 u3 u4 u5 u6 u7 t1
                generalize hnl2 : cs.length = nl2 at *
                have hil2 : i < nl2 := by omega
                go_wp2_with (first
                  | ((with_reducible refine t1.out.mono ?_); rintro e wa ⟨rfl, hma, hja⟩; have MA := Lib.hid hma; have KA := Lib.hid (QK.out.trans (hja.below GXW.out QK.out.size)); have SA := Lib.hid (show SpentAt sb mk wa from (hja.block sb (Array.getElem?_eq_some_iff.1 QS.out).1 HN.out).trans QS.out)
                     clear hma hja)
                  | fail
                  )
                refine ⟨⟨i1, by have := HI1.out; omega, by rw [hi1], by rw [HI1.out]; exact MA.out, SA.out, KA.out⟩, ?_⟩
                rw [hi1]; have := HI1.out; simp only [numOf]; omega
              · have hik2 : i = k := by omega
                have ex : (Mt.new mk.ss mk.sr mk.sl mk.sd).as (behind m0 cs i) = (Mt.new mk.ss mk.sr mk.sl mk.sd).as mk := by rw [hik2, HMK.out]
                have QX2 := Lib.hid (show MtAt gx ((Mt.new mk.ss mk.sr mk.sl mk.sd).as mk) wr from ex ▸ QX.out)
                clear ex hik2
                have R0 := Lib.hid (show SpentAt sb mk wr.drew from QS.out)
                have RX0 := Lib.hid (show MtAt gx ((Mt.new mk.ss mk.sr mk.sl mk.sd).as mk) wr.drew from QX2.out)
                have RK0 := Lib.hid (show Below W.heap.size W wr.drew from QK.out.drew)
                have s0 := spent_cells R0.out
                clear QS QX QX2 QK
                try clear d0 d1 d2 d3 d4 d5 d6 d7
                go_wp2
                refine wp_region_held_drew (S := (fun w' => w'.cell? ⟨sb, 0, none⟩ = some (.int .i64 mk.ss) ∧ w'.cell? ⟨sb, 1, none⟩ = some (.int .i64 mk.sr) ∧ w'.cell? ⟨sb, 2, none⟩ = some (.int .i64 mk.sl) ∧ w'.cell? ⟨sb, 3, none⟩ = some (.int .i64 mk.sd))) (by kernel_rfl) ?_ (fun hHeld => ?_)
                · (try dsimp only); exact s0
                refine wpAnyH_take (i := 0) (oi := { dst := Option.some 135, op := Go.Op.move (Go.Operand.tmp 11), type := 27, pos := "outright.go:129", after := #[], guard := Option.none }) (v := ?_) rfl (by kernel_rfl) (by kernel_rfl) (by kernel_rfl) (fun _ _ _ h => h) (Or.inl ⟨by rfl, ?_⟩) (by assumption) ?_
                rotate_left
                · (intro w hSw; (try dsimp only at hSw); go_simp <;> with_reducible rfl)
                try simp only [Act.put, List.setIfInBounds_toArray, List.set_cons_zero, List.set_cons_succ]
                refine wpAnyH_take (i := 2) (oi := { dst := Option.some 137, op := Go.Op.load 24 (Go.Operand.tmp 10), type := 24, pos := "outright.go:129", after := #[], guard := Option.none }) (v := ?_) rfl (by kernel_rfl) (by kernel_rfl) (by kernel_rfl) (fun _ _ _ h => h) (Or.inl ⟨by rfl, ?_⟩) (by assumption) ?_
                rotate_left
                · (intro w hSw; (try dsimp only at hSw); go_simp <;> with_reducible rfl)
                try simp only [Act.put, List.setIfInBounds_toArray, List.set_cons_zero, List.set_cons_succ]
                refine wpAnyH_ready (rs := [1]) (by kernel_rfl) (by simp) ?_
                refine AllReadyH.cons (o := { dst := Option.some 136, op := Go.Op.call { callee := Go.Callee.value (Go.Operand.func 15), args := #[Go.Operand.tmp 135], argTypes := #[27] }, type := 24, pos := "outright.go:129", after := #[{ on := 0, ground := Go.Ground.data }], guard := Option.none }) rfl (fun K hK => ?_) AllReadyH.nil
                go_simp
                (go_at_call 15; (with_reducible refine (spent_eq (a := mk.ss) (b := mk.sr) (c := mk.sl) (d := mk.sd) RX0.out rfl rfl rfl rfl).mono ?_); rintro e wa ⟨rfl, hb⟩; have RK1 := Lib.hid (RK0.out.trans (hb.mono RK0.out.size)); have RX1 := Lib.hid (RX0.out.keep hb); have R1 := Lib.hid (R0.out.keep hb); have s1 := spent_cells R1.out; clear hb)
                (first | go_wp2_with fail | skip)
                clear hHeld
                refine hK.out _ _ ?_ (fun hHeld => ?_)
                · (try dsimp only); exact s1
                clear hK K
                try simp only [Act.put, List.setIfInBounds_toArray, List.set_cons_zero, List.set_cons_succ]
                refine wpAnyH_take (i := 3) (oi := { dst := Option.some 138, op := Go.Op.binOp Go.BinOp.eql 24 (Go.Operand.tmp 136) (Go.Operand.tmp 137) 24, type := 4, pos := "outright.go:129", after := #[{ on := 1, ground := Go.Ground.data }, { on := 2, ground := Go.Ground.data }], guard := Option.none }) (v := ?_) rfl (by kernel_rfl) (by kernel_rfl) (by kernel_rfl) (fun _ _ _ h => h) (Or.inl ⟨by rfl, ?_⟩) (by assumption) ?_
                rotate_left
                · (intro w hSw; (try dsimp only at hSw); go_simp <;> with_reducible rfl)
                try simp only [Act.put, List.setIfInBounds_toArray, List.set_cons_zero, List.set_cons_succ]
                refine wpAnyH_take (i := 4) (oi := { dst := Option.some 139, op := Go.Op.move (Go.Operand.tmp 138), type := 4, pos := "outright.go:129", after := #[{ on := 3, ground := Go.Ground.data }, { on := 1, ground := Go.Ground.chain }], guard := Option.none }) (v := ?_) rfl (by kernel_rfl) (by kernel_rfl) (by kernel_rfl) (fun _ _ _ h => h) (Or.inl ⟨by rfl, ?_⟩) (by assumption) ?_
                rotate_left
                · (intro w hSw; (try dsimp only at hSw); go_simp <;> with_reducible rfl)
                try simp only [Act.put, List.setIfInBounds_toArray, List.set_cons_zero, List.set_cons_succ]
                refine wpAnyH_take (i := 5) (oi := { dst := Option.some 140, op := Go.Op.move (Go.Operand.tmp 11), type := 27, pos := "outright.go:129", after := #[{ on := 4, ground := Go.Ground.guard }], guard := Option.some (4, Bool.true) }) (v := ?_) rfl (by kernel_rfl) (by kernel_rfl) (by kernel_rfl) (fun _ _ _ h => h) (Or.inl ⟨by rfl, ?_⟩) (by assumption) ?_
                rotate_left
                · (intro w hSw; (try dsimp only at hSw); go_simp <;> with_reducible rfl)
                try simp only [Act.put, List.setIfInBounds_toArray, List.set_cons_zero, List.set_cons_succ]
                refine wpAnyH_ready (rs := [6]) (by kernel_rfl) (by simp) ?_
                refine AllReadyH.cons (o := { dst := Option.some 141, op := Go.Op.call { callee := Go.Callee.value (Go.Operand.func 16), args := #[Go.Operand.tmp 140], argTypes := #[27] }, type := 43, pos := "outright.go:129", after := #[{ on := 5, ground := Go.Ground.data }, { on := 4, ground := Go.Ground.chain }, { on := 4, ground := Go.Ground.guard }], guard := Option.some (4, Bool.true) }) rfl (fun K hK => ?_) AllReadyH.nil
                go_simp
                (go_at_call 16; (with_reducible refine (why_none RX1.out rfl).mono ?_); rintro e w' ⟨rfl, rfl⟩)
                (first | go_wp2_with fail | skip)
                clear hHeld
                refine hK.out _ _ ?_ (fun hHeld => ?_)
                · (try dsimp only); exact s1
                clear hK K
                try simp only [Act.put, List.setIfInBounds_toArray, List.set_cons_zero, List.set_cons_succ]
                refine wpAnyH_take (i := 7) (oi := { dst := Option.some 142, op := Go.Op.binOp Go.BinOp.eql 43 (Go.Operand.tmp 141) (Go.Operand.const Go.Value.nilIface) 43, type := 4, pos := "outright.go:129", after := #[{ on := 6, ground := Go.Ground.data }, { on := 4, ground := Go.Ground.guard }], guard := Option.some (4, Bool.true) }) (v := ?_) rfl (by kernel_rfl) (by kernel_rfl) (by kernel_rfl) (fun _ _ _ h => h) (Or.inl ⟨by rfl, ?_⟩) (by assumption) ?_
                rotate_left
                · (intro w hSw; (try dsimp only at hSw); go_simp <;> with_reducible rfl)
                try simp only [Act.put, List.setIfInBounds_toArray, List.set_cons_zero, List.set_cons_succ]
                refine wpAnyH_take (i := 8) (oi := { dst := Option.some 143, op := Go.Op.pick (Go.Operand.tmp 139) (Go.Operand.tmp 142) (Go.Operand.const (Go.Value.bool Bool.false)), type := 4, pos := "outright.go:129", after := #[{ on := 4, ground := Go.Ground.data }, { on := 7, ground := Go.Ground.data }], guard := Option.none }) (v := ?_) rfl (by kernel_rfl) (by kernel_rfl) (by kernel_rfl) (fun _ _ _ h => h) (Or.inl ⟨by rfl, ?_⟩) (by assumption) ?_
                rotate_left
                · (intro w hSw; (try dsimp only at hSw); go_simp <;> with_reducible rfl)
                try simp only [Act.put, List.setIfInBounds_toArray, List.set_cons_zero, List.set_cons_succ]
                refine wpAnyH_take (i := 9) (oi := { dst := Option.some 144, op := Go.Op.move (Go.Operand.tmp 143), type := 4, pos := "outright.go:129", after := #[{ on := 8, ground := Go.Ground.data }, { on := 6, ground := Go.Ground.chain }], guard := Option.none }) (v := ?_) rfl (by kernel_rfl) (by kernel_rfl) (by kernel_rfl) (fun _ _ _ h => h) (Or.inl ⟨by rfl, ?_⟩) (by assumption) ?_
                rotate_left
                · (intro w hSw; (try dsimp only at hSw); go_simp <;> with_reducible rfl)
                try simp only [Act.put, List.setIfInBounds_toArray, List.set_cons_zero, List.set_cons_succ]
                refine wpAnyH_take (i := 10) (oi := { dst := Option.some 145, op := Go.Op.move (Go.Operand.tmp 14), type := 28, pos := "outright.go:129", after := #[{ on := 9, ground := Go.Ground.guard }], guard := Option.some (9, Bool.true) }) (v := ?_) rfl (by kernel_rfl) (by kernel_rfl) (by kernel_rfl) (fun _ _ _ h => h) (Or.inl ⟨by rfl, ?_⟩) (by assumption) ?_
                rotate_left
                · (intro w hSw; (try dsimp only at hSw); go_simp <;> with_reducible rfl)
                try simp only [Act.put, List.setIfInBounds_toArray, List.set_cons_zero, List.set_cons_succ]
                refine wpAnyH_take (i := 11) (oi := { dst := Option.some 146, op := Go.Op.binOp Go.BinOp.neq 28 (Go.Operand.tmp 145) (Go.Operand.const (Go.Value.int Go.IntKind.i64 0)) 28, type := 4, pos := "outright.go:129", after := #[{ on := 10, ground := Go.Ground.data }, { on := 9, ground := Go.Ground.guard }], guard := Option.some (9, Bool.true) }) (v := ?_) rfl (by kernel_rfl) (by kernel_rfl) (by kernel_rfl) (fun _ _ _ h => h) (Or.inl ⟨by rfl, ?_⟩) (by assumption) ?_
                rotate_left
                · (intro w hSw; (try dsimp only at hSw); go_simp <;> with_reducible rfl)
                try simp only [Act.put, List.setIfInBounds_toArray, List.set_cons_zero, List.set_cons_succ]
                refine wpAnyH_take (i := 12) (oi := { dst := Option.some 147, op := Go.Op.move (Go.Operand.tmp 146), type := 4, pos := "outright.go:129", after := #[{ on := 11, ground := Go.Ground.data }, { on := 9, ground := Go.Ground.chain }, { on := 9, ground := Go.Ground.guard }], guard := Option.some (9, Bool.true) }) (v := ?_) rfl (by kernel_rfl) (by kernel_rfl) (by kernel_rfl) (fun _ _ _ h => h) (Or.inl ⟨by rfl, ?_⟩) (by assumption) ?_
                rotate_left
                · (intro w hSw; (try dsimp only at hSw); go_simp <;> with_reducible rfl)
                try simp only [Act.put, List.setIfInBounds_toArray, List.set_cons_zero, List.set_cons_succ]
                refine wpAnyH_take (i := 13) (oi := { dst := Option.some 148, op := Go.Op.move (Go.Operand.tmp 13), type := 27, pos := "outright.go:129", after := #[{ on := 12, ground := Go.Ground.guard }], guard := Option.some (12, Bool.false) }) (v := _) rfl (by kernel_rfl) (by kernel_rfl) (by kernel_rfl) (fun _ _ _ h => h) (Or.inr ⟨by rfl, rfl⟩) (by assumption) ?_
                try simp only [Act.put, List.setIfInBounds_toArray, List.set_cons_zero, List.set_cons_succ]
                refine wpAnyH_take (i := 14) (oi := { dst := Option.some 149, op := Go.Op.call { callee := Go.Callee.value (Go.Operand.func 15), args := #[Go.Operand.tmp 148], argTypes := #[27] }, type := 24, pos := "outright.go:129", after := #[{ on := 13, ground := Go.Ground.data }, { on := 12, ground := Go.Ground.chain }, { on := 12, ground := Go.Ground.guard }], guard := Option.some (12, Bool.false) }) (v := _) rfl (by kernel_rfl) (by kernel_rfl) (by kernel_rfl) (fun _ _ _ h => h) (Or.inr ⟨by rfl, rfl⟩) (by assumption) ?_
                try simp only [Act.put, List.setIfInBounds_toArray, List.set_cons_zero, List.set_cons_succ]
                refine wpAnyH_take (i := 15) (oi := { dst := Option.some 150, op := Go.Op.load 24 (Go.Operand.tmp 10), type := 24, pos := "outright.go:129", after := #[{ on := 12, ground := Go.Ground.guard }], guard := Option.some (12, Bool.false) }) (v := _) rfl (by kernel_rfl) (by kernel_rfl) (by kernel_rfl) (fun _ _ _ h => h) (Or.inr ⟨by rfl, rfl⟩) (by assumption) ?_
                try simp only [Act.put, List.setIfInBounds_toArray, List.set_cons_zero, List.set_cons_succ]
                refine wpAnyH_take (i := 16) (oi := { dst := Option.some 151, op := Go.Op.binOp Go.BinOp.eql 24 (Go.Operand.tmp 149) (Go.Operand.tmp 150) 24, type := 4, pos := "outright.go:129", after := #[{ on := 14, ground := Go.Ground.data }, { on := 15, ground := Go.Ground.data }, { on := 12, ground := Go.Ground.guard }], guard := Option.some (12, Bool.false) }) (v := _) rfl (by kernel_rfl) (by kernel_rfl) (by kernel_rfl) (fun _ _ _ h => h) (Or.inr ⟨by rfl, rfl⟩) (by assumption) ?_
                try simp only [Act.put, List.setIfInBounds_toArray, List.set_cons_zero, List.set_cons_succ]
                refine wpAnyH_take (i := 17) (oi := { dst := Option.some 152, op := Go.Op.pick (Go.Operand.tmp 147) (Go.Operand.const (Go.Value.bool Bool.true)) (Go.Operand.tmp 151), type := 4, pos := "outright.go:129", after := #[{ on := 12, ground := Go.Ground.data }, { on := 16, ground := Go.Ground.data }, { on := 9, ground := Go.Ground.guard }], guard := Option.some (9, Bool.true) }) (v := ?_) rfl (by kernel_rfl) (by kernel_rfl) (by kernel_rfl) (fun _ _ _ h => h) (Or.inl ⟨by rfl, ?_⟩) (by assumption) ?_
                rotate_left
                · (intro w hSw; (try dsimp only at hSw); go_simp <;> with_reducible rfl)
                try simp only [Act.put, List.setIfInBounds_toArray, List.set_cons_zero, List.set_cons_succ]
                refine wpAnyH_take (i := 18) (oi := { dst := Option.some 153, op := Go.Op.pick (Go.Operand.tmp 144) (Go.Operand.tmp 152) (Go.Operand.const (Go.Value.bool Bool.false)), type := 4, pos := "outright.go:129", after := #[{ on := 9, ground := Go.Ground.data }, { on := 17, ground := Go.Ground.data }], guard := Option.none }) (v := ?_) rfl (by kernel_rfl) (by kernel_rfl) (by kernel_rfl) (fun _ _ _ h => h) (Or.inl ⟨by rfl, ?_⟩) (by assumption) ?_
                rotate_left
                · (intro w hSw; (try dsimp only at hSw); go_simp <;> with_reducible rfl)
                try simp only [Act.put, List.setIfInBounds_toArray, List.set_cons_zero, List.set_cons_succ]
                refine wpAnyH_ready (rs := [19]) (by kernel_rfl) (by simp) ?_
                refine AllReadyH.cons (o := { dst := Option.some 6, op := Go.Op.assign (Go.Operand.tmp 153), type := 4, pos := "outright.go:129", after := #[{ on := 18, ground := Go.Ground.data }, { on := 14, ground := Go.Ground.chain }, { on := 0, ground := Go.Ground.phase }, { on := 1, ground := Go.Ground.phase }, { on := 2, ground := Go.Ground.phase }, { on := 3, ground := Go.Ground.phase }, { on := 4, ground := Go.Ground.phase }, { on := 5, ground := Go.Ground.phase }, { on := 6, ground := Go.Ground.phase }, { on := 7, ground := Go.Ground.phase }, { on := 8, ground := Go.Ground.phase }, { on := 9, ground := Go.Ground.phase }, { on := 10, ground := Go.Ground.phase }, { on := 11, ground := Go.Ground.phase }, { on := 12, ground := Go.Ground.phase }, { on := 13, ground := Go.Ground.phase }, { on := 14, ground := Go.Ground.phase }, { on := 15, ground := Go.Ground.phase }, { on := 16, ground := Go.Ground.phase }, { on := 17, ground := Go.Ground.phase }, { on := 18, ground := Go.Ground.phase }], guard := Option.none }) rfl (fun K hK => ?_) AllReadyH.nil
                go_simp
                clear hHeld
                refine hK.out _ _ ?_ (fun hHeld => ?_)
                · (try dsimp only); exact s1
                clear hK K
                try simp only [Act.put, List.setIfInBounds_toArray, List.set_cons_zero, List.set_cons_succ]
                refine wpAnyH_done (by kernel_rfl) ?_ _
                all_goals
                  go_wp2
                  go_ret
                  exact ⟨rfl, K0.out.trans (RK1.out.mono K0.out.size)⟩
      · have hlt := hge
        have FK := behind_good cs HF.out k
        have BK := behind_budget AK.out k (Nat.le_refl _) (by first | exact hk | (have := hnl; omega))
        obtain ⟨mk, hmk⟩ : ∃ mk, behind m0 cs k = mk := ⟨_, rfl⟩
        rw [hmk] at FK BK
        rw [← HM0.out] at BK
        simp only [Mt.new] at BK
        have GK := FK.1
        unfold Good at GK
        have L0 : mk.ss ≤ s := by omega
        have L1 : mk.sr ≤ r := by omega
        have L2 : mk.sl ≤ l := by omega
        have L3 : mk.sd ≤ d := by omega
        have HMAY := Lib.hid (show Bmay mk.ss mk.sr mk.sl mk.sd by unfold Bmay; omega)
        have HMK := Lib.hid hmk
        have HFK := Lib.hid FK
        have EQ := Lib.hid (show (behind m0 cs k).ss = mk.ss ∧ (behind m0 cs k).sr = mk.sr ∧ (behind m0 cs k).sl = mk.sl ∧ (behind m0 cs k).sd = mk.sd by rw [hmk]; exact ⟨rfl, rfl, rfl, rfl⟩)
        clear hmk FK BK GK
        go_wp2_with (first
          | ((with_reducible refine (spent_eq M.out EQ.out.1 EQ.out.2.1 EQ.out.2.2.1 EQ.out.2.2.2).mono ?_); rintro e w6 ⟨rfl, hb⟩; have K6 := Lib.hid (K.out.trans (hb.mono K.out.size)); clear hb
             obtain ⟨w7, h7⟩ : ∃ w7, w6.alloc (.cells #[.int .i64 mk.ss, .int .i64 mk.sr, .int .i64 mk.sl, .int .i64 mk.sd] 24) = w7 := ⟨_, rfl⟩
             have K7 := Lib.hid (show Below W.heap.size W w7 from h7 ▸ K6.out.alloc K6.out.size _)
             have S7 := Lib.hid (show SpentAt w6.heap.size mk w7 from h7 ▸ lone_new w6 _ _)
             have yw70 : w7.cell? ⟨w6.heap.size, 0, none⟩ = some (.int .i64 mk.ss) := (cell_of S7.out 0).trans rfl; have yw71 : w7.cell? ⟨w6.heap.size, 1, none⟩ = some (.int .i64 mk.sr) := (cell_of S7.out 1).trans rfl; have yw72 : w7.cell? ⟨w6.heap.size, 2, none⟩ = some (.int .i64 mk.sl) := (cell_of S7.out 2).trans rfl; have yw73 : w7.cell? ⟨w6.heap.size, 3, none⟩ = some (.int .i64 mk.sd) := (cell_of S7.out 3).trans rfl;)
          | ((with_reducible refine (new_yes mk.ss mk.sr mk.sl mk.sd w7 HMAY.out).mono ?_); rintro e w8 ⟨gx, hg, rfl, hm, hb⟩; have GX := Lib.hid hg; have MX := Lib.hid hm; have K8 := Lib.hid (K7.out.trans (hb.mono K7.out.size)); have S8 := Lib.hid (S7.out.keep hb); clear hb hm hg
             have yw80 : w8.cell? ⟨w6.heap.size, 0, none⟩ = some (.int .i64 mk.ss) := (cell_of S8.out 0).trans rfl; have yw81 : w8.cell? ⟨w6.heap.size, 1, none⟩ = some (.int .i64 mk.sr) := (cell_of S8.out 1).trans rfl; have yw82 : w8.cell? ⟨w6.heap.size, 2, none⟩ = some (.int .i64 mk.sl) := (cell_of S8.out 2).trans rfl; have yw83 : w8.cell? ⟨w6.heap.size, 3, none⟩ = some (.int .i64 mk.sd) := (cell_of S8.out 3).trans rfl;
             have hb0 := (K8.out.block _ XL.out.1).trans XB.out; have hb1 := (K8.out.block _ XL.out.2).trans XM.out; have qw80 : w8.cell? ⟨w.heap.size, 0, none⟩ = some (.int .i64 s) := (cell_of hb0 0).trans rfl; have qw81 : w8.cell? ⟨w.heap.size, 1, none⟩ = some (.int .i64 r) := (cell_of hb0 1).trans rfl; have qw82 : w8.cell? ⟨w.heap.size, 2, none⟩ = some (.int .i64 l) := (cell_of hb0 2).trans rfl; have qw83 : w8.cell? ⟨w.heap.size, 3, none⟩ = some (.int .i64 d) := (cell_of hb0 3).trans rfl; have pw80 : w8.cell? ⟨w.heap.size + 1, 0, none⟩ = some (.int .i64 s') := (cell_of hb1 0).trans rfl; have pw81 : w8.cell? ⟨w.heap.size + 1, 1, none⟩ = some (.int .i64 r') := (cell_of hb1 1).trans rfl; have pw82 : w8.cell? ⟨w.heap.size + 1, 2, none⟩ = some (.int .i64 l') := (cell_of hb1 2).trans rfl; have pw83 : w8.cell? ⟨w.heap.size + 1, 3, none⟩ = some (.int .i64 d') := (cell_of hb1 3).trans rfl; clear hb0 hb1))
        obtain ⟨w9, h9⟩ : ∃ w9, w8.alloc (.cells #[.int .i64 (max s s'), .int .i64 (max r r'), .int .i64 (max l l'), .int .i64 (max d d')] 24) = w9 := ⟨_, rfl⟩
        have K9 := Lib.hid (show Below W.heap.size W w9 from h9 ▸ K8.out.alloc K8.out.size _)
        have S9 := Lib.hid (show SpentAt w6.heap.size mk w9 from h9 ▸ S8.out.keep ((Below.refl _ w8).alloc (Nat.le_refl _) _))
        have MX9 := Lib.hid (show MtAt gx (Mt.new mk.ss mk.sr mk.sl mk.sd) w9 from h9 ▸ MX.out.keep ((Below.refl _ w8).alloc (Nat.le_refl _) _))
        have GXW := Lib.hid (show W.heap.size ≤ gx from Nat.le_trans K7.out.size GX.out)
        have HN := Lib.hid (show w6.heap.size ≠ gx from fun e => by have h1 := (Array.getElem?_eq_some_iff.1 S7.out).1; have := GX.out; omega)
        rw [h9]
        clear h7 h9 S7 S8 K7 K8 MX yw70 yw71 yw72 yw73 yw80 yw81 yw82 yw83 qw80 qw81 qw82 qw83 pw80 pw81 pw82 pw83
        generalize w6.heap.size = sb at *
        generalize hws : max s s' = ws
        generalize hwr : max r r' = wr'
        generalize hwl : max l l' = wl
        generalize hwd : max d d' = wd
        by_cases hwide : Bmay ws wr' wl wd
        · have c3 := Lib.hid (new_yes ws wr' wl wd w9 hwide)
          have HW := Lib.hid hwide
          have HWL := Lib.hid (show mk.ss ≤ ws ∧ mk.sr ≤ wr' ∧ mk.sl ≤ wl ∧ mk.sd ≤ wd by omega)
          clear hwide
          go_wp2_with ((with_reducible refine c3.out.mono ?_); rintro e w10 ⟨gy, hg, rfl, hm, hb⟩; have GY := Lib.hid hg; have MY := Lib.hid hm; have K10 := Lib.hid (K9.out.trans (hb.mono K9.out.size)); have S10 := Lib.hid (S9.out.keep hb); have MX10 := Lib.hid (MX9.out.keep hb); clear hb hm hg)
          have HNY := Lib.hid (show sb ≠ gy from fun e => by have h1 := (Array.getElem?_eq_some_iff.1 S9.out).1; have := GY.out; omega)
          have HXY := Lib.hid (show gx ≠ gy from fun e => by have h1 := MX9.out.lt; have := GY.out; omega)
          have GYW := Lib.hid (show W.heap.size ≤ gy from Nat.le_trans K9.out.size GY.out)
          have HHK := Lib.hid (show k ≤ cs.length by first | exact hk | (have := hnl; omega))
          clear c3 L0 L1 L2 L3 hws hwr hwl hwd
          go_loopw [15] (fun j wq => ∃ i : Nat, i ≤ k ∧ j = .int .i64 (i : Int) ∧ MtAt gx ((Mt.new mk.ss mk.sr mk.sl mk.sd).as (behind m0 cs i)) wq ∧ MtAt gy ((Mt.new ws wr' wl wd).as (behind m0 cs i)) wq ∧ SpentAt sb mk wq ∧ Below W.heap.size W wq) (fun j _ => (k - numOf j).toNat)
          case atStart => exact ⟨0, Nat.zero_le _, rfl, by rw [show behind m0 cs 0 = m0 from rfl, ← HM0.out]; exact MX10.out, by rw [show behind m0 cs 0 = m0 from rfl, ← HM0.out]; exact MY.out, S10.out, K10.out⟩
          case round =>
            obtain ⟨i, hik, rfl, hmx, hmy, hsb, hbq⟩ := hrel
            have QX := Lib.hid hmx
            have QS := Lib.hid hsb
            have QK := Lib.hid hbq
            have QY := Lib.hid hmy
            clear hmy MY
            clear hmx hsb hbq MX10 S10 K10
            rcases Nat.lt_or_ge i k with hik1 | hik1
            · have hil : i < cs.length := Nat.lt_of_lt_of_le hik1 HHK.out
              obtain ⟨b2, off2, hA2, hbw, hc2⟩ := HC.out.2 (by omega)
              have hcl := hc2 i cs[i] (List.getElem?_eq_getElem hil)
              have HA2 := Lib.hid (hcl.2.below QK.out)
              have tx := just_step HF.out AK.out HHK.out hik1 hil HMK.out (Mt.new mk.ss mk.sr mk.sl mk.sd) HMAY.out ⟨Int.le_refl _, Int.le_refl _, Int.le_refl _, Int.le_refl _⟩
              have t1 := Lib.hid (tell_eq QX.out HA2.out tx.2 tx.1)
              have TY := Lib.hid (just_step HF.out AK.out HHK.out hik1 hil HMK.out (Mt.new ws wr' wl wd) HW.out HWL.out)
              obtain ⟨i1, hi1⟩ : ∃ i1 : Nat, wrap64 ((i : Int) + 1) = (i1 : Int) ∧ i1 = i + 1 := ⟨i + 1, by have := HC.out.1; have := HHK.out; unfold wrap64; omega, rfl⟩
              have HI1 := Lib.hid hi1.2
              replace hi1 := hi1.1
              first | subst hA2 | (injection hA2 with hA2; injection hA2 with hA2 hA3; subst hA2 hA3)
              have HCL := Lib.hid hcl
              have HBW := Lib.hid hbw
              have ccu := (hcl.1.below QK.out hbw); obtain ⟨u0, u1, u2, u3, u4, u5, u6, u7⟩ := ccu; 
              clear tx hcl hbw hc2
              try (have hin : i < nl := hnl ▸ hil)
              try clear hnl hk hlt
              generalize cs[i] = c at *
              obtain ⟨what2, ⟨kind2, P2, pc2, n12, A12, la2, cc12, n22, A22, lm2, cc22, ls2⟩, nn2⟩ := c
              simp only at u0 u1 u2 u3 u4 u5 u6 u7 t1 TY HCL
              generalize hnl2 : cs.length = nl2 at *
              have hil2 : i < nl2 := by omega
              go_wp2_with (first
                | ((with_reducible refine t1.out.mono ?_); rintro e wa ⟨rfl, hma, hja⟩; have MA := Lib.hid hma; have KA := Lib.hid (QK.out.trans (hja.below GXW.out QK.out.size)); have SA := Lib.hid (show SpentAt sb mk wa from (hja.block sb (Array.getElem?_eq_some_iff.1 QS.out).1 HN.out).trans QS.out)
                   have YA := Lib.hid (show MtAt gy ((Mt.new ws wr' wl wd).as (behind m0 cs i)) wa from (hja.block gy QY.out.lt HXY.out.symm).trans QY.out)
                   have t2 := Lib.hid (tell_eq YA.out (HCL.out.2.below KA.out) TY.out.2 TY.out.1)
                   have cv := (HCL.out.1.below KA.out HBW.out); obtain ⟨v0, v1, v2, v3, v4, v5, v6, v7⟩ := cv
                   simp only at v0 v1 v2 v3 v4 v5 v6 v7 t2
                   clear hma hja)
                | ((with_reducible refine t2.out.mono ?_); rintro e wb ⟨rfl, hmb, hjb⟩; have MB := Lib.hid hmb; have KB := Lib.hid (KA.out.trans (hjb.below GYW.out KA.out.size)); have SB := Lib.hid (show SpentAt sb mk wb from (hjb.block sb (Array.getElem?_eq_some_iff.1 SA.out).1 HNY.out).trans SA.out); have XB2 := Lib.hid (show MtAt gx ((Mt.new mk.ss mk.sr mk.sl mk.sd).as (behind m0 cs (i + 1))) wb from (hjb.block gx MA.out.lt HXY.out).trans MA.out); clear hmb hjb)
                )
              refine ⟨⟨i1, by have := HI1.out; omega, by rw [hi1], by rw [HI1.out]; exact XB2.out, by rw [HI1.out]; exact MB.out, SB.out, KB.out⟩, ?_⟩
              rw [hi1]; have := HI1.out; simp only [numOf]; omega
            · have hik2 : i = k := by omega
              have ex : (Mt.new mk.ss mk.sr mk.sl mk.sd).as (behind m0 cs i) = (Mt.new mk.ss mk.sr mk.sl mk.sd).as mk := by rw [hik2, HMK.out]
              have QX2 := Lib.hid (show MtAt gx ((Mt.new mk.ss mk.sr mk.sl mk.sd).as mk) wr from ex ▸ QX.out)
              have ey : (Mt.new ws wr' wl wd).as (behind m0 cs i) = (Mt.new ws wr' wl wd).as mk := by rw [hik2, HMK.out]
              have QY2 := Lib.hid (show MtAt gy ((Mt.new ws wr' wl wd).as mk) wr from ey ▸ QY.out)
              clear ey
              clear ex hik2
              have R0 := Lib.hid (show SpentAt sb mk wr.drew from QS.out)
              have RX0 := Lib.hid (show MtAt gx ((Mt.new mk.ss mk.sr mk.sl mk.sd).as mk) wr.drew from QX2.out)
              have RK0 := Lib.hid (show Below W.heap.size W wr.drew from QK.out.drew)
              have RY0 := Lib.hid (show MtAt gy ((Mt.new ws wr' wl wd).as mk) wr.drew from QY2.out)
              have s0 := spent_cells R0.out
              clear QS QX QX2 QK
              try clear d0 d1 d2 d3 d4 d5 d6 d7
              go_wp2
              go_region_held3 (fun w' => w'.cell? ⟨sb, 0, none⟩ = some (.int .i64 mk.ss) ∧ w'.cell? ⟨sb, 1, none⟩ = some (.int .i64 mk.sr) ∧ w'.cell? ⟨sb, 2, none⟩ = some (.int .i64 mk.sl) ∧ w'.cell? ⟨sb, 3, none⟩ = some (.int .i64 mk.sd)) (first | exact s0 | exact s1 | exact s2) (first
                | (go_at_call 15; (with_reducible refine (spent_eq (a := mk.ss) (b := mk.sr) (c := mk.sl) (d := mk.sd) RX0.out rfl rfl rfl rfl).mono ?_); rintro e wa ⟨rfl, hb⟩; have RK1 := Lib.hid (RK0.out.trans (hb.mono RK0.out.size)); have RX1 := Lib.hid (RX0.out.keep hb); have R1 := Lib.hid (R0.out.keep hb); have RY1 := Lib.hid (RY0.out.keep hb); have s1 := spent_cells R1.out; clear hb)
                | (go_at_call 16; (with_reducible refine (why_none RX1.out rfl).mono ?_); rintro e w' ⟨rfl, rfl⟩)
                | (go_at_call 15; (with_reducible refine (spent_eq (a := mk.ss) (b := mk.sr) (c := mk.sl) (d := mk.sd) RY1.out rfl rfl rfl rfl).mono ?_); rintro e wb ⟨rfl, hb⟩; have RK2 := Lib.hid (RK1.out.trans (hb.mono RK1.out.size)); have R2 := Lib.hid (R1.out.keep hb); have s2 := spent_cells R2.out; clear hb))
              all_goals
                go_wp2
                go_ret
                exact ⟨rfl, K0.out.trans (RK2.out.mono K0.out.size)⟩
        · have c3 := Lib.hid (new_no ws wr' wl wd w9 hwide)
          clear hwide
          go_wp2_with ((with_reducible refine c3.out.mono ?_); rintro e w10 ⟨rfl, hb⟩; have K10 := Lib.hid (K9.out.trans (hb.mono K9.out.size)); have S10 := Lib.hid (S9.out.keep hb); have MX10 := Lib.hid (MX9.out.keep hb); clear hb)
          have HHK := Lib.hid (show k ≤ cs.length by first | exact hk | (have := hnl; omega))
          clear c3 L0 L1 L2 L3 hws hwr hwl hwd
          go_loopw [15] (fun j wq => ∃ i : Nat, i ≤ k ∧ j = .int .i64 (i : Int) ∧ MtAt gx ((Mt.new mk.ss mk.sr mk.sl mk.sd).as (behind m0 cs i)) wq ∧ SpentAt sb mk wq ∧ Below W.heap.size W wq) (fun j _ => (k - numOf j).toNat)
          case atStart => exact ⟨0, Nat.zero_le _, rfl, by rw [show behind m0 cs 0 = m0 from rfl, ← HM0.out]; exact MX10.out, S10.out, K10.out⟩
          case round =>
            obtain ⟨i, hik, rfl, hmx, hsb, hbq⟩ := hrel
            have QX := Lib.hid hmx
            have QS := Lib.hid hsb
            have QK := Lib.hid hbq
            clear hmx hsb hbq MX10 S10 K10
            rcases Nat.lt_or_ge i k with hik1 | hik1
            · have hil : i < cs.length := Nat.lt_of_lt_of_le hik1 HHK.out
              obtain ⟨b2, off2, hA2, hbw, hc2⟩ := HC.out.2 (by omega)
              have hcl := hc2 i cs[i] (List.getElem?_eq_getElem hil)
              have HA2 := Lib.hid (hcl.2.below QK.out)
              have tx := just_step HF.out AK.out HHK.out hik1 hil HMK.out (Mt.new mk.ss mk.sr mk.sl mk.sd) HMAY.out ⟨Int.le_refl _, Int.le_refl _, Int.le_refl _, Int.le_refl _⟩
              have t1 := Lib.hid (tell_eq QX.out HA2.out tx.2 tx.1)
              obtain ⟨i1, hi1⟩ : ∃ i1 : Nat, wrap64 ((i : Int) + 1) = (i1 : Int) ∧ i1 = i + 1 := ⟨i + 1, by have := HC.out.1; have := HHK.out; unfold wrap64; omega, rfl⟩
              have HI1 := Lib.hid hi1.2
              replace hi1 := hi1.1
              first | subst hA2 | (injection hA2 with hA2; injection hA2 with hA2 hA3; subst hA2 hA3)
              have HCL := Lib.hid hcl
              have HBW := Lib.hid hbw
              have ccu := (hcl.1.below QK.out hbw); obtain ⟨u0, u1, u2, u3, u4, u5, u6, u7⟩ := ccu; 
              clear tx hcl hbw hc2
              try (have hin : i < nl := hnl ▸ hil)
              try clear hnl hk hlt
              generalize cs[i] = c at *
              obtain ⟨what2, ⟨kind2, P2, pc2, n12, A12, la2, cc12, n22, A22, lm2, cc22, ls2⟩, nn2⟩ := c
              simp only at u0 u1 u2 u3 u4 u5 u6 u7 t1
              generalize hnl2 : cs.length = nl2 at *
              have hil2 : i < nl2 := by omega
              go_wp2_with (first
                | ((with_reducible refine t1.out.mono ?_); rintro e wa ⟨rfl, hma, hja⟩; have MA := Lib.hid hma; have KA := Lib.hid (QK.out.trans (hja.below GXW.out QK.out.size)); have SA := Lib.hid (show SpentAt sb mk wa from (hja.block sb (Array.getElem?_eq_some_iff.1 QS.out).1 HN.out).trans QS.out)
                   clear hma hja)
                | fail
                )
              refine ⟨⟨i1, by have := HI1.out; omega, by rw [hi1], by rw [HI1.out]; exact MA.out, SA.out, KA.out⟩, ?_⟩
              rw [hi1]; have := HI1.out; simp only [numOf]; omega
            · have hik2 : i = k := by omega
              have ex : (Mt.new mk.ss mk.sr mk.sl mk.sd).as (behind m0 cs i) = (Mt.new mk.ss mk.sr mk.sl mk.sd).as mk := by rw [hik2, HMK.out]
              have QX2 := Lib.hid (show MtAt gx ((Mt.new mk.ss mk.sr mk.sl mk.sd).as mk) wr from ex ▸ QX.out)
              clear ex hik2
              have R0 := Lib.hid (show SpentAt sb mk wr.drew from QS.out)
              have RX0 := Lib.hid (show MtAt gx ((Mt.new mk.ss mk.sr mk.sl mk.sd).as mk) wr.drew from QX2.out)
              have RK0 := Lib.hid (show Below W.heap.size W wr.drew from QK.out.drew)
              have s0 := spent_cells R0.out
              clear QS QX QX2 QK
              try clear d0 d1 d2 d3 d4 d5 d6 d7
              go_wp2
              refine wp_region_held_drew (S := (fun w' => w'.cell? ⟨sb, 0, none⟩ = some (.int .i64 mk.ss) ∧ w'.cell? ⟨sb, 1, none⟩ = some (.int .i64 mk.sr) ∧ w'.cell? ⟨sb, 2, none⟩ = some (.int .i64 mk.sl) ∧ w'.cell? ⟨sb, 3, none⟩ = some (.int .i64 mk.sd))) (by kernel_rfl) ?_ (fun hHeld => ?_)
              · (try dsimp only); exact s0
              refine wpAnyH_take (i := 0) (oi := { dst := Option.some 135, op := Go.Op.move (Go.Operand.tmp 11), type := 27, pos := "outright.go:129", after := #[], guard := Option.none }) (v := ?_) rfl (by kernel_rfl) (by kernel_rfl) (by kernel_rfl) (fun _ _ _ h => h) (Or.inl ⟨by rfl, ?_⟩) (by assumption) ?_
              rotate_left
              · (intro w hSw; (try dsimp only at hSw); go_simp <;> with_reducible rfl)
              try simp only [Act.put, List.setIfInBounds_toArray, List.set_cons_zero, List.set_cons_succ]
              refine wpAnyH_take (i := 2) (oi := { dst := Option.some 137, op := Go.Op.load 24 (Go.Operand.tmp 10), type := 24, pos := "outright.go:129", after := #[], guard := Option.none }) (v := ?_) rfl (by kernel_rfl) (by kernel_rfl) (by kernel_rfl) (fun _ _ _ h => h) (Or.inl ⟨by rfl, ?_⟩) (by assumption) ?_
              rotate_left
              · (intro w hSw; (try dsimp only at hSw); go_simp <;> with_reducible rfl)
              try simp only [Act.put, List.setIfInBounds_toArray, List.set_cons_zero, List.set_cons_succ]
              refine wpAnyH_ready (rs := [1]) (by kernel_rfl) (by simp) ?_
              refine AllReadyH.cons (o := { dst := Option.some 136, op := Go.Op.call { callee := Go.Callee.value (Go.Operand.func 15), args := #[Go.Operand.tmp 135], argTypes := #[27] }, type := 24, pos := "outright.go:129", after := #[{ on := 0, ground := Go.Ground.data }], guard := Option.none }) rfl (fun K hK => ?_) AllReadyH.nil
              go_simp
              (go_at_call 15; (with_reducible refine (spent_eq (a := mk.ss) (b := mk.sr) (c := mk.sl) (d := mk.sd) RX0.out rfl rfl rfl rfl).mono ?_); rintro e wa ⟨rfl, hb⟩; have RK1 := Lib.hid (RK0.out.trans (hb.mono RK0.out.size)); have RX1 := Lib.hid (RX0.out.keep hb); have R1 := Lib.hid (R0.out.keep hb); have s1 := spent_cells R1.out; clear hb)
              (first | go_wp2_with fail | skip)
              clear hHeld
              refine hK.out _ _ ?_ (fun hHeld => ?_)
              · (try dsimp only); exact s1
              clear hK K
              try simp only [Act.put, List.setIfInBounds_toArray, List.set_cons_zero, List.set_cons_succ]
              refine wpAnyH_take (i := 3) (oi := { dst := Option.some 138, op := Go.Op.binOp Go.BinOp.eql 24 (Go.Operand.tmp 136) (Go.Operand.tmp 137) 24, type := 4, pos := "outright.go:129", after := #[{ on := 1, ground := Go.Ground.data }, { on := 2, ground := Go.Ground.data }], guard := Option.none }) (v := ?_) rfl (by kernel_rfl) (by kernel_rfl) (by kernel_rfl) (fun _ _ _ h => h) (Or.inl ⟨by rfl, ?_⟩) (by assumption) ?_
              rotate_left
              · (intro w hSw; (try dsimp only at hSw); go_simp <;> with_reducible rfl)
              try simp only [Act.put, List.setIfInBounds_toArray, List.set_cons_zero, List.set_cons_succ]
              refine wpAnyH_take (i := 4) (oi := { dst := Option.some 139, op := Go.Op.move (Go.Operand.tmp 138), type := 4, pos := "outright.go:129", after := #[{ on := 3, ground := Go.Ground.data }, { on := 1, ground := Go.Ground.chain }], guard := Option.none }) (v := ?_) rfl (by kernel_rfl) (by kernel_rfl) (by kernel_rfl) (fun _ _ _ h => h) (Or.inl ⟨by rfl, ?_⟩) (by assumption) ?_
              rotate_left
              · (intro w hSw; (try dsimp only at hSw); go_simp <;> with_reducible rfl)
              try simp only [Act.put, List.setIfInBounds_toArray, List.set_cons_zero, List.set_cons_succ]
              refine wpAnyH_take (i := 5) (oi := { dst := Option.some 140, op := Go.Op.move (Go.Operand.tmp 11), type := 27, pos := "outright.go:129", after := #[{ on := 4, ground := Go.Ground.guard }], guard := Option.some (4, Bool.true) }) (v := ?_) rfl (by kernel_rfl) (by kernel_rfl) (by kernel_rfl) (fun _ _ _ h => h) (Or.inl ⟨by rfl, ?_⟩) (by assumption) ?_
              rotate_left
              · (intro w hSw; (try dsimp only at hSw); go_simp <;> with_reducible rfl)
              try simp only [Act.put, List.setIfInBounds_toArray, List.set_cons_zero, List.set_cons_succ]
              refine wpAnyH_ready (rs := [6]) (by kernel_rfl) (by simp) ?_
              refine AllReadyH.cons (o := { dst := Option.some 141, op := Go.Op.call { callee := Go.Callee.value (Go.Operand.func 16), args := #[Go.Operand.tmp 140], argTypes := #[27] }, type := 43, pos := "outright.go:129", after := #[{ on := 5, ground := Go.Ground.data }, { on := 4, ground := Go.Ground.chain }, { on := 4, ground := Go.Ground.guard }], guard := Option.some (4, Bool.true) }) rfl (fun K hK => ?_) AllReadyH.nil
              go_simp
              (go_at_call 16; (with_reducible refine (why_none RX1.out rfl).mono ?_); rintro e w' ⟨rfl, rfl⟩)
              (first | go_wp2_with fail | skip)
              clear hHeld
              refine hK.out _ _ ?_ (fun hHeld => ?_)
              · (try dsimp only); exact s1
              clear hK K
              try simp only [Act.put, List.setIfInBounds_toArray, List.set_cons_zero, List.set_cons_succ]
              refine wpAnyH_take (i := 7) (oi := { dst := Option.some 142, op := Go.Op.binOp Go.BinOp.eql 43 (Go.Operand.tmp 141) (Go.Operand.const Go.Value.nilIface) 43, type := 4, pos := "outright.go:129", after := #[{ on := 6, ground := Go.Ground.data }, { on := 4, ground := Go.Ground.guard }], guard := Option.some (4, Bool.true) }) (v := ?_) rfl (by kernel_rfl) (by kernel_rfl) (by kernel_rfl) (fun _ _ _ h => h) (Or.inl ⟨by rfl, ?_⟩) (by assumption) ?_
              rotate_left
              · (intro w hSw; (try dsimp only at hSw); go_simp <;> with_reducible rfl)
              try simp only [Act.put, List.setIfInBounds_toArray, List.set_cons_zero, List.set_cons_succ]
              refine wpAnyH_take (i := 8) (oi := { dst := Option.some 143, op := Go.Op.pick (Go.Operand.tmp 139) (Go.Operand.tmp 142) (Go.Operand.const (Go.Value.bool Bool.false)), type := 4, pos := "outright.go:129", after := #[{ on := 4, ground := Go.Ground.data }, { on := 7, ground := Go.Ground.data }], guard := Option.none }) (v := ?_) rfl (by kernel_rfl) (by kernel_rfl) (by kernel_rfl) (fun _ _ _ h => h) (Or.inl ⟨by rfl, ?_⟩) (by assumption) ?_
              rotate_left
              · (intro w hSw; (try dsimp only at hSw); go_simp <;> with_reducible rfl)
              try simp only [Act.put, List.setIfInBounds_toArray, List.set_cons_zero, List.set_cons_succ]
              refine wpAnyH_take (i := 9) (oi := { dst := Option.some 144, op := Go.Op.move (Go.Operand.tmp 143), type := 4, pos := "outright.go:129", after := #[{ on := 8, ground := Go.Ground.data }, { on := 6, ground := Go.Ground.chain }], guard := Option.none }) (v := ?_) rfl (by kernel_rfl) (by kernel_rfl) (by kernel_rfl) (fun _ _ _ h => h) (Or.inl ⟨by rfl, ?_⟩) (by assumption) ?_
              rotate_left
              · (intro w hSw; (try dsimp only at hSw); go_simp <;> with_reducible rfl)
              try simp only [Act.put, List.setIfInBounds_toArray, List.set_cons_zero, List.set_cons_succ]
              refine wpAnyH_take (i := 10) (oi := { dst := Option.some 145, op := Go.Op.move (Go.Operand.tmp 14), type := 28, pos := "outright.go:129", after := #[{ on := 9, ground := Go.Ground.guard }], guard := Option.some (9, Bool.true) }) (v := ?_) rfl (by kernel_rfl) (by kernel_rfl) (by kernel_rfl) (fun _ _ _ h => h) (Or.inl ⟨by rfl, ?_⟩) (by assumption) ?_
              rotate_left
              · (intro w hSw; (try dsimp only at hSw); go_simp <;> with_reducible rfl)
              try simp only [Act.put, List.setIfInBounds_toArray, List.set_cons_zero, List.set_cons_succ]
              refine wpAnyH_take (i := 11) (oi := { dst := Option.some 146, op := Go.Op.binOp Go.BinOp.neq 28 (Go.Operand.tmp 145) (Go.Operand.const (Go.Value.int Go.IntKind.i64 0)) 28, type := 4, pos := "outright.go:129", after := #[{ on := 10, ground := Go.Ground.data }, { on := 9, ground := Go.Ground.guard }], guard := Option.some (9, Bool.true) }) (v := ?_) rfl (by kernel_rfl) (by kernel_rfl) (by kernel_rfl) (fun _ _ _ h => h) (Or.inl ⟨by rfl, ?_⟩) (by assumption) ?_
              rotate_left
              · (intro w hSw; (try dsimp only at hSw); go_simp <;> with_reducible rfl)
              try simp only [Act.put, List.setIfInBounds_toArray, List.set_cons_zero, List.set_cons_succ]
              refine wpAnyH_take (i := 12) (oi := { dst := Option.some 147, op := Go.Op.move (Go.Operand.tmp 146), type := 4, pos := "outright.go:129", after := #[{ on := 11, ground := Go.Ground.data }, { on := 9, ground := Go.Ground.chain }, { on := 9, ground := Go.Ground.guard }], guard := Option.some (9, Bool.true) }) (v := ?_) rfl (by kernel_rfl) (by kernel_rfl) (by kernel_rfl) (fun _ _ _ h => h) (Or.inl ⟨by rfl, ?_⟩) (by assumption) ?_
              rotate_left
              · (intro w hSw; (try dsimp only at hSw); go_simp <;> with_reducible rfl)
              try simp only [Act.put, List.setIfInBounds_toArray, List.set_cons_zero, List.set_cons_succ]
              refine wpAnyH_take (i := 13) (oi := { dst := Option.some 148, op := Go.Op.move (Go.Operand.tmp 13), type := 27, pos := "outright.go:129", after := #[{ on := 12, ground := Go.Ground.guard }], guard := Option.some (12, Bool.false) }) (v := _) rfl (by kernel_rfl) (by kernel_rfl) (by kernel_rfl) (fun _ _ _ h => h) (Or.inr ⟨by rfl, rfl⟩) (by assumption) ?_
              try simp only [Act.put, List.setIfInBounds_toArray, List.set_cons_zero, List.set_cons_succ]
              refine wpAnyH_take (i := 14) (oi := { dst := Option.some 149, op := Go.Op.call { callee := Go.Callee.value (Go.Operand.func 15), args := #[Go.Operand.tmp 148], argTypes := #[27] }, type := 24, pos := "outright.go:129", after := #[{ on := 13, ground := Go.Ground.data }, { on := 12, ground := Go.Ground.chain }, { on := 12, ground := Go.Ground.guard }], guard := Option.some (12, Bool.false) }) (v := _) rfl (by kernel_rfl) (by kernel_rfl) (by kernel_rfl) (fun _ _ _ h => h) (Or.inr ⟨by rfl, rfl⟩) (by assumption) ?_
              try simp only [Act.put, List.setIfInBounds_toArray, List.set_cons_zero, List.set_cons_succ]
              refine wpAnyH_take (i := 15) (oi := { dst := Option.some 150, op := Go.Op.load 24 (Go.Operand.tmp 10), type := 24, pos := "outright.go:129", after := #[{ on := 12, ground := Go.Ground.guard }], guard := Option.some (12, Bool.false) }) (v := _) rfl (by kernel_rfl) (by kernel_rfl) (by kernel_rfl) (fun _ _ _ h => h) (Or.inr ⟨by rfl, rfl⟩) (by assumption) ?_
              try simp only [Act.put, List.setIfInBounds_toArray, List.set_cons_zero, List.set_cons_succ]
              refine wpAnyH_take (i := 16) (oi := { dst := Option.some 151, op := Go.Op.binOp Go.BinOp.eql 24 (Go.Operand.tmp 149) (Go.Operand.tmp 150) 24, type := 4, pos := "outright.go:129", after := #[{ on := 14, ground := Go.Ground.data }, { on := 15, ground := Go.Ground.data }, { on := 12, ground := Go.Ground.guard }], guard := Option.some (12, Bool.false) }) (v := _) rfl (by kernel_rfl) (by kernel_rfl) (by kernel_rfl) (fun _ _ _ h => h) (Or.inr ⟨by rfl, rfl⟩) (by assumption) ?_
              try simp only [Act.put, List.setIfInBounds_toArray, List.set_cons_zero, List.set_cons_succ]
              refine wpAnyH_take (i := 17) (oi := { dst := Option.some 152, op := Go.Op.pick (Go.Operand.tmp 147) (Go.Operand.const (Go.Value.bool Bool.true)) (Go.Operand.tmp 151), type := 4, pos := "outright.go:129", after := #[{ on := 12, ground := Go.Ground.data }, { on := 16, ground := Go.Ground.data }, { on := 9, ground := Go.Ground.guard }], guard := Option.some (9, Bool.true) }) (v := ?_) rfl (by kernel_rfl) (by kernel_rfl) (by kernel_rfl) (fun _ _ _ h => h) (Or.inl ⟨by rfl, ?_⟩) (by assumption) ?_
              rotate_left
              · (intro w hSw; (try dsimp only at hSw); go_simp <;> with_reducible rfl)
              try simp only [Act.put, List.setIfInBounds_toArray, List.set_cons_zero, List.set_cons_succ]
              refine wpAnyH_take (i := 18) (oi := { dst := Option.some 153, op := Go.Op.pick (Go.Operand.tmp 144) (Go.Operand.tmp 152) (Go.Operand.const (Go.Value.bool Bool.false)), type := 4, pos := "outright.go:129", after := #[{ on := 9, ground := Go.Ground.data }, { on := 17, ground := Go.Ground.data }], guard := Option.none }) (v := ?_) rfl (by kernel_rfl) (by kernel_rfl) (by kernel_rfl) (fun _ _ _ h => h) (Or.inl ⟨by rfl, ?_⟩) (by assumption) ?_
              rotate_left
              · (intro w hSw; (try dsimp only at hSw); go_simp <;> with_reducible rfl)
              try simp only [Act.put, List.setIfInBounds_toArray, List.set_cons_zero, List.set_cons_succ]
              refine wpAnyH_ready (rs := [19]) (by kernel_rfl) (by simp) ?_
              refine AllReadyH.cons (o := { dst := Option.some 6, op := Go.Op.assign (Go.Operand.tmp 153), type := 4, pos := "outright.go:129", after := #[{ on := 18, ground := Go.Ground.data }, { on := 14, ground := Go.Ground.chain }, { on := 0, ground := Go.Ground.phase }, { on := 1, ground := Go.Ground.phase }, { on := 2, ground := Go.Ground.phase }, { on := 3, ground := Go.Ground.phase }, { on := 4, ground := Go.Ground.phase }, { on := 5, ground := Go.Ground.phase }, { on := 6, ground := Go.Ground.phase }, { on := 7, ground := Go.Ground.phase }, { on := 8, ground := Go.Ground.phase }, { on := 9, ground := Go.Ground.phase }, { on := 10, ground := Go.Ground.phase }, { on := 11, ground := Go.Ground.phase }, { on := 12, ground := Go.Ground.phase }, { on := 13, ground := Go.Ground.phase }, { on := 14, ground := Go.Ground.phase }, { on := 15, ground := Go.Ground.phase }, { on := 16, ground := Go.Ground.phase }, { on := 17, ground := Go.Ground.phase }, { on := 18, ground := Go.Ground.phase }], guard := Option.none }) rfl (fun K hK => ?_) AllReadyH.nil
              go_simp
              clear hHeld
              refine hK.out _ _ ?_ (fun hHeld => ?_)
              · (try dsimp only); exact s1
              clear hK K
              try simp only [Act.put, List.setIfInBounds_toArray, List.set_cons_zero, List.set_cons_succ]
              refine wpAnyH_done (by kernel_rfl) ?_ _
              all_goals
                go_wp2
                go_ret
                exact ⟨rfl, K0.out.trans (RK1.out.mono K0.out.size)⟩
theorem just_law (s r l d s' r' l' d' : Int) (A : Option Addr) (cap : Nat) (cs : List Cl) (w : World) (hT : ErrT w) (hB : Tab w) (hc : CallsAt w A cs) :
    Calls Tryd.prog 5 #[.agg #[.int .i64 s, .int .i64 r, .int .i64 l, .int .i64 d], .agg #[.int .i64 s', .int .i64 r', .int .i64 l', .int .i64 d'], .slice A cs.length cap] w fun e w' => e = .returned (.bool true) ∧ Below w.heap.size w w' := by
  by_cases hm : Bmay s r l d
  · exact just_yes s r l d s' r' l' d' A cap cs w hT hB hc hm
  · exact just_no s r l d s' r' l' d' A cap cs w hT hB hc hm
end Go.Proofs.YtdkdgijcoialbaaDoor

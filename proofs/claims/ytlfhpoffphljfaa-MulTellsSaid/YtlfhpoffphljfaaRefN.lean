/- References of layer 2: Mul. -/
import Derived.Test.YtlfhpoffphljfaaRefM
namespace Go.Proofs.Ytlfhpoffphljfaa
open Go.RowKit Go.Shelf

set_option linter.unusedVariables false

theorem wru {n : Int} (h0 : 0 ≤ n) (h1 : n < 18446744073709551616) : IntKind.u64.wrap n = n := by rw [IntKind.wrap_u64]; omega

set_option maxRecDepth 100000 in
set_option maxHeartbeats 8000000 in
theorem rmul_yes (A A' : Option Addr) (cap cap' : Nat) (xs ys : List Nat) (w : World) (hr : Rd w w.heap.size A xs) (hr' : Rd w w.heap.size A' ys) (hx : mayb xs = true) (hy : mayb ys = true) (hs : ¬ 65537 < xs.length + ys.length) :
    Calls Try.prog 35 #[.slice A xs.length cap, .slice A' ys.length cap'] w (NewL w (clip (val xs * val ys))) := by
  obtain ⟨i0, hti, hz0, hz1, hz2⟩ := info_parts info32
  have hxm := (mayb_iff.1 hx).1
  have hym := (mayb_iff.1 hy).1
  have c1 := rmay_is cap hr (by unfold maxLen; omega) hx
  have c2 := rmay_is cap' hr' (by unfold maxLen; omega) hy
  have hsI : ¬ (65537 : Int) < (xs.length : Int) + (ys.length : Int) := by omega
  clear hx hy
  go_enter Try.func35, Try.ntmps35
  go_wp2_with fail
  with_reducible refine c1.mono ?_
  rintro e w' ⟨rfl, hw⟩
  obtain rfl := hw.symm
  go_wp2_with fail
  with_reducible refine c2.mono ?_
  rintro e w' ⟨rfl, hw⟩
  obtain rfl := hw.symm
  clear c1 c2
  go_wp2_with (at_make; refine wpList_make_full _ rfl _ _ 26 rfl w.heap.size 28 i0 (.int .u32 0) 1 Try.underlying26 hti hz0 hz1 .i64 .i64 _ _ (ys.length + xs.length) rfl rfl (by omega) (by omega) (by rw [hz2]; omega) (by unfold maxLen; omega) (Nat.le_refl _) ?_; intro w1 hown0 hgrow0)
  have hB0 : Below w.heap.size w w1 := (Below.refl _ w).grown hgrow0 (Nat.le_refl _) (fun _ h => by cases h)
  have hO0 := own_made hown0
  clear hown0 hgrow0
  go_loopw [6] (fun i wr => ∃ (k : Nat) (X : List Nat), k ≤ xs.length ∧ i = .int .i64 (k : Int) ∧ BLI ys xs k X ∧ Own wr w.heap.size (.slice (some ⟨w.heap.size, 0, none⟩) X.length (ys.length + xs.length)) X ∧ Below w.heap.size w wr) (fun i _ => xs.length - (intOf i).toNat)
  case atStart => exact ⟨0, _, Nat.zero_le _, rfl, BLI.start ys xs, hO0, hB0⟩
  case round =>
    clear hB0 hO0
    obtain ⟨k, X, hk, rfl, hI, hX, hB⟩ := hrel
    by_cases hlt : k < xs.length
    · obtain ⟨b, o, rfl, hb, hcell⟩ := hr.2 (by omega)
      have hm := hr.limbs.getD k
      have hmc := hcell k hlt
      generalize hmm : xs[k]?.getD 0 = m at *
      have HM := Lib.hid hmm
      have HI := Lib.hid hI
      have HX := Lib.hid hX
      have HB := Lib.hid hB
      have hXl : Hid (X.length = ys.length + xs.length) := hI.1
      clear hcell hmm hI hX hB
      obtain ⟨wo, rfl⟩ : ∃ wo : World, wo = wr := ⟨_, rfl⟩
      go_wp2_with fail
      go_loopw [7, 8] (fun cv i wr2 => ∃ (j c : Nat) (Y : List Nat), j ≤ ys.length ∧ i = .int .i64 (j : Int) ∧ cv = .int .u64 (c : Int) ∧ ATI X k ys m j c Y ∧ Own wr2 w.heap.size (.slice (some ⟨w.heap.size, 0, none⟩) Y.length (ys.length + xs.length)) Y ∧ Below w.heap.size w wr2) (fun _ i _ => ys.length - (intOf i).toNat)
      case atStart => exact ⟨0, 0, X, Nat.zero_le _, rfl, rfl, ATI.start HI.out.2.1 k ys m, HX.out, HB.out⟩
      case round =>
        obtain ⟨j, c, Y, hj, rfl, rfl, hA, hY, hB2⟩ := hrel
        have hYl : Hid (Y.length = ys.length + xs.length) := by show _ = _; rw [hA.1.1, hXl.out]
        have hcc := hA.2.1
        by_cases hjt : j < ys.length
        · obtain ⟨b', o', rfl, hb', hcell'⟩ := hr'.2 (by omega)
          have z1 := (hB2.cell (p := ⟨b, o + k, none⟩) hb).trans hmc
          have z2 := (hB2.cell (p := ⟨b', o' + j, none⟩) hb').trans (hcell' j hjt)
          have z3 := hY.cellAt (j := k + j) (by have := hYl.out; omega)
          have z4 := World.ownsRow.frozenAt hY (k + j)
          have hyl := hr'.limbs.getD j
          have hx1 := hA.1.2.1.getD (k + j)
          have hst0 := Lib.hid fun s => ATI.step (s := s) hA (by rw [hXl.out]; omega)
          generalize hyy : ys[j]?.getD 0 = y at *
          generalize hxx : Y[k + j]?.getD 0 = x at *
          obtain ⟨p, hp⟩ : ∃ p : Nat, p = y * m := ⟨_, rfl⟩
          have hbd := at_bound hyl hm hx1 hcc
          rw [← hp] at hbd
          obtain ⟨hbd1, hbd2⟩ := hbd
          have hpi : (m : Int) * (y : Int) = (p : Int) := by rw [hp, Nat.mul_comm]; simp
          have s1 : IntKind.i64.wrap ((k : Int) + (j : Int)) = (k : Int) + (j : Int) := wr64 (by omega) (by omega)
          have s2 : IntKind.u64.wrap (p : Int) = (p : Int) := wru (by omega) (by omega)
          have s3 : IntKind.u64.wrap ((p : Int) + (x : Int)) = (p : Int) + (x : Int) := wru (by omega) (by omega)
          have s4 : IntKind.u64.wrap ((p : Int) + (x : Int) + (c : Int)) = (p : Int) + (x : Int) + (c : Int) := wru (by omega) (by omega)
          have b1 : (0 : Int) ≤ (k : Int) + (j : Int) := by omega
          have b2 : (k : Int) + (j : Int) < (ys.length : Int) + (xs.length : Int) := by omega
          have b3 : ((k : Int) + (j : Int)).toNat = k + j := by omega
          have b4 : (k : Int) < (xs.length : Int) := by omega
          have b5 : (j : Int) < (ys.length : Int) := by omega
          have b6 : (0 : Int) ≤ (k : Int) := by omega
          have b7 : (0 : Int) ≤ (j : Int) := by omega
          have e1 := Lib.hid (show ((p : Int) + x + c) % 4294967296 = (((p + x + c) % 4294967296 : Nat) : Int) from by omega)
          have e2 := Lib.hid (show ((p : Int) + x + c) / 4294967296 = (((p + x + c) / 4294967296 : Nat) : Int) from by omega)
          have hst := Lib.hid (hst0.out (p + x + c) (by rw [hp]) hbd2)
          have HY := Lib.hid hY
          have HB2 := Lib.hid hB2
          have HYY := Lib.hid hyy
          have HPP := Lib.hid hp
          clear hst0 hyy hxx hp hA hY hB2 hcell'
          go_wp2_with fail
          go_quiet (fail)
          have hY2 : Own (wr.drewN nq) w.heap.size (.slice (some ⟨w.heap.size, 0, none⟩) Y.length (ys.length + xs.length)) Y := HY.out
          have hB3 : Below w.heap.size w (wr.drewN nq) := below_drewN HB2.out nq
          clear z1 z2 z3 z4 s1 s2 s3 s4 b2 b4 b5
          generalize wr.drewN nq = w5 at *
          have z3 := hY2.cellAt (j := k + j) (by have := hYl.out; omega)
          have z4 := World.ownsRow.frozenAt hY2 (k + j)
          have hput := Lib.hid (hY2.put (j := k + j) (v := (p + x + c) % 4294967296))
          have hbe := Lib.hid (hB3.setCell (p := ⟨w.heap.size, k + j, none⟩) (Nat.le_refl _) (lv ((p + x + c) % 4294967296)))
          have b2 : (k : Int) + (j : Int) < (ys.length : Int) + (xs.length : Int) := by omega
          clear hY2 hB3
          go_wp2
          go_roundw
          case rel =>
            refine ⟨j + 1, (p + x + c) / 4294967296, Y.set (k + j) ((p + x + c) % 4294967296), by omega, by go_num, by rw [e2.out], hst.out, ?_, ?_⟩
            · have := hput.out
              unfold lv at this
              rw [← e1.out] at this
              exact this
            · have := hbe.out
              unfold lv at this
              rw [← e1.out] at this
              exact this
          case measure => simp [intOf]; omega
        · obtain rfl : j = ys.length := by omega
          have hst := Lib.hid (HI.out.step hlt HM.out.symm hA)
          have hxc := hY.cellAt (j := k + ys.length) (by have := hYl.out; omega)
          have hxf := World.ownsRow.frozenAt hY (k + ys.length)
          have hput := Lib.hid (hY.put (j := k + ys.length) (v := c))
          have hbe := Lib.hid (hB2.setCell (p := ⟨w.heap.size, k + ys.length, none⟩) (Nat.le_refl _) (lv c))
          have hcm : (c : Int) % 4294967296 = (c : Int) := by omega
          clear hA hY hB2
          go_wp2
          go_roundw
          case rel => exact ⟨k + 1, _, by omega, by go_num, hst.out, hput.out, hbe.out⟩
          case measure => simp [intOf]; omega
    · obtain rfl : k = xs.length := by omega
      have hXl : X.length = ys.length + xs.length := hI.1
      have hv : val X = val xs * val ys := by rw [hI.done, Nat.mul_comm]
      have hlX : Limbs X := hI.2.1
      obtain ⟨A2, cap2, e2, g1, g2, hrd⟩ := hX.rd hlX
      injection e2 with ea eb ec
      subst ea ec
      have cT := rtrim_any _ _ X wr _ hrd g1 g2
      have hfin := hX.trimmed hlX
      rw [hv, hXl] at cT
      rw [hv] at hfin
      have HF := Lib.hid (trimV_own hfin)
      have HB := Lib.hid hB
      clear hI hX hB hr hr' hrd g1 g2 hfin hv hXl
      go_wp2_with fail
      with_reducible refine cT.mono ?_
      rintro e wn ⟨rfl, rfl⟩
      clear cT
      go_wp2
      go_ret
      exact ⟨⟨_, rfl, HF.out⟩, HB.out⟩

set_option maxHeartbeats 2000000 in
theorem rmul_any (va vb : Value) (xs ys : List Nat) (w : World) (ha : Arg w va xs) (hv : Arg w vb ys) : Calls Try.prog 35 #[va, vb] w (NewL w (sMul xs ys)) := by
  obtain ⟨A, cap, rfl, k1, k2, hr⟩ := id ha
  obtain ⟨A', cap', rfl, k1', k2', hr'⟩ := id hv
  by_cases hx : mayb xs = true
  · by_cases hy : mayb ys = true
    · by_cases hL : 65537 < xs.length + ys.length
      · have c1 := rmay_is cap hr (by omega) hx
        have c2 := rmay_is cap' hr' (by omega) hy
        have hxm := (mayb_iff.1 hx).1
        have hym := (mayb_iff.1 hy).1
        have hs : sMul xs ys = [] := by rw [sMul_yes (by simp [hx, hy]), long_clip (mayb_canon hr.limbs hx) (mayb_canon hr'.limbs hy) (long_true (by omega)).symm]
        have HS := Lib.hid hs
        have hLI : (65537 : Int) < (xs.length : Int) + (ys.length : Int) := by omega
        clear hs hx hy ha hv hr hr'
        go_enter Try.func35, Try.ntmps35
        go_wp2_with fail
        with_reducible refine c1.mono ?_
        rintro e w' ⟨rfl, hw⟩
        obtain rfl := hw.symm
        go_wp2_with fail
        with_reducible refine c2.mono ?_
        rintro e w' ⟨rfl, hw⟩
        obtain rfl := hw.symm
        clear c1 c2
        go_wp2
        go_ret
        exact ⟨⟨_, rfl, by rw [HS.out]; exact Own.nil _ _⟩, Below.refl _ w⟩
      · rw [sMul_yes (by simp [hx, hy])]
        exact rmul_yes A A' cap cap' xs ys w hr hr' hx hy hL
    · have c1 := rmay_is cap hr (by omega) hx
      have c2 := rmay_is cap' hr' (by omega) (b := false) (by simpa using hy)
      have HS := Lib.hid (sMul_no (xs := xs) (ys := ys) (by simp [hy]))
      clear hx hy ha hv hr hr'
      go_enter Try.func35, Try.ntmps35
      go_wp2_with fail
      with_reducible refine c1.mono ?_
      rintro e w' ⟨rfl, hw⟩
      obtain rfl := hw.symm
      go_wp2_with fail
      with_reducible refine c2.mono ?_
      rintro e w' ⟨rfl, hw⟩
      obtain rfl := hw.symm
      clear c1 c2
      go_wp2
      go_ret
      exact ⟨⟨_, rfl, by rw [HS.out]; exact Own.nil _ _⟩, Below.refl _ w⟩
  · have c1 := rmay_is cap hr (by omega) (b := false) (by simpa using hx)
    have HS := Lib.hid (sMul_no (xs := xs) (ys := ys) (by simp [hx]))
    clear hx ha hv hr hr'
    go_enter Try.func35, Try.ntmps35
    go_wp2_with fail
    with_reducible refine c1.mono ?_
    rintro e w' ⟨rfl, hw⟩
    obtain rfl := hw.symm
    clear c1
    go_wp2
    go_ret
    exact ⟨⟨_, rfl, by rw [HS.out]; exact Own.nil _ _⟩, Below.refl _ w⟩

end Go.Proofs.Ytlfhpoffphljfaa

/- Several texts in one. -/
import Derived.Deep.QuietTactic
import Derived.BigQuiet
import Derived.Test.YtileljokijmpaaaDoorPackR
import Derived.Test.YtileljokijmpaaaDoorPackO

/- References of layer 2: trim, Mul, Small. -/
namespace Go.Proofs.YtileljokijmpaaaDoor
open Go.RowKit Go.Shelf

set_option linter.unusedVariables false

/-- What the reference's trim hands back. -/
def trimR (A : Option Addr) (k cap : Nat) : Value := if 65536 < k then .slice none 0 0 else .slice A k cap
theorem trimR_no {A : Option Addr} {n k cap : Nat} (h : n = k) (h2 : 65536 < k) : Value.slice none 0 0 = trimR A n cap := by unfold trimR; rw [if_pos (by omega)]
theorem trimR_yes {A : Option Addr} {n k cap : Nat} (h : n = k) (h2 : ¬ 65536 < k) : Value.slice A k cap = trimR A n cap := by unfold trimR; rw [if_neg (by omega), h]
theorem trimV_lim {w : World} {B : Nat} {A : Option Addr} {cap n : Nat} (h : Own w B (.slice A (lim n).length cap) (lim n)) : Own w B (trimR A (lim n).length cap) (clip n) := by
  unfold trimR clip
  by_cases h2 : (lim n).length ≤ 65536
  · rw [if_neg (by omega), if_pos h2]; exact h
  · rw [if_pos (by omega), if_neg h2]; exact Own.nil _ _

set_option maxHeartbeats 400000 in
theorem rtrim_any (A : Option Addr) (cap : Nat) (xs : List Nat) (w : World) (B : Nat) (hr : Rd w B A xs) (hc : xs.length ≤ cap) (hle : cap ≤ maxLen) :
    Calls Tryd.prog 59 #[.slice A xs.length cap] w fun e w' => e = .returned (trimR A (lim (val xs)).length cap) ∧ w' = w := by
  unfold maxLen at hle
  go_enter Tryd.func59, Tryd.ntmps59
  go_wp2
  go_loop [0] (fun v => ∃ k : Nat, k ≤ xs.length ∧ v = .slice A k cap ∧ Hid (∀ j, k ≤ j → j < xs.length → xs[j]?.getD 0 = 0)) (fun v => lenOf v)
  case atStart => exact ⟨xs.length, Nat.le_refl _, rfl, fun j h1 h2 => by omega⟩
  case round =>
    obtain ⟨k, hk, rfl, hz⟩ := hrel
    rcases Nat.eq_zero_or_pos k with h0 | h0
    · subst h0
      go_wp2
      go_ret
      exact ⟨ret_val (trimR_yes (by rw [trim_spec hr.limbs hk hz.out (.inl rfl)]; rfl) (by omega)), rfl⟩
    · obtain ⟨b, off, rfl, hlt, hcell⟩ := hr.2 (by omega)
      have hcl := hcell (k - 1) (by omega)
      have hl := hr.limbs.getD (k - 1)
      have hk0 : (((k : Nat) : Int) == 0) = false := beq_eq_false_iff_ne.2 (by omega)
      clear hcell
      by_cases hx : xs[k - 1]?.getD 0 = 0
      · have hx' : (((xs[k - 1]?.getD 0 : Nat) : Int) == 0) = true := by simp [hx]
        have hX := Lib.hid hx
        clear hx
        go_wp2
        go_round
        case rel => exact ⟨k - 1, by omega, rfl, fun j h1 h2 => by rcases Nat.lt_or_ge j k with h3 | h3; (obtain rfl : j = k - 1 := by omega); exact hX.out; exact hz.out j h3 h2⟩
        case measure => simp [lenOf]; omega
      · have hx' : (((xs[k - 1]?.getD 0 : Nat) : Int) == 0) = false := by simp; omega
        have hL : Hid ((lim (val xs)).length = k) := by rw [trim_spec hr.limbs hk hz.out (.inr hx), List.length_take]; show min k _ = k; omega
        by_cases hM : 65536 < k
        · go_wp2
          go_ret
          exact ⟨ret_val (trimR_no hL.out hM), rfl⟩
        · go_wp2
          go_ret
          exact ⟨ret_val (trimR_yes hL.out hM), rfl⟩

set_option maxHeartbeats 4000000 in
theorem rsmall_any (A : Option Addr) (cap : Nat) (xs : List Nat) (m a : Nat) (w : World) (hr : Rd w w.heap.size A xs) (hc : xs.length ≤ maxLen) (hm : m < 4294967296) (ha : a < 4294967296) :
    Calls Tryd.prog 38 #[.slice A xs.length cap, .int .u32 (m : Int), .int .u32 (a : Int)] w (NewL w (sSmall xs m a)) := by
  by_cases hx : mayb xs = true
  · obtain ⟨i0, hi, hz0, hz1, hz2⟩ := info_parts info32
    have hxm := (mayb_iff.1 hx).1
    have c := rmay_is cap hr hc hx
    have hs := Lib.hid (sSmall_yes (m := m) (a := a) hx)
    clear hx
    go_enter Tryd.func38, Tryd.ntmps38
    go_wp2_with fail
    with_reducible refine c.mono ?_
    rintro e w' ⟨rfl, hw⟩
    obtain rfl := hw.symm
    clear c
    go_wp2_with fail
    go_loopw [7, 8, 9] (fun o cv i wr => ∃ (k c : Nat) (O : List Nat), k ≤ xs.length ∧ i = .int .i64 (k : Int) ∧ cv = .int .u64 (c : Int) ∧ SmI xs m a k c O ∧ wr.ownsRow w.heap.size 40 1 o O.length (u32s O) ∧ Below w.heap.size w wr) (fun _ _ i _ => xs.length - (intOf i).toNat)
    case atStart => exact ⟨0, a, [], Nat.zero_le _, rfl, rfl, SmI.start xs m ha, World.ownsRow_nil _ _ _ _, Below.refl _ _⟩
    case round =>
      obtain ⟨k, c, O, hk, rfl, rfl, hI, hown, hB⟩ := hrel
      have hol : O.length ≤ 65536 := by have := hI.1; omega
      have hcc := hI.2.2.1
      by_cases hlt : k < xs.length
      · obtain ⟨b, o, rfl, hb, hcell⟩ := hr.2 (by omega)
        have hyc := (hB.cell (p := ⟨b, o + k, none⟩) hb).trans (hcell k hlt)
        have hyl := hr.limbs.getD k
        generalize hy : xs[k]?.getD 0 = y at *
        obtain ⟨p, hp⟩ : ∃ p : Nat, p = y * m := ⟨_, rfl⟩
        have hbd := sm_bound hyl hm hcc
        rw [← hp] at hbd
        obtain ⟨hbd1, hbd2⟩ := hbd
        have hpi : (y : Int) * (m : Int) = (p : Int) := by rw [hp]; simp
        have hst := Lib.hid (hI.step (s := p + c) (by rw [hy, hp]) hbd2)
        have e1 := Lib.hid (show ((p : Int) + c) % 4294967296 = (((p + c) % 4294967296 : Nat) : Int) from by omega)
        have e2 := Lib.hid (show ((p : Int) + c) / 4294967296 = (((p + c) / 4294967296 : Nat) : Int) from by omega)
        clear hy hp hI hcell hr
        go_wp2_with (at_builtin; refine wpList_append_own _ rfl _ _ 24 rfl w.heap.size 40 i0 (.int .u32 0) 1 4 Tryd.underlying24 hi hz0 hz1 hz2 rfl (by decide) _ _ _ rfl (hown.alloc _) ⟨wr.heap.size, 0, none⟩ 1 1 [_] rfl rfl (cell_one_new _ _ _) (by simp [Value.oneCell']) (by unfold maxLen; omega) (by omega) (by have := hB.size; simp; omega) ?_; intro v' w2 hown' hgrow hgone; clear hgone)
        have hb2 := hB.trans (appended_plain hown hB.size hgrow).2
        have hown2 : w2.ownsRow w.heap.size 40 1 v' (O ++ [(p + c) % 4294967296]).length (u32s (O ++ [(p + c) % 4294967296])) := by rw [u32s_snoc, ← e1.out]; simpa using hown'
        clear hown' hgrow
        go_roundw
        case rel => exact ⟨k + 1, (p + c) / 4294967296, _, by omega, by go_num, by rw [e2.out], hst.out, hown2, hb2⟩
        case measure => simp [intOf]; omega
      · obtain rfl : k = xs.length := by omega
        have hval := hI.done
        have HV := Lib.hid hval.1
        have HL := Lib.hid hval.2
        clear hval hI hr
        go_wp2_with (at_builtin; refine wpList_append_own _ rfl _ _ 24 rfl w.heap.size 40 i0 (.int .u32 0) 1 4 Tryd.underlying24 hi hz0 hz1 hz2 rfl (by decide) _ _ _ rfl (hown.alloc _) ⟨wr.heap.size, 0, none⟩ 1 1 [_] rfl rfl (cell_one_new _ _ _) (by simp [Value.oneCell']) (by unfold maxLen; omega) (by omega) (by have := hB.size; simp; omega) ?_; intro v' w2 hown' hgrow hgone; clear hgone)
        have hb2 := hB.trans (appended_plain hown hB.size hgrow).2
        have hown2 : Own w2 w.heap.size v' (O ++ [c]) := by unfold Own; rw [u32s_snoc]; simpa using hown'
        clear hown' hgrow hown hB
        obtain ⟨A2, cap2, rfl, h1, h2, hrd⟩ := hown2.rd HL.out
        have ct := rtrim_any _ _ _ w2 _ hrd h1 h2
        have hfin := hown2.trimmedAny HL.out
        rw [HV.out] at ct hfin
        have HF := Lib.hid (trimV_lim hfin)
        have HB := Lib.hid hb2
        clear hown2 hrd hfin hb2 h1 h2
        go_wp2_with fail
        with_reducible refine ct.mono ?_
        rintro e wn ⟨rfl, hw⟩
        obtain rfl := hw.symm
        clear ct
        go_wp2
        go_ret
        exact ⟨⟨_, rfl, by rw [hs.out]; exact HF.out⟩, HB.out⟩
  · have hs := Lib.hid (sSmall_no (m := m) (a := a) (by simpa using hx))
    have c := rmay_is cap hr hc (b := false) (by simpa using hx)
    clear hx hc
    go_enter Tryd.func38, Tryd.ntmps38
    go_wp2_with fail
    with_reducible refine c.mono ?_
    rintro e w' ⟨rfl, hw⟩
    obtain rfl := hw.symm
    clear c
    go_wp2
    go_ret
    exact ⟨⟨_, rfl, by rw [hs.out]; exact Own.nil _ _⟩, Below.refl _ w⟩

end Go.Proofs.YtileljokijmpaaaDoor

/- References of layer 2: Mul. -/
namespace Go.Proofs.YtileljokijmpaaaDoor
open Go.RowKit Go.Shelf

set_option linter.unusedVariables false

theorem wru {n : Int} (h0 : 0 ≤ n) (h1 : n < 18446744073709551616) : IntKind.u64.wrap n = n := by rw [IntKind.wrap_u64]; omega

set_option maxRecDepth 100000 in
set_option maxHeartbeats 8000000 in
theorem rmul_yes (A A' : Option Addr) (cap cap' : Nat) (xs ys : List Nat) (w : World) (hr : Rd w w.heap.size A xs) (hr' : Rd w w.heap.size A' ys) (hx : mayb xs = true) (hy : mayb ys = true) (hs : ¬ 65537 < xs.length + ys.length) :
    Calls Tryd.prog 60 #[.slice A xs.length cap, .slice A' ys.length cap'] w (NewL w (clip (val xs * val ys))) := by
  obtain ⟨i0, hti, hz0, hz1, hz2⟩ := info_parts info32
  have hxm := (mayb_iff.1 hx).1
  have hym := (mayb_iff.1 hy).1
  have c1 := rmay_is cap hr (by unfold maxLen; omega) hx
  have c2 := rmay_is cap' hr' (by unfold maxLen; omega) hy
  have hsI : ¬ (65537 : Int) < (xs.length : Int) + (ys.length : Int) := by omega
  clear hx hy
  go_enter Tryd.func60, Tryd.ntmps60
  go_wp2_with fail
  with_reducible refine c1.mono ?_
  rintro e w' ⟨rfl, hw⟩
  obtain rfl := hw.symm
  go_wp2_with fail
  with_reducible refine c2.mono ?_
  rintro e w' ⟨rfl, hw⟩
  obtain rfl := hw.symm
  clear c1 c2
  go_wp2_with (at_make; refine wpList_make_full _ rfl _ _ 24 rfl w.heap.size 40 i0 (.int .u32 0) 1 Tryd.underlying24 hti hz0 hz1 .i64 .i64 _ _ (ys.length + xs.length) rfl rfl (by omega) (by omega) (by rw [hz2]; omega) (by unfold maxLen; omega) (Nat.le_refl _) ?_; intro w1 hown0 hgrow0)
  have hB0 : Below w.heap.size w w1 := (Below.refl _ w).grown hgrow0 (Nat.le_refl _) (fun _ h => by cases h)
  have hO0 := own_made hown0
  clear hown0 hgrow0
  go_loopw [6] (fun i wr => ∃ (k : Nat) (X : List Nat), k ≤ xs.length ∧ i = .int .i64 (k : Int) ∧ BLI ys xs k X ∧ Own wr w.heap.size (.slice (some ⟨w.heap.size, 0, none⟩) X.length (ys.length + xs.length)) X ∧ Below w.heap.size w wr) (fun i _ => xs.length - (intOf i).toNat)
  case atStart => exact ⟨0, _, Nat.zero_le _, rfl, BLI.start ys xs, hO0, hB0⟩
  case round =>
    clear hB0 hO0
    obtain ⟨k, X, hk, rfl, hI, hX, hB⟩ := hrel
    by_cases hlt : k < xs.length
    · obtain ⟨b, o, rfl, hb, hcell⟩ := hr.2 (by omega)
      have hm := hr.limbs.getD k
      have hmc := hcell k hlt
      generalize hmm : xs[k]?.getD 0 = m at *
      have HM := Lib.hid hmm
      have HI := Lib.hid hI
      have HX := Lib.hid hX
      have HB := Lib.hid hB
      have hXl : Hid (X.length = ys.length + xs.length) := hI.1
      clear hcell hmm hI hX hB
      obtain ⟨wo, rfl⟩ : ∃ wo : World, wo = wr := ⟨_, rfl⟩
      go_wp2_with fail
      go_loopw [7, 8] (fun cv i wr2 => ∃ (j c : Nat) (Y : List Nat), j ≤ ys.length ∧ i = .int .i64 (j : Int) ∧ cv = .int .u64 (c : Int) ∧ ATI X k ys m j c Y ∧ Own wr2 w.heap.size (.slice (some ⟨w.heap.size, 0, none⟩) Y.length (ys.length + xs.length)) Y ∧ Below w.heap.size w wr2) (fun _ i _ => ys.length - (intOf i).toNat)
      case atStart => exact ⟨0, 0, X, Nat.zero_le _, rfl, rfl, ATI.start HI.out.2.1 k ys m, HX.out, HB.out⟩
      case round =>
        obtain ⟨j, c, Y, hj, rfl, rfl, hA, hY, hB2⟩ := hrel
        have hYl : Hid (Y.length = ys.length + xs.length) := by show _ = _; rw [hA.1.1, hXl.out]
        have hcc := hA.2.1
        by_cases hjt : j < ys.length
        · obtain ⟨b', o', rfl, hb', hcell'⟩ := hr'.2 (by omega)
          have z1 := (hB2.cell (p := ⟨b, o + k, none⟩) hb).trans hmc
          have z2 := (hB2.cell (p := ⟨b', o' + j, none⟩) hb').trans (hcell' j hjt)
          have z3 := hY.cellAt (j := k + j) (by have := hYl.out; omega)
          have z4 := World.ownsRow.frozenAt hY (k + j)
          have hyl := hr'.limbs.getD j
          have hx1 := hA.1.2.1.getD (k + j)
          have hst0 := Lib.hid fun s => ATI.step (s := s) hA (by rw [hXl.out]; omega)
          generalize hyy : ys[j]?.getD 0 = y at *
          generalize hxx : Y[k + j]?.getD 0 = x at *
          obtain ⟨p, hp⟩ : ∃ p : Nat, p = y * m := ⟨_, rfl⟩
          have hbd := at_bound hyl hm hx1 hcc
          rw [← hp] at hbd
          obtain ⟨hbd1, hbd2⟩ := hbd
          have hpi : (m : Int) * (y : Int) = (p : Int) := by rw [hp, Nat.mul_comm]; simp
          have s1 : IntKind.i64.wrap ((k : Int) + (j : Int)) = (k : Int) + (j : Int) := wr64 (by omega) (by omega)
          have s2 : IntKind.u64.wrap (p : Int) = (p : Int) := wru (by omega) (by omega)
          have s3 : IntKind.u64.wrap ((p : Int) + (x : Int)) = (p : Int) + (x : Int) := wru (by omega) (by omega)
          have s4 : IntKind.u64.wrap ((p : Int) + (x : Int) + (c : Int)) = (p : Int) + (x : Int) + (c : Int) := wru (by omega) (by omega)
          have b1 : (0 : Int) ≤ (k : Int) + (j : Int) := by omega
          have b2 : (k : Int) + (j : Int) < (ys.length : Int) + (xs.length : Int) := by omega
          have b3 : ((k : Int) + (j : Int)).toNat = k + j := by omega
          have b4 : (k : Int) < (xs.length : Int) := by omega
          have b5 : (j : Int) < (ys.length : Int) := by omega
          have b6 : (0 : Int) ≤ (k : Int) := by omega
          have b7 : (0 : Int) ≤ (j : Int) := by omega
          have e1 := Lib.hid (show ((p : Int) + x + c) % 4294967296 = (((p + x + c) % 4294967296 : Nat) : Int) from by omega)
          have e2 := Lib.hid (show ((p : Int) + x + c) / 4294967296 = (((p + x + c) / 4294967296 : Nat) : Int) from by omega)
          have hst := Lib.hid (hst0.out (p + x + c) (by rw [hp]) hbd2)
          have HY := Lib.hid hY
          have HB2 := Lib.hid hB2
          have HYY := Lib.hid hyy
          have HPP := Lib.hid hp
          clear hst0 hyy hxx hp hA hY hB2 hcell'
          go_wp2_with fail
          go_quiet (fail)
          have hY2 : Own (wr.drewN nq) w.heap.size (.slice (some ⟨w.heap.size, 0, none⟩) Y.length (ys.length + xs.length)) Y := HY.out
          have hB3 : Below w.heap.size w (wr.drewN nq) := below_drewN HB2.out nq
          clear z1 z2 z3 z4 s1 s2 s3 s4 b2 b4 b5
          generalize wr.drewN nq = w5 at *
          have z3 := hY2.cellAt (j := k + j) (by have := hYl.out; omega)
          have z4 := World.ownsRow.frozenAt hY2 (k + j)
          have hput := Lib.hid (hY2.put (j := k + j) (v := (p + x + c) % 4294967296))
          have hbe := Lib.hid (hB3.setCell (p := ⟨w.heap.size, k + j, none⟩) (Nat.le_refl _) (lv ((p + x + c) % 4294967296)))
          have b2 : (k : Int) + (j : Int) < (ys.length : Int) + (xs.length : Int) := by omega
          clear hY2 hB3
          go_wp2
          go_roundw
          case rel =>
            refine ⟨j + 1, (p + x + c) / 4294967296, Y.set (k + j) ((p + x + c) % 4294967296), by omega, by go_num, by rw [e2.out], hst.out, ?_, ?_⟩
            · have := hput.out
              unfold lv at this
              rw [← e1.out] at this
              exact this
            · have := hbe.out
              unfold lv at this
              rw [← e1.out] at this
              exact this
          case measure => simp [intOf]; omega
        · obtain rfl : j = ys.length := by omega
          have hst := Lib.hid (HI.out.step hlt HM.out.symm hA)
          have hxc := hY.cellAt (j := k + ys.length) (by have := hYl.out; omega)
          have hxf := World.ownsRow.frozenAt hY (k + ys.length)
          have hput := Lib.hid (hY.put (j := k + ys.length) (v := c))
          have hbe := Lib.hid (hB2.setCell (p := ⟨w.heap.size, k + ys.length, none⟩) (Nat.le_refl _) (lv c))
          have hcm : (c : Int) % 4294967296 = (c : Int) := by omega
          clear hA hY hB2
          go_wp2
          go_roundw
          case rel => exact ⟨k + 1, _, by omega, by go_num, hst.out, hput.out, hbe.out⟩
          case measure => simp [intOf]; omega
    · obtain rfl : k = xs.length := by omega
      have hXl : X.length = ys.length + xs.length := hI.1
      have hv : val X = val xs * val ys := by rw [hI.done, Nat.mul_comm]
      have hlX : Limbs X := hI.2.1
      obtain ⟨A2, cap2, e2, g1, g2, hrd⟩ := hX.rd hlX
      injection e2 with ea eb ec
      subst ea ec
      have cT := rtrim_any _ _ X wr _ hrd g1 g2
      have hfin := hX.trimmed hlX
      rw [hv, hXl] at cT
      rw [hv] at hfin
      have HF := Lib.hid (trimV_lim hfin)
      have HB := Lib.hid hB
      clear hI hX hB hr hr' hrd g1 g2 hfin hv hXl
      go_wp2_with fail
      with_reducible refine cT.mono ?_
      rintro e wn ⟨rfl, rfl⟩
      clear cT
      go_wp2
      go_ret
      exact ⟨⟨_, rfl, HF.out⟩, HB.out⟩

set_option maxHeartbeats 2000000 in
theorem rmul_any (va vb : Value) (xs ys : List Nat) (w : World) (ha : Arg w va xs) (hv : Arg w vb ys) : Calls Tryd.prog 60 #[va, vb] w (NewL w (sMul xs ys)) := by
  obtain ⟨A, cap, rfl, k1, k2, hr⟩ := id ha
  obtain ⟨A', cap', rfl, k1', k2', hr'⟩ := id hv
  by_cases hx : mayb xs = true
  · by_cases hy : mayb ys = true
    · by_cases hL : 65537 < xs.length + ys.length
      · have c1 := rmay_is cap hr (by omega) hx
        have c2 := rmay_is cap' hr' (by omega) hy
        have hxm := (mayb_iff.1 hx).1
        have hym := (mayb_iff.1 hy).1
        have hs : sMul xs ys = [] := by rw [sMul_yes (by simp [hx, hy]), long_clip (mayb_canon hr.limbs hx) (mayb_canon hr'.limbs hy) (long_true (by omega)).symm]
        have HS := Lib.hid hs
        have hLI : (65537 : Int) < (xs.length : Int) + (ys.length : Int) := by omega
        clear hs hx hy ha hv hr hr'
        go_enter Tryd.func60, Tryd.ntmps60
        go_wp2_with fail
        with_reducible refine c1.mono ?_
        rintro e w' ⟨rfl, hw⟩
        obtain rfl := hw.symm
        go_wp2_with fail
        with_reducible refine c2.mono ?_
        rintro e w' ⟨rfl, hw⟩
        obtain rfl := hw.symm
        clear c1 c2
        go_wp2
        go_ret
        exact ⟨⟨_, rfl, by rw [HS.out]; exact Own.nil _ _⟩, Below.refl _ w⟩
      · rw [sMul_yes (by simp [hx, hy])]
        exact rmul_yes A A' cap cap' xs ys w hr hr' hx hy hL
    · have c1 := rmay_is cap hr (by omega) hx
      have c2 := rmay_is cap' hr' (by omega) (b := false) (by simpa using hy)
      have HS := Lib.hid (sMul_no (xs := xs) (ys := ys) (by simp [hy]))
      clear hx hy ha hv hr hr'
      go_enter Tryd.func60, Tryd.ntmps60
      go_wp2_with fail
      with_reducible refine c1.mono ?_
      rintro e w' ⟨rfl, hw⟩
      obtain rfl := hw.symm
      go_wp2_with fail
      with_reducible refine c2.mono ?_
      rintro e w' ⟨rfl, hw⟩
      obtain rfl := hw.symm
      clear c1 c2
      go_wp2
      go_ret
      exact ⟨⟨_, rfl, by rw [HS.out]; exact Own.nil _ _⟩, Below.refl _ w⟩
  · have c1 := rmay_is cap hr (by omega) (b := false) (by simpa using hx)
    have HS := Lib.hid (sMul_no (xs := xs) (ys := ys) (by simp [hx]))
    clear hx ha hv hr hr'
    go_enter Tryd.func60, Tryd.ntmps60
    go_wp2_with fail
    with_reducible refine c1.mono ?_
    rintro e w' ⟨rfl, hw⟩
    obtain rfl := hw.symm
    clear c1
    go_wp2
    go_ret
    exact ⟨⟨_, rfl, by rw [HS.out]; exact Own.nil _ _⟩, Below.refl _ w⟩

end Go.Proofs.YtileljokijmpaaaDoor

/- References of layer 2: Pow. -/
namespace Go.Proofs.YtileljokijmpaaaDoor
open Go.RowKit Go.Shelf

set_option linter.unusedVariables false

theorem Own.argZ {w : World} {B : Nat} {v : Value} {xs : List Nat} (h : Own w B v xs) (hl : Limbs xs) : ArgZ w v xs := by
  refine ⟨h.arg hl, fun n cap e => ?_⟩
  rcases h.2 with ⟨e2, _⟩ | ⟨g, cap', cur, e2, _⟩
  · rw [e2] at e; injection e with _ _ e3; exact e3.symm
  · rw [e2] at e; cases e
/-- A power on the way that is too long stays so. -/
theorem pow_big {v n s : Nat} (hv : 0 < v) (h : clip (v ^ (n / 2 ^ s)) = []) : clip (v ^ n) = [] := by
  have hp : 0 < v ^ (n / 2 ^ s) := Nat.pow_pos hv
  have hb : ¬ (lim (v ^ (n / 2 ^ s))).length ≤ 65536 := fun hle => by
    rw [clip_of hle] at h
    have := lim_eq_nil.1 h
    omega
  refine clip_not fun hle => hb ?_
  have hm : v ^ (n / 2 ^ s) ≤ v ^ n := Nat.pow_le_pow_right hv (Nat.div_le_self _ _)
  have h2 := val_lt (lim_limbs (v ^ n))
  rw [val_lim] at h2
  have h3 : (lim (v ^ (n / 2 ^ s))).length ≤ (lim (v ^ n)).length := lim_le (Nat.lt_of_le_of_lt hm h2)
  omega

set_option maxRecDepth 100000 in
set_option maxHeartbeats 8000000 in
theorem rpow_yes (A : Option Addr) (cap : Nat) (xs : List Nat) (K : Nat) (w : World) (ha : ArgZ w (.slice A xs.length cap) xs) (hx : mayb xs = true) (hK : K < 9223372036854775808) (hK0 : 0 < K) (h0 : 0 < xs.length) :
    Calls Tryd.prog 39 #[.slice A xs.length cap, .int .i64 (K : Int)] w (NewL w (clip (val xs ^ K))) := by
  obtain ⟨i0, hti, hz0, hz1, hz2⟩ := info_parts info32
  obtain ⟨A1, cap1, e1, k1, k2, hr⟩ := ha.1
  injection e1 with ea _ eb
  subst ea eb
  have c1 := rmay_is cap hr (by omega) hx
  have hxm := (mayb_iff.1 hx).1
  have HXC := Lib.hid (clip_val hr.limbs hx)
  have HPOS := Lib.hid ((mayb_canon hr.limbs hx).val_pos (fun e => by rw [e] at h0; simp at h0))
  have HA := Lib.hid ha
  have hq1 : (((K : Nat) : Int) == 0) = false := beq_eq_false_iff_ne.2 (by omega)
  have hq2 : (((xs.length : Nat) : Int) == 0) = false := beq_eq_false_iff_ne.2 (by omega)
  have hKI : (0 : Int) ≤ (K : Int) := by omega
  clear hx hr ha k1 k2
  go_enter Tryd.func39, Tryd.ntmps39
  go_wp2_with fail
  with_reducible refine c1.mono ?_
  rintro e w' ⟨rfl, hw⟩
  obtain rfl := hw.symm
  clear c1
  go_wp2_with fail
  go_loop [5, 6] (fun t n => ∃ (s m : Nat), t = .int .i64 (s : Int) ∧ n = .int .i64 (m : Int) ∧ 1 ≤ m ∧ m ≤ K ∧ s ≤ 63 ∧ Hid (m = K / 2 ^ s)) (fun _ n => (intOf n).toNat)
  case atStart => exact ⟨0, K, rfl, rfl, hK0, Nat.le_refl _, by decide, by show _ = _; simp⟩
  case round =>
    obtain ⟨s, m, rfl, rfl, hm1, hmK, hs, hm⟩ := hrel
    by_cases h1 : 1 < m
    · have hs2 : s + 1 ≤ 63 := by
        rcases Nat.lt_or_ge s 62 with h | h
        · omega
        · exfalso
          have e := hm.out
          have h62 : (2 : Nat) ^ 62 ≤ 2 ^ s := Nat.pow_le_pow_right (by decide) h
          have h3 : K / 2 ^ s ≤ K / 2 ^ 62 := Nat.div_le_div_left h62 (by decide)
          omega
      have hd : Hid (m / 2 = K / 2 ^ (s + 1)) := by show _ = _; rw [hm.out, Nat.div_div_eq_div_mul, Nat.pow_succ]
      go_wp2_with fail
      go_round
      case rel => exact ⟨s + 1, m / 2, by go_num, by simp, by omega, by omega, hs2, hd⟩
      case measure => simp [intOf]; omega
    · obtain rfl : m = 1 := by omega
      have hstart : Hid (xs = clip (val xs ^ (K / 2 ^ s))) := by show _ = _; rw [← hm.out, Nat.pow_one, HXC.out]
      clear hm
      go_wp2_with fail
      go_loopw [7, 8] (fun r i wr => ∃ (t : Nat) (L : List Nat), t ≤ 63 ∧ i = .int .i64 ((t : Int) - 1) ∧ L = clip (val xs ^ (K / 2 ^ t)) ∧ ArgZ wr r L ∧ Below w.heap.size w wr) (fun _ i _ => (intOf i + 1).toNat)
      case atStart => exact ⟨s, xs, hs, rfl, hstart.out, HA.out, Below.refl _ _⟩
      case round =>
        obtain ⟨t, L, ht, hi, hL, hZ, hB⟩ := hrel
        have hLl : Limbs L := by rw [hL]; exact clip_limbs _
        have hLm0 : L.length ≤ 65536 := by rw [hL]; exact clip_length _
        rcases t with _ | q
        · obtain rfl : u8 = .int .i64 (-1) := hi
          have hval : clip (val xs ^ K) = L := by rw [hL, Nat.pow_zero, Nat.div_one]
          clear hL
          obtain ⟨⟨A7, cap7, rfl, g1, g2, hr7⟩, hz7⟩ := hZ
          rcases A7 with _ | ad
          · obtain rfl := hz7 _ _ rfl
            have hl0 : L = [] := List.eq_nil_of_length_eq_zero (by omega)
            subst hl0
            have hown0 : (wr.alloc (.cells #[] 40)).ownsRow wr.heap.size 40 1 (.slice (some ⟨wr.heap.size, 0, none⟩) 0 0) 0 [] := World.ownsRow_lit wr #[] 0 (Nat.le_refl _) (by decide) rfl
            have HO := Lib.hid hown0
            have HB2 := Lib.hid (hB.trans ((Below.refl _ wr).alloc (hB.size) (.cells #[] 40)))
            have HSZ := Lib.hid hB.size
            have HV := Lib.hid hval
            clear hr7 hz7 hB hval g1 g2
            go_wp2_with (at_builtin; refine wpList_append_own_none rfl _ _ 24 rfl wr.heap.size 40 i0 1 Tryd.underlying24 hti _ _ _ rfl hown0 rfl ?_; clear hown0)
            go_wp2
            go_ret
            exact ⟨⟨_, rfl, by rw [HV.out]; exact Own.more (show Own _ wr.heap.size _ [] from HO.out) HSZ.out⟩, HB2.out⟩
          · have hown0 : (wr.alloc (.cells #[] 40)).ownsRow wr.heap.size 40 1 (.slice (some ⟨wr.heap.size, 0, none⟩) 0 0) 0 [] := World.ownsRow_lit wr #[] 0 (Nat.le_refl _) (by decide) rfl
            have hcell : ∀ j u, (u32s L)[j]? = some u → (wr.alloc (.cells #[] 40)).cell? (ad.add j) = some u := by
              intro j u hu
              have hj : j < L.length := by
                have := (List.getElem?_eq_some_iff.1 hu).1
                simpa [u32s] using this
              obtain ⟨b, off, e, hlt, hcl⟩ := hr7.2 (by omega)
              obtain rfl : ad = ⟨b, off, none⟩ := by simpa using e
              rw [Addr.add_mid]
              rw [((Below.refl _ wr).alloc (Nat.le_refl _) (.cells #[] 40)).cell (p := ⟨b, off + j, none⟩) hlt, hcl j hj]
              rw [u32s, List.getElem?_map, List.getElem?_eq_getElem hj] at hu
              rw [List.getElem?_eq_getElem hj]
              exact hu
            have HC := Lib.hid hcell
            have HB0 := Lib.hid hB
            have HV := Lib.hid hval
            have hLm : L.length ≤ 65536 := hLm0
            clear hcell hr7 hz7 hB hval hLm0
            go_wp2_with (at_builtin; refine wpList_append_own _ rfl _ _ 24 rfl wr.heap.size 40 i0 (.int .u32 0) 1 4 Tryd.underlying24 hti hz0 hz1 hz2 rfl (by decide) _ _ _ rfl hown0 ad L.length cap7 (u32s L) rfl (by simp [u32s]) HC.out (u32s_one L) (by unfold maxLen; omega) (by omega) (by simp) ?_; intro v' w2 hown' hgrow hgone; clear hgone)
            have hg2 : (wr.alloc (.cells #[] 40)).grownBy w2 (some wr.heap.size) := hgrow
            have hb2 : Below wr.heap.size wr w2 := ((Below.refl _ wr).alloc (Nat.le_refl _) _).grown hg2 (by simp) (fun k hk => by cases hk; exact Nat.le_refl _)
            have hO : Own w2 wr.heap.size v' L := by unfold Own; simpa using hown'
            have HO := Lib.hid (hO.more HB0.out.size)
            have HB2 := Lib.hid (HB0.out.trans (hb2.mono HB0.out.size))
            clear hO hown' hgrow hg2 HC hb2
            go_wp2
            go_ret
            exact ⟨⟨_, rfl, by rw [HV.out]; exact HO.out⟩, HB2.out⟩
        · obtain rfl : u8 = .int .i64 (q : Int) := by rw [hi]; congr 1; omega
          clear hi
          rcases Nat.eq_zero_or_pos L.length with hz | hz
          · have hLn : L = [] := List.eq_nil_of_length_eq_zero hz
            have hval : clip (val xs ^ K) = L := by rw [hLn]; exact pow_big HPOS.out (by rw [← hL, hLn])
            have hLz : L.length ≤ 65536 := by omega
            have hz2' : ¬ ((0 : Int) < (L.length : Int)) := by omega
            clear hL hz hLn
            obtain ⟨⟨A7, cap7, rfl, g1, g2, hr7⟩, hz7⟩ := hZ
            rcases A7 with _ | ad
            · obtain rfl := hz7 _ _ rfl
              have hl0 : L = [] := List.eq_nil_of_length_eq_zero (by omega)
              subst hl0
              have hown0 : (wr.alloc (.cells #[] 40)).ownsRow wr.heap.size 40 1 (.slice (some ⟨wr.heap.size, 0, none⟩) 0 0) 0 [] := World.ownsRow_lit wr #[] 0 (Nat.le_refl _) (by decide) rfl
              have HO := Lib.hid hown0
              have HB2 := Lib.hid (hB.trans ((Below.refl _ wr).alloc (hB.size) (.cells #[] 40)))
              have HSZ := Lib.hid hB.size
              have HV := Lib.hid hval
              clear hr7 hz7 hB hval g1 g2
              go_wp2_with (at_builtin; refine wpList_append_own_none rfl _ _ 24 rfl wr.heap.size 40 i0 1 Tryd.underlying24 hti _ _ _ rfl hown0 rfl ?_; clear hown0)
              go_wp2
              go_ret
              exact ⟨⟨_, rfl, by rw [HV.out]; exact Own.more (show Own _ wr.heap.size _ [] from HO.out) HSZ.out⟩, HB2.out⟩
            · have hown0 : (wr.alloc (.cells #[] 40)).ownsRow wr.heap.size 40 1 (.slice (some ⟨wr.heap.size, 0, none⟩) 0 0) 0 [] := World.ownsRow_lit wr #[] 0 (Nat.le_refl _) (by decide) rfl
              have hcell : ∀ j u, (u32s L)[j]? = some u → (wr.alloc (.cells #[] 40)).cell? (ad.add j) = some u := by
                intro j u hu
                have hj : j < L.length := by
                  have := (List.getElem?_eq_some_iff.1 hu).1
                  simpa [u32s] using this
                obtain ⟨b, off, e, hlt, hcl⟩ := hr7.2 (by omega)
                obtain rfl : ad = ⟨b, off, none⟩ := by simpa using e
                rw [Addr.add_mid]
                rw [((Below.refl _ wr).alloc (Nat.le_refl _) (.cells #[] 40)).cell (p := ⟨b, off + j, none⟩) hlt, hcl j hj]
                rw [u32s, List.getElem?_map, List.getElem?_eq_getElem hj] at hu
                rw [List.getElem?_eq_getElem hj]
                exact hu
              have HC := Lib.hid hcell
              have HB0 := Lib.hid hB
              have HV := Lib.hid hval
              have hLm : L.length ≤ 65536 := hLm0
              clear hcell hr7 hz7 hB hval hLm0
              go_wp2_with (at_builtin; refine wpList_append_own _ rfl _ _ 24 rfl wr.heap.size 40 i0 (.int .u32 0) 1 4 Tryd.underlying24 hti hz0 hz1 hz2 rfl (by decide) _ _ _ rfl hown0 ad L.length cap7 (u32s L) rfl (by simp [u32s]) HC.out (u32s_one L) (by unfold maxLen; omega) (by omega) (by simp) ?_; intro v' w2 hown' hgrow hgone; clear hgone)
              have hg2 : (wr.alloc (.cells #[] 40)).grownBy w2 (some wr.heap.size) := hgrow
              have hb2 : Below wr.heap.size wr w2 := ((Below.refl _ wr).alloc (Nat.le_refl _) _).grown hg2 (by simp) (fun k hk => by cases hk; exact Nat.le_refl _)
              have hO : Own w2 wr.heap.size v' L := by unfold Own; simpa using hown'
              have HO := Lib.hid (hO.more HB0.out.size)
              have HB2 := Lib.hid (HB0.out.trans (hb2.mono HB0.out.size))
              clear hO hown' hgrow hg2 HC hb2
              go_wp2
              go_ret
              exact ⟨⟨_, rfl, by rw [HV.out]; exact HO.out⟩, HB2.out⟩
          · have hzI : (0 : Int) < (L.length : Int) := by omega
            have c5 := rmul_any u7 u7 L L wr hZ.1 hZ.1
            rw [hL, clip_mul] at c5
            have hmod : Hid ((K / 2 ^ q) % 2 = (K / 2 ^ q) % 2) := rfl
            have HB := Lib.hid hB
            obtain ⟨A7, cap7, e7, g1, g2, hr7⟩ := id hZ.1
            have hq63 : q ≤ 63 := by omega
            clear hz hB hr7 g1 g2 hZ hLl hLm0
            subst e7
            rw [hL] at hzI
            subst hL
            obtain ⟨wo, rfl⟩ : ∃ wo : World, wo = wr := ⟨_, rfl⟩
            go_wp2_with fail
            with_reducible refine c5.mono ?_
            rintro e w2 ⟨⟨r2, rfl, ho2⟩, hb2⟩
            have HO2 := Lib.hid (ho2.more HB.out.size)
            have HB2 := Lib.hid (HB.out.trans (hb2.mono HB.out.size))
            clear c5 ho2 hb2
            go_wp2_with fail
            go_loop [9, 10] (fun bv jv => ∃ (j m : Nat), jv = .int .i64 (j : Int) ∧ bv = .int .i64 (m : Int) ∧ j ≤ q ∧ m ≤ K ∧ Hid (m = K / 2 ^ j)) (fun _ jv => q - (intOf jv).toNat)
            case atStart => exact ⟨0, K, rfl, rfl, Nat.zero_le _, Nat.le_refl _, by show _ = _; simp⟩
            case round =>
              obtain ⟨j, m, rfl, rfl, hj, hmK2, hm2⟩ := hrel
              by_cases hjq : j < q
              · have hd : Hid (m / 2 = K / 2 ^ (j + 1)) := by show _ = _; rw [hm2.out, Nat.div_div_eq_div_mul, Nat.pow_succ]
                go_wp2_with fail
                go_round
                case rel => exact ⟨j + 1, m / 2, by go_num, by simp, by omega, by omega, hd⟩
                case measure => simp [intOf]; omega
              · obtain rfl : j = q := by omega
                have hm3 := hm2.out
                rcases Nat.mod_two_eq_zero_or_one m with hbit | hbit
                · have hpe := Lib.hid (pow_even (v := val xs) (n := K) (s := j) (by rw [← hm3]; exact hbit))
                  have htest : ((m : Int) % 2 == 1) = false := beq_eq_false_iff_ne.2 (by omega)
                  have HF := Lib.hid (by have := HO2.out; rw [hpe.out] at this; exact this)
                  clear hm3 hbit
                  go_wp2_with fail
                  go_roundw
                  case rel => exact ⟨j, _, hq63, rfl, rfl, HF.out.argZ (clip_limbs _), HB2.out⟩
                  case measure => simp [intOf]
                · have e6 : sMul (clip (val xs ^ (K / 2 ^ (j + 1)) * val xs ^ (K / 2 ^ (j + 1)))) xs = clip (val xs ^ (K / 2 ^ j)) := by
                    conv => lhs; arg 2; rw [← HXC.out]
                    rw [clip_mul, pow_odd (by rw [← hm3]; exact hbit)]
                  have htest : ((m : Int) % 2 == 1) = true := beq_iff_eq.2 (by omega)
                  have c6 := rmul_any r2 (.slice A xs.length cap) _ xs w2 (HO2.out.arg (clip_limbs _)) (HA.out.1.below HB2.out)
                  rw [e6] at c6
                  clear hm3 hbit e6
                  go_wp2_with fail
                  with_reducible refine c6.mono ?_
                  rintro e w3 ⟨⟨r3, rfl, ho3⟩, hb3⟩
                  have HO3 := Lib.hid (ho3.more HB2.out.size)
                  have HB3 := Lib.hid (HB2.out.trans (hb3.mono HB2.out.size))
                  clear c6 ho3 hb3
                  go_wp2_with fail
                  go_roundw
                  case rel => exact ⟨j, _, hq63, rfl, rfl, HO3.out.argZ (clip_limbs _), HB3.out⟩
                  case measure => simp [intOf]

end Go.Proofs.YtileljokijmpaaaDoor

/- References of layer 2: Pow whole; the law's copied, spoil. -/
namespace Go.Proofs.YtileljokijmpaaaDoor
open Go.RowKit Go.Shelf

set_option linter.unusedVariables false

set_option maxRecDepth 100000 in
set_option maxHeartbeats 2000000 in
theorem rpow_any (va : Value) (xs : List Nat) (k : Int) (w : World) (ha : ArgZ w va xs) (hk : k < 9223372036854775808) : Calls Tryd.prog 39 #[va, .int .i64 k] w (NewL w (sPow xs k)) := by
  obtain ⟨A, cap, rfl, k1, k2, hr⟩ := id ha.1
  by_cases hx : mayb xs = true
  · have c1 := rmay_is cap hr (by omega) hx
    rcases Int.lt_or_le k 0 with h | h
    · have HS := Lib.hid (sPow_no2 (xs := xs) h)
      clear hx hr ha
      go_enter Tryd.func39, Tryd.ntmps39
      go_wp2_with fail
      with_reducible refine c1.mono ?_
      rintro e w' ⟨rfl, hw⟩
      obtain rfl := hw.symm
      clear c1
      go_wp2
      go_ret
      exact ⟨⟨_, rfl, by rw [HS.out]; exact Own.nil _ _⟩, Below.refl _ w⟩
    · obtain ⟨n, rfl⟩ := Int.eq_ofNat_of_zero_le h
      rcases Nat.eq_zero_or_pos n with h0 | h0
      · subst h0
        have hs : sPow xs ((0 : Nat) : Int) = [1] := sPow_eq hx (by decide) (Limbs.one (by decide)) (by simp [val])
        have HS := Lib.hid hs
        have ho : Own (w.alloc (.cells #[.int .u32 1] 40)) w.heap.size (.slice (some ⟨w.heap.size, 0, none⟩) 1 1) [1] := World.ownsRow_lit w _ 1 (Nat.le_refl _) (by decide) rfl
        have HO := Lib.hid ho
        clear hx hr ha hs ho
        go_enter Tryd.func39, Tryd.ntmps39
        go_wp2_with fail
        with_reducible refine c1.mono ?_
        rintro e w' ⟨rfl, hw⟩
        obtain rfl := hw.symm
        clear c1
        go_wp2
        go_ret
        exact ⟨⟨_, rfl, by rw [HS.out]; exact HO.out⟩, (Below.refl _ w).alloc (Nat.le_refl _) _⟩
      · rcases Nat.eq_zero_or_pos xs.length with h1 | h1
        · have hx0 : xs = [] := List.eq_nil_of_length_eq_zero h1
          have hs : sPow xs (n : Int) = [] := by rw [hx0]; exact sPow_eq (by decide) (by decide) limbs_nil (by simp only [val]; exact Nat.zero_pow h0)
          have HS := Lib.hid hs
          have hq1 : (((n : Nat) : Int) == 0) = false := beq_eq_false_iff_ne.2 (by omega)
          have hn0 : ¬ ((n : Int) < 0) := by omega
          clear hs hx hr ha h1 k1 k2
          subst hx0
          go_enter Tryd.func39, Tryd.ntmps39
          go_wp2_with fail
          refine c1.mono ?_
          rintro e w' ⟨rfl, hw⟩
          obtain rfl := hw.symm
          clear c1 h0 h hk
          go_wp2
          go_ret
          exact ⟨⟨_, rfl, by rw [HS.out]; exact Own.nil _ _⟩, Below.refl _ w⟩
        · rw [sPow_yes hx]
          exact rpow_yes A cap xs n w ha hx (by omega) h0 h1
  · have c1 := rmay_is cap hr (by omega) (b := false) (by simpa using hx)
    have HS := Lib.hid (sPow_no1 (xs := xs) (k := k) (by simpa using hx))
    clear hx ha hr
    go_enter Tryd.func39, Tryd.ntmps39
    go_wp2_with fail
    with_reducible refine c1.mono ?_
    rintro e w' ⟨rfl, hw⟩
    obtain rfl := hw.symm
    clear c1
    go_wp2
    go_ret
    exact ⟨⟨_, rfl, by rw [HS.out]; exact Own.nil _ _⟩, Below.refl _ w⟩

/-! ### copied -/
/-! ### spoil -/
/-- What lay below B lies as it lay; what was a row of the call's own is one still. -/
def Spoilt (B : Nat) (w w' : World) : Prop := Below B w w' ∧ ∀ v n zs, w.ownsRow B 40 1 v n zs → ∃ zs', w'.ownsRow B 40 1 v n zs'
theorem Spoilt.refl (B : Nat) (w : World) : Spoilt B w w := ⟨Below.refl _ _, fun v n zs h => ⟨zs, h⟩⟩
theorem Spoilt.trans {B : Nat} {a b c : World} (h : Spoilt B a b) (k : Spoilt B b c) : Spoilt B a c := ⟨h.1.trans k.1, fun v n zs ho => by
  obtain ⟨zs', h'⟩ := h.2 v n zs ho
  exact k.2 v n zs' h'⟩
theorem Spoilt.put {B g : Nat} (w : World) (j : Nat) (u : Value) (hg : B ≤ g) : Spoilt B w (w.setCell ⟨g, j, none⟩ u) := by
  refine ⟨(Below.refl B w).setCell hg u, fun v n zs ho => ?_⟩
  rcases ho.2 with ⟨rfl, h0⟩ | ⟨g', cap, cur, rfl, hb, hh, r⟩
  · exact ⟨zs, ho.1, .inl ⟨rfl, h0⟩⟩
  · by_cases e : g' = g
    · subst e
      exact ⟨_, (World.ownsRow.stored ho j u).1⟩
    · exact ⟨zs, ho.1, .inr ⟨g', cap, cur, rfl, hb, by rw [heap_setCell_other w ⟨g, j, none⟩ g' u (fun e2 => e (by simp [e2]))]; exact hh, r⟩⟩

end Go.Proofs.YtileljokijmpaaaDoor

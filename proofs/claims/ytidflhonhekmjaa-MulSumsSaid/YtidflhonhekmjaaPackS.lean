/- Several texts in one. -/
import Derived.Deep.QuietTactic
import Derived.BigQuiet
import Derived.Test.YtidflhonhekmjaaPackR
import Derived.Test.YtidflhonhekmjaaPackO

/- References of layer 2: trim, Mul, Small. -/
namespace Go.Proofs.Ytidflhonhekmjaa
open Go.RowKit Go.Shelf

set_option linter.unusedVariables false

/-- What the reference's trim hands back. -/
def trimR (A : Option Addr) (k cap : Nat) : Value := if 65536 < k then .slice none 0 0 else .slice A k cap
theorem trimR_no {A : Option Addr} {n k cap : Nat} (h : n = k) (h2 : 65536 < k) : Value.slice none 0 0 = trimR A n cap := by unfold trimR; rw [if_pos (by omega)]
theorem trimR_yes {A : Option Addr} {n k cap : Nat} (h : n = k) (h2 : ¬ 65536 < k) : Value.slice A k cap = trimR A n cap := by unfold trimR; rw [if_neg (by omega), h]
theorem trimV_lim {w : World} {B : Nat} {A : Option Addr} {cap n : Nat} (h : Own w B (.slice A (lim n).length cap) (lim n)) : Own w B (trimR A (lim n).length cap) (clip n) := by
  unfold trimR clip
  by_cases h2 : (lim n).length ≤ 65536
  · rw [if_neg (by omega), if_pos h2]; exact h
  · rw [if_pos (by omega), if_neg h2]; exact Own.nil _ _

set_option maxHeartbeats 400000 in
theorem rtrim_any (A : Option Addr) (cap : Nat) (xs : List Nat) (w : World) (B : Nat) (hr : Rd w B A xs) (hc : xs.length ≤ cap) (hle : cap ≤ maxLen) :
    Calls Try.prog 79 #[.slice A xs.length cap] w fun e w' => e = .returned (trimR A (lim (val xs)).length cap) ∧ w' = w := by
  unfold maxLen at hle
  go_enter Try.func79, Try.ntmps79
  go_wp2
  go_loop [0] (fun v => ∃ k : Nat, k ≤ xs.length ∧ v = .slice A k cap ∧ Hid (∀ j, k ≤ j → j < xs.length → xs[j]?.getD 0 = 0)) (fun v => lenOf v)
  case atStart => exact ⟨xs.length, Nat.le_refl _, rfl, fun j h1 h2 => by omega⟩
  case round =>
    obtain ⟨k, hk, rfl, hz⟩ := hrel
    rcases Nat.eq_zero_or_pos k with h0 | h0
    · subst h0
      go_wp2
      go_ret
      exact ⟨ret_val (trimR_yes (by rw [trim_spec hr.limbs hk hz.out (.inl rfl)]; rfl) (by omega)), rfl⟩
    · obtain ⟨b, off, rfl, hlt, hcell⟩ := hr.2 (by omega)
      have hcl := hcell (k - 1) (by omega)
      have hl := hr.limbs.getD (k - 1)
      have hk0 : (((k : Nat) : Int) == 0) = false := beq_eq_false_iff_ne.2 (by omega)
      clear hcell
      by_cases hx : xs[k - 1]?.getD 0 = 0
      · have hx' : (((xs[k - 1]?.getD 0 : Nat) : Int) == 0) = true := by simp [hx]
        have hX := Lib.hid hx
        clear hx
        go_wp2
        go_round
        case rel => exact ⟨k - 1, by omega, rfl, fun j h1 h2 => by rcases Nat.lt_or_ge j k with h3 | h3; (obtain rfl : j = k - 1 := by omega); exact hX.out; exact hz.out j h3 h2⟩
        case measure => simp [lenOf]; omega
      · have hx' : (((xs[k - 1]?.getD 0 : Nat) : Int) == 0) = false := by simp; omega
        have hL : Hid ((lim (val xs)).length = k) := by rw [trim_spec hr.limbs hk hz.out (.inr hx), List.length_take]; show min k _ = k; omega
        by_cases hM : 65536 < k
        · go_wp2
          go_ret
          exact ⟨ret_val (trimR_no hL.out hM), rfl⟩
        · go_wp2
          go_ret
          exact ⟨ret_val (trimR_yes hL.out hM), rfl⟩

end Go.Proofs.Ytidflhonhekmjaa

/- References of layer 2: Mul. -/
namespace Go.Proofs.Ytidflhonhekmjaa
open Go.RowKit Go.Shelf

set_option linter.unusedVariables false

theorem wru {n : Int} (h0 : 0 ≤ n) (h1 : n < 18446744073709551616) : IntKind.u64.wrap n = n := by rw [IntKind.wrap_u64]; omega

set_option maxRecDepth 100000 in
set_option maxHeartbeats 8000000 in
theorem rmul_yes (A A' : Option Addr) (cap cap' : Nat) (xs ys : List Nat) (w : World) (hr : Rd w w.heap.size A xs) (hr' : Rd w w.heap.size A' ys) (hx : mayb xs = true) (hy : mayb ys = true) (hs : ¬ 65537 < xs.length + ys.length) :
    Calls Try.prog 56 #[.slice A xs.length cap, .slice A' ys.length cap'] w (NewL w (clip (val xs * val ys))) := by
  obtain ⟨i0, hti, hz0, hz1, hz2⟩ := info_parts info32
  have hxm := (mayb_iff.1 hx).1
  have hym := (mayb_iff.1 hy).1
  have c1 := rmay_is cap hr (by unfold maxLen; omega) hx
  have c2 := rmay_is cap' hr' (by unfold maxLen; omega) hy
  have hsI : ¬ (65537 : Int) < (xs.length : Int) + (ys.length : Int) := by omega
  clear hx hy
  go_enter Try.func56, Try.ntmps56
  go_wp2_with fail
  with_reducible refine c1.mono ?_
  rintro e w' ⟨rfl, hw⟩
  obtain rfl := hw.symm
  go_wp2_with fail
  with_reducible refine c2.mono ?_
  rintro e w' ⟨rfl, hw⟩
  obtain rfl := hw.symm
  clear c1 c2
  go_wp2_with (at_make; refine wpList_make_full _ rfl _ _ 23 rfl w.heap.size 26 i0 (.int .u32 0) 1 Try.underlying23 hti hz0 hz1 .i64 .i64 _ _ (ys.length + xs.length) rfl rfl (by omega) (by omega) (by rw [hz2]; omega) (by unfold maxLen; omega) (Nat.le_refl _) ?_; intro w1 hown0 hgrow0)
  have hB0 : Below w.heap.size w w1 := (Below.refl _ w).grown hgrow0 (Nat.le_refl _) (fun _ h => by cases h)
  have hO0 := own_made hown0
  clear hown0 hgrow0
  go_loopw [6] (fun i wr => ∃ (k : Nat) (X : List Nat), k ≤ xs.length ∧ i = .int .i64 (k : Int) ∧ BLI ys xs k X ∧ Own wr w.heap.size (.slice (some ⟨w.heap.size, 0, none⟩) X.length (ys.length + xs.length)) X ∧ Below w.heap.size w wr) (fun i _ => xs.length - (intOf i).toNat)
  case atStart => exact ⟨0, _, Nat.zero_le _, rfl, BLI.start ys xs, hO0, hB0⟩
  case round =>
    clear hB0 hO0
    obtain ⟨k, X, hk, rfl, hI, hX, hB⟩ := hrel
    by_cases hlt : k < xs.length
    · obtain ⟨b, o, rfl, hb, hcell⟩ := hr.2 (by omega)
      have hm := hr.limbs.getD k
      have hmc := hcell k hlt
      generalize hmm : xs[k]?.getD 0 = m at *
      have HM := Lib.hid hmm
      have HI := Lib.hid hI
      have HX := Lib.hid hX
      have HB := Lib.hid hB
      have hXl : Hid (X.length = ys.length + xs.length) := hI.1
      clear hcell hmm hI hX hB
      obtain ⟨wo, rfl⟩ : ∃ wo : World, wo = wr := ⟨_, rfl⟩
      go_wp2_with fail
      go_loopw [7, 8] (fun cv i wr2 => ∃ (j c : Nat) (Y : List Nat), j ≤ ys.length ∧ i = .int .i64 (j : Int) ∧ cv = .int .u64 (c : Int) ∧ ATI X k ys m j c Y ∧ Own wr2 w.heap.size (.slice (some ⟨w.heap.size, 0, none⟩) Y.length (ys.length + xs.length)) Y ∧ Below w.heap.size w wr2) (fun _ i _ => ys.length - (intOf i).toNat)
      case atStart => exact ⟨0, 0, X, Nat.zero_le _, rfl, rfl, ATI.start HI.out.2.1 k ys m, HX.out, HB.out⟩
      case round =>
        obtain ⟨j, c, Y, hj, rfl, rfl, hA, hY, hB2⟩ := hrel
        have hYl : Hid (Y.length = ys.length + xs.length) := by show _ = _; rw [hA.1.1, hXl.out]
        have hcc := hA.2.1
        by_cases hjt : j < ys.length
        · obtain ⟨b', o', rfl, hb', hcell'⟩ := hr'.2 (by omega)
          have z1 := (hB2.cell (p := ⟨b, o + k, none⟩) hb).trans hmc
          have z2 := (hB2.cell (p := ⟨b', o' + j, none⟩) hb').trans (hcell' j hjt)
          have z3 := hY.cellAt (j := k + j) (by have := hYl.out; omega)
          have z4 := World.ownsRow.frozenAt hY (k + j)
          have hyl := hr'.limbs.getD j
          have hx1 := hA.1.2.1.getD (k + j)
          have hst0 := Lib.hid fun s => ATI.step (s := s) hA (by rw [hXl.out]; omega)
          generalize hyy : ys[j]?.getD 0 = y at *
          generalize hxx : Y[k + j]?.getD 0 = x at *
          obtain ⟨p, hp⟩ : ∃ p : Nat, p = y * m := ⟨_, rfl⟩
          have hbd := at_bound hyl hm hx1 hcc
          rw [← hp] at hbd
          obtain ⟨hbd1, hbd2⟩ := hbd
          have hpi : (m : Int) * (y : Int) = (p : Int) := by rw [hp, Nat.mul_comm]; simp
          have s1 : IntKind.i64.wrap ((k : Int) + (j : Int)) = (k : Int) + (j : Int) := wr64 (by omega) (by omega)
          have s2 : IntKind.u64.wrap (p : Int) = (p : Int) := wru (by omega) (by omega)
          have s3 : IntKind.u64.wrap ((p : Int) + (x : Int)) = (p : Int) + (x : Int) := wru (by omega) (by omega)
          have s4 : IntKind.u64.wrap ((p : Int) + (x : Int) + (c : Int)) = (p : Int) + (x : Int) + (c : Int) := wru (by omega) (by omega)
          have b1 : (0 : Int) ≤ (k : Int) + (j : Int) := by omega
          have b2 : (k : Int) + (j : Int) < (ys.length : Int) + (xs.length : Int) := by omega
          have b3 : ((k : Int) + (j : Int)).toNat = k + j := by omega
          have b4 : (k : Int) < (xs.length : Int) := by omega
          have b5 : (j : Int) < (ys.length : Int) := by omega
          have b6 : (0 : Int) ≤ (k : Int) := by omega
          have b7 : (0 : Int) ≤ (j : Int) := by omega
          have e1 := Lib.hid (show ((p : Int) + x + c) % 4294967296 = (((p + x + c) % 4294967296 : Nat) : Int) from by omega)
          have e2 := Lib.hid (show ((p : Int) + x + c) / 4294967296 = (((p + x + c) / 4294967296 : Nat) : Int) from by omega)
          have hst := Lib.hid (hst0.out (p + x + c) (by rw [hp]) hbd2)
          have HY := Lib.hid hY
          have HB2 := Lib.hid hB2
          have HYY := Lib.hid hyy
          have HPP := Lib.hid hp
          clear hst0 hyy hxx hp hA hY hB2 hcell'
          go_wp2_with fail
          go_quiet (fail)
          have hY2 : Own (wr.drewN nq) w.heap.size (.slice (some ⟨w.heap.size, 0, none⟩) Y.length (ys.length + xs.length)) Y := HY.out
          have hB3 : Below w.heap.size w (wr.drewN nq) := below_drewN HB2.out nq
          clear z1 z2 z3 z4 s1 s2 s3 s4 b2 b4 b5
          generalize wr.drewN nq = w5 at *
          have z3 := hY2.cellAt (j := k + j) (by have := hYl.out; omega)
          have z4 := World.ownsRow.frozenAt hY2 (k + j)
          have hput := Lib.hid (hY2.put (j := k + j) (v := (p + x + c) % 4294967296))
          have hbe := Lib.hid (hB3.setCell (p := ⟨w.heap.size, k + j, none⟩) (Nat.le_refl _) (lv ((p + x + c) % 4294967296)))
          have b2 : (k : Int) + (j : Int) < (ys.length : Int) + (xs.length : Int) := by omega
          clear hY2 hB3
          go_wp2
          go_roundw
          case rel =>
            refine ⟨j + 1, (p + x + c) / 4294967296, Y.set (k + j) ((p + x + c) % 4294967296), by omega, by go_num, by rw [e2.out], hst.out, ?_, ?_⟩
            · have := hput.out
              unfold lv at this
              rw [← e1.out] at this
              exact this
            · have := hbe.out
              unfold lv at this
              rw [← e1.out] at this
              exact this
          case measure => simp [intOf]; omega
        · obtain rfl : j = ys.length := by omega
          have hst := Lib.hid (HI.out.step hlt HM.out.symm hA)
          have hxc := hY.cellAt (j := k + ys.length) (by have := hYl.out; omega)
          have hxf := World.ownsRow.frozenAt hY (k + ys.length)
          have hput := Lib.hid (hY.put (j := k + ys.length) (v := c))
          have hbe := Lib.hid (hB2.setCell (p := ⟨w.heap.size, k + ys.length, none⟩) (Nat.le_refl _) (lv c))
          have hcm : (c : Int) % 4294967296 = (c : Int) := by omega
          clear hA hY hB2
          go_wp2
          go_roundw
          case rel => exact ⟨k + 1, _, by omega, by go_num, hst.out, hput.out, hbe.out⟩
          case measure => simp [intOf]; omega
    · obtain rfl : k = xs.length := by omega
      have hXl : X.length = ys.length + xs.length := hI.1
      have hv : val X = val xs * val ys := by rw [hI.done, Nat.mul_comm]
      have hlX : Limbs X := hI.2.1
      obtain ⟨A2, cap2, e2, g1, g2, hrd⟩ := hX.rd hlX
      injection e2 with ea eb ec
      subst ea ec
      have cT := rtrim_any _ _ X wr _ hrd g1 g2
      have hfin := hX.trimmed hlX
      rw [hv, hXl] at cT
      rw [hv] at hfin
      have HF := Lib.hid (trimV_lim hfin)
      have HB := Lib.hid hB
      clear hI hX hB hr hr' hrd g1 g2 hfin hv hXl
      go_wp2_with fail
      with_reducible refine cT.mono ?_
      rintro e wn ⟨rfl, rfl⟩
      clear cT
      go_wp2
      go_ret
      exact ⟨⟨_, rfl, HF.out⟩, HB.out⟩

set_option maxHeartbeats 2000000 in
theorem rmul_any (va vb : Value) (xs ys : List Nat) (w : World) (ha : Arg w va xs) (hv : Arg w vb ys) : Calls Try.prog 56 #[va, vb] w (NewL w (sMul xs ys)) := by
  obtain ⟨A, cap, rfl, k1, k2, hr⟩ := id ha
  obtain ⟨A', cap', rfl, k1', k2', hr'⟩ := id hv
  by_cases hx : mayb xs = true
  · by_cases hy : mayb ys = true
    · by_cases hL : 65537 < xs.length + ys.length
      · have c1 := rmay_is cap hr (by omega) hx
        have c2 := rmay_is cap' hr' (by omega) hy
        have hxm := (mayb_iff.1 hx).1
        have hym := (mayb_iff.1 hy).1
        have hs : sMul xs ys = [] := by rw [sMul_yes (by simp [hx, hy]), long_clip (mayb_canon hr.limbs hx) (mayb_canon hr'.limbs hy) (long_true (by omega)).symm]
        have HS := Lib.hid hs
        have hLI : (65537 : Int) < (xs.length : Int) + (ys.length : Int) := by omega
        clear hs hx hy ha hv hr hr'
        go_enter Try.func56, Try.ntmps56
        go_wp2_with fail
        with_reducible refine c1.mono ?_
        rintro e w' ⟨rfl, hw⟩
        obtain rfl := hw.symm
        go_wp2_with fail
        with_reducible refine c2.mono ?_
        rintro e w' ⟨rfl, hw⟩
        obtain rfl := hw.symm
        clear c1 c2
        go_wp2
        go_ret
        exact ⟨⟨_, rfl, by rw [HS.out]; exact Own.nil _ _⟩, Below.refl _ w⟩
      · rw [sMul_yes (by simp [hx, hy])]
        exact rmul_yes A A' cap cap' xs ys w hr hr' hx hy hL
    · have c1 := rmay_is cap hr (by omega) hx
      have c2 := rmay_is cap' hr' (by omega) (b := false) (by simpa using hy)
      have HS := Lib.hid (sMul_no (xs := xs) (ys := ys) (by simp [hy]))
      clear hx hy ha hv hr hr'
      go_enter Try.func56, Try.ntmps56
      go_wp2_with fail
      with_reducible refine c1.mono ?_
      rintro e w' ⟨rfl, hw⟩
      obtain rfl := hw.symm
      go_wp2_with fail
      with_reducible refine c2.mono ?_
      rintro e w' ⟨rfl, hw⟩
      obtain rfl := hw.symm
      clear c1 c2
      go_wp2
      go_ret
      exact ⟨⟨_, rfl, by rw [HS.out]; exact Own.nil _ _⟩, Below.refl _ w⟩
  · have c1 := rmay_is cap hr (by omega) (b := false) (by simpa using hx)
    have HS := Lib.hid (sMul_no (xs := xs) (ys := ys) (by simp [hx]))
    clear hx ha hv hr hr'
    go_enter Try.func56, Try.ntmps56
    go_wp2_with fail
    with_reducible refine c1.mono ?_
    rintro e w' ⟨rfl, hw⟩
    obtain rfl := hw.symm
    clear c1
    go_wp2
    go_ret
    exact ⟨⟨_, rfl, by rw [HS.out]; exact Own.nil _ _⟩, Below.refl _ w⟩

end Go.Proofs.Ytidflhonhekmjaa

/- References of layer 2: Pow. -/
namespace Go.Proofs.Ytidflhonhekmjaa
open Go.RowKit Go.Shelf

set_option linter.unusedVariables false

theorem Own.argZ {w : World} {B : Nat} {v : Value} {xs : List Nat} (h : Own w B v xs) (hl : Limbs xs) : ArgZ w v xs := by
  refine ⟨h.arg hl, fun n cap e => ?_⟩
  rcases h.2 with ⟨e2, _⟩ | ⟨g, cap', cur, e2, _⟩
  · rw [e2] at e; injection e with _ _ e3; exact e3.symm
  · rw [e2] at e; cases e
/-- A power on the way that is too long stays so. -/
theorem pow_big {v n s : Nat} (hv : 0 < v) (h : clip (v ^ (n / 2 ^ s)) = []) : clip (v ^ n) = [] := by
  have hp : 0 < v ^ (n / 2 ^ s) := Nat.pow_pos hv
  have hb : ¬ (lim (v ^ (n / 2 ^ s))).length ≤ 65536 := fun hle => by
    rw [clip_of hle] at h
    have := lim_eq_nil.1 h
    omega
  refine clip_not fun hle => hb ?_
  have hm : v ^ (n / 2 ^ s) ≤ v ^ n := Nat.pow_le_pow_right hv (Nat.div_le_self _ _)
  have h2 := val_lt (lim_limbs (v ^ n))
  rw [val_lim] at h2
  have h3 : (lim (v ^ (n / 2 ^ s))).length ≤ (lim (v ^ n)).length := lim_le (Nat.lt_of_le_of_lt hm h2)
  omega

end Go.Proofs.Ytidflhonhekmjaa

/- References of layer 2: Pow whole; the law's copied, spoil. -/
namespace Go.Proofs.Ytidflhonhekmjaa
open Go.RowKit Go.Shelf

set_option linter.unusedVariables false

/-! ### copied -/
set_option maxHeartbeats 1000000 in
theorem copied_any {w : World} {v : Value} {xs : List Nat} (h : ArgZ w v xs) (h60 : xs.length ≤ 1048576) : Calls Try.prog 26 #[v] w (NewL w xs) := by
  obtain ⟨i0, hti, hz0, hz1, hz2⟩ := info_parts info32
  obtain ⟨⟨A, cap, rfl, g1, g2, hr⟩, hz⟩ := h
  have hown0 : (w.alloc (.cells #[] 26)).ownsRow w.heap.size 26 1 (.slice (some ⟨w.heap.size, 0, none⟩) 0 0) 0 [] := World.ownsRow_lit w #[] 0 (Nat.le_refl _) (by decide) rfl
  rcases A with _ | ad
  · obtain rfl := hz _ _ rfl
    obtain rfl : xs = [] := List.eq_nil_of_length_eq_zero (by omega)
    have HO := Lib.hid hown0
    have HB := Lib.hid ((Below.refl _ w).alloc (Nat.le_refl _) (.cells #[] 26))
    clear hr hz
    go_enter Try.func26, Try.ntmps26
    go_wp2_with (at_builtin; refine wpList_append_own_none rfl _ _ 23 rfl w.heap.size 26 i0 1 Try.underlying23 hti _ _ _ rfl hown0 rfl ?_; clear hown0)
    go_wp2
    go_ret
    exact ⟨⟨_, rfl, HO.out⟩, HB.out⟩
  · have hcell : ∀ j u, (u32s xs)[j]? = some u → (w.alloc (.cells #[] 26)).cell? (ad.add j) = some u := by
      intro j u hu
      have hj : j < xs.length := by
        have := (List.getElem?_eq_some_iff.1 hu).1
        simpa [u32s] using this
      obtain ⟨b, off, e, hlt, hcl⟩ := hr.2 (by omega)
      obtain rfl : ad = ⟨b, off, none⟩ := by simpa using e
      rw [Addr.add_mid]
      rw [((Below.refl _ w).alloc (Nat.le_refl _) (.cells #[] 26)).cell (p := ⟨b, off + j, none⟩) hlt, hcl j hj]
      rw [u32s, List.getElem?_map, List.getElem?_eq_getElem hj] at hu
      rw [List.getElem?_eq_getElem hj]
      exact hu
    have HC := Lib.hid hcell
    clear hcell hr hz
    go_enter Try.func26, Try.ntmps26
    go_wp2_with (at_builtin; refine wpList_append_own _ rfl _ _ 23 rfl w.heap.size 26 i0 (.int .u32 0) 1 4 Try.underlying23 hti hz0 hz1 hz2 rfl (by decide) _ _ _ rfl hown0 ad xs.length cap (u32s xs) rfl (by simp [u32s]) HC.out (u32s_one xs) (by unfold maxLen at *; omega) (by omega) (by simp) ?_; intro v' w2 hown' hgrow hgone; clear hgone)
    have hg2 : (w.alloc (.cells #[] 26)).grownBy w2 (some w.heap.size) := hgrow
    have hb2 : Below w.heap.size w w2 := ((Below.refl _ w).alloc (Nat.le_refl _) _).grown hg2 (by simp) (fun k hk => by cases hk; exact Nat.le_refl _)
    have hO : Own w2 w.heap.size v' xs := by unfold Own; simpa using hown'
    have HO := Lib.hid hO
    clear hO hown' hgrow hg2 HC
    go_wp2
    go_ret
    exact ⟨⟨_, rfl, HO.out⟩, hb2⟩

/-! ### spoil -/
/-- What lay below B lies as it lay; what was a row of the call's own is one still. -/
def Spoilt (B : Nat) (w w' : World) : Prop := Below B w w' ∧ ∀ v n zs, w.ownsRow B 26 1 v n zs → ∃ zs', w'.ownsRow B 26 1 v n zs'
theorem Spoilt.refl (B : Nat) (w : World) : Spoilt B w w := ⟨Below.refl _ _, fun v n zs h => ⟨zs, h⟩⟩
theorem Spoilt.trans {B : Nat} {a b c : World} (h : Spoilt B a b) (k : Spoilt B b c) : Spoilt B a c := ⟨h.1.trans k.1, fun v n zs ho => by
  obtain ⟨zs', h'⟩ := h.2 v n zs ho
  exact k.2 v n zs' h'⟩
theorem Spoilt.put {B g : Nat} (w : World) (j : Nat) (u : Value) (hg : B ≤ g) : Spoilt B w (w.setCell ⟨g, j, none⟩ u) := by
  refine ⟨(Below.refl B w).setCell hg u, fun v n zs ho => ?_⟩
  rcases ho.2 with ⟨rfl, h0⟩ | ⟨g', cap, cur, rfl, hb, hh, r⟩
  · exact ⟨zs, ho.1, .inl ⟨rfl, h0⟩⟩
  · by_cases e : g' = g
    · subst e
      exact ⟨_, (World.ownsRow.stored ho j u).1⟩
    · exact ⟨zs, ho.1, .inr ⟨g', cap, cur, rfl, hb, by rw [heap_setCell_other w ⟨g, j, none⟩ g' u (fun e2 => e (by simp [e2]))]; exact hh, r⟩⟩

set_option maxHeartbeats 1000000 in
theorem spoil_any {w : World} {B n : Nat} {v : Value} {zs : List Value} (h : w.ownsRow B 26 1 v n zs) (hn : n ≤ maxLen) : Calls Try.prog 29 #[v] w fun e w' => e = .returned (.tuple #[]) ∧ Spoilt B w w' := by
  unfold maxLen at hn
  rcases h.2 with ⟨rfl, h0⟩ | ⟨g, cap, cur, rfl, hb, hh, r⟩
  · clear h
    subst h0
    go_enter Try.func29, Try.ntmps29
    go_wp2
    go_loop [2] (fun i => i = .int .i64 0) (fun _ => 0)
    case atStart => rfl
    case round =>
      obtain rfl := hrel
      go_wp2
      go_end0
      exact ⟨rfl, Spoilt.refl _ _⟩
  · clear hh r
    go_enter Try.func29, Try.ntmps29
    go_wp2
    go_loopw [2] (fun i wr => ∃ (k : Nat) (ys : List Value), k ≤ n ∧ i = .int .i64 (k : Int) ∧ wr.ownsRow B 26 1 (.slice (some ⟨g, 0, none⟩) n cap) n ys ∧ Spoilt B w wr) (fun i _ => n - (intOf i).toNat)
    case atStart => exact ⟨0, zs, Nat.zero_le _, rfl, h, Spoilt.refl _ _⟩
    case round =>
      clear h
      obtain ⟨k, ys, hk, rfl, ho, hs⟩ := hrel
      by_cases hlt : k < n
      · have hl : ys.length = n := by have := ho.1; omega
        have hc := World.ownsRow.cellAt ho k (by omega)
        rw [List.getElem?_eq_getElem (by omega)] at hc
        have hf := World.ownsRow.frozenAt ho k
        have HO := Lib.hid (World.ownsRow.stored ho k (.int .u32 7)).1
        have HS := Lib.hid (hs.trans (Spoilt.put wr k (.int .u32 7) hb))
        generalize ys[k] = y at *
        clear ho hs hl
        go_wp2
        go_roundw
        case rel => exact ⟨k + 1, _, by omega, by go_num, HO.out, HS.out⟩
        case measure => simp [intOf]; omega
      · have HS := Lib.hid hs
        clear ho hs
        go_wp2
        go_end0
        exact ⟨rfl, HS.out⟩

end Go.Proofs.Ytidflhonhekmjaa

/- Contracts: powerTooLong, Pow. -/
import Derived.Lib.RabinKarpLaws
import Derived.Test.YtlfhpoffphljfaaMulL
namespace Go.Proofs.Ytlfhpoffphljfaa
open Go.RowKit Go.Shelf

set_option linter.unusedVariables false

theorem clip_mul (a b : Nat) : sMul (clip a) (clip b) = clip (a * b) := by
  rw [sMul_yes (by rw [clip_may, clip_may]; rfl)]
  have hv : ∀ c : Nat, (lim c).length ≤ 65536 ∧ val (clip c) = c ∨ ¬ (lim c).length ≤ 65536 ∧ val (clip c) = 0 := fun c => by
    by_cases h : (lim c).length ≤ 65536
    · exact .inl ⟨h, by rw [clip_of h, val_lim]⟩
    · exact .inr ⟨h, by rw [clip_not h]; rfl⟩
  have big : ∀ c d : Nat, ¬ (lim c).length ≤ 65536 → c ≤ d → clip d = [] := fun c d h hcd => clip_not fun h2 => h (by
    rw [lim_length_le] at h2 ⊢; omega)
  have z : clip 0 = [] := by rw [clip_of (by rw [lim_zero]; simp), lim_zero]
  rcases hv a with ⟨h1, e1⟩ | ⟨h1, e1⟩ <;> rcases hv b with ⟨h2, e2⟩ | ⟨h2, e2⟩
  · rw [e1, e2]
  · rw [e2, Nat.mul_zero, z]
    rcases Nat.eq_zero_or_pos a with h0 | h0
    · rw [h0, Nat.zero_mul, z]
    · exact (big b _ h2 (Nat.le_mul_of_pos_left b h0)).symm
  · rw [e1, Nat.zero_mul, z]
    rcases Nat.eq_zero_or_pos b with h0 | h0
    · rw [h0, Nat.mul_zero, z]
    · exact (big a _ h1 (Nat.le_mul_of_pos_right a h0)).symm
  · rw [e1, Nat.zero_mul, z]
    rcases Nat.eq_zero_or_pos b with h0 | h0
    · rw [h0, Nat.mul_zero, z]
    · exact (big a _ h1 (Nat.le_mul_of_pos_right a h0)).symm

def ptl (v n : Nat) : Bool := decide (1 < blen v ∧ 2097151 / (blen v - 1) < n)
theorem ptl_false {v n : Nat} (h : ¬ (1 < blen v)) : false = ptl v n := by unfold ptl; rw [decide_eq_false (fun e => h e.1)]
theorem ptl_mid {v n : Nat} (h : 1 < blen v) : decide ((2097151 : Int) / ((blen v : Nat) - 1 : Int) < (n : Int)) = ptl v n := by
  unfold ptl
  rw [decide_eq_decide]
  have e : ((blen v : Nat) - 1 : Int) = ((blen v - 1 : Nat) : Int) := by omega
  rw [e, show (2097151 : Int) = ((2097151 : Nat) : Int) from rfl, ← Int.natCast_ediv]
  omega
/-- A power that is too long to be seen without reckoning is too long. -/
theorem ptl_clip {v n : Nat} (h : ptl v n = true) : clip (v ^ n) = [] := by
  unfold ptl at h
  obtain ⟨h1, h2⟩ := of_decide_eq_true h
  refine clip_not fun hle => ?_
  obtain ⟨E, hE⟩ : ∃ E : Nat, E = 65536 := ⟨_, rfl⟩
  rw [← hE, lim_length_le] at hle
  have hv : 2 ^ (blen v - 1) ≤ v := by
    rcases Nat.lt_or_ge v (2 ^ (blen v - 1)) with h3 | h3
    · have := blen_le.2 h3; omega
    · exact h3
  have h4 := Nat.pow_le_pow_left hv n
  rw [← Nat.pow_mul] at h4
  have h5 : 2097151 < n * (blen v - 1) := by rwa [Nat.div_lt_iff_lt_mul (by omega)] at h2
  rw [show (4294967296 : Nat) = 2 ^ 32 from rfl, ← Nat.pow_mul] at hle
  have h6 := (Nat.pow_lt_pow_iff_right (a := 2) (by decide)).1 (Nat.lt_of_le_of_lt h4 hle)
  rw [Nat.mul_comm] at h6
  omega

set_option maxHeartbeats 1000000 in
theorem powerTooLong_any (A : Option Addr) (cap : Nat) (xs : List Nat) (n : Nat) (w : World) (B : Nat) (hr : Rd w B A xs) (hc : xs.length ≤ maxLen) (hm : mayb xs = true) (hn : n < 9223372036854775808) :
    Calls Try.prog 49 #[.slice A xs.length cap, .int .i64 (n : Int)] w fun e w' => e = .returned (.bool (ptl (val xs) n)) ∧ w' = w := by
  have c := bits_any A cap xs w B hr hc
  rw [sBits_yes hm] at c
  have hb : blen (val xs) ≤ 2097152 := by
    have := sBits_le' hr.limbs
    rw [sBits_yes hm] at this
    have := (mayb_iff.1 hm).1
    omega
  clear hc hm hr
  by_cases h : 1 < blen (val xs)
  · have g := Lib.hid (ptl_mid (n := n) h)
    generalize hbv : blen (val xs) = b at *
    have HBV := Lib.hid hbv
    have hz : (((b : Int) - 1) == 0) = false := by rw [beq_eq_false_iff_ne]; omega
    have hp : (0 : Int) < (b : Int) - 1 := by omega
    clear hbv
    go_enter Try.func49, Try.ntmps49
    go_wp2_with fail
    with_reducible refine c.mono ?_
    rintro e w' ⟨rfl, hw⟩
    obtain rfl := hw.symm
    clear c
    go_wp2
    go_ret
    exact ⟨ret_bool g.out, rfl⟩
  · have g := Lib.hid (ptl_false (n := n) h)
    generalize hbv : blen (val xs) = b at *
    have HBV := Lib.hid hbv
    clear hbv
    go_enter Try.func49, Try.ntmps49
    go_wp2_with fail
    with_reducible refine c.mono ?_
    rintro e w' ⟨rfl, hw⟩
    obtain rfl := hw.symm
    clear c
    go_wp2
    go_ret
    exact ⟨ret_bool g.out, rfl⟩

theorem blen_lib64 {x : Nat} (h : x < 18446744073709551616) : Lib.bitLen x = blen x := by
  by_cases h0 : x = 0
  · subst h0; exact Lib.bitLenAux_zero 64
  · obtain ⟨h1, h2, h3⟩ := Lib.bitLenAux_bounds 64 x (by omega) h0
    refine (blen_unique h3 fun j hj => ?_).symm
    have : 2 ^ (Lib.bitLenAux 64 x - 1) < 2 ^ j := by omega
    have := (Nat.pow_lt_pow_iff_right (a := 2) (by decide)).1 this
    omega
theorem clip_one : clip 1 = lim 1 := clip_of (Nat.le_trans (lim_le (k := 1) (by decide)) (by decide))
def sPow (xs : List Nat) (k : Int) : List Nat := if mayb xs && decide (0 ≤ k) then clip (val xs ^ k.toNat) else []
theorem sPow_no1 {xs : List Nat} {k : Int} (h : mayb xs = false) : sPow xs k = [] := by unfold sPow; rw [h]; rfl
theorem sPow_no2 {xs : List Nat} {k : Int} (h : k < 0) : sPow xs k = [] := by unfold sPow; rw [decide_eq_false (by omega), Bool.and_false]; rfl
theorem sPow_yes {xs : List Nat} {n : Nat} (h : mayb xs = true) : sPow xs (n : Int) = clip (val xs ^ n) := by unfold sPow; rw [h, decide_eq_true (by omega)]; simp
theorem sPow_limbs (xs : List Nat) (k : Int) : Limbs (sPow xs k) := by
  unfold sPow; split
  · exact clip_limbs _
  · exact limbs_nil
theorem half_pow (n s : Nat) : n / 2 ^ s = 2 * (n / 2 ^ (s + 1)) + n / 2 ^ s % 2 := by
  rw [Nat.pow_succ, ← Nat.div_div_eq_div_mul]; omega
theorem pow_even {v n s : Nat} (h : n / 2 ^ s % 2 = 0) : v ^ (n / 2 ^ (s + 1)) * v ^ (n / 2 ^ (s + 1)) = v ^ (n / 2 ^ s) := by
  rw [← Nat.pow_add]; congr 1; have := half_pow n s; omega
theorem pow_odd {v n s : Nat} (h : n / 2 ^ s % 2 = 1) : v ^ (n / 2 ^ (s + 1)) * v ^ (n / 2 ^ (s + 1)) * v = v ^ (n / 2 ^ s) := by
  rw [← Nat.pow_add, ← Nat.pow_succ]; congr 1; have := half_pow n s; omega

set_option maxHeartbeats 2000000 in
theorem pow_yes (A : Option Addr) (cap : Nat) (xs : List Nat) (n : Nat) (w : World) (ha : Arg w (.slice A xs.length cap) xs) (hx : mayb xs = true) (hn : n < 9223372036854775808) (hp : ptl (val xs) n = false) :
    Calls Try.prog 30 #[.slice A xs.length cap, .int .i64 (n : Int)] w (NewL w (sPow xs (n : Int))) := by
  obtain ⟨A1, cap1, e1, k1, k2, hr⟩ := id ha
  injection e1 with ea _ eb
  subst ea eb
  have c1 := may_yes cap hr (by omega) hx
  have c2 := powerTooLong_any A cap xs n w _ hr (by omega) hx hn
  rw [hp] at c2
  have c3 := of_any 1 w (by decide)
  have hlen := blen_lib64 (x := n) (by omega)
  have hb64 : blen n ≤ 64 := blen_le.2 (by omega)
  have hsh : n / 2 ^ blen n = 0 := Nat.div_eq_of_lt (blen_le.1 (Nat.le_refl _))
  have HSH := Lib.hid hsh
  have HS := Lib.hid (sPow_yes (n := n) hx)
  have HXC := Lib.hid (clip_val hr.limbs hx)
  have HA := Lib.hid ha
  have n0 : (0 : Int) ≤ (n : Int) := by omega
  clear hx hp hr ha hsh k1 k2
  go_enter Try.func30, Try.ntmps30
  go_wp2_with fail
  with_reducible refine c1.mono ?_
  rintro e w' ⟨rfl, hw⟩
  obtain rfl := hw.symm
  go_wp2_with fail
  with_reducible refine c2.mono ?_
  rintro e w' ⟨rfl, hw⟩
  obtain rfl := hw.symm
  go_wp2_with fail
  refine c3.mono ?_
  rintro e w1 ⟨⟨r0, rfl, ho⟩, hb⟩
  have c4 := Try.bits_Len (n : Int) w1 (by omega) (by omega)
  rw [Int.toNat_natCast, hlen] at c4
  have HO := Lib.hid ho
  have HB := Lib.hid hb
  clear c1 c2 c3 ho hb hlen
  go_wp2_with fail
  with_reducible refine c4.mono ?_
  rintro e w' ⟨rfl, hw⟩
  obtain rfl := hw.symm
  clear c4
  go_wp2_with fail
  go_loopw [5, 6] (fun r i wr => ∃ t : Nat, t ≤ 64 ∧ i = .int .i64 ((t : Int) - 1) ∧ Own wr w.heap.size r (clip (val xs ^ (n / 2 ^ t))) ∧ Below w.heap.size w wr) (fun _ i _ => (intOf i + 1).toNat)
  case atStart => exact ⟨blen n, hb64, rfl, by rw [HSH.out, Nat.pow_zero, clip_one]; exact HO.out, HB.out⟩
  case round =>
    clear HO HB
    obtain ⟨t, ht, hi, ho, hb⟩ := hrel
    rcases t with _ | s
    · obtain rfl : u6 = .int .i64 (-1) := hi
      rw [Nat.pow_zero, Nat.div_one] at ho
      have HO := Lib.hid ho
      have HB := Lib.hid hb
      clear ho hb
      go_wp2_with fail
      go_ret
      exact ⟨⟨_, rfl, by rw [HS.out]; exact HO.out⟩, HB.out⟩
    · obtain rfl : u6 = .int .i64 (s : Int) := by rw [hi]; congr 1; omega
      have c5 := square_any u5 _ wr (ho.arg (clip_limbs _))
      rw [clip_mul] at c5
      have hq : n / 2 ^ s < 9223372036854775808 := Nat.lt_of_le_of_lt (Nat.div_le_self _ _) hn
      have hand := and_one (n / 2 ^ s) hq
      rw [Int.natCast_ediv, Int.natCast_pow] at hand
      have HAND := Lib.hid hand
      have HO := Lib.hid ho
      have HB := Lib.hid hb
      have hs64 : s ≤ 64 := by omega
      clear ho hb hand hi
      rcases Nat.mod_two_eq_zero_or_one (n / 2 ^ s) with hbit | hbit
      · have hpe := Lib.hid (pow_even (v := val xs) hbit)
        have htest : (bits BinOp.and IntKind.i64 ((n : Int) / 2 ^ s) 1 == 1) = false := by
          have := HAND.out
          rw [hbit] at this
          exact beq_eq_false_iff_ne.2 (fun h => by rw [show ((n : Int) / 2 ^ s) = ((n : Nat) : Int) / ((2 : Nat) : Int) ^ s from rfl, this] at h; simp at h)
        clear hbit
        go_wp2_with fail
        with_reducible refine c5.mono ?_
        rintro e w2 ⟨⟨r2, rfl, ho2⟩, hb2⟩
        rw [hpe.out] at ho2
        have HO2 := Lib.hid (ho2.more HB.out.size)
        have HB2 := Lib.hid (HB.out.trans (hb2.mono HB.out.size))
        clear c5 ho2 hb2
        go_wp2_with fail
        go_roundw
        case rel => exact ⟨s, hs64, rfl, HO2.out, HB2.out⟩
        case measure => simp [intOf]
      · have e6 : sMul (clip (val xs ^ (n / 2 ^ (s + 1)) * val xs ^ (n / 2 ^ (s + 1)))) xs = clip (val xs ^ (n / 2 ^ s)) := by
          conv => lhs; arg 2; rw [← HXC.out]
          rw [clip_mul, pow_odd hbit]
        have E6 := Lib.hid e6
        have htest : (bits BinOp.and IntKind.i64 ((n : Int) / 2 ^ s) 1 == 1) = true := by
          have := HAND.out
          rw [hbit] at this
          exact beq_iff_eq.2 (by rw [show ((n : Int) / 2 ^ s) = ((n : Nat) : Int) / ((2 : Nat) : Int) ^ s from rfl, this]; rfl)
        clear hbit e6
        go_wp2_with fail
        with_reducible refine c5.mono ?_
        rintro e w2 ⟨⟨r2, rfl, ho2⟩, hb2⟩
        have hbw := HB.out.trans (hb2.mono HB.out.size)
        have c6 := mul_any r2 (.slice A xs.length cap) _ xs w2 (ho2.arg (clip_limbs _)) (HA.out.below hbw)
        rw [E6.out] at c6
        have HBW := Lib.hid hbw
        clear c5 ho2 hb2 hbw
        go_wp2_with fail
        with_reducible refine c6.mono ?_
        rintro e w3 ⟨⟨r3, rfl, ho3⟩, hb3⟩
        have HO3 := Lib.hid (ho3.more HBW.out.size)
        have HB3 := Lib.hid (HBW.out.trans (hb3.mono HBW.out.size))
        clear c6 ho3 hb3
        go_wp2_with fail
        go_roundw
        case rel => exact ⟨s, hs64, rfl, HO3.out, HB3.out⟩
        case measure => simp [intOf]

set_option maxHeartbeats 2000000 in
theorem pow_any (va : Value) (xs : List Nat) (k : Int) (w : World) (ha : Arg w va xs) (hk : k < 9223372036854775808) (hk0 : -9223372036854775808 ≤ k) :
    Calls Try.prog 30 #[va, .int .i64 k] w (NewL w (sPow xs k)) := by
  obtain ⟨A, cap, rfl, k1, k2, hr⟩ := id ha
  by_cases hx : mayb xs = true
  · have c1 := may_yes cap hr (by omega) hx
    rcases Int.lt_or_le k 0 with h | h
    · have HS := Lib.hid (sPow_no2 (xs := xs) h)
      clear hx hr ha
      go_enter Try.func30, Try.ntmps30
      go_wp2_with fail
      with_reducible refine c1.mono ?_
      rintro e w' ⟨rfl, hw⟩
      obtain rfl := hw.symm
      clear c1
      go_wp2
      go_ret
      exact ⟨⟨_, rfl, by rw [HS.out]; exact Own.nil _ _⟩, Below.refl _ w⟩
    · obtain ⟨n, rfl⟩ := Int.eq_ofNat_of_zero_le h
      by_cases hp : ptl (val xs) n = true
      · have hs := sPow_yes (n := n) hx
        rw [ptl_clip hp] at hs
        have c2 := powerTooLong_any A cap xs n w _ hr (by omega) hx (by omega)
        rw [hp] at c2
        have HS := Lib.hid hs
        clear hx hr ha hs hp
        go_enter Try.func30, Try.ntmps30
        go_wp2_with fail
        with_reducible refine c1.mono ?_
        rintro e w' ⟨rfl, hw⟩
        obtain rfl := hw.symm
        go_wp2_with fail
        with_reducible refine c2.mono ?_
        rintro e w' ⟨rfl, hw⟩
        obtain rfl := hw.symm
        clear c1 c2
        go_wp2
        go_ret
        exact ⟨⟨_, rfl, by rw [HS.out]; exact Own.nil _ _⟩, Below.refl _ w⟩
      · exact pow_yes A cap xs n w ha hx (by omega) (by simpa using hp)
  · have c1 := may_no cap hr (by omega) (by simpa using hx)
    have HS := Lib.hid (sPow_no1 (xs := xs) (k := k) (by simpa using hx))
    clear hx ha hr
    go_enter Try.func30, Try.ntmps30
    go_wp2_with fail
    with_reducible refine c1.mono ?_
    rintro e w' ⟨rfl, hw⟩
    obtain rfl := hw.symm
    clear c1
    go_wp2
    go_ret
    exact ⟨⟨_, rfl, by rw [HS.out]; exact Own.nil _ _⟩, Below.refl _ w⟩

end Go.Proofs.Ytlfhpoffphljfaa

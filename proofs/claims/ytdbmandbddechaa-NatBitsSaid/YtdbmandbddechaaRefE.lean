/- Contracts of the document's own answers: power, Bits, Bit. -/
import Derived.Test.YtdbmandbddechaaNatU
namespace Go.Proofs.Ytdbmandbddechaa
open Go.RowKit

set_option linter.unusedVariables false

theorem pow_lt32 {j : Nat} (h : j < 32) : 2 ^ j < 4294967296 := by
  have : 2 ^ j < 2 ^ 32 := Nat.pow_lt_pow_right (by decide) h
  simpa using this

set_option maxHeartbeats 400000 in
theorem power_any (k q : Nat) (w : World) (hk : k < 32) (hq : Hid (2 ^ k = q)) :
    Calls Try.prog 41 #[.int .i64 (k : Int)] w fun e w' => e = .returned (.int .u64 (q : Int)) ∧ w' = w := by
  go_enter Try.func41, Try.ntmps41
  go_wp2
  go_loop [3, 4] (fun pv i => ∃ (j p : Nat), j ≤ k ∧ i = .int .i64 (j : Int) ∧ pv = .int .u64 (p : Int) ∧ p < 4294967296 ∧ Hid (p = 2 ^ j)) (fun _ i => k - (intOf i).toNat)
  case atStart => exact ⟨0, 1, Nat.zero_le _, rfl, rfl, by decide, rfl⟩
  case round =>
    obtain ⟨j, p, hj, rfl, rfl, hp, hpj⟩ := hrel
    by_cases hlt : j < k
    · have hn := Lib.hid (show p * 2 = 2 ^ (j + 1) by rw [Nat.pow_succ, hpj.out])
      have hb : p * 2 < 4294967296 := by rw [hn.out]; exact pow_lt32 (by omega)
      go_wp2
      go_round
      case rel => exact ⟨j + 1, p * 2, by omega, by go_num, by go_num, hb, hn.out⟩
      case measure => simp [intOf]; omega
    · have hjk : j = k := by omega
      obtain rfl : p = q := by rw [← hq.out, ← hjk]; exact hpj.out
      clear hpj hjk hq
      go_wp2
      go_ret
      exact ⟨rfl, rfl⟩

theorem blen_half {x : Nat} (h : x ≠ 0) : blen x = blen (x / 2) + 1 := by
  rcases Nat.eq_zero_or_pos (x / 2) with h0 | h0
  · have : x = 1 := by omega
    subst this
    decide
  · have := blen_shift (n := x / 2) (r := x % 2) (k := 1) (by omega) (by omega)
    rw [← this]
    congr 1
    omega

set_option maxHeartbeats 1000000 in
theorem rbits_any (A : Option Addr) (cap : Nat) (xs : List Nat) (w : World) (B : Nat) (hr : Rd w B A xs) (hc : xs.length ≤ maxLen) :
    Calls Try.prog 34 #[.slice A xs.length cap] w fun e w' => e = .returned (.int .i64 (sBits xs : Nat)) ∧ w' = w := by
  by_cases hx : mayb xs = true
  · have c1 := rmay_is cap hr hc hx
    rcases Nat.eq_zero_or_pos xs.length with h0 | h0
    · have : xs = [] := List.eq_nil_of_length_eq_zero h0
      subst this
      clear hx
      go_enter Try.func34, Try.ntmps34
      go_wp2_with fail
      refine c1.mono ?_
      rintro e w' ⟨rfl, hw⟩
      obtain rfl := hw.symm
      clear c1
      go_wp2
      go_ret
      exact ⟨ret_int (by rw [sBits_nil]; rfl), rfl⟩
    · have hM := Lib.hid (sBits_yes hx)
      have hBv := Lib.hid (blen_val (mayb_canon hr.limbs hx) h0)
      have hm := (mayb_iff.1 hx).1
      have hz0 : (((xs.length : Nat) : Int) == 0) = false := beq_eq_false_iff_ne.2 (by omega)
      obtain ⟨b, off, rfl, hlt, hcell⟩ := hr.2 h0
      have hcl := hcell (xs.length - 1) (by omega)
      have hl := hr.limbs.getD (xs.length - 1)
      obtain ⟨t, ht⟩ : ∃ t, xs[xs.length - 1]?.getD 0 = t := ⟨_, rfl⟩
      rw [ht] at hcl hl hBv
      have hb32 : blen t ≤ 32 := blen_le.2 hl
      clear hcell hx hc ht
      go_enter Try.func34, Try.ntmps34
      go_wp2_with fail
      refine c1.mono ?_
      rintro e w' ⟨rfl, hw⟩
      obtain rfl := hw.symm
      clear c1
      go_wp2
      go_loop [3, 4] (fun kv xv => ∃ (j x : Nat), xv = .int .u32 (x : Int) ∧ x < 4294967296 ∧ kv = .int .i64 ((32 * (xs.length - 1) + j : Nat) : Int) ∧ j ≤ 32 ∧ Hid (blen t = j + blen x)) (fun _ x => (intOf x).toNat)
      case atStart => exact ⟨0, t, rfl, hl, by go_num, by omega, by show _ = _; omega⟩
      case round =>
        obtain ⟨j, x, rfl, hxl, rfl, hj, hbl⟩ := hrel
        rcases Nat.eq_zero_or_pos x with h1 | h1
        · subst h1
          go_wp2
          go_ret
          exact ⟨ret_int (by rw [hM.out, hBv.out, hbl.out, blen_zero]; simp), rfl⟩
        · have hn := blen_half (x := x) (by omega)
          have hn' := Lib.hid (show blen t = (j + 1) + blen (x / 2) by have := hbl.out; omega)
          have hj1 : j + 1 ≤ 32 := by have := hbl.out; omega
          clear hn
          go_wp2
          go_round
          case rel => exact ⟨j + 1, x / 2, by go_num, by omega, by go_num, hj1, hn'.out⟩
          case measure => simp [intOf]; omega
  · have hM := Lib.hid (sBits_no (xs := xs) (by simpa using hx))
    have c1 := rmay_is cap hr hc (b := false) (by simpa using hx)
    clear hx
    go_enter Try.func34, Try.ntmps34
    go_wp2_with fail
    refine c1.mono ?_
    rintro e w' ⟨rfl, hw⟩
    obtain rfl := hw.symm
    clear c1
    go_wp2
    go_ret
    exact ⟨ret_int (by rw [hM.out]; rfl), rfl⟩

theorem sBit_no1 {xs : List Nat} (k : Int) (h : mayb xs = false) : sBit xs k = false := by unfold sBit; rw [h]; simp
theorem sBit_no3 {xs : List Nat} (hx : Limbs xs) {k : Nat} (h : xs.length ≤ k / 32) : sBit xs (k : Int) = false := by
  refine sBit_over (Nat.le_trans (sBits_le hx) ?_)
  omega

set_option maxHeartbeats 1000000 in
theorem rbit_any (A : Option Addr) (cap : Nat) (xs : List Nat) (k : Int) (w : World) (B : Nat) (hr : Rd w B A xs) (hc : xs.length ≤ maxLen) (hk1 : -9223372036854775808 ≤ k) (hk2 : k ≤ 9223372036854775807) :
    Calls Try.prog 35 #[.slice A xs.length cap, .int .i64 k] w fun e w' => e = .returned (.bool (sBit xs k)) ∧ ∃ n, w' = w.drewN n := by
  rcases hx : mayb xs with _ | _
  · have hs := Lib.hid (sBit_no1 k hx)
    have c1 := rmay_is cap hr hc hx
    clear hx
    go_enter Try.func35, Try.ntmps35
    go_wp2_with fail
    refine c1.mono ?_
    rintro e w' ⟨rfl, hw⟩
    obtain rfl := hw.symm
    clear c1
    go_wp2
    go_ret
    exact ⟨ret_bool hs.out.symm, 0, rfl⟩
  have c1 := rmay_is cap hr hc hx
  rcases Int.lt_or_le k 0 with h | h
  · have hs := Lib.hid (sBit_neg xs h)
    clear hx
    go_enter Try.func35, Try.ntmps35
    go_wp2_with fail
    refine c1.mono ?_
    rintro e w' ⟨rfl, hw⟩
    obtain rfl := hw.symm
    clear c1
    go_wp2
    go_ret
    exact ⟨ret_bool hs.out.symm, 0, rfl⟩
  obtain ⟨n, rfl⟩ := Int.eq_ofNat_of_zero_le h
  rcases Nat.lt_or_ge (n / 32) xs.length with hn | hn
  · obtain ⟨b, off, rfl, hlt, hcell⟩ := hr.2 (by omega)
    have hcl := hcell (n / 32) hn
    have hl := hr.limbs.getD (n / 32)
    have HV := Lib.hid (val_bit hr.limbs hn)
    have HM := Lib.hid hx
    
    have hp := pow_lt32 (j := n % 32) (by omega)
    have hp0 := Nat.two_pow_pos (n % 32)
    obtain ⟨t, ht⟩ : ∃ t, xs[n / 32]?.getD 0 = t := ⟨_, rfl⟩
    generalize hpp : 2 ^ (n % 32) = p at *
    have c2 := fun W => power_any (n % 32) p W (by omega) hpp
    rw [ht] at hcl hl HV
    have HR : Hid (sBit xs (n : Int) = decide (t / p % 2 = 1)) := by
      show _ = _
      unfold sBit
      rw [HM.out, decide_eq_true (by omega), ← HV.out]
      simp
    have q0 : ((p : Int) == 0) = false := by rw [beq_eq_false_iff_ne]; omega
    have q2 : t / p ≤ t := Nat.div_le_self _ _
    have q1 : (t : Int) / (p : Int) = ((t / p : Nat) : Int) := by simp
    generalize hd : t / p = d at *
    have z1 : ((d : Int) % 2 == 1) = decide (d % 2 = 1) := by
      rcases Nat.mod_two_eq_zero_or_one d with h | h
      · rw [show (d : Int) % 2 = 0 from by omega, h]; rfl
      · rw [show (d : Int) % 2 = 1 from by omega, h]; rfl
    have Z1 := Lib.hid z1
    clear hcell hx hc ht hpp HV HM hd z1
    go_enter Try.func35, Try.ntmps35
    go_wp2_with fail
    refine c1.mono ?_
    rintro e w' ⟨rfl, hw⟩
    obtain rfl := hw.symm
    clear c1
    go_wp2
    go_quiet ((go_at_call 41; exact Calls.quiet_of_same (c2 _)))
    go_wp2
    go_ret
    exact ⟨ret_bool (by rw [HR.out]; exact Z1.out), _, rfl⟩
  · have hs := Lib.hid (sBit_no3 hr.limbs hn)
    clear hx
    go_enter Try.func35, Try.ntmps35
    go_wp2_with fail
    refine c1.mono ?_
    rintro e w' ⟨rfl, hw⟩
    obtain rfl := hw.symm
    clear c1
    go_wp2
    go_ret
    exact ⟨ret_bool hs.out.symm, 0, rfl⟩

end Go.Proofs.Ytdbmandbddechaa

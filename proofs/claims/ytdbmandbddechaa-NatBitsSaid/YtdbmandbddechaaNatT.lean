/- NatWhole: the law's walk. -/
import Derived.Test.YtdbmandbddechaaNatS
namespace Go.Proofs.Ytdbmandbddechaa
open Go.RowKit

set_option linter.unusedVariables false

theorem bit_is {w0 w : World} {l : List (Value × List Nat)} {va : Value} {xs : List Nat} {k : Int} {b : Bool} (h : Env w0 w l) (ha : (va, xs) ∈ l) (hx : sBit xs k = b) : Calls Try.prog 21 #[va, .int .i64 k] w fun e w' => e = .returned (.bool b) ∧ Env w0 w' l := by
  have := bit_env h ha k
  rw [hx] at this
  exact this.mono fun _ _ ⟨he, hw⟩ => ⟨he, by rw [hw]; exact h⟩
theorem Env.of1 {w0 w : World} {p : Value × List Nat} {l : List (Value × List Nat)} (h : Env w0 w (p :: l)) : Env w0 w l := ⟨h.1, fun q hq => h.2 q (by simp [hq])⟩
theorem Env.swap {w0 w : World} {p q : Value × List Nat} {l : List (Value × List Nat)} (h : Env w0 w (p :: q :: l)) : Env w0 w (q :: l) := h.of1

set_option maxRecDepth 100000 in
set_option maxHeartbeats 4000000 in
theorem whole_long (va : Value) (xs : List Nat) (w : World) (env : Env w w [(va, xs)]) (la : 40 < xs.length) :
    Calls Try.prog 9 #[va] w fun e w' => e = .returned (.bool true) ∧ Below w.heap.size w w' := by
  obtain ⟨A, cap, rfl, _⟩ := env.get (v := va) (xs := xs) (by simp)
  have p1 : decide ((40 : Int) < (xs.length : Int)) = true := decide_eq_true (by omega)
  go_enter Try.func9, Try.ntmps9
  go_wp2_with fail
  refine (awake_env env  ).mono ?_
  rintro e w1 ⟨rfl, env1⟩
  clear env
  have hB := Lib.hid env1.1
  clear env1
  go_wp2
  go_ret
  exact ⟨rfl, hB.out⟩

set_option maxRecDepth 100000 in
set_option maxHeartbeats 4000000 in
theorem whole_no (va : Value) (xs : List Nat) (w : World) (env : Env w w [(va, xs)]) (la : xs.length ≤ 40) (hma : Hid (mayb xs = false)) (hb : Hid (sBits xs = 0)) :
    Calls Try.prog 9 #[va] w fun e w' => e = .returned (.bool true) ∧ Below w.heap.size w w' := by
  obtain ⟨A, cap, rfl, _⟩ := env.get (v := va) (xs := xs) (by simp)
  have p1 : decide ((40 : Int) < (xs.length : Int)) = false := decide_eq_false (by omega)
  go_enter Try.func9, Try.ntmps9
  go_wp2_with fail
  refine (awake_env env  ).mono ?_
  rintro e w1 ⟨rfl, env1⟩
  clear env
  go_wp2_with fail
  refine (may_is env1 (va := (.slice A xs.length cap)) (xs := xs) (by simp) hma.out).mono ?_
  rintro e w2 ⟨rfl, env2⟩
  clear env1
  go_wp2_with fail
  refine (bits_is env2 (va := (.slice A xs.length cap)) (xs := xs) (by simp) hb.out).mono ?_
  rintro e w3 ⟨rfl, env3⟩
  clear env2
  have hB := Lib.hid env3.1
  clear env3
  go_wp2
  go_ret
  exact ⟨rfl, hB.out⟩

/-- the sum of 2^j over the bits below k -/
def part (xs : List Nat) (k : Nat) : List Nat := lim (val xs % 2 ^ k)
theorem pow_fits {k : Nat} (h : k ≤ 2000) : (lim (2 ^ k)).length ≤ 65536 := by
  rw [lim_len_blen]
  have : blen (2 ^ k) ≤ k + 1 := blen_le.2 (Nat.pow_lt_pow_right (by decide) (by omega))
  omega
theorem shl_one {k : Nat} (h : k ≤ 2000) : sShl [1] (k : Int) = lim (2 ^ k) := by
  rw [sShl_yes (by decide), show val [1] = 1 from rfl, Nat.one_mul, clip_of (pow_fits h)]
theorem part_next {xs : List Nat} (hx : Limbs xs) (hm : mayb xs = true) {k : Nat} (hk : k ≤ 2000) (hb : (val xs).testBit k = true) : sAdd (part xs k) (lim (2 ^ k)) = part xs (k + 1) := by
  have e : val xs % 2 ^ (k + 1) = val xs % 2 ^ k + 2 ^ k := by
    rw [Nat.testBit_eq_decide_div_mod_eq] at hb
    have hb' : val xs / 2 ^ k % 2 = 1 := by simpa using hb
    rw [Nat.pow_succ, Nat.mod_mul, hb', Nat.mul_one]
  have h1 := mayb_lim (le_fits hx hm (Nat.mod_le (val xs) (2 ^ k)))
  have h2 := mayb_lim (le_fits hx hm (Nat.mod_le (val xs) (2 ^ (k + 1))))
  unfold part
  exact sAdd_eq h1 (mayb_lim (pow_fits hk)) h2 (lim_limbs _) (by rw [val_lim, val_lim, val_lim, e])
theorem part_same {xs : List Nat} {k : Nat} (hb : (val xs).testBit k = false) : part xs (k + 1) = part xs k := by
  have e : val xs % 2 ^ (k + 1) = val xs % 2 ^ k := by
    rw [Nat.testBit_eq_decide_div_mod_eq] at hb
    have hb' : val xs / 2 ^ k % 2 = 0 := by
      have : ¬ val xs / 2 ^ k % 2 = 1 := by simpa using hb
      omega
    rw [Nat.pow_succ, Nat.mod_mul, hb']; omega
  unfold part
  rw [e]
theorem part_all {xs : List Nat} (hx : Limbs xs) (hm : mayb xs = true) : part xs (sBits xs) = xs := by
  unfold part
  rw [sBits_yes hm, Nat.mod_eq_of_lt (blen_le.1 (Nat.le_refl _)), lim_val (mayb_canon hx hm)]
theorem part_zero (xs : List Nat) : part xs 0 = [] := by
  unfold part
  rw [Nat.pow_zero, Nat.mod_one, lim_zero]
theorem sBit_nat (xs : List Nat) (k : Nat) (hm : mayb xs = true) : sBit xs (k : Int) = (val xs).testBit k := by
  unfold sBit
  rw [hm, decide_eq_true (by omega)]
  simp

set_option maxRecDepth 100000 in
set_option maxHeartbeats 4000000 in
theorem whole_zero (va : Value) (xs P : List Nat) (n : Nat) (w : World) (env : Env w w [(va, xs)]) (la : xs.length ≤ 40) (hlx : Hid (Limbs xs)) (hma : Hid (mayb xs = true)) (hb : Hid (sBits xs = n)) (hn : n ≤ 1280) (hP : Hid (sShl [1] (n : Int) = P)) (hC1 : Hid (sCmp P xs = 1)) (hbn : Hid (sBit xs (n : Int) = false)) (n0 : n ≤ 0) :
    Calls Try.prog 9 #[va] w fun e w' => e = .returned (.bool true) ∧ Below w.heap.size w w' := by
  obtain ⟨A, cap, rfl, _⟩ := env.get (v := va) (xs := xs) (by simp)
  have p1 : decide ((40 : Int) < (xs.length : Int)) = false := decide_eq_false (by omega)
  have p7 : ((n : Int) == 0) = true := beq_iff_eq.2 (by omega)
  go_enter Try.func9, Try.ntmps9
  go_wp2_with fail
  refine (awake_env env  ).mono ?_
  rintro e w1 ⟨rfl, env1⟩
  clear env
  go_wp2_with fail
  refine (may_is env1 (va := (.slice A xs.length cap)) (xs := xs) (by simp) hma.out).mono ?_
  rintro e w2 ⟨rfl, env2⟩
  clear env1
  go_wp2_with fail
  refine (bits_is env2 (va := (.slice A xs.length cap)) (xs := xs) (by simp) hb.out).mono ?_
  rintro e w3 ⟨rfl, env3⟩
  clear env2
  go_wp2_with fail
  go_loopw [3, 5] (fun s i wr => ∃ k : Nat, k ≤ n ∧ i = .int .i64 (k : Int) ∧ Env w wr [(s, part xs k), (.slice A xs.length cap, xs)]) (fun _ i _ => n - (intOf i).toNat)
  case atStart => exact ⟨0, Nat.zero_le _, rfl, by rw [part_zero]; exact env3.nil⟩
  case round =>
    obtain ⟨k, hk, rfl, envL⟩ := hrel
    by_cases hlt : k < n
    · exfalso; omega
    · obtain ⟨hkn, hnk⟩ : k ≤ n ∧ n ≤ k := ⟨hk, by omega⟩
      have hkb : k = sBits xs := Nat.le_antisymm (by rw [hb.out]; exact hkn) (by rw [hb.out]; exact hnk)
      have hpa : part xs k = xs := by rw [hkb]; exact part_all hlx.out hma.out
      rw [hpa] at envL
      clear hpa hkb
      go_wp2_with fail
      refine (same_yes envL (xs := xs) (ys := xs) (by simp) (by simp) rfl).mono ?_
      rintro e w51 ⟨rfl, env51⟩
      clear envL
      go_wp2_with fail
      refine (lof_env (env51.lit1 1 1 rfl (by decide))).mono ?_
      rintro e w52 ⟨r52, rfl, env52⟩
      clear env51
      go_wp2_with fail
      refine (shl_is env52 (va := r52) (xs := [1]) (by simp) hP.out).mono ?_
      rintro e w53 ⟨r53, rfl, env53⟩
      clear env52
      go_wp2_with fail
      refine (cmp_is env53 (va := r53) (xs := P) (vb := (.slice A xs.length cap)) (ys := xs) (by simp) (by simp) hC1.out).mono ?_
      rintro e w54 ⟨rfl, env54⟩
      clear env53
      go_wp2_with fail
      refine (bit_is env54 (va := (.slice A xs.length cap)) (xs := xs) (by simp) hbn.out).mono ?_
      rintro e w55 ⟨rfl, env55⟩
      clear env54
      have hB := Lib.hid env55.1
      clear env55
      go_wp2
      go_ret
      exact ⟨rfl, hB.out⟩

set_option maxRecDepth 100000 in
set_option maxHeartbeats 4000000 in
theorem whole_pos (va : Value) (xs P Q : List Nat) (n : Nat) (C : Int) (w : World) (env : Env w w [(va, xs)]) (la : xs.length ≤ 40) (hlx : Hid (Limbs xs)) (hma : Hid (mayb xs = true)) (hb : Hid (sBits xs = n)) (hn : n ≤ 1280) (hP : Hid (sShl [1] (n : Int) = P)) (hC1 : Hid (sCmp P xs = 1)) (hbn : Hid (sBit xs (n : Int) = false)) (n0 : 0 < n) (hPm : Hid (sShl [1] ((n : Int) - 1) = Q)) (hCm : Hid (sCmp Q xs = C)) (hC0 : C ≤ 0) :
    Calls Try.prog 9 #[va] w fun e w' => e = .returned (.bool true) ∧ Below w.heap.size w w' := by
  obtain ⟨A, cap, rfl, _⟩ := env.get (v := va) (xs := xs) (by simp)
  have p1 : decide ((40 : Int) < (xs.length : Int)) = false := decide_eq_false (by omega)
  have p7 : ((n : Int) == 0) = false := beq_eq_false_iff_ne.2 (by omega)
  go_enter Try.func9, Try.ntmps9
  go_wp2_with fail
  refine (awake_env env  ).mono ?_
  rintro e w1 ⟨rfl, env1⟩
  clear env
  go_wp2_with fail
  refine (may_is env1 (va := (.slice A xs.length cap)) (xs := xs) (by simp) hma.out).mono ?_
  rintro e w2 ⟨rfl, env2⟩
  clear env1
  go_wp2_with fail
  refine (bits_is env2 (va := (.slice A xs.length cap)) (xs := xs) (by simp) hb.out).mono ?_
  rintro e w3 ⟨rfl, env3⟩
  clear env2
  go_wp2_with fail
  go_loopw [3, 5] (fun s i wr => ∃ k : Nat, k ≤ n ∧ i = .int .i64 (k : Int) ∧ Env w wr [(s, part xs k), (.slice A xs.length cap, xs)]) (fun _ i _ => n - (intOf i).toNat)
  case atStart => exact ⟨0, Nat.zero_le _, rfl, by rw [part_zero]; exact env3.nil⟩
  case round =>
    obtain ⟨k, hk, rfl, envL⟩ := hrel
    by_cases hlt : k < n
    · rcases hbk : sBit xs (k : Int) with _ | _
      · have Hbk := Lib.hid hbk
        have hps := Lib.hid (part_same (xs := xs) (k := k) (by rw [← sBit_nat xs k hma.out]; exact hbk))
        clear hbk
        go_wp2_with fail
        refine (bit_is envL (va := (.slice A xs.length cap)) (xs := xs) (by simp) Hbk.out).mono ?_
        rintro e w21 ⟨rfl, env21⟩
        clear envL
        have HE := Lib.hid env21
        clear env21
        go_wp2
        go_roundw
        case rel => exact ⟨k + 1, by omega, by go_num, by rw [hps.out]; exact HE.out⟩
        case measure => simp [intOf]; omega
      · have Hbk := Lib.hid hbk
        have hpn := Lib.hid (part_next (xs := xs) (k := k) hlx.out hma.out (by omega) (by rw [← sBit_nat xs k hma.out]; exact hbk))
        have hs1 := Lib.hid (shl_one (k := k) (by omega))
        clear hbk
        go_wp2_with fail
        refine (bit_is envL (va := (.slice A xs.length cap)) (xs := xs) (by simp) Hbk.out).mono ?_
        rintro e w31 ⟨rfl, env31⟩
        clear envL
        go_wp2_with fail
        refine (lof_env (env31.lit1 1 1 rfl (by decide))).mono ?_
        rintro e w32 ⟨r32, rfl, env32⟩
        clear env31
        go_wp2_with fail
        refine (shl_is env32 (va := r32) (xs := [1]) (by simp) hs1.out).mono ?_
        rintro e w33 ⟨r33, rfl, env33⟩
        clear env32
        go_wp2_with fail
        refine (add_is env33 (xs := part xs k) (ys := lim (2 ^ k)) (by simp) (by simp) hpn.out).mono ?_
        rintro e w34 ⟨r34, rfl, env34⟩
        have HE : Hid (Env w w34 [(r34, part xs (k + 1)), (.slice A xs.length cap, xs)]) := ⟨env34.1, fun p hp => env34.2 p (by rcases List.mem_cons.1 hp with rfl | hp; simp; simp at hp; simp [hp])⟩
        clear env34 env33
        go_wp2
        go_roundw
        case rel => exact ⟨k + 1, by omega, by go_num, HE.out⟩
        case measure => simp [intOf]; omega
    · obtain ⟨hkn, hnk⟩ : k ≤ n ∧ n ≤ k := ⟨hk, by omega⟩
      have hkb : k = sBits xs := Nat.le_antisymm (by rw [hb.out]; exact hkn) (by rw [hb.out]; exact hnk)
      have hpa : part xs k = xs := by rw [hkb]; exact part_all hlx.out hma.out
      rw [hpa] at envL
      clear hpa hkb
      go_wp2_with fail
      refine (same_yes envL (xs := xs) (ys := xs) (by simp) (by simp) rfl).mono ?_
      rintro e w51 ⟨rfl, env51⟩
      clear envL
      go_wp2_with fail
      refine (lof_env (env51.lit1 1 1 rfl (by decide))).mono ?_
      rintro e w52 ⟨r52, rfl, env52⟩
      clear env51
      go_wp2_with fail
      refine (shl_is env52 (va := r52) (xs := [1]) (by simp) hP.out).mono ?_
      rintro e w53 ⟨r53, rfl, env53⟩
      clear env52
      go_wp2_with fail
      refine (cmp_is env53 (va := r53) (xs := P) (vb := (.slice A xs.length cap)) (ys := xs) (by simp) (by simp) hC1.out).mono ?_
      rintro e w54 ⟨rfl, env54⟩
      clear env53
      go_wp2_with fail
      refine (lof_env (env54.lit1 1 1 rfl (by decide))).mono ?_
      rintro e w55 ⟨r55, rfl, env55⟩
      clear env54
      go_wp2_with fail
      refine (shl_is env55 (va := r55) (xs := [1]) (by simp) hPm.out).mono ?_
      rintro e w56 ⟨r56, rfl, env56⟩
      clear env55
      go_wp2_with fail
      refine (cmp_is env56 (va := r56) (xs := Q) (vb := (.slice A xs.length cap)) (ys := xs) (by simp) (by simp) hCm.out).mono ?_
      rintro e w57 ⟨rfl, env57⟩
      clear env56
      go_wp2_with fail
      refine (bit_is env57 (va := (.slice A xs.length cap)) (xs := xs) (by simp) hbn.out).mono ?_
      rintro e w58 ⟨rfl, env58⟩
      clear env57
      have hB := Lib.hid env58.1
      clear env58
      go_wp2
      go_ret
      exact ⟨rfl, hB.out⟩

theorem natWhole_law {va : Value} {xs : List Nat} (w : World) (ha : Arg w va xs) :
    Calls Try.prog 9 #[va] w fun e w' => e = .returned (.bool true) ∧ Below w.heap.size w w' := by
  have env : Env w w [(va, xs)] := env_start1 ha
  have lx := ha.limbs
  rcases Nat.lt_or_ge 40 xs.length with la | la
  · exact whole_long va xs w env la
  rcases hma : mayb xs with _ | _
  · exact whole_no va xs w env la hma (sBits_no hma)
  have hn : sBits xs ≤ 1280 := by have := sBits_le lx; omega
  have hmP := mayb_lim (pow_fits (show sBits xs ≤ 2000 by omega))
  have hv : val xs < 2 ^ sBits xs := by rw [sBits_yes hma]; exact blen_le.1 (Nat.le_refl _)
  have hC1 : sCmp (lim (2 ^ sBits xs)) xs = 1 := by rw [sCmp_yes (by simp [hmP, hma]), val_lim, cmpN_gt hv]
  have hbn : sBit xs (sBits xs : Int) = false := sBit_over (Nat.le_refl _)
  rcases Nat.eq_zero_or_pos (sBits xs) with h0 | h0
  · exact whole_zero va xs _ _ w env la lx hma rfl hn (shl_one (by omega)) hC1 hbn (by omega)
  · have hmQ := mayb_lim (pow_fits (show sBits xs - 1 ≤ 2000 by omega))
    have ecast : ((sBits xs : Int) - 1) = ((sBits xs - 1 : Nat) : Int) := by omega
    have hle : 2 ^ (sBits xs - 1) ≤ val xs := by
      rcases Nat.lt_or_ge (val xs) (2 ^ (sBits xs - 1)) with h | h
      · have := blen_le.2 h
        rw [← sBits_yes hma] at this
        omega
      · exact h
    refine whole_pos va xs _ _ _ w env la lx hma rfl hn (shl_one (by omega)) hC1 hbn h0 (Q := lim (2 ^ (sBits xs - 1))) ?_ rfl ?_
    · show _ = _
      rw [ecast, shl_one (by omega)]
    · rw [sCmp_yes (by simp [hmQ, hma]), val_lim]
      unfold cmpN
      split
      · decide
      · rw [if_neg (by omega)]; decide

end Go.Proofs.Ytdbmandbddechaa

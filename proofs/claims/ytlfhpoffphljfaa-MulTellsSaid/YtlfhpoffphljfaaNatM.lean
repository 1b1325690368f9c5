/- Contracts: Shl, Shr, whatever is handed in. -/
import Derived.Test.YtlfhpoffphljfaaNatL
namespace Go.Proofs.Ytlfhpoffphljfaa
open Go.RowKit Go.Shelf

theorem sShl_no1 {xs : List Nat} {k : Int} (h : mayb xs = false) : sShl xs k = [] := by unfold sShl; rw [h]; rfl
theorem sShr_no1 {xs : List Nat} {k : Int} (h : mayb xs = false) : sShr xs k = [] := by unfold sShr; rw [h]; rfl
theorem sShl_no2 {xs : List Nat} {k : Int} (h : k < 0) : sShl xs k = [] := by unfold sShl; rw [decide_eq_false (by omega), Bool.and_false]; rfl
theorem clip_zero : clip 0 = [] := by unfold clip; rw [lim_zero]; rfl
theorem sShl_nil (k : Int) : sShl [] k = [] := by
  unfold sShl
  split
  · simp [val, clip_zero]
  · rfl
theorem sShl_yes {xs : List Nat} (h : mayb xs = true) (k : Nat) : sShl xs (k : Int) = clip (val xs * 2 ^ k) := by
  unfold sShl
  rw [h, decide_eq_true (by omega)]
  simp
theorem lim_len_blen {n k : Nat} : (lim n).length ≤ k ↔ blen n ≤ 32 * k := by
  rw [lim_length_le, blen_le, show (4294967296 : Nat) = 2 ^ 32 from rfl, ← Nat.pow_mul]
theorem sShl_over {xs : List Nat} (h : mayb xs = true) (hl : Limbs xs) (h0 : 0 < xs.length) {k : Nat} (hk : 2097152 < k + sBits xs) : sShl xs (k : Int) = [] := by
  rw [sShl_yes h, clip_not]
  intro hc
  have h3 := lim_len_blen.1 hc
  have hv : val xs ≠ 0 := by have := (mayb_canon hl h).val_pos (fun e => by subst e; simp at h0); omega
  have h2 := blen_shift (n := val xs) (r := 0) (k := k) hv (Nat.two_pow_pos k)
  rw [Nat.add_zero] at h2
  rw [sBits_yes h] at hk
  omega

theorem box_below (w : World) (o : Obj) (nq : Nat) : Below w.heap.size w ((w.alloc o).drewN nq) := by
  have hB := (Below.refl w.heap.size w).alloc (Nat.le_refl _) o
  exact ⟨hB.os, hB.tape, hB.output, hB.size, hB.block⟩

set_option maxRecDepth 100000 in
set_option maxHeartbeats 2000000 in
theorem shl_any (A : Option Addr) (cap : Nat) (xs : List Nat) (k : Int) (w : World) (hr : Rd w w.heap.size A xs) (hc : xs.length ≤ maxLen) :
    Calls Try.prog 19 #[.slice A xs.length cap, .int .i64 k] w fun e w' => (∃ v, e = .returned v ∧ Own w' w.heap.size v (sShl xs k)) ∧ Below w.heap.size w w' := by
  have hB0 : Below w.heap.size w (w.alloc (.cells #[.int .i64 k] 3)) := (Below.refl _ w).alloc (Nat.le_refl _) _
  by_cases hx : mayb xs = true
  · have HC1 := Lib.hid (fun nn => may_yes cap ((hr.below hB0 (Nat.le_refl _)).drewN nn) hc hx)
    rcases Nat.eq_zero_or_pos xs.length with h0 | h0
    · have : xs = [] := List.eq_nil_of_length_eq_zero h0
      subst this
      have hs := Lib.hid (sShl_nil k)
      clear hx hc hB0
      go_enter Try.func19, Try.ntmps19
      go_wp2
      go_quiet (((go_at_call 23; exact Calls.quiet_of_same (HC1.out _))))
      clear HC1
      go_wp2
      go_ret
      exact ⟨⟨_, rfl, by rw [hs.out]; exact Own.nil _ _⟩, box_below _ _ _⟩
    · have hz : (((xs.length : Nat) : Int) == 0) = false := beq_eq_false_iff_ne.2 (by omega)
      rcases Int.lt_or_le k 0 with hk | hk
      · have hs := Lib.hid (sShl_no2 (xs := xs) hk)
        have hk0 : decide (k < 0) = true := decide_eq_true hk
        clear hx hc hB0
        go_enter Try.func19, Try.ntmps19
        go_wp2
        go_quiet (((go_at_call 23; exact Calls.quiet_of_same (HC1.out _))))
        clear HC1
        go_wp2
        go_ret
        exact ⟨⟨_, rfl, by rw [hs.out]; exact Own.nil _ _⟩, box_below _ _ _⟩
      · obtain ⟨j, rfl⟩ := Int.eq_ofNat_of_zero_le hk
        rcases Nat.lt_or_ge 2097152 (j + sBits xs) with hj | hj
        · have hs := Lib.hid (sShl_over hx hr.limbs h0 hj)
          have HC2 := Lib.hid (fun nn => bits_any A cap xs _ _ ((hr.below hB0 (Nat.le_refl _)).drewN nn) hc)
          have hbb := sBits_le' hr.limbs
          have hk0 : decide ((j : Int) < 0) = false := decide_eq_false (by omega)
          have hk1 : decide ((2097152 : Int) - (sBits xs : Nat) < (j : Int)) = true := decide_eq_true (by omega)
          clear hx hc hB0
          go_enter Try.func19, Try.ntmps19
          go_wp2
          go_quiet ((first | (go_at_call 23; exact Calls.quiet_of_same (HC1.out _)) | (go_at_call 21; exact Calls.quiet_of_same (HC2.out _))))
          clear HC1 HC2
          go_wp2
          go_ret
          exact ⟨⟨_, rfl, by rw [hs.out]; exact Own.nil _ _⟩, box_below _ _ _⟩
        · rw [sShl_yes hx]
          exact (callsIn_wide (n := 8)).1 (shl_loop Fence.wide 8 rfl rfl (by omega) A cap xs j w hr hx h0 hj)
  · have hm : mayb xs = false := by simpa using hx
    have HC1 := Lib.hid (fun nn => may_no cap ((hr.below hB0 (Nat.le_refl _)).drewN nn) hc hm)
    have hs := Lib.hid (sShl_no1 (k := k) hm)
    clear hx hc hB0 hm
    go_enter Try.func19, Try.ntmps19
    go_wp2
    go_quiet (((go_at_call 23; exact Calls.quiet_of_same (HC1.out _))))
    clear HC1
    go_wp2
    go_ret
    exact ⟨⟨_, rfl, by rw [hs.out]; exact Own.nil _ _⟩, box_below _ _ _⟩

theorem sShr_no2 {xs : List Nat} {k : Int} (h : k < 0) : sShr xs k = [] := by unfold sShr; rw [decide_eq_false (by omega), Bool.and_false]; rfl
theorem sShr_yes {xs : List Nat} (h : mayb xs = true) (k : Nat) : sShr xs (k : Int) = lim (val xs / 2 ^ k) := by
  unfold sShr
  rw [h, decide_eq_true (by omega)]
  simp
theorem sShr_over {xs : List Nat} {k : Nat} (hk : sBits xs ≤ k) : sShr xs (k : Int) = [] := by
  rcases hm : mayb xs with _ | _
  · unfold sShr; rw [hm]; rfl
  · rw [sShr_yes hm, lim_eq_nil]
    rw [sBits_yes hm] at hk
    exact Nat.div_eq_of_lt (blen_le.1 hk)

set_option maxRecDepth 100000 in
set_option maxHeartbeats 2000000 in
theorem shr_any (A : Option Addr) (cap : Nat) (xs : List Nat) (k : Int) (w : World) (hr : Rd w w.heap.size A xs) (hlc : xs.length ≤ cap) (hcm : cap ≤ maxLen) :
    Calls Try.prog 20 #[.slice A xs.length cap, .int .i64 k] w fun e w' => (∃ v, e = .returned v ∧ Own w' w.heap.size v (sShr xs k)) ∧ Below w.heap.size w w' := by
  have hB0 : Below w.heap.size w (w.alloc (.cells #[.int .i64 k] 3)) := (Below.refl _ w).alloc (Nat.le_refl _) _
  rcases Int.lt_or_le k 0 with hk | hk
  · have hs := Lib.hid (sShr_no2 (xs := xs) hk)
    have hk0 : decide (k < 0) = true := decide_eq_true hk
    clear hlc hcm hB0
    go_enter Try.func20, Try.ntmps20
    go_wp2
    go_quiet (fail)
    go_wp2
    go_ret
    exact ⟨⟨_, rfl, by rw [hs.out]; exact Own.nil _ _⟩, box_below _ _ _⟩
  · obtain ⟨j, rfl⟩ := Int.eq_ofNat_of_zero_le hk
    rcases Nat.lt_or_ge j (sBits xs) with hj | hj
    · rw [sShr_yes (sBits_may (by omega))]
      exact (callsIn_wide (n := 8)).1 (shr_loop Fence.wide 8 rfl rfl (by omega) A cap xs j w hr hlc hcm hj)
    · have hs := Lib.hid (sShr_over hj)
      have HC2 := Lib.hid (fun nn => bits_any A cap xs _ _ ((hr.below hB0 (Nat.le_refl _)).drewN nn) (Nat.le_trans hlc hcm))
      have hk0 : decide ((j : Int) < 0) = false := decide_eq_false (by omega)
      have hk1 : decide (sBits xs ≤ j) = true := decide_eq_true hj
      clear hlc hcm hB0
      go_enter Try.func20, Try.ntmps20
      go_wp2
      go_quiet (((go_at_call 21; exact Calls.quiet_of_same (HC2.out _))))
      clear HC2
      go_wp2
      go_ret
      exact ⟨⟨_, rfl, by rw [hs.out]; exact Own.nil _ _⟩, box_below _ _ _⟩

end Go.Proofs.Ytlfhpoffphljfaa

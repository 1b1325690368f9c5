/- Contracts: Bit, Of. -/
import Derived.Laws.BitsAllLaws
import Derived.Test.YtlfhpoffphljfaaNatC
namespace Go.Proofs.Ytlfhpoffphljfaa
open Go.RowKit

def sBit (xs : List Nat) (k : Int) : Bool := decide (0 ≤ k) && (mayb xs && (val xs).testBit k.toNat)

theorem u32_bit (x r : Nat) (hx : x < 4294967296) : (bits BinOp.and IntKind.u32 ((x : Int) / 2 ^ r) 1 == 1) = decide (x / 2 ^ r % 2 = 1) := by
  have e : (x : Int) / 2 ^ r = ((x / 2 ^ r : Nat) : Int) := by simp
  have h : x / 2 ^ r < 4294967296 := Nat.lt_of_le_of_lt (Nat.div_le_self _ _) hx
  rw [e, show (1 : Int) = ((1 : Nat) : Int) from rfl, u32_and_nat (x / 2 ^ r) 1 h (by decide), Nat.and_one_is_mod, Bool.eq_iff_iff]
  simp only [beq_iff_eq, decide_eq_true_eq]
  omega
theorem val_bit {xs : List Nat} (h : Limbs xs) {k : Nat} (hk : k / 32 < xs.length) : (val xs).testBit k = decide (xs[k / 32]?.getD 0 / 2 ^ (k % 32) % 2 = 1) := by
  rw [Nat.testBit_eq_decide_div_mod_eq, val_at hk]
  have h1 := val_lt (h.take (k / 32))
  rw [List.length_take, Nat.min_eq_left (by omega)] at h1
  have e1 : (2 : Nat) ^ k = 4294967296 ^ (k / 32) * 2 ^ (k % 32) := by
    rw [show (4294967296 : Nat) = 2 ^ 32 from rfl, ← Nat.pow_mul, ← Nat.pow_add, Nat.div_add_mod]
  have e2 : (4294967296 : Nat) = 2 ^ (k % 32) * (2 * 2 ^ (31 - k % 32)) := by
    rw [show (2 : Nat) * 2 ^ (31 - k % 32) = 2 ^ (31 - k % 32 + 1) from by rw [Nat.pow_succ, Nat.mul_comm], ← Nat.pow_add, show k % 32 + (31 - k % 32 + 1) = 32 from by omega]
  rw [e1, ← Nat.div_div_eq_div_mul, Nat.add_mul_div_left _ _ (Nat.pow_pos (by decide)), Nat.div_eq_of_lt h1, Nat.zero_add]
  congr 2
  generalize xs[k / 32]?.getD 0 = x
  generalize val (xs.drop (k / 32 + 1)) = y
  rw [e2, Nat.mul_assoc, Nat.add_mul_div_left _ _ (Nat.two_pow_pos _), Nat.mul_assoc, Nat.add_mul_mod_self_left]

theorem sBits_le {xs : List Nat} (h : Limbs xs) : sBits xs ≤ 32 * xs.length := by
  unfold sBits
  split
  · refine blen_le.2 (Nat.lt_of_lt_of_le (val_lt h) ?_)
    rw [show (4294967296 : Nat) = 2 ^ 32 from rfl, ← Nat.pow_mul]; exact Nat.le_refl _
  · omega
theorem sBits_may {xs : List Nat} (h : 0 < sBits xs) : mayb xs = true := by
  unfold sBits at h
  split at h
  · assumption
  · omega
theorem sBits_le' {xs : List Nat} (h : Limbs xs) : sBits xs ≤ 2097152 := by
  rcases Nat.eq_zero_or_pos (sBits xs) with h0 | h0
  · omega
  · have := sBits_le h
    have := (mayb_iff.1 (sBits_may h0)).1
    omega

theorem sBit_neg (xs : List Nat) {k : Int} (h : k < 0) : sBit xs k = false := by
  unfold sBit
  rw [decide_eq_false (by omega)]; rfl
theorem sBit_over {xs : List Nat} {n : Nat} (hn : sBits xs ≤ n) : sBit xs n = false := by
  unfold sBit
  rcases hm : mayb xs with _ | _
  · simp
  · have : val xs < 2 ^ n := blen_le.1 (by rw [sBits_yes hm] at hn; exact hn)
    simp [Nat.testBit_lt_two_pow this]

set_option maxHeartbeats 1000000 in
theorem bit_in (A : Option Addr) (cap : Nat) (xs : List Nat) (k : Nat) (w : World) (B : Nat) (hr : Rd w B A xs) (hc : xs.length ≤ maxLen) (hk : k < sBits xs) :
    Calls Try.prog 22 #[.slice A xs.length cap, .int .i64 (k : Int)] w fun e w' => e = .returned (.bool (sBit xs k)) ∧ w' = w := by
  have c1 := bits_any A cap xs w B hr hc
  have hm := sBits_may (xs := xs) (by omega)
  have hq := sBits_le hr.limbs
  have hb := sBits_le' hr.limbs
  have hlk : k / 32 < xs.length := by omega
  obtain ⟨b, off, rfl, hlt, hcell⟩ := hr.2 (by omega)
  have hcl := hcell (k / 32) hlk
  have hl := hr.limbs.getD (k / 32)
  have HV := Lib.hid (val_bit hr.limbs hlk)
  have HM := Lib.hid hm
  have HU := Lib.hid (u32_bit (xs[k / 32]?.getD 0) (k % 32) hl)
  have k0 : (0 : Int) ≤ k := by omega
  clear hcell hm hc
  go_enter Try.func22, Try.ntmps22
  go_wp2_with fail
  refine c1.mono ?_
  rintro e w' ⟨rfl, rfl⟩
  clear c1
  go_wp2
  go_ret
  refine ⟨ret_bool ?_, rfl⟩
  have := HU.out
  rw [List.getElem?_eq_getElem hlk] at this
  refine (Eq.trans this ?_)
  have h2 := HV.out
  rw [List.getElem?_eq_getElem hlk] at h2
  simp only [Option.getD_some] at h2 ⊢
  rw [← h2]
  unfold sBit
  rw [HM.out]
  simp

set_option maxHeartbeats 1000000 in
theorem bit_any (A : Option Addr) (cap : Nat) (xs : List Nat) (k : Int) (w : World) (B : Nat) (hr : Rd w B A xs) (hc : xs.length ≤ maxLen) :
    Calls Try.prog 22 #[.slice A xs.length cap, .int .i64 k] w fun e w' => e = .returned (.bool (sBit xs k)) ∧ w' = w := by
  rcases Int.lt_or_le k 0 with h | h
  · have hs := Lib.hid (sBit_neg xs h)
    clear hc
    go_enter Try.func22, Try.ntmps22
    go_wp2
    go_ret
    exact ⟨ret_bool hs.out.symm, rfl⟩
  · obtain ⟨n, rfl⟩ := Int.eq_ofNat_of_zero_le h
    rcases Nat.lt_or_ge n (sBits xs) with hn | hn
    · exact bit_in A cap xs n w B hr hc hn
    · have hs := Lib.hid (sBit_over hn)
      have c1 := bits_any A cap xs w B hr hc
      clear hc
      go_enter Try.func22, Try.ntmps22
      go_wp2_with fail
      refine c1.mono ?_
      rintro e w' ⟨rfl, rfl⟩
      clear c1
      go_wp2
      go_ret
      exact ⟨ret_bool hs.out.symm, rfl⟩

theorem tidied_own {w : World} {B : Nat} {A : Option Addr} {cap : Nat} {xs : List Nat} (h : Own w B (.slice A xs.length cap) xs) (hl : Limbs xs) : Own w B (tidied A cap xs) (clip (val xs)) := by
  unfold tidied
  split
  · rename_i h0; rw [h0]; exact Own.nil _ _
  · rename_i h0
    have hc : clip (val xs) = lim (val xs) := by
      unfold clip at h0 ⊢
      split
      · rfl
      · rename_i h1; rw [if_neg h1] at h0; exact absurd rfl h0
    have ht : ∃ k, k ≤ xs.length ∧ lim (val xs) = xs.take k := lim_val_take hl
    obtain ⟨k, hk, e⟩ := ht
    have := h.cut k hk
    rw [hc, e, List.length_take, Nat.min_eq_left hk]
    exact this

theorem lim_two {u : Nat} (hu : u < 18446744073709551616) : clip (val [u % 4294967296, u / 4294967296]) = lim u := by
  have e : val [u % 4294967296, u / 4294967296] = u := by simp only [val]; omega
  rw [e, clip_of]
  have := (lim_length_le (n := u) (k := 2)).2 (by omega)
  omega

set_option maxHeartbeats 1000000 in
theorem of_any (u : Nat) (w : World) (hu : u < 18446744073709551616) :
    Calls Try.prog 17 #[.int .u64 (u : Int)] w fun e w' => (∃ v, e = .returned v ∧ Own w' w.heap.size v (lim u)) ∧ Below w.heap.size w w' := by
  have hl : Limbs [u % 4294967296, u / 4294967296] := (Limbs.one (by omega)).cons (Nat.mod_lt _ (by decide))
  have ho : Own (w.alloc (.cells #[.int .u32 ((u : Int) % 4294967296), .int .u32 ((u : Int) / 4294967296)] 28)) w.heap.size (.slice (some ⟨w.heap.size, 0, none⟩) 2 2) [u % 4294967296, u / 4294967296] :=
    World.ownsRow_lit w _ 2 (Nat.le_refl _) (by decide) rfl
  obtain ⟨A, cap, hv, h1, h2, hr⟩ := ho.rd hl
  injection hv with e1 e2 e3
  subst e1 e3
  have c1 := tidy_any _ _ _ _ _ hr h1 h2
  have ht := tidied_own ho hl
  rw [lim_two hu] at ht
  have HT := Lib.hid ht
  clear h1 h2 e2 hr ht ho
  go_enter Try.func17, Try.ntmps17
  go_wp2_with fail
  refine c1.mono ?_
  rintro e w' ⟨rfl, rfl⟩
  clear c1
  go_wp2
  go_ret
  exact ⟨⟨_, rfl, HT.out⟩, (Below.refl _ w).alloc (Nat.le_refl _) _⟩

end Go.Proofs.Ytlfhpoffphljfaa

/- Contracts: Len32, Bits, Bit, Of. -/
import Derived.Lib.ItoaNum
import Derived.Test.YtlfhpoffphljfaaShelf
import Derived.Test.YtlfhpoffphljfaaNatB
namespace Go.Proofs.Ytlfhpoffphljfaa
open Go.RowKit

/-- how many bits a natural has -/
def blen (n : Nat) : Nat := if n = 0 then 0 else n.log2 + 1

theorem blen_le {n k : Nat} : blen n ≤ k ↔ n < 2 ^ k := by
  unfold blen
  split
  · subst n; simp; exact Nat.two_pow_pos k
  · rename_i h
    rw [Nat.add_one_le_iff, Nat.log2_lt h]
theorem blen_zero : blen 0 = 0 := rfl
theorem blen_pos {n : Nat} (h : n ≠ 0) : 0 < blen n := by unfold blen; rw [if_neg h]; omega
theorem blen_unique {n k : Nat} (h1 : n < 2 ^ k) (h2 : ∀ j, n < 2 ^ j → k ≤ j) : blen n = k := Nat.le_antisymm (blen_le.2 h1) (h2 _ (blen_le.1 (Nat.le_refl _)))
/-- its bits behind a product with a power of 2, and a part below -/
theorem blen_shift {n r k : Nat} (hn : n ≠ 0) (hr : r < 2 ^ k) : blen (n * 2 ^ k + r) = blen n + k := by
  apply blen_unique
  · have := blen_le.1 (Nat.le_refl (blen n))
    rw [Nat.pow_add]
    have : (n + 1) * 2 ^ k ≤ 2 ^ blen n * 2 ^ k := Nat.mul_le_mul_right _ this
    rw [Nat.add_mul, Nat.one_mul] at this
    omega
  · intro j hj
    have hjk : k ≤ j := by
      rcases Nat.lt_or_ge j k with h | h
      · exfalso
        have h1 : 2 ^ j < 2 ^ k := Nat.pow_lt_pow_right (by decide) h
        have h2 : 1 * 2 ^ k ≤ n * 2 ^ k := Nat.mul_le_mul_right _ (by omega)
        omega
      · exact h
    have : n < 2 ^ (j - k) := by
      rcases Nat.lt_or_ge n (2 ^ (j - k)) with h | h
      · exact h
      · exfalso
        have h2 : 2 ^ (j - k) * 2 ^ k ≤ n * 2 ^ k := Nat.mul_le_mul_right _ h
        rw [← Nat.pow_add, Nat.sub_add_cancel hjk] at h2
        omega
    have := blen_le.2 this
    omega

theorem blen_lib {x : Nat} (h : x < 4294967296) : Lib.bitLen x = blen x := by
  by_cases h0 : x = 0
  · subst h0; exact Lib.bitLenAux_zero 64
  · obtain ⟨h1, h2, h3⟩ := Lib.bitLenAux_bounds 64 x (by omega) h0
    refine (blen_unique h3 fun j hj => ?_).symm
    have : 2 ^ (Lib.bitLenAux 64 x - 1) < 2 ^ j := by omega
    have := (Nat.pow_lt_pow_iff_right (a := 2) (by decide)).1 this
    omega

theorem len32_any (x : Nat) (hx : x < 4294967296) (w : World) :
    Calls Try.prog 43 #[.int .u32 (x : Int)] w fun e w' => e = .returned (.int .i64 (blen x : Nat)) ∧ w' = w := by
  have := Try.bits_Len32 (x : Int) w (by omega) (by omega)
  rwa [Int.toNat_natCast, blen_lib hx] at this

/-- How many bits limbs have. -/
theorem blen_val {xs : List Nat} (h : Canon xs) (h0 : 0 < xs.length) : blen (val xs) = 32 * (xs.length - 1) + blen (xs[xs.length - 1]?.getD 0) := by
  rw [val_at (xs := xs) (k := xs.length - 1) (by omega)]
  have h1 := val_lt (h.1.take (xs.length - 1))
  rw [List.length_take, Nat.min_eq_left (by omega)] at h1
  have e : (4294967296 : Nat) ^ (xs.length - 1) = 2 ^ (32 * (xs.length - 1)) := by rw [show (4294967296 : Nat) = 2 ^ 32 from rfl, ← Nat.pow_mul]
  rw [e] at h1 ⊢
  rw [List.drop_eq_nil_of_le (by omega)]
  have hl : xs[xs.length - 1]?.getD 0 ≠ 0 := by
    have := h.2
    rw [List.getLast?_eq_getElem?, List.getElem?_eq_getElem (by omega)] at this
    rw [List.getElem?_eq_getElem (by omega)]
    simpa using this
  simp only [val, Nat.mul_zero, Nat.add_zero]
  rw [Nat.mul_comm (2 ^ _), Nat.add_comm (val _), blen_shift hl h1, Nat.add_comm]

def sBits (xs : List Nat) : Nat := if mayb xs then blen (val xs) else 0
theorem sBits_no {xs : List Nat} (h : mayb xs = false) : sBits xs = 0 := by unfold sBits; rw [h]; rfl
theorem sBits_yes {xs : List Nat} (h : mayb xs = true) : sBits xs = blen (val xs) := by unfold sBits; rw [h]; rfl
theorem sBits_nil : sBits [] = 0 := rfl

set_option maxHeartbeats 1000000 in
theorem bits_any (A : Option Addr) (cap : Nat) (xs : List Nat) (w : World) (B : Nat) (hr : Rd w B A xs) (hc : xs.length ≤ maxLen) :
    Calls Try.prog 21 #[.slice A xs.length cap] w fun e w' => e = .returned (.int .i64 (sBits xs : Nat)) ∧ w' = w := by
  by_cases hx : mayb xs = true
  · have c1 := may_yes cap hr hc hx
    rcases Nat.eq_zero_or_pos xs.length with h0 | h0
    · have : xs = [] := List.eq_nil_of_length_eq_zero h0
      subst this
      clear hx
      go_enter Try.func21, Try.ntmps21
      go_wp2_with fail
      refine c1.mono ?_
      rintro e w' ⟨rfl, rfl⟩
      clear c1
      go_wp2
      go_ret
      exact ⟨ret_int (by rw [sBits_nil]; rfl), rfl⟩
    · have hM := Lib.hid (sBits_yes hx)
      have hB := Lib.hid (blen_val (mayb_canon hr.limbs hx) h0)
      have hm := (mayb_iff.1 hx).1
      have hz0 : (((xs.length : Nat) : Int) == 0) = false := beq_eq_false_iff_ne.2 (by omega)
      obtain ⟨b, off, rfl, hlt, hcell⟩ := hr.2 h0
      have hcl := hcell (xs.length - 1) (by omega)
      have hl := hr.limbs.getD (xs.length - 1)
      have c2 := fun W => len32_any (xs[xs.length - 1]?.getD 0) hl W
      have hb32 : blen (xs[xs.length - 1]?.getD 0) ≤ 32 := blen_le.2 hl
      clear hcell hx hc
      go_enter Try.func21, Try.ntmps21
      go_wp2_with fail
      refine c1.mono ?_
      rintro e w' ⟨rfl, rfl⟩
      clear c1
      go_wp2_with fail
      refine (c2 _).mono ?_
      rintro e w'' ⟨rfl, rfl⟩
      clear c2
      go_wp2
      go_ret
      refine ⟨ret_int (by rw [hM.out, hB.out]; omega), rfl⟩
  · have hM := Lib.hid (sBits_no (xs := xs) (by simpa using hx))
    have c1 := may_no cap hr hc (by simpa using hx)
    clear hx
    go_enter Try.func21, Try.ntmps21
    go_wp2_with fail
    refine c1.mono ?_
    rintro e w' ⟨rfl, rfl⟩
    clear c1
    go_wp2
    go_ret
    exact ⟨ret_int (by rw [hM.out]; rfl), rfl⟩

end Go.Proofs.Ytlfhpoffphljfaa

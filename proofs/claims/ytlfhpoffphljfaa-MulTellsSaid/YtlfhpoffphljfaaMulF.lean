/- Plain mathematics of products by halves. -/
import Derived.Test.YtlfhpoffphljfaaMulE
namespace Go.Proofs.Ytlfhpoffphljfaa

def lo (xs : List Nat) (half : Nat) : Nat := seg xs 0 half
def hi (xs : List Nat) (half : Nat) : Nat := seg xs half (xs.length - half)
theorem lo_lt {xs : List Nat} (h : Limbs xs) (half : Nat) : lo xs half < 4294967296 ^ half := seg_lt h 0 half
theorem hi_lt {xs : List Nat} (h : Limbs xs) {half : Nat} (hl : xs.length ≤ 2 * half) : hi xs half < 4294967296 ^ half :=
  Nat.lt_of_lt_of_le (seg_lt h half _) (Nat.pow_le_pow_right (by decide) (by omega))
theorem val_lohi (xs : List Nat) {half : Nat} (h : half ≤ xs.length) : val xs = lo xs half + 4294967296 ^ half * hi xs half := by
  rw [← seg_val xs]
  conv => lhs; rw [show xs.length = half + (xs.length - half) from by omega]
  rw [seg_add, Nat.zero_add]; rfl
theorem hi_pos {xs : List Nat} (h : Canon xs) {half : Nat} (hl : half < xs.length) : 0 < hi xs half := by
  have h1 := canon_val_ge h (fun e => by rw [e] at hl; simp at hl)
  have h2 := val_lohi xs (Nat.le_of_lt hl)
  have h3 := lo_lt h.1 half
  have h4 : 4294967296 ^ half ≤ 4294967296 ^ (xs.length - 1) := Nat.pow_le_pow_right (by decide) (by omega)
  rcases Nat.eq_zero_or_pos (hi xs half) with h0 | h0
  · rw [h0] at h2; omega
  · exact h0
theorem piece_lo {xs : List Nat} {half : Nat} (h : half < xs.length) : pieceL xs 0 half = lim (lo xs half) := by
  unfold pieceL lo; rw [Nat.min_eq_left (by omega)]
theorem piece_hi {xs : List Nat} {half : Nat} : pieceL xs half (xs.length - half) = lim (hi xs half) := by
  unfold pieceL hi; rw [Nat.min_eq_left (by omega)]
theorem lim_le {n k : Nat} (h : n < 4294967296 ^ k) : (lim n).length ≤ k := lim_length_le.2 h
theorem both_lt {xs : List Nat} (h : Limbs xs) {half : Nat} (h1 : xs.length ≤ 2 * half) : lo xs half + hi xs half < 4294967296 ^ (half + 1) := by
  have a := lo_lt h half
  have b := hi_lt h h1
  rw [Nat.pow_succ]
  omega
theorem bothL_eq {xs : List Nat} (h : Limbs xs) {half : Nat} (h0 : half < xs.length) (h1 : xs.length ≤ 2 * half) (h2 : half ≤ 65535) : bothL xs half = lim (lo xs half + hi xs half) := by
  have a := lim_le (lo_lt h half)
  have b := lim_le (hi_lt h h1)
  have c := lim_le (both_lt h h1)
  unfold bothL
  rw [piece_lo h0, piece_hi, sAdd_yes (by rw [mayb_lim (by omega), mayb_lim (by omega)]; rfl), val_lim, val_lim, clip_of (by omega)]

/-- The three products make the product. -/
theorem kar_sum {P l h l' h' C : Nat} (hC : C + h * h' + l * l' = (l + h) * (l' + h')) : l * l' + P * P * (h * h') + P * C = (l + P * h) * (l' + P * h') := by
  have : P * (C + h * h' + l * l') = P * ((l + h) * (l' + h')) := by rw [hC]
  grind
theorem lo_mul_lt {a b P : Nat} (ha : a < P) (hb : b < P) : a * b < P * P := Nat.mul_lt_mul'' ha hb

def splL (Z : List Nat) (off : Nat) (L : List Nat) : List Nat := Z.take off ++ L ++ Z.drop (off + L.length)
theorem splL_length {Z L : List Nat} {off : Nat} (h : off + L.length ≤ Z.length) : (splL Z off L).length = Z.length := by unfold splL; simp; omega
theorem splL_limbs {Z L : List Nat} {off : Nat} (hZ : Limbs Z) (hL : Limbs L) : Limbs (splL Z off L) := by unfold splL; exact ((hZ.take off).append hL).append (hZ.drop _)
/-- Both products of halves, laid side by side among zeros. -/
theorem spl_val {L H : List Nat} {half : Nat} (hl : L.length ≤ 2 * half) (hh : H.length ≤ 2 * half) : val (splL (splL (List.replicate (4 * half) 0) 0 L) (2 * half) H) = val L + 4294967296 ^ (2 * half) * val H := by
  have e1 : splL (List.replicate (4 * half) 0) 0 L = L ++ List.replicate (4 * half - L.length) 0 := by
    unfold splL; simp
  have e2 : (L ++ List.replicate (4 * half - L.length) 0).take (2 * half) = L ++ List.replicate (2 * half - L.length) 0 := by
    rw [List.take_append, List.take_of_length_le hl, List.take_replicate, Nat.min_eq_left (by omega)]
  have e3 : (L ++ List.replicate (4 * half - L.length) 0).drop (2 * half + H.length) = List.replicate (2 * half - H.length) 0 := by
    rw [List.drop_append, List.drop_eq_nil_of_le (by omega), List.drop_replicate, List.nil_append]
    congr 1; omega
  rw [e1]
  unfold splL
  rw [e2, e3, List.append_assoc, val_append, val_append, val_append, val_replicate, val_replicate]
  have : (L ++ List.replicate (2 * half - L.length) 0).length = 2 * half := by simp; omega
  rw [this]
  simp

end Go.Proofs.Ytlfhpoffphljfaa

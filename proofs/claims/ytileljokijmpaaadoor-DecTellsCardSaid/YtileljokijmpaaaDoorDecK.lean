/- Pieces of nine digits: the mathematics. -/
import Derived.Test.YtileljokijmpaaaDoorDecD
import Derived.Test.YtileljokijmpaaaDoorDecLog
namespace Go.Proofs.YtileljokijmpaaaDoor

set_option linter.unusedVariables false

theorem piece_alld {L : List Nat} (hd : AllD L) (j : Nat) : AllD (piece L j) := (hd.take _).drop _
theorem piece_length (L : List Nat) (j : Nat) : (piece L j).length ≤ 9 := by
  unfold piece
  rw [List.length_drop, List.length_take]
  omega
theorem dv_piece {L : List Nat} (hd : AllD L) {j : Nat} (hj : 9 * j < L.length) : dv (piece L j) = dv L / 10 ^ (j * 9) % 10 ^ 9 := by
  obtain ⟨e, he⟩ : ∃ e : Nat, e = L.length - 9 * j := ⟨_, rfl⟩
  unfold piece
  rw [← he]
  have h1 : dv L = dv (L.take e) * 10 ^ (j * 9) + dv (L.drop e) := by
    have := dv_append (L.take e) (L.drop e)
    rw [List.take_append_drop, List.length_drop, show L.length - e = j * 9 by omega] at this
    exact this
  have h2 : dv (L.drop e) < 10 ^ (j * 9) := by
    have := dv_lt (hd.drop e)
    rwa [List.length_drop, show L.length - e = j * 9 by omega] at this
  have h3 : dv L / 10 ^ (j * 9) = dv (L.take e) := by
    rw [h1, Nat.add_comm, Nat.add_mul_div_right _ _ (Nat.pow_pos (by decide)), Nat.div_eq_of_lt h2, Nat.zero_add]
  rw [h3]
  have hl : (L.take e).length = e := by rw [List.length_take]; omega
  rcases Nat.lt_or_ge e 9 with h | h
  · rw [show e - 9 = 0 by omega, List.drop_zero]
    have := dv_lt (hd.take e)
    rw [hl] at this
    exact (Nat.mod_eq_of_lt (Nat.lt_of_lt_of_le this (Nat.pow_le_pow_right (by decide) (by omega)))).symm
  · have h4 := dv_append ((L.take e).take (e - 9)) ((L.take e).drop (e - 9))
    rw [List.take_append_drop, List.length_drop, hl, show e - (e - 9) = 9 by omega] at h4
    have h5 := dv_lt ((hd.take e).drop (e - 9))
    rw [List.length_drop, hl, show e - (e - 9) = 9 by omega] at h5
    rw [h4, Nat.add_comm, Nat.add_mul_mod_self_right, Nat.mod_eq_of_lt h5]
def pv (L : List Nat) (j : Fin (pieceN L)) : List Nat := lim (dv (piece L j.1))
theorem pv_all {L : List Nat} (hd : AllD L) : (List.finRange (pieceN L)).map (pv L) = lev (dv L) 9 (pieceN L) := by
  apply List.ext_getElem
  · simp [lev]
  · intro i h1 h2
    have hi : i < (L.length + 8) / 9 := by rw [List.length_map, List.length_finRange] at h1; exact h1
    have hlt : dv (piece L i) < 10 ^ 9 := by rw [dv_piece hd (by omega)]; exact Nat.mod_lt _ (Nat.pow_pos (by decide))
    simp only [List.getElem_map, List.getElem_finRange, lev, List.getElem_range, pv, Fin.cast_mk]
    rw [← dv_piece hd (by omega), clip_of (ten_fits (k := 9) (by decide) hlt)]
/-- how the joining goes: pieces of W = 9·2^k digits, c of them -/
def Lvl (n k c : Nat) : Prop := n ≤ 631306 ∧ 0 < n ∧ n ≤ c * (9 * 2 ^ k) ∧ (c - 1) * (9 * 2 ^ k) < n ∧ (c = 1 → k = 0)
theorem Lvl.pos {n k c : Nat} (h : Lvl n k c) : 0 < c := by
  rcases Nat.eq_zero_or_pos c with rfl | h1
  · have := h.2.2.1; have := h.2.1; omega
  · exact h1
theorem Lvl.start {L : List Nat} (h : L.length ≤ 631306) (h0 : 0 < L.length) : Lvl L.length 0 (pieceN L) := by
  unfold Lvl pieceN
  omega
theorem Lvl.low {n k c : Nat} (h : Lvl n k c) (hc : 1 < c) : 9 * 2 ^ k ≤ 589824 := by
  have h1 : 9 * 2 ^ k < n := Nat.lt_of_le_of_lt (Nat.le_mul_of_pos_left _ (by omega)) h.2.2.2.1
  have h2 : k < 17 := by
    rcases Nat.lt_or_ge k 17 with h2 | h2
    · exact h2
    · have := Nat.pow_le_pow_right (n := 2) (by decide) h2
      have := h.1
      omega
  have := Nat.pow_le_pow_right (n := 2) (by decide) (show k ≤ 16 by omega)
  omega
theorem Lvl.w {n k c : Nat} (h : Lvl n k c) : 9 * 2 ^ k ≤ 589824 := by
  rcases Nat.lt_or_ge 1 c with h1 | h1
  · exact h.low h1
  · have := h.pos
    rw [h.2.2.2.2 (by omega)]; decide
theorem Lvl.next {n k c : Nat} (h : Lvl n k c) (hc : 2 < c) : Lvl n (k + 1) ((c + 1) / 2) := by
  obtain ⟨h1, h2, h3, h4, h5⟩ := h
  have e : 9 * 2 ^ (k + 1) = 2 * (9 * 2 ^ k) := by rw [Nat.pow_succ]; omega
  generalize 9 * 2 ^ k = W at *
  refine ⟨h1, h2, ?_, ?_, by omega⟩
  · rw [e, ← Nat.mul_assoc]
    exact Nat.le_trans h3 (Nat.mul_le_mul_right _ (by omega))
  · rw [e, ← Nat.mul_assoc]
    exact Nat.lt_of_le_of_lt (Nat.mul_le_mul_right _ (by omega)) h4
theorem Lvl.fit {n k c : Nat} (h : Lvl n k c) (N j : Nat) : (lim (N / 10 ^ (j * (9 * 2 ^ k)) % 10 ^ (9 * 2 ^ k))).length ≤ 65536 :=
  ten_fits (k := 9 * 2 ^ k) (by have := h.w; omega) (Nat.mod_lt _ (Nat.pow_pos (by decide)))
theorem Lvl.pfit {n k c : Nat} (h : Lvl n k c) : (lim (10 ^ (9 * 2 ^ k))).length ≤ 65536 :=
  ten_fits (k := 9 * 2 ^ k + 1) (by have := h.w; omega) (Nat.pow_lt_pow_right (by decide) (by omega))
theorem Lvl.lt {n k c N : Nat} (h : Lvl n k c) (hN : N < 10 ^ n) : N < 10 ^ (c * (9 * 2 ^ k)) := Nat.lt_of_lt_of_le hN (Nat.pow_le_pow_right (by decide) h.2.2.1)
theorem Lvl.jbt {n k c N : Nat} (h : Lvl n k c) (hN : N < 10 ^ n) : jbt (lev N (9 * 2 ^ k) c) (clip (10 ^ (9 * 2 ^ k))) = lev N (9 * 2 ^ (k + 1)) ((c + 1) / 2) := by
  rw [jbt_lev (fun j _ => h.fit N j) (h.lt hN) (fun _ => h.pfit), Nat.pow_succ]
  congr 1
  omega
theorem Lvl.square {n k c : Nat} (h : Lvl n k c) : clip (val (clip (10 ^ (9 * 2 ^ k))) * val (clip (10 ^ (9 * 2 ^ k)))) = clip (10 ^ (9 * 2 ^ (k + 1))) := by
  rw [val_clip h.pfit, ← Nat.pow_add, Nat.pow_succ]
  congr 2
  omega
theorem Lvl.done {n k c N : Nat} (h : Lvl n k c) (hc : c ≤ 2) (hN : N < 10 ^ n) : lev N (9 * 2 ^ (k + 1)) ((c + 1) / 2) = [clip N] := by
  have hp := h.pos
  have h1 : (c + 1) / 2 = 1 := by omega
  have h2 : N < 10 ^ (9 * 2 ^ (k + 1)) := Nat.lt_of_lt_of_le (h.lt hN) (Nat.pow_le_pow_right (by decide) (by
    rw [show 9 * 2 ^ (k + 1) = 2 * (9 * 2 ^ k) by rw [Nat.pow_succ]; omega]; exact Nat.mul_le_mul_right _ hc))
  rw [h1]
  simp only [lev, List.range_one, List.map_cons, List.map_nil, Nat.zero_mul, Nat.pow_zero, Nat.div_one]
  rw [Nat.mod_eq_of_lt h2]

end Go.Proofs.YtileljokijmpaaaDoor

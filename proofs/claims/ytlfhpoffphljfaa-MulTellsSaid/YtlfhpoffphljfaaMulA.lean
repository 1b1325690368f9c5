/- Contracts: trim, told, tooLong, piece. -/
import Derived.Test.YtlfhpoffphljfaaNatP
import Derived.Test.YtlfhpoffphljfaaMulMath
namespace Go.Proofs.Ytlfhpoffphljfaa
open Go.RowKit

theorem lim_val_length_le {xs : List Nat} (h : Limbs xs) : (lim (val xs)).length ≤ xs.length := by
  obtain ⟨k, hk, e⟩ := lim_val_take h
  rw [e, List.length_take]; omega

theorem slice_len {A : Option Addr} {n k cap : Nat} (h : n = k) : Value.slice A k cap = .slice A n cap := by rw [h]

theorem slice_len2 {A : Option Addr} {n k : Nat} (h : n = k) : Value.slice A k k = .slice A n n := by rw [h]

set_option maxHeartbeats 400000 in
/-- trim hands back the first places, without 0s behind. -/
theorem trim_any (A : Option Addr) (cap : Nat) (xs : List Nat) (w : World) (B : Nat) (hr : Rd w B A xs) (hc : xs.length ≤ cap) (hle : cap ≤ maxLen) :
    Calls Try.prog 48 #[.slice A xs.length cap] w fun e w' => e = .returned (.slice A (lim (val xs)).length cap) ∧ w' = w := by
  unfold maxLen at hle
  go_enter Try.func48, Try.ntmps48
  go_wp2
  go_loop [0] (fun v => ∃ k : Nat, k ≤ xs.length ∧ v = .slice A k cap ∧ Hid (∀ j, k ≤ j → j < xs.length → xs[j]?.getD 0 = 0)) (fun v => lenOf v)
  case atStart => exact ⟨xs.length, Nat.le_refl _, rfl, fun j h1 h2 => by omega⟩
  case round =>
    obtain ⟨k, hk, rfl, hz⟩ := hrel
    rcases Nat.eq_zero_or_pos k with h0 | h0
    · subst h0
      go_wp2
      go_ret
      exact ⟨ret_val (slice_len (by rw [trim_spec hr.limbs hk hz.out (.inl rfl)]; rfl)), rfl⟩
    · obtain ⟨b, off, rfl, hlt, hcell⟩ := hr.2 (by omega)
      have hcl := hcell (k - 1) (by omega)
      have hl := hr.limbs.getD (k - 1)
      have hk0 : (((k : Nat) : Int) == 0) = false := beq_eq_false_iff_ne.2 (by omega)
      clear hcell
      by_cases hx : xs[k - 1]?.getD 0 = 0
      · have hx' : (((xs[k - 1]?.getD 0 : Nat) : Int) == 0) = true := by simp [hx]
        have hX := Lib.hid hx
        clear hx
        go_wp2
        go_round
        case rel => exact ⟨k - 1, by omega, rfl, fun j h1 h2 => by rcases Nat.lt_or_ge j k with h3 | h3; (obtain rfl : j = k - 1 := by omega); exact hX.out; exact hz.out j h3 h2⟩
        case measure => simp [lenOf]; omega
      · have hx' : (((xs[k - 1]?.getD 0 : Nat) : Int) == 0) = false := by simp; omega
        have hL : Hid ((lim (val xs)).length = k) := by rw [trim_spec hr.limbs hk hz.out (.inr hx), List.length_take]; show min k _ = k; omega
        go_wp2
        go_ret
        exact ⟨ret_val (slice_len hL.out), rfl⟩

/-- What told hands back. -/
def toldV (A : Option Addr) (k cap : Nat) : Value := if k = 0 ∨ 65536 < k then .slice none 0 0 else .slice A k cap
theorem toldV_no {A : Option Addr} {k cap : Nat} (h : k = 0 ∨ 65536 < k) : Value.slice none 0 0 = toldV A k cap := by unfold toldV; rw [if_pos h]
theorem toldV_yes {A : Option Addr} {k cap : Nat} (h : ¬ (k = 0 ∨ 65536 < k)) : Value.slice A k cap = toldV A k cap := by unfold toldV; rw [if_neg h]
theorem told_any (A : Option Addr) (k cap : Nat) (w : World) (hk : k ≤ maxLen) :
    Calls Try.prog 45 #[.slice A k cap] w fun e w' => e = .returned (toldV A k cap) ∧ w' = w := by
  unfold maxLen at hk
  rcases Nat.eq_zero_or_pos k with h0 | h0
  · subst h0
    go_enter Try.func45, Try.ntmps45
    go_wp2
    go_ret
    exact ⟨ret_val (toldV_no (.inl rfl)), rfl⟩
  · have hk0 : (((k : Nat) : Int) == 0) = false := beq_eq_false_iff_ne.2 (by omega)
    by_cases h1 : k ≤ 65536
    · go_enter Try.func45, Try.ntmps45
      go_wp2
      go_ret
      exact ⟨ret_val (toldV_yes (by omega)), rfl⟩
    · go_enter Try.func45, Try.ntmps45
      go_wp2
      go_ret
      exact ⟨ret_val (toldV_no (.inr (by omega))), rfl⟩
/-- Own, trimmed and told. -/
theorem toldV_own {w : World} {B : Nat} {A : Option Addr} {cap n : Nat} (h : Own w B (.slice A (lim n).length cap) (lim n)) : Own w B (toldV A (lim n).length cap) (clip n) := by
  unfold toldV clip
  by_cases h1 : (lim n).length = 0
  · rw [if_pos (.inl h1), if_pos (by omega), List.eq_nil_of_length_eq_zero h1]; exact Own.nil _ _
  · by_cases h2 : (lim n).length ≤ 65536
    · rw [if_neg (by omega), if_pos h2]; exact h
    · rw [if_pos (.inr (by omega)), if_neg h2]; exact Own.nil _ _

def longB (n m : Nat) : Bool := decide (0 < n ∧ 0 < m ∧ 65536 < n + m - 1)
theorem long_true {n m : Nat} (h : 0 < n ∧ 0 < m ∧ 65536 < n + m - 1) : true = longB n m := by unfold longB; rw [decide_eq_true h]
theorem long_false {n m : Nat} (h : ¬ (0 < n ∧ 0 < m ∧ 65536 < n + m - 1)) : false = longB n m := by unfold longB; rw [decide_eq_false h]
theorem long_mid {n m : Nat} (h0 : 0 < n) (h1 : 0 < m) : decide ((65536 : Int) < (n : Int) + (m : Int) - 1) = longB n m := by
  unfold longB; rw [decide_eq_decide]; omega
theorem tooLong_any (A A' : Option Addr) (n m cap cap' : Nat) (w : World) (hn : n ≤ 65536) (hm : m ≤ 65536) :
    Calls Try.prog 44 #[.slice A n cap, .slice A' m cap'] w fun e w' => e = .returned (.bool (longB n m)) ∧ w' = w := by
  rcases Nat.eq_zero_or_pos n with h0 | h0
  · subst h0
    go_enter Try.func44, Try.ntmps44
    go_wp2
    go_ret
    exact ⟨ret_bool (long_false (by omega)), rfl⟩
  · rcases Nat.eq_zero_or_pos m with h1 | h1
    · subst h1
      go_enter Try.func44, Try.ntmps44
      go_wp2
      go_ret
      exact ⟨ret_bool (long_false (by omega)), rfl⟩
    · go_enter Try.func44, Try.ntmps44
      go_wp2
      go_ret
      exact ⟨ret_bool (long_mid h0 h1), rfl⟩

/-- What stands in a piece. -/
def pieceL (xs : List Nat) (i k : Nat) : List Nat := lim (seg xs i (min k (xs.length - i)))
theorem pieceL_le {xs : List Nat} (h : Limbs xs) (i k : Nat) : (pieceL xs i k).length ≤ min k (xs.length - i) := by
  unfold pieceL; rw [lim_length_le]; exact seg_lt h i _
theorem pieceL_val (xs : List Nat) (i k : Nat) : val (pieceL xs i k) = seg xs i (min k (xs.length - i)) := val_lim _
theorem seg_take_drop (xs : List Nat) (i k : Nat) : val ((xs.drop i).take k) = seg xs i k := (seg_drop xs i k).symm
/-- A part of a slice that is read. -/
theorem Rd.part {w : World} {B b off : Nat} {xs : List Nat} (h : Rd w B (some ⟨b, off, none⟩) xs) (i k : Nat) (hi : i < xs.length) {off' : Nat} (ho : off' = off + i) : Rd w B (some ⟨b, off', none⟩) ((xs.drop i).take k) := by
  subst ho
  refine ⟨(h.1.drop i).take k, fun hn => ?_⟩
  obtain ⟨b', off'', e, hlt, hc⟩ := h.2 (by omega)
  injection e with e; injection e with e1 e2 e3
  subst e1 e2
  refine ⟨b, off + i, rfl, hlt, fun j hj => ?_⟩
  simp only [List.length_take, List.length_drop] at hj
  have := hc (i + j) (by omega)
  rw [Nat.add_assoc, this, List.getElem?_take, if_pos (by omega), List.getElem?_drop]
theorem Rd.limPart {w : World} {B : Nat} {A : Option Addr} {xs : List Nat} (h : Rd w B A xs) : Rd w B A (lim (val xs)) := by
  obtain ⟨k, hk, e⟩ := lim_val_take h.limbs
  rw [e]; exact h.take k
/-- What piece hands back. -/
def PiecePost (w : World) (B : Nat) (L : List Nat) (e : Ending) (w' : World) : Prop := (∃ A, e = .returned (.slice A L.length L.length) ∧ Rd w B A L) ∧ w' = w

set_option maxHeartbeats 1000000 in
theorem piece_any (b off cap : Nat) (xs : List Nat) (i T : Nat) (w : World) (B : Nat) (hr : Rd w B (some ⟨b, off, none⟩) xs) (hi : i < xs.length) (hT : i < T) (hT2 : T ≤ maxLen) (hc : xs.length ≤ cap) (hle : cap ≤ maxLen) :
    Calls Try.prog 66 #[.slice (some ⟨b, off, none⟩) xs.length cap, .int .i64 (i : Int), .int .i64 (T : Int)] w (PiecePost w B (pieceL xs i (T - i))) := by
  have hp := hr.part (off' := off + i) i (min (T - i) (xs.length - i)) hi rfl
  have hlen : ((xs.drop i).take (min (T - i) (xs.length - i))).length = min (T - i) (xs.length - i) := by simp
  have hv : lim (val ((xs.drop i).take (min (T - i) (xs.length - i)))) = pieceL xs i (T - i) := by rw [seg_take_drop]; rfl
  have c := trim_any (some ⟨b, off + i, none⟩) (cap - i) _ w B hp (by rw [hlen]; omega) (by omega)
  rw [hv, hlen] at c
  have hR := Lib.hid hp.limPart
  rw [hv] at hR
  have hpl := pieceL_le hr.limbs i (T - i)
  generalize hL : pieceL xs i (T - i) = L at *
  generalize hn : xs.length = n at *
  have HL := Lib.hid hL
  have HN := Lib.hid hn
  clear hL hn hp hv hlen hr
  unfold maxLen at hT2 hle
  rcases Nat.lt_or_ge n T with h | h
  · rw [Nat.min_eq_right (by omega)] at c hpl
    rw [show n - i = (min (T : Int) (n : Int)).toNat - i from by omega] at c
    go_enter Try.func66, Try.ntmps66
    go_wp2_with fail
    refine c.mono ?_
    rintro e w' ⟨rfl, rfl⟩
    clear c
    rcases L with _ | ⟨x, L'⟩
    · go_wp2
      go_ret
      exact ⟨⟨_, rfl, Rd.nil _ _ _⟩, rfl⟩
    · have h0 : 0 < (x :: L').length := by simp
      generalize x :: L' = L at *
      go_wp2
      go_ret
      exact ⟨⟨_, ret_val (slice_len2 (by omega)), hR.out⟩, rfl⟩
  · rw [Nat.min_eq_left (by omega)] at c hpl
    rw [show T - i = (min (T : Int) (n : Int)).toNat - i from by omega] at c
    go_enter Try.func66, Try.ntmps66
    go_wp2_with fail
    refine c.mono ?_
    rintro e w' ⟨rfl, rfl⟩
    clear c
    rcases L with _ | ⟨x, L'⟩
    · go_wp2
      go_ret
      exact ⟨⟨_, rfl, Rd.nil _ _ _⟩, rfl⟩
    · have h0 : 0 < (x :: L').length := by simp
      generalize x :: L' = L at *
      go_wp2
      go_ret
      exact ⟨⟨_, ret_val (slice_len2 (by omega)), hR.out⟩, rfl⟩

end Go.Proofs.Ytlfhpoffphljfaa

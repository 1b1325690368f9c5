/- Contracts: May, tidy. -/
import Derived.BigQuiet
import Derived.Deep.QuietTactic
import Derived.WalkSpells
import Derived.WalkLawsBesides
import Derived.Test.YtlfhpoffphljfaaRows
import Derived.Test.YtlfhpoffphljfaaNatRd
namespace Go.Proofs.Ytlfhpoffphljfaa
open Go.RowKit

theorem ret_bool {a b : Bool} (h : a = b) : Ending.returned (.bool a) = .returned (.bool b) := by rw [h]
theorem ret_int {k : IntKind} {a b : Int} (h : a = b) : Ending.returned (.int k a) = .returned (.int k b) := by rw [h]
theorem ret_val {a b : Value} (h : a = b) : Ending.returned a = .returned b := by rw [h]

theorem mayb_pos {xs : List Nat} (h : 0 < xs.length) : mayb xs = decide (xs.length ≤ 65536 ∧ xs[xs.length - 1]?.getD 0 ≠ 0) := by
  unfold mayb
  rw [List.getLast?_eq_getElem?, List.getElem?_eq_getElem (by omega)]
  simp

set_option maxHeartbeats 400000 in
theorem may_any (A : Option Addr) (cap : Nat) (xs : List Nat) (w : World) (B : Nat) (hr : Rd w B A xs) (hle : xs.length ≤ maxLen) :
    Calls Try.prog 23 #[.slice A xs.length cap] w fun e w' => e = .returned (.bool (mayb xs)) ∧ w' = w := by
  unfold maxLen at hle
  rcases Nat.eq_zero_or_pos xs.length with h0 | h0
  · have : xs = [] := List.eq_nil_of_length_eq_zero h0
    subst this
    go_enter Try.func23, Try.ntmps23
    go_wp2
    go_ret
    exact ⟨by simp [mayb], rfl⟩
  · obtain ⟨b, off, rfl, hlt, hc⟩ := hr.2 h0
    have hcl := hc (xs.length - 1) (by omega)
    have hl := hr.limbs.getD (xs.length - 1)
    have hM := Lib.hid (mayb_pos h0)
    clear hc
    have hz0 : (((xs.length : Nat) : Int) == 0) = false := beq_eq_false_iff_ne.2 (by omega)
    by_cases h1 : xs.length ≤ 65536
    · go_enter Try.func23, Try.ntmps23
      go_wp2
      go_ret
      exact ⟨ret_bool (by rw [hM.out, Bool.eq_iff_iff]; simp [h1]), rfl⟩
    · go_enter Try.func23, Try.ntmps23
      go_wp2
      go_ret
      exact ⟨ret_bool (by rw [hM.out]; simp [h1]), rfl⟩

/-- A slice's length, for a loop's measure. -/
def lenOf : Value → Nat | .slice _ n _ => n | _ => 0
/-- What tidy hands back. -/
def tidied (A : Option Addr) (cap : Nat) (xs : List Nat) : Value := if clip (val xs) = [] then .slice none 0 0 else .slice A (clip (val xs)).length cap
theorem tidied_nil {A : Option Addr} {cap : Nat} {xs : List Nat} (h : lim (val xs) = [] ∨ 65536 < (lim (val xs)).length) : Value.slice none 0 0 = tidied A cap xs := by
  unfold tidied clip
  rcases h with h | h
  · simp [h]
  · rw [if_pos (by rw [if_neg (by omega)])]
theorem tidied_cut {A : Option Addr} {cap : Nat} {xs : List Nat} {k : Nat} (h : (lim (val xs)).length = k) (h0 : 0 < k) (hk : k ≤ 65536) : Value.slice A k cap = tidied A cap xs := by
  have hc : clip (val xs) = lim (val xs) := clip_of (by omega)
  unfold tidied
  rw [hc, if_neg (fun e => by rw [e] at h; simp at h; omega), h]

set_option maxHeartbeats 400000 in
theorem tidy_any (A : Option Addr) (cap : Nat) (xs : List Nat) (w : World) (B : Nat) (hr : Rd w B A xs) (hc : xs.length ≤ cap) (hle : cap ≤ maxLen) :
    Calls Try.prog 42 #[.slice A xs.length cap] w fun e w' => e = .returned (tidied A cap xs) ∧ w' = w := by
  unfold maxLen at hle
  go_enter Try.func42, Try.ntmps42
  go_wp2
  go_loop [0] (fun v => ∃ k : Nat, k ≤ xs.length ∧ v = .slice A k cap ∧ Hid (∀ j, k ≤ j → j < xs.length → xs[j]?.getD 0 = 0)) (fun v => lenOf v)
  case atStart => exact ⟨xs.length, Nat.le_refl _, rfl, fun j h1 h2 => by omega⟩
  case round =>
    obtain ⟨k, hk, rfl, hz⟩ := hrel
    rcases Nat.eq_zero_or_pos k with h0 | h0
    · subst h0
      go_wp2
      go_ret
      exact ⟨ret_val (tidied_nil (.inl (by rw [trim_spec hr.limbs hk hz.out (.inl rfl)]; rfl))), rfl⟩
    · obtain ⟨b, off, rfl, hlt, hcell⟩ := hr.2 (by omega)
      have hcl := hcell (k - 1) (by omega)
      have hl := hr.limbs.getD (k - 1)
      have hk0 : (((k : Nat) : Int) == 0) = false := beq_eq_false_iff_ne.2 (by omega)
      clear hcell
      by_cases hx : xs[k - 1]?.getD 0 = 0
      · have hx' : (((xs[k - 1]?.getD 0 : Nat) : Int) == 0) = true := by simp [hx]
        have hX := Lib.hid hx
        clear hx
        go_wp2
        go_round
        case rel => exact ⟨k - 1, by omega, rfl, fun j h1 h2 => by rcases Nat.lt_or_ge j k with h3 | h3; (obtain rfl : j = k - 1 := by omega); exact hX.out; exact hz.out j h3 h2⟩
        case measure => simp [lenOf]; omega
      · have hx' : (((xs[k - 1]?.getD 0 : Nat) : Int) == 0) = false := by simp; omega
        have hL : Hid ((lim (val xs)).length = k) := by rw [trim_spec hr.limbs hk hz.out (.inr hx), List.length_take]; show min k _ = k; omega
        by_cases hM : k ≤ 65536
        · go_wp2
          go_ret
          exact ⟨ret_val (tidied_cut hL.out h0 hM), rfl⟩
        · go_wp2
          go_ret
          exact ⟨ret_val (tidied_nil (.inr (by rw [hL.out]; omega))), rfl⟩

end Go.Proofs.Ytlfhpoffphljfaa

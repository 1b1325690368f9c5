/- MulSquares. -/
import Derived.Test.YtidflhonhekmjaaPackO
namespace Go.Proofs.Ytidflhonhekmjaa
open Go.RowKit Go.Shelf

set_option linter.unusedVariables false

theorem len_mul (a b : Nat) : (lim (a * b)).length ≤ (lim a).length + (lim b).length := by
  refine lim_le ?_
  rw [Nat.pow_add]
  have h1 := val_lt (lim_limbs a)
  have h2 := val_lt (lim_limbs b)
  rw [val_lim] at h1 h2
  exact Nat.mul_lt_mul'' h1 h2
theorem len_add (a b : Nat) : (lim (a + b)).length ≤ max (lim a).length (lim b).length + 1 := by
  have h := sum_room (s := a) (p := b) (n := max (lim a).length (lim b).length + 1) (by omega) (by omega)
  exact lim_le h
theorem len_two (a : Nat) : (lim (a * 2 ^ 1)).length ≤ (lim a).length + 1 := by
  have h := len_add a a
  rw [show a * 2 ^ 1 = a + a from by omega]
  omega
theorem mul_lim {a b : Nat} (h : (lim a).length + (lim b).length ≤ 65536) : sMul (lim a) (lim b) = lim (a * b) := by
  have := len_mul a b
  rw [sMul_yes (by rw [mayb_lim (by omega), mayb_lim (by omega)]; rfl), val_lim, val_lim, clip_of (by omega)]
theorem add_lim {a b : Nat} (h : (lim a).length < 65536) (h' : (lim b).length < 65536) : sAdd (lim a) (lim b) = lim (a + b) := by
  have := len_add a b
  rw [sAdd_yes (by rw [mayb_lim (by omega), mayb_lim (by omega)]; rfl), val_lim, val_lim, clip_of (by omega)]
theorem shl_lim {a : Nat} (h : (lim a).length < 65536) : sShl (lim a) ((1 : Nat) : Int) = lim (a * 2 ^ 1) := by
  have := len_two a
  rw [sShl_yes (mayb_lim (by omega)), val_lim, clip_of (by omega)]
theorem cmp_lim {a b : Nat} (h : (lim a).length ≤ 65536) (h' : (lim b).length ≤ 65536) : sCmp (lim a) (lim b) = cmpN a b := by
  rw [sCmp_yes (by rw [mayb_lim h, mayb_lim h']; rfl), val_lim, val_lim]
theorem tot_mem {xs : List Nat} : ∀ L : List (List Nat), xs ∈ L → 1 + min 700 xs.length ≤ tot L
  | [], hx => by cases hx
  | y :: r, hx => by
    simp only [tot]
    rcases List.mem_cons.1 hx with rfl | hx
    · omega
    · have := tot_mem r hx; omega
theorem long_no {L : List (List Nat)} (h : longL L = false) {xs : List Nat} (hx : xs ∈ L) : xs.length < 700 := by
  unfold longL at h
  have h := of_decide_eq_false h
  have := tot_mem L hx
  omega
theorem may_lim {xs : List Nat} (hl : Limbs xs) (h : mayb xs = true) : ∃ a, xs = lim a := ⟨val xs, (lim_val (mayb_canon hl h)).symm⟩

end Go.Proofs.Ytidflhonhekmjaa

/- Contracts of the document's own answers of layer 1: May, Cmp, at, cut, Of, Low. -/
import Derived.Test.YtdkdgijcoialbaaGreatDoorPackN
namespace Go.Proofs.YtdkdgijcoialbaaGreatDoor
open Go.RowKit

set_option linter.unusedVariables false

set_option maxHeartbeats 400000 in
theorem rmay_any (A : Option Addr) (cap : Nat) (xs : List Nat) (w : World) (B : Nat) (hr : Rd w B A xs) (hle : xs.length ≤ maxLen) :
    Calls Tryz.prog 67 #[.slice A xs.length cap] w fun e w' => e = .returned (.bool (mayb xs)) ∧ w' = w := by
  unfold maxLen at hle
  rcases Nat.eq_zero_or_pos xs.length with h0 | h0
  · have : xs = [] := List.eq_nil_of_length_eq_zero h0
    subst this
    go_enter Tryz.func67, Tryz.ntmps67
    go_wp2
    go_ret
    exact ⟨by simp [mayb], rfl⟩
  · obtain ⟨b, off, rfl, hlt, hc⟩ := hr.2 h0
    have hcl := hc (xs.length - 1) (by omega)
    have hl := hr.limbs.getD (xs.length - 1)
    have hM := Lib.hid (mayb_pos h0)
    clear hc
    have hz0 : (((xs.length : Nat) : Int) == 0) = false := beq_eq_false_iff_ne.2 (by omega)
    by_cases h1 : xs.length ≤ 65536
    · go_enter Tryz.func67, Tryz.ntmps67
      go_wp2
      go_ret
      exact ⟨ret_bool (by rw [hM.out, Bool.eq_iff_iff]; simp [h1]; omega), rfl⟩
    · go_enter Tryz.func67, Tryz.ntmps67
      go_wp2
      go_ret
      exact ⟨ret_bool (by rw [hM.out]; simp [h1]), rfl⟩
theorem rmay_is {A : Option Addr} (cap : Nat) {xs : List Nat} {w : World} {B : Nat} (hr : Rd w B A xs) (hle : xs.length ≤ maxLen) {b : Bool} (h : mayb xs = b) :
    Calls Tryz.prog 67 #[.slice A xs.length cap] w fun e w' => e = .returned (.bool b) ∧ w' = w := by
  have := rmay_any A cap xs w B hr hle
  rwa [h] at this

/-! ### at, cut, Of -/
set_option maxHeartbeats 400000 in
theorem at_any (A : Option Addr) (cap : Nat) (xs : List Nat) (k : Nat) (w : World) (B : Nat) (hr : Rd w B A xs) (hle : xs.length ≤ maxLen) :
    Calls Tryz.prog 73 #[.slice A xs.length cap, .int .i64 (k : Int)] w fun e w' => e = .returned (.int .u64 ((xs[k]?.getD 0 : Nat) : Int)) ∧ w' = w := by
  unfold maxLen at hle
  by_cases h : k < xs.length
  · obtain ⟨b, off, rfl, hlt, hc⟩ := hr.2 (by omega)
    have hcl := hc k h
    have hl := hr.limbs.getD k
    have hlk : xs[k] < 4294967296 := hr.limbs _ (List.getElem_mem h)
    clear hc
    have k0 : (0 : Int) ≤ k := by omega
    go_enter Tryz.func73, Tryz.ntmps73
    go_wp2
    go_ret
    exact ⟨by simp [List.getElem?_eq_getElem h], rfl⟩
  · have hz : Hid (xs[k]?.getD 0 = 0) := by show _ = _; rw [List.getElem?_eq_none (by omega)]; rfl
    go_enter Tryz.func73, Tryz.ntmps73
    go_wp2
    go_ret
    exact ⟨by rw [hz.out]; rfl, rfl⟩

set_option maxHeartbeats 400000 in
theorem cut_any (A : Option Addr) (cap : Nat) (xs : List Nat) (w : World) (B : Nat) (hr : Rd w B A xs) (hc : xs.length ≤ cap) (hle : cap ≤ maxLen) :
    Calls Tryz.prog 72 #[.slice A xs.length cap] w fun e w' => e = .returned (tidied A cap xs) ∧ w' = w := by
  unfold maxLen at hle
  go_enter Tryz.func72, Tryz.ntmps72
  go_wp2
  go_loop [3] (fun v => ∃ k : Nat, k ≤ xs.length ∧ v = .int .i64 (k : Int) ∧ Hid (∀ j, k ≤ j → j < xs.length → xs[j]?.getD 0 = 0)) (fun v => (intOf v).toNat)
  case atStart => exact ⟨xs.length, Nat.le_refl _, rfl, fun j h1 h2 => by omega⟩
  case round =>
    obtain ⟨k, hk, rfl, hz⟩ := hrel
    rcases Nat.eq_zero_or_pos k with h0 | h0
    · subst h0
      go_wp2
      go_ret
      exact ⟨ret_val (tidied_nil (.inl (by rw [trim_spec hr.limbs hk hz.out (.inl rfl)]; rfl))), rfl⟩
    · obtain ⟨b, off, rfl, hlt, hcell⟩ := hr.2 (by omega)
      have hcl := hcell (k - 1) (by omega)
      have hl := hr.limbs.getD (k - 1)
      have hk0 : (((k : Nat) : Int) == 0) = false := beq_eq_false_iff_ne.2 (by omega)
      have hk1 : decide ((0 : Int) < (k : Int)) = true := decide_eq_true (by omega)
      clear hcell
      by_cases hx : xs[k - 1]?.getD 0 = 0
      · have hx' : (((xs[k - 1]?.getD 0 : Nat) : Int) == 0) = true := by simp [hx]
        have hX := Lib.hid hx
        clear hx
        go_wp2
        go_round
        case rel => exact ⟨k - 1, by omega, by congr 1; omega, fun j h1 h2 => by rcases Nat.lt_or_ge j k with h3 | h3; (obtain rfl : j = k - 1 := by omega); exact hX.out; exact hz.out j h3 h2⟩
        case measure => simp [intOf]; omega
      · have hx' : (((xs[k - 1]?.getD 0 : Nat) : Int) == 0) = false := by simp; omega
        have hL : Hid ((lim (val xs)).length = k) := by rw [trim_spec hr.limbs hk hz.out (.inr hx), List.length_take]; show min k _ = k; omega
        by_cases hM : k ≤ 65536
        · go_wp2
          go_ret
          exact ⟨ret_val (tidied_cut hL.out h0 hM), rfl⟩
        · go_wp2
          go_ret
          exact ⟨ret_val (tidied_nil (.inr (by rw [hL.out]; omega))), rfl⟩
/-- cut of a slice of the call's own. -/
theorem cut_own {w : World} {base : Nat} {A : Option Addr} {n cap : Nat} {zs : List Nat} (h : w.ownsRow base 95 1 (.slice A n cap) n (u32s zs)) (hl : Limbs zs) :
    Calls Tryz.prog 72 #[.slice A n cap] w fun e w' => (∃ v, e = .returned v ∧ Own w base v (clip (val zs))) ∧ w' = w := by
  have hn : zs.length = n := by have := h.1; simp [u32s] at this; omega
  subst hn
  have ho : Own w base (.slice A zs.length cap) zs := h
  obtain ⟨A', cap', hv, h1, h2, hr⟩ := ho.rd hl
  injection hv with e1 e2 e3
  subst e1 e3
  exact (cut_any _ _ _ _ _ hr h1 h2).mono fun e w' ⟨he, hw⟩ => ⟨⟨_, he, tidied_own ho hl⟩, hw⟩

set_option maxHeartbeats 1000000 in
theorem rof_any (u : Nat) (w : World) (hu : u < 18446744073709551616) :
    Calls Tryz.prog 65 #[.int .u64 (u : Int)] w fun e w' => (∃ v, e = .returned v ∧ Own w' w.heap.size v (lim u)) ∧ Below w.heap.size w w' := by
  have hl : Limbs [u % 4294967296, u / 4294967296] := (Limbs.one (by omega)).cons (Nat.mod_lt _ (by decide))
  have ho : Own (w.alloc (.cells #[.int .u32 ((u : Int) % 4294967296), .int .u32 ((u : Int) / 4294967296)] 95)) w.heap.size (.slice (some ⟨w.heap.size, 0, none⟩) 2 2) [u % 4294967296, u / 4294967296] :=
    World.ownsRow_lit w _ 2 (Nat.le_refl _) (by decide) rfl
  obtain ⟨A, cap, hv, h1, h2, hr⟩ := ho.rd hl
  injection hv with e1 e2 e3
  subst e1 e3
  have c1 := cut_any _ _ _ _ _ hr h1 h2
  have ht := tidied_own ho hl
  rw [lim_two hu] at ht
  have HT := Lib.hid ht
  clear h1 h2 e2 hr ht ho
  go_enter Tryz.func65, Tryz.ntmps65
  go_wp2_with fail
  refine c1.mono ?_
  rintro e w' ⟨rfl, rfl⟩
  clear c1
  go_wp2
  go_ret
  exact ⟨⟨_, rfl, HT.out⟩, (Below.refl _ w).alloc (Nat.le_refl _) _⟩

end Go.Proofs.YtdkdgijcoialbaaGreatDoor

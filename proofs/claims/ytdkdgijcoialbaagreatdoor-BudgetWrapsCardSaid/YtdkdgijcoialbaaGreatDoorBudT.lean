/- Contracts: the reference's ten, Show. -/
import Derived.BigRegion
import Derived.Test.YtdkdgijcoialbaaGreatDoorPackN
import Derived.Test.YtdkdgijcoialbaaGreatDoorDecMath
import Derived.Test.YtdkdgijcoialbaaGreatDoorDecA
import Derived.Test.YtdkdgijcoialbaaGreatDoorPackD
namespace Go.Proofs.YtdkdgijcoialbaaGreatDoor
open Go.RowKit Go.Shelf

set_option linter.unusedVariables false

/-- What ten hands back. -/
def TenPost (xs : List Nat) (w : World) (e : Ending) (w' : World) : Prop :=
  (∃ v, e = .returned (.tuple #[v, .int .u32 ((val xs % 10 : Nat) : Int)]) ∧ Own w' w.heap.size v (lim (val xs / 10))) ∧ Below w.heap.size w w'
/-- A canonical number, divided by ten, has at most one limb less. -/
theorem ten_len {xs : List Nat} (h : Canon xs) : xs.length ≤ (lim (val xs / 10)).length + 1 := by
  rcases Nat.eq_zero_or_pos xs.length with h0 | h0
  · omega
  · have h1 := canon_val_ge h (fun e => by rw [e] at h0; simp at h0)
    rcases Nat.lt_or_ge ((lim (val xs / 10)).length + 1) xs.length with h2 | h2
    · exfalso
      have h3 := lim_length_le.1 (show (lim (val xs / 10)).length ≤ xs.length - 2 by omega)
      have h4 : 4294967296 ^ (xs.length - 1) = 4294967296 ^ (xs.length - 2) * 4294967296 := by
        rw [← Nat.pow_succ]; congr 1; omega
      rw [h4] at h1
      generalize 4294967296 ^ (xs.length - 2) = P at *
      omega
    · exact h2

set_option maxRecDepth 100000 in
set_option maxHeartbeats 4000000 in
theorem rten_any (A : Option Addr) (cap : Nat) (xs : List Nat) (w : World) (hr : Rd w w.heap.size A xs) (hc : Canon xs) (hl : xs.length ≤ 65536) (h0 : 0 < xs.length) :
    Calls Tryz.prog 68 #[.slice A xs.length cap] w (TenPost xs w) := by
  obtain ⟨i0, hi, hz0, hz1, hz2⟩ := info_parts info32
  go_enter Tryz.func68, Tryz.ntmps68
  go_wp2_with (at_make; refine wpList_make_full _ rfl _ _ 25 rfl w.heap.size 95 i0 (.int .u32 0) 1 Tryz.underlying25 hi hz0 hz1 .i64 .i64 _ _ xs.length rfl rfl rfl rfl (by rw [hz2]; omega) (by unfold maxLen; omega) (Nat.le_refl _) ?_; intro w1 hown0 hgrow0)
  have hB0 : Below w.heap.size w w1 := (Below.refl _ w).grown hgrow0 (Nat.le_refl _) (fun _ h => by cases h)
  have hO0 := own_made hown0
  clear hown0 hgrow0
  go_loopw [5, 6] (fun l i wr => ∃ (k r : Nat) (X : List Nat), k ≤ xs.length ∧ i = .int .i64 ((k : Int) - 1) ∧ l = .int .u64 (r : Int) ∧ OI xs 10 k r X ∧ Own wr w.heap.size (.slice (some ⟨w.heap.size, 0, none⟩) X.length xs.length) X ∧ Below w.heap.size w wr) (fun _ i _ => (intOf i + 1).toNat)
  case atStart => exact ⟨xs.length, 0, _, Nat.le_refl _, rfl, rfl, OI.start xs (by decide), hO0, hB0⟩
  case round =>
    clear hB0 hO0
    obtain ⟨k, r, X, hk, rfl, rfl, hI, hX, hB⟩ := hrel
    have hrm := hI.lt
    have hXl := hI.ql
    rcases Nat.eq_zero_or_pos k with hk0 | hk0
    · subst hk0
      obtain ⟨d1, d2⟩ := hI.done
      have hten := ten_len hc
      have hR := Lib.hid d2
      have hB' := Lib.hid hB
      have hX0 := hX
      obtain ⟨m, hm⟩ : ∃ m, xs.length = m + 1 := ⟨xs.length - 1, by omega⟩
      have hcx := hX.cellAt (j := m) (by omega)
      have htr := hX.trimmed hI.qs
      have hXlen := Lib.hid hXl
      have hlX : (lim (val X)).length ≤ X.length := lim_length_le.2 (val_lt hI.qs)
      have hz : X[m]?.getD 0 = 0 → (lim (val X)).length = m := fun h => by
        have h6 : val X < 4294967296 ^ m := by
          have h7 := val_take_succ X m
          rw [List.take_of_length_le (by omega), h, Nat.mul_zero, Nat.add_zero] at h7
          rw [h7]
          have h8 := val_lt (hI.qs.take m)
          rwa [List.length_take, Nat.min_eq_left (by omega)] at h8
        have := lim_length_le.2 h6
        rw [d1] at *
        omega
      have hnz : X[m]?.getD 0 ≠ 0 → (lim (val X)).length = m + 1 := fun h => by
        rcases Nat.lt_or_ge (lim (val X)).length (m + 1) with h6 | h6
        · exfalso
          have h7 := lim_length_le.1 (show (lim (val X)).length ≤ m by omega)
          have h8 := val_take_succ X m
          rw [List.take_of_length_le (by omega)] at h8
          have h9 : 4294967296 ^ m * 1 ≤ 4294967296 ^ m * X[m]?.getD 0 := Nat.mul_le_mul_left _ (by omega)
          omega
        · omega
      rw [d1] at htr hz hnz
      have HTR := Lib.hid htr
      have HZ := Lib.hid hz
      have HNZ := Lib.hid hnz
      clear hX hX0 hI hB d1 d2 hten hc hr htr hz hnz hlX h0 hXl
      generalize X[m]?.getD 0 = x at *
      have hidx : ((m : Int) + 1) - 1 = (m : Int) := by omega
      generalize xs.length = nl at *
      subst hm
      by_cases hx0 : x = 0
      · have HL := Lib.hid (HZ.out hx0)
        subst hx0
        have hmm : m ≤ m + 1 := by omega
        go_wp2
        go_ret2
        exact ⟨⟨_, by rw [← hR.out]; first | rfl | (congr 4; omega), by have := HTR.out; rw [HL.out] at this; exact this⟩, hB'.out⟩
      · have HL := Lib.hid (HNZ.out hx0)
        have hxi : ¬ ((x : Int) = 0) := by omega
        go_wp2
        go_ret2
        exact ⟨⟨_, by rw [← hR.out]; first | rfl | (congr 4; omega), by have := HTR.out; rw [HL.out] at this; exact this⟩, hB'.out⟩
    · obtain ⟨j, rfl⟩ : ∃ j, k = j + 1 := ⟨k - 1, by omega⟩
      obtain ⟨b, o, rfl, hb, hcell⟩ := hr.2 (by omega)
      have hyc := (hB.cell (p := ⟨b, o + j, none⟩) hb).trans (hcell j (by omega))
      have hyl := hr.limbs.getD j
      have hst := Lib.hid fun t ht => hI.step (t := t) (by omega) hyl ht
      generalize hy : xs[j]?.getD 0 = y at *
      have hxc := hX.cellAt (j := j) (by omega)
      have hxf := World.ownsRow.frozenAt hX j
      have hput := Lib.hid fun v => hX.put (j := j) (v := v)
      have hbe := Lib.hid fun v => hB.setCell (p := ⟨w.heap.size, j, none⟩) (Nat.le_refl _) v
      have hxb := hI.qs.getD j
      generalize X[j]?.getD 0 = x0 at *
      obtain ⟨t, ht⟩ : ∃ t : Nat, t = r * 4294967296 + y := ⟨_, rfl⟩
      have q1 : (t : Int) / 10 = ((t / 10 : Nat) : Int) := by simp
      have q2 : (t : Int) % 10 = ((t % 10 : Nat) : Int) := by simp
      have q3 : t / 10 < 4294967296 := by rw [ht]; exact oi_bound hyl hrm
      have q4 : t % 10 < 10 := Nat.mod_lt _ (by decide)
      have HT := Lib.hid (hst.out t ht)
      have q5 : (r : Int) * 4294967296 + (y : Int) = (t : Int) := by omega
      have htb : t < 18446744073709551616 := by omega
      have hi1 : ((j + 1 : Nat) : Int) - 1 = (j : Int) := by omega
      have hrb : r < 10 := hrm
      generalize hq : t / 10 = q at *
      generalize hs : t % 10 = s at *
      clear hy hI hX hB hcell hr ht hst hq hs hXl
      rw [hi1]
      go_wp2
      go_roundw
      case rel => exact ⟨j, s, X.set j q, by omega, rfl, by rw [q2], HT.out, hput.out q, hbe.out _⟩
      case measure => simp [intOf]

end Go.Proofs.YtdkdgijcoialbaaGreatDoor

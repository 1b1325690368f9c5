/- Words for memory: a slice of limbs that is read; one that the call owns. -/
import Derived.WalkKit
import Derived.Lib.Hide
import Derived.Test.YtlfhpoffphljfaaNatMath
namespace Go.Proofs.Ytlfhpoffphljfaa
open Go.RowKit

def lv (x : Nat) : Value := .int .u32 (x : Int)
def u32s (xs : List Nat) : List Value := xs.map lv

/-- A slice at the address A, as long as the list, holds the limbs xs, in a block below B. -/
def Rd (w : World) (B : Nat) (A : Option Addr) (xs : List Nat) : Prop :=
  Limbs xs ∧ (0 < xs.length → ∃ b off, A = some ⟨b, off, none⟩ ∧ b < B ∧ ∀ j, j < xs.length → w.cell? ⟨b, off + j, none⟩ = some (.int .u32 ((xs[j]?.getD 0 : Nat) : Int)))

theorem Rd.limbs {w : World} {B : Nat} {A : Option Addr} {xs : List Nat} (h : Rd w B A xs) : Limbs xs := h.1
theorem Rd.nil (w : World) (B : Nat) (A : Option Addr) : Rd w B A [] := ⟨limbs_nil, fun h => absurd h (by simp)⟩
theorem Rd.below {w w' : World} {B B' : Nat} {A : Option Addr} {xs : List Nat} (h : Rd w B A xs) (hb : Below B' w w') (hB : B ≤ B') : Rd w' B A xs :=
  ⟨h.1, fun hn => by
    obtain ⟨b, off, e, hlt, hc⟩ := h.2 hn
    exact ⟨b, off, e, hlt, fun j hj => (hb.cell (p := ⟨b, off + j, none⟩) (by simp; omega)).trans (hc j hj)⟩⟩
theorem Rd.more {w : World} {B B' : Nat} {A : Option Addr} {xs : List Nat} (h : Rd w B A xs) (hB : B ≤ B') : Rd w B' A xs :=
  ⟨h.1, fun hn => by
    obtain ⟨b, off, e, hlt, hc⟩ := h.2 hn
    exact ⟨b, off, e, by omega, hc⟩⟩
theorem Rd.take {w : World} {B : Nat} {A : Option Addr} {xs : List Nat} (h : Rd w B A xs) (k : Nat) : Rd w B A (xs.take k) :=
  ⟨h.1.take k, fun hn => by
    have hlen : (xs.take k).length ≤ xs.length := by rw [List.length_take]; omega
    obtain ⟨b, off, e, hlt, hc⟩ := h.2 (by omega)
    refine ⟨b, off, e, hlt, fun j hj => ?_⟩
    rw [hc j (by omega), List.getElem?_take, if_pos (by rw [List.length_take] at hj; omega)]⟩

/-- The slice v is the call's own (in new memory, from block B on), and holds just xs. -/
def Own (w : World) (B : Nat) (v : Value) (xs : List Nat) : Prop := w.ownsRow B 28 1 v xs.length (u32s xs)

theorem Own.nil (w : World) (B : Nat) : Own w B (.slice none 0 0) [] := World.ownsRow_nil _ _ _ _
/-- An own slice's address, and that it is read. -/
theorem Own.rd {w : World} {B : Nat} {v : Value} {xs : List Nat} (h : Own w B v xs) (hl : Limbs xs) : ∃ A cap, v = .slice A xs.length cap ∧ xs.length ≤ cap ∧ cap ≤ maxLen ∧ Rd w w.heap.size A xs := by
  rcases h.2 with ⟨rfl, h0⟩ | ⟨g, cap, cur, rfl, hg, hh, hle, hm, hs, ht⟩
  · have : xs = [] := List.eq_nil_of_length_eq_zero h0
    subst this
    exact ⟨none, 0, rfl, Nat.le_refl _, by decide, Rd.nil _ _ _⟩
  · refine ⟨_, cap, rfl, hle, hm, hl, fun hn => ⟨g, 0, rfl, (Array.getElem?_eq_some_iff.1 hh).1, fun j hj => ?_⟩⟩
    have hc := World.ownsRow.cellAt h j (by omega)
    rw [Nat.zero_add, hc, u32s, List.getElem?_map, List.getElem?_eq_getElem hj]
    rfl
theorem Own.more {w : World} {B B' : Nat} {v : Value} {xs : List Nat} (h : Own w B v xs) (hB : B' ≤ B) : Own w B' v xs := by
  refine ⟨h.1, ?_⟩
  rcases h.2 with h2 | ⟨g, cap, cur, e, hg, r⟩
  · exact .inl h2
  · exact .inr ⟨g, cap, cur, e, by omega, r⟩
theorem Own.below {w w' : World} {B : Nat} {v : Value} {xs : List Nat} (h : Own w B v xs) (hb : Below w.heap.size w w') : Own w' B v xs := by
  refine ⟨h.1, ?_⟩
  rcases h.2 with h2 | ⟨g, cap, cur, e, hg, hh, r⟩
  · exact .inl h2
  · exact .inr ⟨g, cap, cur, e, hg, (hb.block g (Array.getElem?_eq_some_iff.1 hh).1).trans hh, r⟩
/-- The first k places of an own slice. -/
theorem Own.cut {w : World} {B : Nat} {A : Option Addr} {n cap : Nat} {xs : List Nat} (h : Own w B (.slice A n cap) xs) (k : Nat) (hk : k ≤ xs.length) : Own w B (.slice A k cap) (xs.take k) := by
  have hlen : (xs.take k).length = k := by rw [List.length_take]; omega
  refine ⟨by simp [u32s], ?_⟩
  rcases h.2 with ⟨e, h0⟩ | ⟨g, cap', cur, e, hg, hh, hle, hm, hs, ht⟩
  · have : k = 0 := by omega
    injection e with e1 e2 e3
    subst this
    exact .inl ⟨by rw [e1, e3], by simp⟩
  · injection e with e1 e2 e3
    subst e1 e3
    refine .inr ⟨g, cap, cur, by rw [hlen], hg, hh, by omega, hm, hs, ?_⟩
    have := congrArg (List.take k) ht
    rw [List.take_take] at this
    rw [hlen, Nat.mul_one, u32s, List.map_take, ← u32s, ← this, Nat.mul_one, Nat.min_eq_left hk]

end Go.Proofs.Ytlfhpoffphljfaa

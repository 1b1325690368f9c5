/- Several texts in one. -/
import Derived.Below
import Derived.WalkKit
import Derived.Lib.Hide
import Derived.BigQuiet
import Derived.Deep.QuietTactic
import Derived.WalkSpells
import Derived.WalkLawsBesides
import Derived.Test.YtdkdgijcoialbaaGreatDoorRows
import Derived.Lib.ItoaNum
import Derived.Test.YtdkdgijcoialbaaGreatDoorShelf
import Derived.Laws.BitsAllLaws
import Derived.RangeFuncNested
import Derived.RangeFuncBound
import Derived.RangeFuncCalls
import Derived.RangeFuncLeaves
import Derived.RangeFuncBox
import Derived.Shelf.Abstract
import Derived.Shelf.RegionOpen
import Derived.OwnWalkIn
import Derived.TacticsInMore
import Derived.LoopNIn
import Derived.LoopIn
import Derived.Maps.AppendAt
import Derived.BigRegionIn
import Derived.Sort.QuietIn
import Derived.OpenShut

/- Plain mathematics of naturals by limbs of 32 bits: lists of numbers and the natural that they are. Imports nothing of the program. -/
namespace Go.Proofs.YtdkdgijcoialbaaGreatDoor

/-- The natural of limbs, the least one first. -/
def val : List Nat → Nat
  | [] => 0
  | x :: r => x + 4294967296 * val r

def Limbs (xs : List Nat) : Prop := ∀ x ∈ xs, x < 4294967296

theorem limbs_nil : Limbs [] := fun _ h => by cases h
theorem Limbs.cons {x : Nat} {r : List Nat} (hx : x < 4294967296) (h : Limbs r) : Limbs (x :: r) := fun y hy => by
  rcases List.mem_cons.1 hy with rfl | h'
  · exact hx
  · exact h y h'
theorem Limbs.head {x : Nat} {r : List Nat} (h : Limbs (x :: r)) : x < 4294967296 := h x (by simp)
theorem Limbs.tail {x : Nat} {r : List Nat} (h : Limbs (x :: r)) : Limbs r := fun y hy => h y (by simp [hy])
theorem Limbs.append {xs ys : List Nat} (h : Limbs xs) (k : Limbs ys) : Limbs (xs ++ ys) := fun y hy => by
  rcases List.mem_append.1 hy with h' | h'
  · exact h y h'
  · exact k y h'
theorem Limbs.take {xs : List Nat} (h : Limbs xs) (k : Nat) : Limbs (xs.take k) := fun y hy => h y (List.mem_of_mem_take hy)
theorem Limbs.drop {xs : List Nat} (h : Limbs xs) (k : Nat) : Limbs (xs.drop k) := fun y hy => h y (List.mem_of_mem_drop hy)
theorem Limbs.getD {xs : List Nat} (h : Limbs xs) (j : Nat) : xs[j]?.getD 0 < 4294967296 := by
  rcases Nat.lt_or_ge j xs.length with hj | hj
  · rw [List.getElem?_eq_getElem hj]; exact h _ (List.getElem_mem hj)
  · rw [List.getElem?_eq_none hj]; decide
theorem Limbs.one {x : Nat} (hx : x < 4294967296) : Limbs [x] := limbs_nil.cons hx
theorem limbs_replicate (k : Nat) : Limbs (List.replicate k 0) := fun y hy => by rw [(List.mem_replicate.1 hy).2]; decide

theorem val_append (xs ys : List Nat) : val (xs ++ ys) = val xs + 4294967296 ^ xs.length * val ys := by
  induction xs with
  | nil => simp [val]
  | cons x r ih => simp only [List.cons_append, val, ih, List.length_cons, Nat.pow_succ, Nat.mul_add]; rw [Nat.mul_comm (4294967296 ^ r.length) 4294967296, Nat.mul_assoc]; omega
theorem val_snoc (xs : List Nat) (x : Nat) : val (xs ++ [x]) = val xs + 4294967296 ^ xs.length * x := by rw [val_append]; simp [val]
theorem val_lt {xs : List Nat} (h : Limbs xs) : val xs < 4294967296 ^ xs.length := by
  induction xs with
  | nil => simp [val]
  | cons x r ih =>
    have := ih h.tail
    have hx := h.head
    simp only [val, List.length_cons, Nat.pow_succ]
    have : 4294967296 * (val r + 1) ≤ 4294967296 * 4294967296 ^ r.length := Nat.mul_le_mul_left _ this
    rw [Nat.mul_comm (4294967296 ^ r.length)]
    omega
theorem val_replicate (k : Nat) : val (List.replicate k 0) = 0 := by
  induction k with
  | zero => rfl
  | succ k ih => simp [List.replicate_succ, val, ih]
theorem val_take_succ (xs : List Nat) (k : Nat) : val (xs.take (k + 1)) = val (xs.take k) + 4294967296 ^ k * (xs[k]?.getD 0) := by
  rcases Nat.lt_or_ge k xs.length with hk | hk
  · rw [List.take_succ_eq_append_getElem hk, val_snoc, List.getElem?_eq_getElem hk, List.length_take, Nat.min_eq_left (by omega)]; rfl
  · rw [List.take_of_length_le (by omega), List.take_of_length_le hk, List.getElem?_eq_none hk]; simp
theorem val_zero_of_all {xs : List Nat} (h : ∀ j, j < xs.length → xs[j]?.getD 0 = 0) : val xs = 0 := by
  induction xs with
  | nil => rfl
  | cons x r ih =>
    have h0 := h 0 (by simp)
    have := ih fun j hj => by have := h (j + 1) (by simp; omega); simpa using this
    simp at h0
    simp [val, h0, this]

/-- Canonical: the last limb is not 0. -/
def Canon (xs : List Nat) : Prop := Limbs xs ∧ xs.getLast? ≠ some 0

theorem canon_nil : Canon [] := ⟨limbs_nil, by simp⟩
theorem Canon.tail {x : Nat} {r : List Nat} (h : Canon (x :: r)) : Canon r := by
  refine ⟨h.1.tail, ?_⟩
  cases r with
  | nil => simp
  | cons y s => have := h.2; simpa [List.getLast?_cons_cons] using this
theorem Canon.val_pos {xs : List Nat} (h : Canon xs) (hn : xs ≠ []) : 0 < val xs := by
  induction xs with
  | nil => exact absurd rfl hn
  | cons x r ih =>
    cases r with
    | nil => have := h.2; simp [val] at this ⊢; omega
    | cons y s => have := ih h.tail (by simp); simp only [val] at this ⊢; omega
theorem canon_inj : ∀ {xs ys : List Nat}, Canon xs → Canon ys → val xs = val ys → xs = ys
  | [], [], _, _, _ => rfl
  | [], y :: s, _, h, e => by have := h.val_pos (by simp); simp [val] at e this; omega
  | x :: r, [], h, _, e => by have := h.val_pos (by simp); simp [val] at e this; omega
  | x :: r, y :: s, h, k, e => by
    have hx := h.1.head; have hy := k.1.head
    simp only [val] at e
    obtain rfl : x = y := by omega
    rw [canon_inj h.tail k.tail (by omega)]

/-- The limbs of a natural. -/
def lim (n : Nat) : List Nat := if h : n = 0 then [] else n % 4294967296 :: lim (n / 4294967296)
termination_by n
decreasing_by exact Nat.div_lt_self (by omega) (by decide)

theorem lim_zero : lim 0 = [] := by rw [lim]; rfl
theorem lim_pos {n : Nat} (h : n ≠ 0) : lim n = n % 4294967296 :: lim (n / 4294967296) := by rw [lim, dif_neg h]
theorem val_lim (n : Nat) : val (lim n) = n := by
  induction n using Nat.strongRecOn with
  | ind n ih =>
    by_cases h : n = 0
    · subst h; rw [lim_zero]; rfl
    · rw [lim_pos h, val, ih _ (Nat.div_lt_self (by omega) (by decide))]; omega
theorem canon_lim (n : Nat) : Canon (lim n) := by
  induction n using Nat.strongRecOn with
  | ind n ih =>
    by_cases h : n = 0
    · subst h; rw [lim_zero]; exact canon_nil
    · have hc := ih _ (Nat.div_lt_self (n := n) (k := 4294967296) (by omega) (by decide))
      rw [lim_pos h]
      refine ⟨hc.1.cons (Nat.mod_lt _ (by decide)), ?_⟩
      by_cases h2 : n / 4294967296 = 0
      · rw [h2, lim_zero]; simp; omega
      · rw [lim_pos h2] at hc ⊢; rw [List.getLast?_cons_cons]; exact hc.2
theorem lim_val {xs : List Nat} (h : Canon xs) : lim (val xs) = xs := canon_inj (canon_lim _) h (val_lim _)
theorem lim_limbs (n : Nat) : Limbs (lim n) := (canon_lim n).1
theorem lim_eq_nil {n : Nat} : lim n = [] ↔ n = 0 := ⟨fun h => by rw [← val_lim n, h]; rfl, fun h => by rw [h]; exact lim_zero⟩
theorem lim_inj {n m : Nat} (h : lim n = lim m) : n = m := by rw [← val_lim n, h, val_lim]
theorem canon_val_ge {xs : List Nat} (h : Canon xs) (hn : xs ≠ []) : 4294967296 ^ (xs.length - 1) ≤ val xs := by
  induction xs with
  | nil => exact absurd rfl hn
  | cons x r ih =>
    cases r with
    | nil => have := h.val_pos (by simp); simp; omega
    | cons y s =>
      have := ih h.tail (by simp)
      simp only [val, List.length_cons, Nat.add_sub_cancel] at this ⊢
      rw [Nat.pow_succ, Nat.mul_comm]
      have := Nat.mul_le_mul_left 4294967296 this
      omega
theorem lim_length_le {n k : Nat} : (lim n).length ≤ k ↔ n < 4294967296 ^ k := by
  constructor
  · intro h
    have := val_lt (lim_limbs n)
    rw [val_lim] at this
    exact Nat.lt_of_lt_of_le this (Nat.pow_le_pow_right (by decide) h)
  · intro h
    by_cases h0 : n = 0
    · subst h0; rw [lim_zero]; simp
    · have hn : lim n ≠ [] := fun e => h0 (lim_eq_nil.1 e)
      have := canon_val_ge (canon_lim n) hn
      rw [val_lim] at this
      have h2 := Nat.lt_of_le_of_lt this h
      have := (Nat.pow_lt_pow_iff_right (a := 4294967296) (by decide)).1 h2
      have : 0 < (lim n).length := List.length_pos_iff.2 hn
      omega

/-- The limbs of a natural, if there are not too many: else none. -/
def clip (n : Nat) : List Nat := if (lim n).length ≤ 65536 then lim n else []
def mayb (xs : List Nat) : Bool := decide (xs.length ≤ 65536 ∧ xs.getLast? ≠ some 0)

theorem mayb_iff {xs : List Nat} : mayb xs = true ↔ xs.length ≤ 65536 ∧ xs.getLast? ≠ some 0 := by simp [mayb]
theorem mayb_nil : mayb [] = true := by simp [mayb]
theorem mayb_canon {xs : List Nat} (h : Limbs xs) (hm : mayb xs = true) : Canon xs := ⟨h, (mayb_iff.1 hm).2⟩
theorem mayb_lim {n : Nat} (h : (lim n).length ≤ 65536) : mayb (lim n) = true := mayb_iff.2 ⟨h, (canon_lim n).2⟩
theorem clip_may (n : Nat) : mayb (clip n) = true := by
  unfold clip; split
  · exact mayb_lim ‹_›
  · exact mayb_nil
theorem clip_limbs (n : Nat) : Limbs (clip n) := by
  unfold clip; split
  · exact lim_limbs n
  · exact limbs_nil
theorem clip_of {n : Nat} (h : (lim n).length ≤ 65536) : clip n = lim n := if_pos h
theorem clip_not {n : Nat} (h : ¬ (lim n).length ≤ 65536) : clip n = [] := if_neg h
theorem clip_val {xs : List Nat} (h : Limbs xs) (hm : mayb xs = true) : clip (val xs) = xs := by
  have e := lim_val (mayb_canon h hm)
  rw [clip_of (by rw [e]; exact (mayb_iff.1 hm).1), e]
theorem clip_length (n : Nat) : (clip n).length ≤ 65536 := (mayb_iff.1 (clip_may n)).1

/-- What is left without 0s behind is the natural's limbs. -/
theorem trim_spec {xs : List Nat} (h : Limbs xs) {k : Nat} (hk : k ≤ xs.length) (hz : ∀ j, k ≤ j → j < xs.length → xs[j]?.getD 0 = 0) (hl : k = 0 ∨ xs[k - 1]?.getD 0 ≠ 0) : lim (val xs) = xs.take k := by
  have hv : val xs = val (xs.take k) := by
    conv => lhs; rw [← List.take_append_drop k xs, val_append]
    rw [val_zero_of_all (xs := xs.drop k) (fun j hj => by rw [List.getElem?_drop]; exact hz _ (by omega) (by simp at hj; omega))]
    simp
  rw [hv]
  refine lim_val ⟨h.take k, ?_⟩
  rcases hl with rfl | hl
  · simp
  · rw [List.getLast?_eq_getElem?, List.length_take, Nat.min_eq_left hk]
    intro e
    rcases Nat.eq_zero_or_pos k with h0 | h0
    · subst h0; simp at e
    · rw [List.getElem?_take, if_pos (by omega)] at e
      rw [e] at hl; exact hl rfl

theorem lim_val_take {xs : List Nat} (h : Limbs xs) : ∃ k, k ≤ xs.length ∧ lim (val xs) = xs.take k := by
  induction xs with
  | nil => exact ⟨0, Nat.le_refl _, by simp [val, lim_zero]⟩
  | cons x r ih =>
    obtain ⟨k, hk, e⟩ := ih h.tail
    by_cases h0 : val (x :: r) = 0
    · exact ⟨0, by simp, by rw [h0, lim_zero]; rfl⟩
    · refine ⟨k + 1, by simp; omega, ?_⟩
      have hx := h.head
      rw [lim_pos h0, List.take_succ_cons, ← e, val]
      congr 1
      · omega
      · congr 1; omega

/-! ### how two stand -/
theorem val_split (xs : List Nat) (k : Nat) : val xs = val (xs.take k) + 4294967296 ^ (min k xs.length) * val (xs.drop k) := by
  conv => lhs; rw [← List.take_append_drop k xs, val_append, List.length_take]
theorem val_at {xs : List Nat} {k : Nat} (hk : k < xs.length) : val xs = val (xs.take k) + 4294967296 ^ k * (xs[k]?.getD 0 + 4294967296 * val (xs.drop (k + 1))) := by
  rw [val_split xs k, Nat.min_eq_left (by omega), List.drop_eq_getElem_cons hk, List.getElem?_eq_getElem hk]; rfl
theorem drop_congr {xs ys : List Nat} {k : Nat} (hl : xs.length = ys.length) (h : ∀ j, k ≤ j → j < xs.length → xs[j]?.getD 0 = ys[j]?.getD 0) : xs.drop k = ys.drop k := by
  apply List.ext_getElem
  · simp [hl]
  · intro j h1 h2
    have h3 : k + j < xs.length := by simp at h1; omega
    have := h (k + j) (by omega) h3
    rw [List.getElem?_eq_getElem h3, List.getElem?_eq_getElem (by omega)] at this
    simpa using this
theorem val_lt_at {xs ys : List Nat} {k : Nat} (hx : Limbs xs) (hl : xs.length = ys.length) (hk : k < xs.length) (h : ∀ j, k + 1 ≤ j → j < xs.length → xs[j]?.getD 0 = ys[j]?.getD 0) (hlt : xs[k]?.getD 0 < ys[k]?.getD 0) : val xs < val ys := by
  rw [val_at hk, val_at (xs := ys) (k := k) (by omega), drop_congr hl h]
  have h1 := val_lt (hx.take k)
  rw [List.length_take, Nat.min_eq_left (by omega)] at h1
  have h2 : 4294967296 ^ k * (xs[k]?.getD 0 + 4294967296 * val (ys.drop (k + 1)) + 1) ≤ 4294967296 ^ k * (ys[k]?.getD 0 + 4294967296 * val (ys.drop (k + 1))) := Nat.mul_le_mul_left _ (by omega)
  rw [Nat.mul_add, Nat.mul_one] at h2
  omega
theorem val_lt_len {xs ys : List Nat} (hx : Limbs xs) (hy : Canon ys) (h : xs.length < ys.length) : val xs < val ys := by
  have h1 := val_lt hx
  have h2 := canon_val_ge hy (fun e => by subst e; simp at h)
  have h3 : 4294967296 ^ xs.length ≤ 4294967296 ^ (ys.length - 1) := Nat.pow_le_pow_right (by decide) (by omega)
  omega

def cmpN (a b : Nat) : Int := if a < b then -1 else if b < a then 1 else 0
theorem cmpN_lt {a b : Nat} (h : a < b) : cmpN a b = -1 := by unfold cmpN; rw [if_pos h]
theorem cmpN_gt {a b : Nat} (h : b < a) : cmpN a b = 1 := by unfold cmpN; rw [if_neg (by omega), if_pos h]
theorem cmpN_eq {a b : Nat} (h : a = b) : cmpN a b = 0 := by unfold cmpN; rw [if_neg (by omega), if_neg (by omega)]
def sCmp (xs ys : List Nat) : Int := if mayb xs && mayb ys then cmpN (val xs) (val ys) else 0
theorem sCmp_no {xs ys : List Nat} (h : (mayb xs && mayb ys) = false) : sCmp xs ys = 0 := by unfold sCmp; rw [h]; rfl
theorem sCmp_yes {xs ys : List Nat} (h : (mayb xs && mayb ys) = true) : sCmp xs ys = cmpN (val xs) (val ys) := by unfold sCmp; rw [h]; rfl

end Go.Proofs.YtdkdgijcoialbaaGreatDoor

/- Words for memory: a slice of limbs that is read; one that the call owns. -/
namespace Go.Proofs.YtdkdgijcoialbaaGreatDoor
open Go.RowKit

def lv (x : Nat) : Value := .int .u32 (x : Int)
def u32s (xs : List Nat) : List Value := xs.map lv

/-- A slice at the address A, as long as the list, holds the limbs xs, in a block below B. -/
def Rd (w : World) (B : Nat) (A : Option Addr) (xs : List Nat) : Prop :=
  Limbs xs ∧ (0 < xs.length → ∃ b off, A = some ⟨b, off, none⟩ ∧ b < B ∧ ∀ j, j < xs.length → w.cell? ⟨b, off + j, none⟩ = some (.int .u32 ((xs[j]?.getD 0 : Nat) : Int)))

theorem Rd.limbs {w : World} {B : Nat} {A : Option Addr} {xs : List Nat} (h : Rd w B A xs) : Limbs xs := h.1
theorem Rd.nil (w : World) (B : Nat) (A : Option Addr) : Rd w B A [] := ⟨limbs_nil, fun h => absurd h (by simp)⟩
theorem Rd.below {w w' : World} {B B' : Nat} {A : Option Addr} {xs : List Nat} (h : Rd w B A xs) (hb : Below B' w w') (hB : B ≤ B') : Rd w' B A xs :=
  ⟨h.1, fun hn => by
    obtain ⟨b, off, e, hlt, hc⟩ := h.2 hn
    exact ⟨b, off, e, hlt, fun j hj => (hb.cell (p := ⟨b, off + j, none⟩) (by simp; omega)).trans (hc j hj)⟩⟩
theorem Rd.more {w : World} {B B' : Nat} {A : Option Addr} {xs : List Nat} (h : Rd w B A xs) (hB : B ≤ B') : Rd w B' A xs :=
  ⟨h.1, fun hn => by
    obtain ⟨b, off, e, hlt, hc⟩ := h.2 hn
    exact ⟨b, off, e, by omega, hc⟩⟩
theorem Rd.take {w : World} {B : Nat} {A : Option Addr} {xs : List Nat} (h : Rd w B A xs) (k : Nat) : Rd w B A (xs.take k) :=
  ⟨h.1.take k, fun hn => by
    have hlen : (xs.take k).length ≤ xs.length := by rw [List.length_take]; omega
    obtain ⟨b, off, e, hlt, hc⟩ := h.2 (by omega)
    refine ⟨b, off, e, hlt, fun j hj => ?_⟩
    rw [hc j (by omega), List.getElem?_take, if_pos (by rw [List.length_take] at hj; omega)]⟩

/-- The slice v is the call's own (in new memory, from block B on), and holds just xs. -/
def Own (w : World) (B : Nat) (v : Value) (xs : List Nat) : Prop := w.ownsRow B 95 1 v xs.length (u32s xs)

theorem Own.nil (w : World) (B : Nat) : Own w B (.slice none 0 0) [] := World.ownsRow_nil _ _ _ _
/-- An own slice's address, and that it is read. -/
theorem Own.rd {w : World} {B : Nat} {v : Value} {xs : List Nat} (h : Own w B v xs) (hl : Limbs xs) : ∃ A cap, v = .slice A xs.length cap ∧ xs.length ≤ cap ∧ cap ≤ maxLen ∧ Rd w w.heap.size A xs := by
  rcases h.2 with ⟨rfl, h0⟩ | ⟨g, cap, cur, rfl, hg, hh, hle, hm, hs, ht⟩
  · have : xs = [] := List.eq_nil_of_length_eq_zero h0
    subst this
    exact ⟨none, 0, rfl, Nat.le_refl _, by decide, Rd.nil _ _ _⟩
  · refine ⟨_, cap, rfl, hle, hm, hl, fun hn => ⟨g, 0, rfl, (Array.getElem?_eq_some_iff.1 hh).1, fun j hj => ?_⟩⟩
    have hc := World.ownsRow.cellAt h j (by omega)
    rw [Nat.zero_add, hc, u32s, List.getElem?_map, List.getElem?_eq_getElem hj]
    rfl
theorem Own.more {w : World} {B B' : Nat} {v : Value} {xs : List Nat} (h : Own w B v xs) (hB : B' ≤ B) : Own w B' v xs := by
  refine ⟨h.1, ?_⟩
  rcases h.2 with h2 | ⟨g, cap, cur, e, hg, r⟩
  · exact .inl h2
  · exact .inr ⟨g, cap, cur, e, by omega, r⟩
theorem Own.below {w w' : World} {B : Nat} {v : Value} {xs : List Nat} (h : Own w B v xs) (hb : Below w.heap.size w w') : Own w' B v xs := by
  refine ⟨h.1, ?_⟩
  rcases h.2 with h2 | ⟨g, cap, cur, e, hg, hh, r⟩
  · exact .inl h2
  · exact .inr ⟨g, cap, cur, e, hg, (hb.block g (Array.getElem?_eq_some_iff.1 hh).1).trans hh, r⟩
/-- The first k places of an own slice. -/
theorem Own.cut {w : World} {B : Nat} {A : Option Addr} {n cap : Nat} {xs : List Nat} (h : Own w B (.slice A n cap) xs) (k : Nat) (hk : k ≤ xs.length) : Own w B (.slice A k cap) (xs.take k) := by
  have hlen : (xs.take k).length = k := by rw [List.length_take]; omega
  refine ⟨by simp [u32s], ?_⟩
  rcases h.2 with ⟨e, h0⟩ | ⟨g, cap', cur, e, hg, hh, hle, hm, hs, ht⟩
  · have : k = 0 := by omega
    injection e with e1 e2 e3
    subst this
    exact .inl ⟨by rw [e1, e3], by simp⟩
  · injection e with e1 e2 e3
    subst e1 e3
    refine .inr ⟨g, cap, cur, by rw [hlen], hg, hh, by omega, hm, hs, ?_⟩
    have := congrArg (List.take k) ht
    rw [List.take_take] at this
    rw [hlen, Nat.mul_one, u32s, List.map_take, ← u32s, ← this, Nat.mul_one, Nat.min_eq_left hk]

end Go.Proofs.YtdkdgijcoialbaaGreatDoor

/- Contracts: May, tidy. -/
namespace Go.Proofs.YtdkdgijcoialbaaGreatDoor
open Go.RowKit

theorem ret_bool {a b : Bool} (h : a = b) : Ending.returned (.bool a) = .returned (.bool b) := by rw [h]
theorem ret_int {k : IntKind} {a b : Int} (h : a = b) : Ending.returned (.int k a) = .returned (.int k b) := by rw [h]
theorem ret_val {a b : Value} (h : a = b) : Ending.returned a = .returned b := by rw [h]

theorem mayb_pos {xs : List Nat} (h : 0 < xs.length) : mayb xs = decide (xs.length ≤ 65536 ∧ xs[xs.length - 1]?.getD 0 ≠ 0) := by
  unfold mayb
  rw [List.getLast?_eq_getElem?, List.getElem?_eq_getElem (by omega)]
  simp

/-- A slice's length, for a loop's measure. -/
def lenOf : Value → Nat | .slice _ n _ => n | _ => 0
/-- What tidy hands back. -/
def tidied (A : Option Addr) (cap : Nat) (xs : List Nat) : Value := if clip (val xs) = [] then .slice none 0 0 else .slice A (clip (val xs)).length cap
theorem tidied_nil {A : Option Addr} {cap : Nat} {xs : List Nat} (h : lim (val xs) = [] ∨ 65536 < (lim (val xs)).length) : Value.slice none 0 0 = tidied A cap xs := by
  unfold tidied clip
  rcases h with h | h
  · simp [h]
  · rw [if_pos (by rw [if_neg (by omega)])]
theorem tidied_cut {A : Option Addr} {cap : Nat} {xs : List Nat} {k : Nat} (h : (lim (val xs)).length = k) (h0 : 0 < k) (hk : k ≤ 65536) : Value.slice A k cap = tidied A cap xs := by
  have hc : clip (val xs) = lim (val xs) := clip_of (by omega)
  unfold tidied
  rw [hc, if_neg (fun e => by rw [e] at h; simp at h; omega), h]

end Go.Proofs.YtdkdgijcoialbaaGreatDoor

/- Contracts: Cmp. -/
namespace Go.Proofs.YtdkdgijcoialbaaGreatDoor
open Go.RowKit

/-- the same limbs from place k on -/
def Upper (xs ys : List Nat) (k : Nat) : Prop := ∀ j, k ≤ j → j < xs.length → xs[j]?.getD 0 = ys[j]?.getD 0
theorem Upper.all {xs ys : List Nat} (h : Upper xs ys 0) (hl : xs.length = ys.length) : xs = ys := by
  have := drop_congr hl (k := 0) h
  simpa using this

end Go.Proofs.YtdkdgijcoialbaaGreatDoor

/- Contracts: Len32, Bits, Bit, Of. -/
namespace Go.Proofs.YtdkdgijcoialbaaGreatDoor
open Go.RowKit

/-- how many bits a natural has -/
def blen (n : Nat) : Nat := if n = 0 then 0 else n.log2 + 1

theorem blen_le {n k : Nat} : blen n ≤ k ↔ n < 2 ^ k := by
  unfold blen
  split
  · subst n; simp; exact Nat.two_pow_pos k
  · rename_i h
    rw [Nat.add_one_le_iff, Nat.log2_lt h]
theorem blen_zero : blen 0 = 0 := rfl
theorem blen_pos {n : Nat} (h : n ≠ 0) : 0 < blen n := by unfold blen; rw [if_neg h]; omega
theorem blen_unique {n k : Nat} (h1 : n < 2 ^ k) (h2 : ∀ j, n < 2 ^ j → k ≤ j) : blen n = k := Nat.le_antisymm (blen_le.2 h1) (h2 _ (blen_le.1 (Nat.le_refl _)))
/-- its bits behind a product with a power of 2, and a part below -/
theorem blen_shift {n r k : Nat} (hn : n ≠ 0) (hr : r < 2 ^ k) : blen (n * 2 ^ k + r) = blen n + k := by
  apply blen_unique
  · have := blen_le.1 (Nat.le_refl (blen n))
    rw [Nat.pow_add]
    have : (n + 1) * 2 ^ k ≤ 2 ^ blen n * 2 ^ k := Nat.mul_le_mul_right _ this
    rw [Nat.add_mul, Nat.one_mul] at this
    omega
  · intro j hj
    have hjk : k ≤ j := by
      rcases Nat.lt_or_ge j k with h | h
      · exfalso
        have h1 : 2 ^ j < 2 ^ k := Nat.pow_lt_pow_right (by decide) h
        have h2 : 1 * 2 ^ k ≤ n * 2 ^ k := Nat.mul_le_mul_right _ (by omega)
        omega
      · exact h
    have : n < 2 ^ (j - k) := by
      rcases Nat.lt_or_ge n (2 ^ (j - k)) with h | h
      · exact h
      · exfalso
        have h2 : 2 ^ (j - k) * 2 ^ k ≤ n * 2 ^ k := Nat.mul_le_mul_right _ h
        rw [← Nat.pow_add, Nat.sub_add_cancel hjk] at h2
        omega
    have := blen_le.2 this
    omega

theorem blen_lib {x : Nat} (h : x < 4294967296) : Lib.bitLen x = blen x := by
  by_cases h0 : x = 0
  · subst h0; exact Lib.bitLenAux_zero 64
  · obtain ⟨h1, h2, h3⟩ := Lib.bitLenAux_bounds 64 x (by omega) h0
    refine (blen_unique h3 fun j hj => ?_).symm
    have : 2 ^ (Lib.bitLenAux 64 x - 1) < 2 ^ j := by omega
    have := (Nat.pow_lt_pow_iff_right (a := 2) (by decide)).1 this
    omega

/-- How many bits limbs have. -/
theorem blen_val {xs : List Nat} (h : Canon xs) (h0 : 0 < xs.length) : blen (val xs) = 32 * (xs.length - 1) + blen (xs[xs.length - 1]?.getD 0) := by
  rw [val_at (xs := xs) (k := xs.length - 1) (by omega)]
  have h1 := val_lt (h.1.take (xs.length - 1))
  rw [List.length_take, Nat.min_eq_left (by omega)] at h1
  have e : (4294967296 : Nat) ^ (xs.length - 1) = 2 ^ (32 * (xs.length - 1)) := by rw [show (4294967296 : Nat) = 2 ^ 32 from rfl, ← Nat.pow_mul]
  rw [e] at h1 ⊢
  rw [List.drop_eq_nil_of_le (by omega)]
  have hl : xs[xs.length - 1]?.getD 0 ≠ 0 := by
    have := h.2
    rw [List.getLast?_eq_getElem?, List.getElem?_eq_getElem (by omega)] at this
    rw [List.getElem?_eq_getElem (by omega)]
    simpa using this
  simp only [val, Nat.mul_zero, Nat.add_zero]
  rw [Nat.mul_comm (2 ^ _), Nat.add_comm (val _), blen_shift hl h1, Nat.add_comm]

def sBits (xs : List Nat) : Nat := if mayb xs then blen (val xs) else 0
theorem sBits_no {xs : List Nat} (h : mayb xs = false) : sBits xs = 0 := by unfold sBits; rw [h]; rfl
theorem sBits_yes {xs : List Nat} (h : mayb xs = true) : sBits xs = blen (val xs) := by unfold sBits; rw [h]; rfl
theorem sBits_nil : sBits [] = 0 := rfl

end Go.Proofs.YtdkdgijcoialbaaGreatDoor

/- Contracts: Bit, Of. -/
namespace Go.Proofs.YtdkdgijcoialbaaGreatDoor
open Go.RowKit

def sBit (xs : List Nat) (k : Int) : Bool := decide (0 ≤ k) && (mayb xs && (val xs).testBit k.toNat)

theorem u32_bit (x r : Nat) (hx : x < 4294967296) : (bits BinOp.and IntKind.u32 ((x : Int) / 2 ^ r) 1 == 1) = decide (x / 2 ^ r % 2 = 1) := by
  have e : (x : Int) / 2 ^ r = ((x / 2 ^ r : Nat) : Int) := by simp
  have h : x / 2 ^ r < 4294967296 := Nat.lt_of_le_of_lt (Nat.div_le_self _ _) hx
  rw [e, show (1 : Int) = ((1 : Nat) : Int) from rfl, u32_and_nat (x / 2 ^ r) 1 h (by decide), Nat.and_one_is_mod, Bool.eq_iff_iff]
  simp only [beq_iff_eq, decide_eq_true_eq]
  omega
theorem val_bit {xs : List Nat} (h : Limbs xs) {k : Nat} (hk : k / 32 < xs.length) : (val xs).testBit k = decide (xs[k / 32]?.getD 0 / 2 ^ (k % 32) % 2 = 1) := by
  rw [Nat.testBit_eq_decide_div_mod_eq, val_at hk]
  have h1 := val_lt (h.take (k / 32))
  rw [List.length_take, Nat.min_eq_left (by omega)] at h1
  have e1 : (2 : Nat) ^ k = 4294967296 ^ (k / 32) * 2 ^ (k % 32) := by
    rw [show (4294967296 : Nat) = 2 ^ 32 from rfl, ← Nat.pow_mul, ← Nat.pow_add, Nat.div_add_mod]
  have e2 : (4294967296 : Nat) = 2 ^ (k % 32) * (2 * 2 ^ (31 - k % 32)) := by
    rw [show (2 : Nat) * 2 ^ (31 - k % 32) = 2 ^ (31 - k % 32 + 1) from by rw [Nat.pow_succ, Nat.mul_comm], ← Nat.pow_add, show k % 32 + (31 - k % 32 + 1) = 32 from by omega]
  rw [e1, ← Nat.div_div_eq_div_mul, Nat.add_mul_div_left _ _ (Nat.pow_pos (by decide)), Nat.div_eq_of_lt h1, Nat.zero_add]
  congr 2
  generalize xs[k / 32]?.getD 0 = x
  generalize val (xs.drop (k / 32 + 1)) = y
  rw [e2, Nat.mul_assoc, Nat.add_mul_div_left _ _ (Nat.two_pow_pos _), Nat.mul_assoc, Nat.add_mul_mod_self_left]

theorem sBits_le {xs : List Nat} (h : Limbs xs) : sBits xs ≤ 32 * xs.length := by
  unfold sBits
  split
  · refine blen_le.2 (Nat.lt_of_lt_of_le (val_lt h) ?_)
    rw [show (4294967296 : Nat) = 2 ^ 32 from rfl, ← Nat.pow_mul]; exact Nat.le_refl _
  · omega
theorem sBits_may {xs : List Nat} (h : 0 < sBits xs) : mayb xs = true := by
  unfold sBits at h
  split at h
  · assumption
  · omega
theorem sBits_le' {xs : List Nat} (h : Limbs xs) : sBits xs ≤ 2097152 := by
  rcases Nat.eq_zero_or_pos (sBits xs) with h0 | h0
  · omega
  · have := sBits_le h
    have := (mayb_iff.1 (sBits_may h0)).1
    omega

theorem sBit_neg (xs : List Nat) {k : Int} (h : k < 0) : sBit xs k = false := by
  unfold sBit
  rw [decide_eq_false (by omega)]; rfl
theorem sBit_over {xs : List Nat} {n : Nat} (hn : sBits xs ≤ n) : sBit xs n = false := by
  unfold sBit
  rcases hm : mayb xs with _ | _
  · simp
  · have : val xs < 2 ^ n := blen_le.1 (by rw [sBits_yes hm] at hn; exact hn)
    simp [Nat.testBit_lt_two_pow this]

theorem tidied_own {w : World} {B : Nat} {A : Option Addr} {cap : Nat} {xs : List Nat} (h : Own w B (.slice A xs.length cap) xs) (hl : Limbs xs) : Own w B (tidied A cap xs) (clip (val xs)) := by
  unfold tidied
  split
  · rename_i h0; rw [h0]; exact Own.nil _ _
  · rename_i h0
    have hc : clip (val xs) = lim (val xs) := by
      unfold clip at h0 ⊢
      split
      · rfl
      · rename_i h1; rw [if_neg h1] at h0; exact absurd rfl h0
    have ht : ∃ k, k ≤ xs.length ∧ lim (val xs) = xs.take k := lim_val_take hl
    obtain ⟨k, hk, e⟩ := ht
    have := h.cut k hk
    rw [hc, e, List.length_take, Nat.min_eq_left hk]
    exact this

theorem lim_two {u : Nat} (hu : u < 18446744073709551616) : clip (val [u % 4294967296, u / 4294967296]) = lim u := by
  have e : val [u % 4294967296, u / 4294967296] = u := by simp only [val]; omega
  rw [e, clip_of]
  have := (lim_length_le (n := u) (k := 2)).2 (by omega)
  omega

end Go.Proofs.YtdkdgijcoialbaaGreatDoor

/- Contract: limbs: an iterator that tells a natural's limbs, with their places. -/
namespace Go.Proofs.YtdkdgijcoialbaaGreatDoor
open Go.RowKit Go.Shelf

attribute [local go_sem] Oper.semAt_some

/-- THE ROUNDS' PLACES: 0, .., k - 1. -/
def upTo {n : Nat} (k : Nat) (_hk : k ≤ n) : List (Fin n) := (List.finRange n).take k
theorem upTo_succ {n : Nat} {k : Nat} (hk : k < n) : upTo (k + 1) hk = upTo k (Nat.le_of_lt hk) ++ [(⟨k, hk⟩ : Fin n)] := by
  unfold upTo
  rw [List.take_succ_eq_append_getElem (by simpa using hk)]
  simp
theorem upTo_length {n : Nat} {k : Nat} (hk : k ≤ n) : (upTo k hk).length = k := by simp [upTo]; omega
theorem upTo_all (n : Nat) : upTo n (Nat.le_refl n) = List.finRange n := by unfold upTo; exact List.take_of_length_le (by simp)

/-- What a round is told: the place, and the limb. -/
def tells (xs : List Nat) (j : Fin xs.length) : Array Value := #[.int .i64 (j.1 : Int), .int .u32 ((xs[j.1]?.getD 0 : Nat) : Int)]

end Go.Proofs.YtdkdgijcoialbaaGreatDoor

/- Contract: Add. -/
namespace Go.Proofs.YtdkdgijcoialbaaGreatDoor
open Go.RowKit Go.Shelf

attribute [local go_sem] Oper.semAt_some

theorem info32 : (Tryz.prog.info? 95).map (fun i => (i.zero, i.size, i.bytes)) = some (some (.int .u32 0), 1, 4) := by kernel_rfl

def sAdd (xs ys : List Nat) : List Nat := if mayb xs && mayb ys then clip (val xs + val ys) else []
theorem sAdd_no {xs ys : List Nat} (h : (mayb xs && mayb ys) = false) : sAdd xs ys = [] := by unfold sAdd; rw [h]; rfl
theorem sAdd_yes {xs ys : List Nat} (h : (mayb xs && mayb ys) = true) : sAdd xs ys = clip (val xs + val ys) := by unfold sAdd; rw [h]; rfl
theorem sAdd_comm (xs ys : List Nat) : sAdd xs ys = sAdd ys xs := by unfold sAdd; rw [Bool.and_comm, Nat.add_comm]

/-! ### the rounds, as a fold -/
def addSum (xs ys : List Nat) (c k : Nat) : Nat := xs[k]?.getD 0 + ys[k]?.getD 0 + c
def addStep (xs ys : List Nat) (st : Nat × List Nat) (j : Fin xs.length) : Nat × List Nat := (addSum xs ys st.1 j.1 / 4294967296, st.2 ++ [addSum xs ys st.1 j.1 % 4294967296])
def addTo (xs ys : List Nat) (pre : List (Fin xs.length)) : Nat × List Nat := pre.foldl (addStep xs ys) (0, [])
theorem addTo_snoc (xs ys : List Nat) (pre : List (Fin xs.length)) (j : Fin xs.length) : addTo xs ys (pre ++ [j]) = addStep xs ys (addTo xs ys pre) j := by simp [addTo]
theorem addTo_from {xs ys : List Nat} (hx : Limbs xs) (hy : Limbs ys) : ∀ (pre : List (Fin xs.length)) (st : Nat × List Nat), st.1 ≤ 1 → Limbs st.2 →
    (pre.foldl (addStep xs ys) st).1 ≤ 1 ∧ Limbs (pre.foldl (addStep xs ys) st).2 ∧ (pre.foldl (addStep xs ys) st).2.length = st.2.length + pre.length
  | [], st, h, k => ⟨h, k, rfl⟩
  | j :: r, st, h, k => by
    have h1 := hx.getD j.1
    have h2 := hy.getD j.1
    have := addTo_from hx hy r (addStep xs ys st j) (by unfold addStep addSum; show _ / 4294967296 ≤ 1; omega) (by unfold addStep; exact k.append (Limbs.one (Nat.mod_lt _ (by decide))))
    rw [List.foldl_cons]
    refine ⟨this.1, this.2.1, this.2.2.trans ?_⟩
    simp [addStep]
    omega
theorem addTo_ok {xs ys : List Nat} (hx : Limbs xs) (hy : Limbs ys) (pre : List (Fin xs.length)) : (addTo xs ys pre).1 ≤ 1 ∧ Limbs (addTo xs ys pre).2 ∧ (addTo xs ys pre).2.length = pre.length := by
  have := addTo_from hx hy pre (0, []) (by simp) limbs_nil
  simpa [addTo] using this
theorem addTo_val (xs ys : List Nat) : ∀ {k : Nat} (hk : k ≤ xs.length), val (addTo xs ys (upTo k hk)).2 + 4294967296 ^ k * (addTo xs ys (upTo k hk)).1 = val (xs.take k) + val (ys.take k) ∧ (addTo xs ys (upTo k hk)).2.length = k := by
  intro k
  induction k with
  | zero => intro _; simp [addTo, upTo, val]
  | succ k ih =>
    intro hk
    obtain ⟨h1, h2⟩ := ih (Nat.le_of_lt hk)
    rw [upTo_succ hk, addTo_snoc]
    generalize addTo xs ys (upTo k (Nat.le_of_lt hk)) = st at h1 h2
    obtain ⟨c, out⟩ := st
    simp only [addStep] at h1 h2 ⊢
    refine ⟨?_, by simp [h2]⟩
    rw [val_snoc, h2, val_take_succ, val_take_succ]
    have hs : addSum xs ys c k = xs[k]?.getD 0 + ys[k]?.getD 0 + c := rfl
    have hd := Nat.mod_add_div (addSum xs ys c k) 4294967296
    generalize addSum xs ys c k = s at hs hd ⊢
    rw [Nat.pow_succ, Nat.mul_assoc, Nat.add_assoc, ← Nat.mul_add, hd, hs, Nat.mul_add, Nat.mul_add]
    omega
theorem add_next {xs ys : List Nat} {pre : List (Fin xs.length)} {k a y c : Nat} {out : List Nat} {hk : k < xs.length} (hA : addTo xs ys (pre ++ [⟨k, hk⟩]) = addStep xs ys (addTo xs ys pre) ⟨k, hk⟩)
    (h1 : (addTo xs ys pre).1 = c) (h2 : (addTo xs ys pre).2 = out) (h3 : xs[k]?.getD 0 = a) (h4 : ys[k]?.getD 0 = y) : addTo xs ys (pre ++ [⟨k, hk⟩]) = ((a + y + c) / 4294967296, out ++ [(a + y + c) % 4294967296]) := by
  rw [hA]
  unfold addStep addSum
  rw [h1, h2, h3, h4]
theorem addTo_all {xs ys : List Nat} (hl : ys.length ≤ xs.length) :
    val ((addTo xs ys (List.finRange xs.length)).2 ++ [(addTo xs ys (List.finRange xs.length)).1]) = val xs + val ys := by
  obtain ⟨h1, h2⟩ := addTo_val xs ys (Nat.le_refl xs.length)
  rw [upTo_all] at h1 h2
  rw [val_snoc, h2, h1, List.take_of_length_le (Nat.le_refl _), List.take_of_length_le hl]

/-- Every plain contract holds inside the wide fence. -/
theorem wided {F : Fence} (hF : Hid (F = Fence.wide)) {n : Nat} {f : FuncId} {args : Array Value} {w : World} {R : Ending → World → Prop} (h : Calls Tryz.prog f args w R) : CallsIn F n Tryz.prog f args w R := by
  have := hF.out
  subst this
  exact callsIn_wide.2 h
theorem wide_fn {F : Fence} (hF : Hid (F = Fence.wide)) (g : FuncId) : F.fn g := by
  have := hF.out
  subst this
  trivial

theorem ownsRow_box {W : World} {n₀ B : Nat} {t e : TypeId} {size k : Nat} {v u : Value} {xs : List Value} (h : W.ownsRow n₀ e size v k xs) (hb : Boxed W B t u) (hte : t ≠ e) (u' : Value) : (W.setCell ⟨B, 0, none⟩ u').ownsRow n₀ e size v k xs :=
  h.kept (grownBy_setCell' W B u') (.inr (hb.not_row hte h).symm)

/-- A round that appends to a slice in a box, then stores into another box: all that the walk owes. -/
theorem round_kept {W w2 : World} {n₀ Bo Bc : Nat} {t tc e : TypeId} {size k m : Nat} {v v' u : Value} {xs ys : List Value} {tmp : Obj}
    (hv : Boxed W Bo t v) (hrow : W.ownsRow n₀ e size v k xs) (hcar : Boxed W Bc tc u) (hte : t ≠ e) (htc : tc ≠ e) (hn₀ : n₀ ≤ W.heap.size) (ho : n₀ ≤ Bo) (hc : n₀ ≤ Bc) (hne : Bc ≠ Bo)
    (hown' : w2.ownsRow n₀ e size v' m ys) (hgrow : (W.alloc tmp).grownBy w2 v.ownBlock) :
    Boxed w2 Bo t v ∧ Boxed (w2.setCell ⟨Bo, 0, none⟩ v') Bc tc u ∧ ∀ u', KeepsOthers W ((w2.setCell ⟨Bo, 0, none⟩ v').setCell ⟨Bc, 0, none⟩ u') ∧ Below n₀ W ((w2.setCell ⟨Bo, 0, none⟩ v').setCell ⟨Bc, 0, none⟩ u') ∧
      Boxed ((w2.setCell ⟨Bo, 0, none⟩ v').setCell ⟨Bc, 0, none⟩ u') Bo t v' ∧ ((w2.setCell ⟨Bo, 0, none⟩ v').setCell ⟨Bc, 0, none⟩ u').ownsRow n₀ e size v' m ys ∧ Boxed ((w2.setCell ⟨Bo, 0, none⟩ v').setCell ⟨Bc, 0, none⟩ u') Bc tc u' := by
  obtain ⟨hv1, hv2, hr2, hk2, hb2⟩ := hv.appended hte hrow hn₀ ho hown' hgrow
  have hc1 : Boxed w2 Bc tc u := (hcar.alloc tmp).kept hgrow (hcar.not_row htc hrow)
  have hc2 : Boxed (w2.setCell ⟨Bo, 0, none⟩ v') Bc tc u := hc1.other hne v'
  exact ⟨hv1, hc2, fun u' => ⟨hk2.trans (KeepsOthers.setCell _ _ _), hb2.setCell (p := ⟨Bc, 0, none⟩) hc _, hv2.other hne.symm _, ownsRow_box hr2 hc2 htc _, hc2.set _⟩⟩
/-- A third box lies as it lay. -/
theorem round_box {W w2 : World} {n₀ Bo Bc Bb : Nat} {tb e : TypeId} {size k : Nat} {v v' u s : Value} {xs : List Value} {tmp : Obj}
    (hbb : Boxed W Bb tb s) (hrow : W.ownsRow n₀ e size v k xs) (htb : tb ≠ e) (h1 : Bb ≠ Bo) (h2 : Bb ≠ Bc) (hgrow : (W.alloc tmp).grownBy w2 v.ownBlock) : Boxed ((w2.setCell ⟨Bo, 0, none⟩ v').setCell ⟨Bc, 0, none⟩ u) Bb tb s :=
  (((hbb.alloc tmp).kept hgrow (hbb.not_row htb hrow)).other h1 _).other h2 _

/-- An append alone. -/
theorem appended_plain {W w2 : World} {n₀ : Nat} {e : TypeId} {size k : Nat} {v : Value} {xs : List Value} {tmp : Obj} (hrow : W.ownsRow n₀ e size v k xs) (hn₀ : n₀ ≤ W.heap.size) (hgrow : (W.alloc tmp).grownBy w2 v.ownBlock) : KeepsOthers W w2 ∧ Below n₀ W w2 := by
  refine ⟨(KeepsOthers.alloc W tmp).trans (KeepsOthers.of_grownBy hgrow fun j o ej hj => ?_), ((Below.refl n₀ W).alloc hn₀ tmp).grown hgrow (by simp; omega) fun j ej => ?_⟩
  · rcases (hrow.alloc tmp).2 with ⟨rfl, _⟩ | ⟨g, cap, cur, rfl, _, hgb, _⟩
    · simp [Value.ownBlock] at ej
    · obtain rfl : g = j := by simpa [Value.ownBlock] using ej
      rw [hgb] at hj; cases hj; rfl
  · rcases hrow.2 with ⟨rfl, _⟩ | ⟨g, cap, cur, rfl, hb, _, _⟩
    · simp [Value.ownBlock] at ej
    · obtain rfl : g = j := by simpa [Value.ownBlock] using ej
      exact hb

theorem u32s_snoc (xs : List Nat) (x : Nat) : u32s (xs ++ [x]) = u32s xs ++ [.int .u32 (x : Int)] := by simp [u32s, lv]

theorem rd_below_alloc {w : World} {A : Option Addr} {xs : List Nat} (h : Rd w w.heap.size A xs) (o : Obj) : Rd (w.alloc o) w.heap.size A xs := h.below ((Below.refl _ w).alloc (Nat.le_refl _) o) (Nat.le_refl _)

end Go.Proofs.YtdkdgijcoialbaaGreatDoor

/- Contract: Sub. -/
namespace Go.Proofs.YtdkdgijcoialbaaGreatDoor
open Go.RowKit Go.Shelf

attribute [local go_sem] Oper.semAt_some

def sSubOk (xs ys : List Nat) : Bool := mayb xs && (mayb ys && decide (val ys ≤ val xs))
def sSub (xs ys : List Nat) : List Nat := if sSubOk xs ys then lim (val xs - val ys) else []
theorem sSub_no {xs ys : List Nat} (h : sSubOk xs ys = false) : sSub xs ys = [] := by unfold sSub; rw [h]; rfl
theorem sSub_yes {xs ys : List Nat} (h : sSubOk xs ys = true) : sSub xs ys = lim (val xs - val ys) := by unfold sSub; rw [h]; rfl

/-! ### the rounds, as a fold -/
def subSum (xs ys : List Nat) (c k : Nat) : Nat := xs[k]?.getD 0 + 4294967296 - ys[k]?.getD 0 - c
def subStep (xs ys : List Nat) (st : Nat × List Nat) (j : Fin xs.length) : Nat × List Nat := (1 - subSum xs ys st.1 j.1 / 4294967296, st.2 ++ [subSum xs ys st.1 j.1 % 4294967296])
def subTo (xs ys : List Nat) (pre : List (Fin xs.length)) : Nat × List Nat := pre.foldl (subStep xs ys) (0, [])
theorem subTo_snoc (xs ys : List Nat) (pre : List (Fin xs.length)) (j : Fin xs.length) : subTo xs ys (pre ++ [j]) = subStep xs ys (subTo xs ys pre) j := by simp [subTo]
theorem subTo_from {xs ys : List Nat} : ∀ (pre : List (Fin xs.length)) (st : Nat × List Nat), st.1 ≤ 1 → Limbs st.2 →
    (pre.foldl (subStep xs ys) st).1 ≤ 1 ∧ Limbs (pre.foldl (subStep xs ys) st).2 ∧ (pre.foldl (subStep xs ys) st).2.length = st.2.length + pre.length
  | [], st, h, k => ⟨h, k, rfl⟩
  | j :: r, st, _, k => by
    have := subTo_from (ys := ys) r (subStep xs ys st j) (by unfold subStep; show 1 - _ ≤ 1; omega) (by unfold subStep; exact k.append (Limbs.one (Nat.mod_lt _ (by decide))))
    rw [List.foldl_cons]
    refine ⟨this.1, this.2.1, this.2.2.trans ?_⟩
    simp [subStep]
    omega
theorem subTo_ok (xs ys : List Nat) (pre : List (Fin xs.length)) : (subTo xs ys pre).1 ≤ 1 ∧ Limbs (subTo xs ys pre).2 ∧ (subTo xs ys pre).2.length = pre.length := by
  have := subTo_from (ys := ys) pre (0, []) (by simp) limbs_nil
  simpa [subTo] using this
theorem subTo_val {xs ys : List Nat} (hx : Limbs xs) (hy : Limbs ys) : ∀ {k : Nat} (hk : k ≤ xs.length), val (subTo xs ys (upTo k hk)).2 + val (ys.take k) = val (xs.take k) + 4294967296 ^ k * (subTo xs ys (upTo k hk)).1 ∧ (subTo xs ys (upTo k hk)).2.length = k ∧ (subTo xs ys (upTo k hk)).1 ≤ 1 := by
  intro k
  induction k with
  | zero => intro _; simp [subTo, upTo, val]
  | succ k ih =>
    intro hk
    obtain ⟨h1, h2, h3⟩ := ih (Nat.le_of_lt hk)
    have q1 := hx.getD k
    have q2 := hy.getD k
    rw [upTo_succ hk, subTo_snoc]
    generalize subTo xs ys (upTo k (Nat.le_of_lt hk)) = st at h1 h2 h3
    obtain ⟨c, out⟩ := st
    simp only [subStep] at h1 h2 h3 ⊢
    refine ⟨?_, by simp [h2], by omega⟩
    rw [val_snoc, h2, val_take_succ, val_take_succ]
    have hs : subSum xs ys c k = xs[k]?.getD 0 + 4294967296 - ys[k]?.getD 0 - c := rfl
    have hd : subSum xs ys c k % 4294967296 + ys[k]?.getD 0 + c = xs[k]?.getD 0 + 4294967296 * (1 - subSum xs ys c k / 4294967296) := by omega
    generalize subSum xs ys c k % 4294967296 = m at hd ⊢
    generalize 1 - subSum xs ys c k / 4294967296 = q at hd ⊢
    have := congrArg (4294967296 ^ k * ·) hd
    simp only [Nat.mul_add] at this
    rw [Nat.pow_succ, Nat.mul_assoc]
    omega
theorem subTo_all {xs ys : List Nat} (hx : Limbs xs) (hy : Limbs ys) (hl : ys.length ≤ xs.length) (hv : val ys ≤ val xs) : val (subTo xs ys (List.finRange xs.length)).2 = val xs - val ys := by
  obtain ⟨h1, h2, h3⟩ := subTo_val hx hy (Nat.le_refl xs.length)
  rw [upTo_all] at h1 h2 h3
  rw [List.take_of_length_le (Nat.le_refl _), List.take_of_length_le hl] at h1
  have hlt := val_lt (subTo_ok xs ys (List.finRange xs.length)).2.1
  rw [h2] at hlt
  generalize (subTo xs ys (List.finRange xs.length)).1 = c at *
  have : c = 0 ∨ c = 1 := by omega
  rcases this with rfl | rfl
  · omega
  · rw [Nat.mul_one] at h1; omega
theorem sub_next {xs ys : List Nat} {pre : List (Fin xs.length)} {k a y c : Nat} {out : List Nat} {hk : k < xs.length} (hA : subTo xs ys (pre ++ [⟨k, hk⟩]) = subStep xs ys (subTo xs ys pre) ⟨k, hk⟩)
    (h1 : (subTo xs ys pre).1 = c) (h2 : (subTo xs ys pre).2 = out) (h3 : xs[k]?.getD 0 = a) (h4 : ys[k]?.getD 0 = y) : subTo xs ys (pre ++ [⟨k, hk⟩]) = (1 - (a + 4294967296 - y - c) / 4294967296, out ++ [(a + 4294967296 - y - c) % 4294967296]) := by
  rw [hA]
  unfold subStep subSum
  rw [h1, h2, h3, h4]

theorem cell_one_at (W : World) (v : Value) (e : TypeId) (n : Nat) (h : n = W.heap.size) : ∀ j u, [v][j]? = some u → (W.alloc (.cells #[v] e)).cell? ((⟨n, 0, none⟩ : Addr).add j) = some u := by subst h; exact cell_one_new _ _ _

/-- An append into a boxed slice, another box beside it. -/
theorem appended_beside {W w2 : World} {n₀ Bo Bc : Nat} {t tc e : TypeId} {size k m : Nat} {v v' u : Value} {xs ys : List Value} {tmp : Obj}
    (hv : Boxed W Bo t v) (hrow : W.ownsRow n₀ e size v k xs) (hcar : Boxed W Bc tc u) (hte : t ≠ e) (htc : tc ≠ e) (hn₀ : n₀ ≤ W.heap.size) (ho : n₀ ≤ Bo) (hne : Bc ≠ Bo)
    (hown' : w2.ownsRow n₀ e size v' m ys) (hgrow : (W.alloc tmp).grownBy w2 v.ownBlock) :
    Boxed w2 Bo t v ∧ KeepsOthers W (w2.setCell ⟨Bo, 0, none⟩ v') ∧ Below n₀ W (w2.setCell ⟨Bo, 0, none⟩ v') ∧
      Boxed (w2.setCell ⟨Bo, 0, none⟩ v') Bo t v' ∧ (w2.setCell ⟨Bo, 0, none⟩ v').ownsRow n₀ e size v' m ys ∧ Boxed (w2.setCell ⟨Bo, 0, none⟩ v') Bc tc u := by
  obtain ⟨hv1, hv2, hr2, hk2, hb2⟩ := hv.appended hte hrow hn₀ ho hown' hgrow
  exact ⟨hv1, hk2, hb2, hv2, hr2, ((hcar.alloc tmp).kept hgrow (hcar.not_row htc hrow)).other hne v'⟩

end Go.Proofs.YtdkdgijcoialbaaGreatDoor

/- Contracts: Sub, Low. -/
namespace Go.Proofs.YtdkdgijcoialbaaGreatDoor
open Go.RowKit Go.Shelf

attribute [local go_sem] Oper.semAt_some

/-! ### Low -/
def sLowOk (xs : List Nat) : Bool := mayb xs && decide (xs.length ≤ 2)
def sLow (xs : List Nat) : Nat := if sLowOk xs then val xs else 0
theorem sLow_no {xs : List Nat} (h : sLowOk xs = false) : sLow xs = 0 := by unfold sLow; rw [h]; rfl
theorem sLow_yes {xs : List Nat} (h : sLowOk xs = true) : sLow xs = val xs := by unfold sLow; rw [h]; rfl

/-- the rounds: what u is; whatever order places come in -/
def lowStep (xs : List Nat) (u : Nat) (j : Fin xs.length) : Nat := u ||| xs[j.1]?.getD 0 * 2 ^ (32 * j.1) % 18446744073709551616
def lowTo (xs : List Nat) (pre : List (Fin xs.length)) : Nat := pre.foldl (lowStep xs) 0
theorem lowTo_snoc (xs : List Nat) (pre : List (Fin xs.length)) (j : Fin xs.length) : lowTo xs (pre ++ [j]) = lowStep xs (lowTo xs pre) j := by simp [lowTo]
theorem low_0 {xs : List Nat} {pre : List (Fin xs.length)} {c a : Nat} {hk : 0 < xs.length} (hA : lowTo xs (pre ++ [⟨0, hk⟩]) = lowStep xs c ⟨0, hk⟩) (hX : xs[0]?.getD 0 = a) (hc : c < 18446744073709551616) (ha : a < 18446744073709551616) :
    bits BinOp.or IntKind.u64 (c : Int) (a : Int) = ((lowTo xs (pre ++ [⟨0, hk⟩]) : Nat) : Int) := by
  rw [u64_or_nat c a hc ha, hA]
  unfold lowStep
  simp only [hX, Nat.mul_zero, Nat.pow_zero, Nat.mul_one, Nat.mod_eq_of_lt ha]
theorem low_1 {xs : List Nat} {pre : List (Fin xs.length)} {c a : Nat} {hk : 1 < xs.length} (hA : lowTo xs (pre ++ [⟨1, hk⟩]) = lowStep xs c ⟨1, hk⟩) (hX : xs[1]?.getD 0 = a) (hc : c < 18446744073709551616) (ha : a < 4294967296) :
    bits BinOp.or IntKind.u64 (c : Int) ((a : Int) * 4294967296) = ((lowTo xs (pre ++ [⟨1, hk⟩]) : Nat) : Int) := by
  have e : (a : Int) * 4294967296 = ((a * 4294967296 : Nat) : Int) := by omega
  have hl : a * 4294967296 < 18446744073709551616 := by omega
  rw [e, u64_or_nat c _ hc hl, hA]
  unfold lowStep
  simp only [hX, Nat.mul_one, show (2 : Nat) ^ 32 = 4294967296 from rfl, Nat.mod_eq_of_lt hl]
theorem lowTo_lt (xs : List Nat) (pre : List (Fin xs.length)) : lowTo xs pre < 18446744073709551616 := by
  have : ∀ (pre : List (Fin xs.length)) (u : Nat), u < 18446744073709551616 → pre.foldl (lowStep xs) u < 18446744073709551616 := by
    intro pre
    induction pre with
    | nil => exact fun u h => h
    | cons j r ih =>
      intro u h
      rw [List.foldl_cons]
      refine ih _ ?_
      unfold lowStep
      exact Nat.or_lt_two_pow (n := 64) h (Nat.mod_lt _ (by decide))
  exact this pre 0 (by decide)
theorem lowTo_all {xs : List Nat} (h : Limbs xs) (hl : xs.length ≤ 2) : lowTo xs (List.finRange xs.length) = val xs := by
  match xs, h, hl with
  | [], _, _ => rfl
  | [x], h, _ =>
    have := h.head
    simp [lowTo, lowStep, List.finRange, val]
    omega
  | [x, y], h, _ =>
    have h1 := h.head
    have h2 := h.tail.head
    have e : (List.finRange [x, y].length) = [⟨0, by simp⟩, ⟨1, by simp⟩] := rfl
    rw [e]
    simp only [lowTo, lowStep, List.foldl_cons, List.foldl_nil, val, Nat.mul_zero, Nat.pow_zero, Nat.mul_one, Nat.zero_or, List.getElem?_cons_zero, List.getElem?_cons_succ, Option.getD_some, Nat.add_zero]
    rw [Nat.mod_eq_of_lt (by omega), Nat.mod_eq_of_lt (show y * 2 ^ 32 < 18446744073709551616 from by omega), Nat.or_comm, nat_join 32 (y * 2 ^ 32) x (Nat.mul_mod_left _ _) h1]
    omega
  | _ :: _ :: _ :: _, _, hl => simp at hl

end Go.Proofs.YtdkdgijcoialbaaGreatDoor

/- Contract: Shl. -/
namespace Go.Proofs.YtdkdgijcoialbaaGreatDoor
open Go.RowKit Go.Shelf

attribute [local go_sem] Oper.semAt_some

def sShl (xs : List Nat) (k : Int) : List Nat := if mayb xs && decide (0 ≤ k) then clip (val xs * 2 ^ k.toNat) else []

/-! ### the rounds, as a fold -/
def shlSum (xs : List Nat) (r c j : Nat) : Nat := xs[j]?.getD 0 * 2 ^ r + c
def shlStep (xs : List Nat) (r : Nat) (st : Nat × List Nat) (j : Fin xs.length) : Nat × List Nat := (shlSum xs r st.1 j.1 / 4294967296, st.2 ++ [shlSum xs r st.1 j.1 % 4294967296])
def shlTo (xs : List Nat) (r q : Nat) (pre : List (Fin xs.length)) : Nat × List Nat := pre.foldl (shlStep xs r) (0, List.replicate q 0)
theorem shlTo_snoc (xs : List Nat) (r q : Nat) (pre : List (Fin xs.length)) (j : Fin xs.length) : shlTo xs r q (pre ++ [j]) = shlStep xs r (shlTo xs r q pre) j := by simp [shlTo]
theorem pow31 {r : Nat} (hr : r < 32) : 2 ^ r ≤ 2147483648 := by
  have : (2 : Nat) ^ r ≤ 2 ^ 31 := Nat.pow_le_pow_right (by decide) (by omega)
  exact this
theorem shl_bound {a r c : Nat} (ha : a < 4294967296) (hr : r < 32) (hc : c ≤ 2147483648) : a * 2 ^ r + c ≤ 9223372036854775808 := by
  have h1 := pow31 hr
  have h2 : a * 2 ^ r ≤ 4294967295 * 2147483648 := Nat.mul_le_mul (by omega) h1
  omega
theorem shlTo_from {xs : List Nat} (hx : Limbs xs) {r : Nat} (hr : r < 32) : ∀ (pre : List (Fin xs.length)) (st : Nat × List Nat), st.1 ≤ 2147483648 → Limbs st.2 →
    (pre.foldl (shlStep xs r) st).1 ≤ 2147483648 ∧ Limbs (pre.foldl (shlStep xs r) st).2 ∧ (pre.foldl (shlStep xs r) st).2.length = st.2.length + pre.length
  | [], st, h, k => ⟨h, k, rfl⟩
  | j :: t, st, h, k => by
    have hb := shl_bound (hx.getD j.1) hr h
    have := shlTo_from hx hr t (shlStep xs r st j) (by unfold shlStep shlSum; show _ / 4294967296 ≤ _; omega) (by unfold shlStep; exact k.append (Limbs.one (Nat.mod_lt _ (by decide))))
    rw [List.foldl_cons]
    refine ⟨this.1, this.2.1, this.2.2.trans ?_⟩
    simp [shlStep]
    omega
theorem shlTo_ok {xs : List Nat} (hx : Limbs xs) {r : Nat} (hr : r < 32) (q : Nat) (pre : List (Fin xs.length)) : (shlTo xs r q pre).1 ≤ 2147483648 ∧ Limbs (shlTo xs r q pre).2 ∧ (shlTo xs r q pre).2.length = q + pre.length := by
  have := shlTo_from hx hr pre (0, List.replicate q 0) (by simp) (limbs_replicate q)
  simpa [shlTo] using this
theorem shlTo_val (xs : List Nat) (r q : Nat) : ∀ {k : Nat} (hk : k ≤ xs.length), val (shlTo xs r q (upTo k hk)).2 + 4294967296 ^ (q + k) * (shlTo xs r q (upTo k hk)).1 = 4294967296 ^ q * (2 ^ r * val (xs.take k)) ∧ (shlTo xs r q (upTo k hk)).2.length = q + k := by
  intro k
  induction k with
  | zero => intro _; simp [shlTo, upTo, val, val_replicate]
  | succ k ih =>
    intro hk
    obtain ⟨h1, h2⟩ := ih (Nat.le_of_lt hk)
    rw [upTo_succ hk, shlTo_snoc]
    generalize shlTo xs r q (upTo k (Nat.le_of_lt hk)) = st at h1 h2
    obtain ⟨c, out⟩ := st
    simp only [shlStep] at h1 h2 ⊢
    refine ⟨?_, by simp [h2]; omega⟩
    rw [val_snoc, h2, val_take_succ]
    have hs : shlSum xs r c k = xs[k]?.getD 0 * 2 ^ r + c := rfl
    have hd := Nat.mod_add_div (shlSum xs r c k) 4294967296
    generalize shlSum xs r c k = s at hs hd ⊢
    have e1 : 4294967296 ^ (q + (k + 1)) = 4294967296 ^ (q + k) * 4294967296 := by rw [← Nat.add_assoc, Nat.pow_succ]
    rw [e1, Nat.mul_assoc, Nat.add_assoc, ← Nat.mul_add, hd, hs, Nat.mul_add, Nat.mul_add (2 ^ r), Nat.mul_add (4294967296 ^ q), ← h1]
    have e2 : 4294967296 ^ (q + k) * (xs[k]?.getD 0 * 2 ^ r) = 4294967296 ^ q * (2 ^ r * (4294967296 ^ k * xs[k]?.getD 0)) := by
      rw [Nat.pow_add, Nat.mul_assoc]; congr 1; rw [Nat.mul_comm (xs[k]?.getD 0), ← Nat.mul_assoc, Nat.mul_comm (4294967296 ^ k), Nat.mul_assoc]
    rw [e2]
    omega
theorem shlTo_all (xs : List Nat) (k : Nat) : val ((shlTo xs (k % 32) (k / 32) (List.finRange xs.length)).2 ++ [(shlTo xs (k % 32) (k / 32) (List.finRange xs.length)).1]) = val xs * 2 ^ k := by
  obtain ⟨h1, h2⟩ := shlTo_val xs (k % 32) (k / 32) (Nat.le_refl xs.length)
  rw [upTo_all] at h1 h2
  rw [val_snoc, h2, h1, List.take_of_length_le (Nat.le_refl _)]
  have : (2 : Nat) ^ k = 4294967296 ^ (k / 32) * 2 ^ (k % 32) := by rw [show (4294967296 : Nat) = 2 ^ 32 from rfl, ← Nat.pow_mul, ← Nat.pow_add, Nat.div_add_mod]
  rw [this, ← Nat.mul_assoc, Nat.mul_comm (val xs)]
theorem shl_next {xs : List Nat} {pre : List (Fin xs.length)} {r q j a c : Nat} {out : List Nat} {hk : j < xs.length} (hA : shlTo xs r q (pre ++ [⟨j, hk⟩]) = shlStep xs r (shlTo xs r q pre) ⟨j, hk⟩)
    (h1 : (shlTo xs r q pre).1 = c) (h2 : (shlTo xs r q pre).2 = out) (h3 : xs[j]?.getD 0 = a) : shlTo xs r q (pre ++ [⟨j, hk⟩]) = ((a * 2 ^ r + c) / 4294967296, out ++ [(a * 2 ^ r + c) % 4294967296]) := by
  rw [hA]
  unfold shlStep shlSum
  rw [h1, h2, h3]

/-- a make of so many, with room for more -/
theorem make_rowN {P : Program} (t e : TypeId) (i : TypeInfo) (z : Value) (ht : P.underlying t = some (.slice e)) (hi : P.info? e = some i) (hz : i.zero = some z)
    (n c : Nat) (hnc : n ≤ c) (hbytes : i.bytes * c ≤ 281474976710656) (h63 : c ≤ 9223372036854775807) (w : World) :
    (Instr.makeSlice t (.int .i64 (n : Int)) (.int .i64 (c : Int))).run P w = .ok (.slice (some ⟨w.heap.size, 0, none⟩) n c) (w.alloc (.cells (madeCells z.cells (c * i.size)) e)) := by
  have hb : (i.bytes : Int) * (c : Int) ≤ 281474976710656 := by
    have h : ((i.bytes * c : Nat) : Int) ≤ 281474976710656 := by omega
    rwa [Int.natCast_mul] at h
  have hr := run_make (P := P) w t e i z ht hi hz .i64 .i64 n c (by omega) (by omega) hb (by omega)
  simp only [Int.toNat_natCast] at hr
  exact hr
theorem Rd.drewN {w : World} {B : Nat} {A : Option Addr} {xs : List Nat} (h : Rd w B A xs) (n : Nat) : Rd (w.drewN n) B A xs := h
/-- a piece of code that comes to one end alone -/
theorem wpIn_one {F : Fence} {n : Nat} {P : Program} {c : Code} {Q : Exit → Act → World → Prop} {a A : Act} {w w1 : World} (h : c.wpIn F n P (fun e a' w' => e = Exit.normal ∧ a' = A ∧ w' = w1) a w) (hq : Q .normal A w1) : c.wpIn F n P Q a w :=
  wpIn_mono h fun e a' w' ⟨h1, h2, h3⟩ => by subst h1 h2 h3; exact hq
theorem wpIn_of_wide {F : Fence} (hF : Hid (F = Fence.wide)) {n : Nat} {P : Program} {c : Code} {Q : Exit → Act → World → Prop} {a : Act} {w : World} (h : c.wp P Q a w) : c.wpIn F n P Q a w := by
  have := hF.out
  subst this
  exact wpIn_wide.2 h

end Go.Proofs.YtdkdgijcoialbaaGreatDoor

/- A range over a function whose rounds are told by their places: what round k is told is f k; its body never leaves. (A law of my own, out of the library's statement law: there the body must serve whatever value comes; here it serves round k's alone.) -/
namespace Go.Proofs.YtdkdgijcoialbaaGreatDoor
open Go.RowKit Go.Shelf

/-- An iterator that tells f 0, .., f (N - 1), to whatever rounds keep what lay below n₀. -/
def TellsAt (F : Fence) (n : Nat) (P : Program) (g : Nat) (lb : Array Value) (f : Nat → Array Value) (N n₀ : Nat) (w : World) : Prop :=
  ∀ (l : Nat) (J : Nat → World → Prop) (W : World), Below w.heap.size w W →
    (∀ k W1, J k W1 → k < N → YieldAt F (n - 1) P l (f k) W1 fun e W' => e = .returned (.bool true) ∧ J (k + 1) W' ∧ Below n₀ W1 W') →
    J 0 W → CallsIn F n P g (#[.func (.yield l) #[] #[]] ++ lb) W fun e W' => (∃ v, e = .returned v) ∧ J N W'

/-- What a round leaves. -/
def RoundLeaves (B n₀ : Nat) (I : World → Prop) (W : World) (e : Exit) (_ : Act) (W' : World) : Prop := e = .normal ∧ KeepsFrom B W W' ∧ Below n₀ W W' ∧ I W'

theorem range_at {F : Fence} {n : Nat} {P : Program} {g : Operand} {ps : Array Tmp} {assign body : Code} {Q : Exit → Act → World → Prop} {a : Act} {w : World}
    (hro : F.round = none) (h1 : 1 ≤ n) {gf : Nat} {lb : Array Value} (hg : a.eval g = .func (.func gf) #[] lb) (hFg : F.fn gf) (eg : ∀ args w, (callFunc gf args).run P w = .ok (.enter gf args) w)
    {f : Nat → Array Value} {N n₀ : Nat} {w0 : World} (hseq : TellsAt F (n - 1) P gf lb f N n₀ w0) (hb0 : Below w0.heap.size w0 w) (hps : ∀ k, (f k).size = ps.size) (hn₀ : n₀ ≤ w.heap.size)
    (I : Nat → World → Prop) (hI : OwnFrom w.heap.size I) (h0 : I 0 w) (a₁ : Nat → Act)
    (hassign : ∀ (l k : Nat) (W : World) (K : Act → World → Prop), K (a₁ k) W →
      assign.wpIn (F.inRound l) (n - 1 - 1) P (Exit.then K (fun _ _ _ => False)) { tmps := (ps.zip (f k)).foldl (fun t (p, v) => t.setIfInBounds p v) a.tmps, defers := [] } W)
    (hbody : ∀ (l k : Nat) (W : World), I k W → k < N → body.wpIn (F.inRound l) (n - 1 - 1) P (RoundLeaves w.heap.size n₀ (I (k + 1)) W) (a₁ k) W)
    (hdone : ∀ (D : Nat) (W : World), w.heap.size ≤ D → I N W → W.heap[D]? = some (.deferred (some [])) → Q .normal { a with defers := { target := .collected D, args := #[] } :: a.defers } W) :
    (Code.rangeFunc g ps assign body).wpIn F n P Q a w := by
  refine wpIn_rangeFunc fun fn hfn => ?_
  rw [hro]
  -- the loop's record, ready and busy; the block for deferred calls lies at w.heap.size, the record behind it
  let R : LoopState → Loop := fun st => { state := st, pending := none, fn, tmps := a.tmps, params := ps, assign, body, defers := w.heap.size }
  let W1 : World := (w.alloc (.deferred (some []))).alloc (.loop (R .ready))
  have hsz : W1.heap.size = w.heap.size + 1 + 1 := by simp [W1]
  have rec0 : W1.heap[w.heap.size + 1]? = some (.loop (R .ready)) := by
    have := World.alloc_heap_new (w.alloc (.deferred (some []))) (.loop (R .ready))
    rwa [World.size_alloc] at this
  have def0 : W1.heap[w.heap.size]? = some (.deferred (some [])) := (Below.heap_alloc _ _ _ (by simp)).trans (World.alloc_heap_new w _)
  have below0 : Below w0.heap.size w0 W1 := hb0.trans ((((Below.refl _ w).alloc (Nat.le_refl _) _).alloc (by simp) _).mono hb0.size)
  have busy : ∀ {W : World}, W.heap[w.heap.size + 1]? = some (.loop (R .ready)) → Below n₀ W (W.putObj (w.heap.size + 1) (.loop (R .busy))) := fun h => belowK_b hn₀ _ _ _ _ (by omega) h rfl rfl
  have ready : ∀ {W : World}, W.heap[w.heap.size + 1]? = some (.loop (R .busy)) → Below n₀ W (W.putObj (w.heap.size + 1) (.loop (R .ready))) := fun h => belowK_b hn₀ _ _ _ _ (by omega) h rfl rfl
  refine ⟨w.heap.size + 1, [{ target := .collected w.heap.size, args := #[] }], W1, { target := .fn (.func gf) lb, args := #[.func (.yield (w.heap.size + 1)) #[] #[]] }, W1, gf,
    #[.func (.yield (w.heap.size + 1)) #[] #[]] ++ lb, W1, run_enterLoop_outer _ _ _ _ _, ?_, fun g' hg' => ?_, ?_, fun _ => h1, ?_⟩
  · simp only [resolve, hg]; simp [go_sem]
  · simp [Target.leads] at hg'; subst hg'; exact hFg
  · simp [invoke, go_sem, eg]
  refine (hseq (w.heap.size + 1) (fun k W => I k W ∧ W.heap[w.heap.size + 1]? = some (.loop (R .ready)) ∧ W.heap[w.heap.size]? = some (.deferred (some []))) W1 below0 ?_ ⟨hI.alloc _ (hI.alloc _ h0), rec0, def0⟩).mono ?_
  · rintro k W ⟨hi, hl, hk⟩ hlt
    have hin : w.heap.size + 1 < W.heap.size := (Array.getElem?_eq_some_iff.1 hl).1
    refine ⟨fn, _, assign, body, run_yield (P := P) (args := f k) hl (hps k), roundIn_of_wpIn hfn (hassign _ k W _ ⟨_, run_beginRound hl rfl, ?_⟩)⟩
    refine wpIn_mono (hbody _ k _ (hI.putObj _ hi (by omega) hl rfl) hlt) ?_
    rintro e a' W3 ⟨rfl, hk3, hb3, hi3⟩
    have hl3 : W3.heap[w.heap.size + 1]? = some (.loop (R .busy)) := hk3.same _ _ (by omega) (World.putObj_heap_same hin) rfl
    have hd3 : W3.heap[w.heap.size]? = some (.deferred (some [])) := hk3.same _ _ (Nat.le_refl _) ((World.putObj_heap_other (by omega)).trans hk) rfl
    refine ⟨_, _, run_endRound (P := P) none hl3, rfl, ⟨hI.putObj _ hi3 (by omega) hl3 rfl, World.putObj_heap_same (Array.getElem?_eq_some_iff.1 hl3).1, (World.putObj_heap_other (by omega)).trans hd3⟩, ((busy hl).trans hb3).trans (ready hl3)⟩
  · rintro e W2 ⟨⟨v, rfl⟩, hi, hl, hk⟩
    exact ⟨none, _, run_endLoop (P := P) hl (by simp [R]), hdone _ _ (Nat.le_refl _) (hI.putObj _ hi (by omega) hl rfl) ((World.putObj_heap_other (by omega)).trans hk)⟩

end Go.Proofs.YtdkdgijcoialbaaGreatDoor

/- Contract: limbs, by places; Shr. -/
namespace Go.Proofs.YtdkdgijcoialbaaGreatDoor
open Go.RowKit Go.Shelf

attribute [local go_sem] Oper.semAt_some

/-- What round k is told. -/
def tellAt (xs : List Nat) (k : Nat) : Array Value := #[.int .i64 (k : Int), .int .u32 ((xs[k]?.getD 0 : Nat) : Int)]

/-! ### Shr -/
def sShr (xs : List Nat) (k : Int) : List Nat := if mayb xs && decide (0 ≤ k) then lim (val xs / 2 ^ k.toNat) else []

/-- What out is when i rounds are over. -/
def ShrOk (ys : List Nat) (r i : Nat) (out : List Nat) : Prop := Limbs out ∧ out.length = i ∧ val out = val (ys.take i) / 2 ^ r ∧ (0 < i → out[i - 1]?.getD 0 < 2 ^ (32 - r))

theorem pow32 {r : Nat} (hr : r < 32) : 2 ^ r * 2 ^ (32 - r) = 4294967296 := by rw [← Nat.pow_add, show r + (32 - r) = 32 from by omega]
theorem shr_zero (ys : List Nat) (r : Nat) : ShrOk ys r 0 [] := ⟨limbs_nil, rfl, by simp [val], fun h => by omega⟩
theorem shr_hi {y r : Nat} (hr : r < 32) : y * 2 ^ (32 - r) / 4294967296 = y / 2 ^ r := by
  rw [← pow32 hr, Nat.mul_div_mul_right _ _ (Nat.two_pow_pos _)]
theorem shr_first {ys : List Nat} {r : Nat} (hr : r < 32) (hy : Limbs ys) : ShrOk ys r 1 [ys[0]?.getD 0 / 2 ^ r] := by
  have h := hy.getD 0
  have hle : ys[0]?.getD 0 / 2 ^ r ≤ ys[0]?.getD 0 := Nat.div_le_self _ _
  refine ⟨Limbs.one (by omega), rfl, ?_, fun _ => ?_⟩
  · rw [val_take_succ]; simp [val]
  · simp only [Nat.sub_self, List.getElem?_cons_zero, Option.getD_some]
    exact (Nat.div_lt_iff_lt_mul (Nat.two_pow_pos r)).2 (by rw [Nat.mul_comm, pow32 hr]; exact h)
theorem val_set {xs : List Nat} {i x : Nat} (hi : i < xs.length) : val (xs.set i x) + 4294967296 ^ i * xs[i]?.getD 0 = val xs + 4294967296 ^ i * x := by
  induction xs generalizing i with
  | nil => simp at hi
  | cons y r ih =>
    cases i with
    | zero => simp [val]; omega
    | succ i =>
      have := ih (i := i) (by simpa using hi)
      simp only [List.set_cons_succ, val, List.getElem?_cons_succ]
      have h2 := congrArg (4294967296 * ·) this
      simp only [Nat.mul_add, ← Nat.mul_assoc, Nat.mul_comm 4294967296 (4294967296 ^ i)] at h2
      rw [Nat.pow_succ]
      omega
theorem Limbs.set {xs : List Nat} (h : Limbs xs) (i : Nat) {x : Nat} (hx : x < 4294967296) : Limbs (xs.set i x) := fun y hy => by
  rcases List.mem_or_eq_of_mem_set hy with h' | rfl
  · exact h y h'
  · exact hx
/-- the part below, added in, fits -/
theorem shr_fits {t y r : Nat} (hr : r < 32) (ht : t < 2 ^ (32 - r)) : t + y * 2 ^ (32 - r) % 4294967296 < 4294967296 := by
  rw [← pow32 hr, Nat.mul_mod_mul_right]
  have h1 : y % 2 ^ r < 2 ^ r := Nat.mod_lt _ (Nat.two_pow_pos r)
  have h2 : (y % 2 ^ r + 1) * 2 ^ (32 - r) ≤ 2 ^ r * 2 ^ (32 - r) := Nat.mul_le_mul_right _ h1
  rw [Nat.add_mul, Nat.one_mul] at h2
  omega
theorem shr_next {ys out : List Nat} {r i y t : Nat} (hr : r < 32) (h : ShrOk ys r (i + 1) out) (hy : ys[i + 1]?.getD 0 = y) (hyl : y < 4294967296) (ht : out[i]?.getD 0 = t) :
    ShrOk ys r (i + 2) (out.set i (t + y * 2 ^ (32 - r) % 4294967296) ++ [y / 2 ^ r]) := by
  obtain ⟨h1, h2, h3, h4⟩ := h
  have htl : t < 2 ^ (32 - r) := by rw [← ht]; exact h4 (by omega)
  have hf := shr_fits (y := y) hr htl
  have hhi : y / 2 ^ r < 4294967296 := Nat.lt_of_le_of_lt (Nat.div_le_self _ _) hyl
  refine ⟨(h1.set i hf).append (Limbs.one hhi), by simp [h2], ?_, fun _ => ?_⟩
  · have hs := val_set (xs := out) (i := i) (x := t + y * 2 ^ (32 - r) % 4294967296) (by omega)
    rw [ht, Nat.mul_add] at hs
    rw [val_snoc, List.length_set, h2]
    have e : val (List.take (i + 2) ys) = val (List.take (i + 1) ys) + 2 ^ r * (4294967296 ^ i * (y * 2 ^ (32 - r))) := by
      rw [val_take_succ, hy]
      congr 1
      rw [Nat.pow_succ, ← pow32 hr]
      generalize (2 ^ r * 2 ^ (32 - r)) ^ i = p
      rw [Nat.mul_comm (2 ^ r) (p * _), Nat.mul_assoc, Nat.mul_assoc p, Nat.mul_comm (y * _), ← Nat.mul_assoc (2 ^ r), Nat.mul_comm (2 ^ r) y, Nat.mul_assoc, Nat.mul_assoc]
      congr 1
      rw [Nat.mul_comm (2 ^ (32 - r)) y, ← Nat.mul_assoc, Nat.mul_comm (2 ^ r) y, Nat.mul_assoc]
    rw [e, Nat.add_mul_div_left _ _ (Nat.two_pow_pos r), ← h3]
    have hw := Nat.mod_add_div (y * 2 ^ (32 - r)) 4294967296
    rw [shr_hi hr] at hw
    have h5 : 4294967296 ^ i * (y * 2 ^ (32 - r)) = 4294967296 ^ i * (y * 2 ^ (32 - r) % 4294967296) + 4294967296 ^ (i + 1) * (y / 2 ^ r) := by
      conv => lhs; rw [← hw]
      rw [Nat.mul_add, Nat.pow_succ, Nat.mul_assoc]
    omega
  · rw [show i + 2 - 1 = i + 1 from rfl, List.getElem?_append_right (by simp [h2]), List.length_set, h2]
    simp only [Nat.sub_self, List.getElem?_cons_zero, Option.getD_some]
    exact (Nat.div_lt_iff_lt_mul (Nat.two_pow_pos r)).2 (by rw [Nat.mul_comm, pow32 hr]; exact hyl)
theorem val_drop {xs : List Nat} (h : Limbs xs) {q : Nat} (hq : q ≤ xs.length) : val (xs.drop q) = val xs / 4294967296 ^ q := by
  have h1 := val_lt (h.take q)
  rw [List.length_take, Nat.min_eq_left hq] at h1
  rw [val_split xs q, Nat.min_eq_left hq, Nat.add_mul_div_left _ _ (Nat.pow_pos (by decide)), Nat.div_eq_of_lt h1, Nat.zero_add]
theorem shr_all {xs out : List Nat} (h : Limbs xs) {k : Nat} (hk : k / 32 ≤ xs.length) (ho : ShrOk (xs.drop (k / 32)) (k % 32) (xs.drop (k / 32)).length out) : val out = val xs / 2 ^ k := by
  rw [ho.2.2.1, List.take_of_length_le (Nat.le_refl _), val_drop h hk, Nat.div_div_eq_div_mul]
  congr 1
  rw [show (4294967296 : Nat) = 2 ^ 32 from rfl, ← Nat.pow_mul, ← Nat.pow_add, Nat.div_add_mod]

end Go.Proofs.YtdkdgijcoialbaaGreatDoor

/- Contract: Shr. -/
namespace Go.Proofs.YtdkdgijcoialbaaGreatDoor
open Go.RowKit Go.Shelf

attribute [local go_sem] Oper.semAt_some

end Go.Proofs.YtdkdgijcoialbaaGreatDoor

/- Contracts: Shl, Shr, whatever is handed in. -/
namespace Go.Proofs.YtdkdgijcoialbaaGreatDoor
open Go.RowKit Go.Shelf

theorem sShl_no1 {xs : List Nat} {k : Int} (h : mayb xs = false) : sShl xs k = [] := by unfold sShl; rw [h]; rfl
theorem sShr_no1 {xs : List Nat} {k : Int} (h : mayb xs = false) : sShr xs k = [] := by unfold sShr; rw [h]; rfl
theorem sShl_no2 {xs : List Nat} {k : Int} (h : k < 0) : sShl xs k = [] := by unfold sShl; rw [decide_eq_false (by omega), Bool.and_false]; rfl
theorem clip_zero : clip 0 = [] := by unfold clip; rw [lim_zero]; rfl
theorem sShl_nil (k : Int) : sShl [] k = [] := by
  unfold sShl
  split
  · simp [val, clip_zero]
  · rfl
theorem sShl_yes {xs : List Nat} (h : mayb xs = true) (k : Nat) : sShl xs (k : Int) = clip (val xs * 2 ^ k) := by
  unfold sShl
  rw [h, decide_eq_true (by omega)]
  simp
theorem lim_len_blen {n k : Nat} : (lim n).length ≤ k ↔ blen n ≤ 32 * k := by
  rw [lim_length_le, blen_le, show (4294967296 : Nat) = 2 ^ 32 from rfl, ← Nat.pow_mul]
theorem sShl_over {xs : List Nat} (h : mayb xs = true) (hl : Limbs xs) (h0 : 0 < xs.length) {k : Nat} (hk : 2097152 < k + sBits xs) : sShl xs (k : Int) = [] := by
  rw [sShl_yes h, clip_not]
  intro hc
  have h3 := lim_len_blen.1 hc
  have hv : val xs ≠ 0 := by have := (mayb_canon hl h).val_pos (fun e => by subst e; simp at h0); omega
  have h2 := blen_shift (n := val xs) (r := 0) (k := k) hv (Nat.two_pow_pos k)
  rw [Nat.add_zero] at h2
  rw [sBits_yes h] at hk
  omega

theorem box_below (w : World) (o : Obj) (nq : Nat) : Below w.heap.size w ((w.alloc o).drewN nq) := by
  have hB := (Below.refl w.heap.size w).alloc (Nat.le_refl _) o
  exact ⟨hB.os, hB.tape, hB.output, hB.size, hB.block⟩

theorem sShr_no2 {xs : List Nat} {k : Int} (h : k < 0) : sShr xs k = [] := by unfold sShr; rw [decide_eq_false (by omega), Bool.and_false]; rfl
theorem sShr_yes {xs : List Nat} (h : mayb xs = true) (k : Nat) : sShr xs (k : Int) = lim (val xs / 2 ^ k) := by
  unfold sShr
  rw [h, decide_eq_true (by omega)]
  simp
theorem sShr_over {xs : List Nat} {k : Nat} (hk : sBits xs ≤ k) : sShr xs (k : Int) = [] := by
  rcases hm : mayb xs with _ | _
  · unfold sShr; rw [hm]; rfl
  · rw [sShr_yes hm, lim_eq_nil]
    rw [sBits_yes hm] at hk
    exact Nat.div_eq_of_lt (blen_le.1 hk)

end Go.Proofs.YtdkdgijcoialbaaGreatDoor

/- Contracts of values in an environment: what is known to be read goes on being read from call to call. And Same, same, of. -/
namespace Go.Proofs.YtdkdgijcoialbaaGreatDoor
open Go.RowKit

/-- The value v is a slice that reads as the limbs xs. -/
def Arg (w : World) (v : Value) (xs : List Nat) : Prop := ∃ A cap, v = .slice A xs.length cap ∧ xs.length ≤ cap ∧ cap ≤ maxLen ∧ Rd w w.heap.size A xs
/-- the same limbs? -/
def eqb (xs ys : List Nat) : Bool := decide (xs = ys)
theorem eqb_refl (xs : List Nat) : eqb xs xs = true := by unfold eqb; simp
/-- Since w0 nothing that lay has turned; each value of the list reads as its limbs. -/
def Env (w0 w : World) (l : List (Value × List Nat)) : Prop := Below w0.heap.size w0 w ∧ ∀ p ∈ l, Arg w p.1 p.2

theorem Arg.below {w w' : World} {v : Value} {xs : List Nat} (h : Arg w v xs) (hb : Below w.heap.size w w') : Arg w' v xs := by
  obtain ⟨A, cap, e, h1, h2, hr⟩ := h
  exact ⟨A, cap, e, h1, h2, (hr.below hb (Nat.le_refl _)).more hb.size⟩
theorem Arg.limbs {w : World} {v : Value} {xs : List Nat} (h : Arg w v xs) : Limbs xs := by obtain ⟨_, _, _, _, _, hr⟩ := h; exact hr.limbs
theorem Own.arg {w : World} {B : Nat} {v : Value} {xs : List Nat} (h : Own w B v xs) (hl : Limbs xs) : Arg w v xs := by
  obtain ⟨A, cap, e, h1, h2, hr⟩ := h.rd hl
  exact ⟨A, cap, e, h1, h2, hr⟩
theorem Arg.nil (w : World) : Arg w (.slice none 0 0) [] := ⟨none, 0, rfl, Nat.le_refl _, by decide, Rd.nil _ _ _⟩

section
variable {w0 w w' : World} {l : List (Value × List Nat)}
theorem Env.step (h : Env w0 w l) (hb : Below w.heap.size w w') : Env w0 w' l := ⟨h.1.trans (hb.mono h.1.size), fun p hp => (h.2 p hp).below hb⟩
theorem Env.add (h : Env w0 w l) (hb : Below w.heap.size w w') {v : Value} {xs : List Nat} (ha : Arg w' v xs) : Env w0 w' ((v, xs) :: l) := ⟨h.1.trans (hb.mono h.1.size), fun p hp => by
  rcases List.mem_cons.1 hp with rfl | hp
  · exact ha
  · exact (h.2 p hp).below hb⟩
theorem Env.get (h : Env w0 w l) {v : Value} {xs : List Nat} (hm : (v, xs) ∈ l) : Arg w v xs := h.2 _ hm
theorem Env.drewN (h : Env w0 w l) (n : Nat) : Env w0 (w.drewN n) l := ⟨⟨h.1.os, h.1.tape, h.1.output, h.1.size, h.1.block⟩, fun p hp => h.2 p hp⟩
theorem Env.nil (h : Env w0 w l) : Env w0 w ((.slice none 0 0, []) :: l) := h.add (Below.refl _ _) (Arg.nil _)
/-- A literal of limbs. -/
theorem Env.lit (h : Env w0 w l) (xs : List Nat) (hl : Limbs xs) (hm : xs.length ≤ maxLen) : Env w0 (w.alloc (.cells (u32s xs).toArray 95)) ((.slice (some ⟨w.heap.size, 0, none⟩) xs.length xs.length, xs) :: l) := by
  refine h.add ((Below.refl _ w).alloc (Nat.le_refl _) _) ?_
  have ho : Own (w.alloc (.cells (u32s xs).toArray 95)) w.heap.size (.slice (some ⟨w.heap.size, 0, none⟩) xs.length xs.length) xs := by
    have := World.ownsRow_lit w (u32s xs).toArray xs.length (base := w.heap.size) (e := 95) (size := 1) (Nat.le_refl _) hm (by simp [u32s])
    simpa [Own] using this
  exact ho.arg hl
theorem Env.lit1 (h : Env w0 w l) (x : Nat) (X : Int) (hX : X = (x : Int)) (hx : x < 4294967296) : Env w0 (w.alloc (.cells #[.int .u32 X] 95)) ((.slice (some ⟨w.heap.size, 0, none⟩) 1 1, [x]) :: l) := by subst hX; exact h.lit [x] (Limbs.one hx) (by unfold maxLen; simp)
theorem Env.lit2 (h : Env w0 w l) (x y : Nat) (X Y : Int) (hX : X = (x : Int)) (hY : Y = (y : Int)) (hx : x < 4294967296) (hy : y < 4294967296) : Env w0 (w.alloc (.cells #[.int .u32 X, .int .u32 Y] 95)) ((.slice (some ⟨w.heap.size, 0, none⟩) 2 2, [x, y]) :: l) := by subst hX hY; exact h.lit [x, y] ((Limbs.one hy).cons hx) (by unfold maxLen; simp)
theorem Env.lit3 (h : Env w0 w l) (x y z : Nat) (X Y Z : Int) (hX : X = (x : Int)) (hY : Y = (y : Int)) (hZ : Z = (z : Int)) (hx : x < 4294967296) (hy : y < 4294967296) (hz : z < 4294967296) : Env w0 (w.alloc (.cells #[.int .u32 X, .int .u32 Y, .int .u32 Z] 95)) ((.slice (some ⟨w.heap.size, 0, none⟩) 3 3, [x, y, z]) :: l) := by subst hX hY hZ; exact h.lit [x, y, z] (((Limbs.one hz).cons hy).cons hx) (by unfold maxLen; simp)
theorem env_start (w : World) : Env w w [] := ⟨Below.refl _ _, fun _ h => by cases h⟩
theorem env_start1 {w : World} {v : Value} {xs : List Nat} (h : Arg w v xs) : Env w w [(v, xs)] := (env_start w).add (Below.refl _ _) h

/-! ### the calls -/
variable {va vb : Value} {xs ys : List Nat}
theorem sAdd_limbs (xs ys : List Nat) : Limbs (sAdd xs ys) := by
  unfold sAdd; split
  · exact clip_limbs _
  · exact limbs_nil
theorem sSub_limbs (xs ys : List Nat) : Limbs (sSub xs ys) := by
  unfold sSub; split
  · exact lim_limbs _
  · exact limbs_nil
theorem sShl_limbs (xs : List Nat) (k : Int) : Limbs (sShl xs k) := by
  unfold sShl; split
  · exact clip_limbs _
  · exact limbs_nil
theorem sShr_limbs (xs : List Nat) (k : Int) : Limbs (sShr xs k) := by
  unfold sShr; split
  · exact lim_limbs _
  · exact limbs_nil
end

/-! ### Same -/
section
variable {w0 w w' : World} {l : List (Value × List Nat)} {va vb : Value} {xs ys : List Nat}
end

/-! ### closed reckonings -/
theorem sAdd_eq {xs ys zs : List Nat} (hx : mayb xs = true) (hy : mayb ys = true) (hz : mayb zs = true) (hl : Limbs zs) (h : val xs + val ys = val zs) : sAdd xs ys = zs := by
  rw [sAdd_yes (by simp [hx, hy]), h, clip_val hl hz]
theorem sSub_ok {xs ys : List Nat} (hx : mayb xs = true) (hy : mayb ys = true) (h : val ys ≤ val xs) : sSubOk xs ys = true := by
  unfold sSubOk; simp [hx, hy, h]
theorem sSub_eq {xs ys zs : List Nat} (hx : mayb xs = true) (hy : mayb ys = true) (hz : mayb zs = true) (hl : Limbs zs) (h : val ys + val zs = val xs) : sSub xs ys = zs := by
  rw [sSub_yes (sSub_ok hx hy (by omega)), show val xs - val ys = val zs from by omega, lim_val (mayb_canon hl hz)]
theorem sShl_eq {xs zs : List Nat} {k : Nat} (hx : mayb xs = true) (hz : mayb zs = true) (hl : Limbs zs) (h : val xs * 2 ^ k = val zs) : sShl xs (k : Int) = zs := by
  rw [sShl_yes hx, h, clip_val hl hz]
theorem sShr_eq {xs zs : List Nat} {k : Nat} (hx : mayb xs = true) (hz : mayb zs = true) (hl : Limbs zs) (h : val xs / 2 ^ k = val zs) : sShr xs (k : Int) = zs := by
  rw [sShr_yes hx, h, lim_val (mayb_canon hl hz)]
theorem lim_eq {u : Nat} {zs : List Nat} (hz : mayb zs = true) (hl : Limbs zs) (h : val zs = u) : lim u = zs := by
  rw [← h, lim_val (mayb_canon hl hz)]

end Go.Proofs.YtdkdgijcoialbaaGreatDoor

/- Contract: awake (the examples): true, and nothing that lay has turned. -/
namespace Go.Proofs.YtdkdgijcoialbaaGreatDoor
open Go.RowKit

end Go.Proofs.YtdkdgijcoialbaaGreatDoor

/- NatRow. -/
namespace Go.Proofs.YtdkdgijcoialbaaGreatDoor
open Go.RowKit

/-- A row of numbers that came in reads as limbs. -/
theorem arg_of_row {w : World} {a : Option Addr} {len cap : Nat} {zs : List Int}
    (h : (a = none ∧ len = 0 ∧ cap = 0 ∧ zs = []) ∨ ∃ x, a = some x ∧ len ≤ cap ∧ cap ≤ maxLen ∧ zs.length = cap ∧ (∀ i, i < zs.length → w.cell? (x.add i) = some (.int .u32 (zs.getD i 0))) ∧ ∀ n ∈ zs, (Lit.int .u32 n).wf = true) :
    ∃ xs : List Nat, xs.length = len ∧ Arg w (.slice a len cap) xs := by
  rcases h with ⟨rfl, rfl, rfl, rfl⟩ | ⟨x, rfl, h1, h2, h3, h4, h5⟩
  · exact ⟨[], rfl, Arg.nil w⟩
  · have hlen : ((zs.take len).map Int.toNat).length = len := by simp; omega
    have hb : ∀ n ∈ zs, 0 ≤ n ∧ n < 4294967296 := fun n hn => by
      have := bounds_u32 (h5 n hn)
      omega
    refine ⟨(zs.take len).map Int.toNat, hlen, some x, cap, by rw [hlen], by rw [hlen]; exact h1, h2, ?_, fun hp => ?_⟩
    · intro y hy
      obtain ⟨n, hn, rfl⟩ := List.mem_map.1 hy
      have := hb n (List.mem_of_mem_take hn)
      omega
    · obtain ⟨b, off, spot⟩ := x
      have hc := h4 0 (by omega)
      have hspot : spot = none := by simpa [Addr.add] using World.cell?_spot hc
      subst hspot
      have hblk : b < w.heap.size := by
        obtain ⟨o, ho, _⟩ := cells_of_cell hc
        simpa [Addr.add] using (Array.getElem?_eq_some_iff.1 ho).1
      refine ⟨b, off, rfl, hblk, fun j hj => ?_⟩
      have hj' : j < zs.length := by omega
      have := h4 j hj'
      have e : ((⟨b, off, none⟩ : Addr).add j) = ⟨b, off + j, none⟩ := by
        unfold Addr.add; split
        · rename_i h0; subst h0; rfl
        · rfl
      rw [e] at this
      rw [this, List.getElem?_map, List.getElem?_take, if_pos (by omega)]
      have hz := hb zs[j] (List.getElem_mem hj')
      rw [List.getD_eq_getElem?_getD, List.getElem?_eq_getElem hj']
      simp only [Option.getD_some, Option.map_some]
      rw [Int.toNat_of_nonneg hz.1]

theorem Env.of1 {w0 w : World} {p : Value × List Nat} {l : List (Value × List Nat)} (h : Env w0 w (p :: l)) : Env w0 w l := ⟨h.1, fun q hq => h.2 q (by simp [hq])⟩
theorem Env.swap {w0 w : World} {p q : Value × List Nat} {l : List (Value × List Nat)} (h : Env w0 w (p :: q :: l)) : Env w0 w (q :: l) := h.of1

section
variable {w0 w w' : World} {l : List (Value × List Nat)} {va vb : Value} {xs ys zs : List Nat}
theorem Env.pop {p : Value × List Nat} (h : Env w0 w (p :: l)) : Env w0 w l := ⟨h.1, fun q hq => h.2 q (List.mem_cons_of_mem _ hq)⟩
theorem Env.lit4 (h : Env w0 w l) (x y z t : Nat) (X Y Z T : Int) (hX : X = (x : Int)) (hY : Y = (y : Int)) (hZ : Z = (z : Int)) (hT : T = (t : Int)) (hx : x < 4294967296) (hy : y < 4294967296) (hz : z < 4294967296) (ht : t < 4294967296) : Env w0 (w.alloc (.cells #[.int .u32 X, .int .u32 Y, .int .u32 Z, .int .u32 T] 95)) ((.slice (some ⟨w.heap.size, 0, none⟩) 4 4, [x, y, z, t]) :: l) := by subst hX hY hZ hT; exact h.lit [x, y, z, t] ((((Limbs.one ht).cons hz).cons hy).cons hx) (by unfold maxLen; simp)
end

end Go.Proofs.YtdkdgijcoialbaaGreatDoor

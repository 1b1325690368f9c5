/- Several texts in one. -/
import Derived.Below
import Derived.WalkKit
import Derived.Lib.Hide
import Derived.BigQuiet
import Derived.Deep.QuietTactic
import Derived.WalkSpells
import Derived.WalkLawsBesides
import Derived.Test.YtileljokijmpaaaDoorRows
import Derived.Lib.ItoaNum
import Derived.Test.YtileljokijmpaaaDoorShelf
import Derived.Laws.BitsAllLaws
import Derived.RangeFuncNested
import Derived.RangeFuncBound
import Derived.RangeFuncCalls
import Derived.RangeFuncLeaves
import Derived.RangeFuncBox
import Derived.Shelf.Abstract
import Derived.Shelf.RegionOpen
import Derived.OwnWalkIn
import Derived.TacticsInMore
import Derived.LoopNIn
import Derived.LoopIn
import Derived.Maps.AppendAt
import Derived.BigRegionIn
import Derived.Sort.QuietIn
import Derived.OpenShut

/- Plain mathematics of naturals by limbs of 32 bits: lists of numbers and the natural that they are. Imports nothing of the program. -/
namespace Go.Proofs.YtileljokijmpaaaDoor

/-- The natural of limbs, the least one first. -/
def val : List Nat → Nat
  | [] => 0
  | x :: r => x + 4294967296 * val r

def Limbs (xs : List Nat) : Prop := ∀ x ∈ xs, x < 4294967296

theorem limbs_nil : Limbs [] := fun _ h => by cases h
theorem Limbs.cons {x : Nat} {r : List Nat} (hx : x < 4294967296) (h : Limbs r) : Limbs (x :: r) := fun y hy => by
  rcases List.mem_cons.1 hy with rfl | h'
  · exact hx
  · exact h y h'
theorem Limbs.head {x : Nat} {r : List Nat} (h : Limbs (x :: r)) : x < 4294967296 := h x (by simp)
theorem Limbs.tail {x : Nat} {r : List Nat} (h : Limbs (x :: r)) : Limbs r := fun y hy => h y (by simp [hy])
theorem Limbs.append {xs ys : List Nat} (h : Limbs xs) (k : Limbs ys) : Limbs (xs ++ ys) := fun y hy => by
  rcases List.mem_append.1 hy with h' | h'
  · exact h y h'
  · exact k y h'
theorem Limbs.take {xs : List Nat} (h : Limbs xs) (k : Nat) : Limbs (xs.take k) := fun y hy => h y (List.mem_of_mem_take hy)
theorem Limbs.drop {xs : List Nat} (h : Limbs xs) (k : Nat) : Limbs (xs.drop k) := fun y hy => h y (List.mem_of_mem_drop hy)
theorem Limbs.getD {xs : List Nat} (h : Limbs xs) (j : Nat) : xs[j]?.getD 0 < 4294967296 := by
  rcases Nat.lt_or_ge j xs.length with hj | hj
  · rw [List.getElem?_eq_getElem hj]; exact h _ (List.getElem_mem hj)
  · rw [List.getElem?_eq_none hj]; decide
theorem Limbs.one {x : Nat} (hx : x < 4294967296) : Limbs [x] := limbs_nil.cons hx
theorem limbs_replicate (k : Nat) : Limbs (List.replicate k 0) := fun y hy => by rw [(List.mem_replicate.1 hy).2]; decide

theorem val_append (xs ys : List Nat) : val (xs ++ ys) = val xs + 4294967296 ^ xs.length * val ys := by
  induction xs with
  | nil => simp [val]
  | cons x r ih => simp only [List.cons_append, val, ih, List.length_cons, Nat.pow_succ, Nat.mul_add]; rw [Nat.mul_comm (4294967296 ^ r.length) 4294967296, Nat.mul_assoc]; omega
theorem val_snoc (xs : List Nat) (x : Nat) : val (xs ++ [x]) = val xs + 4294967296 ^ xs.length * x := by rw [val_append]; simp [val]
theorem val_lt {xs : List Nat} (h : Limbs xs) : val xs < 4294967296 ^ xs.length := by
  induction xs with
  | nil => simp [val]
  | cons x r ih =>
    have := ih h.tail
    have hx := h.head
    simp only [val, List.length_cons, Nat.pow_succ]
    have : 4294967296 * (val r + 1) ≤ 4294967296 * 4294967296 ^ r.length := Nat.mul_le_mul_left _ this
    rw [Nat.mul_comm (4294967296 ^ r.length)]
    omega
theorem val_replicate (k : Nat) : val (List.replicate k 0) = 0 := by
  induction k with
  | zero => rfl
  | succ k ih => simp [List.replicate_succ, val, ih]
theorem val_take_succ (xs : List Nat) (k : Nat) : val (xs.take (k + 1)) = val (xs.take k) + 4294967296 ^ k * (xs[k]?.getD 0) := by
  rcases Nat.lt_or_ge k xs.length with hk | hk
  · rw [List.take_succ_eq_append_getElem hk, val_snoc, List.getElem?_eq_getElem hk, List.length_take, Nat.min_eq_left (by omega)]; rfl
  · rw [List.take_of_length_le (by omega), List.take_of_length_le hk, List.getElem?_eq_none hk]; simp
theorem val_zero_of_all {xs : List Nat} (h : ∀ j, j < xs.length → xs[j]?.getD 0 = 0) : val xs = 0 := by
  induction xs with
  | nil => rfl
  | cons x r ih =>
    have h0 := h 0 (by simp)
    have := ih fun j hj => by have := h (j + 1) (by simp; omega); simpa using this
    simp at h0
    simp [val, h0, this]

/-- Canonical: the last limb is not 0. -/
def Canon (xs : List Nat) : Prop := Limbs xs ∧ xs.getLast? ≠ some 0

theorem canon_nil : Canon [] := ⟨limbs_nil, by simp⟩
theorem Canon.tail {x : Nat} {r : List Nat} (h : Canon (x :: r)) : Canon r := by
  refine ⟨h.1.tail, ?_⟩
  cases r with
  | nil => simp
  | cons y s => have := h.2; simpa [List.getLast?_cons_cons] using this
theorem Canon.val_pos {xs : List Nat} (h : Canon xs) (hn : xs ≠ []) : 0 < val xs := by
  induction xs with
  | nil => exact absurd rfl hn
  | cons x r ih =>
    cases r with
    | nil => have := h.2; simp [val] at this ⊢; omega
    | cons y s => have := ih h.tail (by simp); simp only [val] at this ⊢; omega
theorem canon_inj : ∀ {xs ys : List Nat}, Canon xs → Canon ys → val xs = val ys → xs = ys
  | [], [], _, _, _ => rfl
  | [], y :: s, _, h, e => by have := h.val_pos (by simp); simp [val] at e this; omega
  | x :: r, [], h, _, e => by have := h.val_pos (by simp); simp [val] at e this; omega
  | x :: r, y :: s, h, k, e => by
    have hx := h.1.head; have hy := k.1.head
    simp only [val] at e
    obtain rfl : x = y := by omega
    rw [canon_inj h.tail k.tail (by omega)]

/-- The limbs of a natural. -/
def lim (n : Nat) : List Nat := if h : n = 0 then [] else n % 4294967296 :: lim (n / 4294967296)
termination_by n
decreasing_by exact Nat.div_lt_self (by omega) (by decide)

theorem lim_zero : lim 0 = [] := by rw [lim]; rfl
theorem lim_pos {n : Nat} (h : n ≠ 0) : lim n = n % 4294967296 :: lim (n / 4294967296) := by rw [lim, dif_neg h]
theorem val_lim (n : Nat) : val (lim n) = n := by
  induction n using Nat.strongRecOn with
  | ind n ih =>
    by_cases h : n = 0
    · subst h; rw [lim_zero]; rfl
    · rw [lim_pos h, val, ih _ (Nat.div_lt_self (by omega) (by decide))]; omega
theorem canon_lim (n : Nat) : Canon (lim n) := by
  induction n using Nat.strongRecOn with
  | ind n ih =>
    by_cases h : n = 0
    · subst h; rw [lim_zero]; exact canon_nil
    · have hc := ih _ (Nat.div_lt_self (n := n) (k := 4294967296) (by omega) (by decide))
      rw [lim_pos h]
      refine ⟨hc.1.cons (Nat.mod_lt _ (by decide)), ?_⟩
      by_cases h2 : n / 4294967296 = 0
      · rw [h2, lim_zero]; simp; omega
      · rw [lim_pos h2] at hc ⊢; rw [List.getLast?_cons_cons]; exact hc.2
theorem lim_val {xs : List Nat} (h : Canon xs) : lim (val xs) = xs := canon_inj (canon_lim _) h (val_lim _)
theorem lim_limbs (n : Nat) : Limbs (lim n) := (canon_lim n).1
theorem lim_eq_nil {n : Nat} : lim n = [] ↔ n = 0 := ⟨fun h => by rw [← val_lim n, h]; rfl, fun h => by rw [h]; exact lim_zero⟩
theorem lim_inj {n m : Nat} (h : lim n = lim m) : n = m := by rw [← val_lim n, h, val_lim]
theorem canon_val_ge {xs : List Nat} (h : Canon xs) (hn : xs ≠ []) : 4294967296 ^ (xs.length - 1) ≤ val xs := by
  induction xs with
  | nil => exact absurd rfl hn
  | cons x r ih =>
    cases r with
    | nil => have := h.val_pos (by simp); simp; omega
    | cons y s =>
      have := ih h.tail (by simp)
      simp only [val, List.length_cons, Nat.add_sub_cancel] at this ⊢
      rw [Nat.pow_succ, Nat.mul_comm]
      have := Nat.mul_le_mul_left 4294967296 this
      omega
theorem lim_length_le {n k : Nat} : (lim n).length ≤ k ↔ n < 4294967296 ^ k := by
  constructor
  · intro h
    have := val_lt (lim_limbs n)
    rw [val_lim] at this
    exact Nat.lt_of_lt_of_le this (Nat.pow_le_pow_right (by decide) h)
  · intro h
    by_cases h0 : n = 0
    · subst h0; rw [lim_zero]; simp
    · have hn : lim n ≠ [] := fun e => h0 (lim_eq_nil.1 e)
      have := canon_val_ge (canon_lim n) hn
      rw [val_lim] at this
      have h2 := Nat.lt_of_le_of_lt this h
      have := (Nat.pow_lt_pow_iff_right (a := 4294967296) (by decide)).1 h2
      have : 0 < (lim n).length := List.length_pos_iff.2 hn
      omega

/-- The limbs of a natural, if there are not too many: else none. -/
def clip (n : Nat) : List Nat := if (lim n).length ≤ 65536 then lim n else []
def mayb (xs : List Nat) : Bool := decide (xs.length ≤ 65536 ∧ xs.getLast? ≠ some 0)

theorem mayb_iff {xs : List Nat} : mayb xs = true ↔ xs.length ≤ 65536 ∧ xs.getLast? ≠ some 0 := by simp [mayb]
theorem mayb_nil : mayb [] = true := by simp [mayb]
theorem mayb_canon {xs : List Nat} (h : Limbs xs) (hm : mayb xs = true) : Canon xs := ⟨h, (mayb_iff.1 hm).2⟩
theorem mayb_lim {n : Nat} (h : (lim n).length ≤ 65536) : mayb (lim n) = true := mayb_iff.2 ⟨h, (canon_lim n).2⟩
theorem clip_may (n : Nat) : mayb (clip n) = true := by
  unfold clip; split
  · exact mayb_lim ‹_›
  · exact mayb_nil
theorem clip_limbs (n : Nat) : Limbs (clip n) := by
  unfold clip; split
  · exact lim_limbs n
  · exact limbs_nil
theorem clip_of {n : Nat} (h : (lim n).length ≤ 65536) : clip n = lim n := if_pos h
theorem clip_not {n : Nat} (h : ¬ (lim n).length ≤ 65536) : clip n = [] := if_neg h
theorem clip_val {xs : List Nat} (h : Limbs xs) (hm : mayb xs = true) : clip (val xs) = xs := by
  have e := lim_val (mayb_canon h hm)
  rw [clip_of (by rw [e]; exact (mayb_iff.1 hm).1), e]
theorem clip_length (n : Nat) : (clip n).length ≤ 65536 := (mayb_iff.1 (clip_may n)).1

/-- What is left without 0s behind is the natural's limbs. -/
theorem trim_spec {xs : List Nat} (h : Limbs xs) {k : Nat} (hk : k ≤ xs.length) (hz : ∀ j, k ≤ j → j < xs.length → xs[j]?.getD 0 = 0) (hl : k = 0 ∨ xs[k - 1]?.getD 0 ≠ 0) : lim (val xs) = xs.take k := by
  have hv : val xs = val (xs.take k) := by
    conv => lhs; rw [← List.take_append_drop k xs, val_append]
    rw [val_zero_of_all (xs := xs.drop k) (fun j hj => by rw [List.getElem?_drop]; exact hz _ (by omega) (by simp at hj; omega))]
    simp
  rw [hv]
  refine lim_val ⟨h.take k, ?_⟩
  rcases hl with rfl | hl
  · simp
  · rw [List.getLast?_eq_getElem?, List.length_take, Nat.min_eq_left hk]
    intro e
    rcases Nat.eq_zero_or_pos k with h0 | h0
    · subst h0; simp at e
    · rw [List.getElem?_take, if_pos (by omega)] at e
      rw [e] at hl; exact hl rfl

theorem lim_val_take {xs : List Nat} (h : Limbs xs) : ∃ k, k ≤ xs.length ∧ lim (val xs) = xs.take k := by
  induction xs with
  | nil => exact ⟨0, Nat.le_refl _, by simp [val, lim_zero]⟩
  | cons x r ih =>
    obtain ⟨k, hk, e⟩ := ih h.tail
    by_cases h0 : val (x :: r) = 0
    · exact ⟨0, by simp, by rw [h0, lim_zero]; rfl⟩
    · refine ⟨k + 1, by simp; omega, ?_⟩
      have hx := h.head
      rw [lim_pos h0, List.take_succ_cons, ← e, val]
      congr 1
      · omega
      · congr 1; omega

/-! ### how two stand -/
theorem val_split (xs : List Nat) (k : Nat) : val xs = val (xs.take k) + 4294967296 ^ (min k xs.length) * val (xs.drop k) := by
  conv => lhs; rw [← List.take_append_drop k xs, val_append, List.length_take]
theorem val_at {xs : List Nat} {k : Nat} (hk : k < xs.length) : val xs = val (xs.take k) + 4294967296 ^ k * (xs[k]?.getD 0 + 4294967296 * val (xs.drop (k + 1))) := by
  rw [val_split xs k, Nat.min_eq_left (by omega), List.drop_eq_getElem_cons hk, List.getElem?_eq_getElem hk]; rfl
theorem drop_congr {xs ys : List Nat} {k : Nat} (hl : xs.length = ys.length) (h : ∀ j, k ≤ j → j < xs.length → xs[j]?.getD 0 = ys[j]?.getD 0) : xs.drop k = ys.drop k := by
  apply List.ext_getElem
  · simp [hl]
  · intro j h1 h2
    have h3 : k + j < xs.length := by simp at h1; omega
    have := h (k + j) (by omega) h3
    rw [List.getElem?_eq_getElem h3, List.getElem?_eq_getElem (by omega)] at this
    simpa using this
theorem val_lt_at {xs ys : List Nat} {k : Nat} (hx : Limbs xs) (hl : xs.length = ys.length) (hk : k < xs.length) (h : ∀ j, k + 1 ≤ j → j < xs.length → xs[j]?.getD 0 = ys[j]?.getD 0) (hlt : xs[k]?.getD 0 < ys[k]?.getD 0) : val xs < val ys := by
  rw [val_at hk, val_at (xs := ys) (k := k) (by omega), drop_congr hl h]
  have h1 := val_lt (hx.take k)
  rw [List.length_take, Nat.min_eq_left (by omega)] at h1
  have h2 : 4294967296 ^ k * (xs[k]?.getD 0 + 4294967296 * val (ys.drop (k + 1)) + 1) ≤ 4294967296 ^ k * (ys[k]?.getD 0 + 4294967296 * val (ys.drop (k + 1))) := Nat.mul_le_mul_left _ (by omega)
  rw [Nat.mul_add, Nat.mul_one] at h2
  omega
theorem val_lt_len {xs ys : List Nat} (hx : Limbs xs) (hy : Canon ys) (h : xs.length < ys.length) : val xs < val ys := by
  have h1 := val_lt hx
  have h2 := canon_val_ge hy (fun e => by subst e; simp at h)
  have h3 : 4294967296 ^ xs.length ≤ 4294967296 ^ (ys.length - 1) := Nat.pow_le_pow_right (by decide) (by omega)
  omega

def cmpN (a b : Nat) : Int := if a < b then -1 else if b < a then 1 else 0
theorem cmpN_lt {a b : Nat} (h : a < b) : cmpN a b = -1 := by unfold cmpN; rw [if_pos h]
theorem cmpN_gt {a b : Nat} (h : b < a) : cmpN a b = 1 := by unfold cmpN; rw [if_neg (by omega), if_pos h]
theorem cmpN_eq {a b : Nat} (h : a = b) : cmpN a b = 0 := by unfold cmpN; rw [if_neg (by omega), if_neg (by omega)]
def sCmp (xs ys : List Nat) : Int := if mayb xs && mayb ys then cmpN (val xs) (val ys) else 0
theorem sCmp_no {xs ys : List Nat} (h : (mayb xs && mayb ys) = false) : sCmp xs ys = 0 := by unfold sCmp; rw [h]; rfl
theorem sCmp_yes {xs ys : List Nat} (h : (mayb xs && mayb ys) = true) : sCmp xs ys = cmpN (val xs) (val ys) := by unfold sCmp; rw [h]; rfl

end Go.Proofs.YtileljokijmpaaaDoor

/- Words for memory: a slice of limbs that is read; one that the call owns. -/
namespace Go.Proofs.YtileljokijmpaaaDoor
open Go.RowKit

def lv (x : Nat) : Value := .int .u32 (x : Int)
def u32s (xs : List Nat) : List Value := xs.map lv

/-- A slice at the address A, as long as the list, holds the limbs xs, in a block below B. -/
def Rd (w : World) (B : Nat) (A : Option Addr) (xs : List Nat) : Prop :=
  Limbs xs ∧ (0 < xs.length → ∃ b off, A = some ⟨b, off, none⟩ ∧ b < B ∧ ∀ j, j < xs.length → w.cell? ⟨b, off + j, none⟩ = some (.int .u32 ((xs[j]?.getD 0 : Nat) : Int)))

theorem Rd.limbs {w : World} {B : Nat} {A : Option Addr} {xs : List Nat} (h : Rd w B A xs) : Limbs xs := h.1
theorem Rd.nil (w : World) (B : Nat) (A : Option Addr) : Rd w B A [] := ⟨limbs_nil, fun h => absurd h (by simp)⟩
theorem Rd.below {w w' : World} {B B' : Nat} {A : Option Addr} {xs : List Nat} (h : Rd w B A xs) (hb : Below B' w w') (hB : B ≤ B') : Rd w' B A xs :=
  ⟨h.1, fun hn => by
    obtain ⟨b, off, e, hlt, hc⟩ := h.2 hn
    exact ⟨b, off, e, hlt, fun j hj => (hb.cell (p := ⟨b, off + j, none⟩) (by simp; omega)).trans (hc j hj)⟩⟩
theorem Rd.more {w : World} {B B' : Nat} {A : Option Addr} {xs : List Nat} (h : Rd w B A xs) (hB : B ≤ B') : Rd w B' A xs :=
  ⟨h.1, fun hn => by
    obtain ⟨b, off, e, hlt, hc⟩ := h.2 hn
    exact ⟨b, off, e, by omega, hc⟩⟩
theorem Rd.take {w : World} {B : Nat} {A : Option Addr} {xs : List Nat} (h : Rd w B A xs) (k : Nat) : Rd w B A (xs.take k) :=
  ⟨h.1.take k, fun hn => by
    have hlen : (xs.take k).length ≤ xs.length := by rw [List.length_take]; omega
    obtain ⟨b, off, e, hlt, hc⟩ := h.2 (by omega)
    refine ⟨b, off, e, hlt, fun j hj => ?_⟩
    rw [hc j (by omega), List.getElem?_take, if_pos (by rw [List.length_take] at hj; omega)]⟩

/-- The slice v is the call's own (in new memory, from block B on), and holds just xs. -/
def Own (w : World) (B : Nat) (v : Value) (xs : List Nat) : Prop := w.ownsRow B 40 1 v xs.length (u32s xs)

theorem Own.nil (w : World) (B : Nat) : Own w B (.slice none 0 0) [] := World.ownsRow_nil _ _ _ _
/-- An own slice's address, and that it is read. -/
theorem Own.rd {w : World} {B : Nat} {v : Value} {xs : List Nat} (h : Own w B v xs) (hl : Limbs xs) : ∃ A cap, v = .slice A xs.length cap ∧ xs.length ≤ cap ∧ cap ≤ maxLen ∧ Rd w w.heap.size A xs := by
  rcases h.2 with ⟨rfl, h0⟩ | ⟨g, cap, cur, rfl, hg, hh, hle, hm, hs, ht⟩
  · have : xs = [] := List.eq_nil_of_length_eq_zero h0
    subst this
    exact ⟨none, 0, rfl, Nat.le_refl _, by decide, Rd.nil _ _ _⟩
  · refine ⟨_, cap, rfl, hle, hm, hl, fun hn => ⟨g, 0, rfl, (Array.getElem?_eq_some_iff.1 hh).1, fun j hj => ?_⟩⟩
    have hc := World.ownsRow.cellAt h j (by omega)
    rw [Nat.zero_add, hc, u32s, List.getElem?_map, List.getElem?_eq_getElem hj]
    rfl
theorem Own.more {w : World} {B B' : Nat} {v : Value} {xs : List Nat} (h : Own w B v xs) (hB : B' ≤ B) : Own w B' v xs := by
  refine ⟨h.1, ?_⟩
  rcases h.2 with h2 | ⟨g, cap, cur, e, hg, r⟩
  · exact .inl h2
  · exact .inr ⟨g, cap, cur, e, by omega, r⟩
theorem Own.below {w w' : World} {B : Nat} {v : Value} {xs : List Nat} (h : Own w B v xs) (hb : Below w.heap.size w w') : Own w' B v xs := by
  refine ⟨h.1, ?_⟩
  rcases h.2 with h2 | ⟨g, cap, cur, e, hg, hh, r⟩
  · exact .inl h2
  · exact .inr ⟨g, cap, cur, e, hg, (hb.block g (Array.getElem?_eq_some_iff.1 hh).1).trans hh, r⟩
/-- The first k places of an own slice. -/
theorem Own.cut {w : World} {B : Nat} {A : Option Addr} {n cap : Nat} {xs : List Nat} (h : Own w B (.slice A n cap) xs) (k : Nat) (hk : k ≤ xs.length) : Own w B (.slice A k cap) (xs.take k) := by
  have hlen : (xs.take k).length = k := by rw [List.length_take]; omega
  refine ⟨by simp [u32s], ?_⟩
  rcases h.2 with ⟨e, h0⟩ | ⟨g, cap', cur, e, hg, hh, hle, hm, hs, ht⟩
  · have : k = 0 := by omega
    injection e with e1 e2 e3
    subst this
    exact .inl ⟨by rw [e1, e3], by simp⟩
  · injection e with e1 e2 e3
    subst e1 e3
    refine .inr ⟨g, cap, cur, by rw [hlen], hg, hh, by omega, hm, hs, ?_⟩
    have := congrArg (List.take k) ht
    rw [List.take_take] at this
    rw [hlen, Nat.mul_one, u32s, List.map_take, ← u32s, ← this, Nat.mul_one, Nat.min_eq_left hk]

end Go.Proofs.YtileljokijmpaaaDoor

/- Contracts: May, tidy. -/
namespace Go.Proofs.YtileljokijmpaaaDoor
open Go.RowKit

theorem ret_bool {a b : Bool} (h : a = b) : Ending.returned (.bool a) = .returned (.bool b) := by rw [h]
theorem ret_int {k : IntKind} {a b : Int} (h : a = b) : Ending.returned (.int k a) = .returned (.int k b) := by rw [h]
theorem ret_val {a b : Value} (h : a = b) : Ending.returned a = .returned b := by rw [h]

theorem mayb_pos {xs : List Nat} (h : 0 < xs.length) : mayb xs = decide (xs.length ≤ 65536 ∧ xs[xs.length - 1]?.getD 0 ≠ 0) := by
  unfold mayb
  rw [List.getLast?_eq_getElem?, List.getElem?_eq_getElem (by omega)]
  simp

set_option maxHeartbeats 400000 in
theorem may_any (A : Option Addr) (cap : Nat) (xs : List Nat) (w : World) (B : Nat) (hr : Rd w B A xs) (hle : xs.length ≤ maxLen) :
    Calls Tryd.prog 24 #[.slice A xs.length cap] w fun e w' => e = .returned (.bool (mayb xs)) ∧ w' = w := by
  unfold maxLen at hle
  rcases Nat.eq_zero_or_pos xs.length with h0 | h0
  · have : xs = [] := List.eq_nil_of_length_eq_zero h0
    subst this
    go_enter Tryd.func24, Tryd.ntmps24
    go_wp2
    go_ret
    exact ⟨by simp [mayb], rfl⟩
  · obtain ⟨b, off, rfl, hlt, hc⟩ := hr.2 h0
    have hcl := hc (xs.length - 1) (by omega)
    have hl := hr.limbs.getD (xs.length - 1)
    have hM := Lib.hid (mayb_pos h0)
    clear hc
    have hz0 : (((xs.length : Nat) : Int) == 0) = false := beq_eq_false_iff_ne.2 (by omega)
    by_cases h1 : xs.length ≤ 65536
    · go_enter Tryd.func24, Tryd.ntmps24
      go_wp2
      go_ret
      exact ⟨ret_bool (by rw [hM.out, Bool.eq_iff_iff]; simp [h1]), rfl⟩
    · go_enter Tryd.func24, Tryd.ntmps24
      go_wp2
      go_ret
      exact ⟨ret_bool (by rw [hM.out]; simp [h1]), rfl⟩

/-- A slice's length, for a loop's measure. -/
def lenOf : Value → Nat | .slice _ n _ => n | _ => 0
/-- What tidy hands back. -/
def tidied (A : Option Addr) (cap : Nat) (xs : List Nat) : Value := if clip (val xs) = [] then .slice none 0 0 else .slice A (clip (val xs)).length cap
theorem tidied_nil {A : Option Addr} {cap : Nat} {xs : List Nat} (h : lim (val xs) = [] ∨ 65536 < (lim (val xs)).length) : Value.slice none 0 0 = tidied A cap xs := by
  unfold tidied clip
  rcases h with h | h
  · simp [h]
  · rw [if_pos (by rw [if_neg (by omega)])]
theorem tidied_cut {A : Option Addr} {cap : Nat} {xs : List Nat} {k : Nat} (h : (lim (val xs)).length = k) (h0 : 0 < k) (hk : k ≤ 65536) : Value.slice A k cap = tidied A cap xs := by
  have hc : clip (val xs) = lim (val xs) := clip_of (by omega)
  unfold tidied
  rw [hc, if_neg (fun e => by rw [e] at h; simp at h; omega), h]

set_option maxHeartbeats 400000 in
theorem tidy_any (A : Option Addr) (cap : Nat) (xs : List Nat) (w : World) (B : Nat) (hr : Rd w B A xs) (hc : xs.length ≤ cap) (hle : cap ≤ maxLen) :
    Calls Tryd.prog 23 #[.slice A xs.length cap] w fun e w' => e = .returned (tidied A cap xs) ∧ w' = w := by
  unfold maxLen at hle
  go_enter Tryd.func23, Tryd.ntmps23
  go_wp2
  go_loop [0] (fun v => ∃ k : Nat, k ≤ xs.length ∧ v = .slice A k cap ∧ Hid (∀ j, k ≤ j → j < xs.length → xs[j]?.getD 0 = 0)) (fun v => lenOf v)
  case atStart => exact ⟨xs.length, Nat.le_refl _, rfl, fun j h1 h2 => by omega⟩
  case round =>
    obtain ⟨k, hk, rfl, hz⟩ := hrel
    rcases Nat.eq_zero_or_pos k with h0 | h0
    · subst h0
      go_wp2
      go_ret
      exact ⟨ret_val (tidied_nil (.inl (by rw [trim_spec hr.limbs hk hz.out (.inl rfl)]; rfl))), rfl⟩
    · obtain ⟨b, off, rfl, hlt, hcell⟩ := hr.2 (by omega)
      have hcl := hcell (k - 1) (by omega)
      have hl := hr.limbs.getD (k - 1)
      have hk0 : (((k : Nat) : Int) == 0) = false := beq_eq_false_iff_ne.2 (by omega)
      clear hcell
      by_cases hx : xs[k - 1]?.getD 0 = 0
      · have hx' : (((xs[k - 1]?.getD 0 : Nat) : Int) == 0) = true := by simp [hx]
        have hX := Lib.hid hx
        clear hx
        go_wp2
        go_round
        case rel => exact ⟨k - 1, by omega, rfl, fun j h1 h2 => by rcases Nat.lt_or_ge j k with h3 | h3; (obtain rfl : j = k - 1 := by omega); exact hX.out; exact hz.out j h3 h2⟩
        case measure => simp [lenOf]; omega
      · have hx' : (((xs[k - 1]?.getD 0 : Nat) : Int) == 0) = false := by simp; omega
        have hL : Hid ((lim (val xs)).length = k) := by rw [trim_spec hr.limbs hk hz.out (.inr hx), List.length_take]; show min k _ = k; omega
        by_cases hM : k ≤ 65536
        · go_wp2
          go_ret
          exact ⟨ret_val (tidied_cut hL.out h0 hM), rfl⟩
        · go_wp2
          go_ret
          exact ⟨ret_val (tidied_nil (.inr (by rw [hL.out]; omega))), rfl⟩

end Go.Proofs.YtileljokijmpaaaDoor

/- Contracts: Cmp. -/
namespace Go.Proofs.YtileljokijmpaaaDoor
open Go.RowKit

theorem may_yes {A : Option Addr} (cap : Nat) {xs : List Nat} {w : World} {B : Nat} (hr : Rd w B A xs) (hle : xs.length ≤ maxLen) (h : mayb xs = true) :
    Calls Tryd.prog 24 #[.slice A xs.length cap] w fun e w' => e = .returned (.bool true) ∧ w' = w := by
  have := may_any A cap xs w B hr hle
  rwa [h] at this
theorem may_no {A : Option Addr} (cap : Nat) {xs : List Nat} {w : World} {B : Nat} (hr : Rd w B A xs) (hle : xs.length ≤ maxLen) (h : mayb xs = false) :
    Calls Tryd.prog 24 #[.slice A xs.length cap] w fun e w' => e = .returned (.bool false) ∧ w' = w := by
  have := may_any A cap xs w B hr hle
  rwa [h] at this

/-- the same limbs from place k on -/
def Upper (xs ys : List Nat) (k : Nat) : Prop := ∀ j, k ≤ j → j < xs.length → xs[j]?.getD 0 = ys[j]?.getD 0
theorem Upper.all {xs ys : List Nat} (h : Upper xs ys 0) (hl : xs.length = ys.length) : xs = ys := by
  have := drop_congr hl (k := 0) h
  simpa using this

set_option maxHeartbeats 1000000 in
theorem cmp_loop (A A' : Option Addr) (cap cap' : Nat) (xs ys : List Nat) (w : World) (B : Nat) (hr : Rd w B A xs) (hr' : Rd w B A' ys) (hc : xs.length ≤ maxLen) (hc' : ys.length ≤ maxLen)
    (hx : mayb xs = true) (hy : mayb ys = true) (hl : xs.length = ys.length) :
    Calls Tryd.prog 25 #[.slice A xs.length cap, .slice A' xs.length cap'] w fun e w' => e = .returned (.int .i64 (sCmp xs ys)) ∧ ∃ n, w' = w.drewN n := by
  have hs := Lib.hid (sCmp_yes (xs := xs) (ys := ys) (by simp [hx, hy]))
  have c1 := may_yes cap hr hc hx
  have c2 := may_yes cap' hr' hc' hy
  rw [← hl] at c2
  have HL := Lib.hid hl
  clear hl hx hy
  unfold maxLen at hc hc'
  go_enter Tryd.func25, Tryd.ntmps25
  go_wp2_with fail
  refine c1.mono ?_
  rintro e w' ⟨rfl, rfl⟩
  go_wp2_with fail
  refine c2.mono ?_
  rintro e w' ⟨rfl, rfl⟩
  clear c1 c2
  go_wp2_with fail
  go_loopw [5] (fun v wr => ∃ k : Nat, k ≤ xs.length ∧ v = .int .i64 ((k : Int) - 1) ∧ Upper xs ys k ∧ ∃ n, wr = w'.drewN n) (fun v _ => (intOf v + 1).toNat)
  case atStart => exact ⟨xs.length, Nat.le_refl _, rfl, fun j h1 h2 => by omega, 0, rfl⟩
  case round =>
    obtain ⟨k, hk, rfl, hu, nw, rfl⟩ := hrel
    rcases Nat.eq_zero_or_pos k with h0 | h0
    · subst h0
      go_wp2
      go_ret
      exact ⟨ret_int (by rw [hs.out, hu.all HL.out, cmpN_eq rfl]), nw, rfl⟩
    · obtain ⟨b, off, rfl, hlt, hcell⟩ := hr.2 (by omega)
      obtain ⟨b', off', rfl, hlt', hcell'⟩ := hr'.2 (by have := HL.out; omega)
      obtain ⟨m, rfl⟩ : ∃ m, k = m + 1 := ⟨k - 1, by omega⟩
      have q1 := hcell m (by omega)
      have q2 := hcell' m (by have := HL.out; omega)
      have l1 := hr.limbs.getD m
      have l2 := hr'.limbs.getD m
      clear hcell hcell'
      rw [show (((m + 1 : Nat) : Int) - 1) = (m : Int) from by omega]
      rcases Nat.lt_trichotomy (xs[m]?.getD 0) (ys[m]?.getD 0) with h | h | h
      · have hv := Lib.hid (val_lt_at hr.limbs HL.out (by omega) hu h)
        go_wp2
        go_quiet (fail)
        go_wp2
        go_ret
        exact ⟨ret_int (by rw [hs.out, cmpN_lt hv.out]), _, World.drewN_drewN _ _ _⟩
      · have hu' : Upper xs ys m := fun j h1 h2 => by
          rcases Nat.lt_or_ge m j with h3 | h3
          · exact hu j h3 h2
          · obtain rfl : j = m := by omega
            exact h
        have g1 : xs[m]?.getD 0 ≤ ys[m]?.getD 0 := by omega
        have g2 : ys[m]?.getD 0 ≤ xs[m]?.getD 0 := by omega
        clear h hu
        go_wp2
        go_quiet (fail)
        go_wp2
        go_quiet (fail)
        go_wp2
        go_roundw
        case rel => exact ⟨m, by omega, rfl, hu', _, rfl⟩
        case measure => simp [intOf]
      · have hv := Lib.hid (val_lt_at hr'.limbs HL.out.symm (k := m) (by have := HL.out; omega) (fun j h1 h2 => (hu j h1 (by rw [HL.out]; exact h2)).symm) h)
        go_wp2
        go_quiet (fail)
        go_wp2
        go_quiet (fail)
        go_wp2
        go_ret
        exact ⟨ret_int (by rw [hs.out, cmpN_gt hv.out]), _, (World.drewN_drewN _ _ _).trans (World.drewN_drewN _ _ _)⟩

set_option maxHeartbeats 1000000 in
theorem cmp_any (A A' : Option Addr) (cap cap' : Nat) (xs ys : List Nat) (w : World) (B : Nat) (hr : Rd w B A xs) (hr' : Rd w B A' ys) (hc : xs.length ≤ maxLen) (hc' : ys.length ≤ maxLen) :
    Calls Tryd.prog 25 #[.slice A xs.length cap, .slice A' ys.length cap'] w fun e w' => e = .returned (.int .i64 (sCmp xs ys)) ∧ ∃ n, w' = w.drewN n := by
  by_cases hx : mayb xs = true
  · by_cases hy : mayb ys = true
    · rcases Nat.lt_trichotomy xs.length ys.length with h | h | h
      · have hs := Lib.hid (sCmp_yes (xs := xs) (ys := ys) (by simp [hx, hy]))
        have hv := Lib.hid (cmpN_lt (val_lt_len hr.limbs (mayb_canon hr'.limbs hy) h))
        have c1 := may_yes cap hr hc hx
        have c2 := may_yes cap' hr' hc' hy
        clear hx hy
        go_enter Tryd.func25, Tryd.ntmps25
        go_wp2_with fail
        refine c1.mono ?_
        rintro e w' ⟨rfl, rfl⟩
        go_wp2_with fail
        refine c2.mono ?_
        rintro e w' ⟨rfl, rfl⟩
        clear c1 c2
        go_wp2
        go_ret
        exact ⟨ret_int (by rw [hs.out, hv.out]), 0, rfl⟩
      · have := cmp_loop A A' cap cap' xs ys w B hr hr' hc hc' hx hy h
        rwa [h] at this ⊢
      · have hs := Lib.hid (sCmp_yes (xs := xs) (ys := ys) (by simp [hx, hy]))
        have hv := Lib.hid (cmpN_gt (val_lt_len hr'.limbs (mayb_canon hr.limbs hx) h))
        have c1 := may_yes cap hr hc hx
        have c2 := may_yes cap' hr' hc' hy
        clear hx hy
        go_enter Tryd.func25, Tryd.ntmps25
        go_wp2_with fail
        refine c1.mono ?_
        rintro e w' ⟨rfl, rfl⟩
        go_wp2_with fail
        refine c2.mono ?_
        rintro e w' ⟨rfl, rfl⟩
        clear c1 c2
        go_wp2
        go_ret
        exact ⟨ret_int (by rw [hs.out, hv.out]), 0, rfl⟩
    · have hs := Lib.hid (sCmp_no (xs := xs) (ys := ys) (by simp [hy]))
      have c1 := may_yes cap hr hc hx
      have c2 := may_no cap' hr' hc' (by simpa using hy)
      clear hx hy
      go_enter Tryd.func25, Tryd.ntmps25
      go_wp2_with fail
      refine c1.mono ?_
      rintro e w' ⟨rfl, rfl⟩
      go_wp2_with fail
      refine c2.mono ?_
      rintro e w' ⟨rfl, rfl⟩
      clear c1 c2
      go_wp2
      go_ret
      exact ⟨ret_int hs.out.symm, 0, rfl⟩
  · have hs := Lib.hid (sCmp_no (xs := xs) (ys := ys) (by simp [hx]))
    have c1 := may_no cap hr hc (by simpa using hx)
    clear hx
    go_enter Tryd.func25, Tryd.ntmps25
    go_wp2_with fail
    refine c1.mono ?_
    rintro e w' ⟨rfl, rfl⟩
    clear c1
    go_wp2
    go_ret
    exact ⟨ret_int hs.out.symm, 0, rfl⟩

end Go.Proofs.YtileljokijmpaaaDoor

/- Contracts: Len32, Bits, Bit, Of. -/
namespace Go.Proofs.YtileljokijmpaaaDoor
open Go.RowKit

/-- how many bits a natural has -/
def blen (n : Nat) : Nat := if n = 0 then 0 else n.log2 + 1

theorem blen_le {n k : Nat} : blen n ≤ k ↔ n < 2 ^ k := by
  unfold blen
  split
  · subst n; simp; exact Nat.two_pow_pos k
  · rename_i h
    rw [Nat.add_one_le_iff, Nat.log2_lt h]
theorem blen_zero : blen 0 = 0 := rfl
theorem blen_pos {n : Nat} (h : n ≠ 0) : 0 < blen n := by unfold blen; rw [if_neg h]; omega
theorem blen_unique {n k : Nat} (h1 : n < 2 ^ k) (h2 : ∀ j, n < 2 ^ j → k ≤ j) : blen n = k := Nat.le_antisymm (blen_le.2 h1) (h2 _ (blen_le.1 (Nat.le_refl _)))
/-- its bits behind a product with a power of 2, and a part below -/
theorem blen_shift {n r k : Nat} (hn : n ≠ 0) (hr : r < 2 ^ k) : blen (n * 2 ^ k + r) = blen n + k := by
  apply blen_unique
  · have := blen_le.1 (Nat.le_refl (blen n))
    rw [Nat.pow_add]
    have : (n + 1) * 2 ^ k ≤ 2 ^ blen n * 2 ^ k := Nat.mul_le_mul_right _ this
    rw [Nat.add_mul, Nat.one_mul] at this
    omega
  · intro j hj
    have hjk : k ≤ j := by
      rcases Nat.lt_or_ge j k with h | h
      · exfalso
        have h1 : 2 ^ j < 2 ^ k := Nat.pow_lt_pow_right (by decide) h
        have h2 : 1 * 2 ^ k ≤ n * 2 ^ k := Nat.mul_le_mul_right _ (by omega)
        omega
      · exact h
    have : n < 2 ^ (j - k) := by
      rcases Nat.lt_or_ge n (2 ^ (j - k)) with h | h
      · exact h
      · exfalso
        have h2 : 2 ^ (j - k) * 2 ^ k ≤ n * 2 ^ k := Nat.mul_le_mul_right _ h
        rw [← Nat.pow_add, Nat.sub_add_cancel hjk] at h2
        omega
    have := blen_le.2 this
    omega

theorem blen_lib {x : Nat} (h : x < 4294967296) : Lib.bitLen x = blen x := by
  by_cases h0 : x = 0
  · subst h0; exact Lib.bitLenAux_zero 64
  · obtain ⟨h1, h2, h3⟩ := Lib.bitLenAux_bounds 64 x (by omega) h0
    refine (blen_unique h3 fun j hj => ?_).symm
    have : 2 ^ (Lib.bitLenAux 64 x - 1) < 2 ^ j := by omega
    have := (Nat.pow_lt_pow_iff_right (a := 2) (by decide)).1 this
    omega

theorem len32_any (x : Nat) (hx : x < 4294967296) (w : World) :
    Calls Tryd.prog 58 #[.int .u32 (x : Int)] w fun e w' => e = .returned (.int .i64 (blen x : Nat)) ∧ w' = w := by
  have := Tryd.bits_Len32 (x : Int) w (by omega) (by omega)
  rwa [Int.toNat_natCast, blen_lib hx] at this

/-- How many bits limbs have. -/
theorem blen_val {xs : List Nat} (h : Canon xs) (h0 : 0 < xs.length) : blen (val xs) = 32 * (xs.length - 1) + blen (xs[xs.length - 1]?.getD 0) := by
  rw [val_at (xs := xs) (k := xs.length - 1) (by omega)]
  have h1 := val_lt (h.1.take (xs.length - 1))
  rw [List.length_take, Nat.min_eq_left (by omega)] at h1
  have e : (4294967296 : Nat) ^ (xs.length - 1) = 2 ^ (32 * (xs.length - 1)) := by rw [show (4294967296 : Nat) = 2 ^ 32 from rfl, ← Nat.pow_mul]
  rw [e] at h1 ⊢
  rw [List.drop_eq_nil_of_le (by omega)]
  have hl : xs[xs.length - 1]?.getD 0 ≠ 0 := by
    have := h.2
    rw [List.getLast?_eq_getElem?, List.getElem?_eq_getElem (by omega)] at this
    rw [List.getElem?_eq_getElem (by omega)]
    simpa using this
  simp only [val, Nat.mul_zero, Nat.add_zero]
  rw [Nat.mul_comm (2 ^ _), Nat.add_comm (val _), blen_shift hl h1, Nat.add_comm]

def sBits (xs : List Nat) : Nat := if mayb xs then blen (val xs) else 0
theorem sBits_no {xs : List Nat} (h : mayb xs = false) : sBits xs = 0 := by unfold sBits; rw [h]; rfl
theorem sBits_yes {xs : List Nat} (h : mayb xs = true) : sBits xs = blen (val xs) := by unfold sBits; rw [h]; rfl
theorem sBits_nil : sBits [] = 0 := rfl

set_option maxHeartbeats 1000000 in
theorem bits_any (A : Option Addr) (cap : Nat) (xs : List Nat) (w : World) (B : Nat) (hr : Rd w B A xs) (hc : xs.length ≤ maxLen) :
    Calls Tryd.prog 35 #[.slice A xs.length cap] w fun e w' => e = .returned (.int .i64 (sBits xs : Nat)) ∧ w' = w := by
  by_cases hx : mayb xs = true
  · have c1 := may_yes cap hr hc hx
    rcases Nat.eq_zero_or_pos xs.length with h0 | h0
    · have : xs = [] := List.eq_nil_of_length_eq_zero h0
      subst this
      clear hx
      go_enter Tryd.func35, Tryd.ntmps35
      go_wp2_with fail
      refine c1.mono ?_
      rintro e w' ⟨rfl, rfl⟩
      clear c1
      go_wp2
      go_ret
      exact ⟨ret_int (by rw [sBits_nil]; rfl), rfl⟩
    · have hM := Lib.hid (sBits_yes hx)
      have hB := Lib.hid (blen_val (mayb_canon hr.limbs hx) h0)
      have hm := (mayb_iff.1 hx).1
      have hz0 : (((xs.length : Nat) : Int) == 0) = false := beq_eq_false_iff_ne.2 (by omega)
      obtain ⟨b, off, rfl, hlt, hcell⟩ := hr.2 h0
      have hcl := hcell (xs.length - 1) (by omega)
      have hl := hr.limbs.getD (xs.length - 1)
      have c2 := fun W => len32_any (xs[xs.length - 1]?.getD 0) hl W
      have hb32 : blen (xs[xs.length - 1]?.getD 0) ≤ 32 := blen_le.2 hl
      clear hcell hx hc
      go_enter Tryd.func35, Tryd.ntmps35
      go_wp2_with fail
      refine c1.mono ?_
      rintro e w' ⟨rfl, rfl⟩
      clear c1
      go_wp2_with fail
      refine (c2 _).mono ?_
      rintro e w'' ⟨rfl, rfl⟩
      clear c2
      go_wp2
      go_ret
      refine ⟨ret_int (by rw [hM.out, hB.out]; omega), rfl⟩
  · have hM := Lib.hid (sBits_no (xs := xs) (by simpa using hx))
    have c1 := may_no cap hr hc (by simpa using hx)
    clear hx
    go_enter Tryd.func35, Tryd.ntmps35
    go_wp2_with fail
    refine c1.mono ?_
    rintro e w' ⟨rfl, rfl⟩
    clear c1
    go_wp2
    go_ret
    exact ⟨ret_int (by rw [hM.out]; rfl), rfl⟩

end Go.Proofs.YtileljokijmpaaaDoor

/- Contracts: Bit, Of. -/
namespace Go.Proofs.YtileljokijmpaaaDoor
open Go.RowKit

def sBit (xs : List Nat) (k : Int) : Bool := decide (0 ≤ k) && (mayb xs && (val xs).testBit k.toNat)

theorem u32_bit (x r : Nat) (hx : x < 4294967296) : (bits BinOp.and IntKind.u32 ((x : Int) / 2 ^ r) 1 == 1) = decide (x / 2 ^ r % 2 = 1) := by
  have e : (x : Int) / 2 ^ r = ((x / 2 ^ r : Nat) : Int) := by simp
  have h : x / 2 ^ r < 4294967296 := Nat.lt_of_le_of_lt (Nat.div_le_self _ _) hx
  rw [e, show (1 : Int) = ((1 : Nat) : Int) from rfl, u32_and_nat (x / 2 ^ r) 1 h (by decide), Nat.and_one_is_mod, Bool.eq_iff_iff]
  simp only [beq_iff_eq, decide_eq_true_eq]
  omega
theorem val_bit {xs : List Nat} (h : Limbs xs) {k : Nat} (hk : k / 32 < xs.length) : (val xs).testBit k = decide (xs[k / 32]?.getD 0 / 2 ^ (k % 32) % 2 = 1) := by
  rw [Nat.testBit_eq_decide_div_mod_eq, val_at hk]
  have h1 := val_lt (h.take (k / 32))
  rw [List.length_take, Nat.min_eq_left (by omega)] at h1
  have e1 : (2 : Nat) ^ k = 4294967296 ^ (k / 32) * 2 ^ (k % 32) := by
    rw [show (4294967296 : Nat) = 2 ^ 32 from rfl, ← Nat.pow_mul, ← Nat.pow_add, Nat.div_add_mod]
  have e2 : (4294967296 : Nat) = 2 ^ (k % 32) * (2 * 2 ^ (31 - k % 32)) := by
    rw [show (2 : Nat) * 2 ^ (31 - k % 32) = 2 ^ (31 - k % 32 + 1) from by rw [Nat.pow_succ, Nat.mul_comm], ← Nat.pow_add, show k % 32 + (31 - k % 32 + 1) = 32 from by omega]
  rw [e1, ← Nat.div_div_eq_div_mul, Nat.add_mul_div_left _ _ (Nat.pow_pos (by decide)), Nat.div_eq_of_lt h1, Nat.zero_add]
  congr 2
  generalize xs[k / 32]?.getD 0 = x
  generalize val (xs.drop (k / 32 + 1)) = y
  rw [e2, Nat.mul_assoc, Nat.add_mul_div_left _ _ (Nat.two_pow_pos _), Nat.mul_assoc, Nat.add_mul_mod_self_left]

theorem sBits_le {xs : List Nat} (h : Limbs xs) : sBits xs ≤ 32 * xs.length := by
  unfold sBits
  split
  · refine blen_le.2 (Nat.lt_of_lt_of_le (val_lt h) ?_)
    rw [show (4294967296 : Nat) = 2 ^ 32 from rfl, ← Nat.pow_mul]; exact Nat.le_refl _
  · omega
theorem sBits_may {xs : List Nat} (h : 0 < sBits xs) : mayb xs = true := by
  unfold sBits at h
  split at h
  · assumption
  · omega
theorem sBits_le' {xs : List Nat} (h : Limbs xs) : sBits xs ≤ 2097152 := by
  rcases Nat.eq_zero_or_pos (sBits xs) with h0 | h0
  · omega
  · have := sBits_le h
    have := (mayb_iff.1 (sBits_may h0)).1
    omega

theorem sBit_neg (xs : List Nat) {k : Int} (h : k < 0) : sBit xs k = false := by
  unfold sBit
  rw [decide_eq_false (by omega)]; rfl
theorem sBit_over {xs : List Nat} {n : Nat} (hn : sBits xs ≤ n) : sBit xs n = false := by
  unfold sBit
  rcases hm : mayb xs with _ | _
  · simp
  · have : val xs < 2 ^ n := blen_le.1 (by rw [sBits_yes hm] at hn; exact hn)
    simp [Nat.testBit_lt_two_pow this]

theorem tidied_own {w : World} {B : Nat} {A : Option Addr} {cap : Nat} {xs : List Nat} (h : Own w B (.slice A xs.length cap) xs) (hl : Limbs xs) : Own w B (tidied A cap xs) (clip (val xs)) := by
  unfold tidied
  split
  · rename_i h0; rw [h0]; exact Own.nil _ _
  · rename_i h0
    have hc : clip (val xs) = lim (val xs) := by
      unfold clip at h0 ⊢
      split
      · rfl
      · rename_i h1; rw [if_neg h1] at h0; exact absurd rfl h0
    have ht : ∃ k, k ≤ xs.length ∧ lim (val xs) = xs.take k := lim_val_take hl
    obtain ⟨k, hk, e⟩ := ht
    have := h.cut k hk
    rw [hc, e, List.length_take, Nat.min_eq_left hk]
    exact this

theorem lim_two {u : Nat} (hu : u < 18446744073709551616) : clip (val [u % 4294967296, u / 4294967296]) = lim u := by
  have e : val [u % 4294967296, u / 4294967296] = u := by simp only [val]; omega
  rw [e, clip_of]
  have := (lim_length_le (n := u) (k := 2)).2 (by omega)
  omega

set_option maxHeartbeats 1000000 in
theorem of_any (u : Nat) (w : World) (hu : u < 18446744073709551616) :
    Calls Tryd.prog 8 #[.int .u64 (u : Int)] w fun e w' => (∃ v, e = .returned v ∧ Own w' w.heap.size v (lim u)) ∧ Below w.heap.size w w' := by
  have hl : Limbs [u % 4294967296, u / 4294967296] := (Limbs.one (by omega)).cons (Nat.mod_lt _ (by decide))
  have ho : Own (w.alloc (.cells #[.int .u32 ((u : Int) % 4294967296), .int .u32 ((u : Int) / 4294967296)] 40)) w.heap.size (.slice (some ⟨w.heap.size, 0, none⟩) 2 2) [u % 4294967296, u / 4294967296] :=
    World.ownsRow_lit w _ 2 (Nat.le_refl _) (by decide) rfl
  obtain ⟨A, cap, hv, h1, h2, hr⟩ := ho.rd hl
  injection hv with e1 e2 e3
  subst e1 e3
  have c1 := tidy_any _ _ _ _ _ hr h1 h2
  have ht := tidied_own ho hl
  rw [lim_two hu] at ht
  have HT := Lib.hid ht
  clear h1 h2 e2 hr ht ho
  go_enter Tryd.func8, Tryd.ntmps8
  go_wp2_with fail
  refine c1.mono ?_
  rintro e w' ⟨rfl, rfl⟩
  clear c1
  go_wp2
  go_ret
  exact ⟨⟨_, rfl, HT.out⟩, (Below.refl _ w).alloc (Nat.le_refl _) _⟩

end Go.Proofs.YtileljokijmpaaaDoor

/- Contract: limbs: an iterator that tells a natural's limbs, with their places. -/
namespace Go.Proofs.YtileljokijmpaaaDoor
open Go.RowKit Go.Shelf

attribute [local go_sem] Oper.semAt_some

/-- THE ROUNDS' PLACES: 0, .., k - 1. -/
def upTo {n : Nat} (k : Nat) (_hk : k ≤ n) : List (Fin n) := (List.finRange n).take k
theorem upTo_succ {n : Nat} {k : Nat} (hk : k < n) : upTo (k + 1) hk = upTo k (Nat.le_of_lt hk) ++ [(⟨k, hk⟩ : Fin n)] := by
  unfold upTo
  rw [List.take_succ_eq_append_getElem (by simpa using hk)]
  simp
theorem upTo_length {n : Nat} {k : Nat} (hk : k ≤ n) : (upTo k hk).length = k := by simp [upTo]; omega
theorem upTo_all (n : Nat) : upTo n (Nat.le_refl n) = List.finRange n := by unfold upTo; exact List.take_of_length_le (by simp)

/-- What a round is told: the place, and the limb. -/
def tells (xs : List Nat) (j : Fin xs.length) : Array Value := #[.int .i64 (j.1 : Int), .int .u32 ((xs[j.1]?.getD 0 : Nat) : Int)]

set_option maxRecDepth 100000 in
set_option maxHeartbeats 2000000 in
theorem limbs1_in (F : Fence) (n : Nat) (h8 : F.fn 40) (hro : F.round = none) (hn : 1 ≤ n) (l Bs n₀ b off cap : Nat) (xs : List Nat) (hreach : xs.length ≤ maxLen) (hlim : Limbs xs) (hb : b < n₀) (J Jx : List (Fin xs.length) → World → Prop)
    (hY : ∀ pre x W, J pre W → pre.length < xs.length → YieldAt F (n - 1) Tryd.prog l (tells xs x) W fun e W' =>
      (e = .returned (.bool true) ∧ J (pre ++ [x]) W' ∧ Below n₀ W W') ∨ (e = .returned (.bool false) ∧ Jx (pre ++ [x]) W'))
    (W : World) (hBs : W.cell? ⟨Bs, 0, none⟩ = some (.slice (some ⟨b, off, none⟩) xs.length cap)) (hc : ∀ j, j < xs.length → W.cell? ⟨b, off + j, none⟩ = some (.int .u32 ((xs[j]?.getD 0 : Nat) : Int))) (h0 : J [] W) :
    CallsIn F n Tryd.prog 40 #[.func (.yield l) #[] #[], .pointer (some ⟨Bs, 0, none⟩)] W fun e W' => (∃ v, e = .returned v) ∧
      ((∃ ys, ys = List.finRange xs.length ∧ J ys W') ∨ (∃ pre, (∃ k hk, pre = upTo (n := xs.length) k hk) ∧ Jx pre W')) := by
  unfold maxLen at hreach
  refine callsIn_of_wp Tryd.func40 rfl h8 ?_ hro
  simp only [Tryd.ntmps40, List.size_toArray, List.length_cons, List.length_nil, Nat.reduceAdd, Nat.reduceSub, Array.replicate_succ, Array.replicate_zero, List.push_toArray, List.append_toArray, List.nil_append, List.cons_append]
  gi_wp2
  gi_loopw [7] (fun i wr => ∃ (k : Nat) (hk : k ≤ xs.length), i = .int .i64 k ∧ J (upTo k hk) wr ∧ Below n₀ W wr)
    (fun i _ => xs.length - (intOf i).toNat)
  case atStart => exact ⟨0, Nat.zero_le _, rfl, h0, Below.refl _ _⟩
  case round =>
    obtain ⟨k, hk, rfl, hJs, hnx⟩ := hrel
    have hcx : k < xs.length → wr.cell? ⟨b, off + k, none⟩ = some (.int .u32 ((xs[k]?.getD 0 : Nat) : Int)) := fun h => (hnx.cell (p := ⟨b, off + k, none⟩) hb).trans (hc k h)
    by_cases hlt : k < xs.length
    · obtain ⟨fn, tmps, assign, body, hy, hR⟩ := hY _ ⟨k, hlt⟩ wr hJs (by rw [upTo_length]; exact hlt)
      unfold tells at hy
      dsimp only at hy
      have hcx' := hcx hlt
      have hl := hlim.getD k
      simp only [List.getElem?_eq_getElem hlt, Option.getD_some] at hy hcx' hl
      gi_wp2
      refine hR.mono ?_
      rintro e W3 (⟨rfl, hJ3, hk3⟩ | ⟨rfl, hJx3⟩)
      · -- THE ROUND GOES ON
        gi_wp2
        go_roundw
        case rel => exact ⟨k + 1, by omega, by simp, by rw [upTo_succ hlt]; exact hJ3, hnx.trans hk3⟩
        case measure => simp [intOf]; omega
      · gi_wp2
        refine bodyPost_ret (results_none rfl _ _ _) rfl ?_
        exact ⟨⟨_, rfl⟩, .inr ⟨_, ⟨k + 1, hlt, (upTo_succ hlt).symm⟩, hJx3⟩⟩
    · obtain rfl : k = xs.length := by omega
      gi_wp2
      go_end0
      exact ⟨⟨_, rfl⟩, .inl ⟨_, upTo_all _, hJs⟩⟩

set_option maxRecDepth 100000 in
set_option maxHeartbeats 1000000 in
theorem limbs1_nil_in (F : Fence) (n : Nat) (h8 : F.fn 40) (hro : F.round = none) (l Bs : Nat) (A : Option Addr) (cap : Nat) {α : Type} (J : List α → World → Prop) (W : World) (hBs : W.cell? ⟨Bs, 0, none⟩ = some (.slice A 0 cap)) (h0 : J [] W) :
    CallsIn F n Tryd.prog 40 #[.func (.yield l) #[] #[], .pointer (some ⟨Bs, 0, none⟩)] W fun e W' => (∃ v, e = .returned v) ∧ J [] W' := by
  refine callsIn_of_wp Tryd.func40 rfl h8 ?_ hro
  simp only [Tryd.ntmps40, List.size_toArray, List.length_cons, List.length_nil, Nat.reduceAdd, Nat.reduceSub, Array.replicate_succ, Array.replicate_zero, List.push_toArray, List.append_toArray, List.nil_append, List.cons_append]
  gi_wp2
  gi_loopw [7] (fun i wr => i = .int .i64 0 ∧ J [] wr) (fun _ _ => 0)
  case atStart => exact ⟨rfl, h0⟩
  case round =>
    obtain ⟨rfl, hJs⟩ := hrel
    gi_wp2
    go_end0
    exact ⟨⟨_, rfl⟩, hJs⟩

set_option maxHeartbeats 1000000 in
/-- limbs(n): the slice is boxed; the function value captures the box. -/
theorem limbs_in (F : Fence) (n : Nat) (h5 : F.fn 26) (hro : F.round = none) (a : Option Addr) (len cap : Nat) (w : World) :
    CallsIn F n Tryd.prog 26 #[.slice a len cap] w fun e w' => e = .returned (.func (.func 40) #[] #[.pointer (some ⟨w.heap.size, 0, none⟩)]) ∧ w' = w.alloc (.cells #[.slice a len cap] 24) := by
  refine callsIn_of_wp Tryd.func26 rfl h5 ?_ hro
  simp only [Tryd.ntmps26, List.size_toArray, List.length_cons, List.length_nil, Nat.reduceAdd, Nat.reduceSub, Array.replicate_succ, Array.replicate_zero, List.push_toArray, List.append_toArray, List.nil_append, List.cons_append]
  gi_wp2
  go_ret
  exact ⟨rfl, rfl⟩

/-- limbs(n) hands back a value that 'SeqStopsK', at 'Kp := Below n₀': all limbs, with their places; or the first ones. -/
theorem limbs_stops (F : Fence) (n : Nat) (h8 : F.fn 40) (hro : F.round = none) (hn : 1 ≤ n) (Bs n₀ : Nat) (A : Option Addr) (cap : Nat) (xs : List Nat) (hreach : xs.length ≤ maxLen) (w : World) (hBs : Bs < w.heap.size) (hn₀ : n₀ ≤ w.heap.size)
    (hc : w.cell? ⟨Bs, 0, none⟩ = some (.slice A xs.length cap)) (hI : Rd w n₀ A xs) :
    SeqStopsK F n Tryd.prog 40 #[.pointer (some ⟨Bs, 0, none⟩)] (tells xs) (Below n₀) (fun ys => ys = List.finRange xs.length)
      (fun pre => ∃ k hk, pre = upTo (n := xs.length) k hk) xs.length w := fun l J Jx W hW _ _ hY h0 => by
  have hc' := (hW.cell (p := ⟨Bs, 0, none⟩) hBs).trans hc
  have hI' := hI.below (hW.mono hn₀) (Nat.le_refl _)
  rcases Nat.eq_zero_or_pos xs.length with h | h
  · have hx : xs = [] := List.eq_nil_of_length_eq_zero h
    subst hx
    exact (limbs1_nil_in F n h8 hro l Bs A cap J W hc' h0).mono fun e W' ⟨he, hj⟩ => ⟨he, .inl ⟨_, rfl, hj⟩⟩
  · obtain ⟨b, off, rfl, hb, hcs⟩ := hI'.2 h
    exact limbs1_in F n h8 hro hn l Bs n₀ b off cap xs hreach hI.limbs hb J Jx hY W hc' hcs h0

end Go.Proofs.YtileljokijmpaaaDoor

/- Contract: Add. -/
namespace Go.Proofs.YtileljokijmpaaaDoor
open Go.RowKit Go.Shelf

attribute [local go_sem] Oper.semAt_some

theorem info32 : (Tryd.prog.info? 40).map (fun i => (i.zero, i.size, i.bytes)) = some (some (.int .u32 0), 1, 4) := by kernel_rfl

def sAdd (xs ys : List Nat) : List Nat := if mayb xs && mayb ys then clip (val xs + val ys) else []
theorem sAdd_no {xs ys : List Nat} (h : (mayb xs && mayb ys) = false) : sAdd xs ys = [] := by unfold sAdd; rw [h]; rfl
theorem sAdd_yes {xs ys : List Nat} (h : (mayb xs && mayb ys) = true) : sAdd xs ys = clip (val xs + val ys) := by unfold sAdd; rw [h]; rfl
theorem sAdd_comm (xs ys : List Nat) : sAdd xs ys = sAdd ys xs := by unfold sAdd; rw [Bool.and_comm, Nat.add_comm]

/-! ### the rounds, as a fold -/
def addSum (xs ys : List Nat) (c k : Nat) : Nat := xs[k]?.getD 0 + ys[k]?.getD 0 + c
def addStep (xs ys : List Nat) (st : Nat × List Nat) (j : Fin xs.length) : Nat × List Nat := (addSum xs ys st.1 j.1 / 4294967296, st.2 ++ [addSum xs ys st.1 j.1 % 4294967296])
def addTo (xs ys : List Nat) (pre : List (Fin xs.length)) : Nat × List Nat := pre.foldl (addStep xs ys) (0, [])
theorem addTo_snoc (xs ys : List Nat) (pre : List (Fin xs.length)) (j : Fin xs.length) : addTo xs ys (pre ++ [j]) = addStep xs ys (addTo xs ys pre) j := by simp [addTo]
theorem addTo_from {xs ys : List Nat} (hx : Limbs xs) (hy : Limbs ys) : ∀ (pre : List (Fin xs.length)) (st : Nat × List Nat), st.1 ≤ 1 → Limbs st.2 →
    (pre.foldl (addStep xs ys) st).1 ≤ 1 ∧ Limbs (pre.foldl (addStep xs ys) st).2 ∧ (pre.foldl (addStep xs ys) st).2.length = st.2.length + pre.length
  | [], st, h, k => ⟨h, k, rfl⟩
  | j :: r, st, h, k => by
    have h1 := hx.getD j.1
    have h2 := hy.getD j.1
    have := addTo_from hx hy r (addStep xs ys st j) (by unfold addStep addSum; show _ / 4294967296 ≤ 1; omega) (by unfold addStep; exact k.append (Limbs.one (Nat.mod_lt _ (by decide))))
    rw [List.foldl_cons]
    refine ⟨this.1, this.2.1, this.2.2.trans ?_⟩
    simp [addStep]
    omega
theorem addTo_ok {xs ys : List Nat} (hx : Limbs xs) (hy : Limbs ys) (pre : List (Fin xs.length)) : (addTo xs ys pre).1 ≤ 1 ∧ Limbs (addTo xs ys pre).2 ∧ (addTo xs ys pre).2.length = pre.length := by
  have := addTo_from hx hy pre (0, []) (by simp) limbs_nil
  simpa [addTo] using this
theorem addTo_val (xs ys : List Nat) : ∀ {k : Nat} (hk : k ≤ xs.length), val (addTo xs ys (upTo k hk)).2 + 4294967296 ^ k * (addTo xs ys (upTo k hk)).1 = val (xs.take k) + val (ys.take k) ∧ (addTo xs ys (upTo k hk)).2.length = k := by
  intro k
  induction k with
  | zero => intro _; simp [addTo, upTo, val]
  | succ k ih =>
    intro hk
    obtain ⟨h1, h2⟩ := ih (Nat.le_of_lt hk)
    rw [upTo_succ hk, addTo_snoc]
    generalize addTo xs ys (upTo k (Nat.le_of_lt hk)) = st at h1 h2
    obtain ⟨c, out⟩ := st
    simp only [addStep] at h1 h2 ⊢
    refine ⟨?_, by simp [h2]⟩
    rw [val_snoc, h2, val_take_succ, val_take_succ]
    have hs : addSum xs ys c k = xs[k]?.getD 0 + ys[k]?.getD 0 + c := rfl
    have hd := Nat.mod_add_div (addSum xs ys c k) 4294967296
    generalize addSum xs ys c k = s at hs hd ⊢
    rw [Nat.pow_succ, Nat.mul_assoc, Nat.add_assoc, ← Nat.mul_add, hd, hs, Nat.mul_add, Nat.mul_add]
    omega
theorem add_next {xs ys : List Nat} {pre : List (Fin xs.length)} {k a y c : Nat} {out : List Nat} {hk : k < xs.length} (hA : addTo xs ys (pre ++ [⟨k, hk⟩]) = addStep xs ys (addTo xs ys pre) ⟨k, hk⟩)
    (h1 : (addTo xs ys pre).1 = c) (h2 : (addTo xs ys pre).2 = out) (h3 : xs[k]?.getD 0 = a) (h4 : ys[k]?.getD 0 = y) : addTo xs ys (pre ++ [⟨k, hk⟩]) = ((a + y + c) / 4294967296, out ++ [(a + y + c) % 4294967296]) := by
  rw [hA]
  unfold addStep addSum
  rw [h1, h2, h3, h4]
theorem addTo_all {xs ys : List Nat} (hl : ys.length ≤ xs.length) :
    val ((addTo xs ys (List.finRange xs.length)).2 ++ [(addTo xs ys (List.finRange xs.length)).1]) = val xs + val ys := by
  obtain ⟨h1, h2⟩ := addTo_val xs ys (Nat.le_refl xs.length)
  rw [upTo_all] at h1 h2
  rw [val_snoc, h2, h1, List.take_of_length_le (Nat.le_refl _), List.take_of_length_le hl]

/-- Every plain contract holds inside the wide fence. -/
theorem wided {F : Fence} (hF : Hid (F = Fence.wide)) {n : Nat} {f : FuncId} {args : Array Value} {w : World} {R : Ending → World → Prop} (h : Calls Tryd.prog f args w R) : CallsIn F n Tryd.prog f args w R := by
  have := hF.out
  subst this
  exact callsIn_wide.2 h
theorem wide_fn {F : Fence} (hF : Hid (F = Fence.wide)) (g : FuncId) : F.fn g := by
  have := hF.out
  subst this
  trivial

theorem ownsRow_box {W : World} {n₀ B : Nat} {t e : TypeId} {size k : Nat} {v u : Value} {xs : List Value} (h : W.ownsRow n₀ e size v k xs) (hb : Boxed W B t u) (hte : t ≠ e) (u' : Value) : (W.setCell ⟨B, 0, none⟩ u').ownsRow n₀ e size v k xs :=
  h.kept (grownBy_setCell' W B u') (.inr (hb.not_row hte h).symm)

/-- A round that appends to a slice in a box, then stores into another box: all that the walk owes. -/
theorem round_kept {W w2 : World} {n₀ Bo Bc : Nat} {t tc e : TypeId} {size k m : Nat} {v v' u : Value} {xs ys : List Value} {tmp : Obj}
    (hv : Boxed W Bo t v) (hrow : W.ownsRow n₀ e size v k xs) (hcar : Boxed W Bc tc u) (hte : t ≠ e) (htc : tc ≠ e) (hn₀ : n₀ ≤ W.heap.size) (ho : n₀ ≤ Bo) (hc : n₀ ≤ Bc) (hne : Bc ≠ Bo)
    (hown' : w2.ownsRow n₀ e size v' m ys) (hgrow : (W.alloc tmp).grownBy w2 v.ownBlock) :
    Boxed w2 Bo t v ∧ Boxed (w2.setCell ⟨Bo, 0, none⟩ v') Bc tc u ∧ ∀ u', KeepsOthers W ((w2.setCell ⟨Bo, 0, none⟩ v').setCell ⟨Bc, 0, none⟩ u') ∧ Below n₀ W ((w2.setCell ⟨Bo, 0, none⟩ v').setCell ⟨Bc, 0, none⟩ u') ∧
      Boxed ((w2.setCell ⟨Bo, 0, none⟩ v').setCell ⟨Bc, 0, none⟩ u') Bo t v' ∧ ((w2.setCell ⟨Bo, 0, none⟩ v').setCell ⟨Bc, 0, none⟩ u').ownsRow n₀ e size v' m ys ∧ Boxed ((w2.setCell ⟨Bo, 0, none⟩ v').setCell ⟨Bc, 0, none⟩ u') Bc tc u' := by
  obtain ⟨hv1, hv2, hr2, hk2, hb2⟩ := hv.appended hte hrow hn₀ ho hown' hgrow
  have hc1 : Boxed w2 Bc tc u := (hcar.alloc tmp).kept hgrow (hcar.not_row htc hrow)
  have hc2 : Boxed (w2.setCell ⟨Bo, 0, none⟩ v') Bc tc u := hc1.other hne v'
  exact ⟨hv1, hc2, fun u' => ⟨hk2.trans (KeepsOthers.setCell _ _ _), hb2.setCell (p := ⟨Bc, 0, none⟩) hc _, hv2.other hne.symm _, ownsRow_box hr2 hc2 htc _, hc2.set _⟩⟩
/-- A third box lies as it lay. -/
theorem round_box {W w2 : World} {n₀ Bo Bc Bb : Nat} {tb e : TypeId} {size k : Nat} {v v' u s : Value} {xs : List Value} {tmp : Obj}
    (hbb : Boxed W Bb tb s) (hrow : W.ownsRow n₀ e size v k xs) (htb : tb ≠ e) (h1 : Bb ≠ Bo) (h2 : Bb ≠ Bc) (hgrow : (W.alloc tmp).grownBy w2 v.ownBlock) : Boxed ((w2.setCell ⟨Bo, 0, none⟩ v').setCell ⟨Bc, 0, none⟩ u) Bb tb s :=
  (((hbb.alloc tmp).kept hgrow (hbb.not_row htb hrow)).other h1 _).other h2 _

/-- tidy of a slice of the call's own. -/
theorem tidy_own {w : World} {base : Nat} {A : Option Addr} {n cap : Nat} {zs : List Nat} (h : w.ownsRow base 40 1 (.slice A n cap) n (u32s zs)) (hl : Limbs zs) :
    Calls Tryd.prog 23 #[.slice A n cap] w fun e w' => (∃ v, e = .returned v ∧ Own w base v (clip (val zs))) ∧ w' = w := by
  have hn : zs.length = n := by have := h.1; simp [u32s] at this; omega
  subst hn
  have ho : Own w base (.slice A zs.length cap) zs := h
  obtain ⟨A', cap', hv, h1, h2, hr⟩ := ho.rd hl
  injection hv with e1 e2 e3
  subst e1 e3
  exact (tidy_any _ _ _ _ _ hr h1 h2).mono fun e w' ⟨he, hw⟩ => ⟨⟨_, he, tidied_own ho hl⟩, hw⟩

/-- An append alone. -/
theorem appended_plain {W w2 : World} {n₀ : Nat} {e : TypeId} {size k : Nat} {v : Value} {xs : List Value} {tmp : Obj} (hrow : W.ownsRow n₀ e size v k xs) (hn₀ : n₀ ≤ W.heap.size) (hgrow : (W.alloc tmp).grownBy w2 v.ownBlock) : KeepsOthers W w2 ∧ Below n₀ W w2 := by
  refine ⟨(KeepsOthers.alloc W tmp).trans (KeepsOthers.of_grownBy hgrow fun j o ej hj => ?_), ((Below.refl n₀ W).alloc hn₀ tmp).grown hgrow (by simp; omega) fun j ej => ?_⟩
  · rcases (hrow.alloc tmp).2 with ⟨rfl, _⟩ | ⟨g, cap, cur, rfl, _, hgb, _⟩
    · simp [Value.ownBlock] at ej
    · obtain rfl : g = j := by simpa [Value.ownBlock] using ej
      rw [hgb] at hj; cases hj; rfl
  · rcases hrow.2 with ⟨rfl, _⟩ | ⟨g, cap, cur, rfl, hb, _, _⟩
    · simp [Value.ownBlock] at ej
    · obtain rfl : g = j := by simpa [Value.ownBlock] using ej
      exact hb

theorem u32s_snoc (xs : List Nat) (x : Nat) : u32s (xs ++ [x]) = u32s xs ++ [.int .u32 (x : Int)] := by simp [u32s, lv]

set_option maxRecDepth 100000 in
set_option maxHeartbeats 4000000 in
theorem add_long (F : Fence) (n : Nat) (hF : Hid (F = Fence.wide)) (hro : F.round = none) (hn : 8 ≤ n) (A A' : Option Addr) (cap cap' : Nat) (xs ys : List Nat) (w : World) (hr : Rd w w.heap.size A xs) (hr' : Rd w w.heap.size A' ys)
    (hx : mayb xs = true) (hy : mayb ys = true) (hl : ys.length ≤ xs.length) :
    CallsIn F n Tryd.prog 12 #[.slice A xs.length cap, .slice A' ys.length cap'] w fun e w' => (∃ v, e = .returned v ∧ Own w' w.heap.size v (clip (val xs + val ys))) ∧ Below w.heap.size w w' := by
  have h1 : 1 ≤ n := by omega
  have hxm := (mayb_iff.1 hx).1
  obtain ⟨i0, hi, hz0, hz1, hz2⟩ := info_parts info32
  have hB0 : Below w.heap.size w (w.alloc (.cells #[.slice A' ys.length cap'] 24)) := (Below.refl _ w).alloc (Nat.le_refl _) _
  have c1 := may_yes cap (hr.below hB0 (Nat.le_refl _)) (by unfold maxLen; omega) hx
  have c2 := may_yes cap' (hr'.below hB0 (Nat.le_refl _)) (by unfold maxLen; omega) hy
  have hf22 := wide_fn hF 24
  have hf36 := wide_fn hF 26
  have hf37 := wide_fn hF 23
  have hf42 := wide_fn hF 40
  refine callsIn_of_wp_marks Tryd.func12 rfl (wide_fn hF _) ?_ hro
  simp only [Tryd.ntmps12, List.size_toArray, List.length_cons, List.length_nil, Nat.reduceAdd, Nat.reduceSub, Array.replicate_succ, Array.replicate_zero, List.push_toArray, List.append_toArray, List.nil_append, List.cons_append]
  gi_wp2_with fail
  refine (wided hF c1).mono ?_
  rintro e w' ⟨rfl, rfl⟩
  gi_wp2_with fail
  refine (wided hF c2).mono ?_
  rintro e w' ⟨rfl, hw2⟩
  subst hw2
  clear c1 c2
  gi_wp2_with (gi_at_make; refine wpListIn_make_own _ rfl _ _ 24 rfl w.heap.size 40 i0 (.int .u32 0) 1 Tryd.underlying24 hi hz0 hz1 .i64 .i64 _ (xs.length + 1) rfl rfl (by omega) (by rw [hz2]; omega) (by unfold maxLen; omega) (by simp) ?_; intro w1 hown0 hgrow0)
  refine (limbs_in F _ hf36 hro _ _ _ _).mono ?_
  rintro e w' ⟨rfl, rfl⟩
  have hB1 : Below w.heap.size w w1 := hB0.grown hgrow0 (by simp) (fun _ h => by cases h)
  have bB : Boxed w1 w.heap.size 24 (.slice A' ys.length cap') := (Boxed.new w _ _).kept hgrow0 (by simp)
  have hsz := bB.lt
  have bO := Boxed.new w1 24 (.slice (some ⟨w.heap.size + 1, 0, none⟩) 0 (xs.length + 1))
  have bC := Boxed.new (w1.alloc (.cells #[.slice (some ⟨w.heap.size + 1, 0, none⟩) 0 (xs.length + 1)] 24)) 26 (.int .u64 0)
  have bN := Boxed.new ((w1.alloc (.cells #[.slice (some ⟨w.heap.size + 1, 0, none⟩) 0 (xs.length + 1)] 24)).alloc (.cells #[.int .u64 0] 26)) 24 (.slice A xs.length cap)
  simp only [World.size_alloc] at bC bN
  have hB3 : Below w.heap.size w (((w1.alloc (.cells #[.slice (some ⟨w.heap.size + 1, 0, none⟩) 0 (xs.length + 1)] 24)).alloc (.cells #[.int .u64 0] 26)).alloc (.cells #[.slice A xs.length cap] 24)) :=
    ((hB1.alloc (by omega) _).alloc (by simp; omega) _).alloc (by simp; omega) _
  rw [World.size_alloc] at hown0
  have hO := Lib.hid (((hown0.alloc (.cells #[.slice (some ⟨w.heap.size + 1, 0, none⟩) 0 (xs.length + 1)] 24)).alloc (.cells #[.int .u64 0] 26)).alloc (.cells #[.slice A xs.length cap] 24))
  have hBx := Lib.hid (((bB.alloc (.cells #[.slice (some ⟨w.heap.size + 1, 0, none⟩) 0 (xs.length + 1)] 24)).alloc (.cells #[.int .u64 0] 26)).alloc (.cells #[.slice A xs.length cap] 24))
  have hOx := Lib.hid ((bO.alloc (.cells #[.int .u64 0] 26)).alloc (.cells #[.slice A xs.length cap] 24))
  have hCx := Lib.hid (bC.alloc (.cells #[.slice A xs.length cap] 24))
  clear bB bO bC hown0 hgrow0
  gi_wp2_with fail
  refine wpIn_rangeFunc_ownG hro h1 (gf := 40) (lb := #[.pointer (some ⟨w1.heap.size + 2, 0, none⟩)]) rfl hf42 (enters_of Tryd.func40 (by kernel_rfl) rfl)
    (limbs_stops F (n - 1) hf42 hro (by omega) (w1.heap.size + 2) w.heap.size A cap xs (by unfold maxLen; omega) _ (by simp) (by simp; omega) bN.cell (hr.below hB3 (Nat.le_refl _))) belowK_t (belowK_b (by simp; omega)) (Below.refl _ _) (fun _ => rfl)
    (fun pre W => ((∃ v, Boxed W w1.heap.size 24 v ∧ W.ownsRow w.heap.size 40 1 v (addTo xs ys pre).2.length (u32s (addTo xs ys pre).2) ∧ True) ∧ Boxed W (w1.heap.size + 1) 26 (.int .u64 ((addTo xs ys pre).1 : Nat)) ∧ Boxed W w.heap.size 24 (.slice A' ys.length cap')) ∧ Below w.heap.size w W)
    (fun _ _ _ => False)
    (OwnFrom.and (OwnFrom.and (Own.from (holdsRow_own w.heap.size w1.heap.size 24 40 1 (fun pre => (addTo xs ys pre).2.length) (fun pre => u32s (addTo xs ys pre).2) (fun _ _ => True)) _)
      (OwnFrom.and (Own.from (boxed_own (w1.heap.size + 1) 26 (fun pre => .int .u64 ((addTo xs ys pre).1 : Nat))) _) (Own.from (boxed_own w.heap.size 24 (fun _ => .slice A' ys.length cap')) _)))
      (ownFrom_below (Nat.le_refl _) (by simp; omega)))
    (fun _ _ _ _ _ hs _ _ => hs)
    ⟨⟨⟨_, hOx.out, hO.out, trivial⟩, hCx.out, hBx.out⟩, hB3⟩
    ?a₁ ?assign ?body ?done ?stop
  case assign =>
    intro l x W K hK
    gi_wp2
    exact hK
  case body =>
    rintro l pre ⟨k, hk⟩ W ⟨⟨⟨v, hv, hrow, _⟩, hcar, hbb⟩, hB⟩ hlt
    have hA := Lib.hid (addTo_snoc xs ys pre ⟨k, hk⟩)
    have hok := addTo_ok hr.limbs hr'.limbs pre
    have hxk := hr.limbs.getD k
    have hyk := hr'.limbs.getD k
    unfold tells
    dsimp only
    generalize hcc : (addTo xs ys pre).1 = c at *
    generalize hoo : (addTo xs ys pre).2 = out at *
    generalize haa : xs[k]?.getD 0 = a at *
    have HC := Lib.hid hcc
    have HO := Lib.hid hoo
    have HX := Lib.hid haa
    clear hcc hoo haa
    have hc1 := hcar.cell
    have hc2 := hcar.frozen
    have hb1 := hbb.cell
    have hv1 := hv.cell
    have hv2 := hv.frozen
    obtain ⟨ok1, ok2, ok3⟩ := hok
    generalize hyy : ys[k]?.getD 0 = y at *
    have HY := Lib.hid hyy
    rcases Nat.lt_or_ge k ys.length with hky | hky
    · obtain ⟨b, off, rfl, hb0, hcell⟩ := hr'.2 (by omega)
      have hcl := (hB.cell (p := ⟨b, off + k, none⟩) hb0).trans (hcell k hky)
      rw [hyy] at hcl
      clear hyy hcell hx hy hr hr'
      have HOK := Lib.hid ok3
      have hol : out.length ≤ 65536 := by omega
      clear ok3
      have hn := Lib.hid (add_next hA.out HC.out HO.out HX.out HY.out)
      have e1 := Lib.hid (show (((a : Int) + y + c) % 4294967296 : Int) = (((a + y + c) % 4294967296 : Nat) : Int) from by omega)
      have e2 := Lib.hid (show (((a : Int) + y + c) / 4294967296 : Int) = (((a + y + c) / 4294967296 : Nat) : Int) from by omega)
      gi_wp2_with (gi_at_builtin; refine wpListIn_append_own _ rfl _ _ 24 rfl w.heap.size 40 i0 (.int .u32 0) 1 4 Tryd.underlying24 hi hz0 hz1 hz2 rfl (by decide) _ _ _ rfl (hrow.alloc _) ⟨W.heap.size, 0, none⟩ 1 1 [_] rfl rfl (cell_one_new _ _ _) (by simp [Value.oneCell']) (by unfold maxLen; omega) (by omega) (by have := hB.size; simp; omega) ?_; intro v' w2 hown' hgrow hgone; clear hgone; obtain ⟨g', cap', rfl⟩ := ownsRow_succ hown'; obtain ⟨b1, b2, b3⟩ := round_kept hv hrow hcar (by decide) (by decide) hB.size (by omega) (by omega) (by omega) hown' hgrow; have q1 := b1.cell; have q2 := b1.frozen; have q3 := b2.cell; have q4 := b2.frozen)
      refine ⟨(b3 _).1.from _, (b3 _).2.1, ⟨⟨⟨_, (b3 _).2.2.1, ?_, trivial⟩, ?_, round_box hbb hrow (by decide) (by omega) (by omega) hgrow⟩, hB.trans (b3 _).2.1⟩⟩
      · have h := (b3 (.int .u64 (((a : Int) + y + c) / 4294967296))).2.2.2.1
        rw [hn.out, u32s_snoc, ← e1.out]
        simpa using h
      · have h := (b3 (.int .u64 (((a : Int) + y + c) / 4294967296))).2.2.2.2
        rw [hn.out, ← e2.out]
        exact h
    · have hy0 : y ≤ 0 := by rw [← hyy, List.getElem?_eq_none hky]; exact Nat.le_refl _
      clear hyy hx hy hr hr'
      rcases Nat.lt_or_ge 0 c with hc0 | hc0
      · skip
        have HOK := Lib.hid ok3
        have hol : out.length ≤ 65536 := by omega
        clear ok3
        have hn := Lib.hid (add_next hA.out HC.out HO.out HX.out HY.out)
        have e1 := Lib.hid (show (((a : Int) + c) % 4294967296 : Int) = (((a + y + c) % 4294967296 : Nat) : Int) from by omega)
        have e2 := Lib.hid (show (((a : Int) + c) / 4294967296 : Int) = (((a + y + c) / 4294967296 : Nat) : Int) from by omega)
        gi_wp2_with (gi_at_builtin; refine wpListIn_append_own _ rfl _ _ 24 rfl w.heap.size 40 i0 (.int .u32 0) 1 4 Tryd.underlying24 hi hz0 hz1 hz2 rfl (by decide) _ _ _ rfl (hrow.alloc _) ⟨W.heap.size, 0, none⟩ 1 1 [_] rfl rfl (cell_one_new _ _ _) (by simp [Value.oneCell']) (by unfold maxLen; omega) (by omega) (by have := hB.size; simp; omega) ?_; intro v' w2 hown' hgrow hgone; clear hgone; obtain ⟨g', cap', rfl⟩ := ownsRow_succ hown'; obtain ⟨b1, b2, b3⟩ := round_kept hv hrow hcar (by decide) (by decide) hB.size (by omega) (by omega) (by omega) hown' hgrow; have q1 := b1.cell; have q2 := b1.frozen; have q3 := b2.cell; have q4 := b2.frozen)
        refine ⟨(b3 _).1.from _, (b3 _).2.1, ⟨⟨⟨_, (b3 _).2.2.1, ?_, trivial⟩, ?_, round_box hbb hrow (by decide) (by omega) (by omega) hgrow⟩, hB.trans (b3 _).2.1⟩⟩
        · have h := (b3 (.int .u64 (((a : Int) + c) / 4294967296))).2.2.2.1
          rw [hn.out, u32s_snoc, ← e1.out]
          simpa using h
        · have h := (b3 (.int .u64 (((a : Int) + c) / 4294967296))).2.2.2.2
          rw [hn.out, ← e2.out]
          exact h
      · skip
        have HOK := Lib.hid ok3
        have hol : out.length ≤ 65536 := by omega
        clear ok3
        have hn := Lib.hid (add_next hA.out HC.out HO.out HX.out HY.out)
        have e1 := Lib.hid (show ((a : Int)) = (((a + y + c) % 4294967296 : Nat) : Int) from by omega)
        have e2 := Lib.hid (show (((a : Int)) / 4294967296 : Int) = (((a + y + c) / 4294967296 : Nat) : Int) from by omega)
        gi_wp2_with (gi_at_builtin; refine wpListIn_append_own _ rfl _ _ 24 rfl w.heap.size 40 i0 (.int .u32 0) 1 4 Tryd.underlying24 hi hz0 hz1 hz2 rfl (by decide) _ _ _ rfl (hrow.alloc _) ⟨W.heap.size, 0, none⟩ 1 1 [_] rfl rfl (cell_one_new _ _ _) (by simp [Value.oneCell']) (by unfold maxLen; omega) (by omega) (by have := hB.size; simp; omega) ?_; intro v' w2 hown' hgrow hgone; clear hgone; obtain ⟨g', cap', rfl⟩ := ownsRow_succ hown'; obtain ⟨b1, b2, b3⟩ := round_kept hv hrow hcar (by decide) (by decide) hB.size (by omega) (by omega) (by omega) hown' hgrow; have q1 := b1.cell; have q2 := b1.frozen; have q3 := b2.cell; have q4 := b2.frozen)
        refine ⟨(b3 _).1.from _, (b3 _).2.1, ⟨⟨⟨_, (b3 _).2.2.1, ?_, trivial⟩, ?_, round_box hbb hrow (by decide) (by omega) (by omega) hgrow⟩, hB.trans (b3 _).2.1⟩⟩
        · have h := (b3 (.int .u64 (((a : Int)) / 4294967296))).2.2.2.1
          rw [hn.out, u32s_snoc, ← e1.out]
          simpa using h
        · have h := (b3 (.int .u64 (((a : Int)) / 4294967296))).2.2.2.2
          rw [hn.out, ← e2.out]
          exact h
  case done =>
    rintro D ys' W hD rfl ⟨⟨⟨v, hv, hrow, _⟩, hcar, _⟩, hB⟩ hK
    have hok := addTo_ok hr.limbs hr'.limbs (List.finRange xs.length)
    have hval := addTo_all (xs := xs) (ys := ys) hl
    generalize (addTo xs ys (List.finRange xs.length)).1 = c at *
    generalize (addTo xs ys (List.finRange xs.length)).2 = out at *
    obtain ⟨ok1, ok2, ok3⟩ := hok
    have hol : out.length ≤ 65536 := by rw [ok3]; simpa using hxm
    have HV := Lib.hid hval
    have hlz : Limbs (out ++ [c]) := ok2.append (Limbs.one (by omega))
    have hc1 := hcar.cell
    have hv1 := hv.cell
    clear ok3 hval hx hy
    gi_wp2_with (gi_at_builtin; refine wpListIn_append_own _ rfl _ _ 24 rfl w.heap.size 40 i0 (.int .u32 0) 1 4 Tryd.underlying24 hi hz0 hz1 hz2 rfl (by decide) _ _ _ rfl (hrow.alloc _) ⟨W.heap.size, 0, none⟩ 1 1 [_] rfl rfl (cell_one_new _ _ _) (by simp [Value.oneCell']) (by unfold maxLen; omega) (by omega) (by have := hB.size; simp; omega) ?_; intro v' w2 hown' hgrow hgone; clear hgone; obtain ⟨g', cap', rfl⟩ := ownsRow_succ hown')
    have hown2 : w2.ownsRow w.heap.size 40 1 (.slice (some ⟨g', 0, none⟩) (out.length + 1) cap') (out.length + 1) (u32s (out ++ [c])) := by rw [u32s_snoc]; exact hown'
    obtain ⟨hk2, hb2⟩ := appended_plain hrow hB.size hgrow
    have hK2 := hk2.same D _ hK rfl
    refine (wided hF (tidy_own hown2 hlz)).mono ?_
    rintro e w' ⟨⟨v', rfl, hv'⟩, hww⟩
    subst hww
    clear hown' hgrow hown2
    gi_wp2
    refine ⟨by simp, .inl ⟨_, _, rfl, run_takeDeferred hK2, ?_⟩⟩
    refine ⟨_, results_tmp rfl _ _ _, ⟨v', rfl, ?_⟩, (hB.trans hb2).trans (belowK_b (w := w) (Nat.le_refl _) _ D _ _ (by simp at hD; omega) hK2 rfl rfl)⟩
    rw [HV.out] at hv'
    exact ownsRow_putObj hv' _ hK2 rfl
  case stop =>
    rintro D c pre W _ _ h _
    exact h.elim

set_option maxRecDepth 100000 in
set_option maxHeartbeats 4000000 in
theorem add_short (F : Fence) (n : Nat) (hF : Hid (F = Fence.wide)) (hro : F.round = none) (hn : 8 ≤ n) (A A' : Option Addr) (cap cap' : Nat) (xs ys : List Nat) (w : World) (hr : Rd w w.heap.size A xs) (hr' : Rd w w.heap.size A' ys)
    (hx : mayb xs = true) (hy : mayb ys = true) (hlt0 : ys.length < xs.length) :
    CallsIn F n Tryd.prog 12 #[.slice A' ys.length cap', .slice A xs.length cap] w fun e w' => (∃ v, e = .returned v ∧ Own w' w.heap.size v (clip (val xs + val ys))) ∧ Below w.heap.size w w' := by
  have h1 : 1 ≤ n := by omega
  have hxm := (mayb_iff.1 hx).1
  obtain ⟨i0, hi, hz0, hz1, hz2⟩ := info_parts info32
  have hB0 : Below w.heap.size w (w.alloc (.cells #[.slice A' ys.length cap'] 24)) := (Below.refl _ w).alloc (Nat.le_refl _) _
  have hB00 : Below w.heap.size w (w.alloc (.cells #[.slice A xs.length cap] 24)) := (Below.refl _ w).alloc (Nat.le_refl _) _
  have hl : ys.length ≤ xs.length := Nat.le_of_lt hlt0
  have c1 := may_yes cap' (hr'.below hB00 (Nat.le_refl _)) (by unfold maxLen; omega) hy
  have c2 := may_yes cap (hr.below hB00 (Nat.le_refl _)) (by unfold maxLen; omega) hx
  have hf22 := wide_fn hF 24
  have hf36 := wide_fn hF 26
  have hf37 := wide_fn hF 23
  have hf42 := wide_fn hF 40
  refine callsIn_of_wp_marks Tryd.func12 rfl (wide_fn hF _) ?_ hro
  simp only [Tryd.ntmps12, List.size_toArray, List.length_cons, List.length_nil, Nat.reduceAdd, Nat.reduceSub, Array.replicate_succ, Array.replicate_zero, List.push_toArray, List.append_toArray, List.nil_append, List.cons_append]
  gi_wp2_with fail
  refine (wided hF c1).mono ?_
  rintro e w' ⟨rfl, rfl⟩
  gi_wp2_with fail
  refine (wided hF c2).mono ?_
  rintro e w' ⟨rfl, hw2⟩
  subst hw2
  clear c1 c2
  gi_wp2_with (gi_at_make; refine wpListIn_make_own _ rfl _ _ 24 rfl w.heap.size 40 i0 (.int .u32 0) 1 Tryd.underlying24 hi hz0 hz1 .i64 .i64 _ (xs.length + 1) rfl rfl (by omega) (by rw [hz2]; omega) (by unfold maxLen; omega) (by simp) ?_; intro w1 hown0 hgrow0)
  refine (limbs_in F _ hf36 hro _ _ _ _).mono ?_
  rintro e w' ⟨rfl, rfl⟩
  have hB1 : Below w.heap.size w w1 := hB0.grown hgrow0 (by simp) (fun _ h => by cases h)
  have bB : Boxed w1 w.heap.size 24 (.slice A' ys.length cap') := (Boxed.new w _ _).kept hgrow0 (by simp)
  have hsz := bB.lt
  have bO := Boxed.new w1 24 (.slice (some ⟨w.heap.size + 1, 0, none⟩) 0 (xs.length + 1))
  have bC := Boxed.new (w1.alloc (.cells #[.slice (some ⟨w.heap.size + 1, 0, none⟩) 0 (xs.length + 1)] 24)) 26 (.int .u64 0)
  have bN := Boxed.new ((w1.alloc (.cells #[.slice (some ⟨w.heap.size + 1, 0, none⟩) 0 (xs.length + 1)] 24)).alloc (.cells #[.int .u64 0] 26)) 24 (.slice A xs.length cap)
  simp only [World.size_alloc] at bC bN
  have hB3 : Below w.heap.size w (((w1.alloc (.cells #[.slice (some ⟨w.heap.size + 1, 0, none⟩) 0 (xs.length + 1)] 24)).alloc (.cells #[.int .u64 0] 26)).alloc (.cells #[.slice A xs.length cap] 24)) :=
    ((hB1.alloc (by omega) _).alloc (by simp; omega) _).alloc (by simp; omega) _
  rw [World.size_alloc] at hown0
  have hO := Lib.hid (((hown0.alloc (.cells #[.slice (some ⟨w.heap.size + 1, 0, none⟩) 0 (xs.length + 1)] 24)).alloc (.cells #[.int .u64 0] 26)).alloc (.cells #[.slice A xs.length cap] 24))
  have hBx := Lib.hid (((bB.alloc (.cells #[.slice (some ⟨w.heap.size + 1, 0, none⟩) 0 (xs.length + 1)] 24)).alloc (.cells #[.int .u64 0] 26)).alloc (.cells #[.slice A xs.length cap] 24))
  have hOx := Lib.hid ((bO.alloc (.cells #[.int .u64 0] 26)).alloc (.cells #[.slice A xs.length cap] 24))
  have hCx := Lib.hid (bC.alloc (.cells #[.slice A xs.length cap] 24))
  clear bB bO bC hown0 hgrow0
  gi_wp2_with fail
  refine wpIn_rangeFunc_ownG hro h1 (gf := 40) (lb := #[.pointer (some ⟨w1.heap.size + 2, 0, none⟩)]) rfl hf42 (enters_of Tryd.func40 (by kernel_rfl) rfl)
    (limbs_stops F (n - 1) hf42 hro (by omega) (w1.heap.size + 2) w.heap.size A cap xs (by unfold maxLen; omega) _ (by simp) (by simp; omega) bN.cell (hr.below hB3 (Nat.le_refl _))) belowK_t (belowK_b (by simp; omega)) (Below.refl _ _) (fun _ => rfl)
    (fun pre W => ((∃ v, Boxed W w1.heap.size 24 v ∧ W.ownsRow w.heap.size 40 1 v (addTo xs ys pre).2.length (u32s (addTo xs ys pre).2) ∧ True) ∧ Boxed W (w1.heap.size + 1) 26 (.int .u64 ((addTo xs ys pre).1 : Nat)) ∧ Boxed W w.heap.size 24 (.slice A' ys.length cap')) ∧ Below w.heap.size w W)
    (fun _ _ _ => False)
    (OwnFrom.and (OwnFrom.and (Own.from (holdsRow_own w.heap.size w1.heap.size 24 40 1 (fun pre => (addTo xs ys pre).2.length) (fun pre => u32s (addTo xs ys pre).2) (fun _ _ => True)) _)
      (OwnFrom.and (Own.from (boxed_own (w1.heap.size + 1) 26 (fun pre => .int .u64 ((addTo xs ys pre).1 : Nat))) _) (Own.from (boxed_own w.heap.size 24 (fun _ => .slice A' ys.length cap')) _)))
      (ownFrom_below (Nat.le_refl _) (by simp; omega)))
    (fun _ _ _ _ _ hs _ _ => hs)
    ⟨⟨⟨_, hOx.out, hO.out, trivial⟩, hCx.out, hBx.out⟩, hB3⟩
    ?a₁ ?assign ?body ?done ?stop
  case assign =>
    intro l x W K hK
    gi_wp2
    exact hK
  case body =>
    rintro l pre ⟨k, hk⟩ W ⟨⟨⟨v, hv, hrow, _⟩, hcar, hbb⟩, hB⟩ hlt
    have hA := Lib.hid (addTo_snoc xs ys pre ⟨k, hk⟩)
    have hok := addTo_ok hr.limbs hr'.limbs pre
    have hxk := hr.limbs.getD k
    have hyk := hr'.limbs.getD k
    unfold tells
    dsimp only
    generalize hcc : (addTo xs ys pre).1 = c at *
    generalize hoo : (addTo xs ys pre).2 = out at *
    generalize haa : xs[k]?.getD 0 = a at *
    have HC := Lib.hid hcc
    have HO := Lib.hid hoo
    have HX := Lib.hid haa
    clear hcc hoo haa
    have hc1 := hcar.cell
    have hc2 := hcar.frozen
    have hb1 := hbb.cell
    have hv1 := hv.cell
    have hv2 := hv.frozen
    obtain ⟨ok1, ok2, ok3⟩ := hok
    generalize hyy : ys[k]?.getD 0 = y at *
    have HY := Lib.hid hyy
    rcases Nat.lt_or_ge k ys.length with hky | hky
    · obtain ⟨b, off, rfl, hb0, hcell⟩ := hr'.2 (by omega)
      have hcl := (hB.cell (p := ⟨b, off + k, none⟩) hb0).trans (hcell k hky)
      rw [hyy] at hcl
      clear hyy hcell hx hy hr hr'
      have HOK := Lib.hid ok3
      have hol : out.length ≤ 65536 := by omega
      clear ok3
      have hn := Lib.hid (add_next hA.out HC.out HO.out HX.out HY.out)
      have e1 := Lib.hid (show (((a : Int) + y + c) % 4294967296 : Int) = (((a + y + c) % 4294967296 : Nat) : Int) from by omega)
      have e2 := Lib.hid (show (((a : Int) + y + c) / 4294967296 : Int) = (((a + y + c) / 4294967296 : Nat) : Int) from by omega)
      gi_wp2_with (gi_at_builtin; refine wpListIn_append_own _ rfl _ _ 24 rfl w.heap.size 40 i0 (.int .u32 0) 1 4 Tryd.underlying24 hi hz0 hz1 hz2 rfl (by decide) _ _ _ rfl (hrow.alloc _) ⟨W.heap.size, 0, none⟩ 1 1 [_] rfl rfl (cell_one_new _ _ _) (by simp [Value.oneCell']) (by unfold maxLen; omega) (by omega) (by have := hB.size; simp; omega) ?_; intro v' w2 hown' hgrow hgone; clear hgone; obtain ⟨g', cap', rfl⟩ := ownsRow_succ hown'; obtain ⟨b1, b2, b3⟩ := round_kept hv hrow hcar (by decide) (by decide) hB.size (by omega) (by omega) (by omega) hown' hgrow; have q1 := b1.cell; have q2 := b1.frozen; have q3 := b2.cell; have q4 := b2.frozen)
      refine ⟨(b3 _).1.from _, (b3 _).2.1, ⟨⟨⟨_, (b3 _).2.2.1, ?_, trivial⟩, ?_, round_box hbb hrow (by decide) (by omega) (by omega) hgrow⟩, hB.trans (b3 _).2.1⟩⟩
      · have h := (b3 (.int .u64 (((a : Int) + y + c) / 4294967296))).2.2.2.1
        rw [hn.out, u32s_snoc, ← e1.out]
        simpa using h
      · have h := (b3 (.int .u64 (((a : Int) + y + c) / 4294967296))).2.2.2.2
        rw [hn.out, ← e2.out]
        exact h
    · have hy0 : y ≤ 0 := by rw [← hyy, List.getElem?_eq_none hky]; exact Nat.le_refl _
      clear hyy hx hy hr hr'
      rcases Nat.lt_or_ge 0 c with hc0 | hc0
      · skip
        have HOK := Lib.hid ok3
        have hol : out.length ≤ 65536 := by omega
        clear ok3
        have hn := Lib.hid (add_next hA.out HC.out HO.out HX.out HY.out)
        have e1 := Lib.hid (show (((a : Int) + c) % 4294967296 : Int) = (((a + y + c) % 4294967296 : Nat) : Int) from by omega)
        have e2 := Lib.hid (show (((a : Int) + c) / 4294967296 : Int) = (((a + y + c) / 4294967296 : Nat) : Int) from by omega)
        gi_wp2_with (gi_at_builtin; refine wpListIn_append_own _ rfl _ _ 24 rfl w.heap.size 40 i0 (.int .u32 0) 1 4 Tryd.underlying24 hi hz0 hz1 hz2 rfl (by decide) _ _ _ rfl (hrow.alloc _) ⟨W.heap.size, 0, none⟩ 1 1 [_] rfl rfl (cell_one_new _ _ _) (by simp [Value.oneCell']) (by unfold maxLen; omega) (by omega) (by have := hB.size; simp; omega) ?_; intro v' w2 hown' hgrow hgone; clear hgone; obtain ⟨g', cap', rfl⟩ := ownsRow_succ hown'; obtain ⟨b1, b2, b3⟩ := round_kept hv hrow hcar (by decide) (by decide) hB.size (by omega) (by omega) (by omega) hown' hgrow; have q1 := b1.cell; have q2 := b1.frozen; have q3 := b2.cell; have q4 := b2.frozen)
        refine ⟨(b3 _).1.from _, (b3 _).2.1, ⟨⟨⟨_, (b3 _).2.2.1, ?_, trivial⟩, ?_, round_box hbb hrow (by decide) (by omega) (by omega) hgrow⟩, hB.trans (b3 _).2.1⟩⟩
        · have h := (b3 (.int .u64 (((a : Int) + c) / 4294967296))).2.2.2.1
          rw [hn.out, u32s_snoc, ← e1.out]
          simpa using h
        · have h := (b3 (.int .u64 (((a : Int) + c) / 4294967296))).2.2.2.2
          rw [hn.out, ← e2.out]
          exact h
      · skip
        have HOK := Lib.hid ok3
        have hol : out.length ≤ 65536 := by omega
        clear ok3
        have hn := Lib.hid (add_next hA.out HC.out HO.out HX.out HY.out)
        have e1 := Lib.hid (show ((a : Int)) = (((a + y + c) % 4294967296 : Nat) : Int) from by omega)
        have e2 := Lib.hid (show (((a : Int)) / 4294967296 : Int) = (((a + y + c) / 4294967296 : Nat) : Int) from by omega)
        gi_wp2_with (gi_at_builtin; refine wpListIn_append_own _ rfl _ _ 24 rfl w.heap.size 40 i0 (.int .u32 0) 1 4 Tryd.underlying24 hi hz0 hz1 hz2 rfl (by decide) _ _ _ rfl (hrow.alloc _) ⟨W.heap.size, 0, none⟩ 1 1 [_] rfl rfl (cell_one_new _ _ _) (by simp [Value.oneCell']) (by unfold maxLen; omega) (by omega) (by have := hB.size; simp; omega) ?_; intro v' w2 hown' hgrow hgone; clear hgone; obtain ⟨g', cap', rfl⟩ := ownsRow_succ hown'; obtain ⟨b1, b2, b3⟩ := round_kept hv hrow hcar (by decide) (by decide) hB.size (by omega) (by omega) (by omega) hown' hgrow; have q1 := b1.cell; have q2 := b1.frozen; have q3 := b2.cell; have q4 := b2.frozen)
        refine ⟨(b3 _).1.from _, (b3 _).2.1, ⟨⟨⟨_, (b3 _).2.2.1, ?_, trivial⟩, ?_, round_box hbb hrow (by decide) (by omega) (by omega) hgrow⟩, hB.trans (b3 _).2.1⟩⟩
        · have h := (b3 (.int .u64 (((a : Int)) / 4294967296))).2.2.2.1
          rw [hn.out, u32s_snoc, ← e1.out]
          simpa using h
        · have h := (b3 (.int .u64 (((a : Int)) / 4294967296))).2.2.2.2
          rw [hn.out, ← e2.out]
          exact h
  case done =>
    rintro D ys' W hD rfl ⟨⟨⟨v, hv, hrow, _⟩, hcar, _⟩, hB⟩ hK
    have hok := addTo_ok hr.limbs hr'.limbs (List.finRange xs.length)
    have hval := addTo_all (xs := xs) (ys := ys) hl
    generalize (addTo xs ys (List.finRange xs.length)).1 = c at *
    generalize (addTo xs ys (List.finRange xs.length)).2 = out at *
    obtain ⟨ok1, ok2, ok3⟩ := hok
    have hol : out.length ≤ 65536 := by rw [ok3]; simpa using hxm
    have HV := Lib.hid hval
    have hlz : Limbs (out ++ [c]) := ok2.append (Limbs.one (by omega))
    have hc1 := hcar.cell
    have hv1 := hv.cell
    clear ok3 hval hx hy
    gi_wp2_with (gi_at_builtin; refine wpListIn_append_own _ rfl _ _ 24 rfl w.heap.size 40 i0 (.int .u32 0) 1 4 Tryd.underlying24 hi hz0 hz1 hz2 rfl (by decide) _ _ _ rfl (hrow.alloc _) ⟨W.heap.size, 0, none⟩ 1 1 [_] rfl rfl (cell_one_new _ _ _) (by simp [Value.oneCell']) (by unfold maxLen; omega) (by omega) (by have := hB.size; simp; omega) ?_; intro v' w2 hown' hgrow hgone; clear hgone; obtain ⟨g', cap', rfl⟩ := ownsRow_succ hown')
    have hown2 : w2.ownsRow w.heap.size 40 1 (.slice (some ⟨g', 0, none⟩) (out.length + 1) cap') (out.length + 1) (u32s (out ++ [c])) := by rw [u32s_snoc]; exact hown'
    obtain ⟨hk2, hb2⟩ := appended_plain hrow hB.size hgrow
    have hK2 := hk2.same D _ hK rfl
    refine (wided hF (tidy_own hown2 hlz)).mono ?_
    rintro e w' ⟨⟨v', rfl, hv'⟩, hww⟩
    subst hww
    clear hown' hgrow hown2
    gi_wp2
    refine ⟨by simp, .inl ⟨_, _, rfl, run_takeDeferred hK2, ?_⟩⟩
    refine ⟨_, results_tmp rfl _ _ _, ⟨v', rfl, ?_⟩, (hB.trans hb2).trans (belowK_b (w := w) (Nat.le_refl _) _ D _ _ (by simp at hD; omega) hK2 rfl rfl)⟩
    rw [HV.out] at hv'
    exact ownsRow_putObj hv' _ hK2 rfl
  case stop =>
    rintro D c pre W _ _ h _
    exact h.elim


theorem rd_below_alloc {w : World} {A : Option Addr} {xs : List Nat} (h : Rd w w.heap.size A xs) (o : Obj) : Rd (w.alloc o) w.heap.size A xs := h.below ((Below.refl _ w).alloc (Nat.le_refl _) o) (Nat.le_refl _)

set_option maxHeartbeats 1000000 in
theorem add_any (A A' : Option Addr) (cap cap' : Nat) (xs ys : List Nat) (w : World) (hr : Rd w w.heap.size A xs) (hr' : Rd w w.heap.size A' ys) (hc : xs.length ≤ maxLen) (hc' : ys.length ≤ maxLen) :
    Calls Tryd.prog 12 #[.slice A xs.length cap, .slice A' ys.length cap'] w fun e w' => (∃ v, e = .returned v ∧ Own w' w.heap.size v (sAdd xs ys)) ∧ Below w.heap.size w w' := by
  by_cases hx : mayb xs = true
  · by_cases hy : mayb ys = true
    · rw [sAdd_yes (by simp [hx, hy])]
      refine (callsIn_wide (n := 8)).1 ?_
      rcases Nat.lt_or_ge xs.length ys.length with h | h
      · rw [Nat.add_comm]
        exact add_short Fence.wide 8 rfl rfl (by omega) A' A cap' cap ys xs w hr' hr hy hx h
      · exact add_long Fence.wide 8 rfl rfl (by omega) A A' cap cap' xs ys w hr hr' hx hy h
    · have hs := Lib.hid (sAdd_no (xs := xs) (ys := ys) (by simp [hy]))
      have c1 := may_yes cap (rd_below_alloc hr (.cells #[.slice A' ys.length cap'] 24)) hc hx
      have c2 := may_no cap' (rd_below_alloc hr' (.cells #[.slice A' ys.length cap'] 24)) hc' (by simpa using hy)
      clear hx hy hc hc'
      go_enter Tryd.func12, Tryd.ntmps12
      go_wp2_with fail
      refine c1.mono ?_
      rintro e w' ⟨rfl, rfl⟩
      go_wp2_with fail
      refine c2.mono ?_
      rintro e w' ⟨rfl, hw⟩
      subst hw
      clear c1 c2
      go_wp2
      go_ret
      exact ⟨⟨_, rfl, by rw [hs.out]; exact Own.nil _ _⟩, (Below.refl _ w).alloc (Nat.le_refl _) _⟩
  · have hs := Lib.hid (sAdd_no (xs := xs) (ys := ys) (by simp [hx]))
    have c1 := may_no cap (rd_below_alloc hr (.cells #[.slice A' ys.length cap'] 24)) hc (by simpa using hx)
    clear hx hc hc'
    go_enter Tryd.func12, Tryd.ntmps12
    go_wp2_with fail
    refine c1.mono ?_
    rintro e w' ⟨rfl, hw⟩
    subst hw
    clear c1
    go_wp2
    go_ret
    exact ⟨⟨_, rfl, by rw [hs.out]; exact Own.nil _ _⟩, (Below.refl _ w).alloc (Nat.le_refl _) _⟩

end Go.Proofs.YtileljokijmpaaaDoor

/- Contract: Sub. -/
namespace Go.Proofs.YtileljokijmpaaaDoor
open Go.RowKit Go.Shelf

attribute [local go_sem] Oper.semAt_some

def sSubOk (xs ys : List Nat) : Bool := mayb xs && (mayb ys && decide (val ys ≤ val xs))
def sSub (xs ys : List Nat) : List Nat := if sSubOk xs ys then lim (val xs - val ys) else []
theorem sSub_no {xs ys : List Nat} (h : sSubOk xs ys = false) : sSub xs ys = [] := by unfold sSub; rw [h]; rfl
theorem sSub_yes {xs ys : List Nat} (h : sSubOk xs ys = true) : sSub xs ys = lim (val xs - val ys) := by unfold sSub; rw [h]; rfl

/-! ### the rounds, as a fold -/
def subSum (xs ys : List Nat) (c k : Nat) : Nat := xs[k]?.getD 0 + 4294967296 - ys[k]?.getD 0 - c
def subStep (xs ys : List Nat) (st : Nat × List Nat) (j : Fin xs.length) : Nat × List Nat := (1 - subSum xs ys st.1 j.1 / 4294967296, st.2 ++ [subSum xs ys st.1 j.1 % 4294967296])
def subTo (xs ys : List Nat) (pre : List (Fin xs.length)) : Nat × List Nat := pre.foldl (subStep xs ys) (0, [])
theorem subTo_snoc (xs ys : List Nat) (pre : List (Fin xs.length)) (j : Fin xs.length) : subTo xs ys (pre ++ [j]) = subStep xs ys (subTo xs ys pre) j := by simp [subTo]
theorem subTo_from {xs ys : List Nat} : ∀ (pre : List (Fin xs.length)) (st : Nat × List Nat), st.1 ≤ 1 → Limbs st.2 →
    (pre.foldl (subStep xs ys) st).1 ≤ 1 ∧ Limbs (pre.foldl (subStep xs ys) st).2 ∧ (pre.foldl (subStep xs ys) st).2.length = st.2.length + pre.length
  | [], st, h, k => ⟨h, k, rfl⟩
  | j :: r, st, _, k => by
    have := subTo_from (ys := ys) r (subStep xs ys st j) (by unfold subStep; show 1 - _ ≤ 1; omega) (by unfold subStep; exact k.append (Limbs.one (Nat.mod_lt _ (by decide))))
    rw [List.foldl_cons]
    refine ⟨this.1, this.2.1, this.2.2.trans ?_⟩
    simp [subStep]
    omega
theorem subTo_ok (xs ys : List Nat) (pre : List (Fin xs.length)) : (subTo xs ys pre).1 ≤ 1 ∧ Limbs (subTo xs ys pre).2 ∧ (subTo xs ys pre).2.length = pre.length := by
  have := subTo_from (ys := ys) pre (0, []) (by simp) limbs_nil
  simpa [subTo] using this
theorem subTo_val {xs ys : List Nat} (hx : Limbs xs) (hy : Limbs ys) : ∀ {k : Nat} (hk : k ≤ xs.length), val (subTo xs ys (upTo k hk)).2 + val (ys.take k) = val (xs.take k) + 4294967296 ^ k * (subTo xs ys (upTo k hk)).1 ∧ (subTo xs ys (upTo k hk)).2.length = k ∧ (subTo xs ys (upTo k hk)).1 ≤ 1 := by
  intro k
  induction k with
  | zero => intro _; simp [subTo, upTo, val]
  | succ k ih =>
    intro hk
    obtain ⟨h1, h2, h3⟩ := ih (Nat.le_of_lt hk)
    have q1 := hx.getD k
    have q2 := hy.getD k
    rw [upTo_succ hk, subTo_snoc]
    generalize subTo xs ys (upTo k (Nat.le_of_lt hk)) = st at h1 h2 h3
    obtain ⟨c, out⟩ := st
    simp only [subStep] at h1 h2 h3 ⊢
    refine ⟨?_, by simp [h2], by omega⟩
    rw [val_snoc, h2, val_take_succ, val_take_succ]
    have hs : subSum xs ys c k = xs[k]?.getD 0 + 4294967296 - ys[k]?.getD 0 - c := rfl
    have hd : subSum xs ys c k % 4294967296 + ys[k]?.getD 0 + c = xs[k]?.getD 0 + 4294967296 * (1 - subSum xs ys c k / 4294967296) := by omega
    generalize subSum xs ys c k % 4294967296 = m at hd ⊢
    generalize 1 - subSum xs ys c k / 4294967296 = q at hd ⊢
    have := congrArg (4294967296 ^ k * ·) hd
    simp only [Nat.mul_add] at this
    rw [Nat.pow_succ, Nat.mul_assoc]
    omega
theorem subTo_all {xs ys : List Nat} (hx : Limbs xs) (hy : Limbs ys) (hl : ys.length ≤ xs.length) (hv : val ys ≤ val xs) : val (subTo xs ys (List.finRange xs.length)).2 = val xs - val ys := by
  obtain ⟨h1, h2, h3⟩ := subTo_val hx hy (Nat.le_refl xs.length)
  rw [upTo_all] at h1 h2 h3
  rw [List.take_of_length_le (Nat.le_refl _), List.take_of_length_le hl] at h1
  have hlt := val_lt (subTo_ok xs ys (List.finRange xs.length)).2.1
  rw [h2] at hlt
  generalize (subTo xs ys (List.finRange xs.length)).1 = c at *
  have : c = 0 ∨ c = 1 := by omega
  rcases this with rfl | rfl
  · omega
  · rw [Nat.mul_one] at h1; omega
theorem sub_next {xs ys : List Nat} {pre : List (Fin xs.length)} {k a y c : Nat} {out : List Nat} {hk : k < xs.length} (hA : subTo xs ys (pre ++ [⟨k, hk⟩]) = subStep xs ys (subTo xs ys pre) ⟨k, hk⟩)
    (h1 : (subTo xs ys pre).1 = c) (h2 : (subTo xs ys pre).2 = out) (h3 : xs[k]?.getD 0 = a) (h4 : ys[k]?.getD 0 = y) : subTo xs ys (pre ++ [⟨k, hk⟩]) = (1 - (a + 4294967296 - y - c) / 4294967296, out ++ [(a + 4294967296 - y - c) % 4294967296]) := by
  rw [hA]
  unfold subStep subSum
  rw [h1, h2, h3, h4]

theorem cell_one_at (W : World) (v : Value) (e : TypeId) (n : Nat) (h : n = W.heap.size) : ∀ j u, [v][j]? = some u → (W.alloc (.cells #[v] e)).cell? ((⟨n, 0, none⟩ : Addr).add j) = some u := by subst h; exact cell_one_new _ _ _

/-- An append into a boxed slice, another box beside it. -/
theorem appended_beside {W w2 : World} {n₀ Bo Bc : Nat} {t tc e : TypeId} {size k m : Nat} {v v' u : Value} {xs ys : List Value} {tmp : Obj}
    (hv : Boxed W Bo t v) (hrow : W.ownsRow n₀ e size v k xs) (hcar : Boxed W Bc tc u) (hte : t ≠ e) (htc : tc ≠ e) (hn₀ : n₀ ≤ W.heap.size) (ho : n₀ ≤ Bo) (hne : Bc ≠ Bo)
    (hown' : w2.ownsRow n₀ e size v' m ys) (hgrow : (W.alloc tmp).grownBy w2 v.ownBlock) :
    Boxed w2 Bo t v ∧ KeepsOthers W (w2.setCell ⟨Bo, 0, none⟩ v') ∧ Below n₀ W (w2.setCell ⟨Bo, 0, none⟩ v') ∧
      Boxed (w2.setCell ⟨Bo, 0, none⟩ v') Bo t v' ∧ (w2.setCell ⟨Bo, 0, none⟩ v').ownsRow n₀ e size v' m ys ∧ Boxed (w2.setCell ⟨Bo, 0, none⟩ v') Bc tc u := by
  obtain ⟨hv1, hv2, hr2, hk2, hb2⟩ := hv.appended hte hrow hn₀ ho hown' hgrow
  exact ⟨hv1, hk2, hb2, hv2, hr2, ((hcar.alloc tmp).kept hgrow (hcar.not_row htc hrow)).other hne v'⟩

set_option maxRecDepth 100000 in
set_option maxHeartbeats 4000000 in
theorem sub_loop (F : Fence) (n : Nat) (hF : Hid (F = Fence.wide)) (hro : F.round = none) (hn : 8 ≤ n) (A A' : Option Addr) (cap cap' : Nat) (xs ys : List Nat) (w : World) (hr : Rd w w.heap.size A xs) (hr' : Rd w w.heap.size A' ys)
    (hx : mayb xs = true) (hy : mayb ys = true) (hvv : val ys ≤ val xs) :
    CallsIn F n Tryd.prog 9 #[.slice A xs.length cap, .slice A' ys.length cap'] w fun e w' => (∃ v, e = .returned (.tuple #[v, .bool true]) ∧ Own w' w.heap.size v (lim (val xs - val ys))) ∧ Below w.heap.size w w' := by
  have h1 : 1 ≤ n := by omega
  have hxm := (mayb_iff.1 hx).1
  have hym := (mayb_iff.1 hy).1
  have hl : ys.length ≤ xs.length := by
    rcases Nat.lt_or_ge xs.length ys.length with h | h
    · have := val_lt_len hr.limbs (mayb_canon hr'.limbs hy) h
      omega
    · exact h
  have hs0 : (0 : Int) ≤ sCmp xs ys := by
    rw [sCmp_yes (by simp [hx, hy])]
    unfold cmpN
    rw [if_neg (by omega)]
    split <;> decide
  obtain ⟨i0, hi, hz0, hz1, hz2⟩ := info_parts info32
  have hB0 : Below w.heap.size w (w.alloc (.cells #[.slice A' ys.length cap'] 24)) := (Below.refl _ w).alloc (Nat.le_refl _) _
  have c1 := may_yes cap (hr.below hB0 (Nat.le_refl _)) (by unfold maxLen; omega) hx
  have c2 := may_yes cap' (hr'.below hB0 (Nat.le_refl _)) (by unfold maxLen; omega) hy
  have c3 := cmp_any A A' cap cap' xs ys _ _ (hr.below hB0 (Nat.le_refl _)) (hr'.below hB0 (Nat.le_refl _)) (by unfold maxLen; omega) (by unfold maxLen; omega)
  have hf22 := wide_fn hF 24
  have hf17 := wide_fn hF 25
  have hf36 := wide_fn hF 26
  have hf37 := wide_fn hF 23
  have hf42 := wide_fn hF 40
  have hfits : clip (val xs - val ys) = lim (val xs - val ys) := by
    refine clip_of (Nat.le_trans (lim_length_le.2 ?_) hxm)
    have := val_lt hr.limbs
    omega
  have HFT := Lib.hid hfits
  clear hfits
  refine callsIn_of_wp_marks Tryd.func9 rfl (wide_fn hF _) ?_ hro
  simp only [Tryd.ntmps9, List.size_toArray, List.length_cons, List.length_nil, Nat.reduceAdd, Nat.reduceSub, Array.replicate_succ, Array.replicate_zero, List.push_toArray, List.append_toArray, List.nil_append, List.cons_append]
  gi_wp2_with fail
  refine (wided hF c1).mono ?_
  rintro e w' ⟨rfl, rfl⟩
  gi_wp2_with fail
  refine (wided hF c2).mono ?_
  rintro e w' ⟨rfl, hw2⟩
  subst hw2
  gi_wp2_with fail
  refine (wided hF c3).mono ?_
  rintro e w' ⟨rfl, nq, hw3⟩
  subst hw3
  clear c1 c2 c3
  gi_wp2_with (gi_at_make; refine wpListIn_make_own _ rfl _ _ 24 rfl w.heap.size 40 i0 (.int .u32 0) 1 Tryd.underlying24 hi hz0 hz1 .i64 .i64 _ xs.length rfl rfl (by omega) (by rw [hz2]; omega) (by unfold maxLen; omega) (by simp) ?_; intro w1 hown0 hgrow0)
  refine (limbs_in F _ hf36 hro _ _ _ _).mono ?_
  rintro e w' ⟨rfl, rfl⟩
  have hB0' : Below w.heap.size w ((w.alloc (.cells #[.slice A' ys.length cap'] 24)).drewN nq) := ⟨hB0.os, hB0.tape, hB0.output, hB0.size, hB0.block⟩
  have hB1 : Below w.heap.size w w1 := hB0'.grown hgrow0 (by simp) (fun _ h => by cases h)
  have bB0 : Boxed ((w.alloc (.cells #[.slice A' ys.length cap'] 24)).drewN nq) w.heap.size 24 (.slice A' ys.length cap') := Boxed.new w _ _
  have bB : Boxed w1 w.heap.size 24 (.slice A' ys.length cap') := bB0.kept hgrow0 (by simp)
  have hsz := bB.lt
  have bO := Boxed.new w1 24 (.slice (some ⟨w.heap.size + 1, 0, none⟩) 0 xs.length)
  have bC := Boxed.new (w1.alloc (.cells #[.slice (some ⟨w.heap.size + 1, 0, none⟩) 0 xs.length] 24)) 2 (.int .i64 0)
  have bN := Boxed.new ((w1.alloc (.cells #[.slice (some ⟨w.heap.size + 1, 0, none⟩) 0 xs.length] 24)).alloc (.cells #[.int .i64 0] 2)) 24 (.slice A xs.length cap)
  simp only [World.size_alloc] at bC bN
  have hB3 : Below w.heap.size w (((w1.alloc (.cells #[.slice (some ⟨w.heap.size + 1, 0, none⟩) 0 xs.length] 24)).alloc (.cells #[.int .i64 0] 2)).alloc (.cells #[.slice A xs.length cap] 24)) :=
    ((hB1.alloc (by omega) _).alloc (by simp; omega) _).alloc (by simp; omega) _
  have hown00 : w1.ownsRow w.heap.size 40 1 (.slice (some ⟨w.heap.size + 1, 0, none⟩) 0 xs.length) 0 [] := by simpa using hown0
  have hO := Lib.hid (((hown00.alloc (.cells #[.slice (some ⟨w.heap.size + 1, 0, none⟩) 0 xs.length] 24)).alloc (.cells #[.int .i64 0] 2)).alloc (.cells #[.slice A xs.length cap] 24))
  have hBx := Lib.hid (((bB.alloc (.cells #[.slice (some ⟨w.heap.size + 1, 0, none⟩) 0 xs.length] 24)).alloc (.cells #[.int .i64 0] 2)).alloc (.cells #[.slice A xs.length cap] 24))
  have hOx := Lib.hid ((bO.alloc (.cells #[.int .i64 0] 2)).alloc (.cells #[.slice A xs.length cap] 24))
  have hCx := Lib.hid (bC.alloc (.cells #[.slice A xs.length cap] 24))
  clear bB0 bB bO bC hown0 hown00 hgrow0 hB0 hB0'
  gi_wp2_with fail
  refine wpIn_rangeFunc_ownG hro h1 (gf := 40) (lb := #[.pointer (some ⟨w1.heap.size + 2, 0, none⟩)]) rfl hf42 (enters_of Tryd.func40 (by kernel_rfl) rfl)
    (limbs_stops F (n - 1) hf42 hro (by omega) (w1.heap.size + 2) w.heap.size A cap xs (by unfold maxLen; omega) _ (by simp) (by simp; omega) bN.cell (hr.below hB3 (Nat.le_refl _))) belowK_t (belowK_b (by simp; omega)) (Below.refl _ _) (fun _ => rfl)
    (fun pre W => ((∃ v, Boxed W w1.heap.size 24 v ∧ W.ownsRow w.heap.size 40 1 v (subTo xs ys pre).2.length (u32s (subTo xs ys pre).2) ∧ True) ∧ Boxed W (w1.heap.size + 1) 2 (.int .i64 ((subTo xs ys pre).1 : Nat)) ∧ Boxed W w.heap.size 24 (.slice A' ys.length cap')) ∧ Below w.heap.size w W)
    (fun _ _ _ => False)
    (OwnFrom.and (OwnFrom.and (Own.from (holdsRow_own w.heap.size w1.heap.size 24 40 1 (fun pre => (subTo xs ys pre).2.length) (fun pre => u32s (subTo xs ys pre).2) (fun _ _ => True)) _)
      (OwnFrom.and (Own.from (boxed_own (w1.heap.size + 1) 2 (fun pre => .int .i64 ((subTo xs ys pre).1 : Nat))) _) (Own.from (boxed_own w.heap.size 24 (fun _ => .slice A' ys.length cap')) _)))
      (ownFrom_below (Nat.le_refl _) (by simp; omega)))
    (fun _ _ _ _ _ hs _ _ => hs)
    ⟨⟨⟨_, hOx.out, hO.out, trivial⟩, hCx.out, hBx.out⟩, hB3⟩
    ?a₁ ?assign ?body ?done ?stop
  case assign =>
    intro l x W K hK
    gi_wp2
    exact hK
  case body =>
    rintro l pre ⟨k, hk⟩ W ⟨⟨⟨v, hv, hrow, _⟩, hcar, hbb⟩, hB⟩ hlt
    have hA := Lib.hid (subTo_snoc xs ys pre ⟨k, hk⟩)
    have hok := subTo_ok xs ys pre
    have hxk := hr.limbs.getD k
    have hyk := hr'.limbs.getD k
    unfold tells
    dsimp only
    generalize hcc : (subTo xs ys pre).1 = c at *
    generalize hoo : (subTo xs ys pre).2 = out at *
    generalize haa : xs[k]?.getD 0 = a at *
    have HC := Lib.hid hcc
    have HO := Lib.hid hoo
    have HX := Lib.hid haa
    clear hcc hoo haa
    have hc1 := hcar.cell
    have hc2 := hcar.frozen
    have hb1 := hbb.cell
    have hv1 := hv.cell
    have hv2 := hv.frozen
    obtain ⟨ok1, ok2, ok3⟩ := hok
    generalize hyy : ys[k]?.getD 0 = y at *
    have HY := Lib.hid hyy
    have HOK := Lib.hid ok3
    have hol : out.length ≤ 65536 := by omega
    clear ok3
    have hn := Lib.hid (sub_next hA.out HC.out HO.out HX.out HY.out)
    -- the borrow's box is written first
    have hA1 := hcar.set (.int .i64 0)
    have hA2 := hA1.set (.int .i64 1)
    have hneB : w1.heap.size ≠ w1.heap.size + 1 := by omega
    have hV1 := hv.other hneB (.int .i64 0)
    have hV2 := hV1.other hneB (.int .i64 1)
    have hR1 := ownsRow_box hrow hcar (by decide) (.int .i64 0)
    have hR2 := ownsRow_box hR1 hA1 (by decide) (.int .i64 1)
    have hneW : w.heap.size ≠ w1.heap.size + 1 := by omega
    have hneW' : w.heap.size ≠ w1.heap.size := by omega
    have hBB1 := hbb.other hneW (.int .i64 0)
    have hBB2 := hBB1.other hneW (.int .i64 1)
    have hKB1 : Below w.heap.size W (W.setCell ⟨w1.heap.size + 1, 0, none⟩ (.int .i64 0)) := (Below.refl _ W).setCell (p := ⟨w1.heap.size + 1, 0, none⟩) (by simp; omega) _
    have hKB2 : Below w.heap.size W ((W.setCell ⟨w1.heap.size + 1, 0, none⟩ (.int .i64 0)).setCell ⟨w1.heap.size + 1, 0, none⟩ (.int .i64 1)) := hKB1.setCell (p := ⟨w1.heap.size + 1, 0, none⟩) (by simp; omega) _
    have hKO1 : KeepsOthers W (W.setCell ⟨w1.heap.size + 1, 0, none⟩ (.int .i64 0)) := KeepsOthers.setCell _ _ _
    have hKO2 : KeepsOthers W ((W.setCell ⟨w1.heap.size + 1, 0, none⟩ (.int .i64 0)).setCell ⟨w1.heap.size + 1, 0, none⟩ (.int .i64 1)) := hKO1.trans (KeepsOthers.setCell _ _ _)
    have f1 := hA1.cell
    have f2 := hA1.frozen
    have f3 := hA2.cell
    have f4 := hV1.cell
    have f5 := hV2.cell
    rcases Nat.lt_or_ge k ys.length with hky | hky
    · obtain ⟨b, off, rfl, hb0, hcell⟩ := hr'.2 (by omega)
      have hcl := (hB.cell (p := ⟨b, off + k, none⟩) hb0).trans (hcell k hky)
      rw [hyy] at hcl
      clear hyy hcell hx hy hr hr'
      rcases Nat.lt_or_ge a (y + c) with hneg | hneg
      · have e1 := Lib.hid (show (((a : Int) - y - c) + 4294967296 : Int) = (((a + 4294967296 - y - c) % 4294967296 : Nat) : Int) from by omega)
        have e2 := Lib.hid (show (1 : Int) = ((1 - (a + 4294967296 - y - c) / 4294967296 : Nat) : Int) from by omega)
        gi_wp2_with (gi_at_builtin; refine wpListIn_append_own _ rfl _ _ 24 rfl w.heap.size 40 i0 (.int .u32 0) 1 4 Tryd.underlying24 hi hz0 hz1 hz2 rfl (by decide) _ _ _ rfl (hR2.alloc _) ⟨W.heap.size, 0, none⟩ 1 1 [_] rfl rfl (cell_one_at _ _ _ _ (by simp)) (by simp [Value.oneCell']) (by unfold maxLen; omega) (by omega) (by have := hB.size; have := hKB2.size; simp only [World.size_alloc]; omega) ?_; intro v' w2 hown' hgrow hgone; clear hgone; obtain ⟨g', cap', rfl⟩ := ownsRow_succ hown'; obtain ⟨b1, bk, bb, bv2, br2, bc2⟩ := appended_beside hV2 hR2 hA2 (by decide) (by decide) (by have := hB.size; have := hKB2.size; omega) (by omega) (by omega) hown' hgrow; have q1 := b1.cell; have q2 := b1.frozen)
        refine ⟨(hKO2.trans bk).from _, hKB2.trans bb, ⟨⟨⟨_, bv2, ?_, trivial⟩, ?_, ((hBB2.alloc _).kept hgrow (hBB2.not_row (by decide) hR2)).other hneW' _⟩, hB.trans (hKB2.trans bb)⟩⟩
        · rw [hn.out, u32s_snoc, ← e1.out]
          simpa using br2
        · rw [hn.out, ← e2.out]
          exact bc2
      · have e1 := Lib.hid (show ((a : Int) - y - c : Int) = (((a + 4294967296 - y - c) % 4294967296 : Nat) : Int) from by omega)
        have e2 := Lib.hid (show (0 : Int) = ((1 - (a + 4294967296 - y - c) / 4294967296 : Nat) : Int) from by omega)
        gi_wp2_with (gi_at_builtin; refine wpListIn_append_own _ rfl _ _ 24 rfl w.heap.size 40 i0 (.int .u32 0) 1 4 Tryd.underlying24 hi hz0 hz1 hz2 rfl (by decide) _ _ _ rfl (hR1.alloc _) ⟨W.heap.size, 0, none⟩ 1 1 [_] rfl rfl (cell_one_at _ _ _ _ (by simp)) (by simp [Value.oneCell']) (by unfold maxLen; omega) (by omega) (by have := hB.size; have := hKB1.size; simp only [World.size_alloc]; omega) ?_; intro v' w2 hown' hgrow hgone; clear hgone; obtain ⟨g', cap', rfl⟩ := ownsRow_succ hown'; obtain ⟨b1, bk, bb, bv2, br2, bc2⟩ := appended_beside hV1 hR1 hA1 (by decide) (by decide) (by have := hB.size; have := hKB1.size; omega) (by omega) (by omega) hown' hgrow; have q1 := b1.cell; have q2 := b1.frozen)
        refine ⟨(hKO1.trans bk).from _, hKB1.trans bb, ⟨⟨⟨_, bv2, ?_, trivial⟩, ?_, ((hBB1.alloc _).kept hgrow (hBB1.not_row (by decide) hR1)).other hneW' _⟩, hB.trans (hKB1.trans bb)⟩⟩
        · rw [hn.out, u32s_snoc, ← e1.out]
          simpa using br2
        · rw [hn.out, ← e2.out]
          exact bc2
    · have hy0 : y ≤ 0 := by rw [← hyy, List.getElem?_eq_none hky]; exact Nat.le_refl _
      clear hyy hx hy hr hr'
      rcases Nat.lt_or_ge 0 c with hc0 | hc0
      · rcases Nat.lt_or_ge a c with hneg | hneg
        · have e1 := Lib.hid (show (((a : Int) - c) + 4294967296 : Int) = (((a + 4294967296 - y - c) % 4294967296 : Nat) : Int) from by omega)
          have e2 := Lib.hid (show (1 : Int) = ((1 - (a + 4294967296 - y - c) / 4294967296 : Nat) : Int) from by omega)
          gi_wp2_with (gi_at_builtin; refine wpListIn_append_own _ rfl _ _ 24 rfl w.heap.size 40 i0 (.int .u32 0) 1 4 Tryd.underlying24 hi hz0 hz1 hz2 rfl (by decide) _ _ _ rfl (hR2.alloc _) ⟨W.heap.size, 0, none⟩ 1 1 [_] rfl rfl (cell_one_at _ _ _ _ (by simp)) (by simp [Value.oneCell']) (by unfold maxLen; omega) (by omega) (by have := hB.size; have := hKB2.size; simp only [World.size_alloc]; omega) ?_; intro v' w2 hown' hgrow hgone; clear hgone; obtain ⟨g', cap', rfl⟩ := ownsRow_succ hown'; obtain ⟨b1, bk, bb, bv2, br2, bc2⟩ := appended_beside hV2 hR2 hA2 (by decide) (by decide) (by have := hB.size; have := hKB2.size; omega) (by omega) (by omega) hown' hgrow; have q1 := b1.cell; have q2 := b1.frozen)
          refine ⟨(hKO2.trans bk).from _, hKB2.trans bb, ⟨⟨⟨_, bv2, ?_, trivial⟩, ?_, ((hBB2.alloc _).kept hgrow (hBB2.not_row (by decide) hR2)).other hneW' _⟩, hB.trans (hKB2.trans bb)⟩⟩
          · rw [hn.out, u32s_snoc, ← e1.out]
            simpa using br2
          · rw [hn.out, ← e2.out]
            exact bc2
        · have e1 := Lib.hid (show ((a : Int) - c : Int) = (((a + 4294967296 - y - c) % 4294967296 : Nat) : Int) from by omega)
          have e2 := Lib.hid (show (0 : Int) = ((1 - (a + 4294967296 - y - c) / 4294967296 : Nat) : Int) from by omega)
          gi_wp2_with (gi_at_builtin; refine wpListIn_append_own _ rfl _ _ 24 rfl w.heap.size 40 i0 (.int .u32 0) 1 4 Tryd.underlying24 hi hz0 hz1 hz2 rfl (by decide) _ _ _ rfl (hR1.alloc _) ⟨W.heap.size, 0, none⟩ 1 1 [_] rfl rfl (cell_one_at _ _ _ _ (by simp)) (by simp [Value.oneCell']) (by unfold maxLen; omega) (by omega) (by have := hB.size; have := hKB1.size; simp only [World.size_alloc]; omega) ?_; intro v' w2 hown' hgrow hgone; clear hgone; obtain ⟨g', cap', rfl⟩ := ownsRow_succ hown'; obtain ⟨b1, bk, bb, bv2, br2, bc2⟩ := appended_beside hV1 hR1 hA1 (by decide) (by decide) (by have := hB.size; have := hKB1.size; omega) (by omega) (by omega) hown' hgrow; have q1 := b1.cell; have q2 := b1.frozen)
          refine ⟨(hKO1.trans bk).from _, hKB1.trans bb, ⟨⟨⟨_, bv2, ?_, trivial⟩, ?_, ((hBB1.alloc _).kept hgrow (hBB1.not_row (by decide) hR1)).other hneW' _⟩, hB.trans (hKB1.trans bb)⟩⟩
          · rw [hn.out, u32s_snoc, ← e1.out]
            simpa using br2
          · rw [hn.out, ← e2.out]
            exact bc2
      · have e1 := Lib.hid (show ((a : Int) : Int) = (((a + 4294967296 - y - c) % 4294967296 : Nat) : Int) from by omega)
        have e2 := Lib.hid (show (0 : Int) = ((1 - (a + 4294967296 - y - c) / 4294967296 : Nat) : Int) from by omega)
        gi_wp2_with (gi_at_builtin; refine wpListIn_append_own _ rfl _ _ 24 rfl w.heap.size 40 i0 (.int .u32 0) 1 4 Tryd.underlying24 hi hz0 hz1 hz2 rfl (by decide) _ _ _ rfl (hR1.alloc _) ⟨W.heap.size, 0, none⟩ 1 1 [_] rfl rfl (cell_one_at _ _ _ _ (by simp)) (by simp [Value.oneCell']) (by unfold maxLen; omega) (by omega) (by have := hB.size; have := hKB1.size; simp only [World.size_alloc]; omega) ?_; intro v' w2 hown' hgrow hgone; clear hgone; obtain ⟨g', cap', rfl⟩ := ownsRow_succ hown'; obtain ⟨b1, bk, bb, bv2, br2, bc2⟩ := appended_beside hV1 hR1 hA1 (by decide) (by decide) (by have := hB.size; have := hKB1.size; omega) (by omega) (by omega) hown' hgrow; have q1 := b1.cell; have q2 := b1.frozen)
        refine ⟨(hKO1.trans bk).from _, hKB1.trans bb, ⟨⟨⟨_, bv2, ?_, trivial⟩, ?_, ((hBB1.alloc _).kept hgrow (hBB1.not_row (by decide) hR1)).other hneW' _⟩, hB.trans (hKB1.trans bb)⟩⟩
        · rw [hn.out, u32s_snoc, ← e1.out]
          simpa using br2
        · rw [hn.out, ← e2.out]
          exact bc2
  case done =>
    rintro D ys' W hD rfl ⟨⟨⟨v, hv, hrow, _⟩, _, _⟩, hB⟩ hK
    have hok := subTo_ok xs ys (List.finRange xs.length)
    have hval := subTo_all hr.limbs hr'.limbs hl hvv
    generalize (subTo xs ys (List.finRange xs.length)).2 = out at *
    obtain ⟨_, ok2, ok3⟩ := hok
    have HV := Lib.hid hval
    have hv1 := hv.cell
    have hvs : ∃ A' cap', v = .slice A' out.length cap' := by
      rcases hrow.2 with ⟨rfl, h0⟩ | ⟨g, cap, cur, rfl, _⟩
      · exact ⟨none, 0, by rw [h0]⟩
      · exact ⟨_, cap, rfl⟩
    obtain ⟨Av, capv, rfl⟩ := hvs
    have ct := tidy_own hrow ok2
    clear ok3 hval hx hy
    gi_wp2_with fail
    refine (wided hF ct).mono ?_
    rintro e w' ⟨⟨v', rfl, hv'⟩, hww⟩
    subst hww
    rw [HV.out, HFT.out] at hv'
    have HO' := Lib.hid (ownsRow_putObj hv' (.deferred none) hK rfl)
    have HB' := Lib.hid (hB.trans (belowK_b (w := w) (Nat.le_refl _) _ D _ (.deferred none) (by simp at hD; omega) hK rfl rfl))
    clear hv' ct hrow hv hv1
    gi_wp2
    refine ⟨by simp, .inl ⟨_, _, rfl, run_takeDeferred hK, ?_⟩⟩
    exact ⟨_, results_tmp2 rfl _ _ _, ⟨v', rfl, HO'.out⟩, HB'.out⟩
  case stop =>
    rintro D c pre W _ _ h _
    exact h.elim

end Go.Proofs.YtileljokijmpaaaDoor

/- Contracts: Sub, Low. -/
namespace Go.Proofs.YtileljokijmpaaaDoor
open Go.RowKit Go.Shelf

attribute [local go_sem] Oper.semAt_some

set_option maxHeartbeats 1000000 in
theorem sub_any (A A' : Option Addr) (cap cap' : Nat) (xs ys : List Nat) (w : World) (hr : Rd w w.heap.size A xs) (hr' : Rd w w.heap.size A' ys) (hc : xs.length ≤ maxLen) (hc' : ys.length ≤ maxLen) :
    Calls Tryd.prog 9 #[.slice A xs.length cap, .slice A' ys.length cap'] w fun e w' => (∃ v, e = .returned (.tuple #[v, .bool (sSubOk xs ys)]) ∧ Own w' w.heap.size v (sSub xs ys)) ∧ Below w.heap.size w w' := by
  have r1 := rd_below_alloc hr (.cells #[.slice A' ys.length cap'] 24)
  have r2 := rd_below_alloc hr' (.cells #[.slice A' ys.length cap'] 24)
  by_cases hx : mayb xs = true
  · by_cases hy : mayb ys = true
    · rcases Nat.lt_or_ge (val xs) (val ys) with h | h
      · have hok : sSubOk xs ys = false := by unfold sSubOk; simp [hx, hy]; omega
        have hs := Lib.hid (sSub_no hok)
        have hcm : sCmp xs ys = -1 := by rw [sCmp_yes (by simp [hx, hy]), cmpN_lt h]
        have c1 := may_yes cap r1 hc hx
        have c2 := may_yes cap' r2 hc' hy
        have c3 := cmp_any A A' cap cap' xs ys _ _ r1 r2 hc hc'
        rw [hcm] at c3
        rw [hok]
        clear hx hy hc hc' hok hcm r1 r2
        go_enter Tryd.func9, Tryd.ntmps9
        go_wp2_with fail
        refine c1.mono ?_
        rintro e w' ⟨rfl, rfl⟩
        go_wp2_with fail
        refine c2.mono ?_
        rintro e w' ⟨rfl, hw⟩
        subst hw
        go_wp2_with fail
        refine c3.mono ?_
        rintro e w' ⟨rfl, nq, hw⟩
        subst hw
        clear c1 c2 c3
        go_wp2
        go_ret2
        have hB := (Below.refl w.heap.size w).alloc (Nat.le_refl _) (.cells #[.slice A' ys.length cap'] 24)
        exact ⟨⟨_, rfl, by rw [hs.out]; exact Own.nil _ _⟩, ⟨hB.os, hB.tape, hB.output, hB.size, hB.block⟩⟩
      · have hok : sSubOk xs ys = true := by unfold sSubOk; simp [hx, hy, h]
        rw [sSub_yes hok, hok]
        exact (callsIn_wide (n := 8)).1 (sub_loop Fence.wide 8 rfl rfl (by omega) A A' cap cap' xs ys w hr hr' hx hy h)
    · have hok : sSubOk xs ys = false := by unfold sSubOk; simp [hy]
      have hs := Lib.hid (sSub_no hok)
      have c1 := may_yes cap r1 hc hx
      have c2 := may_no cap' r2 hc' (by simpa using hy)
      rw [hok]
      clear hx hy hc hc' hok r1 r2
      go_enter Tryd.func9, Tryd.ntmps9
      go_wp2_with fail
      refine c1.mono ?_
      rintro e w' ⟨rfl, rfl⟩
      go_wp2_with fail
      refine c2.mono ?_
      rintro e w' ⟨rfl, hw⟩
      subst hw
      clear c1 c2
      go_wp2
      go_ret2
      exact ⟨⟨_, rfl, by rw [hs.out]; exact Own.nil _ _⟩, (Below.refl _ w).alloc (Nat.le_refl _) _⟩
  · have hok : sSubOk xs ys = false := by unfold sSubOk; simp [hx]
    have hs := Lib.hid (sSub_no hok)
    have c1 := may_no cap r1 hc (by simpa using hx)
    rw [hok]
    clear hx hc hc' hok r1 r2
    go_enter Tryd.func9, Tryd.ntmps9
    go_wp2_with fail
    refine c1.mono ?_
    rintro e w' ⟨rfl, hw⟩
    subst hw
    clear c1
    go_wp2
    go_ret2
    exact ⟨⟨_, rfl, by rw [hs.out]; exact Own.nil _ _⟩, (Below.refl _ w).alloc (Nat.le_refl _) _⟩

/-! ### Low -/
def sLowOk (xs : List Nat) : Bool := mayb xs && decide (xs.length ≤ 2)
def sLow (xs : List Nat) : Nat := if sLowOk xs then val xs else 0
theorem sLow_no {xs : List Nat} (h : sLowOk xs = false) : sLow xs = 0 := by unfold sLow; rw [h]; rfl
theorem sLow_yes {xs : List Nat} (h : sLowOk xs = true) : sLow xs = val xs := by unfold sLow; rw [h]; rfl

/-- the rounds: what u is; whatever order places come in -/
def lowStep (xs : List Nat) (u : Nat) (j : Fin xs.length) : Nat := u ||| xs[j.1]?.getD 0 * 2 ^ (32 * j.1) % 18446744073709551616
def lowTo (xs : List Nat) (pre : List (Fin xs.length)) : Nat := pre.foldl (lowStep xs) 0
theorem lowTo_snoc (xs : List Nat) (pre : List (Fin xs.length)) (j : Fin xs.length) : lowTo xs (pre ++ [j]) = lowStep xs (lowTo xs pre) j := by simp [lowTo]
theorem low_0 {xs : List Nat} {pre : List (Fin xs.length)} {c a : Nat} {hk : 0 < xs.length} (hA : lowTo xs (pre ++ [⟨0, hk⟩]) = lowStep xs c ⟨0, hk⟩) (hX : xs[0]?.getD 0 = a) (hc : c < 18446744073709551616) (ha : a < 18446744073709551616) :
    bits BinOp.or IntKind.u64 (c : Int) (a : Int) = ((lowTo xs (pre ++ [⟨0, hk⟩]) : Nat) : Int) := by
  rw [u64_or_nat c a hc ha, hA]
  unfold lowStep
  simp only [hX, Nat.mul_zero, Nat.pow_zero, Nat.mul_one, Nat.mod_eq_of_lt ha]
theorem low_1 {xs : List Nat} {pre : List (Fin xs.length)} {c a : Nat} {hk : 1 < xs.length} (hA : lowTo xs (pre ++ [⟨1, hk⟩]) = lowStep xs c ⟨1, hk⟩) (hX : xs[1]?.getD 0 = a) (hc : c < 18446744073709551616) (ha : a < 4294967296) :
    bits BinOp.or IntKind.u64 (c : Int) ((a : Int) * 4294967296) = ((lowTo xs (pre ++ [⟨1, hk⟩]) : Nat) : Int) := by
  have e : (a : Int) * 4294967296 = ((a * 4294967296 : Nat) : Int) := by omega
  have hl : a * 4294967296 < 18446744073709551616 := by omega
  rw [e, u64_or_nat c _ hc hl, hA]
  unfold lowStep
  simp only [hX, Nat.mul_one, show (2 : Nat) ^ 32 = 4294967296 from rfl, Nat.mod_eq_of_lt hl]
theorem lowTo_lt (xs : List Nat) (pre : List (Fin xs.length)) : lowTo xs pre < 18446744073709551616 := by
  have : ∀ (pre : List (Fin xs.length)) (u : Nat), u < 18446744073709551616 → pre.foldl (lowStep xs) u < 18446744073709551616 := by
    intro pre
    induction pre with
    | nil => exact fun u h => h
    | cons j r ih =>
      intro u h
      rw [List.foldl_cons]
      refine ih _ ?_
      unfold lowStep
      exact Nat.or_lt_two_pow (n := 64) h (Nat.mod_lt _ (by decide))
  exact this pre 0 (by decide)
theorem lowTo_all {xs : List Nat} (h : Limbs xs) (hl : xs.length ≤ 2) : lowTo xs (List.finRange xs.length) = val xs := by
  match xs, h, hl with
  | [], _, _ => rfl
  | [x], h, _ =>
    have := h.head
    simp [lowTo, lowStep, List.finRange, val]
    omega
  | [x, y], h, _ =>
    have h1 := h.head
    have h2 := h.tail.head
    have e : (List.finRange [x, y].length) = [⟨0, by simp⟩, ⟨1, by simp⟩] := rfl
    rw [e]
    simp only [lowTo, lowStep, List.foldl_cons, List.foldl_nil, val, Nat.mul_zero, Nat.pow_zero, Nat.mul_one, Nat.zero_or, List.getElem?_cons_zero, List.getElem?_cons_succ, Option.getD_some, Nat.add_zero]
    rw [Nat.mod_eq_of_lt (by omega), Nat.mod_eq_of_lt (show y * 2 ^ 32 < 18446744073709551616 from by omega), Nat.or_comm, nat_join 32 (y * 2 ^ 32) x (Nat.mul_mod_left _ _) h1]
    omega
  | _ :: _ :: _ :: _, _, hl => simp at hl

set_option maxRecDepth 100000 in
set_option maxHeartbeats 4000000 in
theorem low_loop (F : Fence) (n : Nat) (hF : Hid (F = Fence.wide)) (hro : F.round = none) (hn : 8 ≤ n) (A : Option Addr) (cap : Nat) (xs : List Nat) (w : World) (hr : Rd w w.heap.size A xs) (hx : mayb xs = true) (hl : xs.length ≤ 2) :
    CallsIn F n Tryd.prog 52 #[.slice A xs.length cap] w fun e w' => e = .returned (.tuple #[.int .u64 (val xs : Nat), .bool true]) ∧ Below w.heap.size w w' := by
  have h1 : 1 ≤ n := by omega
  have c1 := may_yes cap hr (by unfold maxLen; omega) hx
  have hf22 := wide_fn hF 24
  have hf36 := wide_fn hF 26
  have hf42 := wide_fn hF 40
  refine callsIn_of_wp_marks Tryd.func52 rfl (wide_fn hF _) ?_ hro
  simp only [Tryd.ntmps52, List.size_toArray, List.length_cons, List.length_nil, Nat.reduceAdd, Nat.reduceSub, Array.replicate_succ, Array.replicate_zero, List.push_toArray, List.append_toArray, List.nil_append, List.cons_append]
  gi_wp2_with fail
  refine (wided hF c1).mono ?_
  rintro e w' ⟨rfl, hw⟩
  obtain rfl := hw.symm
  clear c1
  gi_wp2_with fail
  refine (limbs_in F _ hf36 hro _ _ _ _).mono ?_
  rintro e w' ⟨rfl, rfl⟩
  have bU := Boxed.new w 26 (.int .u64 0)
  have bN := Boxed.new (w.alloc (.cells #[.int .u64 0] 26)) 24 (.slice A xs.length cap)
  simp only [World.size_alloc] at bN
  have hB3 : Below w.heap.size w ((w.alloc (.cells #[.int .u64 0] 26)).alloc (.cells #[.slice A xs.length cap] 24)) := ((Below.refl _ w).alloc (Nat.le_refl _) _).alloc (by simp) _
  gi_wp2_with fail
  refine wpIn_rangeFunc_ownG hro h1 (gf := 40) (lb := #[.pointer (some ⟨w.heap.size + 1, 0, none⟩)]) rfl hf42 (enters_of Tryd.func40 (by kernel_rfl) rfl)
    (limbs_stops F (n - 1) hf42 hro (by omega) (w.heap.size + 1) w.heap.size A cap xs (by unfold maxLen; omega) _ (by simp) (by simp; omega) bN.cell (hr.below hB3 (Nat.le_refl _))) belowK_t (belowK_b (by simp; omega)) (Below.refl _ _) (fun _ => rfl)
    (fun pre W => Boxed W w.heap.size 26 (.int .u64 (lowTo xs pre : Nat)) ∧ Below w.heap.size w W)
    (fun _ _ _ => False)
    (OwnFrom.and (Own.from (boxed_own w.heap.size 26 (fun pre => .int .u64 (lowTo xs pre : Nat))) _) (ownFrom_below (Nat.le_refl _) (by simp; omega)))
    (fun _ _ _ _ _ hs _ _ => hs)
    ⟨bU.alloc _, hB3⟩
    ?a₁ ?assign ?body ?done ?stop
  case assign =>
    intro l x W K hK
    gi_wp2
    exact hK
  case body =>
    rintro l pre ⟨k, hk⟩ W ⟨hv, hB⟩ hlt
    have hA := Lib.hid (lowTo_snoc xs pre ⟨k, hk⟩)
    have hxk := hr.limbs.getD k
    unfold tells
    dsimp only
    generalize hcc : lowTo xs pre = c at *
    generalize haa : xs[k]?.getD 0 = a at *
    have HX := Lib.hid haa
    have hv1 := hv.cell
    have hv2 := hv.frozen
    have hcl : c < 18446744073709551616 := by rw [← hcc]; exact lowTo_lt xs pre
    clear hcc haa
    have hk2 : k = 0 ∨ k = 1 := by omega
    have t1 : IntKind.u64.wrap (a : Int) = a := IntWalk.u64_in _ (by omega)
    have t2 : IntKind.i64.wrap 0 = 0 := rfl
    have t3 : IntKind.i64.wrap 32 = 32 := rfl
    rcases hk2 with rfl | rfl
    · have e1 := Lib.hid (low_0 hA.out HX.out hcl (by omega))
      gi_wp2_with fail
      gi_region
      all_goals gi_wp2
      all_goals (refine ⟨((KeepsOthers.setCell _ _ _).trans (KeepsOthers.drew _)).from _, ((Below.refl _ W).setCell (p := ⟨w.heap.size, 0, none⟩) (Nat.le_refl _) _).drew, ?_, (hB.setCell (p := ⟨w.heap.size, 0, none⟩) (Nat.le_refl _) _).drew⟩; rw [← e1.out]; exact hv.set _)
    · have e1 := Lib.hid (low_1 hA.out HX.out hcl hxk)
      have t4 : IntKind.u64.wrap ((a : Int) * 4294967296) = (a : Int) * 4294967296 := IntWalk.u64_in _ (by omega)
      gi_wp2_with fail
      gi_region
      all_goals gi_wp2
      all_goals (refine ⟨((KeepsOthers.setCell _ _ _).trans (KeepsOthers.drew _)).from _, ((Below.refl _ W).setCell (p := ⟨w.heap.size, 0, none⟩) (Nat.le_refl _) _).drew, ?_, (hB.setCell (p := ⟨w.heap.size, 0, none⟩) (Nat.le_refl _) _).drew⟩; rw [← e1.out]; exact hv.set _)
  case done =>
    rintro D ys' W hD rfl ⟨hv, hB⟩ hK
    rw [lowTo_all hr.limbs hl] at hv
    have hv1 := hv.cell
    have HB' := Lib.hid (hB.trans (belowK_b (w := w) (Nat.le_refl _) _ D _ (.deferred none) (by simp at hD; omega) hK rfl rfl))
    clear hx
    gi_wp2
    refine ⟨by simp, .inl ⟨_, _, rfl, run_takeDeferred hK, ?_⟩⟩
    exact ⟨_, results_tmp2 rfl _ _ _, rfl, HB'.out⟩
  case stop =>
    rintro D c pre W _ _ h _
    exact h.elim

set_option maxHeartbeats 1000000 in
theorem low_any (A : Option Addr) (cap : Nat) (xs : List Nat) (w : World) (hr : Rd w w.heap.size A xs) (hc : xs.length ≤ maxLen) :
    Calls Tryd.prog 52 #[.slice A xs.length cap] w fun e w' => e = .returned (.tuple #[.int .u64 (sLow xs : Nat), .bool (sLowOk xs)]) ∧ Below w.heap.size w w' := by
  by_cases hx : mayb xs = true
  · by_cases hl : xs.length ≤ 2
    · have hok : sLowOk xs = true := by unfold sLowOk; simp [hx, hl]
      rw [sLow_yes hok, hok]
      exact (callsIn_wide (n := 8)).1 (low_loop Fence.wide 8 rfl rfl (by omega) A cap xs w hr hx hl)
    · have hok : sLowOk xs = false := by unfold sLowOk; simp [hl]
      have c1 := may_yes cap hr hc hx
      rw [sLow_no hok, hok]
      clear hx hc hok
      go_enter Tryd.func52, Tryd.ntmps52
      go_wp2_with fail
      refine c1.mono ?_
      rintro e w' ⟨rfl, hw⟩
      obtain rfl := hw.symm
      clear c1
      go_wp2
      go_ret2
      exact ⟨rfl, Below.refl _ _⟩
  · have hok : sLowOk xs = false := by unfold sLowOk; simp [hx]
    have c1 := may_no cap hr hc (by simpa using hx)
    rw [sLow_no hok, hok]
    clear hx hc hok
    go_enter Tryd.func52, Tryd.ntmps52
    go_wp2_with fail
    refine c1.mono ?_
    rintro e w' ⟨rfl, hw⟩
    obtain rfl := hw.symm
    clear c1
    go_wp2
    go_ret2
    exact ⟨rfl, Below.refl _ _⟩

end Go.Proofs.YtileljokijmpaaaDoor

/- Contract: Shl. -/
namespace Go.Proofs.YtileljokijmpaaaDoor
open Go.RowKit Go.Shelf

attribute [local go_sem] Oper.semAt_some

def sShl (xs : List Nat) (k : Int) : List Nat := if mayb xs && decide (0 ≤ k) then clip (val xs * 2 ^ k.toNat) else []

/-! ### the rounds, as a fold -/
def shlSum (xs : List Nat) (r c j : Nat) : Nat := xs[j]?.getD 0 * 2 ^ r + c
def shlStep (xs : List Nat) (r : Nat) (st : Nat × List Nat) (j : Fin xs.length) : Nat × List Nat := (shlSum xs r st.1 j.1 / 4294967296, st.2 ++ [shlSum xs r st.1 j.1 % 4294967296])
def shlTo (xs : List Nat) (r q : Nat) (pre : List (Fin xs.length)) : Nat × List Nat := pre.foldl (shlStep xs r) (0, List.replicate q 0)
theorem shlTo_snoc (xs : List Nat) (r q : Nat) (pre : List (Fin xs.length)) (j : Fin xs.length) : shlTo xs r q (pre ++ [j]) = shlStep xs r (shlTo xs r q pre) j := by simp [shlTo]
theorem pow31 {r : Nat} (hr : r < 32) : 2 ^ r ≤ 2147483648 := by
  have : (2 : Nat) ^ r ≤ 2 ^ 31 := Nat.pow_le_pow_right (by decide) (by omega)
  exact this
theorem shl_bound {a r c : Nat} (ha : a < 4294967296) (hr : r < 32) (hc : c ≤ 2147483648) : a * 2 ^ r + c ≤ 9223372036854775808 := by
  have h1 := pow31 hr
  have h2 : a * 2 ^ r ≤ 4294967295 * 2147483648 := Nat.mul_le_mul (by omega) h1
  omega
theorem shlTo_from {xs : List Nat} (hx : Limbs xs) {r : Nat} (hr : r < 32) : ∀ (pre : List (Fin xs.length)) (st : Nat × List Nat), st.1 ≤ 2147483648 → Limbs st.2 →
    (pre.foldl (shlStep xs r) st).1 ≤ 2147483648 ∧ Limbs (pre.foldl (shlStep xs r) st).2 ∧ (pre.foldl (shlStep xs r) st).2.length = st.2.length + pre.length
  | [], st, h, k => ⟨h, k, rfl⟩
  | j :: t, st, h, k => by
    have hb := shl_bound (hx.getD j.1) hr h
    have := shlTo_from hx hr t (shlStep xs r st j) (by unfold shlStep shlSum; show _ / 4294967296 ≤ _; omega) (by unfold shlStep; exact k.append (Limbs.one (Nat.mod_lt _ (by decide))))
    rw [List.foldl_cons]
    refine ⟨this.1, this.2.1, this.2.2.trans ?_⟩
    simp [shlStep]
    omega
theorem shlTo_ok {xs : List Nat} (hx : Limbs xs) {r : Nat} (hr : r < 32) (q : Nat) (pre : List (Fin xs.length)) : (shlTo xs r q pre).1 ≤ 2147483648 ∧ Limbs (shlTo xs r q pre).2 ∧ (shlTo xs r q pre).2.length = q + pre.length := by
  have := shlTo_from hx hr pre (0, List.replicate q 0) (by simp) (limbs_replicate q)
  simpa [shlTo] using this
theorem shlTo_val (xs : List Nat) (r q : Nat) : ∀ {k : Nat} (hk : k ≤ xs.length), val (shlTo xs r q (upTo k hk)).2 + 4294967296 ^ (q + k) * (shlTo xs r q (upTo k hk)).1 = 4294967296 ^ q * (2 ^ r * val (xs.take k)) ∧ (shlTo xs r q (upTo k hk)).2.length = q + k := by
  intro k
  induction k with
  | zero => intro _; simp [shlTo, upTo, val, val_replicate]
  | succ k ih =>
    intro hk
    obtain ⟨h1, h2⟩ := ih (Nat.le_of_lt hk)
    rw [upTo_succ hk, shlTo_snoc]
    generalize shlTo xs r q (upTo k (Nat.le_of_lt hk)) = st at h1 h2
    obtain ⟨c, out⟩ := st
    simp only [shlStep] at h1 h2 ⊢
    refine ⟨?_, by simp [h2]; omega⟩
    rw [val_snoc, h2, val_take_succ]
    have hs : shlSum xs r c k = xs[k]?.getD 0 * 2 ^ r + c := rfl
    have hd := Nat.mod_add_div (shlSum xs r c k) 4294967296
    generalize shlSum xs r c k = s at hs hd ⊢
    have e1 : 4294967296 ^ (q + (k + 1)) = 4294967296 ^ (q + k) * 4294967296 := by rw [← Nat.add_assoc, Nat.pow_succ]
    rw [e1, Nat.mul_assoc, Nat.add_assoc, ← Nat.mul_add, hd, hs, Nat.mul_add, Nat.mul_add (2 ^ r), Nat.mul_add (4294967296 ^ q), ← h1]
    have e2 : 4294967296 ^ (q + k) * (xs[k]?.getD 0 * 2 ^ r) = 4294967296 ^ q * (2 ^ r * (4294967296 ^ k * xs[k]?.getD 0)) := by
      rw [Nat.pow_add, Nat.mul_assoc]; congr 1; rw [Nat.mul_comm (xs[k]?.getD 0), ← Nat.mul_assoc, Nat.mul_comm (4294967296 ^ k), Nat.mul_assoc]
    rw [e2]
    omega
theorem shlTo_all (xs : List Nat) (k : Nat) : val ((shlTo xs (k % 32) (k / 32) (List.finRange xs.length)).2 ++ [(shlTo xs (k % 32) (k / 32) (List.finRange xs.length)).1]) = val xs * 2 ^ k := by
  obtain ⟨h1, h2⟩ := shlTo_val xs (k % 32) (k / 32) (Nat.le_refl xs.length)
  rw [upTo_all] at h1 h2
  rw [val_snoc, h2, h1, List.take_of_length_le (Nat.le_refl _)]
  have : (2 : Nat) ^ k = 4294967296 ^ (k / 32) * 2 ^ (k % 32) := by rw [show (4294967296 : Nat) = 2 ^ 32 from rfl, ← Nat.pow_mul, ← Nat.pow_add, Nat.div_add_mod]
  rw [this, ← Nat.mul_assoc, Nat.mul_comm (val xs)]
theorem shl_next {xs : List Nat} {pre : List (Fin xs.length)} {r q j a c : Nat} {out : List Nat} {hk : j < xs.length} (hA : shlTo xs r q (pre ++ [⟨j, hk⟩]) = shlStep xs r (shlTo xs r q pre) ⟨j, hk⟩)
    (h1 : (shlTo xs r q pre).1 = c) (h2 : (shlTo xs r q pre).2 = out) (h3 : xs[j]?.getD 0 = a) : shlTo xs r q (pre ++ [⟨j, hk⟩]) = ((a * 2 ^ r + c) / 4294967296, out ++ [(a * 2 ^ r + c) % 4294967296]) := by
  rw [hA]
  unfold shlStep shlSum
  rw [h1, h2, h3]

/-- a make of so many, with room for more -/
theorem make_rowN {P : Program} (t e : TypeId) (i : TypeInfo) (z : Value) (ht : P.underlying t = some (.slice e)) (hi : P.info? e = some i) (hz : i.zero = some z)
    (n c : Nat) (hnc : n ≤ c) (hbytes : i.bytes * c ≤ 281474976710656) (h63 : c ≤ 9223372036854775807) (w : World) :
    (Instr.makeSlice t (.int .i64 (n : Int)) (.int .i64 (c : Int))).run P w = .ok (.slice (some ⟨w.heap.size, 0, none⟩) n c) (w.alloc (.cells (madeCells z.cells (c * i.size)) e)) := by
  have hb : (i.bytes : Int) * (c : Int) ≤ 281474976710656 := by
    have h : ((i.bytes * c : Nat) : Int) ≤ 281474976710656 := by omega
    rwa [Int.natCast_mul] at h
  have hr := run_make (P := P) w t e i z ht hi hz .i64 .i64 n c (by omega) (by omega) hb (by omega)
  simp only [Int.toNat_natCast] at hr
  exact hr
theorem Rd.drewN {w : World} {B : Nat} {A : Option Addr} {xs : List Nat} (h : Rd w B A xs) (n : Nat) : Rd (w.drewN n) B A xs := h
/-- a piece of code that comes to one end alone -/
theorem wpIn_one {F : Fence} {n : Nat} {P : Program} {c : Code} {Q : Exit → Act → World → Prop} {a A : Act} {w w1 : World} (h : c.wpIn F n P (fun e a' w' => e = Exit.normal ∧ a' = A ∧ w' = w1) a w) (hq : Q .normal A w1) : c.wpIn F n P Q a w :=
  wpIn_mono h fun e a' w' ⟨h1, h2, h3⟩ => by subst h1 h2 h3; exact hq
theorem wpIn_of_wide {F : Fence} (hF : Hid (F = Fence.wide)) {n : Nat} {P : Program} {c : Code} {Q : Exit → Act → World → Prop} {a : Act} {w : World} (h : c.wp P Q a w) : c.wpIn F n P Q a w := by
  have := hF.out
  subst this
  exact wpIn_wide.2 h

set_option maxRecDepth 100000 in
set_option maxHeartbeats 4000000 in
theorem shl_loop (F : Fence) (n : Nat) (hF : Hid (F = Fence.wide)) (hro : F.round = none) (hn : 8 ≤ n) (A : Option Addr) (cap : Nat) (xs : List Nat) (k : Nat) (w : World) (hr : Rd w w.heap.size A xs)
    (hx : mayb xs = true) (h0 : 0 < xs.length) (hk : k + sBits xs ≤ 2097152) :
    CallsIn F n Tryd.prog 68 #[.slice A xs.length cap, .int .i64 (k : Int)] w fun e w' => (∃ v, e = .returned v ∧ Own w' w.heap.size v (clip (val xs * 2 ^ k))) ∧ Below w.heap.size w w' := by
  have h1 : 1 ≤ n := by omega
  have hxm := (mayb_iff.1 hx).1
  obtain ⟨i0, hi, hz0, hz1, hz2⟩ := info_parts info32
  have hB0 : Below w.heap.size w (w.alloc (.cells #[.int .i64 (k : Int)] 3)) := (Below.refl _ w).alloc (Nat.le_refl _) _
  have c1 := fun nn => may_yes cap ((hr.below hB0 (Nat.le_refl _)).drewN nn) (by unfold maxLen; omega) hx
  have c2 := fun nn => bits_any A cap xs _ _ ((hr.below hB0 (Nat.le_refl _)).drewN nn) (by unfold maxLen; omega)
  have hf36 := wide_fn hF 26
  have hf37 := wide_fn hF 23
  have hf42 := wide_fn hF 40
  have hz : (((xs.length : Nat) : Int) == 0) = false := beq_eq_false_iff_ne.2 (by omega)
  have hk0 : decide ((k : Int) < 0) = false := decide_eq_false (by omega)
  have hk1 : decide ((2097152 : Int) - (sBits xs : Nat) < (k : Int)) = false := decide_eq_false (by omega)
  refine callsIn_of_wp_marks Tryd.func68 rfl (wide_fn hF _) ?_ hro
  simp only [Tryd.ntmps68, List.size_toArray, List.length_cons, List.length_nil, Nat.reduceAdd, Nat.reduceSub, Array.replicate_succ, Array.replicate_zero, List.push_toArray, List.append_toArray, List.nil_append, List.cons_append]
  have HC1 := Lib.hid c1
  have HC2 := Lib.hid c2
  clear c1 c2
  gi_wp2_with fail
  refine wpIn_of_wide hF ?_
  go_quiet ((first | (go_at_call 24; exact Calls.quiet_of_same (HC1.out _)) | (go_at_call 35; exact Calls.quiet_of_same (HC2.out _))))
  obtain ⟨wB, hwB⟩ : ∃ wB, (w.alloc (.cells #[.int .i64 (k : Int)] 3)).drewN nq = wB := ⟨_, rfl⟩
  have hBB : Below w.heap.size w wB := by rw [← hwB]; exact ⟨hB0.os, hB0.tape, hB0.output, hB0.size, hB0.block⟩
  have bK : Boxed wB w.heap.size 3 (.int .i64 (k : Int)) := by rw [← hwB]; exact Boxed.new w _ _
  have hszB : wB.heap.size = w.heap.size + 1 := by rw [← hwB]; exact World.size_alloc _ _
  have hkc := bK.cell
  have hkle : k ≤ 2097152 := by omega
  have hmk := make_rowN (P := Tryd.prog) 24 40 i0 (.int .u32 0) Tryd.underlying24 hi hz0 (k / 32) (k / 32 + xs.length + 1) (by omega) (by rw [hz2]; omega) (by omega)
  have emk : (((k / 32 + xs.length + 1 : Nat)) : Int) = (k : Int) / 32 + xs.length + 1 := by omega
  have emk2 : (((k / 32 : Nat)) : Int) = (k : Int) / 32 := by omega
  rw [emk, emk2] at hmk
  clear emk emk2 HC1 HC2
  rw [hwB]
  clear hwB
  gi_wp2_with fail
  obtain ⟨w1, hw1⟩ : ∃ w1, wB.alloc (.cells (madeCells #[.int .u32 0] (k / 32 + xs.length + 1)) 40) = w1 := ⟨_, rfl⟩
  rw [hw1]
  have hs1 : w1.heap.size = w.heap.size + 1 + 1 := by rw [← hw1, World.size_alloc, hszB]
  have hB1 : Below w.heap.size w w1 := by rw [← hw1]; exact hBB.alloc (by omega) _
  have bK1 : Boxed w1 w.heap.size 3 (.int .i64 (k : Int)) := by rw [← hw1]; exact bK.alloc _
  have hown0 : w1.ownsRow w.heap.size 40 1 (.slice (some ⟨w.heap.size + 1, 0, none⟩) (k / 32) (k / 32 + xs.length + 1)) (List.replicate (k / 32) 0).length (u32s (List.replicate (k / 32) 0)) := by
    rw [← hw1]
    refine ⟨by simp [u32s], .inr ⟨w.heap.size + 1, k / 32 + xs.length + 1, madeCells #[.int .u32 0] (k / 32 + xs.length + 1), by simp, by omega, ?_, by simp; omega, by unfold maxLen; omega, by simp [size_madeCells], ?_⟩⟩
    · have := World.alloc_heap_new wB (.cells (madeCells #[.int .u32 0] (k / 32 + xs.length + 1)) 40)
      rwa [hszB] at this
    · rw [toList_madeCells_one, List.take_replicate]
      simp [u32s, lv]
      omega
  refine (limbs_in F _ hf36 hro _ _ _ _).mono ?_
  rintro e w' ⟨rfl, rfl⟩
  clear hw1 bK hmk hkc hszB hBB
  have bO := Boxed.new w1 24 (.slice (some ⟨w.heap.size + 1, 0, none⟩) (k / 32) (k / 32 + xs.length + 1))
  have bC := Boxed.new (w1.alloc (.cells #[.slice (some ⟨w.heap.size + 1, 0, none⟩) (k / 32) (k / 32 + xs.length + 1)] 24)) 26 (.int .u64 0)
  have bN := Boxed.new ((w1.alloc (.cells #[.slice (some ⟨w.heap.size + 1, 0, none⟩) (k / 32) (k / 32 + xs.length + 1)] 24)).alloc (.cells #[.int .u64 0] 26)) 24 (.slice A xs.length cap)
  simp only [World.size_alloc, hs1] at bO bC bN
  have hB3 : Below w.heap.size w (((w1.alloc (.cells #[.slice (some ⟨w.heap.size + 1, 0, none⟩) (k / 32) (k / 32 + xs.length + 1)] 24)).alloc (.cells #[.int .u64 0] 26)).alloc (.cells #[.slice A xs.length cap] 24)) :=
    ((hB1.alloc (by omega) _).alloc (by simp; omega) _).alloc (by simp; omega) _
  have hO := Lib.hid (((hown0.alloc (.cells #[.slice (some ⟨w.heap.size + 1, 0, none⟩) (k / 32) (k / 32 + xs.length + 1)] 24)).alloc (.cells #[.int .u64 0] 26)).alloc (.cells #[.slice A xs.length cap] 24))
  have hKx := Lib.hid (((bK1.alloc (.cells #[.slice (some ⟨w.heap.size + 1, 0, none⟩) (k / 32) (k / 32 + xs.length + 1)] 24)).alloc (.cells #[.int .u64 0] 26)).alloc (.cells #[.slice A xs.length cap] 24))
  have hOx := Lib.hid ((bO.alloc (.cells #[.int .u64 0] 26)).alloc (.cells #[.slice A xs.length cap] 24))
  have hCx := Lib.hid (bC.alloc (.cells #[.slice A xs.length cap] 24))
  have HS := Lib.hid hs1
  clear bK1 bO bC hown0 hs1
  gi_wp2_with fail
  refine wpIn_rangeFunc_ownG hro h1 (gf := 40) (lb := #[.pointer (some ⟨w.heap.size + 1 + 1 + 1 + 1, 0, none⟩)]) (by simp [HS.out]; rfl) hf42 (enters_of Tryd.func40 (by kernel_rfl) rfl)
    (limbs_stops F (n - 1) hf42 hro (by omega) (w.heap.size + 1 + 1 + 1 + 1) w.heap.size A cap xs (by unfold maxLen; omega) _ (by simp [HS.out]) (by simp [HS.out]; omega) bN.cell (hr.below hB3 (Nat.le_refl _))) belowK_t (belowK_b (by simp [HS.out]; omega)) (Below.refl _ _) (fun _ => rfl)
    (fun pre W => ((∃ v, Boxed W (w.heap.size + 1 + 1) 24 v ∧ W.ownsRow w.heap.size 40 1 v (shlTo xs (k % 32) (k / 32) pre).2.length (u32s (shlTo xs (k % 32) (k / 32) pre).2) ∧ True) ∧ Boxed W (w.heap.size + 1 + 1 + 1) 26 (.int .u64 ((shlTo xs (k % 32) (k / 32) pre).1 : Nat)) ∧ Boxed W w.heap.size 3 (.int .i64 (k : Int))) ∧ Below w.heap.size w W)
    (fun _ _ _ => False)
    (OwnFrom.and (OwnFrom.and (Own.from (holdsRow_own w.heap.size (w.heap.size + 1 + 1) 24 40 1 (fun pre => (shlTo xs (k % 32) (k / 32) pre).2.length) (fun pre => u32s (shlTo xs (k % 32) (k / 32) pre).2) (fun _ _ => True)) _)
      (OwnFrom.and (Own.from (boxed_own (w.heap.size + 1 + 1 + 1) 26 (fun pre => .int .u64 ((shlTo xs (k % 32) (k / 32) pre).1 : Nat))) _) (Own.from (boxed_own w.heap.size 3 (fun _ => .int .i64 (k : Int))) _)))
      (ownFrom_below (Nat.le_refl _) (by simp [HS.out]; omega)))
    (fun _ _ _ _ _ hs _ _ => hs)
    ⟨⟨⟨_, hOx.out, by simpa [shlTo] using hO.out, trivial⟩, hCx.out, hKx.out⟩, hB3⟩
    ?a₁ ?assign ?body ?done ?stop
  case assign =>
    intro l x W K hK
    gi_wp2
    exact hK
  case body =>
    rintro l pre ⟨j, hj⟩ W ⟨⟨⟨v, hv, hrow, _⟩, hcar, hbb⟩, hB⟩ hlt
    have hA := Lib.hid (shlTo_snoc xs (k % 32) (k / 32) pre ⟨j, hj⟩)
    have hok := shlTo_ok hr.limbs (r := k % 32) (by omega) (k / 32) pre
    have hxk := hr.limbs.getD j
    unfold tells
    dsimp only
    generalize hcc : (shlTo xs (k % 32) (k / 32) pre).1 = c at *
    generalize hoo : (shlTo xs (k % 32) (k / 32) pre).2 = out at *
    generalize haa : xs[j]?.getD 0 = a at *
    have HC := Lib.hid hcc
    have HO := Lib.hid hoo
    have HX := Lib.hid haa
    clear hcc hoo haa
    have hc1 := hcar.cell
    have hc2 := hcar.frozen
    have hb1 := hbb.cell
    have hv1 := hv.cell
    have hv2 := hv.frozen
    obtain ⟨ok1, ok2, ok3⟩ := hok
    have HOK := Lib.hid ok3
    have hol : out.length ≤ 131072 := by omega
    clear ok3 hx hr
    have hn := Lib.hid (shl_next hA.out HC.out HO.out HX.out)
    have t1 : IntKind.u64.wrap (a : Int) = a := IntWalk.u64_in _ (by omega)
    have hrl : k % 32 < 32 := by omega
    have t2 : ((k : Nat) : Int).tmod 32 = ((k % 32 : Nat) : Int) := by rw [Int.tmod_eq_emod_of_nonneg (by omega)]; omega
    generalize k % 32 = r at *
    have r0 : (0 : Int) ≤ r := by omega
    have t3 : (a : Int) * 2 ^ r = ((a * 2 ^ r : Nat) : Int) := by simp
    have hab := shl_bound hxk hrl ok1
    have hn' := hn.out
    generalize hm : a * 2 ^ r = m at *
    have HM := Lib.hid hm
    have HT := Lib.hid t3
    clear hm t3
    have t4 : IntKind.u64.wrap ((a : Int) * 2 ^ r) = (m : Int) := by rw [HT.out]; exact IntWalk.u64_in _ (by omega)
    have t5 : IntKind.u64.wrap ((m : Int) + (c : Int)) = (m : Int) + c := IntWalk.u64_in _ (by omega)
    have HN := Lib.hid hn'
    clear hn' hn
    gi_wp2_with fail
    apply wpIn_one (w1 := W.drew)
    case h =>
      gi_region
      all_goals exact ⟨rfl, rfl, rfl⟩
    clear t1 t2 t4 t5 hc1 hc2 hb1 hv1 hv2
    obtain ⟨Wd, hWd⟩ : ∃ Wd, W.drew = Wd := ⟨_, rfl⟩
    rw [hWd]
    have hkd : KeepsOthers W Wd := by rw [← hWd]; exact KeepsOthers.drew _
    have hbd : Below w.heap.size W Wd := by rw [← hWd]; exact (Below.refl _ W).drew
    replace hv : Boxed Wd (w.heap.size + 1 + 1) 24 v := by rw [← hWd]; exact hv
    replace hrow : Wd.ownsRow w.heap.size 40 1 v out.length (u32s out) := by rw [← hWd]; exact hrow
    replace hcar : Boxed Wd (w.heap.size + 1 + 1 + 1) 26 (.int .u64 (c : Nat)) := by rw [← hWd]; exact hcar
    replace hbb : Boxed Wd w.heap.size 3 (.int .i64 (k : Int)) := by rw [← hWd]; exact hbb
    replace hB : Below w.heap.size w Wd := hB.trans hbd
    clear hWd
    have hc1 := hcar.cell
    have hc2 := hcar.frozen
    have hv1 := hv.cell
    have hv2 := hv.frozen
    have e1 := Lib.hid (show (((m : Int) + c) % 4294967296 : Int) = (((m + c) % 4294967296 : Nat) : Int) from by omega)
    have e2 := Lib.hid (show (((m : Int) + c) / 4294967296 : Int) = (((m + c) / 4294967296 : Nat) : Int) from by omega)
    gi_wp2_with (gi_at_builtin; refine wpListIn_append_own _ rfl _ _ 24 rfl w.heap.size 40 i0 (.int .u32 0) 1 4 Tryd.underlying24 hi hz0 hz1 hz2 rfl (by decide) _ _ _ rfl (hrow.alloc _) ⟨Wd.heap.size, 0, none⟩ 1 1 [_] rfl rfl (cell_one_new _ _ _) (by simp [Value.oneCell']) (by unfold maxLen; omega) (by omega) (by have := hB.size; simp; omega) ?_; intro v' w2 hown' hgrow hgone; clear hgone; obtain ⟨g', cap', rfl⟩ := ownsRow_succ hown'; obtain ⟨b1, b2, b3⟩ := round_kept hv hrow hcar (by decide) (by decide) hB.size (by omega) (by omega) (by omega) hown' hgrow; have q1 := b1.cell; have q2 := b1.frozen; have q3 := b2.cell; have q4 := b2.frozen)
    refine ⟨(hkd.trans (b3 _).1).from _, hbd.trans (b3 _).2.1, ⟨⟨⟨_, (b3 _).2.2.1, ?_, trivial⟩, ?_, round_box hbb hrow (by decide) (by omega) (by omega) hgrow⟩, hB.trans (b3 _).2.1⟩⟩
    · have h := (b3 (.int .u64 (((m : Int) + c) / 4294967296))).2.2.2.1
      rw [HN.out, u32s_snoc, ← e1.out]
      simpa using h
    · have h := (b3 (.int .u64 (((m : Int) + c) / 4294967296))).2.2.2.2
      rw [HN.out, ← e2.out]
      exact h
  case done =>
    rintro D ys' W hD rfl ⟨⟨⟨v, hv, hrow, _⟩, hcar, _⟩, hB⟩ hK
    have hok := shlTo_ok hr.limbs (r := k % 32) (by omega) (k / 32) (List.finRange xs.length)
    have hval := shlTo_all xs k
    generalize (shlTo xs (k % 32) (k / 32) (List.finRange xs.length)).1 = c at *
    generalize (shlTo xs (k % 32) (k / 32) (List.finRange xs.length)).2 = out at *
    obtain ⟨ok1, ok2, ok3⟩ := hok
    have hol : out.length ≤ 131072 := by rw [ok3]; simp; omega
    have HV := Lib.hid hval
    have hlz : Limbs (out ++ [c]) := ok2.append (Limbs.one (by omega))
    have hc1 := hcar.cell
    have hv1 := hv.cell
    have hDs : w.heap.size ≤ D := by simp [HS.out] at hD; omega
    clear ok3 hval hx hk0 hk1 hz
    gi_wp2_with (gi_at_builtin; refine wpListIn_append_own _ rfl _ _ 24 rfl w.heap.size 40 i0 (.int .u32 0) 1 4 Tryd.underlying24 hi hz0 hz1 hz2 rfl (by decide) _ _ _ rfl (hrow.alloc _) ⟨W.heap.size, 0, none⟩ 1 1 [_] rfl rfl (cell_one_new _ _ _) (by simp [Value.oneCell']) (by unfold maxLen; omega) (by omega) (by have := hB.size; simp; omega) ?_; intro v' w2 hown' hgrow hgone; clear hgone; obtain ⟨g', cap', rfl⟩ := ownsRow_succ hown')
    have hown2 : w2.ownsRow w.heap.size 40 1 (.slice (some ⟨g', 0, none⟩) (out.length + 1) cap') (out.length + 1) (u32s (out ++ [c])) := by rw [u32s_snoc]; exact hown'
    obtain ⟨hk2, hb2⟩ := appended_plain hrow hB.size hgrow
    have hK2 := hk2.same D _ hK rfl
    refine (wided hF (tidy_own hown2 hlz)).mono ?_
    rintro e w' ⟨⟨v', rfl, hv'⟩, hww⟩
    subst hww
    clear hown' hgrow hown2
    gi_wp2
    refine ⟨by simp, .inl ⟨_, _, rfl, run_takeDeferred hK2, ?_⟩⟩
    refine ⟨_, results_tmp rfl _ _ _, ⟨v', rfl, ?_⟩, (hB.trans hb2).trans (belowK_b (w := w) (Nat.le_refl _) _ D _ _ hDs hK2 rfl rfl)⟩
    rw [HV.out] at hv'
    exact ownsRow_putObj hv' _ hK2 rfl
  case stop =>
    rintro D c pre W _ _ h _
    exact h.elim

end Go.Proofs.YtileljokijmpaaaDoor

/- A range over a function whose rounds are told by their places: what round k is told is f k; its body never leaves. (A law of my own, out of the library's statement law: there the body must serve whatever value comes; here it serves round k's alone.) -/
namespace Go.Proofs.YtileljokijmpaaaDoor
open Go.RowKit Go.Shelf

/-- An iterator that tells f 0, .., f (N - 1), to whatever rounds keep what lay below n₀. -/
def TellsAt (F : Fence) (n : Nat) (P : Program) (g : Nat) (lb : Array Value) (f : Nat → Array Value) (N n₀ : Nat) (w : World) : Prop :=
  ∀ (l : Nat) (J : Nat → World → Prop) (W : World), Below w.heap.size w W →
    (∀ k W1, J k W1 → k < N → YieldAt F (n - 1) P l (f k) W1 fun e W' => e = .returned (.bool true) ∧ J (k + 1) W' ∧ Below n₀ W1 W') →
    J 0 W → CallsIn F n P g (#[.func (.yield l) #[] #[]] ++ lb) W fun e W' => (∃ v, e = .returned v) ∧ J N W'

/-- What a round leaves. -/
def RoundLeaves (B n₀ : Nat) (I : World → Prop) (W : World) (e : Exit) (_ : Act) (W' : World) : Prop := e = .normal ∧ KeepsFrom B W W' ∧ Below n₀ W W' ∧ I W'

theorem range_at {F : Fence} {n : Nat} {P : Program} {g : Operand} {ps : Array Tmp} {assign body : Code} {Q : Exit → Act → World → Prop} {a : Act} {w : World}
    (hro : F.round = none) (h1 : 1 ≤ n) {gf : Nat} {lb : Array Value} (hg : a.eval g = .func (.func gf) #[] lb) (hFg : F.fn gf) (eg : ∀ args w, (callFunc gf args).run P w = .ok (.enter gf args) w)
    {f : Nat → Array Value} {N n₀ : Nat} {w0 : World} (hseq : TellsAt F (n - 1) P gf lb f N n₀ w0) (hb0 : Below w0.heap.size w0 w) (hps : ∀ k, (f k).size = ps.size) (hn₀ : n₀ ≤ w.heap.size)
    (I : Nat → World → Prop) (hI : OwnFrom w.heap.size I) (h0 : I 0 w) (a₁ : Nat → Act)
    (hassign : ∀ (l k : Nat) (W : World) (K : Act → World → Prop), K (a₁ k) W →
      assign.wpIn (F.inRound l) (n - 1 - 1) P (Exit.then K (fun _ _ _ => False)) { tmps := (ps.zip (f k)).foldl (fun t (p, v) => t.setIfInBounds p v) a.tmps, defers := [] } W)
    (hbody : ∀ (l k : Nat) (W : World), I k W → k < N → body.wpIn (F.inRound l) (n - 1 - 1) P (RoundLeaves w.heap.size n₀ (I (k + 1)) W) (a₁ k) W)
    (hdone : ∀ (D : Nat) (W : World), w.heap.size ≤ D → I N W → W.heap[D]? = some (.deferred (some [])) → Q .normal { a with defers := { target := .collected D, args := #[] } :: a.defers } W) :
    (Code.rangeFunc g ps assign body).wpIn F n P Q a w := by
  refine wpIn_rangeFunc fun fn hfn => ?_
  rw [hro]
  -- the loop's record, ready and busy; the block for deferred calls lies at w.heap.size, the record behind it
  let R : LoopState → Loop := fun st => { state := st, pending := none, fn, tmps := a.tmps, params := ps, assign, body, defers := w.heap.size }
  let W1 : World := (w.alloc (.deferred (some []))).alloc (.loop (R .ready))
  have hsz : W1.heap.size = w.heap.size + 1 + 1 := by simp [W1]
  have rec0 : W1.heap[w.heap.size + 1]? = some (.loop (R .ready)) := by
    have := World.alloc_heap_new (w.alloc (.deferred (some []))) (.loop (R .ready))
    rwa [World.size_alloc] at this
  have def0 : W1.heap[w.heap.size]? = some (.deferred (some [])) := (Below.heap_alloc _ _ _ (by simp)).trans (World.alloc_heap_new w _)
  have below0 : Below w0.heap.size w0 W1 := hb0.trans ((((Below.refl _ w).alloc (Nat.le_refl _) _).alloc (by simp) _).mono hb0.size)
  have busy : ∀ {W : World}, W.heap[w.heap.size + 1]? = some (.loop (R .ready)) → Below n₀ W (W.putObj (w.heap.size + 1) (.loop (R .busy))) := fun h => belowK_b hn₀ _ _ _ _ (by omega) h rfl rfl
  have ready : ∀ {W : World}, W.heap[w.heap.size + 1]? = some (.loop (R .busy)) → Below n₀ W (W.putObj (w.heap.size + 1) (.loop (R .ready))) := fun h => belowK_b hn₀ _ _ _ _ (by omega) h rfl rfl
  refine ⟨w.heap.size + 1, [{ target := .collected w.heap.size, args := #[] }], W1, { target := .fn (.func gf) lb, args := #[.func (.yield (w.heap.size + 1)) #[] #[]] }, W1, gf,
    #[.func (.yield (w.heap.size + 1)) #[] #[]] ++ lb, W1, run_enterLoop_outer _ _ _ _ _, ?_, fun g' hg' => ?_, ?_, fun _ => h1, ?_⟩
  · simp only [resolve, hg]; simp [go_sem]
  · simp [Target.leads] at hg'; subst hg'; exact hFg
  · simp [invoke, go_sem, eg]
  refine (hseq (w.heap.size + 1) (fun k W => I k W ∧ W.heap[w.heap.size + 1]? = some (.loop (R .ready)) ∧ W.heap[w.heap.size]? = some (.deferred (some []))) W1 below0 ?_ ⟨hI.alloc _ (hI.alloc _ h0), rec0, def0⟩).mono ?_
  · rintro k W ⟨hi, hl, hk⟩ hlt
    have hin : w.heap.size + 1 < W.heap.size := (Array.getElem?_eq_some_iff.1 hl).1
    refine ⟨fn, _, assign, body, run_yield (P := P) (args := f k) hl (hps k), roundIn_of_wpIn hfn (hassign _ k W _ ⟨_, run_beginRound hl rfl, ?_⟩)⟩
    refine wpIn_mono (hbody _ k _ (hI.putObj _ hi (by omega) hl rfl) hlt) ?_
    rintro e a' W3 ⟨rfl, hk3, hb3, hi3⟩
    have hl3 : W3.heap[w.heap.size + 1]? = some (.loop (R .busy)) := hk3.same _ _ (by omega) (World.putObj_heap_same hin) rfl
    have hd3 : W3.heap[w.heap.size]? = some (.deferred (some [])) := hk3.same _ _ (Nat.le_refl _) ((World.putObj_heap_other (by omega)).trans hk) rfl
    refine ⟨_, _, run_endRound (P := P) none hl3, rfl, ⟨hI.putObj _ hi3 (by omega) hl3 rfl, World.putObj_heap_same (Array.getElem?_eq_some_iff.1 hl3).1, (World.putObj_heap_other (by omega)).trans hd3⟩, ((busy hl).trans hb3).trans (ready hl3)⟩
  · rintro e W2 ⟨⟨v, rfl⟩, hi, hl, hk⟩
    exact ⟨none, _, run_endLoop (P := P) hl (by simp [R]), hdone _ _ (Nat.le_refl _) (hI.putObj _ hi (by omega) hl rfl) ((World.putObj_heap_other (by omega)).trans hk)⟩

end Go.Proofs.YtileljokijmpaaaDoor

/- Contract: limbs, by places; Shr. -/
namespace Go.Proofs.YtileljokijmpaaaDoor
open Go.RowKit Go.Shelf

attribute [local go_sem] Oper.semAt_some

/-- What round k is told. -/
def tellAt (xs : List Nat) (k : Nat) : Array Value := #[.int .i64 (k : Int), .int .u32 ((xs[k]?.getD 0 : Nat) : Int)]

set_option maxRecDepth 100000 in
set_option maxHeartbeats 2000000 in
theorem limbs2_in (F : Fence) (n : Nat) (h8 : F.fn 40) (hro : F.round = none) (hn : 1 ≤ n) (l Bs n₀ b off cap len : Nat) (xs : List Nat) (hlen : Hid (len = xs.length)) (hreach : len ≤ maxLen) (hlim : Limbs xs) (hb : b < n₀) (J : Nat → World → Prop)
    (hY : ∀ k W, J k W → k < len → YieldAt F (n - 1) Tryd.prog l (tellAt xs k) W fun e W' => e = .returned (.bool true) ∧ J (k + 1) W' ∧ Below n₀ W W')
    (W : World) (hBs : W.cell? ⟨Bs, 0, none⟩ = some (.slice (some ⟨b, off, none⟩) len cap)) (hc : ∀ j, j < len → W.cell? ⟨b, off + j, none⟩ = some (.int .u32 ((xs[j]?.getD 0 : Nat) : Int))) (h0 : J 0 W) :
    CallsIn F n Tryd.prog 40 #[.func (.yield l) #[] #[], .pointer (some ⟨Bs, 0, none⟩)] W fun e W' => (∃ v, e = .returned v) ∧ J len W' := by
  unfold maxLen at hreach
  refine callsIn_of_wp Tryd.func40 rfl h8 ?_ hro
  simp only [Tryd.ntmps40, List.size_toArray, List.length_cons, List.length_nil, Nat.reduceAdd, Nat.reduceSub, Array.replicate_succ, Array.replicate_zero, List.push_toArray, List.append_toArray, List.nil_append, List.cons_append]
  gi_wp2
  gi_loopw [7] (fun i wr => ∃ (k : Nat), k ≤ len ∧ i = .int .i64 k ∧ J k wr ∧ Below n₀ W wr)
    (fun i _ => len - (intOf i).toNat)
  case atStart => exact ⟨0, Nat.zero_le _, rfl, h0, Below.refl _ _⟩
  case round =>
    obtain ⟨k, hk, rfl, hJs, hnx⟩ := hrel
    have hcx : k < len → wr.cell? ⟨b, off + k, none⟩ = some (.int .u32 ((xs[k]?.getD 0 : Nat) : Int)) := fun h => (hnx.cell (p := ⟨b, off + k, none⟩) hb).trans (hc k h)
    by_cases hlt : k < len
    · obtain ⟨fn, tmps, assign, body, hy, hR⟩ := hY k wr hJs hlt
      unfold tellAt at hy
      have hcx' := hcx hlt
      have hl := hlim.getD k
      gi_wp2
      refine hR.mono ?_
      rintro e W3 ⟨rfl, hJ3, hk3⟩
      gi_wp2
      go_roundw
      case rel => exact ⟨k + 1, by omega, by simp, hJ3, hnx.trans hk3⟩
      case measure => simp [intOf]; omega
    · obtain rfl : k = len := by omega
      gi_wp2
      go_end0
      exact ⟨⟨_, rfl⟩, hJs⟩

set_option maxRecDepth 100000 in
set_option maxHeartbeats 1000000 in
theorem limbs2_nil_in (F : Fence) (n : Nat) (h8 : F.fn 40) (hro : F.round = none) (l Bs : Nat) (A : Option Addr) (cap : Nat) (J : Nat → World → Prop) (W : World) (hBs : W.cell? ⟨Bs, 0, none⟩ = some (.slice A 0 cap)) (h0 : J 0 W) :
    CallsIn F n Tryd.prog 40 #[.func (.yield l) #[] #[], .pointer (some ⟨Bs, 0, none⟩)] W fun e W' => (∃ v, e = .returned v) ∧ J 0 W' := by
  refine callsIn_of_wp Tryd.func40 rfl h8 ?_ hro
  simp only [Tryd.ntmps40, List.size_toArray, List.length_cons, List.length_nil, Nat.reduceAdd, Nat.reduceSub, Array.replicate_succ, Array.replicate_zero, List.push_toArray, List.append_toArray, List.nil_append, List.cons_append]
  gi_wp2
  gi_loopw [7] (fun i wr => i = .int .i64 0 ∧ J 0 wr) (fun _ _ => 0)
  case atStart => exact ⟨rfl, h0⟩
  case round =>
    obtain ⟨rfl, hJs⟩ := hrel
    gi_wp2
    go_end0
    exact ⟨⟨_, rfl⟩, hJs⟩

theorem limbs_at (F : Fence) (n : Nat) (h8 : F.fn 40) (hro : F.round = none) (hn : 1 ≤ n) (Bs n₀ : Nat) (A : Option Addr) (cap : Nat) (xs : List Nat) (hreach : xs.length ≤ maxLen) (w : World) (hBs : Bs < w.heap.size) (hn₀ : n₀ ≤ w.heap.size)
    (hc : w.cell? ⟨Bs, 0, none⟩ = some (.slice A xs.length cap)) (hI : Rd w n₀ A xs) :
    TellsAt F n Tryd.prog 40 #[.pointer (some ⟨Bs, 0, none⟩)] (tellAt xs) xs.length n₀ w := fun l J W hW hY h0 => by
  have hc' := (hW.cell (p := ⟨Bs, 0, none⟩) hBs).trans hc
  have hI' := hI.below (hW.mono hn₀) (Nat.le_refl _)
  rcases Nat.eq_zero_or_pos xs.length with h | h
  · rw [h] at hc' ⊢
    exact limbs2_nil_in F n h8 hro l Bs A cap J W hc' h0
  · obtain ⟨b, off, rfl, hb, hcs⟩ := hI'.2 h
    exact limbs2_in F n h8 hro hn l Bs n₀ b off cap xs.length xs rfl hreach hI.limbs hb J hY W hc' hcs h0

/-! ### Shr -/
def sShr (xs : List Nat) (k : Int) : List Nat := if mayb xs && decide (0 ≤ k) then lim (val xs / 2 ^ k.toNat) else []

/-- What out is when i rounds are over. -/
def ShrOk (ys : List Nat) (r i : Nat) (out : List Nat) : Prop := Limbs out ∧ out.length = i ∧ val out = val (ys.take i) / 2 ^ r ∧ (0 < i → out[i - 1]?.getD 0 < 2 ^ (32 - r))

theorem pow32 {r : Nat} (hr : r < 32) : 2 ^ r * 2 ^ (32 - r) = 4294967296 := by rw [← Nat.pow_add, show r + (32 - r) = 32 from by omega]
theorem shr_zero (ys : List Nat) (r : Nat) : ShrOk ys r 0 [] := ⟨limbs_nil, rfl, by simp [val], fun h => by omega⟩
theorem shr_hi {y r : Nat} (hr : r < 32) : y * 2 ^ (32 - r) / 4294967296 = y / 2 ^ r := by
  rw [← pow32 hr, Nat.mul_div_mul_right _ _ (Nat.two_pow_pos _)]
theorem shr_first {ys : List Nat} {r : Nat} (hr : r < 32) (hy : Limbs ys) : ShrOk ys r 1 [ys[0]?.getD 0 / 2 ^ r] := by
  have h := hy.getD 0
  have hle : ys[0]?.getD 0 / 2 ^ r ≤ ys[0]?.getD 0 := Nat.div_le_self _ _
  refine ⟨Limbs.one (by omega), rfl, ?_, fun _ => ?_⟩
  · rw [val_take_succ]; simp [val]
  · simp only [Nat.sub_self, List.getElem?_cons_zero, Option.getD_some]
    exact (Nat.div_lt_iff_lt_mul (Nat.two_pow_pos r)).2 (by rw [Nat.mul_comm, pow32 hr]; exact h)
theorem val_set {xs : List Nat} {i x : Nat} (hi : i < xs.length) : val (xs.set i x) + 4294967296 ^ i * xs[i]?.getD 0 = val xs + 4294967296 ^ i * x := by
  induction xs generalizing i with
  | nil => simp at hi
  | cons y r ih =>
    cases i with
    | zero => simp [val]; omega
    | succ i =>
      have := ih (i := i) (by simpa using hi)
      simp only [List.set_cons_succ, val, List.getElem?_cons_succ]
      have h2 := congrArg (4294967296 * ·) this
      simp only [Nat.mul_add, ← Nat.mul_assoc, Nat.mul_comm 4294967296 (4294967296 ^ i)] at h2
      rw [Nat.pow_succ]
      omega
theorem Limbs.set {xs : List Nat} (h : Limbs xs) (i : Nat) {x : Nat} (hx : x < 4294967296) : Limbs (xs.set i x) := fun y hy => by
  rcases List.mem_or_eq_of_mem_set hy with h' | rfl
  · exact h y h'
  · exact hx
/-- the part below, added in, fits -/
theorem shr_fits {t y r : Nat} (hr : r < 32) (ht : t < 2 ^ (32 - r)) : t + y * 2 ^ (32 - r) % 4294967296 < 4294967296 := by
  rw [← pow32 hr, Nat.mul_mod_mul_right]
  have h1 : y % 2 ^ r < 2 ^ r := Nat.mod_lt _ (Nat.two_pow_pos r)
  have h2 : (y % 2 ^ r + 1) * 2 ^ (32 - r) ≤ 2 ^ r * 2 ^ (32 - r) := Nat.mul_le_mul_right _ h1
  rw [Nat.add_mul, Nat.one_mul] at h2
  omega
theorem shr_next {ys out : List Nat} {r i y t : Nat} (hr : r < 32) (h : ShrOk ys r (i + 1) out) (hy : ys[i + 1]?.getD 0 = y) (hyl : y < 4294967296) (ht : out[i]?.getD 0 = t) :
    ShrOk ys r (i + 2) (out.set i (t + y * 2 ^ (32 - r) % 4294967296) ++ [y / 2 ^ r]) := by
  obtain ⟨h1, h2, h3, h4⟩ := h
  have htl : t < 2 ^ (32 - r) := by rw [← ht]; exact h4 (by omega)
  have hf := shr_fits (y := y) hr htl
  have hhi : y / 2 ^ r < 4294967296 := Nat.lt_of_le_of_lt (Nat.div_le_self _ _) hyl
  refine ⟨(h1.set i hf).append (Limbs.one hhi), by simp [h2], ?_, fun _ => ?_⟩
  · have hs := val_set (xs := out) (i := i) (x := t + y * 2 ^ (32 - r) % 4294967296) (by omega)
    rw [ht, Nat.mul_add] at hs
    rw [val_snoc, List.length_set, h2]
    have e : val (List.take (i + 2) ys) = val (List.take (i + 1) ys) + 2 ^ r * (4294967296 ^ i * (y * 2 ^ (32 - r))) := by
      rw [val_take_succ, hy]
      congr 1
      rw [Nat.pow_succ, ← pow32 hr]
      generalize (2 ^ r * 2 ^ (32 - r)) ^ i = p
      rw [Nat.mul_comm (2 ^ r) (p * _), Nat.mul_assoc, Nat.mul_assoc p, Nat.mul_comm (y * _), ← Nat.mul_assoc (2 ^ r), Nat.mul_comm (2 ^ r) y, Nat.mul_assoc, Nat.mul_assoc]
      congr 1
      rw [Nat.mul_comm (2 ^ (32 - r)) y, ← Nat.mul_assoc, Nat.mul_comm (2 ^ r) y, Nat.mul_assoc]
    rw [e, Nat.add_mul_div_left _ _ (Nat.two_pow_pos r), ← h3]
    have hw := Nat.mod_add_div (y * 2 ^ (32 - r)) 4294967296
    rw [shr_hi hr] at hw
    have h5 : 4294967296 ^ i * (y * 2 ^ (32 - r)) = 4294967296 ^ i * (y * 2 ^ (32 - r) % 4294967296) + 4294967296 ^ (i + 1) * (y / 2 ^ r) := by
      conv => lhs; rw [← hw]
      rw [Nat.mul_add, Nat.pow_succ, Nat.mul_assoc]
    omega
  · rw [show i + 2 - 1 = i + 1 from rfl, List.getElem?_append_right (by simp [h2]), List.length_set, h2]
    simp only [Nat.sub_self, List.getElem?_cons_zero, Option.getD_some]
    exact (Nat.div_lt_iff_lt_mul (Nat.two_pow_pos r)).2 (by rw [Nat.mul_comm, pow32 hr]; exact hyl)
theorem val_drop {xs : List Nat} (h : Limbs xs) {q : Nat} (hq : q ≤ xs.length) : val (xs.drop q) = val xs / 4294967296 ^ q := by
  have h1 := val_lt (h.take q)
  rw [List.length_take, Nat.min_eq_left hq] at h1
  rw [val_split xs q, Nat.min_eq_left hq, Nat.add_mul_div_left _ _ (Nat.pow_pos (by decide)), Nat.div_eq_of_lt h1, Nat.zero_add]
theorem shr_all {xs out : List Nat} (h : Limbs xs) {k : Nat} (hk : k / 32 ≤ xs.length) (ho : ShrOk (xs.drop (k / 32)) (k % 32) (xs.drop (k / 32)).length out) : val out = val xs / 2 ^ k := by
  rw [ho.2.2.1, List.take_of_length_le (Nat.le_refl _), val_drop h hk, Nat.div_div_eq_div_mul]
  congr 1
  rw [show (4294967296 : Nat) = 2 ^ 32 from rfl, ← Nat.pow_mul, ← Nat.pow_add, Nat.div_add_mod]

end Go.Proofs.YtileljokijmpaaaDoor

/- Contract: Shr. -/
namespace Go.Proofs.YtileljokijmpaaaDoor
open Go.RowKit Go.Shelf

attribute [local go_sem] Oper.semAt_some

set_option maxRecDepth 100000 in
set_option maxHeartbeats 4000000 in
theorem shr_loop (F : Fence) (n : Nat) (hF : Hid (F = Fence.wide)) (hro : F.round = none) (hn : 8 ≤ n) (A : Option Addr) (cap : Nat) (xs : List Nat) (k : Nat) (w : World) (hr : Rd w w.heap.size A xs) (hlc : xs.length ≤ cap) (_hcm : cap ≤ maxLen)
    (hk : k < sBits xs) :
    CallsIn F n Tryd.prog 70 #[.slice A xs.length cap, .int .i64 (k : Int)] w fun e w' => (∃ v, e = .returned v ∧ Own w' w.heap.size v (lim (val xs / 2 ^ k))) ∧ Below w.heap.size w w' := by
  have h1 : 1 ≤ n := by omega
  have hx := sBits_may (xs := xs) (by omega)
  have hxm := (mayb_iff.1 hx).1
  have hq := sBits_le hr.limbs
  have hb := sBits_le' hr.limbs
  have hlk : k / 32 < xs.length := by omega
  obtain ⟨i0, hi, hz0, hz1, hz2⟩ := info_parts info32
  have hB0 : Below w.heap.size w (w.alloc (.cells #[.int .i64 (k : Int)] 3)) := (Below.refl _ w).alloc (Nat.le_refl _) _
  have c2 := fun nn => bits_any A cap xs _ _ ((hr.below hB0 (Nat.le_refl _)).drewN nn) (by unfold maxLen; omega)
  have HC2 := Lib.hid c2
  clear c2
  unfold maxLen at _hcm
  obtain ⟨b, off, rfl, hbw, hcell⟩ := hr.2 (by omega)
  -- what is kept
  have hrk : Rd w w.heap.size (some ⟨b, off + k / 32, none⟩) (xs.drop (k / 32)) := ⟨hr.limbs.drop _, fun _ => ⟨b, off + k / 32, rfl, hbw, fun j hj => by
    have := hcell (k / 32 + j) (by simp at hj; omega)
    rw [List.getElem?_drop, Nat.add_assoc, this]⟩⟩
  have HRK := Lib.hid hrk
  have hlen : (xs.drop (k / 32)).length = xs.length - k / 32 := List.length_drop
  have HLEN := Lib.hid hlen
  have hf36 := wide_fn hF 26
  have hf37 := wide_fn hF 23
  have hf42 := wide_fn hF 40
  have hk0 : decide ((k : Int) < 0) = false := decide_eq_false (by omega)
  have hk1 : decide (sBits xs ≤ k) = false := decide_eq_false (by omega)
  clear hcell hrk hlen
  refine callsIn_of_wp_marks Tryd.func70 rfl (wide_fn hF _) ?_ hro
  simp only [Tryd.ntmps70, List.size_toArray, List.length_cons, List.length_nil, Nat.reduceAdd, Nat.reduceSub, Array.replicate_succ, Array.replicate_zero, List.push_toArray, List.append_toArray, List.nil_append, List.cons_append]
  gi_wp2_with fail
  refine wpIn_of_wide hF ?_
  go_quiet (((go_at_call 35; exact Calls.quiet_of_same (HC2.out _))))
  obtain ⟨wB, hwB⟩ : ∃ wB, (w.alloc (.cells #[.int .i64 (k : Int)] 3)).drewN nq = wB := ⟨_, rfl⟩
  have hBB : Below w.heap.size w wB := by rw [← hwB]; exact ⟨hB0.os, hB0.tape, hB0.output, hB0.size, hB0.block⟩
  have bK : Boxed wB w.heap.size 3 (.int .i64 (k : Int)) := by rw [← hwB]; exact Boxed.new w _ _
  have hszB : Hid (wB.heap.size = w.heap.size + 1) := by rw [← hwB]; exact World.size_alloc _ _
  have hkc := bK.cell
  rw [hwB]
  clear hwB HC2 hB0
  obtain ⟨m, hm⟩ : ∃ m, xs.length - k / 32 = m := ⟨_, rfl⟩
  have hm1 : m ≤ 65536 := by omega
  have hm0 : 0 < m := by omega
  have HM := Lib.hid hm
  gi_wp2_with (gi_at_make; (simp only [HM.out]); refine wpListIn_make_own _ rfl _ _ 24 rfl w.heap.size 40 i0 (.int .u32 0) 1 Tryd.underlying24 hi hz0 hz1 .i64 .i64 _ m rfl rfl rfl (by rw [hz2]; omega) (by unfold maxLen; omega) hBB.size ?_; intro w1 hown0 hgrow0)
  refine (limbs_in F _ hf36 hro _ _ _ _).mono ?_
  rintro e w' ⟨rfl, rfl⟩
  have hB1 : Below w.heap.size w w1 := hBB.grown hgrow0 hBB.size (fun _ h => by cases h)
  have bK1 : Boxed w1 w.heap.size 3 (.int .i64 (k : Int)) := bK.kept hgrow0 (by simp)
  have hsz := bK1.lt
  have bO := Boxed.new w1 24 (.slice (some ⟨wB.heap.size, 0, none⟩) 0 m)
  have bN := Boxed.new (w1.alloc (.cells #[.slice (some ⟨wB.heap.size, 0, none⟩) 0 m] 24)) 24 (.slice (some ⟨b, off + k / 32, none⟩) m (cap - k / 32))
  simp only [World.size_alloc] at bN
  have hB3 : Below w.heap.size w ((w1.alloc (.cells #[.slice (some ⟨wB.heap.size, 0, none⟩) 0 m] 24)).alloc (.cells #[.slice (some ⟨b, off + k / 32, none⟩) m (cap - k / 32)] 24)) :=
    (hB1.alloc (by omega) _).alloc (by simp; omega) _
  have hO := Lib.hid ((hown0.alloc (.cells #[.slice (some ⟨wB.heap.size, 0, none⟩) 0 m] 24)).alloc (.cells #[.slice (some ⟨b, off + k / 32, none⟩) m (cap - k / 32)] 24))
  have hKx := Lib.hid ((bK1.alloc (.cells #[.slice (some ⟨wB.heap.size, 0, none⟩) 0 m] 24)).alloc (.cells #[.slice (some ⟨b, off + k / 32, none⟩) m (cap - k / 32)] 24))
  have hOx := Lib.hid (bO.alloc (.cells #[.slice (some ⟨b, off + k / 32, none⟩) m (cap - k / 32)] 24))
  clear bK1 bO hown0 hgrow0 bK hkc
  obtain ⟨ys, hys⟩ : ∃ ys, xs.drop (k / 32) = ys := ⟨_, rfl⟩
  have hyl : ys.length = m := by rw [← hys, HLEN.out, hm]
  have HYS := Lib.hid hys
  have hrk : Rd w w.heap.size (some ⟨b, off + k / 32, none⟩) ys := by rw [← hys]; exact HRK.out
  have HYL := Lib.hid hyl
  have hbn : ((w1.alloc (.cells #[.slice (some ⟨wB.heap.size, 0, none⟩) 0 m] 24)).alloc (.cells #[.slice (some ⟨b, off + k / 32, none⟩) m (cap - k / 32)] 24)).cell? ⟨w1.heap.size + 1, 0, none⟩ = some (.slice (some ⟨b, off + k / 32, none⟩) ys.length (cap - k / 32)) := by rw [hyl]; exact bN.cell
  clear hm hys hyl HRK HLEN bN
  gi_wp2_with fail
  refine range_at hro h1 (gf := 40) (lb := #[.pointer (some ⟨w1.heap.size + 1, 0, none⟩)]) rfl hf42 (enters_of Tryd.func40 (by kernel_rfl) rfl)
    (limbs_at F (n - 1) hf42 hro (by omega) (w1.heap.size + 1) w.heap.size _ (cap - k / 32) ys (by rw [HYL.out]; unfold maxLen; omega) _ (by simp) (by simp; omega) hbn (hrk.below hB3 (Nat.le_refl _))) (Below.refl _ _) (fun _ => rfl) (by simp; omega)
    (fun i W => ((∃ out, (∃ v, Boxed W w1.heap.size 24 v ∧ W.ownsRow w.heap.size 40 1 v out.length (u32s out) ∧ True) ∧ ShrOk ys (k % 32) i out) ∧ Boxed W w.heap.size 3 (.int .i64 (k : Int))) ∧ Below w.heap.size w W)
    (OwnFrom.and (OwnFrom.and (fun s X Y row ⟨out, h, ho⟩ hg hrw => ⟨out, (Own.from (holdsRow_own (β := Unit) w.heap.size w1.heap.size 24 40 1 (fun _ => out.length) (fun _ => u32s out) (fun _ _ => True)) _) () X Y row h hg hrw, ho⟩)
      (Own.from (boxed_own w.heap.size 3 (fun _ => .int .i64 (k : Int))) _))
      (ownFrom_below (Nat.le_refl _) (by simp; omega)))
    ⟨⟨⟨[], ⟨_, hOx.out, hO.out, trivial⟩, shr_zero ys _⟩, hKx.out⟩, hB3⟩
    ?a₁ ?assign ?body ?done
  case assign =>
    intro l x W K hK
    gi_wp2
    exact hK
  case body =>
    rintro l i W ⟨⟨⟨out, ⟨v, hv, hrow, _⟩, hok⟩, hbb⟩, hB⟩ hlt
    rw [HYL.out] at hlt
    have hyk := hrk.limbs.getD i
    unfold tellAt
    generalize hyy : ys[i]?.getD 0 = y at *
    have HY := Lib.hid hyy
    have hb1 := hbb.cell
    have hv1 := hv.cell
    have hv2 := hv.frozen
    clear hyy
    have hrl : k % 32 < 32 := by omega
    have hzz : y * 2 ^ (32 - k % 32) ≤ 18446744073709551615 := by
      have h2 : (2 : Nat) ^ (32 - k % 32) ≤ 2 ^ 32 := Nat.pow_le_pow_right (by decide) (by omega)
      have := Nat.mul_le_mul (show y ≤ 4294967295 from by omega) h2
      omega
    have hcast : (y : Int) * 2 ^ (32 - k % 32) = ((y * 2 ^ (32 - k % 32) : Nat) : Int) := by simp
    have hhi := Lib.hid (shr_hi (y := y) hrl)
    generalize hze : y * 2 ^ (32 - k % 32) = z at *
    have HZ := Lib.hid hze
    have t4 : IntKind.u64.wrap ((y : Int) * 2 ^ (32 - k % 32)) = (z : Int) := by rw [hcast]; exact IntWalk.u64_in _ (by omega)
    clear hze hcast
    rcases Nat.eq_zero_or_pos i with hi0 | hi0
    · subst hi0
      have ho0 : out = [] := List.eq_nil_of_length_eq_zero hok.2.1
      subst ho0
      replace hrow : W.ownsRow w.heap.size 40 1 v 0 [] := hrow
      gi_wp2_with (gi_at_builtin; refine wpListIn_append_own _ rfl _ _ 24 rfl w.heap.size 40 i0 (.int .u32 0) 1 4 Tryd.underlying24 hi hz0 hz1 hz2 rfl (by decide) _ _ _ rfl (hrow.alloc _) ⟨W.heap.size, 0, none⟩ 1 1 [_] rfl rfl (cell_one_new _ _ _) (by simp [Value.oneCell']) (by unfold maxLen; omega) (by omega) (by have := hB.size; simp; omega) ?_; intro v' w2 hown' hgrow hgone; clear hgone; obtain ⟨g', cap', rfl⟩ := ownsRow_succ hown'; obtain ⟨b1, b2, b3, b4, b5⟩ := hv.appended (by decide) hrow hB.size (by omega) hown' hgrow; have q1 := b1.cell; have q2 := b1.frozen)
      refine ⟨rfl, b4.from _, b5, ⟨⟨[y / 2 ^ (k % 32)], ⟨_, b2, ?_, trivial⟩, ?_⟩, (hbb.alloc _).kept hgrow (hbb.not_row (by decide) hrow) |>.other (by omega) _⟩, hB.trans b5⟩
      · rw [← hhi.out]
        simpa [u32s, lv] using b3
      · have := shr_first (ys := ys) hrl hrk.limbs
        rw [HY.out] at this
        exact this
    · obtain ⟨t, rfl⟩ : ∃ t, i = t + 1 := ⟨i - 1, by omega⟩
      have hol := hok.2.1
      obtain ⟨g, capv, rfl⟩ : ∃ g capv, v = .slice (some ⟨g, 0, none⟩) out.length capv := by
        rcases hrow.2 with ⟨_, h0⟩ | ⟨g, capv, cur, rfl, _⟩
        · omega
        · exact ⟨g, capv, rfl⟩
      have hgS : w.heap.size ≤ g := by
        rcases hrow.2 with ⟨h0, _⟩ | ⟨g', capv', cur, h0, hg, _⟩
        · cases h0
        · cases h0; exact hg
      have hcl : W.cell? ⟨g, t, none⟩ = some (.int .u32 ((out[t]?.getD 0 : Nat) : Int)) := by
        rw [hrow.cellAt t (by omega), u32s, List.getElem?_map, List.getElem?_eq_getElem (by omega)]
        rfl
      have hfz := hrow.frozenAt t
      have hfit := hok.2.2.2 (by omega)
      rw [Nat.add_sub_cancel] at hfit
      have hfits := shr_fits (y := y) hrl hfit
      rw [HZ.out] at hfits
      generalize htt : out[t]?.getD 0 = tt at *
      have HTT := Lib.hid htt
      have hst := hrow.stored t (.int .u32 ((tt : Int) + (z : Int) % 4294967296))
      have hR1 := hst.1
      have hV1 := hv.kept hst.2 (hv.not_row (by decide) hrow)
      have hK1 := hbb.kept hst.2 (hbb.not_row (by decide) hrow)
      have hko : KeepsOthers W (W.setCell ⟨g, t, none⟩ (.int .u32 ((tt : Int) + (z : Int) % 4294967296))) := KeepsOthers.setCell _ _ _
      have hb0 : Below w.heap.size W (W.setCell ⟨g, t, none⟩ (.int .u32 ((tt : Int) + (z : Int) % 4294967296))) := (Below.refl _ W).setCell (p := ⟨g, t, none⟩) hgS _
      have hv1' := hV1.cell
      have HOL := Lib.hid hol
      have hol2 : out.length ≤ 65536 := by omega
      have e32 : Hid ((tt : Int) + (z : Int) % 4294967296 = ((tt + z % 4294967296 : Nat) : Int)) := by show _ = _; omega
      have hti : ((t + 1 : Nat) : Int) - 1 = (t : Int) := by omega
      have htl : t < out.length := by omega
      clear hol htt hst hfit
      gi_wp2_with (gi_at_builtin; refine wpListIn_append_own _ rfl _ _ 24 rfl w.heap.size 40 i0 (.int .u32 0) 1 4 Tryd.underlying24 hi hz0 hz1 hz2 rfl (by decide) _ _ _ rfl (hR1.alloc _) ⟨W.heap.size, 0, none⟩ 1 1 [_] rfl rfl (cell_one_at _ _ _ _ (by simp)) (by simp [Value.oneCell']) (by unfold maxLen; omega) (by omega) (by have := hB.size; have := hb0.size; simp only [World.size_alloc]; omega) ?_; intro v' w2 hown' hgrow hgone; clear hgone; obtain ⟨g', cap', rfl⟩ := ownsRow_succ hown'; obtain ⟨b1, b2, b3, b4, b5⟩ := hV1.appended (by decide) hR1 (by have := hB.size; have := hb0.size; omega) (by omega) hown' hgrow; have q1 := b1.cell; have q2 := b1.frozen)
      refine ⟨rfl, (hko.trans b4).from _, hb0.trans b5, ⟨⟨out.set t (tt + z % 4294967296) ++ [y / 2 ^ (k % 32)], ⟨_, b2, ?_, trivial⟩, ?_⟩, (hK1.alloc _).kept hgrow (hK1.not_row (by decide) hR1) |>.other (by omega) _⟩, hB.trans (hb0.trans b5)⟩
      · rw [e32.out] at b3
        rw [← hhi.out]
        simpa [u32s, lv, List.map_set] using b3
      · have := shr_next hrl hok HY.out (by omega) HTT.out
        rw [HZ.out] at this
        exact this
  case done =>
    rintro D W hD ⟨⟨⟨out, ⟨v, hv, hrow, _⟩, hok⟩, _⟩, hB⟩ hK
    have hval := shr_all hr.limbs (k := k) (by omega) (out := out) (by rw [HYS.out]; exact hok)
    have HV := Lib.hid hval
    have hv1 := hv.cell
    obtain ⟨Av, capv, rfl⟩ : ∃ A' cap', v = .slice A' out.length cap' := by
      rcases hrow.2 with ⟨rfl, h0⟩ | ⟨g, cap, cur, rfl, _⟩
      · exact ⟨none, 0, by rw [h0]⟩
      · exact ⟨_, cap, rfl⟩
    have ct := tidy_own hrow hok.1
    have hfits : clip (val xs / 2 ^ k) = lim (val xs / 2 ^ k) := by
      refine clip_of (Nat.le_trans (lim_length_le.2 ?_) hxm)
      exact Nat.lt_of_le_of_lt (Nat.div_le_self _ _) (val_lt hr.limbs)
    have HFT := Lib.hid hfits
    clear hval hx hok hk0 hk1 hfits
    gi_wp2_with fail
    refine (wided hF ct).mono ?_
    rintro e w' ⟨⟨v', rfl, hv'⟩, hww⟩
    subst hww
    rw [HV.out, HFT.out] at hv'
    have HO' := Lib.hid (ownsRow_putObj hv' (.deferred none) hK rfl)
    have HB' := Lib.hid (hB.trans (belowK_b (w := w) (Nat.le_refl _) _ D _ (.deferred none) (by simp at hD; omega) hK rfl rfl))
    clear hv' ct hrow hv hv1
    gi_wp2
    refine ⟨by simp, .inl ⟨_, _, rfl, run_takeDeferred hK, ?_⟩⟩
    exact ⟨_, results_tmp rfl _ _ _, ⟨v', rfl, HO'.out⟩, HB'.out⟩

end Go.Proofs.YtileljokijmpaaaDoor

/- Contracts: Shl, Shr, whatever is handed in. -/
namespace Go.Proofs.YtileljokijmpaaaDoor
open Go.RowKit Go.Shelf

theorem sShl_no1 {xs : List Nat} {k : Int} (h : mayb xs = false) : sShl xs k = [] := by unfold sShl; rw [h]; rfl
theorem sShr_no1 {xs : List Nat} {k : Int} (h : mayb xs = false) : sShr xs k = [] := by unfold sShr; rw [h]; rfl
theorem sShl_no2 {xs : List Nat} {k : Int} (h : k < 0) : sShl xs k = [] := by unfold sShl; rw [decide_eq_false (by omega), Bool.and_false]; rfl
theorem clip_zero : clip 0 = [] := by unfold clip; rw [lim_zero]; rfl
theorem sShl_nil (k : Int) : sShl [] k = [] := by
  unfold sShl
  split
  · simp [val, clip_zero]
  · rfl
theorem sShl_yes {xs : List Nat} (h : mayb xs = true) (k : Nat) : sShl xs (k : Int) = clip (val xs * 2 ^ k) := by
  unfold sShl
  rw [h, decide_eq_true (by omega)]
  simp
theorem lim_len_blen {n k : Nat} : (lim n).length ≤ k ↔ blen n ≤ 32 * k := by
  rw [lim_length_le, blen_le, show (4294967296 : Nat) = 2 ^ 32 from rfl, ← Nat.pow_mul]
theorem sShl_over {xs : List Nat} (h : mayb xs = true) (hl : Limbs xs) (h0 : 0 < xs.length) {k : Nat} (hk : 2097152 < k + sBits xs) : sShl xs (k : Int) = [] := by
  rw [sShl_yes h, clip_not]
  intro hc
  have h3 := lim_len_blen.1 hc
  have hv : val xs ≠ 0 := by have := (mayb_canon hl h).val_pos (fun e => by subst e; simp at h0); omega
  have h2 := blen_shift (n := val xs) (r := 0) (k := k) hv (Nat.two_pow_pos k)
  rw [Nat.add_zero] at h2
  rw [sBits_yes h] at hk
  omega

theorem box_below (w : World) (o : Obj) (nq : Nat) : Below w.heap.size w ((w.alloc o).drewN nq) := by
  have hB := (Below.refl w.heap.size w).alloc (Nat.le_refl _) o
  exact ⟨hB.os, hB.tape, hB.output, hB.size, hB.block⟩

set_option maxRecDepth 100000 in
set_option maxHeartbeats 2000000 in
theorem shl_any (A : Option Addr) (cap : Nat) (xs : List Nat) (k : Int) (w : World) (hr : Rd w w.heap.size A xs) (hc : xs.length ≤ maxLen) :
    Calls Tryd.prog 68 #[.slice A xs.length cap, .int .i64 k] w fun e w' => (∃ v, e = .returned v ∧ Own w' w.heap.size v (sShl xs k)) ∧ Below w.heap.size w w' := by
  have hB0 : Below w.heap.size w (w.alloc (.cells #[.int .i64 k] 3)) := (Below.refl _ w).alloc (Nat.le_refl _) _
  by_cases hx : mayb xs = true
  · have HC1 := Lib.hid (fun nn => may_yes cap ((hr.below hB0 (Nat.le_refl _)).drewN nn) hc hx)
    rcases Nat.eq_zero_or_pos xs.length with h0 | h0
    · have : xs = [] := List.eq_nil_of_length_eq_zero h0
      subst this
      have hs := Lib.hid (sShl_nil k)
      clear hx hc hB0
      go_enter Tryd.func68, Tryd.ntmps68
      go_wp2
      go_quiet (((go_at_call 24; exact Calls.quiet_of_same (HC1.out _))))
      clear HC1
      go_wp2
      go_ret
      exact ⟨⟨_, rfl, by rw [hs.out]; exact Own.nil _ _⟩, box_below _ _ _⟩
    · have hz : (((xs.length : Nat) : Int) == 0) = false := beq_eq_false_iff_ne.2 (by omega)
      rcases Int.lt_or_le k 0 with hk | hk
      · have hs := Lib.hid (sShl_no2 (xs := xs) hk)
        have hk0 : decide (k < 0) = true := decide_eq_true hk
        clear hx hc hB0
        go_enter Tryd.func68, Tryd.ntmps68
        go_wp2
        go_quiet (((go_at_call 24; exact Calls.quiet_of_same (HC1.out _))))
        clear HC1
        go_wp2
        go_ret
        exact ⟨⟨_, rfl, by rw [hs.out]; exact Own.nil _ _⟩, box_below _ _ _⟩
      · obtain ⟨j, rfl⟩ := Int.eq_ofNat_of_zero_le hk
        rcases Nat.lt_or_ge 2097152 (j + sBits xs) with hj | hj
        · have hs := Lib.hid (sShl_over hx hr.limbs h0 hj)
          have HC2 := Lib.hid (fun nn => bits_any A cap xs _ _ ((hr.below hB0 (Nat.le_refl _)).drewN nn) hc)
          have hbb := sBits_le' hr.limbs
          have hk0 : decide ((j : Int) < 0) = false := decide_eq_false (by omega)
          have hk1 : decide ((2097152 : Int) - (sBits xs : Nat) < (j : Int)) = true := decide_eq_true (by omega)
          clear hx hc hB0
          go_enter Tryd.func68, Tryd.ntmps68
          go_wp2
          go_quiet ((first | (go_at_call 24; exact Calls.quiet_of_same (HC1.out _)) | (go_at_call 35; exact Calls.quiet_of_same (HC2.out _))))
          clear HC1 HC2
          go_wp2
          go_ret
          exact ⟨⟨_, rfl, by rw [hs.out]; exact Own.nil _ _⟩, box_below _ _ _⟩
        · rw [sShl_yes hx]
          exact (callsIn_wide (n := 8)).1 (shl_loop Fence.wide 8 rfl rfl (by omega) A cap xs j w hr hx h0 hj)
  · have hm : mayb xs = false := by simpa using hx
    have HC1 := Lib.hid (fun nn => may_no cap ((hr.below hB0 (Nat.le_refl _)).drewN nn) hc hm)
    have hs := Lib.hid (sShl_no1 (k := k) hm)
    clear hx hc hB0 hm
    go_enter Tryd.func68, Tryd.ntmps68
    go_wp2
    go_quiet (((go_at_call 24; exact Calls.quiet_of_same (HC1.out _))))
    clear HC1
    go_wp2
    go_ret
    exact ⟨⟨_, rfl, by rw [hs.out]; exact Own.nil _ _⟩, box_below _ _ _⟩

theorem sShr_no2 {xs : List Nat} {k : Int} (h : k < 0) : sShr xs k = [] := by unfold sShr; rw [decide_eq_false (by omega), Bool.and_false]; rfl
theorem sShr_yes {xs : List Nat} (h : mayb xs = true) (k : Nat) : sShr xs (k : Int) = lim (val xs / 2 ^ k) := by
  unfold sShr
  rw [h, decide_eq_true (by omega)]
  simp
theorem sShr_over {xs : List Nat} {k : Nat} (hk : sBits xs ≤ k) : sShr xs (k : Int) = [] := by
  rcases hm : mayb xs with _ | _
  · unfold sShr; rw [hm]; rfl
  · rw [sShr_yes hm, lim_eq_nil]
    rw [sBits_yes hm] at hk
    exact Nat.div_eq_of_lt (blen_le.1 hk)

set_option maxRecDepth 100000 in
set_option maxHeartbeats 2000000 in
theorem shr_any (A : Option Addr) (cap : Nat) (xs : List Nat) (k : Int) (w : World) (hr : Rd w w.heap.size A xs) (hlc : xs.length ≤ cap) (hcm : cap ≤ maxLen) :
    Calls Tryd.prog 70 #[.slice A xs.length cap, .int .i64 k] w fun e w' => (∃ v, e = .returned v ∧ Own w' w.heap.size v (sShr xs k)) ∧ Below w.heap.size w w' := by
  have hB0 : Below w.heap.size w (w.alloc (.cells #[.int .i64 k] 3)) := (Below.refl _ w).alloc (Nat.le_refl _) _
  rcases Int.lt_or_le k 0 with hk | hk
  · have hs := Lib.hid (sShr_no2 (xs := xs) hk)
    have hk0 : decide (k < 0) = true := decide_eq_true hk
    clear hlc hcm hB0
    go_enter Tryd.func70, Tryd.ntmps70
    go_wp2
    go_quiet (fail)
    go_wp2
    go_ret
    exact ⟨⟨_, rfl, by rw [hs.out]; exact Own.nil _ _⟩, box_below _ _ _⟩
  · obtain ⟨j, rfl⟩ := Int.eq_ofNat_of_zero_le hk
    rcases Nat.lt_or_ge j (sBits xs) with hj | hj
    · rw [sShr_yes (sBits_may (by omega))]
      exact (callsIn_wide (n := 8)).1 (shr_loop Fence.wide 8 rfl rfl (by omega) A cap xs j w hr hlc hcm hj)
    · have hs := Lib.hid (sShr_over hj)
      have HC2 := Lib.hid (fun nn => bits_any A cap xs _ _ ((hr.below hB0 (Nat.le_refl _)).drewN nn) (Nat.le_trans hlc hcm))
      have hk0 : decide ((j : Int) < 0) = false := decide_eq_false (by omega)
      have hk1 : decide (sBits xs ≤ j) = true := decide_eq_true hj
      clear hlc hcm hB0
      go_enter Tryd.func70, Tryd.ntmps70
      go_wp2
      go_quiet (((go_at_call 35; exact Calls.quiet_of_same (HC2.out _))))
      clear HC2
      go_wp2
      go_ret
      exact ⟨⟨_, rfl, by rw [hs.out]; exact Own.nil _ _⟩, box_below _ _ _⟩

end Go.Proofs.YtileljokijmpaaaDoor

/- Contracts of values in an environment: what is known to be read goes on being read from call to call. And Same, same, of. -/
namespace Go.Proofs.YtileljokijmpaaaDoor
open Go.RowKit

/-- The value v is a slice that reads as the limbs xs. -/
def Arg (w : World) (v : Value) (xs : List Nat) : Prop := ∃ A cap, v = .slice A xs.length cap ∧ xs.length ≤ cap ∧ cap ≤ maxLen ∧ Rd w w.heap.size A xs
/-- the same limbs? -/
def eqb (xs ys : List Nat) : Bool := decide (xs = ys)
theorem eqb_refl (xs : List Nat) : eqb xs xs = true := by unfold eqb; simp
/-- Since w0 nothing that lay has turned; each value of the list reads as its limbs. -/
def Env (w0 w : World) (l : List (Value × List Nat)) : Prop := Below w0.heap.size w0 w ∧ ∀ p ∈ l, Arg w p.1 p.2

theorem Arg.below {w w' : World} {v : Value} {xs : List Nat} (h : Arg w v xs) (hb : Below w.heap.size w w') : Arg w' v xs := by
  obtain ⟨A, cap, e, h1, h2, hr⟩ := h
  exact ⟨A, cap, e, h1, h2, (hr.below hb (Nat.le_refl _)).more hb.size⟩
theorem Arg.limbs {w : World} {v : Value} {xs : List Nat} (h : Arg w v xs) : Limbs xs := by obtain ⟨_, _, _, _, _, hr⟩ := h; exact hr.limbs
theorem Own.arg {w : World} {B : Nat} {v : Value} {xs : List Nat} (h : Own w B v xs) (hl : Limbs xs) : Arg w v xs := by
  obtain ⟨A, cap, e, h1, h2, hr⟩ := h.rd hl
  exact ⟨A, cap, e, h1, h2, hr⟩
theorem Arg.nil (w : World) : Arg w (.slice none 0 0) [] := ⟨none, 0, rfl, Nat.le_refl _, by decide, Rd.nil _ _ _⟩

section
variable {w0 w w' : World} {l : List (Value × List Nat)}
theorem Env.step (h : Env w0 w l) (hb : Below w.heap.size w w') : Env w0 w' l := ⟨h.1.trans (hb.mono h.1.size), fun p hp => (h.2 p hp).below hb⟩
theorem Env.add (h : Env w0 w l) (hb : Below w.heap.size w w') {v : Value} {xs : List Nat} (ha : Arg w' v xs) : Env w0 w' ((v, xs) :: l) := ⟨h.1.trans (hb.mono h.1.size), fun p hp => by
  rcases List.mem_cons.1 hp with rfl | hp
  · exact ha
  · exact (h.2 p hp).below hb⟩
theorem Env.get (h : Env w0 w l) {v : Value} {xs : List Nat} (hm : (v, xs) ∈ l) : Arg w v xs := h.2 _ hm
theorem Env.drewN (h : Env w0 w l) (n : Nat) : Env w0 (w.drewN n) l := ⟨⟨h.1.os, h.1.tape, h.1.output, h.1.size, h.1.block⟩, fun p hp => h.2 p hp⟩
theorem Env.nil (h : Env w0 w l) : Env w0 w ((.slice none 0 0, []) :: l) := h.add (Below.refl _ _) (Arg.nil _)
/-- A literal of limbs. -/
theorem Env.lit (h : Env w0 w l) (xs : List Nat) (hl : Limbs xs) (hm : xs.length ≤ maxLen) : Env w0 (w.alloc (.cells (u32s xs).toArray 40)) ((.slice (some ⟨w.heap.size, 0, none⟩) xs.length xs.length, xs) :: l) := by
  refine h.add ((Below.refl _ w).alloc (Nat.le_refl _) _) ?_
  have ho : Own (w.alloc (.cells (u32s xs).toArray 40)) w.heap.size (.slice (some ⟨w.heap.size, 0, none⟩) xs.length xs.length) xs := by
    have := World.ownsRow_lit w (u32s xs).toArray xs.length (base := w.heap.size) (e := 40) (size := 1) (Nat.le_refl _) hm (by simp [u32s])
    simpa [Own] using this
  exact ho.arg hl
theorem Env.lit1 (h : Env w0 w l) (x : Nat) (X : Int) (hX : X = (x : Int)) (hx : x < 4294967296) : Env w0 (w.alloc (.cells #[.int .u32 X] 40)) ((.slice (some ⟨w.heap.size, 0, none⟩) 1 1, [x]) :: l) := by subst hX; exact h.lit [x] (Limbs.one hx) (by unfold maxLen; simp)
theorem Env.lit2 (h : Env w0 w l) (x y : Nat) (X Y : Int) (hX : X = (x : Int)) (hY : Y = (y : Int)) (hx : x < 4294967296) (hy : y < 4294967296) : Env w0 (w.alloc (.cells #[.int .u32 X, .int .u32 Y] 40)) ((.slice (some ⟨w.heap.size, 0, none⟩) 2 2, [x, y]) :: l) := by subst hX hY; exact h.lit [x, y] ((Limbs.one hy).cons hx) (by unfold maxLen; simp)
theorem Env.lit3 (h : Env w0 w l) (x y z : Nat) (X Y Z : Int) (hX : X = (x : Int)) (hY : Y = (y : Int)) (hZ : Z = (z : Int)) (hx : x < 4294967296) (hy : y < 4294967296) (hz : z < 4294967296) : Env w0 (w.alloc (.cells #[.int .u32 X, .int .u32 Y, .int .u32 Z] 40)) ((.slice (some ⟨w.heap.size, 0, none⟩) 3 3, [x, y, z]) :: l) := by subst hX hY hZ; exact h.lit [x, y, z] (((Limbs.one hz).cons hy).cons hx) (by unfold maxLen; simp)
theorem env_start (w : World) : Env w w [] := ⟨Below.refl _ _, fun _ h => by cases h⟩
theorem env_start1 {w : World} {v : Value} {xs : List Nat} (h : Arg w v xs) : Env w w [(v, xs)] := (env_start w).add (Below.refl _ _) h

/-! ### the calls -/
variable {va vb : Value} {xs ys : List Nat}
theorem may_env (h : Env w0 w l) (ha : (va, xs) ∈ l) : Calls Tryd.prog 24 #[va] w fun e w' => e = .returned (.bool (mayb xs)) ∧ w' = w := by
  obtain ⟨A, cap, rfl, h1, h2, hr⟩ := h.get ha
  exact may_any A cap xs w _ hr (Nat.le_trans h1 h2)
theorem cmp_env (h : Env w0 w l) (ha : (va, xs) ∈ l) (hb : (vb, ys) ∈ l) : Calls Tryd.prog 25 #[va, vb] w fun e w' => e = .returned (.int .i64 (sCmp xs ys)) ∧ Env w0 w' l := by
  obtain ⟨A, cap, rfl, h1, h2, hr⟩ := h.get ha
  obtain ⟨A', cap', rfl, h1', h2', hr'⟩ := h.get hb
  exact (cmp_any A A' cap cap' xs ys w _ hr hr' (Nat.le_trans h1 h2) (Nat.le_trans h1' h2')).mono fun _ _ ⟨he, n, hw⟩ => ⟨he, by rw [hw]; exact h.drewN n⟩
theorem sAdd_limbs (xs ys : List Nat) : Limbs (sAdd xs ys) := by
  unfold sAdd; split
  · exact clip_limbs _
  · exact limbs_nil
theorem sSub_limbs (xs ys : List Nat) : Limbs (sSub xs ys) := by
  unfold sSub; split
  · exact lim_limbs _
  · exact limbs_nil
theorem sShl_limbs (xs : List Nat) (k : Int) : Limbs (sShl xs k) := by
  unfold sShl; split
  · exact clip_limbs _
  · exact limbs_nil
theorem sShr_limbs (xs : List Nat) (k : Int) : Limbs (sShr xs k) := by
  unfold sShr; split
  · exact lim_limbs _
  · exact limbs_nil
theorem add_env (h : Env w0 w l) (ha : (va, xs) ∈ l) (hb : (vb, ys) ∈ l) : Calls Tryd.prog 12 #[va, vb] w fun e w' => ∃ r, e = .returned r ∧ Env w0 w' ((r, sAdd xs ys) :: l) := by
  obtain ⟨A, cap, rfl, h1, h2, hr⟩ := h.get ha
  obtain ⟨A', cap', rfl, h1', h2', hr'⟩ := h.get hb
  exact (add_any A A' cap cap' xs ys w hr hr' (Nat.le_trans h1 h2) (Nat.le_trans h1' h2')).mono fun _ _ ⟨⟨r, he, ho⟩, hbl⟩ => ⟨r, he, h.add hbl (ho.arg (sAdd_limbs _ _))⟩
theorem sub_env (h : Env w0 w l) (ha : (va, xs) ∈ l) (hb : (vb, ys) ∈ l) : Calls Tryd.prog 9 #[va, vb] w fun e w' => ∃ r, e = .returned (.tuple #[r, .bool (sSubOk xs ys)]) ∧ Env w0 w' ((r, sSub xs ys) :: l) := by
  obtain ⟨A, cap, rfl, h1, h2, hr⟩ := h.get ha
  obtain ⟨A', cap', rfl, h1', h2', hr'⟩ := h.get hb
  exact (sub_any A A' cap cap' xs ys w hr hr' (Nat.le_trans h1 h2) (Nat.le_trans h1' h2')).mono fun _ _ ⟨⟨r, he, ho⟩, hbl⟩ => ⟨r, he, h.add hbl (ho.arg (sSub_limbs _ _))⟩
theorem bits_env (h : Env w0 w l) (ha : (va, xs) ∈ l) : Calls Tryd.prog 35 #[va] w fun e w' => e = .returned (.int .i64 (sBits xs : Nat)) ∧ w' = w := by
  obtain ⟨A, cap, rfl, h1, h2, hr⟩ := h.get ha
  exact bits_any A cap xs w _ hr (Nat.le_trans h1 h2)
theorem low_env (h : Env w0 w l) (ha : (va, xs) ∈ l) : Calls Tryd.prog 52 #[va] w fun e w' => e = .returned (.tuple #[.int .u64 (sLow xs : Nat), .bool (sLowOk xs)]) ∧ Env w0 w' l := by
  obtain ⟨A, cap, rfl, h1, h2, hr⟩ := h.get ha
  exact (low_any A cap xs w hr (Nat.le_trans h1 h2)).mono fun _ _ ⟨he, hbl⟩ => ⟨he, h.step hbl⟩
theorem of_env (h : Env w0 w l) (u : Nat) (hu : u < 18446744073709551616) : Calls Tryd.prog 8 #[.int .u64 (u : Int)] w fun e w' => ∃ r, e = .returned r ∧ Env w0 w' ((r, lim u) :: l) :=
  (of_any u w hu).mono fun _ _ ⟨⟨r, he, ho⟩, hbl⟩ => ⟨r, he, h.add hbl (ho.arg (lim_limbs _))⟩
theorem shl_env (h : Env w0 w l) (ha : (va, xs) ∈ l) (k : Int) : Calls Tryd.prog 68 #[va, .int .i64 k] w fun e w' => ∃ r, e = .returned r ∧ Env w0 w' ((r, sShl xs k) :: l) := by
  obtain ⟨A, cap, rfl, h1, h2, hr⟩ := h.get ha
  exact (shl_any A cap xs k w hr (Nat.le_trans h1 h2)).mono fun _ _ ⟨⟨r, he, ho⟩, hbl⟩ => ⟨r, he, h.add hbl (ho.arg (sShl_limbs _ _))⟩
theorem shr_env (h : Env w0 w l) (ha : (va, xs) ∈ l) (k : Int) : Calls Tryd.prog 70 #[va, .int .i64 k] w fun e w' => ∃ r, e = .returned r ∧ Env w0 w' ((r, sShr xs k) :: l) := by
  obtain ⟨A, cap, rfl, h1, h2, hr⟩ := h.get ha
  exact (shr_any A cap xs k w hr h1 h2).mono fun _ _ ⟨⟨r, he, ho⟩, hbl⟩ => ⟨r, he, h.add hbl (ho.arg (sShr_limbs _ _))⟩
end

/-! ### Same -/
set_option maxHeartbeats 1000000 in
theorem same_eq (A A' : Option Addr) (cap cap' len : Nat) (xs ys : List Nat) (w : World) (B : Nat) (hr : Rd w B A xs) (hr' : Rd w B A' ys) (h1 : Hid (xs.length = len)) (h2 : Hid (ys.length = len)) (hc : len ≤ maxLen) :
    Calls Tryd.prog 29 #[.slice A len cap, .slice A' len cap'] w fun e w' => e = .returned (.bool (eqb xs ys)) ∧ ∃ n, w' = w.drewN n := by
  unfold maxLen at hc
  go_enter Tryd.func29, Tryd.ntmps29
  go_wp2
  go_loopw [5] (fun v wr => ∃ k : Nat, k ≤ len ∧ v = .int .i64 (k : Int) ∧ Hid (∀ j, j < k → xs[j]?.getD 0 = ys[j]?.getD 0) ∧ ∃ n, wr = w.drewN n) (fun v _ => len - (intOf v).toNat)
  case atStart => exact ⟨0, Nat.zero_le _, rfl, fun j h => by omega, 0, rfl⟩
  case round =>
    obtain ⟨k, hk, rfl, hu, nw, rfl⟩ := hrel
    by_cases hlt : k < len
    · obtain ⟨b, off, rfl, _, hcell⟩ := hr.2 (by have := h1.out; omega)
      obtain ⟨b', off', rfl, _, hcell'⟩ := hr'.2 (by have := h2.out; omega)
      have q1 := hcell k (by have := h1.out; omega)
      have q2 := hcell' k (by have := h2.out; omega)
      have l1 := hr.limbs.getD k
      have l2 := hr'.limbs.getD k
      clear hcell hcell'
      by_cases he : xs[k]?.getD 0 = ys[k]?.getD 0
      · have HE := Lib.hid he
        have hb : ((((xs[k]?.getD 0 : Nat) : Int)) != ((ys[k]?.getD 0 : Nat) : Int)) = false := by rw [he]; simp
        have g1 : xs[k]?.getD 0 ≤ ys[k]?.getD 0 := by omega
        have g2 : ys[k]?.getD 0 ≤ xs[k]?.getD 0 := by omega
        clear he
        go_wp2
        go_quiet (fail)
        go_wp2
        go_roundw
        case rel => exact ⟨k + 1, by omega, by go_num, fun j hj => by rcases Nat.lt_or_ge j k with h | h; exact hu.out j h; (obtain rfl : j = k := by omega); exact HE.out, _, rfl⟩
        case measure => simp [intOf]; omega
      · have hne : Hid (eqb xs ys = false) := by show _ = _; unfold eqb; rw [decide_eq_false]; intro e; rw [e] at he; exact he rfl
        have hb : ((((xs[k]?.getD 0 : Nat) : Int)) != ((ys[k]?.getD 0 : Nat) : Int)) = true := by rw [bne_iff_ne]; omega
        clear he
        go_wp2
        go_quiet (fail)
        go_wp2
        go_ret
        exact ⟨ret_bool hne.out.symm, _, World.drewN_drewN _ _ _⟩
    · have hyes : Hid (eqb xs ys = true) := by
        show _ = _
        unfold eqb
        rw [decide_eq_true]
        apply List.ext_getElem (by rw [h1.out, h2.out])
        intro j q1 q2
        have := hu.out j (by have := h1.out; omega)
        rw [List.getElem?_eq_getElem q1, List.getElem?_eq_getElem q2] at this
        simpa using this
      go_wp2
      go_ret
      exact ⟨ret_bool hyes.out.symm, nw, rfl⟩

set_option maxHeartbeats 1000000 in
theorem same_any (A A' : Option Addr) (cap cap' : Nat) (xs ys : List Nat) (w : World) (B : Nat) (hr : Rd w B A xs) (hr' : Rd w B A' ys) (hc' : ys.length ≤ maxLen) :
    Calls Tryd.prog 29 #[.slice A xs.length cap, .slice A' ys.length cap'] w fun e w' => e = .returned (.bool (eqb xs ys)) ∧ ∃ n, w' = w.drewN n := by
  by_cases h : xs.length = ys.length
  · have := same_eq A A' cap cap' ys.length xs ys w B hr hr' h rfl hc'
    rwa [h]
  · have hne : Hid (eqb xs ys = false) := by show _ = _; unfold eqb; rw [decide_eq_false]; intro e; rw [e] at h; exact h rfl
    have hb : ((xs.length : Int) != (ys.length : Int)) = true := by rw [bne_iff_ne]; omega
    clear h hc'
    go_enter Tryd.func29, Tryd.ntmps29
    go_wp2
    go_ret
    exact ⟨ret_bool hne.out.symm, 0, rfl⟩

section
variable {w0 w w' : World} {l : List (Value × List Nat)} {va vb : Value} {xs ys : List Nat}
theorem refsame_env (h : Env w0 w l) (ha : (va, xs) ∈ l) (hb : (vb, ys) ∈ l) : Calls Tryd.prog 29 #[va, vb] w fun e w' => e = .returned (.bool (eqb xs ys)) ∧ Env w0 w' l := by
  obtain ⟨A, cap, rfl, _, _, hr⟩ := h.get ha
  obtain ⟨A', cap', rfl, h1', h2', hr'⟩ := h.get hb
  exact (same_any A A' cap cap' xs ys w _ hr hr' (Nat.le_trans h1' h2')).mono fun _ _ ⟨he, n, hw⟩ => ⟨he, by rw [hw]; exact h.drewN n⟩
end

/-! ### closed reckonings -/
theorem sAdd_eq {xs ys zs : List Nat} (hx : mayb xs = true) (hy : mayb ys = true) (hz : mayb zs = true) (hl : Limbs zs) (h : val xs + val ys = val zs) : sAdd xs ys = zs := by
  rw [sAdd_yes (by simp [hx, hy]), h, clip_val hl hz]
theorem sSub_ok {xs ys : List Nat} (hx : mayb xs = true) (hy : mayb ys = true) (h : val ys ≤ val xs) : sSubOk xs ys = true := by
  unfold sSubOk; simp [hx, hy, h]
theorem sSub_eq {xs ys zs : List Nat} (hx : mayb xs = true) (hy : mayb ys = true) (hz : mayb zs = true) (hl : Limbs zs) (h : val ys + val zs = val xs) : sSub xs ys = zs := by
  rw [sSub_yes (sSub_ok hx hy (by omega)), show val xs - val ys = val zs from by omega, lim_val (mayb_canon hl hz)]
theorem sShl_eq {xs zs : List Nat} {k : Nat} (hx : mayb xs = true) (hz : mayb zs = true) (hl : Limbs zs) (h : val xs * 2 ^ k = val zs) : sShl xs (k : Int) = zs := by
  rw [sShl_yes hx, h, clip_val hl hz]
theorem sShr_eq {xs zs : List Nat} {k : Nat} (hx : mayb xs = true) (hz : mayb zs = true) (hl : Limbs zs) (h : val xs / 2 ^ k = val zs) : sShr xs (k : Int) = zs := by
  rw [sShr_yes hx, h, lim_val (mayb_canon hl hz)]
theorem lim_eq {u : Nat} {zs : List Nat} (hz : mayb zs = true) (hl : Limbs zs) (h : val zs = u) : lim u = zs := by
  rw [← h, lim_val (mayb_canon hl hz)]

end Go.Proofs.YtileljokijmpaaaDoor

/- Contract: awake (the examples): true, and nothing that lay has turned. -/
namespace Go.Proofs.YtileljokijmpaaaDoor
open Go.RowKit

end Go.Proofs.YtileljokijmpaaaDoor

/- NatRow. -/
namespace Go.Proofs.YtileljokijmpaaaDoor
open Go.RowKit

/-- A row of numbers that came in reads as limbs. -/
theorem arg_of_row {w : World} {a : Option Addr} {len cap : Nat} {zs : List Int}
    (h : (a = none ∧ len = 0 ∧ cap = 0 ∧ zs = []) ∨ ∃ x, a = some x ∧ len ≤ cap ∧ cap ≤ maxLen ∧ zs.length = cap ∧ (∀ i, i < zs.length → w.cell? (x.add i) = some (.int .u32 (zs.getD i 0))) ∧ ∀ n ∈ zs, (Lit.int .u32 n).wf = true) :
    ∃ xs : List Nat, xs.length = len ∧ Arg w (.slice a len cap) xs := by
  rcases h with ⟨rfl, rfl, rfl, rfl⟩ | ⟨x, rfl, h1, h2, h3, h4, h5⟩
  · exact ⟨[], rfl, Arg.nil w⟩
  · have hlen : ((zs.take len).map Int.toNat).length = len := by simp; omega
    have hb : ∀ n ∈ zs, 0 ≤ n ∧ n < 4294967296 := fun n hn => by
      have := bounds_u32 (h5 n hn)
      omega
    refine ⟨(zs.take len).map Int.toNat, hlen, some x, cap, by rw [hlen], by rw [hlen]; exact h1, h2, ?_, fun hp => ?_⟩
    · intro y hy
      obtain ⟨n, hn, rfl⟩ := List.mem_map.1 hy
      have := hb n (List.mem_of_mem_take hn)
      omega
    · obtain ⟨b, off, spot⟩ := x
      have hc := h4 0 (by omega)
      have hspot : spot = none := by simpa [Addr.add] using World.cell?_spot hc
      subst hspot
      have hblk : b < w.heap.size := by
        obtain ⟨o, ho, _⟩ := cells_of_cell hc
        simpa [Addr.add] using (Array.getElem?_eq_some_iff.1 ho).1
      refine ⟨b, off, rfl, hblk, fun j hj => ?_⟩
      have hj' : j < zs.length := by omega
      have := h4 j hj'
      have e : ((⟨b, off, none⟩ : Addr).add j) = ⟨b, off + j, none⟩ := by
        unfold Addr.add; split
        · rename_i h0; subst h0; rfl
        · rfl
      rw [e] at this
      rw [this, List.getElem?_map, List.getElem?_take, if_pos (by omega)]
      have hz := hb zs[j] (List.getElem_mem hj')
      rw [List.getD_eq_getElem?_getD, List.getElem?_eq_getElem hj']
      simp only [Option.getD_some, Option.map_some]
      rw [Int.toNat_of_nonneg hz.1]

theorem cmp_is {w0 w : World} {l : List (Value × List Nat)} {va vb : Value} {xs ys : List Nat} {X : Int} (h : Env w0 w l) (ha : (va, xs) ∈ l) (hb : (vb, ys) ∈ l) (hx : sCmp xs ys = X) : Calls Tryd.prog 25 #[va, vb] w fun e w' => e = .returned (.int .i64 X) ∧ Env w0 w' l := by
  have := cmp_env h ha hb
  rwa [hx] at this
theorem may_is {w0 w : World} {l : List (Value × List Nat)} {va : Value} {xs : List Nat} {b : Bool} (h : Env w0 w l) (ha : (va, xs) ∈ l) (hx : mayb xs = b) : Calls Tryd.prog 24 #[va] w fun e w' => e = .returned (.bool b) ∧ Env w0 w' l := by
  have := may_env h ha
  rw [hx] at this
  exact this.mono fun _ _ ⟨he, hw⟩ => ⟨he, by rw [hw]; exact h⟩
theorem sub_is {w0 w : World} {l : List (Value × List Nat)} {va vb : Value} {xs ys zs : List Nat} {b : Bool} (h : Env w0 w l) (ha : (va, xs) ∈ l) (hb : (vb, ys) ∈ l) (hx : sSubOk xs ys = b) (hz : sSub xs ys = zs) : Calls Tryd.prog 9 #[va, vb] w fun e w' => ∃ r, e = .returned (.tuple #[r, .bool b]) ∧ Env w0 w' ((r, zs) :: l) := by
  have := sub_env h ha hb
  rwa [hx, hz] at this
theorem add_is {w0 w : World} {l : List (Value × List Nat)} {va vb : Value} {xs ys zs : List Nat} (h : Env w0 w l) (ha : (va, xs) ∈ l) (hb : (vb, ys) ∈ l) (hz : sAdd xs ys = zs) : Calls Tryd.prog 12 #[va, vb] w fun e w' => ∃ r, e = .returned r ∧ Env w0 w' ((r, zs) :: l) := by
  have := add_env h ha hb
  rwa [hz] at this
theorem shl_is {w0 w : World} {l : List (Value × List Nat)} {va : Value} {xs zs : List Nat} {k : Int} (h : Env w0 w l) (ha : (va, xs) ∈ l) (hz : sShl xs k = zs) : Calls Tryd.prog 68 #[va, .int .i64 k] w fun e w' => ∃ r, e = .returned r ∧ Env w0 w' ((r, zs) :: l) := by
  have := shl_env h ha k
  rwa [hz] at this
theorem shr_is {w0 w : World} {l : List (Value × List Nat)} {va : Value} {xs zs : List Nat} {k : Int} (h : Env w0 w l) (ha : (va, xs) ∈ l) (hz : sShr xs k = zs) : Calls Tryd.prog 70 #[va, .int .i64 k] w fun e w' => ∃ r, e = .returned r ∧ Env w0 w' ((r, zs) :: l) := by
  have := shr_env h ha k
  rwa [hz] at this
theorem bits_is {w0 w : World} {l : List (Value × List Nat)} {va : Value} {xs : List Nat} {n : Nat} (h : Env w0 w l) (ha : (va, xs) ∈ l) (hx : sBits xs = n) : Calls Tryd.prog 35 #[va] w fun e w' => e = .returned (.int .i64 (n : Nat)) ∧ Env w0 w' l := by
  have := bits_env h ha
  rw [hx] at this
  exact this.mono fun _ _ ⟨he, hw⟩ => ⟨he, by rw [hw]; exact h⟩
theorem Env.of1 {w0 w : World} {p : Value × List Nat} {l : List (Value × List Nat)} (h : Env w0 w (p :: l)) : Env w0 w l := ⟨h.1, fun q hq => h.2 q (by simp [hq])⟩
theorem Env.swap {w0 w : World} {p q : Value × List Nat} {l : List (Value × List Nat)} (h : Env w0 w (p :: q :: l)) : Env w0 w (q :: l) := h.of1

section
variable {w0 w w' : World} {l : List (Value × List Nat)} {va vb : Value} {xs ys zs : List Nat}
theorem Env.pop {p : Value × List Nat} (h : Env w0 w (p :: l)) : Env w0 w l := ⟨h.1, fun q hq => h.2 q (List.mem_cons_of_mem _ hq)⟩
theorem Env.lit4 (h : Env w0 w l) (x y z t : Nat) (X Y Z T : Int) (hX : X = (x : Int)) (hY : Y = (y : Int)) (hZ : Z = (z : Int)) (hT : T = (t : Int)) (hx : x < 4294967296) (hy : y < 4294967296) (hz : z < 4294967296) (ht : t < 4294967296) : Env w0 (w.alloc (.cells #[.int .u32 X, .int .u32 Y, .int .u32 Z, .int .u32 T] 40)) ((.slice (some ⟨w.heap.size, 0, none⟩) 4 4, [x, y, z, t]) :: l) := by subst hX hY hZ hT; exact h.lit [x, y, z, t] ((((Limbs.one ht).cons hz).cons hy).cons hx) (by unfold maxLen; simp)
theorem low_is {n : Nat} {b : Bool} (h : Env w0 w l) (ha : (va, xs) ∈ l) (hl : sLow xs = n) (hb : sLowOk xs = b) : Calls Tryd.prog 52 #[va] w fun e w' => e = .returned (.tuple #[.int .u64 (n : Nat), .bool b]) ∧ Env w0 w' l := by
  have := low_env h ha
  rwa [hl, hb] at this
theorem of_is (h : Env w0 w l) (u : Nat) (hu : u < 18446744073709551616) (hz : lim u = zs) : Calls Tryd.prog 8 #[.int .u64 (u : Int)] w fun e w' => ∃ r, e = .returned r ∧ Env w0 w' ((r, zs) :: l) := by
  have := of_env h u hu
  rwa [hz] at this
end

end Go.Proofs.YtileljokijmpaaaDoor

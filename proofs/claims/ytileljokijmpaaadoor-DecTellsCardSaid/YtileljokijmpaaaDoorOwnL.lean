/- Own lists of lists. -/
import Derived.Outline
import Derived.Deep.RegionWith
import Derived.Deep.DeepCutAuto
import Derived.Lib.OwnKind
import Derived.Test.YtileljokijmpaaaDoorPackR
import Derived.Test.YtileljokijmpaaaDoorPackO
namespace Go.Proofs.YtileljokijmpaaaDoor
open Go.RowKit Go.Shelf

set_option linter.unusedVariables false

theorem infoL : (Tryd.prog.info? 24).map (fun i => (i.zero, i.size, i.bytes)) = some (some (.slice none 0 0), 1, 24) := by kernel_rfl

/-- The call's own list of own lists. -/
def OwnL (w : World) (B : Nat) (v : Value) (L : List (List Nat)) : Prop :=
  ∃ vs : List Value, vs.length = L.length ∧ w.ownsRow B 24 1 v L.length vs ∧ ∀ j, j < L.length → Own w B (vs[j]?.getD undef) (L[j]?.getD [])

theorem OwnL.nil (w : World) (B : Nat) : OwnL w B (.slice none 0 0) [] := ⟨[], rfl, World.ownsRow_nil _ _ _ _, fun j hj => by simp at hj⟩

theorem OwnL.rows {w : World} {B : Nat} {v : Value} {L : List (List Nat)} (h : OwnL w B v L) (hl : ∀ j, j < L.length → Limbs (L[j]?.getD [])) : Rows2 w v L := by
  obtain ⟨vs, hvl, ho, ha⟩ := h
  rcases ho.2 with ⟨rfl, h0⟩ | ⟨g, cap, cur, rfl, hb, hh, hle, hm, r⟩
  · exact ⟨none, 0, vs, by rw [h0], by rw [h0]; decide, fun j hj => by omega, fun h => by omega⟩
  · refine ⟨_, cap, vs, rfl, Nat.le_trans hle hm, fun j hj => (ha j hj).arg (hl j hj), fun h0 => ⟨g, 0, rfl, (Array.getElem?_eq_some_iff.1 hh).1, fun j hj => ?_⟩⟩
    have hc := World.ownsRow.cellAt ho j (by omega)
    rw [Nat.zero_add, hc, List.getElem?_eq_getElem (by omega)]
    rfl

theorem OwnL.below {w w' : World} {B : Nat} {v : Value} {L : List (List Nat)} (h : OwnL w B v L) (hb : Below w.heap.size w w') : OwnL w' B v L := by
  obtain ⟨vs, hvl, ho, ha⟩ := h
  refine ⟨vs, hvl, ⟨ho.1, ?_⟩, fun j hj => (ha j hj).below hb⟩
  rcases ho.2 with h2 | ⟨g, cap, cur, e, hg, hh, r⟩
  · exact .inl h2
  · exact .inr ⟨g, cap, cur, e, hg, (hb.block g (Array.getElem?_eq_some_iff.1 hh).1).trans hh, r⟩

theorem rowL_below {w w' : World} {B n : Nat} {v : Value} {us : List Value} (h : w.ownsRow B 24 1 v n us) (hb : Below w.heap.size w w') : w'.ownsRow B 24 1 v n us := by
  refine ⟨h.1, ?_⟩
  rcases h.2 with h2 | ⟨g, cap, cur, e, hg, hh, r⟩
  · exact .inl h2
  · exact .inr ⟨g, cap, cur, e, hg, (hb.block g (Array.getElem?_eq_some_iff.1 hh).1).trans hh, r⟩
theorem Own.cap_le {w : World} {B : Nat} {v : Value} {xs : List Nat} (h : Own w B v xs) : xs.length ≤ maxLen := by
  rcases h.2 with ⟨e, h0⟩ | ⟨g, cap, cur, e, hg, hh, hle, hm, r⟩
  · rw [h0]; decide
  · exact Nat.le_trans hle hm
/-- What append makes of it. -/
theorem OwnL.snoc {w w2 : World} {B : Nat} {v c v' : Value} {L : List (List Nat)} {vs : List Value} {xs : List Nat} {tmp : Obj} (hvl : vs.length = L.length) (ho : w.ownsRow B 24 1 v L.length vs)
    (ha : ∀ j, j < L.length → Own w B (vs[j]?.getD undef) (L[j]?.getD [])) (hc : Own w B c xs)
    (ho' : w2.ownsRow B 24 1 v' (L.length + 1) (vs ++ [c])) (hg : (w.alloc tmp).grownBy w2 v.ownBlock) : OwnL w2 B v' (L ++ [xs]) := by
  have keep : ∀ {u : Value} {zs : List Nat}, Own w B u zs → Own w2 B u zs := by
    intro u zs hu
    refine World.ownsRow.kept (World.ownsRow.alloc hu tmp) hg ?_
    rcases hu1 : u.ownBlock with _ | k
    · exact .inl rfl
    · right
      intro e
      obtain ⟨c1, f1, q1⟩ := Lib.ownsRow_kind hu k hu1
      obtain ⟨c2, f2, q2⟩ := Lib.ownsRow_kind ho k e.symm
      rw [q1] at q2
      injection q2 with q3
      injection q3 with _ q4 _
      exact absurd q4 (by decide)
  refine ⟨vs ++ [c], by simp [hvl], by simpa using ho', fun j hj => ?_⟩
  rw [List.length_append, List.length_singleton] at hj
  rcases Nat.lt_or_ge j L.length with h1 | h1
  · rw [List.getElem?_append_left (by omega), List.getElem?_append_left h1]
    exact keep (ha j h1)
  · obtain rfl : j = L.length := by omega
    rw [List.getElem?_append_right (by omega), List.getElem?_append_right (by omega), hvl, Nat.sub_self]
    exact keep hc

/-- A list of lists as it is handed in: where a slice is nil it has no room. -/
def Rows2Z (w : World) (v : Value) (L : List (List Nat)) : Prop :=
  ∃ A cap, ∃ vs : List Value, v = .slice A L.length cap ∧ L.length ≤ maxLen ∧ (∀ j, j < L.length → ArgZ w (vs[j]?.getD undef) (L[j]?.getD [])) ∧
    (0 < L.length → ∃ b off, A = some ⟨b, off, none⟩ ∧ b < w.heap.size ∧ ∀ j, j < L.length → w.cell? ⟨b, off + j, none⟩ = some (vs[j]?.getD undef))
theorem Rows2Z.rows {w : World} {v : Value} {L : List (List Nat)} (h : Rows2Z w v L) : Rows2 w v L := by
  obtain ⟨A, cap, vs, e, hl, ha, hc⟩ := h
  exact ⟨A, cap, vs, e, hl, fun j hj => (ha j hj).1, hc⟩
theorem Rows2Z.below {w w' : World} {v : Value} {L : List (List Nat)} (h : Rows2Z w v L) (hb : Below w.heap.size w w') : Rows2Z w' v L := by
  obtain ⟨A, cap, vs, e, hl, ha, hc⟩ := h
  refine ⟨A, cap, vs, e, hl, fun j hj => ⟨(ha j hj).1.below hb, (ha j hj).2⟩, fun h0 => ?_⟩
  obtain ⟨b, off, e2, hb2, hc2⟩ := hc h0
  exact ⟨b, off, e2, Nat.lt_of_lt_of_le hb2 hb.size, fun j hj => (hb.cell (p := ⟨b, off + j, none⟩) hb2).trans (hc2 j hj)⟩
theorem Rows2Z.limbs {w : World} {v : Value} {L : List (List Nat)} (h : Rows2Z w v L) {j : Nat} (hj : j < L.length) : Limbs (L[j]?.getD []) := by
  obtain ⟨A, cap, vs, e, hl, ha, hc⟩ := h
  exact (ha j hj).1.limbs
theorem tot_ge {L : List (List Nat)} : ∀ {j : Nat}, j < L.length → 1 + min 700 (L[j]?.getD []).length ≤ tot L := by
  induction L with
  | nil => intro j hj; simp at hj
  | cons x r ih =>
    intro j hj
    rcases j with _ | j
    · simp [tot]
    · have := ih (j := j) (by simpa using hj)
      simp [tot] at this ⊢
      omega
theorem tot_len (L : List (List Nat)) : L.length ≤ tot L := by
  induction L with
  | nil => simp [tot]
  | cons x r ih => simp only [tot, List.length_cons]; omega
theorem longL_no {L : List (List Nat)} (h : longL L = false) : L.length < 700 ∧ ∀ j, j < L.length → (L[j]?.getD []).length < 700 := by
  unfold longL at h
  have h1 := of_decide_eq_false h
  exact ⟨Nat.lt_of_le_of_lt (tot_len L) (by omega), fun j hj => by have := tot_ge hj; omega⟩

end Go.Proofs.YtileljokijmpaaaDoor

/- Looking by halves: the mathematics. -/
import Derived.Test.YtcjljfjgekiocaaGreatDoorNamMath
namespace Go.Proofs.YtcjljfjgekiocaaGreatDoor

set_option linter.unusedVariables false
set_option linter.unusedSimpArgs false

/-- what is so of one is so of all ahead of it -/
def Dwn (p : Ent → Bool) (l : List Ent) : Prop := ∀ (i j : Nat) (a b : Ent), i ≤ j → l[i]? = some a → l[j]? = some b → p b = true → p a = true
def pos (p : Ent → Bool) : List Ent → Nat
  | [] => 0
  | e :: l => if p e then pos p l + 1 else 0
theorem pos_le (p : Ent → Bool) : ∀ l : List Ent, pos p l ≤ l.length
  | [] => Nat.le_refl _
  | e :: l => by
    rw [pos]
    split
    · have := pos_le p l; simp; omega
    · exact Nat.zero_le _
theorem Dwn.tail {p : Ent → Bool} {e : Ent} {l : List Ent} (h : Dwn p (e :: l)) : Dwn p l := fun i j a b hij ha hb hp => h (i + 1) (j + 1) a b (by omega) (by simpa using ha) (by simpa using hb) hp
theorem pos_iff {p : Ent → Bool} : ∀ {l : List Ent} (h : Dwn p l) {i : Nat} {e : Ent}, l[i]? = some e → (p e = true ↔ i < pos p l)
  | [], _, i, e, he => by simp at he
  | x :: l, h, 0, e, he => by
    have he : x = e := by simpa using he
    subst he
    rw [pos]
    by_cases hp : p x = true
    · simp [hp]
    · simp [hp]
  | x :: l, h, i + 1, e, he => by
    have he : l[i]? = some e := by simpa using he
    rw [pos]
    by_cases hp : p x = true
    · rw [if_pos hp, pos_iff h.tail he]; omega
    · rw [if_neg hp]
      constructor
      · intro h1
        exact absurd (h 0 (i + 1) x e (by omega) rfl (by simpa using he) h1) hp
      · intro h1; omega
/-- where the search ends -/
theorem pos_eq {p : Ent → Bool} {l : List Ent} (h : Dwn p l) {n : Nat} (hn : n ≤ l.length) (h1 : ∀ i e, i < n → l[i]? = some e → p e = true) (h2 : ∀ i e, n ≤ i → l[i]? = some e → p e = false) : n = pos p l := by
  rcases Nat.lt_trichotomy n (pos p l) with hlt | he | hgt
  · have hl : n < l.length := Nat.lt_of_lt_of_le hlt (pos_le p l)
    have he := List.getElem?_eq_getElem hl
    have := (pos_iff h he).2 hlt
    rw [h2 n _ (Nat.le_refl _) he] at this
    cases this
  · exact he
  · have hl : pos p l < l.length := by omega
    have he := List.getElem?_eq_getElem hl
    have := (pos_iff h he).1 (h1 _ _ hgt he)
    omega
/-- one stands ahead of the other -/
def byN (k : List Nat) (e : Ent) : Bool := ltn e.1 k
def byV (v : Int) (e : Ent) : Bool := decide ((e.2 : Int) < v)
def SrN (l : List Ent) : Prop := l.Pairwise fun a b => ltn a.1 b.1 = true
def SrV (l : List Ent) : Prop := l.Pairwise fun a b => a.2 < b.2
theorem SrN.dwn {l : List Ent} (h : SrN l) (k : List Nat) : Dwn (byN k) l := fun i j a b hij ha hb hp => by
  rcases Nat.lt_or_ge i j with hlt | hge
  · have := List.pairwise_iff_getElem.1 h i j (List.getElem?_eq_some_iff.1 ha).1 (List.getElem?_eq_some_iff.1 hb).1 hlt
    rw [(List.getElem?_eq_some_iff.1 ha).2, (List.getElem?_eq_some_iff.1 hb).2] at this
    exact ltn_trans this hp
  · have e : i = j := by omega
    subst e
    rw [ha] at hb
    injection hb with hb
    rw [hb]; exact hp
theorem SrV.dwn {l : List Ent} (h : SrV l) (v : Int) : Dwn (byV v) l := fun i j a b hij ha hb hp => by
  rcases Nat.lt_or_ge i j with hlt | hge
  · have := List.pairwise_iff_getElem.1 h i j (List.getElem?_eq_some_iff.1 ha).1 (List.getElem?_eq_some_iff.1 hb).1 hlt
    rw [(List.getElem?_eq_some_iff.1 ha).2, (List.getElem?_eq_some_iff.1 hb).2] at this
    simp only [byV, decide_eq_true_eq] at hp ⊢
    omega
  · have e : i = j := by omega
    subst e
    rw [ha] at hb
    injection hb with hb
    rw [hb]; exact hp
/-- what look tells -/
def atN (l : List Ent) (k : List Nat) : Nat := pos (byN k) l
def isNm (l : List Ent) (k : List Nat) : Bool := match l[atN l k]? with
  | some e => decide (e.1 = k)
  | none => false
def atV (l : List Ent) (v : Int) : Nat := pos (byV v) l
def isVr (l : List Ent) (v : Int) : Bool := match l[atV l v]? with
  | some e => decide ((e.2 : Int) = v)
  | none => false
theorem isNm_iff {l : List Ent} (h : SrN l) (k : List Nat) : isNm l k = true ↔ ∃ e ∈ l, e.1 = k := by
  constructor
  · intro hi
    unfold isNm at hi
    cases he : l[atN l k]? with
    | none => rw [he] at hi; cases hi
    | some e => rw [he] at hi; exact ⟨e, List.mem_of_getElem? he, by simpa using hi⟩
  · rintro ⟨e, hm, rfl⟩
    obtain ⟨i, hi⟩ := List.mem_iff_getElem?.1 hm
    have h1 : ¬ i < atN l e.1 := fun hlt => by
      have := (pos_iff (h.dwn e.1) hi).2 hlt
      unfold byN at this
      rw [ltn_irr] at this; cases this
    have h2 : i = atN l e.1 := by
      rcases Nat.lt_or_ge (atN l e.1) i with hlt | hge
      · exfalso
        have hl : atN l e.1 < l.length := Nat.lt_trans hlt (List.getElem?_eq_some_iff.1 hi).1
        have hp := List.pairwise_iff_getElem.1 h (atN l e.1) i hl (List.getElem?_eq_some_iff.1 hi).1 hlt
        rw [(List.getElem?_eq_some_iff.1 hi).2] at hp
        have := (pos_iff (h.dwn e.1) (List.getElem?_eq_getElem hl)).1 hp
        exact absurd this (Nat.lt_irrefl _)
      · omega
    unfold isNm
    rw [← h2, hi]
    simp
theorem isVr_iff {l : List Ent} (h : SrV l) (v : Int) : isVr l v = true ↔ ∃ e ∈ l, (e.2 : Int) = v := by
  constructor
  · intro hi
    unfold isVr at hi
    cases he : l[atV l v]? with
    | none => rw [he] at hi; cases hi
    | some e => rw [he] at hi; exact ⟨e, List.mem_of_getElem? he, by simpa using hi⟩
  · rintro ⟨e, hm, rfl⟩
    obtain ⟨i, hi⟩ := List.mem_iff_getElem?.1 hm
    have h1 : ¬ i < atV l (e.2 : Int) := fun hlt => by
      have := (pos_iff (h.dwn _) hi).2 hlt
      simp [byV] at this
    have h2 : i = atV l (e.2 : Int) := by
      rcases Nat.lt_or_ge (atV l (e.2 : Int)) i with hlt | hge
      · exfalso
        have hl : atV l (e.2 : Int) < l.length := Nat.lt_trans hlt (List.getElem?_eq_some_iff.1 hi).1
        have hp := List.pairwise_iff_getElem.1 h (atV l (e.2 : Int)) i hl (List.getElem?_eq_some_iff.1 hi).1 hlt
        rw [(List.getElem?_eq_some_iff.1 hi).2] at hp
        have := (pos_iff (h.dwn (e.2 : Int)) (List.getElem?_eq_getElem hl)).1 (by simp [byV]; omega)
        exact absurd this (Nat.lt_irrefl _)
      · omega
    unfold isVr
    rw [← h2, hi]
    simp
end Go.Proofs.YtcjljfjgekiocaaGreatDoor

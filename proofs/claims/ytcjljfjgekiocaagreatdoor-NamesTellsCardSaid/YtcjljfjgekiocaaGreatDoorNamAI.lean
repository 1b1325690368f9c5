/- The math of NamesShut: what is opened is found, what is closed is gone. -/
import Derived.Test.YtcjljfjgekiocaaGreatDoorNamAH
namespace Go.Proofs.YtcjljfjgekiocaaGreatDoor
open Go.RowKit Go.Shelf

set_option linter.unusedVariables false
set_option linter.unusedSimpArgs false

theorem srn_uniq {l : List Ent} (h : SrN l) {a b : Ent} (ha : a ∈ l) (hb : b ∈ l) (e : a.1 = b.1) : a = b := by
  obtain ⟨i, hi⟩ := List.mem_iff_getElem?.1 ha
  obtain ⟨j, hj⟩ := List.mem_iff_getElem?.1 hb
  obtain ⟨hil, hi⟩ := List.getElem?_eq_some_iff.1 hi
  obtain ⟨hjl, hj⟩ := List.getElem?_eq_some_iff.1 hj
  rcases Nat.lt_trichotomy i j with q | q | q
  · have := List.pairwise_iff_getElem.1 h i j hil hjl q
    rw [hi, hj, e, ltn_irr] at this
    cases this
  · subst q
    rw [← hi, ← hj]
  · have := List.pairwise_iff_getElem.1 h j i hjl hil q
    rw [hi, hj, e, ltn_irr] at this
    cases this
theorem srv_uniq {l : List Ent} (h : SrV l) {a b : Ent} (ha : a ∈ l) (hb : b ∈ l) (e : a.2 = b.2) : a = b := by
  obtain ⟨i, hi⟩ := List.mem_iff_getElem?.1 ha
  obtain ⟨j, hj⟩ := List.mem_iff_getElem?.1 hb
  obtain ⟨hil, hi⟩ := List.getElem?_eq_some_iff.1 hi
  obtain ⟨hjl, hj⟩ := List.getElem?_eq_some_iff.1 hj
  rcases Nat.lt_trichotomy i j with q | q | q
  · have := List.pairwise_iff_getElem.1 h i j hil hjl q
    rw [hi, hj, e] at this
    omega
  · subst q
    rw [← hi, ← hj]
  · have := List.pairwise_iff_getElem.1 h j i hjl hil q
    rw [hi, hj, e] at this
    omega
theorem atN_get {l : List Ent} (h : SrN l) {e : Ent} (he : e ∈ l) : l[atN l e.1]? = some e := by
  have hi := (isNm_iff h e.1).2 ⟨e, he, rfl⟩
  unfold isNm at hi
  cases hx : l[atN l e.1]? with
  | none => rw [hx] at hi; cases hi
  | some x =>
    rw [hx] at hi
    rw [srn_uniq h (List.mem_of_getElem? hx) he (by simpa using hi)]
theorem atV_get {l : List Ent} (h : SrV l) {e : Ent} (he : e ∈ l) : l[atV l (e.2 : Int)]? = some e := by
  have hi := (isVr_iff h (e.2 : Int)).2 ⟨e, he, rfl⟩
  unfold isVr at hi
  cases hx : l[atV l (e.2 : Int)]? with
  | none => rw [hx] at hi; cases hi
  | some x =>
    rw [hx] at hi
    have hi : (x.2 : Int) = (e.2 : Int) := by simpa using hi
    rw [srv_uniq h (List.mem_of_getElem? hx) he (by omega)]
theorem blks_cons (m : Nat) : ∃ r, blks (m + 1) = m :: r := by
  unfold blks bkw
  rw [List.range_succ_eq_map]
  exact ⟨_, rfl⟩
theorem find_opened {T : Tb} {ns : List (List Nat)} {k : Nat} {x : List Nat} (h0 : openC T ns = 0) (hx : ns[k]? = some x) : fnd (openT T ns) x = some T.sc.length ∧ findV (openT T ns) x = T.nx + k := by
  have h3 := (openC_ok h0).2.2.1
  obtain ⟨q1, q2⟩ := srtE_ok (l := bnd ns T.nx) (by rw [bnd_fst]; exact h3)
  have hT : openT T ns = { T with sc := T.sc ++ [(srtE (bnd ns T.nx), bnd ns T.nx)], nx := T.nx + ns.length } := by unfold openT; rw [if_pos h0]
  have hm : (x, T.nx + k) ∈ srtE (bnd ns T.nx) := q2.mem_iff.2 (List.mem_of_getElem? (bnd_at hx))
  have hn : nmAt (openT T ns) T.sc.length = srtE (bnd ns T.nx) := by
    rw [hT]
    unfold nmAt
    simp
  have hf : fnd (openT T ns) x = some T.sc.length := by
    obtain ⟨r, hr⟩ := blks_cons T.sc.length
    have hl : (openT T ns).sc.length = T.sc.length + 1 := by rw [hT]; simp
    unfold fnd
    rw [hl, hr, List.find?_cons_of_pos]
    rw [hn]
    exact (isNm_iff q1 x).2 ⟨_, hm, rfl⟩
  refine ⟨hf, ?_⟩
  unfold findV
  rw [hf]
  show (((nmAt (openT T ns) T.sc.length)[atN (nmAt (openT T ns) T.sc.length) x]?).map (·.2)).getD 0 = _
  rw [hn, atN_get q1 hm]
  rfl
/-- all of some lists opened -/
def opensT (T : Tb) (L : List (List (List Nat))) : Tb := L.foldl openT T
theorem opensT_take {T : Tb} {L : List (List (List Nat))} {j : Nat} {a : List (List Nat)} (h : L[j]? = some a) : opensT T (L.take (j + 1)) = openT (opensT T (L.take j)) a := by
  unfold opensT
  rw [List.take_add_one, h, List.foldl_append]
  rfl
theorem GoodT.opens : ∀ {L : List (List (List Nat))} {T : Tb}, GoodT T → (∀ a ∈ L, ∀ x ∈ a, Codes x) → GoodT (opensT T L)
  | [], T, h, _ => h
  | a :: r, T, h, hc => GoodT.opens (L := r) (T := Go.Proofs.YtcjljfjgekiocaaGreatDoor.openT T a) (h.openT (hc a (by simp))) fun b hb => hc b (by simp [hb])
theorem opensT_sc : ∀ (L : List (List (List Nat))) (T : Tb), ∃ E, (opensT T L).sc = T.sc ++ E ∧ (opensT T L).dn = T.dn ∧ (opensT T L).dv = T.dv
  | [], T => ⟨[], by simp [opensT], rfl, rfl⟩
  | a :: r, T => by
    obtain ⟨E, h1, h2, h3⟩ := opensT_sc r (openT T a)
    have he : opensT T (a :: r) = opensT (openT T a) r := rfl
    rw [he, h1, h2, h3]
    unfold openT
    split
    · exact ⟨(srtE (bnd a T.nx), bnd a T.nx) :: E, by simp, rfl, rfl⟩
    · exact ⟨E, rfl, rfl, rfl⟩
/-- some scopes closed -/
def clsT (T : Tb) (j : Nat) : Tb := { T with sc := T.sc.take (T.sc.length - j) }
theorem clsT_zero (T : Tb) : clsT T 0 = T := by
  unfold clsT
  rw [Nat.sub_zero, List.take_length]
theorem clsT_len (T : Tb) (j : Nat) : (clsT T j).sc.length = T.sc.length - j := by
  unfold clsT
  rw [List.length_take]
  omega
theorem closeT_cls {T : Tb} {j : Nat} (h : j < T.sc.length) : closeT (clsT T j) = clsT T (j + 1) := by
  have hl := clsT_len T j
  unfold closeT clsT at *
  simp only [List.dropLast_eq_take, List.take_take] at *
  rw [hl]
  congr 2
  omega
theorem closeC_cls {T : Tb} {j : Nat} (h : j < T.sc.length) : closeC (clsT T j) = 0 := by
  unfold closeC
  rw [clsT_len, if_neg (by omega)]
theorem GoodT.cls {T : Tb} (h : GoodT T) : ∀ {j : Nat}, j ≤ T.sc.length → GoodT (clsT T j)
  | 0, _ => by rw [clsT_zero]; exact h
  | j + 1, hj => by
    rw [← closeT_cls (by omega)]
    exact (GoodT.cls h (by omega)).closeT
theorem find_back (T : Tb) (L : List (List (List Nat))) (x : List Nat) :
    fnd (clsT (opensT T L) ((opensT T L).sc.length - T.sc.length)) x = fnd T x ∧ findV (clsT (opensT T L) ((opensT T L).sc.length - T.sc.length)) x = findV T x := by
  obtain ⟨E, h1, h2, h3⟩ := opensT_sc L T
  have e : clsT (opensT T L) ((opensT T L).sc.length - T.sc.length) = { T with nx := (opensT T L).nx } := by
    unfold clsT
    rw [h1, h2, h3, show (T.sc ++ E).length - ((T.sc ++ E).length - T.sc.length) = T.sc.length by simp, List.take_left]
  rw [e]
  exact ⟨rfl, rfl⟩
end Go.Proofs.YtcjljfjgekiocaaGreatDoor

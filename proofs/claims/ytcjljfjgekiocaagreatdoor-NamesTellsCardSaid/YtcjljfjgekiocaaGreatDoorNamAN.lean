/- The math of NamesBack: what Find tells is what Of knows; declared names. -/
import Derived.Test.YtcjljfjgekiocaaGreatDoorNamAI
namespace Go.Proofs.YtcjljfjgekiocaaGreatDoor
open Go.RowKit Go.Shelf

set_option linter.unusedVariables false
set_option linter.unusedSimpArgs false

theorem flat_ne {α β : Type} {l : List α} {f : α → List Ent} (h : ((l.flatMap f).map (·.2)).Nodup) {i j : Nat} (hij : i < j) {x y : α} (hx : l[i]? = some x) (hy : l[j]? = some y) {a b : Ent} (ha : a ∈ f x) (hb : b ∈ f y) : a.2 ≠ b.2 := by
  rw [← List.take_append_drop j l, List.flatMap_append, List.map_append, List.nodup_append] at h
  refine h.2.2 a.2 (List.mem_map.2 ⟨a, List.mem_flatMap.2 ⟨x, ?_, ha⟩, rfl⟩) b.2 (List.mem_map.2 ⟨b, List.mem_flatMap.2 ⟨y, ?_, hb⟩, rfl⟩)
  · exact List.mem_of_getElem? (i := i) (by rw [List.getElem?_take, if_pos hij]; exact hx)
  · exact List.mem_of_getElem? (i := 0) (by rw [List.getElem?_drop]; exact hy)
/-- a variable stands in one block alone -/
theorem GoodT.one {T : Tb} (h : GoodT T) {i j : Nat} {a b : Ent} (ha : a ∈ vrAt T i) (hb : b ∈ vrAt T j) (e : a.2 = b.2) : i = j := by
  have hd := h.dj
  rw [List.map_append, List.nodup_append] at hd
  have hsc : ∀ {k : Nat} {c : Ent}, k ≠ T.sc.length → c ∈ vrAt T k → ∃ s, T.sc[k]? = some s ∧ c ∈ s.2 := fun {k} {c} hk hc => by
    unfold vrAt at hc
    rw [if_neg hk] at hc
    cases q : T.sc[k]? with
    | none => rw [q] at hc; cases hc
    | some s => rw [q] at hc; exact ⟨s, rfl, hc⟩
  have hdv : ∀ {k : Nat} {c : Ent}, k = T.sc.length → c ∈ vrAt T k → c ∈ T.dv := fun hk hc => by
    unfold vrAt at hc
    rwa [if_pos hk] at hc
  by_cases hi : i = T.sc.length
  · by_cases hj : j = T.sc.length
    · rw [hi, hj]
    · obtain ⟨s, hs, hm⟩ := hsc hj hb
      exact absurd e (hd.2.2 a.2 (List.mem_map.2 ⟨a, hdv hi ha, rfl⟩) b.2 (List.mem_map.2 ⟨b, List.mem_flatMap.2 ⟨s, List.mem_of_getElem? hs, hm⟩, rfl⟩))
  · obtain ⟨s, hs, hm⟩ := hsc hi ha
    by_cases hj : j = T.sc.length
    · exact absurd e.symm (hd.2.2 b.2 (List.mem_map.2 ⟨b, hdv hj hb, rfl⟩) a.2 (List.mem_map.2 ⟨a, List.mem_flatMap.2 ⟨s, List.mem_of_getElem? hs, hm⟩, rfl⟩))
    · obtain ⟨s', hs', hm'⟩ := hsc hj hb
      rcases Nat.lt_trichotomy i j with q | q | q
      · exact absurd e (flat_ne (β := Ent) hd.2.1 q hs hs' hm hm')
      · exact q
      · exact absurd e.symm (flat_ne (β := Ent) hd.2.1 q hs' hs hm' hm)
theorem GoodT.same {T : Tb} (h : GoodT T) {i : Nat} {e : Ent} : e ∈ nmAt T i ↔ e ∈ vrAt T i := by
  unfold nmAt vrAt
  by_cases hi : i = T.sc.length
  · rw [if_pos hi, if_pos hi]
    exact h.perm.symm.mem_iff
  · rw [if_neg hi, if_neg hi]
    cases q : T.sc[i]? with
    | none => exact Iff.rfl
    | some s => exact (h.scs s (List.mem_of_getElem? q)).2.2.1.mem_iff
theorem GoodT.entry {T : Tb} (h : GoodT T) {i : Nat} {e : Ent} (he : e ∈ nmAt T i) : Codes e.1 ∧ e.1.length ≤ 64 ∧ isN e.1 = true ∧ e.2 < T.nx := by
  unfold nmAt at he
  by_cases hi : i = T.sc.length
  · rw [if_pos hi] at he
    exact h.ok e he
  · rw [if_neg hi] at he
    cases q : T.sc[i]? with
    | none => rw [q] at he; cases he
    | some s =>
      rw [q] at he
      obtain ⟨h1, h2, h3, h4, h5⟩ := h.scs s (List.mem_of_getElem? q)
      exact h5 e (h3.mem_iff.1 he)
theorem blks_mem {m i : Nat} : i ∈ blks m ↔ i ≤ m := by
  unfold blks bkw
  simp only [List.mem_append, List.mem_map, List.mem_range, List.mem_singleton]
  constructor
  · rintro (⟨j, hj, rfl⟩ | rfl) <;> omega
  · intro hi
    by_cases q : i = m
    · exact .inr q
    · exact .inl ⟨m - 1 - i, by omega, by omega⟩
/-- what stands in a block is known by its variable -/
theorem of_entry {T : Tb} (h : GoodT T) {i : Nat} {e : Ent} (hi : i ≤ T.sc.length) (he : e ∈ nmAt T i) : (ofd T (e.2 : Int)).isSome = true ∧ ofV T (e.2 : Int) = e.1 := by
  have hv := h.same.1 he
  have hex : (ofd T (e.2 : Int)).isSome = true := by
    unfold ofd
    rw [List.find?_isSome]
    exact ⟨i, blks_mem.2 hi, (isVr_iff (h.nm i).2.1 _).2 ⟨e, hv, rfl⟩⟩
  refine ⟨hex, ?_⟩
  obtain ⟨j, hj⟩ := Option.isSome_iff_exists.1 hex
  unfold ofV
  rw [hj]
  show (((vrAt T j)[atV (vrAt T j) (e.2 : Int)]?).map (·.1)).getD [] = _
  unfold ofd at hj
  have hj2 : isVr (vrAt T j) (e.2 : Int) = true := List.find?_some (p := fun i => isVr (vrAt T i) (e.2 : Int)) hj
  obtain ⟨e', he', hq⟩ := (isVr_iff (h.nm j).2.1 _).1 hj2
  have hji : j = i := h.one he' hv (by omega)
  subst hji
  rw [atV_get (h.nm j).2.1 hv]
  rfl
theorem find_entry {T : Tb} (h : GoodT T) {x : List Nat} (hx : (fnd T x).isSome = true) : ∃ i e, i ≤ T.sc.length ∧ e ∈ nmAt T i ∧ e.1 = x ∧ findV T x = e.2 ∧ fnd T x = some i := by
  obtain ⟨i, hi⟩ := Option.isSome_iff_exists.1 hx
  have hi2 := hi
  unfold fnd at hi2
  have hi3 : isNm (nmAt T i) x = true := List.find?_some (p := fun i => isNm (nmAt T i) x) hi2
  obtain ⟨e, he, rfl⟩ := (isNm_iff (h.nm i).1 _).1 hi3
  refine ⟨i, e, blks_mem.1 (List.mem_of_find?_eq_some hi2), he, rfl, ?_, hi⟩
  unfold findV
  rw [hi]
  show (((nmAt T i)[atN (nmAt T i) e.1]?).map (·.2)).getD 0 = _
  rw [atN_get (h.nm i).1 he]
  rfl
theorem back_find {T : Tb} (h : GoodT T) {x : List Nat} (hx : (fnd T x).isSome = true) : (ofd T (findV T x : Int)).isSome = true ∧ ofV T (findV T x : Int) = x ∧ findV T x < T.nx ∧ isN x = true := by
  obtain ⟨i, e, hi, he, rfl, hf, -⟩ := find_entry h hx
  obtain ⟨h1, h2⟩ := of_entry h hi he
  obtain ⟨-, -, h3, h4⟩ := h.entry he
  rw [hf]
  exact ⟨h1, h2, h4, h3⟩
/-- a declared name -/
theorem back_decl {T : Tb} (h : GoodT T) {e : Ent} (he : e ∈ T.dn) : (ofd T (e.2 : Int)).isSome = true ∧ ofV T (e.2 : Int) = e.1 ∧ (fnd T e.1).isSome = true ∧ (T.sc.length = 0 → findV T e.1 = e.2) := by
  have hn : nmAt T T.sc.length = T.dn := by unfold nmAt; rw [if_pos rfl]
  obtain ⟨h1, h2⟩ := of_entry h (Nat.le_refl _) (by rw [hn]; exact he)
  have h3 : (fnd T e.1).isSome = true := by
    unfold fnd
    rw [List.find?_isSome]
    exact ⟨T.sc.length, blks_mem.2 (Nat.le_refl _), by rw [hn]; exact (isNm_iff h.srn _).2 ⟨e, he, rfl⟩⟩
  refine ⟨h1, h2, h3, fun h0 => ?_⟩
  obtain ⟨i, e', hi, he', h5, hf, -⟩ := find_entry h h3
  have hi0 : i = T.sc.length := by omega
  rw [hi0, hn] at he'
  rw [hf, srn_uniq h.srn he' he h5]
theorem decl_ne {T : Tb} (h : GoodT T) {i k : Nat} {a b : Ent} (hik : k < i) (ha : T.dn[i]? = some a) (hb : T.dn[k]? = some b) : b.2 ≠ a.2 := by
  have hn : (T.dn.map (·.2)).Nodup := by
    rw [← (h.perm.map (·.2)).nodup_iff, List.Nodup, List.pairwise_map]
    exact h.srv.imp fun hab e => by omega
  have h1 := List.pairwise_iff_getElem.1 hn k i (by rw [List.length_map]; exact (List.getElem?_eq_some_iff.1 hb).1) (by rw [List.length_map]; exact (List.getElem?_eq_some_iff.1 ha).1) hik
  simp only [List.getElem_map] at h1
  rwa [(List.getElem?_eq_some_iff.1 hb).2, (List.getElem?_eq_some_iff.1 ha).2] at h1
theorem decl_lt {T : Tb} (h : GoodT T) {i : Nat} {a b : Ent} (ha : T.dn[i + 1]? = some a) (hb : T.dn[i]? = some b) : ltn b.1 a.1 = true := by
  have h1 := List.pairwise_iff_getElem.1 h.srn i (i + 1) (List.getElem?_eq_some_iff.1 hb).1 (List.getElem?_eq_some_iff.1 ha).1 (Nat.lt_succ_self _)
  rwa [(List.getElem?_eq_some_iff.1 hb).2, (List.getElem?_eq_some_iff.1 ha).2] at h1
end Go.Proofs.YtcjljfjgekiocaaGreatDoor

/- A table stays good: New, Declare, Open, Close. -/
import Derived.Test.YtcjljfjgekiocaaGreatDoorNamO
import Derived.Test.YtcjljfjgekiocaaGreatDoorNamT
namespace Go.Proofs.YtcjljfjgekiocaaGreatDoor
open Go.RowKit Go.Shelf

set_option linter.unusedVariables false
set_option linter.unusedSimpArgs false

theorem GoodT.new : GoodT ⟨[], [], [], 0⟩ where
  srn := List.Pairwise.nil
  srv := List.Pairwise.nil
  perm := List.Perm.refl _
  ok := fun e he => by cases he
  scs := fun s hs => by cases hs
  nx := by decide
  dl := by decide
  sl := by decide
  dj := by simp
theorem insN_srn {l : List Ent} {x : Ent} (h : SrN l) (hn : isNm l x.1 = false) : SrN (insN l x) := by
  have hd := h.dwn x.1
  have hno : ∀ e ∈ l, e.1 ≠ x.1 := fun e he q => by
    have := (isNm_iff h x.1).2 ⟨e, he, q⟩
    rw [hn] at this
    cases this
  have h2 := h
  rw [← List.take_append_drop (atN l x.1) l] at h2
  obtain ⟨p1, p2, p3⟩ := List.pairwise_append.1 h2
  have ha : ∀ a ∈ l.take (atN l x.1), ltn a.1 x.1 = true := fun a ha => by
    obtain ⟨i, hi⟩ := List.mem_iff_getElem?.1 ha
    rw [List.getElem?_take] at hi
    split at hi
    · rename_i hlt
      exact (pos_iff hd hi).2 hlt
    · cases hi
  have hb : ∀ b ∈ l.drop (atN l x.1), ltn x.1 b.1 = true := fun b hb => by
    obtain ⟨i, hi⟩ := List.mem_iff_getElem?.1 hb
    rw [List.getElem?_drop] at hi
    cases q : ltn x.1 b.1 with
    | true => rfl
    | false =>
      have h1 : ltn b.1 x.1 = false := by
        cases r : ltn b.1 x.1 with
        | false => rfl
        | true =>
          have : atN l x.1 + i < atN l x.1 := (pos_iff hd hi).1 r
          omega
      exact absurd (ltn_tri h1 q) (hno b (List.mem_of_getElem? hi))
  unfold insN
  refine List.pairwise_append.2 ⟨p1, List.pairwise_cons.2 ⟨hb, p2⟩, fun a haa b hbb => ?_⟩
  rcases List.mem_cons.1 hbb with rfl | hbb
  · exact ha a haa
  · exact p3 a haa b hbb
theorem insN_perm (l : List Ent) (x : Ent) : (insN l x).Perm (x :: l) := by
  unfold insN
  have := List.perm_middle (a := x) (l₁ := l.take (atN l x.1)) (l₂ := l.drop (atN l x.1))
  rwa [List.take_append_drop] at this
/-- all variables that are there lie below the next one -/
theorem GoodT.low {T : Tb} (h : GoodT T) : ∀ v ∈ (T.dv ++ T.sc.flatMap (·.2)).map (·.2), v < T.nx := fun v hv => by
  obtain ⟨e, he, rfl⟩ := List.mem_map.1 hv
  rcases List.mem_append.1 he with q | q
  · exact (h.ok e (h.perm.mem_iff.1 q)).2.2.2
  · obtain ⟨s, hs, q⟩ := List.mem_flatMap.1 q
    exact ((h.scs s hs).2.2.2.2 e q).2.2.2
theorem GoodT.decl {T : Tb} {L : List Nat} (h : GoodT T) (hc : Codes L) (hz : declC T L = 0) : GoodT { dn := insN T.dn (L, T.nx), dv := T.dv ++ [(L, T.nx)], sc := T.sc, nx := T.nx + 1 } := by
  have h1 : isN L = true := by
    cases q : isN L with
    | true => rfl
    | false => simp [declC, q] at hz
  have h2 : isNm T.dn L = false := by
    cases q : isNm T.dn L with
    | false => rfl
    | true => simp [declC, h1, q] at hz
  have h3 : ¬ (T.dn.length = 4096 ∨ 1048576 - T.nx = 0) := fun q => by
    unfold declC at hz
    rw [if_neg (by rw [h1]; decide), if_neg (by rw [h2]; decide), if_pos q] at hz
    cases hz
  have hd := h.dl
  have hx := h.nx
  refine ⟨insN_srn h.srn h2, ?_, ?_, ?_, ?_, by show T.nx + 1 ≤ _; omega, ?_, h.sl, ?_⟩
  · refine List.pairwise_append.2 ⟨h.srv, List.pairwise_singleton _ _, fun a ha b hb => ?_⟩
    rw [List.mem_singleton.1 hb]
    exact (h.ok a (h.perm.mem_iff.1 ha)).2.2.2
  · exact ((List.perm_append_comm).trans (h.perm.cons _)).trans (insN_perm _ _).symm
  · intro e he
    rcases List.mem_cons.1 ((insN_perm _ _).mem_iff.1 he) with rfl | q
    · exact ⟨hc, isN_len h1, h1, Nat.lt_succ_self _⟩
    · obtain ⟨q1, q2, q3, q4⟩ := h.ok e q
      exact ⟨q1, q2, q3, Nat.lt_succ_of_lt q4⟩
  · intro s hs
    obtain ⟨q1, q2, q3, q4, q5⟩ := h.scs s hs
    exact ⟨q1, q2, q3, q4, fun e he => ⟨(q5 e he).1, (q5 e he).2.1, (q5 e he).2.2.1, Nat.lt_succ_of_lt (q5 e he).2.2.2⟩⟩
  · show (insN T.dn (L, T.nx)).length ≤ 4096
    rw [(insN_perm _ _).length_eq, List.length_cons]
    omega
  · show (((T.dv ++ [(L, T.nx)]) ++ T.sc.flatMap (·.2)).map (·.2)).Nodup
    have hp : (((T.dv ++ [(L, T.nx)]) ++ T.sc.flatMap (·.2)).map (·.2)).Perm (T.nx :: (T.dv ++ T.sc.flatMap (·.2)).map (·.2)) := by
      rw [List.append_assoc]
      exact List.Perm.map (fun x : Ent => x.2) (List.perm_middle (a := (L, T.nx)) (l₁ := T.dv) (l₂ := T.sc.flatMap (·.2)))
    rw [hp.nodup_iff, List.nodup_cons]
    exact ⟨fun q => Nat.lt_irrefl _ (h.low _ q), h.dj⟩
theorem GoodT.opened {T : Tb} {ns : List (List Nat)} {l : List Ent} (h : GoodT T) (hc : ∀ x ∈ ns, Codes x) (h0 : ns ≠ []) (hn : (ns.any fun x => !isN x) = false) (hq : T.sc.length < 64) (hq2 : ns.length ≤ 1048576 - T.nx) (hp : l.Perm (bnd ns T.nx)) (hs : SrN l) :
    GoodT { T with sc := T.sc ++ [(l, bnd ns T.nx)], nx := T.nx + ns.length } := by
  have hx := h.nx
  have hpos : 0 < ns.length := by
    cases ns with
    | nil => exact absurd rfl h0
    | cons a r => simp
  refine ⟨h.srn, h.srv, h.perm, fun e he => ?_, fun s hs2 => ?_, by show T.nx + ns.length ≤ _; omega, h.dl, ?_, ?_⟩
  · obtain ⟨q1, q2, q3, q4⟩ := h.ok e he
    exact ⟨q1, q2, q3, by show _ < T.nx + ns.length; omega⟩
  · rcases List.mem_append.1 hs2 with q | q
    · obtain ⟨q1, q2, q3, q4, q5⟩ := h.scs s q
      exact ⟨q1, q2, q3, q4, fun e he => ⟨(q5 e he).1, (q5 e he).2.1, (q5 e he).2.2.1, by have := (q5 e he).2.2.2; show _ < T.nx + ns.length; omega⟩⟩
    · rw [List.mem_singleton.1 q]
      refine ⟨hs, bnd_srV _ _, hp, fun e => ?_, fun e he => ?_⟩
      · have : (bnd ns T.nx).length = 0 := by rw [show bnd ns T.nx = [] from e]; rfl
        rw [bnd_len] at this
        omega
      · obtain ⟨q1, q2, q3⟩ := bnd_mem he
        have hi : isN e.1 = true := by
          have := List.any_eq_false.1 hn e.1 q1
          simpa using this
        exact ⟨hc _ q1, isN_len hi, hi, q3⟩
  · show (T.sc ++ [(l, bnd ns T.nx)]).length ≤ 64
    rw [List.length_append]
    exact hq
  · show ((T.dv ++ (T.sc ++ [(l, bnd ns T.nx)]).flatMap (·.2)).map (·.2)).Nodup
    rw [List.flatMap_append, ← List.append_assoc, List.map_append, List.nodup_append]
    refine ⟨h.dj, ?_, fun a ha b hb e => ?_⟩
    · simp only [List.flatMap_cons, List.flatMap_nil, List.append_nil]
      rw [List.Nodup, List.pairwise_map]
      exact (bnd_srV ns T.nx).imp fun hab e => by omega
    · have h1 := h.low a ha
      simp only [List.flatMap_cons, List.flatMap_nil, List.append_nil] at hb
      obtain ⟨y, hy, rfl⟩ := List.mem_map.1 hb
      obtain ⟨-, h2, -⟩ := bnd_mem hy
      omega
theorem GoodT.closed {T : Tb} (h : GoodT T) : GoodT { T with sc := T.sc.dropLast } := by
  refine ⟨h.srn, h.srv, h.perm, h.ok, fun s hs => h.scs s (List.dropLast_subset _ hs), h.nx, h.dl, ?_, ?_⟩
  · show T.sc.dropLast.length ≤ 64
    have := h.sl
    rw [List.length_dropLast]
    omega
  · show ((T.dv ++ T.sc.dropLast.flatMap (·.2)).map (·.2)).Nodup
    have hd := h.dj
    by_cases h0 : T.sc = []
    · rw [h0] at hd ⊢
      exact hd
    · rw [← List.dropLast_concat_getLast h0, List.flatMap_append, ← List.append_assoc, List.map_append] at hd
      exact (List.nodup_append.1 hd).1
end Go.Proofs.YtcjljfjgekiocaaGreatDoor

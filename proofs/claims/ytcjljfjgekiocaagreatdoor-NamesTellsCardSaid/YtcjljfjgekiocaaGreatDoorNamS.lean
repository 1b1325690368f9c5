/- Contract: Find. -/
import Derived.Test.YtcjljfjgekiocaaGreatDoorNamR
import Derived.Test.YtcjljfjgekiocaaGreatDoorNamM
namespace Go.Proofs.YtcjljfjgekiocaaGreatDoor
open Go.RowKit Go.Shelf

attribute [local go_sem] Oper.semAt_some
set_option linter.unusedVariables false
set_option linter.unusedSimpArgs false

/-- the entries of a block, by its number -/
def nmAt (T : Tb) (i : Nat) : List Ent := if i = T.sc.length then T.dn else ((T.sc[i]?).map (·.1)).getD []
def vrAt (T : Tb) (i : Nat) : List Ent := if i = T.sc.length then T.dv else ((T.sc[i]?).map (·.2)).getD []
def sdOf (v : Value) : SD := match v with
  | .slice A n c => (A, n, c)
  | _ => (none, 0, 0)
def sdAt (a b : Value) (xs : List Value) (m i : Nat) : SD × SD := if i = m then (sdOf a, sdOf b) else if i < m then (sdOf (xs[i * 2]?.getD undef), sdOf (xs[i * 2 + 1]?.getD undef)) else ((none, 0, 0), (none, 0, 0))
theorem tab_rd {w : World} {B g : Nat} {T : Tb} {a b s : Value} {xs : List Value} {k0 : List Nat} (h : TabV w B g T a b s xs k0) :
    ∃ (f : Nat → SD × SD) (A : Option Addr) (c : Nat), w.heap[g]? = some (.cells #[sv (f T.sc.length).1, sv (f T.sc.length).2, .slice A T.sc.length c, .int .i64 ((T.nx : Nat) : Int)] 65 (0, 0)) ∧ RdB w w.heap.size A T.sc.length f ∧
      ∀ i, ∃ A1 c1 A2 c2, f i = ((A1, (nmAt T i).length, c1), (A2, (vrAt T i).length, c2)) ∧ RdE w A1 (nmAt T i) ∧ RdE w A2 (vrAt T i) := by
  obtain ⟨A, c, rfl⟩ := nslice_form h.row
  obtain ⟨A1, c1, rfl, r1⟩ := h.dn.form
  obtain ⟨A2, c2, rfl, r2⟩ := h.dv.form
  have hx : ∀ i, i < T.sc.length → ∃ A1 c1 A2 c2, xs[i * 2]? = some (.slice A1 (nmAt T i).length c1) ∧ xs[i * 2 + 1]? = some (.slice A2 (vrAt T i).length c2) ∧ RdE w A1 (nmAt T i) ∧ RdE w A2 (vrAt T i) := fun i hi => by
    obtain ⟨v, u, q1, q2, q3, q4⟩ := h.scs.at (i := i) (List.getElem?_eq_getElem hi)
    obtain ⟨B1, d1, rfl, s1⟩ := q3.form
    obtain ⟨B2, d2, rfl, s2⟩ := q4.form
    have e1 : nmAt T i = (T.sc[i]'hi).1 := by unfold nmAt; rw [if_neg (by omega), List.getElem?_eq_getElem hi]; rfl
    have e2 : vrAt T i = (T.sc[i]'hi).2 := by unfold vrAt; rw [if_neg (by omega), List.getElem?_eq_getElem hi]; rfl
    rw [e1, e2]
    exact ⟨_, _, _, _, q1, q2, s1, s2⟩
  refine ⟨sdAt (.slice A1 T.dn.length c1) (.slice A2 T.dv.length c2) xs T.sc.length, A, c, ?_, ?_, fun i => ?_⟩
  · have e : sdAt (.slice A1 T.dn.length c1) (.slice A2 T.dv.length c2) xs T.sc.length T.sc.length = ((A1, T.dn.length, c1), (A2, T.dv.length, c2)) := by unfold sdAt; rw [if_pos rfl]; rfl
    rw [e]
    exact h.cell
  · by_cases h0 : T.sc.length = 0
    · exact .inl h0
    · obtain ⟨gs, rfl, -, hlt, hc⟩ := nrow_cells h.row (by omega)
      refine .inr ⟨gs, 0, rfl, hlt, fun j hj => ?_⟩
      obtain ⟨B1, d1, B2, d2, q1, q2, -, -⟩ := hx j hj
      have e : sdAt (.slice A1 T.dn.length c1) (.slice A2 T.dv.length c2) xs T.sc.length j = ((B1, (nmAt T j).length, d1), (B2, (vrAt T j).length, d2)) := by unfold sdAt; rw [if_neg (by omega), if_pos hj, q1, q2]; rfl
      rw [e, Nat.zero_add]
      exact ⟨hc _ _ q1, hc _ _ q2⟩
  · by_cases hm : i = T.sc.length
    · refine ⟨A1, c1, A2, c2, ?_, ?_, ?_⟩
      · unfold sdAt nmAt vrAt; rw [if_pos hm, if_pos hm, if_pos hm]; rfl
      · unfold nmAt; rw [if_pos hm]; exact r1
      · unfold vrAt; rw [if_pos hm]; exact r2
    · by_cases hi : i < T.sc.length
      · obtain ⟨B1, d1, B2, d2, q1, q2, s1, s2⟩ := hx i hi
        exact ⟨B1, d1, B2, d2, by unfold sdAt; rw [if_neg hm, if_pos hi, q1, q2]; rfl, s1, s2⟩
      · have e1 : nmAt T i = [] := by unfold nmAt; rw [if_neg hm, List.getElem?_eq_none (by omega)]; rfl
        have e2 : vrAt T i = [] := by unfold vrAt; rw [if_neg hm, List.getElem?_eq_none (by omega)]; rfl
        exact ⟨none, 0, none, 0, by unfold sdAt; rw [if_neg hm, if_neg hi, e1, e2]; rfl, by rw [e1]; exact .inl rfl, by rw [e2]; exact .inl rfl⟩
theorem GoodT.nm {T : Tb} (h : GoodT T) (i : Nat) : SrN (nmAt T i) ∧ SrV (vrAt T i) ∧ (∀ e ∈ nmAt T i, Codes e.1) ∧ (∀ e ∈ vrAt T i, Codes e.1) ∧ (nmAt T i).length = (vrAt T i).length := by
  unfold nmAt vrAt
  by_cases hm : i = T.sc.length
  · rw [if_pos hm, if_pos hm]
    exact ⟨h.srn, h.srv, fun e he => (h.ok e he).1, fun e he => (h.ok e (h.perm.mem_iff.1 he)).1, h.vl.symm⟩
  · rw [if_neg hm, if_neg hm]
    cases hs : T.sc[i]? with
    | none => exact ⟨List.Pairwise.nil, List.Pairwise.nil, fun e he => by simp at he, fun e he => by simp at he, rfl⟩
    | some s =>
      obtain ⟨h1, h2, h3, -, h5⟩ := h.scs s (List.mem_of_getElem? hs)
      exact ⟨h1, h2, fun e he => (h5 e (h3.mem_iff.1 he)).1, fun e he => (h5 e he).1, h3.length_eq⟩
/-- the block that has the name -/
def fnd (T : Tb) (L : List Nat) : Option Nat := (blks T.sc.length).find? fun i => isNm (nmAt T i) L
def findV (T : Tb) (L : List Nat) : Nat := match fnd T L with
  | some i => (((nmAt T i)[atN (nmAt T i) L]?).map (·.2)).getD 0
  | none => 0
theorem find_first {l p : List Nat} {q : Nat → Bool} {i k : Nat} (h : l.take k = p ++ [i]) (hp : ∀ j ∈ p, q j = false) (hi : q i = true) : l.find? q = some i := by
  have e : l = l.take k ++ l.drop k := (List.take_append_drop k l).symm
  rw [e, List.find?_append, h, List.find?_append, List.find?_eq_none.2 fun j hj => by rw [hp j hj]; decide]
  simp [hi]
theorem blocks_in (n : Nat) (v : Option Addr) (w : World) :
    CallsIn Fence.wide n Tryz.prog 45 #[.pointer v] w fun e w' => e = .returned (.func (.func 66) #[] #[.pointer (some ⟨w.heap.size, 0, none⟩)]) ∧ w' = w.alloc (.cells #[.pointer v] 27) := by
  refine callsIn_of_wp Tryz.func45 rfl trivial ?_ rfl
  simp only [Tryz.ntmps45, List.size_toArray, List.length_cons, List.length_nil, Nat.reduceAdd, Nat.reduceSub, Array.replicate_succ, Array.replicate_zero, List.push_toArray, List.append_toArray, List.nil_append, List.cons_append]
  gi_wp2
  go_ret
  exact ⟨rfl, rfl⟩
end Go.Proofs.YtcjljfjgekiocaaGreatDoor

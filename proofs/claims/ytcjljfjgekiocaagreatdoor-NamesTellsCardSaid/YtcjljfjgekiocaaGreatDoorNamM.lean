/- What Open does: in plain functions; a table that takes a scope. -/
import Derived.Test.YtcjljfjgekiocaaGreatDoorNamL
namespace Go.Proofs.YtcjljfjgekiocaaGreatDoor
open Go.RowKit Go.Shelf Go.Lib

set_option linter.unusedVariables false
set_option linter.unusedSimpArgs false

theorem adjF_cons : ∀ {r : List Ent} {e : Ent}, SrW (e :: r) → adjF (some e.1) r = false → SrN (e :: r)
  | [], e, _, _ => List.pairwise_singleton _ _
  | f :: r, e, h, ha => by
    unfold adjF at ha
    simp only [Bool.or_eq_false_iff, decide_eq_false_iff_not] at ha
    obtain ⟨h1, h2⟩ := ha
    have hw : SrW (f :: r) := (List.pairwise_cons.1 h).2
    have ih := adjF_cons hw h2
    have hef : ltn e.1 f.1 = true := by
      cases q : ltn e.1 f.1 with
      | true => rfl
      | false => exact absurd (congrArg some (ltn_tri q ((List.pairwise_cons.1 h).1 f (by simp)))) h1
    refine List.pairwise_cons.2 ⟨fun x hx => ?_, ih⟩
    rcases List.mem_cons.1 hx with rfl | hx
    · exact hef
    · exact ltn_trans hef ((List.pairwise_cons.1 ih).1 x hx)
theorem adjF_srt {l : List Ent} (h : SrW l) (ha : adjF none l = false) : SrN l := by
  cases l with
  | nil => exact List.Pairwise.nil
  | cons e r =>
    unfold adjF at ha
    simp only [Bool.or_eq_false_iff] at ha
    exact adjF_cons h ha.2
theorem SrN.names {l : List Ent} (h : SrN l) : (l.map (·.1)).Nodup := by
  rw [List.Nodup, List.pairwise_map]
  refine h.imp fun {a b} hab e => ?_
  rw [e, ltn_irr] at hab
  exact absurd hab (by decide)
theorem adjF_no : ∀ {l : List Ent} {p : Option (List Nat)}, (l.map (·.1)).Nodup → (∀ e ∈ l, p ≠ some e.1) → adjF p l = false
  | [], p, _, _ => rfl
  | e :: r, p, h, hp => by
    rw [List.map_cons, List.nodup_cons] at h
    unfold adjF
    rw [adjF_no h.2 fun x hx q => h.1 (by
      injection q with q
      rw [q]
      exact List.mem_map.2 ⟨x, hx, rfl⟩)]
    have := hp e (by simp)
    simp [this]
theorem bnd_fst (ns : List (List Nat)) (n : Nat) : (bnd ns n).map (·.1) = ns := by
  unfold bnd
  rw [List.map_map]
  apply List.ext_getElem?
  intro i
  simp
  cases ns[i]? <;> simp
theorem adj_dup {l : List Ent} {ns : List (List Nat)} {n : Nat} (hp : l.Perm (bnd ns n)) (h : SrW l) : adjF none l = decide (¬ ns.Nodup) := by
  have e : (l.map (·.1)).Nodup ↔ ns.Nodup := by
    have := (hp.map (·.1)).nodup_iff
    rwa [bnd_fst] at this
  by_cases hn : ns.Nodup
  · rw [adjF_no (e.2 hn) (fun _ _ q => by cases q)]
    simp [hn]
  · cases ha : adjF none l with
    | true => simp [hn]
    | false => exact absurd (e.1 (adjF_srt h ha).names) hn
def openC (T : Tb) (ns : List (List Nat)) : Nat := if (ns = [] ∨ (ns.any fun x => !isN x) = true) then 4 else if ¬ ns.Nodup then 6 else if T.sc.length = 64 ∨ 1048576 - T.nx < ns.length then 40 else 0

theorem tks_s {g n : Nat} {a v b s : Value} {k0 : List Nat} (h : (tks g a b s k0).Nodup) (hk : ∀ k ∈ tks g a b s k0, k < n) (hv : ∀ k ∈ nblk v, k ∈ nblk s ∨ n ≤ k) : (tks g a b v k0).Nodup := by
  have e : ∀ u, tks g a b u k0 = (g :: (nblk a ++ nblk b)) ++ (nblk u ++ k0) := fun u => by simp [tks]
  rw [e] at h hk ⊢
  exact nodup_swap h (nblk_nd v) hk hv
theorem TabV.setS {V w6 : World} {B g : Nat} {T : Tb} {a v b s v8 v5 : Value} {xs : List Value} {k0 : List Nat} {l lv : List Ent} (h : TabV V B g T a b s xs k0) (hn : Nb (fun k => k ∈ nblk s) V w6) (ho : w6.ownsRow B 62 2 v (T.sc.length + 1) (xs ++ [v8, v5])) (hk : ∀ k ∈ nblk v, k ∈ nblk s ∨ V.heap.size ≤ k)
    (h8 : OwnE V B v8 l) (h5 : OwnE V B v5 lv) (hN : (nblk v8 ++ nblk v5).Nodup) (hf : ∀ k ∈ nblk v8 ++ nblk v5, k < V.heap.size ∧ k ∉ tks g a b s k0) :
    TabV (w6.setCell ⟨g, 2, none⟩ v) B g { T with sc := T.sc ++ [(l, lv)] } a b v (xs ++ [v8, v5]) (k0 ++ (nblk v8 ++ nblk v5)) := by
  have hsp : ∀ u, tks g a b u k0 = (g :: (nblk a ++ nblk b)) ++ (nblk u ++ k0) := fun u => by simp [tks]
  have hnd0 := tks_s h.nd (fun k q => (h.kind k q).2) hk
  have hnd : (tks g a b v (k0 ++ (nblk v8 ++ nblk v5))).Nodup := by
    have e : tks g a b v (k0 ++ (nblk v8 ++ nblk v5)) = tks g a b v k0 ++ (nblk v8 ++ nblk v5) := by simp [tks]
    rw [e, List.nodup_append]
    refine ⟨hnd0, hN, fun x hx y hy exy => ?_⟩
    subst exy
    obtain ⟨q1, q2⟩ := hf x hy
    simp only [tks, List.mem_cons, List.mem_append] at hx q2
    rcases hx with hx | (hx | hx) | hx
    · exact q2 (.inl hx)
    · exact q2 (.inr (.inl (.inl hx)))
    · rcases hk x hx with r | r
      · exact q2 (.inr (.inl (.inr r)))
      · omega
    · exact q2 (.inr (.inr hx))
  have hg := tks_g hnd
  have ha : ∀ k ∈ (g :: (nblk a ++ nblk b)) ++ k0, k ∉ nblk s := nodup_out (by have := h.nd; rwa [hsp] at this)
  have hs : ∀ k ∈ nblk a ++ nblk b ++ k0, (w6.setCell ⟨g, 2, none⟩ v).heap[k]? = V.heap[k]? := fun k q =>
    (Below.heap_setCell _ _ _ _ (show k ≠ g from hg k (by simp only [List.mem_append] at q ⊢; grind))).trans (hn.block k (h.kind k (by simp only [tks, List.mem_append, List.mem_cons] at q ⊢; grind)).2 (ha k (by simp only [List.mem_append, List.mem_cons] at q ⊢; grind)))
  have hs2 : ∀ k ∈ nblk v8 ++ nblk v5, (w6.setCell ⟨g, 2, none⟩ v).heap[k]? = V.heap[k]? := fun k q =>
    (Below.heap_setCell _ _ _ _ (show k ≠ g from hg k (by simp only [List.mem_append] at q ⊢; grind))).trans (hn.block k (hf k q).1 fun r => (hf k q).2 (by simp only [tks, List.mem_append, List.mem_cons]; exact .inr (.inl (.inr r))))
  refine ⟨?_, h.base, nown_block h.dn fun k q => hs k (by simp [q]), nown_block h.dv fun k q => hs k (by simp [q]), ?_, ScC.snoc (nown_block h8 fun k q => hs2 k (by simp [q])) (nown_block h5 fun k q => hs2 k (by simp [q])) (h.scs.keep fun k q => hs k (by simp [q])), hnd⟩
  · exact set_at _ ((hn.block g (kind_lt2 h.cell) (ha g (by simp))).trans h.cell)
  · show World.ownsRow _ _ _ _ _ (T.sc ++ [(l, lv)]).length _
    rw [List.length_append]
    exact nown_block ho fun k q => Below.heap_setCell _ _ _ _ (show k ≠ g from hg k (by simp [q]))
/-- what lies behind the append in Open -/
def CutO (w : World) (B g S : Nat) (T : Tb) (v8 v5 : Value) (lv : List Ent) (ks : List Nat) (R : World) : Prop := ∃ ks', TabAt R B g T ks' ∧ (∀ k ∈ ks', k ∈ ks ∨ w.heap.size ≤ k) ∧ Nb (fun k => k ∈ ks) w R ∧ S ∉ ks' ∧ R.heap[S]? = some (.cells #[v8, v5] 62 (0, 0)) ∧ (∀ k ∈ nblk v5, k ∈ ks') ∧ OwnE R B v5 lv
theorem cutO {w V w6 : World} {B g S : Nat} {T : Tb} {a v b s v8 v5 : Value} {xs : List Value} {k0 ks : List Nat} {l lv : List Ent} (h : TabV V B g T a b s xs k0) (hs : ∀ k ∈ tks g a b s k0, k ∈ ks ∨ w.heap.size ≤ k) (hw : Nb (fun k => k ∈ ks) w V)
    (hn : Nb (fun k => k ∈ nblk s) V w6) (ho : w6.ownsRow B 62 2 v (T.sc.length + 1) (xs ++ [v8, v5])) (hk : ∀ k ∈ nblk v, k ∈ nblk s ∨ V.heap.size ≤ k)
    (h8 : OwnE V B v8 l) (h5 : OwnE V B v5 lv) (hN : (nblk v8 ++ nblk v5).Nodup) (hf : ∀ k ∈ nblk v8 ++ nblk v5, k < V.heap.size ∧ k ∉ tks g a b s k0 ∧ w.heap.size ≤ k ∧ k ≠ S)
    (hS : ∀ k ∈ tks g a b s k0, k ≠ S) (hlt : S < V.heap.size) (he : w6.heap[S]? = some (.cells #[v8, v5] 62 (0, 0))) : CutO w B g S { T with sc := T.sc ++ [(l, lv)] } v8 v5 lv ks (w6.setCell ⟨g, 2, none⟩ v) := by
  have hsz := hw.size
  have hSg : S ≠ g := fun e => hS g (by simp [tks]) e.symm
  have hV := h.setS hn ho hk h8 h5 hN fun k q => ⟨(hf k q).1, (hf k q).2.1⟩
  refine ⟨tks g a b v (k0 ++ (nblk v8 ++ nblk v5)), ⟨_, _, _, _, _, hV, rfl⟩, fun k q => ?_, Nb.trans (Nb.trans hw hn (fun _ h => h) fun k hk2 q => ?_) (Nb.set _ _ _ _ (fun k => k = g) rfl) (fun _ h => h) fun k hk2 q => ?_, fun q => ?_, (Below.heap_setCell _ _ _ _ hSg).trans he, fun k q => by simp [tks, q], nown_block h5 fun k q => ?_⟩
  · simp only [tks, List.mem_cons, List.mem_append] at q hs
    rcases q with q | ((q | q) | q) | (q | q)
    · exact hs k (.inl q)
    · exact hs k (.inr (.inl (.inl (.inl q))))
    · exact hs k (.inr (.inl (.inl (.inr q))))
    · rcases hk k q with r | r
      · exact hs k (.inr (.inl (.inr r)))
      · exact .inr (by omega)
    · exact hs k (.inr (.inr q))
    · exact .inr (hf k (by simpa using q)).2.2.1
  · rcases hs k (by simp [tks, q]) with r | r
    · exact r
    · omega
  · rcases hs k (by simp [tks, q]) with r | r
    · exact r
    · omega
  · simp only [tks, List.mem_cons, List.mem_append] at q hS
    rcases q with q | ((q | q) | q) | (q | q)
    · exact hSg q
    · exact hS S (.inr (.inl (.inl (.inl q)))) rfl
    · exact hS S (.inr (.inl (.inl (.inr q)))) rfl
    · rcases hk S q with r | r
      · exact hS S (.inr (.inl (.inr r))) rfl
      · omega
    · exact hS S (.inr (.inr q)) rfl
    · exact (hf S (by simpa using q)).2.2.2 rfl
  · have q2 := hf k (by simp [q])
    have hgk : k ≠ g := fun e => q2.2.1 (by simp [tks, e])
    exact (Below.heap_setCell _ _ _ _ hgk).trans (hn.block k q2.1 fun r => q2.2.1 (by simp [tks, r]))
end Go.Proofs.YtcjljfjgekiocaaGreatDoor

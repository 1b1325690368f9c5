/- What a table becomes by calls, in plain functions; their contracts. -/
import Derived.Test.YtcjljfjgekiocaaGreatDoorNamAD
import Derived.Test.YtcjljfjgekiocaaGreatDoorNamV
import Derived.Test.YtcjljfjgekiocaaGreatDoorNamY
namespace Go.Proofs.YtcjljfjgekiocaaGreatDoor
open Go.RowKit Go.Shelf

set_option linter.unusedVariables false
set_option linter.unusedSimpArgs false

/-- entries in their row, each put where it belongs -/
def srtE (l : List Ent) : List Ent := l.foldl (fun a x => insN a x) []
theorem srtE_fold : ∀ (l a : List Ent), SrN a → ((a ++ l).map (·.1)).Nodup → SrN (l.foldl (fun a x => insN a x) a) ∧ (l.foldl (fun a x => insN a x) a).Perm (a ++ l)
  | [], a, ha, _ => ⟨ha, by simp⟩
  | x :: r, a, ha, hn => by
    have hp := insN_perm a x
    have hno : isNm a x.1 = false := by
      cases q : isNm a x.1 with
      | false => rfl
      | true =>
        obtain ⟨e, he, h1⟩ := (isNm_iff ha x.1).1 q
        rw [List.map_append, List.nodup_append] at hn
        exact absurd h1 (hn.2.2 e.1 (List.mem_map.2 ⟨e, he, rfl⟩) x.1 (by simp))
    have hp2 : (insN a x ++ r).Perm (a ++ x :: r) := (hp.append_right r).trans (by simpa using (List.perm_middle (a := x) (l₁ := a) (l₂ := r)).symm)
    obtain ⟨h1, h2⟩ := srtE_fold r (insN a x) (insN_srn ha hno) ((hp2.map _).nodup_iff.2 hn)
    exact ⟨h1, h2.trans hp2⟩
theorem srtE_ok {l : List Ent} (h : (l.map (·.1)).Nodup) : SrN (srtE l) ∧ (srtE l).Perm l := by
  unfold srtE
  simpa using srtE_fold l [] List.Pairwise.nil (by simpa using h)
theorem srn_perm {a b : List Ent} (ha : SrN a) (hb : SrN b) (h : a.Perm b) : a = b :=
  List.Perm.eq_of_pairwise (le := fun x y : Ent => ltn x.1 y.1 = true) (fun x y _ _ h1 h2 => by
    have := ltn_asym h1
    rw [h2] at this
    cases this) ha hb h
theorem srtE_eq {l l' : List Ent} (hs : SrN l') (hp : l'.Perm l) : l' = srtE l := by
  have hn : (l.map (·.1)).Nodup := ((hp.map (·.1)).nodup_iff).1 hs.names
  obtain ⟨h1, h2⟩ := srtE_ok hn
  exact srn_perm hs h1 (hp.trans h2.symm)
def openT (T : Tb) (ns : List (List Nat)) : Tb := if openC T ns = 0 then { T with sc := T.sc ++ [(srtE (bnd ns T.nx), bnd ns T.nx)], nx := T.nx + ns.length } else T
/-- the variables that Open tells -/
def openV (T : Tb) (ns : List (List Nat)) : List Ent := if openC T ns = 0 then bnd ns T.nx else []
def closeC (T : Tb) : Nat := if T.sc.length = 0 then 5 else 0
def closeT (T : Tb) : Tb := { T with sc := T.sc.dropLast }
theorem openC_ok {T : Tb} {ns : List (List Nat)} (h : openC T ns = 0) : ns ≠ [] ∧ (ns.any fun x => !isN x) = false ∧ ns.Nodup ∧ T.sc.length ≠ 64 ∧ ns.length ≤ 1048576 - T.nx := by
  unfold openC at h
  split at h
  · cases h
  · rename_i h1
    split at h
    · cases h
    · rename_i h2
      split at h
      · cases h
      · rename_i h3
        refine ⟨fun q => h1 (.inl q), ?_, Classical.not_not.1 h2, fun q => h3 (.inl q), Nat.le_of_not_lt fun q => h3 (.inr q)⟩
        cases q : ns.any fun x => !isN x with
        | false => rfl
        | true => exact absurd (.inr q) h1
theorem GoodT.openT {T : Tb} {ns : List (List Nat)} (h : GoodT T) (hc : ∀ x ∈ ns, Codes x) : GoodT (openT T ns) := by
  unfold Go.Proofs.YtcjljfjgekiocaaGreatDoor.openT
  split
  · rename_i h0
    obtain ⟨h1, h2, h3, h4, h5⟩ := openC_ok h0
    have hsl := h.sl
    obtain ⟨q1, q2⟩ := srtE_ok (l := bnd ns T.nx) (by rw [bnd_fst]; exact h3)
    exact h.opened hc h1 h2 (by omega) h5 q2 q1
  · exact h
theorem GoodT.declT {T : Tb} {L : List Nat} (h : GoodT T) (hc : Codes L) : GoodT (declT T L) := by
  unfold Go.Proofs.YtcjljfjgekiocaaGreatDoor.declT
  split
  · rename_i h0
    exact h.decl hc h0
  · exact h
theorem GoodT.closeT {T : Tb} (h : GoodT T) : GoodT (closeT T) := h.closed
/-- what Open tells, and leaves -/
def OpnQ (w : World) (B g : Nat) (T : Tb) (ks : List Nat) (ns : List (List Nat)) (e : Ending) (w' : World) : Prop :=
  ∃ v ks', e = .returned (.tuple #[v, .int .i64 (openC T ns : Int)]) ∧ TabAt w' B g (openT T ns) ks' ∧ (∀ k ∈ ks', k ∈ ks ∨ w.heap.size ≤ k) ∧ Nb (fun k => k ∈ ks) w w' ∧
    w'.ownsRow w.heap.size 3 1 v (openV T ns).length (ics (openV T ns)) ∧ ∀ k ∈ nblk v, k ∉ ks'
theorem open_all (g : Nat) (T : Tb) (ks : List Nat) (ns : List (List Nat)) (A : Option Addr) (cap : Nat) (w : World) (B : Nat) (hBw : B ≤ w.heap.size) (h : TabAt w B g T ks) (hG : GoodT T) (hr : RdS w A ns) (hok : OkS ns) (hl : ns.length ≤ 1048576) :
    Calls Tryz.prog 12 #[.pointer (some ⟨g, 0, none⟩), .slice A ns.length cap] w (OpnQ w B g T ks ns) := by
  refine (open_any g T ks ns A cap w B hBw h hG hr hok hl).mono fun e w' h' => ?_
  rcases h' with ⟨h0, he, ks', h1, h2, h3⟩ | ⟨h0, v, l', ks', he, hp, hs, h1, h2, h3, h4, h5⟩
  · refine ⟨_, ks', he, ?_, h2, h3, ?_, by simp [nblk, Value.ownBlock]⟩
    · unfold openT
      rw [if_neg h0]
      exact h1
    · unfold openV
      rw [if_neg h0]
      exact World.ownsRow_nil _ _ _ _
  · refine ⟨v, ks', by rw [h0]; exact he, ?_, h2, h3, ?_, h5⟩
    · unfold openT
      rw [if_pos h0, ← srtE_eq hs hp]
      exact h1
    · unfold openV
      rw [if_pos h0, bnd_len]
      exact h4
theorem close_all (g : Nat) (T : Tb) (ks : List Nat) (w : World) (B : Nat) (h : TabAt w B g T ks) (hG : GoodT T) :
    Calls Tryz.prog 14 #[.pointer (some ⟨g, 0, none⟩)] w fun e w' => e = .returned (.int .i64 (closeC T : Int)) ∧ TPost w B g (closeT T) ks w' := by
  refine (close_any g T ks w B h hG.sl).mono fun e w' ⟨he, hp⟩ => ⟨?_, hp⟩
  rw [he]
  unfold closeC
  split <;> rfl
/-- one act, and acts, done to a table -/
abbrev Act := Nat × List (List Nat)
def actT (T : Tb) (a : Act) : Tb := if a.1 % 4 = 0 then declT T (fst1 a.2) else if a.1 % 4 = 1 then openT T a.2 else if a.1 % 4 = 2 then closeT T else T
def playT (T : Tb) (l : List Act) : Tb := l.foldl actT T
theorem fst1_codes {ns : List (List Nat)} (h : ∀ x ∈ ns, Codes x) : Codes (fst1 ns) := by
  cases ns with
  | nil => exact fun c hc => by cases hc
  | cons a r => exact h a (by simp)
theorem GoodT.act {T : Tb} {a : Act} (h : GoodT T) (hc : ∀ x ∈ a.2, Codes x) : GoodT (actT T a) := by
  unfold actT
  split
  · exact h.declT (fst1_codes hc)
  · split
    · exact h.openT hc
    · split
      · exact h.closeT
      · exact h
theorem GoodT.play : ∀ {l : List Act} {T : Tb}, GoodT T → (∀ a ∈ l, ∀ x ∈ a.2, Codes x) → GoodT (playT T l)
  | [], T, h, _ => h
  | a :: r, T, h, hc => GoodT.play (l := r) (T := actT T a) (h.act (hc a (by simp))) fun b hb => hc b (by simp [hb])
end Go.Proofs.YtcjljfjgekiocaaGreatDoor

/- A table that changes: its lists, its number. -/
import Derived.Test.YtcjljfjgekiocaaGreatDoorNamJ
import Derived.Deep.RegionLaw
namespace Go.Proofs.YtcjljfjgekiocaaGreatDoor
open Go.RowKit Go.Shelf Go.Lib

set_option linter.unusedVariables false
set_option linter.unusedSimpArgs false

/-- what is known of a table that calls have made -/
structure GoodT (T : Tb) : Prop where
  srn : SrN T.dn
  srv : SrV T.dv
  perm : T.dv.Perm T.dn
  ok : ∀ e ∈ T.dn, Codes e.1 ∧ e.1.length ≤ 64 ∧ isN e.1 = true ∧ e.2 < T.nx
  scs : ∀ s ∈ T.sc, SrN s.1 ∧ SrV s.2 ∧ s.1.Perm s.2 ∧ s.2 ≠ [] ∧ ∀ e ∈ s.2, Codes e.1 ∧ e.1.length ≤ 64 ∧ isN e.1 = true ∧ e.2 < T.nx
  nx : T.nx ≤ 1048576
  dl : T.dn.length ≤ 4096
  sl : T.sc.length ≤ 64
  dj : ((T.dv ++ T.sc.flatMap (·.2)).map (·.2)).Nodup
theorem GoodT.vl {T : Tb} (h : GoodT T) : T.dv.length = T.dn.length := h.perm.length_eq
def insN (l : List Ent) (x : Ent) : List Ent := l.take (atN l x.1) ++ x :: l.drop (atN l x.1)
def declC (T : Tb) (L : List Nat) : Nat := if isN L = false then 4 else if isNm T.dn L = true then 6 else if T.dn.length = 4096 ∨ 1048576 - T.nx = 0 then 40 else 0
def declT (T : Tb) (L : List Nat) : Tb := if declC T L = 0 then { dn := insN T.dn (L, T.nx), dv := T.dv ++ [(L, T.nx)], sc := T.sc, nx := T.nx + 1 } else T
def declV (T : Tb) (L : List Nat) : Nat := if declC T L = 0 then T.nx else 0
theorem atN_le (l : List Ent) (k : List Nat) : atN l k ≤ l.length := pos_le _ _
/-- the world behind the new entry: what the rest of Declare makes of it -/
theorem TabV.alloc {V : World} {B g : Nat} {T : Tb} {a b s : Value} {xs : List Value} {k0 : List Nat} (h : TabV V B g T a b s xs k0) {W : World} {o : Obj} (hW : W.heap = (V.alloc o).heap) : TabV W B g T a b s xs k0 :=
  h.keep fun k hk => by rw [hW]; exact ((Below.refl _ V).alloc (Nat.le_refl _) o).block k (h.kind k hk).2
theorem nblk_nd (v : Value) : (nblk v).Nodup := by
  unfold nblk
  cases v.ownBlock <;> simp
theorem nodup_swap {P x y S : List Nat} {n : Nat} (h : (P ++ (x ++ S)).Nodup) (hy : y.Nodup) (hk : ∀ k ∈ P ++ (x ++ S), k < n) (hv : ∀ k ∈ y, k ∈ x ∨ n ≤ k) : (P ++ (y ++ S)).Nodup := by
  rw [List.nodup_append, List.nodup_append] at h ⊢
  obtain ⟨h1, ⟨h2, h3, h4⟩, h5⟩ := h
  refine ⟨h1, ⟨hy, h3, fun a ha b hb e => ?_⟩, fun a ha b hb e => ?_⟩
  · rcases hv a ha with q | q
    · exact h4 a q b hb e
    · have := hk b (by simp [hb])
      omega
  · rcases List.mem_append.1 hb with q | q
    · rcases hv b q with r | r
      · exact h5 a ha b (by simp [r]) e
      · have := hk a (by simp [ha])
        omega
    · exact h5 a ha b (by simp [q]) e
theorem tks_split_a (g : Nat) (a b s : Value) (k0 : List Nat) : tks g a b s k0 = [g] ++ (nblk a ++ (nblk b ++ nblk s ++ k0)) := by simp [tks]
theorem tks_split_b (g : Nat) (a b s : Value) (k0 : List Nat) : tks g a b s k0 = (g :: nblk a) ++ (nblk b ++ (nblk s ++ k0)) := by simp [tks]
theorem tks_split_s (g : Nat) (a b s : Value) (k0 : List Nat) : tks g a b s k0 = (g :: (nblk a ++ nblk b)) ++ ((nblk s ++ k0) ++ []) := by simp [tks]
theorem tks_a {g n : Nat} {a v b s : Value} {k0 : List Nat} (h : (tks g a b s k0).Nodup) (hk : ∀ k ∈ tks g a b s k0, k < n) (hv : ∀ k ∈ nblk v, k ∈ nblk a ∨ n ≤ k) : (tks g v b s k0).Nodup := by
  rw [tks_split_a] at h hk ⊢
  exact nodup_swap h (nblk_nd v) hk hv
theorem tks_b {g n : Nat} {a v b s : Value} {k0 : List Nat} (h : (tks g a b s k0).Nodup) (hk : ∀ k ∈ tks g a b s k0, k < n) (hv : ∀ k ∈ nblk v, k ∈ nblk b ∨ n ≤ k) : (tks g a v s k0).Nodup := by
  rw [tks_split_b] at h hk ⊢
  exact nodup_swap h (nblk_nd v) hk hv
theorem nodup_out {P x S : List Nat} (h : (P ++ (x ++ S)).Nodup) : ∀ k ∈ P ++ S, k ∉ x := by
  rw [List.nodup_append, List.nodup_append] at h
  obtain ⟨h1, ⟨h2, h3, h4⟩, h5⟩ := h
  intro k hk hx
  rcases List.mem_append.1 hk with q | q
  · exact h5 k q k (by simp [hx]) rfl
  · exact h4 k hx k q rfl
theorem tks_g {g : Nat} {a b s : Value} {k0 : List Nat} (h : (tks g a b s k0).Nodup) : ∀ k ∈ nblk a ++ nblk b ++ nblk s ++ k0, k ≠ g := by
  simp only [tks, List.nodup_cons] at h
  exact fun k hk e => h.1 (e ▸ hk)
theorem tks_keepA {w : World} {B g : Nat} {T : Tb} {a b s : Value} {xs : List Value} {k0 : List Nat} (h : TabV w B g T a b s xs k0) : g ∉ nblk a ∧ g ∉ nblk b ∧ g ∉ nblk s ∧ (∀ k ∈ nblk a, k ∉ nblk b) := by
  have hg := tks_g h.nd
  refine ⟨fun q => hg g (by simp [q]) rfl, fun q => hg g (by simp [q]) rfl, fun q => hg g (by simp [q]) rfl, fun k q => ?_⟩
  have h2 := h.nd
  simp only [tks, List.nodup_cons, List.nodup_append] at h2
  exact fun q2 => h2.2.1.1.2.2 k q k q2 rfl
/-- the table with another list of names -/
theorem TabV.setA {V w6 : World} {B g : Nat} {T : Tb} {a v b s : Value} {xs : List Value} {k0 : List Nat} {l : List Ent} (h : TabV V B g T a b s xs k0) (hn : Nb (fun k => k ∈ nblk a) V w6) (ho : OwnE w6 B v l) (hk : ∀ k ∈ nblk v, k ∈ nblk a ∨ V.heap.size ≤ k) :
    TabV (w6.setCell ⟨g, 0, none⟩ v) B g { T with dn := l } v b s xs k0 := by
  have hnd := tks_a h.nd (fun k q => (h.kind k q).2) hk
  have hg := tks_g hnd
  have ha : ∀ k ∈ [g] ++ (nblk b ++ nblk s ++ k0), k ∉ nblk a := nodup_out (by have := h.nd; rwa [tks_split_a] at this)
  have hs : ∀ k ∈ nblk b ++ nblk s ++ k0, (w6.setCell ⟨g, 0, none⟩ v).heap[k]? = V.heap[k]? := fun k q =>
    (Below.heap_setCell _ _ _ _ (show k ≠ g from hg k (by simp only [List.mem_append] at q ⊢; grind))).trans (hn.block k (h.kind k (by simp only [tks, List.mem_append, List.mem_cons] at q ⊢; grind)).2 (ha k (by simp only [List.mem_append, List.mem_cons, List.mem_singleton] at q ⊢; grind)))
  refine ⟨?_, h.base, nown_block ho fun k q => Below.heap_setCell _ _ _ _ (show k ≠ g from hg k (by simp [q])), nown_block h.dv fun k q => hs k (by simp [q]), nown_block h.row fun k q => hs k (by simp [q]), h.scs.keep fun k q => hs k (by simp [q]), hnd⟩
  exact set_at _ ((hn.block g (kind_lt2 h.cell) (ha g (by simp))).trans h.cell)
theorem TabV.setB {V w6 : World} {B g : Nat} {T : Tb} {a v b s : Value} {xs : List Value} {k0 : List Nat} {l : List Ent} (h : TabV V B g T a b s xs k0) (hn : Nb (fun k => k ∈ nblk b) V w6) (ho : OwnE w6 B v l) (hk : ∀ k ∈ nblk v, k ∈ nblk b ∨ V.heap.size ≤ k) :
    TabV (w6.setCell ⟨g, 1, none⟩ v) B g { T with dv := l } a v s xs k0 := by
  have hnd := tks_b h.nd (fun k q => (h.kind k q).2) hk
  have hg := tks_g hnd
  have ha : ∀ k ∈ (g :: nblk a) ++ (nblk s ++ k0), k ∉ nblk b := nodup_out (by have := h.nd; rwa [tks_split_b] at this)
  have hs : ∀ k ∈ nblk a ++ nblk s ++ k0, (w6.setCell ⟨g, 1, none⟩ v).heap[k]? = V.heap[k]? := fun k q =>
    (Below.heap_setCell _ _ _ _ (show k ≠ g from hg k (by simp only [List.mem_append] at q ⊢; grind))).trans (hn.block k (h.kind k (by simp only [tks, List.mem_append, List.mem_cons] at q ⊢; grind)).2 (ha k (by simp only [List.mem_append, List.mem_cons, List.mem_singleton] at q ⊢; grind)))
  refine ⟨?_, h.base, nown_block h.dn fun k q => hs k (by simp [q]), nown_block ho fun k q => Below.heap_setCell _ _ _ _ (show k ≠ g from hg k (by simp [q])), nown_block h.row fun k q => hs k (by simp [q]), h.scs.keep fun k q => hs k (by simp [q]), hnd⟩
  exact set_at _ ((hn.block g (kind_lt2 h.cell) (ha g (by simp))).trans h.cell)
theorem TabV.setN {V : World} {B g : Nat} {T : Tb} {a b s : Value} {xs : List Value} {k0 : List Nat} (h : TabV V B g T a b s xs k0) (n : Nat) :
    TabV (V.setCell ⟨g, 3, none⟩ (.int .i64 (n : Int))) B g { T with nx := n } a b s xs k0 := by
  have hg := tks_g h.nd
  have hs : ∀ k ∈ nblk a ++ nblk b ++ nblk s ++ k0, (V.setCell ⟨g, 3, none⟩ (.int .i64 (n : Int))).heap[k]? = V.heap[k]? := fun k q => Below.heap_setCell _ _ _ _ (show k ≠ g from hg k q)
  exact ⟨set_at _ h.cell, h.base, nown_block h.dn fun k q => hs k (by simp [q]), nown_block h.dv fun k q => hs k (by simp [q]), nown_block h.row fun k q => hs k (by simp [q]), h.scs.keep fun k q => hs k (by simp [q]), h.nd⟩
def InsQ (V : World) (B g E : Nat) (c : Array Value) (ce : Array Value) (a : Value) (l : List Ent) (e : Ending) (w6 : World) : Prop :=
  ∃ A6 c6, e = .returned (.slice A6 l.length c6) ∧ w6.heap[g]? = some (.cells c 65 (0, 0)) ∧ w6.heap[E]? = some (.cells ce 68 (0, 0)) ∧ OwnE w6 B (.slice A6 l.length c6) l ∧ Nb (fun k => k ∈ nblk a) V w6 ∧ (∀ k ∈ nblk (.slice A6 l.length c6), k ∈ nblk a ∨ V.heap.size ≤ k)
theorem insQ {V W w6 : World} {B g E : Nat} {c ce : Array Value} {a : Value} {l : List Ent} {o : Obj} {e : Ending} (hW : W = (V.alloc o).drew) (h : InsP W B a l e w6) (hg : V.heap[g]? = some (.cells c 65 (0, 0))) (hE : V.heap[E]? = some (.cells ce 68 (0, 0))) (h1 : g ∉ nblk a) (h2 : E ∉ nblk a) : InsQ V B g E c ce a l e w6 := by
  obtain ⟨v, rfl, ho, hn, hk⟩ := h
  obtain ⟨A6, c6, rfl⟩ := nslice_form ho
  have hb : Below V.heap.size V W := hW ▸ ((Below.refl _ V).alloc (Nat.le_refl _) o).drew
  have hs := hb.size
  have hq : Nb (fun k => k ∈ nblk a) V w6 := Nb.trans (Nb.of hb) hn (fun _ h => h) (fun _ _ h => h)
  exact ⟨A6, c6, rfl, (hq.block g (kind_lt2 hg) h1).trans hg, (hq.block E (kind_lt2 hE) h2).trans hE, ho, hq, fun k hk2 => (hk k hk2).imp id fun h => Nat.le_trans hs h⟩
theorem grown_nb {R Z w8 : World} {o : Obj} {b : Value} (hZ : Z = (R.alloc o).drew) (h : Z.grownBy w8 b.ownBlock) : Nb (fun k => k ∈ nblk b) R w8 := by
  have hb : Below R.heap.size R Z := hZ ▸ ((Below.refl _ R).alloc (Nat.le_refl _) o).drew
  exact Nb.trans (P := fun _ => False) (P' := fun k => k ∈ nblk b) (Nb.of hb) ⟨h.os, h.tape, h.output, h.size, fun k hk hne => h.block k hk fun e => hne (by rw [nblk, ← e]; simp)⟩ (fun _ h => h.elim) (fun _ _ h => h)
theorem TPost.setA {w V w6 : World} {B g : Nat} {T : Tb} {a v b s : Value} {xs : List Value} {k0 ks : List Nat} {l : List Ent} (h : TabV V B g T a b s xs k0) (hs : ∀ k ∈ tks g a b s k0, k ∈ ks ∨ w.heap.size ≤ k) (hw : Nb (fun k => k ∈ ks) w V)
    (hn : Nb (fun k => k ∈ nblk a) V w6) (ho : OwnE w6 B v l) (hk : ∀ k ∈ nblk v, k ∈ nblk a ∨ V.heap.size ≤ k) : TPost w B g { T with dn := l } ks (w6.setCell ⟨g, 0, none⟩ v) := by
  have hsz := hw.size
  refine ⟨_, ⟨_, _, _, _, _, h.setA hn ho hk, rfl⟩, fun k q => ?_, Nb.trans (Nb.trans hw hn (fun _ h => h) fun k hk2 q => ?_) (Nb.set _ _ _ _ (fun k => k = g) rfl) (fun _ h => h) fun k hk2 q => ?_⟩
  · simp only [tks, List.mem_cons, List.mem_append] at q hs
    rcases q with q | ((q | q) | q) | q
    · exact hs k (.inl q)
    · rcases hk k q with r | r
      · exact hs k (.inr (.inl (.inl (.inl r))))
      · exact .inr (by omega)
    · exact hs k (.inr (.inl (.inl (.inr q))))
    · exact hs k (.inr (.inl (.inr q)))
    · exact hs k (.inr (.inr q))
  · rcases hs k (by simp [tks, q]) with r | r
    · exact r
    · omega
  · rcases hs k (by simp [tks, q]) with r | r
    · exact r
    · omega
theorem TPost.setB {w V w6 : World} {B g : Nat} {T : Tb} {a v b s : Value} {xs : List Value} {k0 ks : List Nat} {l : List Ent} (h : TabV V B g T a b s xs k0) (hs : ∀ k ∈ tks g a b s k0, k ∈ ks ∨ w.heap.size ≤ k) (hw : Nb (fun k => k ∈ ks) w V)
    (hn : Nb (fun k => k ∈ nblk b) V w6) (ho : OwnE w6 B v l) (hk : ∀ k ∈ nblk v, k ∈ nblk b ∨ V.heap.size ≤ k) : TPost w B g { T with dv := l } ks (w6.setCell ⟨g, 1, none⟩ v) := by
  have hsz := hw.size
  refine ⟨_, ⟨_, _, _, _, _, h.setB hn ho hk, rfl⟩, fun k q => ?_, Nb.trans (Nb.trans hw hn (fun _ h => h) fun k hk2 q => ?_) (Nb.set _ _ _ _ (fun k => k = g) rfl) (fun _ h => h) fun k hk2 q => ?_⟩
  · simp only [tks, List.mem_cons, List.mem_append] at q hs
    rcases q with q | ((q | q) | q) | q
    · exact hs k (.inl q)
    · exact hs k (.inr (.inl (.inl (.inl q))))
    · rcases hk k q with r | r
      · exact hs k (.inr (.inl (.inl (.inr r))))
      · exact .inr (by omega)
    · exact hs k (.inr (.inl (.inr q)))
    · exact hs k (.inr (.inr q))
  · rcases hs k (by simp [tks, q]) with r | r
    · exact r
    · omega
  · rcases hs k (by simp [tks, q]) with r | r
    · exact r
    · omega
theorem TPost.setN {w V : World} {B g : Nat} {T : Tb} {ks : List Nat} (h : TPost w B g T ks V) (n : Nat) : TPost w B g { T with nx := n } ks (V.setCell ⟨g, 3, none⟩ (.int .i64 (n : Int))) := by
  obtain ⟨ks', ⟨a, b, s, xs, k0, h, rfl⟩, hs, hw⟩ := h
  refine ⟨_, ⟨_, _, _, _, _, h.setN n, rfl⟩, hs, Nb.trans hw (Nb.set _ _ _ _ (fun k => k = g) rfl) (fun _ h => h) fun k hk2 q => ?_⟩
  rcases hs k (by simp [tks, q]) with r | r
  · exact r
  · omega
def EntAt (w : World) (E : Nat) (x : Ent) : Prop := w.heap[E]? = some (.cells #[.string (str x.1), .int .i64 ((x.2 : Nat) : Int)] 68 (0, 0))
def CutP (w : World) (B g E : Nat) (T : Tb) (x : Ent) (ks : List Nat) (R : World) : Prop := TPost w B g T ks R ∧ EntAt R E x
theorem isN_len {L : List Nat} (h : isN L = true) : L.length ≤ 64 := by
  have h1 : kd L = 5 := by
    unfold isN at h
    simp at h
    exact h.1
  unfold kd at h1
  repeat' split at h1
  all_goals first | (exact absurd h1 (by decide)) | skip
  rename_i h5
  unfold sym at h5
  simp at h5
  omega
end Go.Proofs.YtcjljfjgekiocaaGreatDoor

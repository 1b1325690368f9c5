/- A table in memory; contracts: New, Next, left, Close. -/
import Derived.Test.YtcjljfjgekiocaaGreatDoorNamI
namespace Go.Proofs.YtcjljfjgekiocaaGreatDoor
open Go.RowKit Go.Shelf Go.Lib

set_option linter.unusedVariables false
set_option linter.unusedSimpArgs false

theorem set_at {w : World} {g o : Nat} {c : Array Value} {t : TypeId} {f : Nat × Nat} (v : Value) (h : w.heap[g]? = some (.cells c t f)) : (w.setCell ⟨g, o, none⟩ v).heap[g]? = some (.cells (c.setIfInBounds o v) t f) := by
  show (w.heap.modify g _)[g]? = _
  rw [Array.getElem?_modify, if_pos rfl, h]; rfl
theorem Nb.set (w : World) (g o : Nat) (v : Value) (P : Nat → Prop) (hp : P g) : Nb P w (w.setCell ⟨g, o, none⟩ v) := ⟨rfl, rfl, rfl, by simp [World.setCell], fun k _ hn => Below.heap_setCell _ _ _ _ (show k ≠ g from fun e => hn (e ▸ hp))⟩
theorem Nb.rfl' (P : Nat → Prop) (w : World) : Nb P w w := ⟨rfl, rfl, rfl, Nat.le_refl _, fun _ _ _ => rfl⟩
theorem Nb.drew {P : Nat → Prop} {a b : World} (h : Nb P a b) : Nb P a b.drew := ⟨h.os, h.tape, h.output, h.size, h.block⟩

abbrev Scp := List Ent × List Ent
structure Tb where
  dn : List Ent
  dv : List Ent
  sc : List Scp
  nx : Nat
/-- the cells of scopes; ks: the rows below them -/
def ScC (w : World) (B : Nat) : List Scp → List Value → List Nat → Prop
  | [], xs, ks => xs = [] ∧ ks = []
  | s :: r, xs, ks => ∃ v u zs k2, xs = v :: u :: zs ∧ ks = (nblk v ++ nblk u) ++ k2 ∧ OwnE w B v s.1 ∧ OwnE w B u s.2 ∧ ScC w B r zs k2
theorem ScC.len {w : World} {B : Nat} : ∀ {ss : List Scp} {xs : List Value} {ks : List Nat}, ScC w B ss xs ks → xs.length = ss.length * 2
  | [], xs, ks, h => by rw [h.1]; rfl
  | s :: r, xs, ks, ⟨v, u, zs, k2, h1, h2, h3, h4, h5⟩ => by
    have := h5.len
    rw [h1]
    simp
    omega
theorem ScC.keep {w w' : World} {B : Nat} : ∀ {ss : List Scp} {xs : List Value} {ks : List Nat}, ScC w B ss xs ks → (∀ b ∈ ks, w'.heap[b]? = w.heap[b]?) → ScC w' B ss xs ks
  | [], xs, ks, h, _ => h
  | s :: r, xs, ks, ⟨v, u, zs, k2, h1, h2, h3, h4, h5⟩, hk => by
    subst h2
    exact ⟨v, u, zs, k2, h1, rfl, nown_block h3 fun b hb => hk b (by simp [hb]), nown_block h4 fun b hb => hk b (by simp [hb]), h5.keep fun b hb => hk b (by simp [hb])⟩
theorem ScC.kind {w : World} {B : Nat} : ∀ {ss : List Scp} {xs : List Value} {ks : List Nat}, ScC w B ss xs ks → ∀ b ∈ ks, B ≤ b ∧ b < w.heap.size
  | [], xs, ks, h, b, hb => by rw [h.2] at hb; cases hb
  | s :: r, xs, ks, ⟨v, u, zs, k2, h1, h2, h3, h4, h5⟩, b, hb => by
    subst h2
    simp only [List.mem_append] at hb
    rcases hb with (hb | hb) | hb
    · obtain ⟨q1, c, q2⟩ := nown_kind h3 b hb
      exact ⟨q1, kind_lt2 q2⟩
    · obtain ⟨q1, c, q2⟩ := nown_kind h4 b hb
      exact ⟨q1, kind_lt2 q2⟩
    · exact h5.kind b hb
theorem ScC.snoc {w : World} {B : Nat} {v u : Value} {s : Scp} (h1 : OwnE w B v s.1) (h2 : OwnE w B u s.2) : ∀ {ss : List Scp} {xs : List Value} {ks : List Nat}, ScC w B ss xs ks → ScC w B (ss ++ [s]) (xs ++ [v, u]) (ks ++ (nblk v ++ nblk u))
  | [], xs, ks, h => by
    rw [h.1, h.2]
    exact ⟨v, u, [], [], rfl, by simp, h1, h2, rfl, rfl⟩
  | s' :: r, xs, ks, ⟨v', u', zs, k2, e1, e2, h3, h4, h5⟩ => by
    subst e1 e2
    exact ⟨v', u', zs ++ [v, u], k2 ++ (nblk v ++ nblk u), rfl, by simp, h3, h4, ScC.snoc h1 h2 h5⟩
theorem ScC.init {w : World} {B : Nat} {s : Scp} : ∀ {ss : List Scp} {xs : List Value} {ks : List Nat}, ScC w B (ss ++ [s]) xs ks → ∃ k0 k1, ks = k0 ++ k1 ∧ ScC w B ss (xs.take (ss.length * 2)) k0
  | [], xs, ks, h => ⟨[], ks, rfl, by simp [ScC]⟩
  | s' :: r, xs, ks, ⟨v', u', zs, k2, e1, e2, h3, h4, h5⟩ => by
    obtain ⟨k0, k1, e3, h6⟩ := h5.init
    subst e1 e2 e3
    refine ⟨nblk v' ++ nblk u' ++ k0, k1, by simp, v', u', zs.take (r.length * 2), k0, ?_, rfl, h3, h4, h6⟩
    rw [show (s' :: r).length * 2 = r.length * 2 + 1 + 1 by simp; omega]
    rfl
theorem ScC.at {w : World} {B : Nat} : ∀ {ss : List Scp} {xs : List Value} {ks : List Nat} {i : Nat} {s : Scp}, ScC w B ss xs ks → ss[i]? = some s → ∃ v u, xs[i * 2]? = some v ∧ xs[i * 2 + 1]? = some u ∧ OwnE w B v s.1 ∧ OwnE w B u s.2
  | [], xs, ks, i, s, h, hi => by simp at hi
  | s' :: r, xs, ks, i, s, ⟨v', u', zs, k2, e1, e2, h3, h4, h5⟩, hi => by
    subst e1
    cases i with
    | zero =>
      obtain rfl : s' = s := by simpa using hi
      exact ⟨v', u', rfl, rfl, h3, h4⟩
    | succ i =>
      obtain ⟨v, u, q1, q2, q3, q4⟩ := h5.at (i := i) (by simpa using hi)
      refine ⟨v, u, ?_, ?_, q3, q4⟩
      · rw [show (i + 1) * 2 = i * 2 + 1 + 1 by omega]; simpa using q1
      · rw [show (i + 1) * 2 + 1 = i * 2 + 1 + 1 + 1 by omega]; simpa using q2

theorem nodup_mid {g gs : Nat} {la lb l0 l1 : List Nat} (h : (g :: (la ++ lb ++ [gs] ++ (l0 ++ l1))).Nodup) : (g :: (la ++ lb ++ [gs] ++ l0)).Nodup ∧ ∀ k ∈ la ++ lb ++ l0, k ≠ g ∧ k ≠ gs := by
  grind
def tks (g : Nat) (a b s : Value) (k0 : List Nat) : List Nat := g :: (nblk a ++ nblk b ++ nblk s ++ k0)
structure TabV (w : World) (B g : Nat) (T : Tb) (a b s : Value) (xs : List Value) (k0 : List Nat) : Prop where
  cell : w.heap[g]? = some (.cells #[a, b, s, .int .i64 ((T.nx : Nat) : Int)] 65 (0, 0))
  base : B ≤ g
  dn : OwnE w B a T.dn
  dv : OwnE w B b T.dv
  row : w.ownsRow B 62 2 s T.sc.length xs
  scs : ScC w B T.sc xs k0
  nd : (tks g a b s k0).Nodup
def TabAt (w : World) (B g : Nat) (T : Tb) (ks : List Nat) : Prop := ∃ a b s xs k0, TabV w B g T a b s xs k0 ∧ ks = tks g a b s k0
theorem TabV.kind {w : World} {B g : Nat} {T : Tb} {a b s : Value} {xs : List Value} {k0 : List Nat} (h : TabV w B g T a b s xs k0) : ∀ k ∈ tks g a b s k0, B ≤ k ∧ k < w.heap.size := by
  intro k hk
  simp only [tks, List.mem_cons, List.mem_append] at hk
  rcases hk with rfl | ((hk | hk) | hk) | hk
  · exact ⟨h.base, kind_lt2 h.cell⟩
  · obtain ⟨q1, c, q2⟩ := nown_kind h.dn k hk
    exact ⟨q1, kind_lt2 q2⟩
  · obtain ⟨q1, c, q2⟩ := nown_kind h.dv k hk
    exact ⟨q1, kind_lt2 q2⟩
  · obtain ⟨q1, c, q2⟩ := nown_kind h.row k hk
    exact ⟨q1, kind_lt2 q2⟩
  · exact h.scs.kind k hk
theorem TabV.keep {w w' : World} {B g : Nat} {T : Tb} {a b s : Value} {xs : List Value} {k0 : List Nat} (h : TabV w B g T a b s xs k0) (hk : ∀ k ∈ tks g a b s k0, w'.heap[k]? = w.heap[k]?) : TabV w' B g T a b s xs k0 :=
  ⟨(hk g (by simp [tks])).trans h.cell, h.base, nown_block h.dn fun k q => hk k (by simp [tks, q]), nown_block h.dv fun k q => hk k (by simp [tks, q]), nown_block h.row fun k q => hk k (by simp [tks, q]), h.scs.keep fun k q => hk k (by simp [tks, q]), h.nd⟩
theorem TabAt.kind {w : World} {B g : Nat} {T : Tb} {ks : List Nat} (h : TabAt w B g T ks) : ∀ k ∈ ks, B ≤ k ∧ k < w.heap.size := by
  obtain ⟨a, b, s, xs, k0, h, rfl⟩ := h
  exact h.kind
theorem TabAt.keep {w w' : World} {B g : Nat} {T : Tb} {ks : List Nat} (h : TabAt w B g T ks) (hk : ∀ k ∈ ks, w'.heap[k]? = w.heap[k]?) : TabAt w' B g T ks := by
  obtain ⟨a, b, s, xs, k0, h, rfl⟩ := h
  exact ⟨a, b, s, xs, k0, h.keep hk, rfl⟩
theorem TabAt.keepNb {w w' : World} {B g : Nat} {T : Tb} {ks : List Nat} {P : Nat → Prop} (h : TabAt w B g T ks) (hn : Nb P w w') (hk : ∀ k ∈ ks, ¬ P k) : TabAt w' B g T ks := h.keep fun k q => hn.block k (h.kind k q).2 (hk k q)
theorem TabAt.below {w w' : World} {B g : Nat} {T : Tb} {ks : List Nat} (h : TabAt w B g T ks) (hb : Below w.heap.size w w') : TabAt w' B g T ks := h.keep fun k q => hb.block k (h.kind k q).2
theorem TabAt.nd {w : World} {B g : Nat} {T : Tb} {ks : List Nat} (h : TabAt w B g T ks) : ks.Nodup := by
  obtain ⟨a, b, s, xs, k0, h, rfl⟩ := h
  exact h.nd
/-- what a call that changes a table leaves -/
def TPost (w : World) (B g : Nat) (T : Tb) (ks : List Nat) (w' : World) : Prop := ∃ ks', TabAt w' B g T ks' ∧ (∀ k ∈ ks', k ∈ ks ∨ w.heap.size ≤ k) ∧ Nb (fun k => k ∈ ks) w w'
theorem TPost.same {w w' : World} {B g : Nat} {T : Tb} {ks : List Nat} (h : TabAt w B g T ks) (hb : Below w.heap.size w w') : TPost w B g T ks w' := ⟨ks, h.below hb, fun k hk => .inl hk, Nb.of hb⟩

theorem new_any (w : World) (B : Nat) (hB : B ≤ w.heap.size) : Calls Tryz.prog 10 #[] w fun e w' => e = .returned (.pointer (some ⟨w.heap.size, 0, none⟩)) ∧ TabAt w' B w.heap.size ⟨[], [], [], 0⟩ [w.heap.size] ∧ Below w.heap.size w w' := by
  go_enter Tryz.func10, Tryz.ntmps10
  go_wp2_with fail
  go_ret
  refine ⟨rfl, ⟨_, _, _, [], [], ⟨lone_new w _ _, hB, World.ownsRow_nil _ _ _ _, World.ownsRow_nil _ _ _ _, World.ownsRow_nil _ _ _ _, ⟨rfl, rfl⟩, by simp [tks, nblk, Value.ownBlock]⟩, by simp [tks, nblk, Value.ownBlock]⟩, (Below.refl _ w).alloc (Nat.le_refl _) _⟩
theorem next_any (g : Nat) (T : Tb) (ks : List Nat) (w : World) (B : Nat) (h : TabAt w B g T ks) : Calls Tryz.prog 19 #[.pointer (some ⟨g, 0, none⟩)] w fun e w' => e = .returned (.int .i64 ((T.nx : Nat) : Int)) ∧ w' = w := by
  obtain ⟨a, b, s, xs, k0, h, rfl⟩ := h
  have h3 : w.cell? ⟨g, 3, none⟩ = some (.int .i64 ((T.nx : Nat) : Int)) := cell_of_row w g 3 _ _ _ h.cell
  clear h
  go_enter Tryz.func19, Tryz.ntmps19
  go_wp2_with fail
  go_ret
  exact ⟨rfl, rfl⟩
theorem left_any (g : Nat) (T : Tb) (ks : List Nat) (w : World) (B : Nat) (h : TabAt w B g T ks) (hn : T.nx ≤ 1048576) : Calls Tryz.prog 35 #[.pointer (some ⟨g, 0, none⟩)] w fun e w' => e = .returned (.int .i64 ((1048576 - T.nx : Nat) : Int)) ∧ w' = w := by
  obtain ⟨a, b, s, xs, k0, h, rfl⟩ := h
  have h3 : w.cell? ⟨g, 3, none⟩ = some (.int .i64 ((T.nx : Nat) : Int)) := cell_of_row w g 3 _ _ _ h.cell
  clear h
  have e : (1048576 : Int) - (T.nx : Int) = ((1048576 - T.nx : Nat) : Int) := by omega
  go_enter Tryz.func35, Tryz.ntmps35
  go_wp2_with fail
  go_ret
  exact ⟨by rw [← e]; rfl, rfl⟩
set_option maxHeartbeats 2000000 in
theorem close_any (g : Nat) (T : Tb) (ks : List Nat) (w : World) (B : Nat) (h : TabAt w B g T ks) (hl : T.sc.length ≤ 64) :
    Calls Tryz.prog 14 #[.pointer (some ⟨g, 0, none⟩)] w fun e w' => e = .returned (.int .i64 (if T.sc.length = 0 then 5 else 0)) ∧ TPost w B g { T with sc := T.sc.dropLast } ks w' := by
  have H := Lib.hid h
  obtain ⟨a, b, s, xs, k0, h, rfl⟩ := h
  have HV := Lib.hid h
  have h2 : w.cell? ⟨g, 2, none⟩ = some s := cell_of_row w g 2 _ _ _ h.cell
  obtain ⟨n, hn⟩ : ∃ n, n = T.sc.length := ⟨_, rfl⟩
  have hrow := h.row
  obtain ⟨A, cap, rfl⟩ := nslice_form hrow
  rw [← hn] at h2 hl hrow
  have HN := Lib.hid hn
  have HR := Lib.hid hrow
  clear h hn hrow
  rw [← HN.out]
  by_cases h0 : n = 0
  · subst h0
    go_enter Tryz.func14, Tryz.ntmps14
    go_wp2_with fail
    go_ret
    refine ⟨rfl, ?_⟩
    have e : T.sc.dropLast = T.sc := by rw [List.length_eq_zero_iff.1 HN.out.symm]; rfl
    rw [e]
    have hq := H.out
    rw [← HN.out] at hq
    exact TPost.same hq (Below.refl _ _)
  · obtain ⟨m, rfl⟩ : ∃ m, n = m + 1 := ⟨n - 1, by omega⟩
    obtain ⟨gs, capp, hf, hBs, hlts⟩ := HR.out.form (by omega)
    injection hf with hf1 hf2 hf3
    subst hf1 hf3
    have C := Lib.hid (del_last gs m cap xs w B HR.out (by omega))
    have hgs : g ≠ gs := fun e => by
      have := HV.out.nd
      simp [tks, nblk, Value.ownBlock, e] at this
    have i1 : ((m : Int) + 1 - 1) = (m : Int) := by omega
    have i2 : ¬ ((m : Int) < 0) := by omega
    have i3 : ((m + 1 : Nat) : Int) = (m : Int) + 1 := by omega
    rw [if_neg h0]
    clear h0
    go_enter Tryz.func14, Tryz.ntmps14
    go_wp2_with fail
    refine (C.out).mono ?_
    rintro e w1 ⟨rfl, hown, hnb⟩
    have hc1 : w1.heap[g]? = some (.cells #[a, b, .slice (some ⟨gs, 0, none⟩) T.sc.length cap, .int .i64 ((T.nx : Nat) : Int)] 65 (0, 0)) := (hnb.block g (kind_lt2 HV.out.cell) hgs).trans HV.out.cell
    rw [← HN.out] at hc1
    have HC1 := Lib.hid hc1
    have d2 : w1.cell? ⟨g, 2, none⟩ = some (.slice (some ⟨gs, 0, none⟩) (m + 1) cap) := cell_of_row w1 g 2 _ _ _ hc1
    have f2 : w1.frozen? ⟨g, 2, none⟩ = false := frozen_of hc1 2
    have HO := Lib.hid hown
    have HNB := Lib.hid hnb
    clear hc1 hown hnb C
    go_wp2_with fail
    go_ret
    refine ⟨rfl, ?_⟩
    obtain ⟨ss, s1, hss⟩ : ∃ ss s1, T.sc = ss ++ [s1] := by
      have hne : T.sc ≠ [] := fun e => by
        have := HN.out
        rw [e] at this
        simp at this
      exact ⟨T.sc.dropLast, T.sc.getLast hne, (List.dropLast_concat_getLast hne).symm⟩
    have hV := HV.out
    rw [← HN.out] at hV
    have hm : ss.length = m := by
      have := HN.out
      rw [hss] at this
      simp at this
      omega
    have hsc := hV.scs
    rw [hss] at hsc
    obtain ⟨q0, q1, hq, hsc⟩ := hsc.init
    rw [hm] at hsc
    have hkd := hV.kind
    have hnd := hV.nd
    rw [hq] at hnd hkd
    have hblk : ∀ k, k ∈ tks g a b (.slice (some ⟨gs, 0, none⟩) (m + 1) cap) (q0 ++ q1) → k ≠ g → k ≠ gs → (w1.setCell ⟨g, 2, none⟩ (.slice (some ⟨gs, 0, none⟩) m cap)).heap[k]? = w.heap[k]? := fun k hk h1 h2 => (Below.heap_setCell _ _ _ _ h1).trans (HNB.out.block k (hkd k hk).2 h2)
    obtain ⟨hnd0, hne⟩ := nodup_mid (g := g) (gs := gs) (la := nblk a) (lb := nblk b) (l0 := q0) (l1 := q1) hnd
    have hin : ∀ k, k ∈ nblk a ++ nblk b ++ q0 → k ∈ tks g a b (.slice (some ⟨gs, 0, none⟩) (m + 1) cap) (q0 ++ q1) := fun k hk => by
      simp only [tks, List.mem_append, List.mem_cons] at hk ⊢
      grind
    have hsame : ∀ k ∈ nblk a ++ nblk b ++ q0, (w1.setCell ⟨g, 2, none⟩ (.slice (some ⟨gs, 0, none⟩) m cap)).heap[k]? = w.heap[k]? := fun k hk => hblk k (hin k hk) (hne k hk).1 (hne k hk).2
    refine ⟨tks g a b (.slice (some ⟨gs, 0, none⟩) m cap) q0, ⟨a, b, .slice (some ⟨gs, 0, none⟩) m cap, xs.take (m * 2), q0, ⟨?_, hV.base, ?_, ?_, ?_, ?_, hnd0⟩, rfl⟩, ?_, ?_⟩
    · exact set_at _ HC1.out
    · exact nown_block hV.dn fun k hk => hsame k (by simp [hk])
    · exact nown_block hV.dv fun k hk => hsame k (by simp [hk])
    · show World.ownsRow _ _ _ _ _ T.sc.dropLast.length _
      rw [hss, List.dropLast_concat, hm]
      exact nown_block HO.out fun k hk => Below.heap_setCell _ _ _ _ (by
        simp [nblk, Value.ownBlock] at hk
        exact fun e => hgs (e.symm.trans hk))
    · show ScC _ _ T.sc.dropLast _ _
      rw [hss, List.dropLast_concat]
      exact hsc.keep fun k hk => hsame k (by simp [hk])
    · intro k hk
      left
      simp only [tks, nblk, Value.ownBlock, List.mem_append, List.mem_cons, Option.toList] at hk ⊢
      rw [hq]
      grind
    · refine Nb.trans HNB.out (Nb.set _ _ _ _ (fun k => k = g) rfl) (fun k hk => ?_) (fun k _ hk => ?_)
      · subst hk
        simp [tks, nblk, Value.ownBlock]
      · subst hk
        simp [tks]
end Go.Proofs.YtcjljfjgekiocaaGreatDoor

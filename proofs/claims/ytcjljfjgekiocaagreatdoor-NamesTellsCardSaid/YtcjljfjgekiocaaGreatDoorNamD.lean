/- Rows of entries that a call owns; contract: slices.Clone at entries. -/
import Derived.Laws.AppendOwnNone
import Derived.Laws.OwnMore
import Derived.Deep.MidRow
import Derived.Lib.SliceRun
import Derived.Test.YtcjljfjgekiocaaGreatDoorNamC
namespace Go.Proofs.YtcjljfjgekiocaaGreatDoor
open Go.RowKit Go.Shelf

set_option linter.unusedVariables false
set_option linter.unusedSimpArgs false

/-! ### rows that are owned -/
def nblk (v : Value) : List Nat := v.ownBlock.toList
theorem nown_block {w w' : World} {B : Nat} {e : TypeId} {size : Nat} {v : Value} {n : Nat} {xs : List Value} (h : w.ownsRow B e size v n xs) (hk : ∀ b ∈ nblk v, w'.heap[b]? = w.heap[b]?) : w'.ownsRow B e size v n xs := by
  refine ⟨h.1, ?_⟩
  rcases h.2 with h2 | ⟨g, cap, cur, e, hg, hh, r⟩
  · exact .inl h2
  · refine .inr ⟨g, cap, cur, e, hg, ?_, r⟩
    rw [hk g (by rw [e]; simp [nblk, Value.ownBlock])]
    exact hh
theorem nown_kind {w : World} {B : Nat} {e : TypeId} {size : Nat} {v : Value} {n : Nat} {xs : List Value} (h : w.ownsRow B e size v n xs) : ∀ b ∈ nblk v, B ≤ b ∧ ∃ c, w.heap[b]? = some (.cells c e (0, 0)) := by
  intro b hb
  rcases h.2 with ⟨rfl, _⟩ | ⟨g, cap, cur, rfl, hg, hh, r⟩
  · simp [nblk, Value.ownBlock] at hb
  · simp [nblk, Value.ownBlock] at hb
    subst hb
    exact ⟨hg, cur, hh⟩
theorem nown_below {w w' : World} {B : Nat} {e : TypeId} {size : Nat} {v : Value} {n : Nat} {xs : List Value} (h : w.ownsRow B e size v n xs) (hb : Below w.heap.size w w') : w'.ownsRow B e size v n xs :=
  nown_block h fun b hk => by
    obtain ⟨_, c, hc⟩ := nown_kind h b hk
    exact hb.block b (kind_lt2 hc)
theorem nbelow_app {W w2 : World} {n₀ : Nat} {e : TypeId} {size k : Nat} {v : Value} {xs : List Value} {tmp : Obj} (hrow : W.ownsRow n₀ e size v k xs) (hn₀ : n₀ ≤ W.heap.size) (hgrow : (W.alloc tmp).grownBy w2 v.ownBlock) : Below n₀ W w2 := by
  refine ((Below.refl n₀ W).alloc hn₀ tmp).grown hgrow (by simp; omega) fun j ej => ?_
  rcases hrow.2 with ⟨rfl, _⟩ | ⟨g, cap, cur, rfl, hb, _, _⟩
  · simp [Value.ownBlock] at ej
  · obtain rfl : g = j := by simpa [Value.ownBlock] using ej
    exact hb
theorem nslice_form {w : World} {base : Nat} {e : TypeId} {size : Nat} {v : Value} {n : Nat} {xs : List Value} (h : w.ownsRow base e size v n xs) : ∃ A c, v = .slice A n c := by
  rcases h.2 with ⟨rfl, rfl⟩ | ⟨g, cap, cur, rfl, _⟩
  · exact ⟨none, 0, rfl⟩
  · exact ⟨_, _, rfl⟩
theorem nrow_cells {w : World} {base : Nat} {e : TypeId} {size : Nat} {A : Option Addr} {n cp : Nat} {xs : List Value} (h : w.ownsRow base e size (.slice A n cp) n xs) (hn : 0 < n) : ∃ g, A = some ⟨g, 0, none⟩ ∧ base ≤ g ∧ g < w.heap.size ∧ ∀ j u, xs[j]? = some u → w.cell? ⟨g, j, none⟩ = some u := by
  have hx := h
  rcases h.2 with ⟨_, h0⟩ | ⟨g, cap, cur, e1, hb, hg, _⟩
  · omega
  · injection e1 with e1 e2 e3
    subst e1
    refine ⟨g, rfl, hb, (Array.getElem?_eq_some_iff.1 hg).1, fun j u hu => ?_⟩
    have := hx.cells (g := g) rfl j u hu
    rwa [Addr.add_lit, Nat.zero_add] at this
/-- entries that are owned -/
abbrev OwnE (w : World) (B : Nat) (v : Value) (l : List Ent) : Prop := w.ownsRow B 68 2 v l.length (ecs l)
theorem OwnE.rd {w : World} {B : Nat} {A : Option Addr} {cap : Nat} {l : List Ent} (h : OwnE w B (.slice A l.length cap) l) : RdE w A l := by
  cases hl : l with
  | nil => exact .inl rfl
  | cons x r =>
    rw [← hl]
    obtain ⟨g, rfl, h1, h2, h3⟩ := nrow_cells h (by rw [hl]; simp)
    refine .inr ⟨g, 0, rfl, h2, fun j e he => ?_⟩
    obtain ⟨q1, q2⟩ := ecs_at he
    rw [Nat.zero_add]
    exact ⟨h3 _ _ q1, h3 _ _ q2⟩
theorem OwnE.form {w : World} {B : Nat} {v : Value} {l : List Ent} (h : OwnE w B v l) : ∃ A cap, v = .slice A l.length cap ∧ RdE w A l := by
  obtain ⟨A, c, rfl⟩ := nslice_form h
  exact ⟨A, c, rfl, h.rd⟩
theorem infoEnt : (Tryz.prog.info? 68).map (fun i => (i.zero, i.size, i.bytes)) = some (some (.agg #[.string ⟨#[]⟩, .int .i64 0]), 2, 24) := by kernel_rfl
theorem ecs_one (l : List Ent) : ∀ u ∈ ecs l, u.oneCell' = true := by
  intro u hu
  unfold ecs at hu
  obtain ⟨e, _, hu⟩ := List.mem_flatMap.1 hu
  simp at hu
  rcases hu with rfl | rfl <;> rfl

/-! ### Clone -/
theorem eclone_none (n cap : Nat) (w : World) : Calls Tryz.prog 58 #[.slice none n cap] w fun e w' => e = .returned (.slice none 0 0) ∧ w' = w := by
  have qT : ∀ (w : World) (a : Option Addr) (n c n' c' : Nat), (binOp .eql 60 (.slice a n c) (.slice none n' c')).run Tryz.prog w = .ok (.bool a.isNone) w := fun w a n c n' c' => Lib.run_eql_slice_nil w _ _ a n c n' c' Tryz.underlying60
  go_enter Tryz.func58, Tryz.ntmps58
  go_wp2
  go_ret
  exact ⟨rfl, rfl⟩
theorem ecs_get {l : List Ent} {j : Nat} {u : Value} (h : (ecs l)[j]? = some u) : ∃ e, l[j / 2]? = some e ∧ u = if j % 2 = 0 then .string (str e.1) else .int .i64 ((e.2 : Nat) : Int) := by
  have hj : j < l.length * 2 := by
    have := (List.getElem?_eq_some_iff.1 h).1
    rwa [ecs_len] at this
  refine ⟨l[j / 2]'(by omega), List.getElem?_eq_getElem (by omega), ?_⟩
  obtain ⟨q1, q2⟩ := ecs_at (List.getElem?_eq_getElem (l := l) (i := j / 2) (by omega))
  by_cases h0 : j % 2 = 0
  · rw [show j / 2 * 2 = j by omega, h] at q1
    rw [if_pos h0]
    injection q1
  · rw [show j / 2 * 2 + 1 = j by omega, h] at q2
    rw [if_neg h0]
    injection q2
theorem RdE.cells {w : World} {ad : Addr} {l : List Ent} (h : RdE w (some ad) l) : ∀ j u, (ecs l)[j]? = some u → w.cell? (ad.add j) = some u ∧ ad.block < w.heap.size := by
  intro j u hu
  obtain ⟨e, he, rfl⟩ := ecs_get hu
  obtain ⟨b, o, e1, hlt, hc⟩ := h.at he
  obtain rfl : ad = ⟨b, o, none⟩ := by simpa using e1
  rw [Addr.add_mid]
  refine ⟨?_, hlt⟩
  by_cases h0 : j % 2 = 0
  · rw [if_pos h0]
    have := (hc _ _ he).1
    rwa [show o + j / 2 * 2 = o + j by omega] at this
  · rw [if_neg h0]
    have := (hc _ _ he).2
    rwa [show o + j / 2 * 2 + 1 = o + j by omega] at this
set_option maxHeartbeats 1000000 in
theorem eclone_some (ad : Addr) (cap : Nat) (l : List Ent) (w : World) (hr : RdE w (some ad) l) (hl : l.length ≤ 1048576) :
    Calls Tryz.prog 58 #[.slice (some ad) l.length cap] w fun e w' => (∃ v, e = .returned v ∧ OwnE w' w.heap.size v l) ∧ Below w.heap.size w w' := by
  obtain ⟨i0, hi, hz0, hz1, hz2⟩ := info_parts infoEnt
  have hown0 : (w.alloc (.cells #[] 68)).ownsRow w.heap.size 68 2 (.slice (some ⟨w.heap.size, 0, none⟩) 0 0) 0 [] := World.ownsRow_lit w #[] 0 (Nat.le_refl _) (by decide) rfl
  have HC : Hid (∀ j u, (ecs l)[j]? = some u → (w.alloc (.cells #[] 68)).cell? (ad.add j) = some u) := fun j u hu => by
    obtain ⟨h1, h2⟩ := hr.cells j u hu
    exact (((Below.refl _ w).alloc (Nat.le_refl _) (.cells #[] 68)).cell (by unfold Addr.add; split <;> exact h2)).trans h1
  clear hr
  have qT : ∀ (w : World) (a : Option Addr) (n c n' c' : Nat), (binOp .eql 60 (.slice a n c) (.slice none n' c')).run Tryz.prog w = .ok (.bool a.isNone) w := fun w a n c n' c' => Lib.run_eql_slice_nil w _ _ a n c n' c' Tryz.underlying60
  go_enter Tryz.func58, Tryz.ntmps58
  go_wp2_with (at_builtin; refine wpList_append_own _ rfl _ _ 60 rfl w.heap.size 68 i0 _ 2 24 Tryz.underlying60 hi hz0 hz1 hz2 rfl (by decide) _ _ _ rfl hown0 ad l.length cap (ecs l) rfl (ecs_len l) HC.out (ecs_one l) (by unfold maxLen; omega) (by omega) (by simp) ?_; intro v' w2 hown' hgrow hgone; clear hgone)
  have hg2 : (w.alloc (.cells #[] 68)).grownBy w2 (some w.heap.size) := hgrow
  have hb3 : Below w.heap.size w w2 := ((Below.refl _ w).alloc (Nat.le_refl _) _).grown hg2 (by simp) (fun k hk => by cases hk; exact Nat.le_refl _)
  have HO : Hid (OwnE w2 w.heap.size v' l) := by
    show w2.ownsRow _ _ _ _ _ _
    simpa using hown'
  clear hown' hgrow hg2 HC
  go_wp2
  go_ret
  exact ⟨⟨_, rfl, HO.out⟩, hb3⟩
theorem eclone_any (A : Option Addr) (cap : Nat) (l : List Ent) (w : World) (hr : RdE w A l) (hl : l.length ≤ 1048576) :
    Calls Tryz.prog 58 #[.slice A l.length cap] w fun e w' => (∃ v, e = .returned v ∧ OwnE w' w.heap.size v l) ∧ Below w.heap.size w w' := by
  rcases A with _ | ad
  · have : l = [] := by
      rcases hr with h | ⟨b, o, e, _⟩
      · exact h
      · cases e
    subst this
    refine (eclone_none _ _ w).mono fun e w' ⟨he, hw⟩ => ?_
    subst he hw
    exact ⟨⟨_, rfl, World.ownsRow_nil _ _ _ _⟩, Below.refl _ _⟩
  · exact eclone_some ad cap l w hr hl
end Go.Proofs.YtcjljfjgekiocaaGreatDoor

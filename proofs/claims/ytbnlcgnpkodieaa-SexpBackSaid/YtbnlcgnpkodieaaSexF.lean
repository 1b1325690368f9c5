/- Lists of nodes that a call has made: rows of their own, none shared. -/
import Derived.Deep.AppendLies
import Derived.Lib.OwnKind
import Derived.Lib.SmallJoins
import Derived.Test.YtbnlcgnpkodieaaSexE
namespace Go.Proofs.Ytbnlcgnpkodieaa
open Go.RowKit

set_option linter.unusedVariables false
set_option linter.unusedSimpArgs false

def ndC (k : Nat) (a : Int) (t : List Nat) (v : Value) : List Value := [.int .u8 (k : Int), .int .i64 a, .string (str t), v]
theorem ndC_len (k : Nat) (a : Int) (t : List Nat) (v : Value) : (ndC k a t v).length = 4 := rfl
def blk1 (v : Value) : List Nat := v.ownBlock.toList
/-- the cells xs are those of the nodes; ks: all rows below them -/
def RowC (w : World) (B : Nat) : For → List Value → List Nat → Prop
  | .nil, xs, ks => xs = [] ∧ ks = []
  | .cons k a t c r, xs, ks => ∃ v ys k0 zs k2, xs = ndC k a t v ++ zs ∧ ks = (blk1 v ++ k0) ++ k2 ∧ (k < 256 ∧ Codes t ∧ t.length < 9223372036854775807) ∧
      w.ownsRow B 28 4 v c.len ys ∧ RowC w B c ys k0 ∧ RowC w B r zs k2
def KidsC (w : World) (B : Nat) (v : Value) (F : For) (ks : List Nat) : Prop := ∃ ys k0, w.ownsRow B 28 4 v F.len ys ∧ RowC w B F ys k0 ∧ ks = blk1 v ++ k0
theorem rowC_cons {w : World} {B k : Nat} {a : Int} {t : List Nat} {c r : For} {xs : List Value} {ks : List Nat} (h : RowC w B (.cons k a t c r) xs ks) :
    ∃ v k1 zs k2, xs = ndC k a t v ++ zs ∧ ks = k1 ++ k2 ∧ (k < 256 ∧ Codes t ∧ t.length < 9223372036854775807) ∧ KidsC w B v c k1 ∧ RowC w B r zs k2 := by
  obtain ⟨v, ys, k0, zs, k2, h1, h2, h3, h4, h5, h6⟩ := h
  exact ⟨v, _, zs, k2, h1, h2, h3, ⟨ys, k0, h4, h5, rfl⟩, h6⟩
theorem rowC_mk {w : World} {B k : Nat} {a : Int} {t : List Nat} {c r : For} {v : Value} {zs : List Value} {k1 k2 : List Nat} (h3 : k < 256 ∧ Codes t ∧ t.length < 9223372036854775807) (h : KidsC w B v c k1) (h' : RowC w B r zs k2) :
    RowC w B (.cons k a t c r) (ndC k a t v ++ zs) (k1 ++ k2) := by
  obtain ⟨ys, k0, h4, h5, rfl⟩ := h
  exact ⟨v, ys, k0, zs, k2, rfl, rfl, h3, h4, h5, h'⟩
theorem rowC_len {w : World} {B : Nat} : ∀ {F : For} {xs : List Value} {ks : List Nat}, RowC w B F xs ks → xs.length = F.len * 4
  | .nil, xs, ks, h => by rw [h.1]; rfl
  | .cons k a t c r, xs, ks, h => by
    obtain ⟨v, k1, zs, k2, rfl, -, -, -, h⟩ := rowC_cons h
    rw [List.length_append, ndC_len, rowC_len h, For.len]
    omega
theorem ownsRow_block {w w' : World} {B : Nat} {e : TypeId} {size : Nat} {v : Value} {n : Nat} {xs : List Value} (h : w.ownsRow B e size v n xs) (hk : ∀ b ∈ blk1 v, w'.heap[b]? = w.heap[b]?) : w'.ownsRow B e size v n xs := by
  refine ⟨h.1, ?_⟩
  rcases h.2 with h2 | ⟨g, cap, cur, e, hg, hh, r⟩
  · exact .inl h2
  · refine .inr ⟨g, cap, cur, e, hg, ?_, r⟩
    rw [hk g (by rw [e]; simp [blk1, Value.ownBlock])]
    exact hh
theorem RowC.keep {w w' : World} {B : Nat} : ∀ {F : For} {xs : List Value} {ks : List Nat}, RowC w B F xs ks → (∀ b ∈ ks, w'.heap[b]? = w.heap[b]?) → RowC w' B F xs ks
  | .nil, xs, ks, h, _ => h
  | .cons k a t c r, xs, ks, h, hk => by
    obtain ⟨v, ys, k0, zs, k2, h1, rfl, h3, h4, h5, h6⟩ := h
    refine ⟨v, ys, k0, zs, k2, h1, rfl, h3, ownsRow_block h4 fun b hb => hk b (by simp [hb]), RowC.keep h5 fun b hb => hk b (by simp [hb]), RowC.keep h6 fun b hb => hk b (by simp [hb])⟩
theorem KidsC.keep {w w' : World} {B : Nat} {v : Value} {F : For} {ks : List Nat} (h : KidsC w B v F ks) (hk : ∀ b ∈ ks, w'.heap[b]? = w.heap[b]?) : KidsC w' B v F ks := by
  obtain ⟨ys, k0, h1, h2, rfl⟩ := h
  exact ⟨ys, k0, ownsRow_block h1 fun b hb => hk b (by simp [hb]), h2.keep fun b hb => hk b (by simp [hb]), rfl⟩
theorem ownsRow_kind2 {w : World} {B : Nat} {e : TypeId} {size : Nat} {v : Value} {n : Nat} {xs : List Value} (h : w.ownsRow B e size v n xs) : ∀ b ∈ blk1 v, B ≤ b ∧ ∃ c, w.heap[b]? = some (.cells c e (0, 0)) := by
  intro b hb
  rcases h.2 with ⟨rfl, _⟩ | ⟨g, cap, cur, rfl, hg, hh, r⟩
  · simp [blk1, Value.ownBlock] at hb
  · simp [blk1, Value.ownBlock] at hb
    subst hb
    exact ⟨hg, cur, hh⟩
theorem RowC.kind {w : World} {B : Nat} : ∀ {F : For} {xs : List Value} {ks : List Nat}, RowC w B F xs ks → ∀ b ∈ ks, B ≤ b ∧ ∃ c, w.heap[b]? = some (.cells c 28 (0, 0))
  | .nil, xs, ks, h, b, hb => by rw [h.2] at hb; cases hb
  | .cons k a t c r, xs, ks, h, b, hb => by
    obtain ⟨v, ys, k0, zs, k2, h1, rfl, h3, h4, h5, h6⟩ := h
    simp only [List.mem_append] at hb
    rcases hb with (hb | hb) | hb
    · exact ownsRow_kind2 h4 b hb
    · exact h5.kind b hb
    · exact h6.kind b hb
theorem KidsC.kind {w : World} {B : Nat} {v : Value} {F : For} {ks : List Nat} (h : KidsC w B v F ks) : ∀ b ∈ ks, B ≤ b ∧ ∃ c, w.heap[b]? = some (.cells c 28 (0, 0)) := by
  obtain ⟨ys, k0, h1, h2, rfl⟩ := h
  intro b hb
  simp only [List.mem_append] at hb
  rcases hb with hb | hb
  · exact ownsRow_kind2 h1 b hb
  · exact h2.kind b hb
theorem kind_lt {w : World} {b : Nat} {c : Array Value} {e : TypeId} {f : Nat × Nat} (h : w.heap[b]? = some (.cells c e f)) : b < w.heap.size := (Array.getElem?_eq_some_iff.1 h).1
theorem RowC.app {w : World} {B : Nat} : ∀ {F G : For} {xs ys : List Value} {k1 k2 : List Nat}, RowC w B F xs k1 → RowC w B G ys k2 → RowC w B (F.app G) (xs ++ ys) (k1 ++ k2)
  | .nil, G, xs, ys, k1, k2, h, h' => by rw [h.1, h.2]; exact h'
  | .cons k a t c r, G, xs, ys, k1, k2, h, h' => by
    obtain ⟨v, ka, zs, kb, rfl, rfl, h3, h4, h5⟩ := rowC_cons h
    rw [List.append_assoc, List.append_assoc]
    exact rowC_mk h3 h4 (h5.app h')
theorem RowC.split {w : World} {B : Nat} : ∀ {F G : For} {xs : List Value} {ks : List Nat}, RowC w B (F.app G) xs ks → ∃ x1 x2 k1 k2, xs = x1 ++ x2 ∧ ks = k1 ++ k2 ∧ RowC w B F x1 k1 ∧ RowC w B G x2 k2
  | .nil, G, xs, ks, h => ⟨[], xs, [], ks, rfl, rfl, ⟨rfl, rfl⟩, h⟩
  | .cons k a t c r, G, xs, ks, h => by
    obtain ⟨v, ka, zs, kb, rfl, rfl, h3, h4, h5⟩ := rowC_cons h
    obtain ⟨x1, x2, k1, k2, rfl, rfl, h6, h7⟩ := h5.split
    exact ⟨ndC k a t v ++ x1, x2, ka ++ k1, k2, by simp, by simp, rowC_mk h3 h4 h6, h7⟩
theorem rowC_one {w : World} {B k : Nat} {a : Int} {t : List Nat} {c : For} {xs : List Value} {ks : List Nat} (h : RowC w B (For.one k a t c) xs ks) : ∃ v, xs = ndC k a t v ∧ (k < 256 ∧ Codes t ∧ t.length < 9223372036854775807) ∧ KidsC w B v c ks := by
  obtain ⟨v, ka, zs, kb, rfl, rfl, h3, h4, h5⟩ := rowC_cons h
  obtain ⟨rfl, rfl⟩ := h5
  exact ⟨v, by simp, h3, by simpa using h4⟩
theorem rowC_one_mk {w : World} {B k : Nat} {a : Int} {t : List Nat} {c : For} {v : Value} {ks : List Nat} (h3 : k < 256 ∧ Codes t ∧ t.length < 9223372036854775807) (h : KidsC w B v c ks) : RowC w B (For.one k a t c) (ndC k a t v) ks := by
  have := rowC_mk (r := .nil) (a := a) h3 h ⟨rfl, rfl⟩
  rw [List.append_nil, List.append_nil] at this
  exact this
theorem KidsC.nil (w : World) (B : Nat) : KidsC w B (.slice none 0 0) .nil [] := ⟨[], [], World.ownsRow_nil _ _ _ _, ⟨rfl, rfl⟩, rfl⟩

/-- what a call owns can be read -/
theorem RowC.nds {w : World} {B : Nat} : ∀ {F : For} {xs : List Value} {ks : List Nat}, RowC w B F xs ks → ∀ {g o : Nat}, (∀ j u, xs[j]? = some u → w.cell? ⟨g, o + j, none⟩ = some u) → Nds w F g o
  | .nil, xs, ks, h, g, o, hc => trivial
  | .cons k a t c r, xs, ks, h, g, o, hc => by
    obtain ⟨v, ys, k0, zs, k2, rfl, rfl, ⟨h3, h4, h5⟩, h6, h7, h8⟩ := h
    have c0 := hc 0 (.int .u8 (k : Int)) rfl
    have c1 := hc 1 (.int .i64 a) rfl
    have c2 := hc 2 (.string (str t)) rfl
    have c3 := hc 3 v rfl
    obtain ⟨A, m, rfl⟩ := slice_form h6
    refine ⟨c0, c1, c2, h3, h4, h5, ⟨A, m, c3, ?_⟩, h8.nds fun j u hj => ?_⟩
    · cases c with
      | nil => exact .inl rfl
      | cons k' a' t' c' r' =>
        obtain ⟨g', rfl, hg0, hg1, hcell⟩ := row_cells h6 (Nat.succ_pos _)
        exact .inr ⟨g', 0, rfl, h7.nds fun j u hj => by rw [Nat.zero_add]; exact hcell j u hj⟩
    · have := hc (4 + j) u (by rw [List.getElem?_append_right (by rw [ndC_len]; omega), ndC_len, Nat.add_sub_cancel_left]; exact hj)
      rwa [Nat.add_assoc]
theorem KidsC.kds {w : World} {B : Nat} {v : Value} {F : For} {ks : List Nat} (h : KidsC w B v F ks) : ∃ A m, v = .slice A F.len m ∧ Kds w F A := by
  obtain ⟨ys, k0, h1, h2, -⟩ := h
  obtain ⟨A, m, rfl⟩ := slice_form h1
  refine ⟨A, m, rfl, ?_⟩
  cases F with
  | nil => exact .inl rfl
  | cons k' a' t' c' r' =>
    obtain ⟨g', rfl, hg0, hg1, hcell⟩ := row_cells h1 (Nat.succ_pos _)
    exact .inr ⟨g', 0, rfl, h2.nds fun j u hj => by rw [Nat.zero_add]; exact hcell j u hj⟩

/-- cells that are written at the end of a row -/
theorem ownsRow_put4 {w w' : World} {B : Nat} {e : TypeId} {g n cap : Nat} {xs old new : List Value} (h : w.ownsRow B e 4 (.slice (some ⟨g, 0, none⟩) n cap) n (xs ++ old)) (ho : old.length = 4) (hn4 : new.length = 4)
    (hc : ∀ c, w.heap[g]? = some (.cells c e (0, 0)) → ∃ c', w'.heap[g]? = some (.cells c' e (0, 0)) ∧ c'.size = c.size ∧ ∀ j, c'[j]? = if xs.length ≤ j ∧ j < xs.length + 4 ∧ j < c.size then new[j - xs.length]? else c[j]?) :
    w'.ownsRow B e 4 (.slice (some ⟨g, 0, none⟩) n cap) n (xs ++ new) := by
  obtain ⟨h1, h2⟩ := h
  rw [List.length_append, ho] at h1
  refine ⟨by rw [List.length_append, hn4]; exact h1, ?_⟩
  rcases h2 with ⟨h2, h3⟩ | ⟨g', cap', cur, e1, hg, hh, h3, h4, h5, h6⟩
  · cases h2
  injection e1 with e1 e2 e3
  injection e1 with e1
  injection e1 with e1
  subst e1 e3
  obtain ⟨c', hc1, hc2, hc3⟩ := hc cur hh
  refine .inr ⟨g, cap, c', rfl, hg, hc1, h3, h4, by rw [hc2, h5], ?_⟩
  have hnl : n * 4 ≤ cur.toList.length := by rw [Array.length_toList, h5]; omega
  have hcl : c'.toList.length = cur.toList.length := by rw [Array.length_toList, Array.length_toList, hc2]
  apply List.ext_getElem?
  intro j
  by_cases hj : j < n * 4
  · rw [List.getElem?_take_of_lt hj, Array.getElem?_toList, hc3 j]
    by_cases hx : j < xs.length
    · rw [if_neg (by omega), List.getElem?_append_left hx]
      have := congrArg (fun l => l[j]?) h6
      simp only [List.getElem?_take_of_lt hj, Array.getElem?_toList, List.getElem?_append_left hx] at this
      exact this
    · rw [if_pos (by rw [Array.length_toList] at hnl; omega), List.getElem?_append_right (by omega)]
  · rw [List.getElem?_eq_none (by rw [List.length_take]; omega), List.getElem?_eq_none (by rw [List.length_append]; omega)]

theorem setCell_same {w : World} {g j : Nat} {c : Array Value} {t : TypeId} {fr : Nat × Nat} {v : Value} (h : w.heap[g]? = some (.cells c t fr)) (hj : c[j]? = some v) : w.setCell ⟨g, j, none⟩ v = w := by
  have hl : j < c.size := (Array.getElem?_eq_some_iff.1 hj).1
  have hc : c.setIfInBounds j v = c := by
    apply Array.ext_getElem?
    intro i
    rw [Array.getElem?_setIfInBounds]
    split
    · rename_i e; subst e; rw [hj]
    · rfl
  have hh : (w.setCell ⟨g, j, none⟩ v).heap = w.heap := by
    apply Array.ext_getElem?
    intro i
    by_cases hi : i = g
    · subst hi
      rw [Joins.block_setCell h, hc, h]
    · exact Below.heap_setCell _ _ _ _ hi
  show ({ w with heap := (w.setCell ⟨g, j, none⟩ v).heap } : World) = w
  rw [hh]

/-- what four stores into a row, and one into another block, in either order, come to -/
def Put (w : World) (g q : Nat) (xs : List Value) (sb p : Nat) (u : Value) (w' : World) : Prop :=
  w'.os = w.os ∧ w'.tape = w.tape ∧ w'.output = w.output ∧ w'.heap.size = w.heap.size ∧ (∀ b, b ≠ g → b ≠ sb → w'.heap[b]? = w.heap[b]?) ∧
  (∀ c e, w.heap[g]? = some (.cells c e (0, 0)) → ∃ c', w'.heap[g]? = some (.cells c' e (0, 0)) ∧ c'.size = c.size ∧ ∀ j, c'[j]? = if q ≤ j ∧ j < q + 4 ∧ j < c.size then xs[j - q]? else c[j]?) ∧
  (∀ c e, w.heap[sb]? = some (.cells c e (0, 0)) → w'.heap[sb]? = some (.cells (c.setIfInBounds p u) e (0, 0)))
abbrev set4 (w : World) (g q : Nat) (a b c d : Value) : World := (((w.setCell ⟨g, q, none⟩ a).setCell ⟨g, q + 1, none⟩ b).setCell ⟨g, q + 2, none⟩ c).setCell ⟨g, q + 3, none⟩ d
theorem set4_heap {w : World} {g q : Nat} {a b c d : Value} {cs : Array Value} {e : TypeId} {f : Nat × Nat} (h : w.heap[g]? = some (.cells cs e f)) : ∃ c', (set4 w g q a b c d).heap[g]? = some (.cells c' e f) ∧ c'.size = cs.size ∧ ∀ j, c'[j]? = if q ≤ j ∧ j < q + 4 ∧ j < cs.size then [a, b, c, d][j - q]? else cs[j]? := by
  refine ⟨_, Joins.block_setCell (Joins.block_setCell (Joins.block_setCell (Joins.block_setCell h _) _) _) _, by simp, fun j => ?_⟩
  simp only [Array.getElem?_setIfInBounds, Array.size_setIfInBounds]
  by_cases h3 : q + 3 = j
  · subst h3
    by_cases hl : q + 3 < cs.size
    · rw [if_pos rfl, if_pos hl, if_pos ⟨by omega, by omega, hl⟩, show q + 3 - q = 3 from by omega]; rfl
    · rw [if_pos rfl, if_neg hl, if_neg (by omega), Array.getElem?_eq_none (by omega)]
  · rw [if_neg h3]
    by_cases h2 : q + 2 = j
    · subst h2
      by_cases hl : q + 2 < cs.size
      · rw [if_pos rfl, if_pos hl, if_pos ⟨by omega, by omega, hl⟩, show q + 2 - q = 2 from by omega]; rfl
      · rw [if_pos rfl, if_neg hl, if_neg (by omega), Array.getElem?_eq_none (by omega)]
    · rw [if_neg h2]
      by_cases h1 : q + 1 = j
      · subst h1
        by_cases hl : q + 1 < cs.size
        · rw [if_pos rfl, if_pos hl, if_pos ⟨by omega, by omega, hl⟩, show q + 1 - q = 1 from by omega]; rfl
        · rw [if_pos rfl, if_neg hl, if_neg (by omega), Array.getElem?_eq_none (by omega)]
      · rw [if_neg h1]
        by_cases h0 : q = j
        · subst h0
          by_cases hl : q < cs.size
          · rw [if_pos rfl, if_pos hl, if_pos ⟨by omega, by omega, hl⟩, Nat.sub_self]; rfl
          · rw [if_pos rfl, if_neg hl, if_neg (by omega), Array.getElem?_eq_none (by omega)]
        · rw [if_neg h0, if_neg (by omega)]
theorem set4_other (w : World) (g q : Nat) (a b c d : Value) (k : Nat) (h : k ≠ g) : (set4 w g q a b c d).heap[k]? = w.heap[k]? := by
  unfold set4
  rw [Below.heap_setCell _ _ _ _ h, Below.heap_setCell _ _ _ _ h, Below.heap_setCell _ _ _ _ h, Below.heap_setCell _ _ _ _ h]
theorem set4_below (w v : World) (g q : Nat) (a b c d : Value) (h : Below 0 v w) : Below 0 v (set4 w g q a b c d) :=
  (((h.setCell (p := ⟨g, q, none⟩) (Nat.zero_le _) a).setCell (p := ⟨g, q + 1, none⟩) (Nat.zero_le _) b).setCell (p := ⟨g, q + 2, none⟩) (Nat.zero_le _) c).setCell (p := ⟨g, q + 3, none⟩) (Nat.zero_le _) d
theorem put_a (w : World) (g q : Nat) (a b c d : Value) (sb p : Nat) (u : Value) (hne : sb ≠ g) : Put w g q [a, b, c, d] sb p u ((set4 w g q a b c d).setCell ⟨sb, p, none⟩ u) := by
  have hb : Below 0 w ((set4 w g q a b c d).setCell ⟨sb, p, none⟩ u) := (set4_below w w g q a b c d (Below.refl _ _)).setCell (p := ⟨sb, p, none⟩) (Nat.zero_le _) u
  refine ⟨hb.os, hb.tape, hb.output, by simp [set4, World.setCell], fun k h1 h2 => ?_, fun cs e h => ?_, fun cs e h => ?_⟩
  · rw [Below.heap_setCell _ _ _ _ h2, set4_other _ _ _ _ _ _ _ _ h1]
  · rw [Below.heap_setCell _ _ _ _ (Ne.symm hne)]
    exact set4_heap h
  · exact Joins.block_setCell ((set4_other w g q a b c d sb hne).trans h) _
theorem put_b (w : World) (g q : Nat) (a b c d : Value) (sb p : Nat) (u : Value) (hne : sb ≠ g) : Put w g q [a, b, c, d] sb p u (set4 (w.setCell ⟨sb, p, none⟩ u) g q a b c d) := by
  have hb : Below 0 w (set4 (w.setCell ⟨sb, p, none⟩ u) g q a b c d) := set4_below _ w g q a b c d ((Below.refl _ _).setCell (p := ⟨sb, p, none⟩) (Nat.zero_le _) u)
  refine ⟨hb.os, hb.tape, hb.output, by simp [set4, World.setCell], fun k h1 h2 => ?_, fun cs e h => ?_, fun cs e h => ?_⟩
  · rw [set4_other _ _ _ _ _ _ _ _ h1, Below.heap_setCell _ _ _ _ h2]
  · exact set4_heap ((Below.heap_setCell w ⟨sb, p, none⟩ u g (Ne.symm hne)).trans h)
  · rw [set4_other _ _ _ _ _ _ _ _ hne]
    exact Joins.block_setCell h _

/-- a node that was appended to a list -/
theorem KidsC.push {w w1 w2 : World} {B : Nat} {v vk u : Value} {F c : For} {ys zs : List Value} {k0 kk : List Nat} {g cap k : Nat} {a : Int} {t : List Nat} {sb p : Nat}
    (ho : w.ownsRow B 28 4 v F.len ys) (hr : RowC w B F ys k0) (hk : KidsC w B vk c kk) (hnd : ((blk1 v ++ k0) ++ kk).Nodup) (hf : k < 256 ∧ Codes t ∧ t.length < 9223372036854775807)
    (hown : w1.ownsRow B 28 4 (.slice (some ⟨g, 0, none⟩) (F.len + 1) cap) (F.len + 1) (ys ++ zs)) (hz : zs.length = 4)
    (hg : w.grownBy w1 v.ownBlock) (hat : v.ownBlock = some g ∨ g = w.heap.size) (hp : Put w1 g (F.len * 4) (ndC k a t vk) sb p u w2) (hs : ∀ b ∈ k0 ++ kk, b ≠ sb) :
    KidsC w2 B (.slice (some ⟨g, 0, none⟩) (F.len + 1) cap) (F.app (.one k a t c)) (g :: (k0 ++ kk)) ∧ (g :: (k0 ++ kk)).Nodup ∧ ∀ b ∈ k0 ++ kk, b < w.heap.size ∧ w2.heap[b]? = w.heap[b]? := by
  have hlt : ∀ b ∈ k0 ++ kk, b < w.heap.size := fun b hb => by
    rcases List.mem_append.1 hb with hb | hb
    · obtain ⟨_, c, hc⟩ := hr.kind b hb; exact kind_lt hc
    · obtain ⟨_, c, hc⟩ := hk.kind b hb; exact kind_lt hc
  rw [List.append_assoc] at hnd
  have hnv : ∀ b ∈ k0 ++ kk, some b ≠ v.ownBlock := fun b hb e => by
    have := (List.nodup_append.1 hnd).2.2 b (by simp [blk1, ← e]) b hb
    exact this rfl
  have hng : ∀ b ∈ k0 ++ kk, b ≠ g := fun b hb e => by
    rcases hat with h | h
    · exact hnv b hb (by rw [h, e])
    · have := hlt b hb; omega
  have hsame : ∀ b ∈ k0 ++ kk, w2.heap[b]? = w.heap[b]? := fun b hb =>
    (hp.2.2.2.2.1 b (hng b hb) (hs b hb)).trans (hg.block b (hlt b hb) (hnv b hb))
  refine ⟨⟨ys ++ ndC k a t vk, k0 ++ kk, ?_, ?_, rfl⟩, List.nodup_cons.2 ⟨fun h => hng g h rfl, (List.nodup_append.1 hnd).2.1⟩, fun b hb => ⟨hlt b hb, hsame b hb⟩⟩
  · have hl := ho.1
    rw [For.app_len]
    refine ownsRow_put4 hown hz rfl fun cs hcs => ?_
    obtain ⟨c', h1, h2, h3⟩ := hp.2.2.2.2.2.1 cs _ hcs
    refine ⟨c', h1, h2, fun j => ?_⟩
    rw [h3 j, hl]
  · exact (hr.keep fun b hb => hsame b (by simp [hb])).app (rowC_one_mk hf (hk.keep fun b hb => hsame b (by simp [hb])))
/-- the last node of a list whose Kids are others now -/
theorem KidsC.top {w w2 : World} {B n cap : Nat} {sb : Nat} {Q G G' : For} {b : Int} {v' : Value} {x1 : List Value} {vG : Value} {k1 k2 : List Nat} {xs : List Value} {g q : Nat}
    (ho : w.ownsRow B 28 4 (.slice (some ⟨sb, 0, none⟩) n cap) n (x1 ++ ndC 0 b [] vG)) (hQ : RowC w B Q x1 k1) (hn : n = Q.len + 1)
    (hsame : ∀ b ∈ k1, w2.heap[b]? = w.heap[b]?) (hG : KidsC w2 B v' G' k2)
    (hsb : ∀ c e, w.heap[sb]? = some (.cells c e (0, 0)) → w2.heap[sb]? = some (.cells (c.setIfInBounds (Q.len * 4 + 3) v') e (0, 0))) :
    KidsC w2 B (.slice (some ⟨sb, 0, none⟩) n cap) (Q.app (.one 0 b [] G')) (sb :: (k1 ++ k2)) := by
  have hl := rowC_len hQ
  refine ⟨x1 ++ ndC 0 b [] v', k1 ++ k2, ?_, (hQ.keep hsame).app (rowC_one_mk ⟨by decide, (fun _ h => by cases h), by decide⟩ hG), rfl⟩
  have hone : (Q.app (.one 0 b [] G')).len = n := by rw [For.app_len, hn]; rfl
  rw [hone]
  obtain ⟨h1, h2⟩ := ho
  rw [List.length_append, ndC_len] at h1
  refine ⟨by rw [List.length_append, ndC_len]; exact h1, ?_⟩
  rcases h2 with ⟨h2, h3⟩ | ⟨g', cap', cur, e1, hg, hh, h3, h4, h5, h6⟩
  · cases h2
  injection e1 with e1 e2 e3
  injection e1 with e1
  injection e1 with e1
  subst e1 e3
  refine .inr ⟨sb, cap, _, rfl, hg, hsb cur _ hh, h3, h4, by rw [Array.size_setIfInBounds, h5], ?_⟩
  apply List.ext_getElem?
  intro j
  have hnl : n * 4 ≤ cap * 4 := by omega
  by_cases hj : j < n * 4
  · rw [List.getElem?_take_of_lt hj, Array.getElem?_toList, Array.getElem?_setIfInBounds]
    have := congrArg (fun l => l[j]?) h6
    simp only [List.getElem?_take_of_lt hj, Array.getElem?_toList] at this
    by_cases hx : j < x1.length
    · rw [if_neg (by omega), List.getElem?_append_left hx, this, List.getElem?_append_left hx]
    · rw [List.getElem?_append_right (by omega)] at this ⊢
      by_cases he : Q.len * 4 + 3 = j
      · rw [if_pos he, if_pos (by omega), show j - x1.length = 3 from by omega]; rfl
      · rw [if_neg he, this]
        obtain hh | hh | hh : j - x1.length = 0 ∨ j - x1.length = 1 ∨ j - x1.length = 2 := by omega
        all_goals (rw [hh]; rfl)
  · rw [List.getElem?_eq_none (by rw [List.length_take]; omega), List.getElem?_eq_none (by rw [List.length_append, ndC_len]; omega)]

end Go.Proofs.Ytbnlcgnpkodieaa

/- The laws' words: many, one. -/
import Derived.Test.YtdkdgijcoialbaaGreatDoorBudM
import Derived.OwnWalk
import Derived.Laws.Rows
namespace Go.Proofs.YtdkdgijcoialbaaGreatDoor
open Go.RowKit

set_option linter.unusedVariables false
set_option linter.unusedSimpArgs false

def ClAt (w : World) (b o : Nat) (c : Cl) : Prop :=
  w.cell? ⟨b, o, none⟩ = some (.int .u8 c.what) ∧ w.cell? ⟨b, o + 1, none⟩ = some (.int .u8 c.a.kind) ∧ w.cell? ⟨b, o + 2, none⟩ = some (.slice c.a.P c.a.ls.length c.a.pc) ∧ w.cell? ⟨b, o + 3, none⟩ = some (.bool c.a.n1) ∧
  w.cell? ⟨b, o + 4, none⟩ = some (.slice c.a.A1 c.a.la c.a.c1) ∧ w.cell? ⟨b, o + 5, none⟩ = some (.bool c.a.n2) ∧ w.cell? ⟨b, o + 6, none⟩ = some (.slice c.a.A2 c.a.lm c.a.c2) ∧ w.cell? ⟨b, o + 7, none⟩ = some (.int .i64 c.n)
theorem ClAt.below {w w' : World} {B b o : Nat} {c : Cl} (h : ClAt w b o c) (hb : Below B w w') (hB : b < B) : ClAt w' b o c := by
  obtain ⟨h0, h1, h2, h3, h4, h5, h6, h7⟩ := h
  exact ⟨(hb.cell (p := ⟨b, _, none⟩) hB).trans h0, (hb.cell (p := ⟨b, _, none⟩) hB).trans h1, (hb.cell (p := ⟨b, _, none⟩) hB).trans h2, (hb.cell (p := ⟨b, _, none⟩) hB).trans h3, (hb.cell (p := ⟨b, _, none⟩) hB).trans h4, (hb.cell (p := ⟨b, _, none⟩) hB).trans h5, (hb.cell (p := ⟨b, _, none⟩) hB).trans h6, (hb.cell (p := ⟨b, _, none⟩) hB).trans h7⟩
def CallsAt (w : World) (A : Option Addr) (cs : List Cl) : Prop :=
  cs.length ≤ 9223372036854775807 ∧ (0 < cs.length → ∃ b off, A = some ⟨b, off, none⟩ ∧ b < w.heap.size ∧ ∀ (j : Nat) (c : Cl), cs[j]? = some c → ClAt w b (off + j * 8) c ∧ AtIs w c.a)
theorem CallsAt.below {w w' : World} {A : Option Addr} {cs : List Cl} (h : CallsAt w A cs) (hb : Below w.heap.size w w') : CallsAt w' A cs :=
  ⟨h.1, fun hn => by
    obtain ⟨b, off, e, hlt, hc⟩ := h.2 hn
    exact ⟨b, off, e, Nat.lt_of_lt_of_le hlt hb.size, fun j c hj => ⟨(hc j c hj).1.below hb hlt, (hc j c hj).2.below hb⟩⟩⟩
set_option maxRecDepth 100000 in
set_option maxHeartbeats 4000000 in
theorem many_any (A : Option Addr) (cap : Nat) (cs : List Cl) (w : World) (h : CallsAt w A cs) :
    Calls Tryz.prog 4 #[.slice A cs.length cap] w fun e w' => ∃ b, e = .returned (.bool b) ∧ w = w' := by
  have HC := Lib.hid h
  have HL := Lib.hid h.1
  clear h
  go_enter Tryz.func4, Tryz.ntmps4
  go_wp2
  go_loopw [3, 4] (fun m i wr => ∃ k n : Nat, k ≤ cs.length ∧ n ≤ 4001 ∧ i = .int .i64 (k : Int) ∧ m = .int .i64 (n : Int) ∧ w = wr) (fun _ i _ => (cs.length - numOf i).toNat)
  case atStart => exact ⟨0, 0, Nat.zero_le _, Nat.zero_le _, rfl, rfl, rfl⟩
  case round =>
    obtain ⟨k, n, hk, hn, rfl, rfl, rfl⟩ := hrel
    rcases Nat.lt_or_ge k cs.length with hlt | hge
    · obtain ⟨b, off, rfl, hb, hc⟩ := HC.out.2 (by omega)
      obtain ⟨⟨c0, c1, c2, c3, c4, c5, c6, c7⟩, ha⟩ := hc k cs[k] (List.getElem?_eq_getElem hlt)
      have hl := ha.2.1
      obtain ⟨k1, hk1⟩ : ∃ k1 : Nat, wrap64 ((k : Int) + 1) = (k1 : Int) ∧ k1 = k + 1 := ⟨k + 1, by have := HL.out; unfold wrap64; omega, rfl⟩
      have HK1 := Lib.hid hk1.2
      replace hk1 := hk1.1
      clear hc ha c0 c1 c3 c4 c5 c6 c7
      obtain ⟨x, hx⟩ : ∃ x, x = cs[k].a.ls.length := ⟨_, rfl⟩
      rw [← hx] at c2 hl
      clear hx
      generalize cs[k].a.P = P at *
      generalize cs[k].a.pc = pc at *
      generalize hnl : cs.length = nl at *
      clear hn
      by_cases hm : n < 2000
      · obtain ⟨n1, hn1⟩ : ∃ n1 : Nat, (n : Int) + 1 = (n1 : Int) := ⟨n + 1, by simp⟩
        clear hl
        go_wp2
        refine ⟨⟨k1, n1 + min 2000 x, by have := HK1.out; omega, by omega, by rw [hk1], by congr 1; omega, trivial⟩, ?_⟩
        rw [hk1]
        have := HK1.out
        simp only [numOf]; omega
      · go_wp2
        go_ret
        exact ⟨_, rfl, rfl⟩
    · go_wp2
      go_ret
      exact ⟨_, rfl, rfl⟩

theorem info_u32 : ∃ i, Tryz.prog.info? 95 = some i ∧ i.zero = some (.int .u32 0) ∧ i.size = 1 ∧ i.bytes = 4 := by
  have h : (Tryz.prog.info? 95).map (fun i => (i.zero, i.size, i.bytes)) = some (some (.int .u32 0), 1, 4) := by kernel_rfl
  obtain ⟨i, hi, h⟩ := Option.map_eq_some_iff.1 h
  simp only [Prod.mk.injEq] at h
  exact ⟨i, hi, h.1, h.2.1, h.2.2⟩
def OnePost (k : Nat) (w : World) (e : Ending) (w' : World) : Prop := ∃ a : At, e = .returned (.agg a.cells) ∧ AtIs w' a ∧ (a.most : Int) = (k : Int) ∧ Below w.heap.size w w'
theorem made_cell {w : World} {B g n j : Nat} (h : w.ownsRow B 95 1 (.slice (some ⟨g, 0, none⟩) n n) n (madeCells (Value.int .u32 0).cells (n * 1)).toList) (hj : j < n) :
    w.cell? ⟨g, j, none⟩ = some (.int .u32 0) ∧ w.frozen? ⟨g, j, none⟩ = false := by
  refine ⟨?_, ?_⟩
  · have := World.ownsRow.cellAt h j (by omega)
    rw [this, show (Value.int .u32 0).cells = #[.int .u32 0] from rfl, toList_madeCells_one, Nat.mul_one, List.getElem?_replicate_of_lt hj]
  · rcases h.2 with ⟨e, _⟩ | ⟨g', cap, cur, e, hg, hh, r⟩
    · cases e
    · injection e with e1
      injection e1 with e1
      injection e1 with e1
      subst e1
      simp [World.frozen?, hh]
def oneCells : Array Value := #[.int .u8 0, .slice none 0 0, .bool false, .slice none 0 0, .bool false, .slice none 0 0]
theorem lone_new_at (w : World) (c : Array Value) (t : TypeId) (n : Nat) (hn : w.heap.size = n) : (w.alloc (.cells c t)).heap[n]? = some (.cells c t (0, 0)) := hn ▸ lone_new w c t
/-- the atom that one makes -/
theorem one_is {k g : Nat} {w : World} (hk : k ≤ 10) (v : Value) (hv : v = .agg #[.int .u8 0, .slice (some ⟨g, 0, none⟩) 1 1, .bool false, .slice none 0 0, .bool false, .slice none 0 0])
    (A : Option Addr) (c : Nat) (h : w.heap[g]? = some (.cells #[.int .i64 0, .bool false, .slice A k c] 69 (0, 0))) : ∃ a : At, v = .agg a.cells ∧ AtIs w a ∧ (a.most : Int) = (k : Int) := by
  refine ⟨⟨0, some ⟨g, 0, none⟩, 1, false, none, 0, 0, false, none, 0, 0, [k]⟩, hv, ⟨⟨fun j => ?_, fun _ => ⟨g, 0, rfl, (Array.getElem?_eq_some_iff.1 h).1, fun j hj => ?_⟩⟩, by simp, ?_⟩, by simp [At.most, top]⟩
  · cases j with
    | zero => simp; omega
    | succ j => simp
  · have : j = 0 := by simp at hj; omega
    subst this
    exact ⟨0, false, A, c, (cell_of h 0).trans rfl, (cell_of h 1).trans rfl, (cell_of h 2).trans rfl⟩
  · simp [At.most, top]; omega
theorem below_at {B b o : Nat} {a w : World} {v : Value} (hB : B ≤ b) (h : Below B a w) : Below B a (w.setCell ⟨b, o, none⟩ v) := h.setCell (p := ⟨b, o, none⟩) hB v
theorem one_done {k g : Nat} {w0 w : World} (hk : k ≤ 10) (e : Ending) (v : Value) (he : e = .returned (.agg #[.int .u8 0, .slice (some ⟨g, 0, none⟩) 1 1, .bool false, .slice none 0 0, .bool false, .slice none 0 0]))
    (A : Option Addr) (c : Nat) (h : w.heap[g]? = some (.cells #[.int .i64 0, .bool false, .slice A k c] 69 (0, 0))) (hb : Below w0.heap.size w0 w) : OnePost k w0 e w := by
  obtain ⟨a, e1, h1, h2⟩ := one_is hk _ rfl A c h
  exact ⟨a, by rw [he, e1], h1, h2, hb⟩
set_option maxRecDepth 100000 in
set_option maxHeartbeats 4000000 in
theorem one_any (k : Nat) (w : World) (hk : k ≤ 10) :
    Calls Tryz.prog 21 #[.int .i64 (k : Int)] w (OnePost k w) := by
  obtain ⟨i0, hi, hz0, hz1, hz2⟩ := info_u32
  obtain ⟨W, hW⟩ : ∃ W, w.alloc (.cells #[.int .u8 0, .slice none 0 0, .bool false, .slice none 0 0, .bool false, .slice none 0 0] 31) = W := ⟨_, rfl⟩
  have HB := Lib.hid (show Below w.heap.size w W from hW ▸ (Below.refl _ w).alloc (Nat.le_refl _) _)
  have HX := Lib.hid (show W.heap[w.heap.size]? = some (.cells #[.int .u8 0, .slice none 0 0, .bool false, .slice none 0 0, .bool false, .slice none 0 0] 31 (0, 0)) from hW ▸ lone_new w _ _)
  have hne : ¬ w.heap.size = W.heap.size := by have := (Array.getElem?_eq_some_iff.1 HX.out).1; omega
  have hne' : ¬ W.heap.size = w.heap.size := fun h => hne h.symm
  rcases Nat.eq_zero_or_pos k with hk0 | hk0
  all_goals
    try subst hk0
    go_enter Tryz.func21, Tryz.ntmps21
    go_wp2_with ((at_make; refine wpList_make_full _ rfl _ _ 25 rfl W.heap.size 95 i0 (.int .u32 0) 1 Tryz.underlying25 hi hz0 hz1 .i64 .i64 _ _ (_ : Nat) rfl rfl rfl rfl (by rw [hz2]; omega) (by unfold maxLen; omega) (Nat.le_refl _) ?_; intro w1 hown0 hgrow0)
                 have h1 := (hgrow0.block w.heap.size (Array.getElem?_eq_some_iff.1 HX.out).1 (by simp)).trans HX.out
                 have HX1 := Lib.hid h1
                 have HG := Lib.hid hgrow0
                 have HO := Lib.hid hown0
                 have x0 : w1.cell? ⟨w.heap.size, 0, none⟩ = some (.int .u8 0) := (cell_of h1 0).trans rfl
                 have x1 : w1.cell? ⟨w.heap.size, 1, none⟩ = some (.slice none 0 0) := (cell_of h1 1).trans rfl
                 have x2 : w1.cell? ⟨w.heap.size, 2, none⟩ = some (.bool false) := (cell_of h1 2).trans rfl
                 have x3 : w1.cell? ⟨w.heap.size, 3, none⟩ = some (.slice none 0 0) := (cell_of h1 3).trans rfl
                 have x4 : w1.cell? ⟨w.heap.size, 4, none⟩ = some (.bool false) := (cell_of h1 4).trans rfl
                 have x5 : w1.cell? ⟨w.heap.size, 5, none⟩ = some (.slice none 0 0) := (cell_of h1 5).trans rfl
                 have f0 := frozen_of h1 0
                 have f1 := frozen_of h1 1
                 have f2 := frozen_of h1 2
                 have f3 := frozen_of h1 3
                 have f4 := frozen_of h1 4
                 have f5 := frozen_of h1 5
                 have hlt : w.heap.size < w1.heap.size := (Array.getElem?_eq_some_iff.1 h1).1
                 clear h1 hgrow0
                 try (obtain ⟨y0, y1⟩ := made_cell hown0 (show k - 1 < k by omega))
                 clear hown0)
    have hb1 : Below w.heap.size w w1 := HB.out.grown HG.out HB.out.size (fun _ h => by cases h)
    have hWs : w.heap.size ≤ W.heap.size := HB.out.size
    refine bodyPost_ret (v := .agg #[.int .u8 0, .slice (some ⟨w1.heap.size, 0, none⟩) 1 1, .bool false, .slice none 0 0, .bool false, .slice none 0 0]) ?_ rfl ?_
    · simp [results, Tryz.results21, go_sem, hlt, hne, hne', x0, x1, x2, x3, x4, x5]
    · refine one_done hk _ .nilIface rfl _ _ (lone_new_at _ _ _ _ ?_) ?_
      · simp
      · refine Below.alloc ?_ (by simp; omega) _
        iterate 6 (with_reducible refine below_at (Nat.le_refl _) ?_)
        first | exact hb1 | exact below_at hWs hb1
end Go.Proofs.YtdkdgijcoialbaaGreatDoor

/- May, New, Spent, Why. -/
import Derived.Test.YtbnlcgnpkodieaaMetH
import Derived.Laws.ResultCell
namespace Go.Proofs.Ytbnlcgnpkodieaa
open Go.RowKit

set_option linter.unusedVariables false
set_option linter.unusedSimpArgs false

theorem upTo_yes (n most : Int) (w : World) (h : 0 ≤ n ∧ n ≤ most) :
    Calls Try.prog 38 #[.int .i64 n, .int .i64 most] w fun e w' => e = .returned (.bool true) ∧ w = w' := by
  obtain ⟨h0, h1⟩ := h
  go_enter Try.func38, Try.ntmps38
  go_wp2
  go_ret
  exact ⟨rfl, rfl⟩
theorem upTo_no (n most : Int) (w : World) (h : ¬ (0 ≤ n ∧ n ≤ most)) :
    Calls Try.prog 38 #[.int .i64 n, .int .i64 most] w fun e w' => e = .returned (.bool false) ∧ w = w' := by
  by_cases h0 : 0 ≤ n
  · have h1 : ¬ n ≤ most := fun h1 => h ⟨h0, h1⟩
    clear h
    go_enter Try.func38, Try.ntmps38
    go_wp2
    go_ret
    exact ⟨rfl, rfl⟩
  · clear h
    go_enter Try.func38, Try.ntmps38
    go_wp2
    go_ret
    exact ⟨rfl, rfl⟩
def wideV : Value := .agg #[.int .i64 1099511627776, .int .i64 1048576, .int .i64 65536, .int .i64 65536]
theorem widest_any (w : World) :
    Calls Try.prog 37 #[] w fun e w' => e = .returned (.agg #[.int .i64 1099511627776, .int .i64 1048576, .int .i64 65536, .int .i64 65536]) ∧ Below w.heap.size w w' := by
  go_enter Try.func37, Try.ntmps37
  go_wp2
  refine bodyPost_ret (v := .agg #[.int .i64 1099511627776, .int .i64 1048576, .int .i64 65536, .int .i64 65536]) ?_ rfl ⟨rfl, (Below.refl _ w).alloc (Nat.le_refl _) _⟩
  simp [results, Try.results37, go_sem]
def Bmay (s r l d : Int) : Prop := (0 ≤ s ∧ s ≤ 1099511627776) ∧ (0 ≤ r ∧ r ≤ 1048576) ∧ (0 ≤ l ∧ l ≤ 65536) ∧ (0 ≤ d ∧ d ≤ 65536)
instance (s r l d : Int) : Decidable (Bmay s r l d) := by unfold Bmay; infer_instance

def Up (n most : Int) : Prop := 0 ≤ n ∧ n ≤ most
instance (n most : Int) : Decidable (Up n most) := by unfold Up; infer_instance
theorem upTo_is (n most : Int) (b : Bool) (h : decide (Up n most) = b) (w : World) :
    Calls Try.prog 38 #[.int .i64 n, .int .i64 most] w fun e w' => e = .returned (.bool b) ∧ w = w' := by
  cases b with
  | true => exact upTo_yes n most w (of_decide_eq_true h)
  | false => exact upTo_no n most w (of_decide_eq_false h)
def and4 (a b c d : Bool) : Bool := a && (b && (c && d))
set_option maxRecDepth 100000 in
set_option maxHeartbeats 4000000 in
theorem may_of (s r l d : Int) (w : World) (b0 b1 b2 b3 : Bool) (h0 : decide (Up s 1099511627776) = b0) (h1 : decide (Up r 1048576) = b1) (h2 : decide (Up l 65536) = b2) (h3 : decide (Up d 65536) = b3) :
    Calls Try.prog 28 #[.agg #[.int .i64 s, .int .i64 r, .int .i64 l, .int .i64 d]] w fun e w' => e = .returned (.bool (and4 b0 b1 b2 b3)) ∧ Below w.heap.size w w' := by
  obtain ⟨W, hW⟩ : ∃ W, w.alloc (.cells #[.int .i64 s, .int .i64 r, .int .i64 l, .int .i64 d] 48) = W := ⟨_, rfl⟩
  have hB : Below w.heap.size w W := hW ▸ (Below.refl _ w).alloc (Nat.le_refl _) _
  have hx : W.heap[w.heap.size]? = some (.cells #[.int .i64 s, .int .i64 r, .int .i64 l, .int .i64 d] 48 (0, 0)) := hW ▸ lone_new w _ _
  have hz : W.heap.size = w.heap.size + 1 := by rw [← hW]; simp
  have HX := Lib.hid hx
  have HB := Lib.hid hB
  have HZ := Lib.hid hz
  have c := Lib.hid (widest_any W)
  have u0 := Lib.hid (upTo_is s _ b0 h0)
  have u1 := Lib.hid (upTo_is r _ b1 h1)
  have u2 := Lib.hid (upTo_is l _ b2 h2)
  have u3 := Lib.hid (upTo_is d _ b3 h3)
  clear hx hB hz h0 h1 h2 h3
  go_enter Try.func28, Try.ntmps28
  cases b0
  all_goals (try cases b1)
  all_goals (try cases b2)
  all_goals
    go_wp2_with (first
      | ((with_reducible refine c.out.mono ?_); rintro e w1 ⟨rfl, hb1⟩; have HB1 := Lib.hid hb1
         have hy := (hb1.block w.heap.size (by have := HZ.out; omega)).trans HX.out
         have x0 : w1.cell? ⟨w.heap.size, 0, none⟩ = some (.int .i64 s) := by rw [cell_of hy]; rfl
         have x1 : w1.cell? ⟨w.heap.size, 1, none⟩ = some (.int .i64 r) := by rw [cell_of hy]; rfl
         have x2 : w1.cell? ⟨w.heap.size, 2, none⟩ = some (.int .i64 l) := by rw [cell_of hy]; rfl
         have x3 : w1.cell? ⟨w.heap.size, 3, none⟩ = some (.int .i64 d) := by rw [cell_of hy]; rfl
         have hlt : w.heap.size < w1.heap.size := (Array.getElem?_eq_some_iff.1 hy).1
         clear hb1 hy)
      | ((with_reducible refine (u0.out _).mono ?_); rintro e w2 ⟨rfl, rfl⟩)
      | ((with_reducible refine (u1.out _).mono ?_); rintro e w2 ⟨rfl, rfl⟩)
      | ((with_reducible refine (u2.out _).mono ?_); rintro e w2 ⟨rfl, rfl⟩)
      | ((with_reducible refine (u3.out _).mono ?_); rintro e w2 ⟨rfl, rfl⟩))
    go_ret
    exact ⟨rfl, (HB.out.trans (HB1.out.mono HB.out.size)).alloc (Nat.le_trans HB.out.size HB1.out.size) _⟩
theorem may_any (s r l d : Int) (w : World) :
    Calls Try.prog 28 #[.agg #[.int .i64 s, .int .i64 r, .int .i64 l, .int .i64 d]] w fun e w' => e = .returned (.bool (decide (Bmay s r l d))) ∧ Below w.heap.size w w' := by
  have h : decide (Bmay s r l d) = and4 (decide (Up s 1099511627776)) (decide (Up r 1048576)) (decide (Up l 65536)) (decide (Up d 65536)) := by
    rw [Bool.eq_iff_iff]; unfold and4; simp only [Bool.and_eq_true, decide_eq_true_iff]; exact Iff.rfl
  rw [h]
  exact may_of s r l d w _ _ _ _ rfl rfl rfl rfl
def Mt.new (s r l d : Int) : Mt := ⟨s, r, l, d, 0, 0, 0, 0, none⟩
theorem new_no (s r l d : Int) (w : World) (h : ¬ Bmay s r l d) :
    Calls Try.prog 20 #[.agg #[.int .i64 s, .int .i64 r, .int .i64 l, .int .i64 d]] w fun e w' => e = .returned (.tuple #[.pointer none, .int .i64 1]) ∧ Below w.heap.size w w' := by
  obtain ⟨W, hW⟩ : ∃ W, w.alloc (.cells #[.int .i64 s, .int .i64 r, .int .i64 l, .int .i64 d] 48) = W := ⟨_, rfl⟩
  have HB := Lib.hid (show Below w.heap.size w W from hW ▸ (Below.refl _ w).alloc (Nat.le_refl _) _)
  have hx : W.heap[w.heap.size]? = some (.cells #[.int .i64 s, .int .i64 r, .int .i64 l, .int .i64 d] 48 (0, 0)) := hW ▸ lone_new w _ _
  have x0 : W.cell? ⟨w.heap.size, 0, none⟩ = some (.int .i64 s) := by rw [cell_of hx]; rfl
  have x1 : W.cell? ⟨w.heap.size, 1, none⟩ = some (.int .i64 r) := by rw [cell_of hx]; rfl
  have x2 : W.cell? ⟨w.heap.size, 2, none⟩ = some (.int .i64 l) := by rw [cell_of hx]; rfl
  have x3 : W.cell? ⟨w.heap.size, 3, none⟩ = some (.int .i64 d) := by rw [cell_of hx]; rfl
  have c0 := may_any s r l d W
  rw [decide_eq_false h] at c0
  have c := Lib.hid c0
  clear hx c0 h
  go_enter Try.func20, Try.ntmps20
  go_wp2_with ((with_reducible refine c.out.mono ?_); rintro e w1 ⟨rfl, hb1⟩; have HB1 := Lib.hid hb1; clear hb1)
  go_ret2
  exact ⟨rfl, HB.out.trans (HB1.out.mono HB.out.size)⟩
def Made (m : Mt) (w : World) (e : Ending) (w' : World) : Prop := ∃ g, w.heap.size ≤ g ∧ e = .returned (.tuple #[.pointer (some ⟨g, 0, none⟩), .int .i64 0]) ∧ MtAt g m w' ∧ Below w.heap.size w w'
theorem new_yes (s r l d : Int) (w : World) (h : Bmay s r l d) :
    Calls Try.prog 20 #[.agg #[.int .i64 s, .int .i64 r, .int .i64 l, .int .i64 d]] w (Made (Mt.new s r l d) w) := by
  obtain ⟨W, hW⟩ : ∃ W, w.alloc (.cells #[.int .i64 s, .int .i64 r, .int .i64 l, .int .i64 d] 48) = W := ⟨_, rfl⟩
  have HB := Lib.hid (show Below w.heap.size w W from hW ▸ (Below.refl _ w).alloc (Nat.le_refl _) _)
  have hx : W.heap[w.heap.size]? = some (.cells #[.int .i64 s, .int .i64 r, .int .i64 l, .int .i64 d] 48 (0, 0)) := hW ▸ lone_new w _ _
  have x0 : W.cell? ⟨w.heap.size, 0, none⟩ = some (.int .i64 s) := by rw [cell_of hx]; rfl
  have x1 : W.cell? ⟨w.heap.size, 1, none⟩ = some (.int .i64 r) := by rw [cell_of hx]; rfl
  have x2 : W.cell? ⟨w.heap.size, 2, none⟩ = some (.int .i64 l) := by rw [cell_of hx]; rfl
  have x3 : W.cell? ⟨w.heap.size, 3, none⟩ = some (.int .i64 d) := by rw [cell_of hx]; rfl
  have HX := Lib.hid hx
  have c0 := may_any s r l d W
  rw [decide_eq_true h] at c0
  have c := Lib.hid c0
  clear hx c0 h
  go_enter Try.func20, Try.ntmps20
  go_wp2_with ((with_reducible refine c.out.mono ?_); rintro e w1 ⟨rfl, hb1⟩; have HB1 := Lib.hid hb1
               have hy := (hb1.block w.heap.size (Array.getElem?_eq_some_iff.1 HX.out).1).trans HX.out
               have y0 : w1.cell? ⟨w.heap.size, 0, none⟩ = some (.int .i64 s) := by rw [cell_of hy]; rfl
               have y1 : w1.cell? ⟨w.heap.size, 1, none⟩ = some (.int .i64 r) := by rw [cell_of hy]; rfl
               have y2 : w1.cell? ⟨w.heap.size, 2, none⟩ = some (.int .i64 l) := by rw [cell_of hy]; rfl
               have y3 : w1.cell? ⟨w.heap.size, 3, none⟩ = some (.int .i64 d) := by rw [cell_of hy]; rfl
               clear hb1 hy)
  go_ret2
  exact ⟨w1.heap.size, Nat.le_trans HB.out.size HB1.out.size, rfl, lone_new _ _ _, (HB.out.trans (HB1.out.mono HB.out.size)).alloc (Nat.le_trans HB.out.size HB1.out.size) _⟩
end Go.Proofs.Ytbnlcgnpkodieaa

/- Iterators: slices.Backward at scopes; what blocks tells. -/
import Derived.RangeFuncBox
import Derived.RangeFuncLeaves
import Derived.RangeFuncNested
import Derived.Shelf.Abstract
import Derived.OwnWalkIn
import Derived.TacticsInMore
import Derived.LoopNIn
import Derived.LoopIn
import Derived.Maps.AppendAt
import Derived.Sort.QuietIn
import Derived.Test.YtcjljfjgekiocaaGreatDoorNamK
namespace Go.Proofs.YtcjljfjgekiocaaGreatDoor
open Go.RowKit Go.Shelf

attribute [local go_sem] Oper.semAt_some
set_option linter.unusedVariables false
set_option linter.unusedSimpArgs false

/-- below n₀ nothing has turned, nor have some boxes -/
def NKp (n₀ : Nat) (cs : List Nat) (W W' : World) : Prop := Below n₀ W W' ∧ ∀ B, B ∈ cs → W'.heap[B]? = W.heap[B]?
theorem NKp.refl (n₀ : Nat) (cs : List Nat) (W : World) : NKp n₀ cs W W := ⟨Below.refl _ _, fun _ _ => rfl⟩
theorem nkp_t {n₀ : Nat} {cs : List Nat} {A B C : World} (h : NKp n₀ cs A B) (k : NKp n₀ cs B C) : NKp n₀ cs A C := ⟨h.1.trans k.1, fun b hb => (k.2 b hb).trans (h.2 b hb)⟩
theorem nkp_b {n₀ : Nat} {cs : List Nat} {w : World} (hn : n₀ ≤ w.heap.size) (hc : ∀ B, B ∈ cs → B < w.heap.size) (W : World) (l : Nat) (o o' : Obj) (hl : w.heap.size ≤ l) (h : W.heap[l]? = some o) (h2 : o.isCells = false) (h3 : o.isWalk = false) : NKp n₀ cs W (W.putObj l o') :=
  ⟨belowK_b hn W l o o' hl h h2 h3, fun B hB => World.putObj_heap_other (by have := hc B hB; omega)⟩
theorem NKp.cell {n₀ : Nat} {cs : List Nat} {A B : World} (h : NKp n₀ cs A B) {b : Nat} (hb : b ∈ cs) : B.cell? ⟨b, 0, none⟩ = A.cell? ⟨b, 0, none⟩ := World.cell?_of_block (h.2 b hb)
theorem NKp.of_below {n₀ : Nat} {cs : List Nat} {A B : World} (h : Below A.heap.size A B) (hn : n₀ ≤ A.heap.size) (hc : ∀ B, B ∈ cs → B < A.heap.size) : NKp n₀ cs A B :=
  ⟨h.mono hn, fun b hb => h.block b (hc b hb)⟩

/-- a slice's three parts -/
abbrev SD := Option Addr × Nat × Nat
abbrev sv (d : SD) : Value := .slice d.1 d.2.1 d.2.2
/-- a block with its place, as Backward tells it -/
def tellB (f : Nat → SD × SD) (i : Nat) : Array Value := #[.int .i64 (i : Int), .agg #[sv (f i).1, sv (f i).2]]
def bkw (m k : Nat) : List Nat := (List.range k).map fun j => m - 1 - j
theorem bkw_succ (m k : Nat) : bkw m (k + 1) = bkw m k ++ [m - 1 - k] := by simp [bkw, List.range_succ]
theorem bkw_len (m k : Nat) : (bkw m k).length = k := by simp [bkw]
/-- the cells of m blocks can be read -/
def RdB (W : World) (n₀ : Nat) (A : Option Addr) (m : Nat) (f : Nat → SD × SD) : Prop := m = 0 ∨ ∃ b o, A = some ⟨b, o, none⟩ ∧ b < n₀ ∧ ∀ j, j < m → W.cell? ⟨b, o + j * 2, none⟩ = some (sv (f j).1) ∧ W.cell? ⟨b, o + j * 2 + 1, none⟩ = some (sv (f j).2)
theorem RdB.below {W W' : World} {n₀ : Nat} {A : Option Addr} {m : Nat} {f : Nat → SD × SD} (h : RdB W n₀ A m f) (hb : Below n₀ W W') : RdB W' n₀ A m f := by
  rcases h with h | ⟨b, o, e, hq, hc⟩
  · exact .inl h
  · exact .inr ⟨b, o, e, hq, fun j hj => ⟨(hb.cell (p := ⟨b, o + j * 2, none⟩) hq).trans (hc j hj).1, (hb.cell (p := ⟨b, o + j * 2 + 1, none⟩) hq).trans (hc j hj).2⟩⟩

set_option maxRecDepth 100000 in
set_option maxHeartbeats 4000000 in
theorem back1_in (n : Nat) (hn : 1 ≤ n) (l Bs n₀ : Nat) (A : Option Addr) (m c : Nat) (f : Nat → SD × SD) (hm : m ≤ 64) (J Jx : List Nat → World → Prop)
    (hY : ∀ pre x W, J pre W → pre.length < m → YieldAt Fence.wide (n - 1) Tryz.prog l (tellB f x) W fun e W' =>
      (e = .returned (.bool true) ∧ J (pre ++ [x]) W' ∧ NKp n₀ [Bs] W W') ∨ (e = .returned (.bool false) ∧ Jx (pre ++ [x]) W'))
    (W : World) (hn₀ : n₀ ≤ W.heap.size) (hBl : Bs < W.heap.size) (hBs : W.cell? ⟨Bs, 0, none⟩ = some (.slice A m c)) (hR : RdB W n₀ A m f) (h0 : J [] W) :
    CallsIn Fence.wide n Tryz.prog 83 #[.func (.yield l) #[] #[], .pointer (some ⟨Bs, 0, none⟩)] W fun e W' => (∃ v, e = .returned v) ∧
      ((∃ ys, ys = bkw m m ∧ J ys W') ∨ (∃ pre, (∃ k, k < m ∧ pre = bkw m (k + 1)) ∧ Jx pre W')) := by
  refine callsIn_of_wp Tryz.func83 rfl trivial ?_ rfl
  simp only [Tryz.ntmps83, List.size_toArray, List.length_cons, List.length_nil, Nat.reduceAdd, Nat.reduceSub, Array.replicate_succ, Array.replicate_zero, List.push_toArray, List.append_toArray, List.nil_append, List.cons_append]
  gi_wp2_with fail
  gi_loopw [3] (fun i wr => ∃ (k : Nat), k ≤ m ∧ i = .int .i64 ((m : Int) - 1 - (k : Int)) ∧ J (bkw m k) wr ∧ NKp n₀ [Bs] W wr)
    (fun i _ => (intOf i + 1).toNat)
  case atStart => exact ⟨0, Nat.zero_le _, by simp, h0, NKp.refl _ _ _⟩
  case round =>
    obtain ⟨k, hk, rfl, hJs, hnx⟩ := hrel
    have hx0 := (hnx.cell (by simp)).trans hBs
    by_cases hlt : k < m
    · obtain ⟨i, hi⟩ : ∃ i, i = m - 1 - k := ⟨_, rfl⟩
      have hii : (m : Int) - 1 - (k : Int) = (i : Int) := by omega
      have him : i < m := by omega
      have himI : (i : Int) < (m : Int) := by omega
      obtain ⟨b, o, rfl, hq, hc⟩ : ∃ b o, A = some ⟨b, o, none⟩ ∧ b < n₀ ∧ ∀ j, j < m → wr.cell? ⟨b, o + j * 2, none⟩ = some (sv (f j).1) ∧ wr.cell? ⟨b, o + j * 2 + 1, none⟩ = some (sv (f j).2) := by
        rcases hR.below hnx.1 with h | h
        · omega
        · exact h
      obtain ⟨c1, c2⟩ := hc i him
      have HXE : Hid (m - 1 - k = i) := hi.symm
      have hYY := hY (bkw m k) i wr hJs (by rw [bkw_len]; exact hlt)
      obtain ⟨fn, tmps, assign, body, hy, hRR⟩ := hYY
      unfold tellB at hy
      generalize f i = fi at *
      obtain ⟨⟨fa, fb, fc⟩, ⟨fd, fe, ff⟩⟩ := fi
      dsimp only [sv] at hy c1 c2
      rw [hii]
      have HJ := Lib.hid hJs
      have HNX := Lib.hid hnx
      have HI := Lib.hid hi
      have hi0 : (0 : Int) ≤ (i : Int) := by omega
      clear hJs hnx hc hi hY hR
      gi_wp2_with fail
      refine hRR.mono ?_
      rintro e W5 (⟨rfl, hJ5, hk5⟩ | ⟨rfl, hJx5⟩)
      · rw [← HXE.out, ← bkw_succ] at hJ5
        have HJ5 := Lib.hid hJ5
        have HK5 := Lib.hid hk5
        clear hJ5 hk5 hRR hy
        gi_wp2_with fail
        go_roundw
        case rel => exact ⟨k + 1, by omega, by have := HI.out; congr 1; omega, HJ5.out, nkp_t HNX.out HK5.out⟩
        case measure => simp [intOf] <;> omega
      · rw [← HXE.out, ← bkw_succ] at hJx5
        have HJ5 := Lib.hid hJx5
        clear hJx5 hRR hy
        gi_wp2_with fail
        refine bodyPost_ret (results_none rfl _ _ _) rfl ?_
        exact ⟨⟨_, rfl⟩, .inr ⟨_, ⟨k, hlt, rfl⟩, HJ5.out⟩⟩
    · have hke : k = m := by omega
      have hm1 : (m : Int) - 1 - (k : Int) = -1 := by omega
      rw [hke] at hJs
      have HJ := Lib.hid hJs
      rw [hm1]
      clear hJs hke hlt hm1
      gi_wp2_with fail
      go_end0
      exact ⟨⟨_, rfl⟩, .inl ⟨_, rfl, HJ.out⟩⟩
theorem back_in (n : Nat) (A : Option Addr) (m c : Nat) (w : World) :
    CallsIn Fence.wide n Tryz.prog 67 #[.slice A m c] w fun e w' => e = .returned (.func (.func 83) #[] #[.pointer (some ⟨w.heap.size, 0, none⟩)]) ∧ w' = w.alloc (.cells #[.slice A m c] 63) := by
  refine callsIn_of_wp Tryz.func67 rfl trivial ?_ rfl
  simp only [Tryz.ntmps67, List.size_toArray, List.length_cons, List.length_nil, Nat.reduceAdd, Nat.reduceSub, Array.replicate_succ, Array.replicate_zero, List.push_toArray, List.append_toArray, List.nil_append, List.cons_append]
  gi_wp2
  go_ret
  exact ⟨rfl, rfl⟩
theorem nabides {β : Type} {B : Nat} {J : β → World → Prop} (h : AbidesFrom B J) (s : β) (W W' : World) (hs : J s W) (hb : Below W.heap.size W W') : J s W' :=
  h s W W' none hs ⟨hb.os, hb.tape, hb.output, hb.size, fun k hk _ => hb.block k hk⟩ (fun r e => by cases e)
theorem back_stops (n : Nat) (hn : 1 ≤ n) (Bs n₀ : Nat) (A : Option Addr) (m c : Nat) (f : Nat → SD × SD) (hm : m ≤ 64) (w : World) (hn₀ : n₀ ≤ w.heap.size) (hBs : Bs < w.heap.size)
    (h1 : w.cell? ⟨Bs, 0, none⟩ = some (.slice A m c)) (hR : RdB w n₀ A m f) :
    SeqStopsK Fence.wide n Tryz.prog 83 #[.pointer (some ⟨Bs, 0, none⟩)] (tellB f) (NKp n₀ [Bs]) (fun ys => ys = bkw m m)
      (fun pre => ∃ k, k < m ∧ pre = bkw m (k + 1)) m w := fun l J Jx W hW hJ _ hY h0 =>
  back1_in n hn l Bs n₀ A m c f hm J Jx hY W (Nat.le_trans hn₀ hW.size) (Nat.lt_of_lt_of_le hBs hW.size) ((hW.cell (p := ⟨Bs, 0, none⟩) hBs).trans h1) (hR.below (hW.mono hn₀)) h0
end Go.Proofs.YtcjljfjgekiocaaGreatDoor

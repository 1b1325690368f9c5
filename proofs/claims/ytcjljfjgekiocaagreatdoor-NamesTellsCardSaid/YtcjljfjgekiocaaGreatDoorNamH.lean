/- Contract: slices.Delete of the last scope. -/
import Derived.Test.YtcjljfjgekiocaaGreatDoorNamG
import Derived.Lib.AppendZeros
namespace Go.Proofs.YtcjljfjgekiocaaGreatDoor
open Go.RowKit Go.Shelf

set_option linter.unusedVariables false
set_option linter.unusedSimpArgs false

theorem infoBlkZ : (Tryz.prog.info? 62).map (fun i => (i.zero, i.size, i.bytes)) = some (some (.agg #[.slice none 0 0, .slice none 0 0]), 2, 48) := by kernel_rfl
theorem append_none_run (g n c k : Nat) (A : Addr) (ty : TypeId) (w : World) (hnc : n ≤ c) : (Builtin.append_ #[63, 63] ty #[.slice (some ⟨g, 0, none⟩) n c, .slice (some A) 0 k]).run Tryz.prog w = .ok (.slice (some ⟨g, 0, none⟩) n c) w := by
  obtain ⟨i0, hi, hz0, hz1, hz2⟩ := info_parts infoBlkZ
  simp [Builtin.append_, run_underlying Tryz.underlying63, sizeOf, typeInfo, hi, Builtin.lenOf, Builtin.firstCells, hnc, storeCells, loadCells, loadCellsFrom]
theorem clear_last_run (g o c : Nat) (ty : TypeId) (w : World) {cur : Array Value} (hg : w.heap[g]? = some (.cells cur 62 (0, 0))) (hc : o + 2 ≤ cur.size) :
    (Builtin.clear_ #[63] ty #[.slice (some ⟨g, o, none⟩) 1 c]).run Tryz.prog w = .ok (.tuple #[]) (w.setRow g (cur.toList.take o ++ [Value.slice none 0 0, Value.slice none 0 0] ++ cur.toList.drop (o + 2)).toArray) := by
  obtain ⟨i0, hi, hz0, hz1, hz2⟩ := info_parts infoBlkZ
  have e : (List.map (fun i => [Value.slice none 0 0, Value.slice none 0 0][i % 2]?.getD default) (List.range 2)) = [.slice none 0 0, .slice none 0 0] := rfl
  simp [Builtin.clear_, run_underlying Tryz.underlying63, sizeOf, typeInfo, zeroValue, hi, hz0, hz1, Builtin.zeroCells, Value.cells, e]
  have hst := run_storeCells_at (P := Tryz.prog) g o 62 [.slice none 0 0, .slice none 0 0] 0 cur w hg (by simp; omega) (by simp [Value.oneCell'])
  rw [hst]
  simp [Result.andThen]
theorem setRow_heap2 (w : World) (g : Nat) (cs : Array Value) {cur : Array Value} {e : TypeId} {f : Nat × Nat} (h : w.heap[g]? = some (.cells cur e f)) : (w.setRow g cs).heap[g]? = some (.cells cs e f) := by
  show (w.heap.modify g _)[g]? = _
  rw [Array.getElem?_modify, if_pos rfl, h]; rfl
theorem setRow_other (w : World) (g k : Nat) (cs : Array Value) (h : k ≠ g) : (w.setRow g cs).heap[k]? = w.heap[k]? := by
  show (w.heap.modify g _)[k]? = _
  rw [Array.getElem?_modify, if_neg (fun e => h e.symm)]
theorem setRow_size2 (w : World) (g : Nat) (cs : Array Value) : (w.setRow g cs).heap.size = w.heap.size := by
  show (w.heap.modify g _).size = _
  simp
/-- the scopes but for the last one -/
def DelP (w : World) (B g n c : Nat) (xs : List Value) (e : Ending) (w' : World) : Prop :=
  e = .returned (.slice (some ⟨g, 0, none⟩) n c) ∧ w'.ownsRow B 62 2 (.slice (some ⟨g, 0, none⟩) n c) n (xs.take (n * 2)) ∧ Nb (fun k => k = g) w w'
theorem del_fin {w : World} {B g n c : Nat} {xs : List Value} {cur R : Array Value} (hh : w.heap[g]? = some (.cells cur 62 (0, 0))) (hcs : cur.size = c * 2) (htk : cur.toList.take ((n + 1) * 2) = xs) (hg : B ≤ g) (hnc : n + 1 ≤ c) (hm : c ≤ 9223372036854775807) (hR : R = (cur.toList.take (n * 2) ++ [Value.slice none 0 0, Value.slice none 0 0] ++ cur.toList.drop (n * 2 + 2)).toArray) :
    DelP w B g n c xs (.returned (.slice (some ⟨g, 0, none⟩) n c)) (w.drew.setRow g R) := by
  have hxl : xs.length = (n + 1) * 2 := by rw [← htk, List.length_take, Array.length_toList]; omega
  refine ⟨rfl, ⟨by rw [List.length_take]; omega, .inr ⟨g, c, R, rfl, hg, setRow_heap2 w.drew g R hh, by omega, hm, ?_, ?_⟩⟩, ?_⟩
  · rw [hR]
    simp
    omega
  · rw [hR, ← htk, List.take_take, show min (n * 2) ((n + 1) * 2) = n * 2 by omega]
    simp only [List.append_assoc]
    rw [List.take_left' (by rw [List.length_take, Array.length_toList]; omega)]
  · exact ⟨rfl, rfl, rfl, Nat.le_of_eq (setRow_size2 _ _ _).symm, fun k hk hne => setRow_other w.drew g k R hne⟩
set_option maxRecDepth 100000 in
set_option maxHeartbeats 4000000 in
theorem del_last (g n c : Nat) (xs : List Value) (w : World) (B : Nat) (h : w.ownsRow B 62 2 (.slice (some ⟨g, 0, none⟩) (n + 1) c) (n + 1) xs) (hn : n ≤ 64) :
    Calls Tryz.prog 44 #[.slice (some ⟨g, 0, none⟩) (n + 1) c, .int .i64 (n : Int), .int .i64 ((n + 1 : Nat) : Int)] w (DelP w B g n c xs) := by
  have hx := h
  rcases h.2 with ⟨h0, _⟩ | ⟨g', cap', cur, e, hg, hh, hnc, hcm, hcs, htk⟩
  · cases h0
  injection e with e1 e2 e3
  injection e1 with e1
  injection e1 with e1
  subst e1 e3
  have HAP : Hid (∀ (k : Nat) (A : Addr) (ty : TypeId) (w : World), (Builtin.append_ #[63, 63] ty #[.slice (some ⟨g, 0, none⟩) n c, .slice (some A) 0 k]).run Tryz.prog w = .ok (.slice (some ⟨g, 0, none⟩) n c) w) := fun k A ty w => append_none_run g n c k A ty w (by omega)
  have HAP2 : Hid (∀ (m k o : Nat) (ty : TypeId) (w : World), (Builtin.append_ #[63, 63] ty #[.slice (some ⟨g, 0, none⟩) n c, .slice (if c = m then some ⟨g, 0, none⟩ else some ⟨g, o, none⟩) 0 k]).run Tryz.prog w = .ok (.slice (some ⟨g, 0, none⟩) n c) w) := fun m k o ty w => by
    split
    · exact HAP.out k _ ty w
    · exact HAP.out k _ ty w
  have HCL : Hid (∀ (k : Nat) (ty : TypeId), (Builtin.clear_ #[63] ty #[.slice (some ⟨g, n * 2, none⟩) 1 k]).run Tryz.prog w.drew = .ok (.tuple #[]) (w.drew.setRow g (cur.toList.take (n * 2) ++ [Value.slice none 0 0, Value.slice none 0 0] ++ cur.toList.drop (n * 2 + 2)).toArray)) := fun k ty => clear_last_run g (n * 2) k ty w.drew hh (by omega)
  have hap := HAP2.out
  have hm : c ≤ 9223372036854775807 := hcm
  have HH := Lib.hid hh
  have HCS := Lib.hid hcs
  have HTK := Lib.hid htk
  have HGB := Lib.hid hg
  obtain ⟨m, hmm⟩ : ∃ m, m = n + 1 := ⟨_, rfl⟩
  have i1 : ((n : Int) == (m : Int)) = false := by simp; omega
  have i2 : (m : Int) - (n : Int) = 1 := by omega
  rw [← hmm] at hnc ⊢
  have HM := Lib.hid hmm
  have j1 : n ≤ c := by omega
  have j2 : (n : Int) ≤ (c : Int) := by omega
  have j3 : (m : Int) ≤ (c : Int) := by omega
  have j4 : n ≤ m := by omega
  have j5 : (n : Int) ≤ (m : Int) := by omega
  clear h hx hh hcs htk hg hcm hmm
  have hcl : ∀ (k : Nat) (ty : TypeId), (Builtin.clear_ #[63] ty #[.slice (some ⟨g, n * 2, none⟩) (m - n) k]).run Tryz.prog w.drew = .ok (.tuple #[]) (w.drew.setRow g (cur.toList.take (n * 2) ++ [Value.slice none 0 0, Value.slice none 0 0] ++ cur.toList.drop (n * 2 + 2)).toArray) := fun k ty => by
    rw [show m - n = 1 by rw [HM.out]; omega]
    exact HCL.out k ty
  obtain ⟨R, hR⟩ : ∃ R, R = (cur.toList.take (n * 2) ++ [Value.slice none 0 0, Value.slice none 0 0] ++ cur.toList.drop (n * 2 + 2)).toArray := ⟨_, rfl⟩
  rw [← hR] at hcl
  have HRR := Lib.hid hR
  clear hR hap
  by_cases hcc : c = m
  · subst hcc
    go_enter Tryz.func44, Tryz.ntmps44
    go_wp2_with fail
    go_region
    go_wp2_with fail
    go_ret
    exact del_fin HH.out HCS.out HTK.out HGB.out (by have := HM.out; omega) hm HRR.out
  · go_enter Tryz.func44, Tryz.ntmps44
    go_wp2_with fail
    go_region
    go_wp2_with fail
    go_ret
    exact del_fin HH.out HCS.out HTK.out HGB.out (by have := HM.out; omega) hm HRR.out
end Go.Proofs.YtcjljfjgekiocaaGreatDoor

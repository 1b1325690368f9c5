/- append(x, make([]uint32, n)...): n zeros behind an own list. -/
import Derived.Lib.AppendZeros
import Derived.Test.YtlfhpoffphljfaaMulM
namespace Go.Proofs.Ytlfhpoffphljfaa
open Go.RowKit Go.Shelf

theorem zeros_list (m : Nat) : Builtin.zeroCells (Value.int .u32 0).cells m = (u32s (List.replicate m 0)).toArray := by
  apply Array.ext'
  have hz : (Value.int .u32 0).cells = #[.int .u32 0] := rfl
  rw [hz]
  simp only [Builtin.zeroCells, u32s, List.map_replicate, Array.toList_map, Array.toList_range]
  apply List.ext_getElem
  · simp
  · intro j h1 h2
    simp [lv, Nat.mod_one]

theorem zeros_room (w : World) (ty : TypeId) (g sLen sCap m : Nat) (cur : Array Value) (hm : 0 < m) (hg : w.heap[g]? = some (.cells cur 28 (0, 0))) (h63 : m ≤ 1048576) (hroom : sLen + m ≤ sCap) (hfit : sLen + m ≤ cur.size) :
    (Builtin.append_ #[26, 3] ty #[.slice (some ⟨g, 0, none⟩) sLen sCap, .int .i64 (m : Int)]).run Try.prog w =
      .ok (.slice (some ⟨g, 0, none⟩) (sLen + m) sCap) (w.setRow g (cur.toList.take sLen ++ u32s (List.replicate m 0) ++ cur.toList.drop (sLen + m)).toArray) := by
  obtain ⟨i0, hi, hz0, hz1, hz2⟩ := info_parts info32
  have hl : (u32s (List.replicate m 0)).length = m := by simp [u32s]
  have h1 : ∀ u ∈ u32s (List.replicate m 0), u.oneCell' = true := fun u hu => by
    obtain ⟨x, _, rfl⟩ := List.mem_map.1 hu
    rfl
  have hst := run_storeCells_at Try.prog g (sLen * 1) 28 (u32s (List.replicate m 0)) 0 cur w hg (by rw [hl]; omega) h1
  simp only [Nat.add_zero, Nat.mul_one, hl] at hst
  have hn : m ≠ 0 := by omega
  have hw : IntKind.i64.wrap (m : Int) = m := by rw [IntKind.wrap_i64]; omega
  have hneg : ¬ ((m : Int) < 0) := by omega
  have h48i : ¬ (281474976710656 < (m : Int) * (i0.bytes : Int)) := by rw [hz2]; omega
  have hzl := zeros_list m
  simp [Builtin.append_, run_underlying Try.underlying26, run_underlying Try.underlying3, sizeOf, typeInfo, zeroValue, hi, hz0, hz1, asInt, asIntOf, hw, hn, hneg, h48i, hroom, hzl, Addr.add_lit, hst]

theorem zeros_grow (w : World) (ty : TypeId) (g sLen sCap m : Nat) (olds : List Value) (hm : 0 < m) (hlo : olds.length = sLen) (holds : ∀ j v, olds[j]? = some v → w.cell? ((⟨g, 0, none⟩ : Addr).add j) = some v) (h63 : m ≤ 1048576) (hs : sLen ≤ 1048576) (hroom : sCap < sLen + m) :
    (Builtin.append_ #[26, 3] ty #[.slice (some ⟨g, 0, none⟩) sLen sCap, .int .i64 (m : Int)]).run Try.prog w =
      .ok (.slice (some ⟨w.heap.size, 0, none⟩) (sLen + m) (grownCap w (sLen + m) sCap 28))
        (w.drew.alloc (.cells (olds.toArray ++ (u32s (List.replicate m 0)).toArray ++ Builtin.zeroCells (Value.int .u32 0).cells (grownCap w (sLen + m) sCap 28 - (sLen + m))) 28)) := by
  obtain ⟨i0, hi, hz0, hz1, hz2⟩ := info_parts info32
  have hn : m ≠ 0 := by omega
  have hw : IntKind.i64.wrap (m : Int) = m := by rw [IntKind.wrap_i64]; omega
  have hneg : ¬ ((m : Int) < 0) := by omega
  have h48i : ¬ (281474976710656 < (m : Int) * (i0.bytes : Int)) := by rw [hz2]; omega
  have hnr : ¬ (sLen + m ≤ sCap) := by omega
  have h63' : ¬ (9223372036854775807 < ((sLen : Int) + (m : Int))) := by omega
  have h48' : ¬ (281474976710656 < Builtin.nextslicecap (sLen + m) sCap * i0.bytes) := by
    have := growslice_fits (need := sLen + m) (old := sCap) (bytes := i0.bytes) (by omega) (by rw [hz2]; omega)
    omega
  have hfo := run_firstCells_some (P := Try.prog) w.drew i0.size sLen ⟨g, 0, none⟩ sLen sCap olds (by rw [hz1]; omega) (by simpa using holds)
  rw [hz1] at hfo
  have hzl := zeros_list m
  simp [Builtin.append_, run_underlying Try.underlying26, run_underlying Try.underlying3, sizeOf, typeInfo, zeroValue, hi, hz0, hz1, asInt, asIntOf, hw, hn, hneg, h48i, hnr, h63', h48', Question.forced, hfo, hzl, newRow, grownCap]
  congr 2
  apply Array.ext'
  simp [List.append_assoc]

/-- The list longer by zeros: in its own place, or in a new one. -/
theorem zeros_own (w : World) (ty : TypeId) (B m : Nat) (v : Value) (xs : List Nat) (hown : Own w B v xs) (hB : B ≤ w.heap.size) (hm : 0 < m) (h63 : m ≤ 1048576) (hs : xs.length ≤ 1048576) :
    ∃ v' w', (Builtin.append_ #[26, 3] ty #[v, .int .i64 (m : Int)]).run Try.prog w = .ok v' w' ∧ Own w' B v' (xs ++ List.replicate m 0) ∧ w.grownBy w' v.ownBlock ∧ (∃ g cap, v' = .slice (some ⟨g, 0, none⟩) (xs.length + m) cap ∧ (v.ownBlock = some g ∨ g = w.heap.size)) := by
  obtain ⟨i0, hi, hz0, hz1, hz2⟩ := info_parts info32
  have hus : u32s (xs ++ List.replicate m 0) = u32s xs ++ u32s (List.replicate m 0) := by simp [u32s]
  have hzs : ((Value.int .u32 0).cells).size = 1 := rfl
  have grown : ∀ old : Nat, old < xs.length + m → ∀ row : Option Nat,
      Own (w.drew.alloc (.cells ((u32s xs).toArray ++ (u32s (List.replicate m 0)).toArray ++ Builtin.zeroCells (Value.int .u32 0).cells (grownCap w (xs.length + m) old 28 - (xs.length + m))) 28)) B (.slice (some ⟨w.heap.size, 0, none⟩) (xs.length + m) (grownCap w (xs.length + m) old 28)) (xs ++ List.replicate m 0) ∧
      w.grownBy (w.drew.alloc (.cells ((u32s xs).toArray ++ (u32s (List.replicate m 0)).toArray ++ Builtin.zeroCells (Value.int .u32 0).cells (grownCap w (xs.length + m) old 28 - (xs.length + m))) 28)) row := by
    intro old ho row
    have hge := grownCap_ge w (xs.length + m) old 28
    have hcm : grownCap w (xs.length + m) old 28 ≤ maxLen := grownCap_le_maxLen w (xs.length + m) old 28 (by unfold maxLen; omega)
    have hlen : (xs ++ List.replicate m 0).length = xs.length + m := by simp
    refine ⟨?_, ⟨rfl, rfl, rfl, by simp, fun k hk _ => heap_alloc_old w.drew _ hk⟩⟩
    unfold Own
    rw [hlen]
    refine ⟨by simp [u32s], .inr ⟨w.heap.size, _, _, rfl, hB, heap_alloc_new w.drew _, hge, hcm, ?_, ?_⟩⟩
    · simp only [Array.size_append, List.size_toArray, size_zeroCells, hzs, u32s, List.length_map, List.length_replicate]
      omega
    · rw [hus]
      simp only [Array.toList_append, List.append_assoc]
      rw [← List.append_assoc]
      have : (u32s xs ++ u32s (List.replicate m 0)).length = (xs.length + m) * 1 := by simp [u32s]
      rw [← this]
      exact List.take_left
  rcases hown.2 with ⟨rfl, h0⟩ | ⟨g, cap, cur, rfl, hbg, hg, hnc, hcm, hcs, htake⟩
  · have hx : xs = [] := List.eq_nil_of_length_eq_zero h0
    subst hx
    have hr := Lib.run_append_nil_zeros (P := Try.prog) w 26 3 ty 28 i0 (.int .u32 0) .i64 .i64 Try.underlying26 Try.underlying3 hi hz0 m hm (by omega) (by omega) (by rw [hz2]; omega)
    have hgr := grown 0 (by simp; omega) (Value.ownBlock (.slice none 0 0))
    simp only [List.length_nil, Nat.zero_add] at hgr
    rw [zeros_list m] at hr
    refine ⟨_, _, hr, ?_, ?_, w.heap.size, grownCap w m 0 28, by simp, .inr rfl⟩
    · simpa [u32s] using hgr.1
    · simpa [u32s] using hgr.2
  · by_cases hroom : xs.length + m ≤ cap
    · have hfit : xs.length + m ≤ cur.size := by omega
      have hr := zeros_room w ty g xs.length cap m cur hm hg h63 hroom hfit
      have hl : (u32s (List.replicate m 0)).length = m := by simp [u32s]
      refine ⟨_, _, hr, ?_, ⟨rfl, rfl, rfl, by simp, fun k _ hk => setRow_other w g k _ (fun e => hk (by simp [Value.ownBlock, e]))⟩, g, cap, rfl, .inl rfl⟩
      have hlen : (xs ++ List.replicate m 0).length = xs.length + m := by simp
      unfold Own
      rw [hlen]
      refine ⟨by simp [u32s], .inr ⟨g, cap, _, rfl, hbg, setRow_heap w g cur _ 28 _ hg, hroom, hcm, ?_, ?_⟩⟩
      · simp only [List.size_toArray, List.length_append, List.length_take, List.length_drop, Array.length_toList, hl]
        omega
      · rw [Nat.mul_one] at htake
        rw [htake, hus]
        have : (u32s xs ++ u32s (List.replicate m 0)).length = (xs.length + m) * 1 := by simp [u32s]
        rw [← this]
        exact List.take_left
    · have holds : ∀ j u, (u32s xs)[j]? = some u → w.cell? ((⟨g, 0, none⟩ : Addr).add j) = some u := World.ownsRow.cells hown (g := g) rfl
      have hr := zeros_grow w ty g xs.length cap m (u32s xs) hm (by simp [u32s]) holds h63 hs (by omega)
      have hgr := grown cap (by omega) (Value.ownBlock (.slice (some ⟨g, 0, none⟩) xs.length cap))
      exact ⟨_, _, hr, hgr.1, hgr.2, w.heap.size, _, rfl, .inr rfl⟩

end Go.Proofs.Ytlfhpoffphljfaa

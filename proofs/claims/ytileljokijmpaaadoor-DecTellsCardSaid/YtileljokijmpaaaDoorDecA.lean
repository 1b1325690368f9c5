/- Words for bytes and strings; contract: nineDigits. -/
import Derived.Lib.ConvBytes
import Derived.Lib.Strings
import Derived.Laws.CopyOwn
import Derived.Deep.Cut
import Derived.Laws.Rows
import Derived.Laws.Tables
import Derived.Test.YtileljokijmpaaaDoorPackN
import Derived.Test.YtileljokijmpaaaDoorDecMath
namespace Go.Proofs.YtileljokijmpaaaDoor
open Go.RowKit

set_option linter.unusedVariables false

def bv (c : Nat) : Value := .int .u8 (c : Int)
def b8s (L : List Nat) : List Value := L.map bv
theorem b8s_length (L : List Nat) : (b8s L).length = L.length := List.length_map ..
theorem b8s_append (A B : List Nat) : b8s (A ++ B) = b8s A ++ b8s B := List.map_append ..
theorem b8s_at {L : List Nat} {j : Nat} (h : j < L.length) : (b8s L)[j]? = some (bv (L[j]?.getD 0)) := by
  rw [b8s, List.getElem?_map, List.getElem?_eq_getElem h]; rfl
theorem b8s_one (L : List Nat) : ∀ v ∈ b8s L, v.oneCell' = true := fun v hv => by
  obtain ⟨c, _, rfl⟩ := List.mem_map.1 hv
  rfl
/-- a string by its codes -/
def str (L : List Nat) : ByteArray := ⟨(L.map UInt8.ofNat).toArray⟩
def Codes (L : List Nat) : Prop := ∀ c ∈ L, c < 256
def codes (s : ByteArray) : List Nat := s.data.toList.map UInt8.toNat
theorem codes_lt (s : ByteArray) : Codes (codes s) := fun c hc => by
  obtain ⟨b, _, rfl⟩ := List.mem_map.1 hc
  exact b.toNat_lt
theorem str_codes (s : ByteArray) : str (codes s) = s := by
  unfold str codes
  rw [List.map_map]
  have : (UInt8.ofNat ∘ UInt8.toNat) = id := funext fun b => by simp
  rw [this, List.map_id]
theorem str_size (L : List Nat) : (str L).size = L.length := by
  show (L.map UInt8.ofNat).toArray.size = _
  simp
theorem str_toList (L : List Nat) : (str L).toList = L.map UInt8.ofNat := by
  rw [Lib.toList_data]; rfl
theorem ofNat_inj {a b : Nat} (ha : a < 256) (hb : b < 256) (h : UInt8.ofNat a = UInt8.ofNat b) : a = b := by
  have := congrArg UInt8.toNat h
  rw [UInt8.toNat_ofNat', UInt8.toNat_ofNat', Nat.mod_eq_of_lt ha, Nat.mod_eq_of_lt hb] at this
  exact this
theorem map_ofNat_inj : ∀ {L M : List Nat}, Codes L → Codes M → L.map UInt8.ofNat = M.map UInt8.ofNat → L = M
  | [], [], _, _, _ => rfl
  | [], _ :: _, _, _, h => by simp at h
  | _ :: _, [], _, _, h => by simp at h
  | a :: L, b :: M, hl, hm, h => by
    rw [List.map_cons, List.map_cons, List.cons.injEq] at h
    rw [ofNat_inj (hl a (by simp)) (hm b (by simp)) h.1, map_ofNat_inj (fun c hc => hl c (by simp [hc])) (fun c hc => hm c (by simp [hc])) h.2]
/-- two strings are the same just if their codes are -/
theorem str_beq {L M : List Nat} (hl : Codes L) (hm : Codes M) : ((str L).toList == (str M).toList) = decide (L = M) := by
  rw [str_toList, str_toList]
  by_cases h : L = M
  · subst h; simp
  · rw [decide_eq_false h, beq_eq_false_iff_ne]
    exact fun e => h (map_ofNat_inj hl hm e)
theorem str_at {L : List Nat} {j : Nat} (hj : j < L.length) (h : j < (str L).size) : ((str L)[j]'h) = UInt8.ofNat (L[j]?.getD 0) := by
  rw [List.getElem?_eq_getElem hj]
  simp [str, ByteArray.getElem_eq_getElem_data]
theorem AllD.codes {L : List Nat} (h : AllD L) : Codes L := fun c hc => by have := h c hc; omega
/-- the array block g holds just so many bytes -/
def Arr (w : World) (B g : Nat) (L : List Nat) : Prop := w.ownsRow B 77 1 (.slice (some ⟨g, 0, none⟩) 9 9) 9 (b8s L)
theorem Arr.put {w : World} {B g j v : Nat} {Z : List Nat} (h : Arr w B g Z) : Arr (w.setCell ⟨g, j, none⟩ (bv v)) B g (Z.set j v) := by
  have := (World.ownsRow.stored h j (bv v)).1
  unfold Arr
  rw [b8s, List.map_set]
  exact this
theorem Arr.cellAt {w : World} {B g j : Nat} {Z : List Nat} (h : Arr w B g Z) (hl : Z.length = 9) (hj : j < 9) : w.cell? ⟨g, j, none⟩ = some (.int .u8 ((Z[j]?.getD 0 : Nat) : Int)) := by
  rw [World.ownsRow.cellAt h j (by omega), b8s, List.getElem?_map, List.getElem?_eq_getElem (by omega)]; rfl

theorem Arr.heap {w : World} {B g : Nat} {Z : List Nat} (h : Arr w B g Z) : w.heap[g]? = some (.cells (b8s Z).toArray 77 (0, 0)) := by
  rcases h.2 with ⟨e, _⟩ | ⟨g', cap, cur, e, hb, hh, hle, hm, hs, ht⟩
  · cases e
  · injection e with e1 e2 e3
    injection e1 with e1
    injection e1 with e1
    subst e1 e3
    rw [hh]
    have : cur = (b8s Z).toArray := by
      apply Array.ext'
      rw [← ht]
      simp only [Nat.mul_one] at hs ⊢
      rw [List.take_of_length_le (by simp [hs])]
    rw [this]

/-- what stands in the array behind j rounds -/
def nines (u j : Nat) : List Nat := List.replicate (9 - j) 0 ++ pad u j
theorem nines_len {u j : Nat} (h : j ≤ 9) : (nines u j).length = 9 := by simp [nines, pad_length]; omega
theorem nines_step {u j : Nat} (h : j < 9) : (nines u j).set (8 - j) (48 + u / 10 ^ j % 10) = nines u (j + 1) := by
  unfold nines
  rw [pad_front, show 9 - j = (9 - (j + 1)) + 1 from by omega, List.replicate_succ', List.append_assoc, List.set_append_right _ _ (by simp)]
  simp
theorem nines_all (u : Nat) : nines u 9 = pad u 9 := rfl

set_option maxHeartbeats 1000000 in
set_option maxRecDepth 100000 in
theorem nine_any (u : Nat) (w : World) (hu : u < 18446744073709551616) :
    Calls Tryd.prog 53 #[.int .u64 (u : Int)] w fun e w' => e = .returned (.agg (b8s (pad u 9)).toArray) ∧ Below w.heap.size w w' := by
  go_enter Tryd.func53, Tryd.ntmps53
  have ho0 : Arr ((w.alloc (.cells (Array.replicate 9 (.int .u8 0)) 77)).alloc (.cells (Array.replicate 9 (.int .u8 0)) 77)) w.heap.size (w.heap.size + 1) (nines u 0) := by
    have := World.ownsRow_lit (base := w.heap.size) (e := 77) (size := 1) (w.alloc (.cells (Array.replicate 9 (.int .u8 0)) 77)) (Array.replicate 9 (.int .u8 0)) 9 (by simp) (by decide) (by simp)
    rw [World.size_alloc] at this
    exact this
  have hb0 : Below w.heap.size w ((w.alloc (.cells (Array.replicate 9 (.int .u8 0)) 77)).alloc (.cells (Array.replicate 9 (.int .u8 0)) 77)) := ((Below.refl _ w).alloc (Nat.le_refl _) _).alloc (by simp) _
  go_wp2
  have hR0 : ((w.alloc (.cells (Array.replicate 9 (.int .u8 0)) 77)).alloc (.cells (Array.replicate 9 (.int .u8 0)) 77)).heap[w.heap.size]? = some (.cells (Array.replicate 9 (.int .u8 0)) 77 (0, 0)) := by
    show ((w.heap.push _).push _)[w.heap.size]? = _
    rw [Array.getElem?_push, if_neg (by simp), Array.getElem?_push, if_pos rfl]
  go_loopw [0, 4] (fun s i wr => ∃ j : Nat, j ≤ 9 ∧ i = .int .i64 (8 - (j : Int)) ∧ s = .int .u64 ((u / 10 ^ j : Nat) : Int) ∧ Arr wr w.heap.size (w.heap.size + 1) (nines u j) ∧ wr.heap[w.heap.size]? = some (.cells (Array.replicate 9 (.int .u8 0)) 77 (0, 0)) ∧ Below w.heap.size w wr) (fun _ i _ => (intOf i + 1).toNat)
  case atStart => exact ⟨0, by decide, rfl, by simp, ho0, hR0, hb0⟩
  case round =>
    clear ho0 hb0 hR0
    obtain ⟨j, hj, rfl, rfl, hA, hR, hB⟩ := hrel
    by_cases hlt : j < 9
    · have hn := nines_len (u := u) hj
      have hf := World.ownsRow.frozenAt hA (8 - j)
      have hc := hA.cellAt hn (j := 8 - j) (by omega)
      have hput := hA.put (j := 8 - j) (v := 48 + u / 10 ^ j % 10)
      rw [nines_step hlt] at hput
      have hput := Lib.hid hput
      have hbe := Lib.hid (hB.setCell (p := ⟨w.heap.size + 1, 8 - j, none⟩) (by simp) (bv (48 + u / 10 ^ j % 10)))
      have hr := Lib.hid ((heap_setCell_other wr ⟨w.heap.size + 1, 8 - j, none⟩ w.heap.size (bv (48 + u / 10 ^ j % 10)) (by simp)).trans hR)
      have hux : u / 10 ^ j < 18446744073709551616 := Nat.lt_of_le_of_lt (Nat.div_le_self _ _) hu
      have hdd : u / 10 ^ (j + 1) = u / 10 ^ j / 10 := by rw [Nat.pow_succ, Nat.div_div_eq_div_mul]
      generalize u / 10 ^ j = x at *
      have HD := Lib.hid hdd
      have e1 : (8 - (j : Int)) = ((8 - j : Nat) : Int) := by omega
      have e2 := Lib.hid (show Value.int .u8 (48 + (x : Int) % 10) = bv (48 + x % 10) by unfold bv; congr 1)
      clear hA hB hdd hn hR
      rw [e1]
      go_wp2
      go_roundw
      case rel => exact ⟨j + 1, by omega, by congr 1; omega, by rw [HD.out]; rfl, by rw [e2.out]; exact hput.out, by rw [e2.out]; exact hr.out, by rw [e2.out]; exact hbe.out⟩
      case measure => simp [intOf]
    · obtain rfl : j = 9 := by omega
      rw [nines_all] at hA
      have hg := hA.heap
      have hl := pad_length u 9
      generalize hL : pad u 9 = L at *
      have HB := Lib.hid hB
      have HL := Lib.hid hL
      clear hA hB hL
      have hi : (Tryd.prog.info? 77).map (·.size) = some (b8s L).toArray.size := by
        rw [List.size_toArray, b8s_length, hl]
        kernel_rfl
      have HI := Lib.hid hi
      have hall := Lib.hid (show (b8s L).toArray.all (·.oneCell') = true by rw [Array.all_eq_true_iff_forall_mem]; intro v hv; exact b8s_one L v (by simpa using hv))
      have hsz := Lib.hid (show (Array.replicate 9 (Value.int .u8 0)).size = (b8s L).toArray.size by rw [Array.size_replicate, List.size_toArray, b8s_length, hl])
      clear hi
      go_upto_region 7 with fail
      go_wp2_with (first | refine wpList_load_row rfl 77 _ rfl (w.heap.size + 1) rfl 77 _ _ _ hg Tryd.underlying77 rfl HI.out ?_ | refine wpList_store_row rfl 77 _ _ rfl w.heap.size _ rfl rfl 77 _ hR HI.out hsz.out hall.out ?_)
      have hR2 := setRow_heap wr w.heap.size _ (b8s L).toArray _ _ hR
      refine bodyPost_ret (v := .agg (b8s L).toArray) ?_ rfl ⟨by rw [HL.out], below_setRow HB.out (Nat.le_refl _) _⟩
      exact results_cell_row rfl _ _ w.heap.size _ _ _ _ rfl hR2 Tryd.underlying77 rfl HI.out

end Go.Proofs.YtileljokijmpaaaDoor

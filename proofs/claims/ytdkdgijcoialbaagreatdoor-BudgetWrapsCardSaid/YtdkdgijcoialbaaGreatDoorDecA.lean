/- Words for bytes and strings; contract: nineDigits. -/
import Derived.Lib.ConvBytes
import Derived.Lib.Strings
import Derived.Laws.CopyOwn
import Derived.Deep.Cut
import Derived.Laws.Rows
import Derived.Laws.Tables
import Derived.Test.YtdkdgijcoialbaaGreatDoorPackN
import Derived.Test.YtdkdgijcoialbaaGreatDoorDecMath
namespace Go.Proofs.YtdkdgijcoialbaaGreatDoor
open Go.RowKit

set_option linter.unusedVariables false

def bv (c : Nat) : Value := .int .u8 (c : Int)
def b8s (L : List Nat) : List Value := L.map bv
theorem b8s_length (L : List Nat) : (b8s L).length = L.length := List.length_map ..
theorem b8s_append (A B : List Nat) : b8s (A ++ B) = b8s A ++ b8s B := List.map_append ..
theorem b8s_at {L : List Nat} {j : Nat} (h : j < L.length) : (b8s L)[j]? = some (bv (L[j]?.getD 0)) := by
  rw [b8s, List.getElem?_map, List.getElem?_eq_getElem h]; rfl
theorem b8s_one (L : List Nat) : ∀ v ∈ b8s L, v.oneCell' = true := fun v hv => by
  obtain ⟨c, _, rfl⟩ := List.mem_map.1 hv
  rfl
/-- a string by its codes -/
def str (L : List Nat) : ByteArray := ⟨(L.map UInt8.ofNat).toArray⟩
def Codes (L : List Nat) : Prop := ∀ c ∈ L, c < 256
def codes (s : ByteArray) : List Nat := s.data.toList.map UInt8.toNat
theorem codes_lt (s : ByteArray) : Codes (codes s) := fun c hc => by
  obtain ⟨b, _, rfl⟩ := List.mem_map.1 hc
  exact b.toNat_lt
theorem str_codes (s : ByteArray) : str (codes s) = s := by
  unfold str codes
  rw [List.map_map]
  have : (UInt8.ofNat ∘ UInt8.toNat) = id := funext fun b => by simp
  rw [this, List.map_id]
theorem str_size (L : List Nat) : (str L).size = L.length := by
  show (L.map UInt8.ofNat).toArray.size = _
  simp
theorem str_toList (L : List Nat) : (str L).toList = L.map UInt8.ofNat := by
  rw [Lib.toList_data]; rfl
theorem ofNat_inj {a b : Nat} (ha : a < 256) (hb : b < 256) (h : UInt8.ofNat a = UInt8.ofNat b) : a = b := by
  have := congrArg UInt8.toNat h
  rw [UInt8.toNat_ofNat', UInt8.toNat_ofNat', Nat.mod_eq_of_lt ha, Nat.mod_eq_of_lt hb] at this
  exact this
theorem map_ofNat_inj : ∀ {L M : List Nat}, Codes L → Codes M → L.map UInt8.ofNat = M.map UInt8.ofNat → L = M
  | [], [], _, _, _ => rfl
  | [], _ :: _, _, _, h => by simp at h
  | _ :: _, [], _, _, h => by simp at h
  | a :: L, b :: M, hl, hm, h => by
    rw [List.map_cons, List.map_cons, List.cons.injEq] at h
    rw [ofNat_inj (hl a (by simp)) (hm b (by simp)) h.1, map_ofNat_inj (fun c hc => hl c (by simp [hc])) (fun c hc => hm c (by simp [hc])) h.2]
/-- two strings are the same just if their codes are -/
theorem str_beq {L M : List Nat} (hl : Codes L) (hm : Codes M) : ((str L).toList == (str M).toList) = decide (L = M) := by
  rw [str_toList, str_toList]
  by_cases h : L = M
  · subst h; simp
  · rw [decide_eq_false h, beq_eq_false_iff_ne]
    exact fun e => h (map_ofNat_inj hl hm e)
theorem str_at {L : List Nat} {j : Nat} (hj : j < L.length) (h : j < (str L).size) : ((str L)[j]'h) = UInt8.ofNat (L[j]?.getD 0) := by
  rw [List.getElem?_eq_getElem hj]
  simp [str, ByteArray.getElem_eq_getElem_data]
theorem AllD.codes {L : List Nat} (h : AllD L) : Codes L := fun c hc => by have := h c hc; omega
/-- what stands in the array behind j rounds -/
def nines (u j : Nat) : List Nat := List.replicate (9 - j) 0 ++ pad u j
theorem nines_len {u j : Nat} (h : j ≤ 9) : (nines u j).length = 9 := by simp [nines, pad_length]; omega
theorem nines_step {u j : Nat} (h : j < 9) : (nines u j).set (8 - j) (48 + u / 10 ^ j % 10) = nines u (j + 1) := by
  unfold nines
  rw [pad_front, show 9 - j = (9 - (j + 1)) + 1 from by omega, List.replicate_succ', List.append_assoc, List.set_append_right _ _ (by simp)]
  simp
theorem nines_all (u : Nat) : nines u 9 = pad u 9 := rfl

end Go.Proofs.YtdkdgijcoialbaaGreatDoor

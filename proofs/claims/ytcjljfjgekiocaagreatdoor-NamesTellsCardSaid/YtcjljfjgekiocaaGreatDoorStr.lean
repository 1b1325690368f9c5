/- Strings by their codes; a string's bytes. -/
import Derived.WalkKit
import Derived.Below
import Derived.Lib.Hide
import Derived.Lib.ConvBytes
import Derived.Lib.Strings
import Derived.Test.YtcjljfjgekiocaaGreatDoorProg
namespace Go.Proofs.YtcjljfjgekiocaaGreatDoor
open Go.RowKit

set_option linter.unusedVariables false

theorem retb {a b : Bool} (h : a = b) : Ending.returned (.bool a) = .returned (.bool b) := by rw [h]
theorem reti {k : IntKind} {a b : Int} (h : a = b) : Ending.returned (.int k a) = .returned (.int k b) := by rw [h]
theorem retv {a b : Value} (h : a = b) : Ending.returned a = .returned b := by rw [h]
/-- a string by its codes -/
def str (L : List Nat) : ByteArray := ⟨(L.map UInt8.ofNat).toArray⟩
def Codes (L : List Nat) : Prop := ∀ c ∈ L, c < 256
def codes (s : ByteArray) : List Nat := s.data.toList.map UInt8.toNat
theorem codes_lt (s : ByteArray) : Codes (codes s) := fun c hc => by
  obtain ⟨b, _, rfl⟩ := List.mem_map.1 hc
  exact b.toNat_lt
theorem str_codes (s : ByteArray) : str (codes s) = s := by
  unfold str codes
  rw [List.map_map]
  have : (UInt8.ofNat ∘ UInt8.toNat) = id := funext fun b => by simp
  rw [this, List.map_id]
theorem str_size (L : List Nat) : (str L).size = L.length := by
  show (L.map UInt8.ofNat).toArray.size = _
  simp
theorem str_toList (L : List Nat) : (str L).toList = L.map UInt8.ofNat := by
  rw [Lib.toList_data]; rfl
theorem ofNat_inj {a b : Nat} (ha : a < 256) (hb : b < 256) (h : UInt8.ofNat a = UInt8.ofNat b) : a = b := by
  have := congrArg UInt8.toNat h
  rw [UInt8.toNat_ofNat', UInt8.toNat_ofNat', Nat.mod_eq_of_lt ha, Nat.mod_eq_of_lt hb] at this
  exact this
theorem map_ofNat_inj : ∀ {L M : List Nat}, Codes L → Codes M → L.map UInt8.ofNat = M.map UInt8.ofNat → L = M
  | [], [], _, _, _ => rfl
  | [], _ :: _, _, _, h => by simp at h
  | _ :: _, [], _, _, h => by simp at h
  | a :: L, b :: M, hl, hm, h => by
    rw [List.map_cons, List.map_cons, List.cons.injEq] at h
    rw [ofNat_inj (hl a (by simp)) (hm b (by simp)) h.1, map_ofNat_inj (fun c hc => hl c (by simp [hc])) (fun c hc => hm c (by simp [hc])) h.2]
/-- two strings are the same just if their codes are -/
theorem str_beq {L M : List Nat} (hl : Codes L) (hm : Codes M) : ((str L).toList == (str M).toList) = decide (L = M) := by
  rw [str_toList, str_toList]
  by_cases h : L = M
  · subst h; simp
  · rw [decide_eq_false h, beq_eq_false_iff_ne]
    exact fun e => h (map_ofNat_inj hl hm e)
theorem str_at {L : List Nat} {j : Nat} (hj : j < L.length) (h : j < (str L).size) : ((str L)[j]'h) = UInt8.ofNat (L[j]?.getD 0) := by
  rw [List.getElem?_eq_getElem hj]
  simp [str, ByteArray.getElem_eq_getElem_data]
theorem bytes_below (w : World) (e : TypeId) (s : ByteArray) : Below w.heap.size w (Lib.bytesWorld w e s) :=
  ⟨rfl, rfl, rfl, by rw [Lib.bytesWorld_size]; omega, fun k hk => Lib.bytesWorld_at_old w e s k hk⟩
/-- []byte(s): a world in which a new row holds the codes. -/
theorem conv_str (L : List Nat) (w : World) (hc : Codes L) : ∃ W1 cap, (convert 9 114 (.string (str L))).run Tryz.prog w = .ok (.slice (some ⟨w.heap.size, 0, none⟩) L.length cap) W1 ∧ L.length ≤ cap ∧
    (∀ j, j < L.length → W1.cell? ⟨w.heap.size, j, none⟩ = some (.int .u8 ((L[j]?.getD 0 : Nat) : Int))) ∧ Below w.heap.size w W1 := by
  have h := Lib.run_convert_string_bytes (P := Tryz.prog) w 9 114 5 (str L) (u := .string) Tryz.underlying9 Tryz.underlying114 Tryz.underlying5
  rw [str_size] at h
  refine ⟨_, _, h, by have := grownCap_ge w L.length 0 5; omega, fun j hj => ?_, bytes_below w _ _⟩
  rw [Lib.bytesWorld_cell w _ _ j (by rw [str_size]; exact hj)]
  have : (str L).data.toList.getD j 0 = UInt8.ofNat L[j] := by simp [str, List.getD, hj]
  rw [this, List.getElem?_eq_getElem hj, UInt8.toNat_ofNat', Nat.mod_eq_of_lt (hc _ (List.getElem_mem hj))]
  rfl

theorem str_extract (L : List Nat) (a b : Nat) : (str L).extract a b = str ((L.take b).drop a) := by
  apply ByteArray.ext
  rw [ByteArray.data_extract]
  show (L.map UInt8.ofNat).toArray.extract a b = _
  apply Array.ext'
  simp only [Array.toList_extract, str]
  rw [List.extract_eq_take_drop, List.map_drop, List.map_take, List.drop_take]

theorem bytes_str (s : ByteArray) : ∃ L, Codes L ∧ L.length = s.size ∧ s = str L := by
  refine ⟨s.data.toList.map UInt8.toNat, fun c hc => ?_, by rw [List.length_map, Array.length_toList]; rfl, ?_⟩
  · obtain ⟨x, _, rfl⟩ := List.mem_map.1 hc
    exact x.toNat_lt
  · apply ByteArray.ext
    show s.data = ((s.data.toList.map UInt8.toNat).map UInt8.ofNat).toArray
    rw [List.map_map, show (UInt8.ofNat ∘ UInt8.toNat) = id from by funext x; simp, List.map_id]


end Go.Proofs.YtcjljfjgekiocaaGreatDoor

/- copies: so many 0s. -/
import Derived.Laws.Concat
import Derived.Test.YtileljokijmpaaaDoorLawA
namespace Go.Proofs.YtileljokijmpaaaDoor
open Go.RowKit Go.Shelf

set_option linter.unusedVariables false
set_option linter.unusedSimpArgs false

theorem str_append (A B : List Nat) : str A ++ str B = str (A ++ B) := by
  apply ByteArray.ext
  rw [ByteArray.data_append]
  show (A.map UInt8.ofNat).toArray ++ (B.map UInt8.ofNat).toArray = ((A ++ B).map UInt8.ofNat).toArray
  rw [List.append_toArray, List.map_append]

theorem add_run (A B : List Nat) (w : World) (h : A.length + B.length ≤ 9223372036854775807) : (Op.stringOp .add (str A) (str B)).run Tryd.prog w = .ok (.string (str (A ++ B))) w := by
  rw [run_string_add_sum (P := Tryd.prog) w (str A) (str B) (by rw [str_size, str_size]; exact h), str_append]

set_option maxRecDepth 100000 in
set_option maxHeartbeats 2000000 in
theorem copies_any (s : ByteArray) (hs : s = str [48]) (k : Nat) (hk : k ≤ 1000000) (w : World) : Calls Tryd.prog 11 #[.string s, .int .i64 (k : Int)] w fun e w' => e = .returned (.string (str (List.replicate k 48))) ∧ w' = w := by
  subst hs
  have h1 := str_size [48]
  rw [List.length_singleton] at h1
  have happ : ∀ j, j ≤ 1000000 → (Op.stringOp .add (str (List.replicate j 48)) (str [48])).run Tryd.prog w = .ok (.string (str (List.replicate (j + 1) 48))) w := fun j hj => by rw [add_run _ _ _ (by rw [List.length_replicate, List.length_singleton]; omega), List.replicate_succ']
  have h0 : (⟨#[]⟩ : ByteArray) = str (List.replicate 0 48) := rfl
  generalize str [48] = s at *
  go_enter Tryd.func11, Tryd.ntmps11
  go_wp2
  go_loopw [5, 6] (fun o i wr => ∃ j : Nat, j ≤ k ∧ i = .int .i64 (j : Int) ∧ o = .string (str (List.replicate j 48)) ∧ wr = w) (fun _ i _ => k - (intOf i).toNat)
  case atStart => exact ⟨0, Nat.zero_le _, rfl, rfl, rfl⟩
  case round =>
    obtain ⟨j, hj, rfl, rfl, rfl⟩ := hrel
    by_cases hlt : j < k
    · have hsz := str_size (List.replicate j 48)
      rw [List.length_replicate] at hsz
      have ha := happ j (by omega)
      clear happ
      generalize str (List.replicate j 48) = t at *
      generalize hu : str (List.replicate (j + 1) 48) = u at *
      have HU := Lib.hid hu
      clear hu
      go_wp2
      go_roundw
      case rel => exact ⟨j + 1, by omega, by go_num, by rw [HU.out], trivial⟩
      case measure => simp [intOf]; omega
    · obtain rfl : j = k := by omega
      go_wp2
      go_ret
      exact ⟨rfl, rfl⟩

end Go.Proofs.YtileljokijmpaaaDoor

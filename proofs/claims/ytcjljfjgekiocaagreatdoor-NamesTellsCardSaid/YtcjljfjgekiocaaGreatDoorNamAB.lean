/- Contract: slices.Index of false in a row of bools. -/
import Derived.Test.YtcjljfjgekiocaaGreatDoorNamAA
namespace Go.Proofs.YtcjljfjgekiocaaGreatDoor
open Go.RowKit Go.Shelf

set_option linter.unusedVariables false
set_option linter.unusedSimpArgs false

/-- where the first false stands -/
def ixB : Nat → List Bool → Int
  | _, [] => -1
  | j, b :: r => if b = true then ixB (j + 1) r else (j : Int)
theorem indexB_any (bs : List Bool) (A : Option Addr) (cap : Nat) (w : World) (hr : bs = [] ∨ ∃ b o, A = some ⟨b, o, none⟩ ∧ b < w.heap.size ∧ ∀ j x, bs[j]? = some x → w.cell? ⟨b, o + j, none⟩ = some (.bool x)) (hl : bs.length ≤ 1048576) :
    Calls Tryz.prog 51 #[.slice A bs.length cap, .bool false] w fun e w' => e = .returned (.int .i64 (ixB 0 bs)) ∧ w' = w := by
  go_enter Tryz.func51, Tryz.ntmps51
  go_wp2_with fail
  go_loopw [8] (fun s wr => ∃ (j : Nat), s = .int .i64 (j : Int) ∧ j ≤ bs.length ∧ Hid (ixB 0 bs = ixB j (bs.drop j)) ∧ wr = w) (fun s _ => bs.length - (intOf s).toNat)
  case atStart => exact ⟨0, rfl, Nat.zero_le _, rfl, rfl⟩
  case round =>
    obtain ⟨j, rfl, hj, HX, rfl⟩ := hrel
    by_cases hlt : j < bs.length
    · obtain ⟨x, hx⟩ : ∃ x, bs[j]? = some x := ⟨_, List.getElem?_eq_getElem hlt⟩
      obtain ⟨b, o, rfl, hq, hcell⟩ : ∃ b o, A = some ⟨b, o, none⟩ ∧ b < wr.heap.size ∧ ∀ j x, bs[j]? = some x → wr.cell? ⟨b, o + j, none⟩ = some (.bool x) := by
        rcases hr with h | h
        · rw [h] at hlt
          simp at hlt
        · exact h
      have hc1 := hcell j x hx
      have HD : Hid (ixB j (bs.drop j) = if x = true then ixB (j + 1) (bs.drop (j + 1)) else (j : Int)) := by
        show _ = _
        rw [List.drop_eq_getElem_cons hlt, ixB]
        rw [List.getElem?_eq_getElem hlt] at hx
        injection hx with hx
        rw [hx]
      have hltI : (j : Int) < (bs.length : Int) := by omega
      clear hcell hx hj hr
      cases x
      · go_wp2_with fail
        go_ret
        exact ⟨reti (by rw [HX.out, HD.out]; rfl), rfl⟩
      · go_wp2_with fail
        go_roundw
        case rel => exact ⟨j + 1, by go_num, by omega, by show _ = _; rw [HX.out, HD.out]; rfl, trivial⟩
        case measure => simp [intOf]; omega
    · have hje : j = bs.length := by omega
      have hltI : ¬ (j : Int) < (bs.length : Int) := by omega
      have HV : Hid (ixB 0 bs = -1) := by show _ = _; rw [HX.out, hje, List.drop_length]; rfl
      clear hj hlt hje
      go_wp2
      go_ret
      exact ⟨reti (by rw [HV.out]), rfl⟩
end Go.Proofs.YtcjljfjgekiocaaGreatDoor

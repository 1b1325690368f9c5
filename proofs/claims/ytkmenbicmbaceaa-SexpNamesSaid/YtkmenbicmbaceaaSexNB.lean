/- SexpNames: so many of a byte. -/
import Derived.Lib.AppendStr
import Derived.Test.YtkmenbicmbaceaaSexNA
import Derived.Test.YtkmenbicmbaceaaBuild
namespace Go.Proofs.Ytkmenbicmbaceaa
open Go.RowKit

set_option linter.unusedVariables false
set_option linter.unusedSimpArgs false

theorem backr_str {w : World} {B c n cap : Nat} {A : Option Addr} (hc : c < 256) (hn : 0 < n) (h : w.ownsRow B 5 1 (.slice A n cap) n (List.replicate n (.int .u8 (c : Int)))) :
    (convert 65 9 (.slice A n cap)).run Try.prog w = .ok (.string (str (List.replicate n c))) w := by
  obtain ⟨g, rfl, -, -, hcell⟩ := row_cells h hn
  have := run_convert_bytes_back (P := Try.prog) w 65 9 5 ⟨g, 0, none⟩ cap ((List.replicate n c).map UInt8.ofNat) Try.underlying65 Try.underlying5 Try.underlying9 (fun j hj => by
    have hj' : j < n := by simpa using hj
    rw [Addr.add_lit, Nat.zero_add, hcell j _ (by rw [List.getElem?_replicate, if_pos hj'])]
    rw [List.getElem_map, List.getElem_replicate, UInt8.toNat_ofNat', Nat.mod_eq_of_lt hc])
  rw [List.length_map, List.length_replicate] at this
  exact this
theorem strCells_one {c : Nat} (hc : c < 256) : Lib.strCells (str [c]) = [.int .u8 (c : Int)] := by
  unfold Lib.strCells str
  simp [Nat.mod_eq_of_lt hc]
set_option maxRecDepth 100000 in
set_option maxHeartbeats 4000000 in
theorem many_any (c n : Nat) (w : World) (hc : c < 256) (h0 : 0 < n) (h1 : n ≤ 65537) :
    Calls Try.prog 11 #[.string (str [c]), .int .i64 (n : Int)] w fun e w' => e = .returned (.string (str (List.replicate n c))) ∧ Below w.heap.size w w' := by
  obtain ⟨i0, hi, hz0, hz1, hz2⟩ := info_parts infoByte
  have hsz := str_size [c]
  have hs1 : (str [c]).size = 1 := hsz
  have hsc := strCells_one hc
  have HB := Lib.hid (fun (w1 : World) (A : Option Addr) (cap : Nat) h => backr_str (w := w1) (B := w.heap.size) (A := A) (cap := cap) hc h0 h)
  generalize str [c] = s at *
  clear hsz
  go_enter Try.func11, Try.ntmps11
  go_wp2_with (at_make; refine wpList_make_own _ rfl _ _ 65 rfl w.heap.size 5 i0 (.int .u8 0) 1 Try.underlying65 hi hz0 hz1 .i64 .i64 _ n rfl rfl (by omega) (by rw [hz2]; omega) (by unfold maxLen; omega) (Nat.le_refl _) ?_; intro w1 hown0 hgrow0)
  have hB0 : Below w.heap.size w w1 := (Below.refl _ w).grown hgrow0 (Nat.le_refl _) (fun _ h => by cases h)
  clear hgrow0
  go_loopw [5, 6] (fun o i wr => ∃ j : Nat, j ≤ n ∧ i = .int .i64 (j : Int) ∧ wr.ownsRow w.heap.size 5 1 o j (List.replicate j (.int .u8 (c : Int))) ∧ Below w.heap.size w wr) (fun _ i _ => n - (intOf i).toNat)
  case atStart => exact ⟨0, Nat.zero_le _, rfl, hown0, hB0⟩
  case round =>
    clear hown0 hB0
    obtain ⟨j, hj, rfl, hown, hB⟩ := hrel
    by_cases hlt : j < n
    · have hj1 : (j : Int) < (n : Int) := by omega
      have hj0 : (0 : Int) ≤ (j : Int) := by omega
      have hBs := hB.size
      go_wp2_with (at_builtin; refine Lib.wpList_append_own_string _ rfl (.tmp 17) (.tmp 18) 65 9 rfl w.heap.size 5 i0 Try.underlying65 Try.underlying9 hi hz0 hz1 hz2 _ _ _ rfl hown _ rfl (by unfold maxLen; omega) (by omega) hBs ?_; intro v' w2 hown' hgrow hgone; clear hgone)
      have hb2 := hB.grown hgrow hBs (fun r hr => (hown.lt r hr).1)
      have hown2 : w2.ownsRow w.heap.size 5 1 v' (j + 1) (List.replicate (j + 1) (.int .u8 (c : Int))) := by
        rw [hs1, hsc, ← List.replicate_succ'] at hown'; exact hown'
      clear hown' hgrow
      go_roundw
      case measure => simp only [intOf]; omega
      case rel => exact ⟨j + 1, by omega, by congr 1, hown2, hb2⟩
    · obtain rfl : j = n := by omega
      obtain ⟨A, cp, rfl⟩ := slice_form hown
      have hcv := HB.out _ A cp hown
      have hj1 : ¬ (j : Int) < (j : Int) := by omega
      have HBW := Lib.hid hB
      clear hown hB
      go_wp2
      go_ret
      exact ⟨rfl, HBW.out⟩

end Go.Proofs.Ytkmenbicmbaceaa

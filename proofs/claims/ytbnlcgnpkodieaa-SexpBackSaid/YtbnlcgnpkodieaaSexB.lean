/- Contracts: isWord, May. -/
import Derived.Deep.RegionHeld3
import Derived.Test.YtbnlcgnpkodieaaSexA
namespace Go.Proofs.Ytbnlcgnpkodieaa
open Go.RowKit

set_option linter.unusedVariables false
set_option linter.unusedSimpArgs false

def isW (k : Nat) (t : List Nat) : Bool := decide (k = kd t) && decide (k ≠ 1) && decide (k ≠ 2)
set_option maxRecDepth 100000 in
set_option maxHeartbeats 4000000 in
theorem isWord_any (k : Nat) (a : Int) (t : List Nat) (v : Value) (w : World) (hk : k < 256) (hc : Codes t) (hl : t.length < 9223372036854775807) :
    Calls Try.prog 17 #[.agg #[.int .u8 (k : Int), .int .i64 a, .string (str t), v]] w fun e w' => e = .returned (.bool (isW k t)) ∧ Below w.heap.size w w' := by
  obtain ⟨W, hW⟩ : ∃ W, w.alloc (.cells #[.int .u8 (k : Int), .int .i64 a, .string (str t), v] 28) = W := ⟨_, rfl⟩
  have HB : Hid (Below w.heap.size w W) := hW ▸ (Below.refl _ w).alloc (Nat.le_refl _) _
  have hx : W.heap[w.heap.size]? = some (.cells #[.int .u8 (k : Int), .int .i64 a, .string (str t), v] 28 (0, 0)) := hW ▸ lone_new w _ _
  have HX := Lib.hid hx
  have s0 : W.cell? ⟨w.heap.size, 0, none⟩ = some (.int .u8 (k : Int)) ∧ W.cell? ⟨w.heap.size, 2, none⟩ = some (.string (str t)) := ⟨by rw [cell_of hx]; rfl, by rw [cell_of hx]; rfl⟩
  have HY : Hid (∀ w1, Below W.heap.size W w1 → w1.cell? ⟨w.heap.size, 0, none⟩ = some (.int .u8 (k : Int)) ∧ w1.cell? ⟨w.heap.size, 2, none⟩ = some (.string (str t))) := fun w1 h => ⟨keep_below h _ _ s0.1, keep_below h _ _ s0.2⟩
  have CK := Lib.hid (fun w1 => kind_any t w1 hc hl)
  have hv : Hid (isW k t = (decide (k = kd t) && decide (k ≠ 1) && decide (k ≠ 2))) := rfl
  have hq := kd_le t
  clear hx hc
  generalize kd t = q at *
  by_cases h1 : k = q
  · subst h1
    have hT : Hid (isW k t = (decide (k ≠ 1) && decide (k ≠ 2))) := by show _ = _; rw [hv.out]; simp
    by_cases h2 : k = 1
    · have hF : Hid (isW k t = false) := by show _ = _; rw [hT.out, h2]; rfl
      have e1 : ((k : Int) == 1) = true := by simp [h2]
      have e3 : ((k : Int) != 1) = false := by simp [h2]
      clear h2
      go_enter Try.func17, Try.ntmps17
      go_wp2_with fail
      first
        | (go_region_with (first
            | (go_at_call 26; (with_reducible refine (CK.out _).mono ?_); rintro e w3 ⟨rfl, hb3⟩; have s1 := HY.out w3 ((Below.refl _ W).drew.trans hb3); have HB3 := Lib.hid hb3; clear hb3)))
        | fail
      all_goals (go_wp2; go_ret; exact ⟨retb (by first | exact hF.out.symm | (rw [hF.out]; assumption)), HB.out.trans (((Below.refl _ W).drew.trans HB3.out).mono HB.out.size)⟩)
    · by_cases h3 : k = 2
      · have hF : Hid (isW k t = false) := by show _ = _; rw [hT.out, h3]; rfl
        have e1 : ((k : Int) == 1) = false := by simp; omega
        have e2 : ((k : Int) == 2) = true := by simp [h3]
        have e3 : ((k : Int) != 1) = true := by simp; omega
        have e4 : ((k : Int) != 2) = false := by simp [h3]
        clear h2 h3
        go_enter Try.func17, Try.ntmps17
        go_wp2_with fail
        first
          | (go_region_with (first
              | (go_at_call 26; (with_reducible refine (CK.out _).mono ?_); rintro e w3 ⟨rfl, hb3⟩; have s1 := HY.out w3 ((Below.refl _ W).drew.trans hb3); have HB3 := Lib.hid hb3; clear hb3)))
          | fail
        all_goals (go_wp2; go_ret; exact ⟨retb (by first | exact hF.out.symm | (rw [hF.out]; assumption)), HB.out.trans (((Below.refl _ W).drew.trans HB3.out).mono HB.out.size)⟩)
      · have hF : Hid (isW k t = true) := by show _ = _; rw [hT.out]; simp [h2, h3]
        have e1 : ((k : Int) == 1) = false := by simp; omega
        have e2 : ((k : Int) == 2) = false := by simp; omega
        have e3 : ((k : Int) != 1) = true := by simp; omega
        have e4 : ((k : Int) != 2) = true := by simp; omega
        clear h2 h3
        go_enter Try.func17, Try.ntmps17
        go_wp2_with fail
        first
          | (go_region_held3 (fun w' => w'.cell? ⟨w.heap.size, 0, none⟩ = some (.int .u8 (k : Int)) ∧ w'.cell? ⟨w.heap.size, 2, none⟩ = some (.string (str t))) (first | exact s0 | exact s1) (first
              | (go_at_call 26; (with_reducible refine (CK.out _).mono ?_); rintro e w3 ⟨rfl, hb3⟩; have s1 := HY.out w3 ((Below.refl _ W).drew.trans hb3); have HB3 := Lib.hid hb3; clear hb3)))
          | fail
        go_wp2
        go_ret
        exact ⟨retb (by first | exact hF.out.symm | (rw [hF.out]; assumption)), HB.out.trans (((Below.refl _ W).drew.trans HB3.out).mono HB.out.size)⟩
  · have hF : Hid (isW k t = false) := by show _ = _; rw [hv.out, decide_eq_false h1]; rfl
    have e1 : ((k : Int) == (q : Int)) = false := by simp; omega
    clear h1
    go_enter Try.func17, Try.ntmps17
    go_wp2_with fail
    first
      | (go_region_with (first
          | (go_at_call 26; (with_reducible refine (CK.out _).mono ?_); rintro e w3 ⟨rfl, hb3⟩; have s1 := HY.out w3 ((Below.refl _ W).drew.trans hb3); have HB3 := Lib.hid hb3; clear hb3)))
      | fail
    all_goals (go_wp2; go_ret; exact ⟨retb (by first | exact hF.out.symm | (rw [hF.out]; assumption)), HB.out.trans (((Below.refl _ W).drew.trans HB3.out).mono HB.out.size)⟩)

end Go.Proofs.Ytbnlcgnpkodieaa

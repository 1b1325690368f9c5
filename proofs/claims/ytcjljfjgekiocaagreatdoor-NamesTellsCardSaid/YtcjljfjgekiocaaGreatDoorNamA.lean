/- Contracts: isFormWord, Name, text, variable, given, look (mknama.py). -/
import Derived.Laws.ResultCell
import Derived.Lib.SmallJoins
import Derived.Test.YtcjljfjgekiocaaGreatDoorLexC
import Derived.Test.YtcjljfjgekiocaaGreatDoorNamMath
import Derived.Test.YtcjljfjgekiocaaGreatDoorMetB
namespace Go.Proofs.YtcjljfjgekiocaaGreatDoor
open Go.RowKit Go.Shelf

set_option linter.unusedVariables false
set_option linter.unusedSimpArgs false

theorem fw_codes : ∀ w ∈ FW, Codes w := by
  have h : FW.all (fun w => w.all fun c => decide (c < 256)) = true := by decide
  intro w hw c hc
  have := List.all_eq_true.1 (List.all_eq_true.1 h w hw) c hc
  simpa using this
theorem fw_beq {L : List Nat} (hc : Codes L) {w : List Nat} (hw : w ∈ FW) {M : List UInt8} (hM : w.map UInt8.ofNat = M) : ((str L).toList == M) = decide (L = w) := by
  rw [← hM, ← str_toList]
  exact str_beq hc (fw_codes w hw)
set_option maxRecDepth 100000 in
set_option maxHeartbeats 4000000 in
theorem formWord_any (L : List Nat) (w : World) (hc : Codes L) : Calls Tryz.prog 43 #[.string (str L)] w fun e w' => e = .returned (.bool (fw L)) ∧ w' = w := by
  have e0 := fw_beq hc (w := [116, 114, 117, 101]) (by decide) (M := [116, 114, 117, 101]) rfl
  have e1 := fw_beq hc (w := [102, 97, 108, 115, 101]) (by decide) (M := [102, 97, 108, 115, 101]) rfl
  have e2 := fw_beq hc (w := [110, 111, 116]) (by decide) (M := [110, 111, 116]) rfl
  have e3 := fw_beq hc (w := [97, 110, 100]) (by decide) (M := [97, 110, 100]) rfl
  have e4 := fw_beq hc (w := [111, 114]) (by decide) (M := [111, 114]) rfl
  have e5 := fw_beq hc (w := [61, 62]) (by decide) (M := [61, 62]) rfl
  have e6 := fw_beq hc (w := [105, 116, 101]) (by decide) (M := [105, 116, 101]) rfl
  have e7 := fw_beq hc (w := [61]) (by decide) (M := [61]) rfl
  have e8 := fw_beq hc (w := [60, 61]) (by decide) (M := [60, 61]) rfl
  have e9 := fw_beq hc (w := [60]) (by decide) (M := [60]) rfl
  have e10 := fw_beq hc (w := [62, 61]) (by decide) (M := [62, 61]) rfl
  have e11 := fw_beq hc (w := [62]) (by decide) (M := [62]) rfl
  have e12 := fw_beq hc (w := [95]) (by decide) (M := [95]) rfl
  have e13 := fw_beq hc (w := [100, 105, 118, 105, 115, 105, 98, 108, 101]) (by decide) (M := [100, 105, 118, 105, 115, 105, 98, 108, 101]) rfl
  have e14 := fw_beq hc (w := [101, 120, 105, 115, 116, 115]) (by decide) (M := [101, 120, 105, 115, 116, 115]) rfl
  have e15 := fw_beq hc (w := [102, 111, 114, 97, 108, 108]) (by decide) (M := [102, 111, 114, 97, 108, 108]) rfl
  have e16 := fw_beq hc (w := [108, 101, 116]) (by decide) (M := [108, 101, 116]) rfl
  have e17 := fw_beq hc (w := [45]) (by decide) (M := [45]) rfl
  have e18 := fw_beq hc (w := [43]) (by decide) (M := [43]) rfl
  have e19 := fw_beq hc (w := [42]) (by decide) (M := [42]) rfl
  have e20 := fw_beq hc (w := [47]) (by decide) (M := [47]) rfl
  have e21 := fw_beq hc (w := [82, 101, 97, 108]) (by decide) (M := [82, 101, 97, 108]) rfl
  have e22 := fw_beq hc (w := [73, 110, 116]) (by decide) (M := [73, 110, 116]) rfl
  have hv : Hid (fw L = (decide (L = [116, 114, 117, 101]) || (decide (L = [102, 97, 108, 115, 101]) || (decide (L = [110, 111, 116]) || (decide (L = [97, 110, 100]) || (decide (L = [111, 114]) || (decide (L = [61, 62]) || (decide (L = [105, 116, 101]) || (decide (L = [61]) || (decide (L = [60, 61]) || (decide (L = [60]) || (decide (L = [62, 61]) || (decide (L = [62]) || (decide (L = [95]) || (decide (L = [100, 105, 118, 105, 115, 105, 98, 108, 101]) || (decide (L = [101, 120, 105, 115, 116, 115]) || (decide (L = [102, 111, 114, 97, 108, 108]) || (decide (L = [108, 101, 116]) || (decide (L = [45]) || (decide (L = [43]) || (decide (L = [42]) || (decide (L = [47]) || (decide (L = [82, 101, 97, 108]) || (decide (L = [73, 110, 116]) || false)))))))))))))))))))))))) := rfl
  generalize decide (L = [116, 114, 117, 101]) = d0 at *
  generalize decide (L = [102, 97, 108, 115, 101]) = d1 at *
  generalize decide (L = [110, 111, 116]) = d2 at *
  generalize decide (L = [97, 110, 100]) = d3 at *
  generalize decide (L = [111, 114]) = d4 at *
  generalize decide (L = [61, 62]) = d5 at *
  generalize decide (L = [105, 116, 101]) = d6 at *
  generalize decide (L = [61]) = d7 at *
  generalize decide (L = [60, 61]) = d8 at *
  generalize decide (L = [60]) = d9 at *
  generalize decide (L = [62, 61]) = d10 at *
  generalize decide (L = [62]) = d11 at *
  generalize decide (L = [95]) = d12 at *
  generalize decide (L = [100, 105, 118, 105, 115, 105, 98, 108, 101]) = d13 at *
  generalize decide (L = [101, 120, 105, 115, 116, 115]) = d14 at *
  generalize decide (L = [102, 111, 114, 97, 108, 108]) = d15 at *
  generalize decide (L = [108, 101, 116]) = d16 at *
  generalize decide (L = [45]) = d17 at *
  generalize decide (L = [43]) = d18 at *
  generalize decide (L = [42]) = d19 at *
  generalize decide (L = [47]) = d20 at *
  generalize decide (L = [82, 101, 97, 108]) = d21 at *
  generalize decide (L = [73, 110, 116]) = d22 at *
  clear hc
  go_enter Tryz.func43, Tryz.ntmps43
  go_wp2
  all_goals go_ret
  all_goals refine ⟨retb ?_, rfl⟩
  all_goals rw [hv.out]
  all_goals (clear e0 e1 e2 e3 e4 e5 e6 e7 e8 e9 e10 e11 e12 e13 e14 e15 e16 e17 e18 e19 e20 e21 e22 hv)
  all_goals simp_all
theorem name_any (L : List Nat) (w : World) (hc : Codes L) (hl : L.length < 9223372036854775807) : Calls Tryz.prog 13 #[.string (str L)] w fun e w' => e = .returned (.bool (isN L)) ∧ Below w.heap.size w w' := by
  have ck := kind_any L w hc hl
  have CF := Lib.hid (fun w1 => formWord_any L w1 hc)
  have hv : Hid (isN L = (decide (kd L = 5) && !fw L)) := rfl
  have e1 : (((kd L : Nat) : Int) == 5) = decide (kd L = 5) := by
    rw [Bool.eq_iff_iff, beq_iff_eq, decide_eq_true_iff]; omega
  generalize decide (kd L = 5) = d at *
  generalize kd L = k at *
  generalize fw L = f at *
  generalize isN L = r at *
  cases d
  · go_enter Tryz.func13, Tryz.ntmps13
    go_wp2_with fail
    refine ck.mono ?_
    rintro e w1 ⟨rfl, hb⟩
    go_wp2
    go_ret
    exact ⟨retb (by rw [hv.out]; rfl), hb⟩
  · go_enter Tryz.func13, Tryz.ntmps13
    go_wp2_with fail
    refine ck.mono ?_
    rintro e w1 ⟨rfl, hb⟩
    have cf := CF.out w1
    clear ck
    go_wp2_with fail
    refine cf.mono ?_
    rintro e w2 ⟨rfl, rfl⟩
    go_wp2
    go_ret
    exact ⟨retb (by rw [hv.out]; rfl), hb⟩
theorem text_any (s : ByteArray) (v : Value) (w : World) : Calls Tryz.prog 34 #[.agg #[.string s, v]] w fun e w' => e = .returned (.string s) ∧ Below w.heap.size w w' := by
  have hx := lone_new w #[.string s, v] 68
  have x0 : (w.alloc (.cells #[.string s, v] 68)).cell? ⟨w.heap.size, 0, none⟩ = some (.string s) := by rw [cell_of hx]; rfl
  clear hx
  go_enter Tryz.func34, Tryz.ntmps34
  go_wp2
  go_ret
  exact ⟨rfl, (Below.refl _ w).alloc (Nat.le_refl _) _⟩
theorem variable_any (s : Value) (v : Int) (w : World) : Calls Tryz.prog 47 #[.agg #[s, .int .i64 v]] w fun e w' => e = .returned (.int .i64 v) ∧ Below w.heap.size w w' := by
  have hx := lone_new w #[s, .int .i64 v] 68
  have x0 : (w.alloc (.cells #[s, .int .i64 v] 68)).cell? ⟨w.heap.size, 1, none⟩ = some (.int .i64 v) := by rw [cell_of hx]; rfl
  clear hx
  go_enter Tryz.func47, Tryz.ntmps47
  go_wp2
  go_ret
  exact ⟨rfl, (Below.refl _ w).alloc (Nat.le_refl _) _⟩
theorem kind_lt2 {w : World} {b : Nat} {c : Array Value} {e : TypeId} {f : Nat × Nat} (h : w.heap[b]? = some (.cells c e f)) : b < w.heap.size := (Array.getElem?_eq_some_iff.1 h).1
theorem infoE : (Tryz.prog.info? 68).map (·.size) = some 2 := by kernel_rfl
theorem nclone_any (L : List Nat) (w : World) (hl : L.length ≤ 281474976710656) : Calls Tryz.prog 54 #[.string (str L)] w fun e w' => e = .returned (.string (str L)) ∧ Below w.heap.size w w' := by
  have c := Go.Proofs.Tryz.stringslite_Clone (str L) w (by rw [str_size]; exact hl)
  go_enter Tryz.func54, Tryz.ntmps54
  go_wp2_with fail
  refine c.mono ?_
  rintro e w1 ⟨rfl, hb⟩
  clear c
  go_wp2
  go_ret
  exact ⟨rfl, hb⟩
theorem given_any (L : List Nat) (v : Int) (w : World) (hl : L.length ≤ 281474976710656) : Calls Tryz.prog 36 #[.string (str L), .int .i64 v] w fun e w' => e = .returned (.agg #[.string (str L), .int .i64 v]) ∧ Below w.heap.size w w' := by
  have C := Lib.hid (fun w1 => nclone_any L w1 hl)
  obtain ⟨W, hW⟩ : ∃ W, w.alloc (.cells #[.string ⟨#[]⟩, .int .i64 0] 68) = W := ⟨_, rfl⟩
  have hB : Below w.heap.size w W := hW ▸ (Below.refl _ w).alloc (Nat.le_refl _) _
  have hx : W.heap[w.heap.size]? = some (.cells #[.string ⟨#[]⟩, .int .i64 0] 68 (0, 0)) := hW ▸ lone_new w _ _
  have HB := Lib.hid hB
  have HX := Lib.hid hx
  clear hB hx
  go_enter Tryz.func36, Tryz.ntmps36
  go_wp2_with fail
  refine (C.out _).mono ?_
  rintro e w1 ⟨rfl, hb⟩
  have hx1 := (hb.block w.heap.size (kind_lt2 HX.out)).trans HX.out
  have z0 : w1.cell? ⟨w.heap.size, 0, none⟩ = some (.string ⟨#[]⟩) := by rw [cell_of hx1]; rfl
  have z1 : w1.cell? ⟨w.heap.size, 1, none⟩ = some (.int .i64 0) := by rw [cell_of hx1]; rfl
  have f0 := frozen_of hx1
  go_wp2_with fail
  have hx2 := Joins.block_setCell (i := 1) (Joins.block_setCell (i := 0) hx1 (.string (str L))) (.int .i64 v)
  exact bodyPost_ret (results_cell_row rfl _ _ w.heap.size _ _ _ _ rfl hx2 Tryz.underlying68 rfl infoE) rfl ⟨rfl, ((HB.out.trans (hb.mono HB.out.size)).setCell (p := ⟨w.heap.size, 0, none⟩) (Nat.le_refl _) _).setCell (p := ⟨w.heap.size, 1, none⟩) (Nat.le_refl _) _⟩
end Go.Proofs.YtcjljfjgekiocaaGreatDoor

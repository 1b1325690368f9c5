/- Contracts: isDigit, isLetter, places, lineEnd, behindParts, end. -/
import Derived.BigQuiet
import Derived.Deep.QuietTactic
import Derived.WalkSpells
import Derived.WalkLawsBesides
import Derived.StillTailTactics
import Derived.Lib.IndexAny
import Derived.Test.YtcjljfjgekiocaaGreatDoorShelf
import Derived.Test.YtcjljfjgekiocaaGreatDoorStr
import Derived.Test.YtcjljfjgekiocaaGreatDoorLexMath
namespace Go.Proofs.YtcjljfjgekiocaaGreatDoor
open Go.RowKit Go.Shelf

set_option linter.unusedVariables false
set_option linter.unusedSimpArgs false

theorem isDigit_any (c : Nat) (w : World) : Calls Tryz.prog 102 #[.int .u8 (c : Int)] w fun e w' => e = .returned (.bool (dg c)) ∧ w' = w := by
  by_cases h1 : c < 48
  · have hd : Hid (dg c = false) := by show _ = _; unfold dg; rw [decide_eq_false (by omega)]; rfl
    go_enter Tryz.func102, Tryz.ntmps102
    go_wp2
    go_ret
    exact ⟨retb hd.out.symm, rfl⟩
  · by_cases h2 : 57 < c
    · have hd : Hid (dg c = false) := by show _ = _; unfold dg; rw [decide_eq_false (p := c ≤ 57) (by omega), Bool.and_false]
      go_enter Tryz.func102, Tryz.ntmps102
      go_wp2
      go_ret
      exact ⟨retb (by rw [hd.out]; first | (simp; omega) | (rw [Bool.eq_iff_iff]; simp; omega)), rfl⟩
    · have hd : Hid (dg c = true) := by show _ = _; rw [dg_iff]; omega
      go_enter Tryz.func102, Tryz.ntmps102
      go_wp2
      go_ret
      exact ⟨retb (by rw [hd.out]; first | (simp; omega) | (rw [Bool.eq_iff_iff]; simp; omega)), rfl⟩

theorem isLetter_any (c : Nat) (w : World) : Calls Tryz.prog 104 #[.int .u8 (c : Int)] w fun e w' => e = .returned (.bool (ltr c)) ∧ w' = w := by
  have hd : Hid (ltr c = ((decide (97 ≤ c) && decide (c ≤ 122)) || (decide (65 ≤ c) && decide (c ≤ 90)))) := rfl
  by_cases h1 : c < 65
  · go_enter Tryz.func104, Tryz.ntmps104
    go_wp2
    go_ret
    exact ⟨retb (by rw [hd.out]; first | (simp; omega) | (rw [Bool.eq_iff_iff]; simp; omega)), rfl⟩
  · by_cases h2 : c ≤ 90
    · go_enter Tryz.func104, Tryz.ntmps104
      go_wp2
      go_ret
      exact ⟨retb (by rw [hd.out]; first | (simp; omega) | (rw [Bool.eq_iff_iff]; simp; omega)), rfl⟩
    · by_cases h3 : c < 97
      · go_enter Tryz.func104, Tryz.ntmps104
        go_wp2
        go_ret
        exact ⟨retb (by rw [hd.out]; first | (simp; omega) | (rw [Bool.eq_iff_iff]; simp; omega)), rfl⟩
      · by_cases h4 : c ≤ 122
        · go_enter Tryz.func104, Tryz.ntmps104
          go_wp2
          go_ret
          exact ⟨retb (by rw [hd.out]; first | (simp; omega) | (rw [Bool.eq_iff_iff]; simp; omega)), rfl⟩
        · go_enter Tryz.func104, Tryz.ntmps104
          go_wp2
          go_ret
          exact ⟨retb (by rw [hd.out]; first | (simp; omega) | (rw [Bool.eq_iff_iff]; simp; omega)), rfl⟩

/-- the bytes that are neither letters nor digits -/
def sgB : List UInt8 := [126, 33, 64, 36, 37, 94, 38, 42, 95, 45, 43, 61, 60, 62, 46, 63, 47]
theorem sgB_all : (List.range 256).all (fun c => decide (0 ≤ Lib.indexByte sgB (UInt8.ofNat c)) == sgs.contains c) = true := by kernel_rfl
theorem sgB_at {c : Nat} (hc : c < 256) : decide (0 ≤ Lib.indexByte sgB (UInt8.ofNat c)) = sgs.contains c := by
  have := List.all_eq_true.1 sgB_all c (List.mem_range.2 hc)
  simpa using this
theorem toU8 (c : Nat) : ((c : Int)).toNat.toUInt8 = UInt8.ofNat c := by rw [Int.toNat_natCast]

set_option maxRecDepth 100000 in
set_option maxHeartbeats 1000000 in
theorem places_any (c : Nat) (hc : c < 256) (w : World) : Calls Tryz.prog 81 #[.int .u8 (c : Int)] w fun e w' => e = .returned (.int .u8 ((plc c : Nat) : Int)) ∧ w' = w := by
  have c1 := isLetter_any c w
  have c2 := Go.Proofs.Tryz.strings_IndexByte ⟨#[126, 33, 64, 36, 37, 94, 38, 42, 95, 45, 43, 61, 60, 62, 46, 63, 47]⟩ (c : Int) w
  rw [toU8] at c2
  have hx := sgB_at hc
  have c3 := isDigit_any c w
  change Calls _ _ _ _ (fun e w' => e = .returned (.int .i64 (Lib.indexByte sgB (UInt8.ofNat c))) ∧ w' = w) at c2
  generalize Lib.indexByte sgB (UInt8.ofNat c) = x at *
  have hp : Hid (plc c = if hdc c then 7 else if dg c then 3 else if c == 58 then 1 else 0) := rfl
  have hh : Hid (hdc c = (ltr c || sgs.contains c)) := rfl
  generalize ltr c = bl at *
  generalize sgs.contains c = bs at *
  generalize dg c = bd at *
  cases bl
  · cases bs
    · have hx0 : x < 0 := by simpa using hx
      cases bd
      · by_cases h58 : c = 58
        · subst h58
          have hv : Hid (plc 58 = 1) := by show _ = _; decide
          go_enter Tryz.func81, Tryz.ntmps81
          go_wp2_with fail
          refine c1.mono ?_
          rintro e w1 ⟨rfl, rfl⟩
          go_wp2_with fail
          refine c2.mono ?_
          rintro e w1 ⟨rfl, rfl⟩
          go_wp2_with fail
          refine c3.mono ?_
          rintro e w1 ⟨rfl, rfl⟩
          go_wp2
          go_ret
          exact ⟨reti (by rw [hv.out]; decide), rfl⟩
        · have hv : Hid (plc c = 0) := by show _ = _; rw [hp.out, hh.out]; simp [h58]
          go_enter Tryz.func81, Tryz.ntmps81
          go_wp2_with fail
          refine c1.mono ?_
          rintro e w1 ⟨rfl, rfl⟩
          go_wp2_with fail
          refine c2.mono ?_
          rintro e w1 ⟨rfl, rfl⟩
          go_wp2_with fail
          refine c3.mono ?_
          rintro e w1 ⟨rfl, rfl⟩
          go_wp2
          go_ret
          exact ⟨reti (by rw [hv.out]; rfl), rfl⟩
      · have hv : Hid (plc c = 3) := by show _ = _; rw [hp.out, hh.out]; simp
        go_enter Tryz.func81, Tryz.ntmps81
        go_wp2_with fail
        refine c1.mono ?_
        rintro e w1 ⟨rfl, rfl⟩
        go_wp2_with fail
        refine c2.mono ?_
        rintro e w1 ⟨rfl, rfl⟩
        go_wp2_with fail
        refine c3.mono ?_
        rintro e w1 ⟨rfl, rfl⟩
        go_wp2
        go_ret
        exact ⟨reti (by rw [hv.out]; decide), rfl⟩
    · have hx0 : 0 ≤ x := by simpa using hx
      have hv : Hid (plc c = 7) := by show _ = _; rw [hp.out, hh.out]; simp
      go_enter Tryz.func81, Tryz.ntmps81
      go_wp2_with fail
      refine c1.mono ?_
      rintro e w1 ⟨rfl, rfl⟩
      go_wp2_with fail
      refine c2.mono ?_
      rintro e w1 ⟨rfl, rfl⟩
      go_wp2
      go_ret
      exact ⟨reti (by rw [hv.out]; decide), rfl⟩
  · have hv : Hid (plc c = 7) := by show _ = _; rw [hp.out, hh.out]; simp
    go_enter Tryz.func81, Tryz.ntmps81
    go_wp2_with fail
    refine c1.mono ?_
    rintro e w1 ⟨rfl, rfl⟩
    go_wp2
    go_ret
    exact ⟨reti (by rw [hv.out]; decide), rfl⟩


theorem str_data (L : List Nat) : (str L).data.toList = L.map UInt8.ofNat := rfl
theorem codes_drop {L : List Nat} (h : Codes L) (a : Nat) : Codes (L.drop a) := fun c hc => h c (List.mem_of_mem_drop hc)
theorem codes_take {L : List Nat} (h : Codes L) (a : Nat) : Codes (L.take a) := fun c hc => h c (List.mem_of_mem_take hc)
theorem codes_at {L : List Nat} (h : Codes L) {a : Nat} (hl : a < L.length) : L[a]?.getD 0 < 256 := by
  rw [List.getElem?_eq_getElem hl]; exact h _ (List.getElem_mem hl)
theorem byte_at {L : List Nat} (h : Codes L) {a : Nat} (hl : a < L.length) (h2 : a < (str L).size) : ((str L)[a]'h2).toNat = L[a]?.getD 0 := by
  rw [str_at hl h2, UInt8.toNat_ofNat', Nat.mod_eq_of_lt (codes_at h hl)]
theorem drop_cons {L : List Nat} {a : Nat} (hl : a < L.length) : L.drop a = L[a]?.getD 0 :: L.drop (a + 1) := by
  rw [List.drop_eq_getElem_cons hl, List.getElem?_eq_getElem hl]; rfl
theorem str_ext_end (L : List Nat) (a : Nat) : (str L).extract a (str L).size = str (L.drop a) := by
  rw [str_extract, str_size, List.take_length]

end Go.Proofs.YtcjljfjgekiocaaGreatDoor

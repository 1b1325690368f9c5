/- Contracts: isDigit, isLetter, places, lineEnd, behindParts, end. -/
import Derived.BigQuiet
import Derived.Deep.QuietTactic
import Derived.WalkSpells
import Derived.WalkLawsBesides
import Derived.StillTailTactics
import Derived.Lib.IndexAny
import Derived.Test.YtbnlcgnpkodieaaShelf
import Derived.Test.YtbnlcgnpkodieaaStr
import Derived.Test.YtbnlcgnpkodieaaLexMath
namespace Go.Proofs.Ytbnlcgnpkodieaa
open Go.RowKit Go.Shelf

set_option linter.unusedVariables false
set_option linter.unusedSimpArgs false

theorem isDigit_any (c : Nat) (w : World) : Calls Try.prog 51 #[.int .u8 (c : Int)] w fun e w' => e = .returned (.bool (dg c)) ∧ w' = w := by
  by_cases h1 : c < 48
  · have hd : Hid (dg c = false) := by show _ = _; unfold dg; rw [decide_eq_false (by omega)]; rfl
    go_enter Try.func51, Try.ntmps51
    go_wp2
    go_ret
    exact ⟨retb hd.out.symm, rfl⟩
  · by_cases h2 : 57 < c
    · have hd : Hid (dg c = false) := by show _ = _; unfold dg; rw [decide_eq_false (p := c ≤ 57) (by omega), Bool.and_false]
      go_enter Try.func51, Try.ntmps51
      go_wp2
      go_ret
      exact ⟨retb (by rw [hd.out]; first | (simp; omega) | (rw [Bool.eq_iff_iff]; simp; omega)), rfl⟩
    · have hd : Hid (dg c = true) := by show _ = _; rw [dg_iff]; omega
      go_enter Try.func51, Try.ntmps51
      go_wp2
      go_ret
      exact ⟨retb (by rw [hd.out]; first | (simp; omega) | (rw [Bool.eq_iff_iff]; simp; omega)), rfl⟩

theorem isLetter_any (c : Nat) (w : World) : Calls Try.prog 53 #[.int .u8 (c : Int)] w fun e w' => e = .returned (.bool (ltr c)) ∧ w' = w := by
  have hd : Hid (ltr c = ((decide (97 ≤ c) && decide (c ≤ 122)) || (decide (65 ≤ c) && decide (c ≤ 90)))) := rfl
  by_cases h1 : c < 65
  · go_enter Try.func53, Try.ntmps53
    go_wp2
    go_ret
    exact ⟨retb (by rw [hd.out]; first | (simp; omega) | (rw [Bool.eq_iff_iff]; simp; omega)), rfl⟩
  · by_cases h2 : c ≤ 90
    · go_enter Try.func53, Try.ntmps53
      go_wp2
      go_ret
      exact ⟨retb (by rw [hd.out]; first | (simp; omega) | (rw [Bool.eq_iff_iff]; simp; omega)), rfl⟩
    · by_cases h3 : c < 97
      · go_enter Try.func53, Try.ntmps53
        go_wp2
        go_ret
        exact ⟨retb (by rw [hd.out]; first | (simp; omega) | (rw [Bool.eq_iff_iff]; simp; omega)), rfl⟩
      · by_cases h4 : c ≤ 122
        · go_enter Try.func53, Try.ntmps53
          go_wp2
          go_ret
          exact ⟨retb (by rw [hd.out]; first | (simp; omega) | (rw [Bool.eq_iff_iff]; simp; omega)), rfl⟩
        · go_enter Try.func53, Try.ntmps53
          go_wp2
          go_ret
          exact ⟨retb (by rw [hd.out]; first | (simp; omega) | (rw [Bool.eq_iff_iff]; simp; omega)), rfl⟩

/-- the bytes that are neither letters nor digits -/
def sgB : List UInt8 := [126, 33, 64, 36, 37, 94, 38, 42, 95, 45, 43, 61, 60, 62, 46, 63, 47]
theorem sgB_all : (List.range 256).all (fun c => decide (0 ≤ Lib.indexByte sgB (UInt8.ofNat c)) == sgs.contains c) = true := by kernel_rfl
theorem sgB_at {c : Nat} (hc : c < 256) : decide (0 ≤ Lib.indexByte sgB (UInt8.ofNat c)) = sgs.contains c := by
  have := List.all_eq_true.1 sgB_all c (List.mem_range.2 hc)
  simpa using this
theorem toU8 (c : Nat) : ((c : Int)).toNat.toUInt8 = UInt8.ofNat c := by rw [Int.toNat_natCast]

set_option maxRecDepth 100000 in
set_option maxHeartbeats 1000000 in
theorem places_any (c : Nat) (hc : c < 256) (w : World) : Calls Try.prog 44 #[.int .u8 (c : Int)] w fun e w' => e = .returned (.int .u8 ((plc c : Nat) : Int)) ∧ w' = w := by
  have c1 := isLetter_any c w
  have c2 := Go.Proofs.Try.strings_IndexByte ⟨#[126, 33, 64, 36, 37, 94, 38, 42, 95, 45, 43, 61, 60, 62, 46, 63, 47]⟩ (c : Int) w
  rw [toU8] at c2
  have hx := sgB_at hc
  have c3 := isDigit_any c w
  change Calls _ _ _ _ (fun e w' => e = .returned (.int .i64 (Lib.indexByte sgB (UInt8.ofNat c))) ∧ w' = w) at c2
  generalize Lib.indexByte sgB (UInt8.ofNat c) = x at *
  have hp : Hid (plc c = if hdc c then 7 else if dg c then 3 else if c == 58 then 1 else 0) := rfl
  have hh : Hid (hdc c = (ltr c || sgs.contains c)) := rfl
  generalize ltr c = bl at *
  generalize sgs.contains c = bs at *
  generalize dg c = bd at *
  cases bl
  · cases bs
    · have hx0 : x < 0 := by simpa using hx
      cases bd
      · by_cases h58 : c = 58
        · subst h58
          have hv : Hid (plc 58 = 1) := by show _ = _; decide
          go_enter Try.func44, Try.ntmps44
          go_wp2_with fail
          refine c1.mono ?_
          rintro e w1 ⟨rfl, rfl⟩
          go_wp2_with fail
          refine c2.mono ?_
          rintro e w1 ⟨rfl, rfl⟩
          go_wp2_with fail
          refine c3.mono ?_
          rintro e w1 ⟨rfl, rfl⟩
          go_wp2
          go_ret
          exact ⟨reti (by rw [hv.out]; decide), rfl⟩
        · have hv : Hid (plc c = 0) := by show _ = _; rw [hp.out, hh.out]; simp [h58]
          go_enter Try.func44, Try.ntmps44
          go_wp2_with fail
          refine c1.mono ?_
          rintro e w1 ⟨rfl, rfl⟩
          go_wp2_with fail
          refine c2.mono ?_
          rintro e w1 ⟨rfl, rfl⟩
          go_wp2_with fail
          refine c3.mono ?_
          rintro e w1 ⟨rfl, rfl⟩
          go_wp2
          go_ret
          exact ⟨reti (by rw [hv.out]; rfl), rfl⟩
      · have hv : Hid (plc c = 3) := by show _ = _; rw [hp.out, hh.out]; simp
        go_enter Try.func44, Try.ntmps44
        go_wp2_with fail
        refine c1.mono ?_
        rintro e w1 ⟨rfl, rfl⟩
        go_wp2_with fail
        refine c2.mono ?_
        rintro e w1 ⟨rfl, rfl⟩
        go_wp2_with fail
        refine c3.mono ?_
        rintro e w1 ⟨rfl, rfl⟩
        go_wp2
        go_ret
        exact ⟨reti (by rw [hv.out]; decide), rfl⟩
    · have hx0 : 0 ≤ x := by simpa using hx
      have hv : Hid (plc c = 7) := by show _ = _; rw [hp.out, hh.out]; simp
      go_enter Try.func44, Try.ntmps44
      go_wp2_with fail
      refine c1.mono ?_
      rintro e w1 ⟨rfl, rfl⟩
      go_wp2_with fail
      refine c2.mono ?_
      rintro e w1 ⟨rfl, rfl⟩
      go_wp2
      go_ret
      exact ⟨reti (by rw [hv.out]; decide), rfl⟩
  · have hv : Hid (plc c = 7) := by show _ = _; rw [hp.out, hh.out]; simp
    go_enter Try.func44, Try.ntmps44
    go_wp2_with fail
    refine c1.mono ?_
    rintro e w1 ⟨rfl, rfl⟩
    go_wp2
    go_ret
    exact ⟨reti (by rw [hv.out]; decide), rfl⟩


theorem str_data (L : List Nat) : (str L).data.toList = L.map UInt8.ofNat := rfl
theorem codes_drop {L : List Nat} (h : Codes L) (a : Nat) : Codes (L.drop a) := fun c hc => h c (List.mem_of_mem_drop hc)
theorem codes_take {L : List Nat} (h : Codes L) (a : Nat) : Codes (L.take a) := fun c hc => h c (List.mem_of_mem_take hc)
theorem codes_at {L : List Nat} (h : Codes L) {a : Nat} (hl : a < L.length) : L[a]?.getD 0 < 256 := by
  rw [List.getElem?_eq_getElem hl]; exact h _ (List.getElem_mem hl)
theorem byte_at {L : List Nat} (h : Codes L) {a : Nat} (hl : a < L.length) (h2 : a < (str L).size) : ((str L)[a]'h2).toNat = L[a]?.getD 0 := by
  rw [str_at hl h2, UInt8.toNat_ofNat', Nat.mod_eq_of_lt (codes_at h hl)]
theorem drop_cons {L : List Nat} {a : Nat} (hl : a < L.length) : L.drop a = L[a]?.getD 0 :: L.drop (a + 1) := by
  rw [List.drop_eq_getElem_cons hl, List.getElem?_eq_getElem hl]; rfl
theorem str_ext_end (L : List Nat) (a : Nat) : (str L).extract a (str L).size = str (L.drop a) := by
  rw [str_extract, str_size, List.take_length]

set_option maxRecDepth 100000 in
set_option maxHeartbeats 1000000 in
theorem lineEnd_any (L : List Nat) (a : Nat) (hc : Codes L) (ha : a ≤ L.length) (hl : L.length < 9223372036854775808) (w : World) :
    Calls Try.prog 55 #[.string (str L), .int .i64 (a : Int)] w fun e w' => e = .returned (.int .i64 ((a + upd (L.drop a) 10 : Nat) : Int)) ∧ w' = w := by
  have hsz := str_size L
  have hex := str_ext_end L a
  rw [hsz] at hex
  have c2 := Go.Proofs.Try.strings_IndexByte (str (L.drop a)) 10 w
  rw [show (10 : Int).toNat.toUInt8 = UInt8.ofNat 10 from rfl, str_data, indexByte_upd _ _ (codes_drop hc a) (by decide)] at c2
  have hu := upd_le (L.drop a) 10
  rw [List.length_drop] at hu c2
  by_cases hx : upd (L.drop a) 10 < L.length - a
  · rw [if_pos hx] at c2
    generalize upd (L.drop a) 10 = u at *
    clear hc
    go_enter Try.func55, Try.ntmps55
    go_wp2_with fail
    refine c2.mono ?_
    rintro e w1 ⟨rfl, rfl⟩
    go_wp2
    go_ret
    exact ⟨reti (by omega), rfl⟩
  · rw [if_neg hx] at c2
    have he : Hid (a + upd (L.drop a) 10 = L.length) := by show _ = _; omega
    clear hc hu hx
    go_enter Try.func55, Try.ntmps55
    go_wp2_with fail
    refine c2.mono ?_
    rintro e w1 ⟨rfl, rfl⟩
    go_wp2
    go_ret
    exact ⟨reti (by rw [he.out]), rfl⟩

set_option maxRecDepth 100000 in
set_option maxHeartbeats 2000000 in
theorem behindParts_any (L : List Nat) (a : Nat) (hc : Codes L) (ha : a ≤ L.length) (hl : L.length < 9223372036854775808) (w : World) :
    Calls Try.prog 47 #[.string (str L), .int .i64 (a : Int)] w fun e w' => e = .returned (.int .i64 ((a + skp false (L.drop a) : Nat) : Int)) ∧ w' = w := by
  have hsz := str_size L
  obtain ⟨T, hT⟩ : ∃ T, T = a + skp false (L.drop a) := ⟨_, rfl⟩
  rw [← hT]
  go_enter Try.func47, Try.ntmps47
  go_wp2
  go_loopw [1] (fun i wr => ∃ k : Nat, k ≤ L.length ∧ i = .int .i64 (k : Int) ∧ T = k + skp false (L.drop k) ∧ wr = w) (fun i _ => L.length - (intOf i).toNat)
  case atStart => exact ⟨a, ha, rfl, hT, rfl⟩
  case round =>
    clear hT ha
    obtain ⟨k, hk, rfl, hT, rfl⟩ := hrel
    by_cases hlt : k < L.length
    · have hb := byte_at hc hlt (by rw [hsz]; exact hlt)
      have hcl := lineEnd_any L k hc hk hl wr
      have hdr := drop_cons hlt
      rw [hdr] at hT hcl
      have hc256 := codes_at hc hlt
      generalize L[k]?.getD 0 = c at *
      have HT := Lib.hid hT
      have HC := Lib.hid hc
      have HD := Lib.hid hdr
      clear hT hc hdr
      by_cases h32 : c = 32
      · subst h32
        go_wp2
        go_roundw
        case rel => exact ⟨k + 1, by omega, by go_num, by rw [HT.out, skp_cons_blk _ (by decide)]; omega, trivial⟩
        case measure => simp [intOf]; omega
      · by_cases h9 : c = 9
        · subst h9
          go_wp2
          go_roundw
          case rel => exact ⟨k + 1, by omega, by go_num, by rw [HT.out, skp_cons_blk _ (by decide)]; omega, trivial⟩
          case measure => simp [intOf]; omega
        · by_cases h13 : c = 13
          · subst h13
            go_wp2
            go_roundw
            case rel => exact ⟨k + 1, by omega, by go_num, by rw [HT.out, skp_cons_blk _ (by decide)]; omega, trivial⟩
            case measure => simp [intOf]; omega
          · by_cases h10 : c = 10
            · subst h10
              go_wp2
              go_roundw
              case rel => exact ⟨k + 1, by omega, by go_num, by rw [HT.out, skp_cons_blk _ (by decide)]; omega, trivial⟩
              case measure => simp [intOf]; omega
            · by_cases h59 : c = 59
              · subst h59
                have hul := upd_le (59 :: L.drop (k + 1)) 10
                have hln := skp_line (L.drop (k + 1))
                have hpos := upd_cons_ne (c := 10) (d := 59) (L.drop (k + 1)) (by decide)
                rw [← HD.out, List.length_drop] at hul
                rw [← HD.out] at hln hcl
                rw [← HD.out] at hpos
                rw [List.drop_drop] at hln
                generalize upd (L.drop k) 10 = u at *
                have HT2 : Hid (T = (k + u) + skp false (L.drop (k + u))) := by
                  show _ = _
                  rw [HT.out, ← HD.out, hln]; omega
                have hu0 : 0 < u := by omega
                clear hln HT hpos
                go_wp2_with fail
                refine hcl.mono ?_
                rintro e w1 ⟨rfl, rfl⟩
                clear hcl
                go_wp2
                go_roundw
                case rel => exact ⟨k + u, by omega, by go_num, HT2.out, trivial⟩
                case measure => simp [intOf]; omega
              · have hbl : Hid (skp false (c :: L.drop (k + 1)) = 0) := by
                  show _ = _
                  exact skp_cons_no _ (by simp [blk, h32, h9, h13, h10]) h59
                go_wp2
                go_ret
                exact ⟨reti (by rw [HT.out, hbl.out]; omega), rfl⟩
    · obtain rfl : k = L.length := by omega
      have he : Hid (skp false (L.drop L.length) = 0) := by show _ = _; rw [List.drop_length]; rfl
      have HT := Lib.hid hT
      clear hT
      go_wp2
      go_ret
      exact ⟨reti (by rw [HT.out, he.out]; omega), rfl⟩


set_option maxRecDepth 100000 in
set_option maxHeartbeats 2000000 in
theorem end_any (L : List Nat) (a : Nat) (hc : Codes L) (ha : a < L.length) (hl : L.length < 9223372036854775807) (w : World) :
    Calls Try.prog 48 #[.string (str L), .int .i64 (a : Int)] w fun e w' => e = .returned (.int .i64 ((a + wl (L.drop a) : Nat) : Int)) ∧ w' = w := by
  have hsz := str_size L
  obtain ⟨T, hT⟩ : ∃ T, T = a + ((L.drop a).takeWhile pcc).length := ⟨_, rfl⟩
  have hW : Hid (a + wl (L.drop a) = max T (a + 1)) := by show _ = _; rw [hT]; unfold wl; omega
  go_enter Try.func48, Try.ntmps48
  go_wp2
  go_loopw [5] (fun i wr => ∃ k : Nat, a ≤ k ∧ k ≤ L.length ∧ i = .int .i64 (k : Int) ∧ T = k + ((L.drop k).takeWhile pcc).length ∧ wr = w) (fun i _ => L.length - (intOf i).toNat)
  case atStart => exact ⟨a, Nat.le_refl _, by omega, rfl, hT, rfl⟩
  case round =>
    clear hT
    obtain ⟨k, hak, hk, rfl, hT, rfl⟩ := hrel
    by_cases hlt : k < L.length
    · have hb := byte_at hc hlt (by rw [hsz]; exact hlt)
      have hc256 := codes_at hc hlt
      rw [drop_cons hlt] at hT
      have cp := places_any (L[k]?.getD 0) hc256 wr
      generalize L[k]?.getD 0 = c at *
      rw [List.takeWhile_cons] at hT
      have hpp := pcc_plc c
      have hval := plc_vals c
      rw [hpp] at hT
      generalize plc c = p at *
      clear hpp
      have HC := Lib.hid hc
      clear hc
      by_cases hp0 : p = 0
      · subst hp0
        have HT : Hid (T = k) := by show _ = _; rw [hT]; simp
        clear hT hval
        go_wp2_with fail
        refine cp.mono ?_
        rintro e w1 ⟨rfl, rfl⟩
        clear cp
        go_wp2
        go_ret
        exact ⟨reti (by rw [hW.out, HT.out]; omega), rfl⟩
      · have HT : Hid (T = (k + 1) + ((L.drop (k + 1)).takeWhile pcc).length) := by show _ = _; rw [hT]; simp [hp0]; omega
        clear hT
        rcases hval with rfl | rfl | rfl | rfl
        · go_wp2_with fail
          refine cp.mono ?_
          rintro e w1 ⟨rfl, rfl⟩
          clear cp
          go_wp2
          go_roundw
          case rel => exact ⟨k + 1, by omega, by omega, by go_num, HT.out, trivial⟩
          case measure => simp [intOf]; omega
        · go_wp2_with fail
          refine cp.mono ?_
          rintro e w1 ⟨rfl, rfl⟩
          clear cp
          go_wp2
          go_roundw
          case rel => exact ⟨k + 1, by omega, by omega, by go_num, HT.out, trivial⟩
          case measure => simp [intOf]; omega
        · go_wp2_with fail
          refine cp.mono ?_
          rintro e w1 ⟨rfl, rfl⟩
          clear cp
          go_wp2
          go_roundw
          case rel => exact ⟨k + 1, by omega, by omega, by go_num, HT.out, trivial⟩
          case measure => simp [intOf]; omega
        · exact absurd rfl hp0
    · obtain rfl : k = L.length := by omega
      have HT : Hid (T = L.length) := by show _ = _; rw [hT]; simp
      clear hT
      go_wp2
      go_ret
      exact ⟨reti (by rw [hW.out, HT.out]; omega), rfl⟩

end Go.Proofs.Ytbnlcgnpkodieaa

/- Contracts: areDigits, isNumeral, strings.Cut at a dot, isDecimal, isSymbol, Kind. -/
import Derived.Deep.RegionHeld3
import Derived.Test.YtcjljfjgekiocaaGreatDoorLexA
namespace Go.Proofs.YtcjljfjgekiocaaGreatDoor
open Go.RowKit Go.Shelf

set_option linter.unusedVariables false
set_option linter.unusedSimpArgs false

theorem all_take_succ {p : Nat → Bool} {L : List Nat} {k : Nat} (hlt : k < L.length) (h : (L.take k).all p = true) (hc : p (L[k]?.getD 0) = true) : (L.take (k + 1)).all p = true := by
  rw [List.take_succ_eq_append_getElem hlt, List.all_append, h, Bool.true_and, List.all_cons, List.all_nil, Bool.and_true]
  rwa [List.getElem?_eq_getElem hlt] at hc
theorem all_bad {p : Nat → Bool} {L : List Nat} {k : Nat} (hlt : k < L.length) (hc : p (L[k]?.getD 0) = false) : L.all p = false := by
  rw [List.all_eq_false]
  exact ⟨_, List.getElem_mem hlt, by rw [List.getElem?_eq_getElem hlt] at hc; simpa using hc⟩

set_option maxRecDepth 100000 in
set_option maxHeartbeats 2000000 in
theorem areDigits_any (L : List Nat) (w : World) (hc : Codes L) (hl : L.length < 9223372036854775807) :
    Calls Tryz.prog 79 #[.string (str L)] w fun e w' => e = .returned (.bool (dgs L)) ∧ Below w.heap.size w w' := by
  obtain ⟨W1, cap, hcv, hcap, hcell, hb⟩ := conv_str L w hc
  have hdg : Hid (dgs L = (L.all dg && !L.isEmpty)) := rfl
  go_enter Tryz.func79, Tryz.ntmps79
  go_wp2
  go_loopw [8] (fun i wr => ∃ k : Nat, k ≤ L.length ∧ i = .int .i64 (k : Int) ∧ (L.take k).all dg = true ∧ wr = W1) (fun i _ => L.length - (intOf i).toNat)
  case atStart => exact ⟨0, Nat.zero_le _, rfl, by rw [List.take_zero]; rfl, rfl⟩
  case round =>
    obtain ⟨k, hk, rfl, hA, rfl⟩ := hrel
    by_cases hlt : k < L.length
    · have hx := hcell k hlt
      have hgood := Lib.hid (all_take_succ (p := dg) hlt hA)
      have hbad := Lib.hid (all_bad (p := dg) hlt)
      have cd := isDigit_any (L[k]?.getD 0) wr
      generalize L[k]?.getD 0 = c at *
      clear hcell hcv hA
      rcases hdc : dg c with _ | _
      · rw [hdc] at cd
        go_wp2_with fail
        refine cd.mono ?_
        rintro e w1 ⟨rfl, rfl⟩
        clear cd
        go_wp2
        go_ret
        exact ⟨retb (by rw [hdg.out, hbad.out hdc]; rfl), hb⟩
      · rw [hdc] at cd
        go_wp2_with fail
        refine cd.mono ?_
        rintro e w1 ⟨rfl, rfl⟩
        clear cd
        go_wp2
        go_roundw
        case rel => exact ⟨k + 1, by omega, by go_num, hgood.out hdc, trivial⟩
        case measure => simp [intOf]; omega
    · obtain rfl : k = L.length := by omega
      rw [List.take_length] at hA
      have e2 : ((str L).toList == []) = L.isEmpty := by
        rw [str_toList]
        cases L with
        | nil => rfl
        | cons a r => rfl
      have e3 : (str L).toList.isEmpty = L.isEmpty := by
        rw [str_toList]
        cases L with
        | nil => rfl
        | cons a r => rfl
      have hv : Hid (dgs L = !L.isEmpty) := by show _ = _; rw [hdg.out, hA]; rfl
      generalize L.isEmpty = b at *
      clear hcell hcv hA
      go_wp2
      go_ret
      exact ⟨retb (by rw [hv.out]), hb⟩

set_option maxRecDepth 100000 in
set_option maxHeartbeats 2000000 in
theorem isNumeral_any (L : List Nat) (w : World) (hc : Codes L) (hl : L.length < 9223372036854775807) :
    Calls Tryz.prog 62 #[.string (str L)] w fun e w' => e = .returned (.bool (num L)) ∧ Below w.heap.size w w' := by
  have c1 := areDigits_any L w hc hl
  have e1 := str_beq hc (show Codes [48] from fun c h => by rw [List.mem_singleton.1 h]; decide)
  rw [show (str [48]).toList = [48] from by rw [str_toList]; rfl] at e1
  have hn : Hid (num L = (dgs L && (L == [48] || !(L[0]?.getD 0 == 48)))) := rfl
  rcases hd : dgs L with _ | _
  · rw [hd] at c1
    have HN : Hid (num L = false) := by show _ = _; rw [hn.out, hd]; rfl
    clear e1
    go_enter Tryz.func62, Tryz.ntmps62
    go_wp2_with fail
    refine c1.mono ?_
    rintro e w1 ⟨rfl, hb⟩
    clear c1
    go_wp2
    go_ret
    exact ⟨retb HN.out.symm, hb⟩
  · rw [hd] at c1
    have hne : 0 < L.length := by
      cases L with
      | nil => cases hd
      | cons a r => simp
    have e3 : ∀ h : 0 < (str L).size, ((str L)[0]'h).toNat = L[0]?.getD 0 := fun h => byte_at hc hne h
    have hsz := str_size L
    by_cases h48 : L = [48]
    · subst h48
      rw [decide_eq_true rfl] at e1
      have HN : Hid (num [48] = true) := by show _ = _; decide
      go_enter Tryz.func62, Tryz.ntmps62
      go_wp2_with fail
      refine c1.mono ?_
      rintro e w1 ⟨rfl, hb⟩
      clear c1
      go_wp2
      go_ret
      exact ⟨retb HN.out.symm, hb⟩
    · rw [decide_eq_false h48] at e1
      have HN : Hid (num L = !(L[0]?.getD 0 == 48)) := by
        show _ = _
        rw [hn.out, hd, Bool.true_and, beq_eq_false_iff_ne.2 h48, Bool.false_or]
      generalize L[0]?.getD 0 = c at *
      clear hd hn h48
      by_cases hc48 : c = 48
      · subst hc48
        go_enter Tryz.func62, Tryz.ntmps62
        go_wp2_with fail
        refine c1.mono ?_
        rintro e w1 ⟨rfl, hb⟩
        clear c1
        go_wp2
        go_ret
        exact ⟨retb HN.out.symm, hb⟩
      · go_enter Tryz.func62, Tryz.ntmps62
        go_wp2_with fail
        refine c1.mono ?_
        rintro e w1 ⟨rfl, hb⟩
        clear c1
        go_wp2
        go_ret
        exact ⟨retb (by rw [HN.out, Bool.eq_iff_iff]; simp [hc48]; omega), hb⟩

set_option maxRecDepth 100000 in
set_option maxHeartbeats 2000000 in
/-- strings.Index at one byte, a dot -/
theorem index_dot (L : List Nat) (w : World) (hc : Codes L) :
    Calls Tryz.prog 120 #[.string (str L), .string ⟨#[46]⟩] w fun e w' => e = .returned (.int .i64 (if upd L 46 < L.length then (upd L 46 : Int) else -1)) ∧ w' = w := by
  have c1 := Go.Proofs.Tryz.stringslite_IndexByte (str L) 46 w
  rw [show (46 : Int).toNat.toUInt8 = UInt8.ofNat 46 from rfl, str_data, indexByte_upd _ _ hc (by decide)] at c1
  have e1 := str_beq hc (show Codes [46] from fun c h => by rw [List.mem_singleton.1 h]; decide)
  have e0 := str_beq (show Codes [46] from fun c h => by rw [List.mem_singleton.1 h]; decide) hc
  rw [show (str [46]).toList = [46] from by rw [str_toList]; rfl] at e1 e0
  by_cases h : L = [46]
  · subst h
    rw [if_pos (by decide), show upd [46] 46 = 0 by decide] at c1 ⊢
    rw [decide_eq_true rfl] at e1 e0
    go_enter Tryz.func120, Tryz.ntmps120
    go_wp2
    go_ret
    exact ⟨rfl, rfl⟩
  · rw [decide_eq_false h] at e1
    rw [decide_eq_false (fun e => h e.symm)] at e0
    generalize (if upd L 46 < L.length then (upd L 46 : Int) else -1) = x at *
    go_enter Tryz.func120, Tryz.ntmps120
    go_wp2_with fail
    refine c1.mono ?_
    rintro e w1 ⟨rfl, rfl⟩
    go_wp2
    go_ret
    exact ⟨rfl, rfl⟩


set_option maxRecDepth 100000 in
set_option maxHeartbeats 2000000 in
theorem cut_dot_lite (L : List Nat) (w : World) (hc : Codes L) (hl : L.length < 9223372036854775807) :
    Calls Tryz.prog 103 #[.string (str L), .string ⟨#[46]⟩] w fun e w' => e = .returned (.tuple #[.string (str (if upd L 46 < L.length then L.take (upd L 46) else L)), .string (str (if upd L 46 < L.length then L.drop (upd L 46 + 1) else [])), .bool (decide (upd L 46 < L.length))]) ∧ Below w.heap.size w w' := by
  have c1 := index_dot L w hc
  have hsz := str_size L
  by_cases h : upd L 46 < L.length
  · rw [if_pos h] at c1
    rw [if_pos h, if_pos h, decide_eq_true h]
    have x1 := str_extract L 0 (upd L 46)
    rw [List.drop_zero] at x1
    have x2 := str_ext_end L (upd L 46 + 1)
    rw [hsz] at x2
    generalize str (L.take (upd L 46)) = s1 at *
    generalize str (L.drop (upd L 46 + 1)) = s2 at *
    generalize upd L 46 = u at *
    have mixed : Tryz.prog.follows .mixedOrders = true := by kernel_rfl
    have l1 : ((⟨#[46]⟩ : ByteArray).size : Int) = 1 := rfl
    have l2 : (⟨#[46]⟩ : ByteArray).size = 1 := rfl
    have c2 : (u : Int) ≤ (L.length : Int) := by omega
    have c3 : (0 : Int) ≤ (u : Int) + 1 := by omega
    have c4 : (u : Int) + 1 ≤ (L.length : Int) := by omega
    go_enter Tryz.func103, Tryz.ntmps103
    go_wp2_with fail
    refine c1.mono ?_
    rintro e w1 ⟨rfl, rfl⟩
    clear c1
    go_wp2
    go_region_o
    go_wp2
    go_ret3
    exact ⟨rfl, (Below.refl _ _).drew⟩
  · rw [if_neg h] at c1
    rw [if_neg h, if_neg h, decide_eq_false h]
    go_enter Tryz.func103, Tryz.ntmps103
    go_wp2_with fail
    refine c1.mono ?_
    rintro e w1 ⟨rfl, rfl⟩
    clear c1
    go_wp2
    go_ret3
    exact ⟨rfl, Below.refl _ _⟩
set_option maxHeartbeats 1000000 in
theorem cut_dot (L : List Nat) (w : World) (hc : Codes L) (hl : L.length < 9223372036854775807) :
    Calls Tryz.prog 80 #[.string (str L), .string ⟨#[46]⟩] w fun e w' => e = .returned (.tuple #[.string (str (if upd L 46 < L.length then L.take (upd L 46) else L)), .string (str (if upd L 46 < L.length then L.drop (upd L 46 + 1) else [])), .bool (decide (upd L 46 < L.length))]) ∧ Below w.heap.size w w' := by
  have c1 := cut_dot_lite L w hc hl
  generalize str (if upd L 46 < L.length then L.take (upd L 46) else L) = s1 at *
  generalize str (if upd L 46 < L.length then L.drop (upd L 46 + 1) else []) = s2 at *
  generalize decide (upd L 46 < L.length) = b at *
  go_enter Tryz.func80, Tryz.ntmps80
  go_wp2_with fail
  refine c1.mono ?_
  rintro e w1 ⟨rfl, hb⟩
  clear c1
  go_wp2
  go_ret3
  exact ⟨rfl, hb⟩

set_option maxRecDepth 100000 in
set_option maxHeartbeats 2000000 in
theorem isDecimal_any (L : List Nat) (w : World) (hc : Codes L) (hl : L.length < 9223372036854775807) :
    Calls Tryz.prog 63 #[.string (str L)] w fun e w' => e = .returned (.bool (dcm L)) ∧ Below w.heap.size w w' := by
  have c0 := cut_dot L w hc hl
  have hd : Hid (dcm L = (decide (upd L 46 < L.length) && (num (L.take (upd L 46)) && dgs (L.drop (upd L 46 + 1))))) := rfl
  by_cases h : upd L 46 < L.length
  · rw [if_pos h, if_pos h, decide_eq_true h] at c0
    have C1 := Lib.hid (fun w1 => isNumeral_any (L.take (upd L 46)) w1 (codes_take hc _) (by rw [List.length_take]; omega))
    have C2 := Lib.hid (fun w1 => areDigits_any (L.drop (upd L 46 + 1)) w1 (codes_drop hc _) (by rw [List.length_drop]; omega))
    have hd2 : Hid (dcm L = (num (L.take (upd L 46)) && dgs (L.drop (upd L 46 + 1)))) := by show _ = _; rw [hd.out, decide_eq_true h, Bool.true_and]
    clear hd h
    generalize L.take (upd L 46) = A at *
    generalize L.drop (upd L 46 + 1) = B at *
    rcases hn : num A with _ | _
    · go_enter Tryz.func63, Tryz.ntmps63
      go_wp2_with fail
      refine c0.mono ?_
      rintro e w1 ⟨rfl, hb1⟩
      clear c0
      have c1 := C1.out w1
      rw [hn] at c1
      go_wp2_with fail
      refine c1.mono ?_
      rintro e w2 ⟨rfl, hb2⟩
      clear c1
      go_wp2
      go_ret
      exact ⟨retb (by rw [hd2.out, hn]; rfl), hb1.trans (hb2.mono hb1.size)⟩
    · go_enter Tryz.func63, Tryz.ntmps63
      go_wp2_with fail
      refine c0.mono ?_
      rintro e w1 ⟨rfl, hb1⟩
      clear c0
      have c1 := C1.out w1
      rw [hn] at c1
      go_wp2_with fail
      refine c1.mono ?_
      rintro e w2 ⟨rfl, hb2⟩
      clear c1
      have c2 := C2.out w2
      generalize dgs B = b at *
      go_wp2_with fail
      refine c2.mono ?_
      rintro e w3 ⟨rfl, hb3⟩
      clear c2
      have HB := Lib.hid ((hb1.trans (hb2.mono hb1.size)).trans (hb3.mono (hb1.trans (hb2.mono hb1.size)).size))
      go_wp2
      go_ret
      exact ⟨retb (by rw [hd2.out, hn]; rfl), HB.out⟩
  · rw [if_neg h, if_neg h, decide_eq_false h] at c0
    have hd2 : Hid (dcm L = false) := by show _ = _; rw [hd.out, decide_eq_false h]; rfl
    clear hd h
    go_enter Tryz.func63, Tryz.ntmps63
    go_wp2_with fail
    refine c0.mono ?_
    rintro e w1 ⟨rfl, hb1⟩
    clear c0
    go_wp2
    go_ret
    exact ⟨retb hd2.out.symm, hb1⟩

theorem and74 : bits .and .u8 7 4 = 4 := by kernel_rfl
theorem and34 : bits .and .u8 3 4 = 0 := by kernel_rfl
theorem and14 : bits .and .u8 1 4 = 0 := by kernel_rfl
theorem and04 : bits .and .u8 0 4 = 0 := by kernel_rfl
theorem and72 : bits .and .u8 7 2 = 2 := by kernel_rfl
theorem and32 : bits .and .u8 3 2 = 2 := by kernel_rfl
theorem and12 : bits .and .u8 1 2 = 0 := by kernel_rfl
theorem and02 : bits .and .u8 0 2 = 0 := by kernel_rfl
set_option maxRecDepth 100000 in
set_option maxHeartbeats 2000000 in
theorem isSymbol_any (L : List Nat) (w : World) (hc : Codes L) (hl : L.length < 9223372036854775807) :
    Calls Tryz.prog 64 #[.string (str L)] w fun e w' => e = .returned (.bool (sym L)) ∧ Below w.heap.size w w' := by
  obtain ⟨W1, cap, hcv, hcap, hcell, hb⟩ := conv_str L w hc
  have a1 := and74
  have a2 := and34
  have a3 := and14
  have a4 := and04
  have a5 := and72
  have a6 := and32
  have a7 := and12
  have a8 := and02
  have hsz := str_size L
  have hs : Hid (sym L = (!L.isEmpty && (decide (L.length ≤ 64) && (hdc (L[0]?.getD 0) && L.all syc)))) := rfl
  by_cases h0 : L = []
  · subst h0
    have e2 : ((str []).toList == []) = true := by rw [str_toList]; rfl
    have e3 : (str []).toList.isEmpty = true := by rw [str_toList]; rfl
    have hv : Hid (sym [] = false) := rfl
    clear hcv hcell hb
    go_enter Tryz.func64, Tryz.ntmps64
    go_wp2
    go_ret
    exact ⟨retb hv.out.symm, Below.refl _ _⟩
  · have hlen : 0 < L.length := List.length_pos_iff.2 h0
    have hemp : L.isEmpty = false := by
      cases L with
      | nil => exact absurd rfl h0
      | cons a r => rfl
    have e2 : ((str L).toList == []) = false := by
      rw [str_toList]
      cases L with
      | nil => exact absurd rfl h0
      | cons a r => rfl
    have e3 : (str L).toList.isEmpty = false := by
      rw [str_toList]
      cases L with
      | nil => exact absurd rfl h0
      | cons a r => rfl
    by_cases h64 : 64 < L.length
    · have hv : Hid (sym L = false) := by show _ = _; rw [hs.out, decide_eq_false (by omega)]; simp
      clear hcv hcell hb
      go_enter Tryz.func64, Tryz.ntmps64
      go_wp2
      go_ret
      exact ⟨retb hv.out.symm, Below.refl _ _⟩
    · have b0 : ∀ h : 0 < (str L).size, ((str L)[0]'h).toNat = L[0]?.getD 0 := fun h => byte_at hc hlen h
      have c0 := places_any (L[0]?.getD 0) (codes_at hc hlen) w
      have hv : Hid (sym L = (decide (plc (L[0]?.getD 0) = 7) && L.all syc)) := by
        show _ = _
        rw [hs.out, hemp, decide_eq_true (show L.length ≤ 64 by omega), hdc_plc]; rfl
      have hval := plc_vals (L[0]?.getD 0)
      generalize L[0]?.getD 0 = c at *
      generalize plc c = p at *
      have hrest : p = 7 ∨ p = 3 ∨ p = 1 ∨ p = 0 := hval
      by_cases h7 : p = 7
      · subst h7
        have hv2 : Hid (sym L = L.all syc) := by show _ = _; rw [hv.out]; rfl
        clear hv hs hval hrest
        go_enter Tryz.func64, Tryz.ntmps64
        go_wp2_with fail
        refine c0.mono ?_
        rintro e w1 ⟨rfl, rfl⟩
        clear c0
        go_wp2
        go_loopw [22] (fun i wr => ∃ k : Nat, k ≤ L.length ∧ i = .int .i64 (k : Int) ∧ (L.take k).all syc = true ∧ wr = W1) (fun i _ => L.length - (intOf i).toNat)
        case atStart => exact ⟨0, Nat.zero_le _, rfl, by rw [List.take_zero]; rfl, rfl⟩
        case round =>
          obtain ⟨k, hk, rfl, hA, rfl⟩ := hrel
          by_cases hlt : k < L.length
          · have hx := hcell k hlt
            have hgood := Lib.hid (all_take_succ (p := syc) hlt hA)
            have hbad := Lib.hid (all_bad (p := syc) hlt)
            have cd := places_any (L[k]?.getD 0) (codes_at hc hlt) wr
            have hsp := syc_plc (L[k]?.getD 0)
            have hvl := plc_vals (L[k]?.getD 0)
            generalize L[k]?.getD 0 = d at *
            generalize plc d = q at *
            have HC := Lib.hid hc
            clear hcell hcv hA hc
            rcases hvl with rfl | rfl | rfl | rfl
            · go_wp2_with fail
              refine cd.mono ?_
              rintro e w1 ⟨rfl, rfl⟩
              clear cd
              go_wp2
              go_roundw
              case rel => exact ⟨k + 1, by omega, by go_num, hgood.out (by rw [hsp]; rfl), trivial⟩
              case measure => simp [intOf]; omega
            · go_wp2_with fail
              refine cd.mono ?_
              rintro e w1 ⟨rfl, rfl⟩
              clear cd
              go_wp2
              go_roundw
              case rel => exact ⟨k + 1, by omega, by go_num, hgood.out (by rw [hsp]; rfl), trivial⟩
              case measure => simp [intOf]; omega
            · go_wp2_with fail
              refine cd.mono ?_
              rintro e w1 ⟨rfl, rfl⟩
              clear cd
              go_wp2
              go_ret
              exact ⟨retb (by rw [hv2.out, hbad.out (by rw [hsp]; rfl)]), hb⟩
            · go_wp2_with fail
              refine cd.mono ?_
              rintro e w1 ⟨rfl, rfl⟩
              clear cd
              go_wp2
              go_ret
              exact ⟨retb (by rw [hv2.out, hbad.out (by rw [hsp]; rfl)]), hb⟩
          · obtain rfl : k = L.length := by omega
            rw [List.take_length] at hA
            have hv3 : Hid (sym L = true) := by show _ = _; rw [hv2.out, hA]
            clear hcell hcv hA
            go_wp2
            go_ret
            exact ⟨retb hv3.out.symm, hb⟩
      · have hv2 : Hid (sym L = false) := by show _ = _; rw [hv.out, decide_eq_false h7]; rfl
        clear hv hs hcv hcell hb hval
        rcases hrest with rfl | rfl | rfl | rfl
        · exact absurd rfl h7
        · go_enter Tryz.func64, Tryz.ntmps64
          go_wp2_with fail
          refine c0.mono ?_
          rintro e w1 ⟨rfl, rfl⟩
          clear c0
          go_wp2
          go_ret
          exact ⟨retb hv2.out.symm, Below.refl _ _⟩
        · go_enter Tryz.func64, Tryz.ntmps64
          go_wp2_with fail
          refine c0.mono ?_
          rintro e w1 ⟨rfl, rfl⟩
          clear c0
          go_wp2
          go_ret
          exact ⟨retb hv2.out.symm, Below.refl _ _⟩
        · go_enter Tryz.func64, Tryz.ntmps64
          go_wp2_with fail
          refine c0.mono ?_
          rintro e w1 ⟨rfl, rfl⟩
          clear c0
          go_wp2
          go_ret
          exact ⟨retb hv2.out.symm, Below.refl _ _⟩

end Go.Proofs.YtcjljfjgekiocaaGreatDoor

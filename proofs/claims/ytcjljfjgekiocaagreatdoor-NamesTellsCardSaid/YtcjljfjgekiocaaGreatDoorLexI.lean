/- Contracts of the document's own layer 12 (mklexi.py): digit, sign, numeral, symbol, decimal, Kind, skip. -/
import Derived.Test.YtcjljfjgekiocaaGreatDoorLexB
namespace Go.Proofs.YtcjljfjgekiocaaGreatDoor
open Go.RowKit Go.Shelf

set_option linter.unusedVariables false
set_option linter.unusedSimpArgs false

theorem rdigit_any (c : Nat) (w : World) : Calls Tryz.prog 88 #[.int .u8 (c : Int)] w fun e w' => e = .returned (.bool (dg c)) ∧ w' = w := by
  have hd : Hid (dg c = (decide (48 ≤ c) && decide (c ≤ 57))) := rfl
  by_cases h1 : c < 48
  · go_enter Tryz.func88, Tryz.ntmps88
    go_wp2
    go_ret
    exact ⟨retb (by rw [hd.out, Bool.eq_iff_iff]; simp; omega), rfl⟩
  · go_enter Tryz.func88, Tryz.ntmps88
    go_wp2
    go_ret
    exact ⟨retb (by rw [hd.out, Bool.eq_iff_iff]; simp; omega), rfl⟩

theorem sgs_lit : (⟨#[126, 33, 64, 36, 37, 94, 38, 42, 95, 45, 43, 61, 60, 62, 46, 63, 47]⟩ : ByteArray) = str sgs := by decide
theorem sgs_codes : Codes sgs := fun c hc => by
  have : sgs.all (fun c => decide (c < 256)) = true := by decide
  simpa using List.all_eq_true.1 this c hc
set_option maxRecDepth 100000 in
set_option maxHeartbeats 2000000 in
theorem rsign_any (c : Nat) (hc : c < 256) (w : World) : Calls Tryz.prog 89 #[.int .u8 (c : Int)] w fun e w' => e = .returned (.bool (syc c)) ∧ w' = w := by
  have hs : Hid (syc c = ((ltr c || sgs.contains c) || dg c)) := rfl
  have hl : Hid (ltr c = ((decide (97 ≤ c) && decide (c ≤ 122)) || (decide (65 ≤ c) && decide (c ≤ 90)))) := rfl
  have cd := rdigit_any c w
  have no : (97 ≤ c ∧ c ≤ 122) ∨ (65 ≤ c ∧ c ≤ 90) ∨ (¬ (97 ≤ c ∧ c ≤ 122) ∧ ¬ (65 ≤ c ∧ c ≤ 90)) := by omega
  by_cases h1 : 97 ≤ c ∧ c ≤ 122
  · have hv : Hid (syc c = true) := by show _ = _; rw [hs.out, hl.out, decide_eq_true h1.1, decide_eq_true h1.2]; rfl
    have a1 := h1.1
    have a2 := h1.2
    clear no hs hl h1
    go_enter Tryz.func89, Tryz.ntmps89
    go_wp2
    go_ret
    exact ⟨retb hv.out.symm, rfl⟩
  · by_cases h2 : 65 ≤ c ∧ c ≤ 90
    · have hv : Hid (syc c = true) := by show _ = _; rw [hs.out, hl.out, decide_eq_true h2.1, decide_eq_true h2.2]; simp
      have a1 := h2.1
      have a2 := h2.2
      clear no hs hl h1 h2
      go_enter Tryz.func89, Tryz.ntmps89
      go_wp2
      go_ret
      exact ⟨retb hv.out.symm, rfl⟩
    · have hlf : ltr c = false := by
        rw [hl.out, Bool.eq_false_iff]; intro h; simp at h; omega
      rcases hd : dg c with _ | _
      · have hv : Hid (syc c = sgs.contains c) := by show _ = _; rw [hs.out, hlf, hd]; simp
        rw [hd] at cd
        have hcut : c < 65 ∨ (90 < c ∧ c < 97) ∨ 122 < c := by omega
        clear no hs hl hlf
        have hcell : ∀ k, k < sgs.length → ∀ h : k < (⟨#[126, 33, 64, 36, 37, 94, 38, 42, 95, 45, 43, 61, 60, 62, 46, 63, 47]⟩ : ByteArray).size, (((⟨#[126, 33, 64, 36, 37, 94, 38, 42, 95, 45, 43, 61, 60, 62, 46, 63, 47]⟩ : ByteArray)[k]'h).toNat) = sgs[k]?.getD 0 := by
          rw [sgs_lit]; exact fun k hk h => byte_at sgs_codes hk h
        have hlen : sgs.length = 17 := rfl
        have hbs : (⟨#[126, 33, 64, 36, 37, 94, 38, 42, 95, 45, 43, 61, 60, 62, 46, 63, 47]⟩ : ByteArray).size = 17 := rfl
        rcases hcut with h | ⟨h, h'⟩ | h
        · go_enter Tryz.func89, Tryz.ntmps89
          go_wp2_with fail
          refine cd.mono ?_
          rintro e w1 ⟨rfl, rfl⟩
          clear cd
          generalize (⟨#[126, 33, 64, 36, 37, 94, 38, 42, 95, 45, 43, 61, 60, 62, 46, 63, 47]⟩ : ByteArray) = SB at *
          go_wp2
          go_loopw [4] (fun i wr => ∃ k : Nat, k ≤ 17 ∧ i = .int .i64 (k : Int) ∧ (sgs.take k).contains c = false ∧ wr = w1) (fun i _ => 17 - (intOf i).toNat)
          case atStart => exact ⟨0, Nat.zero_le _, rfl, rfl, rfl⟩
          case round =>
            obtain ⟨k, hk, rfl, hA, rfl⟩ := hrel
            by_cases hlt : k < 17
            · have hx := hcell k (by omega) (by omega)
              have hgd : sgs[k]?.getD 0 ≠ c → (sgs.take (k + 1)).contains c = false := fun hne => by
                rw [List.take_succ_eq_append_getElem (by omega), List.contains_append, hA, List.getElem?_eq_getElem (by omega)] at *
                simp at hne ⊢
                exact fun e => hne e.symm
              have hbd : sgs[k]?.getD 0 = c → sgs.contains c = true := fun he => by
                rw [List.getElem?_eq_getElem (by omega)] at he
                rw [List.contains_iff_mem, ← he]
                exact List.getElem_mem _
              have HG := Lib.hid hgd
              have HBD := Lib.hid hbd
              generalize sgs[k]?.getD 0 = d at *
              clear hcell hA hgd hbd
              by_cases hdc : d = c
              · have hv1 : Hid (syc c = true) := by show _ = _; rw [hv.out, HBD.out hdc]
                clear HBD HG
                subst hdc
                go_wp2
                go_ret
                exact ⟨retb hv1.out.symm, rfl⟩
              · have hdi : ((d : Int) == (c : Int)) = false := beq_eq_false_iff_ne.2 (by omega)
                go_wp2
                go_roundw
                case rel => exact ⟨k + 1, by omega, by go_num, HG.out hdc, trivial⟩
                case measure => simp [intOf]; omega
            · obtain rfl : k = 17 := by omega
              rw [← hlen, List.take_length] at hA
              go_wp2
              go_ret
              exact ⟨retb (by rw [hv.out, hA]), rfl⟩
        · go_enter Tryz.func89, Tryz.ntmps89
          go_wp2_with fail
          refine cd.mono ?_
          rintro e w1 ⟨rfl, rfl⟩
          clear cd
          generalize (⟨#[126, 33, 64, 36, 37, 94, 38, 42, 95, 45, 43, 61, 60, 62, 46, 63, 47]⟩ : ByteArray) = SB at *
          go_wp2
          go_loopw [4] (fun i wr => ∃ k : Nat, k ≤ 17 ∧ i = .int .i64 (k : Int) ∧ (sgs.take k).contains c = false ∧ wr = w1) (fun i _ => 17 - (intOf i).toNat)
          case atStart => exact ⟨0, Nat.zero_le _, rfl, rfl, rfl⟩
          case round =>
            obtain ⟨k, hk, rfl, hA, rfl⟩ := hrel
            by_cases hlt : k < 17
            · have hx := hcell k (by omega) (by omega)
              have hgd : sgs[k]?.getD 0 ≠ c → (sgs.take (k + 1)).contains c = false := fun hne => by
                rw [List.take_succ_eq_append_getElem (by omega), List.contains_append, hA, List.getElem?_eq_getElem (by omega)] at *
                simp at hne ⊢
                exact fun e => hne e.symm
              have hbd : sgs[k]?.getD 0 = c → sgs.contains c = true := fun he => by
                rw [List.getElem?_eq_getElem (by omega)] at he
                rw [List.contains_iff_mem, ← he]
                exact List.getElem_mem _
              have HG := Lib.hid hgd
              have HBD := Lib.hid hbd
              generalize sgs[k]?.getD 0 = d at *
              clear hcell hA hgd hbd
              by_cases hdc : d = c
              · have hv1 : Hid (syc c = true) := by show _ = _; rw [hv.out, HBD.out hdc]
                clear HBD HG
                subst hdc
                go_wp2
                go_ret
                exact ⟨retb hv1.out.symm, rfl⟩
              · have hdi : ((d : Int) == (c : Int)) = false := beq_eq_false_iff_ne.2 (by omega)
                go_wp2
                go_roundw
                case rel => exact ⟨k + 1, by omega, by go_num, HG.out hdc, trivial⟩
                case measure => simp [intOf]; omega
            · obtain rfl : k = 17 := by omega
              rw [← hlen, List.take_length] at hA
              go_wp2
              go_ret
              exact ⟨retb (by rw [hv.out, hA]), rfl⟩
        · go_enter Tryz.func89, Tryz.ntmps89
          go_wp2_with fail
          refine cd.mono ?_
          rintro e w1 ⟨rfl, rfl⟩
          clear cd
          generalize (⟨#[126, 33, 64, 36, 37, 94, 38, 42, 95, 45, 43, 61, 60, 62, 46, 63, 47]⟩ : ByteArray) = SB at *
          go_wp2
          go_loopw [4] (fun i wr => ∃ k : Nat, k ≤ 17 ∧ i = .int .i64 (k : Int) ∧ (sgs.take k).contains c = false ∧ wr = w1) (fun i _ => 17 - (intOf i).toNat)
          case atStart => exact ⟨0, Nat.zero_le _, rfl, rfl, rfl⟩
          case round =>
            obtain ⟨k, hk, rfl, hA, rfl⟩ := hrel
            by_cases hlt : k < 17
            · have hx := hcell k (by omega) (by omega)
              have hgd : sgs[k]?.getD 0 ≠ c → (sgs.take (k + 1)).contains c = false := fun hne => by
                rw [List.take_succ_eq_append_getElem (by omega), List.contains_append, hA, List.getElem?_eq_getElem (by omega)] at *
                simp at hne ⊢
                exact fun e => hne e.symm
              have hbd : sgs[k]?.getD 0 = c → sgs.contains c = true := fun he => by
                rw [List.getElem?_eq_getElem (by omega)] at he
                rw [List.contains_iff_mem, ← he]
                exact List.getElem_mem _
              have HG := Lib.hid hgd
              have HBD := Lib.hid hbd
              generalize sgs[k]?.getD 0 = d at *
              clear hcell hA hgd hbd
              by_cases hdc : d = c
              · have hv1 : Hid (syc c = true) := by show _ = _; rw [hv.out, HBD.out hdc]
                clear HBD HG
                subst hdc
                go_wp2
                go_ret
                exact ⟨retb hv1.out.symm, rfl⟩
              · have hdi : ((d : Int) == (c : Int)) = false := beq_eq_false_iff_ne.2 (by omega)
                go_wp2
                go_roundw
                case rel => exact ⟨k + 1, by omega, by go_num, HG.out hdc, trivial⟩
                case measure => simp [intOf]; omega
            · obtain rfl : k = 17 := by omega
              rw [← hlen, List.take_length] at hA
              go_wp2
              go_ret
              exact ⟨retb (by rw [hv.out, hA]), rfl⟩
      · have hv : Hid (syc c = true) := by show _ = _; rw [hs.out, hd]; simp
        rw [hd] at cd
        have hcut : c < 65 ∨ (90 < c ∧ c < 97) ∨ 122 < c := by omega
        clear no hs hl hlf
        rcases hcut with h | ⟨h, h'⟩ | h
        · go_enter Tryz.func89, Tryz.ntmps89
          go_wp2_with fail
          refine cd.mono ?_
          rintro e w1 ⟨rfl, rfl⟩
          clear cd
          go_wp2
          go_ret
          exact ⟨retb hv.out.symm, rfl⟩
        · go_enter Tryz.func89, Tryz.ntmps89
          go_wp2_with fail
          refine cd.mono ?_
          rintro e w1 ⟨rfl, rfl⟩
          clear cd
          go_wp2
          go_ret
          exact ⟨retb hv.out.symm, rfl⟩
        · go_enter Tryz.func89, Tryz.ntmps89
          go_wp2_with fail
          refine cd.mono ?_
          rintro e w1 ⟨rfl, rfl⟩
          clear cd
          go_wp2
          go_ret
          exact ⟨retb hv.out.symm, rfl⟩

set_option maxRecDepth 100000 in
set_option maxHeartbeats 2000000 in
theorem rnum_any (L : List Nat) (w : World) (hc : Codes L) (hl : L.length < 9223372036854775807) :
    Calls Tryz.prog 71 #[.string (str L)] w fun e w' => e = .returned (.bool (num L)) ∧ w' = w := by
  have hsz := str_size L
  have hn : Hid (num L = (dgs L && (L == [48] || !(L[0]?.getD 0 == 48)))) := rfl
  have hdg : Hid (dgs L = (L.all dg && !L.isEmpty)) := rfl
  go_enter Tryz.func71, Tryz.ntmps71
  go_wp2
  go_loopw [3] (fun i wr => ∃ k : Nat, k ≤ L.length ∧ i = .int .i64 (k : Int) ∧ (L.take k).all dg = true ∧ wr = w) (fun i _ => L.length - (intOf i).toNat)
  case atStart => exact ⟨0, Nat.zero_le _, rfl, by rw [List.take_zero]; rfl, rfl⟩
  case round =>
    obtain ⟨k, hk, rfl, hA, rfl⟩ := hrel
    by_cases hlt : k < L.length
    · have hx := byte_at hc hlt (by rw [hsz]; exact hlt)
      have hgood := Lib.hid (all_take_succ (p := dg) hlt hA)
      have hbad := Lib.hid (all_bad (p := dg) hlt)
      have cd := rdigit_any (L[k]?.getD 0) wr
      generalize L[k]?.getD 0 = c at *
      clear hA
      rcases hdc : dg c with _ | _
      · rw [hdc] at cd
        go_wp2_with fail
        refine cd.mono ?_
        rintro e w1 ⟨rfl, rfl⟩
        clear cd
        go_wp2
        go_ret
        exact ⟨retb (by rw [hn.out, hdg.out, hbad.out hdc]; rfl), rfl⟩
      · rw [hdc] at cd
        go_wp2_with fail
        refine cd.mono ?_
        rintro e w1 ⟨rfl, rfl⟩
        clear cd
        go_wp2
        go_roundw
        case rel => exact ⟨k + 1, by omega, by go_num, hgood.out hdc, trivial⟩
        case measure => simp [intOf]; omega
    · obtain rfl : k = L.length := by omega
      rw [List.take_length] at hA
      have e1 := str_beq hc (show Codes [48] from fun c h => by rw [List.mem_singleton.1 h]; decide)
      rw [show (str [48]).toList = [48] from by rw [str_toList]; rfl] at e1
      by_cases h0 : L = []
      · subst h0
        have e2 : ((str []).toList == []) = true := by rw [str_toList]; rfl
        have e3 : (str []).toList.isEmpty = true := by rw [str_toList]; rfl
        have hv : Hid (num [] = false) := rfl
        rw [decide_eq_false (by simp)] at e1
        go_wp2
        go_ret
        exact ⟨retb hv.out.symm, rfl⟩
      · have hlen : 0 < L.length := List.length_pos_iff.2 h0
        have hemp : L.isEmpty = false := by
          cases L with
          | nil => exact absurd rfl h0
          | cons a r => rfl
        have e2 : ((str L).toList == []) = false := by
          rw [str_toList]
          cases L with
          | nil => exact absurd rfl h0
          | cons a r => rfl
        have e3 : (str L).toList.isEmpty = false := by
          rw [str_toList]
          cases L with
          | nil => exact absurd rfl h0
          | cons a r => rfl
        have hd : dgs L = true := by rw [hdg.out, hA, hemp]; rfl
        by_cases h48 : L = [48]
        · have hv : Hid (num L = true) := by show _ = _; rw [hn.out, hd, h48]; rfl
          rw [decide_eq_true h48] at e1
          clear hA hd hemp h0 h48
          go_wp2
          go_ret
          exact ⟨retb hv.out.symm, rfl⟩
        · rw [decide_eq_false h48] at e1
          have b0 : ∀ h : 0 < (str L).size, ((str L)[0]'h).toNat = L[0]?.getD 0 := fun h => byte_at hc hlen h
          have hv : Hid (num L = !(L[0]?.getD 0 == 48)) := by show _ = _; rw [hn.out, hd, Bool.true_and, beq_eq_false_iff_ne.2 h48, Bool.false_or]
          generalize L[0]?.getD 0 = c at *
          clear hA hd hemp h0 h48
          by_cases h : c = 48
          · subst h
            go_wp2
            go_ret
            exact ⟨retb hv.out.symm, rfl⟩
          · go_wp2
            go_ret
            exact ⟨retb (by rw [hv.out, Bool.eq_iff_iff]; simp [h]; omega), rfl⟩

set_option maxRecDepth 100000 in
set_option maxHeartbeats 2000000 in
theorem rsym_any (L : List Nat) (w : World) (hc : Codes L) (hl : L.length < 9223372036854775807) :
    Calls Tryz.prog 73 #[.string (str L)] w fun e w' => e = .returned (.bool (sym L)) ∧ w' = w := by
  have hsz := str_size L
  have hs : Hid (sym L = (!L.isEmpty && (decide (L.length ≤ 64) && (hdc (L[0]?.getD 0) && L.all syc)))) := rfl
  go_enter Tryz.func73, Tryz.ntmps73
  go_wp2
  go_loopw [3] (fun i wr => ∃ k : Nat, k ≤ L.length ∧ i = .int .i64 (k : Int) ∧ (L.take k).all syc = true ∧ wr = w) (fun i _ => L.length - (intOf i).toNat)
  case atStart => exact ⟨0, Nat.zero_le _, rfl, by rw [List.take_zero]; rfl, rfl⟩
  case round =>
    obtain ⟨k, hk, rfl, hA, rfl⟩ := hrel
    by_cases hlt : k < L.length
    · have hx := byte_at hc hlt (by rw [hsz]; exact hlt)
      have hgood := Lib.hid (all_take_succ (p := syc) hlt hA)
      have hbad := Lib.hid (all_bad (p := syc) hlt)
      have cd := rsign_any (L[k]?.getD 0) (codes_at hc hlt) wr
      generalize L[k]?.getD 0 = c at *
      clear hA
      rcases hdc : syc c with _ | _
      · rw [hdc] at cd
        go_wp2_with fail
        refine cd.mono ?_
        rintro e w1 ⟨rfl, rfl⟩
        clear cd
        go_wp2
        go_ret
        exact ⟨retb (by rw [hs.out, hbad.out hdc]; simp), rfl⟩
      · rw [hdc] at cd
        go_wp2_with fail
        refine cd.mono ?_
        rintro e w1 ⟨rfl, rfl⟩
        clear cd
        go_wp2
        go_roundw
        case rel => exact ⟨k + 1, by omega, by go_num, hgood.out hdc, trivial⟩
        case measure => simp [intOf]; omega
    · obtain rfl : k = L.length := by omega
      rw [List.take_length] at hA
      by_cases h0 : L = []
      · subst h0
        have hv : Hid (sym [] = false) := rfl
        have hz : (str []).size = 0 := rfl
        go_wp2
        go_ret
        exact ⟨retb hv.out.symm, rfl⟩
      · have hlen : 0 < L.length := List.length_pos_iff.2 h0
        have hemp : L.isEmpty = false := by
          cases L with
          | nil => exact absurd rfl h0
          | cons a r => rfl
        by_cases h64 : 64 < L.length
        · have hv : Hid (sym L = false) := by show _ = _; rw [hs.out, decide_eq_false (by omega)]; simp
          clear hA hemp h0
          go_wp2
          go_ret
          exact ⟨retb hv.out.symm, rfl⟩
        · have b0 : ∀ h : 0 < (str L).size, ((str L)[0]'h).toNat = L[0]?.getD 0 := fun h => byte_at hc hlen h
          have hsy : syc (L[0]?.getD 0) = true := by
            rw [List.getElem?_eq_getElem hlen]
            exact List.all_eq_true.1 hA _ (List.getElem_mem hlen)
          have hhd : hdc (L[0]?.getD 0) = !dg (L[0]?.getD 0) := by
            rcases hd : dg (L[0]?.getD 0) with _ | _
            · unfold syc at hsy
              rw [hd, Bool.or_false] at hsy
              rw [hsy]; rfl
            · rw [hdc_dg hd]; rfl
          have hv : Hid (sym L = !dg (L[0]?.getD 0)) := by
            show _ = _
            rw [hs.out, hemp, decide_eq_true (show L.length ≤ 64 by omega), hA, hhd]; simp
          have cd := rdigit_any (L[0]?.getD 0) wr
          generalize dg (L[0]?.getD 0) = b at *
          generalize L[0]?.getD 0 = c at *
          clear hA hemp h0 hsy hhd
          go_wp2_with fail
          refine cd.mono ?_
          rintro e w1 ⟨rfl, rfl⟩
          clear cd
          go_wp2
          go_ret
          exact ⟨retb (by rw [hv.out]), rfl⟩

set_option maxRecDepth 100000 in
set_option maxHeartbeats 2000000 in
theorem rdec_any (L : List Nat) (w : World) (hc : Codes L) (hl : L.length < 9223372036854775806) :
    Calls Tryz.prog 72 #[.string (str L)] w fun e w' => e = .returned (.bool (dcm L)) ∧ w' = w := by
  have hsz := str_size L
  have hd : Hid (dcm L = (decide (upd L 46 < L.length) && (num (L.take (upd L 46)) && dgs (L.drop (upd L 46 + 1))))) := rfl
  go_enter Tryz.func72, Tryz.ntmps72
  go_wp2
  go_loopw [3] (fun i wr => ∃ k : Nat, k ≤ L.length ∧ i = .int .i64 (k : Int) ∧ upd L 46 = k + upd (L.drop k) 46 ∧ wr = w) (fun i _ => L.length - (intOf i).toNat)
  case atStart => exact ⟨0, Nat.zero_le _, rfl, by rw [List.drop_zero]; omega, rfl⟩
  case round =>
    obtain ⟨k, hk, rfl, hA, rfl⟩ := hrel
    by_cases hon : k < L.length ∧ L[k]?.getD 0 ≠ 46
    · obtain ⟨hlt, hne⟩ := hon
      have hx := byte_at hc hlt (by rw [hsz]; exact hlt)
      have hn : upd L 46 = (k + 1) + upd (L.drop (k + 1)) 46 := by
        rw [hA, drop_cons hlt, upd_cons_ne _ hne]; omega
      have HN := Lib.hid hn
      generalize L[k]?.getD 0 = c at *
      have hci : ¬ ((c : Int) = 46) := by omega
      clear hA hn
      go_wp2
      go_roundw
      case rel => exact ⟨k + 1, by omega, by go_num, HN.out, trivial⟩
      case measure => simp [intOf]; omega
    · have hu : upd L 46 = k := by
        by_cases hlt : k < L.length
        · have he : L[k]?.getD 0 = 46 := by
            rcases Nat.decEq (L[k]?.getD 0) 46 with h | h
            · exact absurd ⟨hlt, h⟩ hon
            · exact h
          rw [hA, drop_cons hlt, he, upd_cons_eq]; omega
        · rw [hA, List.drop_eq_nil_of_le (by omega)]; rfl
      have hend : (k < L.length → L[k]?.getD 0 = 46) := fun hlt => by
        rcases Nat.decEq (L[k]?.getD 0) 46 with h | h
        · exact absurd ⟨hlt, h⟩ hon
        · exact h
      have C1 := Lib.hid (fun w1 => rnum_any (L.take k) w1 (codes_take hc _) (by rw [List.length_take]; omega))
      have hx1 := str_extract L 0 k
      rw [List.drop_zero] at hx1
      rw [hu] at hd
      clear hon hA
      by_cases hk1 : L.length ≤ k + 1
      · have hv : Hid (dcm L = false) := by
          show _ = _
          rw [hd.out, show dgs (L.drop (k + 1)) = false by rw [List.drop_eq_nil_of_le hk1]; rfl]; simp
        clear hd C1
        by_cases hlt : k < L.length
        · have hx := byte_at hc hlt (by rw [hsz]; exact hlt)
          rw [hend hlt] at hx
          clear hend hu
          go_wp2
          go_ret
          exact ⟨retb hv.out.symm, rfl⟩
        · obtain rfl : k = L.length := by omega
          clear hend hu
          go_wp2
          go_ret
          exact ⟨retb hv.out.symm, rfl⟩
      · have hlt : k < L.length := by omega
        have hx := byte_at hc hlt (by rw [hsz]; exact hlt)
        rw [hend hlt] at hx
        have hd2 : Hid (dcm L = (num (L.take k) && (L.drop (k + 1)).all dg)) := by
          show _ = _
          rw [hd.out, decide_eq_true hlt, Bool.true_and]
          congr 1
          unfold dgs
          rw [show (L.drop (k + 1)).isEmpty = false by
            rw [Bool.eq_false_iff]; intro h; rw [List.isEmpty_iff, List.drop_eq_nil_iff] at h; omega]
          simp
        clear hd hend hu
        generalize L.take k = LA at *
        have c1 := C1.out wr
        rcases hn : num LA with _ | _
        · rw [hn] at c1
          have hv : Hid (dcm L = false) := by show _ = _; rw [hd2.out, hn]; rfl
          go_wp2_with fail
          refine c1.mono ?_
          rintro e w1 ⟨rfl, rfl⟩
          clear c1
          go_wp2
          go_ret
          exact ⟨retb hv.out.symm, rfl⟩
        · rw [hn] at c1
          have hv : Hid (dcm L = (L.drop (k + 1)).all dg) := by show _ = _; rw [hd2.out, hn]; rfl
          go_wp2_with fail
          refine c1.mono ?_
          rintro e w1 ⟨rfl, rfl⟩
          clear c1
          go_wp2
          go_loopw [4] (fun i wr => ∃ q : Nat, k + 1 ≤ q ∧ q ≤ L.length ∧ i = .int .i64 (q : Int) ∧ (L.drop (k + 1)).all dg = (L.drop q).all dg ∧ wr = w1) (fun i _ => L.length - (intOf i).toNat)
          case atStart => exact ⟨k + 1, Nat.le_refl _, by omega, by go_num, rfl, rfl⟩
          case round =>
            obtain ⟨q, hkq, hq, rfl, hQ, rfl⟩ := hrel
            by_cases hlq : q < L.length
            · have hxq := byte_at hc hlq (by rw [hsz]; exact hlq)
              rw [drop_cons hlq, List.all_cons] at hQ
              have cd := rdigit_any (L[q]?.getD 0) wr
              generalize L[q]?.getD 0 = d at *
              rcases hdd : dg d with _ | _
              · rw [hdd] at cd hQ
                have HV : Hid (dcm L = false) := by show _ = _; rw [hv.out, hQ]; rfl
                clear hQ hx
                go_wp2_with fail
                refine cd.mono ?_
                rintro e w2 ⟨rfl, rfl⟩
                clear cd
                go_wp2
                go_ret
                exact ⟨retb HV.out.symm, rfl⟩
              · rw [hdd, Bool.true_and] at hQ
                rw [hdd] at cd
                have HQ := Lib.hid hQ
                clear hQ hx
                go_wp2_with fail
                refine cd.mono ?_
                rintro e w2 ⟨rfl, rfl⟩
                clear cd
                go_wp2
                go_roundw
                case rel => exact ⟨q + 1, by omega, by omega, by go_num, HQ.out, trivial⟩
                case measure => simp [intOf]; omega
            · obtain rfl : q = L.length := by omega
              have HV : Hid (dcm L = true) := by show _ = _; rw [hv.out, hQ, List.drop_length]; rfl
              clear hQ hx
              go_wp2
              go_ret
              exact ⟨retb HV.out.symm, rfl⟩

end Go.Proofs.YtcjljfjgekiocaaGreatDoor

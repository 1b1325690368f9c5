/- Contracts: isText, pieceValue. -/
import Derived.Test.YtileljokijmpaaaDoorDecA
namespace Go.Proofs.YtileljokijmpaaaDoor
open Go.RowKit

set_option linter.unusedVariables false

theorem bytes_below (w : World) (e : TypeId) (s : ByteArray) : Below w.heap.size w (Lib.bytesWorld w e s) :=
  ⟨rfl, rfl, rfl, by rw [Lib.bytesWorld_size]; omega, fun k hk => Lib.bytesWorld_at_old w e s k hk⟩
/-- []byte(s): a world in which a new row holds the codes. -/
theorem conv_str (L : List Nat) (w : World) (hc : Codes L) : ∃ W1 cap, (convert 9 60 (.string (str L))).run Tryd.prog w = .ok (.slice (some ⟨w.heap.size, 0, none⟩) L.length cap) W1 ∧ L.length ≤ cap ∧
    (∀ j, j < L.length → W1.cell? ⟨w.heap.size, j, none⟩ = some (.int .u8 ((L[j]?.getD 0 : Nat) : Int))) ∧ Below w.heap.size w W1 := by
  have h := Lib.run_convert_string_bytes (P := Tryd.prog) w 9 60 5 (str L) (u := .string) Tryd.underlying9 Tryd.underlying60 Tryd.underlying5
  rw [str_size] at h
  refine ⟨_, _, h, by have := grownCap_ge w L.length 0 5; omega, fun j hj => ?_, bytes_below w _ _⟩
  rw [Lib.bytesWorld_cell w _ _ j (by rw [str_size]; exact hj)]
  have : (str L).data.toList.getD j 0 = UInt8.ofNat L[j] := by simp [str, List.getD, hj]
  rw [this, List.getElem?_eq_getElem hj, UInt8.toNat_ofNat', Nat.mod_eq_of_lt (hc _ (List.getElem_mem hj))]
  rfl

set_option maxRecDepth 100000 in
set_option maxHeartbeats 2000000 in
theorem pieceValue_any (L : List Nat) (w : World) (hd : AllD L) (hl : L.length ≤ 9) :
    Calls Tryd.prog 50 #[.string (str L)] w fun e w' => e = .returned (.int .u64 (dv L : Nat)) ∧ Below w.heap.size w w' := by
  obtain ⟨W1, cap, hcv, hcap, hcell, hb⟩ := conv_str L w hd.codes
  go_enter Tryd.func50, Tryd.ntmps50
  go_wp2
  go_loopw [3, 9] (fun u i wr => ∃ k : Nat, k ≤ L.length ∧ i = .int .i64 (k : Int) ∧ u = .int .u64 ((dv (L.take k) : Nat) : Int) ∧ wr = W1) (fun _ i _ => L.length - (intOf i).toNat)
  case atStart => exact ⟨0, Nat.zero_le _, rfl, rfl, rfl⟩
  case round =>
    obtain ⟨k, hk, rfl, rfl, rfl⟩ := hrel
    by_cases hlt : k < L.length
    · have hx := hcell k hlt
      have hD := hd (L[k]?.getD 0) (by rw [List.getElem?_eq_getElem hlt]; exact List.getElem_mem hlt)
      have hn : dv (L.take (k + 1)) = 10 * dv (L.take k) + (L[k]?.getD 0 - 48) := by
        rw [List.take_succ_eq_append_getElem hlt, dv_snoc, List.getElem?_eq_getElem hlt]; rfl
      have hv : dv (L.take k) < 10 ^ 9 := Nat.lt_of_lt_of_le (dv_lt (hd.take k)) (Nat.pow_le_pow_right (by decide) (by rw [List.length_take]; omega))
      generalize dv (L.take k) = x at *
      generalize L[k]?.getD 0 = c at *
      have HN := Lib.hid hn
      have hc1 := hD.1
      have hc2 := hD.2
      clear hn hcell hcv hD
      go_wp2
      go_roundw
      case rel => exact ⟨k + 1, by omega, by go_num, by rw [HN.out]; congr 1; omega, trivial⟩
      case measure => simp [intOf]; omega
    · obtain rfl : k = L.length := by omega
      have HT := Lib.hid (show dv (L.take L.length) = dv L by rw [List.take_length])
      go_wp2
      go_ret
      exact ⟨ret_int (by rw [HT.out]), hb⟩

theorem isT_bad {L : List Nat} {c : Nat} (hm : c ∈ L) (h : ¬ (48 ≤ c ∧ c ≤ 57)) : isT L = false := by
  rcases hb : isT L with _ | _
  · rfl
  · exact absurd ((isT_iff.1 hb).1 c hm) h
theorem isT_long {L : List Nat} (h : AllD L) (h0 : L ≠ []) (h1 : L ≠ [48]) : isT L = !decide (L[0]?.getD 0 = 48) := by
  obtain ⟨c, R, rfl⟩ := List.exists_cons_of_ne_nil h0
  by_cases hc : c = 48
  · subst hc
    rcases hb : isT (48 :: R) with _ | _
    · rfl
    · have := (isT_iff.1 hb).2.2 rfl
      have : R = [] := by simpa using this
      subst this
      exact absurd rfl h1
  · rw [show ((c :: R)[0]?.getD 0) = c from rfl, decide_eq_false hc]
    exact isT_iff.2 ⟨h, h0, fun e => absurd (by simpa using e) hc⟩

set_option maxRecDepth 100000 in
set_option maxHeartbeats 2000000 in
theorem isText_any (L : List Nat) (w : World) (hc : Codes L) (hl : L.length < 9223372036854775808) :
    Calls Tryd.prog 30 #[.string (str L)] w fun e w' => e = .returned (.bool (isT L)) ∧ Below w.heap.size w w' := by
  obtain ⟨W1, cap, hcv, hcap, hcell, hb⟩ := conv_str L w hc
  go_enter Tryd.func30, Tryd.ntmps30
  go_wp2
  go_loopw [8] (fun i wr => ∃ k : Nat, k ≤ L.length ∧ i = .int .i64 (k : Int) ∧ AllD (L.take k) ∧ wr = W1) (fun i _ => L.length - (intOf i).toNat)
  case atStart => exact ⟨0, Nat.zero_le _, rfl, by rw [List.take_zero]; exact alld_nil, rfl⟩
  case round =>
    obtain ⟨k, hk, rfl, hA, rfl⟩ := hrel
    by_cases hlt : k < L.length
    · have hx := hcell k hlt
      have hD := hc (L[k]?.getD 0) (by rw [List.getElem?_eq_getElem hlt]; exact List.getElem_mem hlt)
      have hmem : L[k]?.getD 0 ∈ L := by rw [List.getElem?_eq_getElem hlt]; exact List.getElem_mem hlt
      have hn : 48 ≤ L[k]?.getD 0 ∧ L[k]?.getD 0 ≤ 57 → AllD (L.take (k + 1)) := fun h => by
        rw [List.take_succ_eq_append_getElem hlt]
        refine hA.append fun c hcm => ?_
        rw [List.mem_singleton.1 hcm]
        rwa [List.getElem?_eq_getElem hlt] at h
      generalize L[k]?.getD 0 = c at *
      have HN := Lib.hid hn
      have HM := Lib.hid hmem
      clear hn hcell hcv hA hmem
      by_cases h48 : c < 48
      · go_wp2
        go_ret
        exact ⟨ret_bool (isT_bad HM.out (fun h => by omega)).symm, hb⟩
      · by_cases h57 : 57 < c
        · go_wp2
          go_ret
          exact ⟨ret_bool (isT_bad HM.out (fun h => by omega)).symm, hb⟩
        · go_wp2
          go_roundw
          case rel => exact ⟨k + 1, by omega, by go_num, HN.out ⟨by omega, by omega⟩, trivial⟩
          case measure => simp [intOf]; omega
    · obtain rfl : k = L.length := by omega
      rw [List.take_length] at hA
      have e1 := str_beq hc (show Codes [48] from fun c h => by rw [List.mem_singleton.1 h]; decide)
      rw [show (str [48]).toList = [48] from by rw [str_toList]; rfl] at e1
      have hsz := str_size L
      clear hcell hcv
      by_cases h0 : L = []
      · subst h0
        rw [decide_eq_false (by simp)] at e1
        have e2 : (str []).toList.isEmpty = true := by rw [str_toList]; rfl
        go_wp2
        go_ret
        exact ⟨rfl, hb⟩
      · by_cases h1 : L = [48]
        · subst h1
          rw [decide_eq_true rfl] at e1
          go_wp2
          go_ret
          exact ⟨rfl, hb⟩
        · rw [decide_eq_false h1] at e1
          have hlen : 0 < L.length := List.length_pos_iff.2 h0
          have e2 : (str L).toList.isEmpty = false := by
            rw [str_toList]
            cases L with
            | nil => exact absurd rfl h0
            | cons a r => rfl
          have e3 : ∀ h : 0 < (str L).size, ((str L)[0]'h).toNat = L[0]?.getD 0 := fun h => by
            rw [str_at hlen h, UInt8.toNat_ofNat', Nat.mod_eq_of_lt (hc _ (by rw [List.getElem?_eq_getElem hlen]; exact List.getElem_mem hlen))]
          have hT := isT_long hA h0 h1
          generalize L[0]?.getD 0 = c at *
          have HT := Lib.hid hT
          clear hT h1 h0
          by_cases hc48 : c = 48
          · subst hc48
            rw [decide_eq_true rfl] at HT
            go_wp2
            go_ret
            exact ⟨ret_bool HT.out.symm, hb⟩
          · rw [decide_eq_false hc48] at HT
            go_wp2
            go_ret
            exact ⟨ret_bool (by rw [HT.out]; simp; omega), hb⟩

end Go.Proofs.YtileljokijmpaaaDoor

/- Contract: Kind (mklexb.py). -/
import Derived.Test.YtcjljfjgekiocaaGreatDoorLexB
namespace Go.Proofs.YtcjljfjgekiocaaGreatDoor
open Go.RowKit Go.Shelf

set_option linter.unusedVariables false
set_option linter.unusedSimpArgs false

theorem hp_colon (L : List Nat) (hc : Codes L) : Lib.hasPrefix (str L).data.toList (⟨#[58]⟩ : ByteArray).data.toList = decide (L[0]?.getD 0 = 58) := by
  rw [str_data]
  cases L with
  | nil => rfl
  | cons c r =>
    have h := hc c (by simp)
    have e : Lib.hasPrefix ((c :: r).map UInt8.ofNat) [58] = ((58 : UInt8) == UInt8.ofNat c) := by
      simp [Lib.hasPrefix, List.isPrefixOf]
    refine e.trans ?_
    rw [show (58 : UInt8) = UInt8.ofNat 58 from rfl, Bool.eq_iff_iff, beq_iff_eq, decide_eq_true_iff]
    constructor
    · intro q; exact (ofNat_inj (by decide) h q).symm
    · intro q; rw [show c = 58 from q]

set_option maxRecDepth 100000 in
set_option maxHeartbeats 4000000 in
theorem kind_any (L : List Nat) (w : World) (hc : Codes L) (hl : L.length < 9223372036854775807) :
    Calls Tryz.prog 42 #[.string (str L)] w fun e w' => e = .returned (.int .u8 ((kd L : Nat) : Int)) ∧ Below w.heap.size w w' := by
  have hk : Hid (kd L = if L = [40] then 1 else if L = [41] then 2 else if num L = true then 3 else if dcm L = true then 4 else if sym L = true then 5 else if L[0]?.getD 0 = 58 ∧ sym (L.drop 1) = true then 6 else 0) := rfl
  have e1 := str_beq hc (show Codes [40] from fun c h => by rw [List.mem_singleton.1 h]; decide)
  rw [show (str [40]).toList = [40] from by rw [str_toList]; rfl] at e1
  have e2 := str_beq hc (show Codes [41] from fun c h => by rw [List.mem_singleton.1 h]; decide)
  rw [show (str [41]).toList = [41] from by rw [str_toList]; rfl] at e2
  have hsz := str_size L
  have C1 := Lib.hid (fun w1 => isNumeral_any L w1 hc hl)
  have C2 := Lib.hid (fun w1 => isDecimal_any L w1 hc hl)
  have C3 := Lib.hid (fun w1 => isSymbol_any L w1 hc hl)
  have C4 := Lib.hid (fun w1 => Go.Proofs.Tryz.strings_HasPrefix (str L) ⟨#[58]⟩ w1)
  have HP := Lib.hid (hp_colon L hc)
  have C5 := Lib.hid (fun w1 => isSymbol_any (L.drop 1) w1 (codes_drop hc 1) (by rw [List.length_drop]; omega))
  have hex := str_ext_end L 1
  rw [hsz] at hex
  by_cases h40 : L = [40]
  · rw [decide_eq_true h40] at e1
    have hv : Hid (kd L = 1) := by show _ = _; rw [hk.out, if_pos h40]
    clear hk h40 e2
    go_enter Tryz.func42, Tryz.ntmps42
    go_wp2
    go_ret
    exact ⟨reti (by rw [hv.out]; rfl), Below.refl _ _⟩
  rw [decide_eq_false h40] at e1
  by_cases h41 : L = [41]
  · rw [decide_eq_true h41] at e2
    have hv : Hid (kd L = 2) := by show _ = _; rw [hk.out, if_neg h40, if_pos h41]
    clear hk h40 h41
    go_enter Tryz.func42, Tryz.ntmps42
    go_wp2
    go_ret
    exact ⟨reti (by rw [hv.out]; rfl), Below.refl _ _⟩
  rw [decide_eq_false h41] at e2
  have hk2 : Hid (kd L = if num L = true then 3 else if dcm L = true then 4 else if sym L = true then 5 else if L[0]?.getD 0 = 58 ∧ sym (L.drop 1) = true then 6 else 0) := by show _ = _; rw [hk.out, if_neg h40, if_neg h41]
  clear hk h40 h41
  rcases h0 : num L with _ | _
  rotate_left
  · have hv : Hid (kd L = 3) := by show _ = _; rw [hk2.out, if_pos h0]
    go_enter Tryz.func42, Tryz.ntmps42
    have c0 := C1.out w
    rw [h0] at c0
    go_wp2_with fail
    refine c0.mono ?_
    rintro e w1 ⟨rfl, hb0⟩
    clear c0
    have hbb := hb0
    clear hb0
    go_wp2
    go_ret
    exact ⟨reti (by rw [hv.out]; rfl), hbb⟩
  rcases h1 : dcm L with _ | _
  rotate_left
  · have hv : Hid (kd L = 4) := by show _ = _; rw [hk2.out, if_neg (by rw [h0]; decide), if_pos h1]
    go_enter Tryz.func42, Tryz.ntmps42
    have c0 := C1.out w
    rw [h0] at c0
    go_wp2_with fail
    refine c0.mono ?_
    rintro e w1 ⟨rfl, hb0⟩
    clear c0
    have hbb := hb0
    clear hb0
    have c1 := C2.out w1
    rw [h1] at c1
    go_wp2_with fail
    refine c1.mono ?_
    rintro e w2 ⟨rfl, hb1⟩
    clear c1
    have hb1 := hbb.trans (hb1.mono hbb.size)
    clear hbb
    have hbb := hb1
    clear hb1
    go_wp2
    go_ret
    exact ⟨reti (by rw [hv.out]; rfl), hbb⟩
  rcases h2 : sym L with _ | _
  rotate_left
  · have hv : Hid (kd L = 5) := by show _ = _; rw [hk2.out, if_neg (by rw [h0]; decide), if_neg (by rw [h1]; decide), if_pos h2]
    go_enter Tryz.func42, Tryz.ntmps42
    have c0 := C1.out w
    rw [h0] at c0
    go_wp2_with fail
    refine c0.mono ?_
    rintro e w1 ⟨rfl, hb0⟩
    clear c0
    have hbb := hb0
    clear hb0
    have c1 := C2.out w1
    rw [h1] at c1
    go_wp2_with fail
    refine c1.mono ?_
    rintro e w2 ⟨rfl, hb1⟩
    clear c1
    have hb1 := hbb.trans (hb1.mono hbb.size)
    clear hbb
    have hbb := hb1
    clear hb1
    have c2 := C3.out w2
    rw [h2] at c2
    go_wp2_with fail
    refine c2.mono ?_
    rintro e w3 ⟨rfl, hb2⟩
    clear c2
    have hb2 := hbb.trans (hb2.mono hbb.size)
    clear hbb
    have hbb := hb2
    clear hb2
    go_wp2
    go_ret
    exact ⟨reti (by rw [hv.out]; rfl), hbb⟩
  have hk3 : Hid (kd L = if L[0]?.getD 0 = 58 ∧ sym (L.drop 1) = true then 6 else 0) := by show _ = _; rw [hk2.out, if_neg (by rw [h0]; decide), if_neg (by rw [h1]; decide), if_neg (by rw [h2]; decide)]
  by_cases h58 : L[0]?.getD 0 = 58
  rotate_left
  · have hv : Hid (kd L = 0) := by show _ = _; rw [hk3.out, if_neg (fun h => h58 h.1)]
    go_enter Tryz.func42, Tryz.ntmps42
    have c0 := C1.out w
    rw [h0] at c0
    go_wp2_with fail
    refine c0.mono ?_
    rintro e w1 ⟨rfl, hb0⟩
    clear c0
    have hbb := hb0
    clear hb0
    have c1 := C2.out w1
    rw [h1] at c1
    go_wp2_with fail
    refine c1.mono ?_
    rintro e w2 ⟨rfl, hb1⟩
    clear c1
    have hb1 := hbb.trans (hb1.mono hbb.size)
    clear hbb
    have hbb := hb1
    clear hb1
    have c2 := C3.out w2
    rw [h2] at c2
    go_wp2_with fail
    refine c2.mono ?_
    rintro e w3 ⟨rfl, hb2⟩
    clear c2
    have hb2 := hbb.trans (hb2.mono hbb.size)
    clear hbb
    have hbb := hb2
    clear hb2
    have c3 := C4.out w3
    rw [HP.out, decide_eq_false h58] at c3
    go_wp2_with fail
    refine c3.mono ?_
    rintro e w4 ⟨rfl, rfl⟩
    clear c3
    go_wp2
    go_ret
    exact ⟨reti (by rw [hv.out]; rfl), hbb⟩
  have hl1 : 1 ≤ L.length := by
    rcases L with _ | ⟨c, r⟩
    · simp at h58
    · simp
  have HP2 : Hid (Lib.hasPrefix (str L).data.toList (⟨#[58]⟩ : ByteArray).data.toList = true) := by show _ = _; rw [HP.out, decide_eq_true h58]
  have hk4 : Hid (kd L = if sym (L.drop 1) = true then 6 else 0) := by show _ = _; rw [hk3.out]; simp [h58]
  clear hk3 HP h58 hk2
  generalize L.drop 1 = D at *
  rcases h4 : sym D with _ | _
  rotate_left
  · have hv : Hid (kd L = 6) := by show _ = _; rw [hk4.out, if_pos h4]
    go_enter Tryz.func42, Tryz.ntmps42
    have c0 := C1.out w
    rw [h0] at c0
    go_wp2_with fail
    refine c0.mono ?_
    rintro e w1 ⟨rfl, hb0⟩
    clear c0
    have hbb := hb0
    clear hb0
    have c1 := C2.out w1
    rw [h1] at c1
    go_wp2_with fail
    refine c1.mono ?_
    rintro e w2 ⟨rfl, hb1⟩
    clear c1
    have hb1 := hbb.trans (hb1.mono hbb.size)
    clear hbb
    have hbb := hb1
    clear hb1
    have c2 := C3.out w2
    rw [h2] at c2
    go_wp2_with fail
    refine c2.mono ?_
    rintro e w3 ⟨rfl, hb2⟩
    clear c2
    have hb2 := hbb.trans (hb2.mono hbb.size)
    clear hbb
    have hbb := hb2
    clear hb2
    have c3 := C4.out w3
    rw [HP2.out] at c3
    go_wp2_with fail
    refine c3.mono ?_
    rintro e w4 ⟨rfl, rfl⟩
    clear c3
    have c4 := C5.out w4
    rw [h4] at c4
    go_wp2_with fail
    refine c4.mono ?_
    rintro e w5 ⟨rfl, hb4⟩
    clear c4
    have hbc := hbb.trans (hb4.mono hbb.size)
    go_wp2
    go_ret
    exact ⟨reti (by rw [hv.out]; rfl), hbc⟩
  
  
  · have hv : Hid (kd L = 0) := by show _ = _; rw [hk4.out, if_neg (by rw [h4]; decide)]
    go_enter Tryz.func42, Tryz.ntmps42
    have c0 := C1.out w
    rw [h0] at c0
    go_wp2_with fail
    refine c0.mono ?_
    rintro e w1 ⟨rfl, hb0⟩
    clear c0
    have hbb := hb0
    clear hb0
    have c1 := C2.out w1
    rw [h1] at c1
    go_wp2_with fail
    refine c1.mono ?_
    rintro e w2 ⟨rfl, hb1⟩
    clear c1
    have hb1 := hbb.trans (hb1.mono hbb.size)
    clear hbb
    have hbb := hb1
    clear hb1
    have c2 := C3.out w2
    rw [h2] at c2
    go_wp2_with fail
    refine c2.mono ?_
    rintro e w3 ⟨rfl, hb2⟩
    clear c2
    have hb2 := hbb.trans (hb2.mono hbb.size)
    clear hbb
    have hbb := hb2
    clear hb2
    have c3 := C4.out w3
    rw [HP2.out] at c3
    go_wp2_with fail
    refine c3.mono ?_
    rintro e w4 ⟨rfl, rfl⟩
    clear c3
    have c4 := C5.out w4
    rw [h4] at c4
    go_wp2_with fail
    refine c4.mono ?_
    rintro e w5 ⟨rfl, hb4⟩
    clear c4
    have hbc := hbb.trans (hb4.mono hbb.size)
    go_wp2
    go_ret
    exact ⟨reti (by rw [hv.out]; rfl), hbc⟩

end Go.Proofs.YtcjljfjgekiocaaGreatDoor

/- Contract of the document's own layer 12: Kind (mklexk.py). -/
import Derived.Test.YtcjljfjgekiocaaGreatDoorLexI
namespace Go.Proofs.YtcjljfjgekiocaaGreatDoor
open Go.RowKit Go.Shelf

set_option linter.unusedVariables false
set_option linter.unusedSimpArgs false

set_option maxRecDepth 100000 in
set_option maxHeartbeats 4000000 in
theorem rkind_any (L : List Nat) (w : World) (hc : Codes L) (hl : L.length < 9223372036854775806) :
    Calls Tryz.prog 53 #[.string (str L)] w fun e w' => e = .returned (.int .u8 ((kd L : Nat) : Int)) ∧ w' = w := by
  have hk : Hid (kd L = if L = [40] then 1 else if L = [41] then 2 else if num L = true then 3 else if dcm L = true then 4 else if sym L = true then 5 else if L[0]?.getD 0 = 58 ∧ sym (L.drop 1) = true then 6 else 0) := rfl
  have e1 := str_beq hc (show Codes [40] from fun c h => by rw [List.mem_singleton.1 h]; decide)
  rw [show (str [40]).toList = [40] from by rw [str_toList]; rfl] at e1
  have e2 := str_beq hc (show Codes [41] from fun c h => by rw [List.mem_singleton.1 h]; decide)
  rw [show (str [41]).toList = [41] from by rw [str_toList]; rfl] at e2
  have hsz := str_size L
  have C1 := Lib.hid (fun w1 => rnum_any L w1 hc (by omega))
  have C2 := Lib.hid (fun w1 => rdec_any L w1 hc hl)
  have C3 := Lib.hid (fun w1 => rsym_any L w1 hc (by omega))
  have C5 := Lib.hid (fun w1 => rsym_any (L.drop 1) w1 (codes_drop hc 1) (by rw [List.length_drop]; omega))
  have hex := str_ext_end L 1
  rw [hsz] at hex
  by_cases hE0 : L = []
  · subst hE0
    have n0 : ((str []).toList == [40]) = false := by rw [str_toList]; rfl
    have n1 : ((str []).toList == [41]) = false := by rw [str_toList]; rfl
    have n2 : ((str []).toList == []) = true := by rw [str_toList]; rfl
    have n3 : (str []).toList.isEmpty = true := by rw [str_toList]; rfl
    have hv : Hid (kd [] = 0) := rfl
    rw [show num [] = false from rfl] at C1
    rw [show dcm [] = false from rfl] at C2
    rw [show sym [] = false from rfl] at C3
    clear e1 e2 C5 hex hk
    go_enter Tryz.func53, Tryz.ntmps53
    have c0 := C1.out w
    go_wp2_with fail
    refine c0.mono ?_
    rintro e w1 ⟨rfl, rfl⟩
    clear c0
    have c1 := C2.out w1
    go_wp2_with fail
    refine c1.mono ?_
    rintro e w2 ⟨rfl, rfl⟩
    clear c1
    have c2 := C3.out w2
    go_wp2_with fail
    refine c2.mono ?_
    rintro e w3 ⟨rfl, rfl⟩
    clear c2
    go_wp2
    go_ret
    exact ⟨reti (by rw [hv.out]; rfl), rfl⟩
  by_cases h40 : L = [40]
  · rw [decide_eq_true h40] at e1
    have hv : Hid (kd L = 1) := by show _ = _; rw [hk.out, if_pos h40]
    clear hk h40 e2
    go_enter Tryz.func53, Tryz.ntmps53
    go_wp2
    go_ret
    exact ⟨reti (by rw [hv.out]; rfl), rfl⟩
  rw [decide_eq_false h40] at e1
  by_cases h41 : L = [41]
  · rw [decide_eq_true h41] at e2
    have hv : Hid (kd L = 2) := by show _ = _; rw [hk.out, if_neg h40, if_pos h41]
    clear hk h40 h41
    go_enter Tryz.func53, Tryz.ntmps53
    go_wp2
    go_ret
    exact ⟨reti (by rw [hv.out]; rfl), rfl⟩
  rw [decide_eq_false h41] at e2
  have e0 : ((str L).toList == []) = L.isEmpty := by
    rw [str_toList]
    cases L with
    | nil => rfl
    | cons a r => rfl
  have e3 : (str L).toList.isEmpty = L.isEmpty := by
    rw [str_toList]
    cases L with
    | nil => rfl
    | cons a r => rfl
  have hk2 : Hid (kd L = if num L = true then 3 else if dcm L = true then 4 else if sym L = true then 5 else if L[0]?.getD 0 = 58 ∧ sym (L.drop 1) = true then 6 else 0) := by show _ = _; rw [hk.out, if_neg h40, if_neg h41]
  clear hk h40 h41
  rcases h0 : num L with _ | _
  rotate_left
  · have hv : Hid (kd L = 3) := by show _ = _; rw [hk2.out, if_pos h0]
    go_enter Tryz.func53, Tryz.ntmps53
    have c0 := C1.out w
    rw [h0] at c0
    go_wp2_with fail
    refine c0.mono ?_
    rintro e w1 ⟨rfl, rfl⟩
    clear c0
    go_wp2
    go_ret
    exact ⟨reti (by rw [hv.out]; rfl), rfl⟩
  rcases h1 : dcm L with _ | _
  rotate_left
  · have hv : Hid (kd L = 4) := by show _ = _; rw [hk2.out, if_neg (by rw [h0]; decide), if_pos h1]
    go_enter Tryz.func53, Tryz.ntmps53
    have c0 := C1.out w
    rw [h0] at c0
    go_wp2_with fail
    refine c0.mono ?_
    rintro e w1 ⟨rfl, rfl⟩
    clear c0
    have c1 := C2.out w1
    rw [h1] at c1
    go_wp2_with fail
    refine c1.mono ?_
    rintro e w2 ⟨rfl, rfl⟩
    clear c1
    go_wp2
    go_ret
    exact ⟨reti (by rw [hv.out]; rfl), rfl⟩
  rcases h2 : sym L with _ | _
  rotate_left
  · have hv : Hid (kd L = 5) := by show _ = _; rw [hk2.out, if_neg (by rw [h0]; decide), if_neg (by rw [h1]; decide), if_pos h2]
    go_enter Tryz.func53, Tryz.ntmps53
    have c0 := C1.out w
    rw [h0] at c0
    go_wp2_with fail
    refine c0.mono ?_
    rintro e w1 ⟨rfl, rfl⟩
    clear c0
    have c1 := C2.out w1
    rw [h1] at c1
    go_wp2_with fail
    refine c1.mono ?_
    rintro e w2 ⟨rfl, rfl⟩
    clear c1
    have c2 := C3.out w2
    rw [h2] at c2
    go_wp2_with fail
    refine c2.mono ?_
    rintro e w3 ⟨rfl, rfl⟩
    clear c2
    go_wp2
    go_ret
    exact ⟨reti (by rw [hv.out]; rfl), rfl⟩
  have hk3 : Hid (kd L = if L[0]?.getD 0 = 58 ∧ sym (L.drop 1) = true then 6 else 0) := by show _ = _; rw [hk2.out, if_neg (by rw [h0]; decide), if_neg (by rw [h1]; decide), if_neg (by rw [h2]; decide)]
  by_cases h58 : L[0]?.getD 0 = 58
  rotate_left
  · have hv : Hid (kd L = 0) := by show _ = _; rw [hk3.out, if_neg (fun h => h58 h.1)]
    clear hk3 hk2
    have hln : 0 < L.length := List.length_pos_iff.2 hE0
    have hem : L.isEmpty = false := by
      cases L with
      | nil => exact absurd rfl hE0
      | cons a r => rfl
    rw [hem] at e0 e3
    have b0 : ∀ h : 0 < (str L).size, ((str L)[0]'h).toNat = L[0]?.getD 0 := fun h => byte_at hc hln h
    have b58 : ¬ ((L[0]?.getD 0 : Nat) : Int) = 58 := by omega
    have b59 : (((L[0]?.getD 0 : Nat) : Int) == 58) = false := beq_eq_false_iff_ne.2 b58
    clear hem hE0
    generalize L[0]?.getD 0 = c at *
    go_enter Tryz.func53, Tryz.ntmps53
    have c0 := C1.out w
    rw [h0] at c0
    go_wp2_with fail
    refine c0.mono ?_
    rintro e w1 ⟨rfl, rfl⟩
    clear c0
    have c1 := C2.out w1
    rw [h1] at c1
    go_wp2_with fail
    refine c1.mono ?_
    rintro e w2 ⟨rfl, rfl⟩
    clear c1
    have c2 := C3.out w2
    rw [h2] at c2
    go_wp2_with fail
    refine c2.mono ?_
    rintro e w3 ⟨rfl, rfl⟩
    clear c2
    go_wp2
    go_ret
    exact ⟨reti (by rw [hv.out]; rfl), rfl⟩
  have hem2 : L.isEmpty = false := by
    rcases L with _ | ⟨c, r⟩
    · simp at h58
    · rfl
  rw [hem2] at e0 e3
  have hl1 : 1 ≤ L.length := by
    rcases L with _ | ⟨c, r⟩
    · simp at h58
    · simp
  have b0 : ∀ h : 0 < (str L).size, ((str L)[0]'h).toNat = 58 := fun h => (byte_at hc (by omega) h).trans h58
  have hk4 : Hid (kd L = if sym (L.drop 1) = true then 6 else 0) := by show _ = _; rw [hk3.out]; simp [h58]
  clear hk3 h58 hk2 hem2
  generalize L.drop 1 = D at *
  rcases h4 : sym D with _ | _
  rotate_left
  · have hv : Hid (kd L = 6) := by show _ = _; rw [hk4.out, if_pos h4]
    go_enter Tryz.func53, Tryz.ntmps53
    have c0 := C1.out w
    rw [h0] at c0
    go_wp2_with fail
    refine c0.mono ?_
    rintro e w1 ⟨rfl, rfl⟩
    clear c0
    have c1 := C2.out w1
    rw [h1] at c1
    go_wp2_with fail
    refine c1.mono ?_
    rintro e w2 ⟨rfl, rfl⟩
    clear c1
    have c2 := C3.out w2
    rw [h2] at c2
    go_wp2_with fail
    refine c2.mono ?_
    rintro e w3 ⟨rfl, rfl⟩
    clear c2
    have c4 := C5.out w3
    rw [h4] at c4
    go_wp2_with fail
    refine c4.mono ?_
    rintro e w5 ⟨rfl, rfl⟩
    clear c4
    go_wp2
    go_ret
    exact ⟨reti (by rw [hv.out]; rfl), rfl⟩
  
  
  · have hv : Hid (kd L = 0) := by show _ = _; rw [hk4.out, if_neg (by rw [h4]; decide)]
    go_enter Tryz.func53, Tryz.ntmps53
    have c0 := C1.out w
    rw [h0] at c0
    go_wp2_with fail
    refine c0.mono ?_
    rintro e w1 ⟨rfl, rfl⟩
    clear c0
    have c1 := C2.out w1
    rw [h1] at c1
    go_wp2_with fail
    refine c1.mono ?_
    rintro e w2 ⟨rfl, rfl⟩
    clear c1
    have c2 := C3.out w2
    rw [h2] at c2
    go_wp2_with fail
    refine c2.mono ?_
    rintro e w3 ⟨rfl, rfl⟩
    clear c2
    have c4 := C5.out w3
    rw [h4] at c4
    go_wp2_with fail
    refine c4.mono ?_
    rintro e w5 ⟨rfl, rfl⟩
    clear c4
    go_wp2
    go_ret
    exact ⟨reti (by rw [hv.out]; rfl), rfl⟩

end Go.Proofs.YtcjljfjgekiocaaGreatDoor

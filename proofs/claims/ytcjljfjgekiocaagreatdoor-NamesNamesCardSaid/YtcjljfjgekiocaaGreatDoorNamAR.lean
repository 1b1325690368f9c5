/- The law NamesNames. (Printed by wip/mknamnames.py.) -/
import Derived.Test.YtcjljfjgekiocaaGreatDoorNamAQ
namespace Go.Proofs.YtcjljfjgekiocaaGreatDoor
open Go.RowKit Go.Shelf

set_option linter.unusedVariables false
set_option linter.unusedSimpArgs false

/-- so many a's -/
def rpA (n : Nat) : List Nat := List.replicate n 97
def wordsA : List (List Nat) := [[], [116, 114, 117, 101], [102, 97, 108, 115, 101], [110, 111, 116], [97, 110, 100], [111, 114], [61, 62], [105, 116, 101], [61], [60, 61], [60], [62, 61], [62], [95], [100, 105, 118, 105, 115, 105, 98, 108, 101], [101, 120, 105, 115, 116, 115], [102, 111, 114, 97, 108, 108], [108, 101, 116], [45], [43], [42], [47], [82, 101, 97, 108], [73, 110, 116], [49], [49, 46, 53], [40], [58, 107], [97, 32, 98], rpA 65]
def wordsB : List (List Nat) := [[120], [84, 114, 117, 101], [97, 110, 100, 50], [61, 62, 61], [45, 45], [114, 101, 97, 108], [97, 45, 98], [60, 62], rpA 64]
theorem wordsA_ok : (wordsA.all fun x => !isN x && (x.all (fun c => decide (c < 256)) && decide (x.length < 100))) = true := by kernel_rfl
theorem wordsB_ok : (wordsB.all fun x => isN x && (x.all (fun c => decide (c < 256)) && decide (x.length < 100))) = true := by kernel_rfl
theorem wordsA_is {x : List Nat} (h : x ∈ wordsA) : isN x = false ∧ Codes x ∧ x.length < 100 := by
  have := List.all_eq_true.1 wordsA_ok x h
  simp only [Bool.and_eq_true, Bool.not_eq_true', decide_eq_true_eq, List.all_eq_true] at this
  exact this
theorem wordsB_is {x : List Nat} (h : x ∈ wordsB) : isN x = true ∧ Codes x ∧ x.length < 100 := by
  have := List.all_eq_true.1 wordsB_ok x h
  simp only [Bool.and_eq_true, decide_eq_true_eq, List.all_eq_true] at this
  exact this
theorem decl_no (T : Tb) {L : List Nat} (h : isN L = false) : declC T L = 4 ∧ declV T L = 0 ∧ declT T L = T := by
  have e1 : declC T L = 4 := by simp [declC, h]
  exact ⟨e1, by simp [declV, e1], by simp [declT, e1]⟩
theorem open_no1 (T : Tb) {L : List Nat} (h : isN L = false) : openC T [[120], L] = 4 := by
  unfold openC
  rw [if_pos (.inr (by simp [h]))]
theorem fresh_1 (w : World) : Calls Tryz.prog 20 #[.string ⟨#[49]⟩, .slice none 0 0] w fun e w' => e = .returned (.string ⟨#[]⟩) ∧ Below w.heap.size w w' := fresh_no [49] _ w (codes1 49 (by decide)) (by decide) (by kernel_rfl)
theorem fresh_e (w : World) : Calls Tryz.prog 20 #[.string ⟨#[]⟩, .slice none 0 0] w fun e w' => e = .returned (.string ⟨#[]⟩) ∧ Below w.heap.size w w' := fresh_no [] _ w (fun c hc => by cases hc) (by decide) (by kernel_rfl)
theorem codes_a (n : Nat) : Codes (rpA n) := fun c hc => by
  rw [(List.mem_replicate.1 hc).2]
  decide
theorem fresh_64 (w : World) : Calls Tryz.prog 20 #[.string (str (rpA 64)), .slice none 0 0] w fun e w' => e = .returned (.string ⟨#[]⟩) ∧ Below w.heap.size w w' := by
  have e : frS (rpA 64) [48] = ⟨#[]⟩ := by
    unfold frS
    rw [show isN (rpA 64 ++ [48]) = false by kernel_rfl]
    rfl
  rw [← e]
  exact fresh_gen (rpA 64) [] [] none 0 0 w (codes_a 64) (by kernel_rfl) (.inl rfl) rfl (by decide) (fun j x k hx hk => by cases hx) (by kernel_rfl) (by decide) [48] (by kernel_rfl) (codes1 48 (by decide)) (by decide)
theorem fresh_63 (A : Option Addr) (c : Nat) (w : World) (hr : RdS w A [rpA 63 ++ [48]]) : Calls Tryz.prog 20 #[.string (str (rpA 63)), .slice A 1 c] w fun e w' => e = .returned (.string (str (rpA 63 ++ [49]))) ∧ Below w.heap.size w w' := by
  have n0 : ∀ W, Calls Tryz.prog 49 #[.string (str (rpA 63 ++ [48])), .string (str (rpA 63))] W fun e w' => e = .returned (.tuple #[.int .i64 ((0 : Nat) : Int), .bool true]) ∧ Below W.heap.size W w' := fun W => numbered_yes _ _ [48] 0 W (by kernel_rfl) (by kernel_rfl) (codes1 48 (by decide)) (by kernel_rfl) (by decide) (by kernel_rfl)
  refine fresh_any (rpA 63) [rpA 63 ++ [48]] [0] A c 1 w (codes_a 63) (by kernel_rfl) hr rfl (by decide) (fun j x k hx hk => ?_) (by kernel_rfl) (by decide) [49] (by kernel_rfl) (codes1 49 (by decide)) (by kernel_rfl)
  match j with
  | 0 =>
    injection hx with hx
    injection hk with hk
    subst hx hk
    exact ⟨by decide, n0⟩
  | j + 1 => cases hx
/-- a table in memory, its blocks' numbers left open -/
def Tab (w0 W : World) (g : Nat) (T : Tb) : Prop := ∃ ks, TabAt W w0.heap.size g T ks ∧ Below w0.heap.size w0 W
theorem Tab.below {w0 W W' : World} {g : Nat} {T : Tb} (h : Tab w0 W g T) (hb : Below W.heap.size W W') : Tab w0 W' g T := by
  obtain ⟨ks, h1, h2⟩ := h
  exact ⟨ks, h1.below hb, h2.trans (hb.mono h2.size)⟩
theorem Tab.post {w0 W W' : World} {g : Nat} {T T' : Tb} {ks : List Nat} (h1 : TabAt W w0.heap.size g T ks) (h2 : Below w0.heap.size w0 W) (hp : TPost W w0.heap.size g T' ks W') : Tab w0 W' g T' := by
  have hb := h2.trans (TPost.below h1 h2.size hp)
  obtain ⟨k2, q1, -, -⟩ := hp
  exact ⟨k2, q1, hb⟩
set_option maxRecDepth 100000 in
set_option maxHeartbeats 16000000 in
theorem names_law (w : World) : Calls Tryz.prog 3 #[] w fun e w' => e = .returned (.bool true) ∧ Below w.heap.size w w' := by
  go_enter Tryz.func3, Tryz.ntmps3
  go_wp2_with fail
  refine (works_any _).mono ?_
  rintro e w1 ⟨rfl, b1⟩
  have HW1 := Lib.hid b1
  have C2 : Calls Tryz.prog 9 #[.string ⟨#[97]⟩, .int .i64 65] w1 fun e w' => e = .returned (.string (str (rpA 65))) ∧ w' = w1 := copies_any 97 65 w1 (by decide)
  have HC2 := Lib.hid C2
  clear b1 C2
  go_wp2_with fail
  refine HC2.out.mono ?_
  rintro e w2 ⟨rfl, rfl⟩
  clear HC2
  obtain ⟨WA, hWA⟩ : ∃ W, w2.alloc (.cells #[.string ⟨#[]⟩, .string ⟨#[116, 114, 117, 101]⟩, .string ⟨#[102, 97, 108, 115, 101]⟩, .string ⟨#[110, 111, 116]⟩, .string ⟨#[97, 110, 100]⟩, .string ⟨#[111, 114]⟩, .string ⟨#[61, 62]⟩, .string ⟨#[105, 116, 101]⟩, .string ⟨#[61]⟩, .string ⟨#[60, 61]⟩, .string ⟨#[60]⟩, .string ⟨#[62, 61]⟩, .string ⟨#[62]⟩, .string ⟨#[95]⟩, .string ⟨#[100, 105, 118, 105, 115, 105, 98, 108, 101]⟩, .string ⟨#[101, 120, 105, 115, 116, 115]⟩, .string ⟨#[102, 111, 114, 97, 108, 108]⟩, .string ⟨#[108, 101, 116]⟩, .string ⟨#[45]⟩, .string ⟨#[43]⟩, .string ⟨#[42]⟩, .string ⟨#[47]⟩, .string ⟨#[82, 101, 97, 108]⟩, .string ⟨#[73, 110, 116]⟩, .string ⟨#[49]⟩, .string ⟨#[49, 46, 53]⟩, .string ⟨#[40]⟩, .string ⟨#[58, 107]⟩, .string ⟨#[97, 32, 98]⟩, .string (str (rpA 65))] 9) = W := ⟨_, rfl⟩
  have HRA := Lib.hid (show RdS WA (some ⟨w2.heap.size, 0, none⟩) wordsA from hWA ▸ rds_new w2 wordsA 9 #[.string ⟨#[]⟩, .string ⟨#[116, 114, 117, 101]⟩, .string ⟨#[102, 97, 108, 115, 101]⟩, .string ⟨#[110, 111, 116]⟩, .string ⟨#[97, 110, 100]⟩, .string ⟨#[111, 114]⟩, .string ⟨#[61, 62]⟩, .string ⟨#[105, 116, 101]⟩, .string ⟨#[61]⟩, .string ⟨#[60, 61]⟩, .string ⟨#[60]⟩, .string ⟨#[62, 61]⟩, .string ⟨#[62]⟩, .string ⟨#[95]⟩, .string ⟨#[100, 105, 118, 105, 115, 105, 98, 108, 101]⟩, .string ⟨#[101, 120, 105, 115, 116, 115]⟩, .string ⟨#[102, 111, 114, 97, 108, 108]⟩, .string ⟨#[108, 101, 116]⟩, .string ⟨#[45]⟩, .string ⟨#[43]⟩, .string ⟨#[42]⟩, .string ⟨#[47]⟩, .string ⟨#[82, 101, 97, 108]⟩, .string ⟨#[73, 110, 116]⟩, .string ⟨#[49]⟩, .string ⟨#[49, 46, 53]⟩, .string ⟨#[40]⟩, .string ⟨#[58, 107]⟩, .string ⟨#[97, 32, 98]⟩, .string (str (rpA 65))] rfl)
  have HWA := Lib.hid (show Below w.heap.size w WA from HW1.out.trans ((hWA ▸ (Below.refl _ w2).alloc (Nat.le_refl _) _ : Below w2.heap.size w2 WA).mono HW1.out.size))
  obtain ⟨S2, hS2⟩ : ∃ S, S = w2.heap.size := ⟨_, rfl⟩
  go_wp2_with fail
  rw [← hS2] at HRA ⊢
  clear hWA hS2 HW1
  go_loopw [54] (fun s wr => ∃ j : Nat, s = .int .i64 (j : Int) ∧ j ≤ 30 ∧ Below WA.heap.size WA wr) (fun s _ => 30 - (intOf s).toNat)
  case atStart => exact ⟨0, rfl, Nat.zero_le _, Below.refl _ _⟩
  case round =>
    obtain ⟨j, rfl, hj, hb⟩ := hrel
    have HB := Lib.hid hb
    clear hb
    by_cases hlt : j < 30
    · have hltI : (j : Int) < 30 := by omega
      obtain ⟨x, hx⟩ : ∃ x, wordsA[j]? = some x := ⟨_, List.getElem?_eq_getElem (show j < 30 from hlt)⟩
      obtain ⟨hN, hC, hL⟩ := wordsA_is (List.mem_of_getElem? hx)
      obtain ⟨bs, ofs, hae, hbs, y1⟩ := HRA.out.atl hx
      injection hae with hae
      injection hae with e1 e2
      subst e1 e2
      have y2 := (HB.out.cell (p := ⟨S2, 0 + j, none⟩) hbs).trans y1
      rw [Nat.zero_add] at y2
      have HX := Lib.hid (And.intro hN (And.intro hC hL))
      have hbr := HWA.out.trans (HB.out.mono HWA.out.size)
      obtain ⟨g, hg⟩ : ∃ g, g = wr.heap.size := ⟨_, rfl⟩
      have C3 := new_any wr w.heap.size hbr.size
      rw [← hg] at C3
      have HC3 := Lib.hid C3
      have HG := Lib.hid hg
      have HWR := Lib.hid hbr
      clear hx hN hC hL y1 hbr C3 hg
      go_wp2_with fail
      refine HC3.out.mono ?_
      rintro e w3 ⟨rfl, h3, b3⟩
      rw [HG.out] at b3
      have hb3 := HWR.out.trans (b3.mono HWR.out.size)
      have C4 := declare_go g tb0 [g] x w3 w.heap.size hb3.size h3 GoodT.new HX.out.2.1 (by have := HX.out.2.2; omega)
      rw [(decl_no tb0 HX.out.1).1, (decl_no tb0 HX.out.1).2.1, (decl_no tb0 HX.out.1).2.2] at C4
      have HC4 := Lib.hid C4
      have H3 := Lib.hid h3
      have HW3 := Lib.hid hb3
      have HB3 := Lib.hid b3
      clear h3 b3 hb3 C4 HC3 y2
      go_wp2_with fail
      refine HC4.out.mono ?_
      rintro e w4 ⟨rfl, p4⟩
      have b4 : Below wr.heap.size wr w4 := by
        obtain ⟨_, _, _, n4⟩ := p4
        exact HB3.out.trans (n4.below HB3.out.size fun k hk => by
          rw [List.mem_singleton.1 hk, HG.out]
          exact Nat.le_refl _)
      have hb4 := HWR.out.trans (b4.mono HWR.out.size)
      obtain ⟨g2, hg2⟩ : ∃ g, g = w4.heap.size := ⟨_, rfl⟩
      have C5 := new_any w4 w.heap.size hb4.size
      rw [← hg2] at C5
      have HC5 := Lib.hid C5
      have HG2 := Lib.hid hg2
      have HB4 := Lib.hid b4
      have HW4 := Lib.hid hb4
      clear p4 b4 hb4 C5 hg2 HC4 H3 HW3 HB3
      go_wp2_with fail
      refine HC5.out.mono ?_
      rintro e w5 ⟨rfl, h5, b5⟩
      rw [HG2.out] at b5
      have hb5 := HB4.out.trans (b5.mono HB4.out.size)
      obtain ⟨sx, hsx⟩ : ∃ s, s = str x := ⟨_, rfl⟩
      obtain ⟨W5, hW5⟩ : ∃ W, w5.alloc (.cells #[.string ⟨#[120]⟩, .string (str x)] 9) = W := ⟨_, rfl⟩
      have hR5 : RdS W5 (some ⟨w5.heap.size, 0, none⟩) [[120], x] := hW5 ▸ rds_new w5 [[120], x] 9 #[.string ⟨#[120]⟩, .string (str x)] rfl
      have ha5 : Below w5.heap.size w5 W5 := hW5 ▸ (Below.refl _ w5).alloc (Nat.le_refl _) _
      have hb6 := hb5.trans (ha5.mono hb5.size)
      have hw6 := HWR.out.trans (hb6.mono HWR.out.size)
      have C6 : Calls Tryz.prog 12 #[.pointer (some ⟨g2, 0, none⟩), .slice (some ⟨w5.heap.size, 0, none⟩) 2 2] W5 (OpnQ W5 w.heap.size g2 tb0 [g2] [[120], x]) := open_all g2 tb0 [g2] [[120], x] _ 2 W5 w.heap.size hw6.size (h5.below ha5) GoodT.new hR5 (fun y hy => by
        rcases List.mem_cons.1 hy with rfl | hy
        · exact ⟨codes1 120 (by decide), by decide⟩
        · rcases List.mem_singleton.1 hy with rfl
          exact ⟨HX.out.2.1, by have := HX.out.2.2; omega⟩) (by simp)
      have HC6 := Lib.hid C6
      have HB6 := Lib.hid hb6
      have HNM := Lib.hid fun W => name_any x W HX.out.2.1 (by have := HX.out.2.2; omega)
      clear h5 b5 hb5 hR5 ha5 hb6 hw6 C6 HC5
      go_wp2_with fail
      refine HC6.out.mono ?_
      rintro e w7 ⟨v, k7, rfl, h7, s7, n7, r7, d7⟩
      rw [open_no1 tb0 HX.out.1]
      have b7 : Below wr.heap.size wr w7 := HB6.out.trans (n7.below HB6.out.size fun k hk => by
        rw [List.mem_singleton.1 hk, HG2.out]
        exact HB4.out.size)
      have C7 := HNM.out w7
      rw [HX.out.1] at C7
      have HC7 := Lib.hid C7
      have HB7 := Lib.hid b7
      clear h7 s7 n7 r7 d7 b7 C7 HNM HC6 hW5
      go_wp2_with fail
      refine HC7.out.mono ?_
      rintro e w8 ⟨rfl, b8⟩
      have HB8 := Lib.hid (HB.out.trans ((HB7.out.trans (b8.mono HB7.out.size)).mono HB.out.size))
      clear b8 HC7
      go_wp2_with fail
      exact ⟨⟨j + 1, by go_num, by omega, HB8.out⟩, by simp [intOf]; omega⟩
    · have hltI : ¬ (j : Int) < 30 := by omega
      have HWR := Lib.hid (HWA.out.trans (HB.out.mono HWA.out.size))
      clear HWA HRA HB
      have C2 : Calls Tryz.prog 9 #[.string ⟨#[97]⟩, .int .i64 64] wr fun e w' => e = .returned (.string (str (rpA 64))) ∧ w' = wr := copies_any 97 64 wr (by decide)
      have HC2 := Lib.hid C2
      clear C2
      go_wp2_with fail
      refine HC2.out.mono ?_
      rintro e w2 ⟨rfl, rfl⟩
      clear HC2
      obtain ⟨WB, hWB⟩ : ∃ W, w2.alloc (.cells #[.string ⟨#[120]⟩, .string ⟨#[84, 114, 117, 101]⟩, .string ⟨#[97, 110, 100, 50]⟩, .string ⟨#[61, 62, 61]⟩, .string ⟨#[45, 45]⟩, .string ⟨#[114, 101, 97, 108]⟩, .string ⟨#[97, 45, 98]⟩, .string ⟨#[60, 62]⟩, .string (str (rpA 64))] 9) = W := ⟨_, rfl⟩
      have HRB := Lib.hid (show RdS WB (some ⟨w2.heap.size, 0, none⟩) wordsB from hWB ▸ rds_new w2 wordsB 9 #[.string ⟨#[120]⟩, .string ⟨#[84, 114, 117, 101]⟩, .string ⟨#[97, 110, 100, 50]⟩, .string ⟨#[61, 62, 61]⟩, .string ⟨#[45, 45]⟩, .string ⟨#[114, 101, 97, 108]⟩, .string ⟨#[97, 45, 98]⟩, .string ⟨#[60, 62]⟩, .string (str (rpA 64))] rfl)
      have HWB := Lib.hid (show Below w.heap.size w WB from HWR.out.trans ((hWB ▸ (Below.refl _ w2).alloc (Nat.le_refl _) _ : Below w2.heap.size w2 WB).mono HWR.out.size))
      obtain ⟨S3, hS3⟩ : ∃ S, S = w2.heap.size := ⟨_, rfl⟩
      go_wp2_with fail
      rw [← hS3] at HRB ⊢
      clear hWB hS3 HWR
      go_loopw [85] (fun s wr => ∃ j : Nat, s = .int .i64 (j : Int) ∧ j ≤ 9 ∧ Below WB.heap.size WB wr) (fun s _ => 9 - (intOf s).toNat)
      case atStart => exact ⟨0, rfl, Nat.zero_le _, Below.refl _ _⟩
      case round =>
        obtain ⟨j, rfl, hj, hb⟩ := hrel
        have HB := Lib.hid hb
        clear hb
        by_cases hlt : j < 9
        · have hltI : (j : Int) < 9 := by omega
          obtain ⟨x, hx⟩ : ∃ x, wordsB[j]? = some x := ⟨_, List.getElem?_eq_getElem (show j < 9 from hlt)⟩
          obtain ⟨hN, hC, hL⟩ := wordsB_is (List.mem_of_getElem? hx)
          obtain ⟨bs, ofs, hae, hbs, y1⟩ := HRB.out.atl hx
          injection hae with hae
          injection hae with e1 e2
          subst e1 e2
          have y2 := (HB.out.cell (p := ⟨S3, 0 + j, none⟩) hbs).trans y1
          rw [Nat.zero_add] at y2
          have C7 := name_any x wr hC (by omega)
          rw [hN] at C7
          have HC7 := Lib.hid C7
          clear hx hN hC hL y1 C7
          go_wp2_with fail
          refine HC7.out.mono ?_
          rintro e w8 ⟨rfl, b8⟩
          have HB8 := Lib.hid (HB.out.trans (b8.mono HB.out.size))
          clear b8 HC7
          go_wp2_with fail
          exact ⟨⟨j + 1, by go_num, by omega, HB8.out⟩, by simp [intOf]; omega⟩
        · have hltI : ¬ (j : Int) < 9 := by omega
          have HWR := Lib.hid (HWB.out.trans (HB.out.mono HWB.out.size))
          clear HWB HRB HB
          go_wp2_with fail
          refine (declare_nil _ _).mono ?_
          rintro e w3 ⟨rfl, rfl⟩
          go_wp2_with fail
          refine (open_nil _ _).mono ?_
          rintro e w4 ⟨rfl, rfl⟩
          go_wp2_with fail
          refine (close_nil _).mono ?_
          rintro e w5 ⟨rfl, rfl⟩
          have C1 : Calls Tryz.prog 15 #[.pointer none, .string ⟨#[120]⟩] w5 fun e w' => e = .returned (.tuple #[.int .i64 0, .bool false]) ∧ Below w5.heap.size w5 w' := find_nil [120] w5
          have HC1 := Lib.hid C1
          clear C1
          go_wp2_with fail
          refine HC1.out.mono ?_
          rintro e w6 ⟨rfl, b6⟩
          have HW6 := Lib.hid (HWR.out.trans (b6.mono HWR.out.size))
          have HC2 := Lib.hid (of_nil 0 w6)
          clear b6 HC1
          go_wp2_with fail
          refine HC2.out.mono ?_
          rintro e w7 ⟨rfl, b7⟩
          have HW7 := Lib.hid (HW6.out.trans (b7.mono HW6.out.size))
          clear b7 HC2
          go_wp2_with fail
          refine (declared_nil _).mono ?_
          rintro e w8 ⟨rfl, rfl⟩
          have HC3 := Lib.hid (copy_none w8 w.heap.size HW7.out.size)
          go_wp2_with fail
          refine HC3.out.mono ?_
          rintro e w9 ⟨rfl, h9, b9⟩
          have HW9 := Lib.hid (HW7.out.trans (b9.mono HW7.out.size))
          have HC4 : Hid (Calls Tryz.prog 19 #[.pointer (some ⟨w8.heap.size, 0, none⟩)] w9 fun e w' => e = .returned (.int .i64 0) ∧ w' = w9) := next_any _ _ _ w9 w.heap.size h9
          clear h9 b9 HC3
          go_wp2_with fail
          refine (next_nil _).mono ?_
          rintro e w10 ⟨rfl, rfl⟩
          go_wp2_with fail
          refine HC4.out.mono ?_
          rintro e w11 ⟨rfl, rfl⟩
          clear HC4
          obtain ⟨g, hg⟩ : ∃ g, g = w11.heap.size := ⟨_, rfl⟩
          have C5 := new_any w11 w.heap.size HW9.out.size
          rw [← hg] at C5
          have HC5 := Lib.hid C5
          have HG := Lib.hid hg
          clear C5 hg
          go_wp2_with fail
          refine HC5.out.mono ?_
          rintro e w12 ⟨rfl, h12, b12⟩
          rw [HG.out] at b12
          have HT12 := Lib.hid (show Tab w w12 g (dclN 0) from ⟨_, h12, HW9.out.trans (b12.mono HW9.out.size)⟩)
          clear h12 b12 HC5 HWR HW6 HW7 HW9 HG
          go_wp2_with fail
          go_loopw [23] (fun s wr => ∃ i : Nat, s = .int .i64 (i : Int) ∧ i ≤ 4096 ∧ Tab w wr g (dclN i)) (fun s _ => 4096 - (intOf s).toNat)
          case atStart => exact ⟨0, rfl, Nat.zero_le _, HT12.out⟩
          case round =>
            obtain ⟨i, rfl, hi, hT⟩ := hrel
            have HT := Lib.hid hT
            clear hT
            by_cases hlti : i < 4096
            · have hltiI : (i : Int) < 4096 := by omega
              obtain ⟨a, ha⟩ : ∃ a, a = i % 20 := ⟨_, rfl⟩
              obtain ⟨q, hq⟩ : ∃ q, q = i / 20 := ⟨_, rfl⟩
              obtain ⟨b, hb⟩ : ∃ b, b = q % 20 := ⟨_, rfl⟩
              obtain ⟨c, hc⟩ : ∃ c, c = i / 400 := ⟨_, rfl⟩
              have hal : a < 20 := by omega
              have hbl : b < 20 := by omega
              have hcl : c < 11 := by omega
              have hql : q < 300 := by omega
              have d1 : (i : Int) % 20 = (a : Int) := by omega
              have d2 : (i : Int).tdiv 20 = (q : Int) := by rw [Int.tdiv_eq_ediv_of_nonneg (by omega)]; omega
              have d3 : (q : Int) % 20 = (b : Int) := by omega
              have d4 : (i : Int).tdiv 400 = (c : Int) := by rw [Int.tdiv_eq_ediv_of_nonneg (by omega)]; omega
              have d5 : (i : Int).tmod 20 = (a : Int) := by rw [Int.tmod_eq_emod_of_nonneg (by omega)]; omega
              have d6 : (q : Int).tmod 20 = (b : Int) := by rw [Int.tmod_eq_emod_of_nonneg (by omega)]; omega
              have d7 : (i : Int) / 20 = (q : Int) := by omega
              have d8 : (i : Int) / 400 = (c : Int) := by omega
              have wa : IntKind.i64.wrap (a : Int) = (a : Int) := by rw [IntKind.wrap_i64]; omega
              have wb : IntKind.i64.wrap (b : Int) = (b : Int) := by rw [IntKind.wrap_i64]; omega
              have wc : IntKind.i64.wrap (c : Int) = (c : Int) := by rw [IntKind.wrap_i64]; omega
              have wq : IntKind.i64.wrap (q : Int) = (q : Int) := by rw [IntKind.wrap_i64]; omega
              have C1 : Calls Tryz.prog 9 #[.string ⟨#[120]⟩, .int .i64 (a : Int)] wr fun e w' => e = .returned (.string (str (List.replicate a 120))) ∧ w' = wr := copies_any 120 a wr (by omega)
              have C2 : Calls Tryz.prog 9 #[.string ⟨#[121]⟩, .int .i64 (b : Int)] wr fun e w' => e = .returned (.string (str (List.replicate b 121))) ∧ w' = wr := copies_any 121 b wr (by omega)
              have C3 : Calls Tryz.prog 9 #[.string ⟨#[122]⟩, .int .i64 (c : Int)] wr fun e w' => e = .returned (.string (str (List.replicate c 122))) ∧ w' = wr := copies_any 122 c wr (by omega)
              have hA : (Op.stringOp .add ⟨#[110]⟩ (str (List.replicate a 120))).run Tryz.prog wr = .ok (.string (str ([110] ++ List.replicate a 120))) wr := nadd_str [110] _ (by simp; omega) wr
              have hB := nadd_str ([110] ++ List.replicate a 120) (List.replicate b 121) (by simp; omega) wr
              have hC := nadd_str ([110] ++ List.replicate a 120 ++ List.replicate b 121) (List.replicate c 122) (by simp; omega) wr
              have hK : [110] ++ List.replicate a 120 ++ List.replicate b 121 ++ List.replicate c 122 = nmK i := by
                unfold nmK
                rw [ha, hb, hq, hc]
                rfl
              rw [hK] at hC
              have hI := dcl_ok (k := i) (by omega)
              obtain ⟨ks, t1, t2⟩ := HT.out
              have hcd := nmK_codes i
              have hln := nmK_len hlti
              have C4 := declare_go g (dclN i) ks (nmK i) wr w.heap.size t2.size t1 hI.good hcd (by omega)
              have e0 := dcl_code hI hlti
              rw [show declV (dclN i) (nmK i) = i by unfold declV; rw [if_pos e0]; exact hI.nx, e0, show declT (dclN i) (nmK i) = dclN (i + 1) from rfl] at C4
              have HC4 := Lib.hid C4
              have HT1 := Lib.hid t1
              have HT2 := Lib.hid t2
              generalize str (nmK i) = s3 at *
              generalize str ([110] ++ List.replicate a 120 ++ List.replicate b 121) = s2 at *
              generalize str ([110] ++ List.replicate a 120) = s1 at *
              generalize str (List.replicate a 120) = r1 at *
              generalize str (List.replicate b 121) = r2 at *
              generalize str (List.replicate c 122) = r3 at *
              have HC1 := Lib.hid C1
              have HC2 := Lib.hid C2
              have HC3 := Lib.hid C3
              clear ha hq hb hc hK hI t1 t2 hcd hln C4 e0 C1 C2 C3
              go_wp2_with fail
              refine HC1.out.mono ?_
              rintro e w1 ⟨rfl, rfl⟩
              go_wp2_with fail
              refine HC2.out.mono ?_
              rintro e w1 ⟨rfl, rfl⟩
              go_wp2_with fail
              refine HC3.out.mono ?_
              rintro e w1 ⟨rfl, rfl⟩
              go_wp2_with fail
              refine HC4.out.mono ?_
              rintro e w2 ⟨rfl, p2⟩
              have HT3 := Lib.hid (Tab.post HT1.out HT2.out p2)
              clear p2 HC1 HC2 HC3 HC4 HT1 HT2 hA hB hC
              go_wp2_with fail
              exact ⟨⟨i + 1, by go_num, by omega, HT3.out⟩, by simp [intOf]; omega⟩
            · have hltiI : ¬ (i : Int) < 4096 := by omega
              have HK : Hid (i = 4096) := by show i = 4096; omega
              have hG := (dcl_ok (Nat.le_of_eq HK.out)).good
              obtain ⟨ks, t1, t2⟩ := HT.out
              have C1 : Calls Tryz.prog 11 #[.pointer (some ⟨g, 0, none⟩), .string ⟨#[109]⟩] wr (DPost wr w.heap.size g (declC (dclN i) [109]) (declV (dclN i) [109]) (declT (dclN i) [109]) ks) := declare_go g (dclN i) ks [109] wr w.heap.size t2.size t1 hG (codes1 109 (by decide)) (by decide)
              rw [(dcl_m HK.out).1, (dcl_m HK.out).2] at C1
              have HC1 := Lib.hid C1
              have HT1 := Lib.hid t1
              have HT2 := Lib.hid t2
              have HG := Lib.hid hG
              obtain ⟨v1, hv1⟩ : ∃ v, v = declV (dclN i) [109] := ⟨_, rfl⟩
              rw [← hv1] at HC1
              clear t1 t2 hG C1 hv1 HT12
              go_wp2_with fail
              refine HC1.out.mono ?_
              rintro e w13 ⟨rfl, p13⟩
              obtain ⟨ks2, t1, t2⟩ := Tab.post HT1.out HT2.out p13
              have C2 : Calls Tryz.prog 11 #[.pointer (some ⟨g, 0, none⟩), .string ⟨#[110]⟩] w13 (DPost w13 w.heap.size g (declC (dclN i) [110]) (declV (dclN i) [110]) (declT (dclN i) [110]) ks2) := declare_go g (dclN i) ks2 [110] w13 w.heap.size t2.size t1 HG.out (codes1 110 (by decide)) (by decide)
              rw [(dcl_n HK.out).1, (dcl_n HK.out).2] at C2
              have HC2 := Lib.hid C2
              have HT3 := Lib.hid t1
              have HT4 := Lib.hid t2
              obtain ⟨v2, hv2⟩ : ∃ v, v = declV (dclN i) [110] := ⟨_, rfl⟩
              rw [← hv2] at HC2
              clear t1 t2 C2 hv2 HT1 HT2 p13 HC1
              go_wp2_with fail
              refine HC2.out.mono ?_
              rintro e w14 ⟨rfl, p14⟩
              have HT14 := Lib.hid (show Tab w w14 g (opnN i 0) from Tab.post HT3.out HT4.out p14)
              clear p14 HC2 HT3 HT4
              go_wp2_with fail
              go_loopw [30] (fun s wr => ∃ k : Nat, s = .int .i64 (k : Int) ∧ k ≤ 64 ∧ Tab w wr g (opnN i k)) (fun s _ => 64 - (intOf s).toNat)
              case atStart => exact ⟨0, rfl, Nat.zero_le _, HT14.out⟩
              case round =>
                obtain ⟨k, rfl, hk, hT⟩ := hrel
                have HTk := Lib.hid hT
                clear hT
                by_cases hltk : k < 64
                · have hltkI : (k : Int) < 64 := by omega
                  obtain ⟨ks3, t1, t2⟩ := HTk.out
                  obtain ⟨W, hW⟩ : ∃ W, wr.alloc (.cells #[.string ⟨#[109]⟩] 9) = W := ⟨_, rfl⟩
                  have hR : RdS W (some ⟨wr.heap.size, 0, none⟩) [[109]] := hW ▸ rds_new wr [[109]] 9 #[.string ⟨#[109]⟩] rfl
                  have ha : Below wr.heap.size wr W := hW ▸ (Below.refl _ wr).alloc (Nat.le_refl _) _
                  have hb := t2.trans (ha.mono t2.size)
                  have hI := opn_ok HK.out (i := k) (by omega)
                  have C3 : Calls Tryz.prog 12 #[.pointer (some ⟨g, 0, none⟩), .slice (some ⟨wr.heap.size, 0, none⟩) 1 1] W (OpnQ W w.heap.size g (opnN i k) ks3 [[109]]) := open_all g (opnN i k) ks3 [[109]] _ 1 W w.heap.size hb.size (t1.below ha) hI.good hR (fun x hx => ⟨codes_m x hx, by rcases List.mem_singleton.1 hx with rfl; decide⟩) (by decide)
                  have HC3 := Lib.hid C3
                  have HT5 := Lib.hid (t1.below ha)
                  have HT6 := Lib.hid hb
                  have HE := Lib.hid (opn_code HK.out hI hltk)
                  clear t1 t2 hR ha hb hI C3
                  go_wp2_with fail
                  refine HC3.out.mono ?_
                  rintro e w15 ⟨v, ks4, rfl, h4, s4, n4, r4, d4⟩
                  rw [HE.out]
                  have HT7 := Lib.hid (show Tab w w15 g (opnN i (k + 1)) from Tab.post HT5.out HT6.out ⟨ks4, h4, s4, n4⟩)
                  clear h4 s4 n4 r4 d4 HC3 HT5 HT6 hW
                  go_wp2_with fail
                  exact ⟨⟨k + 1, by go_num, by omega, HT7.out⟩, by simp [intOf]; omega⟩
                · have hltkI : ¬ (k : Int) < 64 := by omega
                  obtain rfl : k = 64 := by omega
                  obtain ⟨ks3, t1, t2⟩ := HTk.out
                  have hI := opn_ok HK.out (i := 64) (by omega)
                  obtain ⟨f1, f2, f3, f4⟩ := opn_full HK.out
                  obtain ⟨o1, o2, o3⟩ := opn_of HK.out
                  obtain ⟨p1, p2⟩ := opn_find HK.out
                  have hnx : (opnN i 64).nx = 4160 := hI.nx
                  have hIg := hI.good
                  obtain ⟨U, hU⟩ : ∃ U, U = opnN i 64 := ⟨_, rfl⟩
                  rw [← hU] at t1 hIg f1 f2 f3 f4 o1 o2 o3 p1 p2 hnx HTk
                  have HI := Lib.hid hIg
                  have HF := Lib.hid (And.intro f1 (And.intro f2 (And.intro f3 f4)))
                  have HOF := Lib.hid (And.intro o1 (And.intro o2 o3))
                  have HPF := Lib.hid (And.intro p1 p2)
                  have HNX := Lib.hid hnx
                  obtain ⟨W, hW⟩ : ∃ W, wr.alloc (.cells #[.string ⟨#[109]⟩] 9) = W := ⟨_, rfl⟩
                  have hR : RdS W (some ⟨wr.heap.size, 0, none⟩) [[109]] := hW ▸ rds_new wr [[109]] 9 #[.string ⟨#[109]⟩] rfl
                  have ha : Below wr.heap.size wr W := hW ▸ (Below.refl _ wr).alloc (Nat.le_refl _) _
                  have hb := t2.trans (ha.mono t2.size)
                  have C3 : Calls Tryz.prog 12 #[.pointer (some ⟨g, 0, none⟩), .slice (some ⟨wr.heap.size, 0, none⟩) 1 1] W (OpnQ W w.heap.size g U ks3 [[109]]) := open_all g U ks3 [[109]] _ 1 W w.heap.size hb.size (t1.below ha) hIg hR (fun x hx => ⟨codes_m x hx, by rcases List.mem_singleton.1 hx with rfl; decide⟩) (by decide)
                  have HC3 := Lib.hid C3
                  have HT5 := Lib.hid (t1.below ha)
                  have HT6 := Lib.hid hb
                  clear t1 t2 hR ha hb hI hIg C3 f1 f2 f3 f4 o1 o2 o3 p1 p2 hnx hU HTk HK
                  go_wp2_with fail
                  refine HC3.out.mono ?_
                  rintro e w15 ⟨v3, ks4, rfl, h4, s4, n4, r4, d4⟩
                  rw [HF.out.1]
                  rw [HF.out.2.1] at h4
                  obtain ⟨ks5, t1, t2⟩ := Tab.post (T' := U) HT5.out HT6.out ⟨ks4, h4, s4, n4⟩
                  clear h4 s4 n4 r4 d4 HC3 HT5 HT6 hW
                  obtain ⟨W2, hW2⟩ : ∃ W, w15.alloc (.cells #[.string ⟨#[109]⟩, .string ⟨#[109]⟩] 9) = W := ⟨_, rfl⟩
                  have hR : RdS W2 (some ⟨w15.heap.size, 0, none⟩) [[109], [109]] := hW2 ▸ rds_new w15 [[109], [109]] 9 #[.string ⟨#[109]⟩, .string ⟨#[109]⟩] rfl
                  have ha : Below w15.heap.size w15 W2 := hW2 ▸ (Below.refl _ w15).alloc (Nat.le_refl _) _
                  have hb := t2.trans (ha.mono t2.size)
                  have C4 : Calls Tryz.prog 12 #[.pointer (some ⟨g, 0, none⟩), .slice (some ⟨w15.heap.size, 0, none⟩) 2 2] W2 (OpnQ W2 w.heap.size g U ks5 [[109], [109]]) := open_all g U ks5 [[109], [109]] _ 2 W2 w.heap.size hb.size (t1.below ha) HI.out hR (fun x hx => by
                    have hx' : x = [109] := by simpa using hx
                    subst hx'
                    exact ⟨codes1 109 (by decide), by decide⟩) (by decide)
                  have HC4 := Lib.hid C4
                  have HT5 := Lib.hid (t1.below ha)
                  have HT6 := Lib.hid hb
                  clear t1 t2 hR ha hb C4
                  go_wp2_with fail
                  refine HC4.out.mono ?_
                  rintro e w16 ⟨v4, ks6, rfl, h4, s4, n4, r4, d4⟩
                  rw [HF.out.2.2.1]
                  rw [HF.out.2.2.2] at h4
                  obtain ⟨ks7, t1, t2⟩ := Tab.post (T' := U) HT5.out HT6.out ⟨ks6, h4, s4, n4⟩
                  clear h4 s4 n4 r4 d4 HC4 HT5 HT6 hW2 HF
                  have C5 : Calls Tryz.prog 15 #[.pointer (some ⟨g, 0, none⟩), .string ⟨#[109]⟩] w16 fun e w' => e = .returned (.tuple #[.int .i64 ((findV U [109] : Nat) : Int), .bool (fnd U [109]).isSome]) ∧ Below w16.heap.size w16 w' := find_any g U ks7 [109] w16 w.heap.size t1 HI.out (codes1 109 (by decide)) (by decide)
                  rw [HPF.out.1, HPF.out.2] at C5
                  have HC5 := Lib.hid C5
                  have HT5 := Lib.hid t1
                  have HT6 := Lib.hid t2
                  clear t1 t2 C5
                  go_wp2_with fail
                  refine HC5.out.mono ?_
                  rintro e w17 ⟨rfl, b17⟩
                  have t1 := HT5.out.below b17
                  have t2 := HT6.out.trans (b17.mono HT6.out.size)
                  have C6 := tabOf_any g U ks7 4159 w17 w.heap.size t1 HI.out
                  rw [HOF.out.1, HOF.out.2.1, show str [109] = ⟨#[109]⟩ from rfl] at C6
                  have HC6 := Lib.hid C6
                  have HT7 := Lib.hid t1
                  have HT8 := Lib.hid t2
                  clear t1 t2 C6 HC5 HT5 HT6 b17
                  go_wp2_with fail
                  refine HC6.out.mono ?_
                  rintro e w18 ⟨rfl, b18⟩
                  have t1 := HT7.out.below b18
                  have t2 := HT8.out.trans (b18.mono HT8.out.size)
                  have C7 := tabOf_any g U ks7 4160 w18 w.heap.size t1 HI.out
                  rw [HOF.out.2.2] at C7
                  obtain ⟨sn, hsn⟩ : ∃ s, s = str (ofV U 4160) := ⟨_, rfl⟩
                  rw [← hsn] at C7
                  have HC7 := Lib.hid C7
                  have HT9 := Lib.hid t1
                  have HT10 := Lib.hid t2
                  clear t1 t2 C7 HC6 HT7 HT8 b18 hsn
                  go_wp2_with fail
                  refine HC7.out.mono ?_
                  rintro e w19 ⟨rfl, b19⟩
                  have t1 := HT9.out.below b19
                  have HW19 := Lib.hid (HT10.out.trans (b19.mono HT10.out.size))
                  have C8 := next_any g U ks7 w19 w.heap.size t1
                  rw [HNX.out] at C8
                  have HC8 := Lib.hid C8
                  clear t1 C8 HC7 HT9 HT10 b19 HOF HPF HNX
                  go_wp2_with fail
                  refine HC8.out.mono ?_
                  rintro e w20 ⟨rfl, rfl⟩
                  have HC9 := Lib.hid (new_any w20 w.heap.size HW19.out.size)
                  clear HC8
                  go_wp2_with fail
                  refine HC9.out.mono ?_
                  rintro e w21 ⟨rfl, h21, b21⟩
                  have HW21 := Lib.hid (HW19.out.trans (b21.mono HW19.out.size))
                  have C10 : Calls Tryz.prog 14 #[.pointer (some ⟨w20.heap.size, 0, none⟩)] w21 fun e w' => e = .returned (.int .i64 5) ∧ TPost w21 w.heap.size w20.heap.size (closeT tb0) [w20.heap.size] w' := close_all w20.heap.size tb0 [w20.heap.size] w21 w.heap.size h21 GoodT.new
                  have HC10 := Lib.hid C10
                  have H21 := Lib.hid h21
                  clear h21 b21 C10 HC9
                  go_wp2_with fail
                  refine HC10.out.mono ?_
                  rintro e w22 ⟨rfl, p22⟩
                  have HW22 := Lib.hid (HW21.out.trans (TPost.below H21.out HW21.out.size p22))
                  clear p22 HC10 H21
                  go_wp2_with fail
                  refine (fresh_1 _).mono ?_
                  rintro e w23 ⟨rfl, b23⟩
                  have HW23 := Lib.hid (HW22.out.trans (b23.mono HW22.out.size))
                  have C11 : Calls Tryz.prog 9 #[.string ⟨#[97]⟩, .int .i64 64] w23 fun e w' => e = .returned (.string (str (rpA 64))) ∧ w' = w23 := copies_any 97 64 w23 (by decide)
                  have HC11 := Lib.hid C11
                  clear b23 C11
                  go_wp2_with fail
                  refine HC11.out.mono ?_
                  rintro e w24 ⟨rfl, rfl⟩
                  clear HC11
                  go_wp2_with fail
                  refine (fresh_64 _).mono ?_
                  rintro e w25 ⟨rfl, b25⟩
                  have HW25 := Lib.hid (HW23.out.trans (b25.mono HW23.out.size))
                  have C12 : Calls Tryz.prog 9 #[.string ⟨#[97]⟩, .int .i64 63] w25 fun e w' => e = .returned (.string (str (rpA 63))) ∧ w' = w25 := copies_any 97 63 w25 (by decide)
                  have HC12 := Lib.hid C12
                  have hA : (Op.stringOp .add (str (rpA 63)) ⟨#[48]⟩).run Tryz.prog w25 = .ok (.string (str (rpA 63 ++ [48]))) w25 := nadd_str (rpA 63) [48] (by decide) w25
                  clear b25 C12
                  go_wp2_with fail
                  refine HC12.out.mono ?_
                  rintro e w26 ⟨rfl, rfl⟩
                  go_wp2_with fail
                  refine HC12.out.mono ?_
                  rintro e w27 ⟨rfl, rfl⟩
                  obtain ⟨W3, hW3⟩ : ∃ W, w27.alloc (.cells #[.string (str (rpA 63 ++ [48]))] 9) = W := ⟨_, rfl⟩
                  have hR : RdS W3 (some ⟨w27.heap.size, 0, none⟩) [rpA 63 ++ [48]] := hW3 ▸ rds_new w27 [rpA 63 ++ [48]] 9 #[.string (str (rpA 63 ++ [48]))] rfl
                  have ha : Below w27.heap.size w27 W3 := hW3 ▸ (Below.refl _ w27).alloc (Nat.le_refl _) _
                  have HC13 := Lib.hid (fresh_63 _ 1 W3 hR)
                  have HW27 := Lib.hid (HW25.out.trans (ha.mono HW25.out.size))
                  clear hR ha HC12
                  go_wp2_with fail
                  refine HC13.out.mono ?_
                  rintro e w28 ⟨rfl, b28⟩
                  have HW28 := Lib.hid (HW27.out.trans (b28.mono HW27.out.size))
                  have C14 : Calls Tryz.prog 9 #[.string ⟨#[97]⟩, .int .i64 63] w28 fun e w' => e = .returned (.string (str (rpA 63))) ∧ w' = w28 := copies_any 97 63 w28 (by decide)
                  have HC14 := Lib.hid C14
                  have hB : (Op.stringOp .add (str (rpA 63)) ⟨#[49]⟩).run Tryz.prog w28 = .ok (.string (str (rpA 63 ++ [49]))) w28 := nadd_str (rpA 63) [49] (by decide) w28
                  generalize str (rpA 63 ++ [49]) = s49 at *
                  have hself : (s49.toList == s49.toList) = true := by simp
                  clear b28 C14 HC13 hA hW3
                  go_wp2_with fail
                  refine HC14.out.mono ?_
                  rintro e w29 ⟨rfl, rfl⟩
                  clear HC14
                  go_wp2_with fail
                  refine (fresh_e _).mono ?_
                  rintro e w30 ⟨rfl, b30⟩
                  have HW30 := Lib.hid (HW28.out.trans (b30.mono HW28.out.size))
                  clear b30
                  go_wp2_with fail
                  go_ret
                  exact ⟨rfl, HW30.out⟩
end Go.Proofs.YtcjljfjgekiocaaGreatDoor

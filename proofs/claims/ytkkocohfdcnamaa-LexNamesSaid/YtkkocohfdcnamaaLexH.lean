/- LexStand, its walk. -/
import Derived.Test.YtkkocohfdcnamaaLexF
import Derived.Test.YtkkocohfdcnamaaLexG
import Derived.Deep.RegionHeld3
namespace Go.Proofs.Ytkkocohfdcnamaa
open Go.RowKit Go.Shelf

set_option linter.unusedVariables false
set_option linter.unusedSimpArgs false

theorem wcells_get : ∀ {S : List (Nat × List Nat)} {k : Nat} {x : Nat × List Nat}, S[k]? = some x → ∀ q, q < 4 → (wcells S)[k * 4 + q]? = (wordCells x)[q]?
  | [], k, x, h, q, hq => by simp at h
  | y :: S, 0, x, h, q, hq => by
    have : y = x := by simpa using h
    subst this
    rw [Nat.zero_mul, Nat.zero_add]
    unfold wcells
    rw [List.flatMap_cons, List.getElem?_append_left (by show q < 4; exact hq)]
  | y :: S, k + 1, x, h, q, hq => by
    have h' : S[k]? = some x := by simpa using h
    have ih := wcells_get h' q hq
    unfold wcells at *
    rw [List.flatMap_cons, List.getElem?_append_right (by show 4 ≤ _; omega), ← ih]
    congr 1
    show (k + 1) * 4 + q - 4 = _
    omega

theorem partsV_of {R : List Nat} (h : wds R = []) (hl : R.length ≤ 65536) : partsV R = true := by
  have hok : okw R = true := by unfold okw; rw [h]; rfl
  have h1 : wE R = 0 := by unfold wE; rw [if_neg (by omega), if_pos hok]
  have h2 : wL R = [] := by unfold wL; rw [if_neg (by omega), if_pos hok, h]
  unfold partsV
  rw [h1, h2]
  rfl

set_option maxRecDepth 100000 in
set_option maxHeartbeats 8000000 in
theorem stand_law (w : World) (s : ByteArray) (hs : s.size ≤ 9223372036854775807) : Calls Try.prog 5 #[.string s] w fun e w' => e = .returned (.bool true) ∧ Below w.heap.size w w' := by
  obtain ⟨L, hc, -, rfl⟩ := bytes_str s
  have hsz := str_size L
  rw [hsz] at hs
  have c0 := works_any w
  by_cases hlong : 5000 < L.length
  · go_enter Try.func5, Try.ntmps5
    go_wp2_with fail
    refine c0.mono ?_
    rintro e w1 ⟨rfl, hb1⟩
    clear c0
    have c1 := works_any w1
    go_wp2_with fail
    refine c1.mono ?_
    rintro e w2 ⟨rfl, hb2⟩
    clear c1
    go_wp2
    go_ret
    exact ⟨rfl, hb1.trans (hb2.mono hb1.size)⟩
  · replace hs : L.length < 9223372036854775807 := by omega
    have hl6 : ¬ 65536 < L.length := by omega
    rcases hok : okw L with _ | _
    · obtain ⟨p1, p2, p3, p4⟩ := bad_place hok (by omega)
      have hE : wE L = 4 := by unfold wE; rw [if_neg hl6, if_neg (by rw [hok]; decide)]
      have hA : wAt L = firstBad L := by unfold wAt; rw [if_neg hl6, if_neg (by rw [hok]; decide)]
      have hW : wL L = [] := wL_no (by omega)
      have x1 := str_extract L 0 (firstBad L)
      rw [List.drop_zero] at x1
      have x2 := str_ext_end L (firstBad L)
      rw [hsz] at x2
      have C1 := Lib.hid (fun w1 => words_any L hc hs w1)
      have C2 := Lib.hid (fun w1 => words_any (L.take (firstBad L)) (codes_take hc _) (by rw [List.length_take]; omega) w1)
      have C3 := Lib.hid (fun w1 => words_any (L.drop (firstBad L)) (codes_drop hc _) (by rw [List.length_drop]; omega) w1)
      generalize L.take (firstBad L) = LA at *
      generalize L.drop (firstBad L) = LB at *
      generalize firstBad L = p at *
      go_enter Try.func5, Try.ntmps5
      go_wp2_with fail
      refine c0.mono ?_
      rintro e w1 ⟨rfl, hb1⟩
      clear c0
      have c1 := C1.out w1
      go_wp2_with fail
      refine c1.mono ?_
      rintro e w2 ⟨⟨v, rfl, hrow⟩, hb2⟩
      clear c1
      rw [hE, hA]
      rw [hW] at hrow
      obtain ⟨A, cp, rfl⟩ := slice_form hrow
      clear hrow
      have hb12 := hb1.trans (hb2.mono hb1.size)
      clear hb1 hb2
      have c2 := C2.out w2
      go_wp2_with fail
      refine c2.mono ?_
      rintro e w3 ⟨⟨v, rfl, hrow⟩, hb3⟩
      clear c2
      rw [p2]
      obtain ⟨A, cp, rfl⟩ := slice_form hrow
      clear hrow
      have hb13 := hb12.trans (hb3.mono hb12.size)
      clear hb12 hb3
      have c3 := C3.out w3
      go_wp2_with fail
      refine c3.mono ?_
      rintro e w4 ⟨⟨v, rfl, hrow⟩, hb4⟩
      clear c3
      rw [p3, p4]
      obtain ⟨A, cp, rfl⟩ := slice_form hrow
      clear hrow
      have hb14 := hb13.trans (hb4.mono hb13.size)
      clear hb13 hb4
      go_wp2
      go_ret
      exact ⟨rfl, hb14⟩
    · have hE : wE L = 0 := by unfold wE; rw [if_neg hl6, if_pos hok]
      have hA : wAt L = 0 := by unfold wAt; rw [if_neg hl6, if_pos hok]
      have hW : wL L = wds L := by unfold wL; rw [if_neg hl6, if_pos hok]
      have hwl := wds_len L
      have C1 := Lib.hid (fun w1 => words_any L hc hs w1)
      go_enter Try.func5, Try.ntmps5
      go_wp2_with fail
      refine c0.mono ?_
      rintro e w1 ⟨rfl, hb1⟩
      clear c0
      have c1 := C1.out w1
      go_wp2_with fail
      refine c1.mono ?_
      rintro e w2 ⟨⟨v, rfl, hrow⟩, hb2⟩
      clear c1
      rw [hE, hA]
      rw [hW] at hrow
      obtain ⟨A, cp, rfl⟩ := slice_form hrow
      have hb12 := hb1.trans (hb2.mono hb1.size)
      clear hb1 hb2
      go_wp2_with fail
      go_loopw [12, 13] (fun fr i wr => ∃ k f : Nat, k ≤ (wds L).length ∧ f ≤ L.length ∧ fr = .int .i64 (f : Int) ∧ i = .int .i64 (k : Int) ∧ At L k (f + skp false (L.drop f)) ∧ Below w2.heap.size w2 wr) (fun _ i _ => (wds L).length - (intOf i).toNat)
      case atStart => exact ⟨0, 0, Nat.zero_le _, Nat.zero_le _, rfl, rfl, by rw [List.drop_zero, Nat.zero_add]; exact At.start L, Below.refl _ _⟩
      case round =>
        obtain ⟨k, f, hk, hf, rfl, rfl, hAt, hB⟩ := hrel
        by_cases hlt : k < (wds L).length
        · obtain ⟨g, rfl, hg0, hg1, hcell⟩ := row_cells hrow (by omega)
          have ha := (hAt.lt hk).1 hlt
          have hget := hAt.get ha
          have hx := hAt.next ha
          have hxl := wl_at ha
          have hpl := piece_len ha
          have hwp := wl_pos (L.drop (f + skp false (L.drop f)))
          have hkd := okw_all hok _ (List.mem_of_getElem? hget)
          have hpw : partsV ((L.drop f).take (skp false (L.drop f))) = true := by
            exact partsV_of (parts_take _) (by rw [List.length_take, List.length_drop]; omega)
          have hx1 := str_extract L (f + skp false (L.drop f)) (f + skp false (L.drop f) + wl (L.drop (f + skp false (L.drop f))))
          rw [List.drop_take, Nat.add_sub_cancel_left] at hx1
          have hx2 := str_extract L f (f + skp false (L.drop f))
          rw [List.drop_take, Nat.add_sub_cancel_left] at hx2
          have CK := Lib.hid (fun w3 => kind_any ((L.drop (f + skp false (L.drop f))).take (wl (L.drop (f + skp false (L.drop f))))) w3 (codes_take (codes_drop hc _) _) (by rw [hpl]; omega))
          have CP := Lib.hid (fun w3 => parts_any ((L.drop f).take (skp false (L.drop f))) (codes_take (codes_drop hc _) _) (by rw [List.length_take, List.length_drop]; omega) w3)
          rw [hpw] at CP
          have hk6 : kd ((L.drop (f + skp false (L.drop f))).take (wl (L.drop (f + skp false (L.drop f))))) ≤ 6 := kd_le _
          have hfa : f ≤ f + skp false (L.drop f) := Nat.le_add_right _ _
          generalize (L.drop f).take (skp false (L.drop f)) = G at *
          generalize f + skp false (L.drop f) = a at *
          generalize (L.drop a).take (wl (L.drop a)) = T at *
          generalize wl (L.drop a) = m at *
          obtain ⟨b, hb⟩ : ∃ b : Nat, b = a + m := ⟨_, rfl⟩
          rw [← hb] at hx hxl hx1
          have hbi : (a : Int) + (m : Int) = (b : Int) := by omega
          have y0 : wr.cell? ⟨g, k * 4, none⟩ = some (.int .u8 ((kd T : Nat) : Int)) := (hB.cell (p := ⟨g, k * 4 + 0, none⟩) hg1).trans (hcell _ _ ((wcells_get hget 0 (by decide)).trans rfl))
          have y1 : wr.cell? ⟨g, k * 4 + 1, none⟩ = some (.int .i64 (a : Int)) := (hB.cell (p := ⟨g, k * 4 + 1, none⟩) hg1).trans (hcell _ _ ((wcells_get hget 1 (by decide)).trans rfl))
          have y2 : wr.cell? ⟨g, k * 4 + 2, none⟩ = some (.int .i64 (b : Int)) := (hB.cell (p := ⟨g, k * 4 + 2, none⟩) hg1).trans (hcell _ _ ((wcells_get hget 2 (by decide)).trans (by rw [← hbi, ← hpl]; rfl)))
          have y3 : wr.cell? ⟨g, k * 4 + 3, none⟩ = some (.string (str T)) := (hB.cell (p := ⟨g, k * 4 + 3, none⟩) hg1).trans (hcell _ _ ((wcells_get hget 3 (by decide)).trans rfl))
          have hkt : ¬ (kd T = 0) := hkd
          have hE1 : (((kd T : Nat) : Int) == 0) = false := beq_eq_false_iff_ne.2 (by omega)
          have hd1 : ¬ (a < f) := by omega
          have hd2 : ¬ (b ≤ a) := by omega
          have hd3 : ¬ (L.length < b) := by omega
          have hi1 : ¬ ((a : Int) < (f : Int)) := by omega
          have hi2 : ¬ ((b : Int) ≤ (a : Int)) := by omega
          have hi3 : ¬ ((L.length : Int) < (b : Int)) := by omega
          have hfi : (f : Int) ≤ (a : Int) := by omega
          have hai : (a : Int) ≤ (b : Int) := by omega
          have hbl : (b : Int) ≤ (L.length : Int) := by omega
          have hal : (a : Int) ≤ (L.length : Int) := by omega
          have HX := Lib.hid hx
          have HB := Lib.hid hB
          have HBI := Lib.hid hbi
          clear hb hbi
          have HKL := Lib.hid (Nat.succ_le_of_lt hlt)
          have hkl5 : k < 5000 := by omega
          clear hcell hget hx hAt hpw hrow hB
          go_wp2_with fail
          have hbx := (Below.refl wr.heap.size wr).alloc (Nat.le_refl _) (.cells #[.int .u8 ((kd T : Nat) : Int), .int .i64 (a : Int), .int .i64 (b : Int), .string (str T)] 35)
          have hnew := World.alloc_heap_new wr (.cells #[.int .u8 ((kd T : Nat) : Int), .int .i64 (a : Int), .int .i64 (b : Int), .string (str T)] 35)
          have HBX := Lib.hid (HB.out.trans (hbx.mono HB.out.size))
          clear y0 y1 y2 y3 hbx
          generalize wr.alloc (.cells #[.int .u8 ((kd T : Nat) : Int), .int .i64 (a : Int), .int .i64 (b : Int), .string (str T)] 35) = W at *
          have s0 : (W.drew.cell? ⟨wr.heap.size, 0, none⟩ = some (.int .u8 ((kd T : Nat) : Int)) ∧ W.drew.cell? ⟨wr.heap.size, 1, none⟩ = some (.int .i64 (a : Int))) ∧ W.drew.cell? ⟨wr.heap.size, 2, none⟩ = some (.int .i64 (b : Int)) ∧ W.drew.cell? ⟨wr.heap.size, 3, none⟩ = some (.string (str T)) :=
            ⟨⟨(cell_of_row W _ _ _ _ _ hnew).trans rfl, (cell_of_row W _ _ _ _ _ hnew).trans rfl⟩, (cell_of_row W _ _ _ _ _ hnew).trans rfl, (cell_of_row W _ _ _ _ _ hnew).trans rfl⟩
          have hvl : wr.heap.size < W.drew.heap.size := (Array.getElem?_eq_some_iff.1 hnew).1
          have HS0 := Lib.hid s0
          have hst := str_self (str T)
          clear hnew
          generalize hvv : wr.heap.size = vb at *
          clear hvv
          go_region_held3 (fun w' => (w'.cell? ⟨vb, 0, none⟩ = some (.int .u8 ((kd T : Nat) : Int)) ∧ w'.cell? ⟨vb, 1, none⟩ = some (.int .i64 (a : Int))) ∧ w'.cell? ⟨vb, 2, none⟩ = some (.int .i64 (b : Int)) ∧ w'.cell? ⟨vb, 3, none⟩ = some (.string (str T))) (first | exact s0 | exact s1 | exact s2) (first
            | (go_at_call 9; (with_reducible refine (CK.out _).mono ?_); rintro e w3 ⟨rfl, hb3⟩; have s1 : (w3.cell? ⟨vb, 0, none⟩ = some (.int .u8 ((kd T : Nat) : Int)) ∧ w3.cell? ⟨vb, 1, none⟩ = some (.int .i64 (a : Int))) ∧ w3.cell? ⟨vb, 2, none⟩ = some (.int .i64 (b : Int)) ∧ w3.cell? ⟨vb, 3, none⟩ = some (.string (str T)) := ⟨⟨(hb3.cell (p := ⟨vb, 0, none⟩) hvl).trans s0.1.1, (hb3.cell (p := ⟨vb, 1, none⟩) hvl).trans s0.1.2⟩, (hb3.cell (p := ⟨vb, 2, none⟩) hvl).trans s0.2.1, (hb3.cell (p := ⟨vb, 3, none⟩) hvl).trans s0.2.2⟩)
            | (go_at_call 15; (with_reducible refine (CP.out _).mono ?_); rintro e w4 ⟨rfl, hb4⟩; have s2 : (w4.cell? ⟨vb, 0, none⟩ = some (.int .u8 ((kd T : Nat) : Int)) ∧ w4.cell? ⟨vb, 1, none⟩ = some (.int .i64 (a : Int))) ∧ w4.cell? ⟨vb, 2, none⟩ = some (.int .i64 (b : Int)) ∧ w4.cell? ⟨vb, 3, none⟩ = some (.string (str T)) := ⟨⟨(hb4.cell (p := ⟨vb, 0, none⟩) (Nat.lt_of_lt_of_le hvl hb3.size)).trans s1.1.1, (hb4.cell (p := ⟨vb, 1, none⟩) (Nat.lt_of_lt_of_le hvl hb3.size)).trans s1.1.2⟩, (hb4.cell (p := ⟨vb, 2, none⟩) (Nat.lt_of_lt_of_le hvl hb3.size)).trans s1.2.1, (hb4.cell (p := ⟨vb, 3, none⟩) (Nat.lt_of_lt_of_le hvl hb3.size)).trans s1.2.2⟩))
          all_goals
            have q1 := HBX.out.drew.trans (hb3.mono HBX.out.drew.size)
            have HB2 := Lib.hid (q1.trans (hb4.mono q1.size))
            have z1 := s2.1.2
            have z2 := s2.2.1
            clear s0 s1 s2 q1
            go_wp2_with fail
            go_roundw
            case rel => exact ⟨k + 1, b, HKL.out, by omega, rfl, by go_num, HX.out, HB2.out⟩
            case measure => simp [intOf]; omega
        · obtain rfl : k = (wds L).length := by omega
          have hna : ¬ f + skp false (L.drop f) < L.length := fun h => Nat.lt_irrefl _ ((hAt.lt (Nat.le_refl _)).2 h)
          have hle := skp_le false (L.drop f)
          rw [List.length_drop] at hle
          have hp : partsV (L.drop f) = true := partsV_of (parts_only (by rw [List.length_drop]; omega)) (by rw [List.length_drop]; omega)
          have cp2 := parts_any (L.drop f) (codes_drop hc _) (by rw [List.length_drop]; omega) wr
          rw [hp] at cp2
          have hx2 := str_ext_end L f
          rw [hsz] at hx2
          have HB2 := Lib.hid (hb12.trans (hB.mono hb12.size))
          clear hrow hAt hna hle hp hB
          go_wp2_with fail
          refine cp2.mono ?_
          rintro e w5 ⟨rfl, hb5⟩
          clear cp2
          go_wp2
          go_ret
          exact ⟨rfl, HB2.out.trans (hb5.mono HB2.out.size)⟩

end Go.Proofs.Ytkkocohfdcnamaa

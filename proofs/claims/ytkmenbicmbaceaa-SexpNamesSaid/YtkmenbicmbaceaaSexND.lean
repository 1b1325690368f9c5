/- SexpNames, the law (under way). -/
import Derived.Laws.Concat
import Derived.Test.YtkmenbicmbaceaaSexNF
import Derived.Test.YtkmenbicmbaceaaSexP
namespace Go.Proofs.Ytkmenbicmbaceaa
open Go.RowKit

set_option linter.unusedVariables false
set_option linter.unusedSimpArgs false

theorem str_append (A B : List Nat) : str A ++ str B = str (A ++ B) := by
  apply ByteArray.ext
  rw [ByteArray.data_append]
  show (A.map UInt8.ofNat).toArray ++ (B.map UInt8.ofNat).toArray = ((A ++ B).map UInt8.ofNat).toArray
  rw [List.append_toArray, List.map_append]
theorem add_run (A B : List Nat) (w : World) (h : A.length + B.length ≤ 9223372036854775807) : (Op.stringOp .add (str A) (str B)).run Try.prog w = .ok (.string (str (A ++ B))) w := by
  rw [run_string_add_sum (P := Try.prog) w (str A) (str B) (by rw [str_size, str_size]; exact h), str_append]
/-- the lists of the deep text -/
structure Half (LO LC LB : List Nat) : Prop where
  o : LO = List.replicate 32768 40
  c : LC = List.replicate 32768 41
  b : LB = List.replicate 65537 32
theorem codes_rep {n c : Nat} (h : c < 256) : Codes (List.replicate n c) := fun x hx => by rw [(List.mem_replicate.1 hx).2]; exact h
theorem codes_app {A B : List Nat} (h : Codes A) (h' : Codes B) : Codes (A ++ B) := fun x hx => (List.mem_append.1 hx).elim (h x) (h' x)
theorem half_yes {LO LC LB : List Nat} (h : Half LO LC LB) : (rdd 32768 (LO ++ LC)).F = nest 0 32768 ∧ (rdd 32768 (LO ++ LC)).at' = 0 ∧ (rdd 32768 (LO ++ LC)).e = 0 := by
  rw [h.o, h.c]; exact par_yes (k := 32768) (by decide)
theorem half_no {LO LC LB : List Nat} (h : Half LO LC LB) : (rdd 32767 (LO ++ LC)).F = .nil ∧ (rdd 32767 (LO ++ LC)).at' = 32767 ∧ (rdd 32767 (LO ++ LC)).e = 46 := by
  rw [h.o, h.c]; exact par_no (k := 32768) (by decide) (by decide)
theorem half_blank {LO LC LB : List Nat} (h : Half LO LC LB) (d : Int) : (rdd d LB).at' = 65536 ∧ (rdd d LB).e = 40 := blanks_no d (by rw [h.b, List.length_replicate])
theorem half_fine {LO LC LB : List Nat} (h : Half LO LC LB) : LO.length = 32768 ∧ LC.length = 32768 ∧ LB.length = 65537 ∧ Codes (LO ++ LC) ∧ Codes LB := by
  rw [h.o, h.c, h.b]
  refine ⟨List.length_replicate, List.length_replicate, List.length_replicate, codes_app (codes_rep (by decide)) (codes_rep (by decide)), codes_rep (by decide)⟩
theorem half_one : ∃ K : For, nest 0 32768 = .cons 0 0 [] K .nil ∧ K.siz = 32767 ∧ K.dep = 32767 := by
  refine ⟨nest 1 32767, ?_, nest_siz _ _, nest_dep _ _⟩
  have h : ∀ n, nest 0 (n + 1) = .cons 0 ((0 : Nat) : Int) [] (nest 1 n) .nil := fun n => rfl
  exact h 32767
theorem below_setc {n b j : Nat} {w W : World} {v : Value} (h : Below n w W) (hb : n ≤ b) : Below n w (W.setCell ⟨b, j, none⟩ v) :=
  ⟨h.os, h.tape, h.output, by simpa [World.setCell] using h.size, fun k hk => (Below.heap_setCell _ _ _ _ (show k ≠ b by omega)).trans (h.block k hk)⟩
set_option maxRecDepth 100000 in
set_option maxHeartbeats 8000000 in
theorem names_law (w : World) : Calls Try.prog 3 #[] w fun e w' => e = .returned (.bool true) ∧ Below w.heap.size w w' := by
  have CA := Lib.hid awake_any
  have hSN := Lib.hid sn_at
  obtain ⟨LO, hLO⟩ : ∃ LO, LO = List.replicate 32768 40 := ⟨_, rfl⟩
  obtain ⟨LC, hLC⟩ : ∃ LC, LC = List.replicate 32768 41 := ⟨_, rfl⟩
  obtain ⟨LB, hLB⟩ : ∃ LB, LB = List.replicate 65537 32 := ⟨_, rfl⟩
  have HF := Lib.hid (Half.mk hLO hLC hLB)
  have MO := Lib.hid (fun w1 => many_any 40 32768 w1 (by decide) (by decide) (by decide))
  have MC := Lib.hid (fun w1 => many_any 41 32768 w1 (by decide) (by decide) (by decide))
  have MB := Lib.hid (fun w1 => many_any 32 65537 w1 (by decide) (by decide) (by decide))
  rw [← hLO] at MO
  rw [← hLC] at MC
  rw [← hLB] at MB
  clear hLO hLC hLB
  go_enter Try.func3, Try.ntmps3
  go_wp2_with fail
  refine (CA.out _).mono ?_
  rintro e w1 ⟨rfl, hb1⟩
  have HB1 := Lib.hid hb1
  clear hb1
  go_wp2_with fail
  obtain ⟨W, hW⟩ : ∃ W, w1.alloc (.cells snC 24) = W := ⟨_, rfl⟩
  have hbW : Below w1.heap.size w1 W := hW ▸ (Below.refl _ w1).alloc (Nat.le_refl _) _
  have hnW : W.heap[w1.heap.size]? = some (.cells snC 24 (0, 0)) := hW ▸ lone_new w1 _ _
  unfold snC at hW
  rw [hW]
  have HBW := Lib.hid (HB1.out.trans (hbW.mono HB1.out.size))
  have HNW := Lib.hid hnW
  clear hW hbW hnW
  generalize w1.heap.size = g at *
  go_loopw [39] (fun i wr => ∃ j : Nat, i = .int .i64 (j : Int) ∧ j ≤ 14 ∧ Below W.heap.size W wr) (fun i _ => 14 - (intOf i).toNat)
  case atStart => exact ⟨0, rfl, by omega, Below.refl _ _⟩
  case round =>
    obtain ⟨j, rfl, hj, hB⟩ := hrel
    by_cases hlt : j < 14
    · have hj1 : (j : Int) < 14 := by omega
      have hj0 : (0 : Int) ≤ (j : Int) := by omega
      obtain ⟨L, d, a, ee, l1, l2, l3, l4, c0, c1, c2, c3, f1, f2, f3⟩ := hSN.out j hlt
      have hxr := (hB.block g (kind_lt HNW.out)).trans HNW.out
      have y0 : wr.cell? ⟨g, j * 4, none⟩ = some (.string (str L)) := by rw [cell_of hxr]; exact c0
      have y1 : wr.cell? ⟨g, j * 4 + 1, none⟩ = some (.int .i64 d) := by rw [cell_of hxr]; exact c1
      have y2 : wr.cell? ⟨g, j * 4 + 2, none⟩ = some (.int .i64 a) := by rw [cell_of hxr]; exact c2
      have y3 : wr.cell? ⟨g, j * 4 + 3, none⟩ = some (.int .i64 ee) := by rw [cell_of hxr]; exact c3
      have CR := Lib.hid (fun w2 => readfn_any L d w2 l2 l1 l3 l4)
      unfold ReadQ at CR
      rw [f1, f2] at CR
      have HF3 := Lib.hid f3
      obtain ⟨VA, hVA⟩ : ∃ VA, wr.alloc (.cells #[.string (str L), .int .i64 d, .int .i64 a, .int .i64 ee] 24) = VA := ⟨_, rfl⟩
      have hbA : Below wr.heap.size wr VA := hVA ▸ (Below.refl _ wr).alloc (Nat.le_refl _) _
      have hnA : VA.heap[wr.heap.size]? = some (.cells #[.string (str L), .int .i64 d, .int .i64 a, .int .i64 ee] 24 (0, 0)) := hVA ▸ lone_new wr _ _
      have HNA := Lib.hid hnA
      have HBA := Lib.hid (hB.trans (hbA.mono hB.size))
      have z0 : VA.cell? ⟨wr.heap.size, 0, none⟩ = some (.string (str L)) := by rw [cell_of hnA]; rfl
      have z1 : VA.cell? ⟨wr.heap.size, 1, none⟩ = some (.int .i64 d) := by rw [cell_of hnA]; rfl
      clear hbA hnA hB hxr c0 c1 c2 c3 f1 f2 f3 l1 l2
      generalize str L = T at *
      go_wp2_with fail
      refine (CR.out VA).mono ?_
      rintro e w2 ⟨⟨v, B, ks, rfl, hBB, hK, hn⟩, hb2⟩
      obtain ⟨A, cp, rfl, hKd⟩ := hK.kds
      have hx2 := (hb2.block _ (kind_lt HNA.out)).trans HNA.out
      have x2 : w2.cell? ⟨wr.heap.size, 2, none⟩ = some (.int .i64 a) := by rw [cell_of hx2]; rfl
      have x3 : w2.cell? ⟨wr.heap.size, 3, none⟩ = some (.int .i64 ee) := by rw [cell_of hx2]; rfl
      have HB2 := Lib.hid (HBA.out.trans (hb2.mono HBA.out.size))
      clear hBB hK hn hb2 hx2 hKd y0 y1 y2 y3 z0 z1
      rcases HF3.out with h | h
      · have h1 : (ee != 0) = false := by simp [h]
        have h2 : (ee == 0) = true := by simp [h]
        clear h
        go_wp2_with fail
        go_roundw
        case measure => simp only [intOf]; omega
        case rel => exact ⟨j + 1, by congr 1, by omega, HB2.out⟩
      · rw [h]
        have h1 : For.nil.len = 0 := rfl
        rw [h1]
        clear h
        go_wp2_with fail
        all_goals exact ⟨⟨j + 1, by congr 1, by omega, HB2.out⟩, by simp only [intOf]; omega⟩
    · obtain rfl : j = 14 := by omega
      have HBR := Lib.hid (HBW.out.trans (hB.mono HBW.out.size))
      clear hB
      have CN := Lib.hid (fun w2 => read_nil [120] w2)
      have RB := Lib.hid (fun w2 => readfn_any LB 9 w2 (half_fine HF.out).2.2.2.2 (by rw [(half_fine HF.out).2.2.1]; decide) (by decide) (by decide))
      have RH := Lib.hid (fun w2 => readfn_any (LO ++ LC) 32768 w2 (half_fine HF.out).2.2.2.1 (by rw [List.length_append, (half_fine HF.out).1, (half_fine HF.out).2.1]; decide) (by decide) (by decide))
      have RN := Lib.hid (fun w2 => wrong_yes (LO ++ LC) 32767 32767 46 w2 (half_fine HF.out).2.2.2.1 (by rw [List.length_append, (half_fine HF.out).1, (half_fine HF.out).2.1]; decide) (by decide) (by decide) (half_no HF.out).1 (half_no HF.out).2.1 (half_no HF.out).2.2)
      have hadd : ∀ w2, (Op.stringOp .add (str LO) (str LC)).run Try.prog w2 = .ok (.string (str (LO ++ LC))) w2 := fun w2 => add_run LO LC w2 (by rw [(half_fine HF.out).1, (half_fine HF.out).2.1]; decide)
      unfold ReadQ at RB RH
      rw [(half_blank HF.out 9).1, (half_blank HF.out 9).2] at RB
      rw [(half_yes HF.out).1, (half_yes HF.out).2.1, (half_yes HF.out).2.2] at RH
      obtain ⟨TO, hTO⟩ : ∃ TO, TO = str LO := ⟨_, rfl⟩
      obtain ⟨TC, hTC⟩ : ∃ TC, TC = str LC := ⟨_, rfl⟩
      obtain ⟨TB, hTB⟩ : ∃ TB, TB = str LB := ⟨_, rfl⟩
      obtain ⟨TS, hTS⟩ : ∃ TS, TS = str (LO ++ LC) := ⟨_, rfl⟩
      obtain ⟨NF, hNF⟩ : ∃ NF, NF = nest 0 32768 := ⟨_, rfl⟩
      rw [← hTO] at MO hadd
      rw [← hTC] at MC hadd
      rw [← hTB] at MB RB
      rw [← hTS] at RH RN hadd
      rw [← hNF] at RH
      have HNF := Lib.hid hNF
      clear hTO hTC hTB hTS hNF
      go_wp2_with fail
      refine (CN.out wr).mono ?_
      rintro e w2 ⟨rfl, rfl⟩
      go_wp2_with fail
      refine (MB.out w2).mono ?_
      rintro e w3 ⟨rfl, hb3⟩
      have HB3 := Lib.hid (HBR.out.trans (hb3.mono HBR.out.size))
      clear hb3
      go_wp2_with fail
      refine (RB.out w3).mono ?_
      rintro e w4 ⟨⟨v, B, ks, rfl, hBB, hK, hn⟩, hb4⟩
      obtain ⟨A9, cp9, rfl, -⟩ := hK.kds
      have HB4 := Lib.hid (HB3.out.trans (hb4.mono HB3.out.size))
      clear hBB hK hn hb4
      generalize (rdd 9 LB).F.len = n9 at *
      go_wp2_with fail
      refine (MO.out w4).mono ?_
      rintro e w5 ⟨rfl, hb5⟩
      have HB5 := Lib.hid (HB4.out.trans (hb5.mono HB4.out.size))
      clear hb5
      go_wp2_with fail
      refine (MC.out w5).mono ?_
      rintro e w6 ⟨rfl, hb6⟩
      have HB6 := Lib.hid (HB5.out.trans (hb6.mono HB5.out.size))
      clear hb6
      go_wp2_with fail
      refine (RH.out w6).mono ?_
      rintro e w7 ⟨⟨v, B, ks, rfl, hBB, hK, hn⟩, hb7⟩
      obtain ⟨K, k1, k2, k3⟩ := half_one
      rw [HNF.out, k1] at hK
      obtain ⟨A, cp, rfl, hKd⟩ := hK.kds
      have hone : (For.cons 0 0 [] K .nil).len = 1 := rfl
      rw [hone]
      rcases hKd with h | ⟨b, o, rfl, g0, g1, g2, -, -, -, ⟨A1, m1, g3, hKK⟩, -⟩
      · cases h
      have HB7 := Lib.hid (HB6.out.trans (hb7.mono HB6.out.size))
      have HKK := Lib.hid (show Kds w7 K A1 from hKK)
      have CD : Hid (∀ w2, Kds w2 K A1 → Calls Try.prog 12 #[.agg #[.int .u8 0, .int .i64 0, .string (str []), .slice A1 K.len m1]] w2 fun e w' => e = .returned (.int .i64 32768) ∧ Below w2.heap.size w2 w') := fun w2 h => by
        have c := depth_any 32768 0 0 [] K A1 m1 w2 (by decide) (by omega) (by omega) h
        have e : For.ndep 0 K = 32768 := by unfold For.ndep; rw [if_pos rfl, k3]
        rw [e] at c
        exact c
      have CZ : Hid (∀ w2, Kds w2 K A1 → Calls Try.prog 13 #[.agg #[.int .u8 0, .int .i64 0, .string (str []), .slice A1 K.len m1]] w2 fun e w' => e = .returned (.int .i64 32768) ∧ Below w2.heap.size w2 w') := fun w2 h => by
        have c := size_any 32768 0 0 [] K A1 m1 w2 (by decide) (by omega) (by omega) h
        have e : 1 + K.siz = 32768 := by rw [k2]
        rw [e] at c
        exact c
      have HG : Hid (∀ w2, Below w7.heap.size w7 w2 → w2.cell? ⟨b, o, none⟩ = some (.int .u8 0) ∧ w2.cell? ⟨b, o + 1, none⟩ = some (.int .i64 0) ∧ w2.cell? ⟨b, o + 2, none⟩ = some (.string (str [])) ∧ w2.cell? ⟨b, o + 3, none⟩ = some (.slice A1 K.len m1)) := fun w2 h => ⟨keep_below h _ _ g0, keep_below h _ _ g1, keep_below h _ _ g2, keep_below h _ _ g3⟩
      clear hBB hK hn hb7 k1 k2 k3 hKK hone
      go_wp2_with fail
      refine (CD.out w7 HKK.out).mono ?_
      rintro e w8 ⟨rfl, hb8⟩
      clear g0 g1 g2 g3
      obtain ⟨g0, g1, g2, g3⟩ := HG.out w8 hb8
      have H8 := Lib.hid hb8
      have HB8 := Lib.hid (HB7.out.trans (hb8.mono HB7.out.size))
      clear hb8
      go_wp2_with fail
      refine (CZ.out w8 (HKK.out.below H8.out)).mono ?_
      rintro e w9 ⟨rfl, hb9⟩
      have HB9 := Lib.hid (HB8.out.trans (hb9.mono HB8.out.size))
      clear hb9 g0 g1 g2 g3
      go_wp2_with fail
      refine (MO.out w9).mono ?_
      rintro e w10 ⟨rfl, hb10⟩
      have HB10 := Lib.hid (HB9.out.trans (hb10.mono HB9.out.size))
      clear hb10
      go_wp2_with fail
      refine (MC.out w10).mono ?_
      rintro e w11 ⟨rfl, hb11⟩
      have HB11 := Lib.hid (HB10.out.trans (hb11.mono HB10.out.size))
      clear hb11
      go_wp2_with fail
      refine (RN.out w11).mono ?_
      rintro e w12 ⟨rfl, hb12⟩
      have HB12 := Lib.hid (HB11.out.trans (hb12.mono HB11.out.size))
      clear hb12 CD CZ HKK HG H8 HNF MO MC MB RB RH RN hadd HBR HB3 HB4 HB5 HB6 HB7 HB8 HB9 HB10 HB11
      go_wp2_with fail
      have hwle := HB12.out.size
      obtain ⟨Y1, hY1⟩ : ∃ Y1, w12.alloc (.cells #[.int .u8 0, .int .i64 0, .string ⟨#[]⟩, .slice none 0 0] 33) = Y1 := ⟨_, rfl⟩
      have bY1 : Below w12.heap.size w12 Y1 := hY1 ▸ (Below.refl _ w12).alloc (Nat.le_refl _) _
      have nY1 : Y1.heap[w12.heap.size]? = some (.cells #[.int .u8 0, .int .i64 0, .string ⟨#[]⟩, .slice none 0 0] 33 (0, 0)) := hY1 ▸ lone_new w12 _ _
      have sY1 : Y1.heap.size = w12.heap.size + 1 := by rw [← hY1]; exact World.size_alloc _ _
      rw [hY1]
      obtain ⟨Y2, hY2⟩ : ∃ Y2, Y1.alloc (.cells #[.int .u8 5, .int .i64 0, .string ⟨#[]⟩, .slice none 0 0] 33) = Y2 := ⟨_, rfl⟩
      have bY2 : Below Y1.heap.size Y1 Y2 := hY2 ▸ (Below.refl _ Y1).alloc (Nat.le_refl _) _
      have nY2 : Y2.heap[Y1.heap.size]? = some (.cells #[.int .u8 5, .int .i64 0, .string ⟨#[]⟩, .slice none 0 0] 33 (0, 0)) := hY2 ▸ lone_new Y1 _ _
      have sY2 : Y2.heap.size = Y1.heap.size + 1 := by rw [← hY2]; exact World.size_alloc _ _
      rw [hY2]
      obtain ⟨h, hh⟩ : ∃ h, h = w12.heap.size := ⟨_, rfl⟩
      rw [← hh] at bY1 nY1 sY1 ⊢
      obtain ⟨Y3, hY3⟩ : ∃ Y3, Y2.alloc (.cells (nnC h) 33) = Y3 := ⟨_, rfl⟩
      have bY3 : Below Y2.heap.size Y2 Y3 := hY3 ▸ (Below.refl _ Y2).alloc (Nat.le_refl _) _
      have nY3 : Y3.heap[Y2.heap.size]? = some (.cells (nnC h) 33 (0, 0)) := hY3 ▸ lone_new Y2 _ _
      unfold nnC at hY3
      rw [hY3]
      have e2 : Y2.heap.size = h + 1 + 1 := by rw [sY2, sY1]
      rw [sY1] at nY2 bY2
      rw [e2] at nY3 bY3
      have b13 : Below h Y1 Y3 := (bY2.mono (by omega)).trans (bY3.mono (by omega))
      have n1 := (bY2.block h (by omega)).trans nY1
      have n1 := (bY3.block h (by omega)).trans n1
      have n2 := (bY3.block (h + 1) (by omega)).trans nY2
      have HKA : Hid (Kds Y3 kidsA (some ⟨h, 0, none⟩)) := .inr ⟨h, 0, rfl, by rw [cell_of n1]; rfl, by rw [cell_of n1]; rfl, by rw [cell_of n1]; rfl, by decide, (fun _ h => by cases h), by decide, ⟨none, 0, by rw [cell_of n1]; rfl, .inl rfl⟩, trivial⟩
      have HKB : Hid (Kds Y3 kidsB (some ⟨h + 1, 0, none⟩)) := .inr ⟨h + 1, 0, rfl, by rw [cell_of n2]; rfl, by rw [cell_of n2]; rfl, by rw [cell_of n2]; rfl, by decide, (fun _ h => by cases h), by decide, ⟨none, 0, by rw [cell_of n2]; rfl, .inl rfl⟩, trivial⟩
      have HBY := Lib.hid (HB12.out.trans (bY1.trans b13 |>.mono (by rw [hh]; exact hwle)))
      have HN3 := Lib.hid nY3
      clear hY1 hY2 hY3 bY1 bY2 bY3 nY1 nY2 nY3 sY1 sY2 b13 n1 n2 e2 hwle hh
      go_loopw [157] (fun i wr => ∃ j : Nat, i = .int .i64 (j : Int) ∧ j ≤ 9 ∧ Below Y3.heap.size Y3 wr) (fun i _ => 9 - (intOf i).toNat)
      case atStart => exact ⟨0, rfl, by omega, Below.refl _ _⟩
      case round =>
        obtain ⟨j, rfl, hj, hB⟩ := hrel
        by_cases hlt : j < 9
        · have hj1 : (j : Int) < 9 := by omega
          have hj0 : (0 : Int) ≤ (j : Int) := by omega
          obtain ⟨k, t, c, A, m, l1, l2, l3, l4, c0, c1, c2, c3, f1, f2, f3, f4⟩ := nn_at h j hlt
          have hxr := (hB.block (h + 1 + 1) (kind_lt HN3.out)).trans HN3.out
          have y0 : wr.cell? ⟨h + 1 + 1, j * 4, none⟩ = some (.int .u8 (k : Int)) := by rw [cell_of hxr]; exact c0
          have y1 : wr.cell? ⟨h + 1 + 1, j * 4 + 1, none⟩ = some (.int .i64 0) := by rw [cell_of hxr]; exact c1
          have y2 : wr.cell? ⟨h + 1 + 1, j * 4 + 2, none⟩ = some (.string (str t)) := by rw [cell_of hxr]; exact c2
          have y3 : wr.cell? ⟨h + 1 + 1, j * 4 + 3, none⟩ = some (.slice A c.len m) := by rw [cell_of hxr]; exact c3
          obtain ⟨VA, hVA⟩ : ∃ VA, wr.alloc (.cells #[.int .u8 (k : Int), .int .i64 0, .string (str t), .slice A c.len m] 33) = VA := ⟨_, rfl⟩
          have hbA : Below wr.heap.size wr VA := hVA ▸ (Below.refl _ wr).alloc (Nat.le_refl _) _
          have hnA : VA.heap[wr.heap.size]? = some (.cells #[.int .u8 (k : Int), .int .i64 0, .string (str t), .slice A c.len m] 33 (0, 0)) := hVA ▸ lone_new wr _ _
          have HBA := Lib.hid (hB.trans (hbA.mono hB.size))
          have HK := Lib.hid (fun w2 (hb : Below VA.heap.size VA w2) => f4 w2 (HKA.out.below (HBA.out.trans (hb.mono HBA.out.size))) (HKB.out.below (HBA.out.trans (hb.mono HBA.out.size))))
          have HZ : Hid (∀ w2, Below VA.heap.size VA w2 → w2.cell? ⟨wr.heap.size, 0, none⟩ = some (.int .u8 (k : Int)) ∧ w2.cell? ⟨wr.heap.size, 1, none⟩ = some (.int .i64 0) ∧ w2.cell? ⟨wr.heap.size, 2, none⟩ = some (.string (str t)) ∧ w2.cell? ⟨wr.heap.size, 3, none⟩ = some (.slice A c.len m)) := fun w2 hb => by
            have hx := (hb.block _ (kind_lt hnA)).trans hnA
            exact ⟨by rw [cell_of hx]; rfl, by rw [cell_of hx]; rfl, by rw [cell_of hx]; rfl, by rw [cell_of hx]; rfl⟩
          have CM := may_node 2 k 0 t c A m VA l1 l2 l3 l4 (by omega) (HK.out VA (Below.refl _ _))
          rw [f1] at CM
          have CS := Lib.hid (fun w2 hb => show_any k 0 t c A m w2 l1 l2 l3 (by omega) (HK.out w2 hb) (fun h => by rw [f1] at h; cases h))
          rw [f2] at CS
          have CQ := Lib.hid (fun w2 hb => same_node 2 k 0 t c A m k 0 t c A m w2 l2 l2 l4 (by omega) (by omega) (HK.out w2 hb) (HK.out w2 hb))
          rw [f3] at CQ
          obtain ⟨z0, z1, z2, z3⟩ := HZ.out VA (Below.refl _ _)
          have he0 : str [] = ⟨#[]⟩ := rfl
          rw [he0] at CS
          clear hbA hnA hB hxr c0 c1 c2 c3 f1 f2 f3 f4 l1 l2 l3 l4 HK he0
          generalize str t = T at *
          generalize c.len = cl at *
          go_wp2_with fail
          refine CM.mono ?_
          rintro e w13 ⟨rfl, hb13⟩
          clear z0 z1 z2 z3
          obtain ⟨z0, z1, z2, z3⟩ := HZ.out w13 hb13
          have H13 := Lib.hid hb13
          clear hb13 CM
          go_wp2_with fail
          refine (CS.out w13 H13.out).mono ?_
          rintro e w14 ⟨rfl, hb14⟩
          clear z0 z1 z2 z3
          have H14 := Lib.hid (H13.out.trans (hb14.mono H13.out.size))
          obtain ⟨z0, z1, z2, z3⟩ := HZ.out w14 H14.out
          clear hb14
          go_wp2_with fail
          refine (CQ.out w14 H14.out).mono ?_
          rintro e w15 ⟨rfl, hb15⟩
          have H15 := Lib.hid (HBA.out.trans ((H14.out.trans (hb15.mono H14.out.size)).mono HBA.out.size))
          clear hb15 z0 z1 z2 z3
          go_wp2_with fail
          all_goals exact ⟨⟨j + 1, by congr 1, by omega, H15.out⟩, by simp only [intOf]; omega⟩
        · obtain rfl : j = 9 := by omega
          have HB16 := Lib.hid (HBY.out.trans (hB.mono HBY.out.size))
          clear hB
          have hA0 : ∀ X : World, (X.alloc (.cells #[.int .u8 5, .int .i64 5, .string ⟨#[97]⟩, .slice none 0 0] 33)).heap.size = X.heap.size + 1 := fun X => World.size_alloc _ _
          obtain ⟨q, hq⟩ : ∃ q, q = wr.heap.size := ⟨_, rfl⟩
          obtain ⟨X1, hX1⟩ : ∃ X1, wr.alloc (.cells #[.int .u8 0, .int .i64 0, .string ⟨#[]⟩, .slice none 0 0] 33) = X1 := ⟨_, rfl⟩
          have bX1 : Below wr.heap.size wr X1 := hX1 ▸ (Below.refl _ wr).alloc (Nat.le_refl _) _
          have nX1 : X1.heap[wr.heap.size]? = some (.cells #[.int .u8 0, .int .i64 0, .string ⟨#[]⟩, .slice none 0 0] 33 (0, 0)) := hX1 ▸ lone_new wr _ _
          have sX1 : X1.heap.size = wr.heap.size + 1 := by rw [← hX1]; exact World.size_alloc _ _
          obtain ⟨V0, hX2⟩ : ∃ V0, X1.alloc (.cells #[.int .u8 0, .int .i64 0, .string ⟨#[]⟩, .slice none 0 0] 33) = V0 := ⟨_, rfl⟩
          have bX2 : Below X1.heap.size X1 V0 := hX2 ▸ (Below.refl _ X1).alloc (Nat.le_refl _) _
          have nb0 : V0.heap[X1.heap.size]? = some (.cells #[.int .u8 0, .int .i64 0, .string ⟨#[]⟩, .slice none 0 0] 33 (0, 0)) := hX2 ▸ lone_new X1 _ _
          have sV0 : V0.heap.size = wr.heap.size + 1 + 1 := by rw [← hX2, World.size_alloc, sX1]
          rw [sX1] at nb0 bX2
          have na0 := (bX2.block wr.heap.size (by omega)).trans nX1
          have bV0 : Below wr.heap.size wr V0 := bX1.trans (bX2.mono (by omega))
          have r0 : V0.cell? ⟨wr.heap.size, 0, none⟩ = some (.int .u8 0) := by rw [cell_of na0]; rfl
          have rf0 : V0.frozen? ⟨wr.heap.size, 0, none⟩ = false := frozen_of na0 0
          obtain ⟨V1, hV1⟩ : ∃ V1, V0.setCell ⟨wr.heap.size, 0, none⟩ (.int .u8 5) = V1 := ⟨_, rfl⟩
          have na1 : V1.heap[wr.heap.size]? = some (.cells #[.int .u8 5, .int .i64 0, .string ⟨#[]⟩, .slice none 0 0] 33 (0, 0)) := hV1 ▸ Joins.block_setCell na0 _
          have nb1 : V1.heap[wr.heap.size + 1]? = some (.cells #[.int .u8 0, .int .i64 0, .string ⟨#[]⟩, .slice none 0 0] 33 (0, 0)) := (hV1 ▸ Below.heap_setCell _ _ _ _ (show wr.heap.size + 1 ≠ wr.heap.size by omega) : V1.heap[wr.heap.size + 1]? = V0.heap[wr.heap.size + 1]?).trans nb0
          have bV1 : Below wr.heap.size wr V1 := hV1 ▸ below_setc bV0 (by omega)
          have sV1 : V1.heap.size = wr.heap.size + 1 + 1 := by rw [← hV1, ← sV0]; simp [World.setCell]
          have r1 : V1.cell? ⟨wr.heap.size, 1, none⟩ = some (.int .i64 0) := by rw [cell_of na1]; rfl
          have rf1 : V1.frozen? ⟨wr.heap.size, 1, none⟩ = false := frozen_of na1 1
          obtain ⟨V2, hV2⟩ : ∃ V2, V1.setCell ⟨wr.heap.size, 1, none⟩ (.int .i64 5) = V2 := ⟨_, rfl⟩
          have na2 : V2.heap[wr.heap.size]? = some (.cells #[.int .u8 5, .int .i64 5, .string ⟨#[]⟩, .slice none 0 0] 33 (0, 0)) := hV2 ▸ Joins.block_setCell na1 _
          have nb2 : V2.heap[wr.heap.size + 1]? = some (.cells #[.int .u8 0, .int .i64 0, .string ⟨#[]⟩, .slice none 0 0] 33 (0, 0)) := (hV2 ▸ Below.heap_setCell _ _ _ _ (show wr.heap.size + 1 ≠ wr.heap.size by omega) : V2.heap[wr.heap.size + 1]? = V1.heap[wr.heap.size + 1]?).trans nb1
          have bV2 : Below wr.heap.size wr V2 := hV2 ▸ below_setc bV1 (by omega)
          have sV2 : V2.heap.size = wr.heap.size + 1 + 1 := by rw [← hV2, ← sV1]; simp [World.setCell]
          have r2 : V2.cell? ⟨wr.heap.size, 2, none⟩ = some (.string ⟨#[]⟩) := by rw [cell_of na2]; rfl
          have rf2 : V2.frozen? ⟨wr.heap.size, 2, none⟩ = false := frozen_of na2 2
          obtain ⟨V3, hV3⟩ : ∃ V3, V2.setCell ⟨wr.heap.size, 2, none⟩ (.string ⟨#[97]⟩) = V3 := ⟨_, rfl⟩
          have na3 : V3.heap[wr.heap.size]? = some (.cells #[.int .u8 5, .int .i64 5, .string ⟨#[97]⟩, .slice none 0 0] 33 (0, 0)) := hV3 ▸ Joins.block_setCell na2 _
          have nb3 : V3.heap[wr.heap.size + 1]? = some (.cells #[.int .u8 0, .int .i64 0, .string ⟨#[]⟩, .slice none 0 0] 33 (0, 0)) := (hV3 ▸ Below.heap_setCell _ _ _ _ (show wr.heap.size + 1 ≠ wr.heap.size by omega) : V3.heap[wr.heap.size + 1]? = V2.heap[wr.heap.size + 1]?).trans nb2
          have bV3 : Below wr.heap.size wr V3 := hV3 ▸ below_setc bV2 (by omega)
          have sV3 : V3.heap.size = wr.heap.size + 1 + 1 := by rw [← hV3, ← sV2]; simp [World.setCell]
          have r3 : V3.cell? ⟨wr.heap.size, 3, none⟩ = some (.slice none 0 0) := by rw [cell_of na3]; rfl
          have rf3 : V3.frozen? ⟨wr.heap.size, 3, none⟩ = false := frozen_of na3 3
          obtain ⟨V4, hV4⟩ : ∃ V4, V3.setCell ⟨wr.heap.size, 3, none⟩ (.slice none 0 0) = V4 := ⟨_, rfl⟩
          have na4 : V4.heap[wr.heap.size]? = some (.cells #[.int .u8 5, .int .i64 5, .string ⟨#[97]⟩, .slice none 0 0] 33 (0, 0)) := hV4 ▸ Joins.block_setCell na3 _
          have nb4 : V4.heap[wr.heap.size + 1]? = some (.cells #[.int .u8 0, .int .i64 0, .string ⟨#[]⟩, .slice none 0 0] 33 (0, 0)) := (hV4 ▸ Below.heap_setCell _ _ _ _ (show wr.heap.size + 1 ≠ wr.heap.size by omega) : V4.heap[wr.heap.size + 1]? = V3.heap[wr.heap.size + 1]?).trans nb3
          have bV4 : Below wr.heap.size wr V4 := hV4 ▸ below_setc bV3 (by omega)
          have sV4 : V4.heap.size = wr.heap.size + 1 + 1 := by rw [← hV4, ← sV3]; simp [World.setCell]
          have r4 : V4.cell? ⟨wr.heap.size + 1, 0, none⟩ = some (.int .u8 0) := by rw [cell_of nb4]; rfl
          have rf4 : V4.frozen? ⟨wr.heap.size + 1, 0, none⟩ = false := frozen_of nb4 0
          obtain ⟨V5, hV5⟩ : ∃ V5, V4.setCell ⟨wr.heap.size + 1, 0, none⟩ (.int .u8 5) = V5 := ⟨_, rfl⟩
          have nb5 : V5.heap[wr.heap.size + 1]? = some (.cells #[.int .u8 5, .int .i64 0, .string ⟨#[]⟩, .slice none 0 0] 33 (0, 0)) := hV5 ▸ Joins.block_setCell nb4 _
          have na5 : V5.heap[wr.heap.size]? = some (.cells #[.int .u8 5, .int .i64 5, .string ⟨#[97]⟩, .slice none 0 0] 33 (0, 0)) := (hV5 ▸ Below.heap_setCell _ _ _ _ (show wr.heap.size ≠ wr.heap.size + 1 by omega) : V5.heap[wr.heap.size]? = V4.heap[wr.heap.size]?).trans na4
          have bV5 : Below wr.heap.size wr V5 := hV5 ▸ below_setc bV4 (by omega)
          have sV5 : V5.heap.size = wr.heap.size + 1 + 1 := by rw [← hV5, ← sV4]; simp [World.setCell]
          have r5 : V5.cell? ⟨wr.heap.size + 1, 1, none⟩ = some (.int .i64 0) := by rw [cell_of nb5]; rfl
          have rf5 : V5.frozen? ⟨wr.heap.size + 1, 1, none⟩ = false := frozen_of nb5 1
          obtain ⟨V6, hV6⟩ : ∃ V6, V5.setCell ⟨wr.heap.size + 1, 1, none⟩ (.int .i64 0) = V6 := ⟨_, rfl⟩
          have nb6 : V6.heap[wr.heap.size + 1]? = some (.cells #[.int .u8 5, .int .i64 0, .string ⟨#[]⟩, .slice none 0 0] 33 (0, 0)) := hV6 ▸ Joins.block_setCell nb5 _
          have na6 : V6.heap[wr.heap.size]? = some (.cells #[.int .u8 5, .int .i64 5, .string ⟨#[97]⟩, .slice none 0 0] 33 (0, 0)) := (hV6 ▸ Below.heap_setCell _ _ _ _ (show wr.heap.size ≠ wr.heap.size + 1 by omega) : V6.heap[wr.heap.size]? = V5.heap[wr.heap.size]?).trans na5
          have bV6 : Below wr.heap.size wr V6 := hV6 ▸ below_setc bV5 (by omega)
          have sV6 : V6.heap.size = wr.heap.size + 1 + 1 := by rw [← hV6, ← sV5]; simp [World.setCell]
          have r6 : V6.cell? ⟨wr.heap.size + 1, 2, none⟩ = some (.string ⟨#[]⟩) := by rw [cell_of nb6]; rfl
          have rf6 : V6.frozen? ⟨wr.heap.size + 1, 2, none⟩ = false := frozen_of nb6 2
          obtain ⟨V7, hV7⟩ : ∃ V7, V6.setCell ⟨wr.heap.size + 1, 2, none⟩ (.string ⟨#[98]⟩) = V7 := ⟨_, rfl⟩
          have nb7 : V7.heap[wr.heap.size + 1]? = some (.cells #[.int .u8 5, .int .i64 0, .string ⟨#[98]⟩, .slice none 0 0] 33 (0, 0)) := hV7 ▸ Joins.block_setCell nb6 _
          have na7 : V7.heap[wr.heap.size]? = some (.cells #[.int .u8 5, .int .i64 5, .string ⟨#[97]⟩, .slice none 0 0] 33 (0, 0)) := (hV7 ▸ Below.heap_setCell _ _ _ _ (show wr.heap.size ≠ wr.heap.size + 1 by omega) : V7.heap[wr.heap.size]? = V6.heap[wr.heap.size]?).trans na6
          have bV7 : Below wr.heap.size wr V7 := hV7 ▸ below_setc bV6 (by omega)
          have sV7 : V7.heap.size = wr.heap.size + 1 + 1 := by rw [← hV7, ← sV6]; simp [World.setCell]
          have r7 : V7.cell? ⟨wr.heap.size + 1, 3, none⟩ = some (.slice none 0 0) := by rw [cell_of nb7]; rfl
          have rf7 : V7.frozen? ⟨wr.heap.size + 1, 3, none⟩ = false := frozen_of nb7 3
          obtain ⟨V8, hV8⟩ : ∃ V8, V7.setCell ⟨wr.heap.size + 1, 3, none⟩ (.slice none 0 0) = V8 := ⟨_, rfl⟩
          have nb8 : V8.heap[wr.heap.size + 1]? = some (.cells #[.int .u8 5, .int .i64 0, .string ⟨#[98]⟩, .slice none 0 0] 33 (0, 0)) := hV8 ▸ Joins.block_setCell nb7 _
          have na8 : V8.heap[wr.heap.size]? = some (.cells #[.int .u8 5, .int .i64 5, .string ⟨#[97]⟩, .slice none 0 0] 33 (0, 0)) := (hV8 ▸ Below.heap_setCell _ _ _ _ (show wr.heap.size ≠ wr.heap.size + 1 by omega) : V8.heap[wr.heap.size]? = V7.heap[wr.heap.size]?).trans na7
          have bV8 : Below wr.heap.size wr V8 := hV8 ▸ below_setc bV7 (by omega)
          have sV8 : V8.heap.size = wr.heap.size + 1 + 1 := by rw [← hV8, ← sV7]; simp [World.setCell]
          obtain ⟨Z2, hZ2⟩ : ∃ Z2, Z2 = V8 := ⟨_, rfl⟩
          rw [← hZ2] at hV8 na8 nb8 bV8 sV8
          clear hZ2 na0 nb0 bV0 sV0 na1 nb1 bV1 sV1 na2 nb2 bV2 sV2 na3 nb3 bV3 sV3 na4 nb4 bV4 sV4 na5 nb5 bV5 sV5 na6 nb6 bV6 sV6 na7 nb7 bV7 sV7 bX1 nX1 bX2
          obtain ⟨Z3, hZ3⟩ : ∃ Z3, Z2.alloc (.cells #[.int .u8 5, .int .i64 5, .string ⟨#[97]⟩, .slice none 0 0, .int .u8 5, .int .i64 0, .string ⟨#[98]⟩, .slice none 0 0] 33) = Z3 := ⟨_, rfl⟩
          have bZ3 : Below Z2.heap.size Z2 Z3 := hZ3 ▸ (Below.refl _ Z2).alloc (Nat.le_refl _) _
          have nZ3 : Z3.heap[Z2.heap.size]? = some (.cells #[.int .u8 5, .int .i64 5, .string ⟨#[97]⟩, .slice none 0 0, .int .u8 5, .int .i64 0, .string ⟨#[98]⟩, .slice none 0 0] 33 (0, 0)) := hZ3 ▸ lone_new Z2 _ _
          have sZ3 : Z3.heap.size = Z2.heap.size + 1 := by rw [← hZ3]; exact World.size_alloc _ _
          obtain ⟨Z4, hZ4⟩ : ∃ Z4, Z3.alloc (.cells #[.int .u8 0, .int .i64 0, .string ⟨#[]⟩, .slice (some ⟨q + 1 + 1, 0, none⟩) 2 2] 33) = Z4 := ⟨_, rfl⟩
          have bZ4 : Below Z3.heap.size Z3 Z4 := hZ4 ▸ (Below.refl _ Z3).alloc (Nat.le_refl _) _
          have nZ4 : Z4.heap[Z3.heap.size]? = some (.cells #[.int .u8 0, .int .i64 0, .string ⟨#[]⟩, .slice (some ⟨q + 1 + 1, 0, none⟩) 2 2] 33 (0, 0)) := hZ4 ▸ lone_new Z3 _ _
          rw [← hq] at bV8 na8 nb8 sV8
          have e2 : Z2.heap.size = q + 1 + 1 := sV8
          have e3 : Z3.heap.size = q + 1 + 1 + 1 := by rw [sZ3, e2]
          rw [e2] at nZ3 bZ3
          rw [e3] at nZ4 bZ4
          have a1 := (bZ4.block q (by omega)).trans ((bZ3.block q (by omega)).trans na8)
          have a2 := (bZ4.block (q + 1) (by omega)).trans ((bZ3.block (q + 1) (by omega)).trans nb8)
          have a3 := (bZ4.block (q + 1 + 1) (by omega)).trans nZ3
          have HB17 := Lib.hid (HB16.out.trans ((bV8.trans ((bZ3.mono (by omega)).trans (bZ4.mono (by omega)))).mono (by rw [hq]; exact HB16.out.size)))
          have HZ : Hid (∀ w2, Below Z4.heap.size Z4 w2 → w2.heap[q]? = some (.cells #[.int .u8 5, .int .i64 5, .string ⟨#[97]⟩, .slice none 0 0] 33 (0, 0)) ∧ w2.heap[q + 1]? = some (.cells #[.int .u8 5, .int .i64 0, .string ⟨#[98]⟩, .slice none 0 0] 33 (0, 0)) ∧ w2.heap[q + 1 + 1]? = some (.cells #[.int .u8 5, .int .i64 5, .string ⟨#[97]⟩, .slice none 0 0, .int .u8 5, .int .i64 0, .string ⟨#[98]⟩, .slice none 0 0] 33 (0, 0)) ∧ w2.heap[q + 1 + 1 + 1]? = some (.cells #[.int .u8 0, .int .i64 0, .string ⟨#[]⟩, .slice (some ⟨q + 1 + 1, 0, none⟩) 2 2] 33 (0, 0))) := fun w2 hb => ⟨(hb.block _ (kind_lt a1)).trans a1, (hb.block _ (kind_lt a2)).trans a2, (hb.block _ (kind_lt a3)).trans a3, (hb.block _ (kind_lt nZ4)).trans nZ4⟩
          have HC : Hid (∀ w2, Below Z4.heap.size Z4 w2 → (w2.cell? ⟨q, 0, none⟩ = some (.int .u8 5) ∧ w2.cell? ⟨q, 1, none⟩ = some (.int .i64 5) ∧ w2.cell? ⟨q, 2, none⟩ = some (.string ⟨#[97]⟩) ∧ w2.cell? ⟨q, 3, none⟩ = some (.slice none 0 0)) ∧ (w2.cell? ⟨q + 1, 0, none⟩ = some (.int .u8 5) ∧ w2.cell? ⟨q + 1, 1, none⟩ = some (.int .i64 0) ∧ w2.cell? ⟨q + 1, 2, none⟩ = some (.string ⟨#[98]⟩) ∧ w2.cell? ⟨q + 1, 3, none⟩ = some (.slice none 0 0)) ∧ (w2.cell? ⟨q + 1 + 1 + 1, 0, none⟩ = some (.int .u8 0) ∧ w2.cell? ⟨q + 1 + 1 + 1, 1, none⟩ = some (.int .i64 0) ∧ w2.cell? ⟨q + 1 + 1 + 1, 2, none⟩ = some (.string ⟨#[]⟩) ∧ w2.cell? ⟨q + 1 + 1 + 1, 3, none⟩ = some (.slice (some ⟨q + 1 + 1, 0, none⟩) 2 2)) ∧ Kds w2 kidsAB (some ⟨q + 1 + 1, 0, none⟩)) := fun w2 hb => by
            obtain ⟨h1, h2, h3, h4⟩ := HZ.out w2 hb
            refine ⟨⟨?_, ?_, ?_, ?_⟩, ⟨?_, ?_, ?_, ?_⟩, ⟨?_, ?_, ?_, ?_⟩, kds_AB h3⟩
            · rw [cell_of h1]; rfl
            · rw [cell_of h1]; rfl
            · rw [cell_of h1]; rfl
            · rw [cell_of h1]; rfl
            · rw [cell_of h2]; rfl
            · rw [cell_of h2]; rfl
            · rw [cell_of h2]; rfl
            · rw [cell_of h2]; rfl
            · rw [cell_of h4]; rfl
            · rw [cell_of h4]; rfl
            · rw [cell_of h4]; rfl
            · rw [cell_of h4]; rfl
          obtain ⟨b1, b2, -, -⟩ := HZ.out Z4 (Below.refl _ _)
          have d1 : Z2.cell? ⟨q, 0, none⟩ = some (.int .u8 5) ∧ Z2.cell? ⟨q, 1, none⟩ = some (.int .i64 5) ∧ Z2.cell? ⟨q, 2, none⟩ = some (.string ⟨#[97]⟩) ∧ Z2.cell? ⟨q, 3, none⟩ = some (.slice none 0 0) := by
            have h1 := na8
            exact ⟨by rw [cell_of h1]; rfl, by rw [cell_of h1]; rfl, by rw [cell_of h1]; rfl, by rw [cell_of h1]; rfl⟩
          have d2 : Z2.cell? ⟨q + 1, 0, none⟩ = some (.int .u8 5) ∧ Z2.cell? ⟨q + 1, 1, none⟩ = some (.int .i64 0) ∧ Z2.cell? ⟨q + 1, 2, none⟩ = some (.string ⟨#[98]⟩) ∧ Z2.cell? ⟨q + 1, 3, none⟩ = some (.slice none 0 0) := ⟨by rw [cell_of nb8]; rfl, by rw [cell_of nb8]; rfl, by rw [cell_of nb8]; rfl, by rw [cell_of nb8]; rfl⟩
          obtain ⟨d10, d11, d12, d13⟩ := d1
          obtain ⟨d20, d21, d22, d23⟩ := d2
          have HQ := Lib.hid hq
          clear bV8 bZ3 bZ4 na8 nb8 nZ3 nZ4 sV8 sZ3 a1 a2 a3 b1 b2 hA0
          subst hq
          go_wp2_with fail
          refine (n_may Z4).mono ?_
          rintro e u1 ⟨rfl, hu⟩
          have U1 := Lib.hid hu
          clear hu
          go_wp2_with fail
          refine (n_show u1).mono ?_
          rintro e u2 ⟨rfl, hu⟩
          have U2 := Lib.hid (U1.out.trans (hu.mono U1.out.size))
          clear hu
          go_wp2_with fail
          refine (n_head0 u2).mono ?_
          rintro e u3 ⟨rfl, hu⟩
          have U3 := Lib.hid (U2.out.trans (hu.mono U2.out.size))
          clear hu
          obtain ⟨⟨fa0, fa1, fa2, fa3⟩, ⟨fb0, fb1, fb2, fb3⟩, ⟨fc0, fc1, fc2, fc3⟩, hK⟩ := HC.out u3 U3.out
          go_wp2_with fail
          refine (n_headA u3).mono ?_
          rintro e u4 ⟨rfl, hu⟩
          clear fa0 fa1 fa2 fa3 fb0 fb1 fb2 fb3 fc0 fc1 fc2 fc3 hK
          have U4 := Lib.hid (U3.out.trans (hu.mono U3.out.size))
          clear hu
          obtain ⟨⟨fa0, fa1, fa2, fa3⟩, ⟨fb0, fb1, fb2, fb3⟩, ⟨fc0, fc1, fc2, fc3⟩, hK⟩ := HC.out u4 U4.out
          have hk := hK
          go_wp2_with fail
          refine (n_headAB (wr.heap.size + 1 + 1) u4 hk).mono ?_
          rintro e u5 ⟨rfl, hu⟩
          clear fa0 fa1 fa2 fa3 fb0 fb1 fb2 fb3 fc0 fc1 fc2 fc3 hK
          have U5 := Lib.hid (U4.out.trans (hu.mono U4.out.size))
          clear hu
          clear hk
          go_wp2_with fail
          refine (n_head1 u5.heap.size (u5.alloc (.cells #[.int .u8 3, .int .i64 0, .string ⟨#[49]⟩, .slice none 0 0] 33)) (kds_1 (lone_new u5 _ _))).mono ?_
          rintro e u6 ⟨rfl, hu⟩
          have U6 := Lib.hid ((U5.out.alloc U5.out.size (.cells #[.int .u8 3, .int .i64 0, .string ⟨#[49]⟩, .slice none 0 0] 33)).trans (hu.mono (U5.out.alloc U5.out.size (.cells #[.int .u8 3, .int .i64 0, .string ⟨#[49]⟩, .slice none 0 0] 33)).size))
          clear hu
          obtain ⟨⟨fa0, fa1, fa2, fa3⟩, ⟨fb0, fb1, fb2, fb3⟩, ⟨fc0, fc1, fc2, fc3⟩, hK⟩ := HC.out u6 U6.out
          have hk := (HC.out _ (U6.out.alloc U6.out.size (.cells #[.int .u8 0, .int .i64 0, .string ⟨#[]⟩, .slice (some ⟨wr.heap.size + 1 + 1, 0, none⟩) 2 2] 33))).2.2.2
          go_wp2_with fail
          refine (n_head2 u6.heap.size (u6.alloc (.cells #[.int .u8 0, .int .i64 0, .string ⟨#[]⟩, .slice (some ⟨wr.heap.size + 1 + 1, 0, none⟩) 2 2] 33)) (kds_2 (lone_new u6 _ _) hk)).mono ?_
          rintro e u7 ⟨rfl, hu⟩
          clear fa0 fa1 fa2 fa3 fb0 fb1 fb2 fb3 fc0 fc1 fc2 fc3 hK
          have U7 := Lib.hid ((U6.out.alloc U6.out.size (.cells #[.int .u8 0, .int .i64 0, .string ⟨#[]⟩, .slice (some ⟨wr.heap.size + 1 + 1, 0, none⟩) 2 2] 33)).trans (hu.mono (U6.out.alloc U6.out.size (.cells #[.int .u8 0, .int .i64 0, .string ⟨#[]⟩, .slice (some ⟨wr.heap.size + 1 + 1, 0, none⟩) 2 2] 33)).size))
          clear hu
          clear hk
          obtain ⟨⟨fa0, fa1, fa2, fa3⟩, ⟨fb0, fb1, fb2, fb3⟩, ⟨fc0, fc1, fc2, fc3⟩, hK⟩ := HC.out u7 U7.out
          go_wp2_with fail
          refine (n_sameAB u7).mono ?_
          rintro e u8 ⟨rfl, hu⟩
          clear fa0 fa1 fa2 fa3 fb0 fb1 fb2 fb3 fc0 fc1 fc2 fc3 hK
          have U8 := Lib.hid (U7.out.trans (hu.mono U7.out.size))
          clear hu
          obtain ⟨⟨fa0, fa1, fa2, fa3⟩, ⟨fb0, fb1, fb2, fb3⟩, ⟨fc0, fc1, fc2, fc3⟩, hK⟩ := HC.out u8 U8.out
          have hk := hK
          go_wp2_with fail
          refine (n_sameKA (wr.heap.size + 1 + 1) u8 hk).mono ?_
          rintro e u9 ⟨rfl, hu⟩
          clear fa0 fa1 fa2 fa3 fb0 fb1 fb2 fb3 fc0 fc1 fc2 fc3 hK
          have U9 := Lib.hid (U8.out.trans (hu.mono U8.out.size))
          clear hu
          clear hk
          obtain ⟨⟨fa0, fa1, fa2, fa3⟩, ⟨fb0, fb1, fb2, fb3⟩, ⟨fc0, fc1, fc2, fc3⟩, hK⟩ := HC.out u9 U9.out
          go_wp2_with fail
          refine (n_sameAA u9).mono ?_
          rintro e u10 ⟨rfl, hu⟩
          clear fa0 fa1 fa2 fa3 fb0 fb1 fb2 fb3 fc0 fc1 fc2 fc3 hK
          have U10 := Lib.hid (U9.out.trans (hu.mono U9.out.size))
          clear hu
          obtain ⟨⟨fa0, fa1, fa2, fa3⟩, ⟨fb0, fb1, fb2, fb3⟩, ⟨fc0, fc1, fc2, fc3⟩, hK⟩ := HC.out u10 U10.out
          have hk := (HC.out _ (U10.out.alloc U10.out.size (.cells #[.int .u8 5, .int .i64 0, .string ⟨#[98]⟩, .slice none 0 0, .int .u8 5, .int .i64 5, .string ⟨#[97]⟩, .slice none 0 0] 33))).2.2.2
          go_wp2_with fail
          refine (n_sameKK (wr.heap.size + 1 + 1) u10.heap.size (u10.alloc (.cells #[.int .u8 5, .int .i64 0, .string ⟨#[98]⟩, .slice none 0 0, .int .u8 5, .int .i64 5, .string ⟨#[97]⟩, .slice none 0 0] 33)) hk (kds_BA (lone_new u10 _ _))).mono ?_
          rintro e u11 ⟨rfl, hu⟩
          clear fa0 fa1 fa2 fa3 fb0 fb1 fb2 fb3 fc0 fc1 fc2 fc3 hK
          have U11 := Lib.hid ((U10.out.alloc U10.out.size (.cells #[.int .u8 5, .int .i64 0, .string ⟨#[98]⟩, .slice none 0 0, .int .u8 5, .int .i64 5, .string ⟨#[97]⟩, .slice none 0 0] 33)).trans (hu.mono (U10.out.alloc U10.out.size (.cells #[.int .u8 5, .int .i64 0, .string ⟨#[98]⟩, .slice none 0 0, .int .u8 5, .int .i64 5, .string ⟨#[97]⟩, .slice none 0 0] 33)).size))
          clear hu
          clear hk
          obtain ⟨⟨fa0, fa1, fa2, fa3⟩, ⟨fb0, fb1, fb2, fb3⟩, ⟨fc0, fc1, fc2, fc3⟩, hK⟩ := HC.out u11 U11.out
          go_wp2_with fail
          refine (n_size u11).mono ?_
          rintro e u12 ⟨rfl, hu⟩
          clear fa0 fa1 fa2 fa3 fb0 fb1 fb2 fb3 fc0 fc1 fc2 fc3 hK
          have U12 := Lib.hid (U11.out.trans (hu.mono U11.out.size))
          clear hu
          obtain ⟨⟨fa0, fa1, fa2, fa3⟩, ⟨fb0, fb1, fb2, fb3⟩, ⟨fc0, fc1, fc2, fc3⟩, hK⟩ := HC.out u12 U12.out
          go_wp2_with fail
          refine (n_depth u12).mono ?_
          rintro e u13 ⟨rfl, hu⟩
          clear fa0 fa1 fa2 fa3 fb0 fb1 fb2 fb3 fc0 fc1 fc2 fc3 hK
          have U13 := Lib.hid (U12.out.trans (hu.mono U12.out.size))
          clear hu
          have HE := Lib.hid (HB17.out.trans (U13.out.mono HB17.out.size))
          go_wp2
          go_ret
          exact ⟨rfl, HE.out⟩

end Go.Proofs.Ytkmenbicmbaceaa

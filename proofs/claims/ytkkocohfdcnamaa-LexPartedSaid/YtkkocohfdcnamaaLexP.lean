/- LexParted, its walk. -/
import Derived.Laws.Concat
import Derived.Test.YtkkocohfdcnamaaLexN
namespace Go.Proofs.Ytkkocohfdcnamaa
open Go.RowKit Go.Shelf

set_option linter.unusedVariables false
set_option linter.unusedSimpArgs false

theorem str_append (A B : List Nat) : str A ++ str B = str (A ++ B) := by
  apply ByteArray.ext
  apply Array.ext'
  simp [str]
theorem add_str (A B : List Nat) (h : A.length + B.length ≤ 9223372036854775807) (w : World) : (Op.stringOp .add (str A) (str B)).run Try.prog w = .ok (.string (str (A ++ B))) w := by
  rw [run_string_add_sum (P := Try.prog) w (str A) (str B) (by rw [str_size, str_size]; exact h), str_append]
def gapV : Array Value := #[.string ⟨#[]⟩, .string ⟨#[32]⟩, .string ⟨#[10]⟩, .string ⟨#[9, 13, 10]⟩, .string ⟨#[59, 120, 10]⟩, .string ⟨#[32, 59, 32, 40, 97, 10, 10]⟩, .string ⟨#[59, 59, 10, 59, 10]⟩]
theorem gapV_at {k : Nat} (h : k < 7) : gapV[k]? = some (.string (str (gap k))) := by
  have : k = 0 ∨ k = 1 ∨ k = 2 ∨ k = 3 ∨ k = 4 ∨ k = 5 ∨ k = 6 := by omega
  rcases this with rfl | rfl | rfl | rfl | rfl | rfl | rfl <;> rfl
/-- the numbers that are handed in, in memory -/
def Nums (w : World) (v : Value) (n : Nat) (c : Nat → Nat) : Prop := ∃ A cap, v = .slice A n cap ∧ (0 < n → ∃ b off, A = some ⟨b, off, none⟩ ∧ b < w.heap.size ∧ ∀ i, i < n → w.cell? ⟨b, off + i, none⟩ = some (.int .u8 ((c i : Nat) : Int)) ∧ c i < 256)

set_option maxRecDepth 100000 in
set_option maxHeartbeats 8000000 in
theorem parted_law (w : World) (s : ByteArray) (hs : s.size ≤ 9223372036854775807) (v : Value) (n : Nat) (c : Nat → Nat) (hn : n ≤ 9223372036854775807) (hv : Nums w v n c) : Calls Try.prog 6 #[.string s, v] w fun e w' => e = .returned (.bool true) ∧ Below w.heap.size w w' := by
  obtain ⟨L, hc, -, rfl⟩ := bytes_str s
  obtain ⟨A, cap, rfl, hA⟩ := hv
  have hsz := str_size L
  rw [hsz] at hs
  have c0 := works_any w
  by_cases hlong : 3000 < L.length ∨ 3000 < n ∨ n = 0
  · have go : Calls Try.prog 6 #[.string (str L), .slice A n cap] w fun e w' => e = .returned (.bool true) ∧ Below w.heap.size w w' := by
      rcases hlong with h | h | h
      · go_enter Try.func6, Try.ntmps6
        go_wp2_with fail
        refine c0.mono ?_
        rintro e w1 ⟨rfl, hb1⟩
        clear c0
        have c1 := works_any w1
        go_wp2_with fail
        refine c1.mono ?_
        rintro e w2 ⟨rfl, hb2⟩
        clear c1
        go_wp2
        go_ret
        exact ⟨rfl, hb1.trans (hb2.mono hb1.size)⟩
      · by_cases h1 : 3000 < L.length
        · go_enter Try.func6, Try.ntmps6
          go_wp2_with fail
          refine c0.mono ?_
          rintro e w1 ⟨rfl, hb1⟩
          clear c0
          have c1 := works_any w1
          go_wp2_with fail
          refine c1.mono ?_
          rintro e w2 ⟨rfl, hb2⟩
          clear c1
          go_wp2
          go_ret
          exact ⟨rfl, hb1.trans (hb2.mono hb1.size)⟩
        · go_enter Try.func6, Try.ntmps6
          go_wp2_with fail
          refine c0.mono ?_
          rintro e w1 ⟨rfl, hb1⟩
          clear c0
          have c1 := works_any w1
          go_wp2_with fail
          refine c1.mono ?_
          rintro e w2 ⟨rfl, hb2⟩
          clear c1
          go_wp2
          go_ret
          exact ⟨rfl, hb1.trans (hb2.mono hb1.size)⟩
      · subst h
        by_cases h1 : 3000 < L.length
        · go_enter Try.func6, Try.ntmps6
          go_wp2_with fail
          refine c0.mono ?_
          rintro e w1 ⟨rfl, hb1⟩
          clear c0
          have c1 := works_any w1
          go_wp2_with fail
          refine c1.mono ?_
          rintro e w2 ⟨rfl, hb2⟩
          clear c1
          go_wp2
          go_ret
          exact ⟨rfl, hb1.trans (hb2.mono hb1.size)⟩
        · go_enter Try.func6, Try.ntmps6
          go_wp2_with fail
          refine c0.mono ?_
          rintro e w1 ⟨rfl, hb1⟩
          clear c0
          have c1 := works_any w1
          go_wp2_with fail
          refine c1.mono ?_
          rintro e w2 ⟨rfl, hb2⟩
          clear c1
          go_wp2
          go_ret
          exact ⟨rfl, hb1.trans (hb2.mono hb1.size)⟩
    exact go
  · obtain ⟨hL3, hn3, hn0⟩ : ¬ 3000 < L.length ∧ ¬ 3000 < n ∧ 0 < n := by omega
    clear hlong
    have hne0 : (((n : Nat) : Int) == 0) = false := beq_eq_false_iff_ne.2 (by omega)
    obtain ⟨ab, off, rfl, hab, hcell⟩ := hA hn0
    have C1 := Lib.hid (fun w1 => words_any L hc (by omega) w1)
    have hl6 : ¬ 65536 < L.length := by omega
    rcases hok : okw L with _ | _
    · have hE : wE L = 4 := by unfold wE; rw [if_neg hl6, if_neg (by rw [hok]; decide)]
      clear hA hcell
      go_enter Try.func6, Try.ntmps6
      go_wp2_with fail
      refine c0.mono ?_
      rintro e w1 ⟨rfl, hb1⟩
      clear c0
      have c1 := C1.out w1
      go_wp2_with fail
      refine c1.mono ?_
      rintro e w2 ⟨⟨v, rfl, hrow⟩, hb2⟩
      clear c1 hrow
      rw [hE]
      have hb12 := hb1.trans (hb2.mono hb1.size)
      clear hb1 hb2
      go_wp2
      go_ret
      exact ⟨rfl, hb12⟩
    · have hE : wE L = 0 := by unfold wE; rw [if_neg hl6, if_pos hok]
      have hW : wL L = wds L := by unfold wL; rw [if_neg hl6, if_pos hok]
      have hwl := wds_len L
      have hgood := okw_all hok
      go_enter Try.func6, Try.ntmps6
      go_wp2_with fail
      refine c0.mono ?_
      rintro e w1 ⟨rfl, hb1⟩
      clear c0
      have c1 := C1.out w1
      go_wp2_with fail
      refine c1.mono ?_
      rintro e w2 ⟨⟨v, rfl, hrow⟩, hb2⟩
      clear c1
      rw [hE]
      rw [hW] at hrow
      have hb12 := hb1.trans (hb2.mono hb1.size)
      have hR := rowW_of hrow
      obtain ⟨A2, cp2, rfl⟩ := slice_form hrow
      clear hb1 hb2 hrow
      have hgo := World.alloc_heap_new w2 (.cells gapV 9)
      have hbx := (Below.refl w2.heap.size w2).alloc (Nat.le_refl _) (.cells gapV 9)
      have hR2 := hR.keep hbx
      have hbW := Lib.hid (hb12.trans (hbx.mono hb12.size))
      have hwsz := World.size_alloc w2 (.cells gapV 9)
      have hgapc : ∀ k, k < 7 → (w2.alloc (.cells gapV 9)).cell? ⟨w2.heap.size, k, none⟩ = some (.string (str (gap k))) := fun k hk => by
        rw [cell_of_row _ _ _ _ _ _ hgo]; exact gapV_at hk
      have hgbl : w2.heap.size < (w2.alloc (.cells gapV 9)).heap.size := by rw [hwsz]; omega
      have hncell : ∀ i, i < n → (w2.alloc (.cells gapV 9)).cell? ⟨ab, off + i, none⟩ = some (.int .u8 ((c i : Nat) : Int)) ∧ c i < 256 := fun i hi => ⟨(hbW.out.cell (p := ⟨ab, off + i, none⟩) hab).trans (hcell i hi).1, (hcell i hi).2⟩
      have habl : ab < (w2.alloc (.cells gapV 9)).heap.size := Nat.lt_of_lt_of_le hab hbW.out.size
      have HOK := Lib.hid hok
      have HE := Lib.hid hE
      have HW := Lib.hid hW
      have HGOOD := Lib.hid hgood
      clear hgo hbx hR hb12 hwsz hcell hA hab hok hE hW hgood
      unfold gapV at *
      go_wp2_with fail
      generalize w2.alloc (.cells #[.string ⟨#[]⟩, .string ⟨#[32]⟩, .string ⟨#[10]⟩, .string ⟨#[9, 13, 10]⟩, .string ⟨#[59, 120, 10]⟩, .string ⟨#[32, 59, 32, 40, 97, 10, 10]⟩, .string ⟨#[59, 59, 10, 59, 10]⟩] 9) = W at *
      generalize w2.heap.size = gb at *
      obtain ⟨A3, cp3, e3, hrow⟩ := hR2
      injection e3 with e31 e32 e33
      subst e31 e33
      clear e32
      go_loopw [9, 10, 11] (fun o fr i wr => ∃ (k f : Nat) (O : List Nat), k ≤ (wds L).length ∧ o = .string (str O) ∧ fr = .int .i64 (f : Int) ∧ i = .int .i64 (k : Int) ∧ Codes O ∧ O.length ≤ 7 * k + f ∧ Mid L k f O ∧ At L k (f + skp false (L.drop f)) ∧ f ≤ L.length ∧ Below W.heap.size W wr) (fun _ _ i _ => (wds L).length - (intOf i).toNat)
      case atStart => exact ⟨0, 0, [], Nat.zero_le _, rfl, rfl, rfl, (fun _ h => by cases h), by simp, .inl ⟨rfl, rfl, rfl⟩, by rw [List.drop_zero, Nat.zero_add]; exact At.start L, Nat.zero_le _, Below.refl _ _⟩
      case round =>
        obtain ⟨k, f, O, hk, rfl, rfl, rfl, hOc, hOl, hM, hAt, hf, hB⟩ := hrel
        by_cases hlt : k < (wds L).length
        · obtain ⟨g, rfl, hg1, hgc⟩ := hrow (by omega)
          have hkn : k % n < n := Nat.mod_lt _ hn0
          obtain ⟨hnc, hc256⟩ := hncell (k % n) hkn
          have yc := (hB.cell (p := ⟨ab, off + k % n, none⟩) habl).trans hnc
          have hrm : ((k : Int).tmod (n : Int)) = ((k % n : Nat) : Int) := by rw [Int.ofNat_tmod]
          have hn0i : ((n : Int)) ≠ 0 := by omega
          generalize c (k % n) = z at *
          generalize k % n = q at *
          have hz7 : ((z : Int).tmod 7) = ((z % 7 : Nat) : Int) := by rw [Int.ofNat_tmod]; rfl
          have hz7e : ((z : Int) % 7) = ((z % 7 : Nat) : Int) := by omega
          have hκ7 : z % 7 < 7 := Nat.mod_lt _ (by decide)
          generalize z % 7 = κ at *
          have ha := (hAt.lt hk).1 hlt
          have hget := hAt.get ha
          have hnx := hAt.next ha
          have hxl := wl_at ha
          have hpl := piece_len ha
          have hfa : f ≤ f + skp false (L.drop f) := Nat.le_add_right _ _
          generalize f + skp false (L.drop f) = a at *
          have hTc : Codes ((L.drop a).take (wl (L.drop a))) := codes_take (codes_drop hc _) _
          generalize (L.drop a).take (wl (L.drop a)) = T at *
          generalize wl (L.drop a) = m at *
          obtain ⟨b, hb⟩ : ∃ b : Nat, b = a + m := ⟨_, rfl⟩
          have hbT : b = a + T.length := by omega
          rw [← hb] at hnx hxl
          have hq := fun q hq => wcells_get hget q hq
          have y1 : wr.cell? ⟨g, k * 4 + 1, none⟩ = some (.int .i64 (a : Int)) := (hB.cell (p := ⟨g, k * 4 + 1, none⟩) hg1).trans (hgc _ _ ((hq 1 (by decide)).trans rfl))
          have y2 : wr.cell? ⟨g, k * 4 + 2, none⟩ = some (.int .i64 (b : Int)) := (hB.cell (p := ⟨g, k * 4 + 2, none⟩) hg1).trans (hgc _ _ ((hq 2 (by decide)).trans (by rw [show (b : Int) = (a : Int) + (T.length : Int) by omega]; rfl)))
          have y3 : wr.cell? ⟨g, k * 4 + 3, none⟩ = some (.string (str T)) := (hB.cell (p := ⟨g, k * 4 + 3, none⟩) hg1).trans (hgc _ _ ((hq 3 (by decide)).trans rfl))
          have y2d : wr.drew.cell? ⟨g, k * 4 + 2, none⟩ = some (.int .i64 (b : Int)) := y2
          have hstep := fun (G : List Nat) (hG : Shut G) (hcn : k = 0 ∨ (G ≠ [] ∧ NoHead G) ∨ (G = [] ∧ a = f)) => mid_step hM hget hG hcn
          have hG1 : ∀ j, j < 7 → wr.cell? ⟨gb, j, none⟩ = some (.string (str (gap j))) := fun j hj => (hB.cell (p := ⟨gb, j, none⟩) hgbl).trans (hgapc j hj)
          have hk0 : (0 : Int) ≤ (k : Int) := by omega
          have hkS : (k : Int) < ((wds L).length : Int) := by omega
          have HX := Lib.hid hnx
          have HB := Lib.hid hB
          have HST := Lib.hid hstep
          have HG1 := Lib.hid hG1
          have HKL := Lib.hid (Nat.succ_le_of_lt hlt)
          have HOC := Lib.hid hOc
          have HTC := Lib.hid hTc
          have HROW := Lib.hid hrow
          have HBT := Lib.hid hbT
          have hkk : k < 3000 := by omega
          have hOl2 : O.length ≤ 7 * k + f := hOl
          clear hb hnc hgc hq hget hnx hAt hM hB hstep hG1 hpl hOc hTc hrow hgapc hncell hOl hbT
          have hκ0 : (0 : Int) ≤ (κ : Int) := by omega
          have hκl : (κ : Int) < 7 := by omega
          by_cases hκ : κ = 0
          rotate_left
          · have hκi : ((κ : Int) == 0) = false := beq_eq_false_iff_ne.2 (by omega)
            have gl := gap_len (k := κ) (by omega)
            have gcd := Lib.hid (gap_codes (k := κ) (by omega))
            have gs := Lib.hid (HST.out (gap κ) (gap_shut (by omega)) (.inr (.inl ⟨gap_ne (by omega) hκ, gap_noHead (by omega)⟩)))
            have gc := HG1.out κ (by omega)
            generalize gap κ = G at *
            have e1 := add_str O G (by omega)
            have e2 := add_str (O ++ G) T (by rw [List.length_append]; have := HBT.out; omega)
            have s0 : wr.drew.cell? ⟨gb, κ, none⟩ = some (.string (str G)) ∧ wr.drew.cell? ⟨g, k * 4 + 3, none⟩ = some (.string (str T)) := ⟨gc, y3⟩
            have hLN := Lib.hid (show (O ++ G ++ T).length ≤ 7 * (k + 1) + b by rw [List.length_append, List.length_append]; have := HBT.out; omega)
            have hCN := Lib.hid (show Codes (O ++ G ++ T) from fun c hcm => by
              rcases List.mem_append.1 hcm with h | h
              · rcases List.mem_append.1 h with h | h
                · exact HOC.out c h
                · exact gcd.out c h
              · exact HTC.out c h)
            go_wp2_with fail
            go_region_held3 (fun w' => w'.cell? ⟨gb, κ, none⟩ = some (.string (str G)) ∧ w'.cell? ⟨g, k * 4 + 3, none⟩ = some (.string (str T))) (exact s0) (fail)
            all_goals
              clear s0 e1 e2
              go_wp2_with fail
              go_roundw
              case rel => exact ⟨k + 1, b, O ++ G ++ T, HKL.out, by first | rfl | (rw [List.append_assoc]), rfl, by go_num, hCN.out, hLN.out, by rw [HBT.out]; exact gs.out, HX.out, by omega, HB.out.drew⟩
              case measure => simp [intOf]; omega
          · subst hκ
            rcases Nat.lt_or_ge f a with hfl | hfl
            · by_cases hkp : 0 < k
              · have hfi : (f : Int) < (a : Int) := by omega
                have hki : (0 : Int) < (k : Int) := by omega
                have gl := gap_len (k := 1) (by omega)
                have gcd := Lib.hid (gap_codes (k := 1) (by omega))
                have gs := Lib.hid (HST.out (gap 1) (gap_shut (by omega)) (.inr (.inl ⟨gap_ne (by omega) (by decide), gap_noHead (by omega)⟩)))
                have gc := HG1.out 1 (by omega)
                generalize gap 1 = G at *
                have e1 := add_str O G (by omega)
                have e2 := add_str (O ++ G) T (by rw [List.length_append]; have := HBT.out; omega)
                have s0 : wr.drew.cell? ⟨gb, 1, none⟩ = some (.string (str G)) ∧ wr.drew.cell? ⟨g, k * 4 + 3, none⟩ = some (.string (str T)) := ⟨gc, y3⟩
                have hLN := Lib.hid (show (O ++ G ++ T).length ≤ 7 * (k + 1) + b by rw [List.length_append, List.length_append]; have := HBT.out; omega)
                have hCN := Lib.hid (show Codes (O ++ G ++ T) from fun c hcm => by
                  rcases List.mem_append.1 hcm with h | h
                  · rcases List.mem_append.1 h with h | h
                    · exact HOC.out c h
                    · exact gcd.out c h
                  · exact HTC.out c h)
                go_wp2_with fail
                go_region_held3 (fun w' => w'.cell? ⟨gb, 1, none⟩ = some (.string (str G)) ∧ w'.cell? ⟨g, k * 4 + 3, none⟩ = some (.string (str T))) (exact s0) (fail)
                all_goals
                  clear s0 e1 e2
                  go_wp2_with fail
                  go_roundw
                  case rel => exact ⟨k + 1, b, O ++ G ++ T, HKL.out, by first | rfl | (rw [List.append_assoc]), rfl, by go_num, hCN.out, hLN.out, by rw [HBT.out]; exact gs.out, HX.out, by omega, HB.out.drew⟩
                  case measure => simp [intOf]; omega
              · have HK0 := Lib.hid (show k = 0 by omega)
                have hfi : (f : Int) < (a : Int) := by omega
                have hki : ¬ ((0 : Int) < (k : Int)) := by omega
                have gl := gap_len (k := 0) (by omega)
                have gcd := Lib.hid (gap_codes (k := 0) (by omega))
                have gs := Lib.hid (HST.out (gap 0) (gap_shut (by omega)) (.inl HK0.out))
                have gc := HG1.out 0 (by omega)
                generalize gap 0 = G at *
                have e1 := add_str O G (by omega)
                have e2 := add_str (O ++ G) T (by rw [List.length_append]; have := HBT.out; omega)
                have s0 : wr.drew.cell? ⟨gb, 0, none⟩ = some (.string (str G)) ∧ wr.drew.cell? ⟨g, k * 4 + 3, none⟩ = some (.string (str T)) := ⟨gc, y3⟩
                have hLN := Lib.hid (show (O ++ G ++ T).length ≤ 7 * (k + 1) + b by rw [List.length_append, List.length_append]; have := HBT.out; omega)
                have hCN := Lib.hid (show Codes (O ++ G ++ T) from fun c hcm => by
                  rcases List.mem_append.1 hcm with h | h
                  · rcases List.mem_append.1 h with h | h
                    · exact HOC.out c h
                    · exact gcd.out c h
                  · exact HTC.out c h)
                go_wp2_with fail
                go_region_held3 (fun w' => w'.cell? ⟨gb, 0, none⟩ = some (.string (str G)) ∧ w'.cell? ⟨g, k * 4 + 3, none⟩ = some (.string (str T))) (exact s0) (fail)
                all_goals
                  clear s0 e1 e2
                  go_wp2_with fail
                  go_roundw
                  case rel => exact ⟨k + 1, b, O ++ G ++ T, HKL.out, by first | rfl | (rw [List.append_assoc]), rfl, by go_num, hCN.out, hLN.out, by rw [HBT.out]; exact gs.out, HX.out, by omega, HB.out.drew⟩
                  case measure => simp [intOf]; omega
            · have haf : a = f := by omega
              have hfi : ¬ ((f : Int) < (a : Int)) := by omega
              have HAF := Lib.hid haf
              clear haf
              have gl := gap_len (k := 0) (by omega)
              have gcd := Lib.hid (gap_codes (k := 0) (by omega))
              have gs := Lib.hid (HST.out (gap 0) (gap_shut (by omega)) (.inr (.inr ⟨rfl, HAF.out⟩)))
              have gc := HG1.out 0 (by omega)
              generalize gap 0 = G at *
              have e1 := add_str O G (by omega)
              have e2 := add_str (O ++ G) T (by rw [List.length_append]; have := HBT.out; omega)
              have s0 : wr.drew.cell? ⟨gb, 0, none⟩ = some (.string (str G)) ∧ wr.drew.cell? ⟨g, k * 4 + 3, none⟩ = some (.string (str T)) := ⟨gc, y3⟩
              have hLN := Lib.hid (show (O ++ G ++ T).length ≤ 7 * (k + 1) + b by rw [List.length_append, List.length_append]; have := HBT.out; omega)
              have hCN := Lib.hid (show Codes (O ++ G ++ T) from fun c hcm => by
                rcases List.mem_append.1 hcm with h | h
                · rcases List.mem_append.1 h with h | h
                  · exact HOC.out c h
                  · exact gcd.out c h
                · exact HTC.out c h)
              go_wp2_with fail
              go_region_held3 (fun w' => w'.cell? ⟨gb, 0, none⟩ = some (.string (str G)) ∧ w'.cell? ⟨g, k * 4 + 3, none⟩ = some (.string (str T))) (exact s0) (fail)
              all_goals
                clear s0 e1 e2
                go_wp2_with fail
                go_roundw
                case rel => exact ⟨k + 1, b, O ++ G ++ T, HKL.out, by first | rfl | (rw [List.append_assoc]), rfl, by go_num, hCN.out, hLN.out, by rw [HBT.out]; exact gs.out, HX.out, by omega, HB.out.drew⟩
                case measure => simp [intOf]; omega
        · obtain rfl : k = (wds L).length := by omega
          obtain ⟨hnc, hc256⟩ := hncell 0 hn0
          have yc : wr.cell? ⟨ab, off, none⟩ = some (.int .u8 ((c 0 : Nat) : Int)) := (hB.cell (p := ⟨ab, off, none⟩) habl).trans hnc
          generalize c 0 = z at *
          have hz7 : ((z : Int).tmod 7) = ((z % 7 : Nat) : Int) := by rw [Int.ofNat_tmod]; rfl
          have hz7e : ((z : Int) % 7) = ((z % 7 : Nat) : Int) := by omega
          have hκ7 : z % 7 < 7 := Nat.mod_lt _ (by decide)
          generalize z % 7 = κ at *
          have gl := gap_len (k := κ) (by omega)
          have gcd := Lib.hid (gap_codes (k := κ) (by omega))
          have gc := (hB.cell (p := ⟨gb, κ, none⟩) hgbl).trans (hgapc κ hκ7)
          have htx := mid_end hM (gap_shut (k := κ) (by omega)) (gap_noHead (by omega))
          generalize gap κ = G at *
          have hel : endC.length = 9 := rfl
          have hQl : (O ++ G ++ endC).length ≤ 65536 := by rw [List.length_append, List.length_append, hel]; omega
          have hokQ : okw (O ++ G ++ endC) = true := by
            rw [okw_tx, htx]
            have := HOK.out
            rw [okw_tx] at this
            exact this
          have hQc : Codes (O ++ G ++ endC) := fun c hcm => by
            rcases List.mem_append.1 hcm with h | h
            · rcases List.mem_append.1 h with h | h
              · exact hOc c h
              · exact gcd.out c h
            · exact (show ∀ c ∈ endC, c < 256 by decide) c h
          have hEQ : wE (O ++ G ++ endC) = 0 := by unfold wE; rw [if_neg (by omega), if_pos hokQ]
          have hWQ : wL (O ++ G ++ endC) = wds (O ++ G ++ endC) := by unfold wL; rw [if_neg (by omega), if_pos hokQ]
          have e1 := add_str O G (by omega)
          have e2 : ∀ w, (Op.stringOp .add (str (O ++ G)) ⟨#[59, 32, 116, 104, 101, 32, 101, 110, 100]⟩).run Try.prog w = .ok (.string (str (O ++ G ++ endC))) w := fun w => add_str (O ++ G) endC (by rw [List.length_append, hel]; omega) w
          have CQ := Lib.hid (fun w5 => words_any (O ++ G ++ endC) hQc (by omega) w5)
          generalize O ++ G ++ endC = Q at *
          have hκ0 : (0 : Int) ≤ (κ : Int) := by omega
          have hκl : (κ : Int) < 7 := by omega
          have HB := Lib.hid (hbW.out.trans (hB.mono hbW.out.size))
          have HRW := Lib.hid (show RowW wr (.slice A2 (wds L).length cp2) (wds L) from RowW.keep ⟨_, _, rfl, hrow⟩ hB)
          have HTX := Lib.hid htx
          have HEQ := Lib.hid hEQ
          have HWQ := Lib.hid hWQ
          clear hnc hM hAt hB hrow hgapc hncell gcd htx hel hQl hokQ hQc hEQ hWQ hOc hOl hf hk hlt
          go_wp2_with fail
          refine (CQ.out _).mono ?_
          rintro e w6 ⟨⟨v6, rfl, hrow6⟩, hb6⟩
          rw [HEQ.out]
          rw [HWQ.out] at hrow6
          have hR6 := rowW_of hrow6
          have cs := same_yes _ v6 (wds L) (wds Q) w6 (HRW.out.keep hb6) hR6 HTX.out.symm (by omega)
          obtain ⟨A6, cp6, rfl⟩ := slice_form hrow6
          have HB6 := Lib.hid (HB.out.trans (hb6.mono HB.out.size))
          clear hrow6 hR6 hb6
          go_wp2_with fail
          refine cs.mono ?_
          rintro e w7 ⟨rfl, hb7⟩
          clear cs
          go_wp2
          go_ret
          exact ⟨rfl, HB6.out.trans (hb7.mono HB6.out.size)⟩

theorem addr_in {a : Addr} {w : World} {v : Value} (h : w.cell? (a.add 0) = some v) : ∃ b off, a = ⟨b, off, none⟩ ∧ b < w.heap.size := by
  obtain ⟨b, off, spot⟩ := a
  have hspot : spot = none := by simpa [Addr.add] using World.cell?_spot h
  subst hspot
  refine ⟨b, off, rfl, ?_⟩
  rcases Nat.lt_or_ge b w.heap.size with hb | hb
  · exact hb
  · simp [World.cell?, Addr.add, Array.getElem?_eq_none hb] at h
theorem add_in (b off j : Nat) : ((⟨b, off, none⟩ : Addr).add j) = ⟨b, off + j, none⟩ := by
  unfold Addr.add; split <;> simp_all
theorem wf_u8 {n : Int} (h : (Lit.int .u8 n).wf = true) : 0 ≤ n ∧ n < 256 := by
  have h1 : IntKind.u8.min = 0 := by decide
  have h2 : IntKind.u8.max = 255 := by decide
  simp only [Lit.wf, decide_eq_true_eq, Bool.and_eq_true, h1, h2] at h
  omega
theorem parted_said (w : World) (s : ByteArray) (hs : s.size ≤ 9223372036854775807) (a : Option Addr) (len cap : Nat) (zs : List Int)
    (hr : (a = none ∧ len = 0 ∧ cap = 0 ∧ zs = []) ∨ ∃ x, a = some x ∧ len ≤ cap ∧ cap ≤ maxLen ∧ zs.length = cap ∧ (∀ i, i < zs.length → w.cell? (x.add i) = some (.int .u8 (zs.getD i 0))) ∧ ∀ n ∈ zs, (Lit.int .u8 n).wf = true) :
    Calls Try.prog 6 #[.string s, .slice a len cap] w fun e w' => e = .returned (.bool true) ∧ Below w.heap.size w w' := by
  rcases hr with ⟨rfl, rfl, rfl, rfl⟩ | ⟨x, rfl, hlc, hcm, hzl, hcell, hwf⟩
  · exact parted_law w s hs _ 0 (fun _ => 0) (Nat.zero_le _) ⟨_, _, rfl, fun h => absurd h (Nat.lt_irrefl 0)⟩
  · unfold maxLen at hcm
    refine parted_law w s hs _ len (fun i => (zs.getD i 0).toNat) (by omega) ⟨_, _, rfl, fun h => ?_⟩
    obtain ⟨b, off, rfl, hb⟩ := addr_in (hcell 0 (by omega))
    refine ⟨b, off, rfl, hb, fun i hi => ?_⟩
    have hc := hcell i (by omega)
    have hm : zs.getD i 0 ∈ zs := by
      rw [List.getD_eq_getElem?_getD, List.getElem?_eq_getElem (by omega)]
      exact List.getElem_mem _
    have hw := wf_u8 (hwf _ hm)
    rw [add_in] at hc
    show _ ∧ (zs.getD i 0).toNat < 256
    refine ⟨?_, by omega⟩
    show _ = some (Value.int .u8 (((zs.getD i 0).toNat : Nat) : Int))
    rw [hc]
    congr 2
    omega

end Go.Proofs.Ytkkocohfdcnamaa

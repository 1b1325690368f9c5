/- Contract of the document's own layer 12: Words. -/
import Derived.Laws.AppendOwn
import Derived.Test.YtkmenbicmbaceaaLexE
import Derived.Test.YtkmenbicmbaceaaLexK
namespace Go.Proofs.Ytkmenbicmbaceaa
open Go.RowKit Go.Shelf

set_option linter.unusedVariables false
set_option linter.unusedSimpArgs false

def RWordsPost (L : List Nat) (w : World) (e : Ending) (w' : World) : Prop :=
  (∃ v, e = .returned (.tuple #[v, .int .i64 ((wAt L : Nat) : Int), .int .i64 ((wE L : Nat) : Int)]) ∧ w'.ownsRow w.heap.size 81 4 v (wL L).length (wcells (wL L))) ∧ Below w.heap.size w w'
theorem infoRWord : (Try.prog.info? 81).map (fun i => (i.zero, i.size, i.bytes)) = some (some (.agg #[.int .u8 0, .int .i64 0, .int .i64 0, .string ⟨#[]⟩]), 4, 40) := by kernel_rfl

set_option maxRecDepth 100000 in
set_option maxHeartbeats 8000000 in
theorem rwords_any (L : List Nat) (hc : Codes L) (hm : L.length < 9223372036854775806) (w : World) :
    Calls Try.prog 37 #[.string (str L)] w (RWordsPost L w) := by
  have hsz := str_size L
  by_cases hlong : 65536 < L.length
  · have hE : Hid (wE L = 40) := by show _ = _; unfold wE; rw [if_pos hlong]
    have hA : Hid (wAt L = 65536) := by show _ = _; unfold wAt; rw [if_pos hlong]
    have hW : Hid (wL L = []) := by show _ = _; unfold wL; rw [if_pos hlong]
    go_enter Try.func37, Try.ntmps37
    go_wp2
    go_ret3
    exact ⟨⟨.slice none 0 0, by rw [hE.out, hA.out]; rfl, by rw [hW.out]; exact ⟨rfl, .inl ⟨rfl, rfl⟩⟩⟩, Below.refl _ _⟩
  · obtain ⟨i0, hi, hz0, hz1, hz2⟩ := info_parts infoRWord
    have c0 := rskip_any L 0 hc (Nat.zero_le _) (by omega) w
    rw [List.drop_zero, Nat.zero_add] at c0
    have hwl := wds_len L
    have HN := Lib.hid (show ∀ k a, At L k a → k ≤ (wds L).length → (k < (wds L).length ↔ a < L.length) from fun k a h => h.lt)
    go_enter Try.func37, Try.ntmps37
    go_wp2_with fail
    refine c0.mono ?_
    rintro e w1 ⟨rfl, rfl⟩
    clear c0
    go_wp2_with fail
    go_loopw [5, 6] (fun o i wr => ∃ (k a : Nat) (v : Value), k ≤ (wds L).length ∧ At L k a ∧ o = v ∧ i = .int .i64 (a : Int) ∧ wr.ownsRow w1.heap.size 81 4 v k (wcells ((wds L).take k)) ∧ (∀ y ∈ (wds L).take k, kd y.2 ≠ 0) ∧ Below w1.heap.size w1 wr) (fun _ i _ => L.length - (intOf i).toNat)
    case atStart => exact ⟨0, _, _, Nat.zero_le _, At.start L, rfl, rfl, ⟨rfl, .inl ⟨rfl, rfl⟩⟩, by simp, Below.refl _ _⟩
    case round =>
      obtain ⟨k, a, v, hk, hA, rfl, rfl, hrow, hgood, hB⟩ := hrel
      by_cases hlt : a < L.length
      · have hkl := Lib.hid ((HN.out k a hA hk).2 hlt)
        have hle := wl_at hlt
        have hT := Lib.hid (take_next hA hlt)
        have hX := Lib.hid (hA.next hlt)
        have hpl := piece_len hlt
        have hpc : Codes ((L.drop a).take (wl (L.drop a))) := codes_take (codes_drop hc _) _
        have CK := Lib.hid (fun w2 => rkind_any ((L.drop a).take (wl (L.drop a))) w2 hpc (by rw [hpl]; omega))
        have CB := Lib.hid (fun w2 => rskip_any L (a + wl (L.drop a)) hc hle (by omega) w2)
        have hext := str_extract L a (a + wl (L.drop a))
        rw [List.drop_take, Nat.add_sub_cancel_left] at hext
        obtain ⟨P, hP⟩ : ∃ P, P = a + ((L.drop a).takeWhile pcc).length := ⟨_, rfl⟩
        have hW : a + wl (L.drop a) = max P (a + 1) := by rw [hP]; unfold wl; omega
        have hPle : a ≤ P := by omega
        have hrl : k ≤ 65536 := by omega
        generalize (L.drop a).take (wl (L.drop a)) = T at *
        obtain ⟨b, hb⟩ : ∃ b : Nat, b = a + wl (L.drop a) := ⟨_, rfl⟩
        rw [← hb] at hle hW hext CB hX
        have hbT : (b : Int) = (a : Int) + (T.length : Int) := by omega
        clear hpl
        have HB0 := Lib.hid hB
        have HROW := Lib.hid hrow
        have HGOOD := Lib.hid hgood
        have HA := Lib.hid hA
        have HBT := Lib.hid hbT
        clear hb hpc hrow hgood hB hA hbT
        go_wp2
        go_loopw [7] (fun i wr' => ∃ q : Nat, a ≤ q ∧ q ≤ L.length ∧ i = .int .i64 (q : Int) ∧ P = q + ((L.drop q).takeWhile pcc).length ∧ wr' = wr) (fun i _ => L.length - (intOf i).toNat)
        case atStart => exact ⟨a, Nat.le_refl _, by omega, rfl, hP, rfl⟩
        case round =>
          clear hP
          obtain ⟨q, haq, hq, rfl, hQ, rfl⟩ := hrel
          by_cases hlq : q < L.length ∧ pcc (L[q]?.getD 0) = true
          · obtain ⟨hlq, hpq⟩ := hlq
            have hxq := byte_at hc hlq (by rw [hsz]; exact hlq)
            have HQ : Hid (P = (q + 1) + ((L.drop (q + 1)).takeWhile pcc).length) := by
              show _ = _
              rw [hQ, drop_cons hlq, List.takeWhile_cons, if_pos hpq, List.length_cons]; omega
            have cs := rsign_any (L[q]?.getD 0) (codes_at hc hlq) wr
            unfold pcc at hpq
            generalize L[q]?.getD 0 = c at *
            clear hQ
            rcases hs : syc c with _ | _
            · rw [hs, Bool.false_or, beq_iff_eq] at hpq
              rw [hs] at cs
              subst hpq
              go_wp2_with fail
              refine cs.mono ?_
              rintro e w2 ⟨rfl, rfl⟩
              clear cs
              go_wp2
              go_roundw
              case rel => exact ⟨q + 1, by omega, by omega, by go_num, HQ.out, trivial⟩
              case measure => simp [intOf]; omega
            · rw [hs] at cs
              clear hpq
              go_wp2_with fail
              refine cs.mono ?_
              rintro e w2 ⟨rfl, rfl⟩
              clear cs
              go_wp2
              go_roundw
              case rel => exact ⟨q + 1, by omega, by omega, by go_num, HQ.out, trivial⟩
              case measure => simp [intOf]; omega
          · have HQ : P = q := by
              by_cases h1 : q < L.length
              · have h2 : pcc (L[q]?.getD 0) = false := by
                  rcases hp : pcc (L[q]?.getD 0) with _ | _
                  · rfl
                  · exact absurd ⟨h1, hp⟩ hlq
                rw [hQ, drop_cons h1, List.takeWhile_cons, if_neg (by rw [h2]; decide)]; rfl
              · rw [hQ, List.drop_eq_nil_of_le (by omega)]; rfl
            have hAP : a = q ∨ a < q := by omega
            by_cases h1 : q < L.length
            · have hxq := byte_at hc h1 (by rw [hsz]; exact h1)
              have h2 : pcc (L[q]?.getD 0) = false := by
                rcases hp : pcc (L[q]?.getD 0) with _ | _
                · rfl
                · exact absurd ⟨h1, hp⟩ hlq
              unfold pcc at h2
              rw [Bool.or_eq_false_iff] at h2
              have cs := rsign_any (L[q]?.getD 0) (codes_at hc h1) wr
              rw [h2.1] at cs
              have h58 := h2.2
              generalize L[q]?.getD 0 = c at *
              have h58i : ((c : Int) == 58) = false := by rw [beq_eq_false_iff_ne] at h58 ⊢; omega
              clear h2 h58 hlq hQ
              rcases hAP with hqa | hqa
              · have hb1 : (a : Int) + 1 = (b : Int) := by omega
                subst hqa
                clear HQ
                have hW' := Lib.hid hW
                clear hW
                have ha0 : (0 : Int) ≤ (a : Int) := by omega
                have hab : (a : Int) ≤ (b : Int) := by omega
                have hbl : (b : Int) ≤ (L.length : Int) := by omega
                go_wp2_with fail
                refine cs.mono ?_
                rintro e w2 ⟨rfl, rfl⟩
                clear cs
                go_wp2_with fail
                go_region_held3 (fun _ => True) (trivial) (first | (go_at_call 49; (with_reducible refine (CK.out _).mono ?_); rintro e w3 ⟨rfl, rfl⟩))
                all_goals
                  have hnew := World.alloc_heap_new w2 (.cells #[.int .u8 ((kd T : Nat) : Int), .int .i64 (a : Int), .int .i64 (b : Int), .string (str T)] 81)
                  have hr2 := HROW.out.alloc (.cells #[.int .u8 ((kd T : Nat) : Int), .int .i64 (a : Int), .int .i64 (b : Int), .string (str T)] 81)
                  have hb2 := HB0.out.alloc HB0.out.size (.cells #[.int .u8 ((kd T : Nat) : Int), .int .i64 (a : Int), .int .i64 (b : Int), .string (str T)] 81)
                  generalize w2.alloc (.cells #[.int .u8 ((kd T : Nat) : Int), .int .i64 (a : Int), .int .i64 (b : Int), .string (str T)] 81) = WA at *
                  generalize w2.heap.size = vb at *
                  have hnew2 : WA.drew.heap[vb]? = some (.cells #[.int .u8 ((kd T : Nat) : Int), .int .i64 (a : Int), .int .i64 (b : Int), .string (str T)] 81 (0, 0)) := hnew
                  have hr3 : WA.drew.ownsRow w1.heap.size 81 4 u5 k (wcells ((wds L).take k)) := hr2
                  have hb3 := hb2.drew
                  clear hnew hr2 hb2
                  generalize WA.drew = W at *
                  have g0 : W.cell? ⟨vb, 0, none⟩ = some (.int .u8 ((kd T : Nat) : Int)) := by rw [cell_of_row W _ _ _ _ _ hnew2]; rfl
                  have g1 : W.cell? ⟨vb, 1, none⟩ = some (.int .i64 (a : Int)) := by rw [cell_of_row W _ _ _ _ _ hnew2]; rfl
                  have g2 : W.cell? ⟨vb, 2, none⟩ = some (.int .i64 (b : Int)) := by rw [cell_of_row W _ _ _ _ _ hnew2]; rfl
                  have g3 : W.cell? ⟨vb, 3, none⟩ = some (.string (str T)) := by rw [cell_of_row W _ _ _ _ _ hnew2]; rfl
                  have HR3 := Lib.hid hr3
                  have HB3 := Lib.hid hb3
                  clear hnew2 hr3 hb3
                  rcases Nat.decEq (kd T) 0 with hk0 | hk0
                  rotate_left
                  · obtain ⟨hok, hfb⟩ := bad_of hT.out HGOOD.out hk0
                    have hE : Hid (wE L = 4) := by show _ = _; unfold wE; rw [if_neg hlong, if_neg (by rw [hok]; decide)]
                    have hAt : Hid (wAt L = a) := by show _ = _; unfold wAt; rw [if_neg hlong, if_neg (by rw [hok]; decide), hfb]
                    have hWL : Hid (wL L = []) := by show _ = _; unfold wL; rw [if_neg hlong, if_neg (by rw [hok]; decide)]
                    rw [hk0] at g0
                    clear hok hfb hk0
                    go_wp2
                    go_ret3
                    exact ⟨⟨.slice none 0 0, by rw [hE.out, hAt.out]; rfl, by rw [hWL.out]; exact ⟨rfl, .inl ⟨rfl, rfl⟩⟩⟩, HB3.out⟩
                  · have hkne : ((((kd T : Nat) : Int)) == 0) = false := beq_eq_false_iff_ne.2 (by omega)
                    have HK0 := Lib.hid hk0
                    have hnews : ∀ j u, (wordCells (a, T))[j]? = some u → (W.alloc (.cells #[.int .u8 ((kd T : Nat) : Int), .int .i64 (a : Int), .int .i64 (b : Int), .string (str T)] 81)).cell? ((⟨W.heap.size, 0, none⟩ : Addr).add j) = some u := fun j u hu => by
                      rw [← List.getElem?_toArray] at hu
                      rw [Addr.add_lit, Nat.zero_add, cell_of_row _ _ _ _ _ _ (World.alloc_heap_new W _), HBT.out]; exact hu
                    have hone := wordCells_one (a, T)
                    have hxl : (wordCells (a, T)).length = 1 * 4 := rfl
                    have hbz := HB3.out.size
                    clear hk0
                    go_wp2_with (at_builtin; refine wpList_append_own _ rfl _ _ 74 rfl w1.heap.size 81 i0 _ 4 40 Try.underlying74 hi hz0 hz1 hz2 rfl (by decide) u5 k (wcells ((wds L).take k)) rfl (HR3.out.alloc _) ⟨W.heap.size, 0, none⟩ 1 1 (wordCells (a, T)) rfl hxl hnews hone (by unfold maxLen; omega) (by omega) (by simp; omega) ?_; intro v' w6 hown' hgrow hgone)
                    have cb := CB.out w6
                    have HO := Lib.hid (show w6.ownsRow w1.heap.size 81 4 v' (k + 1) (wcells ((wds L).take (k + 1))) by rw [hT.out, wcells_snoc]; exact hown')
                    have HB6 := Lib.hid ((HB3.out.alloc HB3.out.size (.cells #[.int .u8 ((kd T : Nat) : Int), .int .i64 (a : Int), .int .i64 (b : Int), .string (str T)] 81)).grown hgrow (by simp; omega) (fun j hj => (HR3.out.lt j hj).1))
                    have HG6 := Lib.hid (show ∀ y ∈ (wds L).take (k + 1), kd y.2 ≠ 0 by
                      rw [hT.out]
                      intro y hy
                      rcases List.mem_append.1 hy with hy | hy
                      · exact HGOOD.out y hy
                      · rw [List.mem_singleton.1 hy]; exact HK0.out)
                    clear hown' hgrow hgone hnews
                    go_wp2_with fail
                    refine cb.mono ?_
                    rintro e w7 ⟨rfl, rfl⟩
                    clear cb
                    go_wp2_with fail
                    go_roundw
                    case rel => exact ⟨k + 1, b + skp false (L.drop b), _, hkl.out, hX.out, rfl, by go_num, HO.out, HG6.out, HB6.out⟩
                    case measure => simp [intOf]; omega
              · have hbq : b = q := by omega
                have hba : ((q : Int) == (a : Int)) = false := beq_eq_false_iff_ne.2 (by omega)
                subst hbq
                clear HQ
                have hW' := Lib.hid hW
                clear hW
                have ha0 : (0 : Int) ≤ (a : Int) := by omega
                have hab : (a : Int) ≤ (b : Int) := by omega
                have hbl : (b : Int) ≤ (L.length : Int) := by omega
                go_wp2_with fail
                refine cs.mono ?_
                rintro e w2 ⟨rfl, rfl⟩
                clear cs
                go_wp2_with fail
                go_region_held3 (fun _ => True) (trivial) (first | (go_at_call 49; (with_reducible refine (CK.out _).mono ?_); rintro e w3 ⟨rfl, rfl⟩))
                all_goals
                  have hnew := World.alloc_heap_new w2 (.cells #[.int .u8 ((kd T : Nat) : Int), .int .i64 (a : Int), .int .i64 (b : Int), .string (str T)] 81)
                  have hr2 := HROW.out.alloc (.cells #[.int .u8 ((kd T : Nat) : Int), .int .i64 (a : Int), .int .i64 (b : Int), .string (str T)] 81)
                  have hb2 := HB0.out.alloc HB0.out.size (.cells #[.int .u8 ((kd T : Nat) : Int), .int .i64 (a : Int), .int .i64 (b : Int), .string (str T)] 81)
                  generalize w2.alloc (.cells #[.int .u8 ((kd T : Nat) : Int), .int .i64 (a : Int), .int .i64 (b : Int), .string (str T)] 81) = WA at *
                  generalize w2.heap.size = vb at *
                  have hnew2 : WA.drew.heap[vb]? = some (.cells #[.int .u8 ((kd T : Nat) : Int), .int .i64 (a : Int), .int .i64 (b : Int), .string (str T)] 81 (0, 0)) := hnew
                  have hr3 : WA.drew.ownsRow w1.heap.size 81 4 u5 k (wcells ((wds L).take k)) := hr2
                  have hb3 := hb2.drew
                  clear hnew hr2 hb2
                  generalize WA.drew = W at *
                  have g0 : W.cell? ⟨vb, 0, none⟩ = some (.int .u8 ((kd T : Nat) : Int)) := by rw [cell_of_row W _ _ _ _ _ hnew2]; rfl
                  have g1 : W.cell? ⟨vb, 1, none⟩ = some (.int .i64 (a : Int)) := by rw [cell_of_row W _ _ _ _ _ hnew2]; rfl
                  have g2 : W.cell? ⟨vb, 2, none⟩ = some (.int .i64 (b : Int)) := by rw [cell_of_row W _ _ _ _ _ hnew2]; rfl
                  have g3 : W.cell? ⟨vb, 3, none⟩ = some (.string (str T)) := by rw [cell_of_row W _ _ _ _ _ hnew2]; rfl
                  have HR3 := Lib.hid hr3
                  have HB3 := Lib.hid hb3
                  clear hnew2 hr3 hb3
                  rcases Nat.decEq (kd T) 0 with hk0 | hk0
                  rotate_left
                  · obtain ⟨hok, hfb⟩ := bad_of hT.out HGOOD.out hk0
                    have hE : Hid (wE L = 4) := by show _ = _; unfold wE; rw [if_neg hlong, if_neg (by rw [hok]; decide)]
                    have hAt : Hid (wAt L = a) := by show _ = _; unfold wAt; rw [if_neg hlong, if_neg (by rw [hok]; decide), hfb]
                    have hWL : Hid (wL L = []) := by show _ = _; unfold wL; rw [if_neg hlong, if_neg (by rw [hok]; decide)]
                    rw [hk0] at g0
                    clear hok hfb hk0
                    go_wp2
                    go_ret3
                    exact ⟨⟨.slice none 0 0, by rw [hE.out, hAt.out]; rfl, by rw [hWL.out]; exact ⟨rfl, .inl ⟨rfl, rfl⟩⟩⟩, HB3.out⟩
                  · have hkne : ((((kd T : Nat) : Int)) == 0) = false := beq_eq_false_iff_ne.2 (by omega)
                    have HK0 := Lib.hid hk0
                    have hnews : ∀ j u, (wordCells (a, T))[j]? = some u → (W.alloc (.cells #[.int .u8 ((kd T : Nat) : Int), .int .i64 (a : Int), .int .i64 (b : Int), .string (str T)] 81)).cell? ((⟨W.heap.size, 0, none⟩ : Addr).add j) = some u := fun j u hu => by
                      rw [← List.getElem?_toArray] at hu
                      rw [Addr.add_lit, Nat.zero_add, cell_of_row _ _ _ _ _ _ (World.alloc_heap_new W _), HBT.out]; exact hu
                    have hone := wordCells_one (a, T)
                    have hxl : (wordCells (a, T)).length = 1 * 4 := rfl
                    have hbz := HB3.out.size
                    clear hk0
                    go_wp2_with (at_builtin; refine wpList_append_own _ rfl _ _ 74 rfl w1.heap.size 81 i0 _ 4 40 Try.underlying74 hi hz0 hz1 hz2 rfl (by decide) u5 k (wcells ((wds L).take k)) rfl (HR3.out.alloc _) ⟨W.heap.size, 0, none⟩ 1 1 (wordCells (a, T)) rfl hxl hnews hone (by unfold maxLen; omega) (by omega) (by simp; omega) ?_; intro v' w6 hown' hgrow hgone)
                    have cb := CB.out w6
                    have HO := Lib.hid (show w6.ownsRow w1.heap.size 81 4 v' (k + 1) (wcells ((wds L).take (k + 1))) by rw [hT.out, wcells_snoc]; exact hown')
                    have HB6 := Lib.hid ((HB3.out.alloc HB3.out.size (.cells #[.int .u8 ((kd T : Nat) : Int), .int .i64 (a : Int), .int .i64 (b : Int), .string (str T)] 81)).grown hgrow (by simp; omega) (fun j hj => (HR3.out.lt j hj).1))
                    have HG6 := Lib.hid (show ∀ y ∈ (wds L).take (k + 1), kd y.2 ≠ 0 by
                      rw [hT.out]
                      intro y hy
                      rcases List.mem_append.1 hy with hy | hy
                      · exact HGOOD.out y hy
                      · rw [List.mem_singleton.1 hy]; exact HK0.out)
                    clear hown' hgrow hgone hnews
                    go_wp2_with fail
                    refine cb.mono ?_
                    rintro e w7 ⟨rfl, rfl⟩
                    clear cb
                    go_wp2_with fail
                    go_roundw
                    case rel => exact ⟨k + 1, b + skp false (L.drop b), _, hkl.out, hX.out, rfl, by go_num, HO.out, HG6.out, HB6.out⟩
                    case measure => simp [intOf]; omega
            · have hbq : b = q := by omega
              have hba : ((q : Int) == (a : Int)) = false := beq_eq_false_iff_ne.2 (by omega)
              have hqL : L.length = q := by omega
              clear HQ hlq hQ hAP
              have hW' := Lib.hid hW
              clear hW
              obtain ⟨w2, hw2⟩ : ∃ w2 : World, w2 = wr := ⟨_, rfl⟩
              subst hw2
              subst hbq
              have ha0 : (0 : Int) ≤ (a : Int) := by omega
              have hab : (a : Int) ≤ (b : Int) := by omega
              have hbl : (b : Int) ≤ (L.length : Int) := by omega
              go_wp2_with fail
              have HQL := Lib.hid hqL
              clear hqL
              go_region_held3 (fun _ => True) (trivial) (first | (go_at_call 49; (with_reducible refine (CK.out _).mono ?_); rintro e w3 ⟨rfl, rfl⟩))
              all_goals
                have hnew := World.alloc_heap_new w2 (.cells #[.int .u8 ((kd T : Nat) : Int), .int .i64 (a : Int), .int .i64 (b : Int), .string (str T)] 81)
                have hr2 := HROW.out.alloc (.cells #[.int .u8 ((kd T : Nat) : Int), .int .i64 (a : Int), .int .i64 (b : Int), .string (str T)] 81)
                have hb2 := HB0.out.alloc HB0.out.size (.cells #[.int .u8 ((kd T : Nat) : Int), .int .i64 (a : Int), .int .i64 (b : Int), .string (str T)] 81)
                generalize w2.alloc (.cells #[.int .u8 ((kd T : Nat) : Int), .int .i64 (a : Int), .int .i64 (b : Int), .string (str T)] 81) = WA at *
                generalize w2.heap.size = vb at *
                have hnew2 : WA.drew.heap[vb]? = some (.cells #[.int .u8 ((kd T : Nat) : Int), .int .i64 (a : Int), .int .i64 (b : Int), .string (str T)] 81 (0, 0)) := hnew
                have hr3 : WA.drew.ownsRow w1.heap.size 81 4 u5 k (wcells ((wds L).take k)) := hr2
                have hb3 := hb2.drew
                clear hnew hr2 hb2
                generalize WA.drew = W at *
                have g0 : W.cell? ⟨vb, 0, none⟩ = some (.int .u8 ((kd T : Nat) : Int)) := by rw [cell_of_row W _ _ _ _ _ hnew2]; rfl
                have g1 : W.cell? ⟨vb, 1, none⟩ = some (.int .i64 (a : Int)) := by rw [cell_of_row W _ _ _ _ _ hnew2]; rfl
                have g2 : W.cell? ⟨vb, 2, none⟩ = some (.int .i64 (b : Int)) := by rw [cell_of_row W _ _ _ _ _ hnew2]; rfl
                have g3 : W.cell? ⟨vb, 3, none⟩ = some (.string (str T)) := by rw [cell_of_row W _ _ _ _ _ hnew2]; rfl
                have HR3 := Lib.hid hr3
                have HB3 := Lib.hid hb3
                clear hnew2 hr3 hb3
                rcases Nat.decEq (kd T) 0 with hk0 | hk0
                rotate_left
                · obtain ⟨hok, hfb⟩ := bad_of hT.out HGOOD.out hk0
                  have hE : Hid (wE L = 4) := by show _ = _; unfold wE; rw [if_neg hlong, if_neg (by rw [hok]; decide)]
                  have hAt : Hid (wAt L = a) := by show _ = _; unfold wAt; rw [if_neg hlong, if_neg (by rw [hok]; decide), hfb]
                  have hWL : Hid (wL L = []) := by show _ = _; unfold wL; rw [if_neg hlong, if_neg (by rw [hok]; decide)]
                  rw [hk0] at g0
                  clear hok hfb hk0
                  go_wp2
                  go_ret3
                  exact ⟨⟨.slice none 0 0, by rw [hE.out, hAt.out]; rfl, by rw [hWL.out]; exact ⟨rfl, .inl ⟨rfl, rfl⟩⟩⟩, HB3.out⟩
                · have hkne : ((((kd T : Nat) : Int)) == 0) = false := beq_eq_false_iff_ne.2 (by omega)
                  have HK0 := Lib.hid hk0
                  have hnews : ∀ j u, (wordCells (a, T))[j]? = some u → (W.alloc (.cells #[.int .u8 ((kd T : Nat) : Int), .int .i64 (a : Int), .int .i64 (b : Int), .string (str T)] 81)).cell? ((⟨W.heap.size, 0, none⟩ : Addr).add j) = some u := fun j u hu => by
                    rw [← List.getElem?_toArray] at hu
                    rw [Addr.add_lit, Nat.zero_add, cell_of_row _ _ _ _ _ _ (World.alloc_heap_new W _), HBT.out]; exact hu
                  have hone := wordCells_one (a, T)
                  have hxl : (wordCells (a, T)).length = 1 * 4 := rfl
                  have hbz := HB3.out.size
                  clear hk0
                  go_wp2_with (at_builtin; refine wpList_append_own _ rfl _ _ 74 rfl w1.heap.size 81 i0 _ 4 40 Try.underlying74 hi hz0 hz1 hz2 rfl (by decide) u5 k (wcells ((wds L).take k)) rfl (HR3.out.alloc _) ⟨W.heap.size, 0, none⟩ 1 1 (wordCells (a, T)) rfl hxl hnews hone (by unfold maxLen; omega) (by omega) (by simp; omega) ?_; intro v' w6 hown' hgrow hgone)
                  have cb := CB.out w6
                  have HO := Lib.hid (show w6.ownsRow w1.heap.size 81 4 v' (k + 1) (wcells ((wds L).take (k + 1))) by rw [hT.out, wcells_snoc]; exact hown')
                  have HB6 := Lib.hid ((HB3.out.alloc HB3.out.size (.cells #[.int .u8 ((kd T : Nat) : Int), .int .i64 (a : Int), .int .i64 (b : Int), .string (str T)] 81)).grown hgrow (by simp; omega) (fun j hj => (HR3.out.lt j hj).1))
                  have HG6 := Lib.hid (show ∀ y ∈ (wds L).take (k + 1), kd y.2 ≠ 0 by
                    rw [hT.out]
                    intro y hy
                    rcases List.mem_append.1 hy with hy | hy
                    · exact HGOOD.out y hy
                    · rw [List.mem_singleton.1 hy]; exact HK0.out)
                  clear hown' hgrow hgone hnews
                  go_wp2_with fail
                  refine cb.mono ?_
                  rintro e w7 ⟨rfl, rfl⟩
                  clear cb
                  go_wp2_with fail
                  go_roundw
                  case rel => exact ⟨k + 1, b + skp false (L.drop b), _, hkl.out, hX.out, rfl, by go_num, HO.out, HG6.out, HB6.out⟩
                  case measure => simp [intOf]; omega
      · have hke : (wds L).take k = wds L := List.take_of_length_le (by have := (HN.out k a hA hk); omega)
        rw [hke] at hrow hgood
        have hkk : k = (wds L).length := by have := (HN.out k a hA hk); omega
        have hok := okw_of_all hgood
        have hE : Hid (wE L = 0) := by show _ = _; unfold wE; rw [if_neg hlong, if_pos hok]
        have hAt : Hid (wAt L = 0) := by show _ = _; unfold wAt; rw [if_neg hlong, if_pos hok]
        have hWL : Hid (wL L = wds L) := by show _ = _; unfold wL; rw [if_neg hlong, if_pos hok]
        have HR := Lib.hid hrow
        have HB := Lib.hid hB
        have HKK := Lib.hid hkk
        clear hrow hgood hke hok hB hkk
        go_wp2
        go_ret3
        exact ⟨⟨_, by rw [hE.out, hAt.out]; rfl, by rw [hWL.out, ← HKK.out]; exact HR.out⟩, HB.out⟩

end Go.Proofs.Ytkmenbicmbaceaa

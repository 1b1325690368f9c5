/- SexpBack, the law. -/
import Derived.Laws.Concat
import Derived.Test.YtbnlcgnpkodieaaSexBP
namespace Go.Proofs.Ytbnlcgnpkodieaa
open Go.RowKit Go.Shelf

set_option linter.unusedVariables false
set_option linter.unusedSimpArgs false

theorem str_app (A B : List Nat) : str A ++ str B = str (A ++ B) := by
  apply ByteArray.ext
  apply Array.ext'
  simp [str]
theorem add_text (A B : List Nat) (h : A.length + B.length ≤ 9223372036854775807) (w : World) : (Op.stringOp .add (str A) (str B)).run Try.prog w = .ok (.string (str (A ++ B))) w := by
  rw [run_string_add_sum (P := Try.prog) w (str A) (str B) (by rw [str_size, str_size]; exact h), str_app]
theorem add_blank (A : List Nat) (h : A.length ≤ 100000) (w : World) : (Op.stringOp .add (str A) ⟨#[32]⟩).run Try.prog w = .ok (.string (str (A ++ [32]))) w := add_text A [32] (by simp; omega) w
def i64s (l : List Nat) : List Value := l.map fun x => .int .i64 ((x : Nat) : Int)
theorem i64s_snoc (l : List Nat) (x : Nat) : i64s (l ++ [x]) = i64s l ++ [.int .i64 ((x : Nat) : Int)] := by simp [i64s]
theorem infoInt : (Try.prog.info? 3).map (fun i => (i.zero, i.size, i.bytes)) = some (some (.int .i64 0), 1, 8) := by kernel_rfl
theorem txt_pos {k : Nat} {t : List Nat} {c : For} (h : For.nmay k t c = true) : For.ntxt k t c ≠ [] := fun e => by
  have := For.ntxt_pos h
  rw [e] at this
  simp at this
/-- the text so far, a blank behind it -/
def ahead (G : For) : List Nat := if G.len = 0 then [] else G.txt ++ [32]
theorem ahead_len (G : For) : For.beh 0 G = (ahead G).length := by
  unfold For.beh ahead
  by_cases h : G.len = 0
  · rw [if_pos h, if_pos h, len_zero h]; rfl
  · rw [if_neg h, if_neg h, List.length_append]; simp

theorem owns_below {w w' : World} {B : Nat} {e : TypeId} {size : Nat} {v : Value} {n : Nat} {xs : List Value} (h : w.ownsRow B e size v n xs) (hb : Below w.heap.size w w') : w'.ownsRow B e size v n xs :=
  ownsRow_block h fun b hk => by
    obtain ⟨_, c, hc⟩ := ownsRow_kind2 h b hk
    exact hb.block b (kind_lt hc)
theorem bdrew {B : Nat} {a w : World} (h : Below B a w) (q : Nat) : Below B a (w.drewN q) := ⟨h.os, h.tape, h.output, h.size, h.block⟩
theorem below_appended {W w2 : World} {n₀ : Nat} {e : TypeId} {size k : Nat} {v : Value} {xs : List Value} {tmp : Obj} (hrow : W.ownsRow n₀ e size v k xs) (hn₀ : n₀ ≤ W.heap.size) (hgrow : (W.alloc tmp).grownBy w2 v.ownBlock) : Below n₀ W w2 := by
  refine ((Below.refl n₀ W).alloc hn₀ tmp).grown hgrow (by simp; omega) fun j ej => ?_
  rcases hrow.2 with ⟨rfl, _⟩ | ⟨g, cap, cur, rfl, hb, _, _⟩
  · simp [Value.ownBlock] at ej
  · obtain rfl : g = j := by simpa [Value.ownBlock] using ej
    exact hb
set_option maxRecDepth 100000 in
set_option maxHeartbeats 8000000 in
theorem back_law (w : World) (F : For) (A : Option Addr) (m : Nat) (hl : F.len ≤ 9223372036854775807) (hK : KdR w F A) :
    Calls Try.prog 3 #[.slice A F.len m] w fun e w' => e = .returned (.bool true) ∧ Below w.heap.size w w' := by
  have CA := Lib.hid awake_any
  by_cases h100 : 100 < F.len
  · go_enter Try.func3, Try.ntmps3
    go_wp2_with fail
    refine (CA.out _).mono ?_
    rintro e w1 ⟨rfl, hb1⟩
    go_wp2
    go_ret
    exact ⟨rfl, hb1⟩
  have cl := large_any _ F A m w (Nat.lt_succ_self _) hl hK
  by_cases h3 : 3000 ≤ F.lg
  · have e1 : (3000 : Int) ≤ ((F.lg : Nat) : Int) := by omega
    clear hK hl
    generalize F.lg = lg at *
    generalize F.len = n at *
    go_enter Try.func3, Try.ntmps3
    go_wp2_with fail
    refine cl.mono ?_
    rintro e w1 ⟨rfl, q, rfl⟩
    clear cl
    go_wp2_with fail
    refine (CA.out _).mono ?_
    rintro e w2 ⟨rfl, hb2⟩
    go_wp2
    go_ret
    exact ⟨rfl, (bdrew (Below.refl _ w) q).trans hb2⟩
  · obtain ⟨hz, hcd⟩ := For.lg_small (show F.lg < 3000 by omega)
    have hcods := hK.cods
    have hKd := hK.kds hcd
    have e1 : ¬ (3000 : Int) ≤ ((F.lg : Nat) : Int) := by omega
    have HCO := Lib.hid hcods
    have HCD := Lib.hid hcd
    clear hK hl h3 hcods
    generalize F.lg = lg at *
    obtain ⟨i0, hi, hz0, hz1, hz2⟩ := info_parts infoInt
    have hsl := For.len_siz F
    have hsd := For.dep_siz F
    go_enter Try.func3, Try.ntmps3
    go_wp2_with fail
    refine cl.mono ?_
    rintro e w0 ⟨rfl, q, rfl⟩
    clear cl
    go_wp2_with fail
    refine (CA.out _).mono ?_
    rintro e w1 ⟨rfl, hb1⟩
    have HB1 := Lib.hid ((bdrew (Below.refl w.heap.size w) q).trans hb1)
    have hK1 := hKd.below HB1.out
    clear hb1 hKd
    go_wp2_with fail
    go_loopw [3, 4, 5, 6] (fun s p d i wr => ∃ (j : Nat) (G R : For), s = .string (str G.txt) ∧ d = .int .i64 ((G.dep : Nat) : Int) ∧ i = .int .i64 (j : Int) ∧ j = G.len ∧ F = G.app R ∧ G.may = true ∧ G.txt.length ≤ 60001 ∧ wr.ownsRow w1.heap.size 3 1 p G.len (i64s (G.tops 0)) ∧
        (R = .nil ∨ ∃ b o, A = some ⟨b, o, none⟩ ∧ Nds w1 R b (o + j * 4)) ∧ Below w1.heap.size w1 wr) (fun _ _ _ i _ => F.len - (intOf i).toNat)
    case atStart =>
      refine ⟨0, .nil, F, rfl, rfl, rfl, rfl, rfl, rfl, by decide, World.ownsRow_nil _ _ _ _, ?_, Below.refl _ _⟩
      rcases hK1 with h | ⟨b, o, h, h'⟩
      · exact .inl h
      · exact .inr ⟨b, o, h, by simpa using h'⟩
    case round =>
      obtain ⟨j, G, R, rfl, rfl, rfl, hj, hF, hm, hgl, hrow, hR, hB⟩ := hrel
      rw [← hj] at hrow
      have HJ := Lib.hid hj
      have HRW := Lib.hid hrow
      cases R with
      | nil =>
        rw [For.app_nil] at hF
        subst hF
        clear hrow
        have hcod := For.txt_codes HCO.out
        obtain ⟨r1, r2, r3⟩ := rdd_shown ((F.dep : Nat) : Int) F hm (Int.le_refl _) (by omega)
        have cr := readfn_any F.txt ((F.dep : Nat) : Int) wr hcod (by omega) (by omega) (by omega)
        unfold ReadQ at cr
        rw [r1, r2, r3] at cr
        have HPL : Hid ((For.pls 0 F).len = F.len) := For.pls_len 0 F
        have HZP : Hid ((For.pls 0 F).siz = F.siz) := For.siz_pls 0 F
        obtain ⟨A3, c3, rfl⟩ := slice_form HRW.out
        have HB := Lib.hid hB
        have HTL : Hid (j = F.len) := HJ.out
        have hge0 : ¬ (j : Int) < (F.len : Int) := by rw [HJ.out]; omega
        clear r1 r2 r3 hm hgl hB hj hcod hR
        generalize str F.txt = X at *
        generalize F.dep = fd at *
        go_wp2_with fail
        refine cr.mono ?_
        rintro e w2 ⟨⟨v, B, ks, rfl, hB2, hKC, hn⟩, hb2⟩
        obtain ⟨A2, cp, rfl, hKd2⟩ := hKC.kds
        rw [HPL.out]
        have hlt1 := HB.out.size
        have HB2 := Lib.hid (HB.out.trans (hb2.mono hlt1))
        have HW2 := Lib.hid (HB1.out.trans (HB2.out.mono HB1.out.size))
        have HK1 := Lib.hid (hK1.below HB2.out)
        have HK2 := Lib.hid hKd2
        have HR2 := Lib.hid (owns_below HRW.out hb2)
        clear hKC hn hB2 hb2 hKd2 cr hK1 HRW
        go_wp2_with fail
        go_loopw [11] (fun i wr => ∃ (n p : Nat) (R : For), i = .int .i64 (n : Int) ∧ n + R.len = F.len ∧ (F.tops 0).drop n = R.tops p ∧ R.siz ≤ F.siz ∧ (R = .nil ∨ ∃ b o, A = some ⟨b, o, none⟩ ∧ Nds w2 R b (o + n * 4)) ∧ (R = .nil ∨ ∃ b o, A2 = some ⟨b, o, none⟩ ∧ Nds w2 (For.pls p R) b (o + n * 4)) ∧ Below w2.heap.size w2 wr) (fun i _ => F.len - (intOf i).toNat)
        case atStart =>
          refine ⟨0, 0, F, rfl, Nat.zero_add _, rfl, Nat.le_refl _, ?_, ?_, Below.refl _ _⟩
          · rcases HK1.out with h | ⟨b, o, h, h'⟩
            · exact .inl h
            · exact .inr ⟨b, o, h, by simpa using h'⟩
          · rcases HK2.out with h | ⟨b, o, h, h'⟩
            · refine .inl (len_zero ?_)
              rw [← HPL.out, h]; rfl
            · exact .inr ⟨b, o, h, by simpa using h'⟩
        case round =>
          obtain ⟨n, p, R, rfl, hn, htp, hs, hR, hR', hB⟩ := hrel
          cases R with
          | nil =>
            have hn' : n = F.len := hn
            have HB3 := Lib.hid hB
            have hge : ¬ (n : Int) < (F.len : Int) := by omega
            clear hn hn' htp hs hR hR' hB
            generalize F.len = fl at *
            go_wp2
            go_ret
            exact ⟨rfl, HW2.out.trans (HB3.out.mono HW2.out.size)⟩
          | cons k a t c R =>
            rcases hR with hR | ⟨b, o, rfl, h0, h1, h2, h3, h4, h5, ⟨A4, m4, h6, h7⟩, h8⟩
            · cases hR
            rcases hR' with hR' | ⟨b', o', rfl, g0, g1, g2, -, -, -, ⟨A5, m5, g6, g7⟩, g8⟩
            · cases hR'
            rw [For.pls_len] at g6
            have hlen : n < F.len := by rw [← hn, For.len]; omega
            have hFl : F.len ≤ 100 := by omega
            obtain ⟨g, rfl, -, -, hgc⟩ := row_cells HR2.out (by rw [HTL.out]; omega)
            have htn : (F.tops 0)[n]? = some p := by
              have := congrArg (·[0]?) htp
              simpa [For.tops] using this
            have hpc := hgc n (.int .i64 (p : Int)) (by unfold i64s; rw [List.getElem?_map, htn]; rfl)
            have hcs : c.siz < 4611686018427387904 := by have := hz; simp only [For.siz] at hs; omega
            have HS : Hid (∀ w3, Below w2.heap.size w2 w3 → ((w3.cell? ⟨b, o + n * 4, none⟩ = some (.int .u8 (k : Int)) ∧ w3.cell? ⟨b, o + n * 4 + 1, none⟩ = some (.int .i64 a) ∧ w3.cell? ⟨b, o + n * 4 + 2, none⟩ = some (.string (str t)) ∧ w3.cell? ⟨b, o + n * 4 + 3, none⟩ = some (.slice A4 c.len m4)) ∧
                w3.cell? ⟨b', o' + n * 4, none⟩ = some (.int .u8 (k : Int)) ∧ w3.cell? ⟨b', o' + n * 4 + 1, none⟩ = some (.int .i64 (p : Int)) ∧ w3.cell? ⟨b', o' + n * 4 + 2, none⟩ = some (.string (str t)) ∧ w3.cell? ⟨b', o' + n * 4 + 3, none⟩ = some (.slice A5 c.len m5)) ∧ w3.cell? ⟨g, n, none⟩ = some (.int .i64 (p : Int))) := fun w3 h => by
              have q : ∀ p v, w2.cell? p = some v → w3.cell? p = some v := fun p v hp => (h.cell (World.block_lt_of_cell? w2 p hp)).trans hp
              exact ⟨⟨⟨q _ _ h0, q _ _ h1, q _ _ h2, q _ _ h6⟩, q _ _ g0, q _ _ g1, q _ _ g2, q _ _ g6⟩, q _ _ hpc⟩
            have C : Hid (∀ w3, Below w2.heap.size w2 w3 → Calls Try.prog 10 #[.agg #[.int .u8 (k : Int), .int .i64 (p : Int), .string (str t), .slice A5 c.len m5], .agg #[.int .u8 (k : Int), .int .i64 a, .string (str t), .slice A4 c.len m4]] w3 fun e w' => e = .returned (.bool true) ∧ Below w3.heap.size w3 w') := fun w3 h => by
              have := same_node _ k (p : Int) t (For.pls (p + 1) c) A5 m5 k a t c A4 m4 w3 h4 h4 (Nat.lt_succ_self _) (by rw [For.siz_pls]; exact hcs) hcs ((show Kds w2 (For.pls (p + 1) c) A5 from g7).below h) ((show Kds w2 c A4 from h7).below h)
              rw [For.pls_len] at this
              rw [show For.nsam k t (For.pls (p + 1) c) k t c = true by unfold For.nsam; rw [For.sam_self]; simp] at this
              exact this
            have s0 := HS.out wr.drew hB.drew
            have e4 : ((p : Int) != (p : Int)) = false := by simp
            have HB := Lib.hid hB
            have H8 := Lib.hid h8
            have G8 := Lib.hid g8
            have HN := Lib.hid (show n + 1 + R.len = F.len by rw [For.len] at hn; omega)
            have HSZ := Lib.hid (show R.siz ≤ F.siz by simp only [For.siz] at hs; omega)
            have HTP2 : Hid ((F.tops 0).drop (n + 1) = R.tops (p + (For.ntxt k t c).length + 1)) := by
              show _ = _
              rw [← List.drop_drop, htp]; rfl
            have hjn : (n : Int) < (F.len : Int) := by omega
            have hjl : n < j := by rw [HTL.out]; exact hlen
            have hjl2 : (n : Int) < (j : Int) := by omega
            have hj100 : j ≤ 100 := by rw [HTL.out]; exact hFl
            clear h0 h1 h2 h4 h6 h7 h8 g0 g1 g2 g6 g7 g8 hB hs hn htp htn hgc hpc
            go_wp2_with fail
            go_region_held3 (fun w3 => ((w3.cell? ⟨b, o + n * 4, none⟩ = some (.int .u8 (k : Int)) ∧ w3.cell? ⟨b, o + n * 4 + 1, none⟩ = some (.int .i64 a) ∧ w3.cell? ⟨b, o + n * 4 + 2, none⟩ = some (.string (str t)) ∧ w3.cell? ⟨b, o + n * 4 + 3, none⟩ = some (.slice A4 c.len m4)) ∧
                w3.cell? ⟨b', o' + n * 4, none⟩ = some (.int .u8 (k : Int)) ∧ w3.cell? ⟨b', o' + n * 4 + 1, none⟩ = some (.int .i64 (p : Int)) ∧ w3.cell? ⟨b', o' + n * 4 + 2, none⟩ = some (.string (str t)) ∧ w3.cell? ⟨b', o' + n * 4 + 3, none⟩ = some (.slice A5 c.len m5)) ∧ w3.cell? ⟨g, n, none⟩ = some (.int .i64 (p : Int))) (first | exact s0 | exact s1) (first
              | (go_at_call 10; (with_reducible refine (C.out _ HB.out.drew).mono ?_); rintro e w3 ⟨rfl, hb3⟩; have HB3 := Lib.hid (HB.out.drew.trans (hb3.mono HB.out.size)); have s1 := HS.out w3 HB3.out; clear hb3))
            clear s0 s1
            go_wp2_with fail
            go_roundw
            case rel =>
              refine ⟨n + 1, p + (For.ntxt k t c).length + 1, R, by go_num, HN.out, HTP2.out, HSZ.out, ?_, ?_, HB3.out⟩
              · exact .inr ⟨b, o, rfl, by have := H8.out; rwa [show o + n * 4 + 4 = o + (n + 1) * 4 from by omega] at this⟩
              · exact .inr ⟨b', o', rfl, by have := G8.out; rwa [show o' + n * 4 + 4 = o' + (n + 1) * 4 from by omega] at this⟩
            case measure => simp [intOf]; omega
      | cons k a t c R =>
        rcases hR with hR | ⟨b, o, rfl, h0, h1, h2, h3, h4, h5, ⟨A', m', h6, h7⟩, h8⟩
        · cases hR
        have hlen : j < F.len := by rw [hF, For.app_len, For.len]; omega
        have hFs : F.siz = G.siz + (1 + c.siz + R.siz) := by rw [hF, For.siz_app, For.siz]
        have hcz : c.siz < 4611686018427387904 := by omega
        have HS : Hid (∀ w2, Below w1.heap.size w1 w2 → (w2.cell? ⟨b, o + j * 4, none⟩ = some (.int .u8 (k : Int)) ∧ w2.cell? ⟨b, o + j * 4 + 1, none⟩ = some (.int .i64 a)) ∧ w2.cell? ⟨b, o + j * 4 + 2, none⟩ = some (.string (str t)) ∧ w2.cell? ⟨b, o + j * 4 + 3, none⟩ = some (.slice A' c.len m')) := fun w2 h => by
          have q : ∀ p v, w1.cell? p = some v → w2.cell? p = some v := fun p v hp => (h.cell (World.block_lt_of_cell? w1 p hp)).trans hp
          exact ⟨⟨q _ _ h0, q _ _ h1⟩, q _ _ h2, q _ _ h6⟩
        have HK7 : Hid (∀ w2, Below w1.heap.size w1 w2 → Kds w2 c A') := fun w2 h => (show Kds w1 c A' from h7).below h
        have HCC : Hid (t.length < 60000 ∧ c.cods') := by
          have := For.cods'_app (F := G) (G := .cons k a t c R) (hF ▸ HCD.out)
          exact ⟨this.2.1, this.2.2.1⟩
        have HNL : Hid ((For.ntxt k t c).length ≤ 60002 + c.siz * 60003) := For.ntxt_le HCC.out.1 HCC.out.2
        have HW : Hid (∀ w2, Below w1.heap.size w1 w2 → Calls Try.prog 6 #[.agg #[.int .u8 (k : Int), .int .i64 a, .string (str t), .slice A' c.len m']] w2 fun e w' => e = .returned (.string (str (For.nshow k t c))) ∧ Below w2.heap.size w2 w') := fun w2 h => show_any k a t c A' m' w2 h3 h4 h5 hcz (HK7.out w2 h) (fun _ => by have := HNL.out; omega)
        have HM : Hid (∀ w2, Below w1.heap.size w1 w2 → Calls Try.prog 7 #[.agg #[.int .u8 (k : Int), .int .i64 a, .string (str t), .slice A' c.len m']] w2 fun e w' => e = .returned (.bool (For.nmay k t c)) ∧ Below w2.heap.size w2 w') := fun w2 h => may_node _ k a t c A' m' w2 h3 h4 h5 (Nat.lt_succ_self _) hcz (HK7.out w2 h)
        have HD : Hid (∀ w2, Below w1.heap.size w1 w2 → Calls Try.prog 8 #[.agg #[.int .u8 (k : Int), .int .i64 a, .string (str t), .slice A' c.len m']] w2 fun e w' => e = .returned (.int .i64 ((For.ndep k c : Nat) : Int)) ∧ Below w2.heap.size w2 w') := fun w2 h => depth_any _ k a t c A' m' w2 h3 (Nat.lt_succ_self _) hcz (HK7.out w2 h)
        have H8 := Lib.hid h8
        have HB := Lib.hid hB
        obtain ⟨⟨x0, x1⟩, x2, x3⟩ := HS.out wr hB
        have hcT : Codes (For.nshow k t c) := For.nshow_codes' h4 (For.cods_app (F := G) (G := .cons k a t c R) (hF ▸ HCO.out)).2.2.1
        clear h0 h1 h2 h4 h6 h7 h8 hB hK1
        by_cases hn : For.nmay k t c = true
        rotate_left
        · have hn' : For.nmay k t c = false := by simpa using hn
          have hsh : For.nshow k t c = [] := by unfold For.nshow; rw [if_neg hn]
          have cw := HW.out wr HB.out
          rw [hsh] at cw
          rw [hn'] at HM
          change Calls _ _ _ _ (fun e w' => e = .returned (.string ⟨#[]⟩) ∧ _) at cw
          clear hn hn' hsh hcT hF hj hm hrow
          go_wp2_with fail
          refine cw.mono ?_
          rintro e w2 ⟨rfl, hb2⟩
          have HB2 := Lib.hid (HB.out.trans (hb2.mono HB.out.size))
          obtain ⟨⟨y0, y1⟩, y2, y3⟩ := HS.out w2 HB2.out
          clear x0 x1 x2 x3 hb2 cw
          go_wp2_with fail
          refine (HM.out w2 HB2.out).mono ?_
          rintro e w3 ⟨rfl, hb3⟩
          go_wp2
          go_ret
          exact ⟨rfl, HB1.out.trans ((HB2.out.trans (hb3.mono HB2.out.size)).mono HB1.out.size)⟩
        · have hsh : For.nshow k t c = For.ntxt k t c := by unfold For.nshow; rw [if_pos hn]
          rw [hsh] at HW
          rw [hsh] at hcT
          rw [hn] at HM
          have hT0 := txt_pos hn
          have e3 := str_beq hcT (show Codes [] from fun _ h => by cases h)
          rw [decide_eq_false hT0, show (str []).toList = [] from by rw [str_toList]; rfl] at e3
          have HTS : Hid ((G.app (.one k a t c)).txt = ahead G ++ For.ntxt k t c) := For.txt_snoc G k a t c
          have HTP : Hid ((G.app (.one k a t c)).tops 0 = G.tops 0 ++ [For.beh 0 G]) := For.tops_snoc G 0 k a t c
          have HAL := Lib.hid (ahead_len G)
          have HMY : Hid ((G.app (.one k a t c)).may = true) := by
            show _ = _
            rw [For.may_app, hm]
            simp only [For.one, For.may_cons, hn, For.may]; rfl
          have HDP : Hid ((G.app (.one k a t c)).dep = max G.dep (For.ndep k c)) := by
            show _ = _
            rw [For.dep_app]
            show max G.dep (max (For.ndep k c) 0) = _
            rw [Nat.max_zero]
          have HFF : Hid (F = (G.app (.one k a t c)).app R) := by
            show _ = _
            rw [For.app_assoc]; exact hF
          have HLN : Hid ((G.app (.one k a t c)).len = j + 1) := by
            show _ = _
            rw [For.app_len, ← hj]; rfl
          have HF := Lib.hid hF
          have HMM := Lib.hid hm
          clear hF hj hm hrow
          have hU := str_size (For.ntxt k t c)
          have hX := str_size G.txt
          have hgd : G.dep ≤ F.siz := Nat.le_trans (For.dep_siz G) (by omega)
          have hnd : For.ndep k c ≤ F.siz := Nat.le_trans (For.ndep_siz k c) (by omega)
          have hA := str_size (ahead G)
          have hAl : (ahead G).length ≤ G.txt.length + 1 := by
            unfold ahead
            split
            · simp
            · simp
          have hTl := HNL.out
          have a2 : ∀ w, (Op.stringOp .add (str (ahead G)) (str (For.ntxt k t c))).run Try.prog w = .ok (.string (str (G.app (.one k a t c)).txt)) w := fun w => by rw [HTS.out]; exact add_text _ _ (by omega) w
          have hLN : (G.app (.one k a t c)).txt.length = (ahead G).length + (For.ntxt k t c).length := by rw [HTS.out, List.length_append]
          have HLN2 := Lib.hid hLN
          have HAX : Hid (j = 0 → ahead G = G.txt) := fun h => by
            have := len_zero (HJ.out.symm.trans h)
            rw [this]; rfl
          have HA1 : Hid (0 < j → ∀ w, (Op.stringOp .add (str G.txt) ⟨#[32]⟩).run Try.prog w = .ok (.string (str (ahead G))) w) := fun h w => by
            have h9 := HJ.out
            rw [show ahead G = G.txt ++ [32] from if_neg (by omega)]
            exact add_blank _ (by omega) w
          have hbe : ((For.beh 0 G : Nat) : Int) = ((ahead G).length : Int) := by rw [HAL.out]
          have HBE := Lib.hid hbe
          clear hT0 hcT hbe hLN hn
          obtain ⟨NX, hNX⟩ : ∃ NX, NX = (G.app (.one k a t c)).txt := ⟨_, rfl⟩
          have HXN : Hid (Value.string (str NX) = .string (str (G.app (.one k a t c)).txt)) := by show _ = _; rw [hNX]
          have HNL9 : Hid ((G.app (.one k a t c)).txt.length = NX.length) := by show _ = _; rw [hNX]
          rw [← hNX] at a2 HLN2
          clear hNX HTS
          generalize For.ntxt k t c = T at *
          generalize ahead G = AH at *
          have HJA : Hid (j = 0 → str AH = str G.txt ∧ AH.length = G.txt.length) := fun h => by rw [HAX.out h]; exact ⟨rfl, rfl⟩
          generalize G.txt = GX at *
          generalize str GX = X at *
          generalize GX.length = gl at *
          generalize str T = U at *
          generalize T.length = tl at *
          generalize str AH = X2 at *
          generalize AH.length = xl at *
          generalize str NX = XN at *
          generalize NX.length = nl at *
          generalize G.dep = gd at *
          generalize For.ndep k c = nd at *
          go_wp2_with fail
          refine (HW.out wr HB.out).mono ?_
          rintro e w2 ⟨rfl, hb2⟩
          have HB2 := Lib.hid (HB.out.trans (hb2.mono HB.out.size))
          have HR2 := Lib.hid (owns_below HRW.out hb2)
          obtain ⟨⟨y0, y1⟩, y2, y3⟩ := HS.out w2 HB2.out
          clear x0 x1 x2 x3 hb2
          go_wp2_with fail
          refine (HM.out w2 HB2.out).mono ?_
          rintro e w3 ⟨rfl, hb3⟩
          have HB3 := Lib.hid (HB2.out.trans (hb3.mono HB2.out.size))
          have HR3 := Lib.hid (owns_below HR2.out hb3)
          have hs3 := HB3.out.size
          clear hb3 y0 y1 y2 y3
          by_cases hlong : 60000 < gl + tl
          · have hl1 : (60000 : Int) < (gl : Int) + (tl : Int) := by omega
            go_wp2
            go_ret
            exact ⟨rfl, HB1.out.trans (HB3.out.mono HB1.out.size)⟩
          · have hl1 : ¬ (60000 : Int) < (gl : Int) + (tl : Int) := by omega
            by_cases hj0 : 0 < j
            · have a1 := HA1.out hj0
              have hj1 : (0 : Int) < (j : Int) := by omega
              have hr3 := HR3.out
              go_wp2_with (at_builtin; refine wpList_append_own _ rfl _ _ 25 rfl w1.heap.size 3 i0 (.int .i64 0) 1 8 Try.underlying25 hi hz0 hz1 hz2 rfl (by decide) _ _ _ rfl (hr3.alloc _) ⟨w3.heap.size, 0, none⟩ 1 1 [_] rfl rfl (cell_one_new _ _ _) (by simp [Value.oneCell']) (by unfold maxLen; omega) (by omega) (by simp; omega) ?_; intro v' w4 hown' hgrow hgone; clear hgone; have HB4 := Lib.hid (HB3.out.trans (below_appended hr3 hs3 hgrow)); obtain ⟨⟨z0, z1⟩, z2, z3⟩ := HS.out w4 HB4.out)
              have HO4 : Hid (w4.ownsRow w1.heap.size 3 1 v' (j + 1) (i64s ((G.app (.one k a t c)).tops 0))) := by
                show _
                rw [HTP.out, i64s_snoc, HBE.out]
                exact hown'
              clear hown' hgrow hr3
              refine (HD.out w4 HB4.out).mono ?_
              rintro e w5 ⟨rfl, hb5⟩
              have HB5 := Lib.hid (HB4.out.trans (hb5.mono HB4.out.size))
              have HO5 := Lib.hid (owns_below HO4.out hb5)
              clear hb5
              go_wp2_with fail
              go_roundw
              case rel =>
                refine ⟨j + 1, G.app (.one k a t c), R, HXN.out, by rw [HDP.out]; congr 1; omega, by go_num, HLN.out.symm, HFF.out, HMY.out, by rw [HNL9.out]; have := HLN2.out; omega, by rw [HLN.out]; exact HO5.out, ?_, HB5.out⟩
                exact .inr ⟨b, o, rfl, by have := H8.out; rwa [show o + j * 4 + 4 = o + (j + 1) * 4 from by omega] at this⟩
              case measure => simp [intOf]; omega
            · obtain ⟨g1, g2⟩ := HJA.out (by omega)
              subst g1 g2
              have hj1 : ¬ (0 : Int) < (j : Int) := by omega
              have hr3 := HR3.out
              go_wp2_with (at_builtin; refine wpList_append_own _ rfl _ _ 25 rfl w1.heap.size 3 i0 (.int .i64 0) 1 8 Try.underlying25 hi hz0 hz1 hz2 rfl (by decide) _ _ _ rfl (hr3.alloc _) ⟨w3.heap.size, 0, none⟩ 1 1 [_] rfl rfl (cell_one_new _ _ _) (by simp [Value.oneCell']) (by unfold maxLen; omega) (by omega) (by simp; omega) ?_; intro v' w4 hown' hgrow hgone; clear hgone; have HB4 := Lib.hid (HB3.out.trans (below_appended hr3 hs3 hgrow)); obtain ⟨⟨z0, z1⟩, z2, z3⟩ := HS.out w4 HB4.out)
              have HO4 : Hid (w4.ownsRow w1.heap.size 3 1 v' (j + 1) (i64s ((G.app (.one k a t c)).tops 0))) := by
                show _
                rw [HTP.out, i64s_snoc, HBE.out]
                exact hown'
              clear hown' hgrow hr3
              refine (HD.out w4 HB4.out).mono ?_
              rintro e w5 ⟨rfl, hb5⟩
              have HB5 := Lib.hid (HB4.out.trans (hb5.mono HB4.out.size))
              have HO5 := Lib.hid (owns_below HO4.out hb5)
              clear hb5
              go_wp2_with fail
              go_roundw
              case rel =>
                refine ⟨j + 1, G.app (.one k a t c), R, HXN.out, by rw [HDP.out]; congr 1; omega, by go_num, HLN.out.symm, HFF.out, HMY.out, by rw [HNL9.out]; have := HLN2.out; omega, by rw [HLN.out]; exact HO5.out, ?_, HB5.out⟩
                exact .inr ⟨b, o, rfl, by have := H8.out; rwa [show o + j * 4 + 4 = o + (j + 1) * 4 from by omega] at this⟩
              case measure => simp [intOf]; omega
end Go.Proofs.Ytbnlcgnpkodieaa

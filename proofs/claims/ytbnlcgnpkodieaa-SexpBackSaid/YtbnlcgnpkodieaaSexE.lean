/- Contracts: Head, Same. -/
import Derived.Test.YtbnlcgnpkodieaaSexD
namespace Go.Proofs.Ytbnlcgnpkodieaa
open Go.RowKit

set_option linter.unusedVariables false
set_option linter.unusedSimpArgs false

/-- a node's cells in its box, in whatever world that follows -/
def BoxN (w : World) (g : Nat) (k : Nat) (a : Int) (t : List Nat) (v : Value) : Prop :=
  (w.cell? ⟨g, 0, none⟩ = some (.int .u8 (k : Int)) ∧ w.cell? ⟨g, 1, none⟩ = some (.int .i64 a)) ∧ w.cell? ⟨g, 2, none⟩ = some (.string (str t)) ∧ w.cell? ⟨g, 3, none⟩ = some v
theorem BoxN.keep {w w' : World} {g k : Nat} {a : Int} {t : List Nat} {v : Value} (h : BoxN w g k a t v) (hb : Below w.heap.size w w') : BoxN w' g k a t v :=
  ⟨⟨keep_below hb _ _ h.1.1, keep_below hb _ _ h.1.2⟩, keep_below hb _ _ h.2.1, keep_below hb _ _ h.2.2⟩
theorem BoxN.of {w : World} {g k : Nat} {a : Int} {t : List Nat} {v : Value} (h : w.heap[g]? = some (.cells #[.int .u8 (k : Int), .int .i64 a, .string (str t), v] 28 (0, 0))) : BoxN w g k a t v :=
  ⟨⟨by rw [cell_of h]; rfl, by rw [cell_of h]; rfl⟩, by rw [cell_of h]; rfl, by rw [cell_of h]; rfl⟩

theorem head_any (k : Nat) (a : Int) (t : List Nat) (c : For) (A : Option Addr) (m : Nat) (w : World) (hk : k < 256) (hz : c.len < 4611686018427387904) (hK : Kds w c A) (hl : c.head.length ≤ 281474976710656) :
    Calls Try.prog 12 #[.agg #[.int .u8 (k : Int), .int .i64 a, .string (str t), .slice A c.len m]] w fun e w' => e = .returned (.string (str (For.nhead k c))) ∧ Below w.heap.size w w' := by
  obtain ⟨W, hW⟩ : ∃ W, w.alloc (.cells #[.int .u8 (k : Int), .int .i64 a, .string (str t), .slice A c.len m] 28) = W := ⟨_, rfl⟩
  have hB : Below w.heap.size w W := hW ▸ (Below.refl _ w).alloc (Nat.le_refl _) _
  have hx : W.heap[w.heap.size]? = some (.cells #[.int .u8 (k : Int), .int .i64 a, .string (str t), .slice A c.len m] 28 (0, 0)) := hW ▸ lone_new w _ _
  have HX := Lib.hid (BoxN.of hx)
  obtain ⟨⟨z0, z1⟩, z2, z3⟩ := BoxN.of hx
  have c0 := isList_any k a (str t) (.slice A c.len m) W hk
  have HB := Lib.hid hB
  have HK := Lib.hid (hK.below hB)
  clear hK hB hx
  by_cases h0 : k = 0
  · have hv : Hid (For.nhead k c = c.head) := if_pos h0
    rw [decide_eq_true h0] at c0
    clear h0
    cases c with
    | nil =>
      have ht : Hid (For.nhead k .nil = []) := hv.out
      have e0 : For.nil.len = 0 := rfl
      rw [e0] at z3 hW c0
      rw [e0]
      go_enter Try.func12, Try.ntmps12
      go_wp2_with fail
      refine c0.mono ?_
      rintro e w1 ⟨rfl, hb1⟩
      obtain ⟨⟨x0, x1⟩, x2, x3⟩ := HX.out.keep hb1
      rw [e0] at x3
      have HB1 := Lib.hid (HB.out.trans (hb1.mono HB.out.size))
      clear c0 hb1
      go_wp2
      go_ret
      exact ⟨by rw [ht.out]; rfl, HB1.out⟩
    | cons k' a' t' c' r =>
      have hlen : 0 < (For.cons k' a' t' c' r).len := Nat.succ_pos _
      have HV : Hid (For.nhead k (.cons k' a' t' c' r) = if k' = 5 then t' else []) := hv.out
      have HL : Hid ((if k' = 5 then t' else []).length ≤ 281474976710656) := hl
      clear hl
      rcases HK.out with h | ⟨b, o, rfl, g0, g1, g2, g3, g4, g5, -, -⟩
      · cases h
      generalize (For.cons k' a' t' c' r).len = l at *
      by_cases h5 : k' = 5
      · rw [if_pos h5] at HV HL
        have e5 : ((k' : Int) == 5) = true := by simp [h5]
        have e6 : ((k' : Int) != 5) = false := by simp [h5]
        clear h5
        go_enter Try.func12, Try.ntmps12
        go_wp2_with fail
        refine c0.mono ?_
        rintro e w1 ⟨rfl, hb1⟩
        obtain ⟨⟨x0, x1⟩, x2, x3⟩ := HX.out.keep hb1
        have y0 := keep_below hb1 _ _ g0
        have y2 := keep_below hb1 _ _ g2
        have HB1 := Lib.hid (HB.out.trans (hb1.mono HB.out.size))
        have cc := clone_any t' w1 HL.out
        clear c0 hb1
        go_wp2_with fail
        refine cc.mono ?_
        rintro e w2 ⟨rfl, hb2⟩
        go_wp2
        go_ret
        exact ⟨by rw [HV.out]; rfl, HB1.out.trans (hb2.mono HB1.out.size)⟩
      · rw [if_neg h5] at HV
        have e5 : ((k' : Int) == 5) = false := by simp; omega
        have e6 : ((k' : Int) != 5) = true := by simp; omega
        clear h5
        go_enter Try.func12, Try.ntmps12
        go_wp2_with fail
        refine c0.mono ?_
        rintro e w1 ⟨rfl, hb1⟩
        obtain ⟨⟨x0, x1⟩, x2, x3⟩ := HX.out.keep hb1
        have y0 := keep_below hb1 _ _ g0
        have HB1 := Lib.hid (HB.out.trans (hb1.mono HB.out.size))
        clear c0 hb1
        go_wp2
        go_ret
        exact ⟨by rw [HV.out]; rfl, HB1.out⟩
  · have hv : Hid (For.nhead k c = []) := if_neg h0
    rw [decide_eq_false h0] at c0
    clear h0
    go_enter Try.func12, Try.ntmps12
    go_wp2_with fail
    refine c0.mono ?_
    rintro e w1 ⟨rfl, hb1⟩
    have HB1 := Lib.hid (HB.out.trans (hb1.mono HB.out.size))
    clear c0 hb1
    go_wp2
    go_ret
    exact ⟨by rw [hv.out]; rfl, HB1.out⟩

/-- what Same answers, for kids of so many nodes at most -/
def SameAt (n : Nat) : Prop := ∀ (k : Nat) (a : Int) (t : List Nat) (c : For) (A : Option Addr) (m : Nat) (k' : Nat) (a' : Int) (t' : List Nat) (c' : For) (A' : Option Addr) (m' : Nat) (w : World), Codes t → Codes t' → c.siz < n → c.siz < 4611686018427387904 → c'.siz < 4611686018427387904 → Kds w c A → Kds w c' A' →
  Calls Try.prog 10 #[.agg #[.int .u8 (k : Int), .int .i64 a, .string (str t), .slice A c.len m], .agg #[.int .u8 (k' : Int), .int .i64 a', .string (str t'), .slice A' c'.len m']] w fun e w' => e = .returned (.bool (For.nsam k t c k' t' c')) ∧ Below w.heap.size w w'
theorem nsam_cons (k : Nat) (a : Int) (t : List Nat) (c r : For) (k' : Nat) (a' : Int) (t' : List Nat) (c' r' : For) : For.sam (.cons k a t c r) (.cons k' a' t' c' r') = (For.nsam k t c k' t' c' && For.sam r r') := by
  simp [For.sam, For.nsam]
theorem equal_any {n : Nat} (ih : SameAt n) (c : For) (A : Option Addr) (m : Nat) (c' : For) (A' : Option Addr) (m' : Nat) (w : World) (hn : c.siz ≤ n) (hz : c.siz < 4611686018427387904) (hz' : c'.siz < 4611686018427387904) (hK : Kds w c A) (hK' : Kds w c' A') :
    Calls Try.prog 22 #[.slice A c.len m, .slice A' c'.len m', .func (.func 10) #[] #[]] w fun e w' => e = .returned (.bool (For.sam c c')) ∧ Below w.heap.size w w' := by
  have hls := For.len_siz c
  have hls' := For.len_siz c'
  by_cases hlen : c.len = c'.len
  rotate_left
  · have hf : Hid (For.sam c c' = false) := by
      show _ = _
      cases h : For.sam c c' with
      | false => rfl
      | true => exact absurd (For.sam_len h) hlen
    have h1 : ((c.len : Int) == (c'.len : Int)) = false := by simp; omega
    have h2 : ((c.len : Int) != (c'.len : Int)) = true := by simp; omega
    clear hlen hK hK'
    generalize c.len = l at *
    generalize c'.len = l' at *
    go_enter Try.func22, Try.ntmps22
    go_wp2
    go_ret
    exact ⟨by rw [hf.out]; rfl, Below.refl _ _⟩
  obtain ⟨T, hT⟩ : ∃ T, T = For.sam c c' := ⟨_, rfl⟩
  obtain ⟨l, hl⟩ : ∃ l, l = c.len := ⟨_, rfl⟩
  have HT := Lib.hid hT
  have HL := Lib.hid hl
  have HL' := Lib.hid (hl.trans hlen)
  rw [← hT]
  rw [← hl] at hlen hls ⊢
  rw [← hlen] at hls' ⊢
  clear hT hlen hl
  go_enter Try.func22, Try.ntmps22
  go_wp2
  go_loopw [17] (fun i wr => ∃ (j : Nat) (R R' : For), i = .int .i64 (j : Int) ∧ j + R.len = l ∧ j + R'.len = l ∧ T = For.sam R R' ∧ (R.siz ≤ c.siz ∧ R'.siz ≤ c'.siz) ∧ (R = .nil ∨ ∃ b o, A = some ⟨b, o, none⟩ ∧ Nds wr R b (o + j * 4)) ∧ (R' = .nil ∨ ∃ b o, A' = some ⟨b, o, none⟩ ∧ Nds wr R' b (o + j * 4)) ∧ Below w.heap.size w wr) (fun i _ => l - (intOf i).toNat)
  case atStart =>
    refine ⟨0, c, c', rfl, by rw [HL.out, Nat.zero_add], by rw [HL'.out, Nat.zero_add], HT.out, ⟨Nat.le_refl _, Nat.le_refl _⟩, ?_, ?_, Below.refl _ _⟩
    · rcases hK with h | ⟨b, o, h, h'⟩
      · exact .inl h
      · exact .inr ⟨b, o, h, by simpa using h'⟩
    · rcases hK' with h | ⟨b, o, h, h'⟩
      · exact .inl h
      · exact .inr ⟨b, o, h, by simpa using h'⟩
  case round =>
    obtain ⟨j, R, R', rfl, hj, hj', hd, ⟨hs, hs'⟩, hR, hR', hB⟩ := hrel
    cases R with
    | nil =>
      have hjl : j = l := hj
      cases R' with
      | cons _ _ _ _ _ => simp only [For.len] at hj'; omega
      | nil =>
      have he : Hid (T = true) := hd
      subst hjl
      have HB2 := Lib.hid hB
      clear hj hj' hd hs hs' hR hR' hB
      go_wp2
      go_ret
      exact ⟨by rw [he.out]; rfl, HB2.out⟩
    | cons k1 a1 t1 c1 R =>
      cases R' with
      | nil => simp only [For.len] at hj hj'; omega
      | cons k2 a2 t2 c2 R' =>
      rcases hR with hR | ⟨b, o, rfl, h0, h1, h2, h3, h4, h5, ⟨A1, m1, h6, h7⟩, h8⟩
      · cases hR
      rcases hR' with hR' | ⟨b', o', rfl, g0, g1, g2, g3, g4, g5, ⟨A2, m2, g6, g7⟩, g8⟩
      · cases hR'
      have hlen : j < l := by simp only [For.len] at hj; omega
      have hcs : c1.siz < n := by simp only [For.siz] at hs; omega
      have hcz : c1.siz < 4611686018427387904 := by simp only [For.siz] at hs; omega
      have hcz' : c2.siz < 4611686018427387904 := by simp only [For.siz] at hs'; omega
      have C := Lib.hid (fun w2 (h : Kds w2 c1 A1) (h' : Kds w2 c2 A2) => ih k1 a1 t1 c1 A1 m1 k2 a2 t2 c2 A2 m2 w2 h4 g4 hcs hcz hcz' h h')
      have H7 := Lib.hid (show Kds wr c1 A1 from h7)
      have G7 := Lib.hid (show Kds wr c2 A2 from g7)
      have H8 := Lib.hid h8
      have G8 := Lib.hid g8
      have HB2 := Lib.hid hB
      have HD : Hid (T = (For.nsam k1 t1 c1 k2 t2 c2 && For.sam R R')) := (nsam_cons k1 a1 t1 c1 R k2 a2 t2 c2 R') ▸ hd
      have HJ := Lib.hid (show j + 1 + R.len = l by simp only [For.len] at hj; omega)
      have HJ' := Lib.hid (show j + 1 + R'.len = l by simp only [For.len] at hj'; omega)
      have HS := Lib.hid (show R.siz ≤ c.siz ∧ R'.siz ≤ c'.siz by simp only [For.siz] at hs hs'; omega)
      obtain ⟨W1, hW1⟩ : ∃ W1, wr.alloc (.cells #[.int .u8 (k1 : Int), .int .i64 a1, .string (str t1), .slice A1 c1.len m1] 28) = W1 := ⟨_, rfl⟩
      have hb1 : Below wr.heap.size wr W1 := hW1 ▸ (Below.refl _ wr).alloc (Nat.le_refl _) _
      have hn1 : W1.heap[wr.heap.size]? = some (.cells #[.int .u8 (k1 : Int), .int .i64 a1, .string (str t1), .slice A1 c1.len m1] 28 (0, 0)) := hW1 ▸ lone_new wr _ _
      have q0 := keep_below hb1 _ _ g0
      have q1 := keep_below hb1 _ _ g1
      have q2 := keep_below hb1 _ _ g2
      have q3 := keep_below hb1 _ _ g6
      obtain ⟨W2, hW2⟩ : ∃ W2, W1.alloc (.cells #[.int .u8 (k2 : Int), .int .i64 a2, .string (str t2), .slice A2 c2.len m2] 28) = W2 := ⟨_, rfl⟩
      have hb2 : Below W1.heap.size W1 W2 := hW2 ▸ (Below.refl _ W1).alloc (Nat.le_refl _) _
      have hn2 : W2.heap[W1.heap.size]? = some (.cells #[.int .u8 (k2 : Int), .int .i64 a2, .string (str t2), .slice A2 c2.len m2] 28 (0, 0)) := hW2 ▸ lone_new W1 _ _
      obtain ⟨⟨x0, x1⟩, x2, x3⟩ := (BoxN.of hn1).keep hb2
      obtain ⟨⟨y0, y1⟩, y2, y3⟩ := BoxN.of hn2
      have hbb := hb1.trans (hb2.mono hb1.size)
      have HBB := Lib.hid hbb
      have HK1 := Lib.hid (H7.out.below hbb)
      have HK2 := Lib.hid (G7.out.below hbb)
      clear hd hs hs' hj hj' h4 g4 h7 h8 g7 g8 hB hK hK' hb1 hb2 hn1 hn2 hbb
      generalize For.nsam k1 t1 c1 k2 t2 c2 = q at *
      go_wp2_with fail
      refine (C.out W2 HK1.out HK2.out).mono ?_
      rintro e w2 ⟨rfl, hb3⟩
      have HB3 := Lib.hid (HB2.out.trans ((HBB.out.trans (hb3.mono HBB.out.size)).mono HB2.out.size))
      have H9 := Lib.hid (H8.out.below (HBB.out.trans (hb3.mono HBB.out.size)))
      have G9 := Lib.hid (G8.out.below (HBB.out.trans (hb3.mono HBB.out.size)))
      clear hb3
      cases q
      · have he : Hid (T = false) := HD.out
        go_wp2
        go_ret
        exact ⟨by rw [he.out]; rfl, HB3.out⟩
      · have he : Hid (T = For.sam R R') := HD.out
        go_wp2
        go_roundw
        case rel =>
          refine ⟨j + 1, R, R', by go_num, HJ.out, HJ'.out, he.out, HS.out, ?_, ?_, HB3.out⟩
          · exact .inr ⟨b, o, rfl, by have := H9.out; rwa [show o + j * 4 + 4 = o + (j + 1) * 4 from by omega] at this⟩
          · exact .inr ⟨b', o', rfl, by have := G9.out; rwa [show o' + j * 4 + 4 = o' + (j + 1) * 4 from by omega] at this⟩
        case measure => simp [intOf]; omega

theorem SameAt.step {n : Nat} (ih : SameAt n) : SameAt (n + 1) := by
  intro k a t c A m k' a' t' c' A' m' w hc hc' hn hz hz' hK hK'
  obtain ⟨W1, hW1⟩ : ∃ W1, w.alloc (.cells #[.int .u8 (k : Int), .int .i64 a, .string (str t), .slice A c.len m] 28) = W1 := ⟨_, rfl⟩
  have hb1 : Below w.heap.size w W1 := hW1 ▸ (Below.refl _ w).alloc (Nat.le_refl _) _
  have hn1 : W1.heap[w.heap.size]? = some (.cells #[.int .u8 (k : Int), .int .i64 a, .string (str t), .slice A c.len m] 28 (0, 0)) := hW1 ▸ lone_new w _ _
  obtain ⟨W2, hW2⟩ : ∃ W2, W1.alloc (.cells #[.int .u8 (k' : Int), .int .i64 a', .string (str t'), .slice A' c'.len m'] 28) = W2 := ⟨_, rfl⟩
  have hb2 : Below W1.heap.size W1 W2 := hW2 ▸ (Below.refl _ W1).alloc (Nat.le_refl _) _
  have hn2 : W2.heap[W1.heap.size]? = some (.cells #[.int .u8 (k' : Int), .int .i64 a', .string (str t'), .slice A' c'.len m'] 28 (0, 0)) := hW2 ▸ lone_new W1 _ _
  obtain ⟨⟨x0, x1⟩, x2, x3⟩ := (BoxN.of hn1).keep hb2
  obtain ⟨⟨y0, y1⟩, y2, y3⟩ := BoxN.of hn2
  have hbb := hb1.trans (hb2.mono hb1.size)
  have HBB := Lib.hid hbb
  have CE := Lib.hid (equal_any ih c A m c' A' m' W2 (by omega) hz hz' (hK.below hbb) (hK'.below hbb))
  have hv : Hid (For.nsam k t c k' t' c' = (decide (k = k') && (decide (t = t') && For.sam c c'))) := rfl
  have e2 := str_beq hc hc'
  clear hK hK' hb1 hb2 hn1 hn2 hbb hc hc'
  by_cases h1 : k = k'
  · have e1 : ((k : Int) == (k' : Int)) = true := by simp [h1]
    by_cases h2 : t = t'
    · rw [decide_eq_true h2] at e2
      have ht : Hid (For.nsam k t c k' t' c' = For.sam c c') := by show _ = _; rw [hv.out, decide_eq_true h1, decide_eq_true h2]; rfl
      clear h1 h2
      go_enter Try.func10, Try.ntmps10
      go_wp2_with fail
      refine CE.out.mono ?_
      rintro e w1 ⟨rfl, hb3⟩
      go_wp2
      go_ret
      exact ⟨by rw [ht.out]; rfl, HBB.out.trans (hb3.mono HBB.out.size)⟩
    · rw [decide_eq_false h2] at e2
      have ht : Hid (For.nsam k t c k' t' c' = false) := by show _ = _; rw [hv.out, decide_eq_false h2]; simp
      clear h1 h2
      go_enter Try.func10, Try.ntmps10
      go_wp2
      go_ret
      exact ⟨by rw [ht.out]; rfl, HBB.out⟩
  · have e1 : ((k : Int) == (k' : Int)) = false := by simp; omega
    have ht : Hid (For.nsam k t c k' t' c' = false) := by show _ = _; rw [hv.out, decide_eq_false h1]; rfl
    clear h1
    go_enter Try.func10, Try.ntmps10
    go_wp2
    go_ret
    exact ⟨by rw [ht.out]; rfl, HBB.out⟩
theorem same_node : ∀ n : Nat, SameAt n
  | 0 => fun _ _ _ _ _ _ _ _ _ _ _ _ _ _ _ h => absurd h (Nat.not_lt_zero _)
  | n + 1 => (same_node n).step

end Go.Proofs.Ytbnlcgnpkodieaa

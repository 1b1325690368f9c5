/- Contracts: write, Show. -/
import Derived.Test.YtbnlcgnpkodieaaLexQ
import Derived.Test.YtbnlcgnpkodieaaSexC
namespace Go.Proofs.Ytbnlcgnpkodieaa
open Go.RowKit

set_option linter.unusedVariables false
set_option linter.unusedSimpArgs false

abbrev IsB (B b : Nat) (L : List Value) (w : World) : Prop := Lib.IsBuilderF 40 5 B b L w
/-- what write does, for kids of so many nodes at most; the nodes lie below the builder -/
def WriteAt (n : Nat) : Prop := ∀ (k : Nat) (a : Int) (t : List Nat) (c : For) (A : Option Addr) (m : Nat) (w0 w : World) (b : Nat) (bs : List Value), k < 256 → c.siz < n → c.siz < 4611686018427387904 → Kds w0 c A → Below w0.heap.size w0 w →
  IsB w0.heap.size b bs w → bs.length + (For.ntxt k t c).length ≤ 140737488355000 →
  Calls Try.prog 14 #[.pointer (some ⟨b, 0, none⟩), .agg #[.int .u8 (k : Int), .int .i64 a, .string (str t), .slice A c.len m]] w fun e w' => e = .returned (.tuple #[]) ∧ IsB w0.heap.size b (bs ++ bcs (For.ntxt k t c)) w' ∧ Below w0.heap.size w0 w'
def sepT (j : Nat) (R : For) : List Nat := if R.len = 0 then [] else if 0 < j then 32 :: R.txt else R.txt
theorem sepT_cons (j k : Nat) (a : Int) (t : List Nat) (c R : For) : sepT j (.cons k a t c R) = (if 0 < j then [32] else []) ++ (For.ntxt k t c ++ sepT (j + 1) R) := by
  unfold sepT
  rw [if_neg (show ¬ (For.cons k a t c R).len = 0 from Nat.succ_ne_zero _), For.txt_cons, if_pos (Nat.succ_pos j)]
  by_cases h : 0 < j
  · rw [if_pos h, if_pos h]; rfl
  · rw [if_neg h, if_neg h]; rfl
theorem sepT_start (c : For) : sepT 0 c = c.txt := by
  unfold sepT
  cases c with
  | nil => rfl
  | cons k a t c r => rw [if_neg (show ¬ (For.cons k a t c r).len = 0 from Nat.succ_ne_zero _), if_neg (Nat.lt_irrefl _)]

theorem WriteAt.step {n : Nat} (ih : WriteAt n) : WriteAt (n + 1) := by
  intro k a t c A m w0 w b bs hk hn hz hK hW0 hB hlen
  obtain ⟨W, hW⟩ : ∃ W, w.alloc (.cells #[.int .u8 (k : Int), .int .i64 a, .string (str t), .slice A c.len m] 28) = W := ⟨_, rfl⟩
  have hbx : Below w.heap.size w W := hW ▸ (Below.refl _ w).alloc (Nat.le_refl _) _
  have hx : W.heap[w.heap.size]? = some (.cells #[.int .u8 (k : Int), .int .i64 a, .string (str t), .slice A c.len m] 28 (0, 0)) := hW ▸ lone_new w _ _
  have hlt : w.heap.size < W.heap.size := (Array.getElem?_eq_some_iff.1 hx).1
  have HX := Lib.hid hx
  have hbb := isB_lt hB
  have hBW := isB_keep hB hbx
  have hW1 := hW0.trans (hbx.mono hW0.size)
  have z0 : W.cell? ⟨w.heap.size, 0, none⟩ = some (.int .u8 (k : Int)) := by rw [cell_of hx]; rfl
  have z1 : W.cell? ⟨w.heap.size, 1, none⟩ = some (.int .i64 a) := by rw [cell_of hx]; rfl
  have z2 : W.cell? ⟨w.heap.size, 2, none⟩ = some (.string (str t)) := by rw [cell_of hx]; rfl
  have z3 : W.cell? ⟨w.heap.size, 3, none⟩ = some (.slice A c.len m) := by rw [cell_of hx]; rfl
  have c0 := isList_any k a (str t) (.slice A c.len m) W hk
  have HK := Lib.hid hK
  by_cases h0 : k = 0
  · have hv : Hid (For.ntxt k t c = 40 :: (c.txt ++ [41])) := if_pos h0
    rw [decide_eq_true h0] at c0
    rw [hv.out] at hlen ⊢
    have hl2 : bs.length + (c.txt.length + 2) ≤ 140737488355000 := by simp at hlen; omega
    clear h0 hx hbx hK hB hW0 hlen
    go_enter Try.func14, Try.ntmps14
    go_wp2_with fail
    refine c0.mono ?_
    rintro e w1 ⟨rfl, hb1⟩
    have HX1 := Lib.hid ((hb1.block w.heap.size hlt).trans HX.out)
    have hB1 := isB_keep hBW hb1
    have hW2 := hW1.trans (hb1.mono hW1.size)
    have cw := writeB_any w0.heap.size b bs 40 w1 hB1 (by omega) hW2.size
    have HB2 := Lib.hid hW2
    have hne : some w.heap.size ≠ some b := fun e => by injection e with e; omega
    clear hBW hW1 hb1 c0 hB1 hW2
    go_wp2_with fail
    refine cw.mono ?_
    rintro e w2 ⟨rfl, h2, hb2, hk2⟩
    have hx2 := hk2 w.heap.size _ HX1.out hne (fun c fz => by intro e; injection e with e1 e2; cases e2)
    have x3 : w2.cell? ⟨w.heap.size, 3, none⟩ = some (.slice A c.len m) := by rw [cell_of hx2]; rfl
    have HB3 := Lib.hid (HB2.out.trans hb2)
    have HN := Lib.hid (show IsB w0.heap.size b (bs ++ bcs (40 :: [])) w2 from .inr h2)
    have HS := Lib.hid (sepT_start c)
    have hls := For.len_siz c
    clear hk2 hx2 h2 hb2 cw
    go_wp2_with fail
    go_loopw [18] (fun i wr => ∃ (j : Nat) (pre : List Nat) (R : For), i = .int .i64 (j : Int) ∧ j + R.len = c.len ∧ c.txt = pre ++ sepT j R ∧ R.siz ≤ c.siz ∧ (R = .nil ∨ ∃ b o, A = some ⟨b, o, none⟩ ∧ Nds w0 R b (o + j * 4)) ∧ IsB w0.heap.size b (bs ++ bcs (40 :: pre)) wr ∧ Below w0.heap.size w0 wr) (fun i _ => c.len - (intOf i).toNat)
    case atStart =>
      refine ⟨0, [], c, rfl, Nat.zero_add _, by rw [HS.out]; rfl, Nat.le_refl _, ?_, HN.out, HB3.out⟩
      rcases HK.out with h | ⟨b, o, h, h'⟩
      · exact .inl h
      · exact .inr ⟨b, o, h, by simpa using h'⟩
    case round =>
      obtain ⟨j, pre, R, rfl, hj, hd, hs, hR, hBl, hB⟩ := hrel
      cases R with
      | nil =>
        have hj' : j = c.len := hj
        have he : Hid (c.txt = pre) := by show _ = _; rw [hd]; simp [sepT, For.len]
        have hle : bs.length + (pre.length + 2) ≤ 140737488355000 := by rw [← he.out]; exact hl2
        have cw := writeB_any w0.heap.size b (bs ++ bcs (40 :: pre)) 41 wr hBl (by rw [List.length_append, bcs_len, List.length_cons]; omega) hB.size
        subst hj'
        have HBB := Lib.hid hB
        clear hj hd hs hR hBl hB
        go_wp2_with fail
        refine cw.mono ?_
        rintro e w4 ⟨rfl, h4, hb4, _⟩
        have HF : Hid (bs ++ bcs (40 :: pre) ++ [.int .u8 41] = bs ++ bcs (40 :: (c.txt ++ [41]))) := by
          show _ = _
          rw [he.out, List.append_assoc, ← List.cons_append, bcs_append]; rfl
        go_wp2
        go_end0
        exact ⟨rfl, by rw [← HF.out]; exact .inr h4, HBB.out.trans hb4⟩
      | cons k' a' t' c' R =>
        rcases hR with hR | ⟨b', o, rfl, h0, h1, h2, h3, h4, h5, ⟨A', m', h6, h7⟩, h8⟩
        · cases hR
        have g0 := hB.cell (World.block_lt_of_cell? w0 _ h0)
        have g1 := hB.cell (World.block_lt_of_cell? w0 _ h1)
        have g2 := hB.cell (World.block_lt_of_cell? w0 _ h2)
        have g3 := hB.cell (World.block_lt_of_cell? w0 _ h6)
        rw [h0] at g0
        rw [h1] at g1
        rw [h2] at g2
        rw [h6] at g3
        have hlen : j < c.len := by simp only [For.len] at hj; omega
        have hcs : c'.siz < n := by simp only [For.siz] at hs; omega
        have hcz : c'.siz < 4611686018427387904 := by simp only [For.siz] at hs; omega
        have H7 := Lib.hid (show Kds w0 c' A' from h7)
        have H8 := Lib.hid h8
        have HD := Lib.hid ((sepT_cons j k' a' t' c' R) ▸ hd)
        have hle : bs.length + (pre.length + 1 + (For.ntxt k' t' c').length + 2) ≤ 140737488355000 + (if 0 < j then 0 else 1) := by
          have := congrArg List.length HD.out
          rw [List.length_append, List.length_append, List.length_append] at this
          split
          · rw [if_pos (by assumption)] at this; simp at this; omega
          · rw [if_neg (by assumption)] at this; simp at this; omega
        have HJ := Lib.hid (show j + 1 + R.len = c.len by simp only [For.len] at hj; omega)
        have HSZ := Lib.hid (show R.siz ≤ c.siz by simp only [For.siz] at hs; omega)
        have C := Lib.hid (fun w2 pre2 (hB2 : Below w0.heap.size w0 w2) (hI : IsB w0.heap.size b (bs ++ bcs (40 :: pre2)) w2) hl => ih k' a' t' c' A' m' w0 w2 b (bs ++ bcs (40 :: pre2)) h3 hcs hcz H7.out hB2 hI hl)
        obtain ⟨WA, hWA⟩ : ∃ WA, wr.alloc (.cells #[.int .u8 (k' : Int), .int .i64 a', .string (str t'), .slice A' c'.len m'] 28) = WA := ⟨_, rfl⟩
        have hnew : WA.heap[wr.heap.size]? = some (.cells #[.int .u8 (k' : Int), .int .i64 a', .string (str t'), .slice A' c'.len m'] 28 (0, 0)) := hWA ▸ lone_new wr _ _
        have hbx : Below wr.heap.size wr WA := hWA ▸ (Below.refl _ wr).alloc (Nat.le_refl _) _
        have HBA := Lib.hid (hB.trans (hbx.mono hB.size))
        have HIA := Lib.hid (isB_keep hBl hbx)
        have hbr := isB_lt hBl
        have HNW := Lib.hid hnew
        have v0 : WA.cell? ⟨wr.heap.size, 0, none⟩ = some (.int .u8 (k' : Int)) := by rw [cell_of hnew]; rfl
        have v1 : WA.cell? ⟨wr.heap.size, 1, none⟩ = some (.int .i64 a') := by rw [cell_of hnew]; rfl
        have v2 : WA.cell? ⟨wr.heap.size, 2, none⟩ = some (.string (str t')) := by rw [cell_of hnew]; rfl
        have v3 : WA.cell? ⟨wr.heap.size, 3, none⟩ = some (.slice A' c'.len m') := by rw [cell_of hnew]; rfl
        clear hd hs hj h0 h1 h2 h4 h6 h7 h8 hB hBl hnew hbx
        by_cases hj0 : 0 < j
        · rw [if_pos hj0] at hle HD
          have hj1 : (0 : Int) < (j : Int) := by omega
          have cw := writeB_any w0.heap.size b (bs ++ bcs (40 :: pre)) 32 WA HIA.out (by rw [List.length_append, bcs_len, List.length_cons]; omega) HBA.out.size
          go_wp2_with fail
          refine cw.mono ?_
          rintro e w4 ⟨rfl, h4, hb4, hk4⟩
          have hv4 := hk4 wr.heap.size _ HNW.out (fun e => by injection e with e; omega) (fun c fz => by intro e; injection e with e1 e2; cases e2)
          have y0 : w4.cell? ⟨wr.heap.size, 0, none⟩ = some (.int .u8 (k' : Int)) := by rw [cell_of hv4]; rfl
          have y1 : w4.cell? ⟨wr.heap.size, 1, none⟩ = some (.int .i64 a') := by rw [cell_of hv4]; rfl
          have y2 : w4.cell? ⟨wr.heap.size, 2, none⟩ = some (.string (str t')) := by rw [cell_of hv4]; rfl
          have y3 : w4.cell? ⟨wr.heap.size, 3, none⟩ = some (.slice A' c'.len m') := by rw [cell_of hv4]; rfl
          have e1 : bs ++ bcs (40 :: pre) ++ [.int .u8 32] = bs ++ bcs (40 :: (pre ++ [32])) := by rw [List.append_assoc, ← List.cons_append, bcs_append]; rfl
          have HI4 := Lib.hid (show IsB w0.heap.size b (bs ++ bcs (40 :: (pre ++ [32]))) w4 by rw [← e1]; exact .inr h4)
          have HB4 := Lib.hid (HBA.out.trans hb4)
          have HE : Hid (c.txt = (pre ++ [32] ++ For.ntxt k' t' c') ++ sepT (j + 1) R) := by show _ = _; rw [HD.out]; simp only [List.append_assoc]
          clear cw h4 hb4 hk4 hv4 e1
          go_wp2_with fail
          refine (C.out w4 (pre ++ [32]) HB4.out HI4.out (by simp [bcs_len]; omega)).mono ?_
          rintro e w5 ⟨rfl, h5, hb5⟩
          have HI5 := Lib.hid (show IsB w0.heap.size b (bs ++ bcs (40 :: (pre ++ [32] ++ For.ntxt k' t' c'))) w5 by
            have e2 : bs ++ bcs (40 :: (pre ++ [32])) ++ bcs (For.ntxt k' t' c') = bs ++ bcs (40 :: (pre ++ [32] ++ For.ntxt k' t' c')) := by rw [List.append_assoc, ← bcs_append]; rfl
            rw [← e2]; exact h5)
          have HB5 := Lib.hid hb5
          clear h5 hb5 y0 y1 y2 y3 hle
          go_wp2_with fail
          go_roundw
          case rel =>
            refine ⟨j + 1, pre ++ [32] ++ For.ntxt k' t' c', R, by go_num, HJ.out, HE.out, HSZ.out, ?_, HI5.out, HB5.out⟩
            exact .inr ⟨b', o, rfl, by have := H8.out; rwa [show o + j * 4 + 4 = o + (j + 1) * 4 from by omega] at this⟩
          case measure => simp [intOf]; omega
        · rw [if_neg hj0] at hle HD
          have hj1 : ¬ (0 : Int) < (j : Int) := by omega
          have HE : Hid (c.txt = (pre ++ For.ntxt k' t' c') ++ sepT (j + 1) R) := by show _ = _; rw [HD.out]; simp only [List.append_assoc, List.nil_append]
          go_wp2_with fail
          refine (C.out WA pre HBA.out HIA.out (by simp [bcs_len]; omega)).mono ?_
          rintro e w5 ⟨rfl, h5, hb5⟩
          have HI5 := Lib.hid (show IsB w0.heap.size b (bs ++ bcs (40 :: (pre ++ For.ntxt k' t' c'))) w5 by
            have e2 : bs ++ bcs (40 :: pre) ++ bcs (For.ntxt k' t' c') = bs ++ bcs (40 :: (pre ++ For.ntxt k' t' c')) := by rw [List.append_assoc, ← bcs_append]; rfl
            rw [← e2]; exact h5)
          have HB5 := Lib.hid hb5
          clear h5 hb5 hle
          go_wp2_with fail
          go_roundw
          case rel =>
            refine ⟨j + 1, pre ++ For.ntxt k' t' c', R, by go_num, HJ.out, HE.out, HSZ.out, ?_, HI5.out, HB5.out⟩
            exact .inr ⟨b', o, rfl, by have := H8.out; rwa [show o + j * 4 + 4 = o + (j + 1) * 4 from by omega] at this⟩
          case measure => simp [intOf]; omega
  · have hv : Hid (For.ntxt k t c = t) := if_neg h0
    rw [decide_eq_false h0] at c0
    rw [hv.out] at hlen ⊢
    clear h0 hx hbx hK hB hW0
    go_enter Try.func14, Try.ntmps14
    go_wp2_with fail
    refine c0.mono ?_
    rintro e w1 ⟨rfl, hb1⟩
    have hx1 := (hb1.block w.heap.size hlt).trans HX.out
    have x2 : w1.cell? ⟨w.heap.size, 2, none⟩ = some (.string (str t)) := by rw [cell_of hx1]; rfl
    have hB1 := isB_keep hBW hb1
    have hW2 := hW1.trans (hb1.mono hW1.size)
    have cw := writeS_any w0.heap.size b bs (str t) w1 hB1 (by rw [str_size]; omega) hW2.size
    have HB2 := Lib.hid hW2
    clear hBW hW1 hb1 hx1 c0 hB1 hW2
    go_wp2_with fail
    refine cw.mono ?_
    rintro e w2 ⟨rfl, h2, hb2, _⟩
    go_wp2
    refine bodyPost_ret (results_none rfl _ _ _) rfl ?_
    exact ⟨rfl, .inr h2, HB2.out.trans hb2⟩
theorem write_any : ∀ n : Nat, WriteAt n
  | 0 => fun _ _ _ _ _ _ _ _ _ _ _ h => absurd h (Nat.not_lt_zero _)
  | n + 1 => (write_any n).step

/-- Show: of a node that may not be nothing -/
def For.nshow (k : Nat) (t : List Nat) (c : For) : List Nat := if For.nmay k t c = true then For.ntxt k t c else []
theorem show_any (k : Nat) (a : Int) (t : List Nat) (c : For) (A : Option Addr) (m : Nat) (w : World) (hk : k < 256) (hc : Codes t) (hl : t.length < 9223372036854775807) (hz : c.siz < 4611686018427387904) (hK : Kds w c A) (hlen : For.nmay k t c = true → (For.ntxt k t c).length ≤ 140737488355000) :
    Calls Try.prog 6 #[.agg #[.int .u8 (k : Int), .int .i64 a, .string (str t), .slice A c.len m]] w fun e w' => e = .returned (.string (str (For.nshow k t c))) ∧ Below w.heap.size w w' := by
  obtain ⟨W, hW⟩ : ∃ W, w.alloc (.cells #[.int .u8 (k : Int), .int .i64 a, .string (str t), .slice A c.len m] 28) = W := ⟨_, rfl⟩
  have hB : Below w.heap.size w W := hW ▸ (Below.refl _ w).alloc (Nat.le_refl _) _
  have hx : W.heap[w.heap.size]? = some (.cells #[.int .u8 (k : Int), .int .i64 a, .string (str t), .slice A c.len m] 28 (0, 0)) := hW ▸ lone_new w _ _
  have hlt : w.heap.size < W.heap.size := (Array.getElem?_eq_some_iff.1 hx).1
  have HX := Lib.hid hx
  have z0 : W.cell? ⟨w.heap.size, 0, none⟩ = some (.int .u8 (k : Int)) := by rw [cell_of hx]; rfl
  have z1 : W.cell? ⟨w.heap.size, 1, none⟩ = some (.int .i64 a) := by rw [cell_of hx]; rfl
  have z2 : W.cell? ⟨w.heap.size, 2, none⟩ = some (.string (str t)) := by rw [cell_of hx]; rfl
  have z3 : W.cell? ⟨w.heap.size, 3, none⟩ = some (.slice A c.len m) := by rw [cell_of hx]; rfl
  have c0 := may_node _ k a t c A m W hk hc hl (Nat.lt_succ_self _) hz (hK.below hB)
  have HB := Lib.hid hB
  have hv : Hid (For.nshow k t c = if For.nmay k t c = true then For.ntxt k t c else []) := rfl
  have HK := Lib.hid hK
  have HL := Lib.hid hlen
  clear hx hB hK hlen hc
  generalize hq : For.nmay k t c = q at *
  clear hq
  cases q
  · have ht : Hid (For.nshow k t c = []) := hv.out
    go_enter Try.func6, Try.ntmps6
    go_wp2_with fail
    refine c0.mono ?_
    rintro e w1 ⟨rfl, hb1⟩
    go_wp2
    go_ret
    exact ⟨by rw [ht.out]; rfl, HB.out.trans (hb1.mono HB.out.size)⟩
  · have ht : Hid (For.nshow k t c = For.ntxt k t c) := hv.out
    go_enter Try.func6, Try.ntmps6
    go_wp2_with fail
    refine c0.mono ?_
    rintro e w1 ⟨rfl, hb1⟩
    have hB1 := Lib.hid (HB.out.trans (hb1.mono HB.out.size))
    have hx1 := (hb1.block w.heap.size hlt).trans HX.out
    have hlt1 : w.heap.size < w1.heap.size := (Array.getElem?_eq_some_iff.1 hx1).1
    obtain ⟨W2, hW2⟩ : ∃ W2, w1.alloc (.cells #[.pointer none, .slice none 0 0] 40) = W2 := ⟨_, rfl⟩
    have hb2 : Below w1.heap.size w1 W2 := hW2 ▸ (Below.refl _ w1).alloc (Nat.le_refl _) _
    have hn2 : W2.heap[w1.heap.size]? = some (.cells #[.pointer none, .slice none 0 0] 40 (0, 0)) := hW2 ▸ lone_new w1 _ _
    have hx2 := (hb2.block w.heap.size hlt1).trans hx1
    have y0 : W2.cell? ⟨w.heap.size, 0, none⟩ = some (.int .u8 (k : Int)) := by rw [cell_of hx2]; rfl
    have y1 : W2.cell? ⟨w.heap.size, 1, none⟩ = some (.int .i64 a) := by rw [cell_of hx2]; rfl
    have y2 : W2.cell? ⟨w.heap.size, 2, none⟩ = some (.string (str t)) := by rw [cell_of hx2]; rfl
    have y3 : W2.cell? ⟨w.heap.size, 3, none⟩ = some (.slice A c.len m) := by rw [cell_of hx2]; rfl
    have hB2 := hB1.out.trans (hb2.mono hB1.out.size)
    have HBB := Lib.hid hB2
    have hI : IsB w.heap.size w1.heap.size [] W2 := .inl ⟨hB1.out.size, _, hn2, World.ownsRowF_nil _ _ _ _, by simp [Value.ownBlock]⟩
    have cw := write_any _ k a t c A m w W2 w1.heap.size [] hk (Nat.lt_succ_self _) hz HK.out hB2 hI (by simpa using HL.out (by simp))
    clear hb1 hx1 hx2 hn2 hb2 hB2 hI c0
    go_wp2_with fail
    refine cw.mono ?_
    rintro e w3 ⟨rfl, h3, hb3⟩
    have cs := Go.Proofs.Try.Builder_String_any_f w.heap.size w1.heap.size ((For.ntxt k t c).map UInt8.ofNat) w3 h3 hb3.size
    have HB3 := Lib.hid hb3
    clear cw h3 hb3
    go_wp2_with fail
    refine cs.mono ?_
    rintro e w4 ⟨rfl, _, hb4⟩
    go_wp2
    go_ret
    exact ⟨by rw [ht.out]; rfl, HB3.out.trans hb4⟩

end Go.Proofs.Ytbnlcgnpkodieaa

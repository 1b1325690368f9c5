/- Contract: May, by its closure. -/
import Derived.Test.YtbnlcgnpkodieaaSexB
namespace Go.Proofs.Ytbnlcgnpkodieaa
open Go.RowKit

set_option linter.unusedVariables false
set_option linter.unusedSimpArgs false

/-- what May answers, for kids of so many nodes at most -/
def MayAt (n : Nat) : Prop := ∀ (k : Nat) (a : Int) (t : List Nat) (c : For) (A : Option Addr) (m : Nat) (w : World), k < 256 → Codes t → t.length < 9223372036854775807 → c.siz < n → c.siz < 4611686018427387904 → Kds w c A →
  Calls Try.prog 7 #[.agg #[.int .u8 (k : Int), .int .i64 a, .string (str t), .slice A c.len m]] w fun e w' => e = .returned (.bool (For.nmay k t c)) ∧ Below w.heap.size w w'
theorem mayNot_step {n : Nat} (ih : MayAt n) (k : Nat) (a : Int) (t : List Nat) (c : For) (A : Option Addr) (m : Nat) (w : World) (hk : k < 256) (hc : Codes t) (hl : t.length < 9223372036854775807) (hn : c.siz < n) (hz : c.siz < 4611686018427387904) (hK : Kds w c A) :
    Calls Try.prog 18 #[.agg #[.int .u8 (k : Int), .int .i64 a, .string (str t), .slice A c.len m]] w fun e w' => e = .returned (.bool (!(For.nmay k t c))) ∧ Below w.heap.size w w' := by
  obtain ⟨W, hW⟩ : ∃ W, w.alloc (.cells #[.int .u8 (k : Int), .int .i64 a, .string (str t), .slice A c.len m] 28) = W := ⟨_, rfl⟩
  have hB : Below w.heap.size w W := hW ▸ (Below.refl _ w).alloc (Nat.le_refl _) _
  have hx : W.heap[w.heap.size]? = some (.cells #[.int .u8 (k : Int), .int .i64 a, .string (str t), .slice A c.len m] 28 (0, 0)) := hW ▸ lone_new w _ _
  have z0 : W.cell? ⟨w.heap.size, 0, none⟩ = some (.int .u8 (k : Int)) := by rw [cell_of hx]; rfl
  have z1 : W.cell? ⟨w.heap.size, 1, none⟩ = some (.int .i64 a) := by rw [cell_of hx]; rfl
  have z2 : W.cell? ⟨w.heap.size, 2, none⟩ = some (.string (str t)) := by rw [cell_of hx]; rfl
  have z3 : W.cell? ⟨w.heap.size, 3, none⟩ = some (.slice A c.len m) := by rw [cell_of hx]; rfl
  have C := Lib.hid (ih k a t c A m W hk hc hl hn hz (hK.below hB))
  have HB := Lib.hid hB
  clear hx hB hK hc
  generalize For.nmay k t c = q at *
  go_enter Try.func18, Try.ntmps18
  go_wp2_with fail
  refine C.out.mono ?_
  rintro e w1 ⟨rfl, hb1⟩
  go_wp2
  go_ret
  exact ⟨rfl, HB.out.trans (hb1.mono HB.out.size)⟩

/-- the place of the first one that may not be -/
def firstNot : Nat → For → Int
  | _, .nil => -1
  | j, .cons k _ t c r => if For.nmay k t c = true then firstNot (j + 1) r else (j : Int)
theorem firstNot_may : ∀ (F : For) (j : Nat), decide (firstNot j F < 0) = F.may
  | .nil, j => rfl
  | .cons k a t c r, j => by
    have ih := firstNot_may r (j + 1)
    rw [For.may_cons, ← ih]
    have e : firstNot j (.cons k a t c r) = if For.nmay k t c = true then firstNot (j + 1) r else (j : Int) := rfl
    rw [e]
    cases For.nmay k t c
    · simp
    · simp
theorem firstNot_lt : ∀ (F : For) (j : Nat), firstNot j F < (j + F.len : Nat) ∧ -1 ≤ firstNot j F
  | .nil, j => by simp [firstNot]; omega
  | .cons k a t c r, j => by
    have := firstNot_lt r (j + 1)
    unfold firstNot For.len
    split <;> omega

theorem indexNot_any {n : Nat} (ih : MayAt n) (c : For) (A : Option Addr) (m : Nat) (w : World) (hn : c.siz ≤ n) (hz : c.siz < 4611686018427387904) (hK : Kds w c A) :
    Calls Try.prog 27 #[.slice A c.len m, .func (.func 18) #[] #[]] w fun e w' => e = .returned (.int .i64 (firstNot 0 c)) ∧ Below w.heap.size w w' := by
  have hls := For.len_siz c
  obtain ⟨T, hT⟩ : ∃ T, T = firstNot 0 c := ⟨_, rfl⟩
  have HT0 := Lib.hid hT
  rw [← hT]
  clear hT
  go_enter Try.func27, Try.ntmps27
  go_wp2
  go_loopw [8] (fun i wr => ∃ (j : Nat) (R : For), i = .int .i64 (j : Int) ∧ j + R.len = c.len ∧ T = firstNot j R ∧ R.siz ≤ c.siz ∧ (R = .nil ∨ ∃ b o, A = some ⟨b, o, none⟩ ∧ Nds wr R b (o + j * 4)) ∧ Below w.heap.size w wr) (fun i _ => c.len - (intOf i).toNat)
  case atStart =>
    refine ⟨0, c, rfl, Nat.zero_add _, HT0.out, Nat.le_refl _, ?_, Below.refl _ _⟩
    rcases hK with h | ⟨b, o, h, h'⟩
    · exact .inl h
    · exact .inr ⟨b, o, h, by simpa using h'⟩
  case round =>
    obtain ⟨j, R, rfl, hj, hd, hs, hR, hB⟩ := hrel
    cases R with
    | nil =>
      have hj' : j = c.len := hj
      have he : Hid (T = -1) := hd
      subst hj'
      have HB2 := Lib.hid hB
      clear hj hd hs hR hB
      go_wp2
      go_ret
      exact ⟨reti he.out.symm, HB2.out⟩
    | cons k' a' t' c' R =>
      rcases hR with hR | ⟨b, o, rfl, h0, h1, h2, h3, h4, h5, ⟨A', m', h6, h7⟩, h8⟩
      · cases hR
      have hlen : j < c.len := by simp only [For.len] at hj; omega
      have hcs : c'.siz < n := by simp only [For.siz] at hs; omega
      have hcz : c'.siz < 4611686018427387904 := by simp only [For.siz] at hs; omega
      have C := Lib.hid (fun w2 (h : Kds w2 c' A') => mayNot_step ih k' a' t' c' A' m' w2 h3 h4 h5 hcs hcz h)
      have H7 := Lib.hid (show Kds wr c' A' from h7)
      have H8 := Lib.hid h8
      have HB2 := Lib.hid hB
      have HD : Hid (T = if For.nmay k' t' c' = true then firstNot (j + 1) R else (j : Int)) := hd
      have HJ := Lib.hid (show j + 1 + R.len = c.len by simp only [For.len] at hj; omega)
      have HS := Lib.hid (show R.siz ≤ c.siz by simp only [For.siz] at hs; omega)
      clear hd hs hj h4 h7 h8 hB hK
      generalize For.nmay k' t' c' = q at *
      go_wp2_with fail
      refine (C.out _ H7.out).mono ?_
      rintro e w2 ⟨rfl, hb2⟩
      have HB3 := Lib.hid (HB2.out.trans (hb2.mono HB2.out.size))
      have H9 := Lib.hid (H8.out.below hb2)
      clear hb2
      cases q
      · have he : Hid (T = (j : Int)) := HD.out
        go_wp2
        go_ret
        exact ⟨reti he.out.symm, HB3.out⟩
      · have he : Hid (T = firstNot (j + 1) R) := HD.out
        go_wp2
        go_roundw
        case rel =>
          refine ⟨j + 1, R, by go_num, HJ.out, he.out, HS.out, ?_, HB3.out⟩
          exact .inr ⟨b, o, rfl, by have := H9.out; rwa [show o + j * 4 + 4 = o + (j + 1) * 4 from by omega] at this⟩
        case measure => simp [intOf]; omega

theorem someNot_any {n : Nat} (ih : MayAt n) (c : For) (A : Option Addr) (m : Nat) (w : World) (hn : c.siz ≤ n) (hz : c.siz < 4611686018427387904) (hK : Kds w c A) :
    Calls Try.prog 19 #[.slice A c.len m, .func (.func 18) #[] #[]] w fun e w' => e = .returned (.bool (!c.may)) ∧ Below w.heap.size w w' := by
  have C := Lib.hid (indexNot_any ih c A m w hn hz hK)
  have HM := Lib.hid (firstNot_may c 0)
  clear hK
  generalize firstNot 0 c = q at *
  generalize c.may = b at *
  go_enter Try.func19, Try.ntmps19
  go_wp2_with fail
  refine C.out.mono ?_
  rintro e w1 ⟨rfl, hb1⟩
  go_wp2
  go_ret
  refine ⟨retb ?_, hb1⟩
  have := HM.out
  rw [← this, Bool.eq_iff_iff]
  simp

theorem MayAt.step {n : Nat} (ih : MayAt n) : MayAt (n + 1) := by
  intro k a t c A m w hk hc hl hn hz hK
  obtain ⟨W, hW⟩ : ∃ W, w.alloc (.cells #[.int .u8 (k : Int), .int .i64 a, .string (str t), .slice A c.len m] 28) = W := ⟨_, rfl⟩
  have hB : Below w.heap.size w W := hW ▸ (Below.refl _ w).alloc (Nat.le_refl _) _
  have hx : W.heap[w.heap.size]? = some (.cells #[.int .u8 (k : Int), .int .i64 a, .string (str t), .slice A c.len m] 28 (0, 0)) := hW ▸ lone_new w _ _
  have hlt : w.heap.size < W.heap.size := (Array.getElem?_eq_some_iff.1 hx).1
  have HX := Lib.hid hx
  have z0 : W.cell? ⟨w.heap.size, 0, none⟩ = some (.int .u8 (k : Int)) := by rw [cell_of hx]; rfl
  have z1 : W.cell? ⟨w.heap.size, 1, none⟩ = some (.int .i64 a) := by rw [cell_of hx]; rfl
  have z2 : W.cell? ⟨w.heap.size, 2, none⟩ = some (.string (str t)) := by rw [cell_of hx]; rfl
  have z3 : W.cell? ⟨w.heap.size, 3, none⟩ = some (.slice A c.len m) := by rw [cell_of hx]; rfl
  have c0 := isList_any k a (str t) (.slice A c.len m) W hk
  have HB := Lib.hid hB
  have hKW := hK.below hB
  have HY : Hid (∀ w1, Below W.heap.size W w1 → (w1.cell? ⟨w.heap.size, 0, none⟩ = some (.int .u8 (k : Int)) ∧ w1.cell? ⟨w.heap.size, 1, none⟩ = some (.int .i64 a)) ∧ w1.cell? ⟨w.heap.size, 2, none⟩ = some (.string (str t)) ∧ w1.cell? ⟨w.heap.size, 3, none⟩ = some (.slice A c.len m)) := fun w1 h => ⟨⟨keep_below h _ _ z0, keep_below h _ _ z1⟩, keep_below h _ _ z2, keep_below h _ _ z3⟩
  by_cases h0 : k = 0
  · have hv : Hid (For.nmay k t c = (t.isEmpty && c.may)) := by show _ = _; unfold For.nmay; rw [if_pos h0]
    rw [decide_eq_true h0] at c0
    clear h0 hx hB hK
    have e2 := str_beq hc (show Codes [] from fun c h => by cases h)
    rw [show (str []).toList = [] from by rw [str_toList]; rfl] at e2
    clear hc
    cases t with
    | nil =>
      have ht : Hid (For.nmay k [] c = c.may) := by show _ = _; rw [hv.out]; simp
      go_enter Try.func7, Try.ntmps7
      go_wp2_with fail
      refine c0.mono ?_
      rintro e w1 ⟨rfl, hb1⟩
      have ⟨⟨x0, x1⟩, x2, x3⟩ := HY.out w1 hb1
      have CS := Lib.hid (someNot_any ih c A m w1 (by omega) hz (hKW.below hb1))
      have hB1 := Lib.hid (HB.out.trans (hb1.mono HB.out.size))
      clear hKW hb1 c0
      go_wp2_with fail
      refine CS.out.mono ?_
      rintro e w2 ⟨rfl, hb2⟩
      go_wp2
      go_ret
      exact ⟨retb (by rw [ht.out]), hB1.out.trans (hb2.mono hB1.out.size)⟩
    | cons x t =>
      have ht : Hid (For.nmay k (x :: t) c = false) := by show _ = _; rw [hv.out]; simp
      rw [decide_eq_false (by simp)] at e2
      go_enter Try.func7, Try.ntmps7
      go_wp2_with fail
      refine c0.mono ?_
      rintro e w1 ⟨rfl, hb1⟩
      have ⟨⟨x0, x1⟩, x2, x3⟩ := HY.out w1 hb1
      have hB1 := Lib.hid (HB.out.trans (hb1.mono HB.out.size))
      clear hKW hb1 c0
      go_wp2
      go_ret
      exact ⟨retb ht.out.symm, hB1.out⟩
  · have hv : Hid (For.nmay k t c = (isW k t && decide (c.len = 0))) := by show _ = _; unfold For.nmay isW; rw [if_neg h0]
    rw [decide_eq_false h0] at c0
    have C1 := Lib.hid (fun w1 => isWord_any k a t (.slice A c.len m) w1 hk hc hl)
    have hls := For.len_siz c
    clear h0 hx hB hK hc hKW
    generalize isW k t = q at *
    cases q
    · have ht : Hid (For.nmay k t c = false) := hv.out
      go_enter Try.func7, Try.ntmps7
      go_wp2_with fail
      refine c0.mono ?_
      rintro e w1 ⟨rfl, hb1⟩
      have ⟨⟨x0, x1⟩, x2, x3⟩ := HY.out w1 hb1
      have hB1 := Lib.hid (HB.out.trans (hb1.mono HB.out.size))
      clear hb1 c0
      have c1 := C1.out w1
      go_wp2_with fail
      refine c1.mono ?_
      rintro e w2 ⟨rfl, hb2⟩
      go_wp2
      go_ret
      exact ⟨retb ht.out.symm, hB1.out.trans (hb2.mono hB1.out.size)⟩
    · have ht : Hid (For.nmay k t c = decide (c.len = 0)) := by show _ = _; rw [hv.out]; simp
      generalize c.len = l at *
      go_enter Try.func7, Try.ntmps7
      go_wp2_with fail
      refine c0.mono ?_
      rintro e w1 ⟨rfl, hb1⟩
      have ⟨⟨x0, x1⟩, x2, x3⟩ := HY.out w1 hb1
      have hB1 := Lib.hid (HB.out.trans (hb1.mono HB.out.size))
      have hlt1 : w.heap.size < w1.heap.size := Nat.lt_of_lt_of_le hlt hb1.size
      clear hb1 c0
      have c1 := C1.out w1
      go_wp2_with fail
      refine c1.mono ?_
      rintro e w2 ⟨rfl, hb2⟩
      have y3 := keep_below hb2 _ _ x3
      have hB2 := Lib.hid (hB1.out.trans (hb2.mono hB1.out.size))
      clear hb2 c1
      go_wp2
      go_ret
      exact ⟨retb (by rw [ht.out, Bool.eq_iff_iff]; simp), hB2.out⟩
theorem may_node : ∀ n : Nat, MayAt n
  | 0 => fun _ _ _ _ _ _ _ _ _ _ h => absurd h (Nat.not_lt_zero _)
  | n + 1 => (may_node n).step

end Go.Proofs.Ytbnlcgnpkodieaa

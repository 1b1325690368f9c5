/- Nodes in memory; contracts: isList, Depth, Size. -/
import Derived.Test.YtbnlcgnpkodieaaSexMath
import Derived.Test.YtbnlcgnpkodieaaLexH
import Derived.Test.YtbnlcgnpkodieaaMetB
import Derived.Laws.ResultCell
namespace Go.Proofs.Ytbnlcgnpkodieaa
open Go.RowKit

set_option linter.unusedVariables false
set_option linter.unusedSimpArgs false

/-- nodes lie in memory, one behind the other, from a cell on -/
def Nds (w : World) : For → Nat → Nat → Prop
  | .nil, _, _ => True
  | .cons k a t c r, b, o => w.cell? ⟨b, o, none⟩ = some (.int .u8 (k : Int)) ∧ w.cell? ⟨b, o + 1, none⟩ = some (.int .i64 a) ∧ w.cell? ⟨b, o + 2, none⟩ = some (.string (str t)) ∧ k < 256 ∧ Codes t ∧ t.length < 9223372036854775807 ∧
      (∃ A m, w.cell? ⟨b, o + 3, none⟩ = some (.slice A c.len m) ∧ (c = .nil ∨ ∃ b' o', A = some ⟨b', o', none⟩ ∧ Nds w c b' o')) ∧ Nds w r b (o + 4)
/-- kids of a node: what its slice points at -/
def Kds (w : World) (c : For) (A : Option Addr) : Prop := c = .nil ∨ ∃ b' o', A = some ⟨b', o', none⟩ ∧ Nds w c b' o'
theorem Nds.keep {w w' : World} (hb : ∀ p v, w.cell? p = some v → w'.cell? p = some v) : ∀ {F : For} {b o : Nat}, Nds w F b o → Nds w' F b o
  | .nil, _, _, _ => trivial
  | .cons k a t c r, b, o, h => by
    obtain ⟨h0, h1, h2, h3, h4, h5, ⟨A, m, h6, h7⟩, h8⟩ := h
    refine ⟨hb _ _ h0, hb _ _ h1, hb _ _ h2, h3, h4, h5, ⟨A, m, hb _ _ h6, ?_⟩, Nds.keep hb h8⟩
    rcases h7 with h7 | ⟨b', o', h7, h9⟩
    · exact .inl h7
    · exact .inr ⟨b', o', h7, Nds.keep hb h9⟩
theorem Kds.keep {w w' : World} (hb : ∀ p v, w.cell? p = some v → w'.cell? p = some v) {c : For} {A : Option Addr} (h : Kds w c A) : Kds w' c A := by
  rcases h with h | ⟨b', o', h, h'⟩
  · exact .inl h
  · exact .inr ⟨b', o', h, h'.keep hb⟩
theorem keep_below {w w' : World} (h : Below w.heap.size w w') : ∀ p v, w.cell? p = some v → w'.cell? p = some v := fun p v hp => (h.cell (World.block_lt_of_cell? w p hp)).trans hp
theorem Kds.below {w w' : World} {c : For} {A : Option Addr} (h : Kds w c A) (hb : Below w.heap.size w w') : Kds w' c A := h.keep (keep_below hb)
theorem Nds.below {w w' : World} {F : For} {b o : Nat} (h : Nds w F b o) (hb : Below w.heap.size w w') : Nds w' F b o := h.keep (keep_below hb)

theorem infoNd : (Try.prog.info? 28).map (fun i => (i.zero, i.size, i.bytes)) = some (some (.agg #[.int .u8 0, .int .i64 0, .string ⟨#[]⟩, .slice none 0 0]), 4, 56) := by kernel_rfl

theorem isList_any (k : Nat) (a : Int) (s : ByteArray) (v : Value) (w : World) (hk : k < 256) :
    Calls Try.prog 16 #[.agg #[.int .u8 (k : Int), .int .i64 a, .string s, v]] w fun e w' => e = .returned (.bool (decide (k = 0))) ∧ Below w.heap.size w w' := by
  by_cases h0 : k = 0
  · have hv : Hid (decide (k = 0) = true) := decide_eq_true h0
    have h1 : ((k : Int) == 0) = true := by simp [h0]
    clear h0
    go_enter Try.func16, Try.ntmps16
    go_wp2
    go_ret
    exact ⟨retb hv.out.symm, (Below.refl _ w).alloc (Nat.le_refl _) _⟩
  · have hv : Hid (decide (k = 0) = false) := decide_eq_false h0
    have h1 : ((k : Int) == 0) = false := by simpa using h0
    clear h0
    go_enter Try.func16, Try.ntmps16
    go_wp2
    go_ret
    exact ⟨retb hv.out.symm, (Below.refl _ w).alloc (Nat.le_refl _) _⟩

/-- what Depth answers, for kids of so many nodes at most -/
def DepthAt (n : Nat) : Prop := ∀ (k : Nat) (a : Int) (t : List Nat) (c : For) (A : Option Addr) (m : Nat) (w : World), k < 256 → c.siz < n → c.siz < 4611686018427387904 → Kds w c A →
  Calls Try.prog 8 #[.agg #[.int .u8 (k : Int), .int .i64 a, .string (str t), .slice A c.len m]] w fun e w' => e = .returned (.int .i64 ((For.ndep k c : Nat) : Int)) ∧ Below w.heap.size w w'
theorem DepthAt.step {n : Nat} (ih : DepthAt n) : DepthAt (n + 1) := by
  intro k a t c A m w hk hn hz hK
  obtain ⟨W, hW⟩ : ∃ W, w.alloc (.cells #[.int .u8 (k : Int), .int .i64 a, .string (str t), .slice A c.len m] 28) = W := ⟨_, rfl⟩
  have hB : Below w.heap.size w W := hW ▸ (Below.refl _ w).alloc (Nat.le_refl _) _
  have hx : W.heap[w.heap.size]? = some (.cells #[.int .u8 (k : Int), .int .i64 a, .string (str t), .slice A c.len m] 28 (0, 0)) := hW ▸ lone_new w _ _
  have hlt : w.heap.size < W.heap.size := (Array.getElem?_eq_some_iff.1 hx).1
  have HX := Lib.hid hx
  have z0 : W.cell? ⟨w.heap.size, 0, none⟩ = some (.int .u8 (k : Int)) := by rw [cell_of hx]; rfl
  have z1 : W.cell? ⟨w.heap.size, 1, none⟩ = some (.int .i64 a) := by rw [cell_of hx]; rfl
  have z2 : W.cell? ⟨w.heap.size, 2, none⟩ = some (.string (str t)) := by rw [cell_of hx]; rfl
  have z3 : W.cell? ⟨w.heap.size, 3, none⟩ = some (.slice A c.len m) := by rw [cell_of hx]; rfl
  have c0 := isList_any k a (str t) (.slice A c.len m) W hk
  have HB := Lib.hid hB
  by_cases h0 : k = 0
  · have hv : Hid (For.ndep k c = 1 + c.dep) := if_pos h0
    rw [decide_eq_true h0] at c0
    clear h0
    have hKW := hK.below hB
    clear hx hB hK
    go_enter Try.func8, Try.ntmps8
    go_wp2_with fail
    refine c0.mono ?_
    rintro e w1 ⟨rfl, hb1⟩
    have hx1 := (hb1.block w.heap.size hlt).trans HX.out
    have x0 : w1.cell? ⟨w.heap.size, 0, none⟩ = some (.int .u8 (k : Int)) := by rw [cell_of hx1]; rfl
    have x1 : w1.cell? ⟨w.heap.size, 1, none⟩ = some (.int .i64 a) := by rw [cell_of hx1]; rfl
    have x2 : w1.cell? ⟨w.heap.size, 2, none⟩ = some (.string (str t)) := by rw [cell_of hx1]; rfl
    have x3 : w1.cell? ⟨w.heap.size, 3, none⟩ = some (.slice A c.len m) := by rw [cell_of hx1]; rfl
    have hK1 := hKW.below hb1
    have hB1 := HB.out.trans (hb1.mono HB.out.size)
    clear hKW hb1 hx1 c0
    have hn2 : c.siz ≤ n := by omega
    have HC := Lib.hid (show max 0 c.dep = c.dep from Nat.zero_max _)
    clear hn hk hlt
    go_wp2
    go_loopw [3, 12] (fun d i wr => ∃ (j dd : Nat) (R : For), d = .int .i64 (dd : Int) ∧ i = .int .i64 (j : Int) ∧ j + R.len = c.len ∧ max dd R.dep = c.dep ∧ R.siz ≤ c.siz ∧ (R = .nil ∨ ∃ b o, A = some ⟨b, o, none⟩ ∧ Nds wr R b (o + j * 4)) ∧ Below w1.heap.size w1 wr) (fun _ i _ => c.len - (intOf i).toNat)
    case atStart =>
      refine ⟨0, 0, c, rfl, rfl, Nat.zero_add _, HC.out, Nat.le_refl _, ?_, Below.refl _ _⟩
      rcases hK1 with h | ⟨b, o, h, h'⟩
      · exact .inl h
      · exact .inr ⟨b, o, h, by simpa using h'⟩
    case round =>
      obtain ⟨j, dd, R, rfl, rfl, hj, hd, hs, hR, hB⟩ := hrel
      have hds := For.dep_siz c
      cases R with
      | nil =>
        have hj' : j = c.len := hj
        have he : Hid (dd = c.dep) := by show _ = _; rw [← hd]; exact (Nat.max_zero _).symm
        have hdd : dd < 4611686018427387904 := by rw [he.out]; omega
        subst hj'
        have HB2 := Lib.hid (hB1.trans (hB.mono hB1.size))
        clear hj hd hs hR
        go_wp2
        go_ret
        exact ⟨reti (by rw [hv.out, he.out]; omega), HB2.out⟩
      | cons k' a' t' c' R =>
        rcases hR with hR | ⟨b, o, rfl, h0, h1, h2, h3, h4, h5, ⟨A', m', h6, h7⟩, h8⟩
        · cases hR
        have hlen : j < c.len := by simp only [For.len] at hj; omega
        have hcs : c'.siz < n := by simp only [For.siz] at hs; omega
        have hcz : c'.siz < 4611686018427387904 := by simp only [For.siz] at hs; omega
        have C := Lib.hid (fun w2 (h : Kds w2 c' A') => ih k' a' t' c' A' m' w2 h3 hcs hcz h)
        have H7 := Lib.hid (show Kds wr c' A' from h7)
        have H8 := Lib.hid h8
        have HB2 := Lib.hid hB
        have hdb : For.ndep k' c' < 4611686018427387904 := by have := For.ndep_siz k' c'; simp only [For.siz] at hs; omega
        have HD := Lib.hid (show max dd (max (For.ndep k' c') R.dep) = c.dep from hd)
        have HJ := Lib.hid (show j + 1 + R.len = c.len by simp only [For.len] at hj; omega)
        have HS := Lib.hid (show R.siz ≤ c.siz by simp only [For.siz] at hs; omega)
        have hdd : dd < 4611686018427387904 := by have := HD.out; omega
        have hlc := For.len_siz c
        clear hd hs hj h7 h8 hB hK1
        go_wp2_with fail
        refine (C.out _ (H7.out.below ((Below.refl _ wr).alloc (Nat.le_refl _) _))).mono ?_
        rintro e w2 ⟨rfl, hb2⟩
        have HB3 := Lib.hid (HB2.out.trans ((((Below.refl _ wr).alloc (Nat.le_refl _) _).trans (hb2.mono (by simp))).mono HB2.out.size))
        have H9 := Lib.hid (H8.out.below (((Below.refl _ wr).alloc (Nat.le_refl _) _).trans (hb2.mono (by simp))))
        clear hb2
        generalize For.ndep k' c' = q at *
        go_wp2
        go_roundw
        case rel =>
          refine ⟨j + 1, max dd q, R, by congr 1; omega, by go_num, HJ.out, by have := HD.out; omega, HS.out, ?_, HB3.out⟩
          exact .inr ⟨b, o, rfl, by have := H9.out; rwa [show o + j * 4 + 4 = o + (j + 1) * 4 from by omega] at this⟩
        case measure => simp [intOf]; omega
  · have hv : Hid (For.ndep k c = 0) := if_neg h0
    rw [decide_eq_false h0] at c0
    clear h0 hx hB hK
    go_enter Try.func8, Try.ntmps8
    go_wp2_with fail
    refine c0.mono ?_
    rintro e w1 ⟨rfl, hb1⟩
    have hB1 := Lib.hid (HB.out.trans (hb1.mono HB.out.size))
    clear hb1 c0
    go_wp2
    go_ret
    exact ⟨reti (by rw [hv.out]; rfl), hB1.out⟩
theorem depth_any : ∀ n : Nat, DepthAt n
  | 0 => fun _ _ _ _ _ _ _ _ h => absurd h (Nat.not_lt_zero _)
  | n + 1 => (depth_any n).step

/-- what Size answers, for kids of so many nodes at most -/
def SizeAt (n : Nat) : Prop := ∀ (k : Nat) (a : Int) (t : List Nat) (c : For) (A : Option Addr) (m : Nat) (w : World), k < 256 → c.siz < n → c.siz < 4611686018427387904 → Kds w c A →
  Calls Try.prog 11 #[.agg #[.int .u8 (k : Int), .int .i64 a, .string (str t), .slice A c.len m]] w fun e w' => e = .returned (.int .i64 ((1 + c.siz : Nat) : Int)) ∧ Below w.heap.size w w'
theorem SizeAt.step {n : Nat} (ih : SizeAt n) : SizeAt (n + 1) := by
  intro k a t c A m w hk hn hz hK
  obtain ⟨W, hW⟩ : ∃ W, w.alloc (.cells #[.int .u8 (k : Int), .int .i64 a, .string (str t), .slice A c.len m] 28) = W := ⟨_, rfl⟩
  have hB : Below w.heap.size w W := hW ▸ (Below.refl _ w).alloc (Nat.le_refl _) _
  have hx : W.heap[w.heap.size]? = some (.cells #[.int .u8 (k : Int), .int .i64 a, .string (str t), .slice A c.len m] 28 (0, 0)) := hW ▸ lone_new w _ _
  have hlt : w.heap.size < W.heap.size := (Array.getElem?_eq_some_iff.1 hx).1
  have HX := Lib.hid hx
  have z0 : W.cell? ⟨w.heap.size, 0, none⟩ = some (.int .u8 (k : Int)) := by rw [cell_of hx]; rfl
  have z1 : W.cell? ⟨w.heap.size, 1, none⟩ = some (.int .i64 a) := by rw [cell_of hx]; rfl
  have z2 : W.cell? ⟨w.heap.size, 2, none⟩ = some (.string (str t)) := by rw [cell_of hx]; rfl
  have z3 : W.cell? ⟨w.heap.size, 3, none⟩ = some (.slice A c.len m) := by rw [cell_of hx]; rfl
  have HB := Lib.hid hB
  have hK1 := hK.below hB
  have hB1 := Below.refl W.heap.size W
  clear hx hB hK
  go_enter Try.func11, Try.ntmps11
  have hn2 : c.siz ≤ n := by omega
  clear hn hk hlt
  go_wp2
  go_loopw [3, 9] (fun d i wr => ∃ (j dd : Nat) (R : For), d = .int .i64 (dd : Int) ∧ i = .int .i64 (j : Int) ∧ j + R.len = c.len ∧ dd + R.siz = 1 + c.siz ∧ R.siz ≤ c.siz ∧ (R = .nil ∨ ∃ b o, A = some ⟨b, o, none⟩ ∧ Nds wr R b (o + j * 4)) ∧ Below W.heap.size W wr) (fun _ i _ => c.len - (intOf i).toNat)
  case atStart =>
    refine ⟨0, 1, c, rfl, rfl, Nat.zero_add _, rfl, Nat.le_refl _, ?_, Below.refl _ _⟩
    rcases hK1 with h | ⟨b, o, h, h'⟩
    · exact .inl h
    · exact .inr ⟨b, o, h, by simpa using h'⟩
  case round =>
    obtain ⟨j, dd, R, rfl, rfl, hj, hd, hs, hR, hB⟩ := hrel
    cases R with
    | nil =>
      have hj' : j = c.len := hj
      have he : Hid (dd = 1 + c.siz) := by show _ = _; rw [← hd]; rfl
      have hdd : dd < 4611686018427387905 := by rw [he.out]; omega
      subst hj'
      have HB2 := Lib.hid (HB.out.trans (hB.mono HB.out.size))
      clear hj hd hs hR
      go_wp2
      go_ret
      exact ⟨reti (by rw [he.out]), HB2.out⟩
    | cons k' a' t' c' R =>
      rcases hR with hR | ⟨b, o, rfl, h0, h1, h2, h3, h4, h5, ⟨A', m', h6, h7⟩, h8⟩
      · cases hR
      have hlen : j < c.len := by simp only [For.len] at hj; omega
      have hcs : c'.siz < n := by simp only [For.siz] at hs; omega
      have hcz : c'.siz < 4611686018427387904 := by simp only [For.siz] at hs; omega
      have C := Lib.hid (fun w2 (h : Kds w2 c' A') => ih k' a' t' c' A' m' w2 h3 hcs hcz h)
      have H7 := Lib.hid (show Kds wr c' A' from h7)
      have H8 := Lib.hid h8
      have HB2 := Lib.hid hB
      have hdb : 1 + c'.siz < 4611686018427387904 := by simp only [For.siz] at hs; omega
      have HD := Lib.hid (show dd + (1 + c'.siz + R.siz) = 1 + c.siz from hd)
      have HJ := Lib.hid (show j + 1 + R.len = c.len by simp only [For.len] at hj; omega)
      have HS := Lib.hid (show R.siz ≤ c.siz by simp only [For.siz] at hs; omega)
      have hdd : dd < 4611686018427387905 := by have := HD.out; omega
      have hlc := For.len_siz c
      clear hd hs hj h7 h8 hB hK1
      go_wp2_with fail
      refine (C.out _ (H7.out.below ((Below.refl _ wr).alloc (Nat.le_refl _) _))).mono ?_
      rintro e w2 ⟨rfl, hb2⟩
      have HB3 := Lib.hid (HB2.out.trans ((((Below.refl _ wr).alloc (Nat.le_refl _) _).trans (hb2.mono (by simp))).mono HB2.out.size))
      have H9 := Lib.hid (H8.out.below (((Below.refl _ wr).alloc (Nat.le_refl _) _).trans (hb2.mono (by simp))))
      clear hb2
      generalize 1 + c'.siz = q at *
      go_wp2
      go_roundw
      case rel =>
        refine ⟨j + 1, dd + q, R, by congr 1 <;> omega, by go_num, HJ.out, by have := HD.out; omega, HS.out, ?_, HB3.out⟩
        exact .inr ⟨b, o, rfl, by have := H9.out; rwa [show o + j * 4 + 4 = o + (j + 1) * 4 from by omega] at this⟩
      case measure => simp [intOf]; omega
theorem size_any : ∀ n : Nat, SizeAt n
  | 0 => fun _ _ _ _ _ _ _ _ h => absurd h (Nat.not_lt_zero _)
  | n + 1 => (size_any n).step

end Go.Proofs.Ytbnlcgnpkodieaa

/- BudgetFirst. -/
import Derived.Test.YtdkdgijcoialbaaDoorBudO
import Derived.BigQuiet
import Derived.Deep.RegionHeld3
namespace Go.Proofs.YtdkdgijcoialbaaDoor
open Go.RowKit

set_option linter.unusedVariables false
set_option linter.unusedSimpArgs false

/-- a meter that may be: its numbers, and what it says -/
def Fine (m : Mt) : Prop := Good m ∧ ∀ p n, m.out = some (p, n) → (Base.used p n).ok
theorem ok_name {p : ByteArray} {n : Int} (h0 : p.toList.isEmpty = false) (h1 : p.size ≤ 1000) (a : 0 ≤ n) (b : n ≤ 1099511627776) : (Base.used p n).ok := ⟨h0, h1, by omega, by omega⟩
theorem Fine.new {s r l d : Int} (h : Bmay s r l d) : Fine (Mt.new s r l d) := ⟨Good.new h, fun p n e => by cases e⟩
theorem tell_gone {m : Mt} {c : Cl} {x : ByteArray × Int} (h0 : m.out = some x) : m.tell c = (m, 46) := by
  have e1 (n : Int) : m.pay n = (m, 46) := by unfold Mt.pay; rw [h0]
  have e2 (n : Int) : m.rows n = (m, 46) := by unfold Mt.rows; rw [h0]
  have e3 (n : Int) : m.deep n = (m, 46) := by unfold Mt.deep; rw [h0]
  unfold Mt.tell
  rw [e1, e2, e3]
  split
  · rfl
  · split <;> rfl
theorem Fine.tell {m : Mt} (h : Fine m) (c : Cl) : Fine (m.tell c).1 := by
  refine ⟨h.1.tell c, fun p n e => ?_⟩
  have hg := h.1
  unfold Good at hg
  cases h0 : m.out with
  | some x =>
    have e1 : (m.tell c).1 = m := by rw [tell_gone h0]
    rw [e1] at e
    exact h.2 p n e
  | none =>
    revert e
    unfold Mt.tell
    split
    · unfold Mt.pay
      rw [h0]
      simp only
      split
      · intro e; simp at e; obtain ⟨rfl, rfl⟩ := e; exact ok_name (by kernel_rfl) (by decide) (by omega) (by omega)
      · split
        · intro e; simp [h0] at e
        · intro e; simp at e; obtain ⟨rfl, rfl⟩ := e; exact ok_name (by kernel_rfl) (by decide) (by omega) (by omega)
    · split
      · unfold Mt.rows
        rw [h0]
        simp only
        split
        · intro e; simp [h0] at e
        · intro e; simp at e; obtain ⟨rfl, rfl⟩ := e; exact ok_name (by kernel_rfl) (by decide) (by omega) (by omega)
      · unfold Mt.deep
        rw [h0]
        simp only
        split
        · intro e; simp [h0] at e
        · intro e; simp at e; obtain ⟨rfl, rfl⟩ := e; exact ok_name (by kernel_rfl) (by decide) (by omega) (by omega)
theorem tell_cases (m : Mt) (c : Cl) : (∃ p n, m.out = some (p, n) ∧ m.tell c = (m, 46)) ∨ (m.out = none ∧ ∃ m', m.tell c = (m', 0) ∧ m'.out = none) ∨ (m.out = none ∧ ∃ m' p n, m.tell c = (m', 46) ∧ m'.out = some (p, n)) := by
  cases h0 : m.out with
  | some x =>
    left
    exact ⟨x.1, x.2, rfl, tell_gone h0⟩
  | none =>
    right
    have e1 (n : Int) : (∃ m', m.pay n = (m', 0) ∧ m'.out = none) ∨ (∃ m' p k, m.pay n = (m', 46) ∧ m'.out = some (p, k)) := by
      unfold Mt.pay; rw [h0]; simp only
      split
      · exact .inr ⟨_, _, _, rfl, rfl⟩
      · split
        · exact .inl ⟨_, rfl, rfl⟩
        · exact .inr ⟨_, _, _, rfl, rfl⟩
    have e2 (n : Int) : (∃ m', m.rows n = (m', 0) ∧ m'.out = none) ∨ (∃ m' p k, m.rows n = (m', 46) ∧ m'.out = some (p, k)) := by
      unfold Mt.rows; rw [h0]; simp only
      split
      · exact .inl ⟨_, rfl, rfl⟩
      · exact .inr ⟨_, _, _, rfl, rfl⟩
    have e3 (n : Int) : (∃ m', m.deep n = (m', 0) ∧ m'.out = none) ∨ (∃ m' p k, m.deep n = (m', 46) ∧ m'.out = some (p, k)) := by
      unfold Mt.deep; rw [h0]; simp only
      split
      · exact .inl ⟨_, rfl, rfl⟩
      · exact .inr ⟨_, _, _, rfl, rfl⟩
    have e4 : (∃ m', m.tell c = (m', 0) ∧ m'.out = none) ∨ (∃ m' p k, m.tell c = (m', 46) ∧ m'.out = some (p, k)) := by
      unfold Mt.tell
      split
      · exact e1 _
      · split
        · exact e2 _
        · exact e3 _
    rcases e4 with h | h
    · exact .inl ⟨rfl, h⟩
    · exact .inr ⟨rfl, h⟩
theorem tell_eq {g : Nat} {m m' : Mt} {c : Cl} {w : World} {r : Int} (h : MtAt g m w) (ha : AtIs w c.a) (hg : Good m) (e : m.tell c = (m', r)) :
    Calls Tryd.prog 28 #[.pointer (some ⟨g, 0, none⟩), .agg #[.int .u8 c.what, .int .u8 c.a.kind, .slice c.a.P c.a.ls.length c.a.pc, .bool c.a.n1, .slice c.a.A1 c.a.la c.a.c1, .bool c.a.n2, .slice c.a.A2 c.a.lm c.a.c2, .int .i64 c.n]] w (Paid g m' r w) := by
  have := tell_any g m c w h ha hg
  rwa [e] at this
/-- what Text says of a meter's Why -/
def Mt.text (m : Mt) : ByteArray := match m.out with
  | none => ⟨#[]⟩
  | some x => txtOf [] (.used x.1 x.2)
theorem wtext_any {m : Mt} {w : World} (hT : ErrT w) (hB : Tab w) (hf : Fine m) :
    Calls Tryd.prog 21 #[m.why] w fun e w' => e = .returned (.string m.text) ∧ Below w.heap.size w w' := by
  unfold Mt.text Mt.why
  cases h0 : m.out with
  | none => exact (text_nil w).mono fun e w' ⟨h, hw⟩ => ⟨h, hw ▸ Below.refl _ _⟩
  | some x => exact text_any hT hB (.base _) (hf.2 x.1 x.2 h0) (by simp) (by simp) (text_small (hf.2 x.1 x.2 h0))
def SpentAt (sb : Nat) (m : Mt) (w : World) : Prop := w.heap[sb]? = some (.cells #[.int .i64 m.ss, .int .i64 m.sr, .int .i64 m.sl, .int .i64 m.sd] 24 (0, 0))
theorem SpentAt.keep {g : Nat} {m : Mt} {w w' : World} (h : SpentAt g m w) (hb : Below w.heap.size w w') : SpentAt g m w' :=
  (hb.block g (Array.getElem?_eq_some_iff.1 h).1).trans h

theorem spent_store {sb : Nat} {m m' : Mt} {w : World} (h : SpentAt sb m w) : SpentAt sb m' ((((w.setCell ⟨sb, 0, none⟩ (.int .i64 m'.ss)).setCell ⟨sb, 1, none⟩ (.int .i64 m'.sr)).setCell ⟨sb, 2, none⟩ (.int .i64 m'.sl)).setCell ⟨sb, 3, none⟩ (.int .i64 m'.sd)) :=
  Joins.block_setCell (Joins.block_setCell (Joins.block_setCell (Joins.block_setCell h _) _) _) _
theorem mt_far {g sb : Nat} {m : Mt} {w : World} {a b c d : Value} (hn : sb ≠ g) (h : MtAt g m w) : MtAt g m ((((w.setCell ⟨sb, 0, none⟩ a).setCell ⟨sb, 1, none⟩ b).setCell ⟨sb, 2, none⟩ c).setCell ⟨sb, 3, none⟩ d) := by
  unfold MtAt at *
  rw [Below.heap_setCell _ _ _ _ hn.symm, Below.heap_setCell _ _ _ _ hn.symm, Below.heap_setCell _ _ _ _ hn.symm, Below.heap_setCell _ _ _ _ hn.symm]
  exact h
theorem wtext_used {m : Mt} {w : World} {p : ByteArray} {n : Int} (hT : ErrT w) (hB : Tab w) (hf : Fine m) (h0 : m.out = some (p, n)) :
    Calls Tryd.prog 21 #[.iface 78 (.agg #[.string p, .int .i64 n])] w fun e w' => e = .returned (.string m.text) ∧ Below w.heap.size w w' := by
  have := wtext_any hT hB hf
  have e : m.why = .iface 78 (.agg #[.string p, .int .i64 n]) := by unfold Mt.why; rw [h0]; rfl
  rwa [e] at this
theorem wtext_at {m : Mt} {t : ByteArray} (ht : m.text = t) {w : World} {p : ByteArray} {n : Int} (hT : ErrT w) (hB : Tab w) (hf : Fine m) (h0 : m.out = some (p, n)) :
    Calls Tryd.prog 21 #[.iface 78 (.agg #[.string p, .int .i64 n])] w fun e w' => e = .returned (.string t) ∧ Below w.heap.size w w' := ht ▸ wtext_used hT hB hf h0
theorem spent_cells {sb : Nat} {m : Mt} {w : World} (h : SpentAt sb m w) : w.cell? ⟨sb, 0, none⟩ = some (.int .i64 m.ss) ∧ w.cell? ⟨sb, 1, none⟩ = some (.int .i64 m.sr) ∧ w.cell? ⟨sb, 2, none⟩ = some (.int .i64 m.sl) ∧ w.cell? ⟨sb, 3, none⟩ = some (.int .i64 m.sd) :=
  ⟨(cell_of h 0).trans rfl, (cell_of h 1).trans rfl, (cell_of h 2).trans rfl, (cell_of h 3).trans rfl⟩
/-! ## walks -/
set_option maxRecDepth 100000 in
set_option maxHeartbeats 8000000 in
theorem first_no (s r l d : Int) (A : Option Addr) (cap : Nat) (cs : List Cl) (w : World) (hT : ErrT w) (hB : Tab w) (hc : CallsAt w A cs) (hm : ¬ Bmay s r l d) :
    Calls Tryd.prog 6 #[.agg #[.int .i64 s, .int .i64 r, .int .i64 l, .int .i64 d], .slice A cs.length cap] w fun e w' => e = .returned (.bool true) ∧ Below w.heap.size w w' := by
  obtain ⟨W, hW⟩ : ∃ W, w.alloc (.cells #[.int .i64 s, .int .i64 r, .int .i64 l, .int .i64 d] 24) = W := ⟨_, rfl⟩
  have hBW : Below w.heap.size w W := hW ▸ (Below.refl _ w).alloc (Nat.le_refl _) _
  have HX := Lib.hid (show W.heap[w.heap.size]? = some (.cells #[.int .i64 s, .int .i64 r, .int .i64 l, .int .i64 d] 24 (0, 0)) from hW ▸ lone_new w _ _)
  have HT := Lib.hid hT
  have HB := Lib.hid hB
  have HC := Lib.hid hc
  have K0 := Lib.hid hBW
  have c1 := Lib.hid (many_any A cap cs W (hc.below hBW))
  have c2 := Lib.hid (fun w1 => new_no s r l d w1 hm)
  clear hT hB hc hm hBW
  go_enter Tryd.func6, Tryd.ntmps6
  go_wp2_with fail
  (with_reducible refine c1.out.mono ?_); rintro e w' ⟨b, rfl, rfl⟩
  clear c1
  cases b
  case true =>
    go_wp2_with ((with_reducible refine (awake_any W (HT.out.keep K0.out) (HB.out.keep K0.out)).mono ?_); rintro e w1 ⟨rfl, hb⟩; have K1 := Lib.hid (K0.out.trans (hb.mono K0.out.size)); clear hb)
    go_ret
    exact ⟨rfl, K1.out⟩
  case false =>
    go_wp2_with (first
      | ((with_reducible refine (awake_any W (HT.out.keep K0.out) (HB.out.keep K0.out)).mono ?_); rintro e w1 ⟨rfl, hb⟩; have K1 := Lib.hid (K0.out.trans (hb.mono K0.out.size)); have h1 := (hb.block _ (Array.getElem?_eq_some_iff.1 HX.out).1).trans HX.out; have qx0 : w1.cell? ⟨w.heap.size, 0, none⟩ = some (.int .i64 s) := (cell_of h1 0).trans rfl; have qx1 : w1.cell? ⟨w.heap.size, 1, none⟩ = some (.int .i64 r) := (cell_of h1 1).trans rfl; have qx2 : w1.cell? ⟨w.heap.size, 2, none⟩ = some (.int .i64 l) := (cell_of h1 2).trans rfl; have qx3 : w1.cell? ⟨w.heap.size, 3, none⟩ = some (.int .i64 d) := (cell_of h1 3).trans rfl; clear hb h1)
      | ((with_reducible refine (c2.out w1).mono ?_); rintro e w2 ⟨rfl, hb⟩; have K2 := Lib.hid (K1.out.trans (hb.mono K1.out.size)); clear hb))
    go_loopw [10] (fun i wr => i = .int .i64 0 ∧ w2.alloc (.cells #[.int .i64 0, .int .i64 0, .int .i64 0, .int .i64 0] 24) = wr) (fun _ _ => 0)
    case atStart => exact ⟨rfl, rfl⟩
    case round =>
      obtain ⟨rfl, rfl⟩ := hrel
      go_wp2
      all_goals
        go_ret
        exact ⟨rfl, K2.out.alloc K2.out.size _⟩
set_option maxRecDepth 100000 in
set_option maxHeartbeats 8000000 in
theorem first_yes (s r l d : Int) (A : Option Addr) (cap : Nat) (cs : List Cl) (w : World) (hT : ErrT w) (hB : Tab w) (hc : CallsAt w A cs) (hm : Bmay s r l d) :
    Calls Tryd.prog 6 #[.agg #[.int .i64 s, .int .i64 r, .int .i64 l, .int .i64 d], .slice A cs.length cap] w fun e w' => e = .returned (.bool true) ∧ Below w.heap.size w w' := by
  obtain ⟨W, hW⟩ : ∃ W, w.alloc (.cells #[.int .i64 s, .int .i64 r, .int .i64 l, .int .i64 d] 24) = W := ⟨_, rfl⟩
  have hBW : Below w.heap.size w W := hW ▸ (Below.refl _ w).alloc (Nat.le_refl _) _
  have HX := Lib.hid (show W.heap[w.heap.size]? = some (.cells #[.int .i64 s, .int .i64 r, .int .i64 l, .int .i64 d] 24 (0, 0)) from hW ▸ lone_new w _ _)
  have HT := Lib.hid hT
  have HB := Lib.hid hB
  have HC := Lib.hid hc
  have K0 := Lib.hid hBW
  have c1 := Lib.hid (many_any A cap cs W (hc.below hBW))
  have c2 := Lib.hid (fun w1 => new_yes s r l d w1 hm)
  have HF := Lib.hid (Fine.new hm)
  clear hT hB hc hm hBW
  go_enter Tryd.func6, Tryd.ntmps6
  go_wp2_with fail
  (with_reducible refine c1.out.mono ?_); rintro e w' ⟨b, rfl, rfl⟩
  clear c1
  cases b
  case true =>
    go_wp2_with ((with_reducible refine (awake_any W (HT.out.keep K0.out) (HB.out.keep K0.out)).mono ?_); rintro e w1 ⟨rfl, hb⟩; have K1 := Lib.hid (K0.out.trans (hb.mono K0.out.size)); clear hb)
    go_ret
    exact ⟨rfl, K1.out⟩
  case false =>
    go_wp2_with (first
      | ((with_reducible refine (awake_any W (HT.out.keep K0.out) (HB.out.keep K0.out)).mono ?_); rintro e w1 ⟨rfl, hb⟩; have K1 := Lib.hid (K0.out.trans (hb.mono K0.out.size)); have h1 := (hb.block _ (Array.getElem?_eq_some_iff.1 HX.out).1).trans HX.out; have qx0 : w1.cell? ⟨w.heap.size, 0, none⟩ = some (.int .i64 s) := (cell_of h1 0).trans rfl; have qx1 : w1.cell? ⟨w.heap.size, 1, none⟩ = some (.int .i64 r) := (cell_of h1 1).trans rfl; have qx2 : w1.cell? ⟨w.heap.size, 2, none⟩ = some (.int .i64 l) := (cell_of h1 2).trans rfl; have qx3 : w1.cell? ⟨w.heap.size, 3, none⟩ = some (.int .i64 d) := (cell_of h1 3).trans rfl; clear hb h1)
      | ((with_reducible refine (c2.out w1).mono ?_); rintro e w2 ⟨g, hg, rfl, hm, hb⟩; have HG := Lib.hid (Nat.le_trans K1.out.size hg); have M2 := Lib.hid hm; have K2 := Lib.hid (K1.out.trans (hb.mono K1.out.size)); clear hb hm hg))
    obtain ⟨w3, h3⟩ : ∃ w3, w3 = w2.alloc (.cells #[.int .i64 0, .int .i64 0, .int .i64 0, .int .i64 0] 24) := ⟨_, rfl⟩
    have K3 := Lib.hid (show Below w.heap.size w w3 from h3 ▸ K2.out.alloc K2.out.size _)
    have M3 := Lib.hid (show MtAt g (Mt.new s r l d) w3 from h3 ▸ M2.out.keep ((Below.refl _ w2).alloc (Nat.le_refl _) _))
    have S3 := Lib.hid (show SpentAt w2.heap.size (Mt.new s r l d) w3 from h3 ▸ lone_new w2 _ _)
    have HN := Lib.hid (show w2.heap.size ≠ g from fun e => by have := M2.out.lt; omega)
    have HS := Lib.hid (show w.heap.size ≤ w2.heap.size from K2.out.size)
    rw [← h3]
    clear h3 c2
    generalize w2.heap.size = sb at *
    have HO0 := Lib.hid (show (Mt.new s r l d).out = none from rfl)
    generalize Mt.new s r l d = m0 at *
    clear M2 K2 K1 qx0 qx1 qx2 qx3 HX K0 hW
    go_loopw [7, 9, 10] (fun out why i wr => ∃ (k : Nat) (m : Mt), k ≤ cs.length ∧ i = .int .i64 (k : Int) ∧ Fine m ∧ MtAt g m wr ∧ SpentAt sb m wr ∧ out = .bool m.out.isSome ∧ why = .string m.text ∧ Below w.heap.size w wr) (fun _ _ i _ => (cs.length - numOf i).toNat)
    case atStart => exact ⟨0, m0, Nat.zero_le _, rfl, HF.out, M3.out, S3.out, by rw [HO0.out]; rfl, by unfold Mt.text; rw [HO0.out], K3.out⟩
    case round =>
      obtain ⟨k, m, hk, rfl, hf, hm, hs, rfl, rfl, hb⟩ := hrel
      have F := Lib.hid hf
      have M := Lib.hid hm
      have S := Lib.hid hs
      have K := Lib.hid hb
      clear HF M3 S3 K3 HO0 hf hm hs hb
      rcases Nat.lt_or_ge k cs.length with hlt | hge
      · obtain ⟨b, off, rfl, hb, hc⟩ := (HC.out.below K.out).2 (by omega)
        obtain ⟨⟨d0, d1, d2, d3, d4, d5, d6, d7⟩, ha⟩ := hc k cs[k] (List.getElem?_eq_getElem hlt)
        have HA := Lib.hid ha
        obtain ⟨k1, hk1⟩ : ∃ k1 : Nat, wrap64 ((k : Int) + 1) = (k1 : Int) ∧ k1 = k + 1 := ⟨k + 1, by have := HC.out.1; unfold wrap64; omega, rfl⟩
        have HK1 := Lib.hid hk1.2
        replace hk1 := hk1.1
        clear hc ha
        generalize cs[k] = c at *
        have hft := Lib.hid (F.out.tell c)
        rcases tell_cases m c with ⟨p, n, e0, e1⟩ | ⟨e0, m', e1, e2⟩ | ⟨e0, m', p, n, e1, e2⟩
        · have t1 := Lib.hid (tell_eq M.out HA.out F.out.1 e1)
          have E2 := Lib.hid e0
          have ho : m.out.isSome = true := by rw [e0]; rfl
          rw [ho]
          clear e0 e1 hft HA ho
          obtain ⟨what, ⟨kind, P, pc, n1, A1, la, cc1, n2, A2, lm, cc2, ls⟩, nn⟩ := c
          simp only at d0 d1 d2 d3 d4 d5 d6 d7 t1
          generalize hnl : cs.length = nl at *
          obtain ⟨txt, htxt⟩ : ∃ t, m.text = t := ⟨_, rfl⟩
          have HTX := Lib.hid htxt
          rw [htxt]
          clear htxt
          go_wp2_with ((with_reducible refine t1.out.mono ?_); rintro e w4 ⟨rfl, hm4, hj4⟩; have M4 := Lib.hid hm4; have J4 := Lib.hid hj4; clear hm4 hj4)
          have hs4 : SpentAt sb m w4 := (J4.out.block sb (Array.getElem?_eq_some_iff.1 S.out).1 HN.out).trans S.out
          have M5 := Lib.hid (show MtAt g m w4.drew from M4.out)
          have S5 := Lib.hid (show SpentAt sb m w4.drew from hs4)
          have K5 := Lib.hid (show Below w.heap.size w w4.drew from (K.out.trans (J4.out.below HG.out K.out.size)).drew)
          have s0 := spent_cells S5.out
          clear hs4 M4 J4
          go_region_held3 (fun w' => w'.cell? ⟨sb, 0, none⟩ = some (.int .i64 m.ss) ∧ w'.cell? ⟨sb, 1, none⟩ = some (.int .i64 m.sr) ∧ w'.cell? ⟨sb, 2, none⟩ = some (.int .i64 m.sl) ∧ w'.cell? ⟨sb, 3, none⟩ = some (.int .i64 m.sd)) (first | exact s0 | exact s1 | exact s2) (first
            | (go_at_call 15; (with_reducible refine (spent_any g m w4.drew M5.out).mono ?_); rintro e w5 ⟨rfl, hb⟩; have K6 := Lib.hid (K5.out.trans (hb.mono K5.out.size)); have M6 := Lib.hid (M5.out.keep hb); have S6 := Lib.hid (S5.out.keep hb); have s1 := spent_cells S6.out; clear hb)
            | (go_at_call 16; (with_reducible refine (why_used M6.out E2.out).mono ?_); rintro e w' ⟨rfl, rfl⟩)
            | (go_at_call 21; (with_reducible refine (wtext_at HTX.out (HT.out.keep K6.out) (HB.out.keep K6.out) F.out E2.out).mono ?_); rintro e w6 ⟨rfl, hb⟩; have K7 := Lib.hid (K6.out.trans (hb.mono K6.out.size)); have M7 := Lib.hid (M6.out.keep hb); have S7 := Lib.hid (S6.out.keep hb); have s2 := spent_cells S7.out; clear hb))
          go_wp2_with (first
            | ((with_reducible refine (why_used M7.out E2.out).mono ?_); rintro e w' ⟨rfl, rfl⟩)
            | ((with_reducible refine (spent_any g m w6 M7.out).mono ?_); rintro e w7 ⟨rfl, hb⟩; have K8 := Lib.hid (K7.out.trans (hb.mono K7.out.size)); have M8 := Lib.hid (M7.out.keep hb); have S8 := Lib.hid (S7.out.keep hb); clear hb)
            | ((with_reducible refine (why_used M8.out E2.out).mono ?_); rintro e w' ⟨rfl, rfl⟩)
            | ((with_reducible refine (wtext_at HTX.out (HT.out.keep K8.out) (HB.out.keep K8.out) F.out E2.out).mono ?_); rintro e w8 ⟨rfl, hb⟩; have K9 := Lib.hid (K8.out.trans (hb.mono K8.out.size)); have M9 := Lib.hid (M8.out.keep hb); have S9 := Lib.hid (S8.out.keep hb); have y0 : w8.cell? ⟨sb, 0, none⟩ = some (.int .i64 m.ss) := (cell_of S9.out 0).trans rfl; have z0 := frozen_of S9.out 0; have y1 : w8.cell? ⟨sb, 1, none⟩ = some (.int .i64 m.sr) := (cell_of S9.out 1).trans rfl; have z1 := frozen_of S9.out 1; have y2 : w8.cell? ⟨sb, 2, none⟩ = some (.int .i64 m.sl) := (cell_of S9.out 2).trans rfl; have z2 := frozen_of S9.out 2; have y3 : w8.cell? ⟨sb, 3, none⟩ = some (.int .i64 m.sd) := (cell_of S9.out 3).trans rfl; have z3 := frozen_of S9.out 3; clear hb))
          refine ⟨⟨k1, m, by have := HK1.out; omega, by rw [hk1], F.out, ?_, ?_, by rw [E2.out]; rfl, by rw [HTX.out], ?_⟩, ?_⟩
          · exact mt_far HN.out M9.out
          · exact spent_store S9.out
          · exact below_at HS.out (below_at HS.out (below_at HS.out (below_at HS.out K9.out)))
          · rw [hk1]; have := HK1.out; simp only [numOf]; omega
        · have t1 := Lib.hid (tell_eq M.out HA.out F.out.1 e1)
          have F' := Lib.hid (show Fine m' by have := hft.out; rwa [e1] at this)
          have E2 := Lib.hid e2
          rw [e0]
          clear e0 e1 e2 hft HA
          obtain ⟨what, ⟨kind, P, pc, n1, A1, la, cc1, n2, A2, lm, cc2, ls⟩, n⟩ := c
          simp only at d0 d1 d2 d3 d4 d5 d6 d7 t1
          simp only [Option.isSome_none]
          generalize hnl : cs.length = nl at *
          go_wp2_with ((with_reducible refine t1.out.mono ?_); rintro e w4 ⟨rfl, hm4, hj4⟩; have M4 := Lib.hid hm4; have J4 := Lib.hid hj4; clear hm4 hj4)
          have hs4 : SpentAt sb m w4 := (J4.out.block sb (Array.getElem?_eq_some_iff.1 S.out).1 HN.out).trans S.out
          go_quiet (fail)
          obtain ⟨w5, hw5⟩ : ∃ x, x = w4.drewN nq := ⟨_, rfl⟩
          rw [← hw5]
          have M5 := Lib.hid (show MtAt g m' w5 from hw5 ▸ M4.out)
          have S5 := Lib.hid (show SpentAt sb m w5 from hw5 ▸ hs4)
          have K5 := Lib.hid (show Below w.heap.size w w5 from hw5 ▸ ((K.out.trans (J4.out.below HG.out K.out.size)).trans (Joins.below_draws _ _ _)))
          clear hw5 hs4 M4 J4
          go_wp2_with (first
            | ((with_reducible refine (why_none M5.out E2.out).mono ?_); rintro e w' ⟨rfl, rfl⟩)
            | ((with_reducible refine (spent_any g m' w5 M5.out).mono ?_); rintro e w6 ⟨rfl, hb⟩; have K6 := Lib.hid (K5.out.trans (hb.mono K5.out.size)); have M6 := Lib.hid (M5.out.keep hb); have S6 := Lib.hid (S5.out.keep hb); have y0 : w6.cell? ⟨sb, 0, none⟩ = some (.int .i64 m.ss) := (cell_of S6.out 0).trans rfl; have z0 := frozen_of S6.out 0; have y1 : w6.cell? ⟨sb, 1, none⟩ = some (.int .i64 m.sr) := (cell_of S6.out 1).trans rfl; have z1 := frozen_of S6.out 1; have y2 : w6.cell? ⟨sb, 2, none⟩ = some (.int .i64 m.sl) := (cell_of S6.out 2).trans rfl; have z2 := frozen_of S6.out 2; have y3 : w6.cell? ⟨sb, 3, none⟩ = some (.int .i64 m.sd) := (cell_of S6.out 3).trans rfl; have z3 := frozen_of S6.out 3; clear hb)
            | ((with_reducible refine (why_none M6.out E2.out).mono ?_); rintro e w' ⟨rfl, rfl⟩)
            | ((with_reducible refine (text_nil w6).mono ?_); rintro e w' ⟨rfl, rfl⟩))
          refine ⟨⟨k1, m', by have := HK1.out; omega, by rw [hk1], F'.out, ?_, ?_, by rw [E2.out]; rfl, by unfold Mt.text; rw [E2.out], ?_⟩, ?_⟩
          · exact mt_far HN.out M6.out
          · exact spent_store S6.out
          · exact below_at HS.out (below_at HS.out (below_at HS.out (below_at HS.out K6.out)))
          · rw [hk1]; have := HK1.out; simp only [numOf]; omega
        · have t1 := Lib.hid (tell_eq M.out HA.out F.out.1 e1)
          have F' := Lib.hid (show Fine m' by have := hft.out; rwa [e1] at this)
          have E2 := Lib.hid e2
          rw [e0]
          clear e0 e1 e2 hft HA
          obtain ⟨what, ⟨kind, P, pc, n1, A1, la, cc1, n2, A2, lm, cc2, ls⟩, nn⟩ := c
          simp only at d0 d1 d2 d3 d4 d5 d6 d7 t1
          simp only [Option.isSome_none]
          generalize hnl : cs.length = nl at *
          go_wp2_with ((with_reducible refine t1.out.mono ?_); rintro e w4 ⟨rfl, hm4, hj4⟩; have M4 := Lib.hid hm4; have J4 := Lib.hid hj4; clear hm4 hj4)
          have hs4 : SpentAt sb m w4 := (J4.out.block sb (Array.getElem?_eq_some_iff.1 S.out).1 HN.out).trans S.out
          go_quiet (fail)
          obtain ⟨w5, hw5⟩ : ∃ x, x = w4.drewN nq := ⟨_, rfl⟩
          rw [← hw5]
          have M5 := Lib.hid (show MtAt g m' w5 from hw5 ▸ M4.out)
          have S5 := Lib.hid (show SpentAt sb m w5 from hw5 ▸ hs4)
          have K5 := Lib.hid (show Below w.heap.size w w5 from hw5 ▸ ((K.out.trans (J4.out.below HG.out K.out.size)).trans (Joins.below_draws _ _ _)))
          clear hw5 hs4 M4 J4
          go_wp2_with (first
            | ((with_reducible refine (why_used M5.out E2.out).mono ?_); rintro e w' ⟨rfl, rfl⟩)
            | ((with_reducible refine (spent_any g m' w5 M5.out).mono ?_); rintro e w6 ⟨rfl, hb⟩; have K6 := Lib.hid (K5.out.trans (hb.mono K5.out.size)); have M6 := Lib.hid (M5.out.keep hb); have S6 := Lib.hid (S5.out.keep hb); clear hb)
            | ((with_reducible refine (why_used M6.out E2.out).mono ?_); rintro e w' ⟨rfl, rfl⟩)
            | ((with_reducible refine (wtext_used (HT.out.keep K6.out) (HB.out.keep K6.out) F'.out E2.out).mono ?_); rintro e w7 ⟨rfl, hb⟩; have K7 := Lib.hid (K6.out.trans (hb.mono K6.out.size)); have M7 := Lib.hid (M6.out.keep hb); have S7 := Lib.hid (S6.out.keep hb); have y0 : w7.cell? ⟨sb, 0, none⟩ = some (.int .i64 m.ss) := (cell_of S7.out 0).trans rfl; have z0 := frozen_of S7.out 0; have y1 : w7.cell? ⟨sb, 1, none⟩ = some (.int .i64 m.sr) := (cell_of S7.out 1).trans rfl; have z1 := frozen_of S7.out 1; have y2 : w7.cell? ⟨sb, 2, none⟩ = some (.int .i64 m.sl) := (cell_of S7.out 2).trans rfl; have z2 := frozen_of S7.out 2; have y3 : w7.cell? ⟨sb, 3, none⟩ = some (.int .i64 m.sd) := (cell_of S7.out 3).trans rfl; have z3 := frozen_of S7.out 3; clear hb))
          refine ⟨⟨k1, m', by have := HK1.out; omega, by rw [hk1], F'.out, ?_, ?_, by rw [E2.out]; rfl, rfl, ?_⟩, ?_⟩
          · exact mt_far HN.out M7.out
          · exact spent_store S7.out
          · exact below_at HS.out (below_at HS.out (below_at HS.out (below_at HS.out K7.out)))
          · rw [hk1]; have := HK1.out; simp only [numOf]; omega
      · go_wp2
        go_ret
        exact ⟨rfl, K.out⟩
theorem first_law (s r l d : Int) (A : Option Addr) (cap : Nat) (cs : List Cl) (w : World) (hT : ErrT w) (hB : Tab w) (hc : CallsAt w A cs) :
    Calls Tryd.prog 6 #[.agg #[.int .i64 s, .int .i64 r, .int .i64 l, .int .i64 d], .slice A cs.length cap] w fun e w' => e = .returned (.bool true) ∧ Below w.heap.size w w' := by
  by_cases hm : Bmay s r l d
  · exact first_yes s r l d A cap cs w hT hB hc hm
  · exact first_no s r l d A cap cs w hT hB hc hm
end Go.Proofs.YtdkdgijcoialbaaDoor

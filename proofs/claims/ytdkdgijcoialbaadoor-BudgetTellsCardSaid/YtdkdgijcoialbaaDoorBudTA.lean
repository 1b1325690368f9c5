/- BudgetTells (mkbudt.py). -/
import Derived.Test.YtdkdgijcoialbaaDoorBudZ
import Derived.Deep.RegionWith
import Derived.Deep.RegionHeld3
namespace Go.Proofs.YtdkdgijcoialbaaDoor
open Go.RowKit

set_option linter.unusedVariables false
set_option linter.unusedSimpArgs false

theorem OutIs.tell {m : Mt} (h : OutIs m) (c : Cl) : OutIs (m.tell c).1 := by
  cases h0 : m.out with
  | some x => rw [tell_gone h0]; exact h
  | none =>
    have e1 (n : Int) : OutIs (m.pay n).1 := by
      unfold Mt.pay; rw [h0]; simp only
      split
      · exact .inr (.inl rfl)
      · split
        · exact .inl rfl
        · exact .inr (.inr (.inr (.inl rfl)))
    have e2 (n : Int) : OutIs (m.rows n).1 := by
      unfold Mt.rows; rw [h0]; simp only
      split
      · exact .inl rfl
      · exact .inr (.inr (.inl rfl))
    have e3 (n : Int) : OutIs (m.deep n).1 := by
      unfold Mt.deep; rw [h0]; simp only
      split
      · exact .inl rfl
      · exact .inr (.inr (.inr (.inr rfl)))
    unfold Mt.tell
    split
    · exact e1 _
    · split
      · exact e2 _
      · exact e3 _
theorem out_bound {m : Mt} (ho : OutIs m) (hg : Good m) {p : ByteArray} {n : Int} (h0 : m.out = some (p, n)) : 0 ≤ n ∧ n ≤ 1099511627776 := by
  unfold Good at hg
  rcases ho with e | e | e | e | e <;> rw [h0] at e <;> simp at e <;> obtain ⟨rfl, rfl⟩ := e <;> omega
theorem rpay_eq {g : Nat} {m m' : Mt} {a : At} {w : World} {n r : Int} (h : RAt g m w) (ha : AtIs w a) (hf : Fine m) (hn : (a.most : Int) = n) (e : m.pay n = (m', r)) :
    Calls Tryd.prog 25 #[.pointer (some ⟨g, 0, none⟩), .agg #[.int .u8 a.kind, .slice a.P a.ls.length a.pc, .bool a.n1, .slice a.A1 a.la a.c1, .bool a.n2, .slice a.A2 a.lm a.c2]] w (RPaid g m' r w) := by
  have := rpay_any g m a w h ha hf n hn
  rwa [e] at this
theorem rrows_eq {g : Nat} {m m' : Mt} {w : World} {n r : Int} (h : RAt g m w) (hf : Fine m) (e : m.rows n = (m', r)) :
    Calls Tryd.prog 26 #[.pointer (some ⟨g, 0, none⟩), .int .i64 n] w (RPaid g m' r w) := by
  have := rrows_any g m n w h hf
  rwa [e] at this
theorem rdeep_eq {g : Nat} {m m' : Mt} {w : World} {n r : Int} (h : RAt g m w) (hf : Fine m) (e : m.deep n = (m', r)) :
    Calls Tryd.prog 27 #[.pointer (some ⟨g, 0, none⟩), .int .i64 n] w (RPaid g m' r w) := by
  have := rdeep_any g m n w h hf
  rwa [e] at this
theorem mayb_true {s r l d : Int} (w : World) (h : Bmay s r l d) :
    Calls Tryd.prog 9 #[.agg #[.int .i64 s, .int .i64 r, .int .i64 l, .int .i64 d]] w fun e w' => e = .returned (.bool true) ∧ Below w.heap.size w w' := by
  have := may_any s r l d w
  rwa [decide_eq_true h] at this
theorem mayb_false {s r l d : Int} (w : World) (h : ¬ Bmay s r l d) :
    Calls Tryd.prog 9 #[.agg #[.int .i64 s, .int .i64 r, .int .i64 l, .int .i64 d]] w fun e w' => e = .returned (.bool false) ∧ Below w.heap.size w w' := by
  have := may_any s r l d w
  rwa [decide_eq_false h] at this
/-- what Text says of none wrapped words around it -/
theorem rtext0 {g : Nat} {m : Mt} {w : World} {p : ByteArray} {n : Int} {t : ByteArray} (h : RAt g m w) (hf : Fine m) (ho : OutIs m) (h0 : m.out = some (p, n)) (ht : m.text = t) :
    Calls Tryd.prog 30 #[.pointer (some ⟨g, 0, none⟩), .slice none 0 0] w fun e w' => e = .returned (.string t) ∧ Below w.heap.size w w' := by
  have := rtext_any g m w h hf ho p n h0 (out_bound ho hf.1 h0) none 0 [] (fun h => absurd h (by simp)) (by simp) (by simp)
  have e : txtOf ([] : List ByteArray).reverse (.used p n) = t := by rw [← ht]; unfold Mt.text; rw [h0]; rfl
  rw [e] at this
  exact this
def Cells8 (w : World) (b o : Nat) (c : Cl) : Prop := ClAt w b o c
set_option maxRecDepth 100000 in
set_option maxHeartbeats 16000000 in
theorem tells_no (s r l d : Int) (A : Option Addr) (cap : Nat) (cs : List Cl) (w : World) (hT : ErrT w) (hB : Tab w) (hc : CallsAt w A cs) (hm : ¬ Bmay s r l d) :
    Calls Tryd.prog 4 #[.agg #[.int .i64 s, .int .i64 r, .int .i64 l, .int .i64 d], .slice A cs.length cap] w fun e w' => e = .returned (.bool true) ∧ Below w.heap.size w w' := by
  obtain ⟨W, hW⟩ : ∃ W, w.alloc (.cells #[.int .i64 s, .int .i64 r, .int .i64 l, .int .i64 d] 24) = W := ⟨_, rfl⟩
  have K0 := Lib.hid (show Below w.heap.size w W from hW ▸ (Below.refl _ w).alloc (Nat.le_refl _) _)
  have XB := Lib.hid (show W.heap[w.heap.size]? = some (.cells #[.int .i64 s, .int .i64 r, .int .i64 l, .int .i64 d] 24 (0, 0)) from hW ▸ lone_new w _ _)
  have XL := Lib.hid (Array.getElem?_eq_some_iff.1 XB.out).1
  have z0 := (cell_of XB.out 0).trans rfl
  have q0 : W.cell? ⟨w.heap.size, 0, none⟩ = some (.int .i64 s) := (cell_of XB.out 0).trans rfl
  have q1 : W.cell? ⟨w.heap.size, 1, none⟩ = some (.int .i64 r) := (cell_of XB.out 1).trans rfl
  have q2 : W.cell? ⟨w.heap.size, 2, none⟩ = some (.int .i64 l) := (cell_of XB.out 2).trans rfl
  have q3 : W.cell? ⟨w.heap.size, 3, none⟩ = some (.int .i64 d) := (cell_of XB.out 3).trans rfl
  have HT := Lib.hid (hT.keep K0.out)
  have HB := Lib.hid (hB.keep K0.out)
  have HC := Lib.hid (hc.below K0.out)
  have c1 := Lib.hid (many_any A cap cs W HC.out)
  have HM := Lib.hid hm
  clear hT hB hc hm z0
  go_enter Tryd.func4, Tryd.ntmps4
  go_wp2_with fail
  (with_reducible refine c1.out.mono ?_); rintro e w' ⟨b, rfl, rfl⟩
  clear c1
  cases b
  case true =>
    go_wp2_with ((with_reducible refine (awake_any W HT.out HB.out).mono ?_); rintro e w1 ⟨rfl, hb⟩; have K1 := Lib.hid hb; clear hb)
    go_ret
    exact ⟨rfl, K0.out.trans (K1.out.mono K0.out.size)⟩
  case false =>
    go_wp2_with (first
      | ((with_reducible refine (new_no s r l d W HM.out).mono ?_); rintro e w1 ⟨rfl, hb⟩; have K1 := Lib.hid hb; clear hb; have hb0 := (K1.out.block _ XL.out).trans XB.out; have qw10 : w1.cell? ⟨w.heap.size, 0, none⟩ = some (.int .i64 s) := (cell_of hb0 0).trans rfl; have qw11 : w1.cell? ⟨w.heap.size, 1, none⟩ = some (.int .i64 r) := (cell_of hb0 1).trans rfl; have qw12 : w1.cell? ⟨w.heap.size, 2, none⟩ = some (.int .i64 l) := (cell_of hb0 2).trans rfl; have qw13 : w1.cell? ⟨w.heap.size, 3, none⟩ = some (.int .i64 d) := (cell_of hb0 3).trans rfl; clear hb0)
      | ((with_reducible refine (rnew_no s r l d w1 HM.out).mono ?_); rintro e w2 ⟨rfl, hb⟩; have K2 := Lib.hid (K1.out.trans (hb.mono K1.out.size)); clear hb))
    have K3 := Lib.hid K2.out.drew
    have hb0 := (K3.out.block _ XL.out).trans XB.out; have s0 : w2.drew.cell? ⟨w.heap.size, 0, none⟩ = some (.int .i64 s) ∧ w2.drew.cell? ⟨w.heap.size, 1, none⟩ = some (.int .i64 r) ∧ w2.drew.cell? ⟨w.heap.size, 2, none⟩ = some (.int .i64 l) ∧ w2.drew.cell? ⟨w.heap.size, 3, none⟩ = some (.int .i64 d) := ⟨(cell_of hb0 0).trans rfl, (cell_of hb0 1).trans rfl, (cell_of hb0 2).trans rfl, (cell_of hb0 3).trans rfl⟩; clear hb0
    go_region_held3 (fun w' => w'.cell? ⟨w.heap.size, 0, none⟩ = some (.int .i64 s) ∧ w'.cell? ⟨w.heap.size, 1, none⟩ = some (.int .i64 r) ∧ w'.cell? ⟨w.heap.size, 2, none⟩ = some (.int .i64 l) ∧ w'.cell? ⟨w.heap.size, 3, none⟩ = some (.int .i64 d)) (first | exact s0 | exact s1 | exact s2) (first
      | (go_at_call 9; (with_reducible refine (mayb_false w2.drew HM.out).mono ?_); rintro e w3 ⟨rfl, hb⟩; have K4 := Lib.hid (K3.out.trans (hb.mono K3.out.size)); clear hb; have hb0 := (K4.out.block _ XL.out).trans XB.out; have s1 : w3.cell? ⟨w.heap.size, 0, none⟩ = some (.int .i64 s) ∧ w3.cell? ⟨w.heap.size, 1, none⟩ = some (.int .i64 r) ∧ w3.cell? ⟨w.heap.size, 2, none⟩ = some (.int .i64 l) ∧ w3.cell? ⟨w.heap.size, 3, none⟩ = some (.int .i64 d) := ⟨(cell_of hb0 0).trans rfl, (cell_of hb0 1).trans rfl, (cell_of hb0 2).trans rfl, (cell_of hb0 3).trans rfl⟩; clear hb0)
      | (go_at_call 24; (with_reducible refine (rmay_no s r l d w3 HM.out).mono ?_); rintro e w4 ⟨rfl, hb⟩; have K5 := Lib.hid (K4.out.trans (hb.mono K4.out.size)); clear hb; have hb0 := (K5.out.block _ XL.out).trans XB.out; have s2 : w4.cell? ⟨w.heap.size, 0, none⟩ = some (.int .i64 s) ∧ w4.cell? ⟨w.heap.size, 1, none⟩ = some (.int .i64 r) ∧ w4.cell? ⟨w.heap.size, 2, none⟩ = some (.int .i64 l) ∧ w4.cell? ⟨w.heap.size, 3, none⟩ = some (.int .i64 d) := ⟨(cell_of hb0 0).trans rfl, (cell_of hb0 1).trans rfl, (cell_of hb0 2).trans rfl, (cell_of hb0 3).trans rfl⟩; clear hb0))
    go_wp2
    go_loopw [9] (fun i wr => i = .int .i64 0 ∧ w4 = wr) (fun _ _ => 0)
    case atStart => exact ⟨rfl, rfl⟩
    case round =>
      obtain ⟨rfl, rfl⟩ := hrel
      go_wp2_with ((with_reducible refine (awake_any w4 (HT.out.keep K5.out) (HB.out.keep K5.out)).mono ?_); rintro e w5 ⟨rfl, hb⟩; have K6 := Lib.hid (K5.out.trans (hb.mono K5.out.size)); clear hb)
      all_goals
        go_ret
        exact ⟨rfl, K0.out.trans (K6.out.mono K0.out.size)⟩
set_option maxRecDepth 100000 in
set_option maxHeartbeats 16000000 in
theorem tells_yes (s r l d : Int) (A : Option Addr) (cap : Nat) (cs : List Cl) (w : World) (hT : ErrT w) (hB : Tab w) (hc : CallsAt w A cs) (hm : Bmay s r l d) :
    Calls Tryd.prog 4 #[.agg #[.int .i64 s, .int .i64 r, .int .i64 l, .int .i64 d], .slice A cs.length cap] w fun e w' => e = .returned (.bool true) ∧ Below w.heap.size w w' := by
  obtain ⟨W, hW⟩ : ∃ W, w.alloc (.cells #[.int .i64 s, .int .i64 r, .int .i64 l, .int .i64 d] 24) = W := ⟨_, rfl⟩
  have K0 := Lib.hid (show Below w.heap.size w W from hW ▸ (Below.refl _ w).alloc (Nat.le_refl _) _)
  have XB := Lib.hid (show W.heap[w.heap.size]? = some (.cells #[.int .i64 s, .int .i64 r, .int .i64 l, .int .i64 d] 24 (0, 0)) from hW ▸ lone_new w _ _)
  have XL := Lib.hid (Array.getElem?_eq_some_iff.1 XB.out).1
  have z0 := (cell_of XB.out 0).trans rfl
  have q0 : W.cell? ⟨w.heap.size, 0, none⟩ = some (.int .i64 s) := (cell_of XB.out 0).trans rfl
  have q1 : W.cell? ⟨w.heap.size, 1, none⟩ = some (.int .i64 r) := (cell_of XB.out 1).trans rfl
  have q2 : W.cell? ⟨w.heap.size, 2, none⟩ = some (.int .i64 l) := (cell_of XB.out 2).trans rfl
  have q3 : W.cell? ⟨w.heap.size, 3, none⟩ = some (.int .i64 d) := (cell_of XB.out 3).trans rfl
  have HT := Lib.hid (hT.keep K0.out)
  have HB := Lib.hid (hB.keep K0.out)
  have HC := Lib.hid (hc.below K0.out)
  have c1 := Lib.hid (many_any A cap cs W HC.out)
  have HM := Lib.hid hm
  clear hT hB hc hm z0
  go_enter Tryd.func4, Tryd.ntmps4
  go_wp2_with fail
  (with_reducible refine c1.out.mono ?_); rintro e w' ⟨b, rfl, rfl⟩
  clear c1
  cases b
  case true =>
    go_wp2_with ((with_reducible refine (awake_any W HT.out HB.out).mono ?_); rintro e w1 ⟨rfl, hb⟩; have K1 := Lib.hid hb; clear hb)
    go_ret
    exact ⟨rfl, K0.out.trans (K1.out.mono K0.out.size)⟩
  case false =>
    go_wp2_with (first
      | ((with_reducible refine (new_yes s r l d W HM.out).mono ?_); rintro e w1 ⟨g, hg, rfl, hm, hb⟩; have GW := Lib.hid hg; have M1 := Lib.hid hm; have K1 := Lib.hid hb; clear hb hg hm; have hb0 := (K1.out.block _ XL.out).trans XB.out; have qw10 : w1.cell? ⟨w.heap.size, 0, none⟩ = some (.int .i64 s) := (cell_of hb0 0).trans rfl; have qw11 : w1.cell? ⟨w.heap.size, 1, none⟩ = some (.int .i64 r) := (cell_of hb0 1).trans rfl; have qw12 : w1.cell? ⟨w.heap.size, 2, none⟩ = some (.int .i64 l) := (cell_of hb0 2).trans rfl; have qw13 : w1.cell? ⟨w.heap.size, 3, none⟩ = some (.int .i64 d) := (cell_of hb0 3).trans rfl; clear hb0)
      | ((with_reducible refine (rnew_yes s r l d w1 HM.out).mono ?_); rintro e w2 ⟨gx, hg, rfl, hm, hb⟩; have GX0 := Lib.hid hg; have X2 := Lib.hid hm; have M2 := Lib.hid (M1.out.keep hb); have K2 := Lib.hid (K1.out.trans (hb.mono K1.out.size)); clear hb hg hm))
    have K3 := Lib.hid K2.out.drew
    have HGX := Lib.hid (show g ≠ gx from fun e => by have h1 := M1.out.lt; have := GX0.out; omega)
    have GXW := Lib.hid (show W.heap.size ≤ gx from Nat.le_trans K1.out.size GX0.out)
    have hb0 := (K3.out.block _ XL.out).trans XB.out; have s0 : w2.drew.cell? ⟨w.heap.size, 0, none⟩ = some (.int .i64 s) ∧ w2.drew.cell? ⟨w.heap.size, 1, none⟩ = some (.int .i64 r) ∧ w2.drew.cell? ⟨w.heap.size, 2, none⟩ = some (.int .i64 l) ∧ w2.drew.cell? ⟨w.heap.size, 3, none⟩ = some (.int .i64 d) := ⟨(cell_of hb0 0).trans rfl, (cell_of hb0 1).trans rfl, (cell_of hb0 2).trans rfl, (cell_of hb0 3).trans rfl⟩; clear hb0
    go_region_held3 (fun w' => w'.cell? ⟨w.heap.size, 0, none⟩ = some (.int .i64 s) ∧ w'.cell? ⟨w.heap.size, 1, none⟩ = some (.int .i64 r) ∧ w'.cell? ⟨w.heap.size, 2, none⟩ = some (.int .i64 l) ∧ w'.cell? ⟨w.heap.size, 3, none⟩ = some (.int .i64 d)) (first | exact s0 | exact s1 | exact s2) (first
      | (go_at_call 9; (with_reducible refine (mayb_true w2.drew HM.out).mono ?_); rintro e w3 ⟨rfl, hb⟩; have K4 := Lib.hid (K3.out.trans (hb.mono K3.out.size)); have M4 := Lib.hid (MtAt.keep (show MtAt g _ w2.drew from M2.out) hb); have X4 := Lib.hid (RAt.keep (show RAt gx _ w2.drew from X2.out) hb); clear hb; have hb0 := (K4.out.block _ XL.out).trans XB.out; have s1 : w3.cell? ⟨w.heap.size, 0, none⟩ = some (.int .i64 s) ∧ w3.cell? ⟨w.heap.size, 1, none⟩ = some (.int .i64 r) ∧ w3.cell? ⟨w.heap.size, 2, none⟩ = some (.int .i64 l) ∧ w3.cell? ⟨w.heap.size, 3, none⟩ = some (.int .i64 d) := ⟨(cell_of hb0 0).trans rfl, (cell_of hb0 1).trans rfl, (cell_of hb0 2).trans rfl, (cell_of hb0 3).trans rfl⟩; clear hb0)
      | (go_at_call 24; (with_reducible refine (rmay_yes s r l d w3 HM.out).mono ?_); rintro e w4 ⟨rfl, hb⟩; have K5 := Lib.hid (K4.out.trans (hb.mono K4.out.size)); have M5 := Lib.hid (M4.out.keep hb); have X5 := Lib.hid (X4.out.keep hb); clear hb; have hb0 := (K5.out.block _ XL.out).trans XB.out; have s2 : w4.cell? ⟨w.heap.size, 0, none⟩ = some (.int .i64 s) ∧ w4.cell? ⟨w.heap.size, 1, none⟩ = some (.int .i64 r) ∧ w4.cell? ⟨w.heap.size, 2, none⟩ = some (.int .i64 l) ∧ w4.cell? ⟨w.heap.size, 3, none⟩ = some (.int .i64 d) := ⟨(cell_of hb0 0).trans rfl, (cell_of hb0 1).trans rfl, (cell_of hb0 2).trans rfl, (cell_of hb0 3).trans rfl⟩; clear hb0))
    clear s0 s1 s2 M4 X4 M2 X2 M1 qw10 qw11 qw12 qw13 q0 q1 q2 q3 K1 K2 K3 K4 hW
    try clear hHeld
    have HF := Lib.hid (Fine.new HM.out)
    have HO0 := Lib.hid (show OutIs (Mt.new s r l d) from .inl rfl)
    generalize Mt.new s r l d = m0 at *
    go_wp2
    go_loopw [9] (fun i wr => ∃ (k : Nat) (m : Mt), k ≤ cs.length ∧ i = .int .i64 (k : Int) ∧ Fine m ∧ OutIs m ∧ MtAt g m wr ∧ RAt gx m wr ∧ Below W.heap.size W wr) (fun i _ => (cs.length - numOf i).toNat)
    case atStart => exact ⟨0, m0, Nat.zero_le _, rfl, HF.out, HO0.out, M5.out, X5.out, K5.out⟩
    case round =>
      obtain ⟨k, m, hk, rfl, hf, ho, hm, hx, hb⟩ := hrel
      have F := Lib.hid hf
      have O := Lib.hid ho
      have M := Lib.hid hm
      have X := Lib.hid hx
      have K := Lib.hid hb
      clear HF HO0 M5 X5 K5 hf ho hm hx hb
      rcases Nat.lt_or_ge k cs.length with hlt | hge
      · obtain ⟨b, off, rfl, hbw, hc⟩ := HC.out.2 (by omega)
        have hcl := hc k cs[k] (List.getElem?_eq_getElem hlt)
        have HBW := Lib.hid hbw
        obtain ⟨d0, d1, d2, d3, d4, d5, d6, d7⟩ := hcl.1.below K.out hbw
        have HCL := Lib.hid hcl.1
        have HAW := Lib.hid hcl.2
        have HA := Lib.hid (hcl.2.below K.out)
        obtain ⟨k1, hk1⟩ : ∃ k1 : Nat, wrap64 ((k : Int) + 1) = (k1 : Int) ∧ k1 = k + 1 := ⟨k + 1, by have := HC.out.1; unfold wrap64; omega, rfl⟩
        have HK1 := Lib.hid hk1.2
        replace hk1 := hk1.1
        clear hc hcl hbw
        have F' := Lib.hid (F.out.tell cs[k])
        have O' := Lib.hid (O.out.tell cs[k])
        generalize cs[k] = c at *
        obtain ⟨m', rr, e1⟩ : ∃ m' rr, m.tell c = (m', rr) := ⟨_, _, rfl⟩
        rw [e1] at F' O'
        have ET := Lib.hid e1
        obtain ⟨what, ⟨kind, P, pc, n1, A1, la, cc1, n2, A2, lm, cc2, ls⟩, nn⟩ := c
        simp only at d0 d1 d2 d3 d4 d5 d6 d7 F' O' HA HAW
        generalize hnl : cs.length = nl at *
        by_cases hw : what = 0
        · skip
          have HE := Lib.hid (show m.pay ((⟨kind, P, pc, n1, A1, la, cc1, n2, A2, lm, cc2, ls⟩ : At).most : Int) = (m', rr) by rw [← e1]; exact (if_pos hw).symm)
          have c00 := rpay_eq (n := ((⟨kind, P, pc, n1, A1, la, cc1, n2, A2, lm, cc2, ls⟩ : At).most : Int)) (a := ⟨kind, P, pc, n1, A1, la, cc1, n2, A2, lm, cc2, ls⟩) X.out HA.out F.out rfl HE.out
          try simp only at c00
          have c0 := Lib.hid c00
          clear c00 e1
          subst hw
          go_wp2_with ((with_reducible refine c0.out.mono ?_); rintro e w4 ⟨rfl, hx4, hj4⟩
                       have X4 := Lib.hid hx4
                       have M4 := Lib.hid (show MtAt g m w4 from (hj4.block g M.out.lt HGX.out).trans M.out)
                       have K4 := Lib.hid (K.out.trans (hj4.below GXW.out K.out.size))
                       clear hx4 hj4)
          have K5 := Lib.hid K4.out.drew
          have M5 := Lib.hid (show MtAt g m w4.drew from M4.out)
          have X5 := Lib.hid (show RAt gx m' w4.drew from X4.out)
          have t10 := tell_eq M5.out (HAW.out.below K5.out) F.out.1 ET.out
          simp only at t10
          have t1 := Lib.hid t10
          clear t10
          have s0 : w4.drew.cell? ⟨b, off + k * 8, none⟩ = some (.int .u8 0) ∧ w4.drew.cell? ⟨b, off + k * 8 + 1, none⟩ = some (.int .u8 kind) ∧ w4.drew.cell? ⟨b, off + k * 8 + 2, none⟩ = some (.slice P ls.length pc) ∧ w4.drew.cell? ⟨b, off + k * 8 + 3, none⟩ = some (.bool n1) ∧ w4.drew.cell? ⟨b, off + k * 8 + 4, none⟩ = some (.slice A1 la cc1) ∧ w4.drew.cell? ⟨b, off + k * 8 + 5, none⟩ = some (.bool n2) ∧ w4.drew.cell? ⟨b, off + k * 8 + 6, none⟩ = some (.slice A2 lm cc2) ∧ w4.drew.cell? ⟨b, off + k * 8 + 7, none⟩ = some (.int .i64 nn) ∧ w4.drew.cell? ⟨gx, 4, none⟩ = some (.int .i64 m'.ss) ∧ w4.drew.cell? ⟨gx, 5, none⟩ = some (.int .i64 m'.sr) ∧ w4.drew.cell? ⟨gx, 6, none⟩ = some (.int .i64 m'.sl) ∧ w4.drew.cell? ⟨gx, 7, none⟩ = some (.int .i64 m'.sd) := ⟨(HCL.out.below K5.out HBW.out).1, (HCL.out.below K5.out HBW.out).2.1, (HCL.out.below K5.out HBW.out).2.2.1, (HCL.out.below K5.out HBW.out).2.2.2.1, (HCL.out.below K5.out HBW.out).2.2.2.2.1, (HCL.out.below K5.out HBW.out).2.2.2.2.2.1, (HCL.out.below K5.out HBW.out).2.2.2.2.2.2.1, (HCL.out.below K5.out HBW.out).2.2.2.2.2.2.2, (cell_of X5.out 4).trans rfl, (cell_of X5.out 5).trans rfl, (cell_of X5.out 6).trans rfl, (cell_of X5.out 7).trans rfl⟩
          clear d0 d1 d2 d3 d4 d5 d6 d7 c0 X M
          go_region_held3 (fun w' => w'.cell? ⟨b, off + k * 8, none⟩ = some (.int .u8 0) ∧ w'.cell? ⟨b, off + k * 8 + 1, none⟩ = some (.int .u8 kind) ∧ w'.cell? ⟨b, off + k * 8 + 2, none⟩ = some (.slice P ls.length pc) ∧ w'.cell? ⟨b, off + k * 8 + 3, none⟩ = some (.bool n1) ∧ w'.cell? ⟨b, off + k * 8 + 4, none⟩ = some (.slice A1 la cc1) ∧ w'.cell? ⟨b, off + k * 8 + 5, none⟩ = some (.bool n2) ∧ w'.cell? ⟨b, off + k * 8 + 6, none⟩ = some (.slice A2 lm cc2) ∧ w'.cell? ⟨b, off + k * 8 + 7, none⟩ = some (.int .i64 nn) ∧ w'.cell? ⟨gx, 4, none⟩ = some (.int .i64 m'.ss) ∧ w'.cell? ⟨gx, 5, none⟩ = some (.int .i64 m'.sr) ∧ w'.cell? ⟨gx, 6, none⟩ = some (.int .i64 m'.sl) ∧ w'.cell? ⟨gx, 7, none⟩ = some (.int .i64 m'.sd)) (first | exact s0 | exact s1 | exact s2) (first
            | (go_at_call 28; (with_reducible refine t1.out.mono ?_); rintro e w5 ⟨rfl, hm5, hj5⟩; have M6 := Lib.hid hm5; have K6 := Lib.hid (K5.out.trans (hj5.below GW.out K5.out.size)); have X6 := Lib.hid (show RAt gx m' w5 from (hj5.block gx X5.out.lt HGX.out.symm).trans X5.out); clear hm5 hj5; have s1 : w5.cell? ⟨b, off + k * 8, none⟩ = some (.int .u8 0) ∧ w5.cell? ⟨b, off + k * 8 + 1, none⟩ = some (.int .u8 kind) ∧ w5.cell? ⟨b, off + k * 8 + 2, none⟩ = some (.slice P ls.length pc) ∧ w5.cell? ⟨b, off + k * 8 + 3, none⟩ = some (.bool n1) ∧ w5.cell? ⟨b, off + k * 8 + 4, none⟩ = some (.slice A1 la cc1) ∧ w5.cell? ⟨b, off + k * 8 + 5, none⟩ = some (.bool n2) ∧ w5.cell? ⟨b, off + k * 8 + 6, none⟩ = some (.slice A2 lm cc2) ∧ w5.cell? ⟨b, off + k * 8 + 7, none⟩ = some (.int .i64 nn) ∧ w5.cell? ⟨gx, 4, none⟩ = some (.int .i64 m'.ss) ∧ w5.cell? ⟨gx, 5, none⟩ = some (.int .i64 m'.sr) ∧ w5.cell? ⟨gx, 6, none⟩ = some (.int .i64 m'.sl) ∧ w5.cell? ⟨gx, 7, none⟩ = some (.int .i64 m'.sd) := ⟨(HCL.out.below K6.out HBW.out).1, (HCL.out.below K6.out HBW.out).2.1, (HCL.out.below K6.out HBW.out).2.2.1, (HCL.out.below K6.out HBW.out).2.2.2.1, (HCL.out.below K6.out HBW.out).2.2.2.2.1, (HCL.out.below K6.out HBW.out).2.2.2.2.2.1, (HCL.out.below K6.out HBW.out).2.2.2.2.2.2.1, (HCL.out.below K6.out HBW.out).2.2.2.2.2.2.2, (cell_of X6.out 4).trans rfl, (cell_of X6.out 5).trans rfl, (cell_of X6.out 6).trans rfl, (cell_of X6.out 7).trans rfl⟩)
            | (go_at_call 15; (with_reducible refine (spent_any g m' w5 M6.out).mono ?_); rintro e w6 ⟨rfl, hb⟩; have K7 := Lib.hid (K6.out.trans (hb.mono K6.out.size)); have M7 := Lib.hid (M6.out.keep hb); have X7 := Lib.hid (X6.out.keep hb); clear hb; have s2 : w6.cell? ⟨b, off + k * 8, none⟩ = some (.int .u8 0) ∧ w6.cell? ⟨b, off + k * 8 + 1, none⟩ = some (.int .u8 kind) ∧ w6.cell? ⟨b, off + k * 8 + 2, none⟩ = some (.slice P ls.length pc) ∧ w6.cell? ⟨b, off + k * 8 + 3, none⟩ = some (.bool n1) ∧ w6.cell? ⟨b, off + k * 8 + 4, none⟩ = some (.slice A1 la cc1) ∧ w6.cell? ⟨b, off + k * 8 + 5, none⟩ = some (.bool n2) ∧ w6.cell? ⟨b, off + k * 8 + 6, none⟩ = some (.slice A2 lm cc2) ∧ w6.cell? ⟨b, off + k * 8 + 7, none⟩ = some (.int .i64 nn) ∧ w6.cell? ⟨gx, 4, none⟩ = some (.int .i64 m'.ss) ∧ w6.cell? ⟨gx, 5, none⟩ = some (.int .i64 m'.sr) ∧ w6.cell? ⟨gx, 6, none⟩ = some (.int .i64 m'.sl) ∧ w6.cell? ⟨gx, 7, none⟩ = some (.int .i64 m'.sd) := ⟨(HCL.out.below K7.out HBW.out).1, (HCL.out.below K7.out HBW.out).2.1, (HCL.out.below K7.out HBW.out).2.2.1, (HCL.out.below K7.out HBW.out).2.2.2.1, (HCL.out.below K7.out HBW.out).2.2.2.2.1, (HCL.out.below K7.out HBW.out).2.2.2.2.2.1, (HCL.out.below K7.out HBW.out).2.2.2.2.2.2.1, (HCL.out.below K7.out HBW.out).2.2.2.2.2.2.2, (cell_of X7.out 4).trans rfl, (cell_of X7.out 5).trans rfl, (cell_of X7.out 6).trans rfl, (cell_of X7.out 7).trans rfl⟩))
          clear s0 s1 s2
          try clear hHeld
          cases hout : m'.out with
          | none =>
            have OU := Lib.hid hout
            have p8 : w6.cell? ⟨gx, 8, none⟩ = some (.string ⟨#[]⟩) := by rw [cell_of X7.out, part_none hout]; rfl
            clear hout
            go_wp2_with (first
              | ((with_reducible refine (why_none M7.out OU.out).mono ?_); rintro e w' ⟨rfl, rfl⟩)
              | ((with_reducible refine (part_nil w6).mono ?_); rintro e w7 ⟨rfl, hb⟩; have K8 := Lib.hid (K7.out.trans (hb.mono K7.out.size)); have M8 := Lib.hid (M7.out.keep hb); have X8 := Lib.hid (X7.out.keep hb); have r8 : w7.cell? ⟨gx, 8, none⟩ = some (.string ⟨#[]⟩) := (hb.cell (p := ⟨gx, 8, none⟩) X7.out.lt).trans p8; clear hb)
              | ((with_reducible refine (most_none gx m' w7 X8.out OU.out).mono ?_); rintro e w' ⟨rfl, rfl⟩)
              | ((with_reducible refine (why_none M8.out OU.out).mono ?_); rintro e w' ⟨rfl, rfl⟩)
              | ((with_reducible refine (text_nil w7).mono ?_); rintro e w' ⟨rfl, rfl⟩)
              | ((with_reducible refine (rtext_none gx m' w7 X8.out OU.out _).mono ?_); rintro e w' ⟨rfl, rfl⟩))
            refine ⟨⟨k1, m', by have := HK1.out; omega, by rw [hk1], F'.out, O'.out, M8.out, X8.out, K8.out⟩, ?_⟩
            rw [hk1]; have := HK1.out; simp only [numOf]; omega
          | some x =>
            obtain ⟨pp, kk⟩ := x
            have OU := Lib.hid hout
            have p8 : w6.cell? ⟨gx, 8, none⟩ = some (.string pp) := by rw [cell_of X7.out, part_some hout]; rfl
            have hpe : pp.toList.isEmpty = false := (F'.out.2 pp kk hout).1
            have POK := Lib.hid (F'.out.2 pp kk hout)
            obtain ⟨tt, htt⟩ : ∃ t, m'.text = t := ⟨_, rfl⟩
            have HTT := Lib.hid htt
            clear hout htt
            go_wp2_with (first
              | ((with_reducible refine (why_used M7.out OU.out).mono ?_); rintro e w' ⟨rfl, rfl⟩)
              | ((with_reducible refine (part_used (HT.out.keep K7.out) (ErrIs.used w6 pp kk) POK.out).mono ?_); rintro e w7 ⟨rfl, hb⟩; have K8 := Lib.hid (K7.out.trans (hb.mono K7.out.size)); have M8 := Lib.hid (M7.out.keep hb); have X8 := Lib.hid (X7.out.keep hb); have r8 : w7.cell? ⟨gx, 8, none⟩ = some (.string pp) := (hb.cell (p := ⟨gx, 8, none⟩) X7.out.lt).trans p8; clear hb)
              | ((with_reducible refine (most_any gx m' w7 X8.out O'.out pp kk OU.out).mono ?_); rintro e w' ⟨rfl, rfl⟩)
              | ((with_reducible refine (why_used M8.out OU.out).mono ?_); rintro e w' ⟨rfl, rfl⟩)
              | ((with_reducible refine (wtext_at HTT.out (HT.out.keep K8.out) (HB.out.keep K8.out) F'.out OU.out).mono ?_); rintro e w8 ⟨rfl, hb⟩; have K9 := Lib.hid (K8.out.trans (hb.mono K8.out.size)); have M9 := Lib.hid (M8.out.keep hb); have X9 := Lib.hid (X8.out.keep hb); clear hb)
              | ((with_reducible refine (rtext0 X9.out F'.out O'.out OU.out HTT.out).mono ?_); rintro e w9 ⟨rfl, hb⟩; have K10 := Lib.hid (K9.out.trans (hb.mono K9.out.size)); have M10 := Lib.hid (M9.out.keep hb); have X10 := Lib.hid (X9.out.keep hb); clear hb))
            refine ⟨⟨k1, m', by have := HK1.out; omega, by rw [hk1], F'.out, O'.out, M10.out, X10.out, K10.out⟩, ?_⟩
            rw [hk1]; have := HK1.out; simp only [numOf]; omega
        · have hn0 := hw
          clear hw
          by_cases hw : what = 1
          · skip
            have HE := Lib.hid (show m.rows nn = (m', rr) by rw [← e1]; exact ((if_neg hn0).trans (if_pos hw)).symm)
            have c00 := rrows_eq X.out F.out HE.out
            try simp only at c00
            have c0 := Lib.hid c00
            clear c00 e1
            subst hw
            go_wp2_with ((with_reducible refine c0.out.mono ?_); rintro e w4 ⟨rfl, hx4, hj4⟩
                         have X4 := Lib.hid hx4
                         have M4 := Lib.hid (show MtAt g m w4 from (hj4.block g M.out.lt HGX.out).trans M.out)
                         have K4 := Lib.hid (K.out.trans (hj4.below GXW.out K.out.size))
                         clear hx4 hj4)
            have K5 := Lib.hid K4.out.drew
            have M5 := Lib.hid (show MtAt g m w4.drew from M4.out)
            have X5 := Lib.hid (show RAt gx m' w4.drew from X4.out)
            have t10 := tell_eq M5.out (HAW.out.below K5.out) F.out.1 ET.out
            simp only at t10
            have t1 := Lib.hid t10
            clear t10
            have s0 : w4.drew.cell? ⟨b, off + k * 8, none⟩ = some (.int .u8 1) ∧ w4.drew.cell? ⟨b, off + k * 8 + 1, none⟩ = some (.int .u8 kind) ∧ w4.drew.cell? ⟨b, off + k * 8 + 2, none⟩ = some (.slice P ls.length pc) ∧ w4.drew.cell? ⟨b, off + k * 8 + 3, none⟩ = some (.bool n1) ∧ w4.drew.cell? ⟨b, off + k * 8 + 4, none⟩ = some (.slice A1 la cc1) ∧ w4.drew.cell? ⟨b, off + k * 8 + 5, none⟩ = some (.bool n2) ∧ w4.drew.cell? ⟨b, off + k * 8 + 6, none⟩ = some (.slice A2 lm cc2) ∧ w4.drew.cell? ⟨b, off + k * 8 + 7, none⟩ = some (.int .i64 nn) ∧ w4.drew.cell? ⟨gx, 4, none⟩ = some (.int .i64 m'.ss) ∧ w4.drew.cell? ⟨gx, 5, none⟩ = some (.int .i64 m'.sr) ∧ w4.drew.cell? ⟨gx, 6, none⟩ = some (.int .i64 m'.sl) ∧ w4.drew.cell? ⟨gx, 7, none⟩ = some (.int .i64 m'.sd) := ⟨(HCL.out.below K5.out HBW.out).1, (HCL.out.below K5.out HBW.out).2.1, (HCL.out.below K5.out HBW.out).2.2.1, (HCL.out.below K5.out HBW.out).2.2.2.1, (HCL.out.below K5.out HBW.out).2.2.2.2.1, (HCL.out.below K5.out HBW.out).2.2.2.2.2.1, (HCL.out.below K5.out HBW.out).2.2.2.2.2.2.1, (HCL.out.below K5.out HBW.out).2.2.2.2.2.2.2, (cell_of X5.out 4).trans rfl, (cell_of X5.out 5).trans rfl, (cell_of X5.out 6).trans rfl, (cell_of X5.out 7).trans rfl⟩
            clear d0 d1 d2 d3 d4 d5 d6 d7 c0 X M
            go_region_held3 (fun w' => w'.cell? ⟨b, off + k * 8, none⟩ = some (.int .u8 1) ∧ w'.cell? ⟨b, off + k * 8 + 1, none⟩ = some (.int .u8 kind) ∧ w'.cell? ⟨b, off + k * 8 + 2, none⟩ = some (.slice P ls.length pc) ∧ w'.cell? ⟨b, off + k * 8 + 3, none⟩ = some (.bool n1) ∧ w'.cell? ⟨b, off + k * 8 + 4, none⟩ = some (.slice A1 la cc1) ∧ w'.cell? ⟨b, off + k * 8 + 5, none⟩ = some (.bool n2) ∧ w'.cell? ⟨b, off + k * 8 + 6, none⟩ = some (.slice A2 lm cc2) ∧ w'.cell? ⟨b, off + k * 8 + 7, none⟩ = some (.int .i64 nn) ∧ w'.cell? ⟨gx, 4, none⟩ = some (.int .i64 m'.ss) ∧ w'.cell? ⟨gx, 5, none⟩ = some (.int .i64 m'.sr) ∧ w'.cell? ⟨gx, 6, none⟩ = some (.int .i64 m'.sl) ∧ w'.cell? ⟨gx, 7, none⟩ = some (.int .i64 m'.sd)) (first | exact s0 | exact s1 | exact s2) (first
              | (go_at_call 28; (with_reducible refine t1.out.mono ?_); rintro e w5 ⟨rfl, hm5, hj5⟩; have M6 := Lib.hid hm5; have K6 := Lib.hid (K5.out.trans (hj5.below GW.out K5.out.size)); have X6 := Lib.hid (show RAt gx m' w5 from (hj5.block gx X5.out.lt HGX.out.symm).trans X5.out); clear hm5 hj5; have s1 : w5.cell? ⟨b, off + k * 8, none⟩ = some (.int .u8 1) ∧ w5.cell? ⟨b, off + k * 8 + 1, none⟩ = some (.int .u8 kind) ∧ w5.cell? ⟨b, off + k * 8 + 2, none⟩ = some (.slice P ls.length pc) ∧ w5.cell? ⟨b, off + k * 8 + 3, none⟩ = some (.bool n1) ∧ w5.cell? ⟨b, off + k * 8 + 4, none⟩ = some (.slice A1 la cc1) ∧ w5.cell? ⟨b, off + k * 8 + 5, none⟩ = some (.bool n2) ∧ w5.cell? ⟨b, off + k * 8 + 6, none⟩ = some (.slice A2 lm cc2) ∧ w5.cell? ⟨b, off + k * 8 + 7, none⟩ = some (.int .i64 nn) ∧ w5.cell? ⟨gx, 4, none⟩ = some (.int .i64 m'.ss) ∧ w5.cell? ⟨gx, 5, none⟩ = some (.int .i64 m'.sr) ∧ w5.cell? ⟨gx, 6, none⟩ = some (.int .i64 m'.sl) ∧ w5.cell? ⟨gx, 7, none⟩ = some (.int .i64 m'.sd) := ⟨(HCL.out.below K6.out HBW.out).1, (HCL.out.below K6.out HBW.out).2.1, (HCL.out.below K6.out HBW.out).2.2.1, (HCL.out.below K6.out HBW.out).2.2.2.1, (HCL.out.below K6.out HBW.out).2.2.2.2.1, (HCL.out.below K6.out HBW.out).2.2.2.2.2.1, (HCL.out.below K6.out HBW.out).2.2.2.2.2.2.1, (HCL.out.below K6.out HBW.out).2.2.2.2.2.2.2, (cell_of X6.out 4).trans rfl, (cell_of X6.out 5).trans rfl, (cell_of X6.out 6).trans rfl, (cell_of X6.out 7).trans rfl⟩)
              | (go_at_call 15; (with_reducible refine (spent_any g m' w5 M6.out).mono ?_); rintro e w6 ⟨rfl, hb⟩; have K7 := Lib.hid (K6.out.trans (hb.mono K6.out.size)); have M7 := Lib.hid (M6.out.keep hb); have X7 := Lib.hid (X6.out.keep hb); clear hb; have s2 : w6.cell? ⟨b, off + k * 8, none⟩ = some (.int .u8 1) ∧ w6.cell? ⟨b, off + k * 8 + 1, none⟩ = some (.int .u8 kind) ∧ w6.cell? ⟨b, off + k * 8 + 2, none⟩ = some (.slice P ls.length pc) ∧ w6.cell? ⟨b, off + k * 8 + 3, none⟩ = some (.bool n1) ∧ w6.cell? ⟨b, off + k * 8 + 4, none⟩ = some (.slice A1 la cc1) ∧ w6.cell? ⟨b, off + k * 8 + 5, none⟩ = some (.bool n2) ∧ w6.cell? ⟨b, off + k * 8 + 6, none⟩ = some (.slice A2 lm cc2) ∧ w6.cell? ⟨b, off + k * 8 + 7, none⟩ = some (.int .i64 nn) ∧ w6.cell? ⟨gx, 4, none⟩ = some (.int .i64 m'.ss) ∧ w6.cell? ⟨gx, 5, none⟩ = some (.int .i64 m'.sr) ∧ w6.cell? ⟨gx, 6, none⟩ = some (.int .i64 m'.sl) ∧ w6.cell? ⟨gx, 7, none⟩ = some (.int .i64 m'.sd) := ⟨(HCL.out.below K7.out HBW.out).1, (HCL.out.below K7.out HBW.out).2.1, (HCL.out.below K7.out HBW.out).2.2.1, (HCL.out.below K7.out HBW.out).2.2.2.1, (HCL.out.below K7.out HBW.out).2.2.2.2.1, (HCL.out.below K7.out HBW.out).2.2.2.2.2.1, (HCL.out.below K7.out HBW.out).2.2.2.2.2.2.1, (HCL.out.below K7.out HBW.out).2.2.2.2.2.2.2, (cell_of X7.out 4).trans rfl, (cell_of X7.out 5).trans rfl, (cell_of X7.out 6).trans rfl, (cell_of X7.out 7).trans rfl⟩))
            clear s0 s1 s2
            try clear hHeld
            cases hout : m'.out with
            | none =>
              have OU := Lib.hid hout
              have p8 : w6.cell? ⟨gx, 8, none⟩ = some (.string ⟨#[]⟩) := by rw [cell_of X7.out, part_none hout]; rfl
              clear hout
              go_wp2_with (first
                | ((with_reducible refine (why_none M7.out OU.out).mono ?_); rintro e w' ⟨rfl, rfl⟩)
                | ((with_reducible refine (part_nil w6).mono ?_); rintro e w7 ⟨rfl, hb⟩; have K8 := Lib.hid (K7.out.trans (hb.mono K7.out.size)); have M8 := Lib.hid (M7.out.keep hb); have X8 := Lib.hid (X7.out.keep hb); have r8 : w7.cell? ⟨gx, 8, none⟩ = some (.string ⟨#[]⟩) := (hb.cell (p := ⟨gx, 8, none⟩) X7.out.lt).trans p8; clear hb)
                | ((with_reducible refine (most_none gx m' w7 X8.out OU.out).mono ?_); rintro e w' ⟨rfl, rfl⟩)
                | ((with_reducible refine (why_none M8.out OU.out).mono ?_); rintro e w' ⟨rfl, rfl⟩)
                | ((with_reducible refine (text_nil w7).mono ?_); rintro e w' ⟨rfl, rfl⟩)
                | ((with_reducible refine (rtext_none gx m' w7 X8.out OU.out _).mono ?_); rintro e w' ⟨rfl, rfl⟩))
              refine ⟨⟨k1, m', by have := HK1.out; omega, by rw [hk1], F'.out, O'.out, M8.out, X8.out, K8.out⟩, ?_⟩
              rw [hk1]; have := HK1.out; simp only [numOf]; omega
            | some x =>
              obtain ⟨pp, kk⟩ := x
              have OU := Lib.hid hout
              have p8 : w6.cell? ⟨gx, 8, none⟩ = some (.string pp) := by rw [cell_of X7.out, part_some hout]; rfl
              have hpe : pp.toList.isEmpty = false := (F'.out.2 pp kk hout).1
              have POK := Lib.hid (F'.out.2 pp kk hout)
              obtain ⟨tt, htt⟩ : ∃ t, m'.text = t := ⟨_, rfl⟩
              have HTT := Lib.hid htt
              clear hout htt
              go_wp2_with (first
                | ((with_reducible refine (why_used M7.out OU.out).mono ?_); rintro e w' ⟨rfl, rfl⟩)
                | ((with_reducible refine (part_used (HT.out.keep K7.out) (ErrIs.used w6 pp kk) POK.out).mono ?_); rintro e w7 ⟨rfl, hb⟩; have K8 := Lib.hid (K7.out.trans (hb.mono K7.out.size)); have M8 := Lib.hid (M7.out.keep hb); have X8 := Lib.hid (X7.out.keep hb); have r8 : w7.cell? ⟨gx, 8, none⟩ = some (.string pp) := (hb.cell (p := ⟨gx, 8, none⟩) X7.out.lt).trans p8; clear hb)
                | ((with_reducible refine (most_any gx m' w7 X8.out O'.out pp kk OU.out).mono ?_); rintro e w' ⟨rfl, rfl⟩)
                | ((with_reducible refine (why_used M8.out OU.out).mono ?_); rintro e w' ⟨rfl, rfl⟩)
                | ((with_reducible refine (wtext_at HTT.out (HT.out.keep K8.out) (HB.out.keep K8.out) F'.out OU.out).mono ?_); rintro e w8 ⟨rfl, hb⟩; have K9 := Lib.hid (K8.out.trans (hb.mono K8.out.size)); have M9 := Lib.hid (M8.out.keep hb); have X9 := Lib.hid (X8.out.keep hb); clear hb)
                | ((with_reducible refine (rtext0 X9.out F'.out O'.out OU.out HTT.out).mono ?_); rintro e w9 ⟨rfl, hb⟩; have K10 := Lib.hid (K9.out.trans (hb.mono K9.out.size)); have M10 := Lib.hid (M9.out.keep hb); have X10 := Lib.hid (X9.out.keep hb); clear hb))
              refine ⟨⟨k1, m', by have := HK1.out; omega, by rw [hk1], F'.out, O'.out, M10.out, X10.out, K10.out⟩, ?_⟩
              rw [hk1]; have := HK1.out; simp only [numOf]; omega
          · have hn1 := hw
            have HE := Lib.hid (show m.deep nn = (m', rr) by rw [← e1]; exact ((if_neg hn0).trans (if_neg hn1)).symm)
            have c00 := rdeep_eq X.out F.out HE.out
            try simp only at c00
            have c0 := Lib.hid c00
            clear c00 e1
            skip
            go_wp2_with ((with_reducible refine c0.out.mono ?_); rintro e w4 ⟨rfl, hx4, hj4⟩
                         have X4 := Lib.hid hx4
                         have M4 := Lib.hid (show MtAt g m w4 from (hj4.block g M.out.lt HGX.out).trans M.out)
                         have K4 := Lib.hid (K.out.trans (hj4.below GXW.out K.out.size))
                         clear hx4 hj4)
            have K5 := Lib.hid K4.out.drew
            have M5 := Lib.hid (show MtAt g m w4.drew from M4.out)
            have X5 := Lib.hid (show RAt gx m' w4.drew from X4.out)
            have t10 := tell_eq M5.out (HAW.out.below K5.out) F.out.1 ET.out
            simp only at t10
            have t1 := Lib.hid t10
            clear t10
            have s0 : w4.drew.cell? ⟨b, off + k * 8, none⟩ = some (.int .u8 what) ∧ w4.drew.cell? ⟨b, off + k * 8 + 1, none⟩ = some (.int .u8 kind) ∧ w4.drew.cell? ⟨b, off + k * 8 + 2, none⟩ = some (.slice P ls.length pc) ∧ w4.drew.cell? ⟨b, off + k * 8 + 3, none⟩ = some (.bool n1) ∧ w4.drew.cell? ⟨b, off + k * 8 + 4, none⟩ = some (.slice A1 la cc1) ∧ w4.drew.cell? ⟨b, off + k * 8 + 5, none⟩ = some (.bool n2) ∧ w4.drew.cell? ⟨b, off + k * 8 + 6, none⟩ = some (.slice A2 lm cc2) ∧ w4.drew.cell? ⟨b, off + k * 8 + 7, none⟩ = some (.int .i64 nn) ∧ w4.drew.cell? ⟨gx, 4, none⟩ = some (.int .i64 m'.ss) ∧ w4.drew.cell? ⟨gx, 5, none⟩ = some (.int .i64 m'.sr) ∧ w4.drew.cell? ⟨gx, 6, none⟩ = some (.int .i64 m'.sl) ∧ w4.drew.cell? ⟨gx, 7, none⟩ = some (.int .i64 m'.sd) := ⟨(HCL.out.below K5.out HBW.out).1, (HCL.out.below K5.out HBW.out).2.1, (HCL.out.below K5.out HBW.out).2.2.1, (HCL.out.below K5.out HBW.out).2.2.2.1, (HCL.out.below K5.out HBW.out).2.2.2.2.1, (HCL.out.below K5.out HBW.out).2.2.2.2.2.1, (HCL.out.below K5.out HBW.out).2.2.2.2.2.2.1, (HCL.out.below K5.out HBW.out).2.2.2.2.2.2.2, (cell_of X5.out 4).trans rfl, (cell_of X5.out 5).trans rfl, (cell_of X5.out 6).trans rfl, (cell_of X5.out 7).trans rfl⟩
            clear d0 d1 d2 d3 d4 d5 d6 d7 c0 X M
            go_region_held3 (fun w' => w'.cell? ⟨b, off + k * 8, none⟩ = some (.int .u8 what) ∧ w'.cell? ⟨b, off + k * 8 + 1, none⟩ = some (.int .u8 kind) ∧ w'.cell? ⟨b, off + k * 8 + 2, none⟩ = some (.slice P ls.length pc) ∧ w'.cell? ⟨b, off + k * 8 + 3, none⟩ = some (.bool n1) ∧ w'.cell? ⟨b, off + k * 8 + 4, none⟩ = some (.slice A1 la cc1) ∧ w'.cell? ⟨b, off + k * 8 + 5, none⟩ = some (.bool n2) ∧ w'.cell? ⟨b, off + k * 8 + 6, none⟩ = some (.slice A2 lm cc2) ∧ w'.cell? ⟨b, off + k * 8 + 7, none⟩ = some (.int .i64 nn) ∧ w'.cell? ⟨gx, 4, none⟩ = some (.int .i64 m'.ss) ∧ w'.cell? ⟨gx, 5, none⟩ = some (.int .i64 m'.sr) ∧ w'.cell? ⟨gx, 6, none⟩ = some (.int .i64 m'.sl) ∧ w'.cell? ⟨gx, 7, none⟩ = some (.int .i64 m'.sd)) (first | exact s0 | exact s1 | exact s2) (first
              | (go_at_call 28; (with_reducible refine t1.out.mono ?_); rintro e w5 ⟨rfl, hm5, hj5⟩; have M6 := Lib.hid hm5; have K6 := Lib.hid (K5.out.trans (hj5.below GW.out K5.out.size)); have X6 := Lib.hid (show RAt gx m' w5 from (hj5.block gx X5.out.lt HGX.out.symm).trans X5.out); clear hm5 hj5; have s1 : w5.cell? ⟨b, off + k * 8, none⟩ = some (.int .u8 what) ∧ w5.cell? ⟨b, off + k * 8 + 1, none⟩ = some (.int .u8 kind) ∧ w5.cell? ⟨b, off + k * 8 + 2, none⟩ = some (.slice P ls.length pc) ∧ w5.cell? ⟨b, off + k * 8 + 3, none⟩ = some (.bool n1) ∧ w5.cell? ⟨b, off + k * 8 + 4, none⟩ = some (.slice A1 la cc1) ∧ w5.cell? ⟨b, off + k * 8 + 5, none⟩ = some (.bool n2) ∧ w5.cell? ⟨b, off + k * 8 + 6, none⟩ = some (.slice A2 lm cc2) ∧ w5.cell? ⟨b, off + k * 8 + 7, none⟩ = some (.int .i64 nn) ∧ w5.cell? ⟨gx, 4, none⟩ = some (.int .i64 m'.ss) ∧ w5.cell? ⟨gx, 5, none⟩ = some (.int .i64 m'.sr) ∧ w5.cell? ⟨gx, 6, none⟩ = some (.int .i64 m'.sl) ∧ w5.cell? ⟨gx, 7, none⟩ = some (.int .i64 m'.sd) := ⟨(HCL.out.below K6.out HBW.out).1, (HCL.out.below K6.out HBW.out).2.1, (HCL.out.below K6.out HBW.out).2.2.1, (HCL.out.below K6.out HBW.out).2.2.2.1, (HCL.out.below K6.out HBW.out).2.2.2.2.1, (HCL.out.below K6.out HBW.out).2.2.2.2.2.1, (HCL.out.below K6.out HBW.out).2.2.2.2.2.2.1, (HCL.out.below K6.out HBW.out).2.2.2.2.2.2.2, (cell_of X6.out 4).trans rfl, (cell_of X6.out 5).trans rfl, (cell_of X6.out 6).trans rfl, (cell_of X6.out 7).trans rfl⟩)
              | (go_at_call 15; (with_reducible refine (spent_any g m' w5 M6.out).mono ?_); rintro e w6 ⟨rfl, hb⟩; have K7 := Lib.hid (K6.out.trans (hb.mono K6.out.size)); have M7 := Lib.hid (M6.out.keep hb); have X7 := Lib.hid (X6.out.keep hb); clear hb; have s2 : w6.cell? ⟨b, off + k * 8, none⟩ = some (.int .u8 what) ∧ w6.cell? ⟨b, off + k * 8 + 1, none⟩ = some (.int .u8 kind) ∧ w6.cell? ⟨b, off + k * 8 + 2, none⟩ = some (.slice P ls.length pc) ∧ w6.cell? ⟨b, off + k * 8 + 3, none⟩ = some (.bool n1) ∧ w6.cell? ⟨b, off + k * 8 + 4, none⟩ = some (.slice A1 la cc1) ∧ w6.cell? ⟨b, off + k * 8 + 5, none⟩ = some (.bool n2) ∧ w6.cell? ⟨b, off + k * 8 + 6, none⟩ = some (.slice A2 lm cc2) ∧ w6.cell? ⟨b, off + k * 8 + 7, none⟩ = some (.int .i64 nn) ∧ w6.cell? ⟨gx, 4, none⟩ = some (.int .i64 m'.ss) ∧ w6.cell? ⟨gx, 5, none⟩ = some (.int .i64 m'.sr) ∧ w6.cell? ⟨gx, 6, none⟩ = some (.int .i64 m'.sl) ∧ w6.cell? ⟨gx, 7, none⟩ = some (.int .i64 m'.sd) := ⟨(HCL.out.below K7.out HBW.out).1, (HCL.out.below K7.out HBW.out).2.1, (HCL.out.below K7.out HBW.out).2.2.1, (HCL.out.below K7.out HBW.out).2.2.2.1, (HCL.out.below K7.out HBW.out).2.2.2.2.1, (HCL.out.below K7.out HBW.out).2.2.2.2.2.1, (HCL.out.below K7.out HBW.out).2.2.2.2.2.2.1, (HCL.out.below K7.out HBW.out).2.2.2.2.2.2.2, (cell_of X7.out 4).trans rfl, (cell_of X7.out 5).trans rfl, (cell_of X7.out 6).trans rfl, (cell_of X7.out 7).trans rfl⟩))
            clear s0 s1 s2
            try clear hHeld
            cases hout : m'.out with
            | none =>
              have OU := Lib.hid hout
              have p8 : w6.cell? ⟨gx, 8, none⟩ = some (.string ⟨#[]⟩) := by rw [cell_of X7.out, part_none hout]; rfl
              clear hout
              go_wp2_with (first
                | ((with_reducible refine (why_none M7.out OU.out).mono ?_); rintro e w' ⟨rfl, rfl⟩)
                | ((with_reducible refine (part_nil w6).mono ?_); rintro e w7 ⟨rfl, hb⟩; have K8 := Lib.hid (K7.out.trans (hb.mono K7.out.size)); have M8 := Lib.hid (M7.out.keep hb); have X8 := Lib.hid (X7.out.keep hb); have r8 : w7.cell? ⟨gx, 8, none⟩ = some (.string ⟨#[]⟩) := (hb.cell (p := ⟨gx, 8, none⟩) X7.out.lt).trans p8; clear hb)
                | ((with_reducible refine (most_none gx m' w7 X8.out OU.out).mono ?_); rintro e w' ⟨rfl, rfl⟩)
                | ((with_reducible refine (why_none M8.out OU.out).mono ?_); rintro e w' ⟨rfl, rfl⟩)
                | ((with_reducible refine (text_nil w7).mono ?_); rintro e w' ⟨rfl, rfl⟩)
                | ((with_reducible refine (rtext_none gx m' w7 X8.out OU.out _).mono ?_); rintro e w' ⟨rfl, rfl⟩))
              refine ⟨⟨k1, m', by have := HK1.out; omega, by rw [hk1], F'.out, O'.out, M8.out, X8.out, K8.out⟩, ?_⟩
              rw [hk1]; have := HK1.out; simp only [numOf]; omega
            | some x =>
              obtain ⟨pp, kk⟩ := x
              have OU := Lib.hid hout
              have p8 : w6.cell? ⟨gx, 8, none⟩ = some (.string pp) := by rw [cell_of X7.out, part_some hout]; rfl
              have hpe : pp.toList.isEmpty = false := (F'.out.2 pp kk hout).1
              have POK := Lib.hid (F'.out.2 pp kk hout)
              obtain ⟨tt, htt⟩ : ∃ t, m'.text = t := ⟨_, rfl⟩
              have HTT := Lib.hid htt
              clear hout htt
              go_wp2_with (first
                | ((with_reducible refine (why_used M7.out OU.out).mono ?_); rintro e w' ⟨rfl, rfl⟩)
                | ((with_reducible refine (part_used (HT.out.keep K7.out) (ErrIs.used w6 pp kk) POK.out).mono ?_); rintro e w7 ⟨rfl, hb⟩; have K8 := Lib.hid (K7.out.trans (hb.mono K7.out.size)); have M8 := Lib.hid (M7.out.keep hb); have X8 := Lib.hid (X7.out.keep hb); have r8 : w7.cell? ⟨gx, 8, none⟩ = some (.string pp) := (hb.cell (p := ⟨gx, 8, none⟩) X7.out.lt).trans p8; clear hb)
                | ((with_reducible refine (most_any gx m' w7 X8.out O'.out pp kk OU.out).mono ?_); rintro e w' ⟨rfl, rfl⟩)
                | ((with_reducible refine (why_used M8.out OU.out).mono ?_); rintro e w' ⟨rfl, rfl⟩)
                | ((with_reducible refine (wtext_at HTT.out (HT.out.keep K8.out) (HB.out.keep K8.out) F'.out OU.out).mono ?_); rintro e w8 ⟨rfl, hb⟩; have K9 := Lib.hid (K8.out.trans (hb.mono K8.out.size)); have M9 := Lib.hid (M8.out.keep hb); have X9 := Lib.hid (X8.out.keep hb); clear hb)
                | ((with_reducible refine (rtext0 X9.out F'.out O'.out OU.out HTT.out).mono ?_); rintro e w9 ⟨rfl, hb⟩; have K10 := Lib.hid (K9.out.trans (hb.mono K9.out.size)); have M10 := Lib.hid (M9.out.keep hb); have X10 := Lib.hid (X9.out.keep hb); clear hb))
              refine ⟨⟨k1, m', by have := HK1.out; omega, by rw [hk1], F'.out, O'.out, M10.out, X10.out, K10.out⟩, ?_⟩
              rw [hk1]; have := HK1.out; simp only [numOf]; omega
      · go_wp2_with ((with_reducible refine (awake_any wr (HT.out.keep K.out) (HB.out.keep K.out)).mono ?_); rintro e w5 ⟨rfl, hb⟩; have K6 := Lib.hid (K.out.trans (hb.mono K.out.size)); clear hb)
        go_ret
        exact ⟨rfl, K0.out.trans (K6.out.mono K0.out.size)⟩
theorem tells_law (s r l d : Int) (A : Option Addr) (cap : Nat) (cs : List Cl) (w : World) (hT : ErrT w) (hB : Tab w) (hc : CallsAt w A cs) :
    Calls Tryd.prog 4 #[.agg #[.int .i64 s, .int .i64 r, .int .i64 l, .int .i64 d], .slice A cs.length cap] w fun e w' => e = .returned (.bool true) ∧ Below w.heap.size w w' := by
  by_cases hm : Bmay s r l d
  · exact tells_yes s r l d A cap cs w hT hB hc hm
  · exact tells_no s r l d A cap cs w hT hB hc hm
end Go.Proofs.YtdkdgijcoialbaaDoor

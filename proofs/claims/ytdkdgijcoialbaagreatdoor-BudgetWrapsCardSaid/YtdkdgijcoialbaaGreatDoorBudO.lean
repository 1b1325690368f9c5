/- The examples: awake. -/
import Derived.Test.YtdkdgijcoialbaaGreatDoorBudN
namespace Go.Proofs.YtdkdgijcoialbaaGreatDoor
open Go.RowKit

set_option linter.unusedVariables false
set_option linter.unusedSimpArgs false

theorem why_used {g : Nat} {m : Mt} {w : World} {p : ByteArray} {n : Int} (h : MtAt g m w) (h0 : m.out = some (p, n)) :
    Calls Tryz.prog 12 #[.pointer (some ⟨g, 0, none⟩)] w fun e w' => e = .returned (.iface 76 (.agg #[.string p, .int .i64 n])) ∧ w = w' := by
  have := why_any g m w h
  have e : m.why = .iface 76 (.agg #[.string p, .int .i64 n]) := by unfold Mt.why; rw [h0]; rfl
  rwa [e] at this
theorem why_none {g : Nat} {m : Mt} {w : World} (h : MtAt g m w) (h0 : m.out = none) :
    Calls Tryz.prog 12 #[.pointer (some ⟨g, 0, none⟩)] w fun e w' => e = .returned .nilIface ∧ w = w' := by
  have := why_any g m w h
  have e : m.why = .nilIface := by unfold Mt.why; rw [h0]
  rwa [e] at this
theorem ErrIs.used (w : World) (p : ByteArray) (n : Int) : ErrIs w (.iface 76 (.agg #[.string p, .int .i64 n])) [] (.used p n) := .base (.used p n)
theorem part_used {ws : List ByteArray} {p : ByteArray} {n : Int} {v : Value} {w : World} (hT : ErrT w) (he : ErrIs w v ws (.used p n)) (hb : (Base.used p n).ok) :
    Calls Tryz.prog 15 #[v] w fun e w' => e = .returned (.tuple #[.string p, .int .i64 n, .bool true]) ∧ Below w.heap.size w w' := part_any hT he hb
theorem text_eq {ws : List ByteArray} {b : Base} {v : Value} {w : World} (hT : ErrT w) (hB : Tab w) (he : ErrIs w v ws b) (hb : b.ok) (hl : ws.length ≤ 1000) (hs : ∀ s ∈ ws, s.size ≤ 1000) (hbt : b.text.size ≤ 2000) (s : ByteArray) (e : txtOf ws b = s) :
    Calls Tryz.prog 16 #[v] w fun e w' => e = .returned (.string s) ∧ Below w.heap.size w w' := e ▸ text_any hT hB he hb hl hs hbt
theorem pay_eq {g : Nat} {m m' : Mt} {a : At} {w : World} {n r : Int} (h : MtAt g m w) (ha : AtIs w a) (hg : Good m) (hn : (a.most : Int) = n) (e : m.pay n = (m', r)) :
    Calls Tryz.prog 20 #[.pointer (some ⟨g, 0, none⟩), .agg a.cells] w (Paid g m' r w) := by
  have := pay_any g m a w h ha hg n hn
  rwa [e] at this
theorem rows_eq {g : Nat} {m m' : Mt} {w : World} {n r : Int} (h : MtAt g m w) (e : m.rows n = (m', r)) :
    Calls Tryz.prog 22 #[.pointer (some ⟨g, 0, none⟩), .int .i64 n] w (Paid g m' r w) := by
  have := rows_any g m n w h
  rwa [e] at this
theorem deep_eq {g : Nat} {m m' : Mt} {w : World} {n r : Int} (h : MtAt g m w) (e : m.deep n = (m', r)) :
    Calls Tryz.prog 26 #[.pointer (some ⟨g, 0, none⟩), .int .i64 n] w (Paid g m' r w) := by
  have := deep_any g m n w h
  rwa [e] at this
theorem spent_eq {g : Nat} {m : Mt} {w : World} {a b c d : Int} (h : MtAt g m w) (e0 : m.ss = a) (e1 : m.sr = b) (e2 : m.sl = c) (e3 : m.sd = d) :
    Calls Tryz.prog 23 #[.pointer (some ⟨g, 0, none⟩)] w fun e w' => e = .returned (.agg #[.int .i64 a, .int .i64 b, .int .i64 c, .int .i64 d]) ∧ Below w.heap.size w w' := by
  subst e0 e1 e2 e3
  exact spent_any g m w h
theorem MtAt.just {g : Nat} {m : Mt} {w w' : World} (h : MtAt g m w) : g < w.heap.size := h.lt
def mA1 : Mt := ⟨1, 9, 1, 9, 1, 0, 1, 0, none⟩
def mA2 : Mt := ⟨1, 9, 1, 9, 1, 0, 1, 0, some (sName, 1)⟩
theorem okA : (Base.used sName 1).ok := ⟨by kernel_rfl, by decide, by decide, by decide⟩
theorem textA : txtOf [] (.used sName 1) = ⟨#[110, 111, 32, 115, 116, 101, 112, 115, 32, 108, 101, 102, 116, 32, 111, 102, 32, 49]⟩ := by kernel_rfl
theorem textB : txtOf [⟨#[102, 109]⟩] (.used sName 1) = ⟨#[102, 109, 58, 32, 110, 111, 32, 115, 116, 101, 112, 115, 32, 108, 101, 102, 116, 32, 111, 102, 32, 49]⟩ := by kernel_rfl
theorem payA : (Mt.new 1 9 1 9).pay 1 = (mA1, 0) := by rfl
theorem payB : mA1.pay 1 = (mA2, 46) := by rfl
theorem rowsB : mA2.rows 9 = (mA2, 46) := by rfl
theorem goodA : Good (Mt.new 1 9 1 9) := Good.new (by decide)
theorem goodB : Good mA1 := by unfold Good mA1; decide
theorem text_small {b : Base} (h : b.ok) : b.text.size ≤ 2000 := by
  cases b with
  | used p m =>
    have h1 := itoaS_size m h.2.2.1 h.2.2.2
    have h2 := h.2.1
    show (usedS p m).size ≤ 2000
    unfold usedS
    rw [size_add, size_add, size_add]
    have l1 : (⟨#[110, 111, 32]⟩ : ByteArray).size = 3 := rfl
    have l2 : (⟨#[32, 108, 101, 102, 116, 32, 111, 102, 32]⟩ : ByteArray).size = 9 := rfl
    omega
  | num n =>
    have h1 := itoaS_size n h.1 h.2
    show (numS n).size ≤ 2000
    unfold numS
    rw [size_add]
    have l1 : (⟨#[97, 108, 105, 100, 97, 100, 101, 58, 32, 101, 114, 114, 111, 114, 32]⟩ : ByteArray).size = 15 := rfl
    omega
theorem smallA : (Base.text (.used sName 1)).size ≤ 2000 := text_small okA
theorem one_lit (k : Nat) (z : Int) (hz : (k : Int) = z) (w : World) (hk : k ≤ 10) :
    Calls Tryz.prog 21 #[.int .i64 z] w (OnePost k w) := hz ▸ one_any k w hk
theorem fmSmall : ∀ s ∈ [(⟨#[102, 109]⟩ : ByteArray)], s.size ≤ 1000 := by
  intro s hs
  obtain rfl := List.mem_singleton.1 hs
  decide
set_option maxRecDepth 100000 in
set_option maxHeartbeats 8000000 in
theorem awake_any (w : World) (hT : ErrT w) (hB : Tab w) :
    Calls Tryz.prog 5 #[] w fun e w' => e = .returned (.bool true) ∧ Below w.heap.size w w' := by
  have HT := Lib.hid hT
  have HB := Lib.hid hB
  have c1 := Lib.hid (new_yes 1 9 1 9 w (by decide))
  clear hT hB
  go_enter Tryz.func5, Tryz.ntmps5
  go_wp2_with (first
    | ((with_reducible refine (c1.out).mono ?_); rintro e w1 ⟨g, hg, rfl, hm, hb⟩; have HG := Lib.hid hg; have M1 := Lib.hid hm; have K1 := Lib.hid hb; clear hg hm hb)
    | ((with_reducible refine (one_lit 1 1 rfl w1 (by decide)).mono ?_); rintro e w2 ⟨a1, rfl, ha, hn, hb⟩; have K2 := Lib.hid (K1.out.trans (hb.mono K1.out.size)); have M2 := Lib.hid (M1.out.keep hb); clear hb; have A1 := Lib.hid ha; have N1 := Lib.hid hn; clear ha hn)
    | ((with_reducible refine (pay_eq M2.out A1.out goodA N1.out payA).mono ?_); rintro e w3 ⟨rfl, hm, hj⟩; have K3 := Lib.hid (K2.out.trans (hj.below HG.out K2.out.size)); have M3 := Lib.hid hm; clear hj hm)
    | ((with_reducible refine (one_lit 1 1 rfl w3 (by decide)).mono ?_); rintro e w4 ⟨a2, rfl, ha, hn, hb⟩; have K4 := Lib.hid (K3.out.trans (hb.mono K3.out.size)); have M4 := Lib.hid (M3.out.keep hb); clear hb; have A2 := Lib.hid ha; have N2 := Lib.hid hn; clear ha hn)
    | ((with_reducible refine (pay_eq M4.out A2.out goodB N2.out payB).mono ?_); rintro e w5 ⟨rfl, hm, hj⟩; have K5 := Lib.hid (K4.out.trans (hj.below HG.out K4.out.size)); have M5 := Lib.hid hm; clear hj hm)
    | ((with_reducible refine (rows_eq M5.out rowsB).mono ?_); rintro e w6 ⟨rfl, hm, hj⟩; have K6 := Lib.hid (K5.out.trans (hj.below HG.out K5.out.size)); have M6 := Lib.hid hm; clear hj hm)
    | ((with_reducible refine (why_used M6.out rfl).mono ?_); rintro e w' ⟨rfl, rfl⟩)
    | ((with_reducible refine (part_used (HT.out.keep K6.out) (ErrIs.used w6 sName 1) okA).mono ?_); rintro e w7 ⟨rfl, hb⟩; have K7 := Lib.hid (K6.out.trans (hb.mono K6.out.size)); have M7 := Lib.hid (M6.out.keep hb); clear hb)
    | ((with_reducible refine (why_used M7.out rfl).mono ?_); rintro e w' ⟨rfl, rfl⟩)
    | ((with_reducible refine (text_eq (HT.out.keep K7.out) (HB.out.keep K7.out) (ErrIs.used w7 sName 1) okA (by decide) (by simp) smallA _ textA).mono ?_); rintro e w8 ⟨rfl, hb⟩; have K8 := Lib.hid (K7.out.trans (hb.mono K7.out.size)); have M8 := Lib.hid (M7.out.keep hb); clear hb)
    | ((with_reducible refine (why_used M8.out rfl).mono ?_); rintro e w' ⟨rfl, rfl⟩)
    | ((with_reducible refine (wrap_any ⟨#[102, 109]⟩ (ErrIs.used w8 sName 1)).mono ?_); rintro e w9 ⟨v9, rfl, he, hb⟩; have K9 := Lib.hid (K8.out.trans (hb.mono K8.out.size)); have M9 := Lib.hid (M8.out.keep hb); clear hb; have E9 := Lib.hid he; clear he)
    | ((with_reducible refine (text_eq (HT.out.keep K9.out) (HB.out.keep K9.out) E9.out okA (by decide) fmSmall smallA _ textB).mono ?_); rintro e w10 ⟨rfl, hb⟩; have K10 := Lib.hid (K9.out.trans (hb.mono K9.out.size)); have M10 := Lib.hid (M9.out.keep hb); clear hb)
    | ((with_reducible refine (spent_eq M10.out (a := 1) (b := 0) (c := 1) (d := 0) rfl rfl rfl rfl).mono ?_); rintro e w11 ⟨rfl, hb⟩; have K11 := Lib.hid (K10.out.trans (hb.mono K10.out.size)); have M11 := Lib.hid (M10.out.keep hb); clear hb))
  go_ret
  exact ⟨rfl, K11.out⟩
end Go.Proofs.YtdkdgijcoialbaaGreatDoor

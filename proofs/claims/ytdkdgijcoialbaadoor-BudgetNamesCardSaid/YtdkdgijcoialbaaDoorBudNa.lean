/- BudgetNames. -/
import Derived.Test.YtdkdgijcoialbaaDoorBudO
import Derived.Test.YtdkdgijcoialbaaDoorBudIs
import Derived.Deep.RegionHeld3
namespace Go.Proofs.YtdkdgijcoialbaaDoor
open Go.RowKit

set_option linter.unusedVariables false
set_option linter.unusedSimpArgs false

theorem mayb_lit (s r l d : Int) (w : World) (b : Bool) (h : decide (Bmay s r l d) = b) :
    Calls Tryd.prog 9 #[.agg #[.int .i64 s, .int .i64 r, .int .i64 l, .int .i64 d]] w fun e w' => e = .returned (.bool b) ∧ Below w.heap.size w w' := by
  have := may_any s r l d w
  rwa [h] at this
set_option maxRecDepth 100000 in
set_option maxHeartbeats 4000000 in
theorem pay_nil (a : At) (w : World) :
    Calls Tryd.prog 11 #[.pointer none, .agg a.cells] w fun e w' => e = .returned (.int .i64 2) ∧ Below w.heap.size w w' := by
  obtain ⟨kind, P, pc, n1, A1, la, c1, n2, A2, lm, c2, ls⟩ := a
  simp only [At.cells] at *
  go_enter Tryd.func11, Tryd.ntmps11
  obtain ⟨W, hW⟩ : ∃ W, w.alloc (.cells #[.int .u8 kind, .slice P ls.length pc, .bool n1, .slice A1 la c1, .bool n2, .slice A2 lm c2] 39) = W := ⟨_, rfl⟩
  have HB := Lib.hid (show Below w.heap.size w W from hW ▸ (Below.refl _ w).alloc (Nat.le_refl _) _)
  have c := Lib.hid (over_nil W)
  go_wp2_with ((with_reducible refine c.out.mono ?_); rintro e w1 ⟨rfl, rfl⟩)
  go_ret
  exact ⟨rfl, HB.out⟩
theorem top_max (ls : List Nat) : ∀ n, top ls n = max n (top ls 0) := by
  induction ls with
  | nil => intro n; simp [top]
  | cons x r ih =>
    intro n
    have h1 : top (x :: r) n = top r (max n x) := rfl
    have h2 : top (x :: r) 0 = top r (max 0 x) := rfl
    rw [h1, h2, ih (max n x), ih (max 0 x)]
    omega
theorem at_add {w : World} {k : Int} {P : Option Addr} {pc la c lm d : Nat} {n m : Bool} {A Q A' : Option Addr} {ls : List Nat} (h : AtIs w ⟨k, P, pc, n, A, la, c, m, Q, lm, d, ls⟩) (h1 : ((⟨k, P, pc, n, A, la, c, m, Q, lm, d, ls⟩ : At).most : Int) = 1) :
    AtIs w ⟨k, P, pc, n, A', 2, 2, m, Q, lm, d, ls⟩ ∧ ((⟨k, P, pc, n, A', 2, 2, m, Q, lm, d, ls⟩ : At).most : Int) = 2 := by
  have e : (⟨k, P, pc, n, A', 2, 2, m, Q, lm, d, ls⟩ : At).most = 2 := by
    unfold At.most at h1 ⊢
    simp only at h1 ⊢
    rw [top_max] at h1 ⊢
    omega
  exact ⟨⟨h.1, h.2.1, by rw [e]; omega⟩, by rw [e]; rfl⟩
theorem at_mod {w : World} {k : Int} {P : Option Addr} {pc la c lm d : Nat} {n m : Bool} {A Q Q' : Option Addr} {ls : List Nat} (h : AtIs w ⟨k, P, pc, n, A, la, c, m, Q, lm, d, ls⟩) (h1 : ((⟨k, P, pc, n, A, la, c, m, Q, lm, d, ls⟩ : At).most : Int) = 1) :
    AtIs w ⟨k, P, pc, n, A, la, c, m, Q', 2, 2, ls⟩ ∧ ((⟨k, P, pc, n, A, la, c, m, Q', 2, 2, ls⟩ : At).most : Int) = 2 := by
  have e : (⟨k, P, pc, n, A, la, c, m, Q', 2, 2, ls⟩ : At).most = 2 := by
    unfold At.most at h1 ⊢
    simp only at h1 ⊢
    rw [top_max] at h1 ⊢
    omega
  exact ⟨⟨h.1, h.2.1, by rw [e]; omega⟩, by rw [e]; rfl⟩
theorem mt_nobool {m : Mt} {i : Nat} {b : Bool} (h : m.cells[i]? = some (.bool b)) : False := by
  unfold Mt.cells Mt.why at h
  match i with
  | 0 | 1 | 2 | 3 | 4 | 5 | 6 | 7 => simp at h
  | 8 => cases h0 : m.out <;> simp [h0, Base.val] at h
  | i + 9 => simp at h
/-- what an atom's numbers are stands where no meter stands -/
theorem AtIs.just {g : Nat} {m : Mt} {w w' : World} {a : At} (h : AtIs w a) (hm : MtAt g m w) (hj : Just g w w') : AtIs w' a := by
  refine ⟨⟨h.1.1, fun hn => ?_⟩, h.2⟩
  obtain ⟨b, off, e, hlt, hc⟩ := h.1.2 hn
  have hne : b ≠ g := by
    rintro rfl
    obtain ⟨v, n, A, c, h1, h2, h3⟩ := hc 0 hn
    rw [cell_of hm] at h2
    exact mt_nobool h2
  have hk : ∀ o, w'.cell? ⟨b, o, none⟩ = w.cell? ⟨b, o, none⟩ := fun o => by simp [World.cell?, hj.block b hlt hne]
  exact ⟨b, off, e, Nat.lt_of_lt_of_le hlt hj.size, fun j hj' => by simp only [hk]; exact hc j hj'⟩
theorem fourB (w : World) (c1 c2 c3 c4 : Array Value) (t1 t2 t3 t4 : TypeId) : Below w.heap.size w ((((w.alloc (.cells c1 t1)).alloc (.cells c2 t2)).alloc (.cells c3 t3)).alloc (.cells c4 t4)) :=
  ((((Below.refl _ w).alloc (Nat.le_refl _) _).alloc (by simp) _).alloc (by simp; omega) _).alloc (by simp; omega) _
theorem four1 (w : World) (c1 c2 c3 c4 : Array Value) (t1 t2 t3 t4 : TypeId) : ((((w.alloc (.cells c1 t1)).alloc (.cells c2 t2)).alloc (.cells c3 t3)).alloc (.cells c4 t4)).heap[w.heap.size]? = some (.cells c1 t1 (0, 0)) :=
  lone_old _ (lone_old _ (lone_old _ (lone_new _ _ _)))
theorem four2 (w : World) (c1 c2 c3 c4 : Array Value) (t1 t2 t3 t4 : TypeId) : ((((w.alloc (.cells c1 t1)).alloc (.cells c2 t2)).alloc (.cells c3 t3)).alloc (.cells c4 t4)).heap[w.heap.size + 1]? = some (.cells c2 t2 (0, 0)) :=
  lone_old _ (lone_old _ (lone_new_at (w.alloc (.cells c1 t1)) c2 t2 (w.heap.size + 1) (World.size_alloc _ _)))
theorem heap_just {g k : Nat} {w w' : World} {o : Obj} (h : w.heap[k]? = some o) (hj : Just g w w') (hn : k ≠ g) : w'.heap[k]? = some o := (hj.block k (Array.getElem?_eq_some_iff.1 h).1 hn).trans h
theorem heap_keep {k : Nat} {w w' : World} {o : Obj} (h : w.heap[k]? = some o) (hb : Below w.heap.size w w') : w'.heap[k]? = some o := (hb.block k (Array.getElem?_eq_some_iff.1 h).1).trans h
theorem pay_lit {g : Nat} {m m' : Mt} {k : Int} {P : Option Addr} {pc la c lm d : Nat} {n p : Bool} {A Q : Option Addr} {ls : List Nat} {w : World} {z r : Int} (h : MtAt g m w) (ha : AtIs w ⟨k, P, pc, n, A, la, c, p, Q, lm, d, ls⟩) (hg : Good m) (hn : ((⟨k, P, pc, n, A, la, c, p, Q, lm, d, ls⟩ : At).most : Int) = z) (e : m.pay z = (m', r)) :
    Calls Tryd.prog 11 #[.pointer (some ⟨g, 0, none⟩), .agg #[.int .u8 k, .slice P ls.length pc, .bool n, .slice A la c, .bool p, .slice Q lm d]] w (Paid g m' r w) := by
  have h2 := pay_eq (a := ⟨k, P, pc, n, A, la, c, p, Q, lm, d, ls⟩) h ha hg hn e
  simpa only [At.cells] using h2
theorem errNum (w : World) (n : Int) : ErrIs w (.iface 28 (.int .i64 n)) [] (.num n) := .base (.num n)
theorem words2 {w : World} {B n cap : Nat} {A : Option Addr} {a b : ByteArray} (h : OwnS w B (.slice A n cap) [a, b]) : ∃ g, A = some ⟨g, 0, none⟩ ∧ g < w.heap.size ∧ w.cell? ⟨g, 0, none⟩ = some (.string a) ∧ w.cell? ⟨g, 1, none⟩ = some (.string b) := by
  obtain ⟨g, s, e, h1, h2⟩ := h.cell (j := 0) (by simp)
  obtain ⟨g', s', e', h1', h2'⟩ := h.cell (j := 1) (by simp)
  have hg : g' = g := by rw [e] at e'; simp at e'; exact e'.symm
  subst hg
  simp at h1 h1'
  subst h1 h1'
  refine ⟨g', e, ?_, h2, h2'⟩
  rcases Nat.lt_or_ge g' w.heap.size with hl | hl
  · exact hl
  · simp [World.cell?, Array.getElem?_eq_none hl] at h2
/-! ## the walk -/
theorem ok_sName : (Base.used sName 2).ok := ⟨by kernel_rfl, by decide, by decide, by decide⟩
theorem ok_rName : (Base.used rName 3).ok := ⟨by kernel_rfl, by decide, by decide, by decide⟩
theorem ok_lName : (Base.used lName 4).ok := ⟨by kernel_rfl, by decide, by decide, by decide⟩
theorem ok_dName : (Base.used dName 5).ok := ⟨by kernel_rfl, by decide, by decide, by decide⟩
theorem okNum41 : (Base.num 41).ok := ⟨by decide, by decide⟩
theorem textN : txtOf [⟨#[111, 117, 116]⟩, ⟨#[105, 110]⟩] (.num 41) = ⟨#[111, 117, 116, 58, 32, 105, 110, 58, 32, 97, 108, 105, 100, 97, 100, 101, 58, 32, 101, 114, 114, 111, 114, 32, 52, 49]⟩ := by kernel_rfl
theorem smallN : (Base.text (.num 41)).size ≤ 2000 := text_small okNum41
theorem smallW : ∀ s ∈ [(⟨#[111, 117, 116]⟩ : ByteArray), ⟨#[105, 110]⟩], s.size ≤ 1000 := by
  intro s hs
  simp only [List.mem_cons, List.not_mem_nil, or_false] at hs
  rcases hs with rfl | rfl <;> decide
set_option maxRecDepth 100000 in
set_option maxHeartbeats 32000000 in
theorem names_any (w : World) (hT : ErrT w) (hB : Tab w) :
    Calls Tryd.prog 3 #[] w fun e w' => e = .returned (.bool true) ∧ Below w.heap.size w w' := by
  have HT := Lib.hid hT
  have HB := Lib.hid hB
  clear hT hB
  go_enter Tryd.func3, Tryd.ntmps3
  go_wp2_with (first
    | ((with_reducible refine (awake_any w HT.out HB.out).mono ?_); rintro e w1 ⟨rfl, hb⟩; have K1 := Lib.hid hb; clear hb)
    | ((with_reducible refine (widest_any w1).mono ?_); rintro e w2 ⟨rfl, hb⟩; have K2 := Lib.hid (K1.out.trans (hb.mono K1.out.size)); have K3 := Lib.hid (K2.out.alloc K2.out.size (.cells #[.int .i64 1099511627776, .int .i64 1048576, .int .i64 65536, .int .i64 65536] 24)); clear hb)
    | ((with_reducible refine (mayb_lit 1099511627776 1048576 65536 65536 _ true (by decide)).mono ?_); rintro e w4 ⟨rfl, hb⟩; have K4 := Lib.hid (K3.out.trans (hb.mono K3.out.size)); clear hb)
    | ((with_reducible refine (mayb_lit 0 0 0 0 w4 true (by decide)).mono ?_); rintro e w5 ⟨rfl, hb⟩; have K5 := Lib.hid (K4.out.trans (hb.mono K4.out.size)); clear hb))
  go_loopw [2] (fun i wr => ∃ k : Nat, k ≤ 8 ∧ i = .int .i64 (k : Int) ∧ Below w.heap.size w wr) (fun i _ => (8 - numOf i).toNat)
  case atStart => exact ⟨0, by omega, rfl, K5.out⟩
  case round =>
    obtain ⟨k, hk, rfl, hb⟩ := hrel
    have K := Lib.hid hb
    clear hb K1 K2 K3 K4 K5
    have hk' : k = 0 ∨ k = 1 ∨ k = 2 ∨ k = 3 ∨ k = 4 ∨ k = 5 ∨ k = 6 ∨ k = 7 ∨ k = 8 := by omega
    clear hk
    rcases hk' with rfl | rfl | rfl | rfl | rfl | rfl | rfl | rfl | rfl
    · have K3 := Lib.hid (K.out.alloc K.out.size (.cells #[.int .i64 (-1), .int .i64 5, .int .i64 5, .int .i64 5] 24))
      have XB := Lib.hid (lone_new wr #[.int .i64 (-1), .int .i64 (5), .int .i64 (5), .int .i64 (5)] 24)
      go_wp2_with (first
        | ((with_reducible refine (new_no (-1) 5 5 5 _ (by decide)).mono ?_); rintro e w4 ⟨rfl, hb⟩; have K4 := Lib.hid (K3.out.trans (hb.mono K3.out.size)); have hc := (hb.block wr.heap.size (by simp)).trans XB.out; have q0 : w4.cell? ⟨wr.heap.size, 0, none⟩ = some (.int .i64 (-1)) := (cell_of hc 0).trans rfl; have q1 : w4.cell? ⟨wr.heap.size, 1, none⟩ = some (.int .i64 (5)) := (cell_of hc 1).trans rfl; have q2 : w4.cell? ⟨wr.heap.size, 2, none⟩ = some (.int .i64 (5)) := (cell_of hc 2).trans rfl; have q3 : w4.cell? ⟨wr.heap.size, 3, none⟩ = some (.int .i64 (5)) := (cell_of hc 3).trans rfl; clear hc; clear hb)
        | ((with_reducible refine (mayb_lit (-1) 5 5 5 w4 false (by decide)).mono ?_); rintro e w5 ⟨rfl, hb⟩; have K5 := Lib.hid (K4.out.trans (hb.mono K4.out.size)); clear hb))
      exact ⟨⟨1, by omega, rfl, K5.out⟩, by simp [numOf]⟩
    · have K3 := Lib.hid (K.out.alloc K.out.size (.cells #[.int .i64 1099511627777, .int .i64 5, .int .i64 5, .int .i64 5] 24))
      have XB := Lib.hid (lone_new wr #[.int .i64 (1099511627777), .int .i64 (5), .int .i64 (5), .int .i64 (5)] 24)
      go_wp2_with (first
        | ((with_reducible refine (new_no 1099511627777 5 5 5 _ (by decide)).mono ?_); rintro e w4 ⟨rfl, hb⟩; have K4 := Lib.hid (K3.out.trans (hb.mono K3.out.size)); have hc := (hb.block wr.heap.size (by simp)).trans XB.out; have q0 : w4.cell? ⟨wr.heap.size, 0, none⟩ = some (.int .i64 (1099511627777)) := (cell_of hc 0).trans rfl; have q1 : w4.cell? ⟨wr.heap.size, 1, none⟩ = some (.int .i64 (5)) := (cell_of hc 1).trans rfl; have q2 : w4.cell? ⟨wr.heap.size, 2, none⟩ = some (.int .i64 (5)) := (cell_of hc 2).trans rfl; have q3 : w4.cell? ⟨wr.heap.size, 3, none⟩ = some (.int .i64 (5)) := (cell_of hc 3).trans rfl; clear hc; clear hb)
        | ((with_reducible refine (mayb_lit 1099511627777 5 5 5 w4 false (by decide)).mono ?_); rintro e w5 ⟨rfl, hb⟩; have K5 := Lib.hid (K4.out.trans (hb.mono K4.out.size)); clear hb))
      exact ⟨⟨2, by omega, rfl, K5.out⟩, by simp [numOf]⟩
    · have K3 := Lib.hid (K.out.alloc K.out.size (.cells #[.int .i64 5, .int .i64 (-1), .int .i64 5, .int .i64 5] 24))
      have XB := Lib.hid (lone_new wr #[.int .i64 (5), .int .i64 (-1), .int .i64 (5), .int .i64 (5)] 24)
      go_wp2_with (first
        | ((with_reducible refine (new_no 5 (-1) 5 5 _ (by decide)).mono ?_); rintro e w4 ⟨rfl, hb⟩; have K4 := Lib.hid (K3.out.trans (hb.mono K3.out.size)); have hc := (hb.block wr.heap.size (by simp)).trans XB.out; have q0 : w4.cell? ⟨wr.heap.size, 0, none⟩ = some (.int .i64 (5)) := (cell_of hc 0).trans rfl; have q1 : w4.cell? ⟨wr.heap.size, 1, none⟩ = some (.int .i64 (-1)) := (cell_of hc 1).trans rfl; have q2 : w4.cell? ⟨wr.heap.size, 2, none⟩ = some (.int .i64 (5)) := (cell_of hc 2).trans rfl; have q3 : w4.cell? ⟨wr.heap.size, 3, none⟩ = some (.int .i64 (5)) := (cell_of hc 3).trans rfl; clear hc; clear hb)
        | ((with_reducible refine (mayb_lit 5 (-1) 5 5 w4 false (by decide)).mono ?_); rintro e w5 ⟨rfl, hb⟩; have K5 := Lib.hid (K4.out.trans (hb.mono K4.out.size)); clear hb))
      exact ⟨⟨3, by omega, rfl, K5.out⟩, by simp [numOf]⟩
    · have K3 := Lib.hid (K.out.alloc K.out.size (.cells #[.int .i64 5, .int .i64 1048577, .int .i64 5, .int .i64 5] 24))
      have XB := Lib.hid (lone_new wr #[.int .i64 (5), .int .i64 (1048577), .int .i64 (5), .int .i64 (5)] 24)
      go_wp2_with (first
        | ((with_reducible refine (new_no 5 1048577 5 5 _ (by decide)).mono ?_); rintro e w4 ⟨rfl, hb⟩; have K4 := Lib.hid (K3.out.trans (hb.mono K3.out.size)); have hc := (hb.block wr.heap.size (by simp)).trans XB.out; have q0 : w4.cell? ⟨wr.heap.size, 0, none⟩ = some (.int .i64 (5)) := (cell_of hc 0).trans rfl; have q1 : w4.cell? ⟨wr.heap.size, 1, none⟩ = some (.int .i64 (1048577)) := (cell_of hc 1).trans rfl; have q2 : w4.cell? ⟨wr.heap.size, 2, none⟩ = some (.int .i64 (5)) := (cell_of hc 2).trans rfl; have q3 : w4.cell? ⟨wr.heap.size, 3, none⟩ = some (.int .i64 (5)) := (cell_of hc 3).trans rfl; clear hc; clear hb)
        | ((with_reducible refine (mayb_lit 5 1048577 5 5 w4 false (by decide)).mono ?_); rintro e w5 ⟨rfl, hb⟩; have K5 := Lib.hid (K4.out.trans (hb.mono K4.out.size)); clear hb))
      exact ⟨⟨4, by omega, rfl, K5.out⟩, by simp [numOf]⟩
    · have K3 := Lib.hid (K.out.alloc K.out.size (.cells #[.int .i64 5, .int .i64 5, .int .i64 (-1), .int .i64 5] 24))
      have XB := Lib.hid (lone_new wr #[.int .i64 (5), .int .i64 (5), .int .i64 (-1), .int .i64 (5)] 24)
      go_wp2_with (first
        | ((with_reducible refine (new_no 5 5 (-1) 5 _ (by decide)).mono ?_); rintro e w4 ⟨rfl, hb⟩; have K4 := Lib.hid (K3.out.trans (hb.mono K3.out.size)); have hc := (hb.block wr.heap.size (by simp)).trans XB.out; have q0 : w4.cell? ⟨wr.heap.size, 0, none⟩ = some (.int .i64 (5)) := (cell_of hc 0).trans rfl; have q1 : w4.cell? ⟨wr.heap.size, 1, none⟩ = some (.int .i64 (5)) := (cell_of hc 1).trans rfl; have q2 : w4.cell? ⟨wr.heap.size, 2, none⟩ = some (.int .i64 (-1)) := (cell_of hc 2).trans rfl; have q3 : w4.cell? ⟨wr.heap.size, 3, none⟩ = some (.int .i64 (5)) := (cell_of hc 3).trans rfl; clear hc; clear hb)
        | ((with_reducible refine (mayb_lit 5 5 (-1) 5 w4 false (by decide)).mono ?_); rintro e w5 ⟨rfl, hb⟩; have K5 := Lib.hid (K4.out.trans (hb.mono K4.out.size)); clear hb))
      exact ⟨⟨5, by omega, rfl, K5.out⟩, by simp [numOf]⟩
    · have K3 := Lib.hid (K.out.alloc K.out.size (.cells #[.int .i64 5, .int .i64 5, .int .i64 65537, .int .i64 5] 24))
      have XB := Lib.hid (lone_new wr #[.int .i64 (5), .int .i64 (5), .int .i64 (65537), .int .i64 (5)] 24)
      go_wp2_with (first
        | ((with_reducible refine (new_no 5 5 65537 5 _ (by decide)).mono ?_); rintro e w4 ⟨rfl, hb⟩; have K4 := Lib.hid (K3.out.trans (hb.mono K3.out.size)); have hc := (hb.block wr.heap.size (by simp)).trans XB.out; have q0 : w4.cell? ⟨wr.heap.size, 0, none⟩ = some (.int .i64 (5)) := (cell_of hc 0).trans rfl; have q1 : w4.cell? ⟨wr.heap.size, 1, none⟩ = some (.int .i64 (5)) := (cell_of hc 1).trans rfl; have q2 : w4.cell? ⟨wr.heap.size, 2, none⟩ = some (.int .i64 (65537)) := (cell_of hc 2).trans rfl; have q3 : w4.cell? ⟨wr.heap.size, 3, none⟩ = some (.int .i64 (5)) := (cell_of hc 3).trans rfl; clear hc; clear hb)
        | ((with_reducible refine (mayb_lit 5 5 65537 5 w4 false (by decide)).mono ?_); rintro e w5 ⟨rfl, hb⟩; have K5 := Lib.hid (K4.out.trans (hb.mono K4.out.size)); clear hb))
      exact ⟨⟨6, by omega, rfl, K5.out⟩, by simp [numOf]⟩
    · have K3 := Lib.hid (K.out.alloc K.out.size (.cells #[.int .i64 5, .int .i64 5, .int .i64 5, .int .i64 (-1)] 24))
      have XB := Lib.hid (lone_new wr #[.int .i64 (5), .int .i64 (5), .int .i64 (5), .int .i64 (-1)] 24)
      go_wp2_with (first
        | ((with_reducible refine (new_no 5 5 5 (-1) _ (by decide)).mono ?_); rintro e w4 ⟨rfl, hb⟩; have K4 := Lib.hid (K3.out.trans (hb.mono K3.out.size)); have hc := (hb.block wr.heap.size (by simp)).trans XB.out; have q0 : w4.cell? ⟨wr.heap.size, 0, none⟩ = some (.int .i64 (5)) := (cell_of hc 0).trans rfl; have q1 : w4.cell? ⟨wr.heap.size, 1, none⟩ = some (.int .i64 (5)) := (cell_of hc 1).trans rfl; have q2 : w4.cell? ⟨wr.heap.size, 2, none⟩ = some (.int .i64 (5)) := (cell_of hc 2).trans rfl; have q3 : w4.cell? ⟨wr.heap.size, 3, none⟩ = some (.int .i64 (-1)) := (cell_of hc 3).trans rfl; clear hc; clear hb)
        | ((with_reducible refine (mayb_lit 5 5 5 (-1) w4 false (by decide)).mono ?_); rintro e w5 ⟨rfl, hb⟩; have K5 := Lib.hid (K4.out.trans (hb.mono K4.out.size)); clear hb))
      exact ⟨⟨7, by omega, rfl, K5.out⟩, by simp [numOf]⟩
    · have K3 := Lib.hid (K.out.alloc K.out.size (.cells #[.int .i64 5, .int .i64 5, .int .i64 5, .int .i64 65537] 24))
      have XB := Lib.hid (lone_new wr #[.int .i64 (5), .int .i64 (5), .int .i64 (5), .int .i64 (65537)] 24)
      go_wp2_with (first
        | ((with_reducible refine (new_no 5 5 5 65537 _ (by decide)).mono ?_); rintro e w4 ⟨rfl, hb⟩; have K4 := Lib.hid (K3.out.trans (hb.mono K3.out.size)); have hc := (hb.block wr.heap.size (by simp)).trans XB.out; have q0 : w4.cell? ⟨wr.heap.size, 0, none⟩ = some (.int .i64 (5)) := (cell_of hc 0).trans rfl; have q1 : w4.cell? ⟨wr.heap.size, 1, none⟩ = some (.int .i64 (5)) := (cell_of hc 1).trans rfl; have q2 : w4.cell? ⟨wr.heap.size, 2, none⟩ = some (.int .i64 (5)) := (cell_of hc 2).trans rfl; have q3 : w4.cell? ⟨wr.heap.size, 3, none⟩ = some (.int .i64 (65537)) := (cell_of hc 3).trans rfl; clear hc; clear hb)
        | ((with_reducible refine (mayb_lit 5 5 5 65537 w4 false (by decide)).mono ?_); rintro e w5 ⟨rfl, hb⟩; have K5 := Lib.hid (K4.out.trans (hb.mono K4.out.size)); clear hb))
      exact ⟨⟨8, by omega, rfl, K5.out⟩, by simp [numOf]⟩
    · skip
      go_wp2_with (first
        | ((with_reducible refine (one_lit 1 1 rfl wr (by decide)).mono ?_); rintro e w1 ⟨a1, rfl, ha, hn, hb⟩; have K1 := Lib.hid (K.out.trans (hb.mono K.out.size)); clear hb ha hn)
        | ((with_reducible refine (pay_nil a1 w1).mono ?_); rintro e w2 ⟨rfl, hb⟩; have K2 := Lib.hid (K1.out.trans (hb.mono K1.out.size)); clear hb)
        | ((with_reducible refine (rows_nil 0 w2).mono ?_); rintro e w3 ⟨rfl, rfl⟩; skip)
        | ((with_reducible refine (deep_nil 0 w2).mono ?_); rintro e w3 ⟨rfl, rfl⟩; skip)
        | ((with_reducible refine (spent_nil w2).mono ?_); rintro e w4 ⟨rfl, hb⟩; have K4 := Lib.hid (K2.out.trans (hb.mono K2.out.size)); clear hb)
        | ((with_reducible refine (why_nil w4).mono ?_); rintro e w5 ⟨rfl, rfl⟩; skip))
      have K6 := Lib.hid (K4.out.alloc K4.out.size (.cells #[.string ⟨#[115, 116, 101, 112, 115]⟩, .string ⟨#[114, 111, 119, 115]⟩, .string ⟨#[108, 105, 109, 98, 115]⟩, .string ⟨#[100, 101, 112, 116, 104]⟩] 9))
      have X6 := Lib.hid (lone_new w4 #[.string ⟨#[115, 116, 101, 112, 115]⟩, .string ⟨#[114, 111, 119, 115]⟩, .string ⟨#[108, 105, 109, 98, 115]⟩, .string ⟨#[100, 101, 112, 116, 104]⟩] 9)
      go_loopw [119] (fun i wr => ∃ k : Nat, k ≤ 4 ∧ i = .int .i64 (k : Int) ∧ Below w.heap.size w wr ∧ wr.heap[w4.heap.size]? = some (.cells #[.string ⟨#[115, 116, 101, 112, 115]⟩, .string ⟨#[114, 111, 119, 115]⟩, .string ⟨#[108, 105, 109, 98, 115]⟩, .string ⟨#[100, 101, 112, 116, 104]⟩] 9 (0, 0))) (fun i _ => (4 - numOf i).toNat)
      case atStart => exact ⟨0, by omega, rfl, K6.out, X6.out⟩
      case round =>
        obtain ⟨k, hk, rfl, hb, hx⟩ := hrel
        have K := Lib.hid hb
        have X := Lib.hid hx
        have S0 : wr.cell? ⟨w4.heap.size, 0, none⟩ = some (.string sName) := (cell_of hx 0).trans rfl
        have S1 : wr.cell? ⟨w4.heap.size, 1, none⟩ = some (.string rName) := (cell_of hx 1).trans rfl
        have S2 : wr.cell? ⟨w4.heap.size, 2, none⟩ = some (.string lName) := (cell_of hx 2).trans rfl
        have S3 : wr.cell? ⟨w4.heap.size, 3, none⟩ = some (.string dName) := (cell_of hx 3).trans rfl
        have HTr := Lib.hid (HT.out.keep hb)
        have HBr := Lib.hid (HB.out.keep hb)
        clear hb hx K6 X6
        have hk' : k = 0 ∨ k = 1 ∨ k = 2 ∨ k = 3 ∨ k = 4 := by omega
        clear hk
        rcases hk' with rfl | rfl | rfl | rfl | rfl
        · skip
          go_wp2_with (first
            | ((with_reducible refine (new_yes 2 3 4 5 wr (by decide)).mono ?_); rintro e w10 ⟨g, hg, rfl, hm, hb⟩; have HG := Lib.hid hg; have M10 := Lib.hid hm; have K10 := Lib.hid hb; clear hg hm hb)
            | ((with_reducible refine (one_lit 4 4 rfl w10 (by decide)).mono ?_); rintro e w11 ⟨a11, rfl, ha, hn, hb⟩; have K11 := Lib.hid (K10.out.trans (hb.mono K10.out.size)); have M11 := Lib.hid (M10.out.keep hb); clear hb; have A11 := Lib.hid ha; have N11 := Lib.hid hn; clear ha hn)
            | ((with_reducible refine (pay_eq (m := (⟨2, 3, 4, 5, 0, 0, 0, 0, none⟩ : Mt)) (m' := (⟨2, 3, 4, 5, 1, 0, 4, 0, none⟩ : Mt)) M11.out A11.out (by unfold Good; decide) N11.out rfl).mono ?_); rintro e w12 ⟨rfl, hm, hj⟩; have K12 := Lib.hid (K11.out.trans (hj.below HG.out K11.out.size)); have M12 := Lib.hid hm; clear hj hm)
            | ((with_reducible refine (one_lit 0 0 rfl w12 (by decide)).mono ?_); rintro e w13 ⟨a12, rfl, ha, hn, hb⟩; have K13 := Lib.hid (K12.out.trans (hb.mono K12.out.size)); have M13 := Lib.hid (M12.out.keep hb); clear hb; have A12 := Lib.hid ha; have N12 := Lib.hid hn; clear ha hn)
            | ((with_reducible refine (pay_eq (m := (⟨2, 3, 4, 5, 1, 0, 4, 0, none⟩ : Mt)) (m' := (⟨2, 3, 4, 5, 2, 0, 4, 0, none⟩ : Mt)) M13.out A12.out (by unfold Good; decide) N12.out rfl).mono ?_); rintro e w14 ⟨rfl, hm, hj⟩; have K14 := Lib.hid (K13.out.trans (hj.below HG.out K13.out.size)); have M14 := Lib.hid hm; clear hj hm)
            | ((with_reducible refine (one_lit 1 1 rfl w14 (by decide)).mono ?_); rintro e w15 ⟨a13, rfl, ha, hn, hb⟩; have K15 := Lib.hid (K14.out.trans (hb.mono K14.out.size)); have M15 := Lib.hid (M14.out.keep hb); clear hb; have A13 := Lib.hid ha; have N13 := Lib.hid hn; clear ha hn)
            | ((with_reducible refine (pay_eq (m := (⟨2, 3, 4, 5, 2, 0, 4, 0, none⟩ : Mt)) (m' := (⟨2, 3, 4, 5, 2, 0, 4, 0, some (sName, 2)⟩ : Mt)) M15.out A13.out (by unfold Good; decide) N13.out rfl).mono ?_); rintro e w16 ⟨rfl, hm, hj⟩; have K16 := Lib.hid (K15.out.trans (hj.below HG.out K15.out.size)); have M16 := Lib.hid hm; clear hj hm)
            | ((with_reducible refine (why_used M16.out rfl).mono ?_); rintro e w99 ⟨rfl, rfl⟩; skip)
            | ((with_reducible refine (part_used (HTr.out.keep K16.out) (ErrIs.used w16 sName 2) ok_sName).mono ?_); rintro e w17 ⟨rfl, hb⟩; have K17 := Lib.hid (K16.out.trans (hb.mono K16.out.size)); have M17 := Lib.hid (M16.out.keep hb); clear hb)
            | ((with_reducible refine (deep_eq (m := (⟨2, 3, 4, 5, 2, 0, 4, 0, some (sName, 2)⟩ : Mt)) (m' := (⟨2, 3, 4, 5, 2, 0, 4, 0, some (sName, 2)⟩ : Mt)) (n := 0) M17.out rfl).mono ?_); rintro e w18 ⟨rfl, hm, hj⟩; have K18 := Lib.hid (K17.out.trans (hj.below HG.out K17.out.size)); have M18 := Lib.hid hm; clear hj hm)
            | ((with_reducible refine (one_lit 0 0 rfl w18 (by decide)).mono ?_); rintro e w19 ⟨a14, rfl, ha, hn, hb⟩; have K19 := Lib.hid (K18.out.trans (hb.mono K18.out.size)); have M19 := Lib.hid (M18.out.keep hb); clear hb; have A14 := Lib.hid ha; have N14 := Lib.hid hn; clear ha hn)
            | ((with_reducible refine (pay_eq (m := (⟨2, 3, 4, 5, 2, 0, 4, 0, some (sName, 2)⟩ : Mt)) (m' := (⟨2, 3, 4, 5, 2, 0, 4, 0, some (sName, 2)⟩ : Mt)) M19.out A14.out (by unfold Good; decide) N14.out rfl).mono ?_); rintro e w20 ⟨rfl, hm, hj⟩; have K20 := Lib.hid (K19.out.trans (hj.below HG.out K19.out.size)); have M20 := Lib.hid hm; clear hj hm))
          exact ⟨⟨1, by omega, rfl, K.out.trans (K20.out.mono K.out.size), (K20.out.block _ (Array.getElem?_eq_some_iff.1 X.out).1).trans X.out⟩, by simp [numOf]⟩
        · skip
          go_wp2_with (first
            | ((with_reducible refine (new_yes 2 3 4 5 wr (by decide)).mono ?_); rintro e w10 ⟨g, hg, rfl, hm, hb⟩; have HG := Lib.hid hg; have M10 := Lib.hid hm; have K10 := Lib.hid hb; clear hg hm hb)
            | ((with_reducible refine (rows_eq (m := (⟨2, 3, 4, 5, 0, 0, 0, 0, none⟩ : Mt)) (m' := (⟨2, 3, 4, 5, 0, 3, 0, 0, none⟩ : Mt)) (n := 3) M10.out rfl).mono ?_); rintro e w11 ⟨rfl, hm, hj⟩; have K11 := Lib.hid (K10.out.trans (hj.below HG.out K10.out.size)); have M11 := Lib.hid hm; clear hj hm)
            | ((with_reducible refine (rows_eq (m := (⟨2, 3, 4, 5, 0, 3, 0, 0, none⟩ : Mt)) (m' := (⟨2, 3, 4, 5, 0, 3, 0, 0, some (rName, 3)⟩ : Mt)) (n := 4) M11.out rfl).mono ?_); rintro e w12 ⟨rfl, hm, hj⟩; have K12 := Lib.hid (K11.out.trans (hj.below HG.out K11.out.size)); have M12 := Lib.hid hm; clear hj hm)
            | ((with_reducible refine (why_used M12.out rfl).mono ?_); rintro e w99 ⟨rfl, rfl⟩; skip)
            | ((with_reducible refine (part_used (HTr.out.keep K12.out) (ErrIs.used w12 rName 3) ok_rName).mono ?_); rintro e w13 ⟨rfl, hb⟩; have K13 := Lib.hid (K12.out.trans (hb.mono K12.out.size)); have M13 := Lib.hid (M12.out.keep hb); clear hb)
            | ((with_reducible refine (deep_eq (m := (⟨2, 3, 4, 5, 0, 3, 0, 0, some (rName, 3)⟩ : Mt)) (m' := (⟨2, 3, 4, 5, 0, 3, 0, 0, some (rName, 3)⟩ : Mt)) (n := 0) M13.out rfl).mono ?_); rintro e w14 ⟨rfl, hm, hj⟩; have K14 := Lib.hid (K13.out.trans (hj.below HG.out K13.out.size)); have M14 := Lib.hid hm; clear hj hm)
            | ((with_reducible refine (one_lit 0 0 rfl w14 (by decide)).mono ?_); rintro e w15 ⟨a11, rfl, ha, hn, hb⟩; have K15 := Lib.hid (K14.out.trans (hb.mono K14.out.size)); have M15 := Lib.hid (M14.out.keep hb); clear hb; have A11 := Lib.hid ha; have N11 := Lib.hid hn; clear ha hn)
            | ((with_reducible refine (pay_eq (m := (⟨2, 3, 4, 5, 0, 3, 0, 0, some (rName, 3)⟩ : Mt)) (m' := (⟨2, 3, 4, 5, 0, 3, 0, 0, some (rName, 3)⟩ : Mt)) M15.out A11.out (by unfold Good; decide) N11.out rfl).mono ?_); rintro e w16 ⟨rfl, hm, hj⟩; have K16 := Lib.hid (K15.out.trans (hj.below HG.out K15.out.size)); have M16 := Lib.hid hm; clear hj hm))
          exact ⟨⟨2, by omega, rfl, K.out.trans (K16.out.mono K.out.size), (K16.out.block _ (Array.getElem?_eq_some_iff.1 X.out).1).trans X.out⟩, by simp [numOf]⟩
        · skip
          go_wp2_with (first
            | ((with_reducible refine (new_yes 2 3 4 5 wr (by decide)).mono ?_); rintro e w10 ⟨g, hg, rfl, hm, hb⟩; have HG := Lib.hid hg; have M10 := Lib.hid hm; have K10 := Lib.hid hb; clear hg hm hb)
            | ((with_reducible refine (one_lit 5 5 rfl w10 (by decide)).mono ?_); rintro e w11 ⟨a11, rfl, ha, hn, hb⟩; have K11 := Lib.hid (K10.out.trans (hb.mono K10.out.size)); have M11 := Lib.hid (M10.out.keep hb); clear hb; have A11 := Lib.hid ha; have N11 := Lib.hid hn; clear ha hn)
            | ((with_reducible refine (pay_eq (m := (⟨2, 3, 4, 5, 0, 0, 0, 0, none⟩ : Mt)) (m' := (⟨2, 3, 4, 5, 0, 0, 0, 0, some (lName, 4)⟩ : Mt)) M11.out A11.out (by unfold Good; decide) N11.out rfl).mono ?_); rintro e w12 ⟨rfl, hm, hj⟩; have K12 := Lib.hid (K11.out.trans (hj.below HG.out K11.out.size)); have M12 := Lib.hid hm; clear hj hm)
            | ((with_reducible refine (why_used M12.out rfl).mono ?_); rintro e w99 ⟨rfl, rfl⟩; skip)
            | ((with_reducible refine (part_used (HTr.out.keep K12.out) (ErrIs.used w12 lName 4) ok_lName).mono ?_); rintro e w13 ⟨rfl, hb⟩; have K13 := Lib.hid (K12.out.trans (hb.mono K12.out.size)); have M13 := Lib.hid (M12.out.keep hb); clear hb)
            | ((with_reducible refine (deep_eq (m := (⟨2, 3, 4, 5, 0, 0, 0, 0, some (lName, 4)⟩ : Mt)) (m' := (⟨2, 3, 4, 5, 0, 0, 0, 0, some (lName, 4)⟩ : Mt)) (n := 0) M13.out rfl).mono ?_); rintro e w14 ⟨rfl, hm, hj⟩; have K14 := Lib.hid (K13.out.trans (hj.below HG.out K13.out.size)); have M14 := Lib.hid hm; clear hj hm)
            | ((with_reducible refine (one_lit 0 0 rfl w14 (by decide)).mono ?_); rintro e w15 ⟨a12, rfl, ha, hn, hb⟩; have K15 := Lib.hid (K14.out.trans (hb.mono K14.out.size)); have M15 := Lib.hid (M14.out.keep hb); clear hb; have A12 := Lib.hid ha; have N12 := Lib.hid hn; clear ha hn)
            | ((with_reducible refine (pay_eq (m := (⟨2, 3, 4, 5, 0, 0, 0, 0, some (lName, 4)⟩ : Mt)) (m' := (⟨2, 3, 4, 5, 0, 0, 0, 0, some (lName, 4)⟩ : Mt)) M15.out A12.out (by unfold Good; decide) N12.out rfl).mono ?_); rintro e w16 ⟨rfl, hm, hj⟩; have K16 := Lib.hid (K15.out.trans (hj.below HG.out K15.out.size)); have M16 := Lib.hid hm; clear hj hm))
          exact ⟨⟨3, by omega, rfl, K.out.trans (K16.out.mono K.out.size), (K16.out.block _ (Array.getElem?_eq_some_iff.1 X.out).1).trans X.out⟩, by simp [numOf]⟩
        · skip
          go_wp2_with (first
            | ((with_reducible refine (new_yes 2 3 4 5 wr (by decide)).mono ?_); rintro e w10 ⟨g, hg, rfl, hm, hb⟩; have HG := Lib.hid hg; have M10 := Lib.hid hm; have K10 := Lib.hid hb; clear hg hm hb)
            | ((with_reducible refine (deep_eq (m := (⟨2, 3, 4, 5, 0, 0, 0, 0, none⟩ : Mt)) (m' := (⟨2, 3, 4, 5, 0, 0, 0, 5, none⟩ : Mt)) (n := 5) M10.out rfl).mono ?_); rintro e w11 ⟨rfl, hm, hj⟩; have K11 := Lib.hid (K10.out.trans (hj.below HG.out K10.out.size)); have M11 := Lib.hid hm; clear hj hm)
            | ((with_reducible refine (deep_eq (m := (⟨2, 3, 4, 5, 0, 0, 0, 5, none⟩ : Mt)) (m' := (⟨2, 3, 4, 5, 0, 0, 0, 5, some (dName, 5)⟩ : Mt)) (n := 6) M11.out rfl).mono ?_); rintro e w12 ⟨rfl, hm, hj⟩; have K12 := Lib.hid (K11.out.trans (hj.below HG.out K11.out.size)); have M12 := Lib.hid hm; clear hj hm)
            | ((with_reducible refine (why_used M12.out rfl).mono ?_); rintro e w99 ⟨rfl, rfl⟩; skip)
            | ((with_reducible refine (part_used (HTr.out.keep K12.out) (ErrIs.used w12 dName 5) ok_dName).mono ?_); rintro e w13 ⟨rfl, hb⟩; have K13 := Lib.hid (K12.out.trans (hb.mono K12.out.size)); have M13 := Lib.hid (M12.out.keep hb); clear hb)
            | ((with_reducible refine (deep_eq (m := (⟨2, 3, 4, 5, 0, 0, 0, 5, some (dName, 5)⟩ : Mt)) (m' := (⟨2, 3, 4, 5, 0, 0, 0, 5, some (dName, 5)⟩ : Mt)) (n := 0) M13.out rfl).mono ?_); rintro e w14 ⟨rfl, hm, hj⟩; have K14 := Lib.hid (K13.out.trans (hj.below HG.out K13.out.size)); have M14 := Lib.hid hm; clear hj hm)
            | ((with_reducible refine (one_lit 0 0 rfl w14 (by decide)).mono ?_); rintro e w15 ⟨a11, rfl, ha, hn, hb⟩; have K15 := Lib.hid (K14.out.trans (hb.mono K14.out.size)); have M15 := Lib.hid (M14.out.keep hb); clear hb; have A11 := Lib.hid ha; have N11 := Lib.hid hn; clear ha hn)
            | ((with_reducible refine (pay_eq (m := (⟨2, 3, 4, 5, 0, 0, 0, 5, some (dName, 5)⟩ : Mt)) (m' := (⟨2, 3, 4, 5, 0, 0, 0, 5, some (dName, 5)⟩ : Mt)) M15.out A11.out (by unfold Good; decide) N11.out rfl).mono ?_); rintro e w16 ⟨rfl, hm, hj⟩; have K16 := Lib.hid (K15.out.trans (hj.below HG.out K15.out.size)); have M16 := Lib.hid hm; clear hj hm))
          exact ⟨⟨4, by omega, rfl, K.out.trans (K16.out.mono K.out.size), (K16.out.block _ (Array.getElem?_eq_some_iff.1 X.out).1).trans X.out⟩, by simp [numOf]⟩
        · skip
          go_wp2_with (first
            | ((with_reducible refine (new_yes 1 0 1 0 wr (by decide)).mono ?_); rintro e w10 ⟨g, hg, rfl, hm, hb⟩; have HG := Lib.hid hg; have M10 := Lib.hid hm; have K10 := Lib.hid hb; clear hg hm hb)
            | ((with_reducible refine (one_lit 1 1 rfl w10 (by decide)).mono ?_); rintro e w11 ⟨⟨k1, P1, pc1, n1, A1, la1, c1, m1, Q1, lm1, d1, ls1⟩, rfl, ha, hn, hb⟩; have K11 := Lib.hid (K10.out.trans (hb.mono K10.out.size)); have M11 := Lib.hid (M10.out.keep hb); clear hb; have A11 := Lib.hid ha; have N11 := Lib.hid hn; clear ha hn; simp only [At.cells])
            | ((with_reducible refine (one_lit 1 1 rfl w11 (by decide)).mono ?_); rintro e w12 ⟨⟨k2, P2, pc2, n2, A2, la2, c2, m2, Q2, lm2, d2, ls2⟩, rfl, ha, hn, hb⟩; have K12 := Lib.hid (K11.out.trans (hb.mono K11.out.size)); have M12 := Lib.hid (M11.out.keep hb); have A12 := Lib.hid (A11.out.below hb); clear hb A11; have B12 := Lib.hid ha; have N12 := Lib.hid hn; clear ha hn; simp only [At.cells])
            | ((with_reducible refine (rows_eq (m := (⟨1, 0, 1, 0, 0, 0, 0, 0, none⟩ : Mt)) (m' := (⟨1, 0, 1, 0, 0, 0, 0, 0, none⟩ : Mt)) (n := -5) (M12.out.keep (fourB _ _ _ _ _ _ _ _ _)) rfl).mono ?_); rintro e w13 ⟨rfl, hm, hj⟩; have F := fourB w12 #[.int .u8 k1, .slice P1 ls1.length pc1, .bool n1, .slice (some ⟨w12.heap.size + 1 + 1, 0, none⟩) 2 2, .bool m1, .slice Q1 lm1 d1] #[.int .u8 k2, .slice P2 ls2.length pc2, .bool n2, .slice A2 la2 c2, .bool m2, .slice (some ⟨w12.heap.size + 1 + 1 + 1, 0, none⟩) 2 2] #[.int .u32 0, .int .u32 1] #[.int .u32 0, .int .u32 1] 39 39 48 48; have K13 := Lib.hid ((K12.out.trans (F.mono K12.out.size)).trans (hj.below HG.out (Nat.le_trans K12.out.size F.size))); have M13 := Lib.hid hm; have hlt := M12.out.lt; have Y1 := Lib.hid (heap_just (four1 w12 #[.int .u8 k1, .slice P1 ls1.length pc1, .bool n1, .slice (some ⟨w12.heap.size + 1 + 1, 0, none⟩) 2 2, .bool m1, .slice Q1 lm1 d1] #[.int .u8 k2, .slice P2 ls2.length pc2, .bool n2, .slice A2 la2 c2, .bool m2, .slice (some ⟨w12.heap.size + 1 + 1 + 1, 0, none⟩) 2 2] #[.int .u32 0, .int .u32 1] #[.int .u32 0, .int .u32 1] 39 39 48 48) hj (by omega)); have Y2 := Lib.hid (heap_just (four2 w12 #[.int .u8 k1, .slice P1 ls1.length pc1, .bool n1, .slice (some ⟨w12.heap.size + 1 + 1, 0, none⟩) 2 2, .bool m1, .slice Q1 lm1 d1] #[.int .u8 k2, .slice P2 ls2.length pc2, .bool n2, .slice A2 la2 c2, .bool m2, .slice (some ⟨w12.heap.size + 1 + 1 + 1, 0, none⟩) 2 2] #[.int .u32 0, .int .u32 1] #[.int .u32 0, .int .u32 1] 39 39 48 48) hj (by omega)); have A13 := Lib.hid ((A12.out.below F).just (M12.out.keep F) hj); have B13 := Lib.hid ((B12.out.below F).just (M12.out.keep F) hj); have HLT := Lib.hid hlt; clear hm hj F hlt)
            | ((with_reducible refine (deep_eq (m := (⟨1, 0, 1, 0, 0, 0, 0, 0, none⟩ : Mt)) (m' := (⟨1, 0, 1, 0, 0, 0, 0, 0, none⟩ : Mt)) (n := 0) M13.out rfl).mono ?_); rintro e w14 ⟨rfl, hm, hj⟩; have K14 := Lib.hid (K13.out.trans (hj.below HG.out K13.out.size)); have M14 := Lib.hid hm; have A14 := Lib.hid (A13.out.just M13.out hj); have B14 := Lib.hid (B13.out.just M13.out hj); have Z1 := heap_just Y1.out hj (by have := HLT.out; omega); have Z2 := Lib.hid (heap_just Y2.out hj (by have := HLT.out; omega)); have D1 := Lib.hid (at_add (A' := some ⟨w12.heap.size + 1 + 1, 0, none⟩) A14.out N11.out); clear hm hj Y1 Y2; have y0 := (cell_of Z1 0).trans rfl; have y1 := (cell_of Z1 1).trans rfl; have y2 := (cell_of Z1 2).trans rfl; have y3 := (cell_of Z1 3).trans rfl; have y4 := (cell_of Z1 4).trans rfl; have y5 := (cell_of Z1 5).trans rfl; clear Z1)
            | ((with_reducible refine (pay_lit (m := (⟨1, 0, 1, 0, 0, 0, 0, 0, none⟩ : Mt)) (m' := (⟨1, 0, 1, 0, 0, 0, 0, 0, some (lName, 1)⟩ : Mt)) M14.out D1.out.1 (by unfold Good; decide) D1.out.2 rfl).mono ?_); rintro e w15 ⟨rfl, hm, hj⟩; have K15 := Lib.hid (K14.out.trans (hj.below HG.out K14.out.size)); have M15 := Lib.hid hm; have B15 := Lib.hid (B14.out.just M14.out hj); have Z3 := Lib.hid (heap_just Z2.out hj (by have := HLT.out; omega)); clear hm hj Z2 B14 y0 y1 y2 y3 y4 y5)
            | ((with_reducible refine (spent_eq (m := (⟨1, 0, 1, 0, 0, 0, 0, 0, some (lName, 1)⟩ : Mt)) M15.out (a := 0) (b := 0) (c := 0) (d := 0) rfl rfl rfl rfl).mono ?_); rintro e w16 ⟨rfl, hb⟩; have K16 := Lib.hid (K15.out.trans (hb.mono K15.out.size)); have B16 := Lib.hid (B15.out.below hb); have Z4 := Lib.hid (heap_keep Z3.out hb); clear hb Z3 B15)
            | ((with_reducible refine (new_yes 1 0 1 0 w16 (by decide)).mono ?_); rintro e w17 ⟨h, hg, rfl, hm, hb⟩; have HG2 := Lib.hid (Nat.le_trans K16.out.size hg); have M17 := Lib.hid hm; have K17 := Lib.hid (K16.out.trans (hb.mono K16.out.size)); have B17 := Lib.hid (B16.out.below hb); have D2 := Lib.hid (at_mod (Q' := some ⟨w12.heap.size + 1 + 1 + 1, 0, none⟩) B17.out N12.out); have Z5 := heap_keep Z4.out hb; clear hb hg hm Z4 B16; have y0 := (cell_of Z5 0).trans rfl; have y1 := (cell_of Z5 1).trans rfl; have y2 := (cell_of Z5 2).trans rfl; have y3 := (cell_of Z5 3).trans rfl; have y4 := (cell_of Z5 4).trans rfl; have y5 := (cell_of Z5 5).trans rfl; clear Z5)
            | ((with_reducible refine (pay_lit (m := (⟨1, 0, 1, 0, 0, 0, 0, 0, none⟩ : Mt)) (m' := (⟨1, 0, 1, 0, 0, 0, 0, 0, some (lName, 1)⟩ : Mt)) M17.out D2.out.1 (by unfold Good; decide) D2.out.2 rfl).mono ?_); rintro e w18 ⟨rfl, hm, hj⟩; have K18 := Lib.hid (K17.out.trans (hj.below HG2.out K17.out.size)); have M18 := Lib.hid hm; clear hm hj y0 y1 y2 y3 y4 y5)
            | ((with_reducible refine (wrap_any ⟨#[105, 110]⟩ (errNum w18 41)).mono ?_); rintro e w19 ⟨v19, rfl, he, hb⟩; have K19 := Lib.hid (K18.out.trans (hb.mono K18.out.size)); clear hb; have E19 := Lib.hid he; clear he)
            | ((with_reducible refine (wrap_any ⟨#[111, 117, 116]⟩ E19.out).mono ?_); rintro e w20 ⟨v20, rfl, he, hb⟩; have K20 := Lib.hid (K19.out.trans (hb.mono K19.out.size)); clear hb; have E20 := Lib.hid he; clear he)
            | ((with_reducible refine (words_any (HTr.out.keep K20.out) E20.out (by decide)).mono ?_); rintro e w21 ⟨⟨A21, cap21, rfl, hm, ho⟩, hb⟩; have K21 := Lib.hid (K20.out.trans (hb.mono K20.out.size)); have E21 := Lib.hid (E20.out.keep hb); have O21 := Lib.hid (words2 ho); clear hb ho hm; obtain ⟨g21, rfl, hlt⟩ : ∃ g, A21 = some ⟨g, 0, none⟩ ∧ g < w21.heap.size ∧ w21.cell? ⟨g, 0, none⟩ = some (.string ⟨#[111, 117, 116]⟩) ∧ w21.cell? ⟨g, 1, none⟩ = some (.string ⟨#[105, 110]⟩) := O21.out; have L21 := Lib.hid hlt; clear hlt O21; simp only [List.length_cons, List.length_nil, Nat.zero_add, Nat.reduceAdd])
            | ((with_reducible refine (part_any (HTr.out.keep K21.out) E21.out okNum41).mono ?_); rintro e w22 ⟨rfl, hb⟩; have K22 := Lib.hid (K21.out.trans (hb.mono K21.out.size)); have E22 := Lib.hid (E21.out.keep hb); have L22 := Lib.hid (show w22.cell? ⟨g21, 0, none⟩ = some (.string ⟨#[111, 117, 116]⟩) ∧ w22.cell? ⟨g21, 1, none⟩ = some (.string ⟨#[105, 110]⟩) from ⟨(hb.cell (p := ⟨g21, 0, none⟩) L21.out.1).trans L21.out.2.1, (hb.cell (p := ⟨g21, 1, none⟩) L21.out.1).trans L21.out.2.2⟩); have G22 := Lib.hid (Nat.lt_of_lt_of_le L21.out.1 hb.size); clear hb L21; simp only [Base.part, Base.most, Base.up])
            | ((with_reducible refine (isB_some (r := true) rfl E22.out).mono ?_); rintro e w23 ⟨rfl, hb⟩; have K23 := Lib.hid (K22.out.trans (hb.mono K22.out.size)); have E23 := Lib.hid (E22.out.keep hb); have L23 := Lib.hid (show w23.cell? ⟨g21, 0, none⟩ = some (.string ⟨#[111, 117, 116]⟩) ∧ w23.cell? ⟨g21, 1, none⟩ = some (.string ⟨#[105, 110]⟩) from ⟨(hb.cell (p := ⟨g21, 0, none⟩) G22.out).trans L22.out.1, (hb.cell (p := ⟨g21, 1, none⟩) G22.out).trans L22.out.2⟩); have G23 := Lib.hid (Nat.lt_of_lt_of_le G22.out hb.size); clear hb L22)
            | ((with_reducible refine (isB_some (r := false) rfl E23.out).mono ?_); rintro e w24 ⟨rfl, hb⟩; have K24 := Lib.hid (K23.out.trans (hb.mono K23.out.size)); have E24 := Lib.hid (E23.out.keep hb); have L24 := Lib.hid (show w24.cell? ⟨g21, 0, none⟩ = some (.string ⟨#[111, 117, 116]⟩) ∧ w24.cell? ⟨g21, 1, none⟩ = some (.string ⟨#[105, 110]⟩) from ⟨(hb.cell (p := ⟨g21, 0, none⟩) G23.out).trans L23.out.1, (hb.cell (p := ⟨g21, 1, none⟩) G23.out).trans L23.out.2⟩); have G24 := Lib.hid (Nat.lt_of_lt_of_le G23.out hb.size); clear hb L23; have l0 := L24.out.1; have l1 := L24.out.2)
            | ((with_reducible refine (text_eq (HTr.out.keep K24.out) (HBr.out.keep K24.out) E24.out okNum41 (by decide) smallW smallN _ textN).mono ?_); rintro e w25 ⟨rfl, hb⟩; have K25 := Lib.hid (K24.out.trans (hb.mono K24.out.size)); have E25 := Lib.hid (E24.out.keep hb); clear hb l0 l1)
            | ((with_reducible refine (text_nil w25).mono ?_); rintro e w99 ⟨rfl, rfl⟩; skip)
            | ((with_reducible refine (wrap_nil _ w25).mono ?_); rintro e w99 ⟨rfl, rfl⟩; skip)
            | ((with_reducible refine (words_nil w25).mono ?_); rintro e w26 ⟨rfl, hb⟩; have K26 := Lib.hid (K25.out.trans (hb.mono K25.out.size)); clear hb)
            | ((with_reducible refine (isB_nil 46 (w := w26)).mono ?_); rintro e w27 ⟨rfl, hb⟩; have K27 := Lib.hid (K26.out.trans (hb.mono K26.out.size)); clear hb)
            | ((with_reducible refine (isB_some (r := true) rfl (errNum w27 46)).mono ?_); rintro e w28 ⟨rfl, hb⟩; have K28 := Lib.hid (K27.out.trans (hb.mono K27.out.size)); clear hb))
          go_ret
          exact ⟨rfl, K.out.trans (K28.out.mono K.out.size)⟩
end Go.Proofs.YtdkdgijcoialbaaDoor

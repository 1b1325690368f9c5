/- The laws' words: is, wrong, parts, works (mklexf.py). -/
import Derived.Test.YtkkocohfdcnamaaLexE
namespace Go.Proofs.Ytkkocohfdcnamaa
open Go.RowKit Go.Shelf

set_option linter.unusedVariables false
set_option linter.unusedSimpArgs false

theorem str_self (s : ByteArray) : (s.toList == s.toList) = true := by simp
set_option maxRecDepth 100000 in
set_option maxHeartbeats 2000000 in
theorem is_yes (k a t : Int) (s : ByteArray) (w : World) :
    Calls Try.prog 17 #[.agg #[.int .u8 k, .int .i64 a, .int .i64 t, .string s], .int .u8 k, .int .i64 a, .int .i64 t, .string s] w fun e w' => e = .returned (.bool true) ∧ Below w.heap.size w w' := by
  have hs := str_self s
  have hk : (k == k) = true := by simp
  have hb := (Below.refl w.heap.size w).alloc (Nat.le_refl _) (.cells #[.int .u8 k, .int .i64 a, .int .i64 t, .string s] 35)
  have HB := Lib.hid hb
  clear hb
  go_enter Try.func17, Try.ntmps17
  go_wp2
  go_ret
  exact ⟨retb (by simp), HB.out⟩

def wrongV (L : List Nat) : Int := if wE L = 0 then -1 else if wE L = 4 then (wAt L : Int) else -2
theorem wE_vals (L : List Nat) : wE L = 0 ∨ wE L = 4 ∨ wE L = 40 := by
  unfold wE
  split
  · simp
  · split <;> simp
theorem wL_no {L : List Nat} (h : wE L ≠ 0) : wL L = [] := by
  unfold wE at h
  unfold wL
  split
  · rfl
  · rename_i h1
    rw [if_neg h1] at h
    split
    · rename_i h2
      rw [if_pos h2] at h
      exact absurd rfl h
    · rfl
set_option maxRecDepth 100000 in
set_option maxHeartbeats 2000000 in
theorem wrong_any (L : List Nat) (hc : Codes L) (hm : L.length < 9223372036854775807) (w : World) :
    Calls Try.prog 10 #[.string (str L)] w fun e w' => e = .returned (.int .i64 (wrongV L)) ∧ Below w.heap.size w w' := by
  have c := words_any L hc hm w
  rcases wE_vals L with hE | hE | hE
  · have hv : Hid (wrongV L = -1) := by show _ = _; unfold wrongV; rw [if_pos hE]
    go_enter Try.func10, Try.ntmps10
    go_wp2_with fail
    refine c.mono ?_
    rintro e w1 ⟨⟨v, rfl, hrow⟩, hb⟩
    rw [hE]
    obtain ⟨A, cp, rfl⟩ := slice_form hrow
    clear c hrow
    go_wp2
    go_ret
    exact ⟨reti hv.out.symm, hb⟩
  · have hv : Hid (wrongV L = (wAt L : Int)) := by show _ = _; unfold wrongV; rw [if_neg (by omega), if_pos hE]
    have hl := wL_no (L := L) (by omega)
    go_enter Try.func10, Try.ntmps10
    go_wp2_with fail
    refine c.mono ?_
    rintro e w1 ⟨⟨v, rfl, hrow⟩, hb⟩
    rw [hE]
    rw [hl] at hrow
    obtain ⟨A, cp, rfl⟩ := slice_form hrow
    clear c hrow
    go_wp2
    go_ret
    exact ⟨reti hv.out.symm, hb⟩
  · have hv : Hid (wrongV L = -2) := by show _ = _; unfold wrongV; rw [if_neg (by omega), if_neg (by omega)]
    have hl := wL_no (L := L) (by omega)
    go_enter Try.func10, Try.ntmps10
    go_wp2_with fail
    refine c.mono ?_
    rintro e w1 ⟨⟨v, rfl, hrow⟩, hb⟩
    rw [hE]
    rw [hl] at hrow
    obtain ⟨A, cp, rfl⟩ := slice_form hrow
    clear c hrow
    go_wp2
    go_ret
    exact ⟨reti hv.out.symm, hb⟩

def partsV (L : List Nat) : Bool := decide (wE L = 0) && (wL L).isEmpty
set_option maxRecDepth 100000 in
set_option maxHeartbeats 2000000 in
theorem parts_any (L : List Nat) (hc : Codes L) (hm : L.length < 9223372036854775807) (w : World) :
    Calls Try.prog 15 #[.string (str L)] w fun e w' => e = .returned (.bool (partsV L)) ∧ Below w.heap.size w w' := by
  have c := words_any L hc hm w
  have hv : Hid (partsV L = (decide (wE L = 0) && (wL L).isEmpty)) := rfl
  by_cases hE : wE L = 0
  · rw [decide_eq_true hE] at hv
    have hq : Hid ((wL L).isEmpty = (((wL L).length : Int) == 0)) := by
      show _ = _
      cases wL L with
      | nil => rfl
      | cons a r => simp; omega
    go_enter Try.func15, Try.ntmps15
    go_wp2_with fail
    refine c.mono ?_
    rintro e w1 ⟨⟨v, rfl, hrow⟩, hb⟩
    rw [hE]
    obtain ⟨A, cp, rfl⟩ := slice_form hrow
    clear c hrow
    go_wp2
    go_ret
    exact ⟨retb (by rw [hv.out, hq.out]; rfl), hb⟩
  · rw [decide_eq_false hE] at hv
    have hE2 : ((wE L : Nat) : Int) ≠ 0 := by omega
    go_enter Try.func15, Try.ntmps15
    go_wp2_with fail
    refine c.mono ?_
    rintro e w1 ⟨⟨v, rfl, hrow⟩, hb⟩
    obtain ⟨A, cp, rfl⟩ := slice_form hrow
    clear c hrow
    generalize wE L = E at *
    go_wp2
    go_ret
    exact ⟨retb (by rw [hv.out]; rfl), hb⟩

theorem row_cells {w : World} {base : Nat} {e : TypeId} {size : Nat} {A : Option Addr} {n cp : Nat} {xs : List Value} (h : w.ownsRow base e size (.slice A n cp) n xs) (hn : 0 < n) : ∃ g, A = some ⟨g, 0, none⟩ ∧ base ≤ g ∧ g < w.heap.size ∧ ∀ j u, xs[j]? = some u → w.cell? ⟨g, j, none⟩ = some u := by
  have hx := h
  rcases h.2 with ⟨_, h0⟩ | ⟨g, cap, cur, e1, hb, hg, _⟩
  · omega
  · injection e1 with e1 e2 e3
    subst e1
    refine ⟨g, rfl, hb, (Array.getElem?_eq_some_iff.1 hg).1, fun j u hu => ?_⟩
    have := hx.cells (g := g) rfl j u hu
    rwa [Addr.add_lit, Nat.zero_add] at this
theorem codes_lit {L : List Nat} (h : L.all (fun c => decide (c < 256)) = true) : Codes L := fun c hc => by
  have := List.all_eq_true.1 h c hc
  simpa using this

def exW : List Nat := [40, 60, 61, 32, 120, 32, 49, 46, 53, 41, 59, 99]
theorem exW_L : wL exW = [(0, [40]), (1, [60, 61]), (4, [120]), (6, [49, 46, 53]), (9, [41])] := by decide +kernel
theorem exW_E : wE exW = 0 := by decide +kernel
theorem exW_A : wAt exW = 0 := by decide +kernel
theorem exV0 : wrongV [97, 32, 48, 49] = 2 := by decide +kernel
theorem exV1 : wrongV [49, 46] = 0 := by decide +kernel
theorem exV2 : wrongV [58] = 0 := by decide +kernel
theorem exV3 : wrongV [97, 58, 98] = 0 := by decide +kernel
theorem exV4 : wrongV [120, 123] = 1 := by decide +kernel
theorem exK : kd [58, 107] = 6 := by decide +kernel

set_option maxRecDepth 100000 in
set_option maxHeartbeats 8000000 in
theorem works_any (w : World) : Calls Try.prog 7 #[] w fun e w' => e = .returned (.bool true) ∧ Below w.heap.size w w' := by
  have c0 := words_any exW (codes_lit (by decide)) (by decide) w
  go_enter Try.func7, Try.ntmps7
  go_wp2_with fail
  refine c0.mono ?_
  rintro e w1 ⟨⟨v, rfl, hrow⟩, hb⟩
  clear c0
  rw [exW_L] at hrow
  rw [exW_E, exW_A]
  obtain ⟨A, cp, rfl⟩ := slice_form hrow
  obtain ⟨g, rfl, hg0, hg1, hcell⟩ := row_cells hrow (by decide)
  clear hrow
  have x0 := Lib.hid (hcell 0 (.int .u8 1) rfl)
  have x1 := Lib.hid (hcell 1 (.int .i64 0) rfl)
  have x2 := Lib.hid (hcell 2 (.int .i64 1) rfl)
  have x3 := Lib.hid (hcell 3 (.string ⟨#[40]⟩) rfl)
  have x4 := Lib.hid (hcell 4 (.int .u8 5) rfl)
  have x5 := Lib.hid (hcell 5 (.int .i64 1) rfl)
  have x6 := Lib.hid (hcell 6 (.int .i64 3) rfl)
  have x7 := Lib.hid (hcell 7 (.string ⟨#[60, 61]⟩) rfl)
  have x8 := Lib.hid (hcell 8 (.int .u8 5) rfl)
  have x9 := Lib.hid (hcell 9 (.int .i64 4) rfl)
  have x10 := Lib.hid (hcell 10 (.int .i64 5) rfl)
  have x11 := Lib.hid (hcell 11 (.string ⟨#[120]⟩) rfl)
  have x12 := Lib.hid (hcell 12 (.int .u8 4) rfl)
  have x13 := Lib.hid (hcell 13 (.int .i64 6) rfl)
  have x14 := Lib.hid (hcell 14 (.int .i64 9) rfl)
  have x15 := Lib.hid (hcell 15 (.string ⟨#[49, 46, 53]⟩) rfl)
  have x16 := Lib.hid (hcell 16 (.int .u8 2) rfl)
  have x17 := Lib.hid (hcell 17 (.int .i64 9) rfl)
  have x18 := Lib.hid (hcell 18 (.int .i64 10) rfl)
  have x19 := Lib.hid (hcell 19 (.string ⟨#[41]⟩) rfl)
  clear hcell
  have y0 := x0.out
  have y1 := x1.out
  have y2 := x2.out
  have y3 := x3.out
  have ci := is_yes 1 0 1 ⟨#[40]⟩ w1
  go_wp2_with fail
  refine ci.mono ?_
  rintro e w2 ⟨rfl, hq⟩
  clear ci y0 y1 y2 y3
  have hb1 := hq
  clear hq
  have y4 := x4.out
  have y5 := x5.out
  have y6 := x6.out
  have y7 := x7.out
  have z4 := (hb1.cell (p := ⟨g, 4, none⟩) hg1).trans y4
  have z5 := (hb1.cell (p := ⟨g, 5, none⟩) hg1).trans y5
  have z6 := (hb1.cell (p := ⟨g, 6, none⟩) hg1).trans y6
  have z7 := (hb1.cell (p := ⟨g, 7, none⟩) hg1).trans y7
  have ci := is_yes 5 1 3 ⟨#[60, 61]⟩ w2
  go_wp2_with fail
  refine ci.mono ?_
  rintro e w3 ⟨rfl, hq⟩
  clear ci y4 y5 y6 y7 z4 z5 z6 z7
  have hb2 := hb1.trans (hq.mono hb1.size)
  clear hq
  have y8 := x8.out
  have y9 := x9.out
  have y10 := x10.out
  have y11 := x11.out
  have z8 := (hb2.cell (p := ⟨g, 8, none⟩) hg1).trans y8
  have z9 := (hb2.cell (p := ⟨g, 9, none⟩) hg1).trans y9
  have z10 := (hb2.cell (p := ⟨g, 10, none⟩) hg1).trans y10
  have z11 := (hb2.cell (p := ⟨g, 11, none⟩) hg1).trans y11
  have ci := is_yes 5 4 5 ⟨#[120]⟩ w3
  go_wp2_with fail
  refine ci.mono ?_
  rintro e w4 ⟨rfl, hq⟩
  clear ci y8 y9 y10 y11 z8 z9 z10 z11
  have hb3 := hb2.trans (hq.mono hb2.size)
  clear hq
  have y12 := x12.out
  have y13 := x13.out
  have y14 := x14.out
  have y15 := x15.out
  have z12 := (hb3.cell (p := ⟨g, 12, none⟩) hg1).trans y12
  have z13 := (hb3.cell (p := ⟨g, 13, none⟩) hg1).trans y13
  have z14 := (hb3.cell (p := ⟨g, 14, none⟩) hg1).trans y14
  have z15 := (hb3.cell (p := ⟨g, 15, none⟩) hg1).trans y15
  have ci := is_yes 4 6 9 ⟨#[49, 46, 53]⟩ w4
  go_wp2_with fail
  refine ci.mono ?_
  rintro e w5 ⟨rfl, hq⟩
  clear ci y12 y13 y14 y15 z12 z13 z14 z15
  have hb4 := hb3.trans (hq.mono hb3.size)
  clear hq
  have y16 := x16.out
  have y17 := x17.out
  have y18 := x18.out
  have y19 := x19.out
  have z16 := (hb4.cell (p := ⟨g, 16, none⟩) hg1).trans y16
  have z17 := (hb4.cell (p := ⟨g, 17, none⟩) hg1).trans y17
  have z18 := (hb4.cell (p := ⟨g, 18, none⟩) hg1).trans y18
  have z19 := (hb4.cell (p := ⟨g, 19, none⟩) hg1).trans y19
  have ci := is_yes 2 9 10 ⟨#[41]⟩ w5
  go_wp2_with fail
  refine ci.mono ?_
  rintro e w6 ⟨rfl, hq⟩
  clear ci y16 y17 y18 y19 z16 z17 z18 z19
  have hb5 := hb4.trans (hq.mono hb4.size)
  clear hq
  have hbb := hb.trans (hb5.mono hb.size)
  clear hb1 hb2 hb3 hb4 hb5 hb x0 x1 x2 x3 x4 x5 x6 x7 x8 x9 x10 x11 x12 x13 x14 x15 x16 x17 x18 x19
  have ci := wrong_any [97, 32, 48, 49] (codes_lit (by decide)) (by decide) w6
  rw [exV0] at ci
  go_wp2_with fail
  refine ci.mono ?_
  rintro e w7 ⟨rfl, hq⟩
  clear ci
  replace hbb := hbb.trans (hq.mono hbb.size)
  clear hq
  have ci := wrong_any [49, 46] (codes_lit (by decide)) (by decide) w7
  rw [exV1] at ci
  go_wp2_with fail
  refine ci.mono ?_
  rintro e w8 ⟨rfl, hq⟩
  clear ci
  replace hbb := hbb.trans (hq.mono hbb.size)
  clear hq
  have ci := kind_any [58, 107] w8 (codes_lit (by decide)) (by decide)
  rw [exK] at ci
  go_wp2_with fail
  refine ci.mono ?_
  rintro e w9 ⟨rfl, hq⟩
  clear ci
  replace hbb := hbb.trans (hq.mono hbb.size)
  clear hq
  have ci := wrong_any [58] (codes_lit (by decide)) (by decide) w9
  rw [exV2] at ci
  go_wp2_with fail
  refine ci.mono ?_
  rintro e w10 ⟨rfl, hq⟩
  clear ci
  replace hbb := hbb.trans (hq.mono hbb.size)
  clear hq
  have ci := wrong_any [97, 58, 98] (codes_lit (by decide)) (by decide) w10
  rw [exV3] at ci
  go_wp2_with fail
  refine ci.mono ?_
  rintro e w11 ⟨rfl, hq⟩
  clear ci
  replace hbb := hbb.trans (hq.mono hbb.size)
  clear hq
  have ci := wrong_any [120, 123] (codes_lit (by decide)) (by decide) w11
  rw [exV4] at ci
  go_wp2_with fail
  refine ci.mono ?_
  rintro e w12 ⟨rfl, hq⟩
  clear ci
  replace hbb := hbb.trans (hq.mono hbb.size)
  clear hq
  go_wp2
  go_ret
  exact ⟨rfl, hbb⟩

end Go.Proofs.Ytkkocohfdcnamaa

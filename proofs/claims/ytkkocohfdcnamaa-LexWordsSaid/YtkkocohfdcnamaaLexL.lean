/- LexWords, its walk. -/
import Derived.Laws.StructEq
import Derived.Lib.SmallJoins
import Derived.Test.YtkkocohfdcnamaaLexH
import Derived.Test.YtkkocohfdcnamaaLexJ
namespace Go.Proofs.Ytkkocohfdcnamaa
open Go.RowKit Go.Shelf

set_option linter.unusedVariables false
set_option linter.unusedSimpArgs false

/-- from word k on, a row holds what it held -/
def From (g k : Nat) (S : List (Nat × List Nat)) (w : World) : Prop := ∃ cur, w.heap[g]? = some (.cells cur 35 (0, 0)) ∧ ∀ j u, k * 4 ≤ j → (wcells S)[j]? = some u → cur[j]? = some u
theorem From.cell {g k j : Nat} {S : List (Nat × List Nat)} {w : World} {u : Value} (h : From g k S w) (hj : k * 4 ≤ j) (hu : (wcells S)[j]? = some u) : w.cell? ⟨g, j, none⟩ = some u := by
  obtain ⟨cur, hg, hc⟩ := h
  rw [cell_of_row w g j cur _ _ hg]
  exact hc j u hj hu
theorem From.frozen {g k : Nat} {S : List (Nat × List Nat)} {w : World} (h : From g k S w) (j : Nat) : w.frozen? ⟨g, j, none⟩ = false := by
  obtain ⟨cur, hg, _⟩ := h
  exact Lib.frozen_of_heap hg j
theorem From.keep {g k : Nat} {S : List (Nat × List Nat)} {w w' : World} (h : From g k S w) (hb : Below w.heap.size w w') : From g k S w' := by
  obtain ⟨cur, hg, hc⟩ := h
  exact ⟨cur, (hb.block g (Array.getElem?_eq_some_iff.1 hg).1).trans hg, hc⟩
theorem From.set {g k : Nat} {S : List (Nat × List Nat)} {w : World} (h : From g k S w) (v : Value) : From g (k + 1) S (w.setCell ⟨g, k * 4 + 3, none⟩ v) := by
  obtain ⟨cur, hg, hc⟩ := h
  refine ⟨_, Joins.block_setCell hg v, fun j u hj hu => ?_⟩
  rw [Array.getElem?_setIfInBounds_ne (by omega)]
  exact hc j u (by omega) hu
theorem From.lt {g k : Nat} {S : List (Nat × List Nat)} {w : World} (h : From g k S w) : g < w.heap.size := by
  obtain ⟨cur, hg, _⟩ := h
  exact (Array.getElem?_eq_some_iff.1 hg).1
theorem from_row {w : World} {base : Nat} {A : Option Addr} {n cp : Nat} {S : List (Nat × List Nat)} (h : w.ownsRow base 35 4 (.slice A n cp) n (wcells S)) (hn : 0 < n) : ∃ g, A = some ⟨g, 0, none⟩ ∧ base ≤ g ∧ From g 0 S w := by
  rcases h.2 with ⟨_, h0⟩ | ⟨g, cap, cur, e1, hb, hg, _, _, _, ht⟩
  · omega
  · injection e1 with e1 e2 e3
    subst e1
    refine ⟨g, rfl, hb, cur, hg, fun j u _ hu => ?_⟩
    rw [← ht, List.getElem?_take] at hu
    split at hu
    · simpa using hu
    · cases hu

set_option maxRecDepth 100000 in
set_option maxHeartbeats 8000000 in
theorem words_law (w : World) (s t : ByteArray) (hs : s.size ≤ 9223372036854775807) (ht : t.size ≤ 9223372036854775807) : Calls Try.prog 4 #[.string s, .string t] w fun e w' => e = .returned (.bool true) ∧ Below w.heap.size w w' := by
  obtain ⟨L, hc, -, rfl⟩ := bytes_str s
  obtain ⟨M, hd, -, rfl⟩ := bytes_str t
  have hsz := str_size L
  have hsm := str_size M
  rw [hsz] at hs
  rw [hsm] at ht
  have c0 := works_any w
  by_cases hlong : 5000 < L.length
  · go_enter Try.func4, Try.ntmps4
    go_wp2_with fail
    refine c0.mono ?_
    rintro e w1 ⟨rfl, hb1⟩
    clear c0
    go_wp2
    go_ret
    exact ⟨rfl, hb1⟩
  · by_cases hlong2 : 5000 < M.length
    · go_enter Try.func4, Try.ntmps4
      go_wp2_with fail
      refine c0.mono ?_
      rintro e w1 ⟨rfl, hb1⟩
      clear c0
      go_wp2
      go_ret
      exact ⟨rfl, hb1⟩
    · clear c0
      have c1 := rwords_any L hc (by omega) w
      have C2 := Lib.hid (fun w1 => words_any L hc (by omega) w1)
      have CM := Lib.hid (fun w1 => kind_any M w1 hd (by omega))
      have CR := Lib.hid (fun w1 => rkind_any M w1 hd (by omega))
      have hwl := wds_len L
      go_enter Try.func4, Try.ntmps4
      go_wp2_with fail
      refine c1.mono ?_
      rintro e w3 ⟨⟨v, rfl, hrow⟩, hb3⟩
      clear c1
      have hwL : (wL L).length ≤ (wds L).length := by
        unfold wL
        split
        · simp
        · split
          · exact Nat.le_refl _
          · simp
      have hSget : ∀ (k : Nat) (x : Nat × List Nat), (wL L)[k]? = some x → Codes x.2 ∧ x.2.length ≤ L.length := fun k x hx => by
        have hx2 : (wds L)[k]? = some x := by
          unfold wL at hx
          split at hx
          · simp at hx
          · split at hx
            · exact hx
            · simp at hx
        obtain ⟨_, hl, hT⟩ := At.of_get hx2
        rw [hT]
        exact ⟨codes_take (codes_drop hc _) _, by rw [List.length_take, List.length_drop]; omega⟩
      obtain ⟨S, hS⟩ : ∃ S, wL L = S := ⟨_, rfl⟩
      obtain ⟨E, hE⟩ : ∃ E, wE L = E := ⟨_, rfl⟩
      obtain ⟨p, hP⟩ : ∃ p, wAt L = p := ⟨_, rfl⟩
      rw [hS] at hrow hwL hSget
      rw [hE, hP]
      have HSE := Lib.hid (show wL L = S ∧ wE L = E ∧ wAt L = p from ⟨hS, hE, hP⟩)
      have HGET := Lib.hid hSget
      clear hS hE hP hSget
      obtain ⟨A, cp, rfl⟩ := slice_form hrow
      go_wp2_with fail
      go_loopw [8] (fun i wr => ∃ r : Nat, r ≤ 2 ∧ i = .int .i64 (r : Int) ∧ Below w3.heap.size w3 wr) (fun i _ => 2 - (intOf i).toNat)
      case atStart => exact ⟨0, by omega, rfl, Below.refl _ _⟩
      case round =>
        obtain ⟨r, hr, rfl, hB⟩ := hrel
        obtain ⟨wo, hwo⟩ : ∃ wo : World, wo = wr := ⟨_, rfl⟩
        subst hwo
        by_cases hlt : r < 2
        · have c2 := C2.out wo
          go_wp2_with fail
          refine c2.mono ?_
          rintro e w4 ⟨⟨v2, rfl, hrow2⟩, hb4⟩
          rw [HSE.out.1] at hrow2
          rw [HSE.out.2.1, HSE.out.2.2]
          clear c2
          obtain ⟨A2, cp2, rfl⟩ := slice_form hrow2
          have HB := Lib.hid hB
          have HB4 := Lib.hid hb4
          have HR2 := Lib.hid hrow2
          have HR := Lib.hid hrow
          clear hb4 hB hrow hrow2
          go_wp2_with fail
          go_loopw [12] (fun i wi => ∃ k : Nat, k ≤ S.length ∧ i = .int .i64 (k : Int) ∧ (∀ g, A2 = some ⟨g, 0, none⟩ → From g k S wi) ∧ Below wo.heap.size wo wi) (fun i _ => S.length - (intOf i).toNat)
          case atStart =>
            refine ⟨0, Nat.zero_le _, rfl, fun g hg => ?_, HB4.out⟩
            rcases Nat.eq_zero_or_pos S.length with h0 | h0
            · have := HR2.out.2
              rcases this with ⟨e1, _⟩ | ⟨g', cap, cur, e1, hb', hg', hle, _, hsz', htk⟩
              · injection e1 with e1; rw [e1] at hg; cases hg
              · injection e1 with e1 e2 e3
                rw [e1] at hg
                injection hg with hg
                injection hg with hg
                subst hg
                refine ⟨cur, hg', fun j u _ hu => ?_⟩
                have : S = [] := List.length_eq_zero_iff.1 h0
                subst this
                cases hu
            · obtain ⟨g', e1, _, hF⟩ := from_row HR2.out h0
              rw [e1] at hg
              injection hg with hg
              injection hg with hg
              subst hg
              exact hF
          case round =>
            obtain ⟨k, hk, rfl, hF, hBi⟩ := hrel
            by_cases hkl : k < S.length
            · obtain ⟨g, hAg, hg0, _⟩ := from_row HR2.out (by omega)
              obtain ⟨h, hAh, hh0, hh1, hcell⟩ := row_cells HR.out (by omega)
              subst hAg hAh
              replace hF := hF g rfl
              obtain ⟨x, hx⟩ : ∃ x, S[k]? = some x := ⟨_, List.getElem?_eq_getElem hkl⟩
              have hq := fun q hq => wcells_get hx q hq
              have HCX := HGET.out k x hx
              have CK := Lib.hid (fun w5 => kind_any x.2 w5 HCX.1 (by omega))
              have hB3 := HB.out.trans (hBi.mono HB.out.size)
              have y0 : wr.cell? ⟨g, k * 4, none⟩ = some (.int .u8 ((kd x.2 : Nat) : Int)) := hF.cell (by omega) ((hq 0 (by decide)).trans rfl)
              have y1 : wr.cell? ⟨g, k * 4 + 1, none⟩ = some (.int .i64 (x.1 : Int)) := hF.cell (by omega) ((hq 1 (by decide)).trans rfl)
              have y2 : wr.cell? ⟨g, k * 4 + 2, none⟩ = some (.int .i64 ((x.1 : Int) + (x.2.length : Int))) := hF.cell (by omega) ((hq 2 (by decide)).trans rfl)
              have y3 : wr.cell? ⟨g, k * 4 + 3, none⟩ = some (.string (str x.2)) := hF.cell (by omega) ((hq 3 (by decide)).trans rfl)
              have z0 : wr.cell? ⟨h, k * 4, none⟩ = some (.int .u8 ((kd x.2 : Nat) : Int)) := (hB3.cell (p := ⟨h, k * 4, none⟩) hh1).trans (hcell _ _ ((hq 0 (by decide)).trans rfl))
              have z1 : wr.cell? ⟨h, k * 4 + 1, none⟩ = some (.int .i64 (x.1 : Int)) := (hB3.cell (p := ⟨h, k * 4 + 1, none⟩) hh1).trans (hcell _ _ ((hq 1 (by decide)).trans rfl))
              have z2 : wr.cell? ⟨h, k * 4 + 2, none⟩ = some (.int .i64 ((x.1 : Int) + (x.2.length : Int))) := (hB3.cell (p := ⟨h, k * 4 + 2, none⟩) hh1).trans (hcell _ _ ((hq 2 (by decide)).trans rfl))
              have z3 : wr.cell? ⟨h, k * 4 + 3, none⟩ = some (.string (str x.2)) := (hB3.cell (p := ⟨h, k * 4 + 3, none⟩) hh1).trans (hcell _ _ ((hq 3 (by decide)).trans rfl))
              have HF := Lib.hid hF
              have HBI := Lib.hid hBi
              have hkk : k < 5000 := by omega
              have hgl := hF.lt
              have hhl : h < wr.heap.size := Nat.lt_of_lt_of_le hh1 hB3.size
              clear hcell hF hBi hq HCX hx hB3
              generalize kd x.2 = κ at *
              generalize str x.2 = T at *
              generalize (x.1 : Int) + (x.2.length : Int) = b at *
              generalize (x.1 : Int) = a at *
              have hTT := str_self T
              have hkI : (κ == κ) = true := by simp
              go_wp2_with fail
              have s0 : wr.drew.cell? ⟨g, k * 4, none⟩ = some (.int .u8 ((κ : Nat) : Int)) ∧ wr.drew.cell? ⟨g, k * 4 + 1, none⟩ = some (.int .i64 a) ∧ wr.drew.cell? ⟨g, k * 4 + 2, none⟩ = some (.int .i64 b) ∧ wr.drew.cell? ⟨g, k * 4 + 3, none⟩ = some (.string T) ∧ wr.drew.cell? ⟨h, k * 4, none⟩ = some (.int .u8 ((κ : Nat) : Int)) ∧ wr.drew.cell? ⟨h, k * 4 + 1, none⟩ = some (.int .i64 a) ∧ wr.drew.cell? ⟨h, k * 4 + 2, none⟩ = some (.int .i64 b) ∧ wr.drew.cell? ⟨h, k * 4 + 3, none⟩ = some (.string T) := ⟨y0, y1, y2, y3, z0, z1, z2, z3⟩
              have hk0 : (0 : Int) ≤ (k : Int) := by omega
              have hkS : (k : Int) < (S.length : Int) := by omega
              clear y0 y1 y2 y3 z0 z1 z2 z3
              go_region_held3 (fun w' => w'.cell? ⟨g, k * 4, none⟩ = some (.int .u8 ((κ : Nat) : Int)) ∧ w'.cell? ⟨g, k * 4 + 1, none⟩ = some (.int .i64 a) ∧ w'.cell? ⟨g, k * 4 + 2, none⟩ = some (.int .i64 b) ∧ w'.cell? ⟨g, k * 4 + 3, none⟩ = some (.string T) ∧ w'.cell? ⟨h, k * 4, none⟩ = some (.int .u8 ((κ : Nat) : Int)) ∧ w'.cell? ⟨h, k * 4 + 1, none⟩ = some (.int .i64 a) ∧ w'.cell? ⟨h, k * 4 + 2, none⟩ = some (.int .i64 b) ∧ w'.cell? ⟨h, k * 4 + 3, none⟩ = some (.string T)) (first | exact s0 | exact s1) (first
                | (go_at_call 9; (with_reducible refine (CK.out _).mono ?_); rintro e w5 ⟨rfl, hb5⟩; have s1 : w5.cell? ⟨g, k * 4, none⟩ = some (.int .u8 ((κ : Nat) : Int)) ∧ w5.cell? ⟨g, k * 4 + 1, none⟩ = some (.int .i64 a) ∧ w5.cell? ⟨g, k * 4 + 2, none⟩ = some (.int .i64 b) ∧ w5.cell? ⟨g, k * 4 + 3, none⟩ = some (.string T) ∧ w5.cell? ⟨h, k * 4, none⟩ = some (.int .u8 ((κ : Nat) : Int)) ∧ w5.cell? ⟨h, k * 4 + 1, none⟩ = some (.int .i64 a) ∧ w5.cell? ⟨h, k * 4 + 2, none⟩ = some (.int .i64 b) ∧ w5.cell? ⟨h, k * 4 + 3, none⟩ = some (.string T) := ⟨(hb5.cell (p := ⟨g, k * 4, none⟩) hgl).trans s0.1, (hb5.cell (p := ⟨g, k * 4 + 1, none⟩) hgl).trans s0.2.1, (hb5.cell (p := ⟨g, k * 4 + 2, none⟩) hgl).trans s0.2.2.1, (hb5.cell (p := ⟨g, k * 4 + 3, none⟩) hgl).trans s0.2.2.2.1, (hb5.cell (p := ⟨h, k * 4, none⟩) hhl).trans s0.2.2.2.2.1, (hb5.cell (p := ⟨h, k * 4 + 1, none⟩) hhl).trans s0.2.2.2.2.2.1, (hb5.cell (p := ⟨h, k * 4 + 2, none⟩) hhl).trans s0.2.2.2.2.2.2.1, (hb5.cell (p := ⟨h, k * 4 + 3, none⟩) hhl).trans s0.2.2.2.2.2.2.2⟩))
              all_goals
                have HB5 := Lib.hid ((Below.refl _ wr).drew.trans hb5)
                have HF5 := Lib.hid (HF.out.keep HB5.out)
                have e0 := s1.2.2.2.1
                have f0 := HF5.out.frozen (k * 4 + 3)
                have HBN := Lib.hid ((HBI.out.trans (HB5.out.mono HBI.out.size)).setCell (p := ⟨g, k * 4 + 3, none⟩) hg0 (.string ⟨#[115, 112, 111, 105, 108, 116]⟩))
                have HFN := Lib.hid (HF5.out.set (.string ⟨#[115, 112, 111, 105, 108, 116]⟩))
                clear s0 s1 hb5
                go_wp2_with fail
                go_roundw
                case rel => exact ⟨k + 1, by omega, by go_num, (fun g' hg' => by injection hg' with hg'; injection hg' with hg'; subst hg'; exact HFN.out), HBN.out⟩
                case measure => simp [intOf]; omega
            · obtain rfl : k = S.length := by omega
              have HBN := Lib.hid (HB.out.trans (hBi.mono HB.out.size))
              clear hF hBi
              go_wp2_with fail
              go_roundw
              case rel => exact ⟨r + 1, by omega, by go_num, HBN.out⟩
              case measure => simp [intOf]; omega
        · obtain rfl : r = 2 := by omega
          have ck := CM.out wo
          have HBB := Lib.hid (hb3.trans (hB.mono hb3.size))
          clear hrow hB hb3
          go_wp2_with fail
          refine ck.mono ?_
          rintro e w5 ⟨rfl, hb5⟩
          clear ck
          have cr := CR.out w5
          go_wp2_with fail
          refine cr.mono ?_
          rintro e w6 ⟨rfl, rfl⟩
          clear cr
          have cw := works_any w6
          have HB5 := Lib.hid (HBB.out.trans (hb5.mono HBB.out.size))
          clear hb5
          generalize kd M = κ at *
          go_wp2_with fail
          refine cw.mono ?_
          rintro e w7 ⟨rfl, hb7⟩
          clear cw
          go_wp2
          go_ret
          exact ⟨retb (by simp), HB5.out.trans (hb7.mono HB5.out.size)⟩

theorem words_said (w : World) (s : ByteArray) (hs : s.size ≤ 9223372036854775807) (t : ByteArray) (ht : t.size ≤ 9223372036854775807) : Calls Try.prog 4 #[.string s, .string t] w fun e w' => e = .returned (.bool true) ∧ Below w.heap.size w w' :=
  words_law w s t hs ht

end Go.Proofs.Ytkkocohfdcnamaa

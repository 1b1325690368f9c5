/- Contract: Same. -/
import Derived.Test.YtkkocohfdcnamaaLexH
import Derived.Test.YtkkocohfdcnamaaLexM
namespace Go.Proofs.Ytkkocohfdcnamaa
open Go.RowKit Go.Shelf

set_option linter.unusedVariables false
set_option linter.unusedSimpArgs false

/-- a row of words in memory -/
def RowW (w : World) (v : Value) (S : List (Nat × List Nat)) : Prop := ∃ A cp, v = .slice A S.length cp ∧ (0 < S.length → ∃ g, A = some ⟨g, 0, none⟩ ∧ g < w.heap.size ∧ ∀ j u, (wcells S)[j]? = some u → w.cell? ⟨g, j, none⟩ = some u)
theorem rowW_of {w : World} {base : Nat} {v : Value} {S : List (Nat × List Nat)} (h : w.ownsRow base 35 4 v S.length (wcells S)) : RowW w v S := by
  obtain ⟨A, cp, rfl⟩ := slice_form h
  refine ⟨A, cp, rfl, fun h0 => ?_⟩
  obtain ⟨g, e, _, hg, hc⟩ := row_cells h h0
  exact ⟨g, e, hg, hc⟩
theorem RowW.keep {w w' : World} {v : Value} {S : List (Nat × List Nat)} (h : RowW w v S) (hb : Below w.heap.size w w') : RowW w' v S := by
  obtain ⟨A, cp, e, hc⟩ := h
  refine ⟨A, cp, e, fun h0 => ?_⟩
  obtain ⟨g, e2, hg, hcc⟩ := hc h0
  exact ⟨g, e2, Nat.lt_of_lt_of_le hg hb.size, fun j u hu => (hb.cell (p := ⟨g, j, none⟩) hg).trans (hcc j u hu)⟩

set_option maxRecDepth 100000 in
set_option maxHeartbeats 8000000 in
theorem same_yes (va vb : Value) (S R : List (Nat × List Nat)) (w : World) (ha : RowW w va S) (hb : RowW w vb R) (he : S.map Prod.snd = R.map Prod.snd) (hl : S.length ≤ 65536) :
    Calls Try.prog 16 #[va, vb] w fun e w' => e = .returned (.bool true) ∧ Below w.heap.size w w' := by
  obtain ⟨A, ca, rfl, hA⟩ := ha
  obtain ⟨B, cb, rfl, hB⟩ := hb
  have hlen : R.length = S.length := by
    have := congrArg List.length he
    simpa using this.symm
  rw [hlen] at hB
  rw [hlen]
  go_enter Try.func16, Try.ntmps16
  go_wp2
  go_loopw [14] (fun i wr => ∃ k : Nat, k ≤ S.length ∧ i = .int .i64 (k : Int) ∧ Below w.heap.size w wr) (fun i _ => S.length - (intOf i).toNat)
  case atStart => exact ⟨0, Nat.zero_le _, rfl, Below.refl _ _⟩
  case round =>
    obtain ⟨k, hk, rfl, hBe⟩ := hrel
    by_cases hlt : k < S.length
    · obtain ⟨g, rfl, hg1, hgc⟩ := hA (by omega)
      obtain ⟨h, rfl, hh1, hhc⟩ := hB (by omega)
      obtain ⟨x, hx⟩ : ∃ x, S[k]? = some x := ⟨_, List.getElem?_eq_getElem hlt⟩
      obtain ⟨y, hy⟩ : ∃ y, R[k]? = some y := ⟨_, List.getElem?_eq_getElem (by omega)⟩
      have hxy : x.2 = y.2 := by
        have := congrArg (·[k]?) he
        simpa [hx, hy] using this
      have hq := fun q hq => wcells_get hx q hq
      have hq2 := fun q hq => wcells_get hy q hq
      have y0 : wr.cell? ⟨g, k * 4, none⟩ = some (.int .u8 ((kd x.2 : Nat) : Int)) := (hBe.cell (p := ⟨g, k * 4, none⟩) hg1).trans (hgc _ _ ((hq 0 (by decide)).trans rfl))
      have y1 : wr.cell? ⟨g, k * 4 + 1, none⟩ = some (.int .i64 (x.1 : Int)) := (hBe.cell (p := ⟨g, k * 4 + 1, none⟩) hg1).trans (hgc _ _ ((hq 1 (by decide)).trans rfl))
      have y2 : wr.cell? ⟨g, k * 4 + 2, none⟩ = some (.int .i64 ((x.1 : Int) + (x.2.length : Int))) := (hBe.cell (p := ⟨g, k * 4 + 2, none⟩) hg1).trans (hgc _ _ ((hq 2 (by decide)).trans rfl))
      have y3 : wr.cell? ⟨g, k * 4 + 3, none⟩ = some (.string (str x.2)) := (hBe.cell (p := ⟨g, k * 4 + 3, none⟩) hg1).trans (hgc _ _ ((hq 3 (by decide)).trans rfl))
      have z0 : wr.cell? ⟨h, k * 4, none⟩ = some (.int .u8 ((kd x.2 : Nat) : Int)) := (hBe.cell (p := ⟨h, k * 4, none⟩) hh1).trans (hhc _ _ ((hq2 0 (by decide)).trans (by rw [hxy]; rfl)))
      have z3 : wr.cell? ⟨h, k * 4 + 3, none⟩ = some (.string (str x.2)) := (hBe.cell (p := ⟨h, k * 4 + 3, none⟩) hh1).trans (hhc _ _ ((hq2 3 (by decide)).trans (by rw [hxy]; rfl)))
      have HBE := Lib.hid hBe
      have HA := Lib.hid hA
      have HB := Lib.hid hB
      have hhl : h < wr.heap.size := Nat.lt_of_lt_of_le hh1 hBe.size
      have hk0 : (0 : Int) ≤ (k : Int) := by omega
      have hkS : (k : Int) < (S.length : Int) := by omega
      clear hgc hhc hq hq2 hx hy hxy hBe hA hB he
      generalize kd x.2 = κ at *
      generalize str x.2 = T at *
      generalize (x.1 : Int) + (x.2.length : Int) = b at *
      generalize (x.1 : Int) = a at *
      have hTT := str_self T
      go_wp2_with fail
      have hbx := (Below.refl wr.heap.size wr).alloc (Nat.le_refl _) (.cells #[.int .u8 ((κ : Nat) : Int), .int .i64 a, .int .i64 b, .string T] 35)
      have hnew := World.alloc_heap_new wr (.cells #[.int .u8 ((κ : Nat) : Int), .int .i64 a, .int .i64 b, .string T] 35)
      have HBX := Lib.hid (HBE.out.trans (hbx.mono HBE.out.size))
      have q0 := (hbx.cell (p := ⟨h, k * 4, none⟩) hhl).trans z0
      have q3 := (hbx.cell (p := ⟨h, k * 4 + 3, none⟩) hhl).trans z3
      clear y0 y1 y2 y3 z0 z3 hbx
      generalize wr.alloc (.cells #[.int .u8 ((κ : Nat) : Int), .int .i64 a, .int .i64 b, .string T] 35) = W at *
      have s0 : W.drew.cell? ⟨wr.heap.size, 0, none⟩ = some (.int .u8 ((κ : Nat) : Int)) ∧ W.drew.cell? ⟨wr.heap.size, 3, none⟩ = some (.string T) ∧ W.drew.cell? ⟨h, k * 4, none⟩ = some (.int .u8 ((κ : Nat) : Int)) ∧ W.drew.cell? ⟨h, k * 4 + 3, none⟩ = some (.string T) :=
        ⟨(cell_of_row W _ _ _ _ _ hnew).trans rfl, (cell_of_row W _ _ _ _ _ hnew).trans rfl, q0, q3⟩
      clear hnew q0 q3
      generalize hvv : wr.heap.size = vb at *
      clear hvv
      go_region_held3 (fun w' => w'.cell? ⟨vb, 0, none⟩ = some (.int .u8 ((κ : Nat) : Int)) ∧ w'.cell? ⟨vb, 3, none⟩ = some (.string T) ∧ w'.cell? ⟨h, k * 4, none⟩ = some (.int .u8 ((κ : Nat) : Int)) ∧ w'.cell? ⟨h, k * 4 + 3, none⟩ = some (.string T)) (exact s0) (fail)
      all_goals
        clear s0
        go_wp2_with fail
        go_roundw
        case rel => exact ⟨k + 1, by omega, by go_num, HBX.out.drew⟩
        case measure => simp [intOf]; omega
    · obtain rfl : k = S.length := by omega
      have HBE := Lib.hid hBe
      clear hA hB hBe
      go_wp2
      go_ret
      exact ⟨rfl, HBE.out⟩

end Go.Proofs.Ytkkocohfdcnamaa

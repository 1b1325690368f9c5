/- The laws' words: is, wrong, parts, works (mklexf.py). -/
import Derived.Test.YtbnlcgnpkodieaaLexE
namespace Go.Proofs.Ytbnlcgnpkodieaa
open Go.RowKit Go.Shelf

set_option linter.unusedVariables false
set_option linter.unusedSimpArgs false

theorem str_self (s : ByteArray) : (s.toList == s.toList) = true := by simp
def wrongV (L : List Nat) : Int := if wE L = 0 then -1 else if wE L = 4 then (wAt L : Int) else -2
theorem wE_vals (L : List Nat) : wE L = 0 ∨ wE L = 4 ∨ wE L = 40 := by
  unfold wE
  split
  · simp
  · split <;> simp
theorem wL_no {L : List Nat} (h : wE L ≠ 0) : wL L = [] := by
  unfold wE at h
  unfold wL
  split
  · rfl
  · rename_i h1
    rw [if_neg h1] at h
    split
    · rename_i h2
      rw [if_pos h2] at h
      exact absurd rfl h
    · rfl
def partsV (L : List Nat) : Bool := decide (wE L = 0) && (wL L).isEmpty
theorem row_cells {w : World} {base : Nat} {e : TypeId} {size : Nat} {A : Option Addr} {n cp : Nat} {xs : List Value} (h : w.ownsRow base e size (.slice A n cp) n xs) (hn : 0 < n) : ∃ g, A = some ⟨g, 0, none⟩ ∧ base ≤ g ∧ g < w.heap.size ∧ ∀ j u, xs[j]? = some u → w.cell? ⟨g, j, none⟩ = some u := by
  have hx := h
  rcases h.2 with ⟨_, h0⟩ | ⟨g, cap, cur, e1, hb, hg, _⟩
  · omega
  · injection e1 with e1 e2 e3
    subst e1
    refine ⟨g, rfl, hb, (Array.getElem?_eq_some_iff.1 hg).1, fun j u hu => ?_⟩
    have := hx.cells (g := g) rfl j u hu
    rwa [Addr.add_lit, Nat.zero_add] at this
theorem codes_lit {L : List Nat} (h : L.all (fun c => decide (c < 256)) = true) : Codes L := fun c hc => by
  have := List.all_eq_true.1 h c hc
  simpa using this

def exW : List Nat := [40, 60, 61, 32, 120, 32, 49, 46, 53, 41, 59, 99]
theorem exW_L : wL exW = [(0, [40]), (1, [60, 61]), (4, [120]), (6, [49, 46, 53]), (9, [41])] := by decide +kernel
theorem exW_E : wE exW = 0 := by decide +kernel
theorem exW_A : wAt exW = 0 := by decide +kernel
theorem exV0 : wrongV [97, 32, 48, 49] = 2 := by decide +kernel
theorem exV1 : wrongV [49, 46] = 0 := by decide +kernel
theorem exV2 : wrongV [58] = 0 := by decide +kernel
theorem exV3 : wrongV [97, 58, 98] = 0 := by decide +kernel
theorem exV4 : wrongV [120, 123] = 1 := by decide +kernel
theorem exK : kd [58, 107] = 6 := by decide +kernel

end Go.Proofs.Ytbnlcgnpkodieaa

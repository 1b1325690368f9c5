/- What a call, and strings, that came in are in memory. -/
import Derived.Test.YtdkdgijcoialbaaGreatDoorBudQ
import Derived.Test.YtdkdgijcoialbaaGreatDoorBudZ
namespace Go.Proofs.YtdkdgijcoialbaaGreatDoor
open Go.ChangeShapes Go.WideShapes Go.ChangeAt Go.RowKit Go.Deep

set_option linter.unusedVariables false
set_option linter.unusedSimpArgs false
section
variable {H : Type} {enc : TypeId × Value → H} {w : World} {sp : Nat → Bool} {held : Bool}
set_option maxRecDepth 100000 in
theorem callv_open {r : Reach} {b0 : Nat} {v : Value} {d : DataW H} {p : List MemPlace} (hv : Value.okWide Tryz.prog w r b0 33 v) (h : DataW.Trod enc Tryz.prog w 0 sp held 33 v d p) :
    ∃ c : Cl, v = .agg c.cells ∧ AtIs w c.a := by
  obtain ⟨cs, rfl, hsz⟩ := okWide_struct Tryz.underlying33 hv
  obtain ⟨fuel, hf⟩ := h
  obtain ⟨c, hc, ha⟩ := call_open (cs := cs.toList) (by simpa [Value.cells] using hf)
  exact ⟨c, by rw [show cs = c.cells from Array.ext' hc], ha⟩
theorem cStr : Tryz.prog.cellsOf 9 = 1 := by kernel_rfl
theorem strs_open {n : Nat} {A : Option Addr} {len cap : Nat} {y : DataW H × List MemPlace} (h : DataW.trod enc Tryz.prog w 0 sp held n 34 [.slice A len cap] = some y) :
    ∃ ws : List ByteArray, ws.length = len ∧ StrsAt w A ws ∧ ws.length ≤ 9223372036854775807 := by
  rcases open_strs Tryz.underlying34 Tryz.underlying9 cStr h with ⟨e, _⟩ | ⟨a, len', cap', m, Sx, e, _, hl, hm, hmm, _, hall⟩
  · simp at e
    obtain ⟨rfl, rfl, rfl⟩ := e
    exact ⟨[], rfl, fun h => absurd h (by simp), by simp⟩
  · simp at e
    obtain ⟨rfl, rfl, rfl⟩ := e
    have hml : len ≤ m := by rw [hmm]; split <;> omega
    refine ⟨(List.range len).map Sx, by simp, fun hn => ?_, ?_⟩
    · simp at hn
      obtain ⟨b, off, rfl, hlt⟩ := addr_at (hall 0 (by omega)).1
      refine ⟨b, off, rfl, hlt, fun j s hj => ?_⟩
      have hjl : j < len := by
        have := (List.getElem?_eq_some_iff.1 hj).1
        simpa using this
      rw [List.getElem?_map, List.getElem?_range hjl] at hj
      simp at hj
      subst hj
      rw [← add_none]
      exact (hall j (by omega)).1
    · have : maxLen = 9223372036854775807 := by decide
      rw [← this]; simp; omega
end
end Go.Proofs.YtdkdgijcoialbaaGreatDoor

/- What a statement's arguments are in memory; what the variables that the rows list give. -/
import Derived.Test.YtdkdgijcoialbaaGreatDoorBudN
import Derived.Test.YtdkdgijcoialbaaGreatDoorRows
import Derived.LaidHandle
import Derived.LaidSub
import Derived.LaidMore
import Derived.Lib.LaidTab
import Derived.MakeChecks
import Derived.Deep.Slices
import Derived.Deep.Strs
import Derived.Lib.SmallJoins
namespace Go.Proofs.YtdkdgijcoialbaaGreatDoor
open Go.ChangeShapes Go.WideShapes Go.ChangeAt Go.RowKit Go.Deep Go.Joins

set_option linter.unusedVariables false
set_option linter.unusedSimpArgs false

theorem cInt : Tryz.prog.cellsOf 27 = 2 := by kernel_rfl
theorem cPart : Tryz.prog.cellsOf 69 = 3 := by kernel_rfl
theorem cTerm : Tryz.prog.cellsOf 29 = 3 := by kernel_rfl
theorem cAtom : Tryz.prog.cellsOf 31 = 6 := by kernel_rfl
theorem cCall : Tryz.prog.cellsOf 33 = 8 := by kernel_rfl
theorem cBud : Tryz.prog.cellsOf 23 = 4 := by kernel_rfl
theorem c1int : Tryz.prog.cellsOf 3 = 1 := by kernel_rfl
theorem c1bool : Tryz.prog.cellsOf 4 = 1 := by kernel_rfl
theorem c1u8 : Tryz.prog.cellsOf 5 = 1 := by kernel_rfl
theorem c1limbs : Tryz.prog.cellsOf 25 = 1 := by kernel_rfl
theorem c1parts : Tryz.prog.cellsOf 24 = 1 := by kernel_rfl

theorem list2 {α : Type} {l : List α} (h : l.length = 2) : ∃ a b, l = [a, b] := by
  match l, h with
  | [a, b], _ => exact ⟨a, b, rfl⟩
theorem list3 {α : Type} {l : List α} (h : l.length = 3) : ∃ a b c, l = [a, b, c] := by
  match l, h with
  | [a, b, c], _ => exact ⟨a, b, c, rfl⟩
theorem list6 {α : Type} {l : List α} (h : l.length = 6) : ∃ a b c d e f, l = [a, b, c, d, e, f] := by
  match l, h with
  | [a, b, c, d, e, f], _ => exact ⟨a, b, c, d, e, f, rfl⟩
theorem list8 {α : Type} {l : List α} (h : l.length = 8) : ∃ a b c d e f g i, l = [a, b, c, d, e, f, g, i] := by
  match l, h with
  | [a, b, c, d, e, f, g, i], _ => exact ⟨a, b, c, d, e, f, g, i, rfl⟩
section
variable {H : Type} {enc : TypeId × Value → H} {w : World} {sp : Nat → Bool} {held : Bool}
theorem limbs_open {n : Nat} {cs : List Value} {y : DataW H × List MemPlace} (h : DataW.trod enc Tryz.prog w 0 sp held n 25 cs = some y) : ∃ A l c, cs = [.slice A l c] ∧ l ≤ maxLen := by
  rcases open_slice Tryz.underlying25 h with ⟨rfl, _⟩ | ⟨a, len, cap, m, n', D, Pl, rfl, _, hl, hm, _⟩
  · exact ⟨_, _, _, rfl, Nat.zero_le _⟩
  · exact ⟨_, _, _, rfl, by omega⟩
theorem int_open {n : Nat} {cs : List Value} {y : DataW H × List MemPlace} (h : DataW.trod enc Tryz.prog w 0 sp held n 27 cs = some y) : ∃ ng A l c, cs = [.bool ng, .slice A l c] ∧ l ≤ maxLen := by
  obtain ⟨y0, y1, n', hx, hl, h0, h1⟩ := trod_struct2 Tryz.underlying27 h
  rw [cInt] at hl
  obtain ⟨c0, c1, rfl⟩ := list2 hl
  · simp only [c1bool, c1limbs, List.drop_zero, List.take_succ_cons, List.take_zero, List.drop_succ_cons] at h0 h1
    obtain ⟨b, e0, _⟩ := DataW.trod_bool Tryz.underlying4 h0
    obtain ⟨A, l, c, e1, hle⟩ := limbs_open h1
    simp at e0 e1
    subst e0 e1
    exact ⟨b, A, l, c, rfl, hle⟩
theorem part_open {n : Nat} {cs : List Value} {y : DataW H × List MemPlace} (h : DataW.trod enc Tryz.prog w 0 sp held n 69 cs = some y) : ∃ v ng A l c, cs = [.int .i64 v, .bool ng, .slice A l c] ∧ l ≤ maxLen := by
  obtain ⟨y0, y1, n', hx, hl, h0, h1⟩ := trod_struct2 Tryz.underlying69 h
  rw [cPart] at hl
  obtain ⟨c0, c1, c2, rfl⟩ := list3 hl
  · simp only [c1int, cInt, List.drop_zero, List.take_succ_cons, List.take_zero, List.drop_succ_cons] at h0 h1
    obtain ⟨v, e0, _⟩ := DataW.trod_int Tryz.underlying3 h0
    obtain ⟨b, A, l, c, e1, hle⟩ := int_open h1
    simp at e0 e1
    obtain ⟨e1, e2⟩ := e1
    subst e0 e1 e2
    exact ⟨v, b, A, l, c, rfl, hle⟩
theorem addr_at {a : Addr} {w : World} {v : Value} (h : w.cell? (a.add 0) = some v) : ∃ b off, a = ⟨b, off, none⟩ ∧ b < w.heap.size := by
  obtain ⟨b, off, spot⟩ := a
  have hspot : spot = none := by simpa [Addr.add] using World.cell?_spot h
  subst hspot
  refine ⟨b, off, rfl, ?_⟩
  rcases Nat.lt_or_ge b w.heap.size with hb | hb
  · exact hb
  · simp [World.cell?, Addr.add, Array.getElem?_eq_none hb] at h
theorem add_none (b off j : Nat) : ((⟨b, off, none⟩ : Addr).add j) = ⟨b, off + j, none⟩ := by
  unfold Addr.add; split <;> simp_all
theorem parts_open {n : Nat} {cs : List Value} {y : DataW H × List MemPlace} (h : DataW.trod enc Tryz.prog w 0 sp held n 24 cs = some y) :
    ∃ A c ls, cs = [.slice A (ls : List Nat).length c] ∧ ls.length ≤ maxLen ∧ PartsAt w w.heap.size A ls ∧ ∀ x ∈ ls, x ≤ maxLen := by
  rcases open_slice Tryz.underlying24 h with ⟨rfl, _⟩ | ⟨a, len, cap, m, n', D, Pl, rfl, _, hl, hm, hmm, _, hall⟩
  · exact ⟨none, 0, [], rfl, Nat.zero_le _, ⟨by simp, by simp⟩, by simp⟩
  · rw [cPart] at hall
    have hmlen : len ≤ m := by rw [hmm]; split <;> omega
    obtain ⟨f, hf⟩ := choose_lt (α := Nat) (n := len) (p := fun i x => x ≤ maxLen ∧ ∃ v ng A c, w.cell? (a.add (i * 3)) = some (.int .i64 v) ∧ w.cell? ((a.add (i * 3)).add 1) = some (.bool ng) ∧ w.cell? ((a.add (i * 3)).add 2) = some (.slice A x c)) (fun i hi => by
      obtain ⟨cs', h1, h2⟩ := hall i (by omega)
      obtain ⟨v, ng, A, l, c, rfl, hle⟩ := part_open h2
      have hc := (World.cells?_some h1).2.2
      exact ⟨l, hle, v, ng, A, c, by have := hc 0 (by omega); simpa [Addr.add] using this, hc 1 (by omega), hc 2 (by omega)⟩)
    have hlen : ((List.range len).map f).length = len := by simp
    refine ⟨some a, cap, (List.range len).map f, by rw [hlen], by rw [hlen]; omega, ⟨fun j => ?_, fun hn => ?_⟩, ?_⟩
    · rcases Nat.lt_or_ge j len with hj | hj
      · rw [List.getElem?_map, List.getElem?_range hj]
        exact (hf j hj).1
      · rw [List.getElem?_eq_none (by simpa using hj)]; simp
    · rw [hlen] at hn
      obtain ⟨_, v, ng, A, c, d0, _⟩ := hf 0 hn
      obtain ⟨b, off, rfl, hlt⟩ := addr_at (by simpa using d0)
      refine ⟨b, off, rfl, hlt, fun j hj => ?_⟩
      rw [hlen] at hj
      obtain ⟨_, v, ng, A, c, d0, d1, d2⟩ := hf j hj
      rw [add_none] at d0 d1 d2
      rw [add_none] at d1 d2
      exact ⟨v, ng, A, c, d0, d1, by rw [List.getElem?_map, List.getElem?_range hj]; exact d2⟩
    · intro x hx
      obtain ⟨i, hi, rfl⟩ := List.mem_map.1 hx
      exact (hf i (List.mem_range.1 hi)).1
theorem term_open {n : Nat} {cs : List Value} {y : DataW H × List MemPlace} (h : DataW.trod enc Tryz.prog w 0 sp held n 29 cs = some y) :
    ∃ A c ls ng B l k, cs = [.slice A (ls : List Nat).length c, .bool ng, .slice B l k] ∧ ls.length ≤ maxLen ∧ PartsAt w w.heap.size A ls ∧ (∀ x ∈ ls, x ≤ maxLen) ∧ l ≤ maxLen := by
  obtain ⟨y0, y1, n', hx, hl, h0, h1⟩ := trod_struct2 Tryz.underlying29 h
  rw [cTerm] at hl
  obtain ⟨c0, c1, c2, rfl⟩ := list3 hl
  simp only [c1parts, cInt, List.drop_zero, List.take_succ_cons, List.take_zero, List.drop_succ_cons] at h0 h1
  obtain ⟨A, c, ls, e0, a1, a2, a3⟩ := parts_open h0
  obtain ⟨b, B, l, k, e1, hle⟩ := int_open h1
  simp at e0 e1
  obtain ⟨e1, e2⟩ := e1
  subst e0 e1 e2
  exact ⟨A, c, ls, b, B, l, k, rfl, a1, a2, a3, hle⟩
theorem top_le {ls : List Nat} {M : Nat} : ∀ {n : Nat}, n ≤ M → (∀ x ∈ ls, x ≤ M) → top ls n ≤ M := by
  induction ls with
  | nil => intro n h _; exact h
  | cons x r ih => intro n h hx; exact ih (n := max n x) (by have := hx x (by simp); omega) (fun y hy => hx y (by simp [hy]))
theorem atom_open {n : Nat} {cs : List Value} {y : DataW H × List MemPlace} (h : DataW.trod enc Tryz.prog w 0 sp held n 31 cs = some y) :
    ∃ a : At, cs = a.cells.toList ∧ AtIs w a := by
  obtain ⟨y0, y1, y2, n', hx, hl, h0, h1, h2⟩ := trod_struct3 Tryz.underlying31 h
  rw [cAtom] at hl
  obtain ⟨c0, c1, c2, c3, c4, c5, rfl⟩ := list6 hl
  simp only [c1u8, cTerm, cInt, List.drop_zero, List.take_succ_cons, List.take_zero, List.drop_succ_cons] at h0 h1 h2
  obtain ⟨v, e0, _⟩ := DataW.trod_int Tryz.underlying5 h0
  obtain ⟨A, c, ls, ng, B, l, k, e1, a1, a2, a3, a4⟩ := term_open h1
  obtain ⟨b, B', l', k', e2, hle⟩ := int_open h2
  simp at e0 e1 e2
  obtain ⟨e1, e3, e4⟩ := e1
  obtain ⟨e2, e5⟩ := e2
  subst e0 e1 e2 e3 e4 e5
  refine ⟨⟨v, A, c, ng, B, l, k, b, B', l', k', ls⟩, rfl, a2, ?_, ?_⟩
  · have : maxLen = 9223372036854775807 := by decide
    rw [← this]; exact a1
  · have : maxLen = 9223372036854775807 := by decide
    rw [← this]
    exact top_le (Nat.max_le.2 ⟨a4, hle⟩) a3
theorem call_open {n : Nat} {cs : List Value} {y : DataW H × List MemPlace} (h : DataW.trod enc Tryz.prog w 0 sp held n 33 cs = some y) :
    ∃ c : Cl, cs = c.cells.toList ∧ AtIs w c.a := by
  obtain ⟨y0, y1, y2, n', hx, hl, h0, h1, h2⟩ := trod_struct3 Tryz.underlying33 h
  rw [cCall] at hl
  obtain ⟨c0, c1, c2, c3, c4, c5, c6, c7, rfl⟩ := list8 hl
  simp only [c1u8, c1int, cAtom, List.drop_zero, List.take_succ_cons, List.take_zero, List.drop_succ_cons] at h0 h1 h2
  obtain ⟨v, e0, _⟩ := DataW.trod_int Tryz.underlying5 h0
  obtain ⟨a, e1, ha⟩ := atom_open h1
  obtain ⟨k, e2, _⟩ := DataW.trod_int Tryz.underlying3 h2
  obtain ⟨kind, P, pc, n1, A1, la, c1', n2, A2, lm, c2', ls⟩ := a
  simp [At.cells] at e0 e1 e2
  obtain ⟨rfl, rfl, rfl, rfl, rfl, rfl⟩ := e1
  subst e0 e2
  exact ⟨⟨v, ⟨kind, P, pc, n1, A1, la, c1', n2, A2, lm, c2', ls⟩, k⟩, rfl, ha⟩
theorem calls_open {n : Nat} {A : Option Addr} {len cap : Nat} {y : DataW H × List MemPlace} (h : DataW.trod enc Tryz.prog w 0 sp held n 37 [.slice A len cap] = some y) :
    ∃ cs : List Cl, cs.length = len ∧ CallsAt w A cs := by
  rcases open_slice Tryz.underlying37 h with ⟨e, _⟩ | ⟨a, len', cap', m, n', D, Pl, e, _, hl, hm, hmm, _, hall⟩
  · simp at e
    obtain ⟨rfl, rfl, rfl⟩ := e
    exact ⟨[], rfl, by simp, by simp⟩
  · simp at e
    obtain ⟨rfl, rfl, rfl⟩ := e
    rw [cCall] at hall
    have hmlen : len ≤ m := by rw [hmm]; split <;> omega
    have : Inhabited Cl := ⟨⟨0, ⟨0, none, 0, false, none, 0, 0, false, none, 0, 0, []⟩, 0⟩⟩
    obtain ⟨f, hf⟩ := choose_lt (α := Cl) (n := len) (p := fun i c => (∀ k, k < 8 → w.cell? ((a.add (i * 8)).add k) = c.cells.toList[k]?) ∧ AtIs w c.a) (fun i hi => by
      obtain ⟨cs', h1, h2⟩ := hall i (by omega)
      obtain ⟨c, rfl, ha⟩ := call_open h2
      exact ⟨c, (World.cells?_some h1).2.2, ha⟩)
    refine ⟨(List.range len).map f, by simp, ?_, fun hn => ?_⟩
    · have : maxLen = 9223372036854775807 := by decide
      rw [← this]; simp; omega
    · simp at hn
      have d0 := (hf 0 hn).1 0 (by omega)
      obtain ⟨b, off, rfl, hlt⟩ := addr_at (v := .int .u8 (f 0).what) (by simpa [Addr.add, Cl.cells] using d0)
      refine ⟨b, off, rfl, hlt, fun j c hj => ?_⟩
      have hjl : j < len := by
        have := (List.getElem?_eq_some_iff.1 hj).1
        simpa using this
      rw [List.getElem?_map, List.getElem?_range hjl] at hj
      simp at hj
      subst hj
      obtain ⟨h1, h2⟩ := hf j hjl
      rw [add_none] at h1
      have g (k : Nat) (hk : k < 8) : w.cell? ⟨b, off + j * 8 + k, none⟩ = (f j).cells.toList[k]? := by rw [← add_none]; exact h1 k hk
      exact ⟨⟨g 0 (by omega), g 1 (by omega), g 2 (by omega), g 3 (by omega), g 4 (by omega), g 5 (by omega), g 6 (by omega), g 7 (by omega)⟩, h2⟩
set_option maxRecDepth 100000 in
theorem bud_open {r : Reach} {b0 : Nat} {v : Value} {d : DataW H} {p : List MemPlace} (hv : Value.okWide Tryz.prog w r b0 23 v) (h : DataW.Trod enc Tryz.prog w 0 sp held 23 v d p) :
    ∃ s r l k : Int, v = .agg #[.int .i64 s, .int .i64 r, .int .i64 l, .int .i64 k] := by
  obtain ⟨c0, c1, c2, c3, y0, y1, y2, y3, m, rfl, _, _, h0, h1, h2, h3⟩ := open_agg4 Tryz.underlying23 (by kernel_rfl) cBud hv h
  obtain ⟨a, e0, _⟩ := DataW.trod_int Tryz.underlying3 h0
  obtain ⟨b, e1, _⟩ := DataW.trod_int Tryz.underlying3 h1
  obtain ⟨c, e2, _⟩ := DataW.trod_int Tryz.underlying3 h2
  obtain ⟨d, e3, _⟩ := DataW.trod_int Tryz.underlying3 h3
  simp at e0 e1 e2 e3
  subst e0 e1 e2 e3
  exact ⟨a, b, c, d, rfl⟩
end

/-- the variables that each row lists -/
def laidL : List (String × DataW Unit) := [("math/bits.deBruijn32tab", Rows.laid_math_bits_deBruijn32tab), ("math/bits.deBruijn64tab", Rows.laid_math_bits_deBruijn64tab), ("internal/strconv.uint64pow10", Rows.laid_internal_strconv_uint64pow10), ("errors.errorType", Rows.laid_errors_errorType)]
theorem eRt : (Tryz.prog.cutTypes.find? (·.1 == "internal/reflectlite.rtype")).map (·.2) = some 131 := by kernel_rfl
theorem eSize : ∃ n, Tryz.prog.types.size = n ∧ ((List.range n).filter fun t => Tryz.prog.rowNamed t [101, 114, 114, 111, 114]) = [49] := ⟨Tryz.prog.types.size, rfl, by kernel_rfl⟩
theorem eGlob : Tryz.prog.globalNamed "errors.errorType" = some 0 := by kernel_rfl
theorem errT_of_laid {W : World} (h : laidMetH Tryz.prog laidL W) : ErrT W := by
  have h' := (laidMetH_iff.1 h).2
  obtain ⟨name, u, ty, e1, e2, e3, e4, e5⟩ := h' ("errors.errorType", Rows.laid_errors_errorType) (List.mem_filter.2 ⟨by simp [laidL], by kernel_rfl⟩)
  have en : name = [101, 114, 114, 111, 114] := (Option.some.inj e1).symm
  subst en
  obtain rfl := Option.some.inj (eRt.symm.trans e2)
  obtain ⟨n, hn, hrow⟩ := eSize
  have hm : ty ∈ (List.range n).filter fun t => Tryz.prog.rowNamed t [101, 114, 114, 111, 114] := List.mem_filter.2 ⟨List.mem_range.2 (by rw [← hn]; exact e3), e4⟩
  rw [hrow] at hm
  obtain rfl := List.mem_singleton.1 hm
  have hh : typeHandle Tryz.prog 49 = .pointer (some ⟨4, 49, none⟩) := by kernel_rfl
  rw [hh] at e5
  unfold ErrT
  simpa using World.var?_cell eGlob e5 0
theorem tabL : (laidL.filter fun x => x.1 == "internal/strconv.uint64pow10") = [("internal/strconv.uint64pow10", Lib.tabData .u64 Lib.pow10Tab)] := by kernel_rfl
theorem tab_of_laid {W : World} (h : laidMetH Tryz.prog laidL W) : Tab W := by
  have h1 := h.filter (fun x => x.1 == "internal/strconv.uint64pow10")
  rw [tabL, MakeChecks.laidMetH_plain _ _ _ (by kernel_rfl)] at h1
  exact Lib.tabIs_of_head (g := 1) (t := 155) (e := 125) (n := 20) (by kernel_rfl) (by kernel_rfl) Tryz.underlying155 Tryz.underlying125 (by kernel_rfl) (by kernel_rfl) h1
theorem door_met (os : Os) (args : Array Value) : laidMetH Tryz.prog laidL ((World.doorLaid Tryz.prog 400 os).forCall (fun _ _ => 0) ⟨#[], args, []⟩).memory :=
  laidMetH_of_parts3 (fuel := 8) (laidMet_of_run' 8 (by kernel_rfl) (by kernel_rfl)) (by kernel_rfl) (by kernel_rfl)
end Go.Proofs.YtdkdgijcoialbaaGreatDoor

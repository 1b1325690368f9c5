/- The meter: what is told to it, part by part. -/
import Derived.Test.YtbnlcgnpkodieaaMetB
import Derived.Lib.SmallJoins
import Derived.Deep.RegionHeld3
import Derived.Deep.RegionWith
namespace Go.Proofs.Ytbnlcgnpkodieaa
open Go.RowKit

set_option linter.unusedVariables false
set_option linter.unusedSimpArgs false

structure Mt where
  (bs br bl bd ss sr sl sd : Int)
  out : Option (ByteArray × Int)
def Mt.why (m : Mt) : Value := match m.out with
  | none => .nilIface
  | some x => (Base.used x.1 x.2).val
def Mt.cells (m : Mt) : Array Value := #[.int .i64 m.bs, .int .i64 m.br, .int .i64 m.bl, .int .i64 m.bd, .int .i64 m.ss, .int .i64 m.sr, .int .i64 m.sl, .int .i64 m.sd, m.why]
def MtAt (g : Nat) (m : Mt) (w : World) : Prop := w.heap[g]? = some (.cells m.cells 62 (0, 0))
theorem MtAt.keep {g : Nat} {m : Mt} {w w' : World} (h : MtAt g m w) (hb : Below w.heap.size w w') : MtAt g m w' :=
  (hb.block g (Array.getElem?_eq_some_iff.1 h).1).trans h
theorem MtAt.lt {g : Nat} {m : Mt} {w : World} (h : MtAt g m w) : g < w.heap.size := (Array.getElem?_eq_some_iff.1 h).1
theorem MtAt.set {g k : Nat} {m m' : Mt} {w : World} (v : Value) (h : MtAt g m w) (e : m.cells.setIfInBounds k v = m'.cells) : MtAt g m' (w.setCell ⟨g, k, none⟩ v) := by
  unfold MtAt at *
  rw [← e]
  exact Joins.block_setCell h v

abbrev sName : ByteArray := ⟨#[115, 116, 101, 112, 115]⟩
abbrev rName : ByteArray := ⟨#[114, 111, 119, 115]⟩
abbrev lName : ByteArray := ⟨#[108, 105, 109, 98, 115]⟩
abbrev dName : ByteArray := ⟨#[100, 101, 112, 116, 104]⟩
/-- what a call answers: its number, the meter behind it -/
def Paid (g : Nat) (m : Mt) (n : Int) (w : World) (e : Ending) (w' : World) : Prop := e = .returned (.int .i64 n) ∧ MtAt g m w' ∧ Just g w w'

theorem over_free (g : Nat) (m : Mt) (w : World) (h : MtAt g m w) (h0 : m.out = none) :
    Calls Try.prog 49 #[.pointer (some ⟨g, 0, none⟩)] w fun e w' => e = .returned (.int .i64 0) ∧ w = w' := by
  have c8 : w.cell? ⟨g, 8, none⟩ = some .nilIface := by rw [cell_of h]; simp [Mt.cells, Mt.why, h0]
  clear h h0
  go_enter Try.func49, Try.ntmps49
  go_wp2
  go_ret
  exact ⟨rfl, rfl⟩
theorem over_gone (g : Nat) (m : Mt) (w : World) (h : MtAt g m w) (x : ByteArray × Int) (h0 : m.out = some x) :
    Calls Try.prog 49 #[.pointer (some ⟨g, 0, none⟩)] w fun e w' => e = .returned (.int .i64 46) ∧ w = w' := by
  have c8 : w.cell? ⟨g, 8, none⟩ = some (.iface 96 (.agg #[.string x.1, .int .i64 x.2])) := by rw [cell_of h]; simp [Mt.cells, Mt.why, h0, Base.val]
  clear h h0
  go_enter Try.func49, Try.ntmps49
  go_wp2
  go_ret
  exact ⟨rfl, rfl⟩
theorem over_nil (w : World) :
    Calls Try.prog 49 #[.pointer none] w fun e w' => e = .returned (.int .i64 2) ∧ w = w' := by
  go_enter Try.func49, Try.ntmps49
  go_wp2
  go_ret
  exact ⟨rfl, rfl⟩
theorem mend_any (g : Nat) (m : Mt) (p : ByteArray) (n : Int) (w : World) (h : MtAt g m w) :
    Calls Try.prog 56 #[.pointer (some ⟨g, 0, none⟩), .string p, .int .i64 n] w (Paid g { m with out := some (p, n) } 46 w) := by
  have c8 : w.cell? ⟨g, 8, none⟩ = some m.why := by rw [cell_of h]; rfl
  have f8 := frozen_of h 8
  have H := Lib.hid h
  clear h
  generalize m.why = v8 at *
  go_enter Try.func56, Try.ntmps56
  go_wp2
  go_ret
  exact ⟨rfl, H.out.set _ rfl, Just.set _ _ _ _⟩
theorem mtold_over (g k : Nat) (m : Mt) (p : ByteArray) (n most : Int) (w : World) (h : MtAt g m w) (hn : most < n) :
    Calls Try.prog 50 #[.pointer (some ⟨g, 0, none⟩), .string p, .int .i64 n, .int .i64 most, .pointer (some ⟨g, k, none⟩)] w (Paid g { m with out := some (p, most) } 46 w) := by
  have c := Lib.hid (mend_any g m p most w h)
  clear h
  go_enter Try.func50, Try.ntmps50
  go_wp2_with ((with_reducible refine c.out.mono ?_); rintro e w1 ⟨rfl, hm1, hj⟩)
  go_ret
  exact ⟨rfl, hm1, hj⟩
theorem mtold_in (g k : Nat) (m : Mt) (p : ByteArray) (n most s : Int) (w : World) (h : MtAt g m w) (hk : m.cells[k]? = some (.int .i64 s)) (m' : Mt) (hm : m.cells.setIfInBounds k (.int .i64 (max s n)) = m'.cells) (hn : n ≤ most) :
    Calls Try.prog 50 #[.pointer (some ⟨g, 0, none⟩), .string p, .int .i64 n, .int .i64 most, .pointer (some ⟨g, k, none⟩)] w (Paid g m' 0 w) := by
  have ck : w.cell? ⟨g, k, none⟩ = some (.int .i64 s) := by rw [cell_of h]; exact hk
  have fk := frozen_of h k
  have H := Lib.hid h
  have HM := Lib.hid hm
  clear h hk hm
  go_enter Try.func50, Try.ntmps50
  go_wp2
  · go_ret
    exact ⟨rfl, H.out.set _ (by have := HM.out; rwa [Int.max_eq_right (by omega)] at this), Just.set _ _ _ _⟩
  · go_ret
    exact ⟨rfl, H.out.set _ (by have := HM.out; rwa [Int.max_eq_left (by omega)] at this), Just.set _ _ _ _⟩

/-- Rows, Deep -/
def Mt.rows (m : Mt) (n : Int) : Mt × Int := match m.out with
  | some _ => (m, 46)
  | none => if n ≤ m.br then ({ m with sr := max m.sr n }, 0) else ({ m with out := some (rName, m.br) }, 46)
def Mt.deep (m : Mt) (n : Int) : Mt × Int := match m.out with
  | some _ => (m, 46)
  | none => if n ≤ m.bd then ({ m with sd := max m.sd n }, 0) else ({ m with out := some (dName, m.bd) }, 46)
def Mt.pay (m : Mt) (n : Int) : Mt × Int := match m.out with
  | some _ => (m, 46)
  | none => if m.ss = m.bs then ({ m with out := some (sName, m.bs) }, 46) else
    if n ≤ m.bl then ({ m with ss := m.ss + 1, sl := max m.sl n }, 0) else ({ m with out := some (lName, m.bl) }, 46)
theorem Paid.of {g : Nat} {m m' : Mt} {n n' : Int} {w : World} {e : Ending} {w' : World} (h : Paid g m n w e w') (e1 : (m', n') = (m, n)) : Paid g m' n' w e w' := by
  simp only [Prod.mk.injEq] at e1
  obtain ⟨rfl, rfl⟩ := e1
  exact h
theorem deep_any (g : Nat) (m : Mt) (n : Int) (w : World) (h : MtAt g m w) :
    Calls Try.prog 40 #[.pointer (some ⟨g, 0, none⟩), .int .i64 n] w (Paid g (m.deep n).1 (m.deep n).2 w) := by
  cases h0 : m.out with
  | some x =>
    have c := Lib.hid (over_gone g m w h x h0)
    have H := Lib.hid h
    have e0 : m.deep n = (m, 46) := by unfold Mt.deep; rw [h0]
    rw [e0]
    clear h h0 e0
    go_enter Try.func40, Try.ntmps40
    go_wp2_with ((with_reducible refine c.out.mono ?_); rintro e w1 ⟨rfl, rfl⟩)
    go_ret
    exact ⟨rfl, H.out, Just.of (Below.refl _ _)⟩
  | none =>
    have c := Lib.hid (over_free g m w h h0)
    have ck : w.cell? ⟨g, 3, none⟩ = some (.int .i64 m.bd) := by rw [cell_of h]; rfl
    by_cases hn : n ≤ m.bd
    · have d := Lib.hid (mtold_in g 7 m dName n m.bd m.sd w.drew h rfl { m with sd := max m.sd n } rfl hn)
      have e0 : m.deep n = ({ m with sd := max m.sd n }, 0) := by unfold Mt.deep; rw [h0]; exact if_pos hn
      rw [e0]
      clear h h0 e0 hn
      generalize { m with sd := max m.sd n } = m' at *
      generalize m.bd = B at *
      go_enter Try.func40, Try.ntmps40
      go_wp2_with ((with_reducible refine c.out.mono ?_); rintro e w1 ⟨rfl, rfl⟩)
      go_region_with (go_at_call 50; (with_reducible refine d.out.mono ?_); rintro e w1 ⟨rfl, hm1, hj⟩)
      go_wp2
      go_ret
      exact ⟨rfl, hm1, (Just.of (Below.refl _ _).drew).trans hj⟩
    · have d := Lib.hid (mtold_over g 7 m dName n m.bd w.drew h (by omega))
      have e0 : m.deep n = ({ m with out := some (dName, m.bd) }, 46) := by unfold Mt.deep; rw [h0]; exact if_neg hn
      rw [e0]
      clear h h0 e0 hn
      generalize { m with out := some (dName, m.bd) } = m' at *
      generalize m.bd = B at *
      go_enter Try.func40, Try.ntmps40
      go_wp2_with ((with_reducible refine c.out.mono ?_); rintro e w1 ⟨rfl, rfl⟩)
      go_region_with (go_at_call 50; (with_reducible refine d.out.mono ?_); rintro e w1 ⟨rfl, hm1, hj⟩)
      go_wp2
      go_ret
      exact ⟨rfl, hm1, (Just.of (Below.refl _ _).drew).trans hj⟩
theorem deep_nil (n : Int) (w : World) :
    Calls Try.prog 40 #[.pointer none, .int .i64 n] w (fun e w' => e = .returned (.int .i64 2) ∧ w = w') := by
  have c := Lib.hid (over_nil w)
  go_enter Try.func40, Try.ntmps40
  go_wp2_with ((with_reducible refine c.out.mono ?_); rintro e w1 ⟨rfl, rfl⟩)
  go_ret
  exact ⟨rfl, rfl⟩
end Go.Proofs.Ytbnlcgnpkodieaa

/- Part, Wrap, Words; what an error says. -/
import Derived.Test.YtdkdgijcoialbaaGreatDoorBudG
import Derived.BigQuiet
import Derived.Lib.SmallJoins
namespace Go.Proofs.YtdkdgijcoialbaaGreatDoor
open Go.RowKit Go.Shelf

set_option linter.unusedVariables false
set_option linter.unusedSimpArgs false

set_option maxHeartbeats 2000000 in
theorem part_from (v : Value) (p : ByteArray) (m : Int) (b : Bool) (w : World) (hp : b = true → p.toList.isEmpty = false) (h : Calls Tryz.prog 29 #[v] w fun e w' => e = .returned (.tuple #[.agg #[.string p, .int .i64 m], .bool b]) ∧ Below w.heap.size w w') (hv : (∃ t x, v = .iface t x) ∨ v = .nilIface) :
    Calls Tryz.prog 15 #[v] w fun e w' => e = .returned (.tuple #[.string p, .int .i64 m, .bool b]) ∧ Below w.heap.size w w' := by
  have c := Lib.hid h
  clear h
  have HP := Lib.hid hp
  clear hp
  rcases hv with ⟨ty, z, rfl⟩ | rfl
  all_goals
    go_enter Tryz.func15, Tryz.ntmps15
    go_wp2_with ((with_reducible refine c.out.mono ?_); rintro e w1 ⟨rfl, hb⟩; have HB := Lib.hid hb; clear hb)
    have hx := lone_new w1 #[.string p, .int .i64 m] 76
    have HW := Lib.hid (HB.out.alloc HB.out.size (.cells #[.string p, .int .i64 m] 76))
    have x0 : (w1.alloc (.cells #[.string p, .int .i64 m] 76)).drew.cell? ⟨w1.heap.size, 0, none⟩ = some (.string p) := (cell_of hx 0).trans rfl
    have x1 : (w1.alloc (.cells #[.string p, .int .i64 m] 76)).drew.cell? ⟨w1.heap.size, 1, none⟩ = some (.int .i64 m) := (cell_of hx 1).trans rfl
    clear hx
    cases b
    · go_quiet (fail)
      go_wp2
      go_ret3
      exact ⟨rfl, HW.out.trans (Joins.below_draws _ _ _)⟩
    · have hp := HP.out rfl
      go_quiet (fail)
      go_wp2
      go_ret3
      exact ⟨rfl, HW.out.trans (Joins.below_draws _ _ _)⟩

/-- what Part says of an error -/
def Base.part : Base → ByteArray
  | .used p _ => p
  | .num _ => ⟨#[]⟩
def Base.most : Base → Int
  | .used _ m => m
  | .num _ => 0
def Base.up : Base → Bool
  | .used _ _ => true
  | .num _ => false
/-- a base that may be -/
def Base.ok : Base → Prop
  | .used p m => p.toList.isEmpty = false ∧ p.size ≤ 1000 ∧ -9223372036854775808 ≤ m ∧ m ≤ 9223372036854775807
  | .num n => -9223372036854775808 ≤ n ∧ n ≤ 9223372036854775807
theorem part_any {ws : List ByteArray} {b : Base} {v : Value} {w : World} (hT : ErrT w) (he : ErrIs w v ws b) (hb : b.ok) :
    Calls Tryz.prog 15 #[v] w fun e w' => e = .returned (.tuple #[.string b.part, .int .i64 b.most, .bool b.up]) ∧ Below w.heap.size w w' := by
  cases b with
  | used p m => exact part_from v p m true w (fun _ => hb.1) (foundU_used hT he) (.inl he.iface)
  | num n => exact part_from v _ _ false w (fun h => by cases h) (foundU_num hT he) (.inl he.iface)
theorem part_nil (w : World) :
    Calls Tryz.prog 15 #[.nilIface] w fun e w' => e = .returned (.tuple #[.string ⟨#[]⟩, .int .i64 0, .bool false]) ∧ Below w.heap.size w w' :=
  part_from .nilIface _ _ false w (fun h => by cases h) (foundU_nil w) (.inr rfl)
theorem wrap_nil (s : ByteArray) (w : World) :
    Calls Tryz.prog 13 #[.nilIface, .string s] w fun e w' => e = .returned .nilIface ∧ w = w' := by
  go_enter Tryz.func13, Tryz.ntmps13
  go_wp2
  go_ret
  exact ⟨rfl, rfl⟩
theorem wrap_any {ws : List ByteArray} {b : Base} {v : Value} {w : World} (s : ByteArray) (he : ErrIs w v ws b) :
    Calls Tryz.prog 13 #[v, .string s] w fun e w' => ∃ v', e = .returned v' ∧ ErrIs w' v' (s :: ws) b ∧ Below w.heap.size w w' := by
  have HE := Lib.hid he
  obtain ⟨ty, z, rfl⟩ := he.iface
  clear he
  go_enter Tryz.func13, Tryz.ntmps13
  go_wp2
  go_ret
  have hb := (Below.refl _ w).alloc (Nat.le_refl _) (.cells #[.iface ty z, .string s] 72)
  exact ⟨_, rfl, .wrap _ _ _ _ _ (lone_new w _ _) (HE.out.keep hb), hb⟩
set_option maxHeartbeats 2000000 in
theorem peeled_nil (w : World) :
    Calls Tryz.prog 28 #[.nilIface] w fun e w' => e = .returned (.tuple #[.slice none 0 0, .nilIface]) ∧ Below w.heap.size w w' := by
  have c := Lib.hid (foundW_nil w)
  go_enter Tryz.func28, Tryz.ntmps28
  go_wp2
  go_loopw [0, 2] (fun e s wr => e = .nilIface ∧ s = .slice none 0 0 ∧ w = wr) (fun _ _ _ => 0)
  case atStart => exact ⟨rfl, rfl, rfl⟩
  case round =>
    obtain ⟨rfl, rfl, rfl⟩ := hrel
    go_wp2_with ((with_reducible refine c.out.mono ?_); rintro e w1 ⟨rfl, hb⟩; have Hb := Lib.hid hb; clear hb)
    go_ret2
    exact ⟨rfl, Hb.out⟩
theorem words_nil (w : World) :
    Calls Tryz.prog 14 #[.nilIface] w fun e w' => e = .returned (.slice none 0 0) ∧ Below w.heap.size w w' := by
  have c := Lib.hid (peeled_nil w)
  go_enter Tryz.func14, Tryz.ntmps14
  go_wp2_with ((with_reducible refine c.out.mono ?_); rintro e w1 ⟨rfl, hb⟩; have Hb := Lib.hid hb; clear hb)
  go_ret
  exact ⟨rfl, Hb.out⟩
def WordsPost (ws : List ByteArray) (w : World) (e : Ending) (w' : World) : Prop := (∃ A cap, e = .returned (.slice A ws.length cap) ∧ cap ≤ maxLen ∧ OwnS w' w.heap.size (.slice A ws.length cap) ws) ∧ Below w.heap.size w w'
theorem words_any {ws : List ByteArray} {b : Base} {v : Value} {w : World} (hT : ErrT w) (he : ErrIs w v ws b) (hl : ws.length ≤ 1000) :
    Calls Tryz.prog 14 #[v] w (WordsPost ws w) := by
  have c := Lib.hid (peeled_any v ws b w hT he hl)
  obtain ⟨ty, z, rfl⟩ := he.iface
  obtain ⟨bt, bx, hbv⟩ := (ErrIs.base (w := w) b).iface
  rw [hbv] at c
  clear he hT hl hbv
  go_enter Tryz.func14, Tryz.ntmps14
  go_wp2_with ((with_reducible refine c.out.mono ?_); rintro e w1 ⟨⟨A, cap, rfl, hm, ho⟩, hb⟩; have HO := Lib.hid ho; have Hb := Lib.hid hb; have HM := Lib.hid hm; clear hb ho hm)
  go_ret
  exact ⟨⟨A, cap, rfl, HM.out, HO.out⟩, Hb.out⟩
end Go.Proofs.YtdkdgijcoialbaaGreatDoor

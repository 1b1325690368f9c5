/- errors.As, and found, at the three targets (mkbudd.py). -/
import Derived.Test.YtdkdgijcoialbaaGreatDoorBudC
import Derived.Defers
import Derived.Recover
namespace Go.Proofs.YtdkdgijcoialbaaGreatDoor
open Go.RowKit Go.Extern.Stop Go.Stop Go.Extern

set_option linter.unusedVariables false
set_option linter.unusedSimpArgs false

/-- what errors.errorType holds -/
def ErrT (w : World) : Prop := w.cell? ⟨0, 0, none⟩ = some (.iface 131 (.agg #[.pointer (some ⟨4, 49, none⟩)]))
theorem ErrT.pos {w : World} (h : ErrT w) : 0 < w.heap.size := by
  rcases Nat.eq_zero_or_pos w.heap.size with h0 | h1
  · simp [ErrT, World.cell?, h0] at h
  · exact h1
theorem ErrT.keep {w w' : World} (h : ErrT w) (hb : Below w.heap.size w w') : ErrT w' := by
  unfold ErrT at *; rw [hb.cell (p := ⟨0, 0, none⟩) (show 0 < _ from ErrT.pos h)]; exact h
theorem PostU.from {g : Nat} {b : Base} {w w1 : World} {e : Ending} {w' : World} (h : PostU g b w1 e w') (hb : Below w.heap.size w w1) : PostU g b w e w' := by
  cases b with
  | used p m => exact ⟨h.1, h.2.1, (Just.of hb).trans h.2.2⟩
  | num n => exact ⟨h.1, hb.trans (h.2.mono hb.size)⟩
theorem PostN.from {g : Nat} {b : Base} {w w1 : World} {e : Ending} {w' : World} (h : PostN g b w1 e w') (hb : Below w.heap.size w w1) : PostN g b w e w' :=
  ⟨h.1, h.2.1, (Just.of hb).trans h.2.2⟩
theorem PostW.from {g : Nat} {v : Value} {ws : List ByteArray} {w w1 : World} {e : Ending} {w' : World} (h : PostW g v ws w1 e w') (hb : Below w.heap.size w w1) : PostW g v ws w e w' := by
  cases ws with
  | nil => exact ⟨h.1, hb.trans (h.2.mono hb.size)⟩
  | cons s r => obtain ⟨x, hx, h1, h2, h3⟩ := h; exact ⟨x, hx, h1, h2, (Just.of hb).trans h3⟩
theorem PostU.bool {g : Nat} {b : Base} {w : World} {e : Ending} {w' : World} (h : PostU g b w e w') : ∃ x, e = .returned (.bool x) := by
  cases b with
  | used p m => exact ⟨_, h.1⟩
  | num n => exact ⟨_, h.1⟩
theorem PostN.bool {g : Nat} {b : Base} {w : World} {e : Ending} {w' : World} (h : PostN g b w e w') : ∃ x, e = .returned (.bool x) := ⟨_, h.1⟩
theorem PostW.bool {g : Nat} {v : Value} {ws : List ByteArray} {w : World} {e : Ending} {w' : World} (h : PostW g v ws w e w') : ∃ x, e = .returned (.bool x) := by
  cases ws with
  | nil => exact ⟨_, h.1⟩
  | cons s r => obtain ⟨x, hx, h1, h2⟩ := h; exact ⟨_, h1⟩

theorem asNil (t : Value) (w : World) : Calls Tryz.prog 45 #[.nilIface, t] w fun e w' => e = .returned (.bool false) ∧ w = w' := by
  go_enter Tryz.func45, Tryz.ntmps45
  go_wp2
  go_ret
  exact ⟨rfl, rfl⟩
set_option maxRecDepth 100000 in
set_option maxHeartbeats 4000000 in
theorem AsU_any (ws : List ByteArray) (b : Base) (v x0 y0 : Value) (g : Nat) (w : World) (hT : ErrT w) (he : ErrIs w v ws b) (hg : w.heap[g]? = some (.cells #[x0, y0] 76 (0, 0))) :
    Calls Tryz.prog 45 #[v, .iface 100 (.pointer (some ⟨g, 0, none⟩))] w (PostU g b w) := by
  have h59 := @run_callFunc_extern Tryz.prog 57 _ (fun args => ReflectliteValue.unpack (args.getD 0 (.tuple #[]))) Tryz.func57 (by kernel_rfl) (by kernel_rfl) (by kernel_rfl) (by kernel_rfl)
  have h60 := @run_callFunc_extern Tryz.prog 58 _ (ReflectliteValue.methodAny (ReflectliteValue.valueError "reflectlite.Value.Type" 0) (fun t _ _ _ => ReflectliteType.toType t)) Tryz.func58 (by kernel_rfl) (by kernel_rfl) (by kernel_rfl) (by kernel_rfl)
  have h61 := @run_callFunc_extern Tryz.prog 59 _ (ReflectliteValue.method (ReflectliteValue.valueError "reflectlite.Value.IsNil" 0) ReflectliteValue.isNil) Tryz.func59 (by kernel_rfl) (by kernel_rfl) (by kernel_rfl) (by kernel_rfl)
  have h103 := @run_callFunc_extern Tryz.prog 100 _ (ReflectliteType.abiMethod fun t => do pure (.int .u8 (← Rtype.kind t))) Tryz.func100 (by kernel_rfl) (by kernel_rfl) (by kernel_rfl) (by kernel_rfl)
  have h116 := @run_callFunc_extern Tryz.prog 113 _ (ReflectliteType.method ReflectliteType.elem) Tryz.func113 (by kernel_rfl) (by kernel_rfl) (by kernel_rfl) (by kernel_rfl)
  have h117 := @run_callFunc_extern Tryz.prog 114 _ (ReflectliteType.relation "Implements" ReflectliteType.implements_) Tryz.func114 (by kernel_rfl) (by kernel_rfl) (by kernel_rfl) (by kernel_rfl)
  have mK := methodKind
  have mE := methodElem
  have mI := methodImplements
  have vP := valueOfPU
  have tP := typePU
  have kP := kindPU
  have kE := kindEU
  have eP := elemPU
  have iE := implEU
  have b1 : Below w.heap.size w (w.alloc (.cells #[.pointer (some ⟨g, 0, none⟩)] 100)) := (Below.refl _ w).alloc (Nat.le_refl _) _
  have b2 : Below w.heap.size w ((w.alloc (.cells #[.pointer (some ⟨g, 0, none⟩)] 100)).alloc (.cells #[.pointer (some ⟨4, 100, none⟩), .pointer (some ⟨w.heap.size, 0, none⟩), .int .u64 150] 114)) := b1.alloc (by simp) _
  have hq := lone_old (.cells #[.pointer (some ⟨4, 100, none⟩), .pointer (some ⟨w.heap.size, 0, none⟩), .int .u64 150] 114) (lone_new w #[.pointer (some ⟨g, 0, none⟩)] 100)
  have n8 := isNilPU ⟨w.heap.size, 0, none⟩ ⟨g, 0, none⟩ _ (by rw [cell_of hq]; rfl)
  have g0 : ((w.alloc (.cells #[.pointer (some ⟨g, 0, none⟩)] 100)).alloc (.cells #[.pointer (some ⟨4, 100, none⟩), .pointer (some ⟨w.heap.size, 0, none⟩), .int .u64 150] 114)).cell? ⟨0, 0, none⟩ = some (.iface 131 (.agg #[.pointer (some ⟨4, 49, none⟩)])) := hT.keep b2
  have c1 := asU_any ws b v x0 y0 g w.heap.size _ (he.keep b2) (lone_old _ (lone_old _ hg)) hq
  obtain ⟨ty, x, rfl⟩ := he.iface
  have B2 := Lib.hid b2
  clear b1 b2 hq he hT hg
  go_enter Tryz.func45, Tryz.ntmps45
  go_wp2_with ((with_reducible refine c1.mono ?_); intro e w' hp; obtain ⟨r, rfl⟩ := hp.bool; have HP := Lib.hid (hp.from B2.out); clear hp)
  go_ret
  exact HP.out

set_option maxRecDepth 100000 in
set_option maxHeartbeats 4000000 in
theorem AsW_any (ws : List ByteArray) (b : Base) (v x0 y0 : Value) (g : Nat) (w : World) (hT : ErrT w) (he : ErrIs w v ws b) (hg : w.heap[g]? = some (.cells #[x0] 70 (0, 0))) :
    Calls Tryz.prog 45 #[v, .iface 110 (.pointer (some ⟨g, 0, none⟩))] w (PostW g v ws w) := by
  have h59 := @run_callFunc_extern Tryz.prog 57 _ (fun args => ReflectliteValue.unpack (args.getD 0 (.tuple #[]))) Tryz.func57 (by kernel_rfl) (by kernel_rfl) (by kernel_rfl) (by kernel_rfl)
  have h60 := @run_callFunc_extern Tryz.prog 58 _ (ReflectliteValue.methodAny (ReflectliteValue.valueError "reflectlite.Value.Type" 0) (fun t _ _ _ => ReflectliteType.toType t)) Tryz.func58 (by kernel_rfl) (by kernel_rfl) (by kernel_rfl) (by kernel_rfl)
  have h61 := @run_callFunc_extern Tryz.prog 59 _ (ReflectliteValue.method (ReflectliteValue.valueError "reflectlite.Value.IsNil" 0) ReflectliteValue.isNil) Tryz.func59 (by kernel_rfl) (by kernel_rfl) (by kernel_rfl) (by kernel_rfl)
  have h103 := @run_callFunc_extern Tryz.prog 100 _ (ReflectliteType.abiMethod fun t => do pure (.int .u8 (← Rtype.kind t))) Tryz.func100 (by kernel_rfl) (by kernel_rfl) (by kernel_rfl) (by kernel_rfl)
  have h116 := @run_callFunc_extern Tryz.prog 113 _ (ReflectliteType.method ReflectliteType.elem) Tryz.func113 (by kernel_rfl) (by kernel_rfl) (by kernel_rfl) (by kernel_rfl)
  have h117 := @run_callFunc_extern Tryz.prog 114 _ (ReflectliteType.relation "Implements" ReflectliteType.implements_) Tryz.func114 (by kernel_rfl) (by kernel_rfl) (by kernel_rfl) (by kernel_rfl)
  have mK := methodKind
  have mE := methodElem
  have mI := methodImplements
  have vP := valueOfPW
  have tP := typePW
  have kP := kindPW
  have kE := kindEW
  have eP := elemPW
  have iE := implEW
  have b1 : Below w.heap.size w (w.alloc (.cells #[.pointer (some ⟨g, 0, none⟩)] 110)) := (Below.refl _ w).alloc (Nat.le_refl _) _
  have b2 : Below w.heap.size w ((w.alloc (.cells #[.pointer (some ⟨g, 0, none⟩)] 110)).alloc (.cells #[.pointer (some ⟨4, 110, none⟩), .pointer (some ⟨w.heap.size, 0, none⟩), .int .u64 150] 114)) := b1.alloc (by simp) _
  have hq := lone_old (.cells #[.pointer (some ⟨4, 110, none⟩), .pointer (some ⟨w.heap.size, 0, none⟩), .int .u64 150] 114) (lone_new w #[.pointer (some ⟨g, 0, none⟩)] 110)
  have n8 := isNilPW ⟨w.heap.size, 0, none⟩ ⟨g, 0, none⟩ _ (by rw [cell_of hq]; rfl)
  have g0 : ((w.alloc (.cells #[.pointer (some ⟨g, 0, none⟩)] 110)).alloc (.cells #[.pointer (some ⟨4, 110, none⟩), .pointer (some ⟨w.heap.size, 0, none⟩), .int .u64 150] 114)).cell? ⟨0, 0, none⟩ = some (.iface 131 (.agg #[.pointer (some ⟨4, 49, none⟩)])) := hT.keep b2
  have c1 := asW_any ws b v x0 y0 g w.heap.size _ (he.keep b2) (lone_old _ (lone_old _ hg)) hq
  obtain ⟨ty, x, rfl⟩ := he.iface
  have B2 := Lib.hid b2
  clear b1 b2 hq he hT hg
  go_enter Tryz.func45, Tryz.ntmps45
  go_wp2_with ((with_reducible refine c1.mono ?_); intro e w' hp; obtain ⟨r, rfl⟩ := hp.bool; have HP := Lib.hid (hp.from B2.out); clear hp)
  go_ret
  exact HP.out

set_option maxRecDepth 100000 in
set_option maxHeartbeats 4000000 in
theorem AsN_any (ws : List ByteArray) (b : Base) (v x0 y0 : Value) (g : Nat) (w : World) (hT : ErrT w) (he : ErrIs w v ws b) (hg : w.heap[g]? = some (.cells #[x0] 35 (0, 0))) :
    Calls Tryz.prog 45 #[v, .iface 122 (.pointer (some ⟨g, 0, none⟩))] w (PostN g b w) := by
  have h59 := @run_callFunc_extern Tryz.prog 57 _ (fun args => ReflectliteValue.unpack (args.getD 0 (.tuple #[]))) Tryz.func57 (by kernel_rfl) (by kernel_rfl) (by kernel_rfl) (by kernel_rfl)
  have h60 := @run_callFunc_extern Tryz.prog 58 _ (ReflectliteValue.methodAny (ReflectliteValue.valueError "reflectlite.Value.Type" 0) (fun t _ _ _ => ReflectliteType.toType t)) Tryz.func58 (by kernel_rfl) (by kernel_rfl) (by kernel_rfl) (by kernel_rfl)
  have h61 := @run_callFunc_extern Tryz.prog 59 _ (ReflectliteValue.method (ReflectliteValue.valueError "reflectlite.Value.IsNil" 0) ReflectliteValue.isNil) Tryz.func59 (by kernel_rfl) (by kernel_rfl) (by kernel_rfl) (by kernel_rfl)
  have h103 := @run_callFunc_extern Tryz.prog 100 _ (ReflectliteType.abiMethod fun t => do pure (.int .u8 (← Rtype.kind t))) Tryz.func100 (by kernel_rfl) (by kernel_rfl) (by kernel_rfl) (by kernel_rfl)
  have h116 := @run_callFunc_extern Tryz.prog 113 _ (ReflectliteType.method ReflectliteType.elem) Tryz.func113 (by kernel_rfl) (by kernel_rfl) (by kernel_rfl) (by kernel_rfl)
  have h117 := @run_callFunc_extern Tryz.prog 114 _ (ReflectliteType.relation "Implements" ReflectliteType.implements_) Tryz.func114 (by kernel_rfl) (by kernel_rfl) (by kernel_rfl) (by kernel_rfl)
  have mK := methodKind
  have mE := methodElem
  have mI := methodImplements
  have vP := valueOfPN
  have tP := typePN
  have kP := kindPN
  have kE := kindEN
  have eP := elemPN
  have iE := implEN
  have b1 : Below w.heap.size w (w.alloc (.cells #[.pointer (some ⟨g, 0, none⟩)] 122)) := (Below.refl _ w).alloc (Nat.le_refl _) _
  have b2 : Below w.heap.size w ((w.alloc (.cells #[.pointer (some ⟨g, 0, none⟩)] 122)).alloc (.cells #[.pointer (some ⟨4, 122, none⟩), .pointer (some ⟨w.heap.size, 0, none⟩), .int .u64 150] 114)) := b1.alloc (by simp) _
  have hq := lone_old (.cells #[.pointer (some ⟨4, 122, none⟩), .pointer (some ⟨w.heap.size, 0, none⟩), .int .u64 150] 114) (lone_new w #[.pointer (some ⟨g, 0, none⟩)] 122)
  have n8 := isNilPN ⟨w.heap.size, 0, none⟩ ⟨g, 0, none⟩ _ (by rw [cell_of hq]; rfl)
  have g0 : ((w.alloc (.cells #[.pointer (some ⟨g, 0, none⟩)] 122)).alloc (.cells #[.pointer (some ⟨4, 122, none⟩), .pointer (some ⟨w.heap.size, 0, none⟩), .int .u64 150] 114)).cell? ⟨0, 0, none⟩ = some (.iface 131 (.agg #[.pointer (some ⟨4, 49, none⟩)])) := hT.keep b2
  have c1 := asN_any ws b v x0 y0 g w.heap.size _ (he.keep b2) (lone_old _ (lone_old _ hg)) hq
  obtain ⟨ty, x, rfl⟩ := he.iface
  have B2 := Lib.hid b2
  clear b1 b2 hq he hT hg
  go_enter Tryz.func45, Tryz.ntmps45
  go_wp2_with ((with_reducible refine c1.mono ?_); intro e w' hp; obtain ⟨r, rfl⟩ := hp.bool; have HP := Lib.hid (hp.from B2.out); clear hp)
  go_ret
  exact HP.out

end Go.Proofs.YtdkdgijcoialbaaGreatDoor

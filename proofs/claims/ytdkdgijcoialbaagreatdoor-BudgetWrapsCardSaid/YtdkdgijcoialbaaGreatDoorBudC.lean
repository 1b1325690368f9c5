/- errors.as at the errors of budget (mkbudc.py). -/
import Derived.Test.YtdkdgijcoialbaaGreatDoorBudB
namespace Go.Proofs.YtdkdgijcoialbaaGreatDoor
open Go.RowKit Go.Extern.Stop Go.Stop Go.Extern

set_option linter.unusedVariables false
set_option linter.unusedSimpArgs false

theorem unU_any (p m : Value) (w : World) : Calls Tryz.prog 105 #[.agg #[p, m]] w fun e w' => e = .returned (.iface 35 (.int .i64 46)) ∧ Below w.heap.size w w' := by
  go_enter Tryz.func105, Tryz.ntmps105
  go_wp2
  go_ret
  exact ⟨rfl, (Below.refl _ w).alloc (Nat.le_refl _) _⟩
theorem unW_any (k : Nat) (v : Value) (w : World) (hc : w.cell? ⟨k, 0, none⟩ = some v) : Calls Tryz.prog 104 #[.pointer (some ⟨k, 0, none⟩)] w fun e w' => e = .returned v ∧ w = w' := by
  go_enter Tryz.func104, Tryz.ntmps104
  go_wp2
  go_ret
  exact ⟨rfl, rfl⟩

theorem ErrIs.nil_inv {w : World} {v : Value} {b : Base} (h : ErrIs w v [] b) : v = b.val := by
  generalize hz : ([] : List ByteArray) = z at h
  cases h with
  | base => rfl
  | wrap => cases hz
theorem ErrIs.cons_inv {w : World} {v : Value} {s : ByteArray} {ws : List ByteArray} {b : Base} (h : ErrIs w v (s :: ws) b) : ∃ k v', v = .iface 70 (.pointer (some ⟨k, 0, none⟩)) ∧ w.heap[k]? = some (.cells #[v', .string s] 72 (0, 0)) ∧ ErrIs w v' ws b := by
  generalize hz : s :: ws = z at h
  cases h with
  | base => cases hz
  | wrap k v s ws b h1 h2 => cases hz; exact ⟨k, v, rfl, h1, h2⟩
def Miss (w : World) (e : Ending) (w' : World) : Prop := e = .returned (.bool false) ∧ Below w.heap.size w w'
/-- found: what the target's cells hold then -/
def Hit (g : Nat) (t : TypeId) (c : Array Value) (w : World) (e : Ending) (w' : World) : Prop := e = .returned (.bool true) ∧ w'.heap[g]? = some (.cells c t (0, 0)) ∧ Just g w w'
def Base.no : Base → Int
  | .used _ _ => 46
  | .num n => n
def PostU (g : Nat) (b : Base) (w : World) : Ending → World → Prop := match b with
  | .used p m => Hit g 76 #[.string p, .int .i64 m] w
  | .num _ => Miss w
def PostN (g : Nat) (b : Base) (w : World) : Ending → World → Prop := Hit g 35 #[.int .i64 b.no] w
def PostW (g : Nat) (v : Value) (ws : List ByteArray) (w : World) : Ending → World → Prop := match ws with
  | [] => Miss w
  | _ :: _ => fun e w' => ∃ x, v = .iface 70 x ∧ Hit g 70 #[x] w e w'
theorem just_set {g : Nat} {w wr : World} (h : Below w.heap.size w wr) (o : Nat) (v : Value) : Just g w (wr.setCell ⟨g, o, none⟩ v) := (Just.of h).trans (Just.set _ _ _ _)
theorem just_row {g : Nat} {w wr : World} (h : Below w.heap.size w wr) (c : Array Value) : Just g w (wr.setRow g c) := (Just.of h).trans ⟨rfl, rfl, rfl, by simp, fun k _ hn => setRow_other _ _ _ _ hn⟩
theorem set_lone {w : World} {g : Nat} {c : Array Value} {t : TypeId} (v : Value) (h : w.heap[g]? = some (.cells c t (0, 0))) (hc : c.size = 1) : (w.setCell ⟨g, 0, none⟩ v).heap[g]? = some (.cells #[v] t (0, 0)) := by
  obtain ⟨l⟩ := c
  match l, hc with
  | [x], _ =>
    have hlt := (Array.getElem?_eq_some_iff.1 h).1
    have hv := (Array.getElem?_eq_some_iff.1 h).2
    simp [World.setCell, Array.getElem?_modify, h]
set_option maxRecDepth 100000 in
set_option maxHeartbeats 4000000 in
theorem asU_any (ws : List ByteArray) (b : Base) (v x0 y0 : Value) (g q : Nat) (w : World) (he : ErrIs w v ws b) (hg : w.heap[g]? = some (.cells #[x0, y0] 76 (0, 0))) (hq : w.heap[q]? = some (.cells #[.pointer (some ⟨g, 0, none⟩)] 100 (0, 0))) :
    Calls Tryz.prog 60 #[v, .iface 100 (.pointer (some ⟨g, 0, none⟩)), .agg #[.pointer (some ⟨4, 100, none⟩), .pointer (some ⟨q, 0, none⟩), .int .u64 150], .iface 131 (.agg #[.pointer (some ⟨4, 76, none⟩)])] w (PostU g b w) := by
  have h59 := @run_callFunc_extern Tryz.prog 57 _ (fun args => ReflectliteValue.unpack (args.getD 0 (.tuple #[]))) Tryz.func57 (by kernel_rfl) (by kernel_rfl) (by kernel_rfl) (by kernel_rfl)
  have h50 := @run_callFunc_extern Tryz.prog 54 _ ReflectliteType.typeOf Tryz.func54 (by kernel_rfl) (by kernel_rfl) (by kernel_rfl) (by kernel_rfl)
  have h114 := @run_callFunc_extern Tryz.prog 111 _ (ReflectliteType.relation "AssignableTo" ReflectliteType.assignableTo) Tryz.func111 (by kernel_rfl) (by kernel_rfl) (by kernel_rfl) (by kernel_rfl)
  have h72 := @run_callFunc_extern Tryz.prog 69 _ (ReflectliteValue.method (ReflectliteValue.valueError "reflectlite.Value.Elem" 0) ReflectliteValue.elem) Tryz.func69 (by kernel_rfl) (by kernel_rfl) (by kernel_rfl) (by kernel_rfl)
  have h73 := @run_callFunc_extern Tryz.prog 70 _ ReflectliteValue.set Tryz.func70 (by kernel_rfl) (by kernel_rfl) (by kernel_rfl) (by kernel_rfl)
  have mA := methodAssignableTo
  have tU := typeOfU
  have aU := assignUU
  have tW := typeOfW
  have aW := assignWU
  have tN := typeOfN
  have aN := assignNU
  have vE := valueOfU
  have lt := (Array.getElem?_eq_some_iff.1 hg).1
  have ltq := (Array.getElem?_eq_some_iff.1 hq).1
  have hb0 : Below w.heap.size w (w.alloc (.cells #[.pointer (some ⟨4, 100, none⟩), .pointer (some ⟨q, 0, none⟩), .int .u64 150] 114)) := (Below.refl _ w).alloc (Nat.le_refl _) _
  have hx0 := lone_new w #[.pointer (some ⟨4, 100, none⟩), .pointer (some ⟨q, 0, none⟩), .int .u64 150] 114
  have he0 := he.keep hb0
  go_enter Tryz.func60, Tryz.ntmps60
  go_wp2
  go_loopw [0] (fun e wr => ∃ ws' b', ErrIs wr e ws' b' ∧ b' = b ∧ wr.heap[w.heap.size]? = some (.cells #[.pointer (some ⟨4, 100, none⟩), .pointer (some ⟨q, 0, none⟩), .int .u64 150] 114 (0, 0)) ∧ Below w.heap.size w wr) (fun e wr => hgt wr e)
  case atStart => exact ⟨ws, b, he0, rfl, hx0, hb0⟩
  case round =>
    clear hb0 hx0 he0 he
    obtain ⟨ws', b', he, hr, hx, hB⟩ := hrel
    cases ws' with
    | nil =>
      obtain rfl := he.nil_inv
      cases b' with
      | used p m =>
        have hg1 := (hB.block g lt).trans hg
        have hq1 := (hB.block q ltq).trans hq
        have ev := elemVPU ⟨q, 0, none⟩ ⟨g, 0, none⟩ wr (by rw [cell_of hq1]; rfl)
        have b0 := cell_of hx 0
        have b1 := cell_of hx 1
        have b2 := cell_of hx 2
        have st := setU g wr.heap.size (.string p) (.int .i64 m) x0 y0 (wr.alloc (.cells #[.string p, .int .i64 m] 76)) (lone_new _ _ _) (lone_old _ hg1) rfl rfl
        have HB := Lib.hid hB
        have HG := Lib.hid hg1
        subst hr
        clear hg1 hB
        simp only [Base.val]
        go_wp2
        go_ret
        exact ⟨rfl, setRow_heap _ _ _ _ _ _ (lone_old _ HG.out), just_row (HB.out.trans ((Below.refl _ wr).alloc (HB.out.size) _)) _⟩
      | num n =>
        simp only [Base.val]
        have nA := noAsN
        have nU := noUnN
        have nV := noUnsN
        have HB := Lib.hid hB
        subst hr
        clear he hx hB
        go_wp2
        go_ret
        exact ⟨rfl, HB.out⟩
    | cons s ws' =>
      obtain ⟨k, v', rfl, hk, he'⟩ := he.cons_inv
      obtain ⟨ty, x, rfl⟩ := he'.iface
      have c0 : wr.cell? ⟨k, 0, none⟩ = some (.iface ty x) := by rw [cell_of hk]; rfl
      have HE := Lib.hid he'
      have HH' := Lib.hid (hgt_is he')
      have HX := Lib.hid hx
      have HB := Lib.hid hB
      have HH := Lib.hid (hgt_is he)
      have HR := Lib.hid hr
      clear he he' hx hB hk hr
      have nA := noAsW
      have hU := hasUnW
      have mU := methodUnW
      go_wp2
      go_roundw
      case rel => exact ⟨ws', b', HE.out, HR.out, HX.out, HB.out⟩
      case measure => show hgt wr (.iface ty x) < _; rw [HH.out, HH'.out]; simp

set_option maxRecDepth 100000 in
set_option maxHeartbeats 4000000 in
theorem asW_any (ws : List ByteArray) (b : Base) (v x0 y0 : Value) (g q : Nat) (w : World) (he : ErrIs w v ws b) (hg : w.heap[g]? = some (.cells #[x0] 70 (0, 0))) (hq : w.heap[q]? = some (.cells #[.pointer (some ⟨g, 0, none⟩)] 110 (0, 0))) :
    Calls Tryz.prog 60 #[v, .iface 110 (.pointer (some ⟨g, 0, none⟩)), .agg #[.pointer (some ⟨4, 110, none⟩), .pointer (some ⟨q, 0, none⟩), .int .u64 150], .iface 131 (.agg #[.pointer (some ⟨4, 70, none⟩)])] w (PostW g v ws w) := by
  have h59 := @run_callFunc_extern Tryz.prog 57 _ (fun args => ReflectliteValue.unpack (args.getD 0 (.tuple #[]))) Tryz.func57 (by kernel_rfl) (by kernel_rfl) (by kernel_rfl) (by kernel_rfl)
  have h50 := @run_callFunc_extern Tryz.prog 54 _ ReflectliteType.typeOf Tryz.func54 (by kernel_rfl) (by kernel_rfl) (by kernel_rfl) (by kernel_rfl)
  have h114 := @run_callFunc_extern Tryz.prog 111 _ (ReflectliteType.relation "AssignableTo" ReflectliteType.assignableTo) Tryz.func111 (by kernel_rfl) (by kernel_rfl) (by kernel_rfl) (by kernel_rfl)
  have h72 := @run_callFunc_extern Tryz.prog 69 _ (ReflectliteValue.method (ReflectliteValue.valueError "reflectlite.Value.Elem" 0) ReflectliteValue.elem) Tryz.func69 (by kernel_rfl) (by kernel_rfl) (by kernel_rfl) (by kernel_rfl)
  have h73 := @run_callFunc_extern Tryz.prog 70 _ ReflectliteValue.set Tryz.func70 (by kernel_rfl) (by kernel_rfl) (by kernel_rfl) (by kernel_rfl)
  have mA := methodAssignableTo
  have tU := typeOfU
  have aU := assignUW
  have tW := typeOfW
  have aW := assignWW
  have tN := typeOfN
  have aN := assignNW
  have vE := valueOfW
  have lt := (Array.getElem?_eq_some_iff.1 hg).1
  have ltq := (Array.getElem?_eq_some_iff.1 hq).1
  have hb0 : Below w.heap.size w (w.alloc (.cells #[.pointer (some ⟨4, 110, none⟩), .pointer (some ⟨q, 0, none⟩), .int .u64 150] 114)) := (Below.refl _ w).alloc (Nat.le_refl _) _
  have hx0 := lone_new w #[.pointer (some ⟨4, 110, none⟩), .pointer (some ⟨q, 0, none⟩), .int .u64 150] 114
  have he0 := he.keep hb0
  go_enter Tryz.func60, Tryz.ntmps60
  go_wp2
  go_loopw [0] (fun e wr => ∃ ws' b', ErrIs wr e ws' b' ∧ ((ws' = ws ∧ b' = b ∧ e = v) ∨ (ws' = [] ∧ ws = [] ∧ b' = .num 46)) ∧ wr.heap[w.heap.size]? = some (.cells #[.pointer (some ⟨4, 110, none⟩), .pointer (some ⟨q, 0, none⟩), .int .u64 150] 114 (0, 0)) ∧ Below w.heap.size w wr) (fun e wr => hgt wr e)
  case atStart => exact ⟨ws, b, he0, .inl ⟨rfl, rfl, rfl⟩, hx0, hb0⟩
  case round =>
    clear hb0 hx0 he0 he
    obtain ⟨ws', b', he, hr, hx, hB⟩ := hrel
    cases ws' with
    | nil =>
      obtain rfl := he.nil_inv
      cases b' with
      | used p m =>
        have hw : ws = [] := by rcases hr with ⟨h, _⟩ | ⟨_, h, _⟩ <;> simp_all
        clear hr
        have hr := hw
        simp only [Base.val] at he ⊢
        have HX := Lib.hid hx
        have HB := Lib.hid hB
        have HH := Lib.hid (hgt_is he)
        have HR := Lib.hid hr
        have nA := noAsU
        have hU := hasUnU
        have mU := methodUnU
        have bb := Lib.hid ((Below.refl wr.heap.size wr).alloc (Nat.le_refl _) (.cells #[.string p, .int .i64 m] 76))
        have nn := fun W : World => ErrIs.base (w := W) (.num 46)
        have HN := Lib.hid nn
        clear he hx hB hr nn
        go_wp2
        go_roundw
        case rel => exact ⟨[], .num 46, HN.out _, .inr ⟨rfl, HR.out, rfl⟩, lone_old _ HX.out, HB.out.trans (bb.out.mono HB.out.size)⟩
        case measure =>
          rw [HH.out]
          show hgt _ (Base.num 46).val < _
          rw [hgt_is (HN.out _)]
          simp [Base.rank]
      | num n =>
        have hw : ws = [] := by rcases hr with ⟨h, _⟩ | ⟨_, h, _⟩ <;> simp_all
        clear hr
        have hr := hw
        clear hw
        simp only [Base.val]
        have nA := noAsN
        have nU := noUnN
        have nV := noUnsN
        have HB := Lib.hid hB
        have HR := Lib.hid hr
        clear he hx hB hr
        go_wp2
        go_ret
        rw [HR.out]
        exact ⟨rfl, HB.out⟩
    | cons s ws' =>
      rcases hr with ⟨rfl, rfl, rfl⟩ | ⟨h, _⟩
      case inr => cases h
      obtain ⟨k, v', rfl, hk, he'⟩ := he.cons_inv
      have hg1 := (hB.block g lt).trans hg
      have hq1 := (hB.block q ltq).trans hq
      have ev := elemVPW ⟨q, 0, none⟩ ⟨g, 0, none⟩ wr (by rw [cell_of hq1]; rfl)
      have b0 := cell_of hx 0
      have b1 := cell_of hx 1
      have b2 := cell_of hx 2
      have st := setW ⟨g, 0, none⟩ ⟨wr.heap.size, 0, none⟩ (.pointer (some ⟨k, 0, none⟩)) x0 (wr.alloc (.cells #[.pointer (some ⟨k, 0, none⟩)] 70)) (by rw [cell_of (lone_new _ _ _)]; rfl) (by rw [cell_of (lone_old _ hg1)]; rfl) (frozen_of (lone_old _ hg1) 0) ⟨_, rfl⟩
      have HB := Lib.hid hB
      have HG := Lib.hid hg1
      clear hg1 hB he' hk he
      go_wp2
      go_ret
      exact ⟨_, rfl, rfl, set_lone _ (lone_old _ HG.out) rfl, just_set (HB.out.trans ((Below.refl _ wr).alloc (HB.out.size) _)) _ _⟩

set_option maxRecDepth 100000 in
set_option maxHeartbeats 4000000 in
theorem asN_any (ws : List ByteArray) (b : Base) (v x0 y0 : Value) (g q : Nat) (w : World) (he : ErrIs w v ws b) (hg : w.heap[g]? = some (.cells #[x0] 35 (0, 0))) (hq : w.heap[q]? = some (.cells #[.pointer (some ⟨g, 0, none⟩)] 122 (0, 0))) :
    Calls Tryz.prog 60 #[v, .iface 122 (.pointer (some ⟨g, 0, none⟩)), .agg #[.pointer (some ⟨4, 122, none⟩), .pointer (some ⟨q, 0, none⟩), .int .u64 150], .iface 131 (.agg #[.pointer (some ⟨4, 35, none⟩)])] w (PostN g b w) := by
  have h59 := @run_callFunc_extern Tryz.prog 57 _ (fun args => ReflectliteValue.unpack (args.getD 0 (.tuple #[]))) Tryz.func57 (by kernel_rfl) (by kernel_rfl) (by kernel_rfl) (by kernel_rfl)
  have h50 := @run_callFunc_extern Tryz.prog 54 _ ReflectliteType.typeOf Tryz.func54 (by kernel_rfl) (by kernel_rfl) (by kernel_rfl) (by kernel_rfl)
  have h114 := @run_callFunc_extern Tryz.prog 111 _ (ReflectliteType.relation "AssignableTo" ReflectliteType.assignableTo) Tryz.func111 (by kernel_rfl) (by kernel_rfl) (by kernel_rfl) (by kernel_rfl)
  have h72 := @run_callFunc_extern Tryz.prog 69 _ (ReflectliteValue.method (ReflectliteValue.valueError "reflectlite.Value.Elem" 0) ReflectliteValue.elem) Tryz.func69 (by kernel_rfl) (by kernel_rfl) (by kernel_rfl) (by kernel_rfl)
  have h73 := @run_callFunc_extern Tryz.prog 70 _ ReflectliteValue.set Tryz.func70 (by kernel_rfl) (by kernel_rfl) (by kernel_rfl) (by kernel_rfl)
  have mA := methodAssignableTo
  have tU := typeOfU
  have aU := assignUN
  have tW := typeOfW
  have aW := assignWN
  have tN := typeOfN
  have aN := assignNN
  have vE := valueOfN
  have lt := (Array.getElem?_eq_some_iff.1 hg).1
  have ltq := (Array.getElem?_eq_some_iff.1 hq).1
  have hb0 : Below w.heap.size w (w.alloc (.cells #[.pointer (some ⟨4, 122, none⟩), .pointer (some ⟨q, 0, none⟩), .int .u64 150] 114)) := (Below.refl _ w).alloc (Nat.le_refl _) _
  have hx0 := lone_new w #[.pointer (some ⟨4, 122, none⟩), .pointer (some ⟨q, 0, none⟩), .int .u64 150] 114
  have he0 := he.keep hb0
  go_enter Tryz.func60, Tryz.ntmps60
  go_wp2
  go_loopw [0] (fun e wr => ∃ ws' b', ErrIs wr e ws' b' ∧ b'.no = b.no ∧ wr.heap[w.heap.size]? = some (.cells #[.pointer (some ⟨4, 122, none⟩), .pointer (some ⟨q, 0, none⟩), .int .u64 150] 114 (0, 0)) ∧ Below w.heap.size w wr) (fun e wr => hgt wr e)
  case atStart => exact ⟨ws, b, he0, rfl, hx0, hb0⟩
  case round =>
    clear hb0 hx0 he0 he
    obtain ⟨ws', b', he, hr, hx, hB⟩ := hrel
    cases ws' with
    | nil =>
      obtain rfl := he.nil_inv
      cases b' with
      | used p m =>
        simp only [Base.val] at he ⊢
        have HX := Lib.hid hx
        have HB := Lib.hid hB
        have HH := Lib.hid (hgt_is he)
        have HR := Lib.hid hr
        have nA := noAsU
        have hU := hasUnU
        have mU := methodUnU
        have bb := Lib.hid ((Below.refl wr.heap.size wr).alloc (Nat.le_refl _) (.cells #[.string p, .int .i64 m] 76))
        have nn := fun W : World => ErrIs.base (w := W) (.num 46)
        have HN := Lib.hid nn
        clear he hx hB hr nn
        go_wp2
        go_roundw
        case rel => exact ⟨[], .num 46, HN.out _, HR.out, lone_old _ HX.out, HB.out.trans (bb.out.mono HB.out.size)⟩
        case measure =>
          rw [HH.out]
          show hgt _ (Base.num 46).val < _
          rw [hgt_is (HN.out _)]
          simp [Base.rank]
      | num n =>
        have hg1 := (hB.block g lt).trans hg
        have hq1 := (hB.block q ltq).trans hq
        have ev := elemVPN ⟨q, 0, none⟩ ⟨g, 0, none⟩ wr (by rw [cell_of hq1]; rfl)
        have b0 := cell_of hx 0
        have b1 := cell_of hx 1
        have b2 := cell_of hx 2
        have st := setN ⟨g, 0, none⟩ ⟨wr.heap.size, 0, none⟩ (.int .i64 n) x0 (wr.alloc (.cells #[.int .i64 n] 35)) (by rw [cell_of (lone_new _ _ _)]; rfl) (by rw [cell_of (lone_old _ hg1)]; rfl) (frozen_of (lone_old _ hg1) 0) ⟨_, rfl⟩
        have HB := Lib.hid hB
        have HG := Lib.hid hg1
        have HR := Lib.hid (show b.no = n from hr.symm)
        clear hg1 hB hr
        simp only [Base.val]
        go_wp2
        go_ret
        refine ⟨rfl, ?_, just_set (HB.out.trans ((Below.refl _ wr).alloc (HB.out.size) _)) _ _⟩
        rw [HR.out]
        exact set_lone _ (lone_old _ HG.out) rfl
    | cons s ws' =>
      obtain ⟨k, v', rfl, hk, he'⟩ := he.cons_inv
      obtain ⟨ty, x, rfl⟩ := he'.iface
      have c0 : wr.cell? ⟨k, 0, none⟩ = some (.iface ty x) := by rw [cell_of hk]; rfl
      have HE := Lib.hid he'
      have HH' := Lib.hid (hgt_is he')
      have HX := Lib.hid hx
      have HB := Lib.hid hB
      have HH := Lib.hid (hgt_is he)
      have HR := Lib.hid hr
      clear he he' hx hB hk hr
      have nA := noAsW
      have hU := hasUnW
      have mU := methodUnW
      go_wp2
      go_roundw
      case rel => exact ⟨ws', b', HE.out, HR.out, HX.out, HB.out⟩
      case measure => show hgt wr (.iface ty x) < _; rw [HH.out, HH'.out]; simp

end Go.Proofs.YtdkdgijcoialbaaGreatDoor

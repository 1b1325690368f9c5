/- errors.Is at the errors of budget; budget.Is. -/
import Derived.Test.YtdkdgijcoialbaaDoorBudE
import Derived.Lib.IfaceEq
namespace Go.Proofs.YtdkdgijcoialbaaDoor
open Go.RowKit Go.Extern.Stop Go.Stop Go.Extern Go.Shelf

set_option linter.unusedVariables false
set_option linter.unusedSimpArgs false

set_option maxRecDepth 100000 in
set_option maxHeartbeats 4000000 in
theorem is_any (ws : List ByteArray) (b : Base) (v : Value) (n : Int) (r : Bool) (hr : (b.no == n) = r) (w : World) (he : ErrIs w v ws b) :
    Calls Tryd.prog 51 #[v, .iface 28 (.int .i64 n), .bool true] w fun e w' => e = .returned (.bool r) ∧ Below w.heap.size w w' := by
  have qU := fun (x : Value) (W : World) => run_eql_iface_types (P := Tryd.prog) (ti := 43) 78 28 x (.int .i64 n) Tryd.underlying43 (by decide) W
  have qW := fun (x : Value) (W : World) => run_eql_iface_types (P := Tryd.prog) (ti := 43) 81 28 x (.int .i64 n) Tryd.underlying43 (by decide) W
  have qN := fun (a : Int) (W : World) => Lib.run_eql_iface_int (P := Tryd.prog) W (t := 43) (tx := 28) (k := .i64) a n Tryd.underlying43 (by kernel_rfl) Tryd.underlying28
  have HR0 := Lib.hid hr
  clear hr
  go_enter Tryd.func51, Tryd.ntmps51
  go_wp2
  go_loopw [0] (fun e wr => ∃ ws' b', ErrIs wr e ws' b' ∧ b'.no = b.no ∧ Below w.heap.size w wr) (fun e wr => hgt wr e)
  case atStart => exact ⟨ws, b, he, rfl, Below.refl _ _⟩
  case round =>
    clear he
    obtain ⟨ws', b', he, hr, hB⟩ := hrel
    cases ws' with
    | nil =>
      obtain rfl := he.nil_inv
      cases b' with
      | used p m =>
        simp only [Base.val] at he ⊢
        have HB := Lib.hid hB
        have HH := Lib.hid (hgt_is he)
        have HR := Lib.hid hr
        have nA := noIsU
        have hU := hasUnU
        have mU := methodUnU
        have bb := Lib.hid ((Below.refl wr.heap.size wr).alloc (Nat.le_refl _) (.cells #[.string p, .int .i64 m] 78))
        have nn := fun W : World => ErrIs.base (w := W) (.num 46)
        have HN := Lib.hid nn
        clear he hB hr nn
        go_wp2
        go_roundw
        case rel => exact ⟨[], .num 46, HN.out _, HR.out, HB.out.trans (bb.out.mono HB.out.size)⟩
        case measure =>
          rw [HH.out]
          show hgt _ (Base.num 46).val < _
          rw [hgt_is (HN.out _)]
          simp [Base.rank]
      | num k =>
        simp only [Base.val]
        have nA := noIsN
        have nU := noUnN
        have nV := noUnsN
        have HB := Lib.hid hB
        have hk : (k == n) = r := by rw [← HR0.out, ← hr]; rfl
        clear he hB hr HR0
        cases r
        · have HK := Lib.hid hk
          have qk := qN k
          rw [hk] at qk
          clear hk qN
          go_wp2
          go_ret
          exact ⟨rfl, HB.out⟩
        · have HK := Lib.hid hk
          have qk := qN k
          rw [hk] at qk
          clear hk qN
          go_wp2
          go_ret
          exact ⟨rfl, HB.out⟩
    | cons s ws' =>
      obtain ⟨k, v', rfl, hk, he'⟩ := he.cons_inv
      obtain ⟨ty, x, rfl⟩ := he'.iface
      have c0 : wr.cell? ⟨k, 0, none⟩ = some (.iface ty x) := by rw [cell_of hk]; rfl
      have HE := Lib.hid he'
      have HH' := Lib.hid (hgt_is he')
      have HB := Lib.hid hB
      have HH := Lib.hid (hgt_is he)
      have HR := Lib.hid hr
      clear he he' hB hk hr
      have nA := noIsW
      have hU := hasUnW
      have mU := methodUnW
      go_wp2
      go_roundw
      case rel => exact ⟨ws', b', HE.out, HR.out, HB.out⟩
      case measure => show hgt wr (.iface ty x) < _; rw [HH.out, HH'.out]; simp
theorem methodComparable' (h : Value) (w : World) : (Go.method 290 123 (.agg #[h]) "Comparable").run Tryd.prog w = .ok (115, .agg #[h]) w := by kernel_rfl
theorem compN2 (w : World) : ((ReflectliteType.method fun t => do Rtype.noPackHeld "Comparable" t; Functor.map (fun a => Value.bool a.comparable) (typeInfo t)) #[.agg #[.pointer (some ⟨4, 28, none⟩)]]).run Tryd.prog w = .ok (.bool true) w := by kernel_rfl
set_option maxRecDepth 100000 in
set_option maxHeartbeats 4000000 in
theorem Is_some (ws : List ByteArray) (b : Base) (v : Value) (n : Int) (r : Bool) (hr : (b.no == n) = r) (w : World) (he : ErrIs w v ws b) :
    Calls Tryd.prog 40 #[v, .iface 28 (.int .i64 n)] w fun e w' => e = .returned (.bool r) ∧ Below w.heap.size w w' := by
  have h50 := @run_callFunc_extern Tryd.prog 50 _ ReflectliteType.typeOf Tryd.func50 (by kernel_rfl) (by kernel_rfl) (by kernel_rfl) (by kernel_rfl)
  have h51 := @run_callFunc_extern Tryd.prog 115 _ (ReflectliteType.method fun t => do Rtype.noPackHeld "Comparable" t; pure (.bool (← typeInfo t).comparable)) Tryd.func115 (by kernel_rfl) (by kernel_rfl) (by kernel_rfl) (by kernel_rfl)
  have tN := typeOfN
  have mC := methodComparable'
  have cN := compN2
  have c1 := is_any ws b v n r hr w he
  obtain ⟨ty, x, rfl⟩ := he.iface
  clear he hr
  go_enter Tryd.func40, Tryd.ntmps40
  go_wp2_with ((with_reducible refine c1.mono ?_); rintro e w' ⟨rfl, hb⟩; have HB := Lib.hid hb; clear hb)
  go_ret
  exact ⟨rfl, HB.out⟩
set_option maxRecDepth 100000 in
set_option maxHeartbeats 4000000 in
theorem Is_nil (n : Int) (w : World) :
    Calls Tryd.prog 40 #[.nilIface, .iface 28 (.int .i64 n)] w fun e w' => e = .returned (.bool false) ∧ Below w.heap.size w w' := by
  have qn := fun (W : World) => run_eql_iface_nil_left (P := Tryd.prog) W (ti := 43) 28 (.int .i64 n) Tryd.underlying43
  go_enter Tryd.func40, Tryd.ntmps40
  go_wp2
  go_ret
  exact ⟨rfl, Below.refl _ _⟩
theorem entIs (args : Array Value) (w : World) : (callFunc 39 args).run Tryd.prog w = .ok (.enter 39 args) w := enters_of Tryd.func39 (by kernel_rfl) rfl args w
/-- what is left of the closure that asks errors.Is -/
def AskedIs (s : Nat) (b : Bool) (W W' : World) : Prop :=
  W'.heap[s]? = some (.cells #[.bool b] 4 (0, 0)) ∧ ∀ B, B ≤ s → B ≤ W.heap.size → Below B W W'
set_option maxRecDepth 100000 in
set_option maxHeartbeats 2000000 in
theorem closIs (v : Value) (b i s : Nat) (n : Int) (r : Bool) (W : World) (hv : W.heap[b]? = some (.cells #[v] 43 (0, 0))) (hi : W.heap[i]? = some (.cells #[.int .i64 n] 28 (0, 0))) (hs : W.heap[s]? = some (.cells #[.bool false] 4 (0, 0)))
    (hA : Calls Tryd.prog 40 #[v, .iface 28 (.int .i64 n)] W fun e w' => e = .returned (.bool r) ∧ Below W.heap.size W w') :
    Calls Tryd.prog 39 #[.pointer (some ⟨b, 0, none⟩), .pointer (some ⟨i, 0, none⟩), .pointer (some ⟨s, 0, none⟩)] W (Quiet (AskedIs s r W)) := by
  have c0 : W.cell? ⟨b, 0, none⟩ = some v := by rw [cell_of hv]; rfl
  have c1 : W.cell? ⟨i, 0, none⟩ = some (.int .i64 n) := by rw [cell_of hi]; rfl
  have HA := Lib.hid hA
  have HS := Lib.hid hs
  have ls := Lib.hid (Array.getElem?_eq_some_iff.1 hs).1
  clear hA hv hi hs
  go_enter Tryd.func39, Tryd.ntmps39
  go_wp2_with ((with_reducible refine HA.out.mono ?_); rintro e w1 ⟨rfl, hj⟩; have HJ := Lib.hid hj; have hs := (hj.block s ls.out).trans HS.out; have s0 : w1.cell? ⟨s, 0, none⟩ = some (.bool false) := (by rw [cell_of hs]; rfl); have s1 := frozen_of hs 0; have HS1 := Lib.hid hs; clear hs hj)
  go_end0
  exact ⟨rfl, set_lone _ HS1.out rfl, fun B h1 h3 => (HJ.out.mono h3).setCell h1 _⟩
set_option maxRecDepth 100000 in
set_option maxHeartbeats 4000000 in
theorem isB_from (v : Value) (n : Int) (b : Bool) (w W : World) (hv : (∃ t x, v = .iface t x) ∨ v = .nilIface) (hW : W = ((w.alloc (.cells #[v] 43)).alloc (.cells #[.int .i64 n] 28)).alloc (.cells #[.bool false] 4))
    (hC : Calls Tryd.prog 39 #[.pointer (some ⟨w.heap.size, 0, none⟩), .pointer (some ⟨w.heap.size + 1, 0, none⟩), .pointer (some ⟨w.heap.size + 1 + 1, 0, none⟩)] W (Quiet (AskedIs (w.heap.size + 1 + 1) b W))) :
    Calls Tryd.prog 20 #[v, .int .i64 n] w fun e w' => e = .returned (.bool b) ∧ Below w.heap.size w w' := by
  subst hW
  have hQ := quietly_any 39 _ _ _ entIs hC
  have HQ := Lib.hid hQ
  have HB0 := Lib.hid ((((Below.refl _ w).alloc (Nat.le_refl _) (.cells #[v] 43)).alloc (by simp) (.cells #[.int .i64 n] 28)).alloc (by simp; omega) (.cells #[.bool false] 4))
  clear hC hQ
  have hmf : ∀ (fn : Fn) (first cap : Array Value) (w : World), (Instr.makeFunc fn first cap).run Tryd.prog w = .ok (.func fn first cap) w := fun _ _ _ _ => rfl
  rcases hv with ⟨ty, z, rfl⟩ | rfl
  all_goals
    go_enter Tryd.func20, Tryd.ntmps20
    go_wp2_with ((with_reducible refine HQ.out.mono ?_); rintro e w1 ⟨rfl, hq⟩
                 have hs := hq.1
                 have HB := Lib.hid (HB0.out.trans (hq.2 w.heap.size (by omega) (by simp; omega)))
                 have s0 : w1.cell? ⟨w.heap.size + 1 + 1, 0, none⟩ = some (.bool b) := by rw [cell_of hs]; rfl
                 have g0 := frozen_of hs 0
                 have HS := Lib.hid hs
                 clear hq hs HQ HB0)
    refine bodyPost_ret (v := .bool b) ?_ rfl ⟨rfl, ?_⟩
    · simp [results, Tryd.results20, go_sem, s0]
    · first
      | exact (HB.out.setCell (by simp; omega) _).drew
      | exact HB.out.setCell (by simp; omega) _
section
variable {w : World} {v : Value}
theorem isB_some {ws : List ByteArray} {b : Base} {n : Int} {r : Bool} (hr : (b.no == n) = r) (he : ErrIs w v ws b) : Calls Tryd.prog 20 #[v, .int .i64 n] w fun e w' => e = .returned (.bool r) ∧ Below w.heap.size w w' := by
  obtain ⟨W, hW, hb, h0, h1, h2⟩ := three w v #[.int .i64 n] 28
  exact isB_from v n r w W (.inl he.iface) hW (closIs v _ _ _ n r W h0 h1 h2 (Is_some ws b v n r hr W (he.keep hb)))
theorem isB_nil (n : Int) (w : World) : Calls Tryd.prog 20 #[.nilIface, .int .i64 n] w fun e w' => e = .returned (.bool false) ∧ Below w.heap.size w w' := by
  obtain ⟨W, hW, hb, h0, h1, h2⟩ := three w .nilIface #[.int .i64 n] 28
  exact isB_from .nilIface n false w W (.inr rfl) hW (closIs .nilIface _ _ _ n false W h0 h1 h2 (Is_nil n W))
end
end Go.Proofs.YtdkdgijcoialbaaDoor

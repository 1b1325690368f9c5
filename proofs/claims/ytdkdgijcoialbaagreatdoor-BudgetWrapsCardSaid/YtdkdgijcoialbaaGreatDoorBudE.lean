/- quietly, and found at the three targets (mkbude.py). -/
import Derived.Test.YtdkdgijcoialbaaGreatDoorBudD
import Derived.RegionTactic
import Derived.Shelf.Abstract
import Derived.Laws.ResultCell
namespace Go.Proofs.YtdkdgijcoialbaaGreatDoor
open Go.RowKit Go.Extern.Stop Go.Stop Go.Extern Go.Shelf

set_option linter.unusedVariables false
set_option linter.unusedSimpArgs false

theorem calm (w : World) :
    CallsD Tryz.prog 53 #[] .returning w fun e u' w' => e = .returned (.tuple #[]) ∧ u' = .returning ∧ w' = w := by
  refine callsD_of_wpS Tryz.func53 rfl fun c₀ cs hu => ?_
  apply wpS_region
  simp [wpOpsS, go_sem, recoverD, hu, Tryz.ntmps53, Exit.thenS, bodyPostS, results, Tryz.results53]
  cases c₀; simp_all
def Quiet (Q : World → Prop) (e : Ending) (w' : World) : Prop := e = .returned (.tuple #[]) ∧ Q w'
set_option maxRecDepth 100000 in
theorem quietly_any (F : FuncId) (cap : Array Value) (w : World) (Q : World → Prop) (hF : ∀ args w, (callFunc F args).run Tryz.prog w = .ok (.enter F args) w) (h : Calls Tryz.prog F cap w (Quiet Q)) :
    Calls Tryz.prog 34 #[.func (.func F) #[] cap] w (Quiet Q) := by
  have H := Lib.hid h
  clear h
  go_enter_defers Tryz.func34, Tryz.ntmps34
  go_wp2_with ((with_reducible refine H.out.mono ?_); rintro e w' ⟨rfl, hq⟩; have HQ := Lib.hid hq; clear hq)
  refine leaves_cons (f := 53) (args := #[]) (by simp) (by simp [go_sem]) ?_
  refine (calm _).mono ?_
  rintro e u' w'' ⟨rfl, rfl, rfl⟩
  exact ⟨_, results_none rfl _ _ _, rfl, HQ.out⟩

/-- what is left of a closure that asks errors.As -/
def Asked (i s : Nat) (t : TypeId) (c : Array Value) (b : Bool) (W W' : World) : Prop :=
  W'.heap[i]? = some (.cells c t (0, 0)) ∧ W'.heap[s]? = some (.cells #[.bool b] 4 (0, 0)) ∧ ∀ B, B ≤ i → B ≤ s → B ≤ W.heap.size → Below B W W'
theorem entU (args : Array Value) (w : World) : (callFunc 44 args).run Tryz.prog w = .ok (.enter 44 args) w := enters_of Tryz.func44 (by kernel_rfl) rfl args w
set_option maxRecDepth 100000 in
set_option maxHeartbeats 2000000 in
theorem closU_hit (v : Value) (b i s : Nat) (c old : Array Value) (W : World) (hv : W.heap[b]? = some (.cells #[v] 49 (0, 0))) (hi : W.heap[i]? = some (.cells old 76 (0, 0))) (hs : W.heap[s]? = some (.cells #[.bool false] 4 (0, 0))) (hne : s ≠ i)
    (hA : Calls Tryz.prog 45 #[v, .iface 100 (.pointer (some ⟨i, 0, none⟩))] W (Hit i 76 c W)) :
    Calls Tryz.prog 44 #[.pointer (some ⟨b, 0, none⟩), .pointer (some ⟨i, 0, none⟩), .pointer (some ⟨s, 0, none⟩)] W (Quiet (Asked i s 76 c true W)) := by
  have c0 : W.cell? ⟨b, 0, none⟩ = some v := by rw [cell_of hv]; rfl
  have HA := Lib.hid hA
  have HS := Lib.hid hs
  have ls := Lib.hid (Array.getElem?_eq_some_iff.1 hs).1
  have N1 := Lib.hid hne
  clear hA hv hi hs hne
  go_enter Tryz.func44, Tryz.ntmps44
  go_wp2_with ((with_reducible refine HA.out.mono ?_); rintro e w1 ⟨rfl, hi, hj⟩; have HI := Lib.hid hi; have HJ := Lib.hid hj; have hs := (hj.block s ls.out N1.out).trans HS.out; have s0 : w1.cell? ⟨s, 0, none⟩ = some (.bool false) := (by rw [cell_of hs]; rfl); have s1 := frozen_of hs 0; have HS1 := Lib.hid hs; clear hs hi hj)
  go_end0
  exact ⟨rfl, (Below.heap_setCell _ _ _ _ N1.out.symm).trans HI.out, set_lone _ HS1.out rfl, fun B h1 h2 h3 => (HJ.out.below h1 h3).setCell h2 _⟩
set_option maxRecDepth 100000 in
set_option maxHeartbeats 2000000 in
theorem closU_miss (v : Value) (b i s : Nat) (c : Array Value) (W : World) (hv : W.heap[b]? = some (.cells #[v] 49 (0, 0))) (hi : W.heap[i]? = some (.cells c 76 (0, 0))) (hs : W.heap[s]? = some (.cells #[.bool false] 4 (0, 0))) (hne : s ≠ i)
    (hA : Calls Tryz.prog 45 #[v, .iface 100 (.pointer (some ⟨i, 0, none⟩))] W (Miss W)) :
    Calls Tryz.prog 44 #[.pointer (some ⟨b, 0, none⟩), .pointer (some ⟨i, 0, none⟩), .pointer (some ⟨s, 0, none⟩)] W (Quiet (Asked i s 76 c false W)) := by
  have c0 : W.cell? ⟨b, 0, none⟩ = some v := by rw [cell_of hv]; rfl
  have HA := Lib.hid hA
  have HS := Lib.hid hs
  have HI0 := Lib.hid hi
  have ls := Lib.hid (Array.getElem?_eq_some_iff.1 hs).1
  have li := Lib.hid (Array.getElem?_eq_some_iff.1 hi).1
  have N1 := Lib.hid hne
  clear hA hv hi hs hne
  go_enter Tryz.func44, Tryz.ntmps44
  go_wp2_with ((with_reducible refine HA.out.mono ?_); rintro e w1 ⟨rfl, hj⟩; have HI := Lib.hid ((hj.block i li.out).trans HI0.out); have HJ := Lib.hid hj; have hs := (hj.block s ls.out).trans HS.out; have s0 : w1.cell? ⟨s, 0, none⟩ = some (.bool false) := (by rw [cell_of hs]; rfl); have s1 := frozen_of hs 0; have HS1 := Lib.hid hs; clear hs hj)
  go_end0
  exact ⟨rfl, (Below.heap_setCell _ _ _ _ N1.out.symm).trans HI.out, set_lone _ HS1.out rfl, fun B h1 h2 h3 => (HJ.out.mono h3).setCell h2 _⟩
set_option maxRecDepth 100000 in
set_option maxHeartbeats 4000000 in
theorem foundU_from (v : Value) (x : ByteArray) (y : Int) (b : Bool) (w W : World) (hv : (∃ t x, v = .iface t x) ∨ v = .nilIface) (hW : W = ((w.alloc (.cells #[v] 49)).alloc (.cells #[.string ⟨#[]⟩, .int .i64 0] 76)).alloc (.cells #[.bool false] 4))
    (hC : Calls Tryz.prog 44 #[.pointer (some ⟨w.heap.size, 0, none⟩), .pointer (some ⟨w.heap.size + 1, 0, none⟩), .pointer (some ⟨w.heap.size + 1 + 1, 0, none⟩)] W (Quiet (Asked (w.heap.size + 1) (w.heap.size + 1 + 1) 76 #[.string x, .int .i64 y] b W))) :
    Calls Tryz.prog 29 #[v] w fun e w' => e = .returned (.tuple #[.agg #[.string x, .int .i64 y], .bool b]) ∧ Below w.heap.size w w' := by
  subst hW
  have hQ := quietly_any 44 _ _ _ entU hC
  have HQ := Lib.hid hQ
  have HB0 := Lib.hid ((((Below.refl _ w).alloc (Nat.le_refl _) (.cells #[v] 49)).alloc (by simp) (.cells #[.string ⟨#[]⟩, .int .i64 0] 76)).alloc (by simp; omega) (.cells #[.bool false] 4))
  clear hC hQ
  have hmf : ∀ (fn : Fn) (first cap : Array Value) (w : World), (Instr.makeFunc fn first cap).run Tryz.prog w = .ok (.func fn first cap) w := fun _ _ _ _ => rfl
  rcases hv with ⟨ty, z, rfl⟩ | rfl
  all_goals
    go_enter Tryz.func29, Tryz.ntmps29
    go_wp2_with ((with_reducible refine HQ.out.mono ?_); rintro e w1 ⟨rfl, hq⟩; have H1 := Lib.hid hq; clear hq)
    have hi := H1.out.1
    have hs := H1.out.2.1
    have HB := Lib.hid (HB0.out.trans (H1.out.2.2 w.heap.size (by omega) (by omega) (by simp; omega)))
    clear HQ HB0 H1
    have i0 : w1.cell? ⟨w.heap.size + 1, 0, none⟩ = some (.string x) := by rw [cell_of hi]; rfl
    have f0 := frozen_of hi 0
    have i1 : w1.cell? ⟨w.heap.size + 1, 1, none⟩ = some (.int .i64 y) := by rw [cell_of hi]; rfl
    have f1 := frozen_of hi 1

    have s0 : w1.cell? ⟨w.heap.size + 1 + 1, 0, none⟩ = some (.bool b) := by rw [cell_of hs]; rfl
    have g0 := frozen_of hs 0
    go_region
    go_wp2
    refine bodyPost_ret (v := .tuple #[.agg #[.string x, .int .i64 y], .bool b]) ?_ rfl ⟨rfl, ?_⟩
    · simp [results, Tryz.results29, go_sem, s0, i0, i1]
    · exact (((HB.out.setCell (by simp) _).setCell (by simp) _).setCell (by simp; omega) _).drew
theorem entW (args : Array Value) (w : World) : (callFunc 56 args).run Tryz.prog w = .ok (.enter 56 args) w := enters_of Tryz.func56 (by kernel_rfl) rfl args w
set_option maxRecDepth 100000 in
set_option maxHeartbeats 2000000 in
theorem closW_hit (v : Value) (b i s : Nat) (c old : Array Value) (W : World) (hv : W.heap[b]? = some (.cells #[v] 49 (0, 0))) (hi : W.heap[i]? = some (.cells old 70 (0, 0))) (hs : W.heap[s]? = some (.cells #[.bool false] 4 (0, 0))) (hne : s ≠ i)
    (hA : Calls Tryz.prog 45 #[v, .iface 110 (.pointer (some ⟨i, 0, none⟩))] W (Hit i 70 c W)) :
    Calls Tryz.prog 56 #[.pointer (some ⟨b, 0, none⟩), .pointer (some ⟨i, 0, none⟩), .pointer (some ⟨s, 0, none⟩)] W (Quiet (Asked i s 70 c true W)) := by
  have c0 : W.cell? ⟨b, 0, none⟩ = some v := by rw [cell_of hv]; rfl
  have HA := Lib.hid hA
  have HS := Lib.hid hs
  have ls := Lib.hid (Array.getElem?_eq_some_iff.1 hs).1
  have N1 := Lib.hid hne
  clear hA hv hi hs hne
  go_enter Tryz.func56, Tryz.ntmps56
  go_wp2_with ((with_reducible refine HA.out.mono ?_); rintro e w1 ⟨rfl, hi, hj⟩; have HI := Lib.hid hi; have HJ := Lib.hid hj; have hs := (hj.block s ls.out N1.out).trans HS.out; have s0 : w1.cell? ⟨s, 0, none⟩ = some (.bool false) := (by rw [cell_of hs]; rfl); have s1 := frozen_of hs 0; have HS1 := Lib.hid hs; clear hs hi hj)
  go_end0
  exact ⟨rfl, (Below.heap_setCell _ _ _ _ N1.out.symm).trans HI.out, set_lone _ HS1.out rfl, fun B h1 h2 h3 => (HJ.out.below h1 h3).setCell h2 _⟩
set_option maxRecDepth 100000 in
set_option maxHeartbeats 2000000 in
theorem closW_miss (v : Value) (b i s : Nat) (c : Array Value) (W : World) (hv : W.heap[b]? = some (.cells #[v] 49 (0, 0))) (hi : W.heap[i]? = some (.cells c 70 (0, 0))) (hs : W.heap[s]? = some (.cells #[.bool false] 4 (0, 0))) (hne : s ≠ i)
    (hA : Calls Tryz.prog 45 #[v, .iface 110 (.pointer (some ⟨i, 0, none⟩))] W (Miss W)) :
    Calls Tryz.prog 56 #[.pointer (some ⟨b, 0, none⟩), .pointer (some ⟨i, 0, none⟩), .pointer (some ⟨s, 0, none⟩)] W (Quiet (Asked i s 70 c false W)) := by
  have c0 : W.cell? ⟨b, 0, none⟩ = some v := by rw [cell_of hv]; rfl
  have HA := Lib.hid hA
  have HS := Lib.hid hs
  have HI0 := Lib.hid hi
  have ls := Lib.hid (Array.getElem?_eq_some_iff.1 hs).1
  have li := Lib.hid (Array.getElem?_eq_some_iff.1 hi).1
  have N1 := Lib.hid hne
  clear hA hv hi hs hne
  go_enter Tryz.func56, Tryz.ntmps56
  go_wp2_with ((with_reducible refine HA.out.mono ?_); rintro e w1 ⟨rfl, hj⟩; have HI := Lib.hid ((hj.block i li.out).trans HI0.out); have HJ := Lib.hid hj; have hs := (hj.block s ls.out).trans HS.out; have s0 : w1.cell? ⟨s, 0, none⟩ = some (.bool false) := (by rw [cell_of hs]; rfl); have s1 := frozen_of hs 0; have HS1 := Lib.hid hs; clear hs hj)
  go_end0
  exact ⟨rfl, (Below.heap_setCell _ _ _ _ N1.out.symm).trans HI.out, set_lone _ HS1.out rfl, fun B h1 h2 h3 => (HJ.out.mono h3).setCell h2 _⟩
set_option maxRecDepth 100000 in
set_option maxHeartbeats 4000000 in
theorem foundW_from (v : Value) (x : Option Addr) (b : Bool) (w W : World) (hv : (∃ t x, v = .iface t x) ∨ v = .nilIface) (hW : W = ((w.alloc (.cells #[v] 49)).alloc (.cells #[.pointer none] 70)).alloc (.cells #[.bool false] 4))
    (hC : Calls Tryz.prog 56 #[.pointer (some ⟨w.heap.size, 0, none⟩), .pointer (some ⟨w.heap.size + 1, 0, none⟩), .pointer (some ⟨w.heap.size + 1 + 1, 0, none⟩)] W (Quiet (Asked (w.heap.size + 1) (w.heap.size + 1 + 1) 70 #[.pointer x] b W))) :
    Calls Tryz.prog 43 #[v] w fun e w' => e = .returned (.tuple #[.pointer x, .bool b]) ∧ Below w.heap.size w w' := by
  subst hW
  have hQ := quietly_any 56 _ _ _ entW hC
  have HQ := Lib.hid hQ
  have HB0 := Lib.hid ((((Below.refl _ w).alloc (Nat.le_refl _) (.cells #[v] 49)).alloc (by simp) (.cells #[.pointer none] 70)).alloc (by simp; omega) (.cells #[.bool false] 4))
  clear hC hQ
  have hmf : ∀ (fn : Fn) (first cap : Array Value) (w : World), (Instr.makeFunc fn first cap).run Tryz.prog w = .ok (.func fn first cap) w := fun _ _ _ _ => rfl
  rcases hv with ⟨ty, z, rfl⟩ | rfl
  all_goals
    go_enter Tryz.func43, Tryz.ntmps43
    go_wp2_with ((with_reducible refine HQ.out.mono ?_); rintro e w1 ⟨rfl, hq⟩; have H1 := Lib.hid hq; clear hq)
    have hi := H1.out.1
    have hs := H1.out.2.1
    have HB := Lib.hid (HB0.out.trans (H1.out.2.2 w.heap.size (by omega) (by omega) (by simp; omega)))
    clear HQ HB0 H1
    have i0 : w1.cell? ⟨w.heap.size + 1, 0, none⟩ = some (.pointer x) := by rw [cell_of hi]; rfl
    have f0 := frozen_of hi 0

    have s0 : w1.cell? ⟨w.heap.size + 1 + 1, 0, none⟩ = some (.bool b) := by rw [cell_of hs]; rfl
    have g0 := frozen_of hs 0
    go_region
    go_wp2
    refine bodyPost_ret (v := .tuple #[.pointer x, .bool b]) ?_ rfl ⟨rfl, ?_⟩
    · simp [results, Tryz.results43, go_sem, s0, i0]
    · exact ((HB.out.setCell (by simp) _).setCell (by simp; omega) _).drew
theorem entN (args : Array Value) (w : World) : (callFunc 63 args).run Tryz.prog w = .ok (.enter 63 args) w := enters_of Tryz.func63 (by kernel_rfl) rfl args w
set_option maxRecDepth 100000 in
set_option maxHeartbeats 2000000 in
theorem closN_hit (v : Value) (b i s : Nat) (c old : Array Value) (W : World) (hv : W.heap[b]? = some (.cells #[v] 49 (0, 0))) (hi : W.heap[i]? = some (.cells old 35 (0, 0))) (hs : W.heap[s]? = some (.cells #[.bool false] 4 (0, 0))) (hne : s ≠ i)
    (hA : Calls Tryz.prog 45 #[v, .iface 122 (.pointer (some ⟨i, 0, none⟩))] W (Hit i 35 c W)) :
    Calls Tryz.prog 63 #[.pointer (some ⟨b, 0, none⟩), .pointer (some ⟨i, 0, none⟩), .pointer (some ⟨s, 0, none⟩)] W (Quiet (Asked i s 35 c true W)) := by
  have c0 : W.cell? ⟨b, 0, none⟩ = some v := by rw [cell_of hv]; rfl
  have HA := Lib.hid hA
  have HS := Lib.hid hs
  have ls := Lib.hid (Array.getElem?_eq_some_iff.1 hs).1
  have N1 := Lib.hid hne
  clear hA hv hi hs hne
  go_enter Tryz.func63, Tryz.ntmps63
  go_wp2_with ((with_reducible refine HA.out.mono ?_); rintro e w1 ⟨rfl, hi, hj⟩; have HI := Lib.hid hi; have HJ := Lib.hid hj; have hs := (hj.block s ls.out N1.out).trans HS.out; have s0 : w1.cell? ⟨s, 0, none⟩ = some (.bool false) := (by rw [cell_of hs]; rfl); have s1 := frozen_of hs 0; have HS1 := Lib.hid hs; clear hs hi hj)
  go_end0
  exact ⟨rfl, (Below.heap_setCell _ _ _ _ N1.out.symm).trans HI.out, set_lone _ HS1.out rfl, fun B h1 h2 h3 => (HJ.out.below h1 h3).setCell h2 _⟩
set_option maxRecDepth 100000 in
set_option maxHeartbeats 2000000 in
theorem closN_miss (v : Value) (b i s : Nat) (c : Array Value) (W : World) (hv : W.heap[b]? = some (.cells #[v] 49 (0, 0))) (hi : W.heap[i]? = some (.cells c 35 (0, 0))) (hs : W.heap[s]? = some (.cells #[.bool false] 4 (0, 0))) (hne : s ≠ i)
    (hA : Calls Tryz.prog 45 #[v, .iface 122 (.pointer (some ⟨i, 0, none⟩))] W (Miss W)) :
    Calls Tryz.prog 63 #[.pointer (some ⟨b, 0, none⟩), .pointer (some ⟨i, 0, none⟩), .pointer (some ⟨s, 0, none⟩)] W (Quiet (Asked i s 35 c false W)) := by
  have c0 : W.cell? ⟨b, 0, none⟩ = some v := by rw [cell_of hv]; rfl
  have HA := Lib.hid hA
  have HS := Lib.hid hs
  have HI0 := Lib.hid hi
  have ls := Lib.hid (Array.getElem?_eq_some_iff.1 hs).1
  have li := Lib.hid (Array.getElem?_eq_some_iff.1 hi).1
  have N1 := Lib.hid hne
  clear hA hv hi hs hne
  go_enter Tryz.func63, Tryz.ntmps63
  go_wp2_with ((with_reducible refine HA.out.mono ?_); rintro e w1 ⟨rfl, hj⟩; have HI := Lib.hid ((hj.block i li.out).trans HI0.out); have HJ := Lib.hid hj; have hs := (hj.block s ls.out).trans HS.out; have s0 : w1.cell? ⟨s, 0, none⟩ = some (.bool false) := (by rw [cell_of hs]; rfl); have s1 := frozen_of hs 0; have HS1 := Lib.hid hs; clear hs hj)
  go_end0
  exact ⟨rfl, (Below.heap_setCell _ _ _ _ N1.out.symm).trans HI.out, set_lone _ HS1.out rfl, fun B h1 h2 h3 => (HJ.out.mono h3).setCell h2 _⟩
set_option maxRecDepth 100000 in
set_option maxHeartbeats 4000000 in
theorem foundN_from (v : Value) (x : Int) (b : Bool) (w W : World) (hv : (∃ t x, v = .iface t x) ∨ v = .nilIface) (hW : W = ((w.alloc (.cells #[v] 49)).alloc (.cells #[.int .i64 0] 35)).alloc (.cells #[.bool false] 4))
    (hC : Calls Tryz.prog 63 #[.pointer (some ⟨w.heap.size, 0, none⟩), .pointer (some ⟨w.heap.size + 1, 0, none⟩), .pointer (some ⟨w.heap.size + 1 + 1, 0, none⟩)] W (Quiet (Asked (w.heap.size + 1) (w.heap.size + 1 + 1) 35 #[.int .i64 x] b W))) :
    Calls Tryz.prog 48 #[v] w fun e w' => e = .returned (.tuple #[.int .i64 x, .bool b]) ∧ Below w.heap.size w w' := by
  subst hW
  have hQ := quietly_any 63 _ _ _ entN hC
  have HQ := Lib.hid hQ
  have HB0 := Lib.hid ((((Below.refl _ w).alloc (Nat.le_refl _) (.cells #[v] 49)).alloc (by simp) (.cells #[.int .i64 0] 35)).alloc (by simp; omega) (.cells #[.bool false] 4))
  clear hC hQ
  have hmf : ∀ (fn : Fn) (first cap : Array Value) (w : World), (Instr.makeFunc fn first cap).run Tryz.prog w = .ok (.func fn first cap) w := fun _ _ _ _ => rfl
  rcases hv with ⟨ty, z, rfl⟩ | rfl
  all_goals
    go_enter Tryz.func48, Tryz.ntmps48
    go_wp2_with ((with_reducible refine HQ.out.mono ?_); rintro e w1 ⟨rfl, hq⟩; have H1 := Lib.hid hq; clear hq)
    have hi := H1.out.1
    have hs := H1.out.2.1
    have HB := Lib.hid (HB0.out.trans (H1.out.2.2 w.heap.size (by omega) (by omega) (by simp; omega)))
    clear HQ HB0 H1
    have i0 : w1.cell? ⟨w.heap.size + 1, 0, none⟩ = some (.int .i64 x) := by rw [cell_of hi]; rfl
    have f0 := frozen_of hi 0

    have s0 : w1.cell? ⟨w.heap.size + 1 + 1, 0, none⟩ = some (.bool b) := by rw [cell_of hs]; rfl
    have g0 := frozen_of hs 0
    go_region
    go_wp2
    refine bodyPost_ret (v := .tuple #[.int .i64 x, .bool b]) ?_ rfl ⟨rfl, ?_⟩
    · simp [results, Tryz.results48, go_sem, s0, i0]
    · exact ((HB.out.setCell (by simp) _).setCell (by simp; omega) _).drew

section
variable {w : World} {v : Value}
theorem three (w : World) (v : Value) (Z : Array Value) (E : TypeId) : ∃ W, W = ((w.alloc (.cells #[v] 49)).alloc (.cells Z E)).alloc (.cells #[.bool false] 4) ∧ Below w.heap.size w W ∧
    W.heap[w.heap.size]? = some (.cells #[v] 49 (0, 0)) ∧ W.heap[w.heap.size + 1]? = some (.cells Z E (0, 0)) ∧ W.heap[w.heap.size + 1 + 1]? = some (.cells #[.bool false] 4 (0, 0)) := by
  refine ⟨_, rfl, (((Below.refl _ w).alloc (Nat.le_refl _) _).alloc (by simp) _).alloc (by simp; omega) _, lone_old _ (lone_old _ (lone_new _ _ _)), ?_, ?_⟩
  · have := lone_new (w.alloc (.cells #[v] 49)) Z E
    rw [World.size_alloc] at this
    exact lone_old _ this
  · have := lone_new ((w.alloc (.cells #[v] 49)).alloc (.cells Z E)) #[.bool false] 4
    rw [World.size_alloc, World.size_alloc] at this
    exact this
theorem foundU_used {ws : List ByteArray} {p : ByteArray} {m : Int} (hT : ErrT w) (he : ErrIs w v ws (.used p m)) : Calls Tryz.prog 29 #[v] w fun e w' => e = .returned (.tuple #[.agg #[.string p, .int .i64 m], .bool true]) ∧ Below w.heap.size w w' := by
  obtain ⟨W, hW, hb, h0, h1, h2⟩ := three w v #[.string ⟨#[]⟩, .int .i64 0] 76
  exact foundU_from v p m true w W (.inl he.iface) hW (closU_hit v _ _ _ _ _ W h0 h1 h2 (by omega) (AsU_any ws (.used p m) v _ _ _ W (hT.keep hb) (he.keep hb) h1))
theorem foundU_num {ws : List ByteArray} {n : Int} (hT : ErrT w) (he : ErrIs w v ws (.num n)) : Calls Tryz.prog 29 #[v] w fun e w' => e = .returned (.tuple #[.agg #[.string ⟨#[]⟩, .int .i64 0], .bool false]) ∧ Below w.heap.size w w' := by
  obtain ⟨W, hW, hb, h0, h1, h2⟩ := three w v #[.string ⟨#[]⟩, .int .i64 0] 76
  exact foundU_from v _ _ false w W (.inl he.iface) hW (closU_miss v _ _ _ _ W h0 h1 h2 (by omega) (AsU_any ws (.num n) v _ _ _ W (hT.keep hb) (he.keep hb) h1))
theorem miss_nil (t : Value) (W : World) : Calls Tryz.prog 45 #[.nilIface, t] W (Miss W) := (asNil t W).mono fun e w' ⟨h, hw⟩ => ⟨h, hw ▸ Below.refl _ _⟩
theorem foundU_nil (w : World) : Calls Tryz.prog 29 #[.nilIface] w fun e w' => e = .returned (.tuple #[.agg #[.string ⟨#[]⟩, .int .i64 0], .bool false]) ∧ Below w.heap.size w w' := by
  obtain ⟨W, hW, hb, h0, h1, h2⟩ := three w .nilIface #[.string ⟨#[]⟩, .int .i64 0] 76
  exact foundU_from .nilIface _ _ false w W (.inr rfl) hW (closU_miss .nilIface _ _ _ _ W h0 h1 h2 (by omega) (miss_nil _ W))
theorem foundW_some {s : ByteArray} {ws : List ByteArray} {b : Base} {x : Option Addr} (hT : ErrT w) (he : ErrIs w (.iface 70 (.pointer x)) (s :: ws) b) : Calls Tryz.prog 43 #[.iface 70 (.pointer x)] w fun e w' => e = .returned (.tuple #[.pointer x, .bool true]) ∧ Below w.heap.size w w' := by
  obtain ⟨W, hW, hb, h0, h1, h2⟩ := three w (.iface 70 (.pointer x)) #[.pointer none] 70
  refine foundW_from _ x true w W (.inl he.iface) hW (closW_hit _ _ _ _ _ _ W h0 h1 h2 (by omega) ((AsW_any (s :: ws) b _ _ (.pointer none) _ W (hT.keep hb) (he.keep hb) h1).mono fun e w' hp => ?_))
  obtain ⟨y, hy, h⟩ := hp
  injection hy with _ hy
  subst hy
  exact h
theorem foundW_none {b : Base} (hT : ErrT w) (he : ErrIs w v [] b) : Calls Tryz.prog 43 #[v] w fun e w' => e = .returned (.tuple #[.pointer none, .bool false]) ∧ Below w.heap.size w w' := by
  obtain ⟨W, hW, hb, h0, h1, h2⟩ := three w v #[.pointer none] 70
  exact foundW_from v _ false w W (.inl he.iface) hW (closW_miss v _ _ _ _ W h0 h1 h2 (by omega) (AsW_any [] b v _ (.pointer none) _ W (hT.keep hb) (he.keep hb) h1))
theorem foundW_nil (w : World) : Calls Tryz.prog 43 #[.nilIface] w fun e w' => e = .returned (.tuple #[.pointer none, .bool false]) ∧ Below w.heap.size w w' := by
  obtain ⟨W, hW, hb, h0, h1, h2⟩ := three w .nilIface #[.pointer none] 70
  exact foundW_from .nilIface _ false w W (.inr rfl) hW (closW_miss .nilIface _ _ _ _ W h0 h1 h2 (by omega) (miss_nil _ W))
theorem foundN_some {ws : List ByteArray} {b : Base} (hT : ErrT w) (he : ErrIs w v ws b) : Calls Tryz.prog 48 #[v] w fun e w' => e = .returned (.tuple #[.int .i64 b.no, .bool true]) ∧ Below w.heap.size w w' := by
  obtain ⟨W, hW, hb, h0, h1, h2⟩ := three w v #[.int .i64 0] 35
  exact foundN_from v b.no true w W (.inl he.iface) hW (closN_hit v _ _ _ _ _ W h0 h1 h2 (by omega) (AsN_any ws b v _ (.int .i64 0) _ W (hT.keep hb) (he.keep hb) h1))
theorem foundN_nil (w : World) : Calls Tryz.prog 48 #[.nilIface] w fun e w' => e = .returned (.tuple #[.int .i64 0, .bool false]) ∧ Below w.heap.size w w' := by
  obtain ⟨W, hW, hb, h0, h1, h2⟩ := three w .nilIface #[.int .i64 0] 35
  exact foundN_from .nilIface _ false w W (.inr rfl) hW (closN_miss .nilIface _ _ _ _ W h0 h1 h2 (by omega) (miss_nil _ W))
end
end Go.Proofs.YtdkdgijcoialbaaGreatDoor

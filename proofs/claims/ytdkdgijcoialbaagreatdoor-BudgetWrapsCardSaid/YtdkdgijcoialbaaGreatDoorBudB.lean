/- The errors of budget in memory; what errors.As stores. -/
import Derived.Test.YtdkdgijcoialbaaGreatDoorBudA
import Derived.Below
namespace Go.Proofs.YtdkdgijcoialbaaGreatDoor
open Go.RowKit Go.Extern.Stop Go.Stop Go.Extern

set_option linter.unusedVariables false
set_option linter.unusedSimpArgs false

/-- But for block g all that there was is as it was. -/
structure Just (g : Nat) (w w' : World) : Prop where
  os : w'.os = w.os
  tape : w'.tape = w.tape
  output : w'.output = w.output
  size : w.heap.size ≤ w'.heap.size
  block : ∀ k, k < w.heap.size → k ≠ g → w'.heap[k]? = w.heap[k]?
theorem Just.of {g : Nat} {w w' : World} (h : Below w.heap.size w w') : Just g w w' := ⟨h.os, h.tape, h.output, h.size, fun k hk _ => h.block k hk⟩
theorem Just.trans {g : Nat} {a b c : World} (h : Just g a b) (k : Just g b c) : Just g a c :=
  ⟨k.os.trans h.os, k.tape.trans h.tape, k.output.trans h.output, Nat.le_trans h.size k.size, fun i hi hn => (k.block i (Nat.lt_of_lt_of_le hi h.size) hn).trans (h.block i hi hn)⟩
theorem Just.below {g B : Nat} {w w' : World} (h : Just g w w') (hg : B ≤ g) (hB : B ≤ w.heap.size) : Below B w w' := ⟨h.os, h.tape, h.output, h.size, fun k hk => h.block k (by omega) (by omega)⟩
theorem Just.set (w : World) (g o : Nat) (v : Value) : Just g w (w.setCell ⟨g, o, none⟩ v) := ⟨rfl, rfl, rfl, by simp [World.setCell], fun k _ hn => Below.heap_setCell _ _ _ _ hn⟩

inductive Base
  | used (part : ByteArray) (most : Int)
  | num (n : Int)
def Base.val : Base → Value
  | .used p m => .iface 76 (.agg #[.string p, .int .i64 m])
  | .num n => .iface 35 (.int .i64 n)
def Base.rank : Base → Nat
  | .used _ _ => 1
  | .num _ => 0

/-- the value v is an error: words around what is within -/
inductive ErrIs (w : World) : Value → List ByteArray → Base → Prop
  | base (b : Base) : ErrIs w b.val [] b
  | wrap (k : Nat) (v : Value) (s : ByteArray) (ws : List ByteArray) (b : Base) : w.heap[k]? = some (.cells #[v, .string s] 72 (0, 0)) → ErrIs w v ws b → ErrIs w (.iface 70 (.pointer (some ⟨k, 0, none⟩))) (s :: ws) b

theorem ErrIs.mono {w w' : World} {v : Value} {ws : List ByteArray} {b : Base} (h : ErrIs w v ws b) (hk : ∀ (k : Nat) (c : Array Value), w.heap[k]? = some (Obj.cells c 72 (0, 0)) → w'.heap[k]? = w.heap[k]?) : ErrIs w' v ws b := by
  induction h with
  | base b => exact .base b
  | wrap k v s ws b h1 _ ih => exact .wrap k v s ws b ((hk k _ h1).trans h1) ih
theorem ErrIs.keep {w w' : World} {v : Value} {ws : List ByteArray} {b : Base} (h : ErrIs w v ws b) (hb : Below w.heap.size w w') : ErrIs w' v ws b :=
  h.mono fun k c hc => hb.block k (Array.getElem?_eq_some_iff.1 hc).1
theorem ErrIs.iface {w : World} {v : Value} {ws : List ByteArray} {b : Base} (h : ErrIs w v ws b) : ∃ t x, v = .iface t x := by
  cases h with
  | base b => cases b <;> exact ⟨_, _, rfl⟩
  | wrap k v s ws b h1 h2 => exact ⟨_, _, rfl⟩
theorem Base.val_inj {a b : Base} (h : a.val = b.val) : a = b := by
  cases a <;> cases b <;> simp [Base.val] at h <;> simp [h]
theorem ErrIs.inj {w : World} {v : Value} {ws ws' : List ByteArray} {b b' : Base} (h : ErrIs w v ws b) (h' : ErrIs w v ws' b') : ws = ws' ∧ b = b' := by
  induction h generalizing ws' b' with
  | base b =>
    generalize hv : b.val = v at h'
    cases h' with
    | base => exact ⟨rfl, Base.val_inj hv⟩
    | wrap k v s ws b1 h1 h2 => cases b <;> simp [Base.val] at hv
  | wrap k v s ws b h1 h2 ih =>
    generalize hv : Value.iface 70 (.pointer (some ⟨k, 0, none⟩)) = z at h'
    cases h' with
    | base => cases b' <;> simp [Base.val] at hv
    | wrap k' v' s' ws' b' h1' h2' =>
      simp at hv
      subst hv
      rw [h1] at h1'
      simp at h1'
      obtain ⟨rfl, rfl⟩ := h1'
      obtain ⟨rfl, rfl⟩ := ih h2'
      exact ⟨rfl, rfl⟩
open Classical in
/-- how often an error can be unwrapped -/
noncomputable def hgt (w : World) (v : Value) : Nat := if h : ∃ x : List ByteArray × Base, ErrIs w v x.1 x.2 then 2 * (Classical.choose h).1.length + (Classical.choose h).2.rank else 0
theorem hgt_is {w : World} {v : Value} {ws : List ByteArray} {b : Base} (h : ErrIs w v ws b) : hgt w v = 2 * ws.length + b.rank := by
  have he : ∃ x : List ByteArray × Base, ErrIs w v x.1 x.2 := ⟨(ws, b), h⟩
  unfold hgt
  rw [dif_pos he]
  obtain ⟨e1, e2⟩ := ErrIs.inj (Classical.choose_spec he) h
  rw [e1, e2]

theorem valueOfU (p m : Value) (w : World) : (ReflectliteValue.unpack (.iface 76 (.agg #[p, m]))).run Tryz.prog w
    = .ok (.agg #[.pointer (some ⟨4, 76, none⟩), .pointer (some ⟨w.heap.size, 0, none⟩), .int .u64 153]) (w.alloc (.cells #[p, m] 76)) := by kernel_rfl
theorem valueOfW (p : Option Addr) (w : World) : (ReflectliteValue.unpack (.iface 70 (.pointer p))).run Tryz.prog w
    = .ok (.agg #[.pointer (some ⟨4, 70, none⟩), .pointer (some ⟨w.heap.size, 0, none⟩), .int .u64 150]) (w.alloc (.cells #[.pointer p] 70)) := by kernel_rfl
theorem valueOfN (n : Int) (w : World) : (ReflectliteValue.unpack (.iface 35 (.int .i64 n))).run Tryz.prog w
    = .ok (.agg #[.pointer (some ⟨4, 35, none⟩), .pointer (some ⟨w.heap.size, 0, none⟩), .int .u64 130]) (w.alloc (.cells #[.int .i64 n] 35)) := by kernel_rfl
theorem setW (ta b : Addr) (x old : Value) (W : World) (hb : W.cell? b = some x) (ht : W.cell? ta = some old) (hf : W.frozen? ta = false) (hx : ∃ p, x = .pointer p) :
    (ReflectliteValue.set #[.agg #[.pointer (some ⟨4, 70, none⟩), .pointer (some ta), .int .u64 406], .agg #[.pointer (some ⟨4, 70, none⟩), .pointer (some b), .int .u64 150]]).run Tryz.prog W
      = .ok (.tuple #[]) (W.setCell ta x) := by
  obtain ⟨p, rfl⟩ := hx
  rw [rls]
  simp only [Sem.run_bind, partsEaW, partsEW, Result.andThen]
  simp [ReflectliteValue.flagAddr, loadVar, isAgg, underlying, Tryz.underlying70, hb, Result.andThen, directEW, storeVar, Value.cells, storeCells, Addr.add]
  rw [run_store Tryz.prog W ta _ _ (by rfl)]
  simp [ht, hf]
theorem setN (ta b : Addr) (x old : Value) (W : World) (hb : W.cell? b = some x) (ht : W.cell? ta = some old) (hf : W.frozen? ta = false) (hx : ∃ n, x = .int .i64 n) :
    (ReflectliteValue.set #[.agg #[.pointer (some ⟨4, 35, none⟩), .pointer (some ta), .int .u64 386], .agg #[.pointer (some ⟨4, 35, none⟩), .pointer (some b), .int .u64 130]]).run Tryz.prog W
      = .ok (.tuple #[]) (W.setCell ta x) := by
  obtain ⟨p, rfl⟩ := hx
  rw [rls]
  simp only [Sem.run_bind, partsEaN, partsEN, Result.andThen]
  simp [ReflectliteValue.flagAddr, loadVar, isAgg, underlying, Tryz.underlying35, hb, Result.andThen, directEN, storeVar, Value.cells, storeCells, Addr.add]
  rw [run_store Tryz.prog W ta _ _ (by rfl)]
  simp [ht, hf]
theorem infoU : (Tryz.prog.info? 76).map (·.size) = some 2 := by kernel_rfl
theorem setU (g q : Nat) (x y x0 y0 : Value) (W : World) (hb : W.heap[q]? = some (.cells #[x, y] 76 (0, 0))) (ht : W.heap[g]? = some (.cells #[x0, y0] 76 (0, 0))) (hx : x.oneCell' = true) (hy : y.oneCell' = true) :
    (ReflectliteValue.set #[.agg #[.pointer (some ⟨4, 76, none⟩), .pointer (some ⟨g, 0, none⟩), .int .u64 409], .agg #[.pointer (some ⟨4, 76, none⟩), .pointer (some ⟨q, 0, none⟩), .int .u64 153]]).run Tryz.prog W
      = .ok (.tuple #[]) (W.setRow g #[x, y]) := by
  have h1 := run_loadVar_row (P := Tryz.prog) W q 76 76 #[x, y] (0, 0) _ hb Tryz.underlying76 rfl infoU
  have h2 := run_storeVar_row (P := Tryz.prog) W g 76 76 #[x0, y0] #[x, y] ht infoU rfl (by simp [hx, hy])
  rw [rls]
  simp only [Sem.run_bind, partsEaU, partsEU, Result.andThen]
  simp [ReflectliteValue.flagAddr, h1, h2, Result.andThen, directEU]

theorem lone_new (w : World) (c : Array Value) (t : TypeId) : (w.alloc (.cells c t)).heap[w.heap.size]? = some (.cells c t (0, 0)) := by
  show (w.heap.push _)[w.heap.size]? = _
  rw [Array.getElem?_push, if_pos rfl]
theorem lone_old {w : World} {g : Nat} {c : Array Value} {t : TypeId} (o : Obj) (h : w.heap[g]? = some (.cells c t (0, 0))) : (w.alloc o).heap[g]? = some (.cells c t (0, 0)) := by
  rw [Below.heap_alloc _ _ _ (Array.getElem?_eq_some_iff.1 h).1]; exact h
theorem cell_of {w : World} {g : Nat} {c : Array Value} {t : TypeId} (h : w.heap[g]? = some (.cells c t (0, 0))) (j : Nat) : w.cell? ⟨g, j, none⟩ = c[j]? := by
  simp [World.cell?, h]
theorem frozen_of {w : World} {g : Nat} {c : Array Value} {t : TypeId} (h : w.heap[g]? = some (.cells c t (0, 0))) (j : Nat) : w.frozen? ⟨g, j, none⟩ = false := by
  simp [World.frozen?, h]
end Go.Proofs.YtdkdgijcoialbaaGreatDoor

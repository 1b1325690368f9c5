/- peeled. -/
import Derived.Test.YtdkdgijcoialbaaGreatDoorBudF
import Derived.Deep.AppendLies
import Derived.Lib.OwnKind
import Derived.Deep.RegionHeldLaw
namespace Go.Proofs.YtdkdgijcoialbaaGreatDoor
open Go.RowKit Go.Shelf

set_option linter.unusedVariables false
set_option linter.unusedSimpArgs false

def strs (ws : List ByteArray) : List Value := ws.map .string
/-- an own list of strings -/
def OwnS (w : World) (B : Nat) (v : Value) (ws : List ByteArray) : Prop := w.ownsRow B 9 1 v ws.length (strs ws)
theorem OwnS.nil (w : World) (B : Nat) : OwnS w B (.slice none 0 0) [] := World.ownsRow_nil _ _ _ _
theorem OwnS.keep {w w' : World} {B : Nat} {v : Value} {ws : List ByteArray} (h : OwnS w B v ws) (hb : Below w.heap.size w w') : OwnS w' B v ws := by
  refine ⟨h.1, ?_⟩
  rcases h.2 with h2 | ⟨g, cap, cur, e, hg, hh, r⟩
  · exact .inl h2
  · exact .inr ⟨g, cap, cur, e, hg, (hb.block g (Array.getElem?_eq_some_iff.1 hh).1).trans hh, r⟩
theorem OwnS.form {w : World} {B : Nat} {v : Value} {ws : List ByteArray} (h : OwnS w B v ws) : ∃ A cap, v = .slice A ws.length cap ∧ cap ≤ maxLen := by
  rcases h.2 with ⟨e, h0⟩ | ⟨g, cap, cur, e, hg, hh, hle, hm, r⟩
  · exact ⟨none, 0, by rw [e, h0], by decide⟩
  · exact ⟨_, cap, e, hm⟩
theorem OwnS.far {w : World} {B : Nat} {v : Value} {ws : List ByteArray} (h : OwnS w B v ws) {k : Nat} {c : Array Value} {t : TypeId} {fr : Nat × Nat} (hk : w.heap[k]? = some (.cells c t fr)) (ht : t ≠ 9) : v.ownBlock ≠ some k := by
  intro e
  obtain ⟨c', fz, h'⟩ := Lib.ownsRow_kind h k e
  rw [hk] at h'
  simp at h'
  exact ht h'.2.1
theorem one1 {s : ByteArray} : ∀ u ∈ [Value.string s], u.oneCell' = true := by simp [Value.oneCell']
theorem len1 {n : Nat} (h : n ≤ 1000) : n + 1 ≤ maxLen := by unfold maxLen; omega
theorem len2 {n : Nat} (h : n ≤ 1000) : (n + 1) * 16 ≤ 140737488355328 := by omega
theorem len3 {a : Nat} {w : World} {o : Obj} (h : a ≤ w.heap.size) : a ≤ (w.drew.alloc o).heap.size := by simp; exact Nat.le_succ_of_le h
def PeelPost (ws : List ByteArray) (x : Value) (w : World) (e : Ending) (w' : World) : Prop := (∃ A cap, e = .returned (.tuple #[.slice A ws.length cap, x]) ∧ cap ≤ maxLen ∧ OwnS w' w.heap.size (.slice A ws.length cap) ws) ∧ Below w.heap.size w w'
theorem info_string : ∃ i, Tryz.prog.info? 9 = some i ∧ i.zero = some (.string ⟨#[]⟩) ∧ i.size = 1 ∧ i.bytes = 16 := by
  have h : (Tryz.prog.info? 9).map (fun i => (i.zero, i.size, i.bytes)) = some (some (.string ⟨#[]⟩), 1, 16) := by kernel_rfl
  obtain ⟨i, hi, h⟩ := Option.map_eq_some_iff.1 h
  simp only [Prod.mk.injEq] at h
  exact ⟨i, hi, h.1, h.2.1, h.2.2⟩
set_option maxRecDepth 100000 in
set_option maxHeartbeats 4000000 in
theorem peeled_any (v : Value) (ws : List ByteArray) (b : Base) (w : World) (hT : ErrT w) (he : ErrIs w v ws b) (hl : ws.length ≤ 1000) :
    Calls Tryz.prog 28 #[v] w (PeelPost ws b.val w) := by
  obtain ⟨i0, hi, hz0, hz1, hz2⟩ := info_string
  obtain ⟨tv, xv, hv⟩ := he.iface
  have HT := Lib.hid hT
  have HL := Lib.hid hl
  clear hT hl
  go_enter Tryz.func28, Tryz.ntmps28
  go_wp2
  go_loopw [0, 2] (fun e s wr => ∃ pre ws' A cap, ws = pre ++ ws' ∧ ErrIs wr e ws' b ∧ s = .slice A pre.length cap ∧ OwnS wr w.heap.size s pre ∧ Below w.heap.size w wr) (fun e _ wr => hgt wr e)
  case atStart => exact ⟨[], ws, none, 0, rfl, he, rfl, OwnS.nil _ _, Below.refl _ _⟩
  case round =>
    clear he hv
    obtain ⟨pre, ws', A, cap, hws, he, rfl, ho, hB⟩ := hrel
    cases ws' with
    | nil =>
      have c := Lib.hid (foundW_none (HT.out.keep hB) he)
      have hp := Lib.hid (show pre = ws by rw [hws, List.append_nil])
      obtain rfl := he.nil_inv
      have HO := Lib.hid ho
      have HB := Lib.hid hB
      clear he ho hB hws
      go_wp2_with ((with_reducible refine c.out.mono ?_); rintro e w1 ⟨rfl, hb⟩; have Hb := Lib.hid hb; clear hb)
      go_ret2
      have h1 := HO.out.keep Hb.out
      have h2 := HB.out.trans (Hb.out.mono HB.out.size)
      obtain ⟨A', cap', e1, hm⟩ := h1.form
      injection e1 with e1 e2 e3
      subst e1 e3
      obtain rfl := hp.out
      exact ⟨⟨A, cap, rfl, hm, h1⟩, h2⟩
    | cons s ws' =>
      obtain ⟨k, v', rfl, hk, he'⟩ := he.cons_inv
      have c := Lib.hid (foundW_some (HT.out.keep hB) he)
      have HH := Lib.hid (hgt_is he)
      have HE := Lib.hid he'
      have HO := Lib.hid ho
      have HB := Lib.hid hB
      have HK := Lib.hid hk
      have HW := Lib.hid hws
      clear he he' ho hB hws hk
      go_wp2_with ((with_reducible refine c.out.mono ?_); rintro e w1 ⟨rfl, hb⟩; have Hb := Lib.hid hb; clear hb)
      have hk1 := (Hb.out.block k (Array.getElem?_eq_some_iff.1 HK.out).1).trans HK.out
      have ho1 : OwnS w1.drew w.heap.size (.slice A pre.length cap) pre := HO.out.keep Hb.out.drew
      have s0 : w1.drew.cell? ⟨k, 0, none⟩ = some v' ∧ w1.drew.cell? ⟨k, 1, none⟩ = some (.string s) := ⟨(cell_of hk1 0).trans rfl, (cell_of hk1 1).trans rfl⟩
      have hsz : w.heap.size ≤ w1.heap.size := Nat.le_trans HB.out.size Hb.out.size
      have hpl : pre.length ≤ 1000 := by have h1 := HL.out; rw [HW.out] at h1; simp at h1; omega
      have hfar := ho1.far hk1 (by decide)
      have hklt : k < w1.heap.size := (Array.getElem?_eq_some_iff.1 hk1).1
      have HK1 := Lib.hid hk1
      have hkA : (w1.alloc (.cells #[.string s] 9)).drew.heap[k]? = some (.cells #[v', .string s] 72 (0, 0)) := (Below.heap_alloc _ _ _ hklt).trans hk1
      have s01 : (w1.alloc (.cells #[.string s] 9)).drew.cell? ⟨k, 0, none⟩ = some v' ∧ (w1.alloc (.cells #[.string s] 9)).drew.cell? ⟨k, 1, none⟩ = some (.string s) := ⟨(cell_of hkA 0).trans rfl, (cell_of hkA 1).trans rfl⟩
      have hkAlt : k < (w1.alloc (.cells #[.string s] 9)).drew.heap.size := (Array.getElem?_eq_some_iff.1 hkA).1
      obtain ⟨ty, x, rfl⟩ := HE.out.iface
      go_region_held_law (fun w' => w'.cell? ⟨k, 0, none⟩ = some (.iface ty x) ∧ w'.cell? ⟨k, 1, none⟩ = some (.string s)) (first | exact s0 | exact s01 | exact s1)
        ((refine step_append_lies _ rfl (.tmp 19) (.tmp 24) 34 rfl w.heap.size 9 i0 (.string ⟨#[]⟩) 1 16 Tryz.underlying34 hi hz0 hz1 hz2 rfl (by decide) _ _ _ rfl (ho1.alloc _) ⟨w1.heap.size, 0, none⟩ 1 1 [.string s] rfl rfl (cell_one_new _ _ _) one1 (by decide) (len1 hpl) (len2 hpl) (len3 hsz) _ rfl ?_
          intro g cap' w2 hown' hgrow hat hlt
          simp only [List.getElem_toArray, List.getElem_cons_succ, List.getElem_cons_zero, Act.put, List.setIfInBounds_toArray, List.set_cons_zero, List.set_cons_succ]
          have s1 : w2.cell? ⟨k, 0, none⟩ = some (.iface ty x) ∧ w2.cell? ⟨k, 1, none⟩ = some (.string s) := ⟨(hgrow.cell_far ⟨k, 0, none⟩ hkAlt hfar.symm).trans s01.1, (hgrow.cell_far ⟨k, 1, none⟩ hkAlt hfar.symm).trans s01.2⟩))
      go_wp2
      have hg : (w1.alloc (.cells #[.string s] 9)).drew.grownBy w2 (Value.slice A pre.length cap).ownBlock := hgrow
      have he1 := HE.out.keep Hb.out
      have he2 : ErrIs (w1.alloc (.cells #[.string s] 9)).drew (.iface ty x) ws' b := he1.keep ((Below.refl _ w1).alloc (Nat.le_refl _) _).drew
      have ho2 : OwnS (w1.alloc (.cells #[.string s] 9)).drew w.heap.size (.slice A pre.length cap) pre := OwnS.keep (HO.out.keep Hb.out) ((Below.refl _ w1).alloc (Nat.le_refl _) _).drew
      have he3 : ErrIs w2 (.iface ty x) ws' b := he2.mono fun k' c' hc => hg.block k' (Array.getElem?_eq_some_iff.1 hc).1 (fun e => (ho2.far hc (by decide)) e.symm)
      have hb3 : Below w.heap.size w w2 := (((HB.out.trans (Hb.out.mono HB.out.size)).alloc hsz _).drew).grown hg (by simp; omega) (fun r hr => (ho2.lt r hr).1)
      refine ⟨⟨pre ++ [s], ws', some ⟨g, 0, none⟩, cap', by rw [HW.out]; simp, he3, by simp, ?_, hb3⟩, ?_⟩
      · have : strs pre ++ [.string s] = strs (pre ++ [s]) := by simp [strs]
        rw [this] at hown'
        unfold OwnS
        rw [List.length_append]
        exact hown'
      · rw [hgt_is he3, HH.out]; simp
end Go.Proofs.YtdkdgijcoialbaaGreatDoor

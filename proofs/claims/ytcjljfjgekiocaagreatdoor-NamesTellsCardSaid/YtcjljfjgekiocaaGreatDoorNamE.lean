/- Contract: slices.SortFunc at entries, by names. -/
import Derived.Shelf.SlSortCmp.WholeK
import Derived.Test.YtcjljfjgekiocaaGreatDoorNamD
namespace Go.Proofs.YtcjljfjgekiocaaGreatDoor
open Go.RowKit Go.Shelf Go.Lib Go.Sort

set_option linter.unusedVariables false
set_option linter.unusedSimpArgs false

/-- but for some blocks all that there was is as it was -/
structure Nb (P : Nat → Prop) (w w' : World) : Prop where
  os : w'.os = w.os
  tape : w'.tape = w.tape
  output : w'.output = w.output
  size : w.heap.size ≤ w'.heap.size
  block : ∀ k, k < w.heap.size → ¬ P k → w'.heap[k]? = w.heap[k]?
theorem Nb.trans {P P' Q : Nat → Prop} {a b c : World} (h : Nb P a b) (k : Nb P' b c) (h1 : ∀ x, P x → Q x) (h2 : ∀ x, x < a.heap.size → P' x → Q x) : Nb Q a c :=
  ⟨k.os.trans h.os, k.tape.trans h.tape, k.output.trans h.output, Nat.le_trans h.size k.size, fun x hx hq => (k.block x (Nat.lt_of_lt_of_le hx h.size) fun hp => hq (h2 x hx hp)).trans (h.block x hx fun hp => hq (h1 x hp))⟩
theorem Nb.of {P : Nat → Prop} {w w' : World} (h : Below w.heap.size w w') : Nb P w w' := ⟨h.os, h.tape, h.output, h.size, fun k hk _ => h.block k hk⟩
theorem Nb.below {P : Nat → Prop} {w w' : World} {B : Nat} (h : Nb P w w') (hB : B ≤ w.heap.size) (hP : ∀ k, P k → B ≤ k) : Below B w w' :=
  ⟨h.os, h.tape, h.output, h.size, fun k hk => h.block k (Nat.lt_of_lt_of_le hk hB) fun hp => by have := hP k hp; omega⟩

def encE (x : Ent) : List Value := [.string (str x.1), .int .i64 ((x.2 : Nat) : Int)]
def bn (x : Ent) : List Nat := (str x.1).data.toList.map UInt8.toNat
theorem bn_codes (x : Ent) : Codes (bn x) := fun c hc => by
  obtain ⟨u, _, rfl⟩ := List.mem_map.1 hc
  exact u.toNat_lt
theorem bn_back (x : Ent) : (bn x).map UInt8.ofNat = (str x.1).data.toList := by
  unfold bn
  rw [List.map_map]
  conv => rhs; rw [← List.map_id (str x.1).data.toList]
  apply List.map_congr_left
  intro u _
  simp
theorem bn_eq {x : Ent} (h : Codes x.1) : bn x = x.1 := by
  have e : (str x.1).data.toList = x.1.map UInt8.ofNat := rfl
  unfold bn
  rw [e, List.map_map]
  conv => rhs; rw [← List.map_id x.1]
  apply List.map_congr_left
  intro c hc
  have := h c hc
  simp only [Function.comp, UInt8.toNat_ofNat', id]
  omega
def cfE (x y : Ent) : Int := cmn (bn x) (bn y)
theorem cfE_is (x y : Ent) : Lib.compareBytes (str x.1).data.toList (str y.1).data.toList = cfE x y := by
  rw [← bn_back x, ← bn_back y]
  exact cmp_cmn (bn_codes x) (bn_codes y)
theorem ltE (x y : Ent) : ltOf cfE x y = ltn (bn x) (bn y) := by
  unfold ltOf cfE cmn
  cases h : ltn (bn x) (bn y) with
  | true => simp
  | false =>
    rw [if_neg (by decide)]
    split <;> simp
theorem swoE : Go.Sort.SWO (ltOf cfE) where
  irrefl x := by rw [ltE]; exact ltn_irr _
  trans x y z h1 h2 := by rw [ltE] at *; exact ltn_trans h1 h2
  ntrans x y z h1 h2 := by
    rw [ltE] at *
    cases h3 : ltn (bn x) (bn z) with
    | false => rfl
    | true =>
      exfalso
      cases h4 : ltn (bn y) (bn x) with
      | true => have := ltn_trans h4 h3; rw [h2] at this; cases this
      | false =>
        have e := ltn_tri h1 h4
        rw [e, h2] at h3; cases h3

theorem cmpE_any (x y : Ent) (W : World) : Calls Tryz.prog 60 #[.agg (encE x).toArray, .agg (encE y).toArray] W fun e w' => e = .returned (.int .i64 (cfE x y)) ∧ ∃ q os', w' = grow (W.drewN q) os' := by
  have hcon := fun W' => Go.Proofs.Tryz.strings_Compare (str x.1) (str y.1) W'
  have hv := cfE_is x y
  rw [hv] at hcon
  show Calls Tryz.prog 60 #[.agg #[.string (str x.1), .int .i64 ((x.2 : Nat) : Int)], .agg #[.string (str y.1), .int .i64 ((y.2 : Nat) : Int)]] W _
  generalize cfE x y = r at *
  clear hv
  go_enter Tryz.func60, Tryz.ntmps60
  go_wp2_with (go_at_call 61; refine (hcon _).mono ?_; rintro e w' ⟨rfl, rfl⟩)
  go_ret
  exact ⟨rfl, 0, _, by rw [alloc_eq_grow, alloc_eq_grow, grow_grow]; rfl⟩
theorem cmpLaysE (blk off size : Nat) (w : World) : CmpLays Tryz.prog 60 #[] encE 2 cfE blk off size w := fun _ _ _ _ x y => cmpE_any x y _

/-! ### the world behind the sort -/
theorem sw_heap (w : World) (g n : Nat) (d : Array Ent) (os : Array Obj) (k : Nat) (hk : k < w.heap.size) (hg : k ≠ g) : (sortWorldK encE 2 w g 0 n d os).heap[k]? = w.heap[k]? := by
  show (w.heap.modify g (onCells (putCells id 0 (flatK encE 2 d))) ++ os)[k]? = _
  rw [Array.getElem?_append_left (by simpa using hk), Array.getElem?_modify, if_neg (fun e => hg e.symm)]
theorem sw_row (w : World) (g n : Nat) (d : Array Ent) (os : Array Obj) {cur : Array Value} {e : TypeId} {fr : Nat × Nat} (h : w.heap[g]? = some (.cells cur e fr)) : (sortWorldK encE 2 w g 0 n d os).heap[g]? = some (.cells (putCells id 0 (flatK encE 2 d) cur) e fr) := by
  have hk := (Array.getElem?_eq_some_iff.1 h).1
  show (w.heap.modify g (onCells (putCells id 0 (flatK encE 2 d))) ++ os)[g]? = _
  rw [Array.getElem?_append_left (by simpa using hk), Array.getElem?_modify, if_pos rfl, h]
  rfl
theorem sw_size (w : World) (g n : Nat) (d : Array Ent) (os : Array Obj) : w.heap.size ≤ (sortWorldK encE 2 w g 0 n d os).heap.size := by
  show w.heap.size ≤ (w.heap.modify g (onCells (putCells id 0 (flatK encE 2 d))) ++ os).size
  simp
theorem ecs_bang (l : List Ent) (j : Nat) (hj : j < l.length * 2) : (ecs l)[j]? = some ((encE (l.toArray[j / 2]!))[j % 2]!) := by
  have hl : j / 2 < l.length := by omega
  have e1 : l.toArray[j / 2]! = l[j / 2] := by simp [getElem!_def, List.getElem?_eq_getElem hl]
  obtain ⟨q1, q2⟩ := ecs_at (List.getElem?_eq_getElem (l := l) (i := j / 2) hl)
  rw [e1]
  by_cases h0 : j % 2 = 0
  · rw [h0]
    rw [show j / 2 * 2 = j by omega] at q1
    rw [q1]; rfl
  · have h1 : j % 2 = 1 := by omega
    rw [h1]
    rw [show j / 2 * 2 + 1 = j by omega] at q2
    rw [q2]; rfl
theorem sw_own {w : World} {B g n cap : Nat} {l : List Ent} {d : Array Ent} {os : Array Obj} (h : OwnE w B (.slice (some ⟨g, 0, none⟩) l.length cap) l) (hd : d.size = l.length) : OwnE (sortWorldK encE 2 w g 0 n d os) B (.slice (some ⟨g, 0, none⟩) l.length cap) d.toList := by
  have hdl : d.toList.length = l.length := by simpa using hd
  rcases h.2 with ⟨h0, _⟩ | ⟨g', cap', cur, e, hg, hh, h1, h2, h3, h4⟩
  · cases h0
  · injection e with e1 e2 e3
    injection e1 with e1
    injection e1 with e1
    subst e1 e3
    unfold OwnE
    rw [hdl]
    refine ⟨by rw [ecs_len, hdl], .inr ⟨g, cap, _, rfl, hg, sw_row w g n d os hh, h1, h2, ?_, ?_⟩⟩
    · unfold putCells
      rw [Array.size_mapIdx]; exact h3
    · apply List.ext_getElem?
      intro j
      by_cases hj : j < l.length * 2
      · rw [List.getElem?_take_of_lt hj, ecs_bang d.toList j (by rw [hdl]; exact hj)]
        have hjc : j < cur.size := by rw [h3]; omega
        unfold putCells
        rw [Array.getElem?_toList, Array.getElem?_mapIdx, Array.getElem?_eq_getElem hjc]
        simp only [Option.map_some]
        rw [if_pos ⟨Nat.zero_le _, by rw [size_flatK]; omega⟩, Nat.sub_zero, get_flatK _ _ _ _ (by omega)]
        simp
      · rw [List.getElem?_eq_none (by rw [List.length_take]; omega), List.getElem?_eq_none (by rw [ecs_len, hdl]; omega)]
/-- none of later ones is less -/
def SrW (l : List Ent) : Prop := l.Pairwise fun a b => ltn b.1 a.1 = false
theorem sortE_any (g cap : Nat) (l : List Ent) (w : World) (B : Nat) (h : OwnE w B (.slice (some ⟨g, 0, none⟩) l.length cap) l) (hok : ∀ e ∈ l, Codes e.1) (hl : l.length ≤ 1048576) :
    Calls Tryz.prog 59 #[.slice (some ⟨g, 0, none⟩) l.length cap, .func (.func 60) #[] #[]] w fun e w' =>
      e = .returned (.tuple #[]) ∧ ∃ l', l'.Perm l ∧ SrW l' ∧ OwnE w' B (.slice (some ⟨g, 0, none⟩) l.length cap) l' ∧ Nb (fun k => k = g) w w' := by
  have eg : ∀ args w, (callFunc 60 args).run Tryz.prog w = .ok (.enter 60 args) w := enters_of Tryz.func60 (by kernel_rfl) rfl
  obtain ⟨_, c0, hc0⟩ := nown_kind h g (by simp [nblk, Value.ownBlock])
  have hH : HoldsK encE 2 w g 0 l.toArray := by
    intro j hj
    rw [size_flatK] at hj
    have hj' : j < l.length * 2 := by simpa using hj
    refine ⟨?_, by rw [Nat.zero_add]; exact h.frozenAt j⟩
    rw [Nat.zero_add, h.cellAt j hj', ecs_bang l j hj', get_flatK _ _ _ _ hj]
    rfl
  have hcon := AnyQ.slices_SortFunc Go.Proofs.Tryz.sortEnt 2 Tryz.isAgg68 Tryz.sizeOf68 encE (fun _ => rfl) (fun x v hv => by simp [encE] at hv; rcases hv with rfl | rfl <;> rfl) cfE swoE 60 #[] g 0 cap l.toArray w eg (cmpLaysE g 0 l.toArray.size w) hH (kind_lt2 hc0) (by simp; omega)
  refine (show Calls Tryz.prog 59 #[.slice (some ⟨g, 0, none⟩) l.length cap, .func (.func 60) #[] #[]] w _ from hcon).mono ?_
  rintro e w' ⟨rfl, d', n, os, hp, hs, rfl⟩
  have hdl : d'.size = l.length := by simpa using hp.1
  have hperm : d'.toList.Perm l := by
    have := hp.2.2
    rw [show d'.extract 0 l.toArray.size = d' by rw [← hp.1]; simp] at this
    simpa using this
  have ho := sw_own (n := n) (os := os) h hdl
  refine ⟨rfl, d'.toList, hperm, ?_, ?_, ?_⟩
  · refine List.pairwise_iff_getElem.2 fun i j hi hj hij => ?_
    have hs' := hs i j (Nat.zero_le _) hij (by simpa [hdl] using hj)
    rw [ltE] at hs'
    have hi' : i < d'.size := by simpa using hi
    have hj' : j < d'.size := by simpa using hj
    rw [getElem!_pos d' i hi', getElem!_pos d' j hj'] at hs'
    rw [bn_eq (hok _ (hperm.mem_iff.1 (by simp))), bn_eq (hok _ (hperm.mem_iff.1 (by simp)))] at hs'
    simpa using hs'
  · have hdl2 : d'.toList.length = l.length := by simpa using hdl
    exact hdl2 ▸ ho
  · exact ⟨rfl, rfl, rfl, sw_size _ _ _ _ _, fun k hk hg => sw_heap w g n d' os k hk hg⟩
end Go.Proofs.YtcjljfjgekiocaaGreatDoor

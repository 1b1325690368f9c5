/- Contracts: bound, copied. -/
import Derived.Test.YtcjljfjgekiocaaGreatDoorNamF
import Derived.Deep.RegionHeld3
namespace Go.Proofs.YtcjljfjgekiocaaGreatDoor
open Go.RowKit Go.Shelf

set_option linter.unusedVariables false
set_option linter.unusedSimpArgs false

def bnd (ns : List (List Nat)) (n : Nat) : List Ent := ns.zipIdx.map fun x => (x.1, n + x.2)
theorem bnd_len (ns : List (List Nat)) (n : Nat) : (bnd ns n).length = ns.length := by simp [bnd]
theorem bnd_at {ns : List (List Nat)} {n j : Nat} {x : List Nat} (h : ns[j]? = some x) : (bnd ns n)[j]? = some (x, n + j) := by
  simp [bnd, h]
theorem bnd_mem {ns : List (List Nat)} {n : Nat} {e : Ent} (h : e ∈ bnd ns n) : e.1 ∈ ns ∧ n ≤ e.2 ∧ e.2 < n + ns.length := by
  obtain ⟨j, hj⟩ := List.mem_iff_getElem?.1 h
  have hl : j < ns.length := by
    have := (List.getElem?_eq_some_iff.1 hj).1
    rwa [bnd_len] at this
  rw [bnd_at (List.getElem?_eq_getElem hl)] at hj
  injection hj with hj
  subst hj
  exact ⟨List.getElem_mem hl, Nat.le_add_right _ _, by show n + j < _; omega⟩
theorem bnd_srV (ns : List (List Nat)) (n : Nat) : SrV (bnd ns n) := by
  refine List.pairwise_iff_getElem.2 fun i j hi hj hij => ?_
  rw [bnd_len] at hi hj
  have e1 := bnd_at (n := n) (List.getElem?_eq_getElem hi)
  have e2 := bnd_at (n := n) (List.getElem?_eq_getElem hj)
  rw [(List.getElem?_eq_some_iff.1 e1).2, (List.getElem?_eq_some_iff.1 e2).2]
  show n + i < n + j
  omega
theorem infoBlk : (Tryz.prog.info? 62).map (·.size) = some 2 := by kernel_rfl
theorem ecs_take (l : List Ent) (j : Nat) : (ecs l).take (j * 2) = ecs (l.take j) := by
  induction l generalizing j with
  | nil => simp [ecs]
  | cons e l ih =>
    cases j with
    | zero => simp [ecs]
    | succ j =>
      rw [ecs_cons, show (j + 1) * 2 = j * 2 + 1 + 1 by omega, List.take_succ_cons, List.take_succ_cons, ih, List.take_succ_cons, ecs_cons]
theorem take_set2 {xs : List Value} {l : List Ent} {j : Nat} {e : Ent} (hx : xs.length = l.length * 2) (h : xs.take (j * 2) = ecs (l.take j)) (he : l[j]? = some e) :
    ((xs.set (j * 2) (.string (str e.1))).set (j * 2 + 1) (.int .i64 ((e.2 : Nat) : Int))).take ((j + 1) * 2) = ecs (l.take (j + 1)) := by
  have hj := (List.getElem?_eq_some_iff.1 he).1
  rw [List.take_add_one, he]
  rw [ecs_append, ← h]
  apply List.ext_getElem?
  intro i
  rw [List.getElem?_append]
  by_cases h1 : i < j * 2
  · rw [List.getElem?_take_of_lt (by omega), if_pos (by rw [List.length_take]; omega), List.getElem?_take_of_lt h1, List.getElem?_set_ne (by omega), List.getElem?_set_ne (by omega)]
  · rw [if_neg (by rw [List.length_take]; omega), List.length_take, show min (j * 2) xs.length = j * 2 by omega]
    by_cases h2 : i = j * 2
    · subst h2
      rw [List.getElem?_take_of_lt (by omega), List.getElem?_set_ne (by omega), List.getElem?_set_self (by omega), Nat.sub_self]
      rfl
    · by_cases h3 : i = j * 2 + 1
      · subst h3
        rw [List.getElem?_take_of_lt (by omega), List.getElem?_set_self (by rw [List.length_set]; omega), show j * 2 + 1 - j * 2 = 1 by omega]
        rfl
      · rw [List.getElem?_eq_none (by rw [List.length_take]; omega), List.getElem?_eq_none]
        show 2 ≤ i - j * 2
        omega
theorem nown_mono {w : World} {B B' : Nat} {e : TypeId} {size : Nat} {v : Value} {n : Nat} {xs : List Value} (h : w.ownsRow B e size v n xs) (hb : B' ≤ B) : w.ownsRow B' e size v n xs := by
  refine ⟨h.1, ?_⟩
  rcases h.2 with h2 | ⟨g, cap, cur, e, hg, hh, r⟩
  · exact .inl h2
  · exact .inr ⟨g, cap, cur, e, Nat.le_trans hb hg, hh, r⟩
theorem own_some {w : World} {B : Nat} {v : Value} {l : List Ent} (h : OwnE w B v l) (h0 : 0 < l.length) : ∃ g cap, v = .slice (some ⟨g, 0, none⟩) l.length cap ∧ B ≤ g ∧ g < w.heap.size := by
  obtain ⟨A, c, rfl⟩ := nslice_form h
  obtain ⟨g, rfl, h1, h2, -⟩ := nrow_cells h h0
  exact ⟨g, c, rfl, h1, h2⟩
def BoundP (w : World) (l : List Ent) (e : Ending) (w' : World) : Prop :=
  (∃ v8 v5 l', e = .returned (.agg #[v8, v5]) ∧ l'.Perm l ∧ SrW l' ∧ OwnE w' w.heap.size v8 l' ∧ OwnE w' w.heap.size v5 l ∧ (nblk v8 ++ nblk v5).Nodup) ∧ Below w.heap.size w w'
set_option maxRecDepth 100000 in
set_option maxHeartbeats 8000000 in
theorem bound_any (ns : List (List Nat)) (n : Nat) (A : Option Addr) (cap : Nat) (w : World) (hr : RdS w A ns) (hok : ∀ x ∈ ns, Codes x ∧ x.length ≤ 64) (hl : ns.length ≤ 1048576) (h0 : 0 < ns.length) (hn : n ≤ 1048576) :
    Calls Tryz.prog 40 #[.slice A ns.length cap, .int .i64 (n : Int)] w (BoundP w (bnd ns n)) := by
  obtain ⟨i0, hi, hz0, hz1, hz2⟩ := info_parts infoEnt
  obtain ⟨W, hW⟩ : ∃ W, w.alloc (.cells #[.slice none 0 0, .slice none 0 0] 62) = W := ⟨_, rfl⟩
  have hbW : Below w.heap.size w W := hW ▸ (Below.refl _ w).alloc (Nat.le_refl _) _
  have hxW : W.heap[w.heap.size]? = some (.cells #[.slice none 0 0, .slice none 0 0] 62 (0, 0)) := hW ▸ lone_new w _ _
  have HX := Lib.hid hxW
  have HBW := Lib.hid hbW
  have HOK := Lib.hid hok
  have HBL := Lib.hid (bnd_len ns n)
  have hsW : w.heap.size < W.heap.size := kind_lt2 hxW
  clear hxW hok hbW
  go_enter Tryz.func40, Tryz.ntmps40
  go_wp2_with (at_make; refine wpList_make_full _ rfl _ _ 60 rfl W.heap.size 68 i0 _ 2 Tryz.underlying60 hi hz0 hz1 .i64 .i64 _ _ ns.length rfl rfl rfl rfl (by rw [hz2]; omega) (by unfold maxLen; omega) (Nat.le_refl _) ?_; intro w1 hown0 hgrow0)
  have HB1 : Hid (Below W.heap.size W w1) := (Below.refl _ W).grown hgrow0 (Nat.le_refl _) (fun k hk => by cases hk)
  have hx1 := (HB1.out.block w.heap.size hsW).trans HX.out
  have HO0 := Lib.hid hown0
  have HW1 := Lib.hid (HBW.out.trans (HB1.out.mono HBW.out.size))
  clear hown0 hgrow0
  go_wp2_with fail
  go_loopw [14] (fun s wr => ∃ (j : Nat) (xs : List Value), s = .int .i64 (j : Int) ∧ j ≤ ns.length ∧ wr.ownsRow W.heap.size 68 2 (.slice (some ⟨W.heap.size, 0, none⟩) ns.length ns.length) ns.length xs ∧ xs.take (j * 2) = ecs ((bnd ns n).take j) ∧ Below W.heap.size W wr) (fun s _ => ns.length - (intOf s).toNat)
  case atStart => exact ⟨0, _, rfl, Nat.zero_le _, HO0.out, by simp [ecs], HB1.out⟩
  case round =>
    obtain ⟨j, xs, rfl, hj, hown, htk, hB⟩ := hrel
    have HB := Lib.hid hB
    have HOW := Lib.hid hown
    have HTK := Lib.hid htk
    have HXL : Hid (xs.length = ns.length * 2) := hown.1
    have hsr : W.heap.size ≤ wr.heap.size := hB.size
    clear hB hown htk hx1
    by_cases hlt : j < ns.length
    · obtain ⟨x, hx⟩ : ∃ x, ns[j]? = some x := ⟨_, List.getElem?_eq_getElem hlt⟩
      obtain ⟨b, o, rfl, hq, hcell⟩ := hr.at hx
      have hqW : b < W.heap.size := Nat.lt_trans hq hsW
      have hc1 := (HB.out.cell (p := ⟨b, o + j, none⟩) hqW).trans ((HBW.out.cell (p := ⟨b, o + j, none⟩) hq).trans (hcell j x hx))
      obtain ⟨hxc, hxl⟩ := HOK.out x (List.mem_of_getElem? hx)
      have HE := Lib.hid (bnd_at (n := n) hx)
      have C := Lib.hid (fun w2 => given_any x ((n : Int) + (j : Int)) w2 (by omega))
      have hltI : (j : Int) < (ns.length : Int) := by omega
      have hnj : (n : Int) + (j : Int) = ((n + j : Nat) : Int) := by omega
      have hnj2 : n + j ≤ 2097152 := by omega
      obtain ⟨m, hm⟩ : ∃ m, m = n + j := ⟨_, rfl⟩
      rw [← hm] at hnj hnj2 HE
      rw [hnj] at C
      clear hcell hx hxc hxl hq hqW hm hr
      go_wp2_with fail
      refine (C.out _).mono ?_
      rintro e w2 ⟨rfl, hb2⟩
      have HB2 := Lib.hid (HB.out.trans (hb2.mono HB.out.size))
      have ho2 := nown_below HOW.out hb2
      have HO2 := Lib.hid ho2
      have hcA : w2.cell? ⟨W.heap.size, j * 2, none⟩ = some (xs[j * 2]'(by rw [HXL.out]; omega)) := by rw [ho2.cellAt (j * 2) (by omega)]; exact List.getElem?_eq_getElem _
      have hcB : w2.cell? ⟨W.heap.size, j * 2 + 1, none⟩ = some (xs[j * 2 + 1]'(by rw [HXL.out]; omega)) := by rw [ho2.cellAt (j * 2 + 1) (by omega)]; exact List.getElem?_eq_getElem _
      have hfA := ho2.frozenAt (j * 2)
      have hfB := ho2.frozenAt (j * 2 + 1)
      clear hb2 C ho2
      generalize xs[j * 2]'(by rw [HXL.out]; omega) = uA at *
      generalize xs[j * 2 + 1]'(by rw [HXL.out]; omega) = uB at *
      go_wp2_with fail
      refine ⟨⟨j + 1, _, by go_num, by omega, ((HO2.out.stored (j * 2) (.string (str x))).1.stored (j * 2 + 1) (.int .i64 (m : Int))).1, ?_, (HB2.out.setCell (p := ⟨W.heap.size, j * 2, none⟩) (Nat.le_refl _) _).setCell (p := ⟨W.heap.size, j * 2 + 1, none⟩) (Nat.le_refl _) _⟩, by simp [intOf]; omega⟩
      exact take_set2 (by rw [HXL.out, bnd_len]) HTK.out HE.out
    · have hje : j = ns.length := by omega
      have hltI : ¬ (j : Int) < (ns.length : Int) := by omega
      have HXS : Hid (xs = ecs (bnd ns n)) := by
        have := HTK.out
        rw [hje, List.take_of_length_le (by rw [HXL.out]; omega), List.take_of_length_le (by rw [bnd_len]; omega)] at this
        exact this
      clear hj hlt hje
      have ho := HOW.out
      rw [HXS.out] at ho
      have hoL : OwnE wr W.heap.size (.slice (some ⟨W.heap.size, 0, none⟩) (bnd ns n).length ns.length) (bnd ns n) := by
        unfold OwnE
        rw [bnd_len]; exact ho
      have HOL := Lib.hid hoL
      have hsr1 : W.heap.size < wr.heap.size := by
        obtain ⟨_, c, hc⟩ := nown_kind hoL W.heap.size (by simp [nblk, Value.ownBlock])
        exact kind_lt2 hc
      have CC := eclone_any (some ⟨W.heap.size, 0, none⟩) ns.length (bnd ns n) wr hoL.rd (by rw [bnd_len]; exact hl)
      rw [bnd_len] at CC
      have hxr := (HB.out.block w.heap.size hsW).trans HX.out
      have HXR := Lib.hid hxr
      clear ho hoL hxr hr
      go_wp2_with fail
      refine CC.mono ?_
      rintro e w2 ⟨⟨v8, rfl, hO8⟩, hb2⟩
      clear CC
      obtain ⟨g8, c8, rfl, hg8, hg8l⟩ := own_some hO8 (by rw [bnd_len]; exact h0)
      have CS := sortE_any g8 c8 (bnd ns n) w2 wr.heap.size hO8 (fun e he => (HOK.out _ (bnd_mem he).1).1) (by rw [bnd_len]; exact hl)
      rw [bnd_len] at CS ⊢
      have HB2 := Lib.hid (HB.out.trans (hb2.mono hsr))
      have HO5 := Lib.hid (nown_below HOL.out hb2)
      have HXR2 := Lib.hid ((hb2.block w.heap.size (by have := hsr; omega)).trans HXR.out)
      clear hb2 hO8
      go_wp2_with fail
      refine CS.mono ?_
      rintro e w3 ⟨rfl, l', hperm, hsr8, hO8', hnb⟩
      clear CS
      have hx3 := (hnb.block w.heap.size (by have := HB2.out.size; omega) (by omega)).trans HXR2.out
      have z0 : w3.cell? ⟨w.heap.size, 0, none⟩ = some (.slice none 0 0) := by rw [cell_of hx3]; rfl
      have z1 : w3.cell? ⟨w.heap.size, 1, none⟩ = some (.slice none 0 0) := by rw [cell_of hx3]; rfl
      have f0 := frozen_of hx3
      have HO53 : Hid (OwnE w3 W.heap.size (.slice (some ⟨W.heap.size, 0, none⟩) (bnd ns n).length ns.length) (bnd ns n)) := by
        refine nown_block HO5.out fun b hb => ?_
        simp [nblk, Value.ownBlock] at hb
        subst hb
        exact hnb.block _ (by have := HB2.out.size; omega) (fun h => by have : W.heap.size = g8 := h; omega)
      have HB3 : Hid (Below W.heap.size W w3) := HB2.out.trans (hnb.below HB2.out.size (fun k hk => by have : k = g8 := hk; omega))
      have HO83 : Hid (OwnE w3 w.heap.size (.slice (some ⟨g8, 0, none⟩) ns.length c8) l') := by
        exact nown_mono hO8' (by omega)
      have HN := Lib.hid hnb
      have HP := Lib.hid hperm
      have HS8 := Lib.hid hsr8
      have HX3 := Lib.hid hx3
      clear hperm hsr8 hO8' hnb hx3
      go_wp2_with fail
      have hx4 := Joins.block_setCell (i := 1) (Joins.block_setCell (i := 0) HX3.out (.slice (some ⟨g8, 0, none⟩) ns.length c8)) (.slice (some ⟨W.heap.size, 0, none⟩) ns.length ns.length)
      refine bodyPost_ret (results_cell_row rfl _ _ w.heap.size _ _ _ _ rfl hx4 Tryz.underlying62 rfl infoBlk) rfl ⟨⟨.slice (some ⟨g8, 0, none⟩) ns.length c8, .slice (some ⟨W.heap.size, 0, none⟩) ns.length ns.length, l', rfl, HP.out, HS8.out, ?_, ?_, ?_⟩, ?_⟩
      · refine nown_block HO83.out fun b hb => ?_
        simp [nblk, Value.ownBlock] at hb
        subst hb
        rw [Below.heap_setCell _ _ _ _ (show b ≠ w.heap.size by omega), Below.heap_setCell _ _ _ _ (show b ≠ w.heap.size by omega)]
      · refine nown_block (nown_mono (by have := HO53.out; rw [OwnE, bnd_len] at this; rw [bnd_len]; exact this) (Nat.le_of_lt hsW)) fun b hb => ?_
        simp [nblk, Value.ownBlock] at hb
        subst hb
        rw [Below.heap_setCell _ _ _ _ (show W.heap.size ≠ w.heap.size by omega), Below.heap_setCell _ _ _ _ (show W.heap.size ≠ w.heap.size by omega)]
      · simp [nblk, Value.ownBlock]
        omega
      · exact ((HBW.out.trans (HB3.out.mono HBW.out.size)).setCell (p := ⟨w.heap.size, 0, none⟩) (Nat.le_refl _) _).setCell (p := ⟨w.heap.size, 1, none⟩) (Nat.le_refl _) _
end Go.Proofs.YtcjljfjgekiocaaGreatDoor

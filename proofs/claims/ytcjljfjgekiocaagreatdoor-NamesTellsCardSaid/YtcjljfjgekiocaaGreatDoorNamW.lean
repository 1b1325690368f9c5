/- Contract: copied. -/
import Derived.Test.YtcjljfjgekiocaaGreatDoorNamV
import Derived.Deep.RegionHeld3
namespace Go.Proofs.YtcjljfjgekiocaaGreatDoor
open Go.RowKit Go.Shelf

set_option linter.unusedVariables false
set_option linter.unusedSimpArgs false

def CopP (w : World) (l lv : List Ent) (e : Ending) (w' : World) : Prop := (∃ v u, e = .returned (.agg #[v, u]) ∧ OwnE w' w.heap.size v l ∧ OwnE w' w.heap.size u lv ∧ (nblk v ++ nblk u).Nodup) ∧ Below w.heap.size w w'
set_option maxRecDepth 100000 in
set_option maxHeartbeats 4000000 in
theorem copied_any (A A' : Option Addr) (c c' : Nat) (l lv : List Ent) (w : World) (hr : RdE w A l) (hr' : RdE w A' lv) (hl : l.length ≤ 1048576) (hl' : lv.length ≤ 1048576) :
    Calls Tryz.prog 48 #[.agg #[.slice A l.length c, .slice A' lv.length c']] w (CopP w l lv) := by
  have C1 : Hid (∀ W, Below w.heap.size w W → Calls Tryz.prog 58 #[.slice A l.length c] W fun e w' => (∃ v, e = .returned v ∧ OwnE w' W.heap.size v l) ∧ Below W.heap.size W w') := fun W hb => eclone_any A c l W (hr.below hb) hl
  have C2 : Hid (∀ W, Below w.heap.size w W → Calls Tryz.prog 58 #[.slice A' lv.length c'] W fun e w' => (∃ v, e = .returned v ∧ OwnE w' W.heap.size v lv) ∧ Below W.heap.size W w') := fun W hb => eclone_any A' c' lv W (hr'.below hb) hl'
  obtain ⟨n, hn⟩ : ∃ n, n = l.length := ⟨_, rfl⟩
  obtain ⟨n', hn'⟩ : ∃ n', n' = lv.length := ⟨_, rfl⟩
  rw [← hn] at C1 ⊢
  rw [← hn'] at C2 ⊢
  clear hr hr' hl hl' hn hn'
  obtain ⟨W, hW⟩ : ∃ W, w.alloc (.cells #[.slice A n c, .slice A' n' c'] 62) = W := ⟨_, rfl⟩
  obtain ⟨V, hV⟩ : ∃ V, W.alloc (.cells #[.slice none 0 0, .slice none 0 0] 62) = V := ⟨_, rfl⟩
  have hsW : W.heap.size = w.heap.size + 1 := by rw [← hW]; simp
  have hsV : V.heap.size = w.heap.size + 2 := by rw [← hV]; simp [hsW]
  have hx : V.heap[w.heap.size]? = some (.cells #[.slice A n c, .slice A' n' c'] 62 (0, 0)) := by
    rw [← hV]
    exact (((Below.refl _ W).alloc (Nat.le_refl _) _).block _ (by omega)).trans (hW ▸ lone_new w _ _)
  have hy : V.heap[w.heap.size + 1]? = some (.cells #[.slice none 0 0, .slice none 0 0] 62 (0, 0)) := by
    rw [← hV, ← hsW]
    exact lone_new W _ _
  have hB : Below w.heap.size w V := hV ▸ (hW ▸ (Below.refl _ w).alloc (Nat.le_refl _) _).alloc (by omega) _
  have HX := Lib.hid hx
  have HY := Lib.hid hy
  have x0 := cell_of_row V w.heap.size 0 _ _ _ hx
  have x1 := cell_of_row V w.heap.size 1 _ _ _ hx
  simp only [List.getElem?_toArray, List.getElem?_cons_zero, List.getElem?_cons_succ] at x0 x1
  clear hx hy
  go_enter Tryz.func48, Tryz.ntmps48
  go_upto_region 1 with fail
  have s0 := And.intro x0 x1
  have hbV : Below w.heap.size w V.drew := hB.drew
  clear x0 x1 hW hV
  go_region_held3 (fun w' => w'.cell? ⟨w.heap.size, 0, none⟩ = some (.slice A n c) ∧ w'.cell? ⟨w.heap.size, 1, none⟩ = some (.slice A' n' c')) (first | exact s0 | exact s1 | exact s2 | exact s3) (first
    | (go_at_call_of 58 (Value.slice A n c); (with_reducible refine (C1.out _ hbV).mono ?_); rintro e w1 ⟨⟨v1, rfl, ho1⟩, hb1⟩; obtain ⟨A1, c1, rfl⟩ := nslice_form ho1; have hX1 := (hb1.block w.heap.size (show w.heap.size < V.heap.size by omega)).trans HX.out; have s1 := And.intro (cell_of_row w1 w.heap.size 0 _ _ _ hX1) (cell_of_row w1 w.heap.size 1 _ _ _ hX1); have hbW1 := hbV.trans (hb1.mono (show w.heap.size ≤ V.heap.size by omega)))
    | (go_at_call_of 58 (Value.slice A' n' c'); (with_reducible refine (C2.out _ hbW1).mono ?_); rintro e w2 ⟨⟨v2, rfl, ho2⟩, hb2⟩; obtain ⟨A2, c2, rfl⟩ := nslice_form ho2; have hV1 : V.heap.size ≤ w1.heap.size := hb1.size; have hX2 := (hb2.block w.heap.size (show w.heap.size < w1.heap.size by omega)).trans hX1; have hY2 := (hb2.block (w.heap.size + 1) (show w.heap.size + 1 < w1.heap.size by omega)).trans ((hb1.block (w.heap.size + 1) (show w.heap.size + 1 < V.heap.size by omega)).trans HY.out); have s2 := And.intro (cell_of_row w2 w.heap.size 0 _ _ _ hX2) (cell_of_row w2 w.heap.size 1 _ _ _ hX2); have z0 := cell_of_row w2 (w.heap.size + 1) 0 _ _ _ hY2; have z1 := cell_of_row w2 (w.heap.size + 1) 1 _ _ _ hY2; have zf0 : w2.frozen? ⟨w.heap.size + 1, 0, none⟩ = false := frozen_of hY2 0; have zf1 : w2.frozen? ⟨w.heap.size + 1, 1, none⟩ = false := frozen_of hY2 1; have hX3 := (Below.heap_setCell _ ⟨w.heap.size + 1, 1, none⟩ (.slice A2 lv.length c2) w.heap.size (show w.heap.size ≠ w.heap.size + 1 by omega)).trans ((Below.heap_setCell w2 ⟨w.heap.size + 1, 0, none⟩ (.slice A1 l.length c1) w.heap.size (show w.heap.size ≠ w.heap.size + 1 by omega)).trans hX2); have s3 := And.intro (cell_of_row _ w.heap.size 0 _ _ _ hX3) (cell_of_row _ w.heap.size 1 _ _ _ hX3)))
  all_goals
    have hfin : ((w2.setCell ⟨w.heap.size + 1, 0, none⟩ (.slice A1 l.length c1)).setCell ⟨w.heap.size + 1, 1, none⟩ (.slice A2 lv.length c2)).heap[w.heap.size + 1]? = some (.cells #[.slice A1 l.length c1, .slice A2 lv.length c2] 62 (0, 0)) := set_at (o := 1) _ (set_at (o := 0) _ hY2)
    have hs1 : V.heap.size ≤ w1.heap.size := hb1.size
    have HFIN := Lib.hid hfin
    have HCP : Hid (CopP w l lv (.returned (.agg #[.slice A1 l.length c1, .slice A2 lv.length c2])) ((w2.setCell ⟨w.heap.size + 1, 0, none⟩ (.slice A1 l.length c1)).setCell ⟨w.heap.size + 1, 1, none⟩ (.slice A2 lv.length c2))) := by
      have hk1 : ∀ k ∈ nblk (.slice A1 l.length c1), V.heap.size ≤ k ∧ k < w1.heap.size := fun k hk => by
        obtain ⟨q1, c, q2⟩ := nown_kind ho1 k hk
        exact ⟨q1, kind_lt2 q2⟩
      have hk2 : ∀ k ∈ nblk (.slice A2 lv.length c2), w1.heap.size ≤ k := fun k hk => (nown_kind ho2 k hk).1
      have hset : ∀ k, k ≠ w.heap.size + 1 → ((w2.setCell ⟨w.heap.size + 1, 0, none⟩ (.slice A1 l.length c1)).setCell ⟨w.heap.size + 1, 1, none⟩ (.slice A2 lv.length c2)).heap[k]? = w2.heap[k]? := fun k hk => (Below.heap_setCell _ _ _ _ hk).trans (Below.heap_setCell _ _ _ _ hk)
      refine ⟨⟨_, _, rfl, nown_block (nown_mono (nown_below ho1 hb2) (show w.heap.size ≤ V.heap.size by omega)) fun k hk => hset k (by have := hk1 k hk; omega), nown_block (nown_mono ho2 (by omega)) fun k hk => hset k (by have := hk2 k hk; omega), ?_⟩, ?_⟩
      · rw [List.nodup_append]
        exact ⟨nblk_nd _, nblk_nd _, fun a ha b hb e => by have := hk1 a ha; have := hk2 b hb; omega⟩
      · exact ((hbW1.trans (hb2.mono (by omega))).setCell (p := ⟨w.heap.size + 1, 0, none⟩) (Nat.le_succ _) _).setCell (p := ⟨w.heap.size + 1, 1, none⟩) (Nat.le_succ _) _
    clear hX1 hX2 hX3 hY2 s0 s1 s2 s3 z0 z1 zf0 zf1 ho1 ho2 hb1 hb2 hfin C1 C2
    go_wp2
    refine bodyPost_ret (v := .agg #[.slice A1 l.length c1, .slice A2 lv.length c2]) ?_ rfl HCP.out
    exact results_cell_row rfl _ _ (w.heap.size + 1) _ _ _ _ rfl HFIN.out Tryz.underlying62 rfl infoBlk
end Go.Proofs.YtcjljfjgekiocaaGreatDoor

/- Contract: slices.Insert of one entry. -/
import Derived.Shelf.Spec.SlicesInsertGrow
import Derived.Deep.AppendLies
import Derived.Test.YtcjljfjgekiocaaGreatDoorNamH
namespace Go.Proofs.YtcjljfjgekiocaaGreatDoor
open Go.RowKit Go.Shelf Go.Lib

set_option linter.unusedVariables false
set_option linter.unusedSimpArgs false

theorem infoEntS : (Tryz.prog.info? 68).map (·.size) = some 2 := by kernel_rfl
theorem copy2_run (w : World) (ty : TypeId) (g o dLen dCap sLen sCap : Nat) (a : Addr) (cs : List Value) {cur : Array Value} (hg : w.heap[g]? = some (.cells cur 68 (0, 0))) (hn : cs.length = Nat.min sLen dLen * 2)
    (hsrc : ∀ j v, cs[j]? = some v → w.cell? (a.add j) = some v) (hfit : o + cs.length ≤ cur.size) (h1 : ∀ v ∈ cs, v.oneCell' = true) :
    (Builtin.copy_ #[60, 60] ty #[.slice (some ⟨g, o, none⟩) dLen dCap, .slice (some a) sLen sCap]).run Tryz.prog w = .ok (goInt (Nat.min sLen dLen)) (w.setRow g (cur.toList.take o ++ cs ++ cur.toList.drop (o + cs.length)).toArray) := by
  have hl := run_loadCells_list (P := Tryz.prog) w a cs hsrc
  have hst := run_storeCells_at (P := Tryz.prog) g o 68 cs 0 cur w hg (by omega) h1
  rw [Nat.add_zero] at hst
  obtain ⟨i0, hi, hz0, hz1, hz2⟩ := info_parts infoEnt
  rw [hn] at hl
  simp [Builtin.copy_, run_underlying Tryz.underlying60, Builtin.lenOf, Builtin.firstCells, sizeOf, typeInfo, hi, hz1, hl, hst]
def InsP (w : World) (B : Nat) (v : Value) (l : List Ent) (e : Ending) (w' : World) : Prop :=
  ∃ v', e = .returned v' ∧ OwnE w' B v' l ∧ Nb (fun k => k ∈ nblk v) w w' ∧ (∀ k ∈ nblk v', k ∈ nblk v ∨ w.heap.size ≤ k)
theorem ecs_length (l : List Ent) : (ecs l).length = l.length * 2 := ecs_len l
def ecell (x : Ent) : List Value := [.string (str x.1), .int .i64 ((x.2 : Nat) : Int)]
theorem ecs_eone (x : Ent) : ecs [x] = ecell x := by simp [ecs, ecell]
theorem ecs_ins (l : List Ent) (i : Nat) (x : Ent) (hi : i ≤ l.length) : ecs (l.take i ++ x :: l.drop i) = (ecs l).take (i * 2) ++ ecell x ++ (ecs l).drop (i * 2) := by
  rw [show x :: l.drop i = [x] ++ l.drop i from rfl, ecs_append, ecs_append, ecs_eone, ← ecs_take, ← List.append_assoc]
  congr 1
  have e : ecs l = ecs (l.take i) ++ ecs (l.drop i) := by rw [← ecs_append, List.take_append_drop]
  rw [e, List.drop_left' (by rw [ecs_len, List.length_take]; omega)]
theorem end_fin {w w2 : World} {B g' cap' : Nat} {v : Value} {l : List Ent} {x : Ent} (h : OwnE w B v l) (hown : w2.ownsRow B 68 2 (.slice (some ⟨g', 0, none⟩) (l.length + 1) cap') (l.length + 1) (ecs l ++ ecell x)) (hgrow : w.grownBy w2 v.ownBlock) (hat : v.ownBlock = some g' ∨ g' = w.heap.size) :
    InsP w B v (l ++ [x]) (.returned (.slice (some ⟨g', 0, none⟩) (l.length + 1) cap')) w2 := by
  refine ⟨_, rfl, ?_, ⟨hgrow.os, hgrow.tape, hgrow.output, hgrow.size, fun k hk hne => hgrow.block k hk fun e => hne (by rw [nblk, ← e]; simp)⟩, fun k hk => ?_⟩
  · show w2.ownsRow _ _ _ _ _ _
    rw [ecs_append, ecs_eone, List.length_append]
    exact hown
  · have : k = g' := by simpa [nblk, Value.ownBlock] using hk
    subst this
    rcases hat with h | h
    · exact .inl (by simp [nblk, h])
    · exact .inr (Nat.le_of_eq h.symm)
/-! ### at the end -/
set_option maxRecDepth 100000 in
set_option maxHeartbeats 4000000 in
theorem ins_end (v : Value) (l : List Ent) (x : Ent) (g1 c1 : Nat) (w : World) (B : Nat) (hB : B ≤ w.heap.size) (h : OwnE w B v l) (hl : l.length ≤ 4096) (hx : ∀ j u, (ecell x)[j]? = some u → w.cell? ⟨g1, j, none⟩ = some u) :
    Calls Tryz.prog 37 #[v, .int .i64 ((l.length : Nat) : Int), .slice (some ⟨g1, 0, none⟩) 1 c1] w (InsP w B v (l ++ [x])) := by
  obtain ⟨i0, hi, hz0, hz1, hz2⟩ := info_parts infoEnt
  obtain ⟨A, cap, rfl⟩ := nslice_form h
  have hcap : l.length ≤ cap ∧ (A = none → l.length = 0) := by
    rcases h.2 with ⟨e, e0⟩ | ⟨g, cap', cur, e, _, _, h1, _⟩
    · injection e with e1 e2 e3
      exact ⟨by omega, fun _ => e0⟩
    · injection e with e1 e2 e3
      subst e1 e3
      exact ⟨h1, fun h => by cases h⟩
  have hnews : ∀ j u, (ecell x)[j]? = some u → w.cell? ((⟨g1, 0, none⟩ : Addr).add j) = some u := fun j u hj => by
    rw [Addr.add_lit, Nat.zero_add]
    exact hx j u hj
  have hone : ∀ u ∈ ecell x, u.oneCell' = true := fun u hu => by
    simp [ecell] at hu
    rcases hu with rfl | rfl <;> rfl
  have hc1 := hcap.1
  have hnn := Lib.hid hcap.2
  have HH := Lib.hid h
  clear hcap hc1
  by_cases hcc : cap = l.length
  · subst hcc
    go_enter Tryz.func37, Tryz.ntmps37
    go_wp2_with (at_builtin; refine wpList_append_lies _ rfl _ _ 60 rfl B 68 i0 _ 2 24 Tryz.underlying60 hi hz0 hz1 hz2 rfl (by decide) _ _ _ rfl h ⟨g1, 0, none⟩ 1 c1 (ecell x) rfl rfl hnews hone (by decide) (by unfold maxLen; omega) (by omega) hB w.heap.size rfl ?_; intro g' cap' w2 hown' hgrow hat hlt)
    have HN := Lib.hid (end_fin HH.out hown' hgrow hat)
    clear hown' hgrow hat hlt
    go_ret
    exact HN.out
  · go_enter Tryz.func37, Tryz.ntmps37
    go_wp2_with (at_builtin; refine wpList_append_lies _ rfl _ _ 60 rfl B 68 i0 _ 2 24 Tryz.underlying60 hi hz0 hz1 hz2 rfl (by decide) _ _ _ rfl h ⟨g1, 0, none⟩ 1 c1 (ecell x) rfl rfl hnews hone (by decide) (by unfold maxLen; omega) (by omega) hB w.heap.size rfl ?_; intro g' cap' w2 hown' hgrow hat hlt)
    have HN := Lib.hid (end_fin HH.out hown' hgrow hat)
    clear hown' hgrow hat hlt
    go_ret
    exact HN.out
/-! ### in its place -/
theorem own_at {w : World} {B g n cap : Nat} {e : TypeId} {size : Nat} {o : Nat} {xs : List Value} (h : w.ownsRow B e size (.slice (some ⟨g, o, none⟩) n cap) n xs) : o = 0 ∧ B ≤ g ∧ n ≤ cap ∧ cap ≤ maxLen ∧ ∃ cur, w.heap[g]? = some (.cells cur e (0, 0)) ∧ cur.size = cap * size ∧ cur.toList.take (n * size) = xs := by
  rcases h.2 with ⟨h0, _⟩ | ⟨g', cap', cur, e1, hg, hh, h1, h2, h3, h4⟩
  · cases h0
  · injection e1 with e1 e2 e3
    injection e1 with e1
    injection e1 with e1 e4
    subst e1 e3 e4
    exact ⟨rfl, hg, h1, h2, cur, hh, h3, h4⟩
theorem cell_row {w : World} {g : Nat} {cur : Array Value} {e : TypeId} {f : Nat × Nat} (h : w.heap[g]? = some (.cells cur e f)) (o : Nat) {L : List Value} (hL : L <+: cur.toList.drop o) : ∀ j u, L[j]? = some u → w.cell? ((⟨g, o, none⟩ : Addr).add j) = some u := fun j u hu => by
  rw [Addr.add_lit, cell_of_row w g _ cur e f h]
  obtain ⟨r, hr⟩ := hL
  have : (cur.toList.drop o)[j]? = some u := by rw [← hr]; rw [List.getElem?_append_left (List.getElem?_eq_some_iff.1 hu).1]; exact hu
  rw [List.getElem?_drop] at this
  simpa using this
/-- a list with something else at a place -/
def spl (L : List Value) (o : Nat) (cs : List Value) : List Value := L.take o ++ cs ++ L.drop (o + cs.length)
theorem spl_len {L : List Value} {o : Nat} {cs : List Value} (h : o + cs.length ≤ L.length) : (spl L o cs).length = L.length := by
  unfold spl
  simp
  omega
theorem spl_take {L : List Value} {o : Nat} {cs : List Value} (h : o + cs.length ≤ L.length) : (spl L o cs).take (o + cs.length) = L.take o ++ cs := by
  unfold spl
  rw [List.take_left' (by simp; omega)]
theorem spl_drop {L : List Value} {o : Nat} {cs : List Value} (h : o + cs.length ≤ L.length) : (spl L o cs).drop (o + cs.length) = L.drop (o + cs.length) := by
  unfold spl
  rw [List.drop_left' (by simp; omega)]
theorem spl_at {L : List Value} {o : Nat} {cs : List Value} (h : o ≤ L.length) : (spl L o cs).drop o = cs ++ L.drop (o + cs.length) := by
  unfold spl
  rw [List.append_assoc, List.drop_left' (by simp; omega)]
/-- what two copies leave -/
theorem spl_two {L xs : List Value} {n i : Nat} {x y : Value} (hi : i ≤ n) (hL : (n + 1) * 2 ≤ L.length) (hx : L.take (n * 2) = xs) :
    (spl (spl L ((i + 1) * 2) (xs.drop (i * 2))) (i * 2) [x, y]).take ((n + 1) * 2) = xs.take (i * 2) ++ [x, y] ++ xs.drop (i * 2) := by
  have hxl : xs.length = n * 2 := by rw [← hx, List.length_take]; omega
  have hd : (xs.drop (i * 2)).length = n * 2 - i * 2 := by rw [List.length_drop, hxl]
  have hs1 : (spl L ((i + 1) * 2) (xs.drop (i * 2))).length = L.length := spl_len (by rw [hd]; omega)
  have e1 : (spl L ((i + 1) * 2) (xs.drop (i * 2))).take (i * 2) = xs.take (i * 2) := by
    unfold spl
    rw [List.append_assoc, List.take_append_of_le_length (by rw [List.length_take]; omega), List.take_take, ← hx, List.take_take]
    congr 1
    omega
  have e2 : (spl L ((i + 1) * 2) (xs.drop (i * 2))).drop (i * 2 + 2) = xs.drop (i * 2) ++ L.drop ((n + 1) * 2) := by
    rw [show i * 2 + 2 = (i + 1) * 2 by omega, spl_at (by omega), hd, show (i + 1) * 2 + (n * 2 - i * 2) = (n + 1) * 2 by omega]
  unfold spl at e1 e2 ⊢
  rw [e1]
  show (xs.take (i * 2) ++ [x, y] ++ List.drop (i * 2 + 2) _).take ((n + 1) * 2) = _
  rw [e2, ← List.append_assoc]
  exact List.take_left' (by simp; omega)
theorem spl_two' {L xs : List Value} {n i : Nat} {x y : Value} (hi : i ≤ n) (hxl : xs.length = n * 2) (hL : (n + 1) * 2 ≤ L.length) (hx : L.take (i * 2) = xs.take (i * 2)) :
    (spl (spl L (i * 2) [x, y]) ((i + 1) * 2) (xs.drop (i * 2))).take ((n + 1) * 2) = xs.take (i * 2) ++ [x, y] ++ xs.drop (i * 2) := by
  have hd : (xs.drop (i * 2)).length = n * 2 - i * 2 := by rw [List.length_drop, hxl]
  have hs1 : (spl L (i * 2) [x, y]).length = L.length := spl_len (by simp; omega)
  have e1 : (spl L (i * 2) [x, y]).take (i * 2 + 2) = xs.take (i * 2) ++ [x, y] := by
    have := spl_take (L := L) (o := i * 2) (cs := [x, y]) (by simp; omega)
    rw [hx] at this
    exact this
  have e2 := spl_take (L := spl L (i * 2) [x, y]) (o := (i + 1) * 2) (cs := xs.drop (i * 2)) (by rw [hs1, hd]; omega)
  rw [hd, show (i + 1) * 2 + (n * 2 - i * 2) = (n + 1) * 2 by omega] at e2
  rw [e2, show (i + 1) * 2 = i * 2 + 2 by omega, e1]
theorem apart_fin {w w' : World} {B g cap' : Nat} {l : List Ent} {i : Nat} {x : Ent} {cur : Array Value} {v : Value} (hh : w'.heap[g]? = some (.cells cur 68 (0, 0))) (hg : B ≤ g) (hi : i ≤ l.length) (hc : cur.size = cap' * 2) (hcap : l.length + 1 ≤ cap') (hm : cap' ≤ maxLen)
    (ht : cur.toList.take ((l.length + 1) * 2) = (ecs l).take (i * 2) ++ ecell x ++ (ecs l).drop (i * 2)) (hn : Nb (fun k => k ∈ nblk v) w w') (hk : g ∈ nblk v ∨ w.heap.size ≤ g) :
    InsP w B v (l.take i ++ x :: l.drop i) (.returned (.slice (some ⟨g, 0, none⟩) (l.length + 1) cap')) w' := by
  have hlen : (l.take i ++ x :: l.drop i).length = l.length + 1 := by simp; omega
  refine ⟨_, rfl, ⟨by rw [ecs_len], .inr ⟨g, cap', cur, by rw [hlen], hg, hh, by omega, hm, hc, by rw [hlen, ecs_ins l i x hi]; exact ht⟩⟩, hn, fun k hk2 => ?_⟩
  simp [nblk, Value.ownBlock] at hk2
  subst hk2
  exact hk
theorem setRow_cell2 {w : World} {g k o : Nat} {cs : Array Value} (h : k ≠ g) : (w.setRow g cs).cell? ⟨k, o, none⟩ = w.cell? ⟨k, o, none⟩ := World.cell?_of_block (a := ⟨k, o, none⟩) (setRow_other w g k cs h)
set_option maxRecDepth 100000 in
set_option maxHeartbeats 8000000 in
theorem ins_room (g cap i n : Nat) (l : List Ent) (x : Ent) (g1 c1 : Nat) (w : World) (B : Nat) (hn : n = l.length) (h : w.ownsRow B 68 2 (.slice (some ⟨g, 0, none⟩) n cap) n (ecs l)) (hl : n ≤ 4096) (hi : i < n) (hroom : n + 1 ≤ cap) (h1 : w.heap[g1]? = some (.cells (ecell x).toArray 68 (0, 0))) (hne : g1 ≠ g) :
    Calls Tryz.prog 37 #[.slice (some ⟨g, 0, none⟩) n cap, .int .i64 (i : Int), .slice (some ⟨g1, 0, none⟩) 1 c1] w (InsP w B (.slice (some ⟨g, 0, none⟩) n cap) (l.take i ++ x :: l.drop i)) := by
  obtain ⟨-, hgB, -, hm, cur, hh, hcs, htk⟩ := own_at h
  have HFIN : Hid (∀ (w' : World) (cur' : Array Value), w'.heap[g]? = some (.cells cur' 68 (0, 0)) → cur'.size = cap * 2 → cur'.toList.take ((n + 1) * 2) = (ecs l).take (i * 2) ++ ecell x ++ (ecs l).drop (i * 2) → Nb (fun k => k ∈ nblk (.slice (some ⟨g, 0, none⟩) n cap)) w w' →
      InsP w B (.slice (some ⟨g, 0, none⟩) n cap) (l.take i ++ x :: l.drop i) (.returned (.slice (some ⟨g, 0, none⟩) (n + 1) cap)) w') := fun w' cur' h1 h2 h3 h4 => by
    rw [hn] at h3 hroom ⊢
    exact apart_fin h1 hgB (by omega) h2 hroom hm h3 (hn ▸ h4) (.inl (by simp [nblk, Value.ownBlock]))
  obtain ⟨xs, hxs⟩ : ∃ xs, xs = ecs l := ⟨_, rfl⟩
  rw [← hxs] at htk HFIN
  have hxl : xs.length = n * 2 := by rw [hxs, ecs_len, hn]
  have hone : ∀ u ∈ xs, u.oneCell' = true := by rw [hxs]; exact ecs_one l
  have hdl : (xs.drop (i * 2)).length = (n - i) * 2 := by rw [List.length_drop, hxl]; omega
  have hcl : cur.toList.length = cap * 2 := by rw [Array.length_toList, hcs]
  obtain ⟨W1, hW1⟩ : ∃ W1, W1 = w.drew.setRow g (spl cur.toList ((i + 1) * 2) (xs.drop (i * 2))).toArray := ⟨_, rfl⟩
  have hh1 : W1.heap[g]? = some (.cells (spl cur.toList ((i + 1) * 2) (xs.drop (i * 2))).toArray 68 (0, 0)) := by rw [hW1]; exact setRow_heap2 w.drew g _ hh
  have hg1 : W1.heap[g1]? = some (.cells (ecell x).toArray 68 (0, 0)) := by rw [hW1, setRow_other _ _ _ _ hne]; exact h1
  have hs1 : (spl cur.toList ((i + 1) * 2) (xs.drop (i * 2))).length = cap * 2 := by rw [spl_len (by omega), hcl]
  have hcp1 : ∀ ty dc sc, (Builtin.copy_ #[60, 60] ty #[.slice (some ⟨g, (i + 1) * 2, none⟩) (n - i) dc, .slice (some ⟨g, i * 2, none⟩) (n + 1 - i) sc]).run Tryz.prog w.drew = .ok (goInt (n - i : Nat)) W1 := fun ty dc sc => by
    have := copy2_run w.drew ty g ((i + 1) * 2) (n - i) dc (n + 1 - i) sc ⟨g, i * 2, none⟩ (xs.drop (i * 2)) hh (by rw [hdl]; simp only [Nat.min_def]; split <;> omega)
      (cell_row (w := w.drew) hh (i * 2) (by rw [← htk, List.drop_take]; exact List.take_prefix _ _)) (by omega) (fun v hv => hone v (List.mem_of_mem_drop hv))
    rw [this, hW1]
    congr 2
    simp only [Nat.min_def]
    split <;> omega
  have hcp2 : ∀ ty dc, (Builtin.copy_ #[60, 60] ty #[.slice (some ⟨g, i * 2, none⟩) (n + 1 - i) dc, .slice (some ⟨g1, 0, none⟩) 1 c1]).run Tryz.prog W1 = .ok (goInt (Nat.min 1 (n + 1 - i) : Nat)) (W1.setRow g (spl (spl cur.toList ((i + 1) * 2) (xs.drop (i * 2))) (i * 2) (ecell x)).toArray) := fun ty dc => by
    have := copy2_run W1 ty g (i * 2) (n + 1 - i) dc 1 c1 ⟨g1, 0, none⟩ (ecell x) hh1 (by rw [show (ecell x).length = 2 from rfl]; simp only [Nat.min_def]; split <;> omega) (cell_row hg1 0 (List.prefix_refl _)) (by simp [ecell]; rw [hs1]; omega) (fun u hu => by simp [ecell] at hu; rcases hu with rfl | rfl <;> rfl)
    exact this
  have HE : Hid (InsP w B (.slice (some ⟨g, 0, none⟩) n cap) (l.take i ++ x :: l.drop i) (.returned (.slice (some ⟨g, 0, none⟩) (n + 1) cap)) (W1.setRow g (spl (spl cur.toList ((i + 1) * 2) (xs.drop (i * 2))) (i * 2) (ecell x)).toArray)) := by
    have hs2 : (spl (spl cur.toList ((i + 1) * 2) (xs.drop (i * 2))) (i * 2) (ecell x)).length = cap * 2 := by rw [spl_len (by simp [ecell]; omega), hs1]
    refine HFIN.out _ (spl (spl cur.toList ((i + 1) * 2) (xs.drop (i * 2))) (i * 2) (ecell x)).toArray (setRow_heap2 W1 g _ hh1) (by simpa using hs2) (spl_two (by omega) (by omega) htk) ?_
    rw [hW1]
    exact ⟨rfl, rfl, rfl, by rw [setRow_size2, setRow_size2]; exact Nat.le_refl _, fun k hk hn => by
      have : k ≠ g := fun e => hn (by simp [nblk, Value.ownBlock, e])
      rw [setRow_other _ _ _ _ this, setRow_other _ _ _ _ this]
      rfl⟩
  have hov : ∀ lb cb, (callFunc 55 #[.slice (some ⟨g1, 0, none⟩) 1 c1, .slice (some ⟨g, (i + 1) * 2, none⟩) lb cb]).run Tryz.prog w = .ok (.value (.bool false)) w := fun lb cb => by
    rw [run_callFunc_extern Tryz.func55 (by kernel_rfl) (by kernel_rfl) (by kernel_rfl) (e := Extern.SlicesOverlaps.overlaps #[60, 60] #[4]) (by kernel_rfl),
      Lib.run_overlaps_apart w 60 4 68 Tryz.underlying60 2 (fun w => by
        obtain ⟨i0, hi, hz0, hz1, hz2⟩ := info_parts infoEnt
        simp [sizeOf, typeInfo, hi, hz1]) ⟨g1, 0, none⟩ ⟨g, (i + 1) * 2, none⟩ 1 c1 lb cb hne 68 68 2 (cap * 2) (by simp [World.shape?, h1, ecell]) (by simp [World.shape?, hh, hcs]) (by omega) (by simp [World.frozen?, h1]) (by simp [World.frozen?, h1])]
    rfl
  have hz2 : ¬ ((i : Int) = (n : Int)) := by omega
  have hw1 : IntKind.i64.wrap ((i : Int) + 1) = (i : Int) + 1 := by rw [IntKind.wrap_i64]; omega
  have hb1 : (0 : Int) ≤ (i : Int) + 1 := by omega
  have hin : i ≤ n := by omega
  have htn : ((i : Int) + 1).toNat = i + 1 := by omega
  have hb2 : ¬ (cap = i + 1) := by omega
  have hb3 : (i : Int) ≤ (n : Int) + 1 := by omega
  have hb4 : ¬ (cap = i) := by omega
  have hmm : cap ≤ 9223372036854775807 := hm
  have hb5 : ¬ ((cap : Int) < (n : Int) + 1) := by omega
  have hb6 : ((n : Int) + 1).toNat = n + 1 := by omega
  have hb7 : (n : Int) + 1 ≤ (cap : Int) := by omega
  have HNN := Lib.hid hn
  clear hW1 hh1 hg1 hs1 hone hxl htk hh hcs hm h1 hdl hcl h HFIN hn hxs
  go_enter Tryz.func37, Tryz.ntmps37
  go_wp2_with (simp only [hov])
  go_region_law (refine step_copy_runI rfl _ _ 60 60 rfl _ _ (by simp [Act.eval, Act.put]) (by simp [Act.eval, Act.put]) (hcp1 _ _ _) ?_)
  go_wp2_with (at_builtin; refine wpList_copy_runI _ rfl _ _ 60 60 rfl _ _ rfl rfl (hcp2 _ _) ?_)
  go_ret
  exact HE.out
/-! ### in a new row -/
set_option maxRecDepth 100000 in
set_option maxHeartbeats 8000000 in
theorem ins_grow (g cap i n : Nat) (l : List Ent) (x : Ent) (g1 c1 : Nat) (w : World) (B : Nat) (hB : B ≤ w.heap.size) (hn : n = l.length) (h : w.ownsRow B 68 2 (.slice (some ⟨g, 0, none⟩) n cap) n (ecs l)) (hl : n ≤ 4096) (hi : i < n) (hnc : n ≤ cap) (hroom : cap < n + 1) (h1 : w.heap[g1]? = some (.cells (ecell x).toArray 68 (0, 0))) :
    Calls Tryz.prog 37 #[.slice (some ⟨g, 0, none⟩) n cap, .int .i64 (i : Int), .slice (some ⟨g1, 0, none⟩) 1 c1] w (InsP w B (.slice (some ⟨g, 0, none⟩) n cap) (l.take i ++ x :: l.drop i)) := by
  obtain ⟨-, hgB, -, hm, cur, hh, hcs, htk⟩ := own_at h
  obtain ⟨i0, hi0, hz0, hz1, hz2⟩ := info_parts infoEnt
  have HNN := Lib.hid hn
  obtain ⟨xs, hxs⟩ : ∃ xs, xs = ecs l := ⟨_, rfl⟩
  have hxl : xs.length = n * 2 := by rw [hxs, ecs_len, hn]
  rw [← hxs] at htk
  have hone : ∀ u ∈ xs, u.oneCell' = true := by rw [hxs]; exact ecs_one l
  have hglt : g < w.heap.size := kind_lt2 hh
  have hdl : (xs.drop (i * 2)).length = (n - i) * 2 := by rw [List.length_drop, hxl]; omega
  have hkk : (n : Int) + 1 - (i : Int) = ((n + 1 - i : Nat) : Int) := by omega
  have hik : i + (n + 1 - i) = n + 1 := by omega
  have hold : (Builtin.firstCells i0.size i (.slice (some ⟨g, 0, none⟩) i cap)).run Tryz.prog w.drew = .ok (xs.take (i * 2)).toArray w.drew := by
    rw [hz1]
    exact run_firstCells_some w.drew 2 i ⟨g, 0, none⟩ i cap (xs.take (i * 2)) (by rw [List.length_take, hxl]; omega) (cell_row (w := w.drew) hh 0 (by rw [List.drop_zero, ← htk, List.take_take]; exact List.take_prefix _ _))
  obtain ⟨G, hG⟩ : ∃ G, G = grownCap w (n + 1) cap 68 := ⟨_, rfl⟩
  obtain ⟨ROW, hROW⟩ : ∃ ROW : Array Value, ROW = (xs.take (i * 2)).toArray ++ Builtin.zeroCells (Value.agg #[.string ⟨#[]⟩, .int .i64 0]).cells (n + 1 - i) ++ Builtin.zeroCells (Value.agg #[.string ⟨#[]⟩, .int .i64 0]).cells (G - (n + 1)) := ⟨_, rfl⟩
  have hrz : ∀ ty, (Builtin.append_ #[60, 3] ty #[.slice (some ⟨g, 0, none⟩) i cap, .int .i64 ((n : Int) + 1 - (i : Int))]).run Tryz.prog w =
      .ok (.slice (some ⟨w.heap.size, 0, none⟩) (n + 1) G) (w.drew.alloc (.cells ROW 68)) := fun ty => by
    have h := Lib.run_append_grow_zeros w 60 3 ty 68 i0 _ .i64 .i64 Tryz.underlying60 Tryz.underlying3 hi0 hz0 (some ⟨g, 0, none⟩) i cap (xs.take (i * 2)) hold (n + 1 - i) (by omega) (by rw [hz1]; omega) (by omega) (by omega) (by rw [hz2]; omega) (by rw [hz2, hik]; exact growslice_fits hroom (by omega))
    rw [hik] at h
    rw [hkk, hROW, hG]
    exact h
  have hGn : n + 1 ≤ G := by rw [hG]; exact grownCap_ge w _ _ _
  have hGm : G ≤ maxLen := by rw [hG]; exact grownCap_le_maxLen w (n + 1) cap 68 (by unfold maxLen; omega)
  have hRl : ROW.toList.length = G * 2 := by
    rw [hROW]
    simp [Builtin.zeroCells, Value.cells, hxl]
    omega
  have hRt : ROW.toList.take (i * 2) = xs.take (i * 2) := by
    rw [hROW]
    simp only [Array.toList_append, List.append_assoc]
    rw [List.take_left' (by rw [List.length_take, hxl]; omega)]
  obtain ⟨N, hN⟩ : ∃ N, N = w.heap.size := ⟨_, rfl⟩
  rw [← hN] at hrz
  have e0 : (ecell x).length = 2 := rfl
  have hs1 : (spl ROW.toList (i * 2) (ecell x)).length = G * 2 := by rw [spl_len (by omega), hRl]
  have hs2 : (spl (spl ROW.toList (i * 2) (ecell x)) ((i + 1) * 2) (xs.drop (i * 2))).length = G * 2 := by rw [spl_len (by omega), hs1]
  have hcp1 : ∀ (W : World), W.heap[N]? = some (.cells ROW 68 (0, 0)) → W.heap[g1]? = some (.cells (ecell x).toArray 68 (0, 0)) → ∀ ty dc, (Builtin.copy_ #[60, 60] ty #[.slice (some ⟨N, i * 2, none⟩) (n + 1 - i) dc, .slice (some ⟨g1, 0, none⟩) 1 c1]).run Tryz.prog W = .ok (goInt (Nat.min 1 (n + 1 - i) : Nat)) (W.setRow N (spl ROW.toList (i * 2) (ecell x)).toArray) := fun W hW hW2 ty dc =>
    copy2_run W ty N (i * 2) (n + 1 - i) dc 1 c1 ⟨g1, 0, none⟩ (ecell x) hW (by rw [e0]; simp only [Nat.min_def]; split <;> omega) (cell_row hW2 0 (List.prefix_refl _)) (by rw [e0, ← Array.length_toList, hRl]; omega) (fun u hu => by simp [ecell] at hu; rcases hu with rfl | rfl <;> rfl)
  have hcp2 : ∀ (W : World), W.heap[N]? = some (.cells (spl ROW.toList (i * 2) (ecell x)).toArray 68 (0, 0)) → W.heap[g]? = some (.cells cur 68 (0, 0)) → ∀ ty dc sc, (Builtin.copy_ #[60, 60] ty #[.slice (some ⟨N, (i + 1) * 2, none⟩) (n - i) dc, .slice (some ⟨g, i * 2, none⟩) (n - i) sc]).run Tryz.prog W = .ok (goInt (Nat.min (n - i) (n - i) : Nat)) (W.setRow N (spl (spl ROW.toList (i * 2) (ecell x)) ((i + 1) * 2) (xs.drop (i * 2))).toArray) := fun W hW hW2 ty dc sc =>
    copy2_run W ty N ((i + 1) * 2) (n - i) dc (n - i) sc ⟨g, i * 2, none⟩ (xs.drop (i * 2)) hW (by rw [hdl]; simp only [Nat.min_def]; split <;> omega) (cell_row hW2 (i * 2) (by rw [← htk, List.drop_take]; exact List.take_prefix _ _)) (by rw [List.size_toArray]; show _ ≤ (spl ROW.toList (i * 2) (ecell x)).length; rw [hs1, hdl]; omega) (fun v hv => hone v (List.mem_of_mem_drop hv))
  have hgN : g ≠ N := by omega
  have hg1N : g1 ≠ N := by have := kind_lt2 h1; omega
  have qN : ∀ (W : World), W.heap = (w.alloc (.cells ROW 68)).heap → W.heap[N]? = some (.cells ROW 68 (0, 0)) := fun W hW => by rw [hW, hN]; exact lone_new w _ _
  have qO : ∀ (W : World) (k : Nat), W.heap = (w.alloc (.cells ROW 68)).heap → k < w.heap.size → W.heap[k]? = w.heap[k]? := fun W k hW hk => by rw [hW]; exact ((Below.refl _ w).alloc (Nat.le_refl _) _).block k hk
  have hcA := fun ty dc => hcp1 (w.drew.alloc (.cells ROW 68)) (qN _ rfl) ((qO _ _ rfl (kind_lt2 h1)).trans h1) ty dc
  obtain ⟨W1, hW1⟩ : ∃ W1, W1 = w.drew.alloc (.cells ROW 68) := ⟨_, rfl⟩
  rw [← hW1] at hrz hcA
  obtain ⟨W2, hW2⟩ : ∃ W2, W2 = W1.setRow N (spl ROW.toList (i * 2) (ecell x)).toArray := ⟨_, rfl⟩
  rw [← hW2] at hcA
  have r1 : W2.heap[N]? = some (.cells (spl ROW.toList (i * 2) (ecell x)).toArray 68 (0, 0)) := by rw [hW2]; exact setRow_heap2 W1 N _ (by rw [hW1]; exact qN _ rfl)
  have hcB := fun ty dc sc => hcp2 W2.drew r1 (by rw [hW2]; exact (setRow_other _ _ _ _ hgN).trans (by rw [hW1]; exact (qO _ _ rfl hglt).trans hh)) ty dc sc
  have HE : Hid (InsP w B (.slice (some ⟨g, 0, none⟩) n cap) (l.take i ++ x :: l.drop i) (.returned (.slice (some ⟨N, 0, none⟩) (n + 1) G)) (W2.drew.setRow N (spl (spl ROW.toList (i * 2) (ecell x)) ((i + 1) * 2) (xs.drop (i * 2))).toArray)) := by
    have ef := spl_two' (x := .string (str x.1)) (y := .int .i64 ((x.2 : Nat) : Int)) (Nat.le_of_lt hi) hxl (by omega) hRt
    rw [hn] at ef hGn ⊢
    refine apart_fin (setRow_heap2 W2.drew N _ r1) (by omega) (by omega) (by rw [List.size_toArray]; exact hs2) hGn hGm (by rw [← hxs]; exact ef) ?_ (.inr (Nat.le_of_eq hN.symm))
    rw [hW2, hW1]
    refine ⟨rfl, rfl, rfl, ?_, fun k hk hne => ?_⟩
    · rw [setRow_size2]
      show w.heap.size ≤ (World.setRow _ N _).heap.size
      rw [setRow_size2]
      simp
    · have : k ≠ N := by omega
      rw [setRow_other _ _ _ _ this]
      exact (setRow_other _ _ _ _ this).trans (qO _ _ rfl hk)
  have hz2 : ¬ ((i : Int) = (n : Int)) := by omega
  have hz3 : (cap : Int) < (n : Int) + 1 := by omega
  have hw1 : IntKind.i64.wrap ((i : Int) + 1) = (i : Int) + 1 := by rw [IntKind.wrap_i64]; omega
  have hb1 : (0 : Int) ≤ (i : Int) + 1 := by omega
  have hin : i ≤ n := by omega
  have htn : ((i : Int) + 1).toNat = i + 1 := by omega
  have hb3 : (i : Int) ≤ (n : Int) := by omega
  have hGi : ¬ (G = i) := by omega
  have hGim : ¬ (G = i + 1) := by omega
  have hci : ¬ (cap = i) := by omega
  have hG63 : G ≤ 9223372036854775807 := hGm
  clear hN hgN hg1N e0 hkk hik hold hROW hG hRl hRt hcp1 hcp2 hs1 hs2 hone hdl hxl hxs htk hh hcs hm h1 h qN qO r1 hW1 hW2 hi0 hz0 hz1 hn
  go_enter Tryz.func37, Tryz.ntmps37
  go_wp2_with (first
    | (at_builtin; refine Lib.wpList_append_run _ rfl _ _ _ _ rfl _ _ rfl rfl _ _ (hrz _) ?_)
    | (at_builtin; refine wpList_copy_runI _ rfl _ _ 60 60 rfl _ _ rfl rfl (hcA _ _) ?_))
  go_region_law (refine step_copy_runI rfl _ _ 60 60 rfl _ _ (by simp [Act.eval, Act.put]) (by simp [Act.eval, Act.put]) (hcB _ _ _) ?_)
  go_wp2
  go_ret
  exact HE.out
theorem insert_any (v : Value) (l : List Ent) (i : Nat) (x : Ent) (g1 c1 : Nat) (w : World) (B : Nat) (hi : i ≤ l.length) (hB : B ≤ w.heap.size) (h : OwnE w B v l) (hl : l.length ≤ 4096) (h1 : w.heap[g1]? = some (.cells (ecell x).toArray 68 (0, 0))) (hne : g1 ∉ nblk v) :
    Calls Tryz.prog 37 #[v, .int .i64 (i : Int), .slice (some ⟨g1, 0, none⟩) 1 c1] w (InsP w B v (l.take i ++ x :: l.drop i)) := by
  by_cases hl2 : i = l.length
  · subst hl2
    have := ins_end v l x g1 c1 w B hB h hl (fun j u hj => by
      have := cell_row h1 0 (L := ecell x) (List.prefix_refl _) j u hj
      rwa [Addr.add_lit, Nat.zero_add] at this)
    rw [List.take_length, List.drop_length]
    exact this
  · obtain ⟨g, cap, rfl, -, -⟩ := own_some h (by omega)
    have hne2 : g1 ≠ g := fun e => hne (by simp [nblk, Value.ownBlock, e])
    by_cases hr : l.length + 1 ≤ cap
    · exact ins_room g cap i l.length l x g1 c1 w B rfl h hl (by omega) hr h1 hne2
    · exact ins_grow g cap i l.length l x g1 c1 w B hB rfl h hl (by omega) (own_at h).2.2.1 (by omega) h1
end Go.Proofs.YtcjljfjgekiocaaGreatDoor

/- Contract: take, of a ). -/
import Derived.Test.YtbnlcgnpkodieaaSexG
namespace Go.Proofs.Ytbnlcgnpkodieaa
open Go.RowKit

set_option linter.unusedVariables false
set_option linter.unusedSimpArgs false

def popX (V : World) (rb nb : Nat) (a b c d s : Value) : World := (((((V.setCell ⟨nb, 0, none⟩ a).setCell ⟨nb, 1, none⟩ b).setCell ⟨nb, 2, none⟩ c).setCell ⟨nb, 3, none⟩ d).setCell ⟨rb, 1, none⟩ s).drew
theorem drew_heap (w : World) : w.drew.heap = w.heap := rfl
theorem popX_box {V : World} {rb nb : Nat} {a b c d s p0 s0 : Value} {R : TypeId} (hr : V.heap[rb]? = some (.cells #[p0, s0] R (0, 0))) (hne : rb ≠ nb) : (popX V rb nb a b c d s).heap[rb]? = some (.cells #[p0, s] R (0, 0)) := by
  unfold popX
  rw [drew_heap]
  have h : ((((V.setCell ⟨nb, 0, none⟩ a).setCell ⟨nb, 1, none⟩ b).setCell ⟨nb, 2, none⟩ c).setCell ⟨nb, 3, none⟩ d).heap[rb]? = some (.cells #[p0, s0] R (0, 0)) := by
    rw [Below.heap_setCell _ _ _ _ hne, Below.heap_setCell _ _ _ _ hne, Below.heap_setCell _ _ _ _ hne, Below.heap_setCell _ _ _ _ hne, hr]
  rw [Joins.block_setCell h]
  rfl
theorem popX_node {V : World} {rb nb : Nat} {a b c d s a0 b0 c0 d0 : Value} {R : TypeId} (hn : V.heap[nb]? = some (.cells #[a0, b0, c0, d0] R (0, 0))) (hne : nb ≠ rb) : (popX V rb nb a b c d s).heap[nb]? = some (.cells #[a, b, c, d] R (0, 0)) := by
  unfold popX
  rw [drew_heap, Below.heap_setCell _ _ _ _ hne, Joins.block_setCell (Joins.block_setCell (Joins.block_setCell (Joins.block_setCell hn a) b) c) d]
  rfl
theorem popX_other (V : World) (rb nb : Nat) (a b c d s : Value) (k : Nat) (h1 : k ≠ rb) (h2 : k ≠ nb) : (popX V rb nb a b c d s).heap[k]? = V.heap[k]? := by
  unfold popX
  rw [drew_heap, Below.heap_setCell _ _ _ _ h1, Below.heap_setCell _ _ _ _ h2, Below.heap_setCell _ _ _ _ h2, Below.heap_setCell _ _ _ _ h2, Below.heap_setCell _ _ _ _ h2]
theorem popX_below (V : World) (rb nb : Nat) (a b c d s : Value) : Below 0 V (popX V rb nb a b c d s) :=
  ((((((Below.refl 0 V).setCell (p := ⟨nb, 0, none⟩) (Nat.zero_le _) a).setCell (p := ⟨nb, 1, none⟩) (Nat.zero_le _) b).setCell (p := ⟨nb, 2, none⟩) (Nat.zero_le _) c).setCell (p := ⟨nb, 3, none⟩) (Nat.zero_le _) d).setCell (p := ⟨rb, 1, none⟩) (Nat.zero_le _) s).drew
set_option maxRecDepth 100000 in
set_option maxHeartbeats 4000000 in
theorem take_close (B rb mb : Nat) (w : World) (x y : Int) (T : List Nat) (sb n p cs : Nat) (vG : Value) (AF : Option Addr) (lF mF : Nat) (l : Nat) (ys : List Value) (a : Int)
    (h0 : w.heap[rb]? = some (.cells #[.pointer (some ⟨mb, 0, none⟩), .slice (some ⟨sb, 0, none⟩) (p + 1) cs] 67 (0, 0)))
    (h3 : w.cell? ⟨sb, n * 4 + 3, none⟩ = some vG) (f3 : w.frozen? ⟨sb, n * 4 + 3, none⟩ = false) (hG : w.ownsRow B 28 4 vG l ys) (hn : n < 70000) (hl : l < 70000) (hGs : ∀ b ∈ blk1 vG, b ≠ sb ∧ b ≠ rb) (hB0 : B ≤ w.heap.size)
    (k0 : w.cell? ⟨sb, p * 4, none⟩ = some (.int .u8 0)) (k1 : w.cell? ⟨sb, p * 4 + 1, none⟩ = some (.int .i64 a)) (k2 : w.cell? ⟨sb, p * 4 + 2, none⟩ = some (.string ⟨#[]⟩)) (k3 : w.cell? ⟨sb, p * 4 + 3, none⟩ = some (.slice AF lF mF)) (hsr : sb ≠ rb) (hcs : p + 1 ≤ cs) (hp : p = n + 1) :
    Calls Try.prog 30 #[.pointer (some ⟨rb, 0, none⟩), .agg #[.int .u8 2, .int .i64 x, .int .i64 y, .string (str T)]] w fun e w' =>
      ∃ w1, Just rb w w1 ∧ w1.heap[rb]? = some (.cells #[.pointer (some ⟨mb, 0, none⟩), .slice (some ⟨sb, 0, none⟩) p cs] 67 (0, 0)) ∧ TakeP B sb (n * 4 + 3) vG l ys 0 a [] (.slice AF lF mF) w1 e w' := by
  obtain ⟨i0, hi, hz0, hz1, hz2⟩ := info_nd
  obtain ⟨A, mG, rfl⟩ := slice_form hG
  obtain ⟨W, hW⟩ : ∃ W, w.alloc (.cells #[.int .u8 2, .int .i64 x, .int .i64 y, .string (str T)] 69) = W := ⟨_, rfl⟩
  have hB : Below w.heap.size w W := hW ▸ (Below.refl _ w).alloc (Nat.le_refl _) _
  have hx : W.heap[w.heap.size]? = some (.cells #[.int .u8 2, .int .i64 x, .int .i64 y, .string (str T)] 69 (0, 0)) := hW ▸ lone_new w _ _
  have z0 : W.cell? ⟨w.heap.size, 0, none⟩ = some (.int .u8 2) := by rw [cell_of hx]; rfl
  have z1 : W.cell? ⟨w.heap.size, 1, none⟩ = some (.int .i64 x) := by rw [cell_of hx]; rfl
  have z3 : W.cell? ⟨w.heap.size, 3, none⟩ = some (.string (str T)) := by rw [cell_of hx]; rfl
  have hr := (hB.block rb (kind_lt h0)).trans h0
  have r0 : W.cell? ⟨rb, 0, none⟩ = some (.pointer (some ⟨mb, 0, none⟩)) := by rw [cell_of hr]; rfl
  have r1 : W.cell? ⟨rb, 1, none⟩ = some (.slice (some ⟨sb, 0, none⟩) (p + 1) cs) := by rw [cell_of hr]; rfl
  have hsl : sb < w.heap.size := World.block_lt_of_cell? w _ h3
  have hrl : rb < w.heap.size := kind_lt h0
  obtain ⟨V, hV⟩ : ∃ V, W.alloc (.cells #[.int .u8 2, .int .i64 x, .string (str T), .slice none 0 0] 28) = V := ⟨_, rfl⟩
  have hBV : Below W.heap.size W V := hV ▸ (Below.refl _ W).alloc (Nat.le_refl _) _
  have hnV : V.heap[W.heap.size]? = some (.cells #[.int .u8 2, .int .i64 x, .string (str T), .slice none 0 0] 28 (0, 0)) := hV ▸ lone_new W _ _
  have hbV : Below w.heap.size w V := hB.trans (hBV.mono hB.size)
  have y0 := keep_below hBV _ _ z0
  have hrV := (hBV.block rb (Nat.lt_of_lt_of_le hrl hB.size)).trans hr
  have v0 : V.cell? ⟨rb, 0, none⟩ = some (.pointer (some ⟨mb, 0, none⟩)) := by rw [cell_of hrV]; rfl
  have v1 : V.cell? ⟨rb, 1, none⟩ = some (.slice (some ⟨sb, 0, none⟩) (p + 1) cs) := by rw [cell_of hrV]; rfl
  have vr : V.frozen? ⟨rb, 1, none⟩ = false := frozen_of hrV 1
  have q0 := keep_below hbV _ _ k0
  have q1 := keep_below hbV _ _ k1
  have q2 := keep_below hbV _ _ k2
  have q3 := keep_below hbV _ _ k3
  obtain ⟨⟨n0, n1⟩, n2, n3⟩ := BoxN.of hnV
  have hsame : V.setCell ⟨W.heap.size, 3, none⟩ (.slice none 0 0) = V := setCell_same hnV rfl
  have nf : ∀ j, V.frozen? ⟨W.heap.size, j, none⟩ = false := frozen_of hnV
  have HG := Lib.hid hG
  have HW := Lib.hid hB
  have HV := Lib.hid hBV
  have HNV := Lib.hid hnV
  have HRV := Lib.hid hrV
  have HX := Lib.hid hx
  have H3 := Lib.hid h3
  have F3 := Lib.hid f3
  have e1 : (p : Int) - 1 = (n : Int) := by omega
  have e2 : ((p : Int) == 0) = false := by simp; omega
  have e3 : (p : Int) < (p : Int) + 1 := by omega
  have e4 : (p : Int) ≤ (cs : Int) := by omega
  have e5 : (n : Int) < (p : Int) := by omega
  have e6 : (0 : Int) ≤ (p : Int) := by omega
  have hpb : p < 70001 := by omega
  have HP := Lib.hid hp
  have hWs := hB.size
  have u1 : ¬ W.heap.size = rb := by omega
  have u2 : ¬ rb = W.heap.size := by omega
  have u3 : ¬ W.heap.size = sb := by omega
  have u4 : ¬ sb = W.heap.size := by omega
  clear hp
  clear h0 h3 f3 hG hx hr hB hBV hnV hrV hbV
  go_enter Try.func30, Try.ntmps30
  go_wp2_with fail
  go_region
  obtain ⟨X, hX⟩ : ∃ X, X = popX V rb W.heap.size (.int .u8 0) (.int .i64 a) (.string ⟨#[]⟩) (.slice AF lF mF) (.slice (some ⟨sb, 0, none⟩) p cs) := ⟨_, rfl⟩
  have hX2 := hX
  unfold popX at hX2
  rw [← hX2]
  clear hX2
  have hXr : X.heap[rb]? = some (.cells #[.pointer (some ⟨mb, 0, none⟩), .slice (some ⟨sb, 0, none⟩) p cs] 67 (0, 0)) := by
    rw [hX]; exact popX_box HRV.out u2
  have hXn : X.heap[W.heap.size]? = some (.cells #[.int .u8 0, .int .i64 a, .string (str []), .slice AF lF mF] 28 (0, 0)) := by
    rw [hX]; exact popX_node HNV.out u1
  have hXo : ∀ k, k ≠ rb → k ≠ W.heap.size → X.heap[k]? = V.heap[k]? := by
    rw [hX]; exact popX_other V rb W.heap.size _ _ _ _ _
  have hXs : Below 0 V X := by rw [hX]; exact popX_below _ _ _ _ _ _ _ _
  have HJX := Lib.hid (show Just rb w X from by
    have hbV : Below w.heap.size w V := HW.out.trans (HV.out.mono HW.out.size)
    exact ⟨hXs.os.trans hbV.os, hXs.tape.trans hbV.tape, hXs.output.trans hbV.output, Nat.le_trans hbV.size hXs.size, fun k hk hn => (hXo k hn (by have := HW.out.size; omega)).trans (hbV.block k hk)⟩)
  have HXR := Lib.hid hXr
  have x0 : X.cell? ⟨rb, 0, none⟩ = some (.pointer (some ⟨mb, 0, none⟩)) := by rw [cell_of hXr]; rfl
  have x1 : X.cell? ⟨rb, 1, none⟩ = some (.slice (some ⟨sb, 0, none⟩) p cs) := by rw [cell_of hXr]; rfl
  obtain ⟨⟨m0, m1⟩, m2, m3⟩ := BoxN.of hXn
  have hXsb : X.heap[sb]? = w.heap[sb]? := HJX.out.block sb hsl hsr
  have l3 : X.cell? ⟨sb, n * 4 + 3, none⟩ = some (.slice A l mG) := (World.cell?_of_block (a := ⟨sb, n * 4 + 3, none⟩) hXsb).trans H3.out
  have lf : X.frozen? ⟨sb, n * 4 + 3, none⟩ = false := (World.frozen?_of_block (a := ⟨sb, n * 4 + 3, none⟩) hXsb).trans F3.out
  have hgX : X.ownsRow B 28 4 (.slice A l mG) l ys := ownsRow_block HG.out fun b hb => by
    obtain ⟨_, c, hc⟩ := ownsRow_kind2 HG.out b hb
    exact HJX.out.block b (kind_lt hc) (hGs b hb).2
  have hXsz := HJX.out.size
  clear hX hXs hXr hXn hXo hXsb hV hW hsame e2 e3 e4 e6 y0 v0 v1 vr n0 n1 n2 n3 nf q0 q1 q2 q3 r0 r1 z0 z1 z3 k0 k1 k2 k3
  clear hcs hWs
  go_wp2_with fail
  obtain ⟨Z, hZ⟩ : ∃ Z, X.alloc (.cells #[.int .u8 0, .int .i64 0, .string ⟨#[]⟩, .slice none 0 0] 28) = Z := ⟨_, rfl⟩
  have hnZ : Z.heap[X.heap.size]? = some (.cells #[.int .u8 0, .int .i64 0, .string ⟨#[]⟩, .slice none 0 0] 28 (0, 0)) := hZ ▸ lone_new X _ _
  have hbZ : Below X.heap.size X Z := hZ ▸ (Below.refl _ X).alloc (Nat.le_refl _) _
  have hgZ : Z.drew.ownsRow B 28 4 (.slice A l mG) l ys := ownsRow_block hgX fun b hb => by
    obtain ⟨_, c, hc⟩ := ownsRow_kind2 hgX b hb
    exact hbZ.block b (kind_lt hc)
  have hnews : ∀ j u, [Value.int .u8 0, .int .i64 0, .string ⟨#[]⟩, .slice none 0 0][j]? = some u → Z.drew.cell? ((⟨X.heap.size, 0, none⟩ : Addr).add j) = some u := World.news_of_block (cs := #[.int .u8 0, .int .i64 0, .string ⟨#[]⟩, .slice none 0 0]) hnZ
  have hone : ∀ u ∈ [Value.int .u8 0, .int .i64 0, .string ⟨#[]⟩, .slice none 0 0], u.oneCell' = true := by
    intro u hu; simp only [List.mem_cons, List.not_mem_nil, or_false] at hu; rcases hu with rfl | rfl | rfl | rfl <;> rfl
  have hl63 : l + 1 ≤ maxLen := by unfold maxLen; omega
  have hlby : (l + 1) * 56 ≤ 140737488355328 := by omega
  have hBZ : B ≤ Z.drew.heap.size := by
    have h3 : X.heap.size ≤ Z.drew.heap.size := hbZ.size
    omega
  have HZW := Lib.hid hbZ.drew
  have hlY := HG.out.1
  have HGs := Lib.hid (show ∀ g, (Value.slice A l mG).ownBlock = some g ∨ g = Z.drew.heap.size → sb ≠ g from fun g h e => by
    rcases h with h | h
    · exact (hGs g (by simp [blk1, h])).1 e.symm
    · have h3 : X.heap.size ≤ Z.drew.heap.size := hbZ.size
      omega)
  have p0 := keep_below hbZ _ _ l3
  have pf : Z.drew.frozen? ⟨sb, n * 4 + 3, none⟩ = false := (hbZ.frozen (p := ⟨sb, n * 4 + 3, none⟩) (World.block_lt_of_cell? X _ l3)).trans lf
  have HP := Lib.hid p0
  have HPF := Lib.hid pf
  have HZs := Lib.hid (show sb < Z.drew.heap.size from World.block_lt_of_cell? Z _ p0)
  clear hgX p0 pf
  have b0 := keep_below hbZ _ _ m0
  have b1 := keep_below hbZ _ _ m1
  have b2 := keep_below hbZ _ _ m2
  have b3 := keep_below hbZ _ _ m3
  have b4 := keep_below hbZ _ _ l3
  have hll : (l : Int) < (l : Int) + 1 := by omega
  go_region_law (refine step_append_lies _ rfl (.tmp 76) (.tmp 79) 22 rfl B 28 i0 _ 4 56 Try.underlying22 hi hz0 hz1 hz2 rfl (by decide) _ _ _ rfl hgZ ⟨X.heap.size, 0, none⟩ 1 1 _ rfl rfl hnews hone (by decide) hl63 hlby hBZ _ rfl ?_
                 intro g cap w2 hown hgrow hat hlt
                 have hsg : sb ≠ g := HGs.out g hat
                 have hgs : g ≠ sb := Ne.symm hsg
                 obtain ⟨g', hge, _, _, hcl⟩ := row_cells hown (Nat.succ_pos _)
                 obtain ⟨_, cc, hcc⟩ := ownsRow_kind2 hown g (by simp [blk1, Value.ownBlock])
                 have t0 : w2.cell? ⟨g, l * 4, none⟩ = some (.int .u8 0) := by
                   have := hcl (l * 4) (.int .u8 0) (by rw [List.getElem?_append_right (by omega), hlY, Nat.sub_self]; rfl)
                   injection hge with hge; injection hge with hge; rw [hge]; exact this
                 have t1 : w2.cell? ⟨g, l * 4 + 1, none⟩ = some (.int .i64 0) := by
                   have := hcl (l * 4 + 1) (.int .i64 0) (by rw [List.getElem?_append_right (by omega), hlY, Nat.add_sub_cancel_left]; rfl)
                   injection hge with hge; injection hge with hge; rw [hge]; exact this
                 have t2 : w2.cell? ⟨g, l * 4 + 2, none⟩ = some (.string ⟨#[]⟩) := by
                   have := hcl (l * 4 + 2) (.string ⟨#[]⟩) (by rw [List.getElem?_append_right (by omega), hlY, Nat.add_sub_cancel_left]; rfl)
                   injection hge with hge; injection hge with hge; rw [hge]; exact this
                 have t3 : w2.cell? ⟨g, l * 4 + 3, none⟩ = some (.slice none 0 0) := by
                   have := hcl (l * 4 + 3) (.slice none 0 0) (by rw [List.getElem?_append_right (by omega), hlY, Nat.add_sub_cancel_left]; rfl)
                   injection hge with hge; injection hge with hge; rw [hge]; exact this
                 have tf := frozen_of hcc
                 have s5 : w2.cell? ⟨sb, n * 4 + 3, none⟩ = some (.slice A l mG) := (hgrow.cell_far ⟨sb, n * 4 + 3, none⟩ HZs.out (fun e => HGs.out sb (.inl e.symm) rfl)).trans HP.out
                 have sf : w2.frozen? ⟨sb, n * 4 + 3, none⟩ = false := (hgrow.frozen_far ⟨sb, n * 4 + 3, none⟩ HZs.out (fun e => HGs.out sb (.inl e.symm) rfl)).trans HPF.out
                 clear hcl hge hcc)
  all_goals
    have HF := Lib.hid hown
    clear t0 t1 t2 t3 tf s5 sf hown
    go_wp2_with fail
    go_ret
    refine ⟨X, HJX.out, HXR.out, rfl, Z.drew, w2, g, cap, _, HZW.out, hgZ, HF.out, rfl, hgrow, hat, ?_⟩
    change Put w2 g (l * 4) [.int .u8 0, .int .i64 a, .string (str []), .slice AF lF mF] sb (n * 4 + 3) _ _
    first
      | with_reducible exact put_a w2 g (l * 4) _ _ _ _ sb (n * 4 + 3) _ hsg
      | with_reducible exact put_b w2 g (l * 4) _ _ _ _ sb (n * 4 + 3) _ hsg
end Go.Proofs.Ytbnlcgnpkodieaa

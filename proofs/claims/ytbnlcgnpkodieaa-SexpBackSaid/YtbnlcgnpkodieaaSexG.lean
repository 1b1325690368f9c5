/- Contract: take. -/
import Derived.Deep.RegionHeldLaw
import Derived.Test.YtbnlcgnpkodieaaSexF
import Derived.Test.YtbnlcgnpkodieaaMetJ
namespace Go.Proofs.Ytbnlcgnpkodieaa
open Go.RowKit

set_option linter.unusedVariables false
set_option linter.unusedSimpArgs false

theorem info_nd : ∃ i, Try.prog.info? 28 = some i ∧ i.zero = some (.agg #[.int .u8 0, .int .i64 0, .string ⟨#[]⟩, .slice none 0 0]) ∧ i.size = 4 ∧ i.bytes = 56 := by
  obtain ⟨i, hi, h⟩ := Option.map_eq_some_iff.1 infoNd
  simp only [Prod.mk.injEq] at h
  exact ⟨i, hi, h.1, h.2.1, h.2.2⟩
/-- a node was appended to the list whose slice lies in a cell of the block sb -/
def TakeP (B sb p : Nat) (vG : Value) (l : Nat) (ys : List Value) (κ : Nat) (x : Int) (T : List Nat) (vk : Value) (w : World) (e : Ending) (w' : World) : Prop :=
  e = .returned (.int .i64 0) ∧ ∃ (Z w2 : World) (g cap : Nat) (zs : List Value), Below w.heap.size w Z ∧ Z.ownsRow B 28 4 vG l ys ∧
    w2.ownsRow B 28 4 (.slice (some ⟨g, 0, none⟩) (l + 1) cap) (l + 1) (ys ++ zs) ∧ zs.length = 4 ∧ Z.grownBy w2 vG.ownBlock ∧ (vG.ownBlock = some g ∨ g = Z.heap.size) ∧
    Put w2 g (l * 4) (ndC κ x T vk) sb p (.slice (some ⟨g, 0, none⟩) (l + 1) cap) w'
set_option maxRecDepth 100000 in
set_option maxHeartbeats 4000000 in
theorem take_word (B rb mb : Nat) (w : World) (κ : Nat) (x y : Int) (T : List Nat) (sb n cs : Nat) (vG : Value) (l : Nat) (ys : List Value)
    (hκ1 : κ ≠ 1) (hκ2 : κ ≠ 2)
    (h0 : w.heap[rb]? = some (.cells #[.pointer (some ⟨mb, 0, none⟩), .slice (some ⟨sb, 0, none⟩) (n + 1) cs] 67 (0, 0))) 
    (h3 : w.cell? ⟨sb, n * 4 + 3, none⟩ = some vG) (f3 : w.frozen? ⟨sb, n * 4 + 3, none⟩ = false) (hG : w.ownsRow B 28 4 vG l ys) (hn : n < 70000) (hl : l < 70000) (hGs : ∀ b ∈ blk1 vG, b ≠ sb) (hB0 : B ≤ w.heap.size) :
    Calls Try.prog 30 #[.pointer (some ⟨rb, 0, none⟩), .agg #[.int .u8 (κ : Int), .int .i64 x, .int .i64 y, .string (str T)]] w (TakeP B sb (n * 4 + 3) vG l ys κ x T (.slice none 0 0) w) := by
  obtain ⟨i0, hi, hz0, hz1, hz2⟩ := info_nd
  obtain ⟨A, mG, rfl⟩ := slice_form hG
  obtain ⟨W, hW⟩ : ∃ W, w.alloc (.cells #[.int .u8 (κ : Int), .int .i64 x, .int .i64 y, .string (str T)] 69) = W := ⟨_, rfl⟩
  have hB : Below w.heap.size w W := hW ▸ (Below.refl _ w).alloc (Nat.le_refl _) _
  have hx : W.heap[w.heap.size]? = some (.cells #[.int .u8 (κ : Int), .int .i64 x, .int .i64 y, .string (str T)] 69 (0, 0)) := hW ▸ lone_new w _ _
  have e1 : ((κ : Int) == 1) = false := by simp; omega
  have e2 : ((κ : Int) == 2) = false := by simp; omega
  have z0 : W.cell? ⟨w.heap.size, 0, none⟩ = some (.int .u8 (κ : Int)) := by rw [cell_of hx]; rfl
  have z1 : W.cell? ⟨w.heap.size, 1, none⟩ = some (.int .i64 x) := by rw [cell_of hx]; rfl
  have z3 : W.cell? ⟨w.heap.size, 3, none⟩ = some (.string (str T)) := by rw [cell_of hx]; rfl
  have hr := (hB.block rb (kind_lt h0)).trans h0
  have r0 : W.cell? ⟨rb, 0, none⟩ = some (.pointer (some ⟨mb, 0, none⟩)) := by rw [cell_of hr]; rfl
  have r1 : W.cell? ⟨rb, 1, none⟩ = some (.slice (some ⟨sb, 0, none⟩) (n + 1) cs) := by rw [cell_of hr]; rfl
  have hsl : sb < w.heap.size := World.block_lt_of_cell? w _ h3
  have g3 := (hB.cell (p := ⟨sb, n * 4 + 3, none⟩) hsl).trans h3
  have gf := (hB.frozen (p := ⟨sb, n * 4 + 3, none⟩) hsl).trans f3
  obtain ⟨V, hV⟩ : ∃ V, W.alloc (.cells #[.int .u8 (κ : Int), .int .i64 x, .string (str T), .slice none 0 0] 28) = V := ⟨_, rfl⟩
  have hBV : Below W.heap.size W V := hV ▸ (Below.refl _ W).alloc (Nat.le_refl _) _
  have hnV : V.heap[W.heap.size]? = some (.cells #[.int .u8 (κ : Int), .int .i64 x, .string (str T), .slice none 0 0] 28 (0, 0)) := hV ▸ lone_new W _ _
  have y0 := keep_below hBV _ _ z0
  have v0 := keep_below hBV _ _ r0
  have v1 := keep_below hBV _ _ r1
  have v3 := keep_below hBV _ _ g3
  have vf := (hBV.frozen (p := ⟨sb, n * 4 + 3, none⟩) (World.block_lt_of_cell? W _ g3)).trans gf
  obtain ⟨⟨n0, n1⟩, n2, n3⟩ := BoxN.of hnV
  have hsame : V.setCell ⟨W.heap.size, 3, none⟩ (.slice none 0 0) = V := setCell_same hnV rfl
  have nf : ∀ j, V.frozen? ⟨W.heap.size, j, none⟩ = false := frozen_of hnV
  have HG := Lib.hid hG
  have HW := Lib.hid hB
  have HV := Lib.hid hBV
  have HNV := Lib.hid hnV
  have HX := Lib.hid hx
  clear hκ1 hκ2 h0 h3 f3 hG hx hr hB hBV hnV gf g3
  go_enter Try.func30, Try.ntmps30
  go_wp2_with fail
  have hgV : V.ownsRow B 28 4 (.slice A l mG) l ys := ownsRow_block HG.out fun b hb => by
    obtain ⟨_, c, hc⟩ := ownsRow_kind2 HG.out b hb
    have h1 := kind_lt hc
    rw [HV.out.block b (by have := HW.out.size; omega), HW.out.block b h1]
  obtain ⟨Z, hZ⟩ : ∃ Z, V.alloc (.cells #[.int .u8 0, .int .i64 0, .string ⟨#[]⟩, .slice none 0 0] 28) = Z := ⟨_, rfl⟩
  have hnZ : Z.heap[V.heap.size]? = some (.cells #[.int .u8 0, .int .i64 0, .string ⟨#[]⟩, .slice none 0 0] 28 (0, 0)) := hZ ▸ lone_new V _ _
  have hbZ : Below V.heap.size V Z := hZ ▸ (Below.refl _ V).alloc (Nat.le_refl _) _
  have hgZ : Z.drew.ownsRow B 28 4 (.slice A l mG) l ys := ownsRow_block hgV fun b hb => by
    obtain ⟨_, c, hc⟩ := ownsRow_kind2 hgV b hb
    exact hbZ.block b (kind_lt hc)
  have hnews : ∀ j u, [Value.int .u8 0, .int .i64 0, .string ⟨#[]⟩, .slice none 0 0][j]? = some u → Z.drew.cell? ((⟨V.heap.size, 0, none⟩ : Addr).add j) = some u := World.news_of_block (cs := #[.int .u8 0, .int .i64 0, .string ⟨#[]⟩, .slice none 0 0]) hnZ
  have hone : ∀ u ∈ [Value.int .u8 0, .int .i64 0, .string ⟨#[]⟩, .slice none 0 0], u.oneCell' = true := by
    intro u hu; simp only [List.mem_cons, List.not_mem_nil, or_false] at hu; rcases hu with rfl | rfl | rfl | rfl <;> rfl
  have hl63 : l + 1 ≤ maxLen := by unfold maxLen; omega
  have hlby : (l + 1) * 56 ≤ 140737488355328 := by omega
  have hBZ : B ≤ Z.drew.heap.size := by
    have h1 := HW.out.size
    have h2 := HV.out.size
    have h3 : V.heap.size ≤ Z.drew.heap.size := hbZ.size
    omega
  have HZW := Lib.hid ((HW.out.trans (HV.out.mono HW.out.size)).trans ((hbZ.mono (Nat.le_trans HW.out.size HV.out.size)).drew))
  have hlY := HG.out.1
  have HGs := Lib.hid (show ∀ g, (Value.slice A l mG).ownBlock = some g ∨ g = Z.drew.heap.size → sb ≠ g from fun g h e => by
    rcases h with h | h
    · exact hGs g (by simp [blk1, h]) e.symm
    · have h1 := HW.out.size
      have h2 := HV.out.size
      have h3 : V.heap.size ≤ Z.drew.heap.size := hbZ.size
      omega)
  have p0 := keep_below hbZ _ _ v3
  have pf : Z.drew.frozen? ⟨sb, n * 4 + 3, none⟩ = false := (hbZ.frozen (p := ⟨sb, n * 4 + 3, none⟩) (World.block_lt_of_cell? V _ v3)).trans vf
  have HP := Lib.hid p0
  have HPF := Lib.hid pf
  have HZs := Lib.hid (show sb < Z.drew.heap.size from World.block_lt_of_cell? Z _ p0)
  clear r0 r1 z0 z1 z3 y0 hgV p0 pf
  have q0 := keep_below hbZ _ _ n0
  have q1 := keep_below hbZ _ _ n1
  have q2 := keep_below hbZ _ _ n2
  have q3 := keep_below hbZ _ _ n3
  have q4 := keep_below hbZ _ _ v3
  have hll : (l : Int) < (l : Int) + 1 := by omega
  go_region_law (refine step_append_lies _ rfl (.tmp 76) (.tmp 79) 22 rfl B 28 i0 _ 4 56 Try.underlying22 hi hz0 hz1 hz2 rfl (by decide) _ _ _ rfl hgZ ⟨V.heap.size, 0, none⟩ 1 1 _ rfl rfl hnews hone (by decide) hl63 hlby hBZ _ rfl ?_
                 intro g cap w2 hown hgrow hat hlt
                 have hsg : sb ≠ g := HGs.out g hat
                 have hgs : g ≠ sb := Ne.symm hsg
                 obtain ⟨g', hge, _, _, hcl⟩ := row_cells hown (Nat.succ_pos _)
                 obtain ⟨_, cc, hcc⟩ := ownsRow_kind2 hown g (by simp [blk1, Value.ownBlock])
                 have t0 : w2.cell? ⟨g, l * 4, none⟩ = some (.int .u8 0) := by
                   have := hcl (l * 4) (.int .u8 0) (by rw [List.getElem?_append_right (by omega), hlY, Nat.sub_self]; rfl)
                   injection hge with hge; injection hge with hge; rw [hge]; exact this
                 have t1 : w2.cell? ⟨g, l * 4 + 1, none⟩ = some (.int .i64 0) := by
                   have := hcl (l * 4 + 1) (.int .i64 0) (by rw [List.getElem?_append_right (by omega), hlY, Nat.add_sub_cancel_left]; rfl)
                   injection hge with hge; injection hge with hge; rw [hge]; exact this
                 have t2 : w2.cell? ⟨g, l * 4 + 2, none⟩ = some (.string ⟨#[]⟩) := by
                   have := hcl (l * 4 + 2) (.string ⟨#[]⟩) (by rw [List.getElem?_append_right (by omega), hlY, Nat.add_sub_cancel_left]; rfl)
                   injection hge with hge; injection hge with hge; rw [hge]; exact this
                 have t3 : w2.cell? ⟨g, l * 4 + 3, none⟩ = some (.slice none 0 0) := by
                   have := hcl (l * 4 + 3) (.slice none 0 0) (by rw [List.getElem?_append_right (by omega), hlY, Nat.add_sub_cancel_left]; rfl)
                   injection hge with hge; injection hge with hge; rw [hge]; exact this
                 have tf := frozen_of hcc
                 have s5 : w2.cell? ⟨sb, n * 4 + 3, none⟩ = some (.slice A l mG) := (hgrow.cell_far ⟨sb, n * 4 + 3, none⟩ HZs.out (fun e => HGs.out sb (.inl e.symm) rfl)).trans HP.out
                 have sf : w2.frozen? ⟨sb, n * 4 + 3, none⟩ = false := (hgrow.frozen_far ⟨sb, n * 4 + 3, none⟩ HZs.out (fun e => HGs.out sb (.inl e.symm) rfl)).trans HPF.out
                 clear hcl hge hcc)
  all_goals
    have HF := Lib.hid hown
    clear t0 t1 t2 t3 tf s5 sf hown
    go_wp2_with fail
    go_ret
    refine ⟨rfl, Z.drew, w2, g, cap, _, HZW.out, hgZ, HF.out, rfl, hgrow, hat, ?_⟩
    unfold ndC
    first
      | with_reducible exact put_a w2 g (l * 4) _ _ _ _ sb (n * 4 + 3) _ hsg
      | with_reducible exact put_b w2 g (l * 4) _ _ _ _ sb (n * 4 + 3) _ hsg
end Go.Proofs.Ytbnlcgnpkodieaa

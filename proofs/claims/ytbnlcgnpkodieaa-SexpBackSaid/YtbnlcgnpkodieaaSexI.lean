/- Contract: take, of a (, and of a ) that ends no list. -/
import Derived.Test.YtbnlcgnpkodieaaSexG
namespace Go.Proofs.Ytbnlcgnpkodieaa
open Go.RowKit

set_option linter.unusedVariables false
set_option linter.unusedSimpArgs false

theorem take_bad (rb mb : Nat) (w : World) (x y : Int) (T : List Nat) (sb cs : Nat)
    (h0 : w.heap[rb]? = some (.cells #[.pointer (some ⟨mb, 0, none⟩), .slice (some ⟨sb, 0, none⟩) 1 cs] 67 (0, 0))) :
    Calls Try.prog 30 #[.pointer (some ⟨rb, 0, none⟩), .agg #[.int .u8 2, .int .i64 x, .int .i64 y, .string (str T)]] w fun e w' => e = .returned (.int .i64 4) ∧ Below w.heap.size w w' := by
  obtain ⟨W, hW⟩ : ∃ W, w.alloc (.cells #[.int .u8 2, .int .i64 x, .int .i64 y, .string (str T)] 69) = W := ⟨_, rfl⟩
  have hB : Below w.heap.size w W := hW ▸ (Below.refl _ w).alloc (Nat.le_refl _) _
  have hx : W.heap[w.heap.size]? = some (.cells #[.int .u8 2, .int .i64 x, .int .i64 y, .string (str T)] 69 (0, 0)) := hW ▸ lone_new w _ _
  have z0 : W.cell? ⟨w.heap.size, 0, none⟩ = some (.int .u8 2) := by rw [cell_of hx]; rfl
  have z1 : W.cell? ⟨w.heap.size, 1, none⟩ = some (.int .i64 x) := by rw [cell_of hx]; rfl
  have z3 : W.cell? ⟨w.heap.size, 3, none⟩ = some (.string (str T)) := by rw [cell_of hx]; rfl
  have hr := (hB.block rb (kind_lt h0)).trans h0
  have r0 : W.cell? ⟨rb, 0, none⟩ = some (.pointer (some ⟨mb, 0, none⟩)) := by rw [cell_of hr]; rfl
  have r1 : W.cell? ⟨rb, 1, none⟩ = some (.slice (some ⟨sb, 0, none⟩) 1 cs) := by rw [cell_of hr]; rfl
  obtain ⟨V, hV⟩ : ∃ V, W.alloc (.cells #[.int .u8 2, .int .i64 x, .string (str T), .slice none 0 0] 28) = V := ⟨_, rfl⟩
  have hBV : Below W.heap.size W V := hV ▸ (Below.refl _ W).alloc (Nat.le_refl _) _
  have hnV : V.heap[W.heap.size]? = some (.cells #[.int .u8 2, .int .i64 x, .string (str T), .slice none 0 0] 28 (0, 0)) := hV ▸ lone_new W _ _
  have hbV := Lib.hid (hB.trans (hBV.mono hB.size))
  have y0 := keep_below hBV _ _ z0
  have hsame : V.setCell ⟨W.heap.size, 3, none⟩ (.slice none 0 0) = V := setCell_same hnV rfl
  have nf : ∀ j, V.frozen? ⟨W.heap.size, j, none⟩ = false := frozen_of hnV
  obtain ⟨⟨n0, n1⟩, n2, n3⟩ := BoxN.of hnV
  clear h0 hx hr hB hBV hnV
  go_enter Try.func30, Try.ntmps30
  go_wp2
  go_ret
  exact ⟨rfl, hbV.out⟩

set_option maxRecDepth 100000 in
set_option maxHeartbeats 8000000 in
theorem take_open (B rb mb : Nat) (m : Mt) (w : World) (x y : Int) (T : List Nat) (sb n cs l : Nat) (ys : List Value) (hln : l = n + 1)
    (h0 : w.heap[rb]? = some (.cells #[.pointer (some ⟨mb, 0, none⟩), .slice (some ⟨sb, 0, none⟩) l cs] 67 (0, 0)))
    (hG : w.ownsRow B 28 4 (.slice (some ⟨sb, 0, none⟩) l cs) l ys) (hl : l < 70000) (hm : MtAt mb m w) (hB0 : B ≤ w.heap.size) :
    Calls Try.prog 30 #[.pointer (some ⟨rb, 0, none⟩), .agg #[.int .u8 1, .int .i64 x, .int .i64 y, .string (str T)]] w fun e w' =>
      ∃ w1, TakeP B rb 1 (.slice (some ⟨sb, 0, none⟩) l cs) l ys 0 x [] (.slice none 0 0) w (.returned (.int .i64 0)) w1 ∧ Paid mb (m.deep (l : Int)).1 (m.deep (l : Int)).2 w1 e w' := by
  obtain ⟨i0, hi, hz0, hz1, hz2⟩ := info_nd
  obtain ⟨W, hW⟩ : ∃ W, w.alloc (.cells #[.int .u8 1, .int .i64 x, .int .i64 y, .string (str T)] 69) = W := ⟨_, rfl⟩
  have hB : Below w.heap.size w W := hW ▸ (Below.refl _ w).alloc (Nat.le_refl _) _
  have hx : W.heap[w.heap.size]? = some (.cells #[.int .u8 1, .int .i64 x, .int .i64 y, .string (str T)] 69 (0, 0)) := hW ▸ lone_new w _ _
  have z0 : W.cell? ⟨w.heap.size, 0, none⟩ = some (.int .u8 1) := by rw [cell_of hx]; rfl
  have z1 : W.cell? ⟨w.heap.size, 1, none⟩ = some (.int .i64 x) := by rw [cell_of hx]; rfl
  have z3 : W.cell? ⟨w.heap.size, 3, none⟩ = some (.string (str T)) := by rw [cell_of hx]; rfl
  have hr := (hB.block rb (kind_lt h0)).trans h0
  have r0 : W.cell? ⟨rb, 0, none⟩ = some (.pointer (some ⟨mb, 0, none⟩)) := by rw [cell_of hr]; rfl
  have r1 : W.cell? ⟨rb, 1, none⟩ = some (.slice (some ⟨sb, 0, none⟩) l cs) := by rw [cell_of hr]; rfl
  have hrl : rb < w.heap.size := kind_lt h0
  obtain ⟨V, hV⟩ : ∃ V, W.alloc (.cells #[.int .u8 1, .int .i64 x, .string (str T), .slice none 0 0] 28) = V := ⟨_, rfl⟩
  have hBV : Below W.heap.size W V := hV ▸ (Below.refl _ W).alloc (Nat.le_refl _) _
  have hnV : V.heap[W.heap.size]? = some (.cells #[.int .u8 1, .int .i64 x, .string (str T), .slice none 0 0] 28 (0, 0)) := hV ▸ lone_new W _ _
  have hbV : Below w.heap.size w V := hB.trans (hBV.mono hB.size)
  have y0 := keep_below hBV _ _ z0
  have y1 := keep_below hBV _ _ z1
  have hrV := (hbV.block rb hrl).trans h0
  have v0 : V.cell? ⟨rb, 0, none⟩ = some (.pointer (some ⟨mb, 0, none⟩)) := by rw [cell_of hrV]; rfl
  have v1 : V.cell? ⟨rb, 1, none⟩ = some (.slice (some ⟨sb, 0, none⟩) l cs) := by rw [cell_of hrV]; rfl
  have n0 : V.cell? ⟨W.heap.size, 0, none⟩ = some (.int .u8 1) := by rw [cell_of hnV]; rfl
  have n1 : V.cell? ⟨W.heap.size, 1, none⟩ = some (.int .i64 x) := by rw [cell_of hnV]; rfl
  have n2 : V.cell? ⟨W.heap.size, 2, none⟩ = some (.string (str T)) := by rw [cell_of hnV]; rfl
  have n3 : V.cell? ⟨W.heap.size, 3, none⟩ = some (.slice none 0 0) := by rw [cell_of hnV]; rfl
  have hsame : V.setCell ⟨W.heap.size, 3, none⟩ (.slice none 0 0) = V := setCell_same hnV rfl
  have nf : ∀ j, V.frozen? ⟨W.heap.size, j, none⟩ = false := frozen_of hnV
  have hgV : V.ownsRow B 28 4 (.slice (some ⟨sb, 0, none⟩) l cs) l ys := ownsRow_block hG fun b hb => by
    obtain ⟨_, c, hc⟩ := ownsRow_kind2 hG b hb
    exact hbV.block b (kind_lt hc)
  obtain ⟨Z, hZ⟩ : ∃ Z, V.alloc (.cells #[.int .u8 0, .int .i64 0, .string ⟨#[]⟩, .slice none 0 0] 28) = Z := ⟨_, rfl⟩
  have hnZ : Z.heap[V.heap.size]? = some (.cells #[.int .u8 0, .int .i64 0, .string ⟨#[]⟩, .slice none 0 0] 28 (0, 0)) := hZ ▸ lone_new V _ _
  have hbZ : Below V.heap.size V Z := hZ ▸ (Below.refl _ V).alloc (Nat.le_refl _) _
  have hbZw : Below w.heap.size w Z.drew := (hbV.trans (hbZ.mono hbV.size)).drew
  have hgZ : Z.drew.ownsRow B 28 4 (.slice (some ⟨sb, 0, none⟩) l cs) l ys := ownsRow_block hgV fun b hb => by
    obtain ⟨_, c, hc⟩ := ownsRow_kind2 hgV b hb
    exact hbZ.block b (kind_lt hc)
  have hnews : ∀ j u, [Value.int .u8 0, .int .i64 0, .string ⟨#[]⟩, .slice none 0 0][j]? = some u → Z.drew.cell? ((⟨V.heap.size, 0, none⟩ : Addr).add j) = some u := World.news_of_block (cs := #[.int .u8 0, .int .i64 0, .string ⟨#[]⟩, .slice none 0 0]) hnZ
  have hone : ∀ u ∈ [Value.int .u8 0, .int .i64 0, .string ⟨#[]⟩, .slice none 0 0], u.oneCell' = true := by
    intro u hu; simp only [List.mem_cons, List.not_mem_nil, or_false] at hu; rcases hu with rfl | rfl | rfl | rfl <;> rfl
  have hl63 : l + 1 ≤ maxLen := by unfold maxLen; omega
  have hlby : (l + 1) * 56 ≤ 140737488355328 := by omega
  have hBZ : B ≤ Z.drew.heap.size := Nat.le_trans hB0 hbZw.size
  have hlY := hG.1
  have hrZ : Z.drew.heap[rb]? = some (.cells #[.pointer (some ⟨mb, 0, none⟩), .slice (some ⟨sb, 0, none⟩) l cs] 67 (0, 0)) := (hbZw.block rb hrl).trans h0
  have hmZ : MtAt mb m Z.drew := hm.keep hbZw
  have hrb : ∀ g, (Value.slice (some ⟨sb, 0, none⟩) l cs).ownBlock = some g ∨ g = Z.drew.heap.size → rb ≠ g ∧ mb ≠ g := fun g h => by
    rcases h with h | h
    · obtain ⟨_, c, hc⟩ := ownsRow_kind2 hgZ g (by simp [blk1, h])
      refine ⟨fun e => ?_, fun e => ?_⟩
      · rw [← e, hrZ] at hc; cases hc
      · unfold MtAt at hmZ; rw [← e, hmZ] at hc; cases hc
    · have h1 := kind_lt hrZ
      have h2 := hmZ.lt
      omega
  have hmr : mb ≠ rb := fun e => by unfold MtAt at hmZ; rw [e, hrZ] at hmZ; cases hmZ
  have HRB := Lib.hid hrb
  have HRZ := Lib.hid hrZ
  have HMZ := Lib.hid hmZ
  have HMR := Lib.hid hmr
  have HZW := Lib.hid hbZw

  have q4 := keep_below hbZ _ _ y1
  have q5 := keep_below hbZ _ _ v1
  have CD := Lib.hid (fun w1 h => deep_any mb m (l : Int) w1 h)
  generalize m.deep (l : Int) = md at *
  have e1 : (l : Int) - 1 = (n : Int) := by omega
  have e7 : (n : Int) + 1 = (l : Int) := by omega
  have hnb : n < 70000 := by omega
  have hll : (l : Int) < (l : Int) + 1 := by omega
  clear h0 hG hm hx hr hB hBV hnV hrV hgV hnZ hbZ hrb hrZ hmZ hmr hbV hbZw hln
  go_enter Try.func30, Try.ntmps30
  go_wp2_with fail
  go_region_law (refine step_append_lies _ rfl (.tmp 30) (.tmp 35) 22 rfl B 28 i0 _ 4 56 Try.underlying22 hi hz0 hz1 hz2 rfl (by decide) _ _ _ rfl hgZ ⟨V.heap.size, 0, none⟩ 1 1 _ rfl rfl hnews hone (by decide) hl63 hlby hBZ _ rfl ?_
                 intro g cap w2 hown hgrow hat hlt
                 have hsg : rb ≠ g := (HRB.out g hat).1
                 have hgs : g ≠ rb := Ne.symm hsg
                 obtain ⟨g', hge, _, _, hcl⟩ := row_cells hown (Nat.succ_pos _)
                 obtain ⟨_, cc, hcc⟩ := ownsRow_kind2 hown g (by simp [blk1, Value.ownBlock])
                 have t0 : w2.cell? ⟨g, l * 4, none⟩ = some (.int .u8 0) := by
                   have := hcl (l * 4) (.int .u8 0) (by rw [List.getElem?_append_right (by omega), hlY, Nat.sub_self]; rfl)
                   injection hge with hge; injection hge with hge; rw [hge]; exact this
                 have t1 : w2.cell? ⟨g, l * 4 + 1, none⟩ = some (.int .i64 0) := by
                   have := hcl (l * 4 + 1) (.int .i64 0) (by rw [List.getElem?_append_right (by omega), hlY, Nat.add_sub_cancel_left]; rfl)
                   injection hge with hge; injection hge with hge; rw [hge]; exact this
                 have t2 : w2.cell? ⟨g, l * 4 + 2, none⟩ = some (.string ⟨#[]⟩) := by
                   have := hcl (l * 4 + 2) (.string ⟨#[]⟩) (by rw [List.getElem?_append_right (by omega), hlY, Nat.add_sub_cancel_left]; rfl)
                   injection hge with hge; injection hge with hge; rw [hge]; exact this
                 have t3 : w2.cell? ⟨g, l * 4 + 3, none⟩ = some (.slice none 0 0) := by
                   have := hcl (l * 4 + 3) (.slice none 0 0) (by rw [List.getElem?_append_right (by omega), hlY, Nat.add_sub_cancel_left]; rfl)
                   injection hge with hge; injection hge with hge; rw [hge]; exact this
                 have tf := frozen_of hcc
                 have hr2 := (hgrow.block rb (kind_lt HRZ.out) (fun e => (HRB.out rb (.inl e.symm)).1 rfl)).trans HRZ.out
                 have s0 : w2.cell? ⟨rb, 0, none⟩ = some (.pointer (some ⟨mb, 0, none⟩)) := by rw [cell_of hr2]; rfl
                 have s5 : w2.cell? ⟨rb, 1, none⟩ = some (.slice (some ⟨sb, 0, none⟩) l cs) := by rw [cell_of hr2]; rfl
                 have sf : w2.frozen? ⟨rb, 1, none⟩ = false := frozen_of hr2 1
                 have HR2 := Lib.hid hr2
                 clear hcl hge hcc hr2)
  all_goals
    have HF := Lib.hid hown
    clear t0 t1 t2 t3 tf s0 s5 sf hown
    first
      | (obtain ⟨w1, hw1⟩ : ∃ w1, w1 = (((((w2.setCell ⟨g, l * 4, none⟩ (.int .u8 0)).setCell ⟨g, l * 4 + 1, none⟩ (.int .i64 x)).setCell ⟨g, l * 4 + 2, none⟩ (.string ⟨#[]⟩)).setCell ⟨g, l * 4 + 3, none⟩ (.slice none 0 0)).setCell ⟨rb, 1, none⟩ (.slice (some ⟨g, 0, none⟩) (l + 1) cap)) := ⟨_, rfl⟩
         rw [← hw1]
         have hput : Put w2 g (l * 4) [.int .u8 0, .int .i64 x, .string ⟨#[]⟩, .slice none 0 0] rb 1 (.slice (some ⟨g, 0, none⟩) (l + 1) cap) w1 := by rw [hw1]; exact put_a w2 g (l * 4) _ _ _ _ rb 1 _ hsg)
      | (obtain ⟨w1, hw1⟩ : ∃ w1, w1 = (((((w2.setCell ⟨rb, 1, none⟩ (.slice (some ⟨g, 0, none⟩) (l + 1) cap)).setCell ⟨g, l * 4, none⟩ (.int .u8 0)).setCell ⟨g, l * 4 + 1, none⟩ (.int .i64 x)).setCell ⟨g, l * 4 + 2, none⟩ (.string ⟨#[]⟩)).setCell ⟨g, l * 4 + 3, none⟩ (.slice none 0 0)) := ⟨_, rfl⟩
         rw [← hw1]
         have hput : Put w2 g (l * 4) [.int .u8 0, .int .i64 x, .string ⟨#[]⟩, .slice none 0 0] rb 1 (.slice (some ⟨g, 0, none⟩) (l + 1) cap) w1 := by rw [hw1]; exact put_b w2 g (l * 4) _ _ _ _ rb 1 _ hsg)
    clear hw1
    have hr1 := hput.2.2.2.2.2.2 _ _ HR2.out
    have hm1 : MtAt mb m w1 := (hput.2.2.2.2.1 mb (HRB.out g hat).2 HMR.out).trans ((hgrow.block mb HMZ.out.lt (fun e => (HRB.out mb (.inl e.symm)).2 rfl)).trans HMZ.out)
    have p0 : w1.cell? ⟨rb, 0, none⟩ = some (.pointer (some ⟨mb, 0, none⟩)) := by rw [cell_of hr1]; rfl
    have HPUT := Lib.hid hput
    have cd := CD.out w1 hm1
    clear hr1 hm1 hput
    go_wp2_with fail
    refine cd.mono ?_
    rintro e w3 ⟨rfl, hm3, hj3⟩
    go_wp2
    go_ret
    exact ⟨w1, ⟨rfl, Z.drew, w2, g, cap, _, HZW.out, hgZ, HF.out, rfl, hgrow, hat, HPUT.out⟩, rfl, hm3, hj3⟩
end Go.Proofs.Ytbnlcgnpkodieaa

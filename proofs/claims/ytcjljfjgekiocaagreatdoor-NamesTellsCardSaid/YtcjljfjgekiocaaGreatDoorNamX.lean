/- Contract: Copy. -/
import Derived.Test.YtcjljfjgekiocaaGreatDoorNamW
import Derived.Test.YtcjljfjgekiocaaGreatDoorNamM
import Derived.Deep.CutRange
namespace Go.Proofs.YtcjljfjgekiocaaGreatDoor
open Go.RowKit Go.Shelf

set_option linter.unusedVariables false
set_option linter.unusedSimpArgs false

theorem TabV.mono {w : World} {B B' g : Nat} {T : Tb} {a b s : Value} {xs : List Value} {k0 : List Nat} (h : TabV w B g T a b s xs k0) (hb : B' ≤ B) : TabV w B' g T a b s xs k0 := by
  refine ⟨h.cell, Nat.le_trans hb h.base, nown_mono h.dn hb, nown_mono h.dv hb, nown_mono h.row hb, ?_, h.nd⟩
  have : ∀ {ss : List Scp} {xs : List Value} {ks : List Nat}, ScC w B ss xs ks → ScC w B' ss xs ks := by
    intro ss
    induction ss with
    | nil => exact fun h => h
    | cons s r ih => exact fun ⟨v, u, zs, k2, e1, e2, h3, h4, h5⟩ => ⟨v, u, zs, k2, e1, e2, nown_mono h3 hb, nown_mono h4 hb, ih h5⟩
  exact this h.scs
theorem copy_none (w : World) (B : Nat) (hB : B ≤ w.heap.size) : Calls Tryz.prog 18 #[.pointer none] w fun e w' => e = .returned (.pointer (some ⟨w.heap.size, 0, none⟩)) ∧ TabAt w' B w.heap.size ⟨[], [], [], 0⟩ [w.heap.size] ∧ Below w.heap.size w w' := by
  have C := Lib.hid (new_any w B hB)
  go_enter Tryz.func18, Tryz.ntmps18
  go_wp2_with fail
  refine C.out.mono ?_
  rintro e w1 ⟨rfl, h1, h2⟩
  have H1 := Lib.hid h1
  clear h1
  go_wp2_with fail
  go_ret
  exact ⟨rfl, H1.out, h2⟩
def CpyI (w : World) (T : Tb) (j g2 : Nat) (wr : World) : Prop := (∃ ks2, TabAt wr w.heap.size g2 { T with sc := T.sc.take j } ks2) ∧ Below w.heap.size w wr
theorem cpy_start {w w1 : World} {T : Tb} {v u : Value} (ho : OwnE w1 w.heap.size v T.dn) (hu : OwnE w1 w.heap.size u T.dv) (hnd : (nblk v ++ nblk u).Nodup) (hb : Below w.heap.size w w1) :
    CpyI w T 0 w1.heap.size (w1.alloc (.cells #[v, u, .slice none 0 0, .int .i64 ((T.nx : Nat) : Int)] 65)) := by
  have ha := (Below.refl w1.heap.size w1).alloc (Nat.le_refl _) (.cells #[v, u, .slice none 0 0, .int .i64 ((T.nx : Nat) : Int)] 65)
  have hk : ∀ k ∈ nblk v ++ nblk u, k < w1.heap.size := fun k hk => by
    rcases List.mem_append.1 hk with q | q
    · obtain ⟨-, c, q2⟩ := nown_kind ho k q
      exact kind_lt2 q2
    · obtain ⟨-, c, q2⟩ := nown_kind hu k q
      exact kind_lt2 q2
  refine ⟨⟨_, v, u, .slice none 0 0, [], [], ⟨lone_new w1 _ _, hb.size, nown_below ho ha, nown_below hu ha, by rw [List.take_zero]; exact World.ownsRow_nil _ _ _ _, by rw [List.take_zero]; exact ⟨rfl, rfl⟩, ?_⟩, rfl⟩, hb.trans (ha.mono hb.size)⟩
  have e : tks w1.heap.size v u (.slice none 0 0) [] = w1.heap.size :: (nblk v ++ nblk u) := by simp [tks, nblk, Value.ownBlock]
  rw [e, List.nodup_cons]
  exact ⟨fun q => Nat.lt_irrefl _ (hk _ q), hnd⟩
theorem grown_nb2 {R w8 : World} {o : Obj} {b : Value} (h : (R.alloc o).grownBy w8 b.ownBlock) : Nb (fun k => k ∈ nblk b) R w8 :=
  Nb.trans (P := fun _ => False) (P' := fun k => k ∈ nblk b) (Nb.of ((Below.refl _ R).alloc (Nat.le_refl _) o)) ⟨h.os, h.tape, h.output, h.size, fun k hk hne => h.block k hk fun e => hne (by rw [nblk, ← e]; simp)⟩ (fun _ h => h.elim) (fun _ _ h => h)
/-- one more scope in the copy -/
theorem cpy_step {w w5 w6 : World} {T : Tb} {j g2 c9 g8 : Nat} {a b s v5 u5 : Value} {xs : List Value} {k0 : List Nat} {x : Scp} (hx : T.sc[j]? = some x) (h : TabV w5 w.heap.size g2 { T with sc := T.sc.take j } a b s xs k0) (hb : Below w.heap.size w w5)
    (hn : Nb (fun k => k ∈ nblk s) w5 w6) (ho : w6.ownsRow w.heap.size 62 2 (.slice (some ⟨g8, 0, none⟩) (j + 1) c9) (j + 1) (xs ++ [v5, u5])) (hk : s.ownBlock = some g8 ∨ w5.heap.size ≤ g8)
    (h8 : OwnE w5 w.heap.size v5 x.1) (h5 : OwnE w5 w.heap.size u5 x.2) (hN : (nblk v5 ++ nblk u5).Nodup) (hf : ∀ k ∈ nblk v5 ++ nblk u5, k ∉ tks g2 a b s k0) : CpyI w T (j + 1) g2 (w6.setCell ⟨g2, 2, none⟩ (.slice (some ⟨g8, 0, none⟩) (j + 1) c9)) := by
  have hjl : (T.sc.take j).length = j := by
    rw [List.length_take]
    have := (List.getElem?_eq_some_iff.1 hx).1
    omega
  have hlt : ∀ k ∈ nblk v5 ++ nblk u5, k < w5.heap.size := fun k hk => by
    rcases List.mem_append.1 hk with q | q
    · obtain ⟨-, c, q2⟩ := nown_kind h8 k q
      exact kind_lt2 q2
    · obtain ⟨-, c, q2⟩ := nown_kind h5 k q
      exact kind_lt2 q2
  have h1 := h.setS (l := x.1) (lv := x.2) hn (by show w6.ownsRow _ _ _ _ ((T.sc.take j).length + 1) _; rw [hjl]; exact ho) (fun k q => nblk_at hk q) h8 h5 hN fun k q => ⟨hlt k q, hf k q⟩
  have e : T.sc.take (j + 1) = T.sc.take j ++ [(x.1, x.2)] := by rw [List.take_add_one, hx]; rfl
  refine ⟨⟨_, _, _, _, _, _, by rw [e]; exact h1, rfl⟩, ?_⟩
  have hg2 : w.heap.size ≤ g2 := h.base
  refine Below.setCell (p := ⟨g2, 2, none⟩) (hb.trans (hn.below hb.size fun k q => ?_)) hg2 _
  exact (h.kind k (by simp [tks, q])).1
def CpyP (w : World) (B : Nat) (T : Tb) (e : Ending) (w' : World) : Prop := ∃ g2 ks2, e = .returned (.pointer (some ⟨g2, 0, none⟩)) ∧ TabAt w' B g2 T ks2 ∧ (∀ k ∈ ks2, w.heap.size ≤ k) ∧ Below w.heap.size w w'
set_option maxRecDepth 100000 in
set_option maxHeartbeats 8000000 in
theorem copy_any (g : Nat) (T : Tb) (ks : List Nat) (w : World) (B : Nat) (hBw : B ≤ w.heap.size) (h : TabAt w B g T ks) (hG : GoodT T) : Calls Tryz.prog 18 #[.pointer (some ⟨g, 0, none⟩)] w (CpyP w B T) := by
  obtain ⟨a, b, s, xs, k0, h, rfl⟩ := h
  have HV := Lib.hid h
  have HG := Lib.hid hG
  obtain ⟨A1, c1, rfl, hr1⟩ := h.dn.form
  obtain ⟨A2, c2, rfl, hr2⟩ := h.dv.form
  obtain ⟨A3, c3, rfl⟩ := nslice_form h.row
  have C1 := Lib.hid (fun W (hb : Below w.heap.size w W) => copied_any A1 A2 c1 c2 T.dn T.dv W (hr1.below hb) (hr2.below hb) (by have := hG.dl; omega) (by have := hG.dl; have := hG.vl; omega))
  have hsl := hG.sl
  obtain ⟨m, hm⟩ : ∃ m, m = T.sc.length := ⟨_, rfl⟩
  obtain ⟨n1, hn1⟩ : ∃ n, n = T.dn.length := ⟨_, rfl⟩
  obtain ⟨n2, hn2⟩ : ∃ n, n = T.dv.length := ⟨_, rfl⟩
  rw [← hn1, ← hn2] at C1
  have hcell := h.cell
  rw [← hm, ← hn1, ← hn2] at hcell
  have HC := Lib.hid hcell
  have HM := Lib.hid hm
  have x0 := cell_of_row w g 0 _ _ _ hcell
  have x1 := cell_of_row w g 1 _ _ _ hcell
  have x2 := cell_of_row w g 2 _ _ _ hcell
  have x3 := cell_of_row w g 3 _ _ _ hcell
  simp only [List.getElem?_toArray, List.getElem?_cons_zero, List.getElem?_cons_succ] at x0 x1 x2 x3
  have hgw : g < w.heap.size := kind_lt2 hcell
  rw [← hm] at hsl
  have s0 := And.intro x0 (And.intro x1 x3)
  have hbD : Below w.heap.size w w.drew := (Below.refl _ w).drew
  clear h hG hr1 hr2 hcell hn1 hn2 hm x0 x1 x3
  go_enter Tryz.func18, Tryz.ntmps18
  go_upto_region 3 with fail
  go_cut [3] from 3 to 19 (fun s3 wx => ∃ g2, s3 = .pointer (some ⟨g2, 0, none⟩) ∧ CpyI w T 0 g2 wx)
  case first =>
    go_region_held3 (fun w' => w'.cell? ⟨g, 0, none⟩ = some (.slice A1 n1 c1) ∧ w'.cell? ⟨g, 1, none⟩ = some (.slice A2 n2 c2) ∧ w'.cell? ⟨g, 3, none⟩ = some (.int .i64 ((T.nx : Nat) : Int))) (first | exact s0 | exact s1 | exact s2) (first
      | (go_at_call 48; (with_reducible refine (C1.out _ hbD).mono ?_); rintro e w1 ⟨⟨v1, u1, rfl, ho1, hu1, hnd1⟩, hb1⟩; obtain ⟨D1, d1, rfl⟩ := nslice_form ho1; obtain ⟨D2, d2, rfl⟩ := nslice_form hu1; have hX1 := (hb1.block g hgw).trans HC.out; have s1 := And.intro (cell_of_row w1 g 0 _ _ _ hX1) (And.intro (cell_of_row w1 g 1 _ _ _ hX1) (cell_of_row w1 g 3 _ _ _ hX1)); have hX2 := (((Below.refl w1.heap.size w1).alloc (Nat.le_refl _) (.cells #[.slice D1 T.dn.length d1, .slice D2 T.dv.length d2, .slice none 0 0, .int .i64 ((T.nx : Nat) : Int)] 65)).block g (Nat.lt_of_lt_of_le hgw hb1.size)).trans hX1; have s2 := And.intro (cell_of_row _ g 0 _ _ _ hX2) (And.intro (cell_of_row _ g 1 _ _ _ hX2) (cell_of_row _ g 3 _ _ _ hX2))))
    all_goals
      have hs1 : w.heap.size ≤ w1.heap.size := hb1.size
      have HP := Lib.hid (cpy_start (T := T) (by first | exact ho1 | exact nown_mono ho1 (Nat.le_refl _)) (by first | exact hu1 | exact nown_mono hu1 (Nat.le_refl _)) hnd1 (hbD.trans hb1))
      clear s0 s1 s2 hX1 hX2 ho1 hu1 hnd1 hb1 x2
      go_wp2_with fail
      go_meet
      exact ⟨_, rfl, HP.out⟩
  case rest =>
    obtain ⟨g2, rfl, hI⟩ := hcut
    have HI := Lib.hid hI
    have y2 := (hI.2.cell (p := ⟨g, 2, none⟩) hgw).trans x2
    clear hI s0 x2 hbD
    obtain ⟨i0, hi, hz0, hz1, hz2⟩ := info_parts infoBlk3
    go_wp2_with fail
    go_loopw [25] (fun s wr => ∃ (j : Nat), s = .int .i64 (j : Int) ∧ j ≤ m ∧ CpyI w T j g2 wr) (fun s _ => m - (intOf s).toNat)
    case atStart => exact ⟨0, rfl, Nat.zero_le _, HI.out⟩
    case round =>
      obtain ⟨j, rfl, hj, hI⟩ := hrel
      have HJ := Lib.hid hI
      by_cases hlt : j < m
      · obtain ⟨x, hx⟩ : ∃ x, T.sc[j]? = some x := ⟨_, List.getElem?_eq_getElem (by rw [← HM.out]; exact hlt)⟩
        obtain ⟨v, u, q1, q2, q3, q4⟩ := HV.out.scs.at hx
        obtain ⟨E1, e1, rfl, r1⟩ := q3.form
        obtain ⟨E2, e2, rfl, r2⟩ := q4.form
        have hrw := HV.out.row
        rw [← HM.out] at hrw
        obtain ⟨gs, rfl, -, hgs, hcl⟩ := nrow_cells hrw (by omega)
        have hbr : Below w.heap.size w wr := hI.2
        have y3 := (hbr.cell (p := ⟨gs, j * 2, none⟩) hgs).trans (hcl _ _ q1)
        have y4 := (hbr.cell (p := ⟨gs, j * 2 + 1, none⟩) hgs).trans (hcl _ _ q2)
        have hltI : (j : Int) < (m : Int) := by omega
        obtain ⟨W0, hW0⟩ : ∃ W0, wr.alloc (.cells #[.slice E1 x.1.length e1, .slice E2 x.2.length e2] 62) = W0 := ⟨_, rfl⟩
        have hb0 : Below w.heap.size w W0 := hW0 ▸ hbr.alloc hbr.size _
        have hgd : x.1.length = x.2.length ∧ x.1.length ≤ 1048576 := by
          have h1 := HG.out.nl j
          have h2 := (HG.out.nm j).2.2.2.2
          have hjn : j ≠ T.sc.length := by rw [← HM.out]; omega
          unfold nmAt vrAt at h2
          unfold nmAt at h1
          rw [if_neg hjn, hx] at h1
          rw [if_neg hjn, if_neg hjn, hx] at h2
          exact ⟨h2, h1⟩
        have CC := Lib.hid (copied_any E1 E2 e1 e2 x.1 x.2 W0.drew (r1.below hb0.drew) (r2.below hb0.drew) hgd.2 (by omega))
        obtain ⟨⟨ks2, a', b', s', xs', k0', hV', rfl⟩, -⟩ := hI
        obtain ⟨A9, c9, rfl⟩ := nslice_form hV'.row
        have hjl : (T.sc.take j).length = j := by rw [List.length_take, ← HM.out]; omega
        change TabV wr w.heap.size g2 { T with sc := T.sc.take j } a' b' (.slice A9 (T.sc.take j).length c9) xs' k0' at hV'
        rw [hjl] at hV'
        have hS0 : W0.heap[wr.heap.size]? = some (.cells #[.slice E1 x.1.length e1, .slice E2 x.2.length e2] 62 (0, 0)) := hW0 ▸ lone_new wr _ _
        have hV0 : TabV W0 w.heap.size g2 { T with sc := T.sc.take j } a' b' _ xs' k0' := hV'.keep fun k hk => hW0 ▸ ((Below.refl wr.heap.size wr).alloc (Nat.le_refl _) _).block k (hV'.kind k hk).2
        have hc0 := hV0.cell
        have hrow0 := hV0.row
        rw [show ({ T with sc := T.sc.take j } : Tb).sc.length = j from hjl] at hrow0
        have z2 := cell_of_row W0 g2 2 _ _ _ hc0
        have z5 := cell_of_row W0 wr.heap.size 0 _ _ _ hS0
        have z6 := cell_of_row W0 wr.heap.size 1 _ _ _ hS0
        simp only [List.getElem?_toArray, List.getElem?_cons_zero, List.getElem?_cons_succ] at z2 z5 z6
        have HV0 := Lib.hid hV0
        have HC0 := Lib.hid hc0
        have HX := Lib.hid hx
        have HB0 := Lib.hid hb0
        have HJL := Lib.hid hjl
        have HS0 := Lib.hid hS0
        have hjw : wr.heap.size < W0.heap.size := kind_lt2 hS0
        have hg0 : g2 < W0.heap.size := kind_lt2 hc0
        clear hV' hV0 hc0 hx hcl q1 q2 q3 q4 r1 r2 hrw hbr hb0 hgd hrow0 hjl y2 hS0
        go_wp2_with fail
        go_region_law (first
          | (go_simp; (with_reducible refine CC.out.mono ?_); rintro e w5 ⟨⟨v5, t5, rfl, ho5, hu5, hnd5⟩, hb5⟩
             obtain ⟨F1, f1, rfl⟩ := nslice_form ho5
             obtain ⟨F2, f2, rfl⟩ := nslice_form hu5
             have hg5 : g2 < w5.heap.size := Nat.lt_of_lt_of_le hg0 hb5.size
             have HC5 := Lib.hid ((hb5.block g2 hg0).trans HC0.out)
             have p5 := cell_of_row w5 g2 2 _ _ _ HC5.out
             simp only [List.getElem?_toArray, List.getElem?_cons_zero, List.getElem?_cons_succ] at p5
             have HV5 := Lib.hid (HV0.out.keep (w' := w5) fun k hk => hb5.block k (HV0.out.kind k hk).2)
             have hrow5 := (HV5.out.alloc (W := w5.alloc (.cells #[.slice F1 x.1.length f1, .slice F2 x.2.length f2] 62)) rfl).row
             rw [show ({ T with sc := T.sc.take j } : Tb).sc.length = j from HJL.out] at hrow5
             have hnews5 : ∀ j u, [Value.slice F1 x.1.length f1, .slice F2 x.2.length f2][j]? = some u → (w5.alloc (.cells #[.slice F1 x.1.length f1, .slice F2 x.2.length f2] 62)).cell? ((⟨w5.heap.size, 0, none⟩ : Addr).add j) = some u := World.news_of_block (cs := #[.slice F1 x.1.length f1, .slice F2 x.2.length f2]) (lone_new w5 _ _)
             have hone5 : ∀ u ∈ [Value.slice F1 x.1.length f1, .slice F2 x.2.length f2], u.oneCell' = true := fun u hu => by simp at hu; rcases hu with rfl | rfl <;> rfl
             have hB05 : w.heap.size ≤ w5.heap.size := Nat.le_trans HB0.out.size hb5.size
             have hBZ5 : w.heap.size ≤ (w5.alloc (.cells #[.slice F1 x.1.length f1, .slice F2 x.2.length f2] 62)).heap.size := by simp; omega
             have HO5 := Lib.hid ho5
             have HU5 := Lib.hid hu5
             have HN5 := Lib.hid hnd5
             have HB5 := Lib.hid hb5
             clear ho5 hu5 hnd5 hb5)
          | (refine step_append_lies _ rfl (.tmp 33) (.tmp 36) 63 rfl w.heap.size 62 i0 _ 2 48 Tryz.underlying63 hi hz0 hz1 hz2 rfl (by decide) _ _ _ rfl hrow5 ⟨w5.heap.size, 0, none⟩ 1 1 [.slice F1 x.1.length f1, .slice F2 x.2.length f2] rfl rfl hnews5 hone5 (by decide) (by unfold maxLen; omega) (by omega) hBZ5 _ rfl ?_
             intro g8 c8 w8 hown8 hgrow8 hat8 hlt8
             have hnb8 := grown_nb2 hgrow8
             have hc8 := (hnb8.block g2 hg5 (tks_keepA HV5.out).2.2.1).trans HC5.out
             have p2 := cell_of_row w8 g2 2 _ _ _ hc8
             simp only [List.getElem?_toArray, List.getElem?_cons_zero, List.getElem?_cons_succ] at p2
             have pf : w8.frozen? ⟨g2, 2, none⟩ = false := frozen_of hc8 2
             have HO8 := Lib.hid hown8
             have HN8 := Lib.hid hnb8
             have HA8 := Lib.hid hat8
             clear hown8 hgrow8 hat8 hlt8 hnb8 hc8))
        all_goals
          have HP : Hid (CpyI w T (j + 1) g2 (w8.setCell ⟨g2, 2, none⟩ (.slice (some ⟨g8, 0, none⟩) (j + 1) c8))) :=
            cpy_step HX.out HV5.out (HB0.out.drew.trans (HB5.out.mono (show w.heap.size ≤ W0.heap.size from HB0.out.size))) HN8.out HO8.out (HA8.out.imp id fun h => by rw [h]; simp)
              (nown_mono HO5.out (show w.heap.size ≤ W0.heap.size from HB0.out.size)) (nown_mono HU5.out (show w.heap.size ≤ W0.heap.size from HB0.out.size)) HN5.out fun k hk hk2 => by
                have h1 := (HV0.out.kind k hk2).2
                have h2 : W0.heap.size ≤ k := by
                  rcases List.mem_append.1 hk with q | q
                  · exact (nown_kind HO5.out k q).1
                  · exact (nown_kind HU5.out k q).1
                omega
          clear p2 pf p5 hrow5 hnews5 hone5 HO8 HN8 HA8 HV5 HC5 z2 z5 z6 y3 y4
          go_wp2_with fail
          refine ⟨⟨j + 1, by go_num, by omega, HP.out⟩, by simp [intOf]; omega⟩
      · have hltI : ¬ (j : Int) < (m : Int) := by omega
        have hje : j = m := by omega
        have HJE := Lib.hid hje
        clear hI hje
        go_wp2_with fail
        go_ret
        obtain ⟨⟨ks2, h2⟩, hb2⟩ := HJ.out
        rw [HJE.out, HM.out, List.take_length] at h2
        obtain ⟨a', b', s', xs', k0', hV', rfl⟩ := h2
        exact ⟨g2, _, rfl, ⟨_, _, _, _, _, hV'.mono hBw, rfl⟩, fun k hk => (hV'.kind k hk).1, hb2⟩
end Go.Proofs.YtcjljfjgekiocaaGreatDoor

/- Contract: Open, where it opens. -/
import Derived.Test.YtcjljfjgekiocaaGreatDoorNamN
import Derived.Deep.CutRange
namespace Go.Proofs.YtcjljfjgekiocaaGreatDoor
open Go.RowKit Go.Shelf Go.Lib

set_option linter.unusedVariables false
set_option linter.unusedSimpArgs false

theorem infoIntN : (Tryz.prog.info? 3).map (fun i => (i.zero, i.size, i.bytes)) = some (some (.int .i64 0), 1, 8) := by kernel_rfl
theorem infoBlk3 : (Tryz.prog.info? 62).map (fun i => (i.zero, i.size, i.bytes)) = some (some (.agg #[.slice none 0 0, .slice none 0 0]), 2, 48) := by kernel_rfl
/-- the variables -/
def ics (l : List Ent) : List Value := l.map fun e => .int .i64 ((e.2 : Nat) : Int)
def OOk (w : World) (B g : Nat) (T : Tb) (ks : List Nat) (ns : List (List Nat)) (e : Ending) (w' : World) : Prop :=
  ∃ v l' ks', e = .returned (.tuple #[v, .int .i64 0]) ∧ l'.Perm (bnd ns T.nx) ∧ SrN l' ∧ TabAt w' B g { T with sc := T.sc ++ [(l', bnd ns T.nx)], nx := T.nx + ns.length } ks' ∧ (∀ k ∈ ks', k ∈ ks ∨ w.heap.size ≤ k) ∧ Nb (fun k => k ∈ ks) w w' ∧
    w'.ownsRow w.heap.size 3 1 v ns.length (ics (bnd ns T.nx)) ∧ ∀ k ∈ nblk v, k ∉ ks'
theorem open_facts {w w1 w2 w3 : World} {B g : Nat} {T : Tb} {ks : List Nat} {v8 v5 : Value} {l lv : List Ent} (hT : TabAt w B g T ks) (hB : B ≤ w.heap.size) (hs1 : w.heap.size ≤ w1.heap.size) (hb2 : Below w.heap.size w w2) (h8 : OwnE w2 w1.heap.size v8 l) (h5 : OwnE w2 w1.heap.size v5 lv)
    (hb3 : Below (w2.alloc (.cells #[v8, v5] 62)).heap.size (w2.alloc (.cells #[v8, v5] 62)) w3) :
    TabAt w3 B g T ks ∧ w3.heap[w2.heap.size]? = some (.cells #[v8, v5] 62 (0, 0)) ∧ OwnE w3 B v8 l ∧ OwnE w3 B v5 lv ∧ (∀ k ∈ nblk v8 ++ nblk v5, k < w3.heap.size ∧ k ∉ ks ∧ w.heap.size ≤ k ∧ k ≠ w2.heap.size) ∧ (∀ k ∈ ks, k ≠ w2.heap.size) ∧ w2.heap.size < w3.heap.size := by
  have ha := (Below.refl w2.heap.size w2).alloc (Nat.le_refl _) (.cells #[v8, v5] 62)
  have hlt : w2.heap.size < (w2.alloc (.cells #[v8, v5] 62)).heap.size := by simp
  have hb := ha.trans (hb3.mono (Nat.le_of_lt hlt))
  have hk : ∀ k ∈ nblk v8 ++ nblk v5, w1.heap.size ≤ k ∧ k < w2.heap.size := fun k q => by
    rcases List.mem_append.1 q with q | q
    · obtain ⟨q1, c, q2⟩ := nown_kind h8 k q
      exact ⟨q1, kind_lt2 q2⟩
    · obtain ⟨q1, c, q2⟩ := nown_kind h5 k q
      exact ⟨q1, kind_lt2 q2⟩
  refine ⟨hT.keep fun k q => ?_, (hb3.block _ hlt).trans (lone_new w2 _ _), nown_mono (nown_below h8 hb) (by omega), nown_mono (nown_below h5 hb) (by omega), fun k q => ?_, fun k q => ?_, Nat.lt_of_lt_of_le hlt hb3.size⟩
  · have h1 := (hT.kind k q).2
    exact (hb.block k (Nat.lt_of_lt_of_le h1 hb2.size)).trans (hb2.block k h1)
  · have h1 := hk k q
    have h2 := hb3.size
    exact ⟨by omega, fun r => by have := (hT.kind k r).2; omega, by omega, by omega⟩
  · have h1 := (hT.kind k q).2
    have h2 := hb2.size
    omega
set_option maxRecDepth 100000 in
set_option maxHeartbeats 8000000 in
theorem open_ok (g : Nat) (T : Tb) (ks : List Nat) (ns : List (List Nat)) (A : Option Addr) (cap : Nat) (w : World) (B : Nat) (hBw : B ≤ w.heap.size) (h : TabAt w B g T ks) (hr : RdS w A ns) (hok : OkS ns) (hl : ns.length ≤ 1048576) (h0 : 0 < ns.length) (hn : (ns.any fun x => !isN x) = false) (hx : T.nx ≤ 1048576) (hd : ns.Nodup) (hq : T.sc.length < 64) (hq2 : ns.length ≤ 1048576 - T.nx) :
    Calls Tryz.prog 12 #[.pointer (some ⟨g, 0, none⟩), .slice A ns.length cap] w (OOk w B g T ks ns) := by
  have HT := Lib.hid h
  have C := someNo_any ns A cap w hr hok hl
  rw [hn] at C
  have HC := Lib.hid C
  have hok2 : ∀ x ∈ ns, Codes x ∧ x.length ≤ 64 := fun x hx => ⟨(hok x hx).1, by
    have := List.any_eq_false.1 hn x hx
    simp at this
    exact isN_len this⟩
  have HBO : Hid (∀ w1, Below w.heap.size w w1 → Calls Tryz.prog 40 #[.slice A ns.length cap, .int .i64 ((T.nx : Nat) : Int)] w1 (BoundP w1 (bnd ns T.nx))) := fun w1 hb => bound_any ns T.nx A cap w1 (hr.below hb) hok2 hl h0 hx
  have HTW : Hid (∀ (W : World) (l' : List Ent) (A8 : Option Addr) (c8 : Nat) (v5 : Value), l'.Perm (bnd ns T.nx) → SrW l' → RdE W A8 l' → Calls Tryz.prog 41 #[.agg #[.slice A8 l'.length c8, v5]] W fun e w' => e = .returned (.bool false) ∧ Below W.heap.size W w') := fun W l' A8 c8 v5 hp hs hr8 => by
    have := hasTwice_any l' v5 A8 c8 W hr8 (fun e he => (hok2 e.1 (bnd_mem (hp.mem_iff.1 he)).1).1) (by rw [hp.length_eq, bnd_len]; exact hl)
    rwa [adj_dup hp hs, decide_eq_false (fun h => h hd)] at this
  have HNX : Hid (∀ w1, Below w.heap.size w w1 → w1.cell? ⟨g, 3, none⟩ = some (.int .i64 ((T.nx : Nat) : Int))) := fun w1 hb => by
    obtain ⟨a, b, s, xs, k0, hV, -⟩ := HT.out.below hb
    exact cell_of_row w1 g 3 _ _ _ hV.cell
  have HSC : Hid (∀ w1, Below w.heap.size w w1 → ∃ A2 c2, w1.cell? ⟨g, 2, none⟩ = some (.slice A2 T.sc.length c2)) := fun w1 hb => by
    obtain ⟨a, b, s, xs, k0, hV, -⟩ := HT.out.below hb
    obtain ⟨A2, c2, rfl⟩ := nslice_form hV.row
    exact ⟨A2, c2, cell_of_row w1 g 2 _ _ _ hV.cell⟩
  have HLF : Hid (∀ w1, Below w.heap.size w w1 → Calls Tryz.prog 35 #[.pointer (some ⟨g, 0, none⟩)] w1 fun e w' => e = .returned (.int .i64 ((1048576 - T.nx : Nat) : Int)) ∧ w' = w1) := fun w1 hb1 => left_any g T _ w1 B (HT.out.below hb1) hx
  obtain ⟨n, hnn⟩ : ∃ n, n = ns.length := ⟨_, rfl⟩
  rw [← hnn] at hl h0 HC HBO hq2 ⊢
  have HNL := Lib.hid hnn
  obtain ⟨f, hff⟩ : ∃ f, f = 1048576 - T.nx := ⟨_, rfl⟩
  rw [← hff] at hq2 HLF
  have HFL := Lib.hid hff
  obtain ⟨m2, hmm⟩ : ∃ m2, m2 = T.sc.length := ⟨_, rfl⟩
  rw [← hmm] at hq HSC
  have HML := Lib.hid hmm
  have h0i : ((n : Int) == 0) = false := by simp; omega
  clear h hr hok hn C hok2 hnn hff hmm
  go_enter Tryz.func12, Tryz.ntmps12
  go_wp2_with fail
  refine HC.out.mono ?_
  rintro e w1 ⟨rfl, hb1⟩
  have x3 := HNX.out w1 hb1
  have HB1 := Lib.hid hb1
  clear hb1
  go_wp2_with fail
  refine (HBO.out _ HB1.out).mono ?_
  rintro e w2 ⟨⟨v8, v5, l', rfl, hp, hs, h8, h5, hN⟩, hb2⟩
  obtain ⟨A8, c8, rfl, hrd⟩ := h8.form
  obtain ⟨A5, c5, rfl⟩ := nslice_form h5
  have HB2 := Lib.hid (HB1.out.trans (hb2.mono HB1.out.size))
  have HH8 := Lib.hid h8
  have HT2 := Lib.hid (HTW.out (w2.alloc (.cells #[.slice A8 l'.length c8, .slice A5 (bnd ns T.nx).length c5] 62)) l' A8 c8 (.slice A5 (bnd ns T.nx).length c5) hp hs (hrd.below ((Below.refl _ w2).alloc (Nat.le_refl _) _)))
  have HPP := Lib.hid hp
  have HSS := Lib.hid hs
  have HH5 := Lib.hid h5
  have HNN := Lib.hid hN
  have HM8 := Lib.hid hp.length_eq
  clear hp hs h8 h5 hN hb2 hrd x3 HTW
  go_wp2_with fail
  refine HT2.out.mono ?_
  rintro e w3 ⟨rfl, hb3⟩
  have HB3 := Lib.hid ((HB2.out.alloc HB2.out.size (.cells #[.slice A8 l'.length c8, .slice A5 (bnd ns T.nx).length c5] 62)).trans (hb3.mono (Nat.le_trans HB2.out.size (by simp))))
  obtain ⟨A2, c2, x2⟩ := HSC.out w3 HB3.out
  have HX3 := Lib.hid (open_facts HT.out hBw HB1.out.size HB2.out HH8.out HH5.out hb3)
  clear hb3 HT2
  have h64 : ¬ m2 = 64 := by omega
  have h64i : ((m2 : Int) == 64) = false := by simp; omega
  have hfi : ¬ ((f : Int) < (n : Int)) := by omega
  have hfd : decide (f < n) = false := by simp; omega
  have hfd2 : decide ((f : Int) < (n : Int)) = false := by simp; omega
  go_wp2_with fail
  refine (HLF.out _ HB3.out).mono ?_
  rintro e w4 ⟨rfl, rfl⟩
  go_wp2_with fail
  clear x2
  obtain ⟨hT4, hS4, h84, h54, hf4, hk4, hl4⟩ := HX3.out
  obtain ⟨a, b, s, xs, k0, hV4, rfl⟩ := hT4
  obtain ⟨S, hS⟩ : ∃ S, S = w2.heap.size := ⟨_, rfl⟩
  rw [← hS] at hS4 hf4 hk4 hl4 ⊢
  obtain ⟨As, cs, rfl⟩ := nslice_form hV4.row
  have x2 := cell_of_row w4 g 2 _ _ _ hV4.cell
  have e0 := cell_of_row w4 S 0 _ _ _ hS4
  have e1 := cell_of_row w4 S 1 _ _ _ hS4
  simp only [List.getElem?_toArray, List.getElem?_cons_zero, List.getElem?_cons_succ] at x2 e0 e1
  have hgR : g < w4.heap.size := kind_lt2 hV4.cell
  obtain ⟨i0, hi, hz0, hz1, hz2⟩ := info_parts infoBlk3
  have hVZ : TabV (w4.alloc (.cells #[.slice A8 l'.length c8, .slice A5 (bnd ns T.nx).length c5] 62)).drew B g _ _ _ _ xs k0 := hV4.alloc rfl
  have hownb := hVZ.row
  have hnews : ∀ j u, [Value.slice A8 l'.length c8, .slice A5 (bnd ns T.nx).length c5][j]? = some u → (w4.alloc (.cells #[.slice A8 l'.length c8, .slice A5 (bnd ns T.nx).length c5] 62)).drew.cell? ((⟨w4.heap.size, 0, none⟩ : Addr).add j) = some u := World.news_of_block (cs := #[.slice A8 l'.length c8, .slice A5 (bnd ns T.nx).length c5]) (show (w4.alloc _).heap[w4.heap.size]? = _ from lone_new w4 _ _)
  have hone : ∀ u ∈ [Value.slice A8 l'.length c8, .slice A5 (bnd ns T.nx).length c5], u.oneCell' = true := fun u hu => by simp at hu; rcases hu with rfl | rfl <;> rfl
  have hml := HML.out
  have hl63 : T.sc.length + 1 ≤ maxLen := by unfold maxLen; omega
  have hlby : (T.sc.length + 1) * 48 ≤ 140737488355328 := by omega
  have hBZ : B ≤ (w4.alloc (.cells #[.slice A8 l'.length c8, .slice A5 (bnd ns T.nx).length c5] 62)).drew.heap.size := by
    have h2 := HB3.out.size
    show B ≤ (w4.alloc _).heap.size
    simp
    omega
  have HV4 := Lib.hid hV4
  have HS4 := Lib.hid hS4
  have H84 := Lib.hid h84
  have H54 := Lib.hid h54
  have HF4 := Lib.hid hf4
  have HK4 := Lib.hid hk4
  clear hVZ hV4 hS4 h84 h54 hf4 hk4 hml hS
  go_cut [48] from 41 to 50 (fun s48 wx => CutO w B g S { T with sc := T.sc ++ [(l', bnd ns T.nx)] } (.slice A8 l'.length c8) (.slice A5 (bnd ns T.nx).length c5) (bnd ns T.nx) (tks g a b (.slice As T.sc.length cs) k0) wx)
  case first =>
    go_region_law (refine step_append_lies _ rfl (.tmp 45) (.tmp 47) 63 rfl B 62 i0 _ 2 48 Tryz.underlying63 hi hz0 hz1 hz2 rfl (by decide) _ _ _ rfl hownb ⟨w4.heap.size, 0, none⟩ 1 1 [.slice A8 l'.length c8, .slice A5 (bnd ns T.nx).length c5] rfl rfl hnews hone (by decide) hl63 hlby hBZ _ rfl ?_
                   intro g8 c9 w8 hown8 hgrow8 hat8 hlt8
                   have hnb8 := grown_nb rfl hgrow8
                   have hc8 := (hnb8.block g hgR (tks_keepA HV4.out).2.2.1).trans HV4.out.cell
                   have hd8 := (hnb8.block S hl4 (fun h => HK4.out S (by simp only [tks, List.mem_cons, List.mem_append]; exact .inr (.inl (.inr h))) rfl)).trans HS4.out
                   have z1 := cell_of_row w8 g 2 _ _ _ hc8
                   simp only [List.getElem?_toArray, List.getElem?_cons_zero, List.getElem?_cons_succ] at z1
                   have zf : w8.frozen? ⟨g, 2, none⟩ = false := frozen_of hc8 2
                   have HO8 := Lib.hid hown8
                   have HN8 := Lib.hid hnb8
                   have HA8 := Lib.hid hat8
                   have HD8 := Lib.hid hd8
                   clear hown8 hgrow8 hat8 hlt8 hnb8 hc8 hd8)
    all_goals
      have HP : Hid (CutO w B g S { T with sc := T.sc ++ [(l', bnd ns T.nx)] } (.slice A8 l'.length c8) (.slice A5 (bnd ns T.nx).length c5) (bnd ns T.nx) (tks g a b (.slice As T.sc.length cs) k0) (w8.setCell ⟨g, 2, none⟩ (.slice (some ⟨g8, 0, none⟩) (T.sc.length + 1) c9))) :=
        cutO HV4.out (fun _ h => .inl h) (Nb.of HB3.out) HN8.out HO8.out (fun k hk => nblk_at (HA8.out.imp id fun h => by rw [h]; show w4.heap.size ≤ (w4.alloc _).heap.size; simp) hk) H84.out H54.out HNN.out HF4.out HK4.out hl4 HD8.out
      clear z1 zf x2 e0 e1 hownb hnews hone HO8 HN8 HA8 HD8
      go_wp2_with fail
      go_meet
      exact HP.out
  case rest =>
    obtain ⟨ks5, hT5, hs5, hn5, hS5, hc5, hv5k, hown5⟩ := hcut
    obtain ⟨a', b', s', xs', k0', hV5, rfl⟩ := hT5
    have hSg : S ≠ g := fun e => hS5 (by simp [tks, e])
    have hvg : ∀ k ∈ nblk (.slice A5 (bnd ns T.nx).length c5), k ≠ g := fun k hk e => by
      obtain ⟨-, c, hc⟩ := nown_kind hown5 k hk
      rw [e, hV5.cell] at hc
      cases hc
    have x3 : wc.cell? ⟨g, 3, none⟩ = some (.int .i64 ((T.nx : Nat) : Int)) := cell_of_row wc g 3 _ _ _ hV5.cell
    have f3 : wc.frozen? ⟨g, 3, none⟩ = false := frozen_of hV5.cell 3
    have hV9 := hV5.setN (T.nx + n)
    have hw9 : ((T.nx + n : Nat) : Int) = (T.nx : Int) + (n : Int) := by omega
    rw [hw9] at hV9
    have HT9 : Hid (TabAt (wc.setCell ⟨g, 3, none⟩ (.int .i64 ((T.nx : Int) + (n : Int)))) B g { T with sc := T.sc ++ [(l', bnd ns T.nx)], nx := T.nx + n } (tks g a' b' s' k0')) := ⟨_, _, _, _, _, hV9, rfl⟩
    have HO9 : Hid (OwnE (wc.setCell ⟨g, 3, none⟩ (.int .i64 ((T.nx : Int) + (n : Int)))) B (.slice A5 (bnd ns T.nx).length c5) (bnd ns T.nx)) := nown_block hown5 fun k hk => Below.heap_setCell _ _ _ _ (show k ≠ g from hvg k hk)
    have x5 : (wc.setCell ⟨g, 3, none⟩ (.int .i64 ((T.nx : Int) + (n : Int)))).cell? ⟨S, 1, none⟩ = some (.slice A5 (bnd ns T.nx).length c5) := cell_of_row _ S 1 _ _ _ ((Below.heap_setCell _ _ _ _ (show S ≠ g from hSg)).trans hc5)
    have HN9 : Hid (Nb (fun k => k ∈ tks g a b (.slice As T.sc.length cs) k0) w (wc.setCell ⟨g, 3, none⟩ (.int .i64 ((T.nx : Int) + (n : Int))))) := Nb.trans hn5 (Nb.set _ _ _ _ (fun k => k = g) rfl) (fun _ h => h) fun k _ h => by simp [tks, h]
    have HS5 := Lib.hid hs5
    clear hV9 hV5 hc5 hown5 hn5 hs5 hvg hv5k x2 e0 e1 hownb hnews hone hBZ hi hz0 hz1 hz2 i0
    obtain ⟨i0, hi, hz0, hz1, hz2⟩ := info_parts infoIntN
    have hrd9 := HO9.out.rd
    obtain ⟨lb, hlb⟩ : ∃ lb, lb = bnd ns T.nx := ⟨_, rfl⟩
    have hlen : lb.length = n := by rw [hlb, bnd_len]; exact HNL.out.symm
    rw [← hlb] at hrd9 x5 ⊢
    have HLB := Lib.hid hlb
    rw [hlen] at x5 ⊢
    have HLEN := Lib.hid hlen
    have HRD := Lib.hid hrd9
    clear hlb hlen hrd9
    go_upto_region 13 with fail
    generalize wc.setCell ⟨g, 3, none⟩ (.int .i64 ((T.nx : Int) + (n : Int))) = W at *
    clear x3 f3
    go_wp2_with fail
    go_loopw [4, 63] (fun o s wr => ∃ (j c : Nat) (D : Option Addr), o = .slice D j c ∧ s = .int .i64 (j : Int) ∧ j ≤ n ∧ wr.ownsRow W.heap.size 3 1 (.slice D j c) j (ics (lb.take j)) ∧ Below W.heap.size W wr) (fun _ s _ => n - (intOf s).toNat)
    case atStart => exact ⟨0, 0, none, rfl, rfl, Nat.zero_le _, World.ownsRow_nil _ _ _ _, Below.refl _ _⟩
    case round =>
      obtain ⟨j, c, D, rfl, rfl, hj, hown, hB⟩ := hrel
      have HB := Lib.hid hB
      have HOW := Lib.hid hown
      by_cases hlt : j < n
      · obtain ⟨x, hx⟩ : ∃ x, lb[j]? = some x := ⟨_, List.getElem?_eq_getElem (by rw [HLEN.out]; exact hlt)⟩
        obtain ⟨b5, o5, rfl, hq5, hcell⟩ := HRD.out.at hx
        have hc1 := (HB.out.cell (p := ⟨b5, o5 + j * 2, none⟩) hq5).trans (hcell j x hx).1
        have hc2 := (HB.out.cell (p := ⟨b5, o5 + j * 2 + 1, none⟩) hq5).trans (hcell j x hx).2
        have hltI : (j : Int) < (n : Int) := by omega
        have hsr := HB.out.size
        have hx2 := Lib.hid hx
        have hown2 := (hown.alloc (.cells #[.string (str x.1), .int .i64 ((x.2 : Nat) : Int)] 68)).alloc (.cells #[.int .i64 ((x.2 : Nat) : Int)] 3)
        obtain ⟨Y, hY⟩ : ∃ Y, wr.alloc (.cells #[.string (str x.1), .int .i64 ((x.2 : Nat) : Int)] 68) = Y := ⟨_, rfl⟩
        have hnew : ∀ k u, [Value.int .i64 ((x.2 : Nat) : Int)][k]? = some u → (Y.alloc (.cells #[.int .i64 ((x.2 : Nat) : Int)] 3)).cell? ((⟨Y.heap.size, 0, none⟩ : Addr).add k) = some u := World.news_of_block (cs := #[.int .i64 ((x.2 : Nat) : Int)]) (lone_new Y _ _)
        have hYs : Y.heap.size = wr.heap.size + 1 := by rw [← hY]; simp
        rw [hYs, ← hY] at hnew
        have HYB : Hid (Below W.heap.size W ((wr.alloc (.cells #[.string (str x.1), .int .i64 ((x.2 : Nat) : Int)] 68)).alloc (.cells #[.int .i64 ((x.2 : Nat) : Int)] 3))) := (HB.out.alloc hsr _).alloc (Nat.le_trans hsr (by simp)) _
        clear hcell hx hown hB hY hYs
        go_wp2_with (at_builtin; refine wpList_append_own _ rfl _ _ 30 rfl W.heap.size 3 i0 _ 1 8 Tryz.underlying30 hi hz0 hz1 hz2 rfl (by decide) _ _ _ rfl hown2 ⟨wr.heap.size + 1, 0, none⟩ 1 1 [.int .i64 ((x.2 : Nat) : Int)] rfl rfl hnew (by simp [Value.oneCell']) (by unfold maxLen; omega) (by omega) (by simp; omega) ?_; intro v' w8 hown' hgrow hgone; clear hgone)
        have HO8 := Lib.hid hown'
        have HB8 := Lib.hid (HYB.out.grown hgrow (Nat.le_trans hsr (by simp; omega)) fun k hk => (HOW.out.lt k hk).1)
        obtain ⟨D', c', rfl⟩ := nslice_form hown'
        clear hown' hgrow hnew hown2
        go_wp2_with fail
        refine ⟨⟨j + 1, c', D', rfl, by go_num, by omega, ?_, HB8.out⟩, by simp [intOf]; omega⟩
        have := HO8.out
        rw [List.take_add_one, hx2.out]
        unfold ics at this ⊢
        rw [List.map_append]
        exact this
      · have hltI : ¬ (j : Int) < (n : Int) := by omega
        have hje : j = n := by omega
        clear hown hB
        have HJE := Lib.hid hje
        clear hje
        go_wp2_with fail
        go_ret2
        unfold OOk
        rw [← HNL.out]
        refine ⟨_, l', _, rfl, HPP.out, adjF_srt HSS.out ?_, HT9.out.below HB.out, HS5.out, Nb.trans (P' := fun _ => False) HN9.out (Nb.of HB.out) (fun _ h => h) (fun _ _ h => h.elim), ?_, ?_⟩
        · rw [adj_dup HPP.out HSS.out]
          exact decide_eq_false fun h => h hd
        · have h1 := HOW.out
          rw [HJE.out, List.take_of_length_le (by rw [HLEN.out]; exact Nat.le_refl _), HLB.out] at h1
          rw [HJE.out]
          exact nown_mono h1 HN9.out.size
        · intro k hk hk2
          obtain ⟨h1, -⟩ := nown_kind HOW.out k hk
          have := (HT9.out.kind k hk2).2
          omega
end Go.Proofs.YtcjljfjgekiocaaGreatDoor

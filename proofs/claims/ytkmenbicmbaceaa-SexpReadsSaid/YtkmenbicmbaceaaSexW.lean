/- The reference's Read, its contract. -/
import Derived.Test.YtkmenbicmbaceaaSexV
namespace Go.Proofs.Ytkmenbicmbaceaa
open Go.RowKit

set_option linter.unusedVariables false
set_option linter.unusedSimpArgs false

def RReadQ (d : Int) (L : List Nat) (w : World) (e : Ending) (w' : World) : Prop :=
  (∃ v ks, e = .returned (.tuple #[v, .int .i64 (refR d L).at', .int .i64 (refR d L).D, .int .i64 (refR d L).e]) ∧ KidsD w' w.heap.size v (refR d L).F ks) ∧ Below w.heap.size w w'
theorem Below.of_just {n g : Nat} {w0 w w' : World} (h : Just g w w') (hg : n ≤ g) (hn : n ≤ w0.heap.size) (hb : Below n w0 w) : Below n w0 w' :=
  ⟨h.os.trans hb.os, h.tape.trans hb.tape, h.output.trans hb.output, Nat.le_trans hb.size h.size, fun q hq => (h.block q (Nat.lt_of_lt_of_le (Nat.lt_of_lt_of_le hq hn) hb.size) (by omega)).trans (hb.block q hq)⟩
theorem wdsIn_row {w w2 : World} {B cp : Nat} {A : Option Addr} {S : List (Nat × List Nat)} (h : w.ownsRow B 81 4 (.slice A S.length cp) S.length (wcells S)) (hb : Below w.heap.size w w2) : WdsIn w2 A S := fun k x hx => by
  have hk : k < S.length := (List.getElem?_eq_some_iff.1 hx).1
  obtain ⟨gw, rfl, h0, h1, hcell⟩ := row_cells h (by omega)
  obtain ⟨_, c, hc⟩ := ownsRow_kind2 h gw (by simp [blk1, Value.ownBlock])
  exact ⟨gw, rfl, Nat.lt_of_lt_of_le h1 hb.size, ⟨c, (hb.block gw h1).trans hc⟩, fun q u hq hu => (World.cell?_of_block (a := ⟨gw, k * 4 + q, none⟩) (hb.block gw h1)).trans (hcell _ _ ((wcells_get hx q hq).trans hu))⟩
theorem results_four {fn : Func} {t u v x : Tmp} (h : fn.results = #[.tmp t, .tmp u, .tmp v, .tmp x]) (tmps : Array Value) (P : Program) (w : World) :
    (results fn tmps).run P w = .ok (.tuple #[tmps.getD t undef, tmps.getD u undef, tmps.getD v undef, tmps.getD x undef]) w := by
  simp [results, h]
set_option maxRecDepth 100000 in
set_option maxHeartbeats 8000000 in
theorem rread_any (L : List Nat) (d : Int) (w : World) (hc : Codes L) (hl : L.length ≤ 65536) (h0 : 0 ≤ d) (h1 : d ≤ 65536) :
    Calls Try.prog 19 #[.string (str L), .int .i64 d] w (RReadQ d L w) := by
  have cw := rwords_any L hc (by omega) w
  by_cases hE : wE L = 0
  rotate_left
  · have hrd : Hid (refR d L = ⟨.nil, (wAt L : Int), 0, (wE L : Int)⟩) := if_neg hE
    have e1 : ((wE L : Int) == 0) = false := by simp; omega
    have e2 : ((wE L : Int) != 0) = true := by simp; omega
    go_enter Try.func19, Try.ntmps19
    go_wp2_with fail
    refine cw.mono ?_
    rintro e w1 ⟨⟨v, rfl, hrow⟩, hb1⟩
    have HB := Lib.hid hb1
    clear hrow hb1 cw
    generalize wE L = ee at *
    generalize wAt L = aa at *
    go_wp2
    ((try simp only [Exit.inBlock, Exit.then]); refine bodyPost_ret (results_four rfl _ _ _) rfl ?_)
    unfold RReadQ
    rw [hrd.out]
    exact ⟨⟨_, [], rfl, KidsD.nil _ _⟩, HB.out⟩
  · have hW : wL L = wds L := by
      unfold wE at hE
      unfold wL
      rw [if_neg (by omega)] at hE ⊢
      split at hE
      · rename_i h; rw [if_pos h]
      · cases hE
    have hA : wAt L = 0 := by
      unfold wE at hE
      unfold wAt
      rw [if_neg (by omega)] at hE ⊢
      split at hE
      · rename_i h; rw [if_pos h]
      · cases hE
    have hwl := wds_len L
    unfold RWordsPost at cw
    rw [hE, hA, hW] at cw
    have hfine : ∀ x ∈ wds L, Codes x.2 ∧ x.2.length < 9223372036854775807 := fun x hx => by
      obtain ⟨k, hk⟩ := List.getElem?_of_mem hx
      obtain ⟨hat, hxl, hxt⟩ := At.of_get hk
      exact ⟨by rw [hxt]; exact codes_take (codes_drop hc _) _, by rw [hxt, List.length_take, List.length_drop]; omega⟩
    have hrd : Hid (∀ R : Nd4, R = nds d ((wds L).length + 1) 0 (wds L) 0 → refR d L = match R.er with
        | some (e, a) => ⟨.nil, if a < 0 then (L.length : Int) else a, R.D, e⟩
        | none => match R.l with
          | [] => ⟨R.F, 0, R.D, 0⟩
          | x :: _ => ⟨.nil, (x.1 : Int), R.D, 4⟩) := fun R hR => by
      subst hR; unfold refR; rw [if_pos hE]
      cases (nds d ((wds L).length + 1) 0 (wds L) 0).er with
      | some p => rfl
      | none => cases (nds d ((wds L).length + 1) 0 (wds L) 0).l <;> rfl
    have hsz := str_size L
    have hsz2 : ((str L).size : Int) = (L.length : Int) := by omega
    obtain ⟨S, hS⟩ : ∃ S, S = wds L := ⟨_, rfl⟩
    rw [← hS] at cw hwl hfine hrd
    have HF := Lib.hid hfine
    clear hS hfine hE hA hW hc
    have hS0 : S.drop 0 = S := List.drop_zero
    have C := Lib.hid (fun (A : Option Addr) (g cp : Nat) w2 hr hw => nodes_any (S.length + 1) (S.length + 1) g A cp S d 0 0 0 w2 (Nat.le_refl _) (by omega) (Nat.zero_le _) (by omega) (by omega) (by omega) h0 h1 (by omega) (by omega) HF.out hr hw)
    have HS0 := Lib.hid hS0
    clear hS0
    rw [HS0.out] at C
    obtain ⟨R, hR⟩ : ∃ R, R = nds d (S.length + 1) 0 S 0 := ⟨_, rfl⟩
    rw [← hR] at C
    have hrd := Lib.hid (hrd.out R hR)
    have HER := Lib.hid (show ∀ e, R.er = some e → e.1 ≠ 0 from fun e he => by rw [hR] at he; exact nds_er he)
    clear hR
    go_enter Try.func19, Try.ntmps19
    go_wp2_with fail
    refine cw.mono ?_
    rintro e w1 ⟨⟨v, rfl, hrow⟩, hb1⟩
    obtain ⟨A, cp, rfl⟩ := slice_form hrow
    obtain ⟨N1, hN1⟩ : ∃ N1, w1.alloc (.cells #[.slice A S.length cp, .int .i64 0, .int .i64 d, .int .i64 0, .int .i64 0, .int .i64 0] 79) = N1 := ⟨_, rfl⟩
    have hbN : Below w1.heap.size w1 N1 := hN1 ▸ (Below.refl _ w1).alloc (Nat.le_refl _) _
    have hrN : RdrAt w1.heap.size A S.length cp ((0 : Nat) : Int) d 0 0 0 N1 := hN1 ▸ lone_new w1 _ _
    have hwN : WdsIn N1 A S := wdsIn_row hrow hbN
    have HRN := Lib.hid hrN
    have HWN := Lib.hid hwN
    have HBN := Lib.hid (hb1.trans (hbN.mono hb1.size))
    have HB1 := Lib.hid hb1
    clear hbN hrN hwN hrow hb1 cw
    go_wp2_with fail
    refine (C.out A _ cp N1 HRN.out HWN.out).mono ?_
    rintro e w2 ⟨⟨vk, F1, kk, rfl, hkk, hF1⟩, hcs, hj⟩
    have HG := Lib.hid (show w.heap.size ≤ w1.heap.size from HB1.out.size)
    have HJ := Lib.hid (show ∀ w3, Just w1.heap.size N1 w3 → Below w.heap.size w w3 from fun w3 h => Below.of_just h HG.out (Nat.le_refl _) HBN.out)
    have HK := Lib.hid (hkk.base HBN.out.size)
    have HJ2 := Lib.hid hj
    have hW2 := HWN.out.just hj (fun c e => by have h9 := HRN.out; unfold RdrAt at h9; rw [h9] at e; cases e)
    have HW2 := Lib.hid hW2
    have HF1 := Lib.hid hF1
    obtain ⟨kA, kc, rfl, -⟩ := hkk.kds
    clear hkk hj hW2 hF1 C
    rcases hcs with ⟨her1, I, hI, hdr, hr2⟩ | ⟨e, a, her1, I, hI, hr2⟩
    · by_cases hlt : I < S.length
      · obtain ⟨x, hx⟩ : ∃ x, S[I]? = some x := ⟨_, List.getElem?_eq_getElem hlt⟩
        have hdrop : S.drop I = x :: S.drop (I + 1) := by rw [List.drop_eq_getElem?_toList_append, hx]; rfl
        have hres : Hid (refR d L = ⟨.nil, (x.1 : Int), R.D, 4⟩) := by
          have h := hrd.out
          rw [her1, ← hdr, hdrop] at h
          exact h
        obtain ⟨gw, rfl, hgw, ⟨cw, hcw⟩, hcell⟩ := HW2.out I x hx
        have HR2 := Lib.hid hr2
        have hltI : (I : Int) < (S.length : Int) := by omega
        have hI0 : (0 : Int) ≤ (I : Int) := by omega
        have hgne : gw ≠ w1.heap.size := fun e => by have h9 := HR2.out; unfold RdrAt at h9; rw [← e, hcw] at h9; cases h9
        obtain ⟨k0, k1, k2, k3, k4, k5, kf⟩ := hr2.facts
        obtain ⟨VA, hVA⟩ : ∃ VA, w2.setCell ⟨w1.heap.size, 5, none⟩ (.int .i64 4) = VA := ⟨_, rfl⟩
        have hRA : RdrAt w1.heap.size (some ⟨gw, 0, none⟩) S.length cp (I : Int) d R.D 0 4 VA := hVA ▸ hr2.setE 4
        have hc1 : VA.cell? ⟨gw, I * 4 + 1, none⟩ = some (.int .i64 (x.1 : Int)) := (World.cell?_of_block (a := ⟨gw, I * 4 + 1, none⟩) (hVA ▸ Below.heap_setCell _ _ _ _ hgne)).trans (hcell 1 _ (by decide) rfl)
        obtain ⟨a0, a1, a2, a3, a4, a5, af⟩ := hRA.facts
        obtain ⟨VE, hVE⟩ : ∃ VE, VA.setCell ⟨w1.heap.size, 4, none⟩ (.int .i64 (x.1 : Int)) = VE := ⟨_, rfl⟩
        have hRE : RdrAt w1.heap.size (some ⟨gw, 0, none⟩) S.length cp (I : Int) d R.D (x.1 : Int) 4 VE := hVE ▸ hRA.setA _
        obtain ⟨b0, b1, b2, b3, b4, b5, bf⟩ := hRE.facts
        have hx0 : ¬ ((x.1 : Int) < 0) := by omega
        have HJE := Lib.hid (show Just w1.heap.size N1 VE by rw [← hVE, ← hVA]; exact HJ2.out.of_set.of_set)
        clear hr2 hRA hRE hcell hcw hdrop hdr hx her1 hlt
        go_wp2_with fail
        go_quiet (fail)
        go_wp2_with fail
        ((try simp only [Exit.inBlock, Exit.then]); refine bodyPost_ret (results_four rfl _ _ _) rfl ?_)
        unfold RReadQ
        rw [hres.out]
        exact ⟨⟨_, [], rfl, KidsD.nil _ _⟩, HJ.out _ (HJE.out.drewN _)⟩
      · have hIe : R.l = [] := by rw [← hdr]; exact List.drop_of_length_le (by omega)
        have hres : Hid (refR d L = ⟨R.F, 0, R.D, 0⟩) := by
          have h := hrd.out
          rw [her1, hIe] at h
          exact h
        have hFe := HF1.out her1
        have HR2 := Lib.hid hr2
        have hltI : ¬ (I : Int) < (S.length : Int) := by omega
        obtain ⟨k0, k1, k2, k3, k4, k5, kf⟩ := hr2.facts
        have HFE := Lib.hid hFe
        clear hr2 hdr her1 hlt hIe hFe
        go_wp2_with fail
        go_quiet (fail)
        go_wp2_with fail
        ((try simp only [Exit.inBlock, Exit.then]); refine bodyPost_ret (results_four rfl _ _ _) rfl ?_)
        unfold RReadQ
        rw [hres.out]
        exact ⟨⟨_, kk, rfl, by rw [← HFE.out]; exact HK.out.heap (drewN_heap _ _)⟩, HJ.out _ (HJ2.out.drewN _)⟩
    · have hne : e ≠ 0 := HER.out _ her1
      have he1 : (e == 0) = false := by simp [hne]
      have he2 : (e != 0) = true := by simp [hne]
      have hres : Hid (refR d L = ⟨.nil, if a < 0 then (L.length : Int) else a, R.D, e⟩) := by
        have h := hrd.out
        rw [her1] at h
        exact h
      have HR2 := Lib.hid hr2
      obtain ⟨k0, k1, k2, k3, k4, k5, kf⟩ := hr2.facts
      by_cases ha : a < 0
      · rw [if_pos ha] at hres
        obtain ⟨VE, hVE⟩ : ∃ VE, w2.setCell ⟨w1.heap.size, 4, none⟩ (.int .i64 (L.length : Int)) = VE := ⟨_, rfl⟩
        have hRE : RdrAt w1.heap.size A S.length cp (I : Int) d R.D (L.length : Int) e VE := hVE ▸ hr2.setA _
        obtain ⟨b0, b1, b2, b3, b4, b5, bf⟩ := hRE.facts
        have HJE := Lib.hid (show Just w1.heap.size N1 VE by rw [← hVE]; exact HJ2.out.of_set)
        clear hr2 hRE her1 hne hI
        go_wp2_with fail
        go_quiet (fail)
        go_wp2_with fail
        ((try simp only [Exit.inBlock, Exit.then]); refine bodyPost_ret (results_four rfl _ _ _) rfl ?_)
        unfold RReadQ
        rw [hres.out]
        exact ⟨⟨_, [], rfl, KidsD.nil _ _⟩, HJ.out _ (HJE.out.drewN _)⟩
      · rw [if_neg ha] at hres
        clear hr2 her1 hne hI
        go_wp2_with fail
        go_quiet (fail)
        go_wp2_with fail
        ((try simp only [Exit.inBlock, Exit.then]); refine bodyPost_ret (results_four rfl _ _ _) rfl ?_)
        unfold RReadQ
        rw [hres.out]
        exact ⟨⟨_, [], rfl, KidsD.nil _ _⟩, HJ.out _ (HJ2.out.drewN _)⟩

end Go.Proofs.Ytkmenbicmbaceaa

/- Contract: Read. -/
import Derived.Test.YtbnlcgnpkodieaaSexJ
namespace Go.Proofs.Ytbnlcgnpkodieaa
open Go.RowKit

set_option linter.unusedVariables false
set_option linter.unusedSimpArgs false

/-- what becomes of a text's words: the lists, what is wrong, and where -/
def run : St → List (Nat × List Nat) → St × Int × Nat
  | s, [] => (s, 0, 0)
  | s, x :: l => if (stp s x).2 = 0 then run (stp s x).1 l else ((stp s x).1, (stp s x).2, x.1)
def St.new (m : Mt) : St := ⟨m, [], 0, .nil⟩
structure Rd where
  m : Mt
  F : For
  at' : Int
  e : Int
def rd (m : Mt) (L : List Nat) : Rd :=
  if wE L = 0 then
    if (run (St.new m) (wds L)).2.1 = 0 then
      if (run (St.new m) (wds L)).1.bel.length = 0 then ⟨(run (St.new m) (wds L)).1.m, (run (St.new m) (wds L)).1.F, 0, 0⟩ else ⟨(run (St.new m) (wds L)).1.m, .nil, (L.length : Int), 4⟩
    else ⟨(run (St.new m) (wds L)).1.m, .nil, ((run (St.new m) (wds L)).2.2 : Int), (run (St.new m) (wds L)).2.1⟩
  else ⟨m, .nil, (wAt L : Int), (wE L : Int)⟩
theorem stp_siz (s : St) (x : Nat × List Nat) : (stp s x).1.all.siz ≤ s.all.siz + 1 := by
  unfold stp
  split
  · simp only [St.all, frF, For.siz_app, For.one, For.siz]
    omega
  · split
    · cases hb : s.bel with
      | nil => simp
      | cons b bs =>
        simp only [St.all, hb, frF, For.siz_app, For.one, For.siz]
        omega
    · simp only [St.all, For.siz_app, For.one, For.siz]
      omega
/-- what Read tells -/
def ReadP (L : List Nat) (mb : Nat) (m : Mt) (w : World) (e : Ending) (w' : World) : Prop :=
  (∃ v B ks, e = .returned (.tuple #[v, .int .i64 (rd m L).at', .int .i64 (rd m L).e]) ∧ w.heap.size ≤ B ∧ KidsC w' B v (rd m L).F ks ∧ ks.Nodup) ∧ MtAt mb (rd m L).m w' ∧ Just mb w w'
theorem read_nil (L : List Nat) (w : World) : Calls Try.prog 21 #[.string (str L), .pointer none] w fun e w' => e = .returned (.tuple #[.slice none 0 0, .int .i64 0, .int .i64 2]) ∧ w' = w := by
  go_enter Try.func21, Try.ntmps21
  go_wp2
  go_ret3
  exact ⟨rfl, rfl⟩
theorem But.drew {P : Nat → Prop} {a w : World} (h : But P a w) : But P a w.drew := ⟨h.os, h.tape, h.output, h.size, h.block⟩
theorem start_rd {w N1 N2 : World} {mb : Nat} {m : Mt} (hm : MtAt mb m w) (h1 : w.alloc (.cells #[.int .u8 0, .int .i64 0, .string ⟨#[]⟩, .slice none 0 0] 28) = N1)
    (h2 : N1.alloc (.cells #[.pointer (some ⟨mb, 0, none⟩), .slice (some ⟨w.heap.size, 0, none⟩) 1 1] 67) = N2) : RdI w.heap.size N1.heap.size mb (St.new m) N2 ∧ Below w.heap.size w N2 := by
  have b1 : Below w.heap.size w N1 := h1 ▸ (Below.refl _ w).alloc (Nat.le_refl _) _
  have b2 : Below N1.heap.size N1 N2 := h2 ▸ (Below.refl _ N1).alloc (Nat.le_refl _) _
  have n1 : N1.heap[w.heap.size]? = some (.cells #[.int .u8 0, .int .i64 0, .string ⟨#[]⟩, .slice none 0 0] 28 (0, 0)) := h1 ▸ lone_new w _ _
  have n2 : N2.heap[N1.heap.size]? = some (.cells #[.pointer (some ⟨mb, 0, none⟩), .slice (some ⟨w.heap.size, 0, none⟩) 1 1] 67 (0, 0)) := h2 ▸ lone_new N1 _ _
  have b3 := b1.trans (b2.mono b1.size)
  refine ⟨⟨b1.size, w.heap.size, 1, [w.heap.size], n2, hm.keep b3, ?_, by simp⟩, b3⟩
  have h : KidsC N2 w.heap.size (.slice (some ⟨w.heap.size, 0, none⟩) 1 1) (.one 0 0 [] .nil) (w.heap.size :: []) := by
    refine ⟨ndC 0 0 [] (.slice none 0 0), [], ⟨rfl, .inr ⟨w.heap.size, 1, _, rfl, Nat.le_refl _, (b2.block _ (kind_lt n1)).trans n1, Nat.le_refl _, by decide, rfl, rfl⟩⟩, rowC_one_mk fine0 (KidsC.nil _ _), rfl⟩
  exact h
theorem run_end {s : St} {l : List (Nat × List Nat)} (h : l = []) : run s l = (s, 0, 0) := by rw [h]; rfl
set_option maxRecDepth 100000 in
set_option maxHeartbeats 4000000 in
theorem read_any (L : List Nat) (mb : Nat) (m : Mt) (w : World) (hc : Codes L) (hl : L.length < 9223372036854775807) (hm : MtAt mb m w) :
    Calls Try.prog 21 #[.string (str L), .pointer (some ⟨mb, 0, none⟩)] w (ReadP L mb m w) := by
  have cw := words_any L hc hl w
  by_cases hE : wE L = 0
  rotate_left
  · have hW : wL L = [] := wL_no hE
    have hrd : Hid (rd m L = ⟨m, .nil, (wAt L : Int), (wE L : Int)⟩) := if_neg hE
    have HM := Lib.hid hm
    have e1 : ((wE L : Int) == 0) = false := by simp; omega
    have e2 : ((wE L : Int) != 0) = true := by simp; omega
    go_enter Try.func21, Try.ntmps21
    go_wp2_with fail
    refine cw.mono ?_
    rintro e w1 ⟨⟨v, rfl, hrow⟩, hb1⟩
    have HB := Lib.hid hb1
    clear hrow hb1 cw
    generalize wE L = ee at *
    generalize wAt L = aa at *
    go_wp2
    go_ret3
    unfold ReadP
    rw [hrd.out]
    exact ⟨⟨_, w.heap.size, [], rfl, Nat.le_refl _, KidsC.nil _ _, List.nodup_nil⟩, HM.out.keep HB.out, Just.of HB.out⟩
  · have hl6 : L.length ≤ 65536 := by
      unfold wE at hE
      split at hE
      · cases hE
      · omega
    have hW : wL L = wds L := by
      unfold wE at hE
      unfold wL
      rw [if_neg (by omega)] at hE ⊢
      split at hE
      · rename_i h; rw [if_pos h]
      · cases hE
    have hA : wAt L = 0 := by
      unfold wE at hE
      unfold wAt
      rw [if_neg (by omega)] at hE ⊢
      split at hE
      · rename_i h; rw [if_pos h]
      · cases hE
    have hwl := wds_len L
    unfold WordsPost at cw
    rw [hE, hA] at cw
    obtain ⟨R, hR⟩ : ∃ R, R = run (St.new m) (wds L) := ⟨_, rfl⟩
    have hrd : Hid (rd m L = if R.2.1 = 0 then (if R.1.bel.length = 0 then ⟨R.1.m, R.1.F, 0, 0⟩ else ⟨R.1.m, .nil, (L.length : Int), 4⟩) else ⟨R.1.m, .nil, (R.2.2 : Int), R.2.1⟩) := by
      show _ = _
      unfold rd
      rw [if_pos hE, hR]
    have HR := Lib.hid hR
    have HM := Lib.hid hm
    have hsz := str_size L
    clear hm hR
    go_enter Try.func21, Try.ntmps21
    go_wp2_with fail
    refine cw.mono ?_
    rintro e w1 ⟨⟨v, rfl, hrow⟩, hb1⟩
    rw [hW] at hrow
    have hrow : w1.ownsRow w.heap.size 69 4 v (wds L).length (wcells (wds L)) := hrow
    obtain ⟨A, cp, rfl⟩ := slice_form hrow
    obtain ⟨N1, hN1⟩ : ∃ N1, w1.alloc (.cells #[.int .u8 0, .int .i64 0, .string ⟨#[]⟩, .slice none 0 0] 28) = N1 := ⟨_, rfl⟩
    obtain ⟨N2, hN2⟩ : ∃ N2, N1.alloc (.cells #[.pointer (some ⟨mb, 0, none⟩), .slice (some ⟨w1.heap.size, 0, none⟩) 1 1] 67) = N2 := ⟨_, rfl⟩
    obtain ⟨hRd, hbN⟩ := start_rd (HM.out.keep hb1) hN1 hN2
    have HRD := Lib.hid hRd
    have HBN := Lib.hid hbN
    have HB1 := Lib.hid hb1
    have hrb := hRd.1
    clear cw hRd hb1 hbN
    go_wp2_with fail
    obtain ⟨n, hn⟩ : ∃ n, n = (wds L).length := ⟨_, rfl⟩
    have HN := Lib.hid hn
    rw [← hn] at hrow hwl
    have hst : (St.new m).all.siz ≤ 1 := by simp [St.new, St.all, frF, For.app, For.one, For.siz]
    have HST := Lib.hid hst
    have HROW := Lib.hid hrow
    have hrowk : ∀ b ∈ blk1 (.slice A n cp), b < w1.heap.size := fun b hb => by obtain ⟨_, c, hc⟩ := ownsRow_kind2 hrow b hb; exact kind_lt hc
    rw [← hn]
    have HJ : Hid (∀ wr, But (fun q => w1.heap.size ≤ q ∨ q = mb) w1 wr → Just mb w wr) := fun wr h => ⟨h.os.trans HB1.out.os, h.tape.trans HB1.out.tape, h.output.trans HB1.out.output, Nat.le_trans HB1.out.size h.size, fun q hq hn => (h.block q (Nat.lt_of_lt_of_le hq HB1.out.size) (fun h' => h'.elim (fun h' => by have := HB1.out.size; omega) hn)).trans (HB1.out.block q hq)⟩
    clear hn hst hrow
    go_loopw [30] (fun i wr => ∃ (k : Nat) (s : St), i = .int .i64 (k : Int) ∧ k ≤ n ∧ RdI w1.heap.size N1.heap.size mb s wr ∧ R = run s ((wds L).drop k) ∧ s.all.siz ≤ k + 1 ∧ But (fun q => w1.heap.size ≤ q ∨ q = mb) w1 wr) (fun i _ => n - (intOf i).toNat)
    case atStart => exact ⟨0, _, rfl, Nat.zero_le _, HRD.out, by rw [HR.out, List.drop_zero], by have := HST.out; omega, But.of_below HBN.out⟩
    case round =>
      obtain ⟨k, s, rfl, hk, hI, hr, hsz2, hbut⟩ := hrel
      by_cases hlt : k < n
      · obtain ⟨x, hx⟩ : ∃ x, (wds L)[k]? = some x := ⟨_, List.getElem?_eq_getElem (by have := HN.out; omega)⟩
        have hdrop : (wds L).drop k = x :: (wds L).drop (k + 1) := by
          rw [List.drop_eq_getElem?_toList_append, hx]; rfl
        obtain ⟨hat, hxl, hxt⟩ := At.of_get hx
        have hxc : Codes x.2 := by rw [hxt]; exact codes_take (codes_drop hc _) _
        have hxs : x.2.length < 9223372036854775807 := by rw [hxt, List.length_take, List.length_drop]; omega
        obtain ⟨g, rfl, hg0, hg1, hcell⟩ := row_cells HROW.out (by omega)
        obtain ⟨_, cg, hcg⟩ := ownsRow_kind2 HROW.out g (by simp [blk1, Value.ownBlock])
        have hgm : g ≠ mb := fun e => by
          have h1 := (HM.out.keep HB1.out)
          unfold MtAt at h1
          rw [← e, hcg] at h1; cases h1
        have hgr : wr.heap[g]? = w1.heap[g]? := hbut.block g hg1 (fun h => h.elim (fun h => by omega) hgm)
        have hcc : ∀ q u, q < 4 → (wordCells x)[q]? = some u → wr.cell? ⟨g, k * 4 + q, none⟩ = some u := fun q u hq hu => by
          rw [World.cell?_of_block (w := w1) (a := ⟨g, k * 4 + q, none⟩) hgr]
          exact hcell _ _ ((wcells_get hx q hq).trans hu)
        have c0 := hcc 0 _ (by decide) rfl
        have c1 := hcc 1 _ (by decide) rfl
        have c2 := hcc 2 _ (by decide) rfl
        have c3 := hcc 3 _ (by decide) rfl
        rw [Nat.add_zero] at c0
        obtain ⟨WA, hWA⟩ : ∃ WA, wr.alloc (.cells #[.int .u8 ((kd x.2 : Nat) : Int), .int .i64 (x.1 : Int), .int .i64 ((x.1 : Int) + (x.2.length : Int)), .string (str x.2)] 69) = WA := ⟨_, rfl⟩
        have hnA : WA.heap[wr.heap.size]? = some (.cells #[.int .u8 ((kd x.2 : Nat) : Int), .int .i64 (x.1 : Int), .int .i64 ((x.1 : Int) + (x.2.length : Int)), .string (str x.2)] 69 (0, 0)) := hWA ▸ lone_new wr _ _
        have hbA : Below wr.heap.size wr WA := hWA ▸ (Below.refl _ wr).alloc (Nat.le_refl _) _
        have v0 : WA.cell? ⟨wr.heap.size, 0, none⟩ = some (.int .u8 ((kd x.2 : Nat) : Int)) := by rw [cell_of hnA]; rfl
        have v1 : WA.cell? ⟨wr.heap.size, 1, none⟩ = some (.int .i64 (x.1 : Int)) := by rw [cell_of hnA]; rfl
        have v2 : WA.cell? ⟨wr.heap.size, 2, none⟩ = some (.int .i64 ((x.1 : Int) + (x.2.length : Int))) := by rw [cell_of hnA]; rfl
        have v3 : WA.cell? ⟨wr.heap.size, 3, none⟩ = some (.string (str x.2)) := by rw [cell_of hnA]; rfl
        have hIA : RdI w1.heap.size N1.heap.size mb s WA := by
          obtain ⟨i1, sb, cs, ks, i2, i3, i4, i5⟩ := hI
          exact ⟨i1, sb, cs, ks, (hbA.block _ (kind_lt i2)).trans i2, i3.keep hbA, i4.keep fun b hb => by obtain ⟨_, c, hc⟩ := i4.kind b hb; exact hbA.block b (kind_lt hc), i5⟩
        have hBA : w1.heap.size ≤ WA.heap.size := Nat.le_trans hbut.size hbA.size
        have hbutA : But (fun q => w1.heap.size ≤ q ∨ q = mb) w1 WA := But.trans hbut (But.of_below (P := fun _ => False) hbA) (fun _ h => h) (fun _ _ h => h.elim)
        have ct := take_any w1.heap.size N1.heap.size mb s x ((x.1 : Int) + (x.2.length : Int)) WA hIA hBA hxc hxs (by omega)
        have hvn : ¬ Turn w1.heap.size N1.heap.size mb WA wr.heap.size := by
          have hrl : N1.heap.size < wr.heap.size := by obtain ⟨i1, sb, cs, ks, i2, _⟩ := hI; exact kind_lt i2
          have hml : mb < wr.heap.size := by obtain ⟨i1, sb, cs, ks, i2, i3, _⟩ := hI; exact i3.lt
          rintro (h | h | ⟨_, c, h⟩)
          · omega
          · omega
          · rw [hnA] at h; cases h
        have HVN := Lib.hid hvn
        have HNA := Lib.hid hnA
        have HRR : Hid (R = if (stp s x).2 = 0 then run (stp s x).1 ((wds L).drop (k + 1)) else ((stp s x).1, (stp s x).2, x.1)) := by
          show _ = _
          rw [hr, hdrop]; rfl
        have HSZ := Lib.hid (show (stp s x).1.all.siz ≤ k + 1 + 1 by have := stp_siz s x; omega)
        have HBA := Lib.hid hbutA
        unfold TakeQ at ct
        clear hI hr hsz2 hbut hIA hbA hnA hcc hdrop hat hxt hx hcell hcg hgr hbutA hvn hxc hrowk
        generalize stp s x = S at *
        obtain ⟨S1, S2⟩ := S
        dsimp only at ct HRR HSZ
        go_wp2_with fail
        refine ct.mono ?_
        rintro e w3 ⟨rfl, hI3, hm3, hb3⟩
        have hb13 : But (fun q => w1.heap.size ≤ q ∨ q = mb) w1 w3 := But.trans HBA.out hb3 (fun _ h => h) (fun q _ h => by
          rcases h with h | h | h
          · exact .inl (by omega)
          · exact .inr h
          · exact .inl h.1)
        have hv3 := (hb3.block _ (kind_lt HNA.out) HVN.out).trans HNA.out
        have x1 : w3.cell? ⟨wr.heap.size, 1, none⟩ = some (.int .i64 (x.1 : Int)) := by rw [cell_of hv3]; rfl
        have HB13 := Lib.hid hb13
        have HI3 := Lib.hid hI3
        have HM3 := Lib.hid hm3
        clear ct hb3 hb13 hv3 hI3 hm3
        by_cases h0 : S2 = 0
        · have hRn := Lib.hid (show R = run S1 ((wds L).drop (k + 1)) by have := HRR.out; rwa [if_pos h0] at this)
          have HI4 := Lib.hid (HI3.out h0)
          subst h0
          clear HI3 HRR
          go_wp2_with fail
          go_roundw
          case rel => exact ⟨k + 1, S1, by go_num, by omega, HI4.out, hRn.out, HSZ.out, HB13.out⟩
          case measure => simp [intOf]; omega
        · have hRe : Hid (R = (S1, S2, x.1)) := by have := HRR.out; rwa [if_neg h0] at this
          have hrd2 : Hid (rd m L = ⟨S1.m, .nil, (x.1 : Int), S2⟩) := by
            show _ = _
            rw [hrd.out, hRe.out]
            exact if_neg h0
          go_wp2_with fail
          go_region
          all_goals
            go_wp2_with fail
            go_ret3
            unfold ReadP
            rw [hrd2.out]
            refine ⟨⟨_, w.heap.size, [], rfl, Nat.le_refl _, KidsC.nil _ _, List.nodup_nil⟩, HM3.out, ?_⟩
            exact HJ.out _ HB13.out.drew
      · obtain rfl : k = n := by omega
        have hRe : Hid (R = (s, 0, 0)) := by
          show _ = _
          rw [hr, List.drop_of_length_le (by have := HN.out; omega)]; rfl
        obtain ⟨i1, sb, cs, ks, i2, i3, i4, i5⟩ := hI
        have b1 : wr.cell? ⟨N1.heap.size, 1, none⟩ = some (.slice (some ⟨sb, 0, none⟩) (s.bel.length + 1) cs) := by rw [cell_of i2]; rfl
        have H3 := Lib.hid i3
        have H4 := Lib.hid i4
        have H5 := Lib.hid i5
        have HBU := Lib.hid hbut
        have hbl : s.bel.length < 70000 := by have := (all_siz s).1; omega
        by_cases hb0 : s.bel.length = 0
        · have hrd2 : Hid (rd m L = ⟨s.m, s.F, 0, 0⟩) := by
            show _ = _
            rw [hrd.out, hRe.out, if_pos rfl, if_pos hb0]
          have hbe : s.bel = [] := List.eq_nil_of_length_eq_zero hb0
          obtain ⟨ys, k0, ho, hrow, hks⟩ := i4
          have hall : s.all = .one 0 s.a [] s.F := by unfold St.all; rw [hbe]; rfl
          rw [hall] at hrow ho
          obtain ⟨vF, rfl, -, hKF⟩ := rowC_one hrow
          obtain ⟨AF, mF, rfl, -⟩ := hKF.kds
          obtain ⟨g', hge, _, _, hcell⟩ := row_cells (show wr.ownsRow w1.heap.size _ 4 (.slice (some ⟨sb, 0, none⟩) (s.bel.length + 1) cs) (s.bel.length + 1) _ from by rw [hb0]; rw [hb0] at ho; exact ho) (Nat.succ_pos _)
          injection hge with hge
          injection hge with hge
          subst hge
          have x3 := hcell 3 (.slice AF s.F.len mF) rfl
          rw [hb0] at b1
          have HKF := Lib.hid hKF
          have hnd0 : Hid (k0.Nodup) := by
            have := H5.out
            rw [hks] at this
            exact (List.nodup_append.1 this).2.1
          clear i1 i2 i3 i5 hr hsz2 hbut hcell hrow ho hKF hks hbe hall hb0 hbl
          go_wp2_with fail
          go_ret3
          unfold ReadP
          rw [hrd2.out]
          exact ⟨⟨_, w1.heap.size, _, rfl, HB1.out.size, HKF.out, hnd0.out⟩, H3.out, HJ.out _ HBU.out⟩
        · have hrd2 : Hid (rd m L = ⟨s.m, .nil, (L.length : Int), 4⟩) := by
            show _ = _
            rw [hrd.out, hRe.out, if_pos rfl, if_neg hb0]
          have h1 : (1 : Int) < (s.bel.length : Int) + 1 := by omega
          clear i1 i2 i3 i4 i5 hr hsz2 hbut hb0
          generalize s.bel.length = sl at *
          go_wp2_with fail
          go_ret3
          unfold ReadP
          rw [hrd2.out]
          exact ⟨⟨_, w.heap.size, [], rfl, Nat.le_refl _, KidsC.nil _ _, List.nodup_nil⟩, H3.out, HJ.out _ HBU.out⟩

end Go.Proofs.Ytbnlcgnpkodieaa

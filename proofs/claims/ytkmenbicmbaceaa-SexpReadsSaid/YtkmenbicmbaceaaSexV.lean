/- The reference's nodes, its contract. -/
import Derived.Deep.LoopGhost
import Derived.Test.YtkmenbicmbaceaaSexU
import Derived.Test.YtkmenbicmbaceaaSexR
import Derived.Test.YtkmenbicmbaceaaLexJ
namespace Go.Proofs.Ytkmenbicmbaceaa
open Go.RowKit

set_option linter.unusedVariables false
set_option linter.unusedSimpArgs false

/-- the reference's reader in memory -/
def RdrAt (g : Nat) (A : Option Addr) (N cp : Nat) (I most D a e : Int) (w : World) : Prop :=
  w.heap[g]? = some (.cells #[.slice A N cp, .int .i64 I, .int .i64 most, .int .i64 D, .int .i64 a, .int .i64 e] 79 (0, 0))
/-- words in memory, from the head of a block on -/
def WdsIn (w : World) (A : Option Addr) (S : List (Nat × List Nat)) : Prop :=
  ∀ k x, S[k]? = some x → ∃ gw, A = some ⟨gw, 0, none⟩ ∧ gw < w.heap.size ∧ (∃ c, w.heap[gw]? = some (.cells c 81 (0, 0))) ∧ ∀ q u, q < 4 → (wordCells x)[q]? = some u → w.cell? ⟨gw, k * 4 + q, none⟩ = some u
/-- what nodes leaves in the reader -/
def NodesQ (g : Nat) (A : Option Addr) (cp : Nat) (S : List (Nat × List Nat)) (most deep : Int) (r : Nd4) (w : World) (e : Ending) (w' : World) : Prop :=
  (∃ v F ks, e = .returned v ∧ KidsD w' w.heap.size v F ks ∧ (r.er = none → F = r.F)) ∧
  ((r.er = none ∧ ∃ I : Nat, I ≤ S.length ∧ S.drop I = r.l ∧ RdrAt g A S.length cp (I : Int) most r.D 0 0 w') ∨ (∃ e a, r.er = some (e, a) ∧ ∃ I : Nat, (I : Int) + deep ≤ 140000 ∧ RdrAt g A S.length cp (I : Int) most r.D a e w')) ∧ Just g w w'
def NodesAt (n : Nat) : Prop := ∀ (m : Nat) (g : Nat) (A : Option Addr) (cp : Nat) (S : List (Nat × List Nat)) (most deep D : Int) (I : Nat) (w : World), m ≤ n → S.length - I < m → I ≤ S.length → S.length < 66000 → 0 ≤ deep → deep ≤ 65536 → 0 ≤ most → most ≤ 65536 → 0 ≤ D → D ≤ 70000 →
  (∀ x ∈ S, Codes x.2 ∧ x.2.length < 9223372036854775807) → RdrAt g A S.length cp (I : Int) most D 0 0 w → WdsIn w A S →
  Calls Try.prog 38 #[.pointer (some ⟨g, 0, none⟩), .int .i64 deep] w (NodesQ g A cp S most deep (nds most m deep (S.drop I) D) w)
def comb (P : For) (r : Nd4) : Nd4 := ⟨P.app r.F, r.l, r.D, r.er⟩
theorem nds_er {most : Int} : ∀ {n : Nat} {deep : Int} {l : List (Nat × List Nat)} {D : Int} {e : Int × Int}, (nds most n deep l D).er = some e → e.1 ≠ 0
  | 0, _, _, _, _, h => by cases h
  | n + 1, deep, [], D, e, h => by cases h
  | n + 1, deep, x :: l, D, e, h => by
    unfold nds at h
    split at h
    · cases h
    · split at h
      · split at h
        · injection h with h; rw [← h]; show (46 : Int) ≠ 0; decide
        · split at h
          · rename_i e' he'
            injection h with h
            rw [← h]
            exact nds_er he'
          · split at h
            · injection h with h; rw [← h]; show (4 : Int) ≠ 0; decide
            · exact nds_er h
      · exact nds_er h
theorem nds_D {most : Int} : ∀ {n : Nat} {deep : Int} {l : List (Nat × List Nat)} {D : Int}, D ≤ (nds most n deep l D).D ∧ (nds most n deep l D).D ≤ max D most
  | 0, _, _, D => by show D ≤ D ∧ D ≤ max D most; omega
  | n + 1, deep, [], D => by show D ≤ D ∧ D ≤ max D most; omega
  | n + 1, deep, x :: l, D => by
    unfold nds
    split
    · show D ≤ D ∧ D ≤ max D most; omega
    · split
      · split
        · show D ≤ D ∧ D ≤ max D most; omega
        · have h1 := nds_D (most := most) (n := n) (deep := deep + 1) (l := l) (D := max D (deep + 1))
          split
          · dsimp only; omega
          · split
            · dsimp only; omega
            · rename_i l' _
              have h2 := nds_D (most := most) (n := n) (deep := deep) (l := l') (D := (nds most n (deep + 1) l (max D (deep + 1))).D)
              dsimp only; omega
      · have h1 := nds_D (most := most) (n := n) (deep := deep) (l := l) (D := D)
        dsimp only; omega
theorem WdsIn.just {w w' : World} {A : Option Addr} {S : List (Nat × List Nat)} {g : Nat} (h : WdsIn w A S) (hj : Just g w w') (hg : ∀ c, w.heap[g]? ≠ some (.cells c 81 (0, 0))) : WdsIn w' A S := fun k x hx => by
  obtain ⟨gw, rfl, h1, ⟨c, hc⟩, h2⟩ := h k x hx
  have hne : gw ≠ g := fun e => hg c (by rw [← e]; exact hc)
  have hb := hj.block gw h1 hne
  exact ⟨gw, rfl, Nat.lt_of_lt_of_le h1 hj.size, ⟨c, hb.trans hc⟩, fun q u hq hu => (World.cell?_of_block (a := ⟨gw, k * 4 + q, none⟩) hb).trans (h2 q u hq hu)⟩

theorem drewN_heap (w : World) (n : Nat) : (w.drewN n).heap = w.heap := rfl
theorem Just.drewN {g : Nat} {a w : World} (h : Just g a w) (n : Nat) : Just g a (w.drewN n) := ⟨h.os, h.tape, h.output, h.size, h.block⟩
theorem RdrAt.heap {g : Nat} {A : Option Addr} {N cp : Nat} {I most D a e : Int} {w w' : World} (h : RdrAt g A N cp I most D a e w) (hh : w'.heap = w.heap) : RdrAt g A N cp I most D a e w' := by unfold RdrAt; rw [hh]; exact h
theorem KidsD.heap {w w' : World} {B : Nat} {v : Value} {F : For} {ks : List Nat} (h : KidsD w B v F ks) (hh : w'.heap = w.heap) : KidsD w' B v F ks := h.keep fun b _ => by rw [hh]
theorem outD_push {VB w3 : World} {O : Obj} {B : Nat} {o vk : Value} {P c : For} {xs : List Value} {ks kk : List Nat} {k : Nat} {a : Int} {t : List Nat} {g0 cap : Nat}
    (hP : RowD VB B P xs ks) (hK : ∀ b ∈ ks, some b ≠ o.ownBlock) (hkk : KidsD VB B vk c kk) (hkk2 : ∀ b ∈ kk, some b ≠ o.ownBlock) (hf : k < 256 ∧ Codes t ∧ t.length < 9223372036854775807)
    (hgrow : (VB.alloc O).grownBy w3 o.ownBlock) (hat : o.ownBlock = some g0 ∨ g0 = (VB.alloc O).heap.size) :
    RowD w3 B (P.app (.one k a t c)) (xs ++ ndC k a t vk) (ks ++ kk) ∧ (∀ b ∈ ks ++ kk, some b ≠ (Value.slice (some ⟨g0, 0, none⟩) (P.len + 1) cap).ownBlock) ∧ (∀ q, q < VB.heap.size → some q ≠ o.ownBlock → w3.heap[q]? = VB.heap[q]?) := by
  have hZs : (VB.alloc O).heap.size = VB.heap.size + 1 := World.size_alloc _ _
  have hkeep : ∀ q, q < VB.heap.size → some q ≠ o.ownBlock → w3.heap[q]? = VB.heap[q]? := fun q h1 h2 => (hgrow.block q (by omega) h2).trans (Below.heap_alloc _ _ _ h1)
  have hks : ∀ q ∈ ks ++ kk, q < VB.heap.size ∧ some q ≠ o.ownBlock := fun q hq => by
    rcases List.mem_append.1 hq with h | h
    · exact ⟨by obtain ⟨_, cc, hcc⟩ := hP.kind q h; exact kind_lt hcc, hK q h⟩
    · exact ⟨by obtain ⟨_, cc, hcc⟩ := hkk.kind q h; exact kind_lt hcc, hkk2 q h⟩
  refine ⟨(hP.keep fun q hq => hkeep q (hks q (by simp [hq])).1 (hks q (by simp [hq])).2).app (rowD_one_mk hf (hkk.keep fun q hq => hkeep q (hks q (by simp [hq])).1 (hks q (by simp [hq])).2)), fun q hq e => ?_, hkeep⟩
  have h1 := hks q hq
  rcases hat with h | h
  · exact h1.2 (by rw [h]; exact e)
  · simp [Value.ownBlock] at e; omega
theorem Just.of_set {g : Nat} {w w' : World} {j : Nat} {v : Value} (h : Just g w w') : Just g w (w'.setCell ⟨g, j, none⟩ v) := h.trans (Just.set _ _ _ _)
theorem RdrAt.facts {g : Nat} {A : Option Addr} {N cp : Nat} {I most D a e : Int} {w : World} (h : RdrAt g A N cp I most D a e w) :
    w.cell? ⟨g, 0, none⟩ = some (.slice A N cp) ∧ w.cell? ⟨g, 1, none⟩ = some (.int .i64 I) ∧ w.cell? ⟨g, 2, none⟩ = some (.int .i64 most) ∧ w.cell? ⟨g, 3, none⟩ = some (.int .i64 D) ∧ w.cell? ⟨g, 4, none⟩ = some (.int .i64 a) ∧ w.cell? ⟨g, 5, none⟩ = some (.int .i64 e) ∧ ∀ j, w.frozen? ⟨g, j, none⟩ = false := by
  unfold RdrAt at h
  refine ⟨?_, ?_, ?_, ?_, ?_, ?_, frozen_of h⟩ <;> (rw [cell_of h]; rfl)
theorem RdrAt.setI {g : Nat} {A : Option Addr} {N cp : Nat} {I most D a e : Int} {w : World} (h : RdrAt g A N cp I most D a e w) (I' : Int) : RdrAt g A N cp I' most D a e (w.setCell ⟨g, 1, none⟩ (.int .i64 I')) := by
  unfold RdrAt at *; rw [Joins.block_setCell h]; rfl
theorem RdrAt.setD {g : Nat} {A : Option Addr} {N cp : Nat} {I most D a e : Int} {w : World} (h : RdrAt g A N cp I most D a e w) (I' : Int) : RdrAt g A N cp I most I' a e (w.setCell ⟨g, 3, none⟩ (.int .i64 I')) := by
  unfold RdrAt at *; rw [Joins.block_setCell h]; rfl
theorem RdrAt.setA {g : Nat} {A : Option Addr} {N cp : Nat} {I most D a e : Int} {w : World} (h : RdrAt g A N cp I most D a e w) (I' : Int) : RdrAt g A N cp I most D I' e (w.setCell ⟨g, 4, none⟩ (.int .i64 I')) := by
  unfold RdrAt at *; rw [Joins.block_setCell h]; rfl
theorem RdrAt.setE {g : Nat} {A : Option Addr} {N cp : Nat} {I most D a e : Int} {w : World} (h : RdrAt g A N cp I most D a e w) (I' : Int) : RdrAt g A N cp I most D a I' (w.setCell ⟨g, 5, none⟩ (.int .i64 I')) := by
  unfold RdrAt at *; rw [Joins.block_setCell h]; rfl
theorem nds_l {most : Int} : ∀ {n : Nat} {deep : Int} {l : List (Nat × List Nat)} {D : Int}, (nds most n deep l D).l.length ≤ l.length
  | 0, _, l, D => Nat.le_refl _
  | n + 1, deep, [], D => Nat.le_refl _
  | n + 1, deep, x :: l, D => by
    unfold nds
    split
    · exact Nat.le_refl _
    · split
      · split
        · exact Nat.le_succ _
        · have h1 := nds_l (most := most) (n := n) (deep := deep + 1) (l := l) (D := max D (deep + 1))
          split
          · dsimp only [List.length_cons]; omega
          · split
            · simp
            · rename_i y l' hl'
              have h2 := nds_l (most := most) (n := n) (deep := deep) (l := l') (D := (nds most n (deep + 1) l (max D (deep + 1))).D)
              rw [hl'] at h1
              simp only [List.length_cons] at h1 ⊢
              omega
      · have h1 := nds_l (most := most) (n := n) (deep := deep) (l := l) (D := D)
        simp only [List.length_cons]
        omega
theorem Just.drew {g : Nat} {a w : World} (h : Just g a w) : Just g a w.drew := ⟨h.os, h.tape, h.output, h.size, h.block⟩
theorem comb_comb (P Q : For) (r : Nd4) : comb P (comb Q r) = comb (P.app Q) r := by unfold comb; rw [For.app_assoc]
theorem nds_open_er {most : Int} {n : Nat} {deep : Int} {x : Nat × List Nat} {l : List (Nat × List Nat)} {D : Int} {R1 : Nd4} {e : Int × Int} (h2 : ¬ kd x.2 = 2) (h1 : kd x.2 = 1) (hd : ¬ most < deep + 1) (hR : R1 = nds most n (deep + 1) l (max D (deep + 1))) (h : R1.er = some e) :
    (nds most (n + 1) deep (x :: l) D).er = some e ∧ (nds most (n + 1) deep (x :: l) D).D = R1.D := by
  subst hR
  rw [nds, if_neg h2, if_pos h1, if_neg hd]
  simp only [h, and_self]
theorem nds_open_end {most : Int} {n : Nat} {deep : Int} {x : Nat × List Nat} {l : List (Nat × List Nat)} {D : Int} {R1 : Nd4} (h2 : ¬ kd x.2 = 2) (h1 : kd x.2 = 1) (hd : ¬ most < deep + 1) (hR : R1 = nds most n (deep + 1) l (max D (deep + 1))) (h : R1.er = none) (hl : R1.l = []) :
    (nds most (n + 1) deep (x :: l) D).er = some (4, -1) ∧ (nds most (n + 1) deep (x :: l) D).D = R1.D := by
  subst hR
  rw [nds, if_neg h2, if_pos h1, if_neg hd]
  simp only [h, hl, and_self]
theorem nds_open_go {most : Int} {n : Nat} {deep : Int} {x y : Nat × List Nat} {l l' : List (Nat × List Nat)} {D : Int} {R1 : Nd4} (h2 : ¬ kd x.2 = 2) (h1 : kd x.2 = 1) (hd : ¬ most < deep + 1) (hR : R1 = nds most n (deep + 1) l (max D (deep + 1))) (h : R1.er = none) (hl : R1.l = y :: l') :
    nds most (n + 1) deep (x :: l) D = comb (.one 0 (x.1 : Int) [] R1.F) (nds most n deep l' R1.D) := by
  subst hR
  rw [nds, if_neg h2, if_pos h1, if_neg hd]
  simp only [h, hl]
  rfl
theorem tailD {V w w3 : World} {O : Obj} {oA : Option Addr} {oc : Nat} {vk : Value} {P c : For} {xs : List Value} {ks kk : List Nat} {k : Nat} {t : List Nat} {g g0 cap N cp : Nat} {A : Option Addr} {I most D at_ a e : Int}
    (ho : V.ownsRow w.heap.size 88 4 (.slice oA P.len oc) P.len xs) (hP : RowD V w.heap.size P xs ks) (hK : ∀ b ∈ ks, some b ≠ (Value.slice oA P.len oc).ownBlock) (hkk : KidsD V w.heap.size vk c kk) (hkk2 : ∀ b ∈ kk, some b ≠ (Value.slice oA P.len oc).ownBlock) (hf : k < 256 ∧ Codes t ∧ t.length < 9223372036854775807)
    (hgrow : (V.alloc O).grownBy w3 (Value.slice oA P.len oc).ownBlock) (hat : (Value.slice oA P.len oc).ownBlock = some g0 ∨ g0 = (V.alloc O).heap.size) (hj : Just g w V) (hr : RdrAt g A N cp I most D a e V) :
    RowD w3 w.heap.size (P.app (.one k at_ t c)) (xs ++ ndC k at_ t vk) (ks ++ kk) ∧ (∀ b ∈ ks ++ kk, some b ≠ (Value.slice (some ⟨g0, 0, none⟩) (P.len + 1) cap).ownBlock) ∧ RdrAt g A N cp I most D a e w3 ∧ Just g w w3 := by
  obtain ⟨q1, q2, q3⟩ := outD_push (a := at_) (t := t) (k := k) (cap := cap) hP hK hkk hkk2 hf hgrow hat
  have hgo : some g ≠ (Value.slice oA P.len oc).ownBlock := fun e => by
    obtain ⟨_, cc, hcc⟩ := ownsRow_kind2 ho g (by simp [blk1, ← e])
    unfold RdrAt at hr
    rw [hr] at hcc; cases hcc
  have hob : ∀ q ∈ blk1 (.slice oA P.len oc), w.heap.size ≤ q := fun q hq => (ownsRow_kind2 ho q hq).1
  have hBZ : w.heap.size ≤ (V.alloc O).heap.size := by rw [World.size_alloc]; have := hj.size; omega
  refine ⟨q1, q2, (q3 g (kind_lt hr) hgo).trans hr, hgrow.os.trans hj.os, hgrow.tape.trans hj.tape, hgrow.output.trans hj.output, Nat.le_trans hBZ hgrow.size, fun q h1 h2 => ?_⟩
  rw [q3 q (by have := hj.size; omega) (fun e => by have := hob q (by simp [blk1, ← e]); omega)]
  exact hj.block q h1 h2
set_option maxRecDepth 100000 in
set_option maxHeartbeats 16000000 in
theorem NodesAt.step {n : Nat} (ih : NodesAt n) : NodesAt (n + 1) := by
  intro m g A cp S most deep D I w hmn hI hIS hS hd0 hd1 hm0 hm1 hD0 hD1 hfine hR hW
  obtain ⟨i0, hi, hz0, hz1, hz2⟩ := info_rd
  obtain ⟨R0, hR0⟩ : ∃ R0, R0 = nds most m deep (S.drop I) D := ⟨_, rfl⟩
  rw [← hR0]
  have HW := Lib.hid hW
  have HR := Lib.hid hR
  have HF := Lib.hid hfine
  have hgk : ∀ c, w.heap[g]? ≠ some (.cells c 81 (0, 0)) := fun c e => by unfold RdrAt at hR; rw [hR] at e; cases e
  have HGK := Lib.hid hgk
  have HR0 := Lib.hid hR0
  clear hW hR hfine hgk hR0
  go_enter Try.func38, Try.ntmps38
  go_wp2_with fail
  go_loopg [5] (S.length + 1) (fun gk o wr => ∃ (P : For) (xs : List Value) (ks : List Nat), wr.ownsRow w.heap.size 88 4 o P.len xs ∧ RowD wr w.heap.size P xs ks ∧ (∀ b ∈ ks, some b ≠ o.ownBlock) ∧ P.len ≤ 66000 ∧ Just g w wr ∧
    ((∃ (J m' : Nat) (D' : Int), J ≤ S.length ∧ S.length - J < gk ∧ P.len ≤ J ∧ S.length - J < m' ∧ m' ≤ m ∧ 0 ≤ D' ∧ D' ≤ 70000 ∧ R0 = comb P (nds most m' deep (S.drop J) D') ∧ RdrAt g A S.length cp (J : Int) most D' 0 0 wr) ∨
     (∃ e a, R0.er = some (e, a) ∧ e ≠ 0 ∧ ∃ J : Nat, (J : Int) + deep ≤ 140000 ∧ RdrAt g A S.length cp (J : Int) most R0.D a e wr)))
  case atStart =>
    refine ⟨.nil, [], [], World.ownsRow_nil _ _ _ _, ⟨rfl, rfl⟩, (fun _ h => by cases h), by simp [For.len], Just.of (Below.refl _ _), .inl ⟨I, m, D, hIS, by omega, Nat.zero_le _, hI, Nat.le_refl _, hD0, hD1, ?_, HR.out⟩⟩
    rw [HR0.out]; rfl
  case round =>
    obtain ⟨P, xs, ks, ho, hP, hk, hPl, hj, hcase⟩ := hrel
    have HO := Lib.hid ho
    have HP := Lib.hid hP
    have HK := Lib.hid hk
    have HJ := Lib.hid hj
    have HWr := Lib.hid (HW.out.just hj HGK.out)
    obtain ⟨oA, oc, rfl⟩ := slice_form ho
    clear ho hP hk hj
    rcases hcase with ⟨J, m', D', hJ, hgJ, hPJ, hm', hmm, hD0', hD1', hR0', hRd⟩ | ⟨e, a, her, hne, J, hJd, hRd⟩
    · have HRD := Lib.hid hRd
      have hr := hRd
      unfold RdrAt at hr
      have c0 : wr.cell? ⟨g, 0, none⟩ = some (.slice A S.length cp) := by rw [cell_of hr]; rfl
      have c1 : wr.cell? ⟨g, 1, none⟩ = some (.int .i64 (J : Int)) := by rw [cell_of hr]; rfl
      have c2 : wr.cell? ⟨g, 2, none⟩ = some (.int .i64 most) := by rw [cell_of hr]; rfl
      have c3 : wr.cell? ⟨g, 3, none⟩ = some (.int .i64 D') := by rw [cell_of hr]; rfl
      have c5 : wr.cell? ⟨g, 5, none⟩ = some (.int .i64 0) := by rw [cell_of hr]; rfl
      have HR0' := Lib.hid hR0'
      clear hr hRd hR0'
      by_cases hlt : J < S.length
      · obtain ⟨x, hx⟩ : ∃ x, S[J]? = some x := ⟨_, List.getElem?_eq_getElem hlt⟩
        obtain ⟨gw, rfl, hgw, ⟨cw, hcw⟩, hcell⟩ := HWr.out J x hx
        have k0 := hcell 0 _ (by decide) rfl
        have k1 := hcell 1 _ (by decide) rfl
        have k2 := hcell 2 _ (by decide) rfl
        have k3 := hcell 3 _ (by decide) rfl
        rw [Nat.add_zero] at k0
        have hdrop : S.drop J = x :: S.drop (J + 1) := by rw [List.drop_eq_getElem?_toList_append, hx]; rfl
        obtain ⟨m2, rfl⟩ : ∃ m2, m' = m2 + 1 := ⟨m' - 1, by omega⟩
        have HX := Lib.hid hx
        have hltI : (J : Int) < (S.length : Int) := by omega
        have hJ0 : (0 : Int) ≤ (J : Int) := by omega
        by_cases h2 : kd x.2 = 2
        · have hres : Hid (R0 = ⟨P, S.drop J, D', none⟩) := by
            show _ = _
            rw [HR0'.out, hdrop, nds, if_pos h2]
            unfold comb
            rw [For.app_nil]
          have e1 : ((kd x.2 : Nat) : Int) = 2 := by omega
          rw [e1] at k0
          clear hdrop hx hcell hcw h2 e1
          go_wp2_with fail
          go_quiet (fail)
          go_wp2_with fail
          go_ret
          rw [hres.out]
          exact ⟨⟨_, P, _, rfl, KidsD.heap ⟨xs, ks, HO.out, HP.out, rfl⟩ (drewN_heap _ _), fun _ => rfl⟩, .inl ⟨rfl, J, hJ, rfl, HRD.out.heap (drewN_heap _ _)⟩, HJ.out.drewN _⟩
        · have hk2 : (((kd x.2 : Nat) : Int) == 2) = false := by simp; omega
          have hk2' : (((kd x.2 : Nat) : Int) != 2) = true := by simp; omega
          have HK2 := Lib.hid h2
          have HCELL := Lib.hid hcell
          clear hcell h2
          go_wp2_with fail
          go_quiet (fail)
          go_wp2_with fail
          have HH := Lib.hid (drewN_heap wr nq)
          have HOS : Hid ((wr.drewN nq).os = wr.os ∧ (wr.drewN nq).tape = wr.tape ∧ (wr.drewN nq).output = wr.output) := ⟨rfl, rfl, rfl⟩
          generalize wr.drewN nq = wa at *
          have hblk : ∀ b : Nat, wa.heap[b]? = wr.heap[b]? := fun b => by rw [HH.out]
          have hcl : ∀ p v, wr.cell? p = some v → wa.cell? p = some v := fun p v h => (World.cell?_of_block (hblk p.block)).trans h
          have a0 := hcl _ _ c0
          have a1 := hcl _ _ c1
          have b0 := hcl _ _ k0
          have b1 := hcl _ _ k1
          have b2 := hcl _ _ k2
          have b3 := hcl _ _ k3
          have HRA := Lib.hid (HRD.out.heap HH.out)
          have hglt : g < wa.heap.size := kind_lt HRA.out
          obtain ⟨VA, hVA⟩ : ∃ VA, wa.alloc (.cells #[.int .u8 ((kd x.2 : Nat) : Int), .int .i64 (x.1 : Int), .int .i64 ((x.1 : Int) + (x.2.length : Int)), .string (str x.2)] 81) = VA := ⟨_, rfl⟩
          have hbA : Below wa.heap.size wa VA := hVA ▸ (Below.refl _ wa).alloc (Nat.le_refl _) _
          have hnA : VA.heap[wa.heap.size]? = some (.cells #[.int .u8 ((kd x.2 : Nat) : Int), .int .i64 (x.1 : Int), .int .i64 ((x.1 : Int) + (x.2.length : Int)), .string (str x.2)] 81 (0, 0)) := hVA ▸ lone_new wa _ _
          have hrA := (hbA.block g hglt).trans HRA.out
          have p0 : VA.cell? ⟨g, 0, none⟩ = some (.slice (some ⟨gw, 0, none⟩) S.length cp) := by rw [cell_of hrA]; rfl
          have p1 : VA.cell? ⟨g, 1, none⟩ = some (.int .i64 (J : Int)) := by rw [cell_of hrA]; rfl
          have p2 : VA.cell? ⟨g, 2, none⟩ = some (.int .i64 most) := by rw [cell_of hrA]; rfl
          have p3 : VA.cell? ⟨g, 3, none⟩ = some (.int .i64 D') := by rw [cell_of hrA]; rfl
          have p4 : VA.cell? ⟨g, 4, none⟩ = some (.int .i64 0) := by rw [cell_of hrA]; rfl
          have p5 : VA.cell? ⟨g, 5, none⟩ = some (.int .i64 0) := by rw [cell_of hrA]; rfl
          have pf : ∀ j, VA.frozen? ⟨g, j, none⟩ = false := frozen_of hrA
          have v0 : VA.cell? ⟨wa.heap.size, 0, none⟩ = some (.int .u8 ((kd x.2 : Nat) : Int)) := by rw [cell_of hnA]; rfl
          have v1 : VA.cell? ⟨wa.heap.size, 1, none⟩ = some (.int .i64 (x.1 : Int)) := by rw [cell_of hnA]; rfl
          have v2 : VA.cell? ⟨wa.heap.size, 2, none⟩ = some (.int .i64 ((x.1 : Int) + (x.2.length : Int))) := by rw [cell_of hnA]; rfl
          have v3 : VA.cell? ⟨wa.heap.size, 3, none⟩ = some (.string (str x.2)) := by rw [cell_of hnA]; rfl
          have vf : ∀ j, VA.frozen? ⟨wa.heap.size, j, none⟩ = false := frozen_of hnA
          have hng : ¬ wa.heap.size = g := by omega
          have hgn : ¬ g = wa.heap.size := by omega
          have HBA := Lib.hid hbA
          have HNA := Lib.hid hnA
          have HGLT := Lib.hid hglt
          have hbl : Hid (∀ b : Nat, wa.heap[b]? = wr.heap[b]?) := hblk
          have hJ1 : (J : Int) + 1 < 70000 := by omega
          have hgwl : gw < wa.heap.size := World.block_lt_of_cell? wa _ b0
          clear hblk hcl k0 k1 k2 k3 c0 c1 c2 c3 c5 hbA hnA hrA
          go_region
          have HDRP := Lib.hid hdrop
          have HLT := Lib.hid hlt
          obtain ⟨J1, hJ1e⟩ : ∃ J1, J1 = J + 1 := ⟨_, rfl⟩
          have eJ1 : (J : Int) + 1 = (J1 : Int) := by omega
          have hJ1b : J1 < 70000 := by omega
          have HJ1 := Lib.hid hJ1e
          clear hdrop hx hcw hlt hltI hJ0 hJ1 hJ1e a0 a1 b0 b1 b2 b3 hgwl hglt hVA hgw
          have hJb : J < 70000 := by omega
          have HRA2 : Hid (RdrAt g (some ⟨gw, 0, none⟩) S.length cp (J : Int) most D' 0 0 VA) := (HBA.out.block g HGLT.out).trans HRA.out
          obtain ⟨VB, hVB⟩ : ∃ VB, VA.setCell ⟨g, 1, none⟩ (.int .i64 (J1 : Int)) = VB := ⟨_, rfl⟩
          have hVBb : ∀ q : Nat, q ≠ g → VB.heap[q]? = VA.heap[q]? := fun q hq => hVB ▸ Below.heap_setCell _ _ _ _ hq
          have hVBs : VB.heap.size = VA.heap.size := by rw [← hVB]; simp [World.setCell]
          have hRB : RdrAt g (some ⟨gw, 0, none⟩) S.length cp (J1 : Int) most D' 0 0 VB := by
            unfold RdrAt
            rw [← hVB, Joins.block_setCell HRA2.out]; rfl
          have hwr : ∀ q : Nat, q < wr.heap.size → q ≠ g → VB.heap[q]? = wr.heap[q]? := fun q h1 h2 => by
            rw [hVBb q h2, HBA.out.block q (by have := HH.out; rw [this]; exact h1), hbl.out q]
          have hgd : ∀ b c, wr.heap[b]? = some (.cells c 88 (0, 0)) → b ≠ g := fun b c h e => by
            have h9 := HRD.out
            unfold RdrAt at h9
            rw [e, h9] at h; cases h
          have hoB : VB.ownsRow w.heap.size 88 4 (.slice oA P.len oc) P.len xs := ownsRow_block HO.out fun q hq => by
            obtain ⟨_, cc, hcc⟩ := ownsRow_kind2 HO.out q hq
            exact hwr q (kind_lt hcc) (hgd q cc hcc)
          have HPB := Lib.hid (show RowD VB w.heap.size P xs ks from HP.out.keep fun q hq => by
            obtain ⟨_, cc, hcc⟩ := HP.out.kind q hq
            exact hwr q (kind_lt hcc) (hgd q cc hcc))
          have HJB := Lib.hid (show Just g w VB from by
            refine HJ.out.trans ⟨?_, ?_, ?_, ?_, fun q h1 h2 => hwr q h1 h2⟩
            · rw [← hVB]; exact HBA.out.os.trans HOS.out.1
            · rw [← hVB]; exact HBA.out.tape.trans HOS.out.2.1
            · rw [← hVB]; exact HBA.out.output.trans HOS.out.2.2
            · rw [hVBs]; have := HBA.out.size; have h9 := HH.out; rw [← h9]; exact this)
          have hnV : VB.heap[wa.heap.size]? = some (.cells #[.int .u8 ((kd x.2 : Nat) : Int), .int .i64 (x.1 : Int), .int .i64 ((x.1 : Int) + (x.2.length : Int)), .string (str x.2)] 81 (0, 0)) := (hVBb _ hng).trans HNA.out
          have x0 : VB.cell? ⟨wa.heap.size, 0, none⟩ = some (.int .u8 ((kd x.2 : Nat) : Int)) := by rw [cell_of hnV]; rfl
          have x1 : VB.cell? ⟨wa.heap.size, 1, none⟩ = some (.int .i64 (x.1 : Int)) := by rw [cell_of hnV]; rfl
          have x3 : VB.cell? ⟨wa.heap.size, 3, none⟩ = some (.string (str x.2)) := by rw [cell_of hnV]; rfl
          have HRB := Lib.hid hRB
          have HOB := Lib.hid hoB
          have HNV := Lib.hid hnV
          have HVBS := Lib.hid hVBs
          clear hVBb hVBs hRB hwr hgd hnV p0 p2 p3 p4 p5 v2
          by_cases h1 : kd x.2 = 1
          · clear hoB
            have e1 : ((kd x.2 : Nat) : Int) = 1 := by omega
            rw [e1] at x0
            obtain ⟨q0, q1, q2, q3, q4, q5, qf⟩ := HRB.out.facts
            have H1 := Lib.hid h1
            clear h1 e1
            by_cases hdp : most < deep + 1
            · have hres : Hid (R0 = ⟨P, S.drop J1, D', some (46, (x.1 : Int))⟩) := by
                show _ = _
                rw [HR0'.out, HDRP.out, nds, if_neg HK2.out, if_pos H1.out, if_pos hdp, HJ1.out]
                unfold comb
                dsimp only
                rw [For.app_nil]
              obtain ⟨VC, hVC⟩ : ∃ VC, VB.setCell ⟨g, 5, none⟩ (.int .i64 46) = VC := ⟨_, rfl⟩
              have HRC := Lib.hid (show RdrAt g (some ⟨gw, 0, none⟩) S.length cp (J1 : Int) most D' 0 46 VC from hVC ▸ HRB.out.setE 46)
              have HJC := Lib.hid (show Just g w VC from hVC ▸ HJB.out.of_set)
              have hnC : VC.heap[wa.heap.size]? = some (.cells #[.int .u8 ((kd x.2 : Nat) : Int), .int .i64 (x.1 : Int), .int .i64 ((x.1 : Int) + (x.2.length : Int)), .string (str x.2)] 81 (0, 0)) := (hVC ▸ Below.heap_setCell _ _ _ _ hng).trans HNV.out
              have y1 : VC.cell? ⟨wa.heap.size, 1, none⟩ = some (.int .i64 (x.1 : Int)) := by rw [cell_of hnC]; rfl
              obtain ⟨r0, r1, r2, r3, r4, r5, rf⟩ := HRC.out.facts
              clear hnC
              go_wp2_with fail
              go_ret
              rw [hres.out]
              refine ⟨⟨_, .nil, [], rfl, KidsD.nil _ _, fun h => by cases h⟩, .inr ⟨46, (x.1 : Int), rfl, J1, by omega, HRC.out.setA _⟩, HJC.out.of_set.drew⟩
            · obtain ⟨VC, hVC⟩ : ∃ VC, VB.setCell ⟨g, 3, none⟩ (.int .i64 (max D' (deep + 1))) = VC := ⟨_, rfl⟩
              have hRC : RdrAt g (some ⟨gw, 0, none⟩) S.length cp (J1 : Int) most (max D' (deep + 1)) 0 0 VC.drew := hVC ▸ HRB.out.setD _
              have hJC : Just g w VC.drew := hVC ▸ HJB.out.of_set.drew
              have HVC := Lib.hid (show ∀ q : Nat, q ≠ g → VC.drew.heap[q]? = VB.heap[q]? from fun q hq => by rw [drew_heap, ← hVC]; exact Below.heap_setCell _ _ _ _ hq)
              have hSC : VC.drew.heap.size = VB.heap.size := by rw [drew_heap, ← hVC]; simp [World.setCell]
              have hJJ1 := HJ1.out
              have hLL1 := HLT.out
              have c := ih m2 g (some ⟨gw, 0, none⟩) cp S most (deep + 1) (max D' (deep + 1)) J1 VC.drew (by omega) (by omega) (by omega) hS (by omega) (by omega) hm0 hm1 (by omega) (by omega) HF.out hRC (HW.out.just hJC HGK.out)
              obtain ⟨R1, hR1⟩ : ∃ R1, R1 = nds most m2 (deep + 1) (S.drop J1) (max D' (deep + 1)) := ⟨_, rfl⟩
              rw [← hR1] at c
              have HR1 := Lib.hid hR1
              have HSC := Lib.hid hSC
              have HDP := Lib.hid hdp
              have HRC := Lib.hid hRC
              have HJC := Lib.hid hJC
              have h1Dl : max D' (deep + 1) ≤ R1.D := by rw [HR1.out]; exact nds_D.1
              have h1Du : R1.D ≤ max (max D' (deep + 1)) most := by rw [HR1.out]; exact nds_D.2
              have h1l : R1.l.length ≤ (S.drop J1).length := by rw [HR1.out]; exact nds_l
              have HJJ1 := Lib.hid hJJ1
              have HLL1 := Lib.hid hLL1
              have H1D := Lib.hid (show 0 ≤ R1.D ∧ R1.D ≤ 70000 from ⟨by omega, by omega⟩)
              have H1L := Lib.hid h1l
              clear hR1 hSC hRC hJC hJJ1 hLL1 h1Dl h1Du h1l
              go_wp2_with fail
              refine c.mono ?_
              rintro e w2 ⟨⟨vk, F1, kk, rfl, hkk, hF1⟩, hcs, hj2⟩
              have HJ2 := Lib.hid (HJC.out.trans hj2)
              have HV2 := Lib.hid (show ∀ q : Nat, q < VB.heap.size → q ≠ g → w2.heap[q]? = VB.heap[q]? from fun q h1 h2 => (hj2.block q (by rw [HSC.out]; exact h1) h2).trans (HVC.out q h2))
              have HGB := Lib.hid (show ∀ q : Nat, (∃ c, VB.heap[q]? = some (.cells c 88 (0, 0))) → q ≠ g from fun q ⟨c, hc⟩ e => by
                have h9 := HRB.out
                unfold RdrAt at h9
                rw [e, h9] at hc; cases hc)
              have HO2 := Lib.hid (show w2.ownsRow w.heap.size 88 4 (.slice oA P.len oc) P.len xs from ownsRow_block HOB.out fun q hq => by
                obtain ⟨_, cc, hcc⟩ := ownsRow_kind2 HOB.out q hq
                exact HV2.out q (kind_lt hcc) (HGB.out q ⟨cc, hcc⟩))
              have HP2 := Lib.hid (show RowD w2 w.heap.size P xs ks from HPB.out.keep fun q hq => by
                obtain ⟨_, cc, hcc⟩ := HPB.out.kind q hq
                exact HV2.out q (kind_lt hcc) (HGB.out q ⟨cc, hcc⟩))
              have HN2 := Lib.hid ((HV2.out wa.heap.size (kind_lt HNV.out) hng).trans HNV.out)
              have HKK := Lib.hid (show KidsD w2 w.heap.size vk F1 kk from hkk.base (by rw [HSC.out]; exact HJB.out.size))
              have HKK2 := Lib.hid (show ∀ b ∈ kk, some b ≠ (Value.slice oA P.len oc).ownBlock from fun b hb e => by
                obtain ⟨_, cc, hcc⟩ := ownsRow_kind2 HOB.out b (by simp [blk1, ← e])
                have h8 := kind_lt hcc
                have h9 := (hkk.kind b hb).1
                rw [HSC.out] at h9
                omega)
              obtain ⟨kA, kc, rfl, -⟩ := hkk.kds
              have hone : ∀ u ∈ [Value.int .u8 0, .int .i64 (x.1 : Int), .string (str []), .slice kA F1.len kc], u.oneCell' = true := by
                intro u hu; simp only [List.mem_cons, List.not_mem_nil, or_false] at hu; rcases hu with rfl | rfl | rfl | rfl <;> rfl
              have hl63 : P.len + 1 ≤ maxLen := by unfold maxLen; omega
              have hlby : (P.len + 1) * 56 ≤ 140737488355328 := by omega
              have HF1 := Lib.hid hF1
              clear c hkk hj2 hF1 q0 q1 q2 q3 q4 q5 qf x0 x1 x3 hVC
              rcases hcs with ⟨her1, I1, hI1, hdr1, hr2⟩ | ⟨e, a, her1, I1, hI1, hr2⟩
              · by_cases hlt1 : I1 < S.length
                · obtain ⟨y, hy⟩ : ∃ y, S.drop I1 = y :: S.drop (I1 + 1) := ⟨S[I1], List.drop_eq_getElem_cons hlt1⟩
                  obtain ⟨I2, hI2⟩ : ∃ I2, I2 = I1 + 1 := ⟨_, rfl⟩
                  have eI2 : (I1 : Int) + 1 = (I2 : Int) := by omega
                  have hI2b : I2 < 70000 := by omega
                  have hI1b : I1 < 70000 := by omega
                  have hng2 : ¬ (S.length : Int) ≤ (I1 : Int) := by omega
                  have hng3 : (I1 : Int) < (S.length : Int) := by omega
                  have hJI : Hid (J < I1 ∧ I1 < S.length) := by
                    have h9 := H1L.out
                    have h8 := HJ1.out
                    rw [← hdr1, List.length_drop, List.length_drop] at h9
                    show _ ∧ _
                    omega
                  have hres : Hid (R0 = comb (P.app (.one 0 (x.1 : Int) [] F1)) (nds most m2 deep (S.drop I2) R1.D)) := by
                    show _ = _
                    rw [HR0'.out, HDRP.out, ← HJ1.out, nds_open_go HK2.out H1.out (Int.not_lt.2 HDP.out) HR1.out her1 (hdr1.symm.trans hy), comb_comb, HF1.out her1, hI2]
                  have HI2 := Lib.hid hI2
                  clear hy hI2 hlt1 hdr1 her1 hI1
                  have HR2 := Lib.hid hr2
                  have HG2 := Lib.hid (show ∀ q : Nat, (∃ c, w2.heap[q]? = some (.cells c 88)) → q ≠ g from fun q ⟨c, hc⟩ e => by
                    have h9 := HR2.out
                    unfold RdrAt at h9
                    rw [e, h9] at hc; cases hc)
                  obtain ⟨k0, k1, k2, k3, k4, k5, kf⟩ := hr2.facts
                  clear hr2
                  go_wp2_with fail
                  go_quiet (fail)
                  have HH2 := Lib.hid (drewN_heap w2 nq)
                  have HJW := Lib.hid (HJ2.out.drewN nq)
                  generalize w2.drewN nq = wb at *
                  have hRb := HR2.out.heap HH2.out
                  have hnb : wb.heap[wa.heap.size]? = some (.cells #[.int .u8 ((kd x.2 : Nat) : Int), .int .i64 (x.1 : Int), .int .i64 ((x.1 : Int) + (x.2.length : Int)), .string (str x.2)] 81 (0, 0)) := by rw [HH2.out]; exact HN2.out
                  obtain ⟨VE, hVE⟩ : ∃ VE, wb.setCell ⟨g, 1, none⟩ (.int .i64 (I2 : Int)) = VE := ⟨_, rfl⟩
                  obtain ⟨_, s1VE, _, _, s4VE, s5VE, sfVE⟩ := hRb.facts
                  have hRVE : RdrAt g (some ⟨gw, 0, none⟩) S.length cp (I2 : Int) most R1.D 0 0 VE := hVE ▸ hRb.setI (I2 : Int)
                  have hbVE : ∀ q : Nat, q ≠ g → VE.heap[q]? = wb.heap[q]? := fun q hq => hVE ▸ Below.heap_setCell _ _ _ _ hq
                  have hbE : ∀ q : Nat, q ≠ g → VE.heap[q]? = w2.heap[q]? := fun q hq => by rw [hbVE q hq, HH2.out]
                  have hjE : Just g w VE := by rw [← hVE]; exact HJW.out.of_set
                  have z1 : VE.cell? ⟨wa.heap.size, 1, none⟩ = some (.int .i64 (x.1 : Int)) := by rw [cell_of ((hbE _ hng).trans HN2.out)]; rfl
                  have hoE : VE.ownsRow w.heap.size 88 4 (.slice oA P.len oc) P.len xs := ownsRow_block HO2.out fun q hq => hbE q (HG2.out q (ownsRow_kind2 HO2.out q hq).2)
                  have HPE := Lib.hid (show RowD VE w.heap.size P xs ks from HP2.out.keep fun q hq => hbE q (HG2.out q (HP2.out.kind q hq).2))
                  have HKE := Lib.hid (show KidsD VE w.heap.size (.slice kA F1.len kc) F1 kk from HKK.out.keep fun q hq => hbE q (HG2.out q (HKK.out.kind q hq).2))
                  have hoZ := hoE.alloc (.cells #[.int .u8 0, .int .i64 (x.1 : Int), .string (str []), .slice kA F1.len kc] 88)
                  have hnews := World.news_of_block (cs := #[.int .u8 0, .int .i64 (x.1 : Int), .string (str []), .slice kA F1.len kc]) (show (VE.alloc (.cells #[.int .u8 0, .int .i64 (x.1 : Int), .string (str []), .slice kA F1.len kc] 88)).heap[VE.heap.size]? = _ from lone_new VE _ _)
                  have hBZ : w.heap.size ≤ (VE.alloc (.cells #[.int .u8 0, .int .i64 (x.1 : Int), .string (str []), .slice kA F1.len kc] 88)).heap.size := by rw [World.size_alloc]; have := hjE.size; omega
                  have HJE := Lib.hid hjE
                  have HRE := Lib.hid hRVE
                  have HOE := Lib.hid hoE
                  clear hjE hRVE hoE hbE hnb hbVE
                  go_wp2_with (at_builtin; refine wpList_append_lies _ rfl (.tmp 128) (.tmp 133) 39 rfl w.heap.size 88 i0 _ 4 56 Try.underlying39 hi hz0 hz1 hz2 rfl (by decide) _ _ _ rfl hoZ ⟨VE.heap.size, 0, none⟩ 1 1 _ rfl rfl hnews hone (by decide) hl63 hlby hBZ _ rfl ?_; intro g0 cap w3 hown hgrow hat hlt3)
                  have hgrow : (VE.alloc (.cells #[.int .u8 0, .int .i64 (x.1 : Int), .string (str []), .slice kA F1.len kc] 88)).grownBy w3 (Value.slice oA P.len oc).ownBlock := hgrow
                  have hat : (Value.slice oA P.len oc).ownBlock = some g0 ∨ g0 = (VE.alloc (.cells #[.int .u8 0, .int .i64 (x.1 : Int), .string (str []), .slice kA F1.len kc] 88)).heap.size := hat
                  obtain ⟨t1, t2, t3, t4⟩ := tailD (k := 0) (at_ := (x.1 : Int)) (t := []) (cap := cap) (g0 := g0) HOE.out HPE.out HK.out HKE.out HKK2.out ⟨by decide, (fun _ h => by cases h), by decide⟩ hgrow hat HJE.out HRE.out
                  have HT1 := Lib.hid t1
                  have HT2 := Lib.hid t2
                  have HT3 := Lib.hid t3
                  have HT4 := Lib.hid t4
                  have HOWN := Lib.hid hown
                  clear t1 t2 t3 t4 hown hgrow hat hlt3 hnews hoZ hBZ
                  go_roundg (S.length - J)
                  case measure => omega
                  case rel =>
                    have hlen1 : (P.app (.one 0 (x.1 : Int) [] F1)).len = P.len + 1 := by rw [For.app_len]; rfl
                    have hLL := HLT.out
                    have hJJ := HJ1.out
                    refine ⟨P.app (.one 0 (x.1 : Int) [] F1), _, ks ++ kk, by rw [hlen1]; exact HOWN.out, HT1.out, HT2.out, by rw [hlen1]; omega, HT4.out, .inl ⟨I2, m2, R1.D, by have := hJI.out; have := HI2.out; omega, by have := hJI.out; have := HI2.out; omega, by have := hJI.out; have := HI2.out; rw [hlen1]; omega, by have := hJI.out; have := HI2.out; omega, by omega, H1D.out.1, H1D.out.2, hres.out, HT3.out⟩⟩
                · obtain ⟨I2, hI2⟩ : ∃ I2, I2 = I1 + 1 := ⟨_, rfl⟩
                  have eI2 : (I1 : Int) + 1 = (I2 : Int) := by omega
                  have hI2b : I2 < 70000 := by omega
                  have hI1b : I1 < 70000 := by omega
                  have hng2 : (S.length : Int) ≤ (I1 : Int) := by omega
                  have hng3 : ¬ (I1 : Int) < (S.length : Int) := by omega
                  have hrs := nds_open_end (deep := deep) HK2.out H1.out (Int.not_lt.2 HDP.out) HR1.out her1 (hdr1.symm.trans (List.drop_of_length_le (by omega)))
                  have hres : Hid (R0.er = some (4, -1) ∧ R0.D = R1.D) := by
                    show _ ∧ _
                    rw [HR0'.out, HDRP.out, ← HJ1.out]
                    exact hrs
                  have HI2 := Lib.hid (show (I2 : Int) + deep ≤ 140000 by omega)
                  clear hI2 hlt1 hdr1 her1 hI1 hrs
                  have HR2 := Lib.hid hr2
                  have HG2 := Lib.hid (show ∀ q : Nat, (∃ c, w2.heap[q]? = some (.cells c 88)) → q ≠ g from fun q ⟨c, hc⟩ e => by
                    have h9 := HR2.out
                    unfold RdrAt at h9
                    rw [e, h9] at hc; cases hc)
                  obtain ⟨k0, k1, k2, k3, k4, k5, kf⟩ := hr2.facts
                  clear hr2
                  go_wp2_with fail
                  go_quiet (fail)
                  have HH2 := Lib.hid (drewN_heap w2 nq)
                  have HJW := Lib.hid (HJ2.out.drewN nq)
                  generalize w2.drewN nq = wb at *
                  have hRb := HR2.out.heap HH2.out
                  have hnb : wb.heap[wa.heap.size]? = some (.cells #[.int .u8 ((kd x.2 : Nat) : Int), .int .i64 (x.1 : Int), .int .i64 ((x.1 : Int) + (x.2.length : Int)), .string (str x.2)] 81 (0, 0)) := by rw [HH2.out]; exact HN2.out
                  obtain ⟨VX, hVX⟩ : ∃ VX, wb.setCell ⟨g, 5, none⟩ (.int .i64 4) = VX := ⟨_, rfl⟩
                  obtain ⟨_, s1VX, _, _, s4VX, s5VX, sfVX⟩ := hRb.facts
                  have hRVX : RdrAt g (some ⟨gw, 0, none⟩) S.length cp (I1 : Int) most R1.D 0 4 VX := hVX ▸ hRb.setE 4
                  have hbVX : ∀ q : Nat, q ≠ g → VX.heap[q]? = wb.heap[q]? := fun q hq => hVX ▸ Below.heap_setCell _ _ _ _ hq
                  obtain ⟨VY, hVY⟩ : ∃ VY, VX.setCell ⟨g, 4, none⟩ (.int .i64 (-1)) = VY := ⟨_, rfl⟩
                  obtain ⟨_, s1VY, _, _, s4VY, s5VY, sfVY⟩ := hRVX.facts
                  have hRVY : RdrAt g (some ⟨gw, 0, none⟩) S.length cp (I1 : Int) most R1.D (-1) 4 VY := hVY ▸ hRVX.setA (-1)
                  have hbVY : ∀ q : Nat, q ≠ g → VY.heap[q]? = VX.heap[q]? := fun q hq => hVY ▸ Below.heap_setCell _ _ _ _ hq
                  obtain ⟨VE, hVE⟩ : ∃ VE, VY.setCell ⟨g, 1, none⟩ (.int .i64 (I2 : Int)) = VE := ⟨_, rfl⟩
                  obtain ⟨_, s1VE, _, _, s4VE, s5VE, sfVE⟩ := hRVY.facts
                  have hRVE : RdrAt g (some ⟨gw, 0, none⟩) S.length cp (I2 : Int) most R1.D (-1) 4 VE := hVE ▸ hRVY.setI (I2 : Int)
                  have hbVE : ∀ q : Nat, q ≠ g → VE.heap[q]? = VY.heap[q]? := fun q hq => hVE ▸ Below.heap_setCell _ _ _ _ hq
                  have hbE : ∀ q : Nat, q ≠ g → VE.heap[q]? = w2.heap[q]? := fun q hq => by rw [hbVE q hq, hbVY q hq, hbVX q hq, HH2.out]
                  have hjE : Just g w VE := by rw [← hVE]; rw [← hVY]; rw [← hVX]; exact HJW.out.of_set.of_set.of_set
                  have z1 : VE.cell? ⟨wa.heap.size, 1, none⟩ = some (.int .i64 (x.1 : Int)) := by rw [cell_of ((hbE _ hng).trans HN2.out)]; rfl
                  have hoE : VE.ownsRow w.heap.size 88 4 (.slice oA P.len oc) P.len xs := ownsRow_block HO2.out fun q hq => hbE q (HG2.out q (ownsRow_kind2 HO2.out q hq).2)
                  have HPE := Lib.hid (show RowD VE w.heap.size P xs ks from HP2.out.keep fun q hq => hbE q (HG2.out q (HP2.out.kind q hq).2))
                  have HKE := Lib.hid (show KidsD VE w.heap.size (.slice kA F1.len kc) F1 kk from HKK.out.keep fun q hq => hbE q (HG2.out q (HKK.out.kind q hq).2))
                  have hoZ := hoE.alloc (.cells #[.int .u8 0, .int .i64 (x.1 : Int), .string (str []), .slice kA F1.len kc] 88)
                  have hnews := World.news_of_block (cs := #[.int .u8 0, .int .i64 (x.1 : Int), .string (str []), .slice kA F1.len kc]) (show (VE.alloc (.cells #[.int .u8 0, .int .i64 (x.1 : Int), .string (str []), .slice kA F1.len kc] 88)).heap[VE.heap.size]? = _ from lone_new VE _ _)
                  have hBZ : w.heap.size ≤ (VE.alloc (.cells #[.int .u8 0, .int .i64 (x.1 : Int), .string (str []), .slice kA F1.len kc] 88)).heap.size := by rw [World.size_alloc]; have := hjE.size; omega
                  have HJE := Lib.hid hjE
                  have HRE := Lib.hid hRVE
                  have HOE := Lib.hid hoE
                  clear hjE hRVE hoE hbE hnb hbVX hbVY hbVE
                  go_wp2_with (at_builtin; refine wpList_append_lies _ rfl (.tmp 128) (.tmp 133) 39 rfl w.heap.size 88 i0 _ 4 56 Try.underlying39 hi hz0 hz1 hz2 rfl (by decide) _ _ _ rfl hoZ ⟨VE.heap.size, 0, none⟩ 1 1 _ rfl rfl hnews hone (by decide) hl63 hlby hBZ _ rfl ?_; intro g0 cap w3 hown hgrow hat hlt3)
                  have hgrow : (VE.alloc (.cells #[.int .u8 0, .int .i64 (x.1 : Int), .string (str []), .slice kA F1.len kc] 88)).grownBy w3 (Value.slice oA P.len oc).ownBlock := hgrow
                  have hat : (Value.slice oA P.len oc).ownBlock = some g0 ∨ g0 = (VE.alloc (.cells #[.int .u8 0, .int .i64 (x.1 : Int), .string (str []), .slice kA F1.len kc] 88)).heap.size := hat
                  obtain ⟨t1, t2, t3, t4⟩ := tailD (k := 0) (at_ := (x.1 : Int)) (t := []) (cap := cap) (g0 := g0) HOE.out HPE.out HK.out HKE.out HKK2.out ⟨by decide, (fun _ h => by cases h), by decide⟩ hgrow hat HJE.out HRE.out
                  have HT1 := Lib.hid t1
                  have HT2 := Lib.hid t2
                  have HT3 := Lib.hid t3
                  have HT4 := Lib.hid t4
                  have HOWN := Lib.hid hown
                  clear t1 t2 t3 t4 hown hgrow hat hlt3 hnews hoZ hBZ
                  go_roundg (S.length - J)
                  case measure => omega
                  case rel =>
                    have hlen1 : (P.app (.one 0 (x.1 : Int) [] F1)).len = P.len + 1 := by rw [For.app_len]; rfl
                    have hLL := HLT.out
                    have hJJ := HJ1.out
                    refine ⟨P.app (.one 0 (x.1 : Int) [] F1), _, ks ++ kk, by rw [hlen1]; exact HOWN.out, HT1.out, HT2.out, by rw [hlen1]; omega, HT4.out, .inr ⟨4, -1, hres.out.1, by decide, I2, HI2.out, by rw [hres.out.2]; exact HT3.out⟩⟩
              · obtain ⟨I2, hI2⟩ : ∃ I2, I2 = I1 + 1 := ⟨_, rfl⟩
                have eI2 : (I1 : Int) + 1 = (I2 : Int) := by omega
                have hI2b : I2 < 150000 := by omega
                have hI1b : I1 < 150000 := by omega
                have hne : e ≠ 0 := by have := HR1.out; rw [this] at her1; exact nds_er her1
                have he1 : (e == 0) = false := by simp [hne]
                have hrs := nds_open_er (deep := deep) HK2.out H1.out (Int.not_lt.2 HDP.out) HR1.out her1
                have hres : Hid (R0.er = some (e, a) ∧ R0.D = R1.D) := by
                  show _ ∧ _
                  rw [HR0'.out, HDRP.out, ← HJ1.out]
                  exact hrs
                have HI2 := Lib.hid (show (I2 : Int) + deep ≤ 140000 by omega)
                have HNE := Lib.hid hne
                clear hI2 her1 hI1 hrs hne
                have HR2 := Lib.hid hr2
                have HG2 := Lib.hid (show ∀ q : Nat, (∃ c, w2.heap[q]? = some (.cells c 88)) → q ≠ g from fun q ⟨c, hc⟩ e => by
                  have h9 := HR2.out
                  unfold RdrAt at h9
                  rw [e, h9] at hc; cases hc)
                obtain ⟨k0, k1, k2, k3, k4, k5, kf⟩ := hr2.facts
                clear hr2
                go_wp2_with fail
                go_quiet (fail)
                have HH2 := Lib.hid (drewN_heap w2 nq)
                have HJW := Lib.hid (HJ2.out.drewN nq)
                generalize w2.drewN nq = wb at *
                have hRb := HR2.out.heap HH2.out
                have hnb : wb.heap[wa.heap.size]? = some (.cells #[.int .u8 ((kd x.2 : Nat) : Int), .int .i64 (x.1 : Int), .int .i64 ((x.1 : Int) + (x.2.length : Int)), .string (str x.2)] 81 (0, 0)) := by rw [HH2.out]; exact HN2.out
                obtain ⟨VE, hVE⟩ : ∃ VE, wb.setCell ⟨g, 1, none⟩ (.int .i64 (I2 : Int)) = VE := ⟨_, rfl⟩
                obtain ⟨_, s1VE, _, _, s4VE, s5VE, sfVE⟩ := hRb.facts
                have hRVE : RdrAt g (some ⟨gw, 0, none⟩) S.length cp (I2 : Int) most R1.D a e VE := hVE ▸ hRb.setI (I2 : Int)
                have hbVE : ∀ q : Nat, q ≠ g → VE.heap[q]? = wb.heap[q]? := fun q hq => hVE ▸ Below.heap_setCell _ _ _ _ hq
                have hbE : ∀ q : Nat, q ≠ g → VE.heap[q]? = w2.heap[q]? := fun q hq => by rw [hbVE q hq, HH2.out]
                have hjE : Just g w VE := by rw [← hVE]; exact HJW.out.of_set
                have z1 : VE.cell? ⟨wa.heap.size, 1, none⟩ = some (.int .i64 (x.1 : Int)) := by rw [cell_of ((hbE _ hng).trans HN2.out)]; rfl
                have hoE : VE.ownsRow w.heap.size 88 4 (.slice oA P.len oc) P.len xs := ownsRow_block HO2.out fun q hq => hbE q (HG2.out q (ownsRow_kind2 HO2.out q hq).2)
                have HPE := Lib.hid (show RowD VE w.heap.size P xs ks from HP2.out.keep fun q hq => hbE q (HG2.out q (HP2.out.kind q hq).2))
                have HKE := Lib.hid (show KidsD VE w.heap.size (.slice kA F1.len kc) F1 kk from HKK.out.keep fun q hq => hbE q (HG2.out q (HKK.out.kind q hq).2))
                have hoZ := hoE.alloc (.cells #[.int .u8 0, .int .i64 (x.1 : Int), .string (str []), .slice kA F1.len kc] 88)
                have hnews := World.news_of_block (cs := #[.int .u8 0, .int .i64 (x.1 : Int), .string (str []), .slice kA F1.len kc]) (show (VE.alloc (.cells #[.int .u8 0, .int .i64 (x.1 : Int), .string (str []), .slice kA F1.len kc] 88)).heap[VE.heap.size]? = _ from lone_new VE _ _)
                have hBZ : w.heap.size ≤ (VE.alloc (.cells #[.int .u8 0, .int .i64 (x.1 : Int), .string (str []), .slice kA F1.len kc] 88)).heap.size := by rw [World.size_alloc]; have := hjE.size; omega
                have HJE := Lib.hid hjE
                have HRE := Lib.hid hRVE
                have HOE := Lib.hid hoE
                clear hjE hRVE hoE hbE hnb hbVE
                go_wp2_with (at_builtin; refine wpList_append_lies _ rfl (.tmp 128) (.tmp 133) 39 rfl w.heap.size 88 i0 _ 4 56 Try.underlying39 hi hz0 hz1 hz2 rfl (by decide) _ _ _ rfl hoZ ⟨VE.heap.size, 0, none⟩ 1 1 _ rfl rfl hnews hone (by decide) hl63 hlby hBZ _ rfl ?_; intro g0 cap w3 hown hgrow hat hlt3)
                have hgrow : (VE.alloc (.cells #[.int .u8 0, .int .i64 (x.1 : Int), .string (str []), .slice kA F1.len kc] 88)).grownBy w3 (Value.slice oA P.len oc).ownBlock := hgrow
                have hat : (Value.slice oA P.len oc).ownBlock = some g0 ∨ g0 = (VE.alloc (.cells #[.int .u8 0, .int .i64 (x.1 : Int), .string (str []), .slice kA F1.len kc] 88)).heap.size := hat
                obtain ⟨t1, t2, t3, t4⟩ := tailD (k := 0) (at_ := (x.1 : Int)) (t := []) (cap := cap) (g0 := g0) HOE.out HPE.out HK.out HKE.out HKK2.out ⟨by decide, (fun _ h => by cases h), by decide⟩ hgrow hat HJE.out HRE.out
                have HT1 := Lib.hid t1
                have HT2 := Lib.hid t2
                have HT3 := Lib.hid t3
                have HT4 := Lib.hid t4
                have HOWN := Lib.hid hown
                clear t1 t2 t3 t4 hown hgrow hat hlt3 hnews hoZ hBZ
                go_roundg (S.length - J)
                case measure => omega
                case rel =>
                  have hlen1 : (P.app (.one 0 (x.1 : Int) [] F1)).len = P.len + 1 := by rw [For.app_len]; rfl
                  have hLL := HLT.out
                  have hJJ := HJ1.out
                  refine ⟨P.app (.one 0 (x.1 : Int) [] F1), _, ks ++ kk, by rw [hlen1]; exact HOWN.out, HT1.out, HT2.out, by rw [hlen1]; omega, HT4.out, .inr ⟨e, a, hres.out.1, HNE.out, I2, HI2.out, by rw [hres.out.2]; exact HT3.out⟩⟩
          · have hk1 : (((kd x.2 : Nat) : Int) == 1) = false := by simp; omega
            have hk1' : (((kd x.2 : Nat) : Int) != 1) = true := by simp; omega
            have HK1 := Lib.hid h1
            clear h1
            have hoZ := hoB.alloc (.cells #[.int .u8 ((kd x.2 : Nat) : Int), .int .i64 (x.1 : Int), .string (str x.2), .slice none 0 0] 88)
            have hnZ : (VB.alloc (.cells #[.int .u8 ((kd x.2 : Nat) : Int), .int .i64 (x.1 : Int), .string (str x.2), .slice none 0 0] 88)).heap[VB.heap.size]? = some (.cells #[.int .u8 ((kd x.2 : Nat) : Int), .int .i64 (x.1 : Int), .string (str x.2), .slice none 0 0] 88 (0, 0)) := lone_new VB _ _
            have hnews := World.news_of_block (cs := #[.int .u8 ((kd x.2 : Nat) : Int), .int .i64 (x.1 : Int), .string (str x.2), .slice none 0 0]) hnZ
            have hone : ∀ u ∈ [Value.int .u8 ((kd x.2 : Nat) : Int), .int .i64 (x.1 : Int), .string (str x.2), .slice none 0 0], u.oneCell' = true := by
              intro u hu; simp only [List.mem_cons, List.not_mem_nil, or_false] at hu; rcases hu with rfl | rfl | rfl | rfl <;> rfl
            have hl63 : P.len + 1 ≤ maxLen := by unfold maxLen; omega
            have hlby : (P.len + 1) * 56 ≤ 140737488355328 := by omega
            have hBZ : w.heap.size ≤ (VB.alloc (.cells #[.int .u8 ((kd x.2 : Nat) : Int), .int .i64 (x.1 : Int), .string (str x.2), .slice none 0 0] 88)).heap.size := by rw [World.size_alloc]; have := HJB.out.size; omega
            clear hoB hnZ
            go_wp2_with (at_builtin; refine wpList_append_lies _ rfl (.tmp 59) (.tmp 67) 39 rfl w.heap.size 88 i0 _ 4 56 Try.underlying39 hi hz0 hz1 hz2 rfl (by decide) _ _ _ rfl hoZ ⟨VB.heap.size, 0, none⟩ 1 1 _ rfl rfl hnews hone (by decide) hl63 hlby hBZ _ rfl ?_; intro g0 cap w3 hown hgrow hat hlt3)
            have hgrow : (VB.alloc (.cells #[.int .u8 ((kd x.2 : Nat) : Int), .int .i64 (x.1 : Int), .string (str x.2), .slice none 0 0] 88)).drew.grownBy w3 (Value.slice oA P.len oc).ownBlock := hgrow
            have hgrow : (VB.alloc (.cells #[.int .u8 ((kd x.2 : Nat) : Int), .int .i64 (x.1 : Int), .string (str x.2), .slice none 0 0] 88)).grownBy w3 (Value.slice oA P.len oc).ownBlock := ⟨hgrow.os, hgrow.tape, hgrow.output, hgrow.size, hgrow.block⟩
            have hat : (Value.slice oA P.len oc).ownBlock = some g0 ∨ g0 = (VB.alloc (.cells #[.int .u8 ((kd x.2 : Nat) : Int), .int .i64 (x.1 : Int), .string (str x.2), .slice none 0 0] 88)).heap.size := hat
            have hxf := HF.out x (List.mem_of_getElem? HX.out)
            obtain ⟨q1, q2, q3⟩ := outD_push (k := kd x.2) (a := (x.1 : Int)) (t := x.2) (cap := cap) HPB.out HK.out (KidsD.nil _ _) (fun _ h => by cases h) ⟨by have := kd_le x.2; omega, hxf.1, hxf.2⟩ hgrow hat
            have hgo : some g ≠ (Value.slice oA P.len oc).ownBlock := fun e => by
              obtain ⟨_, cc, hcc⟩ := ownsRow_kind2 HO.out g (by simp [blk1, ← e])
              have h9 := HRD.out
              unfold RdrAt at h9
              rw [h9] at hcc; cases hcc
            have HR3 := Lib.hid (show RdrAt g (some ⟨gw, 0, none⟩) S.length cp (J1 : Int) most D' 0 0 w3 from (q3 g (kind_lt HRB.out) hgo).trans HRB.out)
            have hob : ∀ q ∈ blk1 (.slice oA P.len oc), w.heap.size ≤ q := fun q hq => (ownsRow_kind2 HO.out q hq).1
            have HJ3 := Lib.hid (show Just g w w3 from by
              have h8 := HJB.out
              refine ⟨hgrow.os.trans h8.os, hgrow.tape.trans h8.tape, hgrow.output.trans h8.output, Nat.le_trans hBZ hgrow.size, fun q h1 h2 => ?_⟩
              rw [q3 q (by have := h8.size; omega) (fun e => by have := hob q (by simp [blk1, ← e]); omega)]
              exact h8.block q h1 h2)
            have hres : Hid (R0 = comb (P.app (.one (kd x.2) (x.1 : Int) x.2 .nil)) (nds most m2 deep (S.drop J1) D')) := by
              show _ = _
              rw [HR0'.out, HDRP.out, nds, if_neg HK2.out, if_neg HK1.out, HJ1.out]
              unfold comb
              dsimp only
              rw [For.app_assoc]; rfl
            have HQ1 := Lib.hid q1
            have HQ2 := Lib.hid q2
            have HOWN := Lib.hid hown
            clear q1 q2 q3 hown hgrow hat hlt3 hob hgo hxf hnews hone hoZ hBZ
            go_roundg (S.length - J)
            case measure => omega
            case rel =>
              have hlen1 : (P.app (.one (kd x.2) (x.1 : Int) x.2 .nil)).len = P.len + 1 := by rw [For.app_len]; rfl
              have hJJ := HJ1.out
              have hLL := HLT.out
              refine ⟨P.app (.one (kd x.2) (x.1 : Int) x.2 .nil), _, ks ++ [], by rw [hlen1]; exact HOWN.out, HQ1.out, HQ2.out, by rw [hlen1]; omega, HJ3.out, .inl ⟨J1, m2, D', by omega, by omega, by rw [hlen1]; omega, by omega, by omega, hD0', hD1', hres.out, HR3.out⟩⟩
      · have hJe : J = S.length := by omega
        have hres : Hid (R0 = ⟨P, [], D', none⟩) := by
          show _ = _
          rw [HR0'.out, List.drop_of_length_le (by omega)]
          cases m' with
          | zero => omega
          | succ m2 => show comb P ⟨.nil, [], D', none⟩ = _; unfold comb; rw [For.app_nil]
        have hnl : ¬ (J : Int) < (S.length : Int) := by omega
        clear hlt
        go_wp2_with fail
        go_quiet (fail)
        go_wp2_with fail
        go_ret
        rw [hres.out]
        exact ⟨⟨_, P, _, rfl, KidsD.heap ⟨xs, ks, HO.out, HP.out, rfl⟩ (drewN_heap _ _), fun _ => rfl⟩, .inl ⟨rfl, J, hJ, List.drop_of_length_le (by omega), HRD.out.heap (drewN_heap _ _)⟩, HJ.out.drewN _⟩
    · have hr := hRd
      unfold RdrAt at hr
      have c5 : wr.cell? ⟨g, 5, none⟩ = some (.int .i64 e) := by rw [cell_of hr]; rfl
      have e1 : (e == 0) = false := by simp [hne]
      have HRD := Lib.hid hRd
      have HER := Lib.hid her
      clear hr hRd her hne
      go_wp2_with fail
      go_quiet (fail)
      go_wp2_with fail
      go_ret
      exact ⟨⟨_, P, _, rfl, KidsD.heap ⟨xs, ks, HO.out, HP.out, rfl⟩ (drewN_heap _ _), fun h => by rw [HER.out] at h; cases h⟩, .inr ⟨e, a, HER.out, J, hJd, HRD.out.heap (drewN_heap _ _)⟩, HJ.out.drewN _⟩

theorem nodes_any : ∀ n, NodesAt n
  | 0 => fun m _ _ _ _ _ _ _ _ _ h1 h2 => by omega
  | n + 1 => (nodes_any n).step

end Go.Proofs.Ytkmenbicmbaceaa

/- What take does to the lists that have begun. -/
import Derived.Test.YtbnlcgnpkodieaaSexH
import Derived.Test.YtbnlcgnpkodieaaSexI
namespace Go.Proofs.Ytbnlcgnpkodieaa
open Go.RowKit

set_option linter.unusedVariables false
set_option linter.unusedSimpArgs false

/-- the lists that have begun, nearest first: where each stands, what it has; the last one's -/
structure St where
  m : Mt
  bel : List (Int × For)
  a : Int
  F : For
def frF : List (Int × For) → For
  | [] => .nil
  | x :: bs => (frF bs).app (.one 0 x.1 [] x.2)
theorem frF_len : ∀ bs : List (Int × For), (frF bs).len = bs.length
  | [] => rfl
  | x :: bs => by rw [frF, For.app_len, frF_len bs]; rfl
def St.all (s : St) : For := (frF s.bel).app (.one 0 s.a [] s.F)
theorem St.all_len (s : St) : s.all.len = s.bel.length + 1 := by unfold St.all; rw [For.app_len, frF_len]; rfl
def stp (s : St) (x : Nat × List Nat) : St × Int :=
  if kd x.2 = 1 then (⟨(s.m.deep ((s.bel.length + 1 : Nat) : Int)).1, (s.a, s.F) :: s.bel, (x.1 : Int), .nil⟩, (s.m.deep ((s.bel.length + 1 : Nat) : Int)).2)
  else if kd x.2 = 2 then match s.bel with
    | [] => (s, 4)
    | b :: bs => (⟨s.m, bs, b.1, b.2.app (.one 0 s.a [] s.F)⟩, 0)
  else (⟨s.m, s.bel, s.a, s.F.app (.one (kd x.2) (x.1 : Int) x.2 .nil)⟩, 0)

/-- but for some blocks all that there was is as it was -/
structure But (P : Nat → Prop) (w w' : World) : Prop where
  os : w'.os = w.os
  tape : w'.tape = w.tape
  output : w'.output = w.output
  size : w.heap.size ≤ w'.heap.size
  block : ∀ k, k < w.heap.size → ¬ P k → w'.heap[k]? = w.heap[k]?

theorem takeP_all {B : Nat} {w w' : World} {e : Ending} {sb n cs : Nat} {Q G c : For} {b : Int} {k1 kg kk : List Nat} {vG vk : Value} {x1 ys : List Value} {κ : Nat} {x : Int} {T : List Nat}
    (ho : w.ownsRow B 28 4 (.slice (some ⟨sb, 0, none⟩) n cs) n (x1 ++ ndC 0 b [] vG)) (hQ : RowC w B Q x1 k1) (hn : n = Q.len + 1)
    (hoG : w.ownsRow B 28 4 vG G.len ys) (hrG : RowC w B G ys kg) (hk : KidsC w B vk c kk) (hnd : (sb :: (k1 ++ ((blk1 vG ++ kg) ++ kk))).Nodup) (hf : κ < 256 ∧ Codes T ∧ T.length < 9223372036854775807)
    (ht : TakeP B sb (Q.len * 4 + 3) vG G.len ys κ x T vk w e w') :
    e = .returned (.int .i64 0) ∧ (∃ ks', KidsC w' B (.slice (some ⟨sb, 0, none⟩) n cs) (Q.app (.one 0 b [] (G.app (.one κ x T c)))) ks' ∧ ks'.Nodup) ∧ But (fun k => k ∈ sb :: (k1 ++ ((blk1 vG ++ kg) ++ kk))) w w' := by
  obtain ⟨he, Z, w2, g, cap, zs, hZ, hoZ, hown, hz, hg, hat, hp⟩ := ht
  obtain ⟨hsbn, hnd1⟩ := List.nodup_cons.1 hnd
  obtain ⟨hn1, hn2, hdis⟩ := List.nodup_append.1 hnd1
  have hkl : ∀ k ∈ k1 ++ ((blk1 vG ++ kg) ++ kk), k < w.heap.size := fun k h => by
    simp only [List.mem_append] at h
    rcases h with h | (h | h) | h
    · obtain ⟨_, c, hc⟩ := hQ.kind k h; exact kind_lt hc
    · obtain ⟨_, c, hc⟩ := ownsRow_kind2 hoG k h; exact kind_lt hc
    · obtain ⟨_, c, hc⟩ := hrG.kind k h; exact kind_lt hc
    · obtain ⟨_, c, hc⟩ := hk.kind k h; exact kind_lt hc
  obtain ⟨_, csb, hcsb⟩ := ownsRow_kind2 ho sb (by simp [blk1, Value.ownBlock])
  have hsl := kind_lt hcsb
  have hZs := hZ.size
  have hgsb : sb ≠ g := fun e => by
    rcases hat with h | h
    · exact hsbn (by simp [blk1, h, e])
    · omega
  have hsv : some sb ≠ vG.ownBlock := fun e => hsbn (by simp [blk1, ← e])
  have hkeep : ∀ k ∈ k1 ++ ((blk1 vG ++ kg) ++ kk), Z.heap[k]? = w.heap[k]? := fun k h => hZ.block k (hkl k h)
  obtain ⟨hpush, hpn, hps⟩ := KidsC.push (c := c) (k := κ) (a := x) (t := T) hoZ (hrG.keep fun k h => hkeep k (by simp [h])) (hk.keep fun k h => hkeep k (by simp [h])) hn2 hf hown hz hg hat hp (fun k h e => hsbn (by subst e; simp only [List.mem_append] at h ⊢; rcases h with h | h <;> simp [h]))
  have hk1 : ∀ k ∈ k1, w'.heap[k]? = w.heap[k]? := fun k h => by
    have hkg : k ≠ g := fun e => by
      rcases hat with h' | h'
      · exact hdis k h g (by simp [blk1, h']) e
      · have := hkl k (by simp [h]); omega
    have hks : k ≠ sb := fun e => hsbn (by subst e; simp [h])
    have hkv : some k ≠ vG.ownBlock := fun e => hdis k h k (by simp [blk1, ← e]) rfl
    rw [hp.2.2.2.2.1 k hkg hks, hg.block k (by have := hkl k (by simp [h]); omega) hkv, hkeep k (by simp [h])]
  have hsb' : ∀ c e, w.heap[sb]? = some (.cells c e (0, 0)) → w'.heap[sb]? = some (.cells (c.setIfInBounds (Q.len * 4 + 3) (.slice (some ⟨g, 0, none⟩) (G.len + 1) cap)) e (0, 0)) := fun c e h =>
    hp.2.2.2.2.2.2 c e ((hg.block sb (by omega) hsv).trans ((hZ.block sb hsl).trans h))
  have hcap : .slice (some ⟨g, 0, none⟩) (G.len + 1) cap = Value.slice (some ⟨g, 0, none⟩) (G.app (.one κ x T c)).len cap := by rw [For.app_len]; rfl
  refine ⟨he, ⟨sb :: (k1 ++ (g :: (kg ++ kk))), KidsC.top (G := G) (xs := []) (g := 0) (q := 0) ho hQ hn hk1 hpush hsb', ?_⟩, ?_⟩
  · refine List.nodup_cons.2 ⟨fun h => ?_, List.nodup_append.2 ⟨hn1, hpn, fun u hu v hv e => ?_⟩⟩
    · simp only [List.mem_append, List.mem_cons] at h
      rcases h with h | h | h | h
      · exact hsbn (by simp [h])
      · exact hgsb h
      · exact hsbn (by simp [h])
      · exact hsbn (by simp [h])
    · subst e
      rcases List.mem_cons.1 hv with rfl | hv
      · rcases hat with h' | h'
        · exact hdis u hu u (by simp [blk1, h']) rfl
        · have := hkl u (by simp [hu]); omega
      · exact hdis u hu u (by simp only [List.mem_append] at hv ⊢; rcases hv with hv | hv <;> simp [hv]) rfl
  · refine ⟨hp.1.trans (hg.os.trans hZ.os), hp.2.1.trans (hg.tape.trans hZ.tape), hp.2.2.1.trans (hg.output.trans hZ.output), by rw [hp.2.2.2.1]; exact Nat.le_trans hZs hg.size, fun k hk hnk => ?_⟩
    have hkg : k ≠ g := fun e => by
      rcases hat with h' | h'
      · exact hnk (by simp [blk1, h', e])
      · omega
    have hks : k ≠ sb := fun e => hnk (by simp [e])
    have hkv : some k ≠ vG.ownBlock := fun e => hnk (by simp [blk1, ← e])
    rw [hp.2.2.2.2.1 k hkg hks, hg.block k (by omega) hkv, hZ.block k hk]

theorem But.of_below {P : Nat → Prop} {w w' : World} (h : Below w.heap.size w w') : But P w w' := ⟨h.os, h.tape, h.output, h.size, fun k hk _ => h.block k hk⟩
theorem But.of_just {g : Nat} {w w' : World} (h : Just g w w') : But (fun k => k = g) w w' := ⟨h.os, h.tape, h.output, h.size, fun k hk hn => h.block k hk hn⟩
theorem But.trans {P Q R : Nat → Prop} {a b c : World} (h : But P a b) (k : But Q b c) (hP : ∀ k, P k → R k) (hQ : ∀ k, k < a.heap.size → Q k → R k) : But R a c :=
  ⟨k.os.trans h.os, k.tape.trans h.tape, k.output.trans h.output, Nat.le_trans h.size k.size, fun i hi hn => (k.block i (Nat.lt_of_lt_of_le hi h.size) fun q => hn (hQ i hi q)).trans (h.block i hi fun p => hn (hP i p))⟩
/-- the reader, its meter, its lists -/
def RdI (B rb mb : Nat) (s : St) (w : World) : Prop := B ≤ rb ∧ ∃ sb cs ks, w.heap[rb]? = some (.cells #[.pointer (some ⟨mb, 0, none⟩), .slice (some ⟨sb, 0, none⟩) (s.bel.length + 1) cs] 67 (0, 0)) ∧ MtAt mb s.m w ∧
  KidsC w B (.slice (some ⟨sb, 0, none⟩) (s.bel.length + 1) cs) s.all ks ∧ ks.Nodup
/-- what take may turn: the reader, the meter, lists of nodes of its own -/
def Turn (B rb mb : Nat) (w : World) (k : Nat) : Prop := k = rb ∨ k = mb ∨ (B ≤ k ∧ ∃ c, w.heap[k]? = some (.cells c 28 (0, 0)))
/-- what take does -/
def TakeQ (B rb mb : Nat) (s : St) (x : Nat × List Nat) (w : World) (e : Ending) (w' : World) : Prop :=
  e = .returned (.int .i64 (stp s x).2) ∧ ((stp s x).2 = 0 → RdI B rb mb (stp s x).1 w') ∧ MtAt mb (stp s x).1.m w' ∧ But (Turn B rb mb w) w w'
theorem ownsRow_shrink {w : World} {B : Nat} {e : TypeId} {g n cap : Nat} {xs zs : List Value} (h : w.ownsRow B e 4 (.slice (some ⟨g, 0, none⟩) (n + 1) cap) (n + 1) (xs ++ zs)) (hz : zs.length = 4) : w.ownsRow B e 4 (.slice (some ⟨g, 0, none⟩) n cap) n xs := by
  obtain ⟨h1, h2⟩ := h
  rw [List.length_append, hz] at h1
  refine ⟨by omega, ?_⟩
  rcases h2 with ⟨h2, h3⟩ | ⟨g', cap', cur, e1, hg, hh, h3, h4, h5, h6⟩
  · cases h2
  injection e1 with e1 e2 e3
  injection e1 with e1
  injection e1 with e1
  subst e1 e3
  refine .inr ⟨g, cap, cur, rfl, hg, hh, by omega, h4, h5, ?_⟩
  have := congrArg (List.take (n * 4)) h6
  rw [List.take_take, Nat.min_eq_left (by omega), List.take_append_of_le_length (by omega), List.take_of_length_le (l := xs) (by omega)] at this
  exact this
theorem fine0 : (0 : Nat) < 256 ∧ Codes [] ∧ ([] : List Nat).length < 9223372036854775807 := ⟨by decide, (fun _ h => by cases h), by decide⟩

theorem all_siz (s : St) : s.bel.length + 1 ≤ s.all.siz ∧ s.F.len ≤ s.all.siz := by
  have h1 := For.len_siz s.all
  rw [s.all_len] at h1
  refine ⟨h1, ?_⟩
  have h2 := For.len_siz s.F
  unfold St.all
  rw [For.siz_app]
  simp only [For.one, For.siz]
  omega
theorem take_word_any (B rb mb : Nat) (s : St) (x : Nat × List Nat) (y : Int) (w : World) (hI : RdI B rb mb s w) (hB : B ≤ w.heap.size) (h1 : kd x.2 ≠ 1) (h2 : kd x.2 ≠ 2) (hc : Codes x.2) (hl : x.2.length < 9223372036854775807) (hs : s.all.siz < 70000) :
    Calls Try.prog 30 #[.pointer (some ⟨rb, 0, none⟩), .agg #[.int .u8 ((kd x.2 : Nat) : Int), .int .i64 (x.1 : Int), .int .i64 y, .string (str x.2)]] w (TakeQ B rb mb s x w) := by
  obtain ⟨hBr, sb, cs, ks, hr, hm, ⟨ys, k0, ho, hrow, rfl⟩, hnd⟩ := hI
  obtain ⟨hz1, hz2⟩ := all_siz s
  obtain ⟨x1, x2, k1, k2, rfl, rfl, hQ, hT⟩ := RowC.split hrow
  obtain ⟨vG, rfl, -, ysG, kg, hoG, hrG, rfl⟩ := rowC_one hT
  rw [s.all_len] at ho
  have hl1 := rowC_len hQ
  rw [frF_len] at hl1
  obtain ⟨g', hge, _, hsl, hcell⟩ := row_cells ho (Nat.succ_pos _)
  injection hge with hge
  injection hge with hge
  subst hge
  have h3 := hcell (s.bel.length * 4 + 3) vG (by rw [List.getElem?_append_right (by omega), hl1, Nat.add_sub_cancel_left]; rfl)
  obtain ⟨_, csb, hcsb⟩ := ownsRow_kind2 ho sb (by simp [blk1, Value.ownBlock])
  have hnd' : (sb :: (k1 ++ ((blk1 vG ++ kg) ++ []))).Nodup := by rw [List.append_nil]; exact hnd
  have hsbn := (List.nodup_cons.1 hnd).1
  refine (take_word B rb mb w (kd x.2) (x.1 : Int) y x.2 sb s.bel.length cs vG s.F.len ysG h1 h2 hr h3 (frozen_of hcsb _) hoG (by omega) (by omega) (fun b hb e => hsbn (by subst e; simp [hb])) hB).mono ?_
  intro e w' ht
  have hst : stp s x = (⟨s.m, s.bel, s.a, s.F.app (.one (kd x.2) (x.1 : Int) x.2 .nil)⟩, 0) := by unfold stp; rw [if_neg h1, if_neg h2]
  have hq : s.bel.length = (frF s.bel).len := (frF_len _).symm
  rw [hq] at ht
  obtain ⟨rfl, ⟨ks', hK', hn'⟩, hbut⟩ := takeP_all (c := .nil) (kk := []) (b := s.a) ho hQ (by rw [frF_len]) hoG hrG (KidsC.nil _ _) hnd' ⟨by have := kd_le x.2; omega, hc, hl⟩ ht
  have hrb : w'.heap[rb]? = w.heap[rb]? := hbut.block rb (kind_lt hr) fun h => by
    rw [List.append_nil] at h
    rcases List.mem_cons.1 h with h | h
    · rw [h, hcsb] at hr; cases hr
    · obtain ⟨_, c, hc⟩ := hrow.kind rb h; rw [hr] at hc; cases hc
  have hmb : w'.heap[mb]? = w.heap[mb]? := hbut.block mb hm.lt fun h => by
    rw [List.append_nil] at h
    unfold MtAt at hm
    rcases List.mem_cons.1 h with h | h
    · rw [h, hcsb] at hm; cases hm
    · obtain ⟨_, c, hc⟩ := hrow.kind mb h; rw [hm] at hc; cases hc
  unfold TakeQ
  rw [hst]
  refine ⟨rfl, fun _ => ⟨hBr, sb, cs, ks', hrb.trans hr, hmb.trans hm, hK', hn'⟩, hmb.trans hm, hbut.os, hbut.tape, hbut.output, hbut.size, fun k hk hnk => hbut.block k hk fun h => hnk (.inr (.inr ?_))⟩
  rw [List.append_nil] at h
  rcases List.mem_cons.1 h with h | h
  · rw [h]; exact ownsRow_kind2 ho sb (by simp [blk1, Value.ownBlock])
  · exact hrow.kind k h

theorem take_bad_any (B rb mb : Nat) (s : St) (x : Nat × List Nat) (y : Int) (w : World) (hI : RdI B rb mb s w) (h2 : kd x.2 = 2) (hbel : s.bel = []) :
    Calls Try.prog 30 #[.pointer (some ⟨rb, 0, none⟩), .agg #[.int .u8 ((kd x.2 : Nat) : Int), .int .i64 (x.1 : Int), .int .i64 y, .string (str x.2)]] w (TakeQ B rb mb s x w) := by
  obtain ⟨hBr, sb, cs, ks, hr, hm, -, -⟩ := hI
  have hst : stp s x = (s, 4) := by unfold stp; rw [if_neg (by omega), if_pos h2, hbel]
  rw [hbel] at hr
  rw [h2]
  refine (take_bad rb mb w (x.1 : Int) y x.2 sb cs hr).mono ?_
  rintro e w' ⟨rfl, hb⟩
  unfold TakeQ
  rw [hst]
  exact ⟨rfl, (fun h => by cases h), hm.keep hb, But.of_below hb⟩

theorem take_close_any (B rb mb : Nat) (s : St) (x : Nat × List Nat) (y : Int) (w : World) (hI : RdI B rb mb s w) (hB : B ≤ w.heap.size) (h2 : kd x.2 = 2) (b : Int × For) (bs : List (Int × For)) (hbel : s.bel = b :: bs) (hs : s.all.siz < 70000) :
    Calls Try.prog 30 #[.pointer (some ⟨rb, 0, none⟩), .agg #[.int .u8 ((kd x.2 : Nat) : Int), .int .i64 (x.1 : Int), .int .i64 y, .string (str x.2)]] w (TakeQ B rb mb s x w) := by
  obtain ⟨hBr, sb, cs, ks, hr, hm, ⟨ys, k0, ho, hrow, rfl⟩, hnd⟩ := hI
  have hst : stp s x = (⟨s.m, bs, b.1, b.2.app (.one 0 s.a [] s.F)⟩, 0) := by unfold stp; rw [if_neg (by omega), if_pos h2, hbel]
  obtain ⟨hz1, hz2⟩ := all_siz s
  obtain ⟨x1, x2, ka, k2, rfl, rfl, hQ1, hT⟩ := RowC.split hrow
  obtain ⟨vF, rfl, -, hKF⟩ := rowC_one hT
  rw [s.all_len, hbel] at ho
  rw [hbel] at hr hz1
  rw [hbel, frF] at hQ1
  obtain ⟨x0, x3, k1, k3, rfl, rfl, hQ, hT3⟩ := RowC.split hQ1
  obtain ⟨vG, rfl, -, ysG, kg, hoG, hrG, rfl⟩ := rowC_one hT3
  obtain ⟨AF, mF, rfl, hKds⟩ := hKF.kds
  have hl1 := rowC_len hQ
  rw [frF_len] at hl1
  rw [List.length_cons] at ho hr hz1
  obtain ⟨g', hge, _, hsl, hcell⟩ := row_cells ho (Nat.succ_pos _)
  injection hge with hge
  injection hge with hge
  subst hge
  have hx3 : (x0 ++ ndC 0 b.1 [] vG).length = (bs.length + 1) * 4 := by rw [List.length_append, ndC_len, hl1]; omega
  have h3 := hcell (bs.length * 4 + 3) vG (by rw [List.getElem?_append_left (by omega), List.getElem?_append_right (by omega), hl1, Nat.add_sub_cancel_left]; rfl)
  have q0 := hcell ((bs.length + 1) * 4) (.int .u8 0) (by rw [List.getElem?_append_right (by omega), hx3, Nat.sub_self]; rfl)
  have q1 := hcell ((bs.length + 1) * 4 + 1) (.int .i64 s.a) (by rw [List.getElem?_append_right (by omega), hx3, Nat.add_sub_cancel_left]; rfl)
  have q2 := hcell ((bs.length + 1) * 4 + 2) (.string ⟨#[]⟩) (by rw [List.getElem?_append_right (by omega), hx3, Nat.add_sub_cancel_left]; rfl)
  have q3 := hcell ((bs.length + 1) * 4 + 3) (.slice AF s.F.len mF) (by rw [List.getElem?_append_right (by omega), hx3, Nat.add_sub_cancel_left]; rfl)
  obtain ⟨_, csb, hcsb⟩ := ownsRow_kind2 ho sb (by simp [blk1, Value.ownBlock])
  have hcs : bs.length + 1 + 1 ≤ cs := by
    rcases ho.2 with ⟨hv, _⟩ | ⟨g', cap', cur, e1, _, _, h4, _⟩
    · cases hv
    · injection e1 with e1 e2 e3; omega
  have hnd' : (sb :: (k1 ++ ((blk1 vG ++ kg) ++ k2))).Nodup := by
    have : blk1 (.slice (some ⟨sb, 0, none⟩) (bs.length + 1 + 1) cs) ++ ((k1 ++ (blk1 vG ++ kg)) ++ k2) = sb :: (k1 ++ ((blk1 vG ++ kg) ++ k2)) := by simp [blk1, Value.ownBlock]
    rw [← this, ← List.length_cons (a := b), ← hbel]; exact hnd
  have hsbn := (List.nodup_cons.1 hnd').1
  have hGl : b.2.len < 70000 := by
    have h1 := For.len_siz b.2
    have h2 : b.2.siz ≤ s.all.siz := by
      unfold St.all
      rw [For.siz_app, hbel, frF, For.siz_app]
      simp only [For.one, For.siz]
      omega
    omega
  have hksub : ∀ k ∈ k1 ++ ((blk1 vG ++ kg) ++ k2), B ≤ k ∧ ∃ c, w.heap[k]? = some (.cells c 28 (0, 0)) := fun k h => by
    simp only [List.mem_append] at h
    rcases h with h | (h | h) | h
    · exact hQ.kind k h
    · exact ownsRow_kind2 hoG k h
    · exact hrG.kind k h
    · exact hKF.kind k h
  have hsr : sb ≠ rb := fun e => by rw [← e, hcsb] at hr; cases hr
  have hkr : ∀ k ∈ k1 ++ ((blk1 vG ++ kg) ++ k2), k ≠ rb := fun k h e => by obtain ⟨_, c, hc⟩ := hksub k h; rw [e, hr] at hc; cases hc
  rw [h2]
  refine (take_close B rb mb w (x.1 : Int) y x.2 sb bs.length (bs.length + 1) cs vG AF s.F.len mF b.2.len ysG s.a hr h3 (frozen_of hcsb _) hoG (by omega) hGl (fun k hk => ⟨fun e => hsbn (by subst e; simp [hk]), hkr k (by simp [hk])⟩) hB q0 q1 q2 q3 hsr hcs rfl).mono ?_
  rintro e w' ⟨w1, hj, hr1, ht⟩
  have hsame : ∀ k, k < w.heap.size → k ≠ rb → w1.heap[k]? = w.heap[k]? := hj.block
  have hkl : ∀ k ∈ k1 ++ ((blk1 vG ++ kg) ++ k2), w1.heap[k]? = w.heap[k]? := fun k h => by
    obtain ⟨_, c, hc⟩ := hksub k h
    exact hsame k (kind_lt hc) (hkr k h)
  have ho1 : w1.ownsRow B 28 4 (.slice (some ⟨sb, 0, none⟩) (bs.length + 1) cs) (bs.length + 1) (x0 ++ ndC 0 b.1 [] vG) :=
    ownsRow_block (ownsRow_shrink ho rfl) fun k hk => by
      simp [blk1, Value.ownBlock] at hk
      subst hk
      exact hsame k hsl hsr
  have hq : bs.length = (frF bs).len := (frF_len _).symm
  rw [hq] at ht
  obtain ⟨rfl, ⟨ks', hK', hn'⟩, hbut⟩ := takeP_all (c := s.F) (kk := k2) (b := b.1) (Q := frF bs) ho1 (hQ.keep fun k h => hkl k (by simp [h])) (by rw [frF_len]) (ownsRow_block hoG fun k h => hkl k (by simp [h])) (hrG.keep fun k h => hkl k (by simp [h])) (hKF.keep fun k h => hkl k (by simp [h])) hnd' fine0 ht
  have hmr : mb ≠ rb := fun e => by unfold MtAt at hm; rw [e, hr] at hm; cases hm
  have hrb : w'.heap[rb]? = w1.heap[rb]? := hbut.block rb (kind_lt hr1) fun h => by
    rcases List.mem_cons.1 h with h | h
    · exact hsr h.symm
    · exact hkr rb h rfl
  have hmb : w'.heap[mb]? = w.heap[mb]? := (hbut.block mb (Nat.lt_of_lt_of_le hm.lt hj.size) fun h => by
    unfold MtAt at hm
    rcases List.mem_cons.1 h with h | h
    · rw [h, hcsb] at hm; cases hm
    · obtain ⟨_, c, hc⟩ := hksub mb h; rw [hm] at hc; cases hc).trans (hsame mb hm.lt hmr)
  unfold TakeQ
  rw [hst]
  refine ⟨rfl, fun _ => ⟨hBr, sb, cs, ks', hrb.trans hr1, hmb.trans hm, hK', hn'⟩, hmb.trans hm, ?_⟩
  refine But.trans (But.of_just hj) hbut (fun k hk => .inl hk) fun k hk h => .inr (.inr ?_)
  rcases List.mem_cons.1 h with h | h
  · rw [h]; exact ownsRow_kind2 ho sb (by simp [blk1, Value.ownBlock])
  · exact hksub k h

theorem take_open_any (B rb mb : Nat) (s : St) (x : Nat × List Nat) (y : Int) (w : World) (hI : RdI B rb mb s w) (hB : B ≤ w.heap.size) (h1 : kd x.2 = 1) (hs : s.all.siz < 70000) :
    Calls Try.prog 30 #[.pointer (some ⟨rb, 0, none⟩), .agg #[.int .u8 ((kd x.2 : Nat) : Int), .int .i64 (x.1 : Int), .int .i64 y, .string (str x.2)]] w (TakeQ B rb mb s x w) := by
  obtain ⟨hBr, sb, cs, ks, hr, hm, ⟨ys, k0, ho, hrow, rfl⟩, hnd⟩ := hI
  obtain ⟨hz1, hz2⟩ := all_siz s
  rw [h1]
  have hlen := s.all_len
  have ho2 := ho
  rw [hlen] at ho
  refine (take_open B rb mb s.m w (x.1 : Int) y x.2 sb s.bel.length cs (s.bel.length + 1) ys rfl hr ho (by omega) hm hB).mono ?_
  rintro e w' ⟨w1, ⟨-, Z, w2, g, cap, zs, hZ, hoZ, hown, hz, hg, hat, hp⟩, rfl, hm', hj⟩
  have hst : stp s x = (⟨(s.m.deep ((s.bel.length + 1 : Nat) : Int)).1, (s.a, s.F) :: s.bel, (x.1 : Int), .nil⟩, (s.m.deep ((s.bel.length + 1 : Nat) : Int)).2) := by unfold stp; rw [if_pos h1]
  obtain ⟨_, csb, hcsb⟩ := ownsRow_kind2 ho sb (by simp [blk1, Value.ownBlock])
  have hZs := hZ.size
  have hr2 : Z.heap[rb]? = w.heap[rb]? := hZ.block rb (kind_lt hr)
  have hbv : ∀ k, (∀ c, w.heap[k]? ≠ some (.cells c 28 (0, 0))) → k < w.heap.size → k ≠ g ∧ some k ≠ (Value.slice (some ⟨sb, 0, none⟩) (s.bel.length + 1) cs).ownBlock := fun k hk hl => by
    have : k ≠ sb := fun e => hk csb (by rw [e]; exact hcsb)
    refine ⟨fun e => ?_, fun e => this (by simpa [Value.ownBlock] using e)⟩
    rcases hat with h | h
    · exact this (by simp [Value.ownBlock] at h; omega)
    · omega
  have hmk : ∀ c, w.heap[mb]? ≠ some (.cells c 28 (0, 0)) := fun c e => by unfold MtAt at hm; rw [hm] at e; cases e
  have hrk : ∀ c, w.heap[rb]? ≠ some (.cells c 28 (0, 0)) := fun c e => by rw [hr] at e; cases e
  have hmr : mb ≠ rb := fun e => by unfold MtAt at hm; rw [e, hr] at hm; cases hm
  obtain ⟨hrg, hrv⟩ := hbv rb hrk (kind_lt hr)
  have hr3 := hp.2.2.2.2.2.2 _ _ ((hg.block rb (by have := kind_lt hr; omega) hrv).trans (hr2.trans hr))
  have hoZ' : Z.ownsRow B 28 4 (.slice (some ⟨sb, 0, none⟩) (s.bel.length + 1) cs) s.all.len ys := by rw [hlen]; exact hoZ
  have hkZ : ∀ k ∈ k0, Z.heap[k]? = w.heap[k]? := fun k h => by obtain ⟨_, c, hc⟩ := hrow.kind k h; exact hZ.block k (kind_lt hc)
  rw [← hlen] at hown hp
  obtain ⟨hpush, hpn, hps⟩ := KidsC.push (c := .nil) (kk := []) (k := 0) (a := (x.1 : Int)) (t := []) hoZ' (hrow.keep hkZ) (KidsC.nil _ _) (by rw [List.append_nil]; exact hnd) fine0 hown hz hg hat hp (fun k h e => by
    rw [List.append_nil] at h
    obtain ⟨_, c, hc⟩ := hrow.kind k h
    rw [e] at hc; exact hrk c hc)
  have hk1 : ∀ k ∈ g :: (k0 ++ []), w'.heap[k]? = w1.heap[k]? := fun k h => by
    obtain ⟨_, c, hc⟩ := hpush.kind k h
    refine hj.block k (kind_lt hc) fun e => ?_
    subst e
    rcases List.mem_cons.1 h with h | h
    · exact (hbv k hmk hm.lt).1 h
    · rw [List.append_nil] at h
      obtain ⟨_, c', hc'⟩ := hrow.kind k h
      exact hmk c' hc'
  unfold TakeQ
  rw [hst]
  refine ⟨rfl, fun _ => ⟨hBr, g, cap, g :: (k0 ++ []), ?_, hm', ?_, hpn⟩, hm', ?_⟩
  · exact (hj.block rb (kind_lt hr3) hmr.symm).trans hr3
  · have hK := hpush.keep hk1
    rw [hlen] at hK
    exact hK
  · refine ⟨hj.os.trans (hp.1.trans (hg.os.trans hZ.os)), hj.tape.trans (hp.2.1.trans (hg.tape.trans hZ.tape)), hj.output.trans (hp.2.2.1.trans (hg.output.trans hZ.output)), Nat.le_trans hZs (Nat.le_trans hg.size (Nat.le_trans (Nat.le_of_eq hp.2.2.2.1.symm) hj.size)), fun k hk hnk => ?_⟩
    have hkm : k ≠ mb := fun h => hnk (.inr (.inl h))
    have hkr : k ≠ rb := fun h => hnk (.inl h)
    have hks : some k ≠ (Value.slice (some ⟨sb, 0, none⟩) (s.bel.length + 1) cs).ownBlock := fun e => by
      simp [Value.ownBlock] at e
      exact hnk (.inr (.inr (by rw [e]; exact ownsRow_kind2 ho sb (by simp [blk1, Value.ownBlock]))))
    have hkg : k ≠ g := fun e => by
      rcases hat with h | h
      · exact hks (by rw [h, e])
      · omega
    rw [hj.block k (by have := hp.2.2.2.1; have := hg.size; omega) hkm, hp.2.2.2.2.1 k hkg hkr, hg.block k (by omega) hks, hZ.block k hk]

theorem take_any (B rb mb : Nat) (s : St) (x : Nat × List Nat) (y : Int) (w : World) (hI : RdI B rb mb s w) (hB : B ≤ w.heap.size) (hc : Codes x.2) (hl : x.2.length < 9223372036854775807) (hs : s.all.siz < 70000) :
    Calls Try.prog 30 #[.pointer (some ⟨rb, 0, none⟩), .agg #[.int .u8 ((kd x.2 : Nat) : Int), .int .i64 (x.1 : Int), .int .i64 y, .string (str x.2)]] w (TakeQ B rb mb s x w) := by
  by_cases h1 : kd x.2 = 1
  · exact take_open_any B rb mb s x y w hI hB h1 hs
  · by_cases h2 : kd x.2 = 2
    · cases hb : s.bel with
      | nil => exact take_bad_any B rb mb s x y w hI h2 hb
      | cons b bs => exact take_close_any B rb mb s x y w hI hB h2 b bs hb hs
    · exact take_word_any B rb mb s x y w hI hB h1 h2 hc hl hs

end Go.Proofs.Ytbnlcgnpkodieaa

/- What is shown of nodes that may be, read: the same nodes, each where it is written. -/
import Derived.Test.YtbnlcgnpkodieaaSexS
namespace Go.Proofs.Ytbnlcgnpkodieaa

set_option linter.unusedVariables false
set_option linter.unusedSimpArgs false

/-- words from a place on -/
def wz (p : Nat) (R : List Nat) : List (Nat × List Nat) := sqn (p + skp false R) (R.drop (skp false R))
theorem wds_wz (L : List Nat) : wds L = wz 0 L := by unfold wds wz; rw [Nat.zero_add]
theorem wz_nil (p : Nat) : wz p [] = [] := rfl
theorem wz_blank (p : Nat) (Z : List Nat) : wz p (32 :: Z) = wz (p + 1) Z := by
  unfold wz
  rw [skp_cons_blk _ (by decide), List.drop_succ_cons, Nat.add_assoc, Nat.add_comm 1]
theorem wz_word {T Z : List Nat} (p : Nat) (hT : Pc T) (hz : wl (T ++ Z) = T.length) (h0 : skp false (T ++ Z) = 0) : wz p (T ++ Z) = (p, T) :: wz (p + T.length) Z := by
  have hne : T ≠ [] := by
    rcases hT with ⟨c, rfl, -⟩ | ⟨h, -⟩
    · simp
    · exact h
  unfold wz
  rw [h0, List.drop_zero, sqn_cons _ (by simp [hne]), hz, List.take_left, List.drop_left, Nat.add_zero]
theorem wz_one (p c : Nat) (Z : List Nat) (hc : pcc c = false) (hb : blk c = false) (h59 : c ≠ 59) : wz p (c :: Z) = (p, [c]) :: wz (p + 1) Z :=
  wz_word (T := [c]) p (.inl ⟨c, rfl, hc⟩) (wl_single hc Z) (skp_cons_no _ hb h59)
theorem pcc_blk {c : Nat} (h : pcc c = true) : blk c = false ∧ c ≠ 59 := by
  refine ⟨?_, fun e => by subst e; revert h; decide⟩
  cases hb : blk c with
  | false => rfl
  | true =>
    exfalso
    unfold blk at hb
    simp only [Bool.or_eq_true, beq_iff_eq] at hb
    rcases hb with rfl | rfl | rfl | rfl <;> revert h <;> decide
theorem wz_text {T : List Nat} (p : Nat) (Z : List Nat) (hne : T ≠ []) (ha : T.all pcc = true) (hz : NoHead Z) : wz p (T ++ Z) = (p, T) :: wz (p + T.length) Z := by
  refine wz_word p (.inr ⟨hne, ha⟩) (wl_fit (.inr ⟨hne, ha⟩) hz) ?_
  obtain ⟨c, r, rfl⟩ := List.exists_cons_of_ne_nil hne
  rw [List.all_cons, Bool.and_eq_true] at ha
  obtain ⟨h1, h2⟩ := pcc_blk ha.1
  exact skp_cons_no _ h1 h2

/-! ### a word's bytes -/
theorem all_dg {L : List Nat} (h : L.all dg = true) : L.all pcc = true := by
  rw [List.all_eq_true] at h ⊢
  intro c hc
  have := h c hc
  unfold pcc syc
  rw [this]; simp
theorem all_syc {L : List Nat} (h : L.all syc = true) : L.all pcc = true := by
  rw [List.all_eq_true] at h ⊢
  intro c hc
  unfold pcc
  rw [h c hc]; rfl
theorem num_pcc {L : List Nat} (h : num L = true) : L.all pcc = true := by
  unfold num dgs at h
  simp only [Bool.and_eq_true] at h
  exact all_dg h.1.1
theorem upd_split : ∀ (L : List Nat) (c : Nat), upd L c < L.length → L = L.take (upd L c) ++ c :: L.drop (upd L c + 1)
  | [], c, h => by simp at h
  | d :: r, c, h => by
    by_cases e : d = c
    · subst e
      rw [upd_cons_eq]; rfl
    · rw [upd_cons_ne r e] at h ⊢
      rw [List.take_succ_cons, List.drop_succ_cons, List.cons_append, ← upd_split r c (by simpa using h)]
theorem kd_pcc {T : List Nat} (h0 : kd T ≠ 0) (h1 : kd T ≠ 1) (h2 : kd T ≠ 2) : T ≠ [] ∧ T.all pcc = true := by
  refine ⟨fun e => h0 (by rw [e]; decide), ?_⟩
  unfold kd at h0 h1 h2
  by_cases e1 : T = [40]
  · rw [if_pos e1] at h1; exact absurd rfl h1
  by_cases e2 : T = [41]
  · rw [if_neg e1, if_pos e2] at h2; exact absurd rfl h2
  rw [if_neg e1, if_neg e2] at h0
  by_cases e3 : num T = true
  · exact num_pcc e3
  rw [if_neg e3] at h0
  by_cases e4 : dcm T = true
  · unfold dcm dgs at e4
    simp only [Bool.and_eq_true, decide_eq_true_eq] at e4
    rw [upd_split T 46 e4.1, List.all_append, List.all_cons, num_pcc e4.2.1, all_dg e4.2.2.1]
    decide
  rw [if_neg e4] at h0
  by_cases e5 : sym T = true
  · unfold sym at e5
    simp only [Bool.and_eq_true] at e5
    exact all_syc e5.2.2.2
  rw [if_neg e5] at h0
  by_cases e6 : T[0]?.getD 0 = 58 ∧ sym (T.drop 1) = true
  · obtain ⟨g, e6⟩ := e6
    unfold sym at e6
    simp only [Bool.and_eq_true] at e6
    cases T with
    | nil => cases g
    | cons c r =>
      have hc : c = 58 := g
      rw [List.all_cons, hc]
      rw [show List.drop 1 (c :: r) = r from rfl] at e6
      rw [all_syc e6.2.2.2]; decide
  · rw [if_neg e6] at h0; exact absurd rfl h0

/-! ### the words of a shown text, and what they become -/
namespace For
/-- each where it is written -/
def pls : Nat → For → For
  | _, nil => nil
  | p, cons k a t c r => cons k (p : Int) t (pls (p + 1) c) (pls (p + (ntxt k t c).length + 1) r)
def wf : Nat → For → List (Nat × List Nat)
  | _, nil => []
  | p, cons k a t c r => (if k = 0 then (p, [40]) :: (wf (p + 1) c ++ [(p + 1 + c.txt.length, [41])]) else [(p, t)]) ++ wf (p + (ntxt k t c).length + 1) r
theorem pls_len : ∀ (p : Nat) (F : For), (pls p F).len = F.len
  | _, nil => rfl
  | p, cons k a t c r => by simp only [pls, len, pls_len]
theorem sam_self : ∀ (p : Nat) (F : For), sam (pls p F) F = true
  | _, nil => rfl
  | p, cons k a t c r => by simp only [pls, sam, sam_self]; simp
theorem siz_pls : ∀ (p : Nat) (F : For), (pls p F).siz = F.siz
  | _, nil => rfl
  | p, cons k a t c r => by simp only [pls, siz, siz_pls]
theorem ntxt_pos {k : Nat} {t : List Nat} {c : For} (h : nmay k t c = true) : 0 < (ntxt k t c).length := by
  unfold nmay at h
  unfold ntxt
  by_cases h0 : k = 0
  · rw [if_pos h0]; simp
  · rw [if_neg h0] at h ⊢
    simp only [Bool.and_eq_true, decide_eq_true_eq] at h
    obtain ⟨⟨⟨h1, h2⟩, h3⟩, -⟩ := h
    exact List.length_pos_iff.2 (kd_pcc (h1 ▸ h0) (h1 ▸ h2) (h1 ▸ h3)).1
end For
open For
theorem noHead_close (Z : List Nat) : NoHead (41 :: Z) := fun c r e => by injection e with e1 e2; rw [← e1]; decide
theorem noHead_rest (r : For) {Z : List Nat} (h : NoHead Z) : NoHead ((if r.len = 0 then [] else 32 :: r.txt) ++ Z) := by
  split
  · exact h
  · intro c q e
    rw [List.cons_append] at e
    injection e with e1 e2
    rw [← e1]; decide
theorem nmay_list {k : Nat} {t : List Nat} {c : For} (h : nmay k t c = true) (h0 : k = 0) : t = [] ∧ c.may = true := by
  unfold nmay at h
  rw [if_pos h0, Bool.and_eq_true] at h
  exact ⟨List.isEmpty_iff.1 h.1, h.2⟩
theorem nmay_word {k : Nat} {t : List Nat} {c : For} (h : nmay k t c = true) (h0 : k ≠ 0) : k = kd t ∧ k ≠ 1 ∧ k ≠ 2 ∧ c = .nil := by
  unfold nmay at h
  rw [if_neg h0] at h
  simp only [Bool.and_eq_true, decide_eq_true_eq] at h
  obtain ⟨⟨⟨h1, h2⟩, h3⟩, h4⟩ := h
  refine ⟨h1, h2, h3, ?_⟩
  cases c with
  | nil => rfl
  | cons _ _ _ _ _ => cases h4
theorem len_zero {r : For} (h : r.len = 0) : r = .nil := by
  cases r with
  | nil => rfl
  | cons _ _ _ _ _ => cases h
theorem wz_for : ∀ (F : For) (p : Nat) (Z : List Nat), F.may = true → NoHead Z → wz p (F.txt ++ Z) = wf p F ++ wz (p + F.txt.length) Z
  | .nil, p, Z, _, _ => rfl
  | .cons k a t c r, p, Z, hm, hZ => by
    rw [may_cons, Bool.and_eq_true] at hm
    obtain ⟨hm, hmr⟩ := hm
    have hZ1 := noHead_rest r hZ
    have node : ∀ Z1, NoHead Z1 → wz p (ntxt k t c ++ Z1) = (if k = 0 then (p, [40]) :: (wf (p + 1) c ++ [(p + 1 + c.txt.length, [41])]) else [(p, t)]) ++ wz (p + (ntxt k t c).length) Z1 := by
      intro Z1 hZ1
      by_cases h0 : k = 0
      · obtain ⟨-, hmc⟩ := nmay_list hm h0
        have e : ntxt k t c = 40 :: (c.txt ++ [41]) := if_pos h0
        rw [e, if_pos h0, List.cons_append, wz_one _ _ _ (by decide) (by decide) (by decide), List.append_assoc, List.singleton_append, wz_for c (p + 1) (41 :: Z1) hmc (noHead_close Z1), wz_one _ _ _ (by decide) (by decide) (by decide)]
        simp only [List.cons_append, List.append_assoc, List.nil_append, List.length_cons, List.length_append, List.length_nil, List.cons.injEq, true_and, List.append_cancel_left_eq]
        congr 1; omega
      · obtain ⟨e1, e2, e3, -⟩ := nmay_word hm h0
        obtain ⟨g1, g2⟩ := kd_pcc (e1 ▸ h0) (e1 ▸ e2) (e1 ▸ e3)
        have e : ntxt k t c = t := if_neg h0
        rw [e, if_neg h0, wz_text p Z1 g1 g2 hZ1]; rfl
    rw [txt_cons, List.append_assoc, node _ hZ1]
    simp only [wf]
    rw [List.append_assoc]
    congr 1
    by_cases hr : r.len = 0
    · have hr' := len_zero hr
      subst hr'
      simp [wf, For.len]
    · rw [if_neg hr, List.cons_append, wz_blank, wz_for r _ Z hmr hZ]
      congr 2
      simp only [List.length_append, List.length_cons]; omega
theorem wf_kd : ∀ (F : For) (p : Nat), F.may = true → ∀ x ∈ wf p F, kd x.2 ≠ 0
  | .nil, p, _, x, hx => by simp [wf] at hx
  | .cons k a t c r, p, hm, x, hx => by
    rw [may_cons, Bool.and_eq_true] at hm
    obtain ⟨hm, hmr⟩ := hm
    simp only [wf, List.mem_append] at hx
    rcases hx with hx | hx
    · by_cases h0 : k = 0
      · rw [if_pos h0] at hx
        simp only [List.mem_cons, List.mem_append, List.not_mem_nil, or_false] at hx
        rcases hx with rfl | hx | rfl
        · exact (by decide : kd [40] ≠ 0)
        · exact wf_kd c _ (nmay_list hm h0).2 x hx
        · exact (by decide : kd [41] ≠ 0)
      · rw [if_neg h0, List.mem_singleton] at hx
        rw [hx]
        exact (nmay_word hm h0).1 ▸ h0
    · exact wf_kd r _ hmr x hx
theorem run_wf : ∀ (F : For) (p : Nat) (s : St) (l : List (Nat × List Nat)), F.may = true → s.m.out = none → (F.dep : Int) + s.bel.length ≤ s.m.bd →
    ∃ m, m.out = none ∧ m.bd = s.m.bd ∧ run s (wf p F ++ l) = run ⟨m, s.bel, s.a, s.F.app (pls p F)⟩ l
  | .nil, p, s, l, _, ho, _ => ⟨s.m, ho, rfl, by simp only [wf, pls, List.nil_append, app_nil]⟩
  | .cons k a t c r, p, s, l, hm, ho, hd => by
    rw [may_cons, Bool.and_eq_true] at hm
    obtain ⟨hm, hmr⟩ := hm
    have hdd : (dep (.cons k a t c r) : Int) = max (if k = 0 then 1 + (c.dep : Int) else 0) (r.dep : Int) := by
      rw [dep]; split <;> omega
    rw [hdd] at hd
    have node : ∀ l1, ∃ m, m.out = none ∧ m.bd = s.m.bd ∧ run s ((if k = 0 then (p, [40]) :: (wf (p + 1) c ++ [(p + 1 + c.txt.length, [41])]) else [(p, t)]) ++ l1) = run ⟨m, s.bel, s.a, s.F.app (.one k (p : Int) t (pls (p + 1) c))⟩ l1 := by
      intro l1
      by_cases h0 : k = 0
      · obtain ⟨rfl, hmc⟩ := nmay_list hm h0
        rw [if_pos h0] at hd ⊢
        have hle : ((s.bel.length + 1 : Nat) : Int) ≤ s.m.bd := by omega
        have e1 : stp s (p, [40]) = (⟨{ s.m with sd := max s.m.sd ((s.bel.length + 1 : Nat) : Int) }, (s.a, s.F) :: s.bel, (p : Int), .nil⟩, 0) := by
          unfold stp
          rw [if_pos (show kd [40] = 1 by decide), deep_less hle ho]
        obtain ⟨m, g1, g2, g3⟩ := run_wf c (p + 1) ⟨{ s.m with sd := max s.m.sd ((s.bel.length + 1 : Nat) : Int) }, (s.a, s.F) :: s.bel, (p : Int), .nil⟩ ((p + 1 + c.txt.length, [41]) :: l1) hmc ho (by
          show (c.dep : Int) + ((((s.a, s.F) :: s.bel).length : Nat) : Int) ≤ s.m.bd
          rw [List.length_cons]; omega)
        refine ⟨m, g1, g2, ?_⟩
        rw [List.cons_append, run, e1, if_pos rfl, List.append_assoc, List.singleton_append, g3, run]
        have e2 : stp ⟨m, (s.a, s.F) :: s.bel, (p : Int), For.nil.app (pls (p + 1) c)⟩ (p + 1 + c.txt.length, [41]) = (⟨m, s.bel, s.a, s.F.app (.one 0 (p : Int) [] (pls (p + 1) c))⟩, 0) := by
          unfold stp
          rw [if_neg (show ¬ kd [41] = 1 by decide), if_pos (show kd [41] = 2 by decide)]
          rfl
        dsimp only at e2 ⊢
        rw [e2, if_pos rfl, h0]
      · obtain ⟨e1, e2, e3, rfl⟩ := nmay_word hm h0
        rw [if_neg h0]
        refine ⟨s.m, ho, rfl, ?_⟩
        have e4 : stp s (p, t) = (⟨s.m, s.bel, s.a, s.F.app (.one (kd t) (p : Int) t .nil)⟩, 0) := by
          unfold stp
          rw [if_neg (e1 ▸ e2), if_neg (e1 ▸ e3)]
        rw [List.singleton_append, run, e4, if_pos rfl, ← e1]
        rfl
    obtain ⟨m1, g1, g2, g3⟩ := node (wf (p + (ntxt k t c).length + 1) r ++ l)
    obtain ⟨m2, q1, q2, q3⟩ := run_wf r (p + (ntxt k t c).length + 1) ⟨m1, s.bel, s.a, s.F.app (.one k (p : Int) t (pls (p + 1) c))⟩ l hmr g1 (by
      show (r.dep : Int) + (s.bel.length : Int) ≤ m1.bd
      rw [g2]; omega)
    refine ⟨m2, q1, q2.trans g2, ?_⟩
    simp only [wf]
    rw [List.append_assoc, g3, q3]
    dsimp only
    rw [app_assoc]
    rfl
/-- what is shown of nodes that may be is read as they are -/
theorem rdd_shown (d : Int) (F : For) (hm : F.may = true) (hd : (F.dep : Int) ≤ d) (hl : F.txt.length ≤ 65536) : (rdd d F.txt).e = 0 ∧ (rdd d F.txt).at' = 0 ∧ (rdd d F.txt).F = pls 0 F := by
  have hw : wds F.txt = wf 0 F := by
    have := wz_for F 0 [] hm (fun c r e => by cases e)
    rw [List.append_nil, wz_nil, List.append_nil] at this
    rw [wds_wz]; exact this
  have hok : okw F.txt = true := okw_of_all (by rw [hw]; exact wf_kd F 0 hm)
  have hE : wE F.txt = 0 := by unfold wE; rw [if_neg (by omega), if_pos hok]
  obtain ⟨m, g1, g2, g3⟩ := run_wf F 0 (St.new (Mt.new 0 0 0 d)) [] hm rfl (by
    show (F.dep : Int) + ((0 : Nat) : Int) ≤ d
    omega)
  rw [List.append_nil] at g3
  unfold rdd rd
  rw [if_pos hE, hw, g3, run, if_pos rfl]
  exact ⟨rfl, rfl, rfl⟩

/-! ### node by node -/
namespace For
/-- where each of them is written -/
def tops : Nat → For → List Nat
  | _, nil => []
  | p, cons k a t c r => p :: tops (p + (ntxt k t c).length + 1) r
/-- the place behind them -/
def beh (p : Nat) (F : For) : Nat := p + F.txt.length + (if F.len = 0 then 0 else 1)
theorem txt_snoc : ∀ (G : For) (k : Nat) (a : Int) (t : List Nat) (c : For), (G.app (one k a t c)).txt = (if G.len = 0 then [] else G.txt ++ [32]) ++ ntxt k t c
  | nil, k, a, t, c => by simp [app, one, txt_cons, len]
  | cons k' a' t' c' r', k, a, t, c => by
    rw [app, txt_cons, txt_cons, if_neg (show ¬ (r'.app (one k a t c)).len = 0 by rw [app_len]; simp [one, len]), txt_snoc r', if_neg (show ¬ (cons k' a' t' c' r').len = 0 from Nat.succ_ne_zero _)]
    by_cases h : r'.len = 0
    · rw [if_pos h, if_pos h]; simp
    · rw [if_neg h, if_neg h]; simp
theorem tops_snoc : ∀ (G : For) (p k : Nat) (a : Int) (t : List Nat) (c : For), (G.app (one k a t c)).tops p = G.tops p ++ [beh p G]
  | nil, p, k, a, t, c => by simp [app, one, tops, beh, txt, len]
  | cons k' a' t' c' r', p, k, a, t, c => by
    rw [app, tops, tops_snoc r', tops, List.cons_append]
    congr 2
    unfold beh
    rw [txt_cons, if_neg (show ¬ (cons k' a' t' c' r').len = 0 from Nat.succ_ne_zero _)]
    by_cases h : r'.len = 0
    · rw [if_pos h, if_pos h, len_zero' h]; simp [txt]
    · rw [if_neg h, if_neg h]; simp only [List.length_append, List.length_cons]
      congr 1; omega
  where len_zero' {r : For} (h : r.len = 0) : r = .nil := by
          cases r with
          | nil => rfl
          | cons _ _ _ _ _ => cases h
theorem tops_len : ∀ (F : For) (p : Nat), (F.tops p).length = F.len
  | nil, _ => rfl
  | cons _ _ _ _ r, _ => by rw [tops, List.length_cons, tops_len r, len]
theorem txt_len_app : ∀ (G R : For), G.txt.length ≤ (G.app R).txt.length
  | nil, R => by simp [txt]
  | cons k' a' t' c' r', R => by
    have := txt_len_app r' R
    rw [app, txt_cons, txt_cons]
    by_cases h : r'.len = 0
    · rw [if_pos h]; simp
    · rw [if_neg h, if_neg (show ¬ (r'.app R).len = 0 by rw [app_len]; omega)]
      simp only [List.length_append, List.length_cons]; omega
/-- codes of a text that is shown -/
def cods : For → Prop
  | nil => True
  | cons _ _ t c r => (∀ x ∈ t, x < 256) ∧ c.cods ∧ r.cods
theorem txt_codes : ∀ {F : For}, F.cods → ∀ x ∈ F.txt, x < 256
  | nil, _, x, hx => by simp [txt] at hx
  | cons k a t c r, h, x, hx => by
    obtain ⟨h1, h2, h3⟩ := h
    rw [txt_cons, List.mem_append] at hx
    rcases hx with hx | hx
    · unfold ntxt at hx
      by_cases h0 : k = 0
      · rw [if_pos h0] at hx
        simp only [List.mem_cons, List.mem_append, List.not_mem_nil, or_false] at hx
        rcases hx with rfl | hx | rfl
        · decide
        · exact txt_codes h2 x hx
        · decide
      · rw [if_neg h0] at hx; exact h1 x hx
    · by_cases hr : r.len = 0
      · rw [if_pos hr] at hx; cases hx
      · rw [if_neg hr, List.mem_cons] at hx
        rcases hx with rfl | hx
        · decide
        · exact txt_codes h3 x hx
/-- texts that are not too long -/
def cods' : For → Prop
  | nil => True
  | cons _ _ t c r => t.length < 60000 ∧ c.cods' ∧ r.cods'
/-- how large nodes are, as far as it is counted -/
def lgl : For → Nat → Nat
  | nil, n => n
  | cons _ _ t c r, n => if n < 3000 then lgl r (n + 1 + min 3000 (t.length / 20) + min 3000 (lgl c 0)) else n
def lg (F : For) : Nat := min 3000 (lgl F 0)
theorem lgl_ge : ∀ (F : For) (n : Nat), n ≤ lgl F n
  | nil, n => Nat.le_refl _
  | cons _ _ t c r, n => by
    rw [lgl]
    split
    · have := lgl_ge r (n + 1 + min 3000 (t.length / 20) + min 3000 (lgl c 0)); omega
    · exact Nat.le_refl _
theorem lgl_small : ∀ (F : For) (n : Nat), lgl F n < 3000 → n + F.siz ≤ lgl F n ∧ F.cods'
  | nil, n, _ => ⟨Nat.le_refl _, trivial⟩
  | cons _ _ t c r, n, h => by
    rw [lgl] at h ⊢
    by_cases hn : n < 3000
    · rw [if_pos hn] at h ⊢
      obtain ⟨h1, h2⟩ := lgl_small r _ h
      obtain ⟨h3, h4⟩ := lgl_small c 0 (by omega)
      exact ⟨by simp only [siz]; omega, by omega, h4, h2⟩
    · rw [if_neg hn] at h
      omega
theorem lg_small {F : For} (h : F.lg < 3000) : F.siz < 3000 ∧ F.cods' := by
  have := lgl_small F 0 (by unfold lg at h; omega)
  unfold lg at h
  exact ⟨by omega, this.2⟩
theorem txt_le : ∀ {F : For}, F.cods' → F.txt.length ≤ F.siz * 60003
  | nil, _ => by simp [txt]
  | cons k a t c r, h => by
    obtain ⟨h1, h2, h3⟩ := h
    have g2 := txt_le h2
    have g3 := txt_le h3
    have e1 : (ntxt k t c).length ≤ 60000 + c.txt.length + 2 := by
      unfold ntxt
      split
      · simp only [List.length_cons, List.length_append, List.length_nil]; omega
      · omega
    have e2 : (if r.len = 0 then [] else 32 :: r.txt).length ≤ 1 + r.txt.length := by
      split
      · simp
      · rw [List.length_cons]; omega
    rw [txt_cons, List.length_append]
    simp only [siz]
    omega
theorem ntxt_le {k : Nat} {t : List Nat} {c : For} (h1 : t.length < 60000) (h2 : c.cods') : (ntxt k t c).length ≤ 60002 + c.siz * 60003 := by
  have g2 := txt_le h2
  unfold ntxt
  split
  · simp only [List.length_cons, List.length_append, List.length_nil]; omega
  · omega
theorem may_app : ∀ (F G : For), (F.app G).may = (F.may && G.may)
  | nil, G => by simp [app, may]
  | cons k a t c r, G => by rw [app, may_cons, may_cons, may_app r G, Bool.and_assoc]
theorem nshow_nil {k : Nat} {t : List Nat} {c : For} : (if nmay k t c = true then ntxt k t c else []) = [] ↔ nmay k t c = false := by
  cases h : nmay k t c with
  | false => simp
  | true =>
    have := ntxt_pos h
    simp
    intro e
    rw [e] at this
    simp at this
theorem nshow_codes' {k : Nat} {t : List Nat} {c : For} (h : ∀ x ∈ t, x < 256) (hc : c.cods) : ∀ x ∈ (if nmay k t c = true then ntxt k t c else []), x < 256 := by
  split
  · intro x hx
    unfold ntxt at hx
    split at hx
    · simp only [List.mem_cons, List.mem_append, List.not_mem_nil, or_false] at hx
      rcases hx with rfl | hx | rfl
      · decide
      · exact txt_codes hc x hx
      · decide
    · exact h x hx
  · intro x hx; cases hx
theorem cods'_app : ∀ {F G : For}, (F.app G).cods' → F.cods' ∧ G.cods'
  | nil, G, h => ⟨trivial, h⟩
  | cons k a t c r, G, ⟨h1, h2, h3⟩ => by
    obtain ⟨h4, h5⟩ := cods'_app h3
    exact ⟨⟨h1, h2, h4⟩, h5⟩
theorem cods_app : ∀ {F G : For}, (F.app G).cods → F.cods ∧ G.cods
  | nil, G, h => ⟨trivial, h⟩
  | cons k a t c r, G, ⟨h1, h2, h3⟩ => by
    obtain ⟨h4, h5⟩ := cods_app h3
    exact ⟨⟨h1, h2, h4⟩, h5⟩
end For
end Go.Proofs.Ytbnlcgnpkodieaa

/- With whatever parts words between the words of a text, its words are the same. -/
import Derived.Test.YtbnlcgnpkodieaaLexG
namespace Go.Proofs.Ytbnlcgnpkodieaa

set_option linter.unusedVariables false

def tx (L : List Nat) : List (List Nat) := (wds L).map Prod.snd
theorem sq_texts : ∀ (f a b : Nat) (R : List Nat), (sq f a R).map Prod.snd = (sq f b R).map Prod.snd
  | 0, _, _, _ => rfl
  | f + 1, a, b, [] => rfl
  | f + 1, a, b, c :: r => by
    rw [sq, sq, List.map_cons, List.map_cons]
    congr 1
    exact sq_texts f _ _ _
theorem sqn_texts (a b : Nat) (R : List Nat) : (sqn a R).map Prod.snd = (sqn b R).map Prod.snd := sq_texts _ _ _ _
theorem tx_len (L : List Nat) : (tx L).length = (wds L).length := List.length_map ..
theorem okw_tx (L : List Nat) : okw L = (tx L).all (fun T => !(kd T == 0)) := by
  unfold okw tx
  rw [List.all_map]; rfl

/-- what parts words, and has ended -/
def Shut (G : List Nat) : Prop := ∀ X, skp false (G ++ X) = G.length + skp false X
theorem shut_tx {G : List Nat} (h : Shut G) (X : List Nat) : tx (G ++ X) = tx X := by
  unfold tx wds
  rw [h X, List.drop_append, List.drop_eq_nil_of_le (by omega), List.nil_append, Nat.add_sub_cancel_left]
  exact sqn_texts _ _ _
theorem skp_head {c : Nat} {r : List Nat} (h : skp false (c :: r) = 0) (r' : List Nat) : skp false (c :: r') = 0 := by
  by_cases hb : blk c = true
  · rw [skp_cons_blk _ hb] at h; omega
  · by_cases h59 : c = 59
    · subst h59; rw [skp_cons_59] at h; omega
    · exact skp_cons_no _ (by simpa using hb) h59
theorem tx_word {T Z : List Nat} (h0 : skp false (T ++ Z) = 0) (hT : T ≠ []) (hw : wl (T ++ Z) = T.length) : tx (T ++ Z) = T :: tx Z := by
  unfold tx wds
  rw [h0, List.drop_zero, sqn_cons 0 (by simp [hT]), hw, List.map_cons, List.take_left, List.drop_left]
  congr 1
  exact sqn_texts _ _ _
/-- a piece: bytes of pieces alone, or one other byte -/
def Pc (T : List Nat) : Prop := (∃ c, T = [c] ∧ pcc c = false) ∨ (T ≠ [] ∧ T.all pcc = true)
theorem pc_of {R : List Nat} (h : R ≠ []) : Pc (R.take (wl R)) := by
  obtain ⟨c, r, rfl⟩ := List.exists_cons_of_ne_nil h
  rcases hc : pcc c with _ | _
  · refine .inl ⟨c, ?_, hc⟩
    have : wl (c :: r) = 1 := by unfold wl; rw [List.takeWhile_cons, hc]; rfl
    rw [this]; rfl
  · have hlen : (List.takeWhile pcc (c :: r)).length = (List.takeWhile pcc r).length + 1 := by
      rw [List.takeWhile_cons, hc, if_pos rfl, List.length_cons]
    have hw : wl (c :: r) = (List.takeWhile pcc (c :: r)).length := by unfold wl; omega
    have ht : (c :: r).take (wl (c :: r)) = List.takeWhile pcc (c :: r) := by
      rw [hw]
      exact (List.prefix_iff_eq_take.1 (List.takeWhile_prefix pcc)).symm
    rw [ht]
    refine .inr ⟨?_, List.all_takeWhile⟩
    intro e
    rw [e] at hlen
    simp at hlen
theorem takeWhile_all {p : Nat → Bool} : ∀ {T Z : List Nat}, T.all p = true → (T ++ Z).takeWhile p = T ++ Z.takeWhile p
  | [], _, _ => rfl
  | c :: r, Z, h => by
    rw [List.all_cons, Bool.and_eq_true] at h
    rw [List.cons_append, List.takeWhile_cons, h.1, if_pos rfl, takeWhile_all h.2, List.cons_append]
def NoHead (Z : List Nat) : Prop := ∀ c r, Z = c :: r → pcc c = false
theorem noHead_takeWhile {Z : List Nat} (h : NoHead Z) : Z.takeWhile pcc = [] := by
  cases Z with
  | nil => rfl
  | cons c r => rw [List.takeWhile_cons, h c r rfl]; rfl
theorem wl_fit {T Z : List Nat} (h : Pc T) (hz : NoHead Z) : wl (T ++ Z) = T.length := by
  rcases h with ⟨c, rfl, hc⟩ | ⟨h0, ha⟩
  · unfold wl
    rw [List.singleton_append, List.takeWhile_cons, hc]; rfl
  · unfold wl
    rw [takeWhile_all ha, noHead_takeWhile hz, List.append_nil]
    have := List.length_pos_iff.2 h0
    omega
/-- what follows a whole piece in the text may follow it again -/
theorem fit_next {T Y Z : List Nat} (h : Pc T) (hw : wl (T ++ Y) = T.length) (hY : Y ≠ []) : (∃ c, T = [c] ∧ pcc c = false) ∨ NoHead Y := by
  rcases h with h | ⟨h0, ha⟩
  · exact .inl h
  · refine .inr fun c r e => ?_
    subst e
    rcases hc : pcc c with _ | _
    · rfl
    · exfalso
      unfold wl at hw
      rw [takeWhile_all ha, List.takeWhile_cons, hc, if_pos rfl, List.length_append, List.length_cons] at hw
      omega
theorem wl_single {c : Nat} (hc : pcc c = false) (Z : List Nat) : wl ([c] ++ Z) = 1 := by
  unfold wl
  rw [List.singleton_append, List.takeWhile_cons, hc]; rfl

/-- so far: k words of the text are put together anew; f: where the last one ends in the text -/
def Mid (L : List Nat) (k f : Nat) (O : List Nat) : Prop :=
  (k = 0 ∧ O = [] ∧ f = 0) ∨ (∃ j x, k = j + 1 ∧ (wds L)[j]? = some x ∧ f = x.1 + x.2.length ∧ ∀ Z, wl (x.2 ++ Z) = x.2.length → tx (O ++ Z) = ((wds L).take k).map Prod.snd ++ tx Z)
theorem get_pc {L : List Nat} {k : Nat} {x : Nat × List Nat} (h : (wds L)[k]? = some x) : Pc x.2 ∧ x.1 < L.length ∧ L.drop x.1 = x.2 ++ L.drop (x.1 + x.2.length) ∧ x.2 ≠ [] ∧ skp false (L.drop x.1) = 0 ∧ wl (L.drop x.1) = x.2.length := by
  obtain ⟨hA, hl, hT⟩ := At.of_get h
  have hne : L.drop x.1 ≠ [] := by rw [ne_eq, List.drop_eq_nil_iff]; omega
  have hlen : x.2.length = wl (L.drop x.1) := by rw [hT]; exact by rw [List.length_take, List.length_drop]; have := wl_at hl; omega
  refine ⟨by rw [hT]; exact pc_of hne, hl, ?_, ?_, hA.2.2, hlen.symm⟩
  · rw [← List.drop_drop, hlen]
    conv => lhs; rw [← List.take_append_drop (wl (L.drop x.1)) (L.drop x.1)]
    rw [← hT]
  · intro e
    rw [e] at hlen
    have := wl_pos (L.drop x.1)
    simp at hlen; omega
theorem mid_step {L O G : List Nat} {k f : Nat} {x : Nat × List Nat} (h : Mid L k f O) (hx : (wds L)[k]? = some x) (hG : Shut G) (hc : k = 0 ∨ (G ≠ [] ∧ NoHead G) ∨ (G = [] ∧ x.1 = f)) : Mid L (k + 1) (x.1 + x.2.length) (O ++ G ++ x.2) := by
  refine .inr ⟨k, x, rfl, hx, rfl, fun Z hZ => ?_⟩
  obtain ⟨hpc, hl, hdrop, hne, hskp, hwl⟩ := get_pc hx
  have hk : k < (wds L).length := (List.getElem?_eq_some_iff.1 hx).1
  have hsk : skp false (x.2 ++ Z) = 0 := by
    obtain ⟨c, r, e⟩ := List.exists_cons_of_ne_nil hne
    rw [hdrop, e, List.cons_append] at hskp
    rw [e, List.cons_append]
    exact skp_head hskp _
  have ht : ((wds L).take (k + 1)).map Prod.snd = ((wds L).take k).map Prod.snd ++ [x.2] := by
    rw [List.take_succ_eq_append_getElem hk, (List.getElem?_eq_some_iff.1 hx).2, List.map_append]; rfl
  rw [ht, List.append_assoc, List.append_assoc, List.append_assoc]
  have hw := tx_word hsk hne hZ
  have hg := shut_tx hG (x.2 ++ Z)
  rcases h with ⟨rfl, rfl, rfl⟩ | ⟨j, y, rfl, hy, rfl, hm⟩
  · rw [List.nil_append, hg, hw]; rfl
  · rw [hm (G ++ (x.2 ++ Z)) ?_, hg, hw]
    · rfl
    · obtain ⟨hpy, hly, hdy, hny, _, hwy⟩ := get_pc hy
      rcases hc with h0 | ⟨hg0, hgn⟩ | ⟨rfl, he⟩
      · omega
      · refine wl_fit hpy fun c r e => ?_
        obtain ⟨d, q, eg⟩ := List.exists_cons_of_ne_nil hg0
        rw [eg, List.cons_append] at e
        injection e with e1 e2
        rw [← e1]
        exact hgn d q eg
      · rw [List.nil_append]
        rw [← he] at hdy
        rw [hdy] at hwy
        have hY : L.drop x.1 ≠ [] := by rw [ne_eq, List.drop_eq_nil_iff]; omega
        rcases fit_next (Z := Z) hpy hwy hY with ⟨c, e, hcc⟩ | hn
        · rw [e]; exact wl_single hcc _
        · refine wl_fit hpy fun c r e => ?_
          obtain ⟨d, q, ex⟩ := List.exists_cons_of_ne_nil hne
          rw [ex, List.cons_append] at e
          injection e with e1 e2
          rw [← e1]
          exact hn d (q ++ L.drop (x.1 + x.2.length)) (by rw [hdrop, ex]; rfl)
def endC : List Nat := [59, 32, 116, 104, 101, 32, 101, 110, 100]
theorem tx_end : tx endC = [] := by decide
theorem mid_end {L O G : List Nat} {f : Nat} (h : Mid L (wds L).length f O) (hG : Shut G) (hn : NoHead G) : tx (O ++ G ++ endC) = (wds L).map Prod.snd := by
  have he := shut_tx hG endC
  rw [tx_end] at he
  rw [List.append_assoc]
  rcases h with ⟨h0, rfl, _⟩ | ⟨j, y, hj, hy, _, hm⟩
  · rw [List.nil_append, he, List.length_eq_zero_iff.1 h0]; rfl
  · rw [hm (G ++ endC) ?_, he, List.append_nil, List.take_length]
    refine wl_fit (get_pc hy).1 fun c r e => ?_
    cases G with
    | nil =>
      have : c = 59 := by
        unfold endC at e
        rw [List.nil_append] at e
        injection e with e1 e2
        exact e1.symm
      subst this; decide
    | cons d q =>
      rw [List.cons_append] at e
      injection e with e1 e2
      rw [← e1]; exact hn d q rfl

/-! ### what is put between -/
def gaps : List (List Nat) := [[], [32], [10], [9, 13, 10], [59, 120, 10], [32, 59, 32, 40, 97, 10, 10], [59, 59, 10, 59, 10]]
def gap (k : Nat) : List Nat := gaps[k]?.getD []
theorem gap_shut {k : Nat} (h : k < 7) : Shut (gap k) := by
  intro X
  have : k = 0 ∨ k = 1 ∨ k = 2 ∨ k = 3 ∨ k = 4 ∨ k = 5 ∨ k = 6 := by omega
  rcases this with rfl | rfl | rfl | rfl | rfl | rfl | rfl
  · simp [gap, gaps]
  · show skp false (32 :: X) = 1 + _
    rw [skp_cons_blk _ (by decide)]; omega
  · show skp false (10 :: X) = 1 + _
    rw [skp_cons_blk _ (by decide)]; omega
  · show skp false (9 :: 13 :: 10 :: X) = 3 + _
    rw [skp_cons_blk _ (by decide), skp_cons_blk _ (by decide), skp_cons_blk _ (by decide)]; omega
  · show skp false (59 :: 120 :: 10 :: X) = 3 + _
    rw [skp_cons_59, skp_true_no _ (by decide), skp_true_10, skp_cons_blk _ (by decide)]; omega
  · show skp false (32 :: 59 :: 32 :: 40 :: 97 :: 10 :: 10 :: X) = 7 + _
    rw [skp_cons_blk _ (by decide), skp_cons_59, skp_true_no _ (by decide), skp_true_no _ (by decide), skp_true_no _ (by decide), skp_true_10, skp_cons_blk _ (by decide), skp_cons_blk _ (by decide)]; omega
  · show skp false (59 :: 59 :: 10 :: 59 :: 10 :: X) = 5 + _
    rw [skp_cons_59, skp_true_no _ (by decide), skp_true_10, skp_cons_blk _ (by decide), skp_cons_59, skp_true_10, skp_cons_blk _ (by decide)]; omega
theorem gap_noHead {k : Nat} (h : k < 7) : NoHead (gap k) := by
  have : k = 0 ∨ k = 1 ∨ k = 2 ∨ k = 3 ∨ k = 4 ∨ k = 5 ∨ k = 6 := by omega
  rcases this with rfl | rfl | rfl | rfl | rfl | rfl | rfl <;> (intro c r e; simp [gap, gaps] at e; try (rw [← e.1]; decide))
theorem gap_ne {k : Nat} (h : k < 7) (h0 : k ≠ 0) : gap k ≠ [] := by
  have : k = 1 ∨ k = 2 ∨ k = 3 ∨ k = 4 ∨ k = 5 ∨ k = 6 := by omega
  rcases this with rfl | rfl | rfl | rfl | rfl | rfl <;> simp [gap, gaps]
theorem gap_len {k : Nat} (h : k < 7) : (gap k).length ≤ 7 := by
  have : k = 0 ∨ k = 1 ∨ k = 2 ∨ k = 3 ∨ k = 4 ∨ k = 5 ∨ k = 6 := by omega
  rcases this with rfl | rfl | rfl | rfl | rfl | rfl | rfl <;> decide
theorem gap_codes {k : Nat} (h : k < 7) : ∀ c ∈ gap k, c < 256 := by
  have hall : (gap k).all (fun c => decide (c < 256)) = true := by
    have : k = 0 ∨ k = 1 ∨ k = 2 ∨ k = 3 ∨ k = 4 ∨ k = 5 ∨ k = 6 := by omega
    rcases this with rfl | rfl | rfl | rfl | rfl | rfl | rfl <;> decide
  intro c hc
  simpa using List.all_eq_true.1 hall c hc

end Go.Proofs.Ytbnlcgnpkodieaa

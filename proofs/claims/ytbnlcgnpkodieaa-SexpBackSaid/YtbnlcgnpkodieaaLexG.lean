/- Words of a text's parts: what is cut off at a word's place; what parts words. -/
import Derived.Test.YtbnlcgnpkodieaaLexMath
namespace Go.Proofs.Ytbnlcgnpkodieaa

set_option linter.unusedVariables false

theorem kd_le (L : List Nat) : kd L ≤ 6 := by
  unfold kd
  repeat' split
  all_goals omega
theorem takeWhile_take_len {p : Nat → Bool} : ∀ (R : List Nat) (n : Nat), ((R.take n).takeWhile p).length = min n (R.takeWhile p).length
  | [], n => by simp
  | c :: r, 0 => by simp
  | c :: r, n + 1 => by
    rw [List.take_succ_cons, List.takeWhile_cons, List.takeWhile_cons]
    split
    · rw [List.length_cons, List.length_cons, takeWhile_take_len r n]; omega
    · simp
theorem wl_take {R : List Nat} {n : Nat} (h : wl R ≤ n) : wl (R.take n) = wl R := by
  unfold wl at *
  rw [takeWhile_take_len]; omega
theorem skp_take : ∀ (b : Bool) (R : List Nat) (n : Nat), skp b R ≤ n → skp b (R.take n) = skp b R
  | b, [], n, _ => by simp
  | true, c :: r, 0, h => by
    rw [skp] at h
    split at h <;> omega
  | false, c :: r, 0, h => by
    rw [List.take_zero]
    have : skp false (c :: r) = 0 := by omega
    rw [this]; rfl
  | true, c :: r, n + 1, h => by
    rw [List.take_succ_cons]
    by_cases hc : c = 10
    · rw [show skp true (c :: r) = skp false r + 1 by rw [skp, if_pos hc]] at h ⊢
      rw [show skp true (c :: r.take n) = skp false (r.take n) + 1 by rw [skp, if_pos hc], skp_take false r n (by omega)]
    · rw [skp_true_no r hc] at h ⊢
      rw [skp_true_no _ hc, skp_take true r n (by omega)]
  | false, c :: r, n + 1, h => by
    rw [List.take_succ_cons]
    by_cases hb : blk c = true
    · rw [skp_cons_blk r hb] at h ⊢
      rw [skp_cons_blk _ hb, skp_take false r n (by omega)]
    · by_cases hc : c = 59
      · subst hc
        rw [skp_cons_59] at h ⊢
        rw [skp_cons_59, skp_take true r n (by omega)]
      · have hb' : blk c = false := by simpa using hb
        rw [skp_cons_no r hb' hc, skp_cons_no _ hb' hc]
theorem At.le {L : List Nat} {j k a p : Nat} (ha : At L j a) (hp : At L k p) (hjk : j ≤ k) (hk : k ≤ (wds L).length) : a ≤ p := by
  induction h : k - j generalizing j a with
  | zero =>
    obtain rfl : j = k := by omega
    rcases Nat.lt_or_ge a L.length with h1 | h1
    · have e := ha.get h1
      have h2 : p < L.length := (hp.lt hk).1 ((ha.lt hk).2 h1)
      rw [hp.get h2] at e
      injection e with e
      injection e with e
      omega
    · have h2 : ¬ p < L.length := fun h2 => by
        have := (ha.lt hk).1 ((hp.lt hk).2 h2)
        omega
      have := ha.1
      omega
  | succ n ih =>
    have h1 := (ha.lt (by omega)).1 (by omega)
    have := ih (ha.next h1) (by omega) (by omega)
    omega
theorem At.eq {L : List Nat} {k a p : Nat} (ha : At L k a) (hp : At L k p) (hk : k ≤ (wds L).length) : a = p :=
  Nat.le_antisymm (ha.le hp (Nat.le_refl _) hk) (hp.le ha (Nat.le_refl _) hk)
theorem sqn_cut {L : List Nat} {k p : Nat} (hp : At L k p) (hk : k ≤ (wds L).length) : ∀ (n j a : Nat), k - j = n → j ≤ k → At L j a → sqn a ((L.take p).drop a) = ((wds L).drop j).take (k - j)
  | 0, j, a, hn, hj, ha => by
    obtain rfl : j = k := by omega
    obtain rfl := ha.eq hp hk
    rw [Nat.sub_self, List.take_zero, List.drop_eq_nil_of_le (by rw [List.length_take]; omega)]
    rfl
  | n + 1, j, a, hn, hj, ha => by
    have h1 := (ha.lt (by omega)).1 (by omega)
    have hx := ha.next h1
    have hle := hx.le hp (by omega) hk
    have hw := wl_pos (L.drop a)
    have hpl := hp.1
    have e1 : (L.take p).drop a = (L.drop a).take (p - a) := List.drop_take ..
    have e2 : wl ((L.take p).drop a) = wl (L.drop a) := by rw [e1]; exact wl_take (by omega)
    have e3 : skp false ((L.take p).drop (a + wl (L.drop a))) = skp false (L.drop (a + wl (L.drop a))) := by
      rw [List.drop_take]; exact skp_take _ _ _ (by omega)
    have hlt : a < (L.take p).length := by rw [List.length_take]; omega
    rw [sqn_at hlt, e2, e3, sqn_cut hp hk n (j + 1) _ (by omega) (by omega) hx, e1, List.take_take]
    rw [show min (wl (L.drop a)) (p - a) = wl (L.drop a) by omega]
    have hg := ha.get h1
    obtain ⟨hjl, hg⟩ := List.getElem?_eq_some_iff.1 hg
    rw [List.drop_eq_getElem_cons hjl, show k - j = (k - (j + 1)) + 1 by omega, List.take_succ_cons, hg]
theorem wds_cut {L : List Nat} {k p : Nat} (hp : At L k p) (hk : k ≤ (wds L).length) : wds (L.take p) = (wds L).take k := by
  have h0 := (At.start L).le hp (Nat.zero_le _) hk
  have := sqn_cut hp hk k 0 _ (by omega) (Nat.zero_le _) (At.start L)
  rw [List.drop_zero, Nat.sub_zero] at this
  rw [← this]
  unfold wds
  rw [skp_take _ _ _ h0]
theorem wds_rest {L : List Nat} {p : Nat} (h : skp false (L.drop p) = 0) (hl : p < L.length) : wds (L.drop p) = (0, (L.drop p).take (wl (L.drop p))) :: sqn (0 + wl (L.drop p) + skp false ((L.drop p).drop (wl (L.drop p)))) (((L.drop p).drop (wl (L.drop p))).drop (skp false ((L.drop p).drop (wl (L.drop p))))) := by
  unfold wds
  rw [h, List.drop_zero, sqn_cons 0 (by rw [ne_eq, List.drop_eq_nil_iff]; omega)]
theorem firstBad_is {L : List Nat} (h : okw L = false) : ∃ k x, (wds L)[k]? = some x ∧ kd x.2 = 0 ∧ x.1 = firstBad L ∧ ∀ y ∈ (wds L).take k, kd y.2 ≠ 0 := by
  unfold okw at h
  rw [List.all_eq_false] at h
  obtain ⟨y, hy, hk⟩ := h
  rcases hf : (wds L).find? (fun x => kd x.2 == 0) with _ | x
  · rw [List.find?_eq_none] at hf
    have := hf y hy
    simp at hk this
    exact absurd hk this
  · obtain ⟨hx, p, q, e, hp⟩ := List.find?_eq_some_iff_append.1 hf
    refine ⟨p.length, x, by rw [e]; simp, by simpa using hx, by unfold firstBad; rw [hf]; rfl, fun z hz => ?_⟩
    rw [e, List.take_left] at hz
    simpa using hp z hz
/-- the three facts of an error's place -/
theorem bad_place {L : List Nat} (h : okw L = false) (hl : L.length ≤ 65536) : firstBad L < L.length ∧ wE (L.take (firstBad L)) = 0 ∧ wE (L.drop (firstBad L)) = 4 ∧ wAt (L.drop (firstBad L)) = 0 := by
  obtain ⟨k, x, hx, hk0, hf, hall⟩ := firstBad_is h
  obtain ⟨hA, hlt, hT⟩ := At.of_get hx
  have hk : k < (wds L).length := (List.getElem?_eq_some_iff.1 hx).1
  rw [← hf]
  have h1 : okw (L.take x.1) = true := okw_of_all (by rw [wds_cut hA (Nat.le_of_lt hk)]; exact hall)
  have e := wds_rest hA.2.2 hlt
  have h2 : okw (L.drop x.1) = false := by
    unfold okw
    rw [e, List.all_cons, ← hT, hk0]; rfl
  have h3 : firstBad (L.drop x.1) = 0 := by
    unfold firstBad
    rw [e, List.find?_cons_of_pos (by rw [← hT, hk0]; rfl)]; rfl
  have l1 : (L.take x.1).length ≤ L.length := by rw [List.length_take]; omega
  have l2 : (L.drop x.1).length ≤ L.length := by rw [List.length_drop]; omega
  refine ⟨hlt, ?_, ?_, ?_⟩
  · unfold wE; rw [if_neg (by omega), if_pos h1]
  · unfold wE; rw [if_neg (by omega), if_neg (by rw [h2]; decide)]
  · unfold wAt; rw [if_neg (by omega), if_neg (by rw [h2]; decide), h3]
/-- what parts words alone -/
theorem parts_only {R : List Nat} (h : skp false R = R.length) : wds R = [] := by
  unfold wds
  rw [h, List.drop_length]; rfl
theorem parts_take (R : List Nat) : wds (R.take (skp false R)) = [] := by
  apply parts_only
  rw [skp_take _ _ _ (Nat.le_refl _), List.length_take]
  have := skp_le false R
  omega

end Go.Proofs.Ytbnlcgnpkodieaa

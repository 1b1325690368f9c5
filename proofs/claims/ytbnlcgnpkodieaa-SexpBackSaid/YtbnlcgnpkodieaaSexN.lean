/- What Read tells: it may be, how deep it is, where it stands. -/
import Derived.Test.YtbnlcgnpkodieaaSexL
namespace Go.Proofs.Ytbnlcgnpkodieaa
open Go.RowKit

set_option linter.unusedVariables false
set_option linter.unusedSimpArgs false

/-- the nodes stand in the text, one behind the other, from f on up to u -/
def Std (L : List Nat) : For → Nat → Nat → Prop
  | .nil, f, u => u = f
  | .cons k a t c r, f, u => ∃ p q : Nat, a = (p : Int) ∧ f ≤ p ∧ p < L.length ∧ (if k = 0 then Std L c (p + 1) q ∧ L[p]?.getD 0 = 40 else t ≠ [] ∧ q = p + t.length ∧ t = (L.drop p).take t.length ∧ p + t.length ≤ L.length) ∧ Std L r q u
theorem Std.app {L : List Nat} : ∀ {F G : For} {f m u : Nat}, Std L F f m → Std L G m u → Std L (F.app G) f u
  | .nil, G, f, m, u, h, h' => by
    have e : m = f := h
    rw [← e]; exact h'
  | .cons k a t c r, G, f, m, u, h, h' => by
    obtain ⟨p, q, h1, h2, h3, h4, h5⟩ := h
    exact ⟨p, q, h1, h2, h3, h4, h5.app h'⟩
theorem Std.le {L : List Nat} : ∀ {F : For} {f u : Nat}, Std L F f u → f ≤ u ∧ (f ≤ L.length → u ≤ L.length)
  | .nil, f, u, h => by
    have e : u = f := h
    omega
  | .cons k a t c r, f, u, h => by
    obtain ⟨p, q, h1, h2, h3, h4, h5⟩ := h
    have h6 := h5.le
    split at h4
    · have := h4.1.le; omega
    · omega
theorem nmay_of_may : ∀ {F G : For}, (F.app G).may = (F.may && G.may)
  | .nil, G => by simp [For.app, For.may]
  | .cons k a t c r, G => by rw [For.app, For.may_cons, For.may_cons, nmay_of_may (F := r), Bool.and_assoc]

/-- the lists that have begun: they may be, are not too deep, and stand in the text up to q -/
def Lvl (d : Int) : List (Int × For) → Prop
  | [] => True
  | b :: bs => (b.2.dep : Int) + bs.length ≤ d ∧ Lvl d bs
def StdI (L : List Nat) : List (Int × For) → Int → For → Nat → Prop
  | [], _, F, q => Std L F 0 q
  | b :: bs, a, F, q => ∃ p q' : Nat, a = (p : Int) ∧ q' ≤ p ∧ p < L.length ∧ L[p]?.getD 0 = 40 ∧ Std L F (p + 1) q ∧ StdI L bs b.1 b.2 q'
structure Good (L : List Nat) (d : Int) (s : St) (q : Nat) : Prop where
  mb : s.m.bd = d
  mo : s.m.out = none
  may : s.all.may = true
  dep : (s.F.dep : Int) + s.bel.length ≤ d
  lvl : Lvl d s.bel
  std : StdI L s.bel s.a s.F q
theorem deep_zero {m : Mt} {n : Int} (h : (m.deep n).2 = 0) (ho : m.out = none) : n ≤ m.bd ∧ (m.deep n).1 = { m with sd := max m.sd n } := by
  unfold Mt.deep at h ⊢
  rw [ho] at h ⊢
  dsimp only at h ⊢
  split
  · exact ⟨by assumption, rfl⟩
  · rename_i h'; rw [if_neg h'] at h; cases h
theorem all_may (s : St) : s.all.may = ((frF s.bel).may && s.F.may) := by
  unfold St.all
  rw [nmay_of_may]
  simp [For.one, For.may]
theorem Good.step {L : List Nat} {d : Int} {s : St} {q k a : Nat} (h : Good L d s q) (hat : At L k a) (hlt : a < L.length) (hq : q ≤ a) (hkd : kd ((L.drop a).take (wl (L.drop a))) ≠ 0) (h0 : (stp s (a, (L.drop a).take (wl (L.drop a)))).2 = 0) :
    ∃ q', q' ≤ a + wl (L.drop a) ∧ Good L d (stp s (a, (L.drop a).take (wl (L.drop a)))).1 q' := by
  have hpl := piece_len hlt
  have hwp := wl_pos (L.drop a)
  have hwa := wl_at hlt
  obtain ⟨T, hT⟩ : ∃ T, T = (L.drop a).take (wl (L.drop a)) := ⟨_, rfl⟩
  rw [← hT] at hpl hkd h0 ⊢
  unfold stp at h0 ⊢
  dsimp only at h0 ⊢
  by_cases h1 : kd T = 1
  · rw [if_pos h1] at h0 ⊢
    dsimp only at h0 ⊢
    obtain ⟨hn, hm⟩ := deep_zero h0 h.mo
    rw [h.mb] at hn
    have hT40 : T = [40] := by
      unfold kd at h1
      split at h1
      · assumption
      · repeat (split at h1 <;> first | omega | skip)
    refine ⟨a + 1, by omega, ⟨by rw [hm]; exact h.mb, by rw [hm]; exact h.mo, ?_, ?_, ⟨h.dep, h.lvl⟩, ⟨a, q, rfl, hq, hlt, ?_, rfl, h.std⟩⟩⟩
    · rw [all_may, frF, nmay_of_may]
      have := h.may
      rw [all_may] at this
      simp [For.one, For.may] at this ⊢
      exact this
    · simp only [For.dep, List.length_cons]; omega
    · have e := congrArg (fun l => l[0]?.getD 0) hT
      rw [hT40] at e
      simp only [List.getElem?_take_of_lt hwp, List.getElem?_drop, Nat.add_zero] at e
      exact e.symm
  · rw [if_neg h1] at h0 ⊢
    by_cases h2 : kd T = 2
    · rw [if_pos h2] at h0 ⊢
      cases hb : s.bel with
      | nil => rw [hb] at h0; cases h0
      | cons b bs =>
        obtain ⟨g1, g2, g3, g4, g5, g6⟩ := h
        rw [hb] at g4 g5 g6
        obtain ⟨p, q', e1, e2, e3, e4, e5, e6⟩ := g6
        rw [all_may, hb, frF, nmay_of_may] at g3
        have e7 : Std L (.one 0 s.a [] s.F) q' q := ⟨p, q, e1, e2, e3, by rw [if_pos rfl]; exact ⟨e5, e4⟩, rfl⟩
        refine ⟨q, by omega, ⟨g1, g2, ?_, ?_, g5.2, ?_⟩⟩
        · rw [all_may, nmay_of_may]
          simp [For.one, For.may] at g3 ⊢
          exact ⟨g3.1.1, g3.1.2, g3.2⟩
        · simp only [For.dep_app, For.one, For.dep, if_pos]
          have := g5.1
          rw [List.length_cons] at g4
          omega
        · cases bs with
          | nil => exact Std.app e6 e7
          | cons b' bs' =>
            obtain ⟨p', q'', f1, f2, f3, f4, f5, f6⟩ := e6
            exact ⟨p', q'', f1, f2, f3, f4, f5.app e7, f6⟩
    · rw [if_neg h2] at h0 ⊢
      have e7 : Std L (.one (kd T) (a : Int) T .nil) q (a + T.length) := ⟨a, a + T.length, rfl, hq, hlt, by
        rw [if_neg hkd]
        refine ⟨fun e => by rw [e] at hpl; simp at hpl; omega, rfl, by rw [hpl]; exact hT, by omega⟩, rfl⟩
      refine ⟨a + T.length, by omega, ⟨h.mb, h.mo, ?_, ?_, h.lvl, ?_⟩⟩
      · have hm := h.may
        rw [all_may] at hm ⊢
        rw [nmay_of_may]
        simp [For.one, For.may, hkd, h1, h2, For.len] at hm ⊢
        exact hm
      · simp only [For.dep_app, For.one, For.dep, if_neg hkd]
        have := h.dep
        omega
      · have hs := h.std
        cases hb : s.bel with
        | nil => rw [hb] at hs; exact Std.app hs e7
        | cons b bs =>
          rw [hb] at hs
          obtain ⟨p', q'', f1, f2, f3, f4, f5, f6⟩ := hs
          exact ⟨p', q'', f1, f2, f3, f4, f5.app e7, f6⟩

theorem run_good {L : List Nat} {d : Int} (hok : okw L = true) : ∀ (n k a : Nat) (s : St) (q : Nat), (wds L).length - k = n → k ≤ (wds L).length → At L k a → q ≤ a → Good L d s q →
    ((run s ((wds L).drop k)).2.1 = 0 → ∃ q', Good L d (run s ((wds L).drop k)).1 q') ∧ ((run s ((wds L).drop k)).2.1 ≠ 0 → (run s ((wds L).drop k)).2.2 < L.length)
  | 0, k, a, s, q, hn, hk, hat, hq, hg => by
    rw [List.drop_of_length_le (by omega)]
    exact ⟨fun _ => ⟨q, hg⟩, fun h => absurd rfl h⟩
  | n + 1, k, a, s, q, hn, hk, hat, hq, hg => by
    have hlt := (hat.lt hk).1 (by omega)
    have hget := hat.get hlt
    have hdrop : (wds L).drop k = (a, (L.drop a).take (wl (L.drop a))) :: (wds L).drop (k + 1) := by
      rw [List.drop_eq_getElem?_toList_append, hget]; rfl
    have hkd := okw_all hok _ (List.mem_of_getElem? hget)
    rw [hdrop]
    unfold run
    by_cases h0 : (stp s (a, (L.drop a).take (wl (L.drop a)))).2 = 0
    · rw [if_pos h0]
      obtain ⟨q', hq', hg'⟩ := hg.step hat hlt hq hkd h0
      exact run_good hok n (k + 1) _ _ q' (by omega) (by omega) (hat.next hlt) (by have := skp_at L (wl_at hlt); omega) hg'
    · rw [if_neg h0]
      exact ⟨fun h => absurd h h0, fun _ => hlt⟩
theorem Good.new (L : List Nat) {d : Int} (hd : 0 ≤ d) : Good L d (St.new (Mt.new 0 0 0 d)) 0 :=
  ⟨rfl, rfl, rfl, by simpa [St.new, For.dep] using hd, trivial, rfl⟩
theorem wE_ok {L : List Nat} (h : wE L = 0) : okw L = true ∧ L.length ≤ 65536 := by
  unfold wE at h
  split at h
  · cases h
  · split at h
    · exact ⟨by assumption, by omega⟩
    · cases h
/-- what Read tells of a text -/
theorem rdd_good (d : Int) (L : List Nat) (hd : 0 ≤ d) :
    ((rdd d L).e = 0 → (rdd d L).F.may = true ∧ ((rdd d L).F.dep : Int) ≤ d ∧ (∃ u, Std L (rdd d L).F 0 u) ∧ (rdd d L).at' = 0) ∧ ((rdd d L).e ≠ 0 → (rdd d L).F = .nil) ∧ 0 ≤ (rdd d L).at' ∧ (rdd d L).at' ≤ L.length := by
  unfold rdd rd
  by_cases hE : wE L = 0
  · obtain ⟨hok, hl⟩ := wE_ok hE
    have hr := run_good (d := d) hok _ 0 _ (St.new (Mt.new 0 0 0 d)) 0 rfl (Nat.zero_le _) (At.start L) (Nat.zero_le _) (Good.new L hd)
    rw [List.drop_zero] at hr
    rw [if_pos hE]
    generalize run (St.new (Mt.new 0 0 0 d)) (wds L) = R at *
    by_cases h0 : R.2.1 = 0
    · rw [if_pos h0]
      obtain ⟨q, hg⟩ := hr.1 h0
      by_cases hb : R.1.bel.length = 0
      · rw [if_pos hb]
        have hbe := List.eq_nil_of_length_eq_zero hb
        refine ⟨fun _ => ⟨?_, ?_, ⟨q, ?_⟩, rfl⟩, fun h => absurd rfl h, Int.le_refl _, by simp⟩
        · have := hg.may
          rw [all_may, hbe] at this
          simpa [frF, For.may] using this
        · have := hg.dep
          rw [hb] at this
          simpa using this
        · have := hg.std
          rw [hbe] at this
          exact this
      · rw [if_neg hb]
        exact ⟨(fun h => by cases h), fun _ => rfl, by simp, by simp⟩
    · rw [if_neg h0]
      have := hr.2 h0
      exact ⟨fun h => absurd h h0, fun _ => rfl, by simp, by simp; omega⟩
  · rw [if_neg hE]
    refine ⟨fun h => absurd h (by simpa using hE), fun _ => rfl, by simp, ?_⟩
    show (wAt L : Int) ≤ _
    by_cases hl : 65536 < L.length
    · have : wAt L = 65536 := if_pos hl
      omega
    · have hok : okw L = false := by
        cases h : okw L with
        | false => rfl
        | true => exact absurd (by unfold wE; rw [if_neg hl, if_pos h]) hE
      have := bad_place hok (by omega)
      have e : wAt L = firstBad L := by unfold wAt; rw [if_neg hl, if_neg (by rw [hok]; decide)]
      omega

end Go.Proofs.Ytbnlcgnpkodieaa

/- How deep a text is: with a meter that is deep enough it is read, with another one not. -/
import Derived.Test.YtbnlcgnpkodieaaSexP
namespace Go.Proofs.Ytbnlcgnpkodieaa
open Go.RowKit

set_option linter.unusedVariables false
set_option linter.unusedSimpArgs false

def hgtI : List (Int × For) → Nat
  | [] => 0
  | b :: bs => max (b.2.dep + bs.length) (hgtI bs)
def hgtS (s : St) : Nat := max (s.F.dep + s.bel.length) (hgtI s.bel)
/-- the same lists, two meters -/
structure Sim (d D : Int) (s s' : St) : Prop where
  bel : s.bel = s'.bel
  a : s.a = s'.a
  F : s.F = s'.F
  o : s.m.out = none
  o' : s'.m.out = none
  b : s.m.bd = d
  b' : s'.m.bd = D
theorem kd_open {T : List Nat} (h : kd T = 1) : T = [40] := by
  unfold kd at h
  split at h
  · assumption
  · repeat (split at h <;> first | omega | skip)
theorem deep_more {m : Mt} {n : Int} (h : ¬ n ≤ m.bd) (ho : m.out = none) : (m.deep n).2 = 46 := by
  unfold Mt.deep
  rw [ho]
  dsimp only
  rw [if_neg h]
theorem deep_less {m : Mt} {n : Int} (h : n ≤ m.bd) (ho : m.out = none) : m.deep n = ({ m with sd := max m.sd n }, 0) := by
  unfold Mt.deep
  rw [ho]
  exact if_pos h
theorem hgt_step {s : St} {x : Nat × List Nat} (hk : kd x.2 ≠ 0) (h0 : (stp s x).2 = 0) : hgtS s ≤ hgtS (stp s x).1 ∧ (kd x.2 ≠ 1 → hgtS (stp s x).1 = hgtS s) ∧ (kd x.2 = 1 → hgtS (stp s x).1 = max (s.bel.length + 1) (hgtS s)) := by
  unfold stp at h0 ⊢
  by_cases h1 : kd x.2 = 1
  · rw [if_pos h1] at h0 ⊢
    have : hgtS ⟨(s.m.deep ((s.bel.length + 1 : Nat) : Int)).1, (s.a, s.F) :: s.bel, (x.1 : Int), .nil⟩ = max (s.bel.length + 1) (hgtS s) := by
      simp only [hgtS, hgtI, For.dep, List.length_cons, Nat.zero_add]
    dsimp only
    rw [this]
    exact ⟨Nat.le_max_right _ _, fun h => absurd h1 h, fun _ => rfl⟩
  · rw [if_neg h1] at h0 ⊢
    have key : ∀ {s' : St}, hgtS s' = hgtS s → hgtS s ≤ hgtS s' ∧ (kd x.2 ≠ 1 → hgtS s' = hgtS s) ∧ (kd x.2 = 1 → hgtS s' = max (s.bel.length + 1) (hgtS s)) := fun h => ⟨by omega, fun _ => h, fun h' => absurd h' h1⟩
    by_cases h2 : kd x.2 = 2
    · rw [if_pos h2] at h0 ⊢
      cases hb : s.bel with
      | nil => rw [hb] at h0; cases h0
      | cons b bs =>
        rw [← hb]
        refine key ?_
        simp only [hgtS, hgtI, hb, For.dep_app, For.one, For.dep, if_pos, List.length_cons]
        omega
    · rw [if_neg h2] at h0 ⊢
      refine key ?_
      simp only [hgtS, For.dep_app, For.one, For.dep, if_neg hk]
      omega
theorem hgt_run : ∀ (l : List (Nat × List Nat)) (s : St), (∀ x ∈ l, kd x.2 ≠ 0) → (run s l).2.1 = 0 → hgtS s ≤ hgtS (run s l).1
  | [], s, _, _ => Nat.le_refl _
  | x :: l, s, hk, h => by
    unfold run at h ⊢
    by_cases h0 : (stp s x).2 = 0
    · rw [if_pos h0] at h ⊢
      have := hgt_run l (stp s x).1 (fun y hy => hk y (by simp [hy])) h
      have := (hgt_step (hk x (by simp)) h0).1
      omega
    · rw [if_neg h0] at h
      exact absurd h h0
theorem sim_run {d D : Int} : ∀ (l : List (Nat × List Nat)) (s s' : St), (∀ x ∈ l, kd x.2 ≠ 0) → Sim d D s s' → (hgtS s : Int) ≤ d → (run s' l).2.1 = 0 →
    ((run s l).2.1 = 0 ∧ Sim d D (run s l).1 (run s' l).1 ∧ (hgtS (run s l).1 : Int) ≤ d) ∨ ((run s l).2.1 = 46 ∧ (∃ x ∈ l, kd x.2 = 1 ∧ (run s l).2.2 = x.1) ∧ d < hgtS (run s' l).1)
  | [], s, s', _, hs, hd, _ => .inl ⟨rfl, hs, hd⟩
  | x :: l, s, s', hk, hs, hd, h => by
    have hkx := hk x (by simp)
    have hkl : ∀ y ∈ l, kd y.2 ≠ 0 := fun y hy => hk y (by simp [hy])
    obtain ⟨e1, e2, e3, o, o', b, b'⟩ := hs
    have hh : hgtS s' = hgtS s := by unfold hgtS; rw [e1, e3]
    have h0' : (stp s' x).2 = 0 := by
      unfold run at h
      by_cases h0 : (stp s' x).2 = 0
      · exact h0
      · rw [if_neg h0] at h; exact absurd h h0
    have hr' : run s' (x :: l) = run (stp s' x).1 l := by rw [run, if_pos h0']
    rw [hr'] at h ⊢
    by_cases hdeep : kd x.2 = 1 ∧ ¬ ((s.bel.length + 1 : Nat) : Int) ≤ d
    · obtain ⟨h1, hn⟩ := hdeep
      have hst : (stp s x).2 = 46 := by
        unfold stp
        rw [if_pos h1]
        exact deep_more (by rw [b]; exact hn) o
      have hr : run s (x :: l) = ((stp s x).1, (stp s x).2, x.1) := by rw [run, if_neg (by rw [hst]; decide)]
      rw [hr]
      refine .inr ⟨hst, ⟨x, by simp, h1, rfl⟩, ?_⟩
      have h3 := hgt_run l (stp s' x).1 hkl h
      have h4 := (hgt_step hkx h0').2.2 h1
      rw [← e1] at h4
      omega
    · have hsim : (stp s x).2 = 0 ∧ Sim d D (stp s x).1 (stp s' x).1 := by
        unfold stp at h0' ⊢
        by_cases h1 : kd x.2 = 1
        · rw [if_pos h1] at h0' ⊢
          rw [if_pos h1]
          have hle : ((s.bel.length + 1 : Nat) : Int) ≤ s.m.bd := by
            rw [b]
            exact Decidable.byContradiction fun hc => hdeep ⟨h1, hc⟩
          obtain ⟨hle', hm'⟩ := deep_zero h0' o'
          rw [deep_less hle o]
          dsimp only
          rw [hm']
          exact ⟨rfl, by rw [e1, e2, e3], rfl, rfl, o, o', b, b'⟩
        · rw [if_neg h1] at h0' ⊢
          rw [if_neg h1]
          by_cases h2 : kd x.2 = 2
          · rw [if_pos h2] at h0' ⊢
            rw [if_pos h2]
            rw [e1]
            cases hb : s'.bel with
            | nil => rw [hb] at h0'; cases h0'
            | cons q qs => exact ⟨rfl, rfl, rfl, by rw [e2, e3], o, o', b, b'⟩
          · rw [if_neg h2] at h0' ⊢
            rw [if_neg h2]
            exact ⟨rfl, e1, e2, by rw [e3], o, o', b, b'⟩
      have hr : run s (x :: l) = run (stp s x).1 l := by rw [run, if_pos hsim.1]
      rw [hr]
      have hd2 : (hgtS (stp s x).1 : Int) ≤ d := by
        have h5 := hgt_step hkx hsim.1
        by_cases h1 : kd x.2 = 1
        · have := h5.2.2 h1
          have : ((s.bel.length + 1 : Nat) : Int) ≤ d := Decidable.byContradiction fun hc => hdeep ⟨h1, hc⟩
          omega
        · have := h5.2.1 h1; omega
      rcases sim_run l (stp s x).1 (stp s' x).1 hkl hsim.2 hd2 h with h6 | ⟨h6, ⟨y, hy, h7⟩, h8⟩
      · exact .inl h6
      · exact .inr ⟨h6, ⟨y, by simp [hy], h7⟩, h8⟩
theorem open_at {L : List Nat} {x : Nat × List Nat} (hx : x ∈ wds L) (h1 : kd x.2 = 1) : x.1 < L.length ∧ L[x.1]?.getD 0 = 40 := by
  obtain ⟨k, hk⟩ := List.mem_iff_getElem?.1 hx
  obtain ⟨hat, hlt, hxt⟩ := At.of_get hk
  have hwp := wl_pos (L.drop x.1)
  refine ⟨hlt, ?_⟩
  have e := congrArg (fun l => l[0]?.getD 0) hxt
  rw [kd_open h1] at e
  simp only [List.getElem?_take_of_lt hwp, List.getElem?_drop, Nat.add_zero] at e
  exact e.symm
/-- a text that is read: by which meters it is, too -/
theorem deep_rdd (d D : Int) (L : List Nat) (hd : 0 ≤ d) (hD : 0 ≤ D) (h : (rdd D L).e = 0) :
    (((rdd D L).F.dep : Int) ≤ d → (rdd d L).e = 0 ∧ (rdd d L).at' = 0 ∧ (rdd d L).F = (rdd D L).F) ∧ (d < (rdd D L).F.dep → (rdd d L).e = 46 ∧ ∃ p : Nat, (rdd d L).at' = (p : Int) ∧ p < L.length ∧ L[p]?.getD 0 = 40) := by
  unfold rdd rd at h ⊢
  by_cases hE : wE L = 0
  rotate_left
  · rw [if_neg hE] at h; exact absurd h (by simpa using hE)
  rw [if_pos hE] at h ⊢
  rw [if_pos hE]
  have hok := (wE_ok hE).1
  have hs := sim_run (d := d) (D := D) (wds L) (St.new (Mt.new 0 0 0 d)) (St.new (Mt.new 0 0 0 D)) (okw_all hok) ⟨rfl, rfl, rfl, rfl, rfl, rfl, rfl⟩ (by simpa [hgtS, St.new, For.dep, hgtI] using hd)
  have hmem : ∀ x ∈ wds L, kd x.2 = 1 → x.1 < L.length ∧ L[x.1]?.getD 0 = 40 := fun x => open_at
  generalize run (St.new (Mt.new 0 0 0 d)) (wds L) = R at *
  generalize run (St.new (Mt.new 0 0 0 D)) (wds L) = R' at *
  by_cases h0 : R'.2.1 = 0
  rotate_left
  · rw [if_neg h0] at h; exact absurd h h0
  rw [if_pos h0] at h ⊢
  by_cases hb : R'.1.bel.length = 0
  rotate_left
  · rw [if_neg hb] at h; cases h
  rw [if_pos hb]
  have hbe := List.eq_nil_of_length_eq_zero hb
  have hg : hgtS R'.1 = R'.1.F.dep := by unfold hgtS; rw [hbe]; simp [hgtI]
  rcases hs h0 with ⟨h1, h2, h3⟩ | ⟨h1, ⟨x, hx, h2, h3⟩, h4⟩
  · rw [if_pos h1, if_pos (by rw [h2.bel, hbe]; rfl)]
    refine ⟨fun _ => ⟨rfl, rfl, h2.F⟩, fun hlt => ?_⟩
    have : hgtS R.1 = hgtS R'.1 := by unfold hgtS; rw [h2.bel, h2.F]
    dsimp only at hlt
    omega
  · rw [if_neg (by rw [h1]; decide)]
    refine ⟨fun hle => ?_, fun _ => ⟨h1, x.1, by rw [← h3], hmem x hx h2⟩⟩
    dsimp only at hle
    omega

end Go.Proofs.Ytbnlcgnpkodieaa

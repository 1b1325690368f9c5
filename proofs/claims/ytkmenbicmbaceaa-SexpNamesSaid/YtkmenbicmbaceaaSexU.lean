/- The reference's nodes, by its recursion; that it tells what Read does. -/
import Derived.Test.YtkmenbicmbaceaaSexS
namespace Go.Proofs.Ytkmenbicmbaceaa
open Go.RowKit

set_option linter.unusedVariables false
set_option linter.unusedSimpArgs false

/-- the nodes, the words left, how deep, what is wrong and where -/
structure Nd4 where
  F : For
  l : List (Nat × List Nat)
  D : Int
  er : Option (Int × Int)
def nds (most : Int) : Nat → Int → List (Nat × List Nat) → Int → Nd4
  | 0, _, l, D => ⟨.nil, l, D, none⟩
  | n + 1, deep, [], D => ⟨.nil, [], D, none⟩
  | n + 1, deep, x :: l, D =>
    if kd x.2 = 2 then ⟨.nil, x :: l, D, none⟩
    else if kd x.2 = 1 then
      if most < deep + 1 then ⟨.nil, l, D, some (46, (x.1 : Int))⟩
      else match (nds most n (deep + 1) l (max D (deep + 1))).er with
        | some e => ⟨.cons 0 (x.1 : Int) [] (nds most n (deep + 1) l (max D (deep + 1))).F .nil, (nds most n (deep + 1) l (max D (deep + 1))).l, (nds most n (deep + 1) l (max D (deep + 1))).D, some e⟩
        | none => match (nds most n (deep + 1) l (max D (deep + 1))).l with
          | [] => ⟨.cons 0 (x.1 : Int) [] (nds most n (deep + 1) l (max D (deep + 1))).F .nil, [], (nds most n (deep + 1) l (max D (deep + 1))).D, some (4, -1)⟩
          | _ :: l' => ⟨.cons 0 (x.1 : Int) [] (nds most n (deep + 1) l (max D (deep + 1))).F (nds most n deep l' (nds most n (deep + 1) l (max D (deep + 1))).D).F, (nds most n deep l' (nds most n (deep + 1) l (max D (deep + 1))).D).l, (nds most n deep l' (nds most n (deep + 1) l (max D (deep + 1))).D).D, (nds most n deep l' (nds most n (deep + 1) l (max D (deep + 1))).D).er⟩
    else ⟨.cons (kd x.2) (x.1 : Int) x.2 .nil (nds most n deep l D).F, (nds most n deep l D).l, (nds most n deep l D).D, (nds most n deep l D).er⟩

structure MOk (most D : Int) (m : Mt) : Prop where
  b : m.bd = most
  o : m.out = none
  s : m.sd = D
def Wrong (s : St) (l : List (Nat × List Nat)) (r : Nd4) : Prop :=
  (∃ S p, r.er = some (46, ((p : Nat) : Int)) ∧ run s l = (S, 46, p) ∧ S.m.sd = r.D) ∨ (r.er = some (4, -1) ∧ ∃ S, run s l = (S, 0, 0) ∧ s.bel.length < S.bel.length ∧ S.m.sd = r.D)
def Fits (s : St) (l : List (Nat × List Nat)) (r : Nd4) (most : Int) : Prop :=
  ∃ m', MOk most r.D m' ∧ run s l = run ⟨m', s.bel, s.a, s.F.app r.F⟩ r.l ∧ (r.l = [] ∨ ∃ x l', r.l = x :: l' ∧ kd x.2 = 2) ∧ r.l.length ≤ l.length
theorem nds_run (most : Int) : ∀ (n : Nat) (deep : Int) (l : List (Nat × List Nat)) (D : Int) (s : St), l.length < n → MOk most D s.m → (s.bel.length : Int) = deep →
    ((nds most n deep l D).er = none → Fits s l (nds most n deep l D) most) ∧ ((nds most n deep l D).er ≠ none → Wrong s l (nds most n deep l D))
  | 0, _, l, _, _, hn, _, _ => absurd hn (Nat.not_lt_zero _)
  | n + 1, deep, [], D, s, hn, hm, hd => by
    refine ⟨fun _ => ⟨s.m, hm, ?_, .inl rfl, Nat.le_refl _⟩, fun h => absurd rfl h⟩
    show _ = run ⟨s.m, s.bel, s.a, s.F.app .nil⟩ []
    rw [For.app_nil]
  | n + 1, deep, x :: l, D, s, hn, hm, hd => by
    rw [List.length_cons] at hn
    unfold nds
    by_cases h2 : kd x.2 = 2
    · rw [if_pos h2]
      refine ⟨fun _ => ⟨s.m, hm, ?_, .inr ⟨x, l, rfl, h2⟩, Nat.le_refl _⟩, fun h => absurd rfl h⟩
      show _ = run ⟨s.m, s.bel, s.a, s.F.app .nil⟩ (x :: l)
      rw [For.app_nil]
    rw [if_neg h2]
    by_cases h1 : kd x.2 = 1
    · rw [if_pos h1]
      have hcast : ((s.bel.length + 1 : Nat) : Int) = deep + 1 := by omega
      by_cases hdp : most < deep + 1
      · rw [if_pos hdp]
        refine ⟨(fun h => by cases h), fun _ => .inl ⟨(stp s x).1, x.1, rfl, ?_, ?_⟩⟩
        · have hst : (stp s x).2 = 46 := by
            unfold stp
            rw [if_pos h1]
            exact deep_more (by rw [hm.b]; omega) hm.o
          rw [run, if_neg (by rw [hst]; decide), hst]
        · unfold stp
          rw [if_pos h1]
          show (s.m.deep _).1.sd = D
          unfold Mt.deep
          rw [hm.o]
          dsimp only
          rw [if_neg (by rw [hm.b]; omega)]
          exact hm.s
      · rw [if_neg hdp]
        have hst : stp s x = (⟨{ s.m with sd := max s.m.sd ((s.bel.length + 1 : Nat) : Int) }, (s.a, s.F) :: s.bel, (x.1 : Int), .nil⟩, 0) := by
          unfold stp
          rw [if_pos h1, deep_less (by rw [hm.b]; omega) hm.o]
        have hr0 : run s (x :: l) = run ⟨{ s.m with sd := max s.m.sd ((s.bel.length + 1 : Nat) : Int) }, (s.a, s.F) :: s.bel, (x.1 : Int), .nil⟩ l := by
          rw [run, hst, if_pos rfl]
        have ih := nds_run most n (deep + 1) l (max D (deep + 1)) ⟨{ s.m with sd := max s.m.sd ((s.bel.length + 1 : Nat) : Int) }, (s.a, s.F) :: s.bel, (x.1 : Int), .nil⟩ (by omega)
          ⟨hm.b, hm.o, by show max s.m.sd _ = _; rw [hm.s, hcast]⟩ (by show ((s.bel.length + 1 : Nat) : Int) = _; omega)
        generalize nds most n (deep + 1) l (max D (deep + 1)) = r at *
        cases he : r.er with
        | some e =>
          dsimp only
          refine ⟨fun h => (by cases h), fun _ => ?_⟩
          rcases ih.2 (by rw [he]; exact fun h => by cases h) with ⟨S, p, q1, q2, q3⟩ | ⟨q1, S, q2, q3, q4⟩
          · exact .inl ⟨S, p, by rw [← he]; exact q1, by rw [hr0]; exact q2, q3⟩
          · exact .inr ⟨by rw [← he]; exact q1, S, by rw [hr0]; exact q2, by have : s.bel.length + 1 < S.bel.length := q3; omega, q4⟩
        | none =>
          dsimp only
          obtain ⟨m', q1, q2, q3, q4⟩ := ih.1 he
          rw [← hr0] at q2
          cases hl : r.l with
          | nil =>
            dsimp only
            refine ⟨fun h => (by cases h), fun _ => .inr ⟨rfl, ⟨m', (s.a, s.F) :: s.bel, (x.1 : Int), For.nil.app r.F⟩, ?_, ?_, q1.s⟩⟩
            · rw [q2, hl]; rfl
            · show _ < s.bel.length + 1; omega
          | cons y l' =>
            dsimp only
            have hy : kd y.2 = 2 := by
              rcases q3 with q3 | ⟨y', l'', q3, q5⟩
              · rw [hl] at q3; cases q3
              · rw [hl] at q3; injection q3 with q3 _; rw [q3]; exact q5
            rw [hl, List.length_cons] at q4
            have hst2 : stp ⟨m', (s.a, s.F) :: s.bel, (x.1 : Int), For.nil.app r.F⟩ y = (⟨m', s.bel, s.a, s.F.app (.one 0 (x.1 : Int) [] r.F)⟩, 0) := by
              unfold stp
              rw [if_neg (by omega), if_pos hy]
              rfl
            have hr1 : run s (x :: l) = run ⟨m', s.bel, s.a, s.F.app (.one 0 (x.1 : Int) [] r.F)⟩ l' := by
              rw [q2, hl, run, hst2, if_pos rfl]
            have ih2 := nds_run most n deep l' r.D ⟨m', s.bel, s.a, s.F.app (.one 0 (x.1 : Int) [] r.F)⟩ (by omega) q1 hd
            generalize nds most n deep l' r.D = r2 at *
            refine ⟨fun h => ?_, fun h => ?_⟩
            · obtain ⟨m2, p1, p2, p3, p4⟩ := ih2.1 h
              refine ⟨m2, p1, ?_, p3, by rw [List.length_cons]; have h9 : r2.l.length ≤ l'.length := p4; show r2.l.length ≤ _; omega⟩
              rw [hr1, p2]
              show run ⟨m2, s.bel, s.a, (s.F.app (.one 0 (x.1 : Int) [] r.F)).app r2.F⟩ r2.l = _
              rw [For.app_assoc]; rfl
            · rcases ih2.2 h with ⟨S, p, p1, p2, p3⟩ | ⟨p1, S, p2, p3, p4⟩
              · exact .inl ⟨S, p, p1, by rw [hr1]; exact p2, p3⟩
              · exact .inr ⟨p1, S, by rw [hr1]; exact p2, p3, p4⟩
    · rw [if_neg h1]
      have hst : stp s x = (⟨s.m, s.bel, s.a, s.F.app (.one (kd x.2) (x.1 : Int) x.2 .nil)⟩, 0) := by unfold stp; rw [if_neg h1, if_neg h2]
      have hr1 : run s (x :: l) = run ⟨s.m, s.bel, s.a, s.F.app (.one (kd x.2) (x.1 : Int) x.2 .nil)⟩ l := by rw [run, hst, if_pos rfl]
      have ih := nds_run most n deep l D ⟨s.m, s.bel, s.a, s.F.app (.one (kd x.2) (x.1 : Int) x.2 .nil)⟩ (by omega) hm hd
      generalize nds most n deep l D = r2 at *
      refine ⟨fun h => ?_, fun h => ?_⟩
      · obtain ⟨m2, p1, p2, p3, p4⟩ := ih.1 h
        refine ⟨m2, p1, ?_, p3, by rw [List.length_cons]; have h9 : r2.l.length ≤ l.length := p4; show r2.l.length ≤ _; omega⟩
        rw [hr1, p2]
        show run ⟨m2, s.bel, s.a, (s.F.app (.one (kd x.2) (x.1 : Int) x.2 .nil)).app r2.F⟩ r2.l = _
        rw [For.app_assoc]; rfl
      · rcases ih.2 h with ⟨S, p, p1, p2, p3⟩ | ⟨p1, S, p2, p3, p4⟩
        · exact .inl ⟨S, p, p1, by rw [hr1]; exact p2, p3⟩
        · exact .inr ⟨p1, S, by rw [hr1]; exact p2, p3, p4⟩

/-- what the reference's Read tells: the nodes, the place, how deep, what is wrong -/
structure Ref where
  F : For
  at' : Int
  D : Int
  e : Int
def refR (most : Int) (L : List Nat) : Ref :=
  if wE L = 0 then
    match (nds most ((wds L).length + 1) 0 (wds L) 0).er with
    | some (e, a) => ⟨.nil, if a < 0 then (L.length : Int) else a, (nds most ((wds L).length + 1) 0 (wds L) 0).D, e⟩
    | none => match (nds most ((wds L).length + 1) 0 (wds L) 0).l with
      | [] => ⟨(nds most ((wds L).length + 1) 0 (wds L) 0).F, 0, (nds most ((wds L).length + 1) 0 (wds L) 0).D, 0⟩
      | x :: _ => ⟨.nil, (x.1 : Int), (nds most ((wds L).length + 1) 0 (wds L) 0).D, 4⟩
  else ⟨.nil, (wAt L : Int), 0, (wE L : Int)⟩
theorem refR_rdd (d : Int) (L : List Nat) : (rdd d L).F = (refR d L).F ∧ (rdd d L).at' = (refR d L).at' ∧ (rdd d L).m.sd = (refR d L).D ∧ (rdd d L).e = (refR d L).e := by
  unfold rdd rd refR
  by_cases hE : wE L = 0
  rotate_left
  · rw [if_neg hE, if_neg hE]
    exact ⟨rfl, rfl, rfl, rfl⟩
  rw [if_pos hE, if_pos hE]
  have h := nds_run d ((wds L).length + 1) 0 (wds L) 0 (St.new (Mt.new 0 0 0 d)) (Nat.lt_succ_self _) ⟨rfl, rfl, rfl⟩ rfl
  generalize nds d ((wds L).length + 1) 0 (wds L) 0 = r at *
  cases he : r.er with
  | some ea =>
    obtain ⟨e, a⟩ := ea
    rcases h.2 (by rw [he]; exact fun h => by cases h) with ⟨S, p, q1, q2, q3⟩ | ⟨q1, S, q2, q3, q4⟩
    · rw [he] at q1
      injection q1 with q1
      injection q1 with q1 q5
      subst q1 q5
      rw [q2]
      dsimp only
      rw [if_neg (by decide), if_neg (by omega)]
      exact ⟨rfl, rfl, q3, rfl⟩
    · rw [he] at q1
      injection q1 with q1
      injection q1 with q1 q5
      subst q1 q5
      rw [q2]
      dsimp only
      rw [if_pos rfl, if_neg (by have : (St.new (Mt.new 0 0 0 d)).bel.length < S.bel.length := q3; omega), if_pos (by decide)]
      exact ⟨rfl, rfl, q4, rfl⟩
  | none =>
    obtain ⟨m', q1, q2, q3, q4⟩ := h.1 he
    rw [q2]
    dsimp only
    cases hl : r.l with
    | nil =>
      dsimp only
      rw [run]
      exact ⟨rfl, rfl, q1.s, rfl⟩
    | cons x l' =>
      dsimp only
      have hx : kd x.2 = 2 := by
        rcases q3 with q3 | ⟨y', l'', q3, q5⟩
        · rw [hl] at q3; cases q3
        · rw [hl] at q3; injection q3 with q3 _; rw [q3]; exact q5
      have hst : stp ⟨m', (St.new (Mt.new 0 0 0 d)).bel, (St.new (Mt.new 0 0 0 d)).a, (St.new (Mt.new 0 0 0 d)).F.app r.F⟩ x = (⟨m', (St.new (Mt.new 0 0 0 d)).bel, (St.new (Mt.new 0 0 0 d)).a, (St.new (Mt.new 0 0 0 d)).F.app r.F⟩, 4) := by
        unfold stp
        rw [if_neg (by omega), if_pos hx]
        rfl
      rw [run, hst]
      exact ⟨rfl, rfl, q1.s, rfl⟩

end Go.Proofs.Ytkmenbicmbaceaa

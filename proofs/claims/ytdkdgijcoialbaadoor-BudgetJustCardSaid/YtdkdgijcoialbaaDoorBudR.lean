/- BudgetJust: what is said with another budget. -/
import Derived.Test.YtdkdgijcoialbaaDoorBudP
namespace Go.Proofs.YtdkdgijcoialbaaDoor
open Go.RowKit

set_option linter.unusedVariables false
set_option linter.unusedSimpArgs false

/-- the budget of B, the spents of m -/
def Mt.as (B m : Mt) : Mt := ⟨B.bs, B.br, B.bl, B.bd, m.ss, m.sr, m.sl, m.sd, none⟩
def Le (m m' : Mt) : Prop := m.ss ≤ m'.ss ∧ m.sr ≤ m'.sr ∧ m.sl ≤ m'.sl ∧ m.sd ≤ m'.sd
theorem Le.refl (m : Mt) : Le m m := ⟨Int.le_refl _, Int.le_refl _, Int.le_refl _, Int.le_refl _⟩
theorem Le.trans {a b c : Mt} (h : Le a b) (k : Le b c) : Le a c := by unfold Le at *; omega
/-- what is said with a budget that suffices -/
theorem tell_as {m m' B : Mt} {c : Cl} (h0 : m.out = none) (h : m.tell c = (m', 0)) (hb : m'.ss ≤ B.bs ∧ m'.sr ≤ B.br ∧ m'.sl ≤ B.bl ∧ m'.sd ≤ B.bd) :
    (B.as m).tell c = (B.as m', 0) ∧ Le m m' ∧ m'.out = none ∧ (m'.bs = m.bs ∧ m'.br = m.br ∧ m'.bl = m.bl ∧ m'.bd = m.bd) := by
  obtain ⟨b0, b1, b2, b3⟩ := hb
  unfold Mt.tell at *
  split at h
  · rename_i hw
    rw [if_pos hw]
    unfold Mt.pay at *
    rw [h0] at h
    simp only at h
    split at h
    · simp at h
    · rename_i hs
      split at h
      · rename_i hl
        simp only [Prod.mk.injEq, and_true] at h
        subst h
        simp only at b0 b1 b2 b3
        refine ⟨?_, ?_, rfl, rfl, rfl, rfl, rfl⟩
        · simp only [Mt.as]
          exact (if_neg (by omega)).trans (if_pos (by omega))
        · unfold Le; simp only; omega
      · simp at h
  · rename_i hw
    rw [if_neg hw]
    split at h
    · rename_i hw2
      rw [if_pos hw2]
      unfold Mt.rows at *
      rw [h0] at h
      simp only at h
      split at h
      · simp only [Prod.mk.injEq, and_true] at h
        subst h
        simp only at b0 b1 b2 b3
        refine ⟨?_, ?_, rfl, rfl, rfl, rfl, rfl⟩
        · simp only [Mt.as]
          exact if_pos (by omega)
        · unfold Le; simp only; omega
      · simp at h
    · rename_i hw2
      rw [if_neg hw2]
      unfold Mt.deep at *
      rw [h0] at h
      simp only at h
      split at h
      · simp only [Prod.mk.injEq, and_true] at h
        subst h
        simp only at b0 b1 b2 b3
        refine ⟨?_, ?_, rfl, rfl, rfl, rfl, rfl⟩
        · simp only [Mt.as]
          exact if_pos (by omega)
        · unfold Le; simp only; omega
      · simp at h
/-- what is refused is not among what was spent -/
theorem tell_refused {m m' : Mt} {c : Cl} (h : m.tell c = (m', 46)) : m'.ss = m.ss ∧ m'.sr = m.sr ∧ m'.sl = m.sl ∧ m'.sd = m.sd := by
  unfold Mt.tell Mt.pay Mt.rows Mt.deep at h
  cases h0 : m.out with
  | some x =>
    rw [h0] at h
    simp only [ite_self] at h
    simp only [Prod.mk.injEq, and_true] at h
    subst h
    exact ⟨rfl, rfl, rfl, rfl⟩
  | none =>
    rw [h0] at h
    simp only at h
    repeat' split at h
    all_goals
      simp only [Prod.mk.injEq] at h
      obtain ⟨rfl, h1⟩ := h
      first | exact ⟨rfl, rfl, rfl, rfl⟩ | simp at h1
/-- behind so many calls -/
def behind (m0 : Mt) (cs : List Cl) (k : Nat) : Mt := (cs.take k).foldl (fun m c => (m.tell c).1) m0
theorem behind_succ (m0 : Mt) (cs : List Cl) (k : Nat) (h : k < cs.length) : behind m0 cs (k + 1) = ((behind m0 cs k).tell cs[k]).1 := by
  unfold behind
  rw [List.take_add_one, List.getElem?_eq_getElem h, List.foldl_append]
  rfl
/-- the first k calls are all said to be right -/
def AllOk (m0 : Mt) (cs : List Cl) (k : Nat) : Prop := ∀ i, (h : i < cs.length) → i < k → (behind m0 cs i).tell cs[i] = (behind m0 cs (i + 1), 0) ∧ (behind m0 cs i).out = none
theorem AllOk.succ {m0 : Mt} {cs : List Cl} {k : Nat} (h : AllOk m0 cs k) (hk : k < cs.length) (h0 : (behind m0 cs k).out = none) {m' : Mt} (h1 : (behind m0 cs k).tell cs[k] = (m', 0)) : AllOk m0 cs (k + 1) ∧ m' = behind m0 cs (k + 1) := by
  have e : m' = behind m0 cs (k + 1) := by rw [behind_succ _ _ _ hk, h1]
  refine ⟨fun i hi hk1 => ?_, e⟩
  rcases Nat.lt_or_ge i k with h2 | h2
  · exact h i hi h2
  · have : i = k := by omega
    subst this
    exact ⟨by rw [h1, e], h0⟩
theorem AllOk.le {m0 : Mt} {cs : List Cl} {k : Nat} (h : AllOk m0 cs k) (hk : k ≤ cs.length) (hg : Good m0) (d : Nat) : ∀ i, i + d = k → Le (behind m0 cs i) (behind m0 cs k) := by
  induction d with
  | zero => intro i hi; have : i = k := by omega
            subst this; exact Le.refl _
  | succ d ih =>
    intro i hi
    have h1 := h i (by omega) (by omega)
    have h2 := ih (i + 1) (by omega)
    have h3 := tell_as (B := ⟨(behind m0 cs (i + 1)).ss, (behind m0 cs (i + 1)).sr, (behind m0 cs (i + 1)).sl, (behind m0 cs (i + 1)).sd, 0, 0, 0, 0, none⟩) h1.2 h1.1 ⟨Int.le_refl _, Int.le_refl _, Int.le_refl _, Int.le_refl _⟩
    exact h3.2.1.trans h2
theorem behind_good {m0 : Mt} (cs : List Cl) (hg : Fine m0) (k : Nat) : Fine (behind m0 cs k) := by
  unfold behind
  generalize cs.take k = l
  induction l generalizing m0 with
  | nil => exact hg
  | cons c r ih => exact ih (hg.tell c)
theorem behind_budget {m0 : Mt} {cs : List Cl} {k : Nat} (h : AllOk m0 cs k) : ∀ i, i ≤ k → i ≤ cs.length → (behind m0 cs i).bs = m0.bs ∧ (behind m0 cs i).br = m0.br ∧ (behind m0 cs i).bl = m0.bl ∧ (behind m0 cs i).bd = m0.bd := by
  intro i
  induction i with
  | zero => intro _ _; exact ⟨rfl, rfl, rfl, rfl⟩
  | succ i ih =>
    intro h1 h2
    have h3 := h i (by omega) (by omega)
    have h4 := tell_as (B := ⟨(behind m0 cs (i + 1)).ss, (behind m0 cs (i + 1)).sr, (behind m0 cs (i + 1)).sl, (behind m0 cs (i + 1)).sd, 0, 0, 0, 0, none⟩) h3.2 h3.1 ⟨Int.le_refl _, Int.le_refl _, Int.le_refl _, Int.le_refl _⟩
    have h5 := ih (by omega) (by omega)
    obtain ⟨e0, e1, e2, e3⟩ := h4.2.2.2
    rw [e0, e1, e2, e3]
    exact h5
theorem as_good {B m : Mt} (h : Good m) (hB : Bmay B.bs B.br B.bl B.bd) (hL : m.ss ≤ B.bs ∧ m.sr ≤ B.br ∧ m.sl ≤ B.bl ∧ m.sd ≤ B.bd) : Good (B.as m) := by
  unfold Good Bmay at *
  simp only [Mt.as]
  omega
theorem just_step {m0 : Mt} {cs : List Cl} {k i : Nat} (hF : Fine m0) (h : AllOk m0 cs k) (hk : k ≤ cs.length) (hi : i < k) (hil : i < cs.length) {mk : Mt} (hmk : behind m0 cs k = mk) (B : Mt) (hB : Bmay B.bs B.br B.bl B.bd)
    (hL : mk.ss ≤ B.bs ∧ mk.sr ≤ B.br ∧ mk.sl ≤ B.bl ∧ mk.sd ≤ B.bd) : (B.as (behind m0 cs i)).tell cs[i] = (B.as (behind m0 cs (i + 1)), 0) ∧ Good (B.as (behind m0 cs i)) := by
  subst hmk
  have h1 := h i hil hi
  have l1 := h.le hk hF.1 (k - (i + 1)) (i + 1) (by omega)
  have l0 := h.le hk hF.1 (k - i) i (by omega)
  unfold Le at l0 l1
  exact ⟨(tell_as h1.2 h1.1 (by omega)).1, as_good (behind_good cs hF i).1 hB (by omega)⟩
end Go.Proofs.YtdkdgijcoialbaaDoor

/- SexpPlaces, the law. -/
import Derived.Test.YtbnlcgnpkodieaaSexO
namespace Go.Proofs.Ytbnlcgnpkodieaa
open Go.RowKit

set_option linter.unusedVariables false
set_option linter.unusedSimpArgs false

theorem run_siz : ∀ (l : List (Nat × List Nat)) (s : St), (run s l).1.all.siz ≤ s.all.siz + l.length
  | [], s => by simp [run]
  | x :: l, s => by
    have h1 := stp_siz s x
    unfold run
    split
    · have := run_siz l (stp s x).1
      rw [List.length_cons]; omega
    · show (stp s x).1.all.siz ≤ _
      rw [List.length_cons]; omega
theorem rdd_siz (d : Int) (L : List Nat) : (rdd d L).F.siz ≤ L.length + 1 := by
  unfold rdd rd
  have h := run_siz (wds L) (St.new (Mt.new 0 0 0 d))
  have hw := wds_len L
  have h0 : (St.new (Mt.new 0 0 0 d)).all.siz = 1 := rfl
  generalize run (St.new (Mt.new 0 0 0 d)) (wds L) = R at *
  have hF : R.1.F.siz ≤ R.1.all.siz := by
    unfold St.all
    rw [For.siz_app]
    simp only [For.one, For.siz]
    omega
  split
  · split
    · split
      · show R.1.F.siz ≤ _
        omega
      · exact Nat.zero_le _
    · exact Nat.zero_le _
  · exact Nat.zero_le _
/-- a number, taken as one without a sign, and a remainder by 65537 -/
def dof (a : Int) : Nat := ((a % 18446744073709551616) % 65537).toNat
theorem dof_lt (a : Int) : dof a < 65537 := by unfold dof; omega

theorem may_nodes {F : For} (h : F.may = true) : ∀ {k : Nat} {a : Int} {t : List Nat} {c r : For}, F = .cons k a t c r → For.nmay k t c = true ∧ r.may = true := by
  intro k a t c r e
  rw [e, For.may_cons, Bool.and_eq_true] at h
  exact h
end Go.Proofs.Ytbnlcgnpkodieaa

/- NatBits: the law's walk, whatever is handed in. -/
import Derived.Test.YtdbmandbddechaaRefG
namespace Go.Proofs.Ytdbmandbddechaa
open Go.RowKit

set_option linter.unusedVariables false

set_option maxHeartbeats 2000000 in
theorem lbits_long1 (va : Value) (xs : List Nat) (k : Int) (w : World) (env : Env w w [(va, xs)]) (la : 60 < xs.length) :
    Calls Try.prog 5 #[va, .int .i64 k] w fun e w' => e = .returned (.bool true) ∧ Below w.heap.size w w' := by
  obtain ⟨A, cap, rfl, _⟩ := env.get (v := va) (xs := xs) (by simp)
  have p1 : decide ((60 : Int) < (xs.length : Int)) = true := decide_eq_true (by omega)
  go_enter Try.func5, Try.ntmps5
  go_wp2_with fail
  refine (awake_env env).mono ?_
  rintro e w1 ⟨rfl, env1⟩
  clear env
  have hB := Lib.hid env1.1
  clear env1
  go_wp2
  go_ret
  exact ⟨rfl, hB.out⟩

set_option maxHeartbeats 2000000 in
theorem lbits_long2 (va : Value) (xs : List Nat) (k : Int) (w : World) (env : Env w w [(va, xs)]) (la : xs.length ≤ 60) (lb : 3000 < k) :
    Calls Try.prog 5 #[va, .int .i64 k] w fun e w' => e = .returned (.bool true) ∧ Below w.heap.size w w' := by
  obtain ⟨A, cap, rfl, _⟩ := env.get (v := va) (xs := xs) (by simp)
  have p1 : decide ((60 : Int) < (xs.length : Int)) = false := decide_eq_false (by omega)
  have p2 : decide ((3000 : Int) < k) = true := decide_eq_true (by omega)
  go_enter Try.func5, Try.ntmps5
  go_wp2_with fail
  refine (awake_env env).mono ?_
  rintro e w1 ⟨rfl, env1⟩
  clear env
  have hB := Lib.hid env1.1
  clear env1
  go_wp2
  go_ret
  exact ⟨rfl, hB.out⟩

set_option maxRecDepth 100000 in
set_option maxHeartbeats 4000000 in
theorem lbits_all (va : Value) (xs : List Nat) (k : Int) (hk1 : -9223372036854775808 ≤ k) (w : World) (env : Env w w [(va, xs)]) (na : NoRoom va) (la : xs.length ≤ 60) (lb : k ≤ 3000) (bs : Nat) (bt : Bool)
    (hbs : Hid (sBits xs = bs)) (hbt : Hid (sBit xs k = bt)) :
    Calls Try.prog 5 #[va, .int .i64 k] w fun e w' => e = .returned (.bool true) ∧ Below w.heap.size w w' := by
  obtain ⟨A, cap, rfl, _⟩ := env.get (v := va) (xs := xs) (by simp)
  have p1 : decide ((60 : Int) < (xs.length : Int)) = false := decide_eq_false (by omega)
  have p2 : decide ((3000 : Int) < k) = false := decide_eq_false (by omega)
  have b1 : (bt == bt) = true := by simp
  have b2 : ((bs : Int) == (bs : Int)) = true := by simp
  have hk3 : k ≤ 2097152 := by omega
  have hk2 : k ≤ 9223372036854775807 := by omega
  go_enter Try.func5, Try.ntmps5
  have c := own_env env (va := (.slice A xs.length cap)) (xs := xs) (by simp) na la
  go_wp2_with fail
  refine c.mono ?_
  rintro e w1 ⟨x, rfl, env1⟩
  clear env c
  have hB8 := Lib.hid env1.1
  have h0 := (lab_start env1).1
  clear env1
  go_wp2_with fail
  go_loopw [6] (fun i wr => ∃ j : Nat, j ≤ 2 ∧ i = .int .i64 (j : Int) ∧ Lab w1 wr [(x, xs), ((.slice A xs.length cap), xs)] []) (fun i _ => 2 - (intOf i).toNat)
  case atStart => exact ⟨0, Nat.zero_le _, rfl, h0, fun _ h => by cases h⟩
  case round =>
    obtain ⟨j, hj, rfl, lab⟩ := hrel
    by_cases hlt : j < 2
    · skip
      have c := shl_lab lab (va := x) (xs := xs) (by simp) k
      go_wp2_with fail
      refine c.mono ?_
      rintro e u1 ⟨d, rfl, lab1⟩
      clear lab c
      have c := rshl_lab lab1 (va := (.slice A xs.length cap)) (xs := xs) (by simp) k hk3
      go_wp2_with fail
      refine c.mono ?_
      rintro e u2 ⟨q, rfl, lab2⟩
      clear lab1 c
      have c := is_lab lab2 (va := d) (vb := q) (xs := sShl xs k) (ys := sShl xs k) (by simp) (by simp) (eqb_refl _) h0
      go_wp2_with fail
      refine c.mono ?_
      rintro e u3 ⟨rfl, lab3⟩
      clear lab2 c
      have c := shr_lab lab3 (va := x) (xs := xs) (by simp) k
      go_wp2_with fail
      refine c.mono ?_
      rintro e u4 ⟨d2, rfl, lab4⟩
      clear lab3 c
      have c := rshr_lab lab4 (va := (.slice A xs.length cap)) (xs := xs) (by simp) k hk3
      go_wp2_with fail
      refine c.mono ?_
      rintro e u5 ⟨q2, rfl, lab5⟩
      clear lab4 c
      have c := is_lab lab5 (va := d2) (vb := q2) (xs := sShr xs k) (ys := sShr xs k) (by simp) (by simp) (eqb_refl _) h0
      go_wp2_with fail
      refine c.mono ?_
      rintro e u6 ⟨rfl, lab6⟩
      clear lab5 c
      have HL := Lib.hid lab6
      clear lab6 h0
      go_wp2
      go_roundw
      case rel => exact ⟨j + 1, by omega, by go_num, HL.out⟩
      case measure => simp [intOf]; omega
    · have env := lab.1
      clear lab h0
      have c := bits_is env (va := x) (xs := xs) (by simp) hbs.out
      go_wp2_with fail
      refine c.mono ?_
      rintro e u1 ⟨rfl, env1⟩
      clear env c
      have c := rbits_env env1 (va := (.slice A xs.length cap)) (xs := xs) (by simp)
      rw [hbs.out] at c
      go_wp2_with fail
      refine c.mono ?_
      rintro e u2 ⟨rfl, env2⟩
      clear env1 c
      have c := bit_is env2 (va := x) (xs := xs) (by simp) hbt.out
      go_wp2_with fail
      refine c.mono ?_
      rintro e u3 ⟨rfl, env3⟩
      clear env2 c
      have c := rbit_env env3 (va := (.slice A xs.length cap)) (xs := xs) (by simp) k hk1 hk2
      rw [hbt.out] at c
      go_wp2_with fail
      refine c.mono ?_
      rintro e u4 ⟨rfl, env4⟩
      clear env3 c
      have c := refsame_env env4 (va := x) (vb := (.slice A xs.length cap)) (xs := xs) (ys := xs) (by simp) (by simp)
      rw [eqb_refl] at c
      go_wp2_with fail
      refine c.mono ?_
      rintro e u5 ⟨rfl, env5⟩
      clear env4 c
      have c := awake_env env5
      go_wp2_with fail
      refine c.mono ?_
      rintro e u6 ⟨rfl, env6⟩
      clear env5 c
      have HB := Lib.hid (hB8.out.trans (env6.1.mono hB8.out.size))
      clear env6
      go_wp2
      go_ret
      exact ⟨rfl, HB.out⟩

theorem natBits_law {va : Value} {xs : List Nat} (w : World) (ha : Arg w va xs) (na : NoRoom va) (k : Int) (_hk : (Lit.int .i64 k).wf = true) :
    Calls Try.prog 5 #[va, .int .i64 k] w fun e w' => e = .returned (.bool true) ∧ Below w.heap.size w w' := by
  have hk := bounds_i64 _hk
  have env : Env w w [(va, xs)] := env_start1 ha
  rcases Nat.lt_or_ge 60 xs.length with la | la
  · exact lbits_long1 va xs k w env la
  rcases Int.lt_or_le 3000 k with lb | lb
  · exact lbits_long2 va xs k w env la lb
  exact lbits_all va xs k hk.1 w env na la lb _ _ rfl rfl

end Go.Proofs.Ytdbmandbddechaa

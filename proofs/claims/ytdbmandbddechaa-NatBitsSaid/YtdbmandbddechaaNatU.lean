/- NatTells: the law's walk, whatever is handed in. -/
import Derived.Test.YtdbmandbddechaaRefD
namespace Go.Proofs.Ytdbmandbddechaa
open Go.RowKit

set_option linter.unusedVariables false

def NoRoom (v : Value) : Prop := ∀ n cap, v = .slice none n cap → cap = 0
theorem noRoom_of_row {w : World} {a : Option Addr} {len cap : Nat} {zs : List Int}
    (h : (a = none ∧ len = 0 ∧ cap = 0 ∧ zs = []) ∨ ∃ x, a = some x ∧ len ≤ cap ∧ cap ≤ maxLen ∧ zs.length = cap ∧ (∀ i, i < zs.length → w.cell? (x.add i) = some (.int .u32 (zs.getD i 0))) ∧ ∀ n ∈ zs, (Lit.int .u32 n).wf = true) : NoRoom (.slice a len cap) := by
  rcases h with ⟨rfl, rfl, rfl, rfl⟩ | ⟨x, rfl, _⟩
  · intro n cap h; cases h; rfl
  · intro n cap h; cases h
theorem own_env {w0 w : World} {l : List (Value × List Nat)} {va : Value} {xs : List Nat} (h : Env w0 w l) (ha : (va, xs) ∈ l) (hz : NoRoom va) (h60 : xs.length ≤ 60) : Calls Try.prog 23 #[va] w fun e w' => ∃ r, e = .returned r ∧ Env w0 w' ((r, xs) :: l) :=
  (own_any ⟨h.get ha, hz⟩ h60).mono fun _ _ ⟨⟨r, he, ho⟩, hbl⟩ => ⟨r, he, h.add hbl (ho.arg (h.get ha).limbs)⟩

set_option maxHeartbeats 2000000 in
theorem tells_long1 (va vb : Value) (xs ys : List Nat) (u : Nat) (w : World) (env : Env w w [(va, xs), (vb, ys)]) (la : 60 < xs.length) :
    Calls Try.prog 4 #[va, vb, .int .u64 (u : Int)] w fun e w' => e = .returned (.bool true) ∧ Below w.heap.size w w' := by
  obtain ⟨A, cap, rfl, _⟩ := env.get (v := va) (xs := xs) (by simp)
  obtain ⟨A', cap', rfl, _⟩ := env.get (v := vb) (xs := ys) (by simp)
  have p1 : decide ((60 : Int) < (xs.length : Int)) = true := decide_eq_true (by omega)
  go_enter Try.func4, Try.ntmps4
  go_wp2_with fail
  refine (awake_env env).mono ?_
  rintro e w1 ⟨rfl, env1⟩
  clear env
  have hB := Lib.hid env1.1
  clear env1
  go_wp2
  go_ret
  exact ⟨rfl, hB.out⟩

set_option maxHeartbeats 2000000 in
theorem tells_long2 (va vb : Value) (xs ys : List Nat) (u : Nat) (w : World) (env : Env w w [(va, xs), (vb, ys)]) (la : xs.length ≤ 60) (lb : 60 < ys.length) :
    Calls Try.prog 4 #[va, vb, .int .u64 (u : Int)] w fun e w' => e = .returned (.bool true) ∧ Below w.heap.size w w' := by
  obtain ⟨A, cap, rfl, _⟩ := env.get (v := va) (xs := xs) (by simp)
  obtain ⟨A', cap', rfl, _⟩ := env.get (v := vb) (xs := ys) (by simp)
  have p1 : decide ((60 : Int) < (xs.length : Int)) = false := decide_eq_false (by omega)
  have p2 : decide ((60 : Int) < (ys.length : Int)) = true := decide_eq_true (by omega)
  go_enter Try.func4, Try.ntmps4
  go_wp2_with fail
  refine (awake_env env).mono ?_
  rintro e w1 ⟨rfl, env1⟩
  clear env
  have hB := Lib.hid env1.1
  clear env1
  go_wp2
  go_ret
  exact ⟨rfl, hB.out⟩

set_option maxRecDepth 100000 in
set_option maxHeartbeats 4000000 in
theorem tells_all (va vb : Value) (xs ys : List Nat) (u : Nat) (hu : u < 18446744073709551616) (w : World) (env : Env w w [(va, xs), (vb, ys)]) (na : NoRoom va) (nb : NoRoom vb) (la : xs.length ≤ 60) (lb : ys.length ≤ 60) (mb ok so : Bool) (low : Nat) (cm : Int)
    (hm : Hid (mayb xs = mb)) (hlow : Hid (sLow xs = low)) (hok : Hid (sLowOk xs = ok)) (hso : Hid (sSubOk xs ys = so)) (hcm : Hid (sCmp xs ys = cm)) :
    Calls Try.prog 4 #[va, vb, .int .u64 (u : Int)] w fun e w' => e = .returned (.bool true) ∧ Below w.heap.size w w' := by
  obtain ⟨A, cap, rfl, _⟩ := env.get (v := va) (xs := xs) (by simp)
  obtain ⟨A', cap', rfl, _⟩ := env.get (v := vb) (xs := ys) (by simp)
  have p1 : decide ((60 : Int) < (xs.length : Int)) = false := decide_eq_false (by omega)
  have p2 : decide ((60 : Int) < (ys.length : Int)) = false := decide_eq_false (by omega)
  have b1 : (mb != mb) = false := by simp
  have b2 : (ok != ok) = false := by simp
  have b3 : (so != so) = false := by simp
  have b4 : ((low : Int) != (low : Int)) = false := by simp
  have b5 : (cm != cm) = false := by simp
  go_enter Try.func4, Try.ntmps4
  go_wp2_with fail
  refine (own_env env (va := (.slice A xs.length cap)) (xs := xs) (by simp) na la).mono ?_
  rintro e w1 ⟨x, rfl, env1⟩
  clear env
  go_wp2_with fail
  refine (own_env env1 (va := (.slice A' ys.length cap')) (xs := ys) (by simp) nb lb).mono ?_
  rintro e w2 ⟨y, rfl, env2⟩
  clear env1
  have c := low_env env2 (va := x) (xs := xs) (by simp)
  rw [hlow.out] at c
  rw [hok.out] at c
  go_wp2_with fail
  refine c.mono ?_
  rintro e w3 ⟨rfl, env3⟩
  clear env2 c
  have c := rlow_env env3 (va := (.slice A xs.length cap)) (xs := xs) (by simp)
  rw [hlow.out] at c
  rw [hok.out] at c
  go_wp2_with fail
  refine c.mono ?_
  rintro e w4 ⟨rfl, env4⟩
  clear env3 c
  have c := may_is env4 (va := x) (xs := xs) (by simp) hm.out
  go_wp2_with fail
  refine c.mono ?_
  rintro e w5 ⟨rfl, env5⟩
  clear env4 c
  have c := rmay_env env5 (va := (.slice A xs.length cap)) (xs := xs) (by simp)
  rw [hm.out] at c
  go_wp2_with fail
  refine c.mono ?_
  rintro e w6 ⟨rfl, env6⟩
  clear env5 c
  have c := cmp_is env6 (va := x) (xs := xs) (vb := y) (ys := ys) (by simp) (by simp) hcm.out
  go_wp2_with fail
  refine c.mono ?_
  rintro e w7 ⟨rfl, env7⟩
  clear env6 c
  have c := rcmp_env env7 (va := (.slice A xs.length cap)) (xs := xs) (vb := (.slice A' ys.length cap')) (ys := ys) (by simp) (by simp)
  rw [hcm.out] at c
  go_wp2_with fail
  refine c.mono ?_
  rintro e w8 ⟨rfl, env8⟩
  clear env7 c
  have hB8 := Lib.hid env8.1
  have h0 := (lab_start env8).1
  clear env8
  go_wp2_with fail
  go_loopw [13] (fun i wr => ∃ k : Nat, k ≤ 2 ∧ i = .int .i64 (k : Int) ∧ Lab w8 wr [(y, ys), (x, xs), ((.slice A xs.length cap), xs), ((.slice A' ys.length cap'), ys)] []) (fun i _ => 2 - (intOf i).toNat)
  case atStart => exact ⟨0, Nat.zero_le _, rfl, h0, fun _ h => by cases h⟩
  case round =>
    obtain ⟨k, hk, rfl, lab⟩ := hrel
    by_cases hlt : k < 2
    · skip
      have c := sub_lab lab (va := x) (xs := xs) (vb := y) (ys := ys) (by simp) (by simp)
      rw [hso.out] at c
      go_wp2_with fail
      refine c.mono ?_
      rintro e u1 ⟨d, rfl, lab1⟩
      clear lab c
      have c := rsub_lab lab1 (va := (.slice A xs.length cap)) (xs := xs) (vb := (.slice A' ys.length cap')) (ys := ys) (by simp) (by simp)
      rw [hso.out] at c
      go_wp2_with fail
      refine c.mono ?_
      rintro e u2 ⟨q, rfl, lab2⟩
      clear lab1 c
      have c := is_lab lab2 (va := d) (vb := q) (xs := sSub xs ys) (ys := sSub xs ys) (by simp) (by simp) (eqb_refl _) h0
      go_wp2_with fail
      refine c.mono ?_
      rintro e u3 ⟨rfl, lab3⟩
      clear lab2 c
      have c := add_lab lab3 (va := x) (xs := xs) (vb := y) (ys := ys) (by simp) (by simp)
      go_wp2_with fail
      refine c.mono ?_
      rintro e u4 ⟨d2, rfl, lab4⟩
      clear lab3 c
      have c := radd_lab lab4 (va := (.slice A xs.length cap)) (xs := xs) (vb := (.slice A' ys.length cap')) (ys := ys) (by simp) (by simp)
      go_wp2_with fail
      refine c.mono ?_
      rintro e u5 ⟨q2, rfl, lab5⟩
      clear lab4 c
      have c := is_lab lab5 (va := d2) (vb := q2) (xs := sAdd xs ys) (ys := sAdd xs ys) (by simp) (by simp) (eqb_refl _) h0
      go_wp2_with fail
      refine c.mono ?_
      rintro e u6 ⟨rfl, lab6⟩
      clear lab5 c
      have c := of_lab lab6 u hu
      go_wp2_with fail
      refine c.mono ?_
      rintro e u7 ⟨d3, rfl, lab7⟩
      clear lab6 c
      have c := rof_lab lab7 u hu
      go_wp2_with fail
      refine c.mono ?_
      rintro e u8 ⟨q3, rfl, lab8⟩
      clear lab7 c
      have c := is_lab lab8 (va := d3) (vb := q3) (xs := lim u) (ys := lim u) (by simp) (by simp) (eqb_refl _) h0
      go_wp2_with fail
      refine c.mono ?_
      rintro e u9 ⟨rfl, lab9⟩
      clear lab8 c
      have HL := Lib.hid lab9
      clear lab9 h0
      go_wp2
      go_roundw
      case rel => exact ⟨k + 1, by omega, by go_num, HL.out⟩
      case measure => simp [intOf]; omega
    · have env := lab.1
      clear lab h0
      have c := refsame_env env (va := x) (vb := (.slice A xs.length cap)) (xs := xs) (ys := xs) (by simp) (by simp)
      rw [eqb_refl] at c
      go_wp2_with fail
      refine c.mono ?_
      rintro e u1 ⟨rfl, env1⟩
      clear env c
      have c := refsame_env env1 (va := y) (vb := (.slice A' ys.length cap')) (xs := ys) (ys := ys) (by simp) (by simp)
      rw [eqb_refl] at c
      go_wp2_with fail
      refine c.mono ?_
      rintro e u2 ⟨rfl, env2⟩
      clear env1 c
      have c := awake_env env2
      go_wp2_with fail
      refine c.mono ?_
      rintro e u3 ⟨rfl, env3⟩
      clear env2 c
      have HB := Lib.hid (hB8.out.trans (env3.1.mono hB8.out.size))
      clear env3
      go_wp2
      go_ret
      exact ⟨rfl, HB.out⟩

theorem natTells_law {va vb : Value} {xs ys : List Nat} (w : World) (ha : Arg w va xs) (na : NoRoom va) (hb : Arg w vb ys) (nb : NoRoom vb) (u : Int) (_hu : (Lit.int .u64 u).wf = true) :
    Calls Try.prog 4 #[va, vb, .int .u64 u] w fun e w' => e = .returned (.bool true) ∧ Below w.heap.size w w' := by
  have hu := bounds_u64 _hu
  obtain ⟨u, rfl⟩ : ∃ n : Nat, u = (n : Int) := ⟨u.toNat, by omega⟩
  have env : Env w w [(va, xs), (vb, ys)] := (env_start1 hb).add (Below.refl _ _) ha
  rcases Nat.lt_or_ge 60 xs.length with la | la
  · exact tells_long1 va vb xs ys u w env la
  rcases Nat.lt_or_ge 60 ys.length with lb | lb
  · exact tells_long2 va vb xs ys u w env la lb
  exact tells_all va vb xs ys u (by omega) w env na nb la lb _ _ _ _ _ rfl rfl rfl rfl rfl

end Go.Proofs.Ytdbmandbddechaa

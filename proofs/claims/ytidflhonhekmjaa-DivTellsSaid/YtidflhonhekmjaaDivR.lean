/- DivRoots. -/
import Derived.Test.YtidflhonhekmjaaDivF
import Derived.Test.YtidflhonhekmjaaRefT
namespace Go.Proofs.Ytidflhonhekmjaa
open Go.RowKit Go.Shelf

set_option linter.unusedVariables false

theorem refsame3 {w0 w : World} {l : List (Value × List Nat)} {va vb : Value} {xs : List Nat} (h : Env w0 w l) (ha : (va, xs) ∈ l) (hb : (vb, xs) ∈ l) : Calls Try.prog 27 #[va, vb] w fun e w' => e = .returned (.bool true) ∧ Env w0 w' l := by
  have := refsame_env h ha hb
  rwa [eqb_refl] at this

set_option maxRecDepth 100000 in
set_option maxHeartbeats 4000000 in
theorem droots_long {Pa : Option Addr} {na ca : Nat} {xs : List Nat} (w : World) (ha : Arg w (.slice Pa na ca) xs) (hl : 6 < xs.length) : Calls Try.prog 7 #[.slice Pa na ca] w fun e w' => e = .returned (.bool true) ∧ Below w.heap.size w w' := by
  have hn : na = xs.length := by obtain ⟨_, _, e, _⟩ := ha; injection e
  have p1 : decide ((6 : Int) < (na : Int)) = true := decide_eq_true (by omega)
  have env0 := env_start w
  clear ha hn hl
  go_enter Try.func7, Try.ntmps7
  go_wp2_with fail
  refine (awake3_env env0).mono ?_
  rintro e w1 ⟨rfl, env1⟩
  have HB := Lib.hid env1.1
  clear env0 env1
  go_wp2
  go_ret
  exact ⟨rfl, HB.out⟩

set_option maxRecDepth 100000 in
set_option maxHeartbeats 4000000 in
theorem droots_few {Pa : Option Addr} {na ca : Nat} {xs : List Nat} (w : World) (ha : Arg w (.slice Pa na ca) xs) (nz : NoRoom (.slice Pa na ca)) (hl : xs.length ≤ 6) : Calls Try.prog 7 #[.slice Pa na ca] w fun e w' => e = .returned (.bool true) ∧ Below w.heap.size w w' := by
  have hn : na = xs.length := by obtain ⟨_, _, e, _⟩ := ha; injection e
  have p1 : decide ((6 : Int) < (na : Int)) = false := decide_eq_false (by omega)
  have cO := own3_any ⟨ha, nz⟩ (by omega)
  have HA := Lib.hid ha
  have HL := Lib.hid hl
  clear ha hn hl nz
  go_enter Try.func7, Try.ntmps7
  go_wp2_with fail
  with_reducible refine cO.mono ?_
  rintro e w1 ⟨⟨x, rfl, hx⟩, hb1⟩
  have env1 : Env w w1 [(x, xs), (.slice Pa na ca, xs)] := ((env_start1 HA.out).newR HA.out.limbs hx hb1)
  clear cO hx hb1
  go_wp2_with fail
  go_loopw [4] (fun i wr => ∃ n : Nat, n ≤ 2 ∧ i = .int .i64 (n : Int) ∧ Env w wr [(x, xs), (.slice Pa na ca, xs)]) (fun i _ => 2 - (intOf i).toNat)
  case atStart => exact ⟨0, by decide, rfl, env1⟩
  case round =>
    clear env1
    obtain ⟨n, hn, rfl, E⟩ := hrel
    by_cases hlt : n < 2
    · have c1 := root_any x xs wr (E.get (by simp))
      have HE := Lib.hid E
      clear E
      go_wp2_with fail
      with_reducible refine c1.mono ?_
      rintro e w2 ⟨⟨r1, rfl, ho1⟩, hb1⟩
      have c2 := rroot_any (.slice Pa na ca) xs w2 ((HE.out.get (by simp)).below hb1) (by have := HL.out; omega)
      have HO1 := Lib.hid ho1
      have HB1 := Lib.hid hb1
      clear c1 ho1 hb1
      go_wp2_with fail
      with_reducible refine c2.mono ?_
      rintro e w3 ⟨⟨r2, rfl, ho2⟩, hb2⟩
      have hb3 := HB1.out.trans (hb2.mono HB1.out.size)
      have c3 := is3_any (HO1.out.below hb2) (sRoot_limbs xs) hb3.size (ho2.arg (sRoot_limbs xs))
      rw [eqb_refl] at c3
      have HB3 := Lib.hid hb3
      clear c2 ho2 hb2 hb3
      go_wp2_with fail
      with_reducible refine c3.mono ?_
      rintro e w4 ⟨rfl, hb4⟩
      have HF := Lib.hid (HE.out.step (HB3.out.trans hb4))
      clear c3 hb4
      go_wp2_with fail
      go_roundw
      case rel => exact ⟨n + 1, by omega, by go_num, HF.out⟩
      case measure => simp [intOf]; omega
    · go_wp2_with fail
      refine (refsame3 E (va := x) (vb := .slice Pa na ca) (xs := xs) (by simp) (by simp)).mono ?_
      rintro e w2 ⟨rfl, E2⟩
      clear E
      go_wp2_with fail
      refine (awake3_env E2).mono ?_
      rintro e w3 ⟨rfl, E3⟩
      have HB := Lib.hid E3.1
      clear E2 E3
      go_wp2
      go_ret
      exact ⟨rfl, HB.out⟩

theorem droots_law {Pa : Option Addr} {na ca : Nat} {xs : List Nat} (w : World) (ha : Arg w (.slice Pa na ca) xs) (nz : NoRoom (.slice Pa na ca)) : Calls Try.prog 7 #[.slice Pa na ca] w fun e w' => e = .returned (.bool true) ∧ Below w.heap.size w w' := by
  rcases Nat.lt_or_ge 6 xs.length with h | h
  · exact droots_long w ha h
  · exact droots_few w ha nz h

end Go.Proofs.Ytidflhonhekmjaa

/- Contracts: Cmp. -/
import Derived.Test.YtlfhpoffphljfaaNatA
namespace Go.Proofs.Ytlfhpoffphljfaa
open Go.RowKit

theorem may_yes {A : Option Addr} (cap : Nat) {xs : List Nat} {w : World} {B : Nat} (hr : Rd w B A xs) (hle : xs.length ≤ maxLen) (h : mayb xs = true) :
    Calls Try.prog 23 #[.slice A xs.length cap] w fun e w' => e = .returned (.bool true) ∧ w' = w := by
  have := may_any A cap xs w B hr hle
  rwa [h] at this
theorem may_no {A : Option Addr} (cap : Nat) {xs : List Nat} {w : World} {B : Nat} (hr : Rd w B A xs) (hle : xs.length ≤ maxLen) (h : mayb xs = false) :
    Calls Try.prog 23 #[.slice A xs.length cap] w fun e w' => e = .returned (.bool false) ∧ w' = w := by
  have := may_any A cap xs w B hr hle
  rwa [h] at this

/-- the same limbs from place k on -/
def Upper (xs ys : List Nat) (k : Nat) : Prop := ∀ j, k ≤ j → j < xs.length → xs[j]?.getD 0 = ys[j]?.getD 0
theorem Upper.all {xs ys : List Nat} (h : Upper xs ys 0) (hl : xs.length = ys.length) : xs = ys := by
  have := drop_congr hl (k := 0) h
  simpa using this

set_option maxHeartbeats 1000000 in
theorem cmp_loop (A A' : Option Addr) (cap cap' : Nat) (xs ys : List Nat) (w : World) (B : Nat) (hr : Rd w B A xs) (hr' : Rd w B A' ys) (hc : xs.length ≤ maxLen) (hc' : ys.length ≤ maxLen)
    (hx : mayb xs = true) (hy : mayb ys = true) (hl : xs.length = ys.length) :
    Calls Try.prog 18 #[.slice A xs.length cap, .slice A' xs.length cap'] w fun e w' => e = .returned (.int .i64 (sCmp xs ys)) ∧ ∃ n, w' = w.drewN n := by
  have hs := Lib.hid (sCmp_yes (xs := xs) (ys := ys) (by simp [hx, hy]))
  have c1 := may_yes cap hr hc hx
  have c2 := may_yes cap' hr' hc' hy
  rw [← hl] at c2
  have HL := Lib.hid hl
  clear hl hx hy
  unfold maxLen at hc hc'
  go_enter Try.func18, Try.ntmps18
  go_wp2_with fail
  refine c1.mono ?_
  rintro e w' ⟨rfl, rfl⟩
  go_wp2_with fail
  refine c2.mono ?_
  rintro e w' ⟨rfl, rfl⟩
  clear c1 c2
  go_wp2_with fail
  go_loopw [5] (fun v wr => ∃ k : Nat, k ≤ xs.length ∧ v = .int .i64 ((k : Int) - 1) ∧ Upper xs ys k ∧ ∃ n, wr = w'.drewN n) (fun v _ => (intOf v + 1).toNat)
  case atStart => exact ⟨xs.length, Nat.le_refl _, rfl, fun j h1 h2 => by omega, 0, rfl⟩
  case round =>
    obtain ⟨k, hk, rfl, hu, nw, rfl⟩ := hrel
    rcases Nat.eq_zero_or_pos k with h0 | h0
    · subst h0
      go_wp2
      go_ret
      exact ⟨ret_int (by rw [hs.out, hu.all HL.out, cmpN_eq rfl]), nw, rfl⟩
    · obtain ⟨b, off, rfl, hlt, hcell⟩ := hr.2 (by omega)
      obtain ⟨b', off', rfl, hlt', hcell'⟩ := hr'.2 (by have := HL.out; omega)
      obtain ⟨m, rfl⟩ : ∃ m, k = m + 1 := ⟨k - 1, by omega⟩
      have q1 := hcell m (by omega)
      have q2 := hcell' m (by have := HL.out; omega)
      have l1 := hr.limbs.getD m
      have l2 := hr'.limbs.getD m
      clear hcell hcell'
      rw [show (((m + 1 : Nat) : Int) - 1) = (m : Int) from by omega]
      rcases Nat.lt_trichotomy (xs[m]?.getD 0) (ys[m]?.getD 0) with h | h | h
      · have hv := Lib.hid (val_lt_at hr.limbs HL.out (by omega) hu h)
        go_wp2
        go_quiet (fail)
        go_wp2
        go_ret
        exact ⟨ret_int (by rw [hs.out, cmpN_lt hv.out]), _, World.drewN_drewN _ _ _⟩
      · have hu' : Upper xs ys m := fun j h1 h2 => by
          rcases Nat.lt_or_ge m j with h3 | h3
          · exact hu j h3 h2
          · obtain rfl : j = m := by omega
            exact h
        have g1 : xs[m]?.getD 0 ≤ ys[m]?.getD 0 := by omega
        have g2 : ys[m]?.getD 0 ≤ xs[m]?.getD 0 := by omega
        clear h hu
        go_wp2
        go_quiet (fail)
        go_wp2
        go_quiet (fail)
        go_wp2
        go_roundw
        case rel => exact ⟨m, by omega, rfl, hu', _, rfl⟩
        case measure => simp [intOf]
      · have hv := Lib.hid (val_lt_at hr'.limbs HL.out.symm (k := m) (by have := HL.out; omega) (fun j h1 h2 => (hu j h1 (by rw [HL.out]; exact h2)).symm) h)
        go_wp2
        go_quiet (fail)
        go_wp2
        go_quiet (fail)
        go_wp2
        go_ret
        exact ⟨ret_int (by rw [hs.out, cmpN_gt hv.out]), _, (World.drewN_drewN _ _ _).trans (World.drewN_drewN _ _ _)⟩

set_option maxHeartbeats 1000000 in
theorem cmp_any (A A' : Option Addr) (cap cap' : Nat) (xs ys : List Nat) (w : World) (B : Nat) (hr : Rd w B A xs) (hr' : Rd w B A' ys) (hc : xs.length ≤ maxLen) (hc' : ys.length ≤ maxLen) :
    Calls Try.prog 18 #[.slice A xs.length cap, .slice A' ys.length cap'] w fun e w' => e = .returned (.int .i64 (sCmp xs ys)) ∧ ∃ n, w' = w.drewN n := by
  by_cases hx : mayb xs = true
  · by_cases hy : mayb ys = true
    · rcases Nat.lt_trichotomy xs.length ys.length with h | h | h
      · have hs := Lib.hid (sCmp_yes (xs := xs) (ys := ys) (by simp [hx, hy]))
        have hv := Lib.hid (cmpN_lt (val_lt_len hr.limbs (mayb_canon hr'.limbs hy) h))
        have c1 := may_yes cap hr hc hx
        have c2 := may_yes cap' hr' hc' hy
        clear hx hy
        go_enter Try.func18, Try.ntmps18
        go_wp2_with fail
        refine c1.mono ?_
        rintro e w' ⟨rfl, rfl⟩
        go_wp2_with fail
        refine c2.mono ?_
        rintro e w' ⟨rfl, rfl⟩
        clear c1 c2
        go_wp2
        go_ret
        exact ⟨ret_int (by rw [hs.out, hv.out]), 0, rfl⟩
      · have := cmp_loop A A' cap cap' xs ys w B hr hr' hc hc' hx hy h
        rwa [h] at this ⊢
      · have hs := Lib.hid (sCmp_yes (xs := xs) (ys := ys) (by simp [hx, hy]))
        have hv := Lib.hid (cmpN_gt (val_lt_len hr'.limbs (mayb_canon hr.limbs hx) h))
        have c1 := may_yes cap hr hc hx
        have c2 := may_yes cap' hr' hc' hy
        clear hx hy
        go_enter Try.func18, Try.ntmps18
        go_wp2_with fail
        refine c1.mono ?_
        rintro e w' ⟨rfl, rfl⟩
        go_wp2_with fail
        refine c2.mono ?_
        rintro e w' ⟨rfl, rfl⟩
        clear c1 c2
        go_wp2
        go_ret
        exact ⟨ret_int (by rw [hs.out, hv.out]), 0, rfl⟩
    · have hs := Lib.hid (sCmp_no (xs := xs) (ys := ys) (by simp [hy]))
      have c1 := may_yes cap hr hc hx
      have c2 := may_no cap' hr' hc' (by simpa using hy)
      clear hx hy
      go_enter Try.func18, Try.ntmps18
      go_wp2_with fail
      refine c1.mono ?_
      rintro e w' ⟨rfl, rfl⟩
      go_wp2_with fail
      refine c2.mono ?_
      rintro e w' ⟨rfl, rfl⟩
      clear c1 c2
      go_wp2
      go_ret
      exact ⟨ret_int hs.out.symm, 0, rfl⟩
  · have hs := Lib.hid (sCmp_no (xs := xs) (ys := ys) (by simp [hx]))
    have c1 := may_no cap hr hc (by simpa using hx)
    clear hx
    go_enter Try.func18, Try.ntmps18
    go_wp2_with fail
    refine c1.mono ?_
    rintro e w' ⟨rfl, rfl⟩
    clear c1
    go_wp2
    go_ret
    exact ⟨ret_int hs.out.symm, 0, rfl⟩

end Go.Proofs.Ytlfhpoffphljfaa

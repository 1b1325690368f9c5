/- Contracts of the document's own answers of layer 1: May, Cmp, at, cut, Of, Low. -/
import Derived.Test.YtdbmandbddechaaNatP
namespace Go.Proofs.Ytdbmandbddechaa
open Go.RowKit

set_option linter.unusedVariables false

set_option maxHeartbeats 400000 in
theorem rmay_any (A : Option Addr) (cap : Nat) (xs : List Nat) (w : World) (B : Nat) (hr : Rd w B A xs) (hle : xs.length ≤ maxLen) :
    Calls Try.prog 25 #[.slice A xs.length cap] w fun e w' => e = .returned (.bool (mayb xs)) ∧ w' = w := by
  unfold maxLen at hle
  rcases Nat.eq_zero_or_pos xs.length with h0 | h0
  · have : xs = [] := List.eq_nil_of_length_eq_zero h0
    subst this
    go_enter Try.func25, Try.ntmps25
    go_wp2
    go_ret
    exact ⟨by simp [mayb], rfl⟩
  · obtain ⟨b, off, rfl, hlt, hc⟩ := hr.2 h0
    have hcl := hc (xs.length - 1) (by omega)
    have hl := hr.limbs.getD (xs.length - 1)
    have hM := Lib.hid (mayb_pos h0)
    clear hc
    have hz0 : (((xs.length : Nat) : Int) == 0) = false := beq_eq_false_iff_ne.2 (by omega)
    by_cases h1 : xs.length ≤ 65536
    · go_enter Try.func25, Try.ntmps25
      go_wp2
      go_ret
      exact ⟨ret_bool (by rw [hM.out, Bool.eq_iff_iff]; simp [h1]; omega), rfl⟩
    · go_enter Try.func25, Try.ntmps25
      go_wp2
      go_ret
      exact ⟨ret_bool (by rw [hM.out]; simp [h1]), rfl⟩
theorem rmay_is {A : Option Addr} (cap : Nat) {xs : List Nat} {w : World} {B : Nat} (hr : Rd w B A xs) (hle : xs.length ≤ maxLen) {b : Bool} (h : mayb xs = b) :
    Calls Try.prog 25 #[.slice A xs.length cap] w fun e w' => e = .returned (.bool b) ∧ w' = w := by
  have := rmay_any A cap xs w B hr hle
  rwa [h] at this

set_option maxHeartbeats 1000000 in
theorem rcmp_loop (A A' : Option Addr) (cap cap' : Nat) (xs ys : List Nat) (w : World) (B : Nat) (hr : Rd w B A xs) (hr' : Rd w B A' ys) (hc : xs.length ≤ maxLen) (hc' : ys.length ≤ maxLen)
    (hx : mayb xs = true) (hy : mayb ys = true) (hl : xs.length = ys.length) (hp : 0 < xs.length) :
    Calls Try.prog 26 #[.slice A xs.length cap, .slice A' xs.length cap'] w fun e w' => e = .returned (.int .i64 (sCmp xs ys)) ∧ ∃ n, w' = w.drewN n := by
  have hs := Lib.hid (sCmp_yes (xs := xs) (ys := ys) (by simp [hx, hy]))
  have c1 := rmay_is cap hr hc hx
  have c2 := rmay_is cap' hr' hc' hy
  rw [← hl] at c2
  have HL := Lib.hid hl
  clear hl hx hy
  unfold maxLen at hc hc'
  have hz0 : (((xs.length : Nat) : Int) == 0) = false := beq_eq_false_iff_ne.2 (by omega)
  go_enter Try.func26, Try.ntmps26
  go_wp2_with fail
  refine c1.mono ?_
  rintro e w' ⟨rfl, rfl⟩
  go_wp2_with fail
  refine c2.mono ?_
  rintro e w' ⟨rfl, rfl⟩
  clear c1 c2
  go_wp2_with fail
  go_loopw [5] (fun v wr => ∃ k : Nat, k ≤ xs.length ∧ v = .int .i64 ((k : Int) - 1) ∧ Upper xs ys k ∧ ∃ n, wr = w'.drewN n) (fun v _ => (intOf v + 1).toNat)
  case atStart => exact ⟨xs.length, Nat.le_refl _, rfl, fun j h1 h2 => by omega, 0, rfl⟩
  case round =>
    obtain ⟨k, hk, rfl, hu, nw, rfl⟩ := hrel
    rcases Nat.eq_zero_or_pos k with h0 | h0
    · subst h0
      go_wp2
      go_ret
      exact ⟨ret_int (by rw [hs.out, hu.all HL.out, cmpN_eq rfl]), nw, rfl⟩
    · obtain ⟨b, off, rfl, hlt, hcell⟩ := hr.2 (by omega)
      obtain ⟨b', off', rfl, hlt', hcell'⟩ := hr'.2 (by have := HL.out; omega)
      obtain ⟨m, rfl⟩ : ∃ m, k = m + 1 := ⟨k - 1, by omega⟩
      have q1 := hcell m (by omega)
      have q2 := hcell' m (by have := HL.out; omega)
      have l1 := hr.limbs.getD m
      have l2 := hr'.limbs.getD m
      clear hcell hcell'
      rw [show (((m + 1 : Nat) : Int) - 1) = (m : Int) from by omega]
      rcases Nat.lt_trichotomy (xs[m]?.getD 0) (ys[m]?.getD 0) with h | h | h
      · have hv := Lib.hid (val_lt_at hr.limbs HL.out (by omega) hu h)
        go_wp2
        go_quiet (fail)
        go_wp2
        go_ret
        exact ⟨ret_int (by rw [hs.out, cmpN_lt hv.out]), _, World.drewN_drewN _ _ _⟩
      · have hu' : Upper xs ys m := fun j h1 h2 => by
          rcases Nat.lt_or_ge m j with h3 | h3
          · exact hu j h3 h2
          · obtain rfl : j = m := by omega
            exact h
        have g1 : xs[m]?.getD 0 ≤ ys[m]?.getD 0 := by omega
        have g2 : ys[m]?.getD 0 ≤ xs[m]?.getD 0 := by omega
        clear h hu
        go_wp2
        go_quiet (fail)
        go_wp2
        go_quiet (fail)
        go_wp2
        go_roundw
        case rel => exact ⟨m, by omega, rfl, hu', _, rfl⟩
        case measure => simp [intOf]
      · have hv := Lib.hid (val_lt_at hr'.limbs HL.out.symm (k := m) (by have := HL.out; omega) (fun j h1 h2 => (hu j h1 (by rw [HL.out]; exact h2)).symm) h)
        go_wp2
        go_quiet (fail)
        go_wp2
        go_quiet (fail)
        go_wp2
        go_ret
        exact ⟨ret_int (by rw [hs.out, cmpN_gt hv.out]), _, (World.drewN_drewN _ _ _).trans (World.drewN_drewN _ _ _)⟩

set_option maxHeartbeats 1000000 in
theorem rcmp_any (A A' : Option Addr) (cap cap' : Nat) (xs ys : List Nat) (w : World) (B : Nat) (hr : Rd w B A xs) (hr' : Rd w B A' ys) (hc : xs.length ≤ maxLen) (hc' : ys.length ≤ maxLen) :
    Calls Try.prog 26 #[.slice A xs.length cap, .slice A' ys.length cap'] w fun e w' => e = .returned (.int .i64 (sCmp xs ys)) ∧ ∃ n, w' = w.drewN n := by
  by_cases hx : mayb xs = true
  · by_cases hy : mayb ys = true
    · rcases Nat.lt_trichotomy xs.length ys.length with h | h | h
      · have hs := Lib.hid (sCmp_yes (xs := xs) (ys := ys) (by simp [hx, hy]))
        have hv := Lib.hid (cmpN_lt (val_lt_len hr.limbs (mayb_canon hr'.limbs hy) h))
        have c1 := rmay_is cap hr hc hx
        have c2 := rmay_is cap' hr' hc' hy
        clear hx hy
        have hz1 : (((ys.length : Nat) : Int) == 0) = false := beq_eq_false_iff_ne.2 (by omega)
        rcases hz0 : (((xs.length : Nat) : Int) == 0) with _ | _
        all_goals
          go_enter Try.func26, Try.ntmps26
          go_wp2_with fail
          refine c1.mono ?_
          rintro e w' ⟨rfl, rfl⟩
          go_wp2_with fail
          refine c2.mono ?_
          rintro e w' ⟨rfl, rfl⟩
          clear c1 c2
          go_wp2
          go_ret
          exact ⟨ret_int (by rw [hs.out, hv.out]), 0, rfl⟩
      · rcases Nat.eq_zero_or_pos xs.length with h0 | h0
        · have e1 : xs = [] := List.eq_nil_of_length_eq_zero h0
          have e2 : ys = [] := List.eq_nil_of_length_eq_zero (by omega)
          subst e1 e2
          have hs : Hid (sCmp [] [] = 0) := by show _ = _; rw [sCmp_yes (by simp [mayb_nil]), cmpN_eq rfl]
          have c1 := rmay_is cap hr hc hx
          have c2 := rmay_is cap' hr' hc' hy
          clear hx hy
          go_enter Try.func26, Try.ntmps26
          go_wp2_with fail
          refine c1.mono ?_
          rintro e w' ⟨rfl, rfl⟩
          go_wp2_with fail
          refine c2.mono ?_
          rintro e w' ⟨rfl, rfl⟩
          clear c1 c2
          go_wp2
          go_ret
          exact ⟨ret_int hs.out.symm, 0, rfl⟩
        · have := rcmp_loop A A' cap cap' xs ys w B hr hr' hc hc' hx hy h h0
          rwa [h] at this ⊢
      · have hs := Lib.hid (sCmp_yes (xs := xs) (ys := ys) (by simp [hx, hy]))
        have hv := Lib.hid (cmpN_gt (val_lt_len hr'.limbs (mayb_canon hr.limbs hx) h))
        have c1 := rmay_is cap hr hc hx
        have c2 := rmay_is cap' hr' hc' hy
        clear hx hy
        have hz1 : (((xs.length : Nat) : Int) == 0) = false := beq_eq_false_iff_ne.2 (by omega)
        go_enter Try.func26, Try.ntmps26
        go_wp2_with fail
        refine c1.mono ?_
        rintro e w' ⟨rfl, rfl⟩
        go_wp2_with fail
        refine c2.mono ?_
        rintro e w' ⟨rfl, rfl⟩
        clear c1 c2
        go_wp2
        go_ret
        exact ⟨ret_int (by rw [hs.out, hv.out]), 0, rfl⟩
    · have hs := Lib.hid (sCmp_no (xs := xs) (ys := ys) (by simp [hy]))
      have c1 := rmay_is cap hr hc hx
      have c2 := rmay_is cap' hr' hc' (b := false) (by simpa using hy)
      clear hx hy
      go_enter Try.func26, Try.ntmps26
      go_wp2_with fail
      refine c1.mono ?_
      rintro e w' ⟨rfl, rfl⟩
      go_wp2_with fail
      refine c2.mono ?_
      rintro e w' ⟨rfl, rfl⟩
      clear c1 c2
      go_wp2
      go_ret
      exact ⟨ret_int hs.out.symm, 0, rfl⟩
  · have hs := Lib.hid (sCmp_no (xs := xs) (ys := ys) (by simp [hx]))
    have c1 := rmay_is cap hr hc (b := false) (by simpa using hx)
    clear hx
    go_enter Try.func26, Try.ntmps26
    go_wp2_with fail
    refine c1.mono ?_
    rintro e w' ⟨rfl, rfl⟩
    clear c1
    go_wp2
    go_ret
    exact ⟨ret_int hs.out.symm, 0, rfl⟩

/-! ### at, cut, Of -/
set_option maxHeartbeats 400000 in
theorem at_any (A : Option Addr) (cap : Nat) (xs : List Nat) (k : Nat) (w : World) (B : Nat) (hr : Rd w B A xs) (hle : xs.length ≤ maxLen) :
    Calls Try.prog 39 #[.slice A xs.length cap, .int .i64 (k : Int)] w fun e w' => e = .returned (.int .u64 ((xs[k]?.getD 0 : Nat) : Int)) ∧ w' = w := by
  unfold maxLen at hle
  by_cases h : k < xs.length
  · obtain ⟨b, off, rfl, hlt, hc⟩ := hr.2 (by omega)
    have hcl := hc k h
    have hl := hr.limbs.getD k
    have hlk : xs[k] < 4294967296 := hr.limbs _ (List.getElem_mem h)
    clear hc
    have k0 : (0 : Int) ≤ k := by omega
    go_enter Try.func39, Try.ntmps39
    go_wp2
    go_ret
    exact ⟨by simp [List.getElem?_eq_getElem h], rfl⟩
  · have hz : Hid (xs[k]?.getD 0 = 0) := by show _ = _; rw [List.getElem?_eq_none (by omega)]; rfl
    go_enter Try.func39, Try.ntmps39
    go_wp2
    go_ret
    exact ⟨by rw [hz.out]; rfl, rfl⟩

set_option maxHeartbeats 400000 in
theorem cut_any (A : Option Addr) (cap : Nat) (xs : List Nat) (w : World) (B : Nat) (hr : Rd w B A xs) (hc : xs.length ≤ cap) (hle : cap ≤ maxLen) :
    Calls Try.prog 40 #[.slice A xs.length cap] w fun e w' => e = .returned (tidied A cap xs) ∧ w' = w := by
  unfold maxLen at hle
  go_enter Try.func40, Try.ntmps40
  go_wp2
  go_loop [3] (fun v => ∃ k : Nat, k ≤ xs.length ∧ v = .int .i64 (k : Int) ∧ Hid (∀ j, k ≤ j → j < xs.length → xs[j]?.getD 0 = 0)) (fun v => (intOf v).toNat)
  case atStart => exact ⟨xs.length, Nat.le_refl _, rfl, fun j h1 h2 => by omega⟩
  case round =>
    obtain ⟨k, hk, rfl, hz⟩ := hrel
    rcases Nat.eq_zero_or_pos k with h0 | h0
    · subst h0
      go_wp2
      go_ret
      exact ⟨ret_val (tidied_nil (.inl (by rw [trim_spec hr.limbs hk hz.out (.inl rfl)]; rfl))), rfl⟩
    · obtain ⟨b, off, rfl, hlt, hcell⟩ := hr.2 (by omega)
      have hcl := hcell (k - 1) (by omega)
      have hl := hr.limbs.getD (k - 1)
      have hk0 : (((k : Nat) : Int) == 0) = false := beq_eq_false_iff_ne.2 (by omega)
      have hk1 : decide ((0 : Int) < (k : Int)) = true := decide_eq_true (by omega)
      clear hcell
      by_cases hx : xs[k - 1]?.getD 0 = 0
      · have hx' : (((xs[k - 1]?.getD 0 : Nat) : Int) == 0) = true := by simp [hx]
        have hX := Lib.hid hx
        clear hx
        go_wp2
        go_round
        case rel => exact ⟨k - 1, by omega, by congr 1; omega, fun j h1 h2 => by rcases Nat.lt_or_ge j k with h3 | h3; (obtain rfl : j = k - 1 := by omega); exact hX.out; exact hz.out j h3 h2⟩
        case measure => simp [intOf]; omega
      · have hx' : (((xs[k - 1]?.getD 0 : Nat) : Int) == 0) = false := by simp; omega
        have hL : Hid ((lim (val xs)).length = k) := by rw [trim_spec hr.limbs hk hz.out (.inr hx), List.length_take]; show min k _ = k; omega
        by_cases hM : k ≤ 65536
        · go_wp2
          go_ret
          exact ⟨ret_val (tidied_cut hL.out h0 hM), rfl⟩
        · go_wp2
          go_ret
          exact ⟨ret_val (tidied_nil (.inr (by rw [hL.out]; omega))), rfl⟩
/-- cut of a slice of the call's own. -/
theorem cut_own {w : World} {base : Nat} {A : Option Addr} {n cap : Nat} {zs : List Nat} (h : w.ownsRow base 28 1 (.slice A n cap) n (u32s zs)) (hl : Limbs zs) :
    Calls Try.prog 40 #[.slice A n cap] w fun e w' => (∃ v, e = .returned v ∧ Own w base v (clip (val zs))) ∧ w' = w := by
  have hn : zs.length = n := by have := h.1; simp [u32s] at this; omega
  subst hn
  have ho : Own w base (.slice A zs.length cap) zs := h
  obtain ⟨A', cap', hv, h1, h2, hr⟩ := ho.rd hl
  injection hv with e1 e2 e3
  subst e1 e3
  exact (cut_any _ _ _ _ _ hr h1 h2).mono fun e w' ⟨he, hw⟩ => ⟨⟨_, he, tidied_own ho hl⟩, hw⟩

set_option maxHeartbeats 1000000 in
theorem rof_any (u : Nat) (w : World) (hu : u < 18446744073709551616) :
    Calls Try.prog 30 #[.int .u64 (u : Int)] w fun e w' => (∃ v, e = .returned v ∧ Own w' w.heap.size v (lim u)) ∧ Below w.heap.size w w' := by
  have hl : Limbs [u % 4294967296, u / 4294967296] := (Limbs.one (by omega)).cons (Nat.mod_lt _ (by decide))
  have ho : Own (w.alloc (.cells #[.int .u32 ((u : Int) % 4294967296), .int .u32 ((u : Int) / 4294967296)] 28)) w.heap.size (.slice (some ⟨w.heap.size, 0, none⟩) 2 2) [u % 4294967296, u / 4294967296] :=
    World.ownsRow_lit w _ 2 (Nat.le_refl _) (by decide) rfl
  obtain ⟨A, cap, hv, h1, h2, hr⟩ := ho.rd hl
  injection hv with e1 e2 e3
  subst e1 e3
  have c1 := cut_any _ _ _ _ _ hr h1 h2
  have ht := tidied_own ho hl
  rw [lim_two hu] at ht
  have HT := Lib.hid ht
  clear h1 h2 e2 hr ht ho
  go_enter Try.func30, Try.ntmps30
  go_wp2_with fail
  refine c1.mono ?_
  rintro e w' ⟨rfl, rfl⟩
  clear c1
  go_wp2
  go_ret
  exact ⟨⟨_, rfl, HT.out⟩, (Below.refl _ w).alloc (Nat.le_refl _) _⟩

end Go.Proofs.Ytdbmandbddechaa

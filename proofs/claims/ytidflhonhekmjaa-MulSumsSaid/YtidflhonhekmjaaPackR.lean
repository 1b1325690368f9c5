/- Several texts in one. -/
import Derived.Test.YtidflhonhekmjaaPackN
import Derived.Laws.AppendOwnNone
import Derived.Deep.MidRow

/- NatSums: the law's walk. -/
namespace Go.Proofs.Ytidflhonhekmjaa
open Go.RowKit

theorem sum_fits {n m k : Nat} (h1 : n < 4294967296 ^ k) (h2 : m < 4294967296 ^ k) : (lim (n + m)).length ≤ k + 1 := by
  rw [lim_length_le, Nat.pow_succ]
  omega
theorem val_pow {xs : List Nat} (h : Limbs xs) {k : Nat} (hl : xs.length ≤ k) : val xs < 4294967296 ^ k := Nat.lt_of_lt_of_le (val_lt h) (Nat.pow_le_pow_right (by decide) hl)
theorem sum_fits2 {xs ys : List Nat} (hx : Limbs xs) (hy : Limbs ys) {k : Nat} (h1 : xs.length ≤ k) (h2 : ys.length ≤ k) : (lim (val xs + val ys)).length ≤ k + 1 := sum_fits (val_pow hx h1) (val_pow hy h2)

end Go.Proofs.Ytidflhonhekmjaa

/- NatShifts: the law's walk. -/
namespace Go.Proofs.Ytidflhonhekmjaa
open Go.RowKit

set_option linter.unusedVariables false

theorem shl_fits {xs : List Nat} (hx : Limbs xs) {k : Nat} (hl : xs.length ≤ 2000) (hk : k ≤ 10000) : (lim (val xs * 2 ^ k)).length ≤ 65536 := by
  rw [lim_len_blen]
  by_cases h0 : val xs = 0
  · rw [h0, Nat.zero_mul]; exact Nat.zero_le _
  · have h2 := blen_shift (n := val xs) (r := 0) (k := k) h0 (Nat.two_pow_pos k)
    rw [Nat.add_zero] at h2
    rw [h2]
    have h3 : blen (val xs) ≤ 32 * xs.length := blen_le.2 (by rw [Nat.pow_mul]; exact val_lt hx)
    omega
theorem le_fits {xs : List Nat} (hx : Limbs xs) (hm : mayb xs = true) {n : Nat} (h : n ≤ val xs) : (lim n).length ≤ 65536 :=
  Nat.le_trans (lim_length_le.2 (Nat.lt_of_le_of_lt h (val_lt hx))) (mayb_iff.1 hm).1

end Go.Proofs.Ytidflhonhekmjaa

/- NatWhole: the law's walk. -/
namespace Go.Proofs.Ytidflhonhekmjaa
open Go.RowKit

set_option linter.unusedVariables false


/-- the sum of 2^j over the bits below k -/
def part (xs : List Nat) (k : Nat) : List Nat := lim (val xs % 2 ^ k)
theorem pow_fits {k : Nat} (h : k ≤ 2000) : (lim (2 ^ k)).length ≤ 65536 := by
  rw [lim_len_blen]
  have : blen (2 ^ k) ≤ k + 1 := blen_le.2 (Nat.pow_lt_pow_right (by decide) (by omega))
  omega
theorem shl_one {k : Nat} (h : k ≤ 2000) : sShl [1] (k : Int) = lim (2 ^ k) := by
  rw [sShl_yes (by decide), show val [1] = 1 from rfl, Nat.one_mul, clip_of (pow_fits h)]
theorem part_next {xs : List Nat} (hx : Limbs xs) (hm : mayb xs = true) {k : Nat} (hk : k ≤ 2000) (hb : (val xs).testBit k = true) : sAdd (part xs k) (lim (2 ^ k)) = part xs (k + 1) := by
  have e : val xs % 2 ^ (k + 1) = val xs % 2 ^ k + 2 ^ k := by
    rw [Nat.testBit_eq_decide_div_mod_eq] at hb
    have hb' : val xs / 2 ^ k % 2 = 1 := by simpa using hb
    rw [Nat.pow_succ, Nat.mod_mul, hb', Nat.mul_one]
  have h1 := mayb_lim (le_fits hx hm (Nat.mod_le (val xs) (2 ^ k)))
  have h2 := mayb_lim (le_fits hx hm (Nat.mod_le (val xs) (2 ^ (k + 1))))
  unfold part
  exact sAdd_eq h1 (mayb_lim (pow_fits hk)) h2 (lim_limbs _) (by rw [val_lim, val_lim, val_lim, e])
theorem part_same {xs : List Nat} {k : Nat} (hb : (val xs).testBit k = false) : part xs (k + 1) = part xs k := by
  have e : val xs % 2 ^ (k + 1) = val xs % 2 ^ k := by
    rw [Nat.testBit_eq_decide_div_mod_eq] at hb
    have hb' : val xs / 2 ^ k % 2 = 0 := by
      have : ¬ val xs / 2 ^ k % 2 = 1 := by simpa using hb
      omega
    rw [Nat.pow_succ, Nat.mod_mul, hb']; omega
  unfold part
  rw [e]
theorem part_all {xs : List Nat} (hx : Limbs xs) (hm : mayb xs = true) : part xs (sBits xs) = xs := by
  unfold part
  rw [sBits_yes hm, Nat.mod_eq_of_lt (blen_le.1 (Nat.le_refl _)), lim_val (mayb_canon hx hm)]
theorem part_zero (xs : List Nat) : part xs 0 = [] := by
  unfold part
  rw [Nat.pow_zero, Nat.mod_one, lim_zero]
theorem sBit_nat (xs : List Nat) (k : Nat) (hm : mayb xs = true) : sBit xs (k : Int) = (val xs).testBit k := by
  unfold sBit
  rw [hm, decide_eq_true (by omega)]
  simp

end Go.Proofs.Ytidflhonhekmjaa

/- Contracts of the document's own answers of layer 1: May, Cmp, at, cut, Of, Low. -/
namespace Go.Proofs.Ytidflhonhekmjaa
open Go.RowKit

set_option linter.unusedVariables false

set_option maxHeartbeats 400000 in
theorem rmay_any (A : Option Addr) (cap : Nat) (xs : List Nat) (w : World) (B : Nat) (hr : Rd w B A xs) (hle : xs.length ≤ maxLen) :
    Calls Try.prog 57 #[.slice A xs.length cap] w fun e w' => e = .returned (.bool (mayb xs)) ∧ w' = w := by
  unfold maxLen at hle
  rcases Nat.eq_zero_or_pos xs.length with h0 | h0
  · have : xs = [] := List.eq_nil_of_length_eq_zero h0
    subst this
    go_enter Try.func57, Try.ntmps57
    go_wp2
    go_ret
    exact ⟨by simp [mayb], rfl⟩
  · obtain ⟨b, off, rfl, hlt, hc⟩ := hr.2 h0
    have hcl := hc (xs.length - 1) (by omega)
    have hl := hr.limbs.getD (xs.length - 1)
    have hM := Lib.hid (mayb_pos h0)
    clear hc
    have hz0 : (((xs.length : Nat) : Int) == 0) = false := beq_eq_false_iff_ne.2 (by omega)
    by_cases h1 : xs.length ≤ 65536
    · go_enter Try.func57, Try.ntmps57
      go_wp2
      go_ret
      exact ⟨ret_bool (by rw [hM.out, Bool.eq_iff_iff]; simp [h1]; omega), rfl⟩
    · go_enter Try.func57, Try.ntmps57
      go_wp2
      go_ret
      exact ⟨ret_bool (by rw [hM.out]; simp [h1]), rfl⟩
theorem rmay_is {A : Option Addr} (cap : Nat) {xs : List Nat} {w : World} {B : Nat} (hr : Rd w B A xs) (hle : xs.length ≤ maxLen) {b : Bool} (h : mayb xs = b) :
    Calls Try.prog 57 #[.slice A xs.length cap] w fun e w' => e = .returned (.bool b) ∧ w' = w := by
  have := rmay_any A cap xs w B hr hle
  rwa [h] at this

set_option maxHeartbeats 1000000 in
theorem rcmp_loop (A A' : Option Addr) (cap cap' : Nat) (xs ys : List Nat) (w : World) (B : Nat) (hr : Rd w B A xs) (hr' : Rd w B A' ys) (hc : xs.length ≤ maxLen) (hc' : ys.length ≤ maxLen)
    (hx : mayb xs = true) (hy : mayb ys = true) (hl : xs.length = ys.length) (hp : 0 < xs.length) :
    Calls Try.prog 69 #[.slice A xs.length cap, .slice A' xs.length cap'] w fun e w' => e = .returned (.int .i64 (sCmp xs ys)) ∧ ∃ n, w' = w.drewN n := by
  have hs := Lib.hid (sCmp_yes (xs := xs) (ys := ys) (by simp [hx, hy]))
  have c1 := rmay_is cap hr hc hx
  have c2 := rmay_is cap' hr' hc' hy
  rw [← hl] at c2
  have HL := Lib.hid hl
  clear hl hx hy
  unfold maxLen at hc hc'
  have hz0 : (((xs.length : Nat) : Int) == 0) = false := beq_eq_false_iff_ne.2 (by omega)
  go_enter Try.func69, Try.ntmps69
  go_wp2_with fail
  refine c1.mono ?_
  rintro e w' ⟨rfl, rfl⟩
  go_wp2_with fail
  refine c2.mono ?_
  rintro e w' ⟨rfl, rfl⟩
  clear c1 c2
  go_wp2_with fail
  go_loopw [5] (fun v wr => ∃ k : Nat, k ≤ xs.length ∧ v = .int .i64 ((k : Int) - 1) ∧ Upper xs ys k ∧ ∃ n, wr = w'.drewN n) (fun v _ => (intOf v + 1).toNat)
  case atStart => exact ⟨xs.length, Nat.le_refl _, rfl, fun j h1 h2 => by omega, 0, rfl⟩
  case round =>
    obtain ⟨k, hk, rfl, hu, nw, rfl⟩ := hrel
    rcases Nat.eq_zero_or_pos k with h0 | h0
    · subst h0
      go_wp2
      go_ret
      exact ⟨ret_int (by rw [hs.out, hu.all HL.out, cmpN_eq rfl]), nw, rfl⟩
    · obtain ⟨b, off, rfl, hlt, hcell⟩ := hr.2 (by omega)
      obtain ⟨b', off', rfl, hlt', hcell'⟩ := hr'.2 (by have := HL.out; omega)
      obtain ⟨m, rfl⟩ : ∃ m, k = m + 1 := ⟨k - 1, by omega⟩
      have q1 := hcell m (by omega)
      have q2 := hcell' m (by have := HL.out; omega)
      have l1 := hr.limbs.getD m
      have l2 := hr'.limbs.getD m
      clear hcell hcell'
      rw [show (((m + 1 : Nat) : Int) - 1) = (m : Int) from by omega]
      rcases Nat.lt_trichotomy (xs[m]?.getD 0) (ys[m]?.getD 0) with h | h | h
      · have hv := Lib.hid (val_lt_at hr.limbs HL.out (by omega) hu h)
        go_wp2
        go_quiet (fail)
        go_wp2
        go_ret
        exact ⟨ret_int (by rw [hs.out, cmpN_lt hv.out]), _, World.drewN_drewN _ _ _⟩
      · have hu' : Upper xs ys m := fun j h1 h2 => by
          rcases Nat.lt_or_ge m j with h3 | h3
          · exact hu j h3 h2
          · obtain rfl : j = m := by omega
            exact h
        have g1 : xs[m]?.getD 0 ≤ ys[m]?.getD 0 := by omega
        have g2 : ys[m]?.getD 0 ≤ xs[m]?.getD 0 := by omega
        clear h hu
        go_wp2
        go_quiet (fail)
        go_wp2
        go_quiet (fail)
        go_wp2
        go_roundw
        case rel => exact ⟨m, by omega, rfl, hu', _, rfl⟩
        case measure => simp [intOf]
      · have hv := Lib.hid (val_lt_at hr'.limbs HL.out.symm (k := m) (by have := HL.out; omega) (fun j h1 h2 => (hu j h1 (by rw [HL.out]; exact h2)).symm) h)
        go_wp2
        go_quiet (fail)
        go_wp2
        go_quiet (fail)
        go_wp2
        go_ret
        exact ⟨ret_int (by rw [hs.out, cmpN_gt hv.out]), _, (World.drewN_drewN _ _ _).trans (World.drewN_drewN _ _ _)⟩

set_option maxHeartbeats 1000000 in
theorem rcmp_any (A A' : Option Addr) (cap cap' : Nat) (xs ys : List Nat) (w : World) (B : Nat) (hr : Rd w B A xs) (hr' : Rd w B A' ys) (hc : xs.length ≤ maxLen) (hc' : ys.length ≤ maxLen) :
    Calls Try.prog 69 #[.slice A xs.length cap, .slice A' ys.length cap'] w fun e w' => e = .returned (.int .i64 (sCmp xs ys)) ∧ ∃ n, w' = w.drewN n := by
  by_cases hx : mayb xs = true
  · by_cases hy : mayb ys = true
    · rcases Nat.lt_trichotomy xs.length ys.length with h | h | h
      · have hs := Lib.hid (sCmp_yes (xs := xs) (ys := ys) (by simp [hx, hy]))
        have hv := Lib.hid (cmpN_lt (val_lt_len hr.limbs (mayb_canon hr'.limbs hy) h))
        have c1 := rmay_is cap hr hc hx
        have c2 := rmay_is cap' hr' hc' hy
        clear hx hy
        have hz1 : (((ys.length : Nat) : Int) == 0) = false := beq_eq_false_iff_ne.2 (by omega)
        rcases hz0 : (((xs.length : Nat) : Int) == 0) with _ | _
        all_goals
          go_enter Try.func69, Try.ntmps69
          go_wp2_with fail
          refine c1.mono ?_
          rintro e w' ⟨rfl, rfl⟩
          go_wp2_with fail
          refine c2.mono ?_
          rintro e w' ⟨rfl, rfl⟩
          clear c1 c2
          go_wp2
          go_ret
          exact ⟨ret_int (by rw [hs.out, hv.out]), 0, rfl⟩
      · rcases Nat.eq_zero_or_pos xs.length with h0 | h0
        · have e1 : xs = [] := List.eq_nil_of_length_eq_zero h0
          have e2 : ys = [] := List.eq_nil_of_length_eq_zero (by omega)
          subst e1 e2
          have hs : Hid (sCmp [] [] = 0) := by show _ = _; rw [sCmp_yes (by simp [mayb_nil]), cmpN_eq rfl]
          have c1 := rmay_is cap hr hc hx
          have c2 := rmay_is cap' hr' hc' hy
          clear hx hy
          go_enter Try.func69, Try.ntmps69
          go_wp2_with fail
          refine c1.mono ?_
          rintro e w' ⟨rfl, rfl⟩
          go_wp2_with fail
          refine c2.mono ?_
          rintro e w' ⟨rfl, rfl⟩
          clear c1 c2
          go_wp2
          go_ret
          exact ⟨ret_int hs.out.symm, 0, rfl⟩
        · have := rcmp_loop A A' cap cap' xs ys w B hr hr' hc hc' hx hy h h0
          rwa [h] at this ⊢
      · have hs := Lib.hid (sCmp_yes (xs := xs) (ys := ys) (by simp [hx, hy]))
        have hv := Lib.hid (cmpN_gt (val_lt_len hr'.limbs (mayb_canon hr.limbs hx) h))
        have c1 := rmay_is cap hr hc hx
        have c2 := rmay_is cap' hr' hc' hy
        clear hx hy
        have hz1 : (((xs.length : Nat) : Int) == 0) = false := beq_eq_false_iff_ne.2 (by omega)
        go_enter Try.func69, Try.ntmps69
        go_wp2_with fail
        refine c1.mono ?_
        rintro e w' ⟨rfl, rfl⟩
        go_wp2_with fail
        refine c2.mono ?_
        rintro e w' ⟨rfl, rfl⟩
        clear c1 c2
        go_wp2
        go_ret
        exact ⟨ret_int (by rw [hs.out, hv.out]), 0, rfl⟩
    · have hs := Lib.hid (sCmp_no (xs := xs) (ys := ys) (by simp [hy]))
      have c1 := rmay_is cap hr hc hx
      have c2 := rmay_is cap' hr' hc' (b := false) (by simpa using hy)
      clear hx hy
      go_enter Try.func69, Try.ntmps69
      go_wp2_with fail
      refine c1.mono ?_
      rintro e w' ⟨rfl, rfl⟩
      go_wp2_with fail
      refine c2.mono ?_
      rintro e w' ⟨rfl, rfl⟩
      clear c1 c2
      go_wp2
      go_ret
      exact ⟨ret_int hs.out.symm, 0, rfl⟩
  · have hs := Lib.hid (sCmp_no (xs := xs) (ys := ys) (by simp [hx]))
    have c1 := rmay_is cap hr hc (b := false) (by simpa using hx)
    clear hx
    go_enter Try.func69, Try.ntmps69
    go_wp2_with fail
    refine c1.mono ?_
    rintro e w' ⟨rfl, rfl⟩
    clear c1
    go_wp2
    go_ret
    exact ⟨ret_int hs.out.symm, 0, rfl⟩

/-! ### at, cut, Of -/
set_option maxHeartbeats 400000 in
theorem at_any (A : Option Addr) (cap : Nat) (xs : List Nat) (k : Nat) (w : World) (B : Nat) (hr : Rd w B A xs) (hle : xs.length ≤ maxLen) :
    Calls Try.prog 80 #[.slice A xs.length cap, .int .i64 (k : Int)] w fun e w' => e = .returned (.int .u64 ((xs[k]?.getD 0 : Nat) : Int)) ∧ w' = w := by
  unfold maxLen at hle
  by_cases h : k < xs.length
  · obtain ⟨b, off, rfl, hlt, hc⟩ := hr.2 (by omega)
    have hcl := hc k h
    have hl := hr.limbs.getD k
    have hlk : xs[k] < 4294967296 := hr.limbs _ (List.getElem_mem h)
    clear hc
    have k0 : (0 : Int) ≤ k := by omega
    go_enter Try.func80, Try.ntmps80
    go_wp2
    go_ret
    exact ⟨by simp [List.getElem?_eq_getElem h], rfl⟩
  · have hz : Hid (xs[k]?.getD 0 = 0) := by show _ = _; rw [List.getElem?_eq_none (by omega)]; rfl
    go_enter Try.func80, Try.ntmps80
    go_wp2
    go_ret
    exact ⟨by rw [hz.out]; rfl, rfl⟩

set_option maxHeartbeats 400000 in
theorem cut_any (A : Option Addr) (cap : Nat) (xs : List Nat) (w : World) (B : Nat) (hr : Rd w B A xs) (hc : xs.length ≤ cap) (hle : cap ≤ maxLen) :
    Calls Try.prog 81 #[.slice A xs.length cap] w fun e w' => e = .returned (tidied A cap xs) ∧ w' = w := by
  unfold maxLen at hle
  go_enter Try.func81, Try.ntmps81
  go_wp2
  go_loop [3] (fun v => ∃ k : Nat, k ≤ xs.length ∧ v = .int .i64 (k : Int) ∧ Hid (∀ j, k ≤ j → j < xs.length → xs[j]?.getD 0 = 0)) (fun v => (intOf v).toNat)
  case atStart => exact ⟨xs.length, Nat.le_refl _, rfl, fun j h1 h2 => by omega⟩
  case round =>
    obtain ⟨k, hk, rfl, hz⟩ := hrel
    rcases Nat.eq_zero_or_pos k with h0 | h0
    · subst h0
      go_wp2
      go_ret
      exact ⟨ret_val (tidied_nil (.inl (by rw [trim_spec hr.limbs hk hz.out (.inl rfl)]; rfl))), rfl⟩
    · obtain ⟨b, off, rfl, hlt, hcell⟩ := hr.2 (by omega)
      have hcl := hcell (k - 1) (by omega)
      have hl := hr.limbs.getD (k - 1)
      have hk0 : (((k : Nat) : Int) == 0) = false := beq_eq_false_iff_ne.2 (by omega)
      have hk1 : decide ((0 : Int) < (k : Int)) = true := decide_eq_true (by omega)
      clear hcell
      by_cases hx : xs[k - 1]?.getD 0 = 0
      · have hx' : (((xs[k - 1]?.getD 0 : Nat) : Int) == 0) = true := by simp [hx]
        have hX := Lib.hid hx
        clear hx
        go_wp2
        go_round
        case rel => exact ⟨k - 1, by omega, by congr 1; omega, fun j h1 h2 => by rcases Nat.lt_or_ge j k with h3 | h3; (obtain rfl : j = k - 1 := by omega); exact hX.out; exact hz.out j h3 h2⟩
        case measure => simp [intOf]; omega
      · have hx' : (((xs[k - 1]?.getD 0 : Nat) : Int) == 0) = false := by simp; omega
        have hL : Hid ((lim (val xs)).length = k) := by rw [trim_spec hr.limbs hk hz.out (.inr hx), List.length_take]; show min k _ = k; omega
        by_cases hM : k ≤ 65536
        · go_wp2
          go_ret
          exact ⟨ret_val (tidied_cut hL.out h0 hM), rfl⟩
        · go_wp2
          go_ret
          exact ⟨ret_val (tidied_nil (.inr (by rw [hL.out]; omega))), rfl⟩
/-- cut of a slice of the call's own. -/
theorem cut_own {w : World} {base : Nat} {A : Option Addr} {n cap : Nat} {zs : List Nat} (h : w.ownsRow base 26 1 (.slice A n cap) n (u32s zs)) (hl : Limbs zs) :
    Calls Try.prog 81 #[.slice A n cap] w fun e w' => (∃ v, e = .returned v ∧ Own w base v (clip (val zs))) ∧ w' = w := by
  have hn : zs.length = n := by have := h.1; simp [u32s] at this; omega
  subst hn
  have ho : Own w base (.slice A zs.length cap) zs := h
  obtain ⟨A', cap', hv, h1, h2, hr⟩ := ho.rd hl
  injection hv with e1 e2 e3
  subst e1 e3
  exact (cut_any _ _ _ _ _ hr h1 h2).mono fun e w' ⟨he, hw⟩ => ⟨⟨_, he, tidied_own ho hl⟩, hw⟩

set_option maxHeartbeats 1000000 in
theorem rof_any (u : Nat) (w : World) (hu : u < 18446744073709551616) :
    Calls Try.prog 65 #[.int .u64 (u : Int)] w fun e w' => (∃ v, e = .returned v ∧ Own w' w.heap.size v (lim u)) ∧ Below w.heap.size w w' := by
  have hl : Limbs [u % 4294967296, u / 4294967296] := (Limbs.one (by omega)).cons (Nat.mod_lt _ (by decide))
  have ho : Own (w.alloc (.cells #[.int .u32 ((u : Int) % 4294967296), .int .u32 ((u : Int) / 4294967296)] 26)) w.heap.size (.slice (some ⟨w.heap.size, 0, none⟩) 2 2) [u % 4294967296, u / 4294967296] :=
    World.ownsRow_lit w _ 2 (Nat.le_refl _) (by decide) rfl
  obtain ⟨A, cap, hv, h1, h2, hr⟩ := ho.rd hl
  injection hv with e1 e2 e3
  subst e1 e3
  have c1 := cut_any _ _ _ _ _ hr h1 h2
  have ht := tidied_own ho hl
  rw [lim_two hu] at ht
  have HT := Lib.hid ht
  clear h1 h2 e2 hr ht ho
  go_enter Try.func65, Try.ntmps65
  go_wp2_with fail
  refine c1.mono ?_
  rintro e w' ⟨rfl, rfl⟩
  clear c1
  go_wp2
  go_ret
  exact ⟨⟨_, rfl, HT.out⟩, (Below.refl _ w).alloc (Nat.le_refl _) _⟩

end Go.Proofs.Ytidflhonhekmjaa

/- Contracts of the document's own answers of layer 1: Add, Sub, Low. -/
namespace Go.Proofs.Ytidflhonhekmjaa
open Go.RowKit

set_option linter.unusedVariables false

/-- after k rounds of a sum -/
def AddOk (xs ys : List Nat) (k c : Nat) (O : List Nat) : Prop := Limbs O ∧ O.length = k ∧ c ≤ 1 ∧ val O + 4294967296 ^ k * c = val (xs.take k) + val (ys.take k)
theorem addOk_zero (xs ys : List Nat) : AddOk xs ys 0 0 [] := ⟨limbs_nil, rfl, by decide, by simp [val]⟩
theorem addOk_next {xs ys O : List Nat} {k c x y : Nat} (h : AddOk xs ys k c O) (hx : xs[k]?.getD 0 = x) (hy : ys[k]?.getD 0 = y) (hxl : x < 4294967296) (hyl : y < 4294967296) : AddOk xs ys (k + 1) ((x + y + c) / 4294967296) (O ++ [(x + y + c) % 4294967296]) := by
  obtain ⟨h1, h2, h3, h4⟩ := h
  refine ⟨h1.append (Limbs.one (Nat.mod_lt _ (by decide))), by simp [h2], by omega, ?_⟩
  rw [val_snoc, h2, val_take_succ, val_take_succ, hx, hy]
  have hd := Nat.mod_add_div (x + y + c) 4294967296
  generalize hs : x + y + c = s at hd ⊢
  rw [Nat.pow_succ, Nat.mul_assoc, Nat.add_assoc, ← Nat.mul_add, hd, ← hs, Nat.mul_add, Nat.mul_add]
  omega
theorem addOk_all {xs ys O : List Nat} {M c : Nat} (hx : Limbs xs) (hy : Limbs ys) (h : AddOk xs ys (M + 1) c O) (h1 : xs.length ≤ M) (h2 : ys.length ≤ M) : val O = val xs + val ys := by
  obtain ⟨_, _, h3, h4⟩ := h
  rw [List.take_of_length_le (Nat.le_succ_of_le h1), List.take_of_length_le (Nat.le_succ_of_le h2)] at h4
  have a := val_pow hx h1
  have b := val_pow hy h2
  rw [Nat.pow_succ] at h4
  generalize 4294967296 ^ M = p at *
  have hc : c = 0 ∨ c = 1 := by omega
  rcases hc with rfl | rfl
  · rw [Nat.mul_zero] at h4; exact h4
  · rw [Nat.mul_one] at h4; omega

/-- after k rounds of a difference -/
def SubOk (xs ys : List Nat) (k c : Nat) (O : List Nat) : Prop := Limbs O ∧ O.length = k ∧ c ≤ 1 ∧ val O + val (ys.take k) = val (xs.take k) + 4294967296 ^ k * c
theorem subOk_zero (xs ys : List Nat) : SubOk xs ys 0 0 [] := ⟨limbs_nil, rfl, by decide, by simp [val]⟩
theorem subOk_next {xs ys O : List Nat} {k c x y : Nat} (h : SubOk xs ys k c O) (hx : xs[k]?.getD 0 = x) (hy : ys[k]?.getD 0 = y) (hxl : x < 4294967296) (hyl : y < 4294967296) : SubOk xs ys (k + 1) (1 - (4294967296 + x - y - c) / 4294967296) (O ++ [(4294967296 + x - y - c) % 4294967296]) := by
  obtain ⟨h1, h2, h3, h4⟩ := h
  refine ⟨h1.append (Limbs.one (Nat.mod_lt _ (by decide))), by simp [h2], by omega, ?_⟩
  rw [val_snoc, h2, val_take_succ, val_take_succ, hx, hy]
  have hd : (4294967296 + x - y - c) % 4294967296 + y + c = x + 4294967296 * (1 - (4294967296 + x - y - c) / 4294967296) := by omega
  generalize (4294967296 + x - y - c) % 4294967296 = m at hd ⊢
  generalize 1 - (4294967296 + x - y - c) / 4294967296 = q at hd ⊢
  have := congrArg (4294967296 ^ k * ·) hd
  simp only [Nat.mul_add] at this
  rw [Nat.pow_succ, Nat.mul_assoc]
  omega
theorem subOk_all {xs ys O : List Nat} {c : Nat} (h : SubOk xs ys xs.length c O) (hl : ys.length ≤ xs.length) (hv : val ys ≤ val xs) : val O = val xs - val ys := by
  obtain ⟨h1, h2, h3, h4⟩ := h
  rw [List.take_of_length_le (Nat.le_refl _), List.take_of_length_le hl] at h4
  have hlt := val_lt h1
  rw [h2] at hlt
  have hc : c = 0 ∨ c = 1 := by omega
  rcases hc with rfl | rfl
  · omega
  · rw [Nat.mul_one] at h4; omega

theorem own_formR {w : World} {B : Nat} {e : TypeId} {v : Value} {n : Nat} {xs : List Value} (h : w.ownsRow B e 1 v n xs) : ∃ A cap, v = .slice A n cap := by
  rcases h.2 with ⟨rfl, h0⟩ | ⟨g, cap, cur, rfl, _⟩
  · exact ⟨none, 0, by rw [h0]⟩
  · exact ⟨_, cap, rfl⟩

set_option maxHeartbeats 2000000 in
theorem radd_yes (A A' : Option Addr) (cap cap' : Nat) (xs ys : List Nat) (w : World) (hr : Rd w w.heap.size A xs) (hr' : Rd w w.heap.size A' ys) (hx : mayb xs = true) (hy : mayb ys = true) :
    Calls Try.prog 58 #[.slice A xs.length cap, .slice A' ys.length cap'] w fun e w' => (∃ v, e = .returned v ∧ Own w' w.heap.size v (clip (val xs + val ys))) ∧ Below w.heap.size w w' := by
  have hxm := (mayb_iff.1 hx).1
  have hym := (mayb_iff.1 hy).1
  obtain ⟨i0, hi, hz0, hz1, hz2⟩ := info_parts info32
  have c1 := rmay_is cap hr (by unfold maxLen; omega) hx
  have c2 := rmay_is cap' hr' (by unfold maxLen; omega) hy
  clear hx hy
  go_enter Try.func58, Try.ntmps58
  go_wp2_with fail
  refine c1.mono ?_
  rintro e w' ⟨rfl, hw⟩
  obtain rfl := hw.symm
  go_wp2_with fail
  refine c2.mono ?_
  rintro e w' ⟨rfl, hw⟩
  obtain rfl := hw.symm
  clear c1 c2
  go_wp2_with fail
  go_loopw [5, 6, 7] (fun o cv i wr => ∃ (k c : Nat) (O : List Nat), k ≤ max xs.length ys.length + 1 ∧ i = .int .i64 (k : Int) ∧ cv = .int .u64 (c : Int) ∧ c ≤ 1 ∧ Hid (AddOk xs ys k c O) ∧ wr.ownsRow w.heap.size 26 1 o O.length (u32s O) ∧ Below w.heap.size w wr) (fun _ _ i _ => max xs.length ys.length + 1 - (intOf i).toNat)
  case atStart => exact ⟨0, 0, [], Nat.zero_le _, rfl, rfl, by decide, addOk_zero xs ys, World.ownsRow_nil _ _ _ _, Below.refl _ _⟩
  case round =>
    obtain ⟨k, c, O, hk, rfl, rfl, hc, hok, hown, hB⟩ := hrel
    by_cases hlt : k ≤ max xs.length ys.length
    · have hxk := hr.limbs.getD k
      have hyk := hr'.limbs.getD k
      have hol : O.length ≤ 65536 := by have := hok.out.2.1; omega
      have a1 := at_any A cap xs k wr _ (hr.below hB (Nat.le_refl _)) (by unfold maxLen; omega)
      have a2 := at_any A' cap' ys k wr _ (hr'.below hB (Nat.le_refl _)) (by unfold maxLen; omega)
      obtain ⟨x, hxe⟩ : ∃ x, xs[k]?.getD 0 = x := ⟨_, rfl⟩
      obtain ⟨y, hye⟩ : ∃ y, ys[k]?.getD 0 = y := ⟨_, rfl⟩
      rw [hxe] at a1 hxk
      rw [hye] at a2 hyk
      have hn := Lib.hid (addOk_next hok.out hxe hye hxk hyk)
      clear hxe hye
      have e1 := Lib.hid (show (((x : Int) + y + c) % 4294967296 : Int) = (((x + y + c) % 4294967296 : Nat) : Int) from by omega)
      have e2 := Lib.hid (show (((x : Int) + y + c) / 4294967296 : Int) = (((x + y + c) / 4294967296 : Nat) : Int) from by omega)
      go_wp2_with fail
      refine a1.mono ?_
      rintro e w' ⟨rfl, hw⟩
      obtain rfl := hw.symm
      go_wp2_with fail
      refine a2.mono ?_
      rintro e w' ⟨rfl, hw⟩
      obtain rfl := hw.symm
      clear a1 a2
      go_wp2_with (at_builtin; refine wpList_append_own _ rfl _ _ 23 rfl w.heap.size 26 i0 (.int .u32 0) 1 4 Try.underlying23 hi hz0 hz1 hz2 rfl (by decide) _ _ _ rfl (hown.alloc _) ⟨wr.heap.size, 0, none⟩ 1 1 [_] rfl rfl (cell_one_new _ _ _) (by simp [Value.oneCell']) (by unfold maxLen; omega) (by omega) (by have := hB.size; simp; omega) ?_; intro v' w2 hown' hgrow hgone; clear hgone)
      have hb2 := hB.trans (appended_plain hown hB.size hgrow).2
      have hown2 : w2.ownsRow w.heap.size 26 1 v' (O ++ [(x + y + c) % 4294967296]).length (u32s (O ++ [(x + y + c) % 4294967296])) := by rw [u32s_snoc, ← e1.out]; simpa using hown'
      have hle : (x + y + c) / 4294967296 ≤ 1 := by omega
      clear hown' hgrow
      go_roundw
      case rel => exact ⟨k + 1, (x + y + c) / 4294967296, O ++ [(x + y + c) % 4294967296], by omega, by go_num, by rw [e2.out], hle, hn.out, hown2, hb2⟩
      case measure => simp [intOf]; omega
    · have hkM : k = max xs.length ys.length + 1 := by omega
      have hval := addOk_all hr.limbs hr'.limbs (hkM ▸ hok.out) (by omega) (by omega)
      have HV := Lib.hid hval
      have hlm := hok.out.1
      obtain ⟨Av, capv, rfl⟩ := own_formR hown
      have ct := cut_own hown hlm
      clear hval hkM hown
      go_wp2_with fail
      refine ct.mono ?_
      rintro e w' ⟨⟨v', rfl, hv'⟩, hw⟩
      obtain rfl := hw.symm
      clear ct
      rw [HV.out] at hv'
      have HO := Lib.hid hv'
      clear hv'
      go_wp2
      go_ret
      exact ⟨⟨_, rfl, HO.out⟩, hB⟩

set_option maxHeartbeats 2000000 in
theorem rsub_yes (A A' : Option Addr) (cap cap' : Nat) (xs ys : List Nat) (w : World) (hr : Rd w w.heap.size A xs) (hr' : Rd w w.heap.size A' ys) (hx : mayb xs = true) (hy : mayb ys = true) (hvv : val ys ≤ val xs) :
    Calls Try.prog 67 #[.slice A xs.length cap, .slice A' ys.length cap'] w fun e w' => (∃ v, e = .returned (.tuple #[v, .bool true]) ∧ Own w' w.heap.size v (lim (val xs - val ys))) ∧ Below w.heap.size w w' := by
  have hxm := (mayb_iff.1 hx).1
  have hym := (mayb_iff.1 hy).1
  have hl : ys.length ≤ xs.length := by
    rcases Nat.lt_or_ge xs.length ys.length with h | h
    · have := val_lt_len hr.limbs (mayb_canon hr'.limbs hy) h
      omega
    · exact h
  have hs0 : (0 : Int) ≤ sCmp xs ys := by
    rw [sCmp_yes (by simp [hx, hy])]
    unfold cmpN
    rw [if_neg (by omega)]
    split <;> decide
  obtain ⟨i0, hi, hz0, hz1, hz2⟩ := info_parts info32
  have c1 := rmay_is cap hr (by unfold maxLen; omega) hx
  have c2 := rmay_is cap' hr' (by unfold maxLen; omega) hy
  have c3 := rcmp_any A A' cap cap' xs ys w _ hr hr' (by unfold maxLen; omega) (by unfold maxLen; omega)
  have hfits : clip (val xs - val ys) = lim (val xs - val ys) := clip_of (le_fits hr.limbs hx (Nat.sub_le _ _))
  have HFT := Lib.hid hfits
  clear hx hy hfits
  go_enter Try.func67, Try.ntmps67
  go_wp2_with fail
  refine c1.mono ?_
  rintro e w' ⟨rfl, hw⟩
  obtain rfl := hw.symm
  go_wp2_with fail
  refine c2.mono ?_
  rintro e w' ⟨rfl, hw⟩
  obtain rfl := hw.symm
  go_wp2_with fail
  refine c3.mono ?_
  rintro e wd ⟨rfl, nq, hw⟩
  have hBd : Below w.heap.size w wd := by rw [hw]; exact ⟨rfl, rfl, rfl, Nat.le_refl _, fun _ _ => rfl⟩
  clear c1 c2 c3 hw
  go_wp2_with fail
  go_loopw [6, 7, 8] (fun o cv i wr => ∃ (k c : Nat) (O : List Nat), k ≤ xs.length ∧ i = .int .i64 (k : Int) ∧ cv = .int .u64 (c : Int) ∧ c ≤ 1 ∧ Hid (SubOk xs ys k c O) ∧ wr.ownsRow w.heap.size 26 1 o O.length (u32s O) ∧ Below w.heap.size w wr) (fun _ _ i _ => xs.length - (intOf i).toNat)
  case atStart => exact ⟨0, 0, [], Nat.zero_le _, rfl, rfl, by decide, subOk_zero xs ys, World.ownsRow_nil _ _ _ _, hBd⟩
  case round =>
    obtain ⟨k, c, O, hk, rfl, rfl, hc, hok, hown, hB⟩ := hrel
    by_cases hlt : k < xs.length
    · have hxk := hr.limbs.getD k
      have hyk := hr'.limbs.getD k
      have hol : O.length ≤ 65536 := by have := hok.out.2.1; omega
      have a1 := at_any A cap xs k wr _ (hr.below hB (Nat.le_refl _)) (by unfold maxLen; omega)
      have a2 := at_any A' cap' ys k wr _ (hr'.below hB (Nat.le_refl _)) (by unfold maxLen; omega)
      obtain ⟨x, hxe⟩ : ∃ x, xs[k]?.getD 0 = x := ⟨_, rfl⟩
      obtain ⟨y, hye⟩ : ∃ y, ys[k]?.getD 0 = y := ⟨_, rfl⟩
      rw [hxe] at a1 hxk
      rw [hye] at a2 hyk
      have hn := Lib.hid (subOk_next hok.out hxe hye hxk hyk)
      clear hxe hye
      have e1 := Lib.hid (show (((4294967296 : Int) + x - y - c) % 4294967296 : Int) = (((4294967296 + x - y - c) % 4294967296 : Nat) : Int) from by omega)
      have e2 := Lib.hid (show (1 - ((4294967296 : Int) + x - y - c) / 4294967296 : Int) = ((1 - (4294967296 + x - y - c) / 4294967296 : Nat) : Int) from by omega)
      go_wp2_with fail
      refine a1.mono ?_
      rintro e w' ⟨rfl, hw⟩
      obtain rfl := hw.symm
      go_wp2_with fail
      refine a2.mono ?_
      rintro e w' ⟨rfl, hw⟩
      obtain rfl := hw.symm
      clear a1 a2
      go_wp2_with (at_builtin; refine wpList_append_own _ rfl _ _ 23 rfl w.heap.size 26 i0 (.int .u32 0) 1 4 Try.underlying23 hi hz0 hz1 hz2 rfl (by decide) _ _ _ rfl (hown.alloc _) ⟨wr.heap.size, 0, none⟩ 1 1 [_] rfl rfl (cell_one_new _ _ _) (by simp [Value.oneCell']) (by unfold maxLen; omega) (by omega) (by have := hB.size; simp; omega) ?_; intro v' w2 hown' hgrow hgone; clear hgone)
      have hb2 := hB.trans (appended_plain hown hB.size hgrow).2
      have hown2 : w2.ownsRow w.heap.size 26 1 v' (O ++ [(4294967296 + x - y - c) % 4294967296]).length (u32s (O ++ [(4294967296 + x - y - c) % 4294967296])) := by rw [u32s_snoc, ← e1.out]; simpa using hown'
      have hle : 1 - (4294967296 + x - y - c) / 4294967296 ≤ 1 := by omega
      clear hown' hgrow
      go_roundw
      case rel => exact ⟨k + 1, 1 - (4294967296 + x - y - c) / 4294967296, O ++ [(4294967296 + x - y - c) % 4294967296], by omega, by go_num, by rw [e2.out], hle, hn.out, hown2, hb2⟩
      case measure => simp [intOf]; omega
    · have hkM : k = xs.length := by omega
      have hval := subOk_all (hkM ▸ hok.out) hl hvv
      have HV := Lib.hid hval
      have hlm := hok.out.1
      obtain ⟨Av, capv, rfl⟩ := own_formR hown
      have ct := cut_own hown hlm
      clear hval hkM hown
      go_wp2_with fail
      refine ct.mono ?_
      rintro e w' ⟨⟨v', rfl, hv'⟩, hw⟩
      obtain rfl := hw.symm
      clear ct
      rw [HV.out, HFT.out] at hv'
      have HO := Lib.hid hv'
      clear hv'
      go_wp2
      go_ret2
      exact ⟨⟨_, rfl, HO.out⟩, hB⟩

end Go.Proofs.Ytidflhonhekmjaa

/- Contracts of the document's own answers of layer 1: Add, Sub, whatever is handed in; Low; and what the laws do beside: own, is. -/
namespace Go.Proofs.Ytidflhonhekmjaa
open Go.RowKit

set_option linter.unusedVariables false

set_option maxHeartbeats 1000000 in
theorem radd_any (A A' : Option Addr) (cap cap' : Nat) (xs ys : List Nat) (w : World) (hr : Rd w w.heap.size A xs) (hr' : Rd w w.heap.size A' ys) (hc : xs.length ≤ maxLen) (hc' : ys.length ≤ maxLen) :
    Calls Try.prog 58 #[.slice A xs.length cap, .slice A' ys.length cap'] w fun e w' => (∃ v, e = .returned v ∧ Own w' w.heap.size v (sAdd xs ys)) ∧ Below w.heap.size w w' := by
  rcases hx : mayb xs with _ | _
  · have hs := Lib.hid (sAdd_no (xs := xs) (ys := ys) (by simp [hx]))
    have c1 := rmay_is cap hr hc hx
    clear hx hc hc'
    go_enter Try.func58, Try.ntmps58
    go_wp2_with fail
    refine c1.mono ?_
    rintro e w' ⟨rfl, hw⟩
    obtain rfl := hw.symm
    clear c1
    go_wp2
    go_ret
    exact ⟨⟨_, rfl, by rw [hs.out]; exact Own.nil _ _⟩, Below.refl _ _⟩
  · rcases hy : mayb ys with _ | _
    · have hs := Lib.hid (sAdd_no (xs := xs) (ys := ys) (by simp [hy]))
      have c1 := rmay_is cap hr hc hx
      have c2 := rmay_is cap' hr' hc' hy
      clear hx hy hc hc'
      go_enter Try.func58, Try.ntmps58
      go_wp2_with fail
      refine c1.mono ?_
      rintro e w' ⟨rfl, hw⟩
      obtain rfl := hw.symm
      go_wp2_with fail
      refine c2.mono ?_
      rintro e w' ⟨rfl, hw⟩
      obtain rfl := hw.symm
      clear c1 c2
      go_wp2
      go_ret
      exact ⟨⟨_, rfl, by rw [hs.out]; exact Own.nil _ _⟩, Below.refl _ _⟩
    · rw [sAdd_yes (by simp [hx, hy])]
      exact radd_yes A A' cap cap' xs ys w hr hr' hx hy

set_option maxHeartbeats 1000000 in
theorem rsub_any (A A' : Option Addr) (cap cap' : Nat) (xs ys : List Nat) (w : World) (hr : Rd w w.heap.size A xs) (hr' : Rd w w.heap.size A' ys) (hc : xs.length ≤ maxLen) (hc' : ys.length ≤ maxLen) :
    Calls Try.prog 67 #[.slice A xs.length cap, .slice A' ys.length cap'] w fun e w' => (∃ v, e = .returned (.tuple #[v, .bool (sSubOk xs ys)]) ∧ Own w' w.heap.size v (sSub xs ys)) ∧ Below w.heap.size w w' := by
  rcases hx : mayb xs with _ | _
  · have hok : sSubOk xs ys = false := by unfold sSubOk; simp [hx]
    have hs := Lib.hid (sSub_no hok)
    have c1 := rmay_is cap hr hc hx
    rw [hok]
    clear hx hc hc' hok
    go_enter Try.func67, Try.ntmps67
    go_wp2_with fail
    refine c1.mono ?_
    rintro e w' ⟨rfl, hw⟩
    obtain rfl := hw.symm
    clear c1
    go_wp2
    go_ret2
    exact ⟨⟨_, rfl, by rw [hs.out]; exact Own.nil _ _⟩, Below.refl _ _⟩
  · rcases hy : mayb ys with _ | _
    · have hok : sSubOk xs ys = false := by unfold sSubOk; simp [hy]
      have hs := Lib.hid (sSub_no hok)
      have c1 := rmay_is cap hr hc hx
      have c2 := rmay_is cap' hr' hc' hy
      rw [hok]
      clear hx hy hc hc' hok
      go_enter Try.func67, Try.ntmps67
      go_wp2_with fail
      refine c1.mono ?_
      rintro e w' ⟨rfl, hw⟩
      obtain rfl := hw.symm
      go_wp2_with fail
      refine c2.mono ?_
      rintro e w' ⟨rfl, hw⟩
      obtain rfl := hw.symm
      clear c1 c2
      go_wp2
      go_ret2
      exact ⟨⟨_, rfl, by rw [hs.out]; exact Own.nil _ _⟩, Below.refl _ _⟩
    · rcases Nat.lt_or_ge (val xs) (val ys) with h | h
      · have hok : sSubOk xs ys = false := by unfold sSubOk; simp [hx, hy]; omega
        have hs := Lib.hid (sSub_no hok)
        have hcm : sCmp xs ys = -1 := by rw [sCmp_yes (by simp [hx, hy]), cmpN_lt h]
        have c1 := rmay_is cap hr hc hx
        have c2 := rmay_is cap' hr' hc' hy
        have c3 := rcmp_any A A' cap cap' xs ys w _ hr hr' hc hc'
        rw [hcm] at c3
        rw [hok]
        clear hx hy hc hc' hok hcm
        go_enter Try.func67, Try.ntmps67
        go_wp2_with fail
        refine c1.mono ?_
        rintro e w' ⟨rfl, hw⟩
        obtain rfl := hw.symm
        go_wp2_with fail
        refine c2.mono ?_
        rintro e w' ⟨rfl, hw⟩
        obtain rfl := hw.symm
        go_wp2_with fail
        refine c3.mono ?_
        rintro e wd ⟨rfl, nq, hw⟩
        have hBd : Below w.heap.size w wd := by rw [hw]; exact ⟨rfl, rfl, rfl, Nat.le_refl _, fun _ _ => rfl⟩
        clear c1 c2 c3 hw
        go_wp2
        go_ret2
        exact ⟨⟨_, rfl, by rw [hs.out]; exact Own.nil _ _⟩, hBd⟩
      · have hok : sSubOk xs ys = true := by unfold sSubOk; simp [hx, hy, h]
        rw [sSub_yes hok, hok]
        exact rsub_yes A A' cap cap' xs ys w hr hr' hx hy h

theorem val_drop_cons {xs : List Nat} {k : Nat} (h : k < xs.length) : val (xs.drop k) = val (xs.drop (k + 1)) * 4294967296 + xs[k]?.getD 0 := by
  rw [List.drop_eq_getElem_cons h, List.getElem?_eq_getElem h]
  simp only [val, Option.getD_some]
  omega

set_option maxHeartbeats 1000000 in
theorem rlow_any (A : Option Addr) (cap : Nat) (xs : List Nat) (w : World) (B : Nat) (hr : Rd w B A xs) (hc : xs.length ≤ maxLen) :
    Calls Try.prog 64 #[.slice A xs.length cap] w fun e w' => e = .returned (.tuple #[.int .u64 (sLow xs : Nat), .bool (sLowOk xs)]) ∧ w' = w := by
  rcases hx : mayb xs with _ | _
  · have hok : sLowOk xs = false := by unfold sLowOk; simp [hx]
    have c1 := rmay_is cap hr hc hx
    rw [sLow_no hok, hok]
    clear hx hc hok
    go_enter Try.func64, Try.ntmps64
    go_wp2_with fail
    refine c1.mono ?_
    rintro e w' ⟨rfl, hw⟩
    obtain rfl := hw.symm
    clear c1
    go_wp2
    go_ret2
    exact ⟨rfl, rfl⟩
  · have c1 := rmay_is cap hr hc hx
    rcases Nat.lt_or_ge 2 xs.length with hl | hl
    · have hok : sLowOk xs = false := by unfold sLowOk; simp; omega
      rw [sLow_no hok, hok]
      clear hx hok
      unfold maxLen at hc
      go_enter Try.func64, Try.ntmps64
      go_wp2_with fail
      refine c1.mono ?_
      rintro e w' ⟨rfl, hw⟩
      obtain rfl := hw.symm
      clear c1
      go_wp2
      go_ret2
      exact ⟨rfl, rfl⟩
    · have hok : sLowOk xs = true := by unfold sLowOk; simp [hx, hl]
      rw [sLow_yes hok, hok]
      clear hx hok hc
      go_enter Try.func64, Try.ntmps64
      go_wp2_with fail
      refine c1.mono ?_
      rintro e w' ⟨rfl, hw⟩
      obtain rfl := hw.symm
      clear c1
      go_wp2_with fail
      go_loop [4, 5] (fun uv i => ∃ (k u : Nat), k ≤ xs.length ∧ i = .int .i64 ((k : Int) - 1) ∧ uv = .int .u64 (u : Int) ∧ Hid (u = val (xs.drop k)) ∧ u < 18446744073709551616 ∧ (0 < k → u < 4294967296)) (fun _ i => (intOf i + 1).toNat)
      case atStart => exact ⟨xs.length, 0, Nat.le_refl _, rfl, rfl, by show _ = _; rw [List.drop_length]; rfl, by decide, fun _ => by decide⟩
      case round =>
        obtain ⟨k, u, hk, rfl, rfl, hu, hul, hub⟩ := hrel
        rcases Nat.eq_zero_or_pos k with h0 | h0
        · subst h0
          go_wp2
          go_ret2
          exact ⟨by rw [hu.out]; rfl, rfl⟩
        · obtain ⟨m, rfl⟩ : ∃ m, k = m + 1 := ⟨k - 1, by omega⟩
          obtain ⟨b, off, rfl, hlt, hcell⟩ := hr.2 (by omega)
          have hcl := hcell m (by omega)
          have hl1 := hr.limbs.getD m
          have hub' := hub (by omega)
          rw [show (((m + 1 : Nat) : Int) - 1) = (m : Int) from by omega]
          obtain ⟨x, hxe⟩ : ∃ x, xs[m]?.getD 0 = x := ⟨_, rfl⟩
          rw [hxe] at hcl hl1
          have hn : Hid (u * 4294967296 + x = val (xs.drop m)) := by show _ = _; rw [val_drop_cons (by omega), ← hu.out, hxe]
          have hv0 : Hid (0 < m → u * 4294967296 + x < 4294967296) := fun hm => by
            have hv := hn.out
            have := val_lt (hr.limbs.drop m)
            rw [List.length_drop] at this
            have h2 : 4294967296 ^ (xs.length - m) ≤ 4294967296 ^ 1 := Nat.pow_le_pow_right (by decide) (by omega)
            omega
          clear hcell hub hxe
          go_wp2
          go_round
          case rel => exact ⟨m, u * 4294967296 + x, by omega, rfl, by go_num, hn.out, by omega, hv0.out⟩
          case measure => simp [intOf]

end Go.Proofs.Ytidflhonhekmjaa

/- What the laws do beside: own, is; values that are the walk's own and those that are only read. -/
namespace Go.Proofs.Ytidflhonhekmjaa
open Go.RowKit

set_option linter.unusedVariables false

theorem u32s_one (xs : List Nat) : ∀ u ∈ u32s xs, u.oneCell' = true := by
  intro u hu
  obtain ⟨x, _, rfl⟩ := List.mem_map.1 hu
  rfl

/-- As Arg, and nil has no room. -/
def ArgZ (w : World) (v : Value) (xs : List Nat) : Prop := Arg w v xs ∧ ∀ n cap, v = .slice none n cap → cap = 0
/-! ### what is only read (l), and what is the walk's own since w0 (o) -/
def Lab (w0 w : World) (l o : List (Value × List Nat)) : Prop := Env w0 w l ∧ ∀ p ∈ o, Own w w0.heap.size p.1 p.2 ∧ Limbs p.2

section
variable {w0 w w' : World} {l o : List (Value × List Nat)} {va vb : Value} {xs ys : List Nat}
theorem Lab.step (h : Lab w0 w l o) (hb : Below w.heap.size w w') : Lab w0 w' l o := ⟨h.1.step hb, fun p hp => ⟨(h.2 p hp).1.below hb, (h.2 p hp).2⟩⟩
theorem Lab.add (h : Lab w0 w l o) (hb : Below w.heap.size w w') {r : Value} {zs : List Nat} (hr : Own w' w.heap.size r zs) (hl : Limbs zs) : Lab w0 w' l ((r, zs) :: o) :=
  ⟨h.1.step hb, fun p hp => by
    rcases List.mem_cons.1 hp with rfl | hp
    · exact ⟨hr.more h.1.1.size, hl⟩
    · exact ⟨(h.2 p hp).1.below hb, (h.2 p hp).2⟩⟩
theorem lab_start (h : Env w0 w l) : Lab w w l [] := ⟨⟨Below.refl _ _, h.2⟩, fun _ h => by cases h⟩
theorem Lab.drewN (h : Lab w0 w l o) (n : Nat) : Lab w0 (w.drewN n) l o := h.step ⟨rfl, rfl, rfl, Nat.le_refl _, fun _ _ => rfl⟩

theorem add_lab (h : Lab w0 w l o) (ha : (va, xs) ∈ l) (hb : (vb, ys) ∈ l) : Calls Try.prog 17 #[va, vb] w fun e w' => ∃ r, e = .returned r ∧ Lab w0 w' l ((r, sAdd xs ys) :: o) := by
  obtain ⟨A, cap, rfl, h1, h2, hr⟩ := h.1.get ha
  obtain ⟨A', cap', rfl, h1', h2', hr'⟩ := h.1.get hb
  exact (add_any A A' cap cap' xs ys w hr hr' (Nat.le_trans h1 h2) (Nat.le_trans h1' h2')).mono fun _ _ ⟨⟨r, he, ho⟩, hbl⟩ => ⟨r, he, h.add hbl ho (sAdd_limbs _ _)⟩
theorem radd_lab (h : Lab w0 w l o) (ha : (va, xs) ∈ l) (hb : (vb, ys) ∈ l) : Calls Try.prog 58 #[va, vb] w fun e w' => ∃ r, e = .returned r ∧ Lab w0 w' l ((r, sAdd xs ys) :: o) := by
  obtain ⟨A, cap, rfl, h1, h2, hr⟩ := h.1.get ha
  obtain ⟨A', cap', rfl, h1', h2', hr'⟩ := h.1.get hb
  exact (radd_any A A' cap cap' xs ys w hr hr' (Nat.le_trans h1 h2) (Nat.le_trans h1' h2')).mono fun _ _ ⟨⟨r, he, ho⟩, hbl⟩ => ⟨r, he, h.add hbl ho (sAdd_limbs _ _)⟩
theorem sub_lab (h : Lab w0 w l o) (ha : (va, xs) ∈ l) (hb : (vb, ys) ∈ l) : Calls Try.prog 15 #[va, vb] w fun e w' => ∃ r, e = .returned (.tuple #[r, .bool (sSubOk xs ys)]) ∧ Lab w0 w' l ((r, sSub xs ys) :: o) := by
  obtain ⟨A, cap, rfl, h1, h2, hr⟩ := h.1.get ha
  obtain ⟨A', cap', rfl, h1', h2', hr'⟩ := h.1.get hb
  exact (sub_any A A' cap cap' xs ys w hr hr' (Nat.le_trans h1 h2) (Nat.le_trans h1' h2')).mono fun _ _ ⟨⟨r, he, ho⟩, hbl⟩ => ⟨r, he, h.add hbl ho (sSub_limbs _ _)⟩
theorem rsub_lab (h : Lab w0 w l o) (ha : (va, xs) ∈ l) (hb : (vb, ys) ∈ l) : Calls Try.prog 67 #[va, vb] w fun e w' => ∃ r, e = .returned (.tuple #[r, .bool (sSubOk xs ys)]) ∧ Lab w0 w' l ((r, sSub xs ys) :: o) := by
  obtain ⟨A, cap, rfl, h1, h2, hr⟩ := h.1.get ha
  obtain ⟨A', cap', rfl, h1', h2', hr'⟩ := h.1.get hb
  exact (rsub_any A A' cap cap' xs ys w hr hr' (Nat.le_trans h1 h2) (Nat.le_trans h1' h2')).mono fun _ _ ⟨⟨r, he, ho⟩, hbl⟩ => ⟨r, he, h.add hbl ho (sSub_limbs _ _)⟩
theorem of_lab (h : Lab w0 w l o) (u : Nat) (hu : u < 18446744073709551616) : Calls Try.prog 13 #[.int .u64 (u : Int)] w fun e w' => ∃ r, e = .returned r ∧ Lab w0 w' l ((r, lim u) :: o) :=
  (of_any u w hu).mono fun _ _ ⟨⟨r, he, ho⟩, hbl⟩ => ⟨r, he, h.add hbl ho (lim_limbs _)⟩
theorem rof_lab (h : Lab w0 w l o) (u : Nat) (hu : u < 18446744073709551616) : Calls Try.prog 65 #[.int .u64 (u : Int)] w fun e w' => ∃ r, e = .returned r ∧ Lab w0 w' l ((r, lim u) :: o) :=
  (rof_any u w hu).mono fun _ _ ⟨⟨r, he, ho⟩, hbl⟩ => ⟨r, he, h.add hbl ho (lim_limbs _)⟩
theorem rmay_env (h : Env w0 w l) (ha : (va, xs) ∈ l) : Calls Try.prog 57 #[va] w fun e w' => e = .returned (.bool (mayb xs)) ∧ Env w0 w' l := by
  obtain ⟨A, cap, rfl, h1, h2, hr⟩ := h.get ha
  exact (rmay_is cap hr (Nat.le_trans h1 h2) rfl).mono fun _ _ ⟨he, hw⟩ => ⟨he, by rw [hw]; exact h⟩
theorem rcmp_env (h : Env w0 w l) (ha : (va, xs) ∈ l) (hb : (vb, ys) ∈ l) : Calls Try.prog 69 #[va, vb] w fun e w' => e = .returned (.int .i64 (sCmp xs ys)) ∧ Env w0 w' l := by
  obtain ⟨A, cap, rfl, h1, h2, hr⟩ := h.get ha
  obtain ⟨A', cap', rfl, h1', h2', hr'⟩ := h.get hb
  exact (rcmp_any A A' cap cap' xs ys w _ hr hr' (Nat.le_trans h1 h2) (Nat.le_trans h1' h2')).mono fun _ _ ⟨he, n, hw⟩ => ⟨he, by rw [hw]; exact h.drewN n⟩
theorem rlow_env (h : Env w0 w l) (ha : (va, xs) ∈ l) : Calls Try.prog 64 #[va] w fun e w' => e = .returned (.tuple #[.int .u64 (sLow xs : Nat), .bool (sLowOk xs)]) ∧ Env w0 w' l := by
  obtain ⟨A, cap, rfl, h1, h2, hr⟩ := h.get ha
  exact (rlow_any A cap xs w _ hr (Nat.le_trans h1 h2)).mono fun _ _ ⟨he, hw⟩ => ⟨he, by rw [hw]; exact h⟩
end

end Go.Proofs.Ytidflhonhekmjaa

/- NatTells: the law's walk, whatever is handed in. -/
namespace Go.Proofs.Ytidflhonhekmjaa
open Go.RowKit

set_option linter.unusedVariables false

def NoRoom (v : Value) : Prop := ∀ n cap, v = .slice none n cap → cap = 0
theorem noRoom_of_row {w : World} {a : Option Addr} {len cap : Nat} {zs : List Int}
    (h : (a = none ∧ len = 0 ∧ cap = 0 ∧ zs = []) ∨ ∃ x, a = some x ∧ len ≤ cap ∧ cap ≤ maxLen ∧ zs.length = cap ∧ (∀ i, i < zs.length → w.cell? (x.add i) = some (.int .u32 (zs.getD i 0))) ∧ ∀ n ∈ zs, (Lit.int .u32 n).wf = true) : NoRoom (.slice a len cap) := by
  rcases h with ⟨rfl, rfl, rfl, rfl⟩ | ⟨x, rfl, _⟩
  · intro n cap h; cases h; rfl
  · intro n cap h; cases h
end Go.Proofs.Ytidflhonhekmjaa

/- Contracts of the document's own answers: power, Bits, Bit. -/
namespace Go.Proofs.Ytidflhonhekmjaa
open Go.RowKit

set_option linter.unusedVariables false

theorem pow_lt32 {j : Nat} (h : j < 32) : 2 ^ j < 4294967296 := by
  have : 2 ^ j < 2 ^ 32 := Nat.pow_lt_pow_right (by decide) h
  simpa using this

set_option maxHeartbeats 400000 in
theorem power_any (k q : Nat) (w : World) (hk : k < 32) (hq : Hid (2 ^ k = q)) :
    Calls Try.prog 85 #[.int .i64 (k : Int)] w fun e w' => e = .returned (.int .u64 (q : Int)) ∧ w' = w := by
  go_enter Try.func85, Try.ntmps85
  go_wp2
  go_loop [3, 4] (fun pv i => ∃ (j p : Nat), j ≤ k ∧ i = .int .i64 (j : Int) ∧ pv = .int .u64 (p : Int) ∧ p < 4294967296 ∧ Hid (p = 2 ^ j)) (fun _ i => k - (intOf i).toNat)
  case atStart => exact ⟨0, 1, Nat.zero_le _, rfl, rfl, by decide, rfl⟩
  case round =>
    obtain ⟨j, p, hj, rfl, rfl, hp, hpj⟩ := hrel
    by_cases hlt : j < k
    · have hn := Lib.hid (show p * 2 = 2 ^ (j + 1) by rw [Nat.pow_succ, hpj.out])
      have hb : p * 2 < 4294967296 := by rw [hn.out]; exact pow_lt32 (by omega)
      go_wp2
      go_round
      case rel => exact ⟨j + 1, p * 2, by omega, by go_num, by go_num, hb, hn.out⟩
      case measure => simp [intOf]; omega
    · have hjk : j = k := by omega
      obtain rfl : p = q := by rw [← hq.out, ← hjk]; exact hpj.out
      clear hpj hjk hq
      go_wp2
      go_ret
      exact ⟨rfl, rfl⟩

theorem blen_half {x : Nat} (h : x ≠ 0) : blen x = blen (x / 2) + 1 := by
  rcases Nat.eq_zero_or_pos (x / 2) with h0 | h0
  · have : x = 1 := by omega
    subst this
    decide
  · have := blen_shift (n := x / 2) (r := x % 2) (k := 1) (by omega) (by omega)
    rw [← this]
    congr 1
    omega

set_option maxHeartbeats 1000000 in
theorem rbits_any (A : Option Addr) (cap : Nat) (xs : List Nat) (w : World) (B : Nat) (hr : Rd w B A xs) (hc : xs.length ≤ maxLen) :
    Calls Try.prog 66 #[.slice A xs.length cap] w fun e w' => e = .returned (.int .i64 (sBits xs : Nat)) ∧ w' = w := by
  by_cases hx : mayb xs = true
  · have c1 := rmay_is cap hr hc hx
    rcases Nat.eq_zero_or_pos xs.length with h0 | h0
    · have : xs = [] := List.eq_nil_of_length_eq_zero h0
      subst this
      clear hx
      go_enter Try.func66, Try.ntmps66
      go_wp2_with fail
      refine c1.mono ?_
      rintro e w' ⟨rfl, hw⟩
      obtain rfl := hw.symm
      clear c1
      go_wp2
      go_ret
      exact ⟨ret_int (by rw [sBits_nil]; rfl), rfl⟩
    · have hM := Lib.hid (sBits_yes hx)
      have hBv := Lib.hid (blen_val (mayb_canon hr.limbs hx) h0)
      have hm := (mayb_iff.1 hx).1
      have hz0 : (((xs.length : Nat) : Int) == 0) = false := beq_eq_false_iff_ne.2 (by omega)
      obtain ⟨b, off, rfl, hlt, hcell⟩ := hr.2 h0
      have hcl := hcell (xs.length - 1) (by omega)
      have hl := hr.limbs.getD (xs.length - 1)
      obtain ⟨t, ht⟩ : ∃ t, xs[xs.length - 1]?.getD 0 = t := ⟨_, rfl⟩
      rw [ht] at hcl hl hBv
      have hb32 : blen t ≤ 32 := blen_le.2 hl
      clear hcell hx hc ht
      go_enter Try.func66, Try.ntmps66
      go_wp2_with fail
      refine c1.mono ?_
      rintro e w' ⟨rfl, hw⟩
      obtain rfl := hw.symm
      clear c1
      go_wp2
      go_loop [3, 4] (fun kv xv => ∃ (j x : Nat), xv = .int .u32 (x : Int) ∧ x < 4294967296 ∧ kv = .int .i64 ((32 * (xs.length - 1) + j : Nat) : Int) ∧ j ≤ 32 ∧ Hid (blen t = j + blen x)) (fun _ x => (intOf x).toNat)
      case atStart => exact ⟨0, t, rfl, hl, by go_num, by omega, by show _ = _; omega⟩
      case round =>
        obtain ⟨j, x, rfl, hxl, rfl, hj, hbl⟩ := hrel
        rcases Nat.eq_zero_or_pos x with h1 | h1
        · subst h1
          go_wp2
          go_ret
          exact ⟨ret_int (by rw [hM.out, hBv.out, hbl.out, blen_zero]; simp), rfl⟩
        · have hn := blen_half (x := x) (by omega)
          have hn' := Lib.hid (show blen t = (j + 1) + blen (x / 2) by have := hbl.out; omega)
          have hj1 : j + 1 ≤ 32 := by have := hbl.out; omega
          clear hn
          go_wp2
          go_round
          case rel => exact ⟨j + 1, x / 2, by go_num, by omega, by go_num, hj1, hn'.out⟩
          case measure => simp [intOf]; omega
  · have hM := Lib.hid (sBits_no (xs := xs) (by simpa using hx))
    have c1 := rmay_is cap hr hc (b := false) (by simpa using hx)
    clear hx
    go_enter Try.func66, Try.ntmps66
    go_wp2_with fail
    refine c1.mono ?_
    rintro e w' ⟨rfl, hw⟩
    obtain rfl := hw.symm
    clear c1
    go_wp2
    go_ret
    exact ⟨ret_int (by rw [hM.out]; rfl), rfl⟩

theorem sBit_no1 {xs : List Nat} (k : Int) (h : mayb xs = false) : sBit xs k = false := by unfold sBit; rw [h]; simp
theorem sBit_no3 {xs : List Nat} (hx : Limbs xs) {k : Nat} (h : xs.length ≤ k / 32) : sBit xs (k : Int) = false := by
  refine sBit_over (Nat.le_trans (sBits_le hx) ?_)
  omega

set_option maxHeartbeats 1000000 in
theorem rbit_any (A : Option Addr) (cap : Nat) (xs : List Nat) (k : Int) (w : World) (B : Nat) (hr : Rd w B A xs) (hc : xs.length ≤ maxLen) (hk1 : -9223372036854775808 ≤ k) (hk2 : k ≤ 9223372036854775807) :
    Calls Try.prog 86 #[.slice A xs.length cap, .int .i64 k] w fun e w' => e = .returned (.bool (sBit xs k)) ∧ ∃ n, w' = w.drewN n := by
  rcases hx : mayb xs with _ | _
  · have hs := Lib.hid (sBit_no1 k hx)
    have c1 := rmay_is cap hr hc hx
    clear hx
    go_enter Try.func86, Try.ntmps86
    go_wp2_with fail
    refine c1.mono ?_
    rintro e w' ⟨rfl, hw⟩
    obtain rfl := hw.symm
    clear c1
    go_wp2
    go_ret
    exact ⟨ret_bool hs.out.symm, 0, rfl⟩
  have c1 := rmay_is cap hr hc hx
  rcases Int.lt_or_le k 0 with h | h
  · have hs := Lib.hid (sBit_neg xs h)
    clear hx
    go_enter Try.func86, Try.ntmps86
    go_wp2_with fail
    refine c1.mono ?_
    rintro e w' ⟨rfl, hw⟩
    obtain rfl := hw.symm
    clear c1
    go_wp2
    go_ret
    exact ⟨ret_bool hs.out.symm, 0, rfl⟩
  obtain ⟨n, rfl⟩ := Int.eq_ofNat_of_zero_le h
  rcases Nat.lt_or_ge (n / 32) xs.length with hn | hn
  · obtain ⟨b, off, rfl, hlt, hcell⟩ := hr.2 (by omega)
    have hcl := hcell (n / 32) hn
    have hl := hr.limbs.getD (n / 32)
    have HV := Lib.hid (val_bit hr.limbs hn)
    have HM := Lib.hid hx
    
    have hp := pow_lt32 (j := n % 32) (by omega)
    have hp0 := Nat.two_pow_pos (n % 32)
    obtain ⟨t, ht⟩ : ∃ t, xs[n / 32]?.getD 0 = t := ⟨_, rfl⟩
    generalize hpp : 2 ^ (n % 32) = p at *
    have c2 := fun W => power_any (n % 32) p W (by omega) hpp
    rw [ht] at hcl hl HV
    have HR : Hid (sBit xs (n : Int) = decide (t / p % 2 = 1)) := by
      show _ = _
      unfold sBit
      rw [HM.out, decide_eq_true (by omega), ← HV.out]
      simp
    have q0 : ((p : Int) == 0) = false := by rw [beq_eq_false_iff_ne]; omega
    have q2 : t / p ≤ t := Nat.div_le_self _ _
    have q1 : (t : Int) / (p : Int) = ((t / p : Nat) : Int) := by simp
    generalize hd : t / p = d at *
    have z1 : ((d : Int) % 2 == 1) = decide (d % 2 = 1) := by
      rcases Nat.mod_two_eq_zero_or_one d with h | h
      · rw [show (d : Int) % 2 = 0 from by omega, h]; rfl
      · rw [show (d : Int) % 2 = 1 from by omega, h]; rfl
    have Z1 := Lib.hid z1
    clear hcell hx hc ht hpp HV HM hd z1
    go_enter Try.func86, Try.ntmps86
    go_wp2_with fail
    refine c1.mono ?_
    rintro e w' ⟨rfl, hw⟩
    obtain rfl := hw.symm
    clear c1
    go_wp2
    go_quiet ((go_at_call 85; exact Calls.quiet_of_same (c2 _)))
    go_wp2
    go_ret
    exact ⟨ret_bool (by rw [HR.out]; exact Z1.out), _, rfl⟩
  · have hs := Lib.hid (sBit_no3 hr.limbs hn)
    clear hx
    go_enter Try.func86, Try.ntmps86
    go_wp2_with fail
    refine c1.mono ?_
    rintro e w' ⟨rfl, hw⟩
    obtain rfl := hw.symm
    clear c1
    go_wp2
    go_ret
    exact ⟨ret_bool hs.out.symm, 0, rfl⟩

end Go.Proofs.Ytidflhonhekmjaa

/- Contracts of the document's own answers: Shl. -/
namespace Go.Proofs.Ytidflhonhekmjaa
open Go.RowKit

set_option linter.unusedVariables false

/-- after i rounds of a product with p, behind q limbs of 0 -/
def ShlOk (xs : List Nat) (q p i c : Nat) (Z : List Nat) : Prop := Limbs Z ∧ Z.length = q + i ∧ c ≤ 2147483648 ∧ val Z + 4294967296 ^ (q + i) * c = 4294967296 ^ q * (p * val (xs.take i))
theorem shlOk_zero (xs : List Nat) (q p : Nat) : ShlOk xs q p 0 0 (List.replicate q 0) := ⟨limbs_replicate q, by simp, by decide, by simp [val, val_replicate]⟩
theorem mul_bound {x p : Nat} (hx : x < 4294967296) (hp : p ≤ 2147483648) : x * p ≤ 9223372034707292160 := by
  have h1 : x * p ≤ 4294967295 * p := Nat.mul_le_mul_right _ (by omega)
  omega
theorem shlOk_next {xs Z : List Nat} {q p i c x : Nat} (h : ShlOk xs q p i c Z) (hx : xs[i]?.getD 0 = x) (hxl : x < 4294967296) (hp : p ≤ 2147483648) : ShlOk xs q p (i + 1) ((x * p + c) / 4294967296) (Z ++ [(x * p + c) % 4294967296]) := by
  obtain ⟨h1, h2, h3, h4⟩ := h
  have hb := mul_bound hxl hp
  refine ⟨h1.append (Limbs.one (Nat.mod_lt _ (by decide))), by simp [h2]; omega, by omega, ?_⟩
  rw [val_snoc, h2, val_take_succ, hx]
  have hd := Nat.mod_add_div (x * p + c) 4294967296
  have e1 : 4294967296 ^ (q + (i + 1)) = 4294967296 ^ (q + i) * 4294967296 := by rw [← Nat.add_assoc, Nat.pow_succ]
  rw [e1, Nat.mul_assoc, Nat.add_assoc, ← Nat.mul_add, hd, Nat.mul_add, Nat.mul_add p, Nat.mul_add (4294967296 ^ q), ← h4]
  have e2 : 4294967296 ^ (q + i) * (x * p) = 4294967296 ^ q * (p * (4294967296 ^ i * x)) := by
    rw [Nat.pow_add, Nat.mul_assoc]; congr 1; rw [Nat.mul_comm x, ← Nat.mul_assoc, Nat.mul_comm (4294967296 ^ i), Nat.mul_assoc]
  rw [e2]
  omega
theorem shlOk_all {xs Z : List Nat} {k c : Nat} (hx : Limbs xs) (h : ShlOk xs (k / 32) (2 ^ (k % 32)) (xs.length + 1) c Z) : val Z = val xs * 2 ^ k := by
  obtain ⟨h1, h2, h3, h4⟩ := h
  have hp := pow31 (r := k % 32) (by omega)
  rw [List.take_of_length_le (by omega)] at h4
  have h5 : val xs * 2 ^ k = 4294967296 ^ (k / 32) * (2 ^ (k % 32) * val xs) := by
    have : (2 : Nat) ^ k = 4294967296 ^ (k / 32) * 2 ^ (k % 32) := by rw [show (4294967296 : Nat) = 2 ^ 32 from rfl, ← Nat.pow_mul, ← Nat.pow_add, Nat.div_add_mod]
    rw [this, Nat.mul_comm (val xs), Nat.mul_assoc]
  rw [h5]
  have hv := val_lt hx
  have h6 : 2 ^ (k % 32) * val xs < 4294967296 ^ (xs.length + 1) := by
    have a := Nat.mul_le_mul_right (val xs) hp
    rw [Nat.pow_succ]
    generalize 4294967296 ^ xs.length = P at *
    omega
  have h7 : 4294967296 ^ (k / 32) * (2 ^ (k % 32) * val xs) < 4294967296 ^ (k / 32 + (xs.length + 1)) := by
    rw [Nat.pow_add]
    exact (Nat.mul_lt_mul_left (Nat.pow_pos (by decide))).2 h6
  rw [← h4] at h7 ⊢
  generalize 4294967296 ^ (k / 32 + (xs.length + 1)) = P at *
  rcases Nat.eq_zero_or_pos c with h0 | h0
  · subst h0; omega
  · exfalso
    have := Nat.mul_le_mul_left P h0
    omega

theorem own_zeros (w : World) (q : Nat) (hq : q ≤ maxLen) : (w.alloc (.cells (madeCells (Value.int .u32 0).cells (q * 1)) 26)).ownsRow w.heap.size 26 1 (.slice (some ⟨w.heap.size, 0, none⟩) q q) (List.replicate q 0).length (u32s (List.replicate q 0)) := by
  have h := World.ownsRow_lit w (madeCells (Value.int .u32 0).cells (q * 1)) q (base := w.heap.size) (e := 26) (size := 1) (Nat.le_refl _) hq (by rw [show (Value.int .u32 0).cells = #[.int .u32 0] from rfl]; have := congrArg List.length (toList_madeCells_one (.int .u32 0) (q * 1)); simpa using this)
  have e : (madeCells (Value.int .u32 0).cells (q * 1)).toList = u32s (List.replicate q 0) := by
    rw [show (Value.int .u32 0).cells = #[.int .u32 0] from rfl, toList_madeCells_one]
    simp [u32s, lv]
  rw [e] at h
  simpa using h

set_option maxHeartbeats 2000000 in
theorem rshl_yes (A : Option Addr) (cap : Nat) (xs : List Nat) (k : Nat) (w : World) (hr : Rd w w.heap.size A xs) (hx : mayb xs = true) (h0 : 0 < xs.length) (hk : k ≤ 2097152) :
    Calls Try.prog 68 #[.slice A xs.length cap, .int .i64 (k : Int)] w fun e w' => (∃ v, e = .returned v ∧ Own w' w.heap.size v (clip (val xs * 2 ^ k))) ∧ Below w.heap.size w w' := by
  have hxm := (mayb_iff.1 hx).1
  obtain ⟨i0, hi, hz0, hz1, hz2⟩ := info_parts info32
  have c1 := rmay_is cap hr (by unfold maxLen; omega) hx
  have hmk := make_rowN (P := Try.prog) 23 26 i0 (.int .u32 0) Try.underlying23 hi hz0 (k / 32) (k / 32) (Nat.le_refl _) (by rw [hz2]; omega) (by omega) w
  rw [hz1, show ((k / 32 : Nat) : Int) = (k : Int) / 32 from by omega] at hmk
  have ho0 := Lib.hid (own_zeros w (k / 32) (by unfold maxLen; omega))
  have hp := pow31 (r := k % 32) (by omega)
  obtain ⟨p, hpp⟩ : ∃ p, 2 ^ (k % 32) = p := ⟨_, rfl⟩
  have c2 := fun W => power_any (k % 32) p W (by omega) hpp
  have HP := Lib.hid hpp
  rw [hpp] at hp
  have hz : (((xs.length : Nat) : Int) == 0) = false := beq_eq_false_iff_ne.2 (by omega)
  clear hx hpp
  go_enter Try.func68, Try.ntmps68
  go_wp2_with fail
  refine c1.mono ?_
  rintro e w' ⟨rfl, hw⟩
  obtain rfl := hw.symm
  clear c1
  go_wp2_with fail
  refine (c2 _).mono ?_
  rintro e w' ⟨rfl, hw⟩
  obtain rfl := hw.symm
  clear c2 hmk
  go_wp2_with fail
  go_loopw [5, 7, 8, 9] (fun o cv i sv wr => ∃ (j c : Nat) (Z : List Nat), j ≤ xs.length + 1 ∧ i = .int .i64 (j : Int) ∧ cv = .int .u64 (c : Int) ∧ c ≤ 2147483648 ∧ Hid (ShlOk xs (k / 32) p j c Z) ∧ wr.ownsRow w.heap.size 26 1 o Z.length (u32s Z) ∧ Below w.heap.size w wr) (fun _ _ i _ _ => xs.length + 1 - (intOf i).toNat)
  case atStart => exact ⟨0, 0, _, Nat.zero_le _, rfl, rfl, by decide, shlOk_zero xs _ _, by have h := ho0.out; rw [show (Value.int .u32 0).cells = #[.int .u32 0] from rfl] at h; simpa using h, (Below.refl _ w).alloc (Nat.le_refl _) _⟩
  case round =>
    clear ho0
    obtain ⟨j, c, Z, hj, rfl, rfl, hc, hok, hown, hB⟩ := hrel
    by_cases hlt : j < xs.length + 1
    · have hxk := hr.limbs.getD j
      have hol : Z.length ≤ 131073 := by have := hok.out.2.1; omega
      have a1 := at_any A cap xs j wr _ (hr.below hB (Nat.le_refl _)) (by unfold maxLen; omega)
      obtain ⟨x, hxe⟩ : ∃ x, xs[j]?.getD 0 = x := ⟨_, rfl⟩
      rw [hxe] at a1 hxk
      have hn := shlOk_next hok.out hxe hxk hp
      have hm := mul_bound hxk hp
      have hmi : (x : Int) * (p : Int) = ((x * p : Nat) : Int) := by simp
      generalize x * p = m at hn hm hmi
      have hN := Lib.hid hn
      clear hxe hn
      have e1 := Lib.hid (show (((m : Int) + c) % 4294967296 : Int) = (((m + c) % 4294967296 : Nat) : Int) from by omega)
      have e2 := Lib.hid (show (((m : Int) + c) / 4294967296 : Int) = (((m + c) / 4294967296 : Nat) : Int) from by omega)
      go_wp2_with fail
      refine a1.mono ?_
      rintro e w' ⟨rfl, hw⟩
      obtain rfl := hw.symm
      clear a1
      go_wp2_with (at_builtin; refine wpList_append_own _ rfl _ _ 23 rfl w.heap.size 26 i0 (.int .u32 0) 1 4 Try.underlying23 hi hz0 hz1 hz2 rfl (by decide) _ _ _ rfl (hown.alloc _) ⟨wr.heap.size, 0, none⟩ 1 1 [_] rfl rfl (cell_one_new _ _ _) (by simp [Value.oneCell']) (by unfold maxLen; omega) (by omega) (by have := hB.size; simp; omega) ?_; intro v' w2 hown' hgrow hgone; clear hgone)
      have hb2 := hB.trans (appended_plain hown hB.size hgrow).2
      have hown2 : w2.ownsRow w.heap.size 26 1 v' (Z ++ [(m + c) % 4294967296]).length (u32s (Z ++ [(m + c) % 4294967296])) := by rw [u32s_snoc, ← e1.out]; simpa using hown'
      have hle : (m + c) / 4294967296 ≤ 2147483648 := by omega
      clear hown' hgrow
      go_roundw
      case rel => exact ⟨j + 1, (m + c) / 4294967296, Z ++ [(m + c) % 4294967296], by omega, by go_num, by rw [e2.out], hle, hN.out, hown2, hb2⟩
      case measure => simp [intOf]; omega
    · have hjM : j = xs.length + 1 := by omega
      have hok' := hok.out
      rw [← HP.out, hjM] at hok'
      have hval := shlOk_all hr.limbs hok'
      have HV := Lib.hid hval
      have hlm := hok.out.1
      obtain ⟨Av, capv, rfl⟩ := own_formR hown
      have ct := cut_own hown hlm
      clear hval hjM hown hok'
      go_wp2_with fail
      refine ct.mono ?_
      rintro e w' ⟨⟨v', rfl, hv'⟩, hw⟩
      obtain rfl := hw.symm
      clear ct
      rw [HV.out] at hv'
      have HO := Lib.hid hv'
      clear hv'
      go_wp2
      go_ret
      exact ⟨⟨_, rfl, HO.out⟩, hB⟩

set_option maxHeartbeats 1000000 in
theorem rshl_any (A : Option Addr) (cap : Nat) (xs : List Nat) (k : Int) (w : World) (hr : Rd w w.heap.size A xs) (hc : xs.length ≤ maxLen) (hk3 : k ≤ 2097152) :
    Calls Try.prog 68 #[.slice A xs.length cap, .int .i64 k] w fun e w' => (∃ v, e = .returned v ∧ Own w' w.heap.size v (sShl xs k)) ∧ Below w.heap.size w w' := by
  rcases hx : mayb xs with _ | _
  · have hs := Lib.hid (sShl_no1 (k := k) hx)
    have c1 := rmay_is cap hr hc hx
    clear hx
    go_enter Try.func68, Try.ntmps68
    go_wp2_with fail
    refine c1.mono ?_
    rintro e w' ⟨rfl, hw⟩
    obtain rfl := hw.symm
    clear c1
    go_wp2
    go_ret
    exact ⟨⟨_, rfl, by rw [hs.out]; exact Own.nil _ _⟩, Below.refl _ _⟩
  have c1 := rmay_is cap hr hc hx
  rcases Int.lt_or_le k 0 with h | h
  · have hs := Lib.hid (sShl_no2 (xs := xs) h)
    have hk0 : decide (k < 0) = true := decide_eq_true h
    clear hx
    go_enter Try.func68, Try.ntmps68
    go_wp2_with fail
    refine c1.mono ?_
    rintro e w' ⟨rfl, hw⟩
    obtain rfl := hw.symm
    clear c1
    go_wp2
    go_ret
    exact ⟨⟨_, rfl, by rw [hs.out]; exact Own.nil _ _⟩, Below.refl _ _⟩
  rcases Nat.eq_zero_or_pos xs.length with h0 | h0
  · obtain rfl : xs = [] := List.eq_nil_of_length_eq_zero h0
    have hs := Lib.hid (sShl_nil k)
    have hk0 : decide (k < 0) = false := decide_eq_false (by omega)
    clear hx
    go_enter Try.func68, Try.ntmps68
    go_wp2_with fail
    refine c1.mono ?_
    rintro e w' ⟨rfl, hw⟩
    obtain rfl := hw.symm
    clear c1
    go_wp2
    go_ret
    exact ⟨⟨_, rfl, by rw [hs.out]; exact Own.nil _ _⟩, Below.refl _ _⟩
  obtain ⟨n, rfl⟩ := Int.eq_ofNat_of_zero_le h
  rw [sShl_yes hx]
  exact rshl_yes A cap xs n w hr hx h0 (by omega)

end Go.Proofs.Ytidflhonhekmjaa

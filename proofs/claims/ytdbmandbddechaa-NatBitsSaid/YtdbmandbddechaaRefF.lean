/- Contracts of the document's own answers: Shl. -/
import Derived.Test.YtdbmandbddechaaRefE
namespace Go.Proofs.Ytdbmandbddechaa
open Go.RowKit

set_option linter.unusedVariables false

/-- after i rounds of a product with p, behind q limbs of 0 -/
def ShlOk (xs : List Nat) (q p i c : Nat) (Z : List Nat) : Prop := Limbs Z ∧ Z.length = q + i ∧ c ≤ 2147483648 ∧ val Z + 4294967296 ^ (q + i) * c = 4294967296 ^ q * (p * val (xs.take i))
theorem shlOk_zero (xs : List Nat) (q p : Nat) : ShlOk xs q p 0 0 (List.replicate q 0) := ⟨limbs_replicate q, by simp, by decide, by simp [val, val_replicate]⟩
theorem mul_bound {x p : Nat} (hx : x < 4294967296) (hp : p ≤ 2147483648) : x * p ≤ 9223372034707292160 := by
  have h1 : x * p ≤ 4294967295 * p := Nat.mul_le_mul_right _ (by omega)
  omega
theorem shlOk_next {xs Z : List Nat} {q p i c x : Nat} (h : ShlOk xs q p i c Z) (hx : xs[i]?.getD 0 = x) (hxl : x < 4294967296) (hp : p ≤ 2147483648) : ShlOk xs q p (i + 1) ((x * p + c) / 4294967296) (Z ++ [(x * p + c) % 4294967296]) := by
  obtain ⟨h1, h2, h3, h4⟩ := h
  have hb := mul_bound hxl hp
  refine ⟨h1.append (Limbs.one (Nat.mod_lt _ (by decide))), by simp [h2]; omega, by omega, ?_⟩
  rw [val_snoc, h2, val_take_succ, hx]
  have hd := Nat.mod_add_div (x * p + c) 4294967296
  have e1 : 4294967296 ^ (q + (i + 1)) = 4294967296 ^ (q + i) * 4294967296 := by rw [← Nat.add_assoc, Nat.pow_succ]
  rw [e1, Nat.mul_assoc, Nat.add_assoc, ← Nat.mul_add, hd, Nat.mul_add, Nat.mul_add p, Nat.mul_add (4294967296 ^ q), ← h4]
  have e2 : 4294967296 ^ (q + i) * (x * p) = 4294967296 ^ q * (p * (4294967296 ^ i * x)) := by
    rw [Nat.pow_add, Nat.mul_assoc]; congr 1; rw [Nat.mul_comm x, ← Nat.mul_assoc, Nat.mul_comm (4294967296 ^ i), Nat.mul_assoc]
  rw [e2]
  omega
theorem shlOk_all {xs Z : List Nat} {k c : Nat} (hx : Limbs xs) (h : ShlOk xs (k / 32) (2 ^ (k % 32)) (xs.length + 1) c Z) : val Z = val xs * 2 ^ k := by
  obtain ⟨h1, h2, h3, h4⟩ := h
  have hp := pow31 (r := k % 32) (by omega)
  rw [List.take_of_length_le (by omega)] at h4
  have h5 : val xs * 2 ^ k = 4294967296 ^ (k / 32) * (2 ^ (k % 32) * val xs) := by
    have : (2 : Nat) ^ k = 4294967296 ^ (k / 32) * 2 ^ (k % 32) := by rw [show (4294967296 : Nat) = 2 ^ 32 from rfl, ← Nat.pow_mul, ← Nat.pow_add, Nat.div_add_mod]
    rw [this, Nat.mul_comm (val xs), Nat.mul_assoc]
  rw [h5]
  have hv := val_lt hx
  have h6 : 2 ^ (k % 32) * val xs < 4294967296 ^ (xs.length + 1) := by
    have a := Nat.mul_le_mul_right (val xs) hp
    rw [Nat.pow_succ]
    generalize 4294967296 ^ xs.length = P at *
    omega
  have h7 : 4294967296 ^ (k / 32) * (2 ^ (k % 32) * val xs) < 4294967296 ^ (k / 32 + (xs.length + 1)) := by
    rw [Nat.pow_add]
    exact (Nat.mul_lt_mul_left (Nat.pow_pos (by decide))).2 h6
  rw [← h4] at h7 ⊢
  generalize 4294967296 ^ (k / 32 + (xs.length + 1)) = P at *
  rcases Nat.eq_zero_or_pos c with h0 | h0
  · subst h0; omega
  · exfalso
    have := Nat.mul_le_mul_left P h0
    omega

theorem own_zeros (w : World) (q : Nat) (hq : q ≤ maxLen) : (w.alloc (.cells (madeCells (Value.int .u32 0).cells (q * 1)) 28)).ownsRow w.heap.size 28 1 (.slice (some ⟨w.heap.size, 0, none⟩) q q) (List.replicate q 0).length (u32s (List.replicate q 0)) := by
  have h := World.ownsRow_lit w (madeCells (Value.int .u32 0).cells (q * 1)) q (base := w.heap.size) (e := 28) (size := 1) (Nat.le_refl _) hq (by rw [show (Value.int .u32 0).cells = #[.int .u32 0] from rfl]; have := congrArg List.length (toList_madeCells_one (.int .u32 0) (q * 1)); simpa using this)
  have e : (madeCells (Value.int .u32 0).cells (q * 1)).toList = u32s (List.replicate q 0) := by
    rw [show (Value.int .u32 0).cells = #[.int .u32 0] from rfl, toList_madeCells_one]
    simp [u32s, lv]
  rw [e] at h
  simpa using h

set_option maxHeartbeats 2000000 in
theorem rshl_yes (A : Option Addr) (cap : Nat) (xs : List Nat) (k : Nat) (w : World) (hr : Rd w w.heap.size A xs) (hx : mayb xs = true) (h0 : 0 < xs.length) (hk : k ≤ 2097152) :
    Calls Try.prog 32 #[.slice A xs.length cap, .int .i64 (k : Int)] w fun e w' => (∃ v, e = .returned v ∧ Own w' w.heap.size v (clip (val xs * 2 ^ k))) ∧ Below w.heap.size w w' := by
  have hxm := (mayb_iff.1 hx).1
  obtain ⟨i0, hi, hz0, hz1, hz2⟩ := info_parts info32
  have c1 := rmay_is cap hr (by unfold maxLen; omega) hx
  have hmk := make_rowN (P := Try.prog) 26 28 i0 (.int .u32 0) Try.underlying26 hi hz0 (k / 32) (k / 32) (Nat.le_refl _) (by rw [hz2]; omega) (by omega) w
  rw [hz1, show ((k / 32 : Nat) : Int) = (k : Int) / 32 from by omega] at hmk
  have ho0 := Lib.hid (own_zeros w (k / 32) (by unfold maxLen; omega))
  have hp := pow31 (r := k % 32) (by omega)
  obtain ⟨p, hpp⟩ : ∃ p, 2 ^ (k % 32) = p := ⟨_, rfl⟩
  have c2 := fun W => power_any (k % 32) p W (by omega) hpp
  have HP := Lib.hid hpp
  rw [hpp] at hp
  have hz : (((xs.length : Nat) : Int) == 0) = false := beq_eq_false_iff_ne.2 (by omega)
  clear hx hpp
  go_enter Try.func32, Try.ntmps32
  go_wp2_with fail
  refine c1.mono ?_
  rintro e w' ⟨rfl, hw⟩
  obtain rfl := hw.symm
  clear c1
  go_wp2_with fail
  refine (c2 _).mono ?_
  rintro e w' ⟨rfl, hw⟩
  obtain rfl := hw.symm
  clear c2 hmk
  go_wp2_with fail
  go_loopw [5, 7, 8, 9] (fun o cv i sv wr => ∃ (j c : Nat) (Z : List Nat), j ≤ xs.length + 1 ∧ i = .int .i64 (j : Int) ∧ cv = .int .u64 (c : Int) ∧ c ≤ 2147483648 ∧ Hid (ShlOk xs (k / 32) p j c Z) ∧ wr.ownsRow w.heap.size 28 1 o Z.length (u32s Z) ∧ Below w.heap.size w wr) (fun _ _ i _ _ => xs.length + 1 - (intOf i).toNat)
  case atStart => exact ⟨0, 0, _, Nat.zero_le _, rfl, rfl, by decide, shlOk_zero xs _ _, by have h := ho0.out; rw [show (Value.int .u32 0).cells = #[.int .u32 0] from rfl] at h; simpa using h, (Below.refl _ w).alloc (Nat.le_refl _) _⟩
  case round =>
    clear ho0
    obtain ⟨j, c, Z, hj, rfl, rfl, hc, hok, hown, hB⟩ := hrel
    by_cases hlt : j < xs.length + 1
    · have hxk := hr.limbs.getD j
      have hol : Z.length ≤ 131073 := by have := hok.out.2.1; omega
      have a1 := at_any A cap xs j wr _ (hr.below hB (Nat.le_refl _)) (by unfold maxLen; omega)
      obtain ⟨x, hxe⟩ : ∃ x, xs[j]?.getD 0 = x := ⟨_, rfl⟩
      rw [hxe] at a1 hxk
      have hn := shlOk_next hok.out hxe hxk hp
      have hm := mul_bound hxk hp
      have hmi : (x : Int) * (p : Int) = ((x * p : Nat) : Int) := by simp
      generalize x * p = m at hn hm hmi
      have hN := Lib.hid hn
      clear hxe hn
      have e1 := Lib.hid (show (((m : Int) + c) % 4294967296 : Int) = (((m + c) % 4294967296 : Nat) : Int) from by omega)
      have e2 := Lib.hid (show (((m : Int) + c) / 4294967296 : Int) = (((m + c) / 4294967296 : Nat) : Int) from by omega)
      go_wp2_with fail
      refine a1.mono ?_
      rintro e w' ⟨rfl, hw⟩
      obtain rfl := hw.symm
      clear a1
      go_wp2_with (at_builtin; refine wpList_append_own _ rfl _ _ 26 rfl w.heap.size 28 i0 (.int .u32 0) 1 4 Try.underlying26 hi hz0 hz1 hz2 rfl (by decide) _ _ _ rfl (hown.alloc _) ⟨wr.heap.size, 0, none⟩ 1 1 [_] rfl rfl (cell_one_new _ _ _) (by simp [Value.oneCell']) (by unfold maxLen; omega) (by omega) (by have := hB.size; simp; omega) ?_; intro v' w2 hown' hgrow hgone; clear hgone)
      have hb2 := hB.trans (appended_plain hown hB.size hgrow).2
      have hown2 : w2.ownsRow w.heap.size 28 1 v' (Z ++ [(m + c) % 4294967296]).length (u32s (Z ++ [(m + c) % 4294967296])) := by rw [u32s_snoc, ← e1.out]; simpa using hown'
      have hle : (m + c) / 4294967296 ≤ 2147483648 := by omega
      clear hown' hgrow
      go_roundw
      case rel => exact ⟨j + 1, (m + c) / 4294967296, Z ++ [(m + c) % 4294967296], by omega, by go_num, by rw [e2.out], hle, hN.out, hown2, hb2⟩
      case measure => simp [intOf]; omega
    · have hjM : j = xs.length + 1 := by omega
      have hok' := hok.out
      rw [← HP.out, hjM] at hok'
      have hval := shlOk_all hr.limbs hok'
      have HV := Lib.hid hval
      have hlm := hok.out.1
      obtain ⟨Av, capv, rfl⟩ := own_form hown
      have ct := cut_own hown hlm
      clear hval hjM hown hok'
      go_wp2_with fail
      refine ct.mono ?_
      rintro e w' ⟨⟨v', rfl, hv'⟩, hw⟩
      obtain rfl := hw.symm
      clear ct
      rw [HV.out] at hv'
      have HO := Lib.hid hv'
      clear hv'
      go_wp2
      go_ret
      exact ⟨⟨_, rfl, HO.out⟩, hB⟩

set_option maxHeartbeats 1000000 in
theorem rshl_any (A : Option Addr) (cap : Nat) (xs : List Nat) (k : Int) (w : World) (hr : Rd w w.heap.size A xs) (hc : xs.length ≤ maxLen) (hk3 : k ≤ 2097152) :
    Calls Try.prog 32 #[.slice A xs.length cap, .int .i64 k] w fun e w' => (∃ v, e = .returned v ∧ Own w' w.heap.size v (sShl xs k)) ∧ Below w.heap.size w w' := by
  rcases hx : mayb xs with _ | _
  · have hs := Lib.hid (sShl_no1 (k := k) hx)
    have c1 := rmay_is cap hr hc hx
    clear hx
    go_enter Try.func32, Try.ntmps32
    go_wp2_with fail
    refine c1.mono ?_
    rintro e w' ⟨rfl, hw⟩
    obtain rfl := hw.symm
    clear c1
    go_wp2
    go_ret
    exact ⟨⟨_, rfl, by rw [hs.out]; exact Own.nil _ _⟩, Below.refl _ _⟩
  have c1 := rmay_is cap hr hc hx
  rcases Int.lt_or_le k 0 with h | h
  · have hs := Lib.hid (sShl_no2 (xs := xs) h)
    have hk0 : decide (k < 0) = true := decide_eq_true h
    clear hx
    go_enter Try.func32, Try.ntmps32
    go_wp2_with fail
    refine c1.mono ?_
    rintro e w' ⟨rfl, hw⟩
    obtain rfl := hw.symm
    clear c1
    go_wp2
    go_ret
    exact ⟨⟨_, rfl, by rw [hs.out]; exact Own.nil _ _⟩, Below.refl _ _⟩
  rcases Nat.eq_zero_or_pos xs.length with h0 | h0
  · obtain rfl : xs = [] := List.eq_nil_of_length_eq_zero h0
    have hs := Lib.hid (sShl_nil k)
    have hk0 : decide (k < 0) = false := decide_eq_false (by omega)
    clear hx
    go_enter Try.func32, Try.ntmps32
    go_wp2_with fail
    refine c1.mono ?_
    rintro e w' ⟨rfl, hw⟩
    obtain rfl := hw.symm
    clear c1
    go_wp2
    go_ret
    exact ⟨⟨_, rfl, by rw [hs.out]; exact Own.nil _ _⟩, Below.refl _ _⟩
  obtain ⟨n, rfl⟩ := Int.eq_ofNat_of_zero_le h
  rw [sShl_yes hx]
  exact rshl_yes A cap xs n w hr hx h0 (by omega)

end Go.Proofs.Ytdbmandbddechaa

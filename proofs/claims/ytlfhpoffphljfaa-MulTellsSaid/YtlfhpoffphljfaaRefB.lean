/- Contracts of the document's own answers of layer 1: Add, Sub, Low. -/
import Derived.Test.YtlfhpoffphljfaaNatT
import Derived.Test.YtlfhpoffphljfaaRefA
namespace Go.Proofs.Ytlfhpoffphljfaa
open Go.RowKit

set_option linter.unusedVariables false

/-- after k rounds of a sum -/
def AddOk (xs ys : List Nat) (k c : Nat) (O : List Nat) : Prop := Limbs O ∧ O.length = k ∧ c ≤ 1 ∧ val O + 4294967296 ^ k * c = val (xs.take k) + val (ys.take k)
theorem addOk_zero (xs ys : List Nat) : AddOk xs ys 0 0 [] := ⟨limbs_nil, rfl, by decide, by simp [val]⟩
theorem addOk_next {xs ys O : List Nat} {k c x y : Nat} (h : AddOk xs ys k c O) (hx : xs[k]?.getD 0 = x) (hy : ys[k]?.getD 0 = y) (hxl : x < 4294967296) (hyl : y < 4294967296) : AddOk xs ys (k + 1) ((x + y + c) / 4294967296) (O ++ [(x + y + c) % 4294967296]) := by
  obtain ⟨h1, h2, h3, h4⟩ := h
  refine ⟨h1.append (Limbs.one (Nat.mod_lt _ (by decide))), by simp [h2], by omega, ?_⟩
  rw [val_snoc, h2, val_take_succ, val_take_succ, hx, hy]
  have hd := Nat.mod_add_div (x + y + c) 4294967296
  generalize hs : x + y + c = s at hd ⊢
  rw [Nat.pow_succ, Nat.mul_assoc, Nat.add_assoc, ← Nat.mul_add, hd, ← hs, Nat.mul_add, Nat.mul_add]
  omega
theorem addOk_all {xs ys O : List Nat} {M c : Nat} (hx : Limbs xs) (hy : Limbs ys) (h : AddOk xs ys (M + 1) c O) (h1 : xs.length ≤ M) (h2 : ys.length ≤ M) : val O = val xs + val ys := by
  obtain ⟨_, _, h3, h4⟩ := h
  rw [List.take_of_length_le (Nat.le_succ_of_le h1), List.take_of_length_le (Nat.le_succ_of_le h2)] at h4
  have a := val_pow hx h1
  have b := val_pow hy h2
  rw [Nat.pow_succ] at h4
  generalize 4294967296 ^ M = p at *
  have hc : c = 0 ∨ c = 1 := by omega
  rcases hc with rfl | rfl
  · rw [Nat.mul_zero] at h4; exact h4
  · rw [Nat.mul_one] at h4; omega

/-- after k rounds of a difference -/
def SubOk (xs ys : List Nat) (k c : Nat) (O : List Nat) : Prop := Limbs O ∧ O.length = k ∧ c ≤ 1 ∧ val O + val (ys.take k) = val (xs.take k) + 4294967296 ^ k * c
theorem subOk_zero (xs ys : List Nat) : SubOk xs ys 0 0 [] := ⟨limbs_nil, rfl, by decide, by simp [val]⟩
theorem subOk_next {xs ys O : List Nat} {k c x y : Nat} (h : SubOk xs ys k c O) (hx : xs[k]?.getD 0 = x) (hy : ys[k]?.getD 0 = y) (hxl : x < 4294967296) (hyl : y < 4294967296) : SubOk xs ys (k + 1) (1 - (4294967296 + x - y - c) / 4294967296) (O ++ [(4294967296 + x - y - c) % 4294967296]) := by
  obtain ⟨h1, h2, h3, h4⟩ := h
  refine ⟨h1.append (Limbs.one (Nat.mod_lt _ (by decide))), by simp [h2], by omega, ?_⟩
  rw [val_snoc, h2, val_take_succ, val_take_succ, hx, hy]
  have hd : (4294967296 + x - y - c) % 4294967296 + y + c = x + 4294967296 * (1 - (4294967296 + x - y - c) / 4294967296) := by omega
  generalize (4294967296 + x - y - c) % 4294967296 = m at hd ⊢
  generalize 1 - (4294967296 + x - y - c) / 4294967296 = q at hd ⊢
  have := congrArg (4294967296 ^ k * ·) hd
  simp only [Nat.mul_add] at this
  rw [Nat.pow_succ, Nat.mul_assoc]
  omega
theorem subOk_all {xs ys O : List Nat} {c : Nat} (h : SubOk xs ys xs.length c O) (hl : ys.length ≤ xs.length) (hv : val ys ≤ val xs) : val O = val xs - val ys := by
  obtain ⟨h1, h2, h3, h4⟩ := h
  rw [List.take_of_length_le (Nat.le_refl _), List.take_of_length_le hl] at h4
  have hlt := val_lt h1
  rw [h2] at hlt
  have hc : c = 0 ∨ c = 1 := by omega
  rcases hc with rfl | rfl
  · omega
  · rw [Nat.mul_one] at h4; omega

theorem own_formR {w : World} {B : Nat} {e : TypeId} {v : Value} {n : Nat} {xs : List Value} (h : w.ownsRow B e 1 v n xs) : ∃ A cap, v = .slice A n cap := by
  rcases h.2 with ⟨rfl, h0⟩ | ⟨g, cap, cur, rfl, _⟩
  · exact ⟨none, 0, by rw [h0]⟩
  · exact ⟨_, cap, rfl⟩

set_option maxHeartbeats 2000000 in
theorem radd_yes (A A' : Option Addr) (cap cap' : Nat) (xs ys : List Nat) (w : World) (hr : Rd w w.heap.size A xs) (hr' : Rd w w.heap.size A' ys) (hx : mayb xs = true) (hy : mayb ys = true) :
    Calls Try.prog 54 #[.slice A xs.length cap, .slice A' ys.length cap'] w fun e w' => (∃ v, e = .returned v ∧ Own w' w.heap.size v (clip (val xs + val ys))) ∧ Below w.heap.size w w' := by
  have hxm := (mayb_iff.1 hx).1
  have hym := (mayb_iff.1 hy).1
  obtain ⟨i0, hi, hz0, hz1, hz2⟩ := info_parts info32
  have c1 := rmay_is cap hr (by unfold maxLen; omega) hx
  have c2 := rmay_is cap' hr' (by unfold maxLen; omega) hy
  clear hx hy
  go_enter Try.func54, Try.ntmps54
  go_wp2_with fail
  refine c1.mono ?_
  rintro e w' ⟨rfl, hw⟩
  obtain rfl := hw.symm
  go_wp2_with fail
  refine c2.mono ?_
  rintro e w' ⟨rfl, hw⟩
  obtain rfl := hw.symm
  clear c1 c2
  go_wp2_with fail
  go_loopw [5, 6, 7] (fun o cv i wr => ∃ (k c : Nat) (O : List Nat), k ≤ max xs.length ys.length + 1 ∧ i = .int .i64 (k : Int) ∧ cv = .int .u64 (c : Int) ∧ c ≤ 1 ∧ Hid (AddOk xs ys k c O) ∧ wr.ownsRow w.heap.size 28 1 o O.length (u32s O) ∧ Below w.heap.size w wr) (fun _ _ i _ => max xs.length ys.length + 1 - (intOf i).toNat)
  case atStart => exact ⟨0, 0, [], Nat.zero_le _, rfl, rfl, by decide, addOk_zero xs ys, World.ownsRow_nil _ _ _ _, Below.refl _ _⟩
  case round =>
    obtain ⟨k, c, O, hk, rfl, rfl, hc, hok, hown, hB⟩ := hrel
    by_cases hlt : k ≤ max xs.length ys.length
    · have hxk := hr.limbs.getD k
      have hyk := hr'.limbs.getD k
      have hol : O.length ≤ 65536 := by have := hok.out.2.1; omega
      have a1 := at_any A cap xs k wr _ (hr.below hB (Nat.le_refl _)) (by unfold maxLen; omega)
      have a2 := at_any A' cap' ys k wr _ (hr'.below hB (Nat.le_refl _)) (by unfold maxLen; omega)
      obtain ⟨x, hxe⟩ : ∃ x, xs[k]?.getD 0 = x := ⟨_, rfl⟩
      obtain ⟨y, hye⟩ : ∃ y, ys[k]?.getD 0 = y := ⟨_, rfl⟩
      rw [hxe] at a1 hxk
      rw [hye] at a2 hyk
      have hn := Lib.hid (addOk_next hok.out hxe hye hxk hyk)
      clear hxe hye
      have e1 := Lib.hid (show (((x : Int) + y + c) % 4294967296 : Int) = (((x + y + c) % 4294967296 : Nat) : Int) from by omega)
      have e2 := Lib.hid (show (((x : Int) + y + c) / 4294967296 : Int) = (((x + y + c) / 4294967296 : Nat) : Int) from by omega)
      go_wp2_with fail
      refine a1.mono ?_
      rintro e w' ⟨rfl, hw⟩
      obtain rfl := hw.symm
      go_wp2_with fail
      refine a2.mono ?_
      rintro e w' ⟨rfl, hw⟩
      obtain rfl := hw.symm
      clear a1 a2
      go_wp2_with (at_builtin; refine wpList_append_own _ rfl _ _ 26 rfl w.heap.size 28 i0 (.int .u32 0) 1 4 Try.underlying26 hi hz0 hz1 hz2 rfl (by decide) _ _ _ rfl (hown.alloc _) ⟨wr.heap.size, 0, none⟩ 1 1 [_] rfl rfl (cell_one_new _ _ _) (by simp [Value.oneCell']) (by unfold maxLen; omega) (by omega) (by have := hB.size; simp; omega) ?_; intro v' w2 hown' hgrow hgone; clear hgone)
      have hb2 := hB.trans (appended_plain hown hB.size hgrow).2
      have hown2 : w2.ownsRow w.heap.size 28 1 v' (O ++ [(x + y + c) % 4294967296]).length (u32s (O ++ [(x + y + c) % 4294967296])) := by rw [u32s_snoc, ← e1.out]; simpa using hown'
      have hle : (x + y + c) / 4294967296 ≤ 1 := by omega
      clear hown' hgrow
      go_roundw
      case rel => exact ⟨k + 1, (x + y + c) / 4294967296, O ++ [(x + y + c) % 4294967296], by omega, by go_num, by rw [e2.out], hle, hn.out, hown2, hb2⟩
      case measure => simp [intOf]; omega
    · have hkM : k = max xs.length ys.length + 1 := by omega
      have hval := addOk_all hr.limbs hr'.limbs (hkM ▸ hok.out) (by omega) (by omega)
      have HV := Lib.hid hval
      have hlm := hok.out.1
      obtain ⟨Av, capv, rfl⟩ := own_formR hown
      have ct := cut_own hown hlm
      clear hval hkM hown
      go_wp2_with fail
      refine ct.mono ?_
      rintro e w' ⟨⟨v', rfl, hv'⟩, hw⟩
      obtain rfl := hw.symm
      clear ct
      rw [HV.out] at hv'
      have HO := Lib.hid hv'
      clear hv'
      go_wp2
      go_ret
      exact ⟨⟨_, rfl, HO.out⟩, hB⟩

end Go.Proofs.Ytlfhpoffphljfaa

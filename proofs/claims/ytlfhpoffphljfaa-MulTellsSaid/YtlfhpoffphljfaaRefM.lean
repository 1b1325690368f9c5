/- References of layer 2: trim, Mul, Small. -/
import Derived.Deep.QuietTactic
import Derived.BigQuiet
import Derived.Test.YtlfhpoffphljfaaRefA
import Derived.Test.YtlfhpoffphljfaaMulQ
namespace Go.Proofs.Ytlfhpoffphljfaa
open Go.RowKit Go.Shelf

set_option linter.unusedVariables false

/-- What the reference's trim hands back. -/
def trimV (A : Option Addr) (k cap : Nat) : Value := if 65536 < k then .slice none 0 0 else .slice A k cap
theorem trimV_no {A : Option Addr} {n k cap : Nat} (h : n = k) (h2 : 65536 < k) : Value.slice none 0 0 = trimV A n cap := by unfold trimV; rw [if_pos (by omega)]
theorem trimV_yes {A : Option Addr} {n k cap : Nat} (h : n = k) (h2 : ¬ 65536 < k) : Value.slice A k cap = trimV A n cap := by unfold trimV; rw [if_neg (by omega), h]
theorem trimV_own {w : World} {B : Nat} {A : Option Addr} {cap n : Nat} (h : Own w B (.slice A (lim n).length cap) (lim n)) : Own w B (trimV A (lim n).length cap) (clip n) := by
  unfold trimV clip
  by_cases h2 : (lim n).length ≤ 65536
  · rw [if_neg (by omega), if_pos h2]; exact h
  · rw [if_pos (by omega), if_neg h2]; exact Own.nil _ _

set_option maxHeartbeats 400000 in
theorem rtrim_any (A : Option Addr) (cap : Nat) (xs : List Nat) (w : World) (B : Nat) (hr : Rd w B A xs) (hc : xs.length ≤ cap) (hle : cap ≤ maxLen) :
    Calls Try.prog 53 #[.slice A xs.length cap] w fun e w' => e = .returned (trimV A (lim (val xs)).length cap) ∧ w' = w := by
  unfold maxLen at hle
  go_enter Try.func53, Try.ntmps53
  go_wp2
  go_loop [0] (fun v => ∃ k : Nat, k ≤ xs.length ∧ v = .slice A k cap ∧ Hid (∀ j, k ≤ j → j < xs.length → xs[j]?.getD 0 = 0)) (fun v => lenOf v)
  case atStart => exact ⟨xs.length, Nat.le_refl _, rfl, fun j h1 h2 => by omega⟩
  case round =>
    obtain ⟨k, hk, rfl, hz⟩ := hrel
    rcases Nat.eq_zero_or_pos k with h0 | h0
    · subst h0
      go_wp2
      go_ret
      exact ⟨ret_val (trimV_yes (by rw [trim_spec hr.limbs hk hz.out (.inl rfl)]; rfl) (by omega)), rfl⟩
    · obtain ⟨b, off, rfl, hlt, hcell⟩ := hr.2 (by omega)
      have hcl := hcell (k - 1) (by omega)
      have hl := hr.limbs.getD (k - 1)
      have hk0 : (((k : Nat) : Int) == 0) = false := beq_eq_false_iff_ne.2 (by omega)
      clear hcell
      by_cases hx : xs[k - 1]?.getD 0 = 0
      · have hx' : (((xs[k - 1]?.getD 0 : Nat) : Int) == 0) = true := by simp [hx]
        have hX := Lib.hid hx
        clear hx
        go_wp2
        go_round
        case rel => exact ⟨k - 1, by omega, rfl, fun j h1 h2 => by rcases Nat.lt_or_ge j k with h3 | h3; (obtain rfl : j = k - 1 := by omega); exact hX.out; exact hz.out j h3 h2⟩
        case measure => simp [lenOf]; omega
      · have hx' : (((xs[k - 1]?.getD 0 : Nat) : Int) == 0) = false := by simp; omega
        have hL : Hid ((lim (val xs)).length = k) := by rw [trim_spec hr.limbs hk hz.out (.inr hx), List.length_take]; show min k _ = k; omega
        by_cases hM : 65536 < k
        · go_wp2
          go_ret
          exact ⟨ret_val (trimV_no hL.out hM), rfl⟩
        · go_wp2
          go_ret
          exact ⟨ret_val (trimV_yes hL.out hM), rfl⟩

set_option maxHeartbeats 4000000 in
theorem rsmall_any (A : Option Addr) (cap : Nat) (xs : List Nat) (m a : Nat) (w : World) (hr : Rd w w.heap.size A xs) (hc : xs.length ≤ maxLen) (hm : m < 4294967296) (ha : a < 4294967296) :
    Calls Try.prog 36 #[.slice A xs.length cap, .int .u32 (m : Int), .int .u32 (a : Int)] w (NewL w (sSmall xs m a)) := by
  by_cases hx : mayb xs = true
  · obtain ⟨i0, hi, hz0, hz1, hz2⟩ := info_parts info32
    have hxm := (mayb_iff.1 hx).1
    have c := rmay_is cap hr hc hx
    have hs := Lib.hid (sSmall_yes (m := m) (a := a) hx)
    clear hx
    go_enter Try.func36, Try.ntmps36
    go_wp2_with fail
    with_reducible refine c.mono ?_
    rintro e w' ⟨rfl, hw⟩
    obtain rfl := hw.symm
    clear c
    go_wp2_with fail
    go_loopw [7, 8, 9] (fun o cv i wr => ∃ (k c : Nat) (O : List Nat), k ≤ xs.length ∧ i = .int .i64 (k : Int) ∧ cv = .int .u64 (c : Int) ∧ SmI xs m a k c O ∧ wr.ownsRow w.heap.size 28 1 o O.length (u32s O) ∧ Below w.heap.size w wr) (fun _ _ i _ => xs.length - (intOf i).toNat)
    case atStart => exact ⟨0, a, [], Nat.zero_le _, rfl, rfl, SmI.start xs m ha, World.ownsRow_nil _ _ _ _, Below.refl _ _⟩
    case round =>
      obtain ⟨k, c, O, hk, rfl, rfl, hI, hown, hB⟩ := hrel
      have hol : O.length ≤ 65536 := by have := hI.1; omega
      have hcc := hI.2.2.1
      by_cases hlt : k < xs.length
      · obtain ⟨b, o, rfl, hb, hcell⟩ := hr.2 (by omega)
        have hyc := (hB.cell (p := ⟨b, o + k, none⟩) hb).trans (hcell k hlt)
        have hyl := hr.limbs.getD k
        generalize hy : xs[k]?.getD 0 = y at *
        obtain ⟨p, hp⟩ : ∃ p : Nat, p = y * m := ⟨_, rfl⟩
        have hbd := sm_bound hyl hm hcc
        rw [← hp] at hbd
        obtain ⟨hbd1, hbd2⟩ := hbd
        have hpi : (y : Int) * (m : Int) = (p : Int) := by rw [hp]; simp
        have hst := Lib.hid (hI.step (s := p + c) (by rw [hy, hp]) hbd2)
        have e1 := Lib.hid (show ((p : Int) + c) % 4294967296 = (((p + c) % 4294967296 : Nat) : Int) from by omega)
        have e2 := Lib.hid (show ((p : Int) + c) / 4294967296 = (((p + c) / 4294967296 : Nat) : Int) from by omega)
        clear hy hp hI hcell hr
        go_wp2_with (at_builtin; refine wpList_append_own _ rfl _ _ 26 rfl w.heap.size 28 i0 (.int .u32 0) 1 4 Try.underlying26 hi hz0 hz1 hz2 rfl (by decide) _ _ _ rfl (hown.alloc _) ⟨wr.heap.size, 0, none⟩ 1 1 [_] rfl rfl (cell_one_new _ _ _) (by simp [Value.oneCell']) (by unfold maxLen; omega) (by omega) (by have := hB.size; simp; omega) ?_; intro v' w2 hown' hgrow hgone; clear hgone)
        have hb2 := hB.trans (appended_plain hown hB.size hgrow).2
        have hown2 : w2.ownsRow w.heap.size 28 1 v' (O ++ [(p + c) % 4294967296]).length (u32s (O ++ [(p + c) % 4294967296])) := by rw [u32s_snoc, ← e1.out]; simpa using hown'
        clear hown' hgrow
        go_roundw
        case rel => exact ⟨k + 1, (p + c) / 4294967296, _, by omega, by go_num, by rw [e2.out], hst.out, hown2, hb2⟩
        case measure => simp [intOf]; omega
      · obtain rfl : k = xs.length := by omega
        have hval := hI.done
        have HV := Lib.hid hval.1
        have HL := Lib.hid hval.2
        clear hval hI hr
        go_wp2_with (at_builtin; refine wpList_append_own _ rfl _ _ 26 rfl w.heap.size 28 i0 (.int .u32 0) 1 4 Try.underlying26 hi hz0 hz1 hz2 rfl (by decide) _ _ _ rfl (hown.alloc _) ⟨wr.heap.size, 0, none⟩ 1 1 [_] rfl rfl (cell_one_new _ _ _) (by simp [Value.oneCell']) (by unfold maxLen; omega) (by omega) (by have := hB.size; simp; omega) ?_; intro v' w2 hown' hgrow hgone; clear hgone)
        have hb2 := hB.trans (appended_plain hown hB.size hgrow).2
        have hown2 : Own w2 w.heap.size v' (O ++ [c]) := by unfold Own; rw [u32s_snoc]; simpa using hown'
        clear hown' hgrow hown hB
        obtain ⟨A2, cap2, rfl, h1, h2, hrd⟩ := hown2.rd HL.out
        have ct := rtrim_any _ _ _ w2 _ hrd h1 h2
        have hfin := hown2.trimmedAny HL.out
        rw [HV.out] at ct hfin
        have HF := Lib.hid (trimV_own hfin)
        have HB := Lib.hid hb2
        clear hown2 hrd hfin hb2 h1 h2
        go_wp2_with fail
        with_reducible refine ct.mono ?_
        rintro e wn ⟨rfl, hw⟩
        obtain rfl := hw.symm
        clear ct
        go_wp2
        go_ret
        exact ⟨⟨_, rfl, by rw [hs.out]; exact HF.out⟩, HB.out⟩
  · have hs := Lib.hid (sSmall_no (m := m) (a := a) (by simpa using hx))
    have c := rmay_is cap hr hc (b := false) (by simpa using hx)
    clear hx hc
    go_enter Try.func36, Try.ntmps36
    go_wp2_with fail
    with_reducible refine c.mono ?_
    rintro e w' ⟨rfl, hw⟩
    obtain rfl := hw.symm
    clear c
    go_wp2
    go_ret
    exact ⟨⟨_, rfl, by rw [hs.out]; exact Own.nil _ _⟩, Below.refl _ w⟩

end Go.Proofs.Ytlfhpoffphljfaa

/- Contracts: div's trim, shifted, takeTimes, putBack. -/
import Derived.Test.YtidflhonhekmjaaPackM
import Derived.Test.YtidflhonhekmjaaDivMath
namespace Go.Proofs.Ytidflhonhekmjaa
open Go.RowKit Go.Shelf

set_option linter.unusedVariables false

/-- What div's trim hands back. -/
def trimV (A : Option Addr) (k cap : Nat) : Value := if k = 0 then .slice none 0 0 else .slice A k cap
theorem trimV_no {A : Option Addr} {k cap : Nat} (h : k = 0) : Value.slice none 0 0 = trimV A k cap := by unfold trimV; rw [if_pos h]
theorem trimV_yes {A : Option Addr} {k k' cap : Nat} (h : k' = k) (h0 : 0 < k) : Value.slice A k cap = trimV A k' cap := by subst h; unfold trimV; rw [if_neg (by omega)]
theorem trimV_own {w : World} {B : Nat} {A : Option Addr} {cap : Nat} {xs : List Nat} (h : Own w B (.slice A xs.length cap) xs) : Own w B (trimV A xs.length cap) xs := by
  unfold trimV
  split
  · rename_i h0; rw [List.eq_nil_of_length_eq_zero h0]; exact Own.nil _ _
  · exact h

set_option maxHeartbeats 400000 in
/-- trim hands back the first places, without 0s behind. -/
theorem dtrim_any (A : Option Addr) (cap : Nat) (xs : List Nat) (w : World) (B : Nat) (hr : Rd w B A xs) (hc : xs.length ≤ cap) (hle : cap ≤ maxLen) :
    Calls Try.prog 60 #[.slice A xs.length cap] w fun e w' => e = .returned (trimV A (lim (val xs)).length cap) ∧ w' = w := by
  unfold maxLen at hle
  go_enter Try.func60, Try.ntmps60
  go_wp2
  go_loop [0] (fun v => ∃ k : Nat, k ≤ xs.length ∧ v = .slice A k cap ∧ Hid (∀ j, k ≤ j → j < xs.length → xs[j]?.getD 0 = 0)) (fun v => lenOf v)
  case atStart => exact ⟨xs.length, Nat.le_refl _, rfl, fun j h1 h2 => by omega⟩
  case round =>
    obtain ⟨k, hk, rfl, hz⟩ := hrel
    rcases Nat.eq_zero_or_pos k with h0 | h0
    · subst h0
      go_wp2
      go_ret
      exact ⟨ret_val (trimV_no (by rw [trim_spec hr.limbs hk hz.out (.inl rfl)]; rfl)), rfl⟩
    · obtain ⟨b, off, rfl, hlt, hcell⟩ := hr.2 (by omega)
      have hcl := hcell (k - 1) (by omega)
      have hl := hr.limbs.getD (k - 1)
      have hk0 : (((k : Nat) : Int) == 0) = false := beq_eq_false_iff_ne.2 (by omega)
      clear hcell
      by_cases hx : xs[k - 1]?.getD 0 = 0
      · have hx' : (((xs[k - 1]?.getD 0 : Nat) : Int) == 0) = true := by simp [hx]
        have hX := Lib.hid hx
        clear hx
        go_wp2
        go_round
        case rel => exact ⟨k - 1, by omega, rfl, fun j h1 h2 => by rcases Nat.lt_or_ge j k with h3 | h3; (obtain rfl : j = k - 1 := by omega); exact hX.out; exact hz.out j h3 h2⟩
        case measure => simp [lenOf]; omega
      · have hx' : (((xs[k - 1]?.getD 0 : Nat) : Int) == 0) = false := by simp; omega
        have hL : Hid ((lim (val xs)).length = k) := by rw [trim_spec hr.limbs hk hz.out (.inr hx), List.length_take]; show min k _ = k; omega
        go_wp2
        go_ret
        exact ⟨ret_val (trimV_yes hL.out h0), rfl⟩

/-! ### shifted -/
theorem or_low {m c r : Nat} (hm : 2 ^ r ∣ m) (hc : c < 2 ^ r) (h1 : m < 18446744073709551616) (h2 : c < 18446744073709551616) : bits BinOp.or IntKind.u64 (m : Int) (c : Int) = (m : Int) + (c : Int) := by
  rw [u64_or_nat m c h1 h2]
  obtain ⟨q, rfl⟩ := hm
  rw [← Nat.two_pow_add_eq_or_of_lt hc]
  omega
theorem shift_carry {y c r : Nat} (hy : y < 4294967296) (hc : c < 2 ^ r) : (y * 2 ^ r + c) / 4294967296 < 2 ^ r := by
  rw [Nat.div_lt_iff_lt_mul (by decide)]
  have : (y + 1) * 2 ^ r ≤ 4294967296 * 2 ^ r := Nat.mul_le_mul_right _ hy
  rw [Nat.add_mul, Nat.one_mul] at this
  rw [Nat.mul_comm (2 ^ r)]
  omega
/-- What shifted hands back. -/
def ShiftPost (xs : List Nat) (r : Nat) (w : World) (e : Ending) (w' : World) : Prop :=
  (∃ v X, e = .returned v ∧ Own w' w.heap.size v X ∧ Limbs X ∧ X.length = xs.length + 1 ∧ val X = val xs * 2 ^ r) ∧ Below w.heap.size w w'

set_option maxHeartbeats 4000000 in
theorem shifted_any (A : Option Addr) (cap : Nat) (xs : List Nat) (r : Nat) (w : World) (hr : Rd w w.heap.size A xs) (hc : xs.length ≤ 65536) (hrl : r < 32) :
    Calls Try.prog 83 #[.slice A xs.length cap, .int .i64 (r : Int)] w (ShiftPost xs r w) := by
  obtain ⟨i0, hi, hz0, hz1, hz2⟩ := info_parts info32
  have r0 : (0 : Int) ≤ r := by omega
  have hp31 := pow31 hrl
  have HP31 := Lib.hid hp31
  clear hp31
  go_enter Try.func83, Try.ntmps83
  go_wp2_with (at_make; refine wpList_make_own _ rfl _ _ 23 rfl w.heap.size 26 i0 (.int .u32 0) 1 Try.underlying23 hi hz0 hz1 .i64 .i64 _ (xs.length + 1) rfl rfl (by omega) (by rw [hz2]; omega) (by unfold maxLen; omega) (Nat.le_refl _) ?_; intro w1 hown0 hgrow0)
  have hB0 : Below w.heap.size w w1 := (Below.refl _ w).grown hgrow0 (Nat.le_refl _) (fun _ h => by cases h)
  clear hgrow0
  go_loopw [5, 6, 16] (fun o cv i wr => ∃ (k c : Nat) (O : List Nat), k ≤ xs.length ∧ i = .int .i64 (k : Int) ∧ cv = .int .u64 (c : Int) ∧ SmI xs (2 ^ r) 0 k c O ∧ Hid (c < 2 ^ r) ∧ wr.ownsRow w.heap.size 26 1 o O.length (u32s O) ∧ Below w.heap.size w wr) (fun _ _ i _ => xs.length - (intOf i).toNat)
  case atStart => exact ⟨0, 0, [], Nat.zero_le _, rfl, rfl, SmI.start xs (2 ^ r) (by decide), Nat.two_pow_pos r, hown0, hB0⟩
  case round =>
    clear hown0 hB0
    obtain ⟨k, c, O, hk, rfl, rfl, hI, hcr, hown, hB⟩ := hrel
    have hol : O.length ≤ 65536 := by have := hI.1; omega
    have hcc := hI.2.2.1
    by_cases hlt : k < xs.length
    · obtain ⟨b, o, rfl, hb, hcell⟩ := hr.2 (by omega)
      have hyc := (hB.cell (p := ⟨b, o + k, none⟩) hb).trans (hcell k hlt)
      have hyl := hr.limbs.getD k
      generalize hy : xs[k]?.getD 0 = y at *
      have hab := shl_bound hyl hrl (c := c) (by have := hcr.out; have := HP31.out; omega)
      obtain ⟨m, hm⟩ : ∃ m : Nat, m = y * 2 ^ r := ⟨_, rfl⟩
      rw [← hm] at hab
      have t3 : (y : Int) * 2 ^ r = (m : Int) := by rw [hm]; simp
      have t4 : IntKind.u64.wrap ((y : Int) * 2 ^ r) = (m : Int) := by rw [t3]; exact IntWalk.u64_in _ (by omega)
      have t5 : bits BinOp.or IntKind.u64 (m : Int) (c : Int) = (m : Int) + (c : Int) := or_low (r := r) (by rw [hm]; exact Nat.dvd_mul_left _ _) hcr.out (by omega) (by omega)
      have hst := Lib.hid (hI.step (s := m + c) (by rw [hy, hm]) (by have := shift_carry hyl hcr.out; have := HP31.out; rw [hm]; omega))
      have hcn := Lib.hid (shift_carry hyl hcr.out)
      rw [← hm] at hcn
      have e1 := Lib.hid (show ((m : Int) + c) % 4294967296 = (((m + c) % 4294967296 : Nat) : Int) from by omega)
      have e2 := Lib.hid (show ((m : Int) + c) / 4294967296 = (((m + c) / 4294967296 : Nat) : Int) from by omega)
      clear hy hm hI hcell hr t3 hcr
      go_wp2_with (at_builtin; refine wpList_append_own _ rfl _ _ 23 rfl w.heap.size 26 i0 (.int .u32 0) 1 4 Try.underlying23 hi hz0 hz1 hz2 rfl (by decide) _ _ _ rfl (hown.alloc _) ⟨wr.heap.size, 0, none⟩ 1 1 [_] rfl rfl (cell_one_new _ _ _) (by simp [Value.oneCell']) (by unfold maxLen; omega) (by omega) (by have := hB.size; simp; omega) ?_; intro v' w2 hown' hgrow hgone; clear hgone)
      have hb2 := hB.trans (appended_plain hown hB.size hgrow).2
      have hown2 : w2.ownsRow w.heap.size 26 1 v' (O ++ [(m + c) % 4294967296]).length (u32s (O ++ [(m + c) % 4294967296])) := by rw [u32s_snoc, ← e1.out]; simpa using hown'
      clear hown' hgrow t4 t5
      go_roundw
      case rel => exact ⟨k + 1, (m + c) / 4294967296, _, by omega, by go_num, by rw [e2.out], hst.out, hcn.out, hown2, hb2⟩
      case measure => simp [intOf]; omega
    · obtain rfl : k = xs.length := by omega
      have hval := hI.done
      have hOl := Lib.hid hI.1
      have HV := Lib.hid hval.1
      have HL := Lib.hid hval.2
      clear hval hI hr hcr
      go_wp2_with (at_builtin; refine wpList_append_own _ rfl _ _ 23 rfl w.heap.size 26 i0 (.int .u32 0) 1 4 Try.underlying23 hi hz0 hz1 hz2 rfl (by decide) _ _ _ rfl (hown.alloc _) ⟨wr.heap.size, 0, none⟩ 1 1 [_] rfl rfl (cell_one_new _ _ _) (by simp [Value.oneCell']) (by unfold maxLen; omega) (by omega) (by have := hB.size; simp; omega) ?_; intro v' w2 hown' hgrow hgone; clear hgone)
      have hb2 := hB.trans (appended_plain hown hB.size hgrow).2
      have hown2 : Own w2 w.heap.size v' (O ++ [c]) := by unfold Own; rw [u32s_snoc]; simpa using hown'
      clear hown' hgrow hown hB
      go_ret
      exact ⟨⟨_, _, rfl, hown2, HL.out, by simp [hOl.out], HV.out⟩, hb2⟩

/-! ### takeTimes -/
/-- What takeTimes leaves. -/
def TTPost (Z : List Nat) (off : Nat) (ys : List Nat) (m g cz B : Nat) (w : World) (e : Ending) (w' : World) : Prop :=
  ∃ (b : Nat) (X : List Nat), b ≤ 1 ∧ e = .returned (.bool (decide (b = 1))) ∧ Same Z off (ys.length + 1) X ∧ seg X off (ys.length + 1) + val ys * m = seg Z off (ys.length + 1) + 4294967296 ^ (ys.length + 1) * b ∧ Own w' B (.slice (some ⟨g, 0, none⟩) X.length cz) X ∧ Only g w w'

set_option maxHeartbeats 2000000 in
theorem takeTimes_any (g off cp cz : Nat) (A : Option Addr) (cap : Nat) (ys Z : List Nat) (m : Nat) (w : World) (B : Nat) (hO : Own w B (.slice (some ⟨g, 0, none⟩) Z.length cz) Z) (hZ : Limbs Z) (hoff : off + ys.length < Z.length) (hr : Far w g A ys) (hl : ys.length ≤ 2097152) (hm : m < 4294967296) :
    Calls Try.prog 93 #[.slice (some ⟨g, off, none⟩) (ys.length + 1) cp, .slice A ys.length cap, .int .u64 (m : Int)] w (TTPost Z off ys m g cz B w) := by
  go_enter Try.func93, Try.ntmps93
  go_wp2
  go_loopw [7, 14] (fun o i wr => ∃ (k oo : Nat) (X : List Nat), k ≤ ys.length ∧ i = .int .i64 (k : Int) ∧ o = .int .u64 (oo : Int) ∧ TTI Z off ys m k oo X ∧ Own wr B (.slice (some ⟨g, 0, none⟩) X.length cz) X ∧ Only g w wr) (fun _ i _ => ys.length - (intOf i).toNat)
  case atStart => exact ⟨0, 0, Z, Nat.zero_le _, rfl, rfl, TTI.start hZ off ys m, hO, Only.refl _ _⟩
  case round =>
    obtain ⟨k, oo, X, hk, rfl, rfl, hI, hX, hB⟩ := hrel
    have hoo : oo ≤ 4294967296 := hI.2.1
    have hxl : X.length = Z.length := hI.1.1
    by_cases hlt : k < ys.length
    · obtain ⟨b, o, rfl, hb, hcell⟩ := hr.2 (by omega)
      have hyc := (hB.cell (p := ⟨b, o + k, none⟩) hb).trans (hcell k hlt)
      have hxc := hX.cellAt (j := off + k) (by omega)
      have hxf := World.ownsRow.frozenAt hX (off + k)
      have hyl := hr.limbs.getD k
      have hx1 := hI.1.2.1.getD (off + k)
      generalize hy : ys[k]?.getD 0 = y at *
      generalize hx : X[off + k]?.getD 0 = x at *
      have hput := Lib.hid fun v => hX.put (j := off + k) (v := v)
      have hbe := Lib.hid fun v => hB.setCell (off + k) v
      obtain ⟨p, hp⟩ : ∃ p : Nat, p = y * m := ⟨_, rfl⟩
      have hbd := tt_bound hyl hm hoo
      rw [← hp] at hbd
      obtain ⟨hbd1, hbd2⟩ := hbd
      have hpi : (y : Int) * (m : Int) = (p : Int) := by rw [hp]; simp
      have hst := Lib.hid fun (d b : Nat) (h1 : d < 4294967296) (h2 : d + (oo + p) % 4294967296 = x + 4294967296 * b) (h3 : (oo + p) / 4294967296 + b ≤ 4294967296) => hI.step (s := oo + p) (x := d) (b := b) (by omega) (by rw [hy, hp]) h1 (by rw [hx]; exact h2) h3
      obtain ⟨t, ht⟩ : ∃ t : Nat, (oo + p) % 4294967296 = t := ⟨_, rfl⟩
      obtain ⟨u, hu⟩ : ∃ u : Nat, (oo + p) / 4294967296 = u := ⟨_, rfl⟩
      have ht1 : ((oo : Int) + (p : Int)) % 4294967296 = (t : Int) := by omega
      have hu1 : ((oo : Int) + (p : Int)) / 4294967296 = (u : Int) := by omega
      have htl : t < 4294967296 := by omega
      have hul : u ≤ 4294967295 := by omega
      have HT := Lib.hid ht
      have HU := Lib.hid hu
      clear hy hx hxl hcell hI hX hB hO hr hoff hp ht hu hbd2
      by_cases hs : t ≤ x
      · obtain ⟨d, hd⟩ : ∃ d : Nat, x = d + t := ⟨x - t, by omega⟩
        have hs2 := Lib.hid (hst.out d 0 (by omega) (by rw [HT.out]; omega) (by rw [HU.out]; omega))
        have e1 := Lib.hid (show ((x : Int) - (t : Int)) = (d : Int) from by omega)
        have e0 := Lib.hid (show (x : Int) - (t : Int) = ((x : Int) - (t : Int)) % 4294967296 from by omega)
        have e2 := Lib.hid (show (u : Int) + ((x : Int) - (t : Int)) / 9223372036854775808 = ((((oo + p) / 4294967296 + 0 : Nat)) : Int) from by rw [HU.out]; omega)
        have hsi : (t : Int) ≤ (x : Int) := by omega
        clear hd hs
        go_wp2
        go_roundw
        case rel =>
          refine ⟨k + 1, (oo + p) / 4294967296 + 0, X.set (off + k) d, by omega, by go_num, by first | rw [e2.out] | (rw [← e2.out]; congr 1; omega), hs2.out, ?_, hbe.out _⟩
          have := hput.out d
          unfold lv at this
          rw [← e1.out] at this
          exact this
        case measure => simp [intOf]; omega
      · obtain ⟨q, hq, q1, q2, q3⟩ := wrap_neg (x := x) (s := t) (by omega) (by omega)
        have hs2 := Lib.hid (hst.out (q % 4294967296) 1 (by omega) (by rw [HT.out]; omega) (by rw [HU.out]; omega))
        have e1 := Lib.hid (show ((q : Int)) % 4294967296 = ((q % 4294967296 : Nat) : Int) from by omega)
        have e2 := Lib.hid (show (u : Int) + (q : Int) / 9223372036854775808 = ((((oo + p) / 4294967296 + 1 : Nat)) : Int) from by rw [HU.out]; omega)
        have hq9 : (q : Int) / 9223372036854775808 = 1 := by omega
        clear q1 q2 hs
        go_wp2
        go_roundw
        case rel =>
          refine ⟨k + 1, (oo + p) / 4294967296 + 1, X.set (off + k) (q % 4294967296), by omega, by go_num, by first | rw [e2.out] | (rw [← e2.out]; congr 1; omega), hs2.out, ?_, hbe.out _⟩
          have := hput.out (q % 4294967296)
          unfold lv at this
          rw [← e1.out] at this
          exact this
        case measure => simp [intOf]; omega
    · obtain rfl : k = ys.length := by omega
      have hxc := hX.cellAt (j := off + ys.length) (by omega)
      have hxf := World.ownsRow.frozenAt hX (off + ys.length)
      have hx1 := hI.1.2.1.getD (off + ys.length)
      have hst := Lib.hid fun (d b : Nat) (h1 : d < 4294967296) (h2 : d + oo = X[off + ys.length]?.getD 0 + 4294967296 * b) => hI.done (x := d) (b := b) hoff h1 h2
      generalize hx : X[off + ys.length]?.getD 0 = x at *
      have hput := Lib.hid fun v => hX.put (j := off + ys.length) (v := v)
      have hbe := Lib.hid fun v => hB.setCell (off + ys.length) v
      clear hx hxl hI hX hB hO hr hoff
      by_cases hs : oo ≤ x
      · obtain ⟨d, hd⟩ : ∃ d : Nat, x = d + oo := ⟨x - oo, by omega⟩
        have hs2 := Lib.hid (hst.out d 0 (by omega) (by omega))
        have e1 := Lib.hid (show ((x : Int) - (oo : Int)) = (d : Int) from by omega)
        have hsi : (oo : Int) ≤ (x : Int) := by omega
        have hf : (((x : Int) - (oo : Int)) / 9223372036854775808 == 1) = false := beq_eq_false_iff_ne.2 (by omega)
        clear hd hs
        go_wp2
        go_ret
        refine ⟨0, X.set (off + ys.length) d, by omega, rfl, hs2.out.1, hs2.out.2, ?_, hbe.out _⟩
        have := hput.out d
        unfold lv at this
        rw [← e1.out] at this
        exact this
      · obtain ⟨q, hq, q1, q2, q3⟩ := wrap_neg (x := x) (s := oo) (by omega) (by omega)
        have hs2 := Lib.hid (hst.out (q % 4294967296) 1 (by omega) (by omega))
        have e1 := Lib.hid (show ((q : Int)) % 4294967296 = ((q % 4294967296 : Nat) : Int) from by omega)
        have hf : ((q : Int) / 9223372036854775808 == 1) = true := beq_iff_eq.2 (by omega)
        clear q1 q2 hs
        go_wp2
        go_ret
        refine ⟨1, X.set (off + ys.length) (q % 4294967296), by omega, rfl, hs2.out.1, hs2.out.2, ?_, hbe.out _⟩
        have := hput.out (q % 4294967296)
        unfold lv at this
        rw [← e1.out] at this
        exact this

/-! ### putBack -/
/-- What putBack leaves. -/
def PBPost (Z : List Nat) (off : Nat) (ys : List Nat) (g cz B : Nat) (w : World) (e : Ending) (w' : World) : Prop :=
  ∃ (q : Nat) (X : List Nat), e = .returned (.tuple #[]) ∧ Same Z off (ys.length + 1) X ∧ seg X off (ys.length + 1) + 4294967296 ^ (ys.length + 1) * q = seg Z off (ys.length + 1) + val ys ∧ Own w' B (.slice (some ⟨g, 0, none⟩) X.length cz) X ∧ Only g w w'

set_option maxHeartbeats 2000000 in
theorem putBack_any (g off cp cz : Nat) (A : Option Addr) (cap : Nat) (ys Z : List Nat) (w : World) (B : Nat) (hO : Own w B (.slice (some ⟨g, 0, none⟩) Z.length cz) Z) (hZ : Limbs Z) (hoff : off + ys.length < Z.length) (hr : Far w g A ys) (hl : ys.length ≤ 2097152) :
    Calls Try.prog 94 #[.slice (some ⟨g, off, none⟩) (ys.length + 1) cp, .slice A ys.length cap] w (PBPost Z off ys g cz B w) := by
  go_enter Try.func94, Try.ntmps94
  go_wp2
  go_loopw [4, 9] (fun c i wr => ∃ (k cc : Nat) (X : List Nat), k ≤ ys.length ∧ i = .int .i64 (k : Int) ∧ c = .int .u64 (cc : Int) ∧ AddI Z off ys k cc X ∧ Own wr B (.slice (some ⟨g, 0, none⟩) X.length cz) X ∧ Only g w wr) (fun _ i _ => ys.length - (intOf i).toNat)
  case atStart => exact ⟨0, 0, Z, Nat.zero_le _, rfl, rfl, AddI.start hZ off ys, hO, Only.refl _ _⟩
  case round =>
    obtain ⟨k, cc, X, hk, rfl, rfl, hI, hX, hB⟩ := hrel
    have hc1 : cc ≤ 1 := hI.2.1
    have hxl : X.length = Z.length := hI.1.1
    by_cases hlt : k < ys.length
    · obtain ⟨b, o, rfl, hb, hcell⟩ := hr.2 (by omega)
      have hyc := (hB.cell (p := ⟨b, o + k, none⟩) hb).trans (hcell k hlt)
      have hxc := hX.cellAt (j := off + k) (by omega)
      have hxf := World.ownsRow.frozenAt hX (off + k)
      have hyl := hr.limbs.getD k
      have hx1 := hI.1.2.1.getD (off + k)
      generalize hy : ys[k]?.getD 0 = y at *
      generalize hx : X[off + k]?.getD 0 = x at *
      have hput := Lib.hid fun v => hX.put (j := off + k) (v := v)
      have hbe := Lib.hid fun v => hB.setCell (off + k) v
      have e1 := Lib.hid (show ((cc : Int) + (x + y)) % 4294967296 = (((cc + x + y) % 4294967296 : Nat) : Int) from by omega)
      have e2 := Lib.hid (show ((cc : Int) + (x + y)) / 4294967296 = (((cc + x + y) / 4294967296 : Nat) : Int) from by omega)
      have hst := Lib.hid (hI.step (s := cc + x + y) (by omega) hr.limbs (by rw [hy, hx]))
      clear hy hx hxl hcell hI hX hB hO hr hoff
      go_wp2
      go_roundw
      case rel =>
        refine ⟨k + 1, (cc + x + y) / 4294967296, X.set (off + k) ((cc + x + y) % 4294967296), by omega, by go_num, by rw [e2.out], hst.out, ?_, hbe.out _⟩
        have := hput.out ((cc + x + y) % 4294967296)
        unfold lv at this
        rw [← e1.out] at this
        exact this
      case measure => simp [intOf]; omega
    · obtain rfl : k = ys.length := by omega
      have hxc := hX.cellAt (j := off + ys.length) (by omega)
      have hxf := World.ownsRow.frozenAt hX (off + ys.length)
      have hx1 := hI.1.2.1.getD (off + ys.length)
      have hst := Lib.hid (hI.wrap hoff)
      generalize hx : X[off + ys.length]?.getD 0 = x at *
      have hput := Lib.hid (hX.put (j := off + ys.length) (v := (x + cc) % 4294967296))
      have hbe := Lib.hid fun v => hB.setCell (off + ys.length) v
      have e1 := Lib.hid (show ((x : Int) + (cc : Int)) % 4294967296 = (((x + cc) % 4294967296 : Nat) : Int) from by omega)
      clear hx hxl hI hX hB hO hr hoff
      go_wp2
      go_end0
      obtain ⟨hs, q, he⟩ := hst.out
      refine ⟨q, _, rfl, hs, he, ?_, hbe.out _⟩
      have := hput.out
      unfold lv at this
      rw [← e1.out] at this
      exact this

end Go.Proofs.Ytidflhonhekmjaa

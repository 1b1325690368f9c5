/- Contract: the reference's Show. -/
import Derived.BigRegion
import Derived.KernelRfl
import Derived.Laws.IdiomStrings
import Derived.Lib.OwnKind
import Derived.Test.YtdkdgijcoialbaaGreatDoorBudT
import Derived.Test.YtdkdgijcoialbaaGreatDoorBudU
namespace Go.Proofs.YtdkdgijcoialbaaGreatDoor
open Go.RowKit Go.Shelf

set_option linter.unusedVariables false

theorem ble_le (p q : Nat) (h : Nat.ble (Nat.pow 10 p) (Nat.pow 2 q) = true) : 10 ^ p ≤ 2 ^ q := Nat.le_of_ble_eq_true h
theorem ble_le2 (p q : Nat) (h : Nat.ble (Nat.pow 2 q) (Nat.pow 10 p) = true) : 2 ^ q ≤ 10 ^ p := Nat.le_of_ble_eq_true h
theorem pw1 : ∃ p q : Nat, p = 97879 ∧ q = 325147 ∧ 10 ^ p ≤ 2 ^ q := ⟨97879, 325147, rfl, rfl, ble_le 97879 325147 (by kernel_rfl)⟩
theorem pw2 : ∃ p q : Nat, p = 789 ∧ q = 2621 ∧ 2 ^ q ≤ 10 ^ p := ⟨789, 2621, rfl, rfl, ble_le2 789 2621 (by kernel_rfl)⟩
/-- 10 to the power of (m times 0.30102999566) is not greater than 2 to the power of m. -/
theorem ten_two {m k : Nat} (h : k * 100000000000 ≤ m * 30102999566) : 10 ^ k ≤ 2 ^ m := by
  obtain ⟨p, q, hp, hq, hpq⟩ := pw1
  have h1 : k * q ≤ p * m := by
    have e1 : 30102999566 * q ≤ p * 100000000000 := by subst hp hq; decide
    have e2 : k * 100000000000 * q ≤ m * 30102999566 * q := Nat.mul_le_mul_right _ h
    have e3 : m * (30102999566 * q) ≤ m * (p * 100000000000) := Nat.mul_le_mul_left _ e1
    have e4 : k * q * 100000000000 ≤ p * m * 100000000000 := by
      calc k * q * 100000000000 = k * 100000000000 * q := by rw [Nat.mul_right_comm]
        _ ≤ m * 30102999566 * q := e2
        _ = m * (30102999566 * q) := Nat.mul_assoc _ _ _
        _ ≤ m * (p * 100000000000) := e3
        _ = p * m * 100000000000 := by rw [← Nat.mul_assoc, Nat.mul_comm m p]
    omega
  have hq0 : q ≠ 0 := by omega
  have h2 : (10 ^ k) ^ q ≤ (2 ^ m) ^ q := by
    calc (10 ^ k) ^ q = 10 ^ (k * q) := (Nat.pow_mul _ _ _).symm
      _ ≤ 10 ^ (p * m) := Nat.pow_le_pow_right (by decide) h1
      _ = (10 ^ p) ^ m := Nat.pow_mul _ _ _
      _ ≤ (2 ^ q) ^ m := Nat.pow_le_pow_left hpq m
      _ = (2 ^ m) ^ q := by rw [← Nat.pow_mul, ← Nat.pow_mul, Nat.mul_comm]
  exact (Nat.pow_le_pow_iff_left hq0).1 h2
theorem two_ten_of {m k : Nat} (h : 789 * m ≤ 2621 * k) : 2 ^ m ≤ 10 ^ k := by
  obtain ⟨p, q, hp, hq, hpq⟩ := pw2
  have h2 : p * m ≤ q * k := by subst hp hq; exact h
  have hp0 : q ≠ 0 := by omega
  have h3 : (2 ^ m) ^ q ≤ (10 ^ k) ^ q := by
    calc (2 ^ m) ^ q = (2 ^ q) ^ m := by rw [← Nat.pow_mul, ← Nat.pow_mul, Nat.mul_comm]
      _ ≤ (10 ^ p) ^ m := Nat.pow_le_pow_left hpq _
      _ = 10 ^ (p * m) := (Nat.pow_mul _ _ _).symm
      _ ≤ 10 ^ (q * k) := Nat.pow_le_pow_right (by decide) h2
      _ = (10 ^ k) ^ q := by rw [← Nat.pow_mul, Nat.mul_comm]
  exact (Nat.pow_le_pow_iff_left hp0).1 h3
/-- 2 to the power of m + 1 is not greater than 10 to the power of k + 2, where k is m times the logarithm's beginning, cut. -/
theorem two_ten {m k : Nat} (hm : m ≤ 2097152) (h : m * 30102999566 < (k + 1) * 100000000000) : 2 ^ (m + 1) ≤ 10 ^ (k + 2) :=
  two_ten_of (by omega)
theorem limb_pow (E : Nat) : 4294967296 ^ E = 2 ^ (32 * E) := by
  rw [Nat.pow_mul]
theorem ten_le {k E : Nat} (hE : E = 65536) (hk : k ≤ 631305) : 10 ^ k ≤ 4294967296 ^ E := by
  rw [limb_pow]
  exact ten_two (by omega)
theorem le_ten {k E : Nat} (hE : E = 65536) (hk : 631306 ≤ k) : 4294967296 ^ E ≤ 10 ^ k := by
  rw [limb_pow]
  exact two_ten_of (by omega)
/-- a number of so few digits is short -/
theorem ten_fits {n k : Nat} (hk : k ≤ 631305) (h : n < 10 ^ k) : (lim n).length ≤ 65536 := by
  obtain ⟨E, hE⟩ : ∃ E : Nat, E = 65536 := ⟨_, rfl⟩
  rw [← hE]
  exact lim_length_le.2 (Nat.lt_of_lt_of_le h (ten_le hE hk))
theorem ten_over {n k : Nat} (hk : 631306 ≤ k) (h : 10 ^ k ≤ n) : ¬ (lim n).length ≤ 65536 := by
  obtain ⟨E, hE⟩ : ∃ E : Nat, E = 65536 := ⟨_, rfl⟩
  rw [← hE, lim_length_le]
  have := le_ten hE hk
  omega
theorem may_lt {xs : List Nat} (hl : Limbs xs) (h : mayb xs = true) {k : Nat} (hk : 631306 ≤ k) : val xs < 10 ^ k := by
  obtain ⟨E, hE⟩ : ∃ E : Nat, E = 65536 := ⟨_, rfl⟩
  have h1 := val_lt hl
  have h2 : 4294967296 ^ xs.length ≤ 4294967296 ^ E := Nat.pow_le_pow_right (by decide) (by rw [hE]; exact (mayb_iff.1 h).1)
  exact Nat.lt_of_lt_of_le h1 (Nat.le_trans h2 (le_ten hE hk))
theorem info8 : (Tryz.prog.info? 5).map (fun i => (i.zero, i.size, i.bytes)) = some (some (.int .u8 0), 1, 1) := by kernel_rfl
/-- string(b), b a row of codes -/
theorem back_str {w : World} {g off cap : Nat} {R : List Nat} (hR : Codes R) (h : ∀ j, j < R.length → w.cell? ⟨g, off + j, none⟩ = some (bv (R[j]?.getD 0))) :
    (convert 80 9 (.slice (some ⟨g, off, none⟩) R.length cap)).run Tryz.prog w = .ok (.string (str R)) w := by
  have := run_convert_bytes_back (P := Tryz.prog) w 80 9 5 ⟨g, off, none⟩ cap (R.map UInt8.ofNat) Tryz.underlying80 Tryz.underlying5 Tryz.underlying9 (fun j hj => by
    have hj' : j < R.length := by simpa using hj
    rw [Addr.add_lit, h j hj', List.getElem_map, UInt8.toNat_ofNat', List.getElem?_eq_getElem hj', Nat.mod_eq_of_lt (hR _ (List.getElem_mem hj'))]
    rfl)
  rw [List.length_map] at this
  exact this

/-- the first i and the last i places exchanged -/
def Rev (D : List Nat) (i : Nat) (R : List Nat) : Prop := R.length = D.length ∧ ∀ j, j < D.length → R[j]?.getD 0 = if j < i ∨ D.length - i ≤ j then D[D.length - 1 - j]?.getD 0 else D[j]?.getD 0
theorem Rev.start (D : List Nat) : Rev D 0 D := ⟨rfl, fun j hj => by rw [if_neg (by omega)]⟩
theorem Rev.step {D R : List Nat} {i : Nat} (h : Rev D i R) (hi : 2 * (i + 1) ≤ D.length) : Rev D (i + 1) ((R.set i (R[D.length - 1 - i]?.getD 0)).set (D.length - 1 - i) (R[i]?.getD 0)) := by
  obtain ⟨h1, h2⟩ := h
  refine ⟨by simp [h1], fun j hj => ?_⟩
  have a1 := h2 i (by omega)
  have a2 := h2 (D.length - 1 - i) (by omega)
  rw [if_neg (by omega)] at a1 a2
  rw [a1, a2, List.getElem?_set]
  by_cases e1 : D.length - 1 - i = j
  · rw [if_pos e1, if_pos (by simp; omega), if_pos (by omega)]
    show D[i]?.getD 0 = _
    congr 2; omega
  · rw [if_neg e1, List.getElem?_set]
    by_cases e2 : i = j
    · rw [if_pos e2, if_pos (by omega), if_pos (by omega)]
      show D[D.length - 1 - i]?.getD 0 = _
      rw [e2]
    · rw [if_neg e2, h2 j hj]
      by_cases e3 : j < i ∨ D.length - i ≤ j
      · rw [if_pos e3, if_pos (by omega)]
      · rw [if_neg e3, if_neg (by omega)]
theorem Rev.done {D R : List Nat} {i : Nat} (h : Rev D i R) (hi : D.length < 2 * (i + 1)) (hi2 : 2 * i ≤ D.length) : R = D.reverse := by
  obtain ⟨h1, h2⟩ := h
  apply List.ext_getElem?
  intro j
  rcases Nat.lt_or_ge j D.length with hj | hj
  · have := h2 j hj
    rw [List.getElem?_eq_getElem (by omega), Option.getD_some] at this
    rw [List.getElem?_eq_getElem (by omega), List.getElem?_reverse hj, List.getElem?_eq_getElem (by omega), this]
    by_cases e : j < i ∨ D.length - i ≤ j
    · rw [if_pos e, List.getElem?_eq_getElem (by omega)]; rfl
    · rw [if_neg e, List.getElem?_eq_getElem (by omega)]
      have : D.length - 1 - j = j := by omega
      simp only [this, Option.getD_some]
  · rw [List.getElem?_eq_none (by omega), List.getElem?_eq_none (by simpa using hj)]

/-- the text of what may be; nothing of what may not -/
def sShow (xs : List Nat) : List Nat := if mayb xs then txt (val xs) else []
theorem sShow_yes {xs : List Nat} (h : mayb xs = true) : sShow xs = txt (val xs) := by unfold sShow; rw [h]; rfl
theorem sShow_no {xs : List Nat} (h : mayb xs = false) : sShow xs = [] := by unfold sShow; rw [h]; rfl

theorem ownB_form {w : World} {B n : Nat} {v : Value} {us : List Value} (h : w.ownsRow B 5 1 v n us) : ∃ A cap, v = .slice A n cap := by
  rcases h.2 with ⟨rfl, h0⟩ | ⟨g, cap, cur, rfl, _⟩
  · exact ⟨none, 0, by rw [h0]⟩
  · exact ⟨_, cap, rfl⟩
theorem rowB_below {w w' : World} {B n : Nat} {v : Value} {us : List Value} (h : w.ownsRow B 5 1 v n us) (hb : Below w.heap.size w w') : w'.ownsRow B 5 1 v n us := by
  refine ⟨h.1, ?_⟩
  rcases h.2 with h2 | ⟨g, cap, cur, e, hg, hh, r⟩
  · exact .inl h2
  · exact .inr ⟨g, cap, cur, e, hg, (hb.block g (Array.getElem?_eq_some_iff.1 hh).1).trans hh, r⟩
theorem own_past {w w2 : World} {B B' n : Nat} {e : TypeId} {v c : Value} {xs : List Nat} {us : List Value} {tmp : Obj} (hne : 95 ≠ e) (ho : w.ownsRow B e 1 v n us) (hc : Own w B' c xs) (hg : (w.alloc tmp).grownBy w2 v.ownBlock) : Own w2 B' c xs := by
  refine World.ownsRow.kept (World.ownsRow.alloc hc tmp) hg ?_
  rcases hu1 : c.ownBlock with _ | k
  · exact .inl rfl
  · right
    intro e
    obtain ⟨c1, f1, q1⟩ := Lib.ownsRow_kind hc k hu1
    obtain ⟨c2, f2, q2⟩ := Lib.ownsRow_kind ho k e.symm
    rw [q1] at q2
    injection q2 with q3
    injection q3 with _ q4 _
    exact absurd q4 hne
theorem appended_byte {w2 : World} {B n : Nat} {v' : Value} {D : List Nat} {c : Nat} (ho : w2.ownsRow B 5 1 v' (n + 1) (b8s D ++ [bv c])) (hn : D.length = n) : w2.ownsRow B 5 1 v' (D ++ [c]).length (b8s (D ++ [c])) := by
  rw [b8s_append, List.length_append, List.length_singleton, hn]
  exact ho

set_option maxRecDepth 100000 in
set_option maxHeartbeats 8000000 in
theorem rshow_pos (A : Option Addr) (cap : Nat) (xs : List Nat) (w : World) (hr : Rd w w.heap.size A xs) (hcc : xs.length ≤ cap) (hcm : cap ≤ maxLen) (hm : mayb xs = true) (h0 : 0 < xs.length) :
    Calls Tryz.prog 52 #[.slice A xs.length cap] w fun e w' => e = .returned (.string (str (txt (val xs)))) ∧ Below w.heap.size w w' := by
  obtain ⟨i0, hi, hz0, hz1, hz2⟩ := info_parts info8
  have c0 := rmay_any A cap xs w _ hr (by omega)
  rw [hm] at c0
  have hcan := mayb_canon hr.limbs hm
  have h65 := (mayb_iff.1 hm).1
  have hvp := hcan.val_pos (fun e => by rw [e] at h0; simp at h0)
  have hnl := nd_le (may_lt hr.limbs hm (Nat.le_refl 631306)) (by decide)
  generalize hV : val xs = V at *
  have q00 : ((xs.length : Int) == 0) = false := beq_eq_false_iff_ne.2 (by omega)
  have HV := Lib.hid hV
  have hx : lim (V / 10 ^ 0) = xs := by rw [Nat.pow_zero, Nat.div_one, ← hV, lim_val hcan]
  have HX := Lib.hid hx
  have HA0 : Hid (Arg w (.slice A xs.length cap) xs) := ⟨A, cap, rfl, hcc, hcm, hr⟩
  clear hV hx hr hcan hm
  go_enter Tryz.func52, Tryz.ntmps52
  go_wp2_with fail
  refine c0.mono ?_
  rintro e w' ⟨rfl, hw⟩
  obtain rfl := hw.symm
  clear c0
  go_wp2_with fail
  go_loopw [0, 3] (fun n s wr => ∃ (j : Nat) (D : List Nat), j ≤ nd V ∧ D.reverse = pad V j ∧ Arg wr n (lim (V / 10 ^ j)) ∧ wr.ownsRow w.heap.size 5 1 s D.length (b8s D) ∧ Below w.heap.size w wr) (fun _ s _ => nd V - lenOf s)
  case atStart => exact ⟨0, [], Nat.zero_le _, rfl, by rw [HX.out]; exact HA0.out, World.ownsRow_nil _ _ _ _, Below.refl _ _⟩
  case round =>
    obtain ⟨j, D, hj, hD, hn, hs, hb⟩ := hrel
    have hDl : D.length = j := by rw [← List.length_reverse, hD, pad_length]
    obtain ⟨A', cap', rfl, k1, k2, hrd⟩ := id hn
    by_cases hz : V / 10 ^ j = 0
    · have hjn : j = nd V := by
        have h1 : 0 < 10 ^ j := Nat.pow_pos (by decide)
        have h2 := (Nat.div_eq_zero_iff_lt h1).1 hz
        rcases Nat.eq_zero_or_pos j with h3 | h3
        · subst h3
          rw [Nat.pow_zero] at h2
          omega
        · have := nd_le h2 h3
          omega
      have hT : D.reverse = txt V := by rw [hD, hjn]; rfl
      have hp := nd_pos V
      have hDc : Codes D := fun c hc => (pad_alld V j).codes c (by rw [← hD]; simpa using hc)
      rw [hz, lim_zero] at *
      have hsz := hs
      rcases hs.2 with ⟨_, h4⟩ | ⟨g, cg, cur, rfl, hge, hgh, hle, hmx, _⟩
      · omega
      have HT := Lib.hid hT
      have HS := Lib.hid hs
      have HBR := Lib.hid hb
      clear hs hb hD hn hrd hsz hz
      obtain ⟨wo, rfl⟩ : ∃ wo : World, wo = wr := ⟨_, rfl⟩
      generalize hn : D.length = m at *
      have HM := Lib.hid hn
      have hm6 : m ≤ 631306 := by omega
      have hm0 : 0 < m := by omega
      clear hn hDl hjn hp hnl hj
      go_wp2_with fail
      go_loopw [6] (fun i wr => ∃ (k : Nat) (R : List Nat), 2 * k ≤ m ∧ i = .int .i64 (k : Int) ∧ Rev D k R ∧ wr.ownsRow w.heap.size 5 1 (.slice (some ⟨g, 0, none⟩) m cg) m (b8s R) ∧ Below w.heap.size w wr) (fun i _ => m - (intOf i).toNat)
      case atStart => exact ⟨0, D, by omega, rfl, Rev.start D, HS.out, HBR.out⟩
      case round =>
        obtain ⟨k, R, hk, rfl, hR, hO, hB⟩ := hrel
        have hRl : R.length = m := by rw [hR.1, HM.out]
        by_cases hlt : 2 * (k + 1) ≤ m
        · obtain ⟨p, hp⟩ : ∃ p : Nat, m = p + 1 + k := ⟨m - 1 - k, by omega⟩
          have e1 : (m : Int) - 1 - (k : Int) = (p : Int) := by omega
          have hst := hR.step (by rw [HM.out]; exact hlt)
          rw [HM.out, show m - 1 - k = p from by omega] at hst
          have f1 := World.ownsRow.frozenAt hO k
          have f2 := World.ownsRow.frozenAt hO p
          have d1 := World.ownsRow.cellAt hO k (by omega)
          have d2 := World.ownsRow.cellAt hO p (by omega)
          rw [b8s_at (by omega)] at d1 d2
          have o1 := (World.ownsRow.stored hO k (bv (R[p]?.getD 0))).1
          have o2 := (World.ownsRow.stored o1 p (bv (R[k]?.getD 0))).1
          have b1 := hB.setCell (p := ⟨g, k, none⟩) hge (bv (R[p]?.getD 0))
          have b2 := b1.setCell (p := ⟨g, p, none⟩) hge (bv (R[k]?.getD 0))
          have em : ((b8s R).set k (bv (R[p]?.getD 0))).set p (bv (R[k]?.getD 0)) = b8s ((R.set k (R[p]?.getD 0)).set p (R[k]?.getD 0)) := by simp only [b8s, List.map_set]
          rw [em] at o2
          have hkp : k < p := by omega
          have hpm : p < m := by omega
          have hkm : k < m := by omega
          have hkd : (k : Int) < (m : Int) / 2 := by omega
          generalize R[k]?.getD 0 = x at *
          generalize R[p]?.getD 0 = y at *
          unfold bv at d1 d2 o2 b2
          have HST := Lib.hid hst
          have HO2 := Lib.hid o2
          have HB2 := Lib.hid b2
          clear hst o1 o2 b1 b2 hO hB hR em hp
          go_wp2_with fail
          go_region
          go_wp2
          go_roundw
          case rel => exact ⟨k + 1, _, by omega, by go_num, HST.out, HO2.out, ⟨HB2.out.os, HB2.out.tape, HB2.out.output, HB2.out.size, HB2.out.block⟩⟩
          case measure => simp [intOf]; omega
        · have hfin := hR.done (by rw [HM.out]; omega) (by rw [HM.out]; omega)
          rw [HT.out] at hfin
          subst hfin
          have hcell : ∀ j, j < (txt V).length → wr.cell? ⟨g, 0 + j, none⟩ = some (bv ((txt V)[j]?.getD 0)) := fun j hj => by
            rw [Nat.zero_add, World.ownsRow.cellAt hO j (by omega), b8s_at hj]
          have hbk := back_str (cap := cg) (txt_alld V).codes hcell
          rw [hRl] at hbk
          have HBX := Lib.hid hB
          have hkm : (m : Int) / 2 = (k : Int) := by omega
          clear hcell hB hO hR
          go_wp2
          go_ret
          exact ⟨rfl, HBX.out⟩
    · have hq0 : 0 < (lim (V / 10 ^ j)).length := List.length_pos_iff.2 (fun e => hz (lim_eq_nil.1 e))
      have hq5 : (lim (V / 10 ^ j)).length ≤ 65536 := by
        have h3 := lim_len_mono (Nat.div_le_self V (10 ^ j))
        rw [show lim V = xs by have := HX.out; rwa [Nat.pow_zero, Nat.div_one] at this] at h3
        omega
      have hjn : j < nd V := by
        rcases Nat.lt_or_ge j (nd V) with h | h
        · exact h
        · exact absurd (Nat.div_eq_of_lt (lt_of_nd h)) hz
      have c1 := rten_any A' cap' (lim (V / 10 ^ j)) wr hrd (canon_lim _) hq5 hq0
      unfold TenPost at c1
      rw [val_lim] at c1
      have hnx : V / 10 ^ (j + 1) = V / 10 ^ j / 10 := by rw [Nat.pow_succ, Nat.div_div_eq_div_mul]
      have hpf : pad V (j + 1) = (48 + V / 10 ^ j % 10) :: pad V j := pad_front V j
      rw [← hnx] at c1
      have hrl : V / 10 ^ j % 10 < 10 := Nat.mod_lt _ (by decide)
      generalize V / 10 ^ j % 10 = r at *
      generalize hq2 : V / 10 ^ (j + 1) = q2 at *
      generalize V / 10 ^ j = q at *
      obtain ⟨As, cs, rfl⟩ := ownB_form hs
      have HPF := Lib.hid hpf
      have HD := Lib.hid hD
      have HS := Lib.hid hs
      have HBR := Lib.hid hb
      have HN2 := Lib.hid hnx
      subst hDl
      have HQ2 := Lib.hid hq2
      clear hpf hD hs hb hnx hn hrd hq5 hz hq2
      go_wp2_with fail
      refine c1.mono ?_
      rintro e w1 ⟨⟨v, rfl, ho⟩, hb1⟩
      clear c1
      have hrow1 := rowB_below HS.out hb1
      have HO := Lib.hid ho
      obtain ⟨Av, cv, rfl⟩ := own_form ho rfl
      have HB1 := Lib.hid (HBR.out.trans (hb1.mono HBR.out.size))
      have hbs := HB1.out.size
      clear ho hb1
      go_wp2_with (at_builtin; refine wpList_append_own _ rfl _ _ 80 rfl w.heap.size 5 i0 (.int .u8 0) 1 1 Tryz.underlying80 hi hz0 hz1 hz2 rfl (by decide) _ _ _ rfl (hrow1.alloc _) ⟨w1.heap.size, 0, none⟩ 1 1 [_] rfl rfl (cell_one_new _ _ _) (by simp [Value.oneCell']) (by unfold maxLen; omega) (by omega) (by simp; omega) ?_; intro v' w2 hown' hgrow hgone; clear hgone)
      have hb2 := HB1.out.trans (appended_plain hrow1 (by omega) hgrow).2
      have HA2 := Lib.hid ((own_past (by decide) hrow1 HO.out hgrow).arg (lim_limbs q2))
      have HR2 : Hid (w2.ownsRow w.heap.size 5 1 v' (D ++ [48 + r]).length (b8s (D ++ [48 + r]))) := appended_byte hown' rfl
      have HB2 := Lib.hid hb2
      have hlv : lenOf v' = D.length + 1 := by
        obtain ⟨Ax, cx, rfl⟩ := ownB_form hown'
        rfl
      clear hown' hgrow hb2 hrow1
      go_roundw
      case rel => exact ⟨D.length + 1, D ++ [48 + r], by omega, by rw [List.reverse_append, HD.out, HPF.out]; rfl, by rw [show V / 10 ^ (D.length + 1) = q2 from HQ2.out]; exact HA2.out, HR2.out, HB2.out⟩
      case measure => rw [hlv]; simp [lenOf]; omega

theorem rshow_any (A : Option Addr) (cap : Nat) (xs : List Nat) (w : World) (hr : Rd w w.heap.size A xs) (hcc : xs.length ≤ cap) (hcm : cap ≤ maxLen) :
    Calls Tryz.prog 52 #[.slice A xs.length cap] w fun e w' => e = .returned (.string (str (sShow xs))) ∧ Below w.heap.size w w' := by
  rcases hm : mayb xs with _ | _
  · rw [sShow_no hm]
    have c0 := rmay_any A cap xs w _ hr (by omega)
    rw [hm] at c0
    clear hm hr
    go_enter Tryz.func52, Tryz.ntmps52
    go_wp2_with fail
    refine c0.mono ?_
    rintro e w' ⟨rfl, hw⟩
    obtain rfl := hw.symm
    clear c0
    go_wp2
    go_ret
    exact ⟨rfl, Below.refl _ _⟩
  · rw [sShow_yes hm]
    rcases Nat.eq_zero_or_pos xs.length with h0 | h0
    · have hx : xs = [] := List.eq_nil_of_length_eq_zero h0
      subst hx
      have c0 := rmay_any A cap [] w _ hr (by omega)
      rw [hm] at c0
      rw [show val [] = 0 from rfl, txt_zero]
      clear hm hr
      go_enter Tryz.func52, Tryz.ntmps52
      go_wp2_with fail
      refine c0.mono ?_
      rintro e w' ⟨rfl, hw⟩
      obtain rfl := hw.symm
      clear c0
      go_wp2
      go_ret
      exact ⟨rfl, Below.refl _ _⟩
    · exact rshow_pos A cap xs w hr hcc hcm hm h0

end Go.Proofs.YtdkdgijcoialbaaGreatDoor

/- Contracts: byLimb, byLimbs. -/
import Derived.Test.YtidflhonhekmjaaDivB
namespace Go.Proofs.Ytidflhonhekmjaa
open Go.RowKit Go.Shelf

set_option linter.unusedVariables false

/-! ### byLimb -/
/-- What byLimb hands back. -/
def BLPost (xs : List Nat) (m : Nat) (w : World) (e : Ending) (w' : World) : Prop :=
  (∃ v, e = .returned (.tuple #[v, .int .u32 ((val xs % m : Nat) : Int)]) ∧ Own w' w.heap.size v (lim (val xs / m))) ∧ Below w.heap.size w w'

set_option maxHeartbeats 4000000 in
theorem byLimb_any (A : Option Addr) (cap : Nat) (xs : List Nat) (m : Nat) (w : World) (hr : Rd w w.heap.size A xs) (hc : xs.length ≤ 1048576) (h0 : 0 < m) (hm : m < 4294967296) :
    Calls Try.prog 59 #[.slice A xs.length cap, .int .u32 (m : Int)] w (BLPost xs m w) := by
  obtain ⟨i0, hi, hz0, hz1, hz2⟩ := info_parts info32
  have q0 : ((m : Int) == 0) = false := beq_eq_false_iff_ne.2 (by omega)
  go_enter Try.func59, Try.ntmps59
  go_wp2_with (at_make; refine wpList_make_full _ rfl _ _ 23 rfl w.heap.size 26 i0 (.int .u32 0) 1 Try.underlying23 hi hz0 hz1 .i64 .i64 _ _ xs.length rfl rfl rfl rfl (by rw [hz2]; omega) (by unfold maxLen; omega) (Nat.le_refl _) ?_; intro w1 hown0 hgrow0)
  have hB0 : Below w.heap.size w w1 := (Below.refl _ w).grown hgrow0 (Nat.le_refl _) (fun _ h => by cases h)
  have hO0 := own_made hown0
  clear hown0 hgrow0
  go_loopw [7, 8] (fun l i wr => ∃ (k r : Nat) (X : List Nat), k ≤ xs.length ∧ i = .int .i64 ((k : Int) - 1) ∧ l = .int .u64 (r : Int) ∧ OI xs m k r X ∧ Own wr w.heap.size (.slice (some ⟨w.heap.size, 0, none⟩) X.length xs.length) X ∧ Below w.heap.size w wr) (fun _ i _ => (intOf i + 1).toNat)
  case atStart => exact ⟨xs.length, 0, _, Nat.le_refl _, rfl, rfl, OI.start xs h0, hO0, hB0⟩
  case round =>
    clear hB0 hO0
    obtain ⟨k, r, X, hk, rfl, rfl, hI, hX, hB⟩ := hrel
    have hrm := hI.lt
    have hXl := hI.ql
    rcases Nat.eq_zero_or_pos k with hk0 | hk0
    · subst hk0
      obtain ⟨A2, cap2, e2, h1, h2, hrd⟩ := hX.rd hI.qs
      injection e2 with ea eb ec
      subst ea ec
      have c := dtrim_any _ _ X wr _ hrd h1 h2
      have hfin := trimV_own (hX.trimmed hI.qs)
      obtain ⟨d1, d2⟩ := hI.done
      rw [d1] at c hfin
      have HF := Lib.hid hfin
      have HB := Lib.hid hB
      have HR := Lib.hid d2
      rw [hXl] at c
      clear hI hX hB hr hrd h1 h2 hfin d1 d2 hXl
      go_wp2_with fail
      with_reducible refine c.mono ?_
      rintro e wn ⟨rfl, hw⟩
      obtain rfl := hw.symm
      clear c
      go_wp2
      go_ret2
      exact ⟨⟨_, by first | rfl | (rw [← HR.out]; rfl), HF.out⟩, HB.out⟩
    · obtain ⟨j, rfl⟩ : ∃ j, k = j + 1 := ⟨k - 1, by omega⟩
      obtain ⟨b, o, rfl, hb, hcell⟩ := hr.2 (by omega)
      have hyc := (hB.cell (p := ⟨b, o + j, none⟩) hb).trans (hcell j (by omega))
      have hyl := hr.limbs.getD j
      have hst := Lib.hid fun t ht => hI.step (t := t) (by omega) hyl ht
      generalize hy : xs[j]?.getD 0 = y at *
      have hxc := hX.cellAt (j := j) (by omega)
      have hxf := World.ownsRow.frozenAt hX j
      have hput := Lib.hid fun v => hX.put (j := j) (v := v)
      have hbe := Lib.hid fun v => hB.setCell (p := ⟨w.heap.size, j, none⟩) (Nat.le_refl _) v
      have hxb := hI.qs.getD j
      generalize X[j]?.getD 0 = x0 at *
      have t5 := or_wide (x := r) (y := y) (by omega) hyl
      obtain ⟨t, ht⟩ : ∃ t : Nat, t = r * 4294967296 + y := ⟨_, rfl⟩
      rw [← ht] at t5
      have q1 : (t : Int) / (m : Int) = ((t / m : Nat) : Int) := by simp
      have q2 : (t : Int) % (m : Int) = ((t % m : Nat) : Int) := by simp
      have q3 : t / m < 4294967296 := by rw [ht]; exact oi_bound hyl hrm
      have q4 : t % m < m := Nat.mod_lt _ h0
      have HT := Lib.hid (hst.out t ht)
      have hri : (r : Int) < 4294967296 := by omega
      have htb : t < 18446744073709551616 := by omega
      have hi1 : ((j + 1 : Nat) : Int) - 1 = (j : Int) := by omega
      generalize hq : t / m = q at *
      generalize hs : t % m = s at *
      clear hy hI hX hB hcell hr ht hst hq hs hXl
      rw [hi1]
      go_wp2
      go_roundw
      case rel => exact ⟨j, s, X.set j q, by omega, by go_num, by rw [q2], HT.out, hput.out q, hbe.out _⟩
      case measure => simp [intOf]

/-! ### byLimbs -/
theorem Own.only {w w' : World} {B g h : Nat} {n cap : Nat} {xs : List Nat} (H : Own w B (.slice (some ⟨h, 0, none⟩) n cap) xs) (k : Only g w w') (hne : h ≠ g) : Own w' B (.slice (some ⟨h, 0, none⟩) n cap) xs := by
  refine ⟨H.1, ?_⟩
  rcases H.2 with ⟨e, _⟩ | ⟨g', cap', cur, e, hg, hh, r⟩
  · cases e
  · have e2 := e
    injection e2 with e1; injection e1 with e1; injection e1 with e1
    exact .inr ⟨g', cap', cur, e, hg, (k.block g' (by omega)).trans hh, r⟩
theorem Own.farOf {w : World} {B g h cap : Nat} {xs : List Nat} (H : Own w B (.slice (some ⟨h, 0, none⟩) xs.length cap) xs) (hl : Limbs xs) (hne : h ≠ g) : Far w g (some ⟨h, 0, none⟩) xs := by
  refine ⟨hl, fun hn => ⟨h, 0, rfl, hne, fun j hj => ?_⟩⟩
  have hc := World.ownsRow.cellAt H j (by omega)
  rw [Nat.zero_add, hc, u32s, List.getElem?_map, List.getElem?_eq_getElem hj]
  rfl
theorem lz_any (x : Nat) (hx : x < 4294967296) (h0 : 0 < x) (w : World) :
    Calls Try.prog 82 #[.int .u32 (x : Int)] w fun e w' => e = .returned (.int .i64 ((32 - blen x : Nat) : Int)) ∧ w' = w := by
  have := Try.bits_LeadingZeros32 (x : Int) w (by omega) (by omega)
  rw [Int.toNat_natCast, blen_lib hx] at this
  have h32 : blen x ≤ 32 := blen_le.2 hx
  rwa [show (32 : Int) - (blen x : Int) = ((32 - blen x : Nat) : Int) from by omega] at this
theorem blen_mul_pow {n r : Nat} (h : n ≠ 0) : blen (n * 2 ^ r) = blen n + r := by
  have := blen_shift (r := 0) (k := r) h (Nat.two_pow_pos r)
  rwa [Nat.add_zero] at this
/-- The divisor, shifted till its highest bit is 1, is as long as it was. -/
theorem shl_len {ys : List Nat} (hy : Canon ys) (h0 : 0 < ys.length) (hm : ys.length ≤ 65536) : sShl ys (((32 - blen (ys[ys.length - 1]?.getD 0) : Nat)) : Int) = lim (val ys * 2 ^ (32 - blen (ys[ys.length - 1]?.getD 0))) ∧ (lim (val ys * 2 ^ (32 - blen (ys[ys.length - 1]?.getD 0)))).length = ys.length := by
  have hb := blen_val hy h0
  have hl := hy.1.getD (ys.length - 1)
  have h32 : blen (ys[ys.length - 1]?.getD 0) ≤ 32 := blen_le.2 hl
  have hne : ys ≠ [] := fun e => by rw [e] at h0; simp at h0
  have hv := hy.val_pos hne
  generalize ys[ys.length - 1]?.getD 0 = t at *
  have hs := blen_mul_pow (n := val ys) (r := 32 - blen t) (by omega)
  have hlen : (lim (val ys * 2 ^ (32 - blen t))).length ≤ ys.length := lim_len_blen.2 (by omega)
  have hge : ¬ (lim (val ys * 2 ^ (32 - blen t))).length ≤ ys.length - 1 := fun h => by
    have := lim_len_blen.1 h
    omega
  have hmay : mayb ys = true := mayb_iff.2 ⟨hm, hy.2⟩
  refine ⟨?_, by omega⟩
  rw [sShl_yes hmay, clip_of (by omega)]
theorem lim_top {n : Nat} (h : 0 < (lim n).length) : 0 < (lim n)[(lim n).length - 1]?.getD 0 := by
  have := (canon_lim n).2
  rw [List.getLast?_eq_getElem?, List.getElem?_eq_getElem (by omega)] at this
  rw [List.getElem?_eq_getElem (by omega)]
  simp only [Option.getD_some]
  have h2 : (lim n)[(lim n).length - 1] ≠ 0 := fun e => this (by rw [e])
  omega
/-- What stands ahead of the first limb. -/
theorem start_lt {xs ys : List Nat} {r : Nat} (hx : Limbs xs) (hy : Canon ys) (h0 : 0 < ys.length) (hle : ys.length ≤ xs.length) : val xs * 2 ^ r < val ys * 2 ^ r * 4294967296 ^ (xs.length + 1 - ys.length) := by
  have h1 := val_lt hx
  have h2 := canon_val_ge hy (fun e => by rw [e] at h0; simp at h0)
  have h3 : 4294967296 ^ xs.length ≤ val ys * 4294967296 ^ (xs.length + 1 - ys.length) := by
    have e : xs.length = (ys.length - 1) + (xs.length + 1 - ys.length) := by omega
    conv => lhs; rw [e, Nat.pow_add]
    exact Nat.mul_le_mul_right _ h2
  have h4 : val xs * 2 ^ r < val ys * 4294967296 ^ (xs.length + 1 - ys.length) * 2 ^ r := Nat.mul_lt_mul_of_pos_right (Nat.lt_of_lt_of_le h1 h3) (Nat.two_pow_pos r)
  generalize 4294967296 ^ (xs.length + 1 - ys.length) = M at *
  have e : val ys * 2 ^ r * M = val ys * M * 2 ^ r := by grind
  omega
theorem nextLimb_len (g off off' cp cz n1 n2 : Nat) (A : Option Addr) (cap : Nat) (ys Z : List Nat) (w : World) (B : Nat) (h0 : off' = off) (h1 : n1 = ys.length + 1) (h2 : n2 = ys.length) (hn : 2 ≤ ys.length) (hO : Own w B (.slice (some ⟨g, 0, none⟩) Z.length cz) Z) (hZ : Limbs Z) (hoff : off + ys.length < Z.length) (hr : Far w g A ys) (hl : ys.length ≤ 2097152) (hf : 0 < ys[ys.length - 1]?.getD 0) (hlt : seg Z off (ys.length + 1) < val ys * 4294967296) :
    Calls Try.prog 84 #[.slice (some ⟨g, off', none⟩) n1 cp, .slice A n2 cap] w (NLPost Z off ys g cz B w) := by
  subst h0 h1 h2
  exact nextLimb_any g off' cp cz A cap ys Z w B hn hO hZ hoff hr hl hf hlt

/-- Two slices share no block. -/
def Apart (v v' : Value) : Prop := ∀ g g' n n' c c', v = .slice (some ⟨g, 0, none⟩) n c → v' = .slice (some ⟨g', 0, none⟩) n' c' → g ≠ g'
theorem apart_nil (v : Value) : Apart (.slice none 0 0) v := fun g g' n n' c c' e _ => by cases e
theorem Own.apart {w w' : World} {B : Nat} {v v' : Value} {xs ys : List Nat} (h : Own w B v xs) (k : Own w' w.heap.size v' ys) : Apart v v' := fun g g' n n' c c' e e' => by
  subst e e'
  have h1 := h.lt_size
  have h2 := k.ge
  omega
/-- Quotient and remainder in new memory. -/
def QRPost (q r : Nat) (w : World) (e : Ending) (w' : World) : Prop :=
  (∃ v v', e = .returned (.tuple #[v, v']) ∧ Own w' w.heap.size v (lim q) ∧ Own w' w.heap.size v' (lim r) ∧ Apart v v') ∧ Below w.heap.size w w'

set_option maxHeartbeats 8000000 in
theorem dbyLimbs_any (A A' : Option Addr) (cap cap' : Nat) (xs ys : List Nat) (w : World) (hr : Rd w w.heap.size A xs) (hr' : Rd w w.heap.size A' ys) (hx : mayb xs = true) (hy : mayb ys = true) (h2 : 2 ≤ ys.length) (hle : ys.length ≤ xs.length) :
    Calls Try.prog 62 #[.slice A xs.length cap, .slice A' ys.length cap'] w (QRPost (val xs / val ys) (val xs % val ys) w) := by
  obtain ⟨i0, hi, hz0, hz1, hz2⟩ := info_parts info32
  have hxm := (mayb_iff.1 hx).1
  have hym := (mayb_iff.1 hy).1
  have cy := mayb_canon hr'.limbs hy
  have cx := mayb_canon hr.limbs hx
  obtain ⟨b', o', rfl, hb', hcell'⟩ := hr'.2 (by omega)
  have t1 := hcell' (ys.length - 1) (by omega)
  have tl := hr'.limbs.getD (ys.length - 1)
  have hvp := cy.val_pos (fun e => by rw [e] at h2; simp at h2)
  obtain ⟨s1, s2⟩ := shl_len cy (by omega) hym
  have t0 : 0 < ys[ys.length - 1]?.getD 0 := by
    have := lim_top (n := val ys)
    rw [lim_val cy] at this
    exact this (by omega)
  have cL := lz_any _ tl t0 w
  have hb1 : 0 < blen (ys[ys.length - 1]?.getD 0) := blen_pos (by omega)
  generalize ys[ys.length - 1]?.getD 0 = tp at *
  obtain ⟨r, hrr⟩ : ∃ r, r = 32 - blen tp := ⟨_, rfl⟩
  rw [← hrr] at cL s1 s2
  have hr32 : r < 32 := by omega
  clear hb1 hrr
  have hst := start_lt (r := r) hr.limbs cy (by omega) hle
  have htop := lim_top (n := val ys * 2 ^ r) (by omega)
  have hdv : val (lim (val ys * 2 ^ r)) = val ys * 2 ^ r := val_lim _
  have hdp : 0 < val ys * 2 ^ r := Nat.mul_pos hvp (Nat.two_pow_pos r)
  have hql : val xs * 2 ^ r / (val ys * 2 ^ r) = val xs / val ys := Nat.mul_div_mul_right _ _ (Nat.two_pow_pos r)
  have hrl : val xs * 2 ^ r % (val ys * 2 ^ r) = val xs % val ys * 2 ^ r := Nat.mul_mod_mul_right _ _ _
  have hdlim : Limbs (lim (val ys * 2 ^ r)) := lim_limbs _
  have hdd : val ys * 2 ^ r < 4294967296 ^ ys.length := by
    have := val_lt hdlim
    rwa [hdv, s2] at this
  have cS := shifted_any A cap xs r w hr hxm hr32
  have HQ := Lib.hid hql
  have HRl := Lib.hid hrl
  have HST := Lib.hid hst
  have HDP := Lib.hid hdp
  have HDD := Lib.hid hdd
  clear hql hrl hst hdp hdd cy cx hvp hcell'
  generalize val ys * 2 ^ r = D at *
  generalize hds : lim D = ds at *
  have HDS := Lib.hid hds
  have HS1 := Lib.hid s1
  have HR' := Lib.hid hr'
  have HDV := Lib.hid hdv
  have HTOP := Lib.hid htop
  have HDL := Lib.hid hdlim
  clear hds s1 hr hr' hdv htop hx hdlim
  obtain ⟨n, hn⟩ : ∃ n, ys.length = n := ⟨_, rfl⟩
  rw [hn] at s2 h2 hle hym t1
  rw [hn]
  go_enter Try.func62, Try.ntmps62
  go_wp2_with fail
  with_reducible refine cL.mono ?_
  rintro e w' ⟨rfl, hw⟩
  obtain rfl := hw.symm
  clear cL
  go_wp2_with fail
  with_reducible refine cS.mono ?_
  rintro e w1 ⟨⟨v1, X0, rfl, ho1, hxl1, hxn1, hxv1⟩, hB1⟩
  clear cS
  unfold Own at ho1
  rw [hxn1] at ho1
  obtain ⟨g, cz, rfl⟩ := ownsRow_succ ho1
  rw [← hxn1] at ho1
  have hO1 : Own w1 w.heap.size (.slice (some ⟨g, 0, none⟩) X0.length cz) X0 := by unfold Own; exact ho1
  have hcz := hO1.cap
  have hg1 := hO1.lt_size
  have hgb := hO1.ge
  clear ho1
  have cS2 := shl_any (some ⟨b', o', none⟩) cap' ys (r : Int) w1 ((HR'.out.below hB1 (Nat.le_refl _)).more hB1.size) (by unfold maxLen; omega)
  rw [hn, HS1.out] at cS2
  have HO1 := Lib.hid hO1
  have HB1 := Lib.hid hB1
  have HXV := Lib.hid hxv1
  have HXL := Lib.hid hxl1
  clear hO1 hxv1 hxl1
  go_wp2_with fail
  with_reducible refine cS2.mono ?_
  rintro e w2 ⟨⟨v2, rfl, ho2⟩, hB2⟩
  clear cS2
  obtain ⟨nd, hnd⟩ : ∃ nd, n = nd + 1 := ⟨n - 1, by omega⟩
  have hdsl : ds.length = nd + 1 := by omega
  unfold Own at ho2
  rw [hdsl] at ho2
  obtain ⟨gd, cd, rfl⟩ := ownsRow_succ ho2
  rw [← hdsl] at ho2
  have hO2 : Own w2 w1.heap.size (.slice (some ⟨gd, 0, none⟩) ds.length cd) ds := by unfold Own; exact ho2
  have hgd := hO2.ge
  have hgd2 := hO2.lt_size
  have hO1' := HO1.out.below hB2
  have HO1' := Lib.hid hO1'
  have HO2 := Lib.hid (hO2.more hB1.size)
  have HB2 := Lib.hid (HB1.out.trans (hB2.mono hB1.size))
  rw [← hnd]
  have hs2 := hB2.size
  have hs1 := hB1.size
  clear ho2 hO2 hO1' hB1 hB2 hdsl hnd
  obtain ⟨m, hm⟩ : ∃ m, xs.length + 1 = m + n := ⟨xs.length + 1 - n, by omega⟩
  have hms : xs.length + 1 - n = m := by omega
  have HM := Lib.hid hm
  have hm1 : m ≤ 65537 := by omega
  have hm0 : 0 < m := by omega
  have HSTm : Hid (val xs * 2 ^ r < D * 4294967296 ^ m) := by
    have := HST.out
    rw [hn, hms] at this
    exact this
  have q1 : ((xs.length : Int) + 1) - (n : Int) = (m : Int) := by omega
  have HDDn : Hid (D < 4294967296 ^ n) := by have := HDD.out; rw [hn] at this; exact this
  clear hms
  go_wp2_with (at_make; refine wpList_make_full _ rfl _ _ 23 rfl w.heap.size 26 i0 (.int .u32 0) 1 Try.underlying23 hi hz0 hz1 .i64 .i64 _ _ m rfl rfl (by omega) (by omega) (by rw [hz2]; omega) (by unfold maxLen; omega) (by omega) ?_; intro w3 hown0 hgrow0)
  have hB3 : Below w2.heap.size w2 w3 := (Below.refl _ w2).grown hgrow0 (Nat.le_refl _) (fun _ h => by cases h)
  have hOQ := own_made hown0
  obtain ⟨gq, hgq⟩ : ∃ gq, w2.heap.size = gq := ⟨_, rfl⟩
  rw [hgq] at hOQ
  have hOX := HO1'.out.below hB3
  have hOD := HO2.out.below hB3
  have hBw := HB2.out.trans (hB3.mono (by omega))
  have d1 : g ≠ gd := by omega
  have d2 : g ≠ gq := by omega
  have d3 : gd ≠ gq := by omega
  clear hown0 hgrow0 hB3
  rw [hgq]
  have hQI : Hid (QI (val xs * 2 ^ r) D n m m X0 (List.replicate m 0)) := by
    refine QI.start HXL.out (by rw [hxn1]; exact HM.out) HXV.out HSTm.out
  go_loopw [9] (fun i wr => ∃ (k : Nat) (X Q : List Nat), k ≤ m ∧ i = .int .i64 ((k : Int) - 1) ∧ QI (val xs * 2 ^ r) D n m k X Q ∧ Own wr w.heap.size (.slice (some ⟨g, 0, none⟩) X.length cz) X ∧ Own wr w.heap.size (.slice (some ⟨gq, 0, none⟩) Q.length m) Q ∧ Own wr w.heap.size (.slice (some ⟨gd, 0, none⟩) ds.length cd) ds ∧ Below w.heap.size w wr) (fun i _ => (intOf i + 1).toNat)
  case atStart => exact ⟨m, X0, _, Nat.le_refl _, rfl, hQI.out, hOX, hOQ, hOD, hBw⟩
  case round =>
    clear hOX hOQ hOD hBw hQI
    obtain ⟨k, X, Q, hk, rfl, hI, hX, hQ, hD, hB⟩ := hrel
    have HI := Lib.hid hI
    have HX := Lib.hid hX
    have HQo := Lib.hid hQ
    have HD := Lib.hid hD
    have HB := Lib.hid hB
    have hXl := hI.xl
    have hQl := hI.ql
    rcases Nat.eq_zero_or_pos k with hk0 | hk0
    · subst hk0
      obtain ⟨e1, e2⟩ := hI.done HDP.out
      have hlt := hI.lt
      rw [Nat.pow_zero, Nat.mul_one] at hlt
      rw [HQ.out] at e1
      rw [HRl.out] at e2
      have hlx : (lim (val X)).length ≤ n := lim_length_le.2 (Nat.lt_trans hlt HDDn.out)
      obtain ⟨A2, cap2, ev, k1, k2, hrd⟩ := hQ.rd hI.qs
      injection ev with ea eb ec
      subst ea ec
      have cT1 := dtrim_any _ _ Q wr _ hrd k1 k2
      have hO1 := trimV_own (hQ.trimmed hI.qs)
      rw [e1] at cT1 hO1
      rw [hQl] at cT1
      obtain ⟨A2, cap2, ev, k3, k4, hrd2⟩ := hX.rd hI.xs
      injection ev with ea eb ec
      subst ea ec
      have cT2 := dtrim_any _ _ X wr _ hrd2 k3 k4
      have hO2 := trimV_own (hX.trimmed hI.xs)
      rw [hXl] at cT2
      obtain ⟨A3, cap3, ev3, k5, k6, hrd3⟩ := hO2.arg (lim_limbs _)
      have cT3 := shr_any A3 cap3 (lim (val X)) (r : Int) wr hrd3 k5 k6
      rw [← ev3] at cT3
      have hsh : sShr (lim (val X)) (r : Int) = lim (val xs % val ys) := by
        rw [sShr_yes (mayb_lim (by omega)), val_lim, e2, Nat.mul_div_cancel _ (Nat.two_pow_pos r)]
      rw [hsh] at cT3
      have HO1 := Lib.hid hO1
      have HXL := Lib.hid hXl
      clear hI hX hQ hD hB hrd hrd2 hrd3 hO1 hO2 hsh ev3 k1 k2 k3 k4 k5 k6 e1 e2 hlt hlx hXl hQl HX HQo HD
      generalize (lim (val X)).length = lx at *
      go_wp2_with fail
      with_reducible refine cT1.mono ?_
      rintro e w' ⟨rfl, hw⟩
      obtain rfl := hw.symm
      clear cT1
      go_wp2_with fail
      with_reducible refine cT2.mono ?_
      rintro e w' ⟨rfl, hw⟩
      obtain rfl := hw.symm
      clear cT2
      go_wp2_with fail
      with_reducible refine cT3.mono ?_
      rintro e w5 ⟨⟨v5, rfl, ho5⟩, hb5⟩
      have HQF := Lib.hid (HO1.out.below hb5)
      have HAP := Lib.hid (HO1.out.apart ho5)
      have HRF := Lib.hid (ho5.more HB.out.size)
      have HBF := Lib.hid (HB.out.trans (hb5.mono HB.out.size))
      clear cT3 ho5 hb5
      go_wp2
      go_ret2
      exact ⟨⟨_, _, rfl, HQF.out, HRF.out, HAP.out⟩, HBF.out⟩
    · obtain ⟨j, rfl⟩ : ∃ j, k = j + 1 := ⟨k - 1, by omega⟩
      have hi1 : ((j + 1 : Nat) : Int) - 1 = (j : Int) := by omega
      have hczX : m + n ≤ cz := by omega
      have hcz2 := hcz.2
      unfold maxLen at hcz2
      have hpc := hI.piece (by omega) HDDn.out
      have cT := nextLimb_len g j j (j + n + 1 - j) cz (j + n + 1 - j) n (some ⟨gd, 0, none⟩) cd ds X wr w.heap.size rfl (by omega) (by omega) (by omega) hX hI.xs (by omega) (hD.farOf HDL.out (by omega)) (by omega) HTOP.out (by rw [HDV.out, s2]; exact hpc.1)
      have hxb := hI.qs.getD j
      have HXL := Lib.hid hXl
      have HQL := Lib.hid hQl
      clear hI hX hQ hD hB hcz hpc hXl hQl
      rw [hi1]
      go_wp2_with fail
      with_reducible refine cT.mono ?_
      rintro e w4 ⟨q, Y, rfl, hqb, hS, hE, hR, hOY, hOn⟩
      clear cT
      rw [s2, HDV.out] at hE
      rw [s2, HDV.out] at hR
      rw [s2] at hS
      have HST4 := Lib.hid (HI.out.step (by omega) HDDn.out hS hqb hE hR)
      have hQ4 := HQo.out.only hOn (by omega)
      have hxc := hQ4.cellAt (j := j) (by rw [HQL.out]; omega)
      have hxf := World.ownsRow.frozenAt hQ4 j
      have hOgq := (Only.refl gq w4).setCell j (lv q)
      have HQ4 := Lib.hid (hQ4.put (j := j) (v := q))
      have HX4 := Lib.hid (hOY.only hOgq (by omega))
      have HD4 := Lib.hid ((HD.out.only hOn (by omega)).only hOgq (by omega))
      have HB4 := Lib.hid ((HB.out.trans (hOn.below hgb)).setCell (p := ⟨gq, j, none⟩) (by show w.heap.size ≤ gq; omega) (lv q))
      generalize Q[j]?.getD 0 = x0 at *
      clear hS hE hR hOY hOn hQ4 hOgq
      go_wp2
      go_roundw
      case rel => exact ⟨j, Y, Q.set j q, by omega, by go_num, HST4.out, HX4.out, HQ4.out, HD4.out, HB4.out⟩
      case measure => simp [intOf]

end Go.Proofs.Ytidflhonhekmjaa

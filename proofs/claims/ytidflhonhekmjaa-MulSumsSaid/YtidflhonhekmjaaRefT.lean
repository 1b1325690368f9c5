/- ref03: square, Root; law03: own, is. -/
import Derived.Laws.AppendOwnNone
import Derived.Deep.MidRow
import Derived.Test.YtidflhonhekmjaaPackR
import Derived.Test.YtidflhonhekmjaaDivE
namespace Go.Proofs.Ytidflhonhekmjaa
open Go.RowKit Go.Shelf

set_option linter.unusedVariables false

set_option maxHeartbeats 1000000 in
theorem own3_some (ad : Addr) (cap : Nat) (xs : List Nat) (w : World) (hc : xs.length ≤ cap) (hm : cap ≤ maxLen) (hr : Rd w w.heap.size (some ad) xs) (h60 : xs.length ≤ 60) :
    Calls Try.prog 38 #[.slice (some ad) xs.length cap] w fun e w' => (∃ v, e = .returned v ∧ Own w' w.heap.size v xs) ∧ Below w.heap.size w w' := by
  obtain ⟨i0, hi, hz0, hz1, hz2⟩ := info_parts info32
  have hown0 : (w.alloc (.cells #[] 26)).ownsRow w.heap.size 26 1 (.slice (some ⟨w.heap.size, 0, none⟩) 0 0) 0 [] := World.ownsRow_lit w #[] 0 (Nat.le_refl _) (by decide) rfl
  have hcell : ∀ j u, (u32s xs)[j]? = some u → (w.alloc (.cells #[] 26)).cell? (ad.add j) = some u := by
    intro j u hu
    have hj : j < xs.length := by
      have := (List.getElem?_eq_some_iff.1 hu).1
      simpa [u32s] using this
    obtain ⟨b, off, e, hlt, hcl⟩ := hr.2 (by omega)
    obtain rfl : ad = ⟨b, off, none⟩ := by simpa using e
    rw [Addr.add_mid]
    rw [((Below.refl _ w).alloc (Nat.le_refl _) (.cells #[] 26)).cell (p := ⟨b, off + j, none⟩) hlt, hcl j hj]
    rw [u32s, List.getElem?_map, List.getElem?_eq_getElem hj] at hu
    rw [List.getElem?_eq_getElem hj]
    exact hu
  have HC := Lib.hid hcell
  clear hcell
  go_enter Try.func38, Try.ntmps38
  go_wp2_with (at_builtin; refine wpList_append_own _ rfl _ _ 23 rfl w.heap.size 26 i0 (.int .u32 0) 1 4 Try.underlying23 hi hz0 hz1 hz2 rfl (by decide) _ _ _ rfl hown0 ad xs.length cap (u32s xs) rfl (by simp [u32s]) HC.out (u32s_one xs) (by unfold maxLen at *; omega) (by omega) (by simp) ?_; intro v' w2 hown' hgrow hgone; clear hgone)
  have hg2 : (w.alloc (.cells #[] 26)).grownBy w2 (some w.heap.size) := hgrow
  have hb2 : Below w.heap.size w w2 := ((Below.refl _ w).alloc (Nat.le_refl _) _).grown hg2 (by simp) (fun k hk => by cases hk; exact Nat.le_refl _)
  have hO : Own w2 w.heap.size v' xs := by unfold Own; simpa using hown'
  have HO := Lib.hid hO
  clear hO hown' hgrow hg2 HC
  go_wp2
  go_ret
  exact ⟨⟨_, rfl, HO.out⟩, hb2⟩

set_option maxHeartbeats 1000000 in
theorem own3_none (w : World) :
    Calls Try.prog 38 #[.slice none 0 0] w fun e w' => (∃ v, e = .returned v ∧ Own w' w.heap.size v []) ∧ Below w.heap.size w w' := by
  obtain ⟨i0, hi, hz0, hz1, hz2⟩ := info_parts info32
  have hown0 : (w.alloc (.cells #[] 26)).ownsRow w.heap.size 26 1 (.slice (some ⟨w.heap.size, 0, none⟩) 0 0) 0 [] := World.ownsRow_lit w #[] 0 (Nat.le_refl _) (by decide) rfl
  have HO := Lib.hid hown0
  have HB := Lib.hid ((Below.refl _ w).alloc (Nat.le_refl _) (.cells #[] 26))
  go_enter Try.func38, Try.ntmps38
  go_wp2_with (at_builtin; refine wpList_append_own3_none rfl _ _ 23 rfl w.heap.size 26 i0 1 Try.underlying23 hi _ _ _ rfl hown0 rfl ?_; clear hown0)
  go_wp2
  go_ret
  exact ⟨⟨_, rfl, HO.out⟩, HB.out⟩

theorem own3_any {w : World} {v : Value} {xs : List Nat} (h : ArgZ w v xs) (h60 : xs.length ≤ 60) :
    Calls Try.prog 38 #[v] w fun e w' => (∃ v, e = .returned v ∧ Own w' w.heap.size v xs) ∧ Below w.heap.size w w' := by
  obtain ⟨⟨A, cap, rfl, h1, h2, hr⟩, hz⟩ := h
  rcases A with _ | ad
  · obtain rfl := hz _ _ rfl
    obtain rfl : xs = [] := List.eq_nil_of_length_eq_zero (by omega)
    exact own3_none w
  · exact own3_some ad cap xs w h1 h2 hr h60

set_option maxHeartbeats 1000000 in
theorem is3_any {w : World} {v vw : Value} {xs ys : List Nat} {B : Nat} (ho : Own w B v xs) (hl : Limbs xs) (hB : B ≤ w.heap.size) (ha : Arg w vw ys) :
    Calls Try.prog 41 #[v, vw] w fun e w' => e = .returned (.bool (eqb xs ys)) ∧ Below B w w' := by
  obtain ⟨A, cap, rfl, h1, h2, hr⟩ := ho.rd hl
  obtain ⟨A', cap', rfl, h1', h2', hr'⟩ := ha
  have c := same_any A A' cap cap' xs ys w _ hr hr' (Nat.le_trans h1' h2')
  have hxm : xs.length ≤ 9223372036854775807 := Nat.le_trans h1 h2
  clear hr hr' hl h1' h2'
  go_enter Try.func41, Try.ntmps41
  go_wp2_with fail
  refine c.mono ?_
  rintro e w' ⟨rfl, nq, hw⟩
  have hBd : Below B w w' := by rw [hw]; exact ⟨rfl, rfl, rfl, Nat.le_refl _, fun _ _ => rfl⟩
  have ho' : w'.ownsRow B 26 1 (.slice A xs.length cap) xs.length (u32s xs) := by rw [hw]; exact ho
  clear c hw ho
  go_wp2
  go_loopw [6] (fun v wr => ∃ (k : Nat) (Z : List Value), k ≤ xs.length ∧ v = .int .i64 (k : Int) ∧ wr.ownsRow B 26 1 (.slice A xs.length cap) xs.length Z ∧ Below B w wr) (fun v _ => xs.length - (intOf v).toNat)
  case atStart => exact ⟨0, u32s xs, Nat.zero_le _, rfl, ho', hBd⟩
  case round =>
    clear ho' hBd
    obtain ⟨k, Z, hk, rfl, hown, hBw⟩ := hrel
    by_cases hlt : k < xs.length
    · obtain ⟨g, rfl, hBg⟩ : ∃ g, A = some ⟨g, 0, none⟩ ∧ B ≤ g := by
        rcases hown.2 with ⟨_, h0⟩ | ⟨g, capv, cur, h0, hg, _⟩
        · omega
        · cases h0; exact ⟨g, rfl, hg⟩
      have hzl : Z.length = xs.length := by have := hown.1; omega
      have hcl := hown.cellAt k (by omega)
      rw [List.getElem?_eq_getElem (by omega)] at hcl
      have hfz := hown.frozenAt k
      have hst := hown.stored k (.int .u32 77)
      have hR1 := Lib.hid hst.1
      have hb0 := Lib.hid (hBw.setCell (p := ⟨g, k, none⟩) hBg (.int .u32 77))
      clear hst hown
      go_wp2
      go_roundw
      case rel => exact ⟨k + 1, _, by omega, by go_num, hR1.out, hb0.out⟩
      case measure => simp [intOf]; omega
    · go_wp2
      go_ret
      exact ⟨rfl, hBw⟩


section
variable {w0 w w' : World} {l : List (Value × List Nat)} {va vb : Value} {xs ys zs : List Nat}
theorem rmay_e3 (h : Env w0 w l) (ha : (va, xs) ∈ l) (b : Bool) (hb : mayb xs = b) : Calls Try.prog 57 #[va] w fun e w' => e = .returned (.bool b) ∧ w' = w := by
  obtain ⟨A, cap, rfl, h1, h2, hr⟩ := h.get ha
  exact rmay_is cap hr (Nat.le_trans h1 h2) hb
theorem rbits_e3 (h : Env w0 w l) (ha : (va, xs) ∈ l) (n : Nat) (hn : sBits xs = n) : Calls Try.prog 66 #[va] w fun e w' => e = .returned (.int .i64 (n : Int)) ∧ w' = w := by
  obtain ⟨A, cap, rfl, h1, h2, hr⟩ := h.get ha
  subst hn
  exact rbits_any A cap xs w _ hr (Nat.le_trans h1 h2)
theorem rbit_e3 (h : Env w0 w l) (ha : (va, xs) ∈ l) (k : Int) (hk1 : -9223372036854775808 ≤ k) (hk2 : k ≤ 9223372036854775807) (b : Bool) (hb : sBit xs k = b) : Calls Try.prog 86 #[va, .int .i64 k] w fun e w' => e = .returned (.bool b) ∧ Env w0 w' l := by
  obtain ⟨A, cap, rfl, h1, h2, hr⟩ := h.get ha
  subst hb
  exact (rbit_any A cap xs k w _ hr (Nat.le_trans h1 h2) hk1 hk2).mono fun _ _ ⟨he, n, hw⟩ => ⟨he, by rw [hw]; exact h.drewN n⟩
theorem rshl_e3 (h : Env w0 w l) (ha : (va, xs) ∈ l) (k : Int) (hk : k ≤ 2097152) (hz : sShl xs k = zs) : Calls Try.prog 68 #[va, .int .i64 k] w fun e w' => ∃ r, e = .returned r ∧ Env w0 w' ((r, zs) :: l) := by
  obtain ⟨A, cap, rfl, h1, h2, hr⟩ := h.get ha
  subst hz
  exact (rshl_any A cap xs k w hr (Nat.le_trans h1 h2) hk).mono fun _ _ ⟨⟨r, he, ho⟩, hb⟩ => ⟨r, he, h.newR (sShl_limbs _ _) ho hb⟩
theorem radd_e3 (h : Env w0 w l) (ha : (va, xs) ∈ l) (hb : (vb, ys) ∈ l) (hz : sAdd xs ys = zs) : Calls Try.prog 58 #[va, vb] w (NewL w zs) := by
  obtain ⟨A, cap, rfl, h1, h2, hr⟩ := h.get ha
  obtain ⟨A', cap', rfl, h1', h2', hr'⟩ := h.get hb
  subst hz
  exact radd_any A A' cap cap' xs ys w hr hr' (Nat.le_trans h1 h2) (Nat.le_trans h1' h2')
theorem rcmp_e3 (h : Env w0 w l) (ha : (va, xs) ∈ l) (hb : (vb, ys) ∈ l) (z : Int) (hz : sCmp xs ys = z) : Calls Try.prog 69 #[va, vb] w fun e w' => e = .returned (.int .i64 z) ∧ Env w0 w' l := by
  have := rcmp_env h ha hb
  rwa [hz] at this
end

/-! ### square -/
theorem bit_true {A k : Nat} (h : A.testBit k = true) : A * (A % 2 ^ k) + A * 2 ^ k = A * (A % 2 ^ (k + 1)) := by
  rw [Nat.testBit_eq_decide_div_mod_eq] at h
  have h := of_decide_eq_true h
  rw [Nat.mod_pow_succ, h, Nat.mul_one, Nat.mul_add]
theorem bit_false {A k : Nat} (h : A.testBit k = false) : A % 2 ^ (k + 1) = A % 2 ^ k := by
  rw [Nat.testBit_eq_decide_div_mod_eq] at h
  have h := of_decide_eq_false h
  rw [Nat.mod_pow_succ, show A / 2 ^ k % 2 = 0 from by omega, Nat.mul_zero, Nat.add_zero]
theorem sBit_may {xs : List Nat} {k : Nat} (h : mayb xs = true) : sBit xs (k : Int) = (val xs).testBit k := by
  unfold sBit; rw [h, decide_eq_true (by omega)]; simp
theorem sqr_len {A : Nat} {n : Nat} (h : (lim A).length ≤ n) {x : Nat} (hx : x ≤ A * A) : (lim x).length ≤ 2 * n := by
  refine Nat.le_trans (lim_len_mono hx) (lim_length_le.2 ?_)
  have := lim_length_le.1 h
  rw [Nat.two_mul, Nat.pow_add]
  exact Nat.mul_lt_mul'' this this

set_option maxRecDepth 100000 in
set_option maxHeartbeats 4000000 in
theorem square3_any (va : Value) (xs : List Nat) (w : World) (ha : Arg w va xs) (hm : mayb xs = true) (hl : xs.length ≤ 30000) : Calls Try.prog 70 #[va] w (NewL w (lim (val xs * val xs))) := by
  have hbl := sBits_yes hm
  have hb2 := sBits_le' ha.limbs
  have hlim := lim_val (mayb_canon ha.limbs hm)
  obtain ⟨A, hA⟩ : ∃ A, val xs = A := ⟨_, rfl⟩
  rw [hA] at hbl hlim ⊢
  have hAl : (lim A).length ≤ 30000 := by rw [hlim]; exact hl
  have hlt : A < 2 ^ sBits xs := blen_le.1 (by omega)
  have hpw : ∀ k, k < sBits xs → 2 ^ k ≤ A := fun k hk => by
    rcases Nat.lt_or_ge A (2 ^ k) with h | h
    · have := blen_le.2 h; omega
    · exact h
  generalize hbb : sBits xs = bl at *
  have HBB := Lib.hid hbb
  have HA := Lib.hid ha
  have HM := Lib.hid hm
  have HV := Lib.hid hA
  have HLT := Lib.hid hlt
  have HPW := Lib.hid hpw
  clear hbl hlim hbb ha hm hA hlt hpw hl
  go_enter Try.func70, Try.ntmps70
  go_wp2_with fail
  go_loopw [3, 4] (fun o i wr => ∃ k : Nat, k ≤ bl ∧ i = .int .i64 (k : Int) ∧ Own wr w.heap.size o (lim (A * (A % 2 ^ k))) ∧ Below w.heap.size w wr) (fun _ i _ => bl - (intOf i).toNat)
  case atStart => exact ⟨0, Nat.zero_le _, rfl, by rw [Nat.pow_zero, Nat.mod_one, Nat.mul_zero, lim_zero]; exact Own.nil _ _, Below.refl _ _⟩
  case round =>
    obtain ⟨k, hk, rfl, hO, hB⟩ := hrel
    have e0 : Env wr wr [(u3, lim (A * (A % 2 ^ k))), (va, xs)] := ((env_start wr).add (Below.refl _ _) (HA.out.below hB)).add (Below.refl _ _) (hO.arg (lim_limbs _))
    have HO := Lib.hid hO
    have HB := Lib.hid hB
    have cB := rbits_e3 e0 (va := va) (xs := xs) (by simp) bl HBB.out
    clear hO hB
    by_cases hkt : k < bl
    · have hbit := sBit_may (k := k) HM.out
      rw [HV.out] at hbit
      rcases hb : A.testBit k with _ | _
      · rw [hb] at hbit
        have HBIT := Lib.hid hbit
        have HS := Lib.hid (bit_false hb)
        clear hbit hb
        go_wp2_with fail
        with_reducible refine cB.mono ?_
        rintro e w' ⟨rfl, hw⟩
        obtain rfl := hw.symm
        clear cB
        go_wp2_with fail
        refine (rbit_e3 e0 (va := va) (xs := xs) (by simp) (k : Int) (by omega) (by omega) false HBIT.out).mono ?_
        rintro e w1 ⟨rfl, e1⟩
        have HOF := Lib.hid (HO.out.below e1.1)
        have HBF := Lib.hid (HB.out.trans (e1.1.mono HB.out.size))
        clear e0 e1
        go_wp2_with fail
        go_roundw
        case rel => exact ⟨k + 1, by omega, by go_num, by rw [HS.out]; exact HOF.out, HBF.out⟩
        case measure => simp [intOf]; omega
      · rw [hb] at hbit
        have HBIT := Lib.hid hbit
        have hst := bit_true hb
        have hp := HPW.out k hkt
        have h1 : A * 2 ^ k ≤ A * A := Nat.mul_le_mul_left _ hp
        have h2 : A * (A % 2 ^ k) ≤ A * A := Nat.mul_le_mul_left _ (Nat.mod_le _ _)
        have h3 : A * (A % 2 ^ (k + 1)) ≤ A * A := Nat.mul_le_mul_left _ (Nat.mod_le _ _)
        have l1 := sqr_len hAl h1
        have l2 := sqr_len hAl h2
        have l3 := sqr_len hAl h3
        have HSH := Lib.hid (show sShl xs (k : Int) = lim (A * 2 ^ k) by rw [sShl_yes HM.out, HV.out, clip_of (by omega)])
        have HAD := Lib.hid (show sAdd (lim (A * (A % 2 ^ k))) (lim (A * 2 ^ k)) = lim (A * (A % 2 ^ (k + 1))) by
          rw [sAdd_yes (by rw [mayb_lim (by omega), mayb_lim (by omega)]; rfl), val_lim, val_lim, hst, clip_of (by omega)])
        clear hbit hb hst hp h1 h2 h3 l1 l2 l3
        go_wp2_with fail
        with_reducible refine cB.mono ?_
        rintro e w' ⟨rfl, hw⟩
        obtain rfl := hw.symm
        clear cB
        go_wp2_with fail
        refine (rbit_e3 e0 (va := va) (xs := xs) (by simp) (k : Int) (by omega) (by omega) true HBIT.out).mono ?_
        rintro e w1 ⟨rfl, e1⟩
        clear e0
        go_wp2_with fail
        refine (rshl_e3 e1 (va := va) (xs := xs) (by simp) (k : Int) (by omega) HSH.out).mono ?_
        rintro e w2 ⟨r2, rfl, e2⟩
        clear e1
        go_wp2_with fail
        refine (radd_e3 e2 (va := u3) (xs := lim (A * (A % 2 ^ k))) (vb := r2) (ys := lim (A * 2 ^ k)) (by simp) (by simp) HAD.out).mono ?_
        rintro e w3 ⟨⟨r3, rfl, ho3⟩, hb3⟩
        have hB2 := HB.out.trans (e2.1.mono HB.out.size)
        have HOF := Lib.hid (ho3.more hB2.size)
        have HBF := Lib.hid (hB2.trans (hb3.mono hB2.size))
        clear e2 ho3 hb3 hB2
        go_wp2_with fail
        go_roundw
        case rel => exact ⟨k + 1, by omega, by go_num, HOF.out, HBF.out⟩
        case measure => simp [intOf]; omega
    · obtain rfl : k = bl := by omega
      have HS := Lib.hid (Nat.mod_eq_of_lt HLT.out)
      clear e0
      go_wp2_with fail
      with_reducible refine cB.mono ?_
      rintro e w' ⟨rfl, hw⟩
      obtain rfl := hw.symm
      clear cB
      go_wp2
      go_ret
      exact ⟨⟨_, rfl, by have := HO.out; rw [HS.out] at this; exact this⟩, HB.out⟩

/-! ### Root -/
theorem lim_len_add2 {a b k : Nat} (h : (lim a).length ≤ k) (hb : (lim b).length ≤ k) : (lim (a + b)).length ≤ k + 1 := by
  have h1 := lim_length_le.1 h
  have h2 := lim_length_le.1 hb
  refine lim_length_le.2 ?_
  rw [Nat.pow_succ]
  generalize 4294967296 ^ k = P at *
  omega
theorem root_up {X j A : Nat} (h : ¬ (X + 2 ^ j) * (X + 2 ^ j) ≤ A) : A < (X + 2 ^ j) * (X + 2 ^ j) := by omega
theorem root_on {X j A : Nat} (h : A < (X + 2 ^ (j + 1)) * (X + 2 ^ (j + 1))) : A < (X + 2 ^ j + 2 ^ j) * (X + 2 ^ j + 2 ^ j) := by
  rw [Nat.pow_succ] at h
  have e : X + 2 ^ j + 2 ^ j = X + 2 ^ j * 2 := by omega
  rw [e]; exact h
theorem root_first {A n : Nat} (h : A < 2 ^ n) : A < (0 + 2 ^ (n / 2 + 1)) * (0 + 2 ^ (n / 2 + 1)) := by
  rw [Nat.zero_add, ← Nat.pow_add]
  exact Nat.lt_of_lt_of_le h (Nat.pow_le_pow_right (by decide) (by omega))

set_option maxRecDepth 100000 in
set_option maxHeartbeats 4000000 in
theorem rroot_yes (va : Value) (xs : List Nat) (w : World) (ha : Arg w va xs) (hm : mayb xs = true) (hl : xs.length ≤ 1000) : Calls Try.prog 42 #[va] w (NewL w (sRoot xs)) := by
  have hbl := sBits_yes hm
  have hb2 := sBits_le ha.limbs
  have hlim := lim_val (mayb_canon ha.limbs hm)
  have HS := Lib.hid (sRoot_yes hm)
  have cM := rmay_e3 (env_start1 ha) (va := va) (xs := xs) (by simp) true hm
  obtain ⟨A, hA⟩ : ∃ A, val xs = A := ⟨_, rfl⟩
  rw [hA] at hbl hlim HS
  have hAl : (lim A).length ≤ 1000 := by rw [hlim]; exact hl
  have hlt : A < 2 ^ sBits xs := blen_le.1 (by omega)
  have hst := root_first hlt
  have cB := rbits_e3 (env_start1 ha) (va := va) (xs := xs) (by simp) _ rfl
  generalize hbb : sBits xs = bl at *
  have hbl3 : bl ≤ 32000 := by omega
  obtain ⟨h, hh⟩ : ∃ h, bl / 2 = h := ⟨_, rfl⟩
  rw [hh] at hst
  have q1 : (bl : Int) / 2 = (h : Int) := by omega
  have hh2 : h ≤ 16000 := by omega
  have hlim1 : lim 1 = [1] := lim_eq (by decide) (Limbs.one (by decide)) (by decide)
  have HA := Lib.hid ha
  have HM := Lib.hid hm
  have HV := Lib.hid hA
  have HST := Lib.hid hst
  have HLIM := Lib.hid hlim
  clear hbl hlim hbb ha hm hA hlt hst hb2 hh hl
  go_enter Try.func42, Try.ntmps42
  go_wp2_with fail
  with_reducible refine cM.mono ?_
  rintro e w' ⟨rfl, hw⟩
  obtain rfl := hw.symm
  clear cM
  go_wp2_with fail
  with_reducible refine cB.mono ?_
  rintro e w' ⟨rfl, hw⟩
  obtain rfl := hw.symm
  clear cB
  go_wp2_with fail
  go_loopw [3, 4] (fun o i wr => ∃ j X : Nat, j ≤ h + 1 ∧ i = .int .i64 ((j : Int) - 1) ∧ Hid (X * X ≤ A ∧ A < (X + 2 ^ j) * (X + 2 ^ j)) ∧ Own wr w.heap.size o (lim X) ∧ Below w.heap.size w wr) (fun _ i _ => (intOf i + 1).toNat)
  case atStart => exact ⟨h + 1, 0, Nat.le_refl _, by go_num, ⟨by simp, HST.out⟩, by rw [lim_zero]; exact Own.nil _ _, Below.refl _ _⟩
  case round =>
    obtain ⟨j, X, hj, rfl, hX, hO, hB⟩ := hrel
    have HO := Lib.hid hO
    have HB := Lib.hid hB
    rcases Nat.eq_zero_or_pos j with hj0 | hj0
    · subst hj0
      have hr := hX.out
      rw [Nat.pow_zero] at hr
      have HR := Lib.hid (rt_eq hr.1 hr.2)
      clear hO hB hX hr
      go_wp2
      go_ret
      exact ⟨⟨_, rfl, by rw [HS.out, HR.out]; exact HO.out⟩, HB.out⟩
    · obtain ⟨k, rfl⟩ : ∃ k, j = k + 1 := ⟨j - 1, by omega⟩
      have hi1 : ((k + 1 : Nat) : Int) - 1 = (k : Int) := by omega
      have e0 : Env wr wr [(u3, lim X), (va, xs)] := ((env_start wr).add (Below.refl _ _) (HA.out.below hB)).add (Below.refl _ _) (hO.arg (lim_limbs _))
      have hXA : X ≤ A := Nat.le_trans (rt_max hX.out.1) (rtd_spec A A).2.1
      have lX : (lim X).length ≤ 1000 := Nat.le_trans (lim_len_mono hXA) hAl
      have lp : (lim (2 ^ k)).length ≤ 1000 := by
        rw [lim_len_blen]
        have : blen (2 ^ k) ≤ k + 1 := blen_le.2 (Nat.pow_lt_pow_right (by decide) (by omega))
        omega
      have lY := lim_len_add2 lX lp
      have lYY := sqr_len lY (Nat.le_refl ((X + 2 ^ k) * (X + 2 ^ k)))
      have HSH := Lib.hid (show sShl [1] (k : Int) = lim (2 ^ k) by rw [sShl_yes (by decide), show val [1] = 1 from by decide, Nat.one_mul, clip_of (by omega)])
      have HAD := Lib.hid (show sAdd (lim X) (lim (2 ^ k)) = lim (X + 2 ^ k) by rw [sAdd_yes (by rw [mayb_lim (by omega), mayb_lim (by omega)]; rfl), val_lim, val_lim, clip_of (by omega)])
      have hmY : mayb (lim (X + 2 ^ k)) = true := mayb_lim (by omega)
      have hcm : sCmp (lim ((X + 2 ^ k) * (X + 2 ^ k))) xs = cmpN ((X + 2 ^ k) * (X + 2 ^ k)) A := by rw [sCmp_yes (by rw [mayb_lim (by omega), HM.out]; rfl), val_lim, HV.out]
      have HMY := Lib.hid hmY
      have HX := Lib.hid hX.out
      by_cases hy : (X + 2 ^ k) * (X + 2 ^ k) ≤ A
      · have hcz : ∃ z : Int, cmpN ((X + 2 ^ k) * (X + 2 ^ k)) A = z ∧ z ≤ 0 := by
          rcases Nat.lt_or_ge ((X + 2 ^ k) * (X + 2 ^ k)) A with h1 | h1
          · exact ⟨-1, cmpN_lt h1, by decide⟩
          · exact ⟨0, cmpN_eq (by omega), by decide⟩
        obtain ⟨z, hz1, hz2⟩ := hcz
        rw [hz1] at hcm
        have HCM := Lib.hid hcm
        have HXN : Hid ((X + 2 ^ k) * (X + 2 ^ k) ≤ A ∧ A < (X + 2 ^ k + 2 ^ k) * (X + 2 ^ k + 2 ^ k)) := ⟨hy, root_on HX.out.2⟩
        have HLY := Lib.hid lY
        clear hcm hz1 hy hmY hX hO hB hXA lX lp lYY
        rw [hi1]
        go_wp2_with fail
        have e1 := e0.lit1 1 1 rfl (by decide)
        refine (rshl_e3 e1 (va := .slice (some ⟨wr.heap.size, 0, none⟩) 1 1) (xs := [1]) (by simp) (k : Int) (by omega) HSH.out).mono ?_
        rintro e w2 ⟨r2, rfl, e2⟩
        clear e0 e1
        go_wp2_with fail
        refine (radd_e3 e2 (va := u3) (xs := lim X) (vb := r2) (ys := lim (2 ^ k)) (by simp) (by simp) HAD.out).mono ?_
        rintro e w3 ⟨⟨r3, rfl, hoy⟩, hby⟩
        have e3 := e2.newR (lim_limbs _) hoy hby
        have HE2 := Lib.hid e2.1
        have HBy := Lib.hid (HB.out.trans (e2.1.mono HB.out.size))
        clear e2
        go_wp2_with fail
        refine (square3_any r3 (lim (X + 2 ^ k)) w3 (e3.get (by simp)) HMY.out (by have := HLY.out; omega)).mono ?_
        rintro e w4 ⟨⟨r4, rfl, hoq⟩, hbq⟩
        rw [val_lim] at hoq
        have e4 : Env w4 w4 [(r4, lim ((X + 2 ^ k) * (X + 2 ^ k))), (va, xs)] := ((env_start w4).add (Below.refl _ _) ((e3.get (v := va) (xs := xs) (by simp)).below hbq)).add (Below.refl _ _) (hoq.arg (lim_limbs _))
        clear e3 hoq
        go_wp2_with fail
        refine (rcmp_e3 e4 (va := r4) (xs := lim ((X + 2 ^ k) * (X + 2 ^ k))) (vb := va) (ys := xs) (by simp) (by simp) _ HCM.out).mono ?_
        rintro e w5 ⟨rfl, ec⟩
        clear e4
        have HOY := Lib.hid ((hoy.below (hbq.trans (ec.1.mono hbq.size))).more HBy.out.size)
        have HBF := Lib.hid (HBy.out.trans ((hby.trans ((hbq.trans (ec.1.mono hbq.size)).mono hby.size)).mono HBy.out.size))
        clear ec hoy hby hbq
        go_wp2_with fail
        go_roundw
        case rel => exact ⟨k, X + 2 ^ k, by omega, by go_num, HXN.out, HOY.out, HBF.out⟩
        case measure => simp [intOf]
      · rw [cmpN_gt (root_up hy)] at hcm
        have HCM := Lib.hid hcm
        have HXN : Hid (X * X ≤ A ∧ A < (X + 2 ^ k) * (X + 2 ^ k)) := ⟨HX.out.1, root_up hy⟩
        have HLY := Lib.hid lY
        clear hcm hy hmY hX hO hB hXA lX lp lYY
        rw [hi1]
        go_wp2_with fail
        have e1 := e0.lit1 1 1 rfl (by decide)
        refine (rshl_e3 e1 (va := .slice (some ⟨wr.heap.size, 0, none⟩) 1 1) (xs := [1]) (by simp) (k : Int) (by omega) HSH.out).mono ?_
        rintro e w2 ⟨r2, rfl, e2⟩
        clear e0 e1
        go_wp2_with fail
        refine (radd_e3 e2 (va := u3) (xs := lim X) (vb := r2) (ys := lim (2 ^ k)) (by simp) (by simp) HAD.out).mono ?_
        rintro e w3 ⟨⟨r3, rfl, hoy⟩, hby⟩
        have e3 := e2.newR (lim_limbs _) hoy hby
        have HE2 := Lib.hid e2.1
        have HBy := Lib.hid (HB.out.trans (e2.1.mono HB.out.size))
        clear e2
        go_wp2_with fail
        refine (square3_any r3 (lim (X + 2 ^ k)) w3 (e3.get (by simp)) HMY.out (by have := HLY.out; omega)).mono ?_
        rintro e w4 ⟨⟨r4, rfl, hoq⟩, hbq⟩
        rw [val_lim] at hoq
        have e4 : Env w4 w4 [(r4, lim ((X + 2 ^ k) * (X + 2 ^ k))), (va, xs)] := ((env_start w4).add (Below.refl _ _) ((e3.get (v := va) (xs := xs) (by simp)).below hbq)).add (Below.refl _ _) (hoq.arg (lim_limbs _))
        clear e3 hoq
        go_wp2_with fail
        refine (rcmp_e3 e4 (va := r4) (xs := lim ((X + 2 ^ k) * (X + 2 ^ k))) (vb := va) (ys := xs) (by simp) (by simp) _ HCM.out).mono ?_
        rintro e w5 ⟨rfl, ec⟩
        clear e4
        have HBF2 := hby.trans ((hbq.trans (ec.1.mono hbq.size)).mono hby.size)
        have HOX := Lib.hid (HO.out.below (HE2.out.trans (HBF2.mono HE2.out.size)))
        have HBF := Lib.hid (HBy.out.trans (HBF2.mono HBy.out.size))
        clear ec hoy hby hbq HBF2
        go_wp2_with fail
        go_roundw
        case rel => exact ⟨k, X, by omega, by go_num, HXN.out, HOX.out, HBF.out⟩
        case measure => simp [intOf]

theorem rroot_any (va : Value) (xs : List Nat) (w : World) (ha : Arg w va xs) (hl : xs.length ≤ 1000) : Calls Try.prog 42 #[va] w (NewL w (sRoot xs)) := by
  rcases hm : mayb xs with _ | _
  · have cM := rmay_e3 (env_start1 ha) (va := va) (xs := xs) (by simp) false hm
    have HS := Lib.hid (sRoot_no hm)
    clear ha hm
    go_enter Try.func42, Try.ntmps42
    go_wp2_with fail
    with_reducible refine cM.mono ?_
    rintro e w' ⟨rfl, hw⟩
    obtain rfl := hw.symm
    clear cM
    go_wp2
    go_ret
    exact ⟨⟨_, rfl, by rw [HS.out]; exact Own.nil _ _⟩, Below.refl _ _⟩
  · exact rroot_yes va xs w ha hm hl

end Go.Proofs.Ytidflhonhekmjaa

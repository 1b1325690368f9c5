/- Contracts of the document's own answers: Shr. -/
import Derived.Laws.AppendOwnNone
import Derived.Deep.MidRow
import Derived.Test.YtdbmandbddechaaRefF
namespace Go.Proofs.Ytdbmandbddechaa
open Go.RowKit

set_option linter.unusedVariables false

/-- a quotient by p, from above: the places from m on are done -/
def RShrOk (Y : List Nat) (p m rest : Nat) (Z : List Nat) : Prop :=
  Limbs Z ∧ Z.length = Y.length ∧ rest < p ∧ (∀ j, j < m → Z[j]?.getD 0 = Y[j]?.getD 0) ∧ val (Z.drop m) * p + rest = val (Y.drop m)
theorem rshrOk_start {Y : List Nat} (h : Limbs Y) {p : Nat} (hp : 0 < p) : RShrOk Y p Y.length 0 Y := ⟨h, rfl, hp, fun _ _ => rfl, by simp [val]⟩
theorem rshr_fits {rest y p : Nat} (hr : rest < p) (hy : y < 4294967296) : (rest * 4294967296 + y) / p < 4294967296 := by
  rw [Nat.div_lt_iff_lt_mul (by omega)]
  have := Nat.mul_le_mul_left 4294967296 (show rest + 1 ≤ p by omega)
  omega
theorem rshrOk_next {Y Z : List Nat} {p m rest y : Nat} (h : RShrOk Y p (m + 1) rest Z) (hm : m < Y.length) (hY : Limbs Y) (hz : Z[m]?.getD 0 = y) : RShrOk Y p m ((rest * 4294967296 + y) % p) (Z.set m ((rest * 4294967296 + y) / p)) := by
  obtain ⟨h1, h2, h3, h4, h5⟩ := h
  have hyl : y < 4294967296 := by rw [← hz]; exact h1.getD m
  have hYm : Y[m]?.getD 0 = y := by rw [← h4 m (by omega)]; exact hz
  have hf := rshr_fits h3 hyl
  refine ⟨h1.set m hf, by simp [h2], Nat.mod_lt _ (by omega), fun j hj => ?_, ?_⟩
  · rw [List.getElem?_set_ne (by omega)]; exact h4 j (by omega)
  · rw [val_drop_cons (xs := Z.set m _) (by simp; omega), val_drop_cons (xs := Y) hm, hYm, List.drop_set_of_lt (by omega), List.getElem?_set_self (by omega)]
    simp only [Option.getD_some]
    rw [← h5]
    have hd := Nat.div_add_mod (rest * 4294967296 + y) p
    generalize (rest * 4294967296 + y) / p = d at *
    generalize (rest * 4294967296 + y) % p = r at *
    generalize val (Z.drop (m + 1)) = V at *
    rw [Nat.add_mul, Nat.add_mul, Nat.mul_right_comm]
    rw [Nat.mul_comm] at hd
    omega
theorem rshrOk_all {xs Z : List Nat} {k rest : Nat} (hx : Limbs xs) (hk : k / 32 ≤ xs.length) (h : RShrOk (xs.drop (k / 32)) (2 ^ (k % 32)) 0 rest Z) : val Z = val xs / 2 ^ k := by
  obtain ⟨h1, h2, h3, h4, h5⟩ := h
  simp only [List.drop_zero] at h5
  have h6 : val Z = val (xs.drop (k / 32)) / 2 ^ (k % 32) := by
    rw [← h5, Nat.mul_comm, Nat.mul_add_div (Nat.two_pow_pos _), Nat.div_eq_of_lt h3, Nat.add_zero]
  rw [h6, val_drop hx hk, Nat.div_div_eq_div_mul]
  congr 1
  rw [show (4294967296 : Nat) = 2 ^ 32 from rfl, ← Nat.pow_mul, ← Nat.pow_add, Nat.div_add_mod]

set_option maxHeartbeats 2000000 in
theorem rshr_yes (A : Option Addr) (cap : Nat) (xs : List Nat) (k : Nat) (w : World) (hr : Rd w w.heap.size A xs) (hlc : xs.length ≤ cap) (hcm : cap ≤ maxLen) (hx : mayb xs = true) (hk : k / 32 < xs.length) :
    Calls Try.prog 33 #[.slice A xs.length cap, .int .i64 (k : Int)] w fun e w' => (∃ v, e = .returned v ∧ Own w' w.heap.size v (lim (val xs / 2 ^ k))) ∧ Below w.heap.size w w' := by
  have hxm := (mayb_iff.1 hx).1
  obtain ⟨i0, hi, hz0, hz1, hz2⟩ := info_parts info32
  have c1 := rmay_is cap hr (by unfold maxLen; omega) hx
  have hp := pow31 (r := k % 32) (by omega)
  have hp0 := Nat.two_pow_pos (k % 32)
  obtain ⟨p, hpp⟩ : ∃ p, 2 ^ (k % 32) = p := ⟨_, rfl⟩
  have c2 := fun W => power_any (k % 32) p W (by omega) hpp
  have HP := Lib.hid hpp
  rw [hpp] at hp hp0
  obtain ⟨b, off, rfl, hlt, hcell⟩ := hr.2 (by omega)
  have hLY : (xs.drop (k / 32)).length = xs.length - k / 32 := by simp
  have hLim := hr.limbs.drop (k / 32)
  have hown0 : (w.alloc (.cells #[] 28)).ownsRow w.heap.size 28 1 (.slice (some ⟨w.heap.size, 0, none⟩) 0 0) 0 [] := World.ownsRow_lit w #[] 0 (Nat.le_refl _) (by decide) rfl
  have hcell2 : ∀ j u, (u32s (xs.drop (k / 32)))[j]? = some u → (w.alloc (.cells #[] 28)).cell? ((⟨b, off + k / 32, none⟩ : Addr).add j) = some u := by
    intro j u hu
    have hj : j < (xs.drop (k / 32)).length := by
      have := (List.getElem?_eq_some_iff.1 hu).1
      simpa [u32s] using this
    rw [Addr.add_mid]
    rw [((Below.refl _ w).alloc (Nat.le_refl _) (.cells #[] 28)).cell (p := ⟨b, off + k / 32 + j, none⟩) hlt, Nat.add_assoc, hcell (k / 32 + j) (by omega)]
    rw [u32s, List.getElem?_map, List.getElem?_drop, List.getElem?_eq_getElem (by omega)] at hu
    rw [List.getElem?_eq_getElem (by omega)]
    exact hu
  have HC := Lib.hid hcell2
  have hfits : clip (val xs / 2 ^ k) = lim (val xs / 2 ^ k) := clip_of (le_fits hr.limbs hx (Nat.div_le_self _ _))
  have HFT := Lib.hid hfits
  unfold maxLen at hcm
  clear hx hpp hcell hcell2 hfits
  go_enter Try.func33, Try.ntmps33
  go_wp2_with fail
  refine c1.mono ?_
  rintro e w' ⟨rfl, hw⟩
  obtain rfl := hw.symm
  clear c1
  go_wp2_with (at_builtin; refine wpList_append_own _ rfl _ _ 26 rfl w.heap.size 28 i0 (.int .u32 0) 1 4 Try.underlying26 hi hz0 hz1 hz2 rfl (by decide) _ _ _ rfl hown0 ⟨b, off + k / 32, none⟩ (xs.length - k / 32) (cap - k / 32) (u32s (xs.drop (k / 32))) rfl (by simp [u32s]) HC.out (u32s_one _) (by unfold maxLen; omega) (by omega) (by simp) ?_; intro v' w2 hown' hgrow hgone; clear hgone)
  have hg2 : (w.alloc (.cells #[] 28)).grownBy w2 (some w.heap.size) := hgrow
  have hb2 : Below w.heap.size w w2 := ((Below.refl _ w).alloc (Nat.le_refl _) _).grown hg2 (by simp) (fun k hk => by cases hk; exact Nat.le_refl _)
  obtain ⟨Y, hY⟩ : ∃ Y, xs.drop (k / 32) = Y := ⟨_, rfl⟩
  have HY := Lib.hid hY
  rw [hY] at hown' hLY hLim
  rw [Nat.zero_add, List.nil_append, ← hLY] at hown'
  have hlY : Y.length ≤ 65536 := by omega
  have hlY0 : 0 < Y.length := by omega
  obtain ⟨g, capv, rfl, hBg⟩ : ∃ g capv, v' = .slice (some ⟨g, 0, none⟩) Y.length capv ∧ w.heap.size ≤ g := by
    rcases hown'.2 with ⟨_, h0⟩ | ⟨g, capv, cur, h0, hg, _⟩
    · omega
    · exact ⟨g, capv, h0, hg⟩
  rw [← hLY]
  clear hg2 hgrow hown0 HC hY hLY
  go_wp2_with fail
  refine (c2 _).mono ?_
  rintro e w' ⟨rfl, hw⟩
  obtain rfl := hw.symm
  clear c2
  go_wp2_with fail
  go_loopw [7, 8, 9] (fun rv i sv wr => ∃ (m rest : Nat) (Z : List Nat), m ≤ Y.length ∧ i = .int .i64 ((m : Int) - 1) ∧ rv = .int .u64 (rest : Int) ∧ rest < p ∧ Hid (RShrOk Y p m rest Z) ∧ wr.ownsRow w.heap.size 28 1 (.slice (some ⟨g, 0, none⟩) Y.length capv) Y.length (u32s Z) ∧ Below w.heap.size w wr) (fun _ i _ _ => (intOf i + 1).toNat)
  case atStart => exact ⟨Y.length, 0, Y, Nat.le_refl _, rfl, rfl, hp0, rshrOk_start hLim hp0, hown', hb2⟩
  case round =>
    clear hown' hb2
    obtain ⟨m, rest, Z, hm, rfl, rfl, hrp, hok, hown, hB⟩ := hrel
    rcases Nat.eq_zero_or_pos m with h0 | h0
    · subst h0
      have hok' := hok.out
      rw [← HY.out, ← HP.out] at hok'
      have hval := rshrOk_all hr.limbs (by omega) hok'
      have HV := Lib.hid hval
      have hlm := hok.out.1
      have ct := cut_own hown hlm
      clear hval hown hok'
      go_wp2_with fail
      refine ct.mono ?_
      rintro e w' ⟨⟨v', rfl, hv'⟩, hw⟩
      obtain rfl := hw.symm
      clear ct
      rw [HV.out, HFT.out] at hv'
      have HO := Lib.hid hv'
      clear hv'
      go_wp2
      go_ret
      exact ⟨⟨_, rfl, HO.out⟩, hB⟩
    · obtain ⟨t, rfl⟩ : ∃ t, m = t + 1 := ⟨m - 1, by omega⟩
      have hzl : Z.length = Y.length := hok.out.2.1
      have hcl0 := hown.cellAt t (by omega)
      rw [u32s, List.getElem?_map, List.getElem?_eq_getElem (by omega)] at hcl0
      have hzg := hok.out.1.getD t
      obtain ⟨z, hz⟩ : ∃ z, Z[t]?.getD 0 = z := ⟨_, rfl⟩
      have hz2 : Z[t] = z := by rw [← hz, List.getElem?_eq_getElem (by omega)]; rfl
      rw [hz] at hzg
      have hcl : wr.cell? ⟨g, t, none⟩ = some (.int .u32 (z : Int)) := by rw [← hz2]; exact hcl0
      clear hcl0
      have hfz := hown.frozenAt t
      have hn := rshrOk_next hok.out (by omega) hLim hz
      have hf := rshr_fits hrp hzg
      have hrl : (rest * 4294967296 + z) % p < p := Nat.mod_lt _ (by omega)
      have q1 : ((rest : Int) * 4294967296 + (z : Int)) / (p : Int) = (((rest * 4294967296 + z) / p : Nat) : Int) := by simp
      have q2 : ((rest : Int) * 4294967296 + (z : Int)) % (p : Int) = (((rest * 4294967296 + z) % p : Nat) : Int) := by simp
      generalize (rest * 4294967296 + z) / p = d at *
      generalize (rest * 4294967296 + z) % p = r2 at *
      have q0 : ((p : Int) == 0) = false := by rw [beq_eq_false_iff_ne]; omega
      have hst := hown.stored t (.int .u32 (d : Int))
      have hu : (u32s Z).set t (.int .u32 (d : Int)) = u32s (Z.set t d) := by simp [u32s, lv, List.map_set]
      rw [hu] at hst
      have HN := Lib.hid hn
      have hR1 := Lib.hid hst.1
      have hb0 := Lib.hid (hB.setCell (p := ⟨g, t, none⟩) hBg (.int .u32 (d : Int)))
      have hti : ((t + 1 : Nat) : Int) - 1 = (t : Int) := by omega
      rw [hti]
      clear hst hown hz hz2 hn hu hti
      go_wp2
      go_roundw
      case rel => exact ⟨t, r2, Z.set t d, by omega, by go_num, by go_num, hrl, HN.out, hR1.out, hb0.out⟩
      case measure => simp [intOf]

theorem sShr_no1 {xs : List Nat} {k : Int} (h : mayb xs = false) : sShr xs k = [] := by unfold sShr; rw [h]; rfl

set_option maxHeartbeats 1000000 in
theorem rshr_any (A : Option Addr) (cap : Nat) (xs : List Nat) (k : Int) (w : World) (hr : Rd w w.heap.size A xs) (hlc : xs.length ≤ cap) (hcm : cap ≤ maxLen) (hk3 : k ≤ 2097152) :
    Calls Try.prog 33 #[.slice A xs.length cap, .int .i64 k] w fun e w' => (∃ v, e = .returned v ∧ Own w' w.heap.size v (sShr xs k)) ∧ Below w.heap.size w w' := by
  have hc : xs.length ≤ maxLen := Nat.le_trans hlc hcm
  rcases hx : mayb xs with _ | _
  · have hs := Lib.hid (sShr_no1 (k := k) hx)
    have c1 := rmay_is cap hr hc hx
    clear hx
    go_enter Try.func33, Try.ntmps33
    go_wp2_with fail
    refine c1.mono ?_
    rintro e w' ⟨rfl, hw⟩
    obtain rfl := hw.symm
    clear c1
    go_wp2
    go_ret
    exact ⟨⟨_, rfl, by rw [hs.out]; exact Own.nil _ _⟩, Below.refl _ _⟩
  have c1 := rmay_is cap hr hc hx
  rcases Int.lt_or_le k 0 with h | h
  · have hs := Lib.hid (sShr_no2 (xs := xs) h)
    have hk0 : decide (k < 0) = true := decide_eq_true h
    clear hx
    go_enter Try.func33, Try.ntmps33
    go_wp2_with fail
    refine c1.mono ?_
    rintro e w' ⟨rfl, hw⟩
    obtain rfl := hw.symm
    clear c1
    go_wp2
    go_ret
    exact ⟨⟨_, rfl, by rw [hs.out]; exact Own.nil _ _⟩, Below.refl _ _⟩
  obtain ⟨n, rfl⟩ := Int.eq_ofNat_of_zero_le h
  rcases Nat.lt_or_ge (n / 32) xs.length with hn | hn
  · rw [sShr_yes hx]
    exact rshr_yes A cap xs n w hr hlc hcm hx hn
  · have hs := Lib.hid (sShr_over (xs := xs) (k := n) (Nat.le_trans (sBits_le hr.limbs) (by omega)))
    clear hx
    go_enter Try.func33, Try.ntmps33
    go_wp2_with fail
    refine c1.mono ?_
    rintro e w' ⟨rfl, hw⟩
    obtain rfl := hw.symm
    clear c1
    go_wp2
    go_ret
    exact ⟨⟨_, rfl, by rw [hs.out]; exact Own.nil _ _⟩, Below.refl _ _⟩

section
variable {w0 w w' : World} {l o : List (Value × List Nat)} {va vb : Value} {xs ys : List Nat}
theorem shl_lab (h : Lab w0 w l o) (ha : (va, xs) ∈ l) (k : Int) : Calls Try.prog 18 #[va, .int .i64 k] w fun e w' => ∃ r, e = .returned r ∧ Lab w0 w' l ((r, sShl xs k) :: o) := by
  obtain ⟨A, cap, rfl, h1, h2, hr⟩ := h.1.get ha
  exact (shl_any A cap xs k w hr (Nat.le_trans h1 h2)).mono fun _ _ ⟨⟨r, he, ho⟩, hbl⟩ => ⟨r, he, h.add hbl ho (sShl_limbs _ _)⟩
theorem shr_lab (h : Lab w0 w l o) (ha : (va, xs) ∈ l) (k : Int) : Calls Try.prog 19 #[va, .int .i64 k] w fun e w' => ∃ r, e = .returned r ∧ Lab w0 w' l ((r, sShr xs k) :: o) := by
  obtain ⟨A, cap, rfl, h1, h2, hr⟩ := h.1.get ha
  exact (shr_any A cap xs k w hr h1 h2).mono fun _ _ ⟨⟨r, he, ho⟩, hbl⟩ => ⟨r, he, h.add hbl ho (sShr_limbs _ _)⟩
theorem rshl_lab (h : Lab w0 w l o) (ha : (va, xs) ∈ l) (k : Int) (hk : k ≤ 2097152) : Calls Try.prog 32 #[va, .int .i64 k] w fun e w' => ∃ r, e = .returned r ∧ Lab w0 w' l ((r, sShl xs k) :: o) := by
  obtain ⟨A, cap, rfl, h1, h2, hr⟩ := h.1.get ha
  exact (rshl_any A cap xs k w hr (Nat.le_trans h1 h2) hk).mono fun _ _ ⟨⟨r, he, ho⟩, hbl⟩ => ⟨r, he, h.add hbl ho (sShl_limbs _ _)⟩
theorem rshr_lab (h : Lab w0 w l o) (ha : (va, xs) ∈ l) (k : Int) (hk : k ≤ 2097152) : Calls Try.prog 33 #[va, .int .i64 k] w fun e w' => ∃ r, e = .returned r ∧ Lab w0 w' l ((r, sShr xs k) :: o) := by
  obtain ⟨A, cap, rfl, h1, h2, hr⟩ := h.1.get ha
  exact (rshr_any A cap xs k w hr h1 h2 hk).mono fun _ _ ⟨⟨r, he, ho⟩, hbl⟩ => ⟨r, he, h.add hbl ho (sShr_limbs _ _)⟩
theorem rbits_env (h : Env w0 w l) (ha : (va, xs) ∈ l) : Calls Try.prog 34 #[va] w fun e w' => e = .returned (.int .i64 (sBits xs : Nat)) ∧ Env w0 w' l := by
  obtain ⟨A, cap, rfl, h1, h2, hr⟩ := h.get ha
  exact (rbits_any A cap xs w _ hr (Nat.le_trans h1 h2)).mono fun _ _ ⟨he, hw⟩ => ⟨he, by rw [hw]; exact h⟩
theorem rbit_env (h : Env w0 w l) (ha : (va, xs) ∈ l) (k : Int) (hk1 : -9223372036854775808 ≤ k) (hk2 : k ≤ 9223372036854775807) : Calls Try.prog 35 #[va, .int .i64 k] w fun e w' => e = .returned (.bool (sBit xs k)) ∧ Env w0 w' l := by
  obtain ⟨A, cap, rfl, h1, h2, hr⟩ := h.get ha
  exact (rbit_any A cap xs k w _ hr (Nat.le_trans h1 h2) hk1 hk2).mono fun _ _ ⟨he, n, hw⟩ => ⟨he, by rw [hw]; exact h.drewN n⟩
end

end Go.Proofs.Ytdbmandbddechaa

/- Contracts of the document's own answers of layer 1: Add, Sub, whatever is handed in; Low; and what the laws do beside: own, is. -/
import Derived.Test.YtdbmandbddechaaRefB
namespace Go.Proofs.Ytdbmandbddechaa
open Go.RowKit

set_option linter.unusedVariables false

set_option maxHeartbeats 1000000 in
theorem radd_any (A A' : Option Addr) (cap cap' : Nat) (xs ys : List Nat) (w : World) (hr : Rd w w.heap.size A xs) (hr' : Rd w w.heap.size A' ys) (hc : xs.length ≤ maxLen) (hc' : ys.length ≤ maxLen) :
    Calls Try.prog 29 #[.slice A xs.length cap, .slice A' ys.length cap'] w fun e w' => (∃ v, e = .returned v ∧ Own w' w.heap.size v (sAdd xs ys)) ∧ Below w.heap.size w w' := by
  rcases hx : mayb xs with _ | _
  · have hs := Lib.hid (sAdd_no (xs := xs) (ys := ys) (by simp [hx]))
    have c1 := rmay_is cap hr hc hx
    clear hx hc hc'
    go_enter Try.func29, Try.ntmps29
    go_wp2_with fail
    refine c1.mono ?_
    rintro e w' ⟨rfl, hw⟩
    obtain rfl := hw.symm
    clear c1
    go_wp2
    go_ret
    exact ⟨⟨_, rfl, by rw [hs.out]; exact Own.nil _ _⟩, Below.refl _ _⟩
  · rcases hy : mayb ys with _ | _
    · have hs := Lib.hid (sAdd_no (xs := xs) (ys := ys) (by simp [hy]))
      have c1 := rmay_is cap hr hc hx
      have c2 := rmay_is cap' hr' hc' hy
      clear hx hy hc hc'
      go_enter Try.func29, Try.ntmps29
      go_wp2_with fail
      refine c1.mono ?_
      rintro e w' ⟨rfl, hw⟩
      obtain rfl := hw.symm
      go_wp2_with fail
      refine c2.mono ?_
      rintro e w' ⟨rfl, hw⟩
      obtain rfl := hw.symm
      clear c1 c2
      go_wp2
      go_ret
      exact ⟨⟨_, rfl, by rw [hs.out]; exact Own.nil _ _⟩, Below.refl _ _⟩
    · rw [sAdd_yes (by simp [hx, hy])]
      exact radd_yes A A' cap cap' xs ys w hr hr' hx hy

set_option maxHeartbeats 1000000 in
theorem rsub_any (A A' : Option Addr) (cap cap' : Nat) (xs ys : List Nat) (w : World) (hr : Rd w w.heap.size A xs) (hr' : Rd w w.heap.size A' ys) (hc : xs.length ≤ maxLen) (hc' : ys.length ≤ maxLen) :
    Calls Try.prog 27 #[.slice A xs.length cap, .slice A' ys.length cap'] w fun e w' => (∃ v, e = .returned (.tuple #[v, .bool (sSubOk xs ys)]) ∧ Own w' w.heap.size v (sSub xs ys)) ∧ Below w.heap.size w w' := by
  rcases hx : mayb xs with _ | _
  · have hok : sSubOk xs ys = false := by unfold sSubOk; simp [hx]
    have hs := Lib.hid (sSub_no hok)
    have c1 := rmay_is cap hr hc hx
    rw [hok]
    clear hx hc hc' hok
    go_enter Try.func27, Try.ntmps27
    go_wp2_with fail
    refine c1.mono ?_
    rintro e w' ⟨rfl, hw⟩
    obtain rfl := hw.symm
    clear c1
    go_wp2
    go_ret2
    exact ⟨⟨_, rfl, by rw [hs.out]; exact Own.nil _ _⟩, Below.refl _ _⟩
  · rcases hy : mayb ys with _ | _
    · have hok : sSubOk xs ys = false := by unfold sSubOk; simp [hy]
      have hs := Lib.hid (sSub_no hok)
      have c1 := rmay_is cap hr hc hx
      have c2 := rmay_is cap' hr' hc' hy
      rw [hok]
      clear hx hy hc hc' hok
      go_enter Try.func27, Try.ntmps27
      go_wp2_with fail
      refine c1.mono ?_
      rintro e w' ⟨rfl, hw⟩
      obtain rfl := hw.symm
      go_wp2_with fail
      refine c2.mono ?_
      rintro e w' ⟨rfl, hw⟩
      obtain rfl := hw.symm
      clear c1 c2
      go_wp2
      go_ret2
      exact ⟨⟨_, rfl, by rw [hs.out]; exact Own.nil _ _⟩, Below.refl _ _⟩
    · rcases Nat.lt_or_ge (val xs) (val ys) with h | h
      · have hok : sSubOk xs ys = false := by unfold sSubOk; simp [hx, hy]; omega
        have hs := Lib.hid (sSub_no hok)
        have hcm : sCmp xs ys = -1 := by rw [sCmp_yes (by simp [hx, hy]), cmpN_lt h]
        have c1 := rmay_is cap hr hc hx
        have c2 := rmay_is cap' hr' hc' hy
        have c3 := rcmp_any A A' cap cap' xs ys w _ hr hr' hc hc'
        rw [hcm] at c3
        rw [hok]
        clear hx hy hc hc' hok hcm
        go_enter Try.func27, Try.ntmps27
        go_wp2_with fail
        refine c1.mono ?_
        rintro e w' ⟨rfl, hw⟩
        obtain rfl := hw.symm
        go_wp2_with fail
        refine c2.mono ?_
        rintro e w' ⟨rfl, hw⟩
        obtain rfl := hw.symm
        go_wp2_with fail
        refine c3.mono ?_
        rintro e wd ⟨rfl, nq, hw⟩
        have hBd : Below w.heap.size w wd := by rw [hw]; exact ⟨rfl, rfl, rfl, Nat.le_refl _, fun _ _ => rfl⟩
        clear c1 c2 c3 hw
        go_wp2
        go_ret2
        exact ⟨⟨_, rfl, by rw [hs.out]; exact Own.nil _ _⟩, hBd⟩
      · have hok : sSubOk xs ys = true := by unfold sSubOk; simp [hx, hy, h]
        rw [sSub_yes hok, hok]
        exact rsub_yes A A' cap cap' xs ys w hr hr' hx hy h

theorem val_drop_cons {xs : List Nat} {k : Nat} (h : k < xs.length) : val (xs.drop k) = val (xs.drop (k + 1)) * 4294967296 + xs[k]?.getD 0 := by
  rw [List.drop_eq_getElem_cons h, List.getElem?_eq_getElem h]
  simp only [val, Option.getD_some]
  omega

set_option maxHeartbeats 1000000 in
theorem rlow_any (A : Option Addr) (cap : Nat) (xs : List Nat) (w : World) (B : Nat) (hr : Rd w B A xs) (hc : xs.length ≤ maxLen) :
    Calls Try.prog 24 #[.slice A xs.length cap] w fun e w' => e = .returned (.tuple #[.int .u64 (sLow xs : Nat), .bool (sLowOk xs)]) ∧ w' = w := by
  rcases hx : mayb xs with _ | _
  · have hok : sLowOk xs = false := by unfold sLowOk; simp [hx]
    have c1 := rmay_is cap hr hc hx
    rw [sLow_no hok, hok]
    clear hx hc hok
    go_enter Try.func24, Try.ntmps24
    go_wp2_with fail
    refine c1.mono ?_
    rintro e w' ⟨rfl, hw⟩
    obtain rfl := hw.symm
    clear c1
    go_wp2
    go_ret2
    exact ⟨rfl, rfl⟩
  · have c1 := rmay_is cap hr hc hx
    rcases Nat.lt_or_ge 2 xs.length with hl | hl
    · have hok : sLowOk xs = false := by unfold sLowOk; simp; omega
      rw [sLow_no hok, hok]
      clear hx hok
      unfold maxLen at hc
      go_enter Try.func24, Try.ntmps24
      go_wp2_with fail
      refine c1.mono ?_
      rintro e w' ⟨rfl, hw⟩
      obtain rfl := hw.symm
      clear c1
      go_wp2
      go_ret2
      exact ⟨rfl, rfl⟩
    · have hok : sLowOk xs = true := by unfold sLowOk; simp [hx, hl]
      rw [sLow_yes hok, hok]
      clear hx hok hc
      go_enter Try.func24, Try.ntmps24
      go_wp2_with fail
      refine c1.mono ?_
      rintro e w' ⟨rfl, hw⟩
      obtain rfl := hw.symm
      clear c1
      go_wp2_with fail
      go_loop [4, 5] (fun uv i => ∃ (k u : Nat), k ≤ xs.length ∧ i = .int .i64 ((k : Int) - 1) ∧ uv = .int .u64 (u : Int) ∧ Hid (u = val (xs.drop k)) ∧ u < 18446744073709551616 ∧ (0 < k → u < 4294967296)) (fun _ i => (intOf i + 1).toNat)
      case atStart => exact ⟨xs.length, 0, Nat.le_refl _, rfl, rfl, by show _ = _; rw [List.drop_length]; rfl, by decide, fun _ => by decide⟩
      case round =>
        obtain ⟨k, u, hk, rfl, rfl, hu, hul, hub⟩ := hrel
        rcases Nat.eq_zero_or_pos k with h0 | h0
        · subst h0
          go_wp2
          go_ret2
          exact ⟨by rw [hu.out]; rfl, rfl⟩
        · obtain ⟨m, rfl⟩ : ∃ m, k = m + 1 := ⟨k - 1, by omega⟩
          obtain ⟨b, off, rfl, hlt, hcell⟩ := hr.2 (by omega)
          have hcl := hcell m (by omega)
          have hl1 := hr.limbs.getD m
          have hub' := hub (by omega)
          rw [show (((m + 1 : Nat) : Int) - 1) = (m : Int) from by omega]
          obtain ⟨x, hxe⟩ : ∃ x, xs[m]?.getD 0 = x := ⟨_, rfl⟩
          rw [hxe] at hcl hl1
          have hn : Hid (u * 4294967296 + x = val (xs.drop m)) := by show _ = _; rw [val_drop_cons (by omega), ← hu.out, hxe]
          have hv0 : Hid (0 < m → u * 4294967296 + x < 4294967296) := fun hm => by
            have hv := hn.out
            have := val_lt (hr.limbs.drop m)
            rw [List.length_drop] at this
            have h2 : 4294967296 ^ (xs.length - m) ≤ 4294967296 ^ 1 := Nat.pow_le_pow_right (by decide) (by omega)
            omega
          clear hcell hub hxe
          go_wp2
          go_round
          case rel => exact ⟨m, u * 4294967296 + x, by omega, rfl, by go_num, hn.out, by omega, hv0.out⟩
          case measure => simp [intOf]

end Go.Proofs.Ytdbmandbddechaa

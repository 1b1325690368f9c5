/- Contracts: what byHalves is handed, called at each of its takings. -/
import Derived.Test.YtlfhpoffphljfaaMulF
namespace Go.Proofs.Ytlfhpoffphljfaa
open Go.RowKit Go.Shelf

set_option linter.unusedVariables false

/-- times, up to so many limbs together. -/
def TimesAt (n : Nat) : Prop := ∀ (va vb : Value) (xs ys : List Nat) (w : World), Arg w va xs → Arg w vb ys → Canon xs → Canon ys → xs.length ≤ 65536 → ys.length ≤ 65536 → xs.length + ys.length ≤ n →
  Calls Try.prog 46 #[va, vb] w (NewNat w (val xs * val ys))
def SquareAt (n : Nat) : Prop := ∀ (va : Value) (xs : List Nat) (w : World), Arg w va xs → Canon xs → xs.length ≤ 65536 → xs.length ≤ n →
  Calls Try.prog 47 #[va] w (NewNat w (val xs * val xs))
def bothF (lb gb : Nat) : Value := .func (.func 69) #[] #[.pointer (some ⟨lb, 0, none⟩), .pointer (some ⟨gb, 0, none⟩)]
theorem env_here {w : World} {l : List (Value × List Nat)} (h : ∀ p ∈ l, Arg w p.1 p.2) : Env w w l := ⟨Below.refl _ _, h⟩
theorem NewNat.from {w w1 : World} {n : Nat} {e : Ending} {w' : World} {l : List (Value × List Nat)} (E : Env w w1 l) (h : NewNat w1 n e w') : NewNat w n e w' := by
  obtain ⟨⟨v, he, ho⟩, hb⟩ := h
  exact ⟨⟨v, he, ho.more E.1.size⟩, E.1.trans (hb.mono E.1.size)⟩
theorem NewNat.mk' {w w' : World} {n : Nat} {v : Value} (h : NewNat w n (.returned v) w') : Own w' w.heap.size v (lim n) ∧ Below w.heap.size w w' := by
  obtain ⟨⟨v', he, ho⟩, hb⟩ := h
  cases he
  exact ⟨ho, hb⟩

section
variable {w : World} {va vb : Value} {xs ys : List Nat} {half hb lb gb pa pb n : Nat}

set_option maxRecDepth 100000 in
set_option maxHeartbeats 4000000 in
theorem times1_low (IH : TimesAt n) (ha : Arg w va xs) (hv : Arg w vb ys) (hA : Box w pa va) (hP : Box w pb vb) (hB : Box w hb (.int .i64 (half : Int))) (cx : Canon xs) (cy : Canon ys) (h0 : half < xs.length) (h0' : half < ys.length) (hl : xs.length ≤ 2 * half) (hl' : ys.length ≤ 2 * half) (h1 : 0 < half) (hm : half ≤ 65535) (hn : 2 * half + 2 ≤ n) :
    Calls Try.prog 59 #[lowF hb, .pointer (some ⟨pa, 0, none⟩), .pointer (some ⟨pb, 0, none⟩)] w (NewNat w ((lo xs half) * (lo ys half))) := by
  have Ed := (env_here (w := w) (l := [(va, xs), (vb, ys)]) (fun p hp => by
    rcases List.mem_cons.1 hp with rfl | hp
    · exact ha
    · rcases List.mem_cons.1 hp with rfl | hp
      · exact hv
      · cases hp)).drew
  have h0p : 0 < xs.length := by omega
  have h0'p : 0 < ys.length := by omega
  have hh : half ≤ maxLen := by unfold maxLen; omega
  have ca := hA.at Ed
  have cb := hP.at Ed
  have ca0 := hA.2
  have cb0 := hP.2
  have HX := Lib.hid (piece_lo h0)
  have HY := Lib.hid (piece_lo h0')
  have LX := Nat.le_succ_of_le (lim_le (lo_lt cx.1 half))
  have LY := Nat.le_succ_of_le (lim_le (lo_lt cy.1 half))
  have mx : (va, xs) ∈ [(va, xs), (vb, ys)] := List.mem_cons_self ..
  have my : (vb, ys) ∈ [(va, xs), (vb, ys)] := List.mem_cons_of_mem _ (List.mem_cons_self ..)
  clear hl hl' cx cy
  unfold lowF
  go_enter Try.func59, Try.ntmps59
  go_upto_region 1 with fail
  go_region_with (first
    | (go_at_call_of 67 va; (with_reducible refine (low_half Ed mx hB h0p h1 hh).mono ?_); rintro e w1 ⟨v1, rfl, E1⟩; have cb1 := hP.at E1)
    | (go_at_call_of 67 vb; (with_reducible refine (low_half E1 (List.mem_cons_of_mem _ my) hB h0'p h1 hh).mono ?_); rintro e w2 ⟨v2, rfl, E2⟩)
    | (go_at_call 46; have cT := IH v1 v2 _ _ w2 (E2.get (List.mem_cons_of_mem _ (List.mem_cons_self ..))) (E2.get (List.mem_cons_self ..)) (by rw [HX.out]; exact canon_lim _) (by rw [HY.out]; exact canon_lim _) (by rw [HX.out]; omega) (by rw [HY.out]; omega) (by rw [HX.out, HY.out]; omega); (with_reducible refine cT.mono ?_); rintro e w3 hN; have hN2 := hN.from E2; clear hN cT; obtain ⟨⟨v3, rfl, ho⟩, hbl⟩ := hN2; rw [HX.out, HY.out, val_lim, val_lim] at ho))
  all_goals
    have HO := Lib.hid ho
    have HB := Lib.hid hbl
    clear ho hbl E1 E2 cb1
    go_wp2
    go_ret
    exact ⟨⟨_, rfl, HO.out⟩, HB.out⟩

set_option maxRecDepth 100000 in
set_option maxHeartbeats 4000000 in
theorem times1_high (IH : TimesAt n) (ha : Arg w va xs) (hv : Arg w vb ys) (hA : Box w pa va) (hP : Box w pb vb) (hB : Box w hb (.int .i64 (half : Int))) (cx : Canon xs) (cy : Canon ys) (h0 : half < xs.length) (h0' : half < ys.length) (hl : xs.length ≤ 2 * half) (hl' : ys.length ≤ 2 * half) (h1 : 0 < half) (hm : half ≤ 65535) (hn : 2 * half + 2 ≤ n) :
    Calls Try.prog 59 #[highF hb, .pointer (some ⟨pa, 0, none⟩), .pointer (some ⟨pb, 0, none⟩)] w (NewNat w ((hi xs half) * (hi ys half))) := by
  have Ed := (env_here (w := w) (l := [(va, xs), (vb, ys)]) (fun p hp => by
    rcases List.mem_cons.1 hp with rfl | hp
    · exact ha
    · rcases List.mem_cons.1 hp with rfl | hp
      · exact hv
      · cases hp)).drew
  have h0p : 0 < xs.length := by omega
  have h0'p : 0 < ys.length := by omega
  have hh : half ≤ maxLen := by unfold maxLen; omega
  have ca := hA.at Ed
  have cb := hP.at Ed
  have ca0 := hA.2
  have cb0 := hP.2
  have HX := Lib.hid (piece_hi (xs := xs) (half := half))
  have HY := Lib.hid (piece_hi (xs := ys) (half := half))
  have LX := Nat.le_succ_of_le (lim_le (hi_lt cx.1 hl))
  have LY := Nat.le_succ_of_le (lim_le (hi_lt cy.1 hl'))
  have mx : (va, xs) ∈ [(va, xs), (vb, ys)] := List.mem_cons_self ..
  have my : (vb, ys) ∈ [(va, xs), (vb, ys)] := List.mem_cons_of_mem _ (List.mem_cons_self ..)
  clear hl hl' cx cy
  unfold highF
  go_enter Try.func59, Try.ntmps59
  go_upto_region 1 with fail
  go_region_with (first
    | (go_at_call_of 68 va; (with_reducible refine (high_half Ed mx hB h0).mono ?_); rintro e w1 ⟨v1, rfl, E1⟩; have cb1 := hP.at E1)
    | (go_at_call_of 68 vb; (with_reducible refine (high_half E1 (List.mem_cons_of_mem _ my) hB h0').mono ?_); rintro e w2 ⟨v2, rfl, E2⟩)
    | (go_at_call 46; have cT := IH v1 v2 _ _ w2 (E2.get (List.mem_cons_of_mem _ (List.mem_cons_self ..))) (E2.get (List.mem_cons_self ..)) (by rw [HX.out]; exact canon_lim _) (by rw [HY.out]; exact canon_lim _) (by rw [HX.out]; omega) (by rw [HY.out]; omega) (by rw [HX.out, HY.out]; omega); (with_reducible refine cT.mono ?_); rintro e w3 hN; have hN2 := hN.from E2; clear hN cT; obtain ⟨⟨v3, rfl, ho⟩, hbl⟩ := hN2; rw [HX.out, HY.out, val_lim, val_lim] at ho))
  all_goals
    have HO := Lib.hid ho
    have HB := Lib.hid hbl
    clear ho hbl E1 E2 cb1
    go_wp2
    go_ret
    exact ⟨⟨_, rfl, HO.out⟩, HB.out⟩

set_option maxRecDepth 100000 in
set_option maxHeartbeats 4000000 in
theorem times1_both (IH : TimesAt n) (ha : Arg w va xs) (hv : Arg w vb ys) (hA : Box w pa va) (hP : Box w pb vb) (hB : Box w hb (.int .i64 (half : Int))) (hL : Box w lb (lowF hb)) (hG : Box w gb (highF hb)) (cx : Canon xs) (cy : Canon ys) (h0 : half < xs.length) (h0' : half < ys.length) (hl : xs.length ≤ 2 * half) (hl' : ys.length ≤ 2 * half) (h1 : 0 < half) (hm : half ≤ 65535) (hn : 2 * half + 2 ≤ n) :
    Calls Try.prog 59 #[bothF lb gb, .pointer (some ⟨pa, 0, none⟩), .pointer (some ⟨pb, 0, none⟩)] w (NewNat w ((lo xs half + hi xs half) * (lo ys half + hi ys half))) := by
  have Ed := (env_here (w := w) (l := [(va, xs), (vb, ys)]) (fun p hp => by
    rcases List.mem_cons.1 hp with rfl | hp
    · exact ha
    · rcases List.mem_cons.1 hp with rfl | hp
      · exact hv
      · cases hp)).drew
  have h0p : 0 < xs.length := by omega
  have h0'p : 0 < ys.length := by omega
  have hh : half ≤ maxLen := by unfold maxLen; omega
  have ca := hA.at Ed
  have cb := hP.at Ed
  have ca0 := hA.2
  have cb0 := hP.2
  have HX := Lib.hid (bothL_eq cx.1 h0 hl (by omega))
  have HY := Lib.hid (bothL_eq cy.1 h0' hl' (by omega))
  have LX := lim_le (both_lt cx.1 hl)
  have LY := lim_le (both_lt cy.1 hl')
  have mx : (va, xs) ∈ [(va, xs), (vb, ys)] := List.mem_cons_self ..
  have my : (vb, ys) ∈ [(va, xs), (vb, ys)] := List.mem_cons_of_mem _ (List.mem_cons_self ..)
  clear hl hl' cx cy
  unfold bothF
  go_enter Try.func59, Try.ntmps59
  go_upto_region 1 with fail
  go_region_with (first
    | (go_at_call_of 69 va; (with_reducible refine (both_halves Ed mx hB hL hG h0 h1).mono ?_); rintro e w1 ⟨v1, rfl, E1⟩; have cb1 := hP.at E1)
    | (go_at_call_of 69 vb; (with_reducible refine (both_halves E1 (List.mem_cons_of_mem _ my) hB hL hG h0' h1).mono ?_); rintro e w2 ⟨v2, rfl, E2⟩)
    | (go_at_call 46; have cT := IH v1 v2 _ _ w2 (E2.get (List.mem_cons_of_mem _ (List.mem_cons_self ..))) (E2.get (List.mem_cons_self ..)) (by rw [HX.out]; exact canon_lim _) (by rw [HY.out]; exact canon_lim _) (by rw [HX.out]; omega) (by rw [HY.out]; omega) (by rw [HX.out, HY.out]; omega); (with_reducible refine cT.mono ?_); rintro e w3 hN; have hN2 := hN.from E2; clear hN cT; obtain ⟨⟨v3, rfl, ho⟩, hbl⟩ := hN2; rw [HX.out, HY.out, val_lim, val_lim] at ho))
  all_goals
    have HO := Lib.hid ho
    have HB := Lib.hid hbl
    clear ho hbl E1 E2 cb1
    go_wp2
    go_ret
    exact ⟨⟨_, rfl, HO.out⟩, HB.out⟩

set_option maxRecDepth 100000 in
set_option maxHeartbeats 4000000 in
theorem square1_low (IH : SquareAt n) (ha : Arg w va xs) (hA : Box w pa va) (hB : Box w hb (.int .i64 (half : Int))) (cx : Canon xs) (h0 : half < xs.length) (hl : xs.length ≤ 2 * half) (h1 : 0 < half) (hm : half ≤ 65535) (hn : half + 1 ≤ n) :
    Calls Try.prog 61 #[lowF hb, .pointer (some ⟨pa, 0, none⟩)] w (NewNat w ((lo xs half) * (lo xs half))) := by
  have Ed := env_here (w := w) (l := [(va, xs)]) (fun p hp => by
    rcases List.mem_cons.1 hp with rfl | hp
    · exact ha
    · cases hp)
  have h0p : 0 < xs.length := by omega
  have hh : half ≤ maxLen := by unfold maxLen; omega
  have ca0 := hA.2
  have HX := Lib.hid (piece_lo h0)
  have LX := Nat.le_succ_of_le (lim_le (lo_lt cx.1 half))
  have mx : (va, xs) ∈ [(va, xs)] := List.mem_cons_self ..
  clear hl cx
  unfold lowF
  go_enter Try.func61, Try.ntmps61
  go_wp2_with fail
  refine (low_half Ed mx hB h0p h1 hh).mono ?_
  rintro e w1 ⟨v1, rfl, E1⟩
  have cT := IH v1 _ w1 (E1.get (List.mem_cons_self ..)) (by rw [HX.out]; exact canon_lim _) (by rw [HX.out]; omega) (by rw [HX.out]; omega)
  go_wp2_with fail
  refine cT.mono ?_
  rintro e w3 hN
  have hN2 := hN.from E1
  obtain ⟨⟨v3, rfl, ho⟩, hbl⟩ := hN2
  rw [HX.out, val_lim] at ho
  have HO := Lib.hid ho
  have HB := Lib.hid hbl
  clear ho hbl E1 cT hN
  go_wp2
  go_ret
  exact ⟨⟨_, rfl, HO.out⟩, HB.out⟩

set_option maxRecDepth 100000 in
set_option maxHeartbeats 4000000 in
theorem square1_high (IH : SquareAt n) (ha : Arg w va xs) (hA : Box w pa va) (hB : Box w hb (.int .i64 (half : Int))) (cx : Canon xs) (h0 : half < xs.length) (hl : xs.length ≤ 2 * half) (h1 : 0 < half) (hm : half ≤ 65535) (hn : half + 1 ≤ n) :
    Calls Try.prog 61 #[highF hb, .pointer (some ⟨pa, 0, none⟩)] w (NewNat w ((hi xs half) * (hi xs half))) := by
  have Ed := env_here (w := w) (l := [(va, xs)]) (fun p hp => by
    rcases List.mem_cons.1 hp with rfl | hp
    · exact ha
    · cases hp)
  have h0p : 0 < xs.length := by omega
  have hh : half ≤ maxLen := by unfold maxLen; omega
  have ca0 := hA.2
  have HX := Lib.hid (piece_hi (xs := xs) (half := half))
  have LX := Nat.le_succ_of_le (lim_le (hi_lt cx.1 hl))
  have mx : (va, xs) ∈ [(va, xs)] := List.mem_cons_self ..
  clear hl cx
  unfold highF
  go_enter Try.func61, Try.ntmps61
  go_wp2_with fail
  refine (high_half Ed mx hB h0).mono ?_
  rintro e w1 ⟨v1, rfl, E1⟩
  have cT := IH v1 _ w1 (E1.get (List.mem_cons_self ..)) (by rw [HX.out]; exact canon_lim _) (by rw [HX.out]; omega) (by rw [HX.out]; omega)
  go_wp2_with fail
  refine cT.mono ?_
  rintro e w3 hN
  have hN2 := hN.from E1
  obtain ⟨⟨v3, rfl, ho⟩, hbl⟩ := hN2
  rw [HX.out, val_lim] at ho
  have HO := Lib.hid ho
  have HB := Lib.hid hbl
  clear ho hbl E1 cT hN
  go_wp2
  go_ret
  exact ⟨⟨_, rfl, HO.out⟩, HB.out⟩

set_option maxRecDepth 100000 in
set_option maxHeartbeats 4000000 in
theorem square1_both (IH : SquareAt n) (ha : Arg w va xs) (hA : Box w pa va) (hB : Box w hb (.int .i64 (half : Int))) (hL : Box w lb (lowF hb)) (hG : Box w gb (highF hb)) (cx : Canon xs) (h0 : half < xs.length) (hl : xs.length ≤ 2 * half) (h1 : 0 < half) (hm : half ≤ 65535) (hn : half + 1 ≤ n) :
    Calls Try.prog 61 #[bothF lb gb, .pointer (some ⟨pa, 0, none⟩)] w (NewNat w ((lo xs half + hi xs half) * (lo xs half + hi xs half))) := by
  have Ed := env_here (w := w) (l := [(va, xs)]) (fun p hp => by
    rcases List.mem_cons.1 hp with rfl | hp
    · exact ha
    · cases hp)
  have h0p : 0 < xs.length := by omega
  have hh : half ≤ maxLen := by unfold maxLen; omega
  have ca0 := hA.2
  have HX := Lib.hid (bothL_eq cx.1 h0 hl (by omega))
  have LX := lim_le (both_lt cx.1 hl)
  have mx : (va, xs) ∈ [(va, xs)] := List.mem_cons_self ..
  clear hl cx
  unfold bothF
  go_enter Try.func61, Try.ntmps61
  go_wp2_with fail
  refine (both_halves Ed mx hB hL hG h0 h1).mono ?_
  rintro e w1 ⟨v1, rfl, E1⟩
  have cT := IH v1 _ w1 (E1.get (List.mem_cons_self ..)) (by rw [HX.out]; exact canon_lim _) (by rw [HX.out]; omega) (by rw [HX.out]; omega)
  go_wp2_with fail
  refine cT.mono ?_
  rintro e w3 hN
  have hN2 := hN.from E1
  obtain ⟨⟨v3, rfl, ho⟩, hbl⟩ := hN2
  rw [HX.out, val_lim] at ho
  have HO := Lib.hid ho
  have HB := Lib.hid hbl
  clear ho hbl E1 cT hN
  go_wp2
  go_ret
  exact ⟨⟨_, rfl, HO.out⟩, HB.out⟩
end

end Go.Proofs.Ytlfhpoffphljfaa

/- Reference of layer 4: Split. -/
import Derived.Test.YtileljokijmpaaaDoorRefW
import Derived.Test.YtileljokijmpaaaDoorDecI
import Derived.Test.YtileljokijmpaaaDoorDecD
namespace Go.Proofs.YtileljokijmpaaaDoor
open Go.RowKit Go.Shelf

set_option linter.unusedVariables false
set_option linter.unusedSimpArgs false

theorem nd_shift {n k : Nat} (h : k < nd n) : nd (n / 10 ^ k) = nd n - k := by
  have hp : 0 < 10 ^ k := Nat.pow_pos (by decide)
  rcases Nat.eq_zero_or_pos n with h0 | h0
  · subst h0
    rw [nd_zero] at h
    obtain rfl : k = 0 := by omega
    rfl
  · refine nd_unique ?_ ?_ (by omega)
    · rw [Nat.div_lt_iff_lt_mul hp, ← Nat.pow_add, Nat.sub_add_cancel (by omega)]
      exact lt_nd n
    · rw [Nat.le_div_iff_mul_le hp, ← Nat.pow_add, show nd n - k - 1 + k = nd n - 1 by omega]
      exact nd_ge (by omega)
theorem txt_cut {n k : Nat} (h : k < nd n) : txt n = txt (n / 10 ^ k) ++ pad n k := by
  unfold txt
  rw [nd_shift h, ← pad_add, Nat.sub_add_cancel (by omega)]
theorem dv_zero_front {A : List Nat} (h : ∀ c ∈ A, c = 48) : dv A = 0 := by
  have : A = List.replicate A.length 48 := List.eq_replicate_iff.2 ⟨rfl, h⟩
  rw [this, dv_zeros]
/-- what stands behind the 0s -/
theorem dv_behind {B : List Nat} {j : Nat} (h : ∀ i, i < j → B[i]?.getD 0 = 48) (hj : j ≤ B.length) : dv (B.drop j) = dv B := by
  conv => rhs; rw [← List.take_append_drop j B, dv_append]
  rw [dv_zero_front (A := B.take j), Nat.zero_mul, Nat.zero_add]
  intro c hc
  obtain ⟨i, hi, rfl⟩ := List.mem_iff_getElem.1 hc
  rw [List.length_take] at hi
  have := h i (by omega)
  rw [List.getElem?_eq_getElem (by omega)] at this
  rw [List.getElem_take]
  exact this
theorem split_low {n k p j : Nat} (h : k < nd n) (hp : p = nd n - k) (hj : p + j < nd n) (hz : ∀ i, i < j → (txt n)[p + i]?.getD 0 = 48) (hc : (txt n)[p + j]?.getD 0 ≠ 48) : isT ((txt n).drop (p + j)) = true ∧ dv ((txt n).drop (p + j)) = n % 10 ^ k := by
  have hd : (txt n).drop p = pad n k := by
    rw [txt_cut h, List.drop_left' (by rw [txt_length, nd_shift h, hp])]
  have hl : (txt n).length = nd n := txt_length n
  have hdr : (txt n).drop (p + j) = (pad n k).drop j := by rw [← hd, List.drop_drop]
  constructor
  · have hne : (txt n).drop (p + j) ≠ [] := fun e => by
      have := congrArg List.length e
      rw [List.length_drop] at this
      simp at this
      omega
    refine isT_iff.2 ⟨(txt_alld n).drop _, hne, fun e => ?_⟩
    rw [List.head?_eq_getElem?, List.getElem?_drop, Nat.add_zero] at e
    rw [e] at hc
    exact absurd rfl hc
  · rw [hdr, dv_behind, dv_pad]
    · intro i hi
      have := hz i hi
      rw [← hd, List.getElem?_drop]
      exact this
    · rw [pad_length]; omega
theorem split_none {n k p : Nat} (h : k < nd n) (hp : p = nd n - k) (hz : ∀ i, p + i < nd n → (txt n)[p + i]?.getD 0 = 48) : n % 10 ^ k = 0 := by
  have hd : (txt n).drop p = pad n k := by
    rw [txt_cut h, List.drop_left' (by rw [txt_length, nd_shift h, hp])]
  rw [← dv_pad, ← hd]
  refine dv_zero_front fun c hc => ?_
  obtain ⟨i, hi, rfl⟩ := List.mem_iff_getElem.1 hc
  rw [List.length_drop, txt_length] at hi
  have := hz i (by omega)
  rw [List.getElem?_eq_getElem (by rw [txt_length]; omega)] at this
  rw [List.getElem_drop]
  exact this

theorem owns_pair {w : World} {v v' : Value} {hi lo : List Nat} {w0 : World} (h : Own w w0.heap.size v hi) (h' : Own w w0.heap.size v' lo) (hb : Below w0.heap.size w0 w) : SplitPost hi lo w0 (.returned (.tuple #[v, v'])) w := ⟨⟨v, v', rfl, h, h'⟩, hb⟩

set_option maxRecDepth 100000 in
set_option maxHeartbeats 8000000 in
theorem rsplit_go {A : Option Addr} {cap nx : Nat} {xs : List Nat} (w : World) (ha : Arg w (.slice A nx cap) xs) (L : List Nat) (N p q : Nat) (HI LO : List Nat) (hc : Codes L) (hS : sShow xs = L) (hN : L.length = N) (hNb : N < 4294967296) (hq : (N : Int) - (q : Int) = (p : Int)) (hp0 : 0 < p) (hpN : p ≤ N)
    (h1 : pN (L.take p) = HI) (h2 : ∀ j, p + j < N → (∀ i, i < j → L[p + i]?.getD 0 = 48) → L[p + j]?.getD 0 ≠ 48 → pN (L.drop (p + j)) = LO) (h3 : (∀ i, p + i < N → L[p + i]?.getD 0 = 48) → LO = []) :
    Calls Tryd.prog 22 #[.slice A nx cap, .int .i64 (q : Int)] w (SplitPost HI LO w) := by
  obtain ⟨_, _, e3, hcc, hcm, hrd⟩ := id ha
  injection e3 with e3 e4 e5
  subst e3 e4 e5
  have c0 := rshow_any A cap xs w hrd hcc hcm
  rw [hS] at c0
  have hsz := str_size L
  rw [hN] at hsz
  have e2 : (str L).toList.isEmpty = false := by
    rw [str_toList]
    cases L with
    | nil => rw [List.length_nil] at hN; omega
    | cons a r => rfl
  have x1 := str_extract L 0 p
  rw [List.drop_zero] at x1
  have hct : Codes (L.take p) := fun c h => hc c (List.mem_of_mem_take h)
  have c1 := fun w' => rparse_any (L.take p) w' hct (by rw [List.length_take]; omega)
  rw [h1] at c1
  have hkq : ¬ ((N : Int) ≤ (q : Int)) := by omega
  have hq0 : ¬ ((q : Int) < 0) := by omega
  have HC := Lib.hid hc
  have HN := Lib.hid hN
  have H2 := Lib.hid h2
  have H3 := Lib.hid h3
  have HQ := Lib.hid hq
  clear ha hrd hcc hcm hS h1 h2 h3 hct
  go_enter Tryd.func22, Tryd.ntmps22
  go_wp2_with fail
  refine c0.mono ?_
  rintro e w1 ⟨rfl, hb1⟩
  have HB1 := Lib.hid hb1
  clear c0 hb1
  go_wp2_with fail
  refine (c1 w1).mono ?_
  rintro e w2 ⟨⟨v2, rfl, ho2⟩, hb2⟩
  have HO2 := Lib.hid (ho2.more HB1.out.size)
  have HB2 := Lib.hid (HB1.out.trans (hb2.mono HB1.out.size))
  clear c1 ho2 hb2 x1
  go_wp2_with fail
  go_loopw [9] (fun i wr => ∃ j : Nat, p + j ≤ N ∧ i = .int .i64 ((p + j : Nat) : Int) ∧ (∀ i, i < j → L[p + i]?.getD 0 = 48) ∧ wr = w2) (fun i _ => N - (intOf i).toNat)
  case atStart => exact ⟨0, by omega, rfl, fun i hi => by omega, rfl⟩
  case round =>
    obtain ⟨j, hj, rfl, hz, rfl⟩ := hrel
    have HZ := Lib.hid hz
    clear hz
    obtain ⟨t, ht⟩ : ∃ t, t = p + j := ⟨_, rfl⟩
    rw [← ht] at hj ⊢
    have HT := Lib.hid ht
    by_cases hlt : t < N
    · have hx := str_byte HC.out (show t < L.length by rw [HN.out]; exact hlt)
      have HX := Lib.hid (show L[t]?.getD 0 ∈ L by rw [List.getElem?_eq_getElem (by rw [HN.out]; exact hlt)]; exact List.getElem_mem _)
      have hcb := HC.out _ HX.out
      obtain ⟨c, hcc⟩ : ∃ c, c = L[t]?.getD 0 := ⟨_, rfl⟩
      rw [← hcc] at hx hcb
      have HCC := Lib.hid hcc
      clear hcc
      by_cases h48 : c = 48
      · have HZ2 := Lib.hid (show ∀ i, i < j + 1 → L[p + i]?.getD 0 = 48 from fun i hi => by
          rcases Nat.lt_or_ge i j with h | h
          · exact HZ.out i h
          · obtain rfl : i = j := by omega
            rw [← ht, ← HCC.out, h48])
        subst h48
        clear ht
        go_wp2
        go_roundw
        case rel => exact ⟨j + 1, by have := HT.out; omega, by have := HT.out; go_num, HZ2.out, trivial⟩
        case measure => simp [intOf]; omega
      · have HE := Lib.hid (H2.out j (by omega) HZ.out (by rw [← ht, ← HCC.out]; exact h48))
        rw [← ht] at HE
        have x2 := str_extract L t N
        rw [← HN.out, List.take_length, HN.out] at x2
        have c2 := rparse_any (L.drop t) wr (fun c h => HC.out c (List.mem_of_mem_drop h)) (by rw [List.length_drop, HN.out]; omega)
        rw [HE.out] at c2
        clear ht
        go_wp2_with fail
        refine c2.mono ?_
        rintro e w3 ⟨⟨v3, rfl, ho3⟩, hb3⟩
        have HO3 := Lib.hid (ho3.more HB2.out.size)
        have HO4 := Lib.hid (HO2.out.below hb3)
        have HB3 := Lib.hid (HB2.out.trans (hb3.mono HB2.out.size))
        clear c2 ho3 hb3 x2
        go_wp2
        go_ret2
        exact owns_pair HO4.out HO3.out HB3.out
    · obtain rfl : t = N := by omega
      have HE := Lib.hid (H3.out fun i hi => by
        have := HT.out
        exact HZ.out i (by omega))
      clear ht
      go_wp2
      go_ret2
      exact owns_pair HO2.out (by rw [HE.out]; exact Own.nil _ _) HB2.out

set_option maxRecDepth 100000 in
set_option maxHeartbeats 4000000 in
/-- the natural has no more digits than are to be parted -/
theorem rsplit_all {A : Option Addr} {cap nx : Nat} {xs : List Nat} (w : World) (ha : Arg w (.slice A nx cap) xs) (hz : ∀ n cap', Value.slice A nx cap = .slice none n cap' → cap' = 0) (L : List Nat) (N q : Nat) (hS : sShow xs = L) (hN : L.length = N) (hN0 : 0 < N) (hq : (N : Int) ≤ (q : Int)) (h65 : nx ≤ 65536) :
    Calls Tryd.prog 22 #[.slice A nx cap, .int .i64 (q : Int)] w (SplitPost [] xs w) := by
  obtain ⟨_, _, e3, hcc, hcm, hrd⟩ := id ha
  injection e3 with e3 e4 e5
  subst e3 e4 e5
  obtain ⟨i0, hti, hz0, hz1, hz2⟩ := info_parts info32
  have c0 := rshow_any A cap xs w hrd hcc hcm
  rw [hS] at c0
  have hsz := str_size L
  rw [hN] at hsz
  have e2 : (str L).toList.isEmpty = false := by
    rw [str_toList]
    cases L with
    | nil => rw [List.length_nil] at hN; omega
    | cons a r => rfl
  have hq0 : ¬ ((q : Int) < 0) := by omega
  have HA := Lib.hid ha
  clear hS hN
  rcases A with _ | ad
  · obtain rfl := hz _ _ rfl
    obtain rfl : xs = [] := List.eq_nil_of_length_eq_zero (by omega)
    clear hrd hz hcc hcm ha
    go_enter Tryd.func22, Tryd.ntmps22
    go_wp2_with fail
    refine c0.mono ?_
    rintro e w1 ⟨rfl, hb1⟩
    have HB1 := Lib.hid hb1
    have hown0 : (w1.alloc (.cells #[] 40)).ownsRow w1.heap.size 40 1 (.slice (some ⟨w1.heap.size, 0, none⟩) 0 0) 0 [] := World.ownsRow_lit w1 #[] 0 (Nat.le_refl _) (by decide) rfl
    have HO := Lib.hid hown0
    have HB := Lib.hid (HB1.out.alloc HB1.out.size (.cells #[] 40))
    clear c0 hb1
    go_wp2_with (at_builtin; refine wpList_append_own_none rfl _ _ 24 rfl w1.heap.size 40 i0 1 Tryd.underlying24 hti _ _ _ rfl hown0 rfl ?_; clear hown0)
    go_wp2
    go_ret2
    exact owns_pair (Own.nil _ _) (Own.more (HO.out : Own _ _ _ []) HB1.out.size) HB.out
  · clear hz
    go_enter Tryd.func22, Tryd.ntmps22
    go_wp2_with fail
    refine c0.mono ?_
    rintro e w1 ⟨rfl, hb1⟩
    have HB1 := Lib.hid hb1
    have hown0 : (w1.alloc (.cells #[] 40)).ownsRow w1.heap.size 40 1 (.slice (some ⟨w1.heap.size, 0, none⟩) 0 0) 0 [] := World.ownsRow_lit w1 #[] 0 (Nat.le_refl _) (by decide) rfl
    have hr1 : Rd w1 w1.heap.size (some ad) xs := by
      obtain ⟨_, _, e6, _, _, r⟩ := HA.out.below HB1.out
      injection e6 with e6
      subst e6
      exact r
    have hcell : ∀ j u, (u32s xs)[j]? = some u → (w1.alloc (.cells #[] 40)).cell? (ad.add j) = some u := by
      intro j u hu
      have hj : j < xs.length := by
        have := (List.getElem?_eq_some_iff.1 hu).1
        simpa [u32s] using this
      obtain ⟨b, off, e, hlt, hcl⟩ := hr1.2 (by omega)
      obtain rfl : ad = ⟨b, off, none⟩ := by simpa using e
      rw [Addr.add_mid]
      rw [((Below.refl _ w1).alloc (Nat.le_refl _) (.cells #[] 40)).cell (p := ⟨b, off + j, none⟩) hlt, hcl j hj]
      rw [u32s, List.getElem?_map, List.getElem?_eq_getElem hj] at hu
      rw [List.getElem?_eq_getElem hj]
      exact hu
    have HC := Lib.hid hcell
    clear hcell hr1 hrd c0 hb1 ha
    go_wp2_with (at_builtin; refine wpList_append_own _ rfl _ _ 24 rfl w1.heap.size 40 i0 (.int .u32 0) 1 4 Tryd.underlying24 hti hz0 hz1 hz2 rfl (by decide) _ _ _ rfl hown0 ad xs.length cap (u32s xs) rfl (by simp [u32s]) HC.out (u32s_one xs) (by unfold maxLen at *; omega) (by omega) (by simp) ?_; intro v' w2 hown' hgrow hgone; clear hgone)
    have hg2 : (w1.alloc (.cells #[] 40)).grownBy w2 (some w1.heap.size) := hgrow
    have hb2 : Below w1.heap.size w1 w2 := ((Below.refl _ w1).alloc (Nat.le_refl _) _).grown hg2 (by simp) (fun k hk => by cases hk; exact Nat.le_refl _)
    have hO : Own w2 w1.heap.size v' xs := by unfold Own; simpa using hown'
    have HO := Lib.hid (hO.more HB1.out.size)
    have HB := Lib.hid (HB1.out.trans (hb2.mono HB1.out.size))
    clear hO hown' hgrow hg2 HC hb2
    go_wp2
    go_ret2
    exact owns_pair (Own.nil _ _) HO.out HB.out

theorem rsplit_no {A : Option Addr} {cap nx : Nat} {xs : List Nat} (w : World) (ha : Arg w (.slice A nx cap) xs) (hm : mayb xs = false) (k : Int) : Calls Tryd.prog 22 #[.slice A nx cap, .int .i64 k] w (SplitPost [] [] w) := by
  obtain ⟨_, _, e3, hcc, hcm, hrd⟩ := id ha
  injection e3 with e3 e4 e5
  subst e3 e4 e5
  have c0 := rshow_any A cap xs w hrd hcc hcm
  rw [sShow_no hm] at c0
  have e2 : (str []).toList.isEmpty = true := by rw [str_toList]; rfl
  clear ha hrd hcc hcm hm
  go_enter Tryd.func22, Tryd.ntmps22
  go_wp2_with fail
  refine c0.mono ?_
  rintro e w1 ⟨rfl, hb1⟩
  have HB1 := Lib.hid hb1
  clear c0 hb1
  go_wp2
  go_ret2
  exact owns_pair (Own.nil _ _) (Own.nil _ _) HB1.out
theorem rsplit_neg {A : Option Addr} {cap nx : Nat} {xs : List Nat} (w : World) (ha : Arg w (.slice A nx cap) xs) (hm : mayb xs = true) (k : Int) (hk : k < 0) : Calls Tryd.prog 22 #[.slice A nx cap, .int .i64 k] w (SplitPost [] [] w) := by
  obtain ⟨_, _, e3, hcc, hcm, hrd⟩ := id ha
  injection e3 with e3 e4 e5
  subst e3 e4 e5
  have c0 := rshow_any A cap xs w hrd hcc hcm
  rw [sShow_yes hm] at c0
  have hne := txt_ne (val xs)
  generalize txt (val xs) = L at *
  have e2 : (str L).toList.isEmpty = false := by
    rw [str_toList]
    cases L with
    | nil => exact absurd rfl hne
    | cons a r => rfl
  clear ha hrd hcc hcm hm hne
  go_enter Tryd.func22, Tryd.ntmps22
  go_wp2_with fail
  refine c0.mono ?_
  rintro e w1 ⟨rfl, hb1⟩
  have HB1 := Lib.hid hb1
  clear c0 hb1
  go_wp2
  go_ret2
  exact owns_pair (Own.nil _ _) (Own.nil _ _) HB1.out

theorem rsplit_any {A : Option Addr} {cap nx : Nat} {xs : List Nat} (w : World) (ha : Arg w (.slice A nx cap) xs) (hz : ∀ n cap', Value.slice A nx cap = .slice none n cap' → cap' = 0) (k : Int) : Calls Tryd.prog 22 #[.slice A nx cap, .int .i64 k] w (SplitPost (sHi xs k) (sLo xs k) w) := by
  rcases hm : mayb xs with _ | _
  · rw [sHi_no (fun h => by rw [hm] at h; cases h.1), sLo_no (fun h => by rw [hm] at h; cases h.1)]
    exact rsplit_no w ha hm k
  · rcases (by omega : k < 0 ∨ 0 ≤ k) with hk | hk
    · rw [sHi_no (fun h => by omega), sLo_no (fun h => by omega)]
      exact rsplit_neg w ha hm k hk
    · obtain ⟨q, rfl⟩ : ∃ q : Nat, k = (q : Int) := ⟨k.toNat, by omega⟩
      have hS := sShow_yes hm
      have hl := ha.limbs
      have hlim := lim_val (mayb_canon hl hm)
      have hfit := (mayb_iff.1 hm).1
      have hnl := nd_le (may_lt hl hm (Nat.le_refl 631306)) (by decide)
      rw [sHi_yes hm, sLo_yes hm]
      rcases Nat.lt_or_ge q (nd (val xs)) with hq | hq
      · have hcut := txt_cut hq
        have hsh := nd_shift hq
        have hfl : ∀ m, m ≤ val xs → clip m = lim m := fun m h => clip_of (Nat.le_trans (lim_len_mono h) (by rw [hlim]; exact hfit))
        have ht : (txt (val xs)).take (nd (val xs) - q) = txt (val xs / 10 ^ q) := by
          rw [hcut, List.take_left' (by rw [txt_length, hsh])]
        refine rsplit_go w ha (txt (val xs)) (nd (val xs)) (nd (val xs) - q) q _ _ (txt_alld _).codes hS (txt_length _) (by omega) (by omega) (by omega) (by omega) ?_ ?_ ?_
        · rw [ht]
          unfold pN
          rw [txt_isT, if_pos rfl, dv_txt, hfl _ (Nat.div_le_self _ _)]
        · intro j hj hz hc
          obtain ⟨k1, k2⟩ := split_low hq rfl hj hz hc
          unfold pN
          rw [k1, if_pos rfl, k2, hfl _ (Nat.mod_le _ _)]
        · intro hz
          rw [split_none hq rfl hz, lim_zero]
      · have hlt := lt_of_nd hq
        rw [Nat.div_eq_of_lt hlt, Nat.mod_eq_of_lt hlt, lim_zero, hlim]
        exact rsplit_all w ha hz (txt (val xs)) (nd (val xs)) q hS (txt_length _) (nd_pos _) (by omega) (by obtain ⟨_, _, e, _⟩ := ha; injection e with _ e _; omega)

end Go.Proofs.YtileljokijmpaaaDoor

/- law04: spoil; words for what a round makes. -/
import Derived.Test.YtileljokijmpaaaDoorRefX
import Derived.Test.YtileljokijmpaaaDoorLawA
namespace Go.Proofs.YtileljokijmpaaaDoor
open Go.RowKit Go.Shelf

set_option linter.unusedVariables false
set_option linter.unusedSimpArgs false

set_option maxHeartbeats 1000000 in
theorem spoil4_any {w : World} {B n : Nat} {v : Value} {zs : List Value} (h : w.ownsRow B 40 1 v n zs) (hn : n ≤ maxLen) : Calls Tryd.prog 21 #[v] w fun e w' => e = .returned (.tuple #[]) ∧ Spoilt B w w' := by
  unfold maxLen at hn
  rcases h.2 with ⟨rfl, h0⟩ | ⟨g, cap, cur, rfl, hb, hh, r⟩
  · clear h
    subst h0
    go_enter Tryd.func21, Tryd.ntmps21
    go_wp2
    go_loop [2] (fun i => i = .int .i64 0) (fun _ => 0)
    case atStart => rfl
    case round =>
      obtain rfl := hrel
      go_wp2
      go_end0
      exact ⟨rfl, Spoilt.refl _ _⟩
  · clear hh r
    go_enter Tryd.func21, Tryd.ntmps21
    go_wp2
    go_loopw [2] (fun i wr => ∃ (k : Nat) (ys : List Value), k ≤ n ∧ i = .int .i64 (k : Int) ∧ wr.ownsRow B 40 1 (.slice (some ⟨g, 0, none⟩) n cap) n ys ∧ Spoilt B w wr) (fun i _ => n - (intOf i).toNat)
    case atStart => exact ⟨0, zs, Nat.zero_le _, rfl, h, Spoilt.refl _ _⟩
    case round =>
      clear h
      obtain ⟨k, ys, hk, rfl, ho, hs⟩ := hrel
      by_cases hlt : k < n
      · have hl : ys.length = n := by have := ho.1; omega
        have hc := World.ownsRow.cellAt ho k (by omega)
        rw [List.getElem?_eq_getElem (by omega)] at hc
        have hf := World.ownsRow.frozenAt ho k
        have HO := Lib.hid (World.ownsRow.stored ho k (.int .u32 7)).1
        have HS := Lib.hid (hs.trans (Spoilt.put wr k (.int .u32 7) hb))
        generalize ys[k] = y at *
        clear ho hs hl
        go_wp2
        go_roundw
        case rel => exact ⟨k + 1, _, by omega, by go_num, HO.out, HS.out⟩
        case measure => simp [intOf]; omega
      · have HS := Lib.hid hs
        clear ho hs
        go_wp2
        go_end0
        exact ⟨rfl, HS.out⟩

section
variable {w0 w w' : World} {l o : List (Value × List Nat)} {va vb : Value} {xs ys zs L : List Nat}
/-- A row of the round's own. -/
def RowOf4 (w0 w : World) (v : Value) : Prop := ∃ n zs, n ≤ maxLen ∧ w.ownsRow w0.heap.size 40 1 v n zs
theorem Lab.row4 (h : Lab w0 w l o) (ha : (va, xs) ∈ o) : RowOf4 w0 w va := by
  obtain ⟨ho, hl⟩ := h.2 _ ha
  obtain ⟨_, _, _, h1, h2, _⟩ := ho.rd hl
  exact ⟨xs.length, _, Nat.le_trans h1 h2, ho⟩
theorem spoil4_is (h : RowOf4 w0 w va) : Calls Tryd.prog 21 #[va] w fun e w' => e = .returned (.tuple #[]) ∧ Spoilt w0.heap.size w w' := by
  obtain ⟨n, zs, hn, ho⟩ := h
  exact spoil4_any ho hn
theorem RowOf4.kept (h : RowOf4 w0 w va) (hs : Spoilt w0.heap.size w w') : RowOf4 w0 w' va := by
  obtain ⟨n, zs, hn, ho⟩ := h
  obtain ⟨zs', ho'⟩ := hs.2 _ _ _ ho
  exact ⟨n, zs', hn, ho'⟩
theorem RowOf4.below (h : RowOf4 w0 w va) (hs : Below w.heap.size w w') : RowOf4 w0 w' va := by
  obtain ⟨n, zs, hn, ho⟩ := h
  refine ⟨n, zs, hn, ?_⟩
  rcases ho.2 with ⟨e, h0⟩ | ⟨g, cap, cur, e, hb, hh, r⟩
  · exact ⟨ho.1, .inl ⟨e, h0⟩⟩
  · exact ⟨ho.1, .inr ⟨g, cap, cur, e, hb, by rw [hs.block g (Array.getElem?_eq_some_iff.1 hh).1]; exact hh, r⟩⟩
set_option maxHeartbeats 1000000 in
theorem same4_any {va vb : Value} {xs : List Nat} (w : World) (ha : Arg w va xs) (hb : Arg w vb xs) : Calls Tryd.prog 14 #[va, vb] w fun e w' => e = .returned (.bool true) ∧ ∃ n, w' = w.drewN n := by
  obtain ⟨A, cap, rfl, g1, g2, r1⟩ := ha
  obtain ⟨A', cap', rfl, g1', g2', r2⟩ := hb
  have c := same_any A A' cap cap' xs xs w _ r1 r2 (Nat.le_trans g1' g2')
  rw [eqb_refl] at c
  clear r1 r2 g1 g1'
  go_enter Tryd.func14, Tryd.ntmps14
  go_wp2_with fail
  refine c.mono ?_
  rintro e w' ⟨rfl, n, rfl⟩
  clear c
  go_wp2
  go_ret
  exact ⟨rfl, n, rfl⟩
/-- what is the round's own is the same as what is read -/
theorem same4_ol (h : Lab w0 w l o) (ha : (va, xs) ∈ o) (hb : (vb, xs) ∈ l) : Calls Tryd.prog 14 #[va, vb] w fun e w' => e = .returned (.bool true) ∧ Lab w0 w' l o :=
  (same4_any w ((h.2 _ ha).1.arg (h.2 _ ha).2) (h.1.get hb)).mono fun _ _ ⟨he, n, hw⟩ => ⟨he, by rw [hw]; exact h.drewN n⟩
theorem same4_oo (h : Lab w0 w l o) (ha : (va, xs) ∈ o) (hb : (vb, xs) ∈ o) : Calls Tryd.prog 14 #[va, vb] w fun e w' => e = .returned (.bool true) ∧ Lab w0 w' l o :=
  (same4_any w ((h.2 _ ha).1.arg (h.2 _ ha).2) ((h.2 _ hb).1.arg (h.2 _ hb).2)).mono fun _ _ ⟨he, n, hw⟩ => ⟨he, by rw [hw]; exact h.drewN n⟩
theorem split_lab (h : Lab w0 w l o) (ha : (va, xs) ∈ l) (k : Int) (hk : k < 9223372036854775808) (hk0 : -9223372036854775808 ≤ k) (hy : sHi xs k = ys) (hz : sLo xs k = zs) : Calls Tryd.prog 13 #[va, .int .i64 k] w fun e w' => ∃ q r, e = .returned (.tuple #[q, r]) ∧ Lab w0 w' l ((q, ys) :: (r, zs) :: o) := by
  subst hy hz
  refine (split_any va xs k w (h.1.get ha) hk hk0).mono fun _ w2 hn => ?_
  obtain ⟨⟨v, v', he, ho, ho'⟩, hb⟩ := hn
  have h1 := h.add hb ho' (sLo_limbs xs k)
  refine ⟨v, v', he, h1.1, fun p hp => ?_⟩
  rcases List.mem_cons.1 hp with rfl | hp
  · exact ⟨ho.more h.1.1.size, sHi_limbs xs k⟩
  · exact h1.2 p hp
theorem rsplit_env {A : Option Addr} {n cap : Nat} (h : Env w0 w l) (ha : (.slice A n cap, xs) ∈ l) (hz : ∀ n' cap', Value.slice A n cap = .slice none n' cap' → cap' = 0) (k : Int) (hy : sHi xs k = ys) (hz2 : sLo xs k = zs) : Calls Tryd.prog 22 #[.slice A n cap, .int .i64 k] w fun e w' => ∃ q r, e = .returned (.tuple #[q, r]) ∧ Env w0 w' ((q, ys) :: (r, zs) :: l) := by
  subst hy hz2
  refine (rsplit_any w (h.get ha) hz k).mono fun _ w2 hn => ?_
  obtain ⟨⟨v, v', he, ho, ho'⟩, hb⟩ := hn
  exact ⟨v, v', he, (h.add hb (ho'.arg (sLo_limbs xs k))).add (Below.refl _ _) (ho.arg (sHi_limbs xs k))⟩
theorem parse_lab (h : Lab w0 w l o) {L : List Nat} {N : List Nat} {E : Nat} (hc : Codes L) (hl : L.length < 9223372036854775808) (hN : pN L = N) (hE : pE L = E) : Calls Tryd.prog 15 #[.string (str L)] w fun e w' => ∃ r, e = .returned (.tuple #[r, .int .i64 (E : Nat)]) ∧ Lab w0 w' l ((r, N) :: o) := by
  subst hN hE
  exact (parse_any L w hc hl).mono fun _ _ hp => by
    obtain ⟨⟨v, he, ho⟩, hb⟩ := hp
    exact ⟨v, he, h.add hb ho (pN_limbs L)⟩
theorem rparse_lab (h : Lab w0 w l o) {L : List Nat} {N : List Nat} {E : Nat} (hc : Codes L) (hl : L.length < 9223372036854775808) (hN : pN L = N) (hE : pE L = E) : Calls Tryd.prog 19 #[.string (str L)] w fun e w' => ∃ r, e = .returned (.tuple #[r, .int .i64 (E : Nat)]) ∧ Lab w0 w' l ((r, N) :: o) := by
  subst hN hE
  exact (rparse_any L w hc hl).mono fun _ _ hp => by
    obtain ⟨⟨v, he, ho⟩, hb⟩ := hp
    exact ⟨v, he, h.add hb ho (pN_limbs L)⟩
theorem ten_lab (h : Lab w0 w l o) (k : Int) (hk : k < 9223372036854775808) (hk0 : -9223372036854775808 ≤ k) (hz : sPow [10] k = zs) : Calls Tryd.prog 10 #[.int .i64 k] w fun e w' => ∃ r, e = .returned r ∧ Lab w0 w' l ((r, zs) :: o) := by
  subst hz
  exact (ten_any k w hk hk0).mono fun _ _ hn => by
    obtain ⟨⟨v, he, ho⟩, hb⟩ := hn
    exact ⟨v, he, h.add hb ho (sPow10_limbs k)⟩
theorem rten_lab (h : Lab w0 w l o) (k : Int) (hk : k < 9223372036854775808) (hz : sPow [10] k = zs) : Calls Tryd.prog 20 #[.int .i64 k] w fun e w' => ∃ r, e = .returned r ∧ Lab w0 w' l ((r, zs) :: o) := by
  subst hz
  exact (rten_any4 k w hk).mono fun _ _ hn => by
    obtain ⟨⟨v, he, ho⟩, hb⟩ := hn
    exact ⟨v, he, h.add hb ho (sPow10_limbs k)⟩
theorem rshow_env (h : Env w0 w l) (ha : (va, xs) ∈ l) (hs : sShow xs = L) : Calls Tryd.prog 18 #[va] w fun e w' => e = .returned (.string (str L)) ∧ Env w0 w' l := by
  subst hs
  obtain ⟨A, cap, rfl, h1, h2, hr⟩ := h.get ha
  exact (rshow_any A cap xs w hr h1 h2).mono fun _ _ ⟨he, hb⟩ => ⟨he, h.step hb⟩
end
theorem cells_arg {w : World} {ad : Addr} {nx cap : Nat} {xs : List Nat} (h : Arg w (.slice (some ad) nx cap) xs) : ∀ j u, (u32s xs)[j]? = some u → (w.alloc (.cells #[] 40)).cell? (ad.add j) = some u := by
  obtain ⟨_, _, e6, _, _, hr1⟩ := h
  injection e6 with e6
  subst e6
  intro j u hu
  have hj : j < xs.length := by
    have := (List.getElem?_eq_some_iff.1 hu).1
    simpa [u32s] using this
  obtain ⟨b, off, e, hlt, hcl⟩ := hr1.2 (by omega)
  obtain rfl : ad = ⟨b, off, none⟩ := by simpa using e
  rw [Addr.add_mid]
  rw [((Below.refl _ w).alloc (Nat.le_refl _) (.cells #[] 40)).cell (p := ⟨b, off + j, none⟩) hlt, hcl j hj]
  rw [u32s, List.getElem?_map, List.getElem?_eq_getElem hj] at hu
  rw [List.getElem?_eq_getElem hj]
  exact hu
theorem own_grown {w w2 : World} {v' : Value} {xs : List Nat} (h : w2.ownsRow w.heap.size 40 1 v' xs.length (u32s xs)) (hg : (w.alloc (.cells #[] 40)).grownBy w2 (some w.heap.size)) (hl : Limbs xs) : Arg w2 v' xs ∧ Below w.heap.size w w2 :=
  ⟨Own.arg (B := w.heap.size) h hl, ((Below.refl _ w).alloc (Nat.le_refl _) _).grown hg (by simp) (fun k hk => by cases hk; exact Nat.le_refl _)⟩
theorem arg_empty (w : World) : Arg (w.alloc (.cells #[] 40)) (.slice (some ⟨w.heap.size, 0, none⟩) 0 0) [] ∧ Below w.heap.size w (w.alloc (.cells #[] 40)) :=
  ⟨Own.arg (B := w.heap.size) (xs := []) (World.ownsRow_lit w #[] 0 (Nat.le_refl _) (by decide) rfl) limbs_nil, (Below.refl _ w).alloc (Nat.le_refl _) _⟩

end Go.Proofs.YtileljokijmpaaaDoor

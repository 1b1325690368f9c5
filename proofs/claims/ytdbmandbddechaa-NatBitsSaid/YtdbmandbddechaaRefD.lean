/- What the laws do beside: own, is; values that are the walk's own and those that are only read. -/
import Derived.Laws.AppendOwnNone
import Derived.Deep.MidRow
import Derived.Test.YtdbmandbddechaaRefC
namespace Go.Proofs.Ytdbmandbddechaa
open Go.RowKit

set_option linter.unusedVariables false

theorem u32s_one (xs : List Nat) : ∀ u ∈ u32s xs, u.oneCell' = true := by
  intro u hu
  obtain ⟨x, _, rfl⟩ := List.mem_map.1 hu
  rfl

set_option maxHeartbeats 1000000 in
theorem own_some (ad : Addr) (cap : Nat) (xs : List Nat) (w : World) (hc : xs.length ≤ cap) (hm : cap ≤ maxLen) (hr : Rd w w.heap.size (some ad) xs) (h60 : xs.length ≤ 60) :
    Calls Try.prog 23 #[.slice (some ad) xs.length cap] w fun e w' => (∃ v, e = .returned v ∧ Own w' w.heap.size v xs) ∧ Below w.heap.size w w' := by
  obtain ⟨i0, hi, hz0, hz1, hz2⟩ := info_parts info32
  have hown0 : (w.alloc (.cells #[] 28)).ownsRow w.heap.size 28 1 (.slice (some ⟨w.heap.size, 0, none⟩) 0 0) 0 [] := World.ownsRow_lit w #[] 0 (Nat.le_refl _) (by decide) rfl
  have hcell : ∀ j u, (u32s xs)[j]? = some u → (w.alloc (.cells #[] 28)).cell? (ad.add j) = some u := by
    intro j u hu
    have hj : j < xs.length := by
      have := (List.getElem?_eq_some_iff.1 hu).1
      simpa [u32s] using this
    obtain ⟨b, off, e, hlt, hcl⟩ := hr.2 (by omega)
    obtain rfl : ad = ⟨b, off, none⟩ := by simpa using e
    rw [Addr.add_mid]
    rw [((Below.refl _ w).alloc (Nat.le_refl _) (.cells #[] 28)).cell (p := ⟨b, off + j, none⟩) hlt, hcl j hj]
    rw [u32s, List.getElem?_map, List.getElem?_eq_getElem hj] at hu
    rw [List.getElem?_eq_getElem hj]
    exact hu
  have HC := Lib.hid hcell
  clear hcell
  go_enter Try.func23, Try.ntmps23
  go_wp2_with (at_builtin; refine wpList_append_own _ rfl _ _ 26 rfl w.heap.size 28 i0 (.int .u32 0) 1 4 Try.underlying26 hi hz0 hz1 hz2 rfl (by decide) _ _ _ rfl hown0 ad xs.length cap (u32s xs) rfl (by simp [u32s]) HC.out (u32s_one xs) (by unfold maxLen at *; omega) (by omega) (by simp) ?_; intro v' w2 hown' hgrow hgone; clear hgone)
  have hg2 : (w.alloc (.cells #[] 28)).grownBy w2 (some w.heap.size) := hgrow
  have hb2 : Below w.heap.size w w2 := ((Below.refl _ w).alloc (Nat.le_refl _) _).grown hg2 (by simp) (fun k hk => by cases hk; exact Nat.le_refl _)
  have hO : Own w2 w.heap.size v' xs := by unfold Own; simpa using hown'
  have HO := Lib.hid hO
  clear hO hown' hgrow hg2 HC
  go_wp2
  go_ret
  exact ⟨⟨_, rfl, HO.out⟩, hb2⟩

set_option maxHeartbeats 1000000 in
theorem own_none (w : World) :
    Calls Try.prog 23 #[.slice none 0 0] w fun e w' => (∃ v, e = .returned v ∧ Own w' w.heap.size v []) ∧ Below w.heap.size w w' := by
  obtain ⟨i0, hi, hz0, hz1, hz2⟩ := info_parts info32
  have hown0 : (w.alloc (.cells #[] 28)).ownsRow w.heap.size 28 1 (.slice (some ⟨w.heap.size, 0, none⟩) 0 0) 0 [] := World.ownsRow_lit w #[] 0 (Nat.le_refl _) (by decide) rfl
  have HO := Lib.hid hown0
  have HB := Lib.hid ((Below.refl _ w).alloc (Nat.le_refl _) (.cells #[] 28))
  go_enter Try.func23, Try.ntmps23
  go_wp2_with (at_builtin; refine wpList_append_own_none rfl _ _ 26 rfl w.heap.size 28 i0 1 Try.underlying26 hi _ _ _ rfl hown0 rfl ?_; clear hown0)
  go_wp2
  go_ret
  exact ⟨⟨_, rfl, HO.out⟩, HB.out⟩

/-- As Arg, and nil has no room. -/
def ArgZ (w : World) (v : Value) (xs : List Nat) : Prop := Arg w v xs ∧ ∀ n cap, v = .slice none n cap → cap = 0
theorem own_any {w : World} {v : Value} {xs : List Nat} (h : ArgZ w v xs) (h60 : xs.length ≤ 60) :
    Calls Try.prog 23 #[v] w fun e w' => (∃ v, e = .returned v ∧ Own w' w.heap.size v xs) ∧ Below w.heap.size w w' := by
  obtain ⟨⟨A, cap, rfl, h1, h2, hr⟩, hz⟩ := h
  rcases A with _ | ad
  · obtain rfl := hz _ _ rfl
    obtain rfl : xs = [] := List.eq_nil_of_length_eq_zero (by omega)
    exact own_none w
  · exact own_some ad cap xs w h1 h2 hr h60

set_option maxHeartbeats 1000000 in
theorem is_any {w : World} {v vw : Value} {xs ys : List Nat} {B : Nat} (ho : Own w B v xs) (hl : Limbs xs) (hB : B ≤ w.heap.size) (ha : Arg w vw ys) :
    Calls Try.prog 28 #[v, vw] w fun e w' => e = .returned (.bool (eqb xs ys)) ∧ Below B w w' := by
  obtain ⟨A, cap, rfl, h1, h2, hr⟩ := ho.rd hl
  obtain ⟨A', cap', rfl, h1', h2', hr'⟩ := ha
  have c := same_any A A' cap cap' xs ys w _ hr hr' (Nat.le_trans h1' h2')
  have hxm : xs.length ≤ 9223372036854775807 := Nat.le_trans h1 h2
  clear hr hr' hl h1' h2'
  go_enter Try.func28, Try.ntmps28
  go_wp2_with fail
  refine c.mono ?_
  rintro e w' ⟨rfl, nq, hw⟩
  have hBd : Below B w w' := by rw [hw]; exact ⟨rfl, rfl, rfl, Nat.le_refl _, fun _ _ => rfl⟩
  have ho' : w'.ownsRow B 28 1 (.slice A xs.length cap) xs.length (u32s xs) := by rw [hw]; exact ho
  clear c hw ho
  go_wp2
  go_loopw [6] (fun v wr => ∃ (k : Nat) (Z : List Value), k ≤ xs.length ∧ v = .int .i64 (k : Int) ∧ wr.ownsRow B 28 1 (.slice A xs.length cap) xs.length Z ∧ Below B w wr) (fun v _ => xs.length - (intOf v).toNat)
  case atStart => exact ⟨0, u32s xs, Nat.zero_le _, rfl, ho', hBd⟩
  case round =>
    clear ho' hBd
    obtain ⟨k, Z, hk, rfl, hown, hBw⟩ := hrel
    by_cases hlt : k < xs.length
    · obtain ⟨g, rfl, hBg⟩ : ∃ g, A = some ⟨g, 0, none⟩ ∧ B ≤ g := by
        rcases hown.2 with ⟨_, h0⟩ | ⟨g, capv, cur, h0, hg, _⟩
        · omega
        · cases h0; exact ⟨g, rfl, hg⟩
      have hzl : Z.length = xs.length := by have := hown.1; omega
      have hcl := hown.cellAt k (by omega)
      rw [List.getElem?_eq_getElem (by omega)] at hcl
      have hfz := hown.frozenAt k
      have hst := hown.stored k (.int .u32 77)
      have hR1 := Lib.hid hst.1
      have hb0 := Lib.hid (hBw.setCell (p := ⟨g, k, none⟩) hBg (.int .u32 77))
      clear hst hown
      go_wp2
      go_roundw
      case rel => exact ⟨k + 1, _, by omega, by go_num, hR1.out, hb0.out⟩
      case measure => simp [intOf]; omega
    · go_wp2
      go_ret
      exact ⟨rfl, hBw⟩

/-! ### what is only read (l), and what is the walk's own since w0 (o) -/
def Lab (w0 w : World) (l o : List (Value × List Nat)) : Prop := Env w0 w l ∧ ∀ p ∈ o, Own w w0.heap.size p.1 p.2 ∧ Limbs p.2

section
variable {w0 w w' : World} {l o : List (Value × List Nat)} {va vb : Value} {xs ys : List Nat}
theorem Lab.step (h : Lab w0 w l o) (hb : Below w.heap.size w w') : Lab w0 w' l o := ⟨h.1.step hb, fun p hp => ⟨(h.2 p hp).1.below hb, (h.2 p hp).2⟩⟩
theorem Lab.add (h : Lab w0 w l o) (hb : Below w.heap.size w w') {r : Value} {zs : List Nat} (hr : Own w' w.heap.size r zs) (hl : Limbs zs) : Lab w0 w' l ((r, zs) :: o) :=
  ⟨h.1.step hb, fun p hp => by
    rcases List.mem_cons.1 hp with rfl | hp
    · exact ⟨hr.more h.1.1.size, hl⟩
    · exact ⟨(h.2 p hp).1.below hb, (h.2 p hp).2⟩⟩
theorem lab_start (h : Env w0 w l) : Lab w w l [] := ⟨⟨Below.refl _ _, h.2⟩, fun _ h => by cases h⟩
theorem Lab.drewN (h : Lab w0 w l o) (n : Nat) : Lab w0 (w.drewN n) l o := h.step ⟨rfl, rfl, rfl, Nat.le_refl _, fun _ _ => rfl⟩

theorem add_lab (h : Lab w0 w l o) (ha : (va, xs) ∈ l) (hb : (vb, ys) ∈ l) : Calls Try.prog 15 #[va, vb] w fun e w' => ∃ r, e = .returned r ∧ Lab w0 w' l ((r, sAdd xs ys) :: o) := by
  obtain ⟨A, cap, rfl, h1, h2, hr⟩ := h.1.get ha
  obtain ⟨A', cap', rfl, h1', h2', hr'⟩ := h.1.get hb
  exact (add_any A A' cap cap' xs ys w hr hr' (Nat.le_trans h1 h2) (Nat.le_trans h1' h2')).mono fun _ _ ⟨⟨r, he, ho⟩, hbl⟩ => ⟨r, he, h.add hbl ho (sAdd_limbs _ _)⟩
theorem radd_lab (h : Lab w0 w l o) (ha : (va, xs) ∈ l) (hb : (vb, ys) ∈ l) : Calls Try.prog 29 #[va, vb] w fun e w' => ∃ r, e = .returned r ∧ Lab w0 w' l ((r, sAdd xs ys) :: o) := by
  obtain ⟨A, cap, rfl, h1, h2, hr⟩ := h.1.get ha
  obtain ⟨A', cap', rfl, h1', h2', hr'⟩ := h.1.get hb
  exact (radd_any A A' cap cap' xs ys w hr hr' (Nat.le_trans h1 h2) (Nat.le_trans h1' h2')).mono fun _ _ ⟨⟨r, he, ho⟩, hbl⟩ => ⟨r, he, h.add hbl ho (sAdd_limbs _ _)⟩
theorem sub_lab (h : Lab w0 w l o) (ha : (va, xs) ∈ l) (hb : (vb, ys) ∈ l) : Calls Try.prog 13 #[va, vb] w fun e w' => ∃ r, e = .returned (.tuple #[r, .bool (sSubOk xs ys)]) ∧ Lab w0 w' l ((r, sSub xs ys) :: o) := by
  obtain ⟨A, cap, rfl, h1, h2, hr⟩ := h.1.get ha
  obtain ⟨A', cap', rfl, h1', h2', hr'⟩ := h.1.get hb
  exact (sub_any A A' cap cap' xs ys w hr hr' (Nat.le_trans h1 h2) (Nat.le_trans h1' h2')).mono fun _ _ ⟨⟨r, he, ho⟩, hbl⟩ => ⟨r, he, h.add hbl ho (sSub_limbs _ _)⟩
theorem rsub_lab (h : Lab w0 w l o) (ha : (va, xs) ∈ l) (hb : (vb, ys) ∈ l) : Calls Try.prog 27 #[va, vb] w fun e w' => ∃ r, e = .returned (.tuple #[r, .bool (sSubOk xs ys)]) ∧ Lab w0 w' l ((r, sSub xs ys) :: o) := by
  obtain ⟨A, cap, rfl, h1, h2, hr⟩ := h.1.get ha
  obtain ⟨A', cap', rfl, h1', h2', hr'⟩ := h.1.get hb
  exact (rsub_any A A' cap cap' xs ys w hr hr' (Nat.le_trans h1 h2) (Nat.le_trans h1' h2')).mono fun _ _ ⟨⟨r, he, ho⟩, hbl⟩ => ⟨r, he, h.add hbl ho (sSub_limbs _ _)⟩
theorem of_lab (h : Lab w0 w l o) (u : Nat) (hu : u < 18446744073709551616) : Calls Try.prog 16 #[.int .u64 (u : Int)] w fun e w' => ∃ r, e = .returned r ∧ Lab w0 w' l ((r, lim u) :: o) :=
  (of_any u w hu).mono fun _ _ ⟨⟨r, he, ho⟩, hbl⟩ => ⟨r, he, h.add hbl ho (lim_limbs _)⟩
theorem rof_lab (h : Lab w0 w l o) (u : Nat) (hu : u < 18446744073709551616) : Calls Try.prog 30 #[.int .u64 (u : Int)] w fun e w' => ∃ r, e = .returned r ∧ Lab w0 w' l ((r, lim u) :: o) :=
  (rof_any u w hu).mono fun _ _ ⟨⟨r, he, ho⟩, hbl⟩ => ⟨r, he, h.add hbl ho (lim_limbs _)⟩
/-- What is written over is the walk's own: what is only read lies as it lay. -/
theorem is_lab (h : Lab w0 w l o) (ha : (va, xs) ∈ o) (hb : (vb, ys) ∈ o) (he : eqb xs ys = true) (h0 : Env w0 w0 l) : Calls Try.prog 28 #[va, vb] w fun e w' => e = .returned (.bool true) ∧ Lab w0 w' l [] := by
  have := is_any (h.2 _ ha).1 (h.2 _ ha).2 h.1.1.size ((h.2 _ hb).1.arg (h.2 _ hb).2)
  rw [he] at this
  exact this.mono fun _ _ ⟨he, hbl⟩ => ⟨he, h0.step (h.1.1.trans hbl), fun _ h => by cases h⟩

theorem rmay_env (h : Env w0 w l) (ha : (va, xs) ∈ l) : Calls Try.prog 25 #[va] w fun e w' => e = .returned (.bool (mayb xs)) ∧ Env w0 w' l := by
  obtain ⟨A, cap, rfl, h1, h2, hr⟩ := h.get ha
  exact (rmay_is cap hr (Nat.le_trans h1 h2) rfl).mono fun _ _ ⟨he, hw⟩ => ⟨he, by rw [hw]; exact h⟩
theorem rcmp_env (h : Env w0 w l) (ha : (va, xs) ∈ l) (hb : (vb, ys) ∈ l) : Calls Try.prog 26 #[va, vb] w fun e w' => e = .returned (.int .i64 (sCmp xs ys)) ∧ Env w0 w' l := by
  obtain ⟨A, cap, rfl, h1, h2, hr⟩ := h.get ha
  obtain ⟨A', cap', rfl, h1', h2', hr'⟩ := h.get hb
  exact (rcmp_any A A' cap cap' xs ys w _ hr hr' (Nat.le_trans h1 h2) (Nat.le_trans h1' h2')).mono fun _ _ ⟨he, n, hw⟩ => ⟨he, by rw [hw]; exact h.drewN n⟩
theorem rlow_env (h : Env w0 w l) (ha : (va, xs) ∈ l) : Calls Try.prog 24 #[va] w fun e w' => e = .returned (.tuple #[.int .u64 (sLow xs : Nat), .bool (sLowOk xs)]) ∧ Env w0 w' l := by
  obtain ⟨A, cap, rfl, h1, h2, hr⟩ := h.get ha
  exact (rlow_any A cap xs w _ hr (Nat.le_trans h1 h2)).mono fun _ _ ⟨he, hw⟩ => ⟨he, by rw [hw]; exact h⟩
end

end Go.Proofs.Ytdbmandbddechaa

/- What the laws do beside: own, is; values that are the walk's own and those that are only read. -/
import Derived.Laws.AppendOwnNone
import Derived.Deep.MidRow
import Derived.Test.YtlfhpoffphljfaaRefC
namespace Go.Proofs.Ytlfhpoffphljfaa
open Go.RowKit

set_option linter.unusedVariables false

theorem u32s_one (xs : List Nat) : ∀ u ∈ u32s xs, u.oneCell' = true := by
  intro u hu
  obtain ⟨x, _, rfl⟩ := List.mem_map.1 hu
  rfl

/-- As Arg, and nil has no room. -/
def ArgZ (w : World) (v : Value) (xs : List Nat) : Prop := Arg w v xs ∧ ∀ n cap, v = .slice none n cap → cap = 0
/-! ### what is only read (l), and what is the walk's own since w0 (o) -/
def Lab (w0 w : World) (l o : List (Value × List Nat)) : Prop := Env w0 w l ∧ ∀ p ∈ o, Own w w0.heap.size p.1 p.2 ∧ Limbs p.2

section
variable {w0 w w' : World} {l o : List (Value × List Nat)} {va vb : Value} {xs ys : List Nat}
theorem Lab.step (h : Lab w0 w l o) (hb : Below w.heap.size w w') : Lab w0 w' l o := ⟨h.1.step hb, fun p hp => ⟨(h.2 p hp).1.below hb, (h.2 p hp).2⟩⟩
theorem Lab.add (h : Lab w0 w l o) (hb : Below w.heap.size w w') {r : Value} {zs : List Nat} (hr : Own w' w.heap.size r zs) (hl : Limbs zs) : Lab w0 w' l ((r, zs) :: o) :=
  ⟨h.1.step hb, fun p hp => by
    rcases List.mem_cons.1 hp with rfl | hp
    · exact ⟨hr.more h.1.1.size, hl⟩
    · exact ⟨(h.2 p hp).1.below hb, (h.2 p hp).2⟩⟩
theorem lab_start (h : Env w0 w l) : Lab w w l [] := ⟨⟨Below.refl _ _, h.2⟩, fun _ h => by cases h⟩
theorem Lab.drewN (h : Lab w0 w l o) (n : Nat) : Lab w0 (w.drewN n) l o := h.step ⟨rfl, rfl, rfl, Nat.le_refl _, fun _ _ => rfl⟩

theorem add_lab (h : Lab w0 w l o) (ha : (va, xs) ∈ l) (hb : (vb, ys) ∈ l) : Calls Try.prog 16 #[va, vb] w fun e w' => ∃ r, e = .returned r ∧ Lab w0 w' l ((r, sAdd xs ys) :: o) := by
  obtain ⟨A, cap, rfl, h1, h2, hr⟩ := h.1.get ha
  obtain ⟨A', cap', rfl, h1', h2', hr'⟩ := h.1.get hb
  exact (add_any A A' cap cap' xs ys w hr hr' (Nat.le_trans h1 h2) (Nat.le_trans h1' h2')).mono fun _ _ ⟨⟨r, he, ho⟩, hbl⟩ => ⟨r, he, h.add hbl ho (sAdd_limbs _ _)⟩
theorem radd_lab (h : Lab w0 w l o) (ha : (va, xs) ∈ l) (hb : (vb, ys) ∈ l) : Calls Try.prog 54 #[va, vb] w fun e w' => ∃ r, e = .returned r ∧ Lab w0 w' l ((r, sAdd xs ys) :: o) := by
  obtain ⟨A, cap, rfl, h1, h2, hr⟩ := h.1.get ha
  obtain ⟨A', cap', rfl, h1', h2', hr'⟩ := h.1.get hb
  exact (radd_any A A' cap cap' xs ys w hr hr' (Nat.le_trans h1 h2) (Nat.le_trans h1' h2')).mono fun _ _ ⟨⟨r, he, ho⟩, hbl⟩ => ⟨r, he, h.add hbl ho (sAdd_limbs _ _)⟩
theorem sub_lab (h : Lab w0 w l o) (ha : (va, xs) ∈ l) (hb : (vb, ys) ∈ l) : Calls Try.prog 14 #[va, vb] w fun e w' => ∃ r, e = .returned (.tuple #[r, .bool (sSubOk xs ys)]) ∧ Lab w0 w' l ((r, sSub xs ys) :: o) := by
  obtain ⟨A, cap, rfl, h1, h2, hr⟩ := h.1.get ha
  obtain ⟨A', cap', rfl, h1', h2', hr'⟩ := h.1.get hb
  exact (sub_any A A' cap cap' xs ys w hr hr' (Nat.le_trans h1 h2) (Nat.le_trans h1' h2')).mono fun _ _ ⟨⟨r, he, ho⟩, hbl⟩ => ⟨r, he, h.add hbl ho (sSub_limbs _ _)⟩
theorem of_lab (h : Lab w0 w l o) (u : Nat) (hu : u < 18446744073709551616) : Calls Try.prog 17 #[.int .u64 (u : Int)] w fun e w' => ∃ r, e = .returned r ∧ Lab w0 w' l ((r, lim u) :: o) :=
  (of_any u w hu).mono fun _ _ ⟨⟨r, he, ho⟩, hbl⟩ => ⟨r, he, h.add hbl ho (lim_limbs _)⟩
theorem rmay_env (h : Env w0 w l) (ha : (va, xs) ∈ l) : Calls Try.prog 52 #[va] w fun e w' => e = .returned (.bool (mayb xs)) ∧ Env w0 w' l := by
  obtain ⟨A, cap, rfl, h1, h2, hr⟩ := h.get ha
  exact (rmay_is cap hr (Nat.le_trans h1 h2) rfl).mono fun _ _ ⟨he, hw⟩ => ⟨he, by rw [hw]; exact h⟩
end

end Go.Proofs.Ytlfhpoffphljfaa

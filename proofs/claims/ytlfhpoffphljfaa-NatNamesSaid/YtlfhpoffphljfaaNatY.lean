/- For NatNames: the long one: reckonings and contracts. -/
import Derived.Test.YtlfhpoffphljfaaNatW
import Derived.Deep.RegionLaw
namespace Go.Proofs.Ytlfhpoffphljfaa
open Go.RowKit

set_option linter.unusedVariables false

theorem val_full (n : Nat) : val (List.replicate n 4294967295) + 1 = 4294967296 ^ n := by
  induction n with
  | zero => rfl
  | succ n ih =>
    rw [List.replicate_succ, Nat.pow_succ, ← ih]
    simp only [val]
    omega
/-- limbs that are all full, as many as there may be -/
def Full (Lg : List Nat) : Prop := ∃ n, n = 65536 ∧ Lg = List.replicate n 4294967295
theorem Full.len {Lg : List Nat} (h : Full Lg) : Lg.length = 65536 := by obtain ⟨n, hn, rfl⟩ := h; rw [List.length_replicate, hn]
theorem Full.limbs {Lg : List Nat} (h : Full Lg) : Limbs Lg := by
  obtain ⟨n, hn, rfl⟩ := h
  intro x hx
  rw [(List.mem_replicate.1 hx).2]; decide
theorem Full.may {Lg : List Nat} (h : Full Lg) : mayb Lg = true := by
  rw [mayb_iff]
  refine ⟨by rw [h.len]; decide, ?_⟩
  obtain ⟨n, hn, rfl⟩ := h
  intro e
  have := List.mem_of_getLast? e
  have := (List.mem_replicate.1 this).2
  omega
theorem full_take {n m : Nat} (h : m ≤ n) : (List.replicate n 4294967295).take m = List.replicate m 4294967295 := by
  rw [List.take_replicate, Nat.min_eq_left h]
theorem full_may {n : Nat} (hn : n ≤ 65536) : mayb (List.replicate n 4294967295) = true := by
  rw [mayb_iff]
  refine ⟨by rw [List.length_replicate]; exact hn, ?_⟩
  intro e
  have := List.mem_of_getLast? e
  have := (List.mem_replicate.1 this).2
  omega
theorem Full.add {Lg : List Nat} (h : Full Lg) : sAdd Lg [1] = [] := by
  have hm := h.may
  obtain ⟨n, hn, rfl⟩ := h
  rw [sAdd_yes (by rw [hm]; rfl), show val [1] = 1 from rfl, val_full, clip_not]
  rw [lim_length_le, ← hn]
  exact Nat.lt_irrefl _
theorem full_add {n m : Nat} (hm : n = m + 1) (hn : n = 65536) : (sAdd (List.replicate m 4294967295) [1]).length = n := by
  rw [sAdd_yes (by rw [full_may (by omega)]; rfl), show val [1] = 1 from rfl, val_full, clip_of]
  · apply Nat.le_antisymm
    · rw [lim_length_le, hm]
      exact Nat.pow_lt_pow_right (by decide) (by omega)
    · apply Nat.le_of_not_lt
      intro hlt
      have : (lim (4294967296 ^ m)).length ≤ m := by omega
      rw [lim_length_le] at this
      exact Nat.lt_irrefl _ this
  · rw [lim_length_le, ← hn, hm]
    exact Nat.pow_lt_pow_right (by decide) (by omega)
theorem Full.add2 {Lg : List Nat} (h : Full Lg) (m : Nat) (hm : m + 1 = 65536) : (sAdd (Lg.take m) [1]).length = 65536 := by
  obtain ⟨n, hn, rfl⟩ := h
  rw [full_take (by omega), full_add (n := n) (by omega) hn, hn]
theorem Full.shl {Lg : List Nat} (h : Full Lg) : sShl Lg 1 = [] := by
  have hm := h.may
  obtain ⟨n, hn, rfl⟩ := h
  have hv := val_full n
  have hp : 0 < 4294967296 ^ n := Nat.pow_pos (by decide)
  have h1 : 0 < n := by omega
  have h2 : 4294967296 ≤ 4294967296 ^ n := by
    have := Nat.pow_le_pow_right (n := 4294967296) (by decide) (show 1 ≤ n by omega)
    rwa [Nat.pow_one] at this
  have := sShl_yes hm 1
  rw [show ((1 : Nat) : Int) = 1 from rfl] at this
  rw [this, clip_not, ]
  rw [lim_length_le, ← hn, Nat.pow_one]
  omega
theorem shl_top (k q : Nat) (hk : k = 32 * q + 31) (hq : q < 65536) : (sShl [1] (k : Int)).length = q + 1 := by
  have hB : ∀ m : Nat, (4294967296 : Nat) ^ m = 2 ^ (32 * m) := fun m => by rw [show (4294967296 : Nat) = 2 ^ 32 from rfl, ← Nat.pow_mul]
  have h1 : (lim (2 ^ k)).length ≤ q + 1 := by
    rw [lim_length_le, hB]
    exact Nat.pow_lt_pow_right (by decide) (by omega)
  rw [sShl_yes (by decide), show val [1] = 1 from rfl, Nat.one_mul, clip_of (by omega)]
  refine Nat.le_antisymm h1 (Nat.le_of_not_lt fun hlt => ?_)
  have : (lim (2 ^ k)).length ≤ q := by omega
  rw [lim_length_le, hB] at this
  have := (Nat.pow_lt_pow_iff_right (a := 2) (by decide)).1 this
  omega
theorem shl_top2 (k q : Nat) (hk : k = 32 * q) (hq : q = 65536) : sShl [1] (k : Int) = [] := by
  have hB : ∀ m : Nat, (4294967296 : Nat) ^ m = 2 ^ (32 * m) := fun m => by rw [show (4294967296 : Nat) = 2 ^ 32 from rfl, ← Nat.pow_mul]
  rw [sShl_yes (by decide), show val [1] = 1 from rfl, Nat.one_mul, clip_not]
  rw [lim_length_le, ← hq, hB, ← hk]
  exact Nat.lt_irrefl _
theorem full_more {Lg : List Nat} (h : Full Lg) : mayb (Lg ++ [1]) = false := by
  unfold mayb
  rw [decide_eq_false]
  intro ⟨h1, _⟩
  rw [List.length_append, h.len] at h1
  exact absurd h1 (by decide)


theorem mayL {w0 w : World} {v : Value} {Lg : List Nat} (h : Full Lg) (env : Env w0 w [(v, Lg)]) : Calls Try.prog 23 #[v] w fun e w' => e = .returned (.bool true) ∧ Env w0 w' [(v, Lg)] :=
  may_is env (by simp) h.may
theorem mayA {w0 w : World} {v v' : Value} {Lg : List Nat} (h : Full Lg) (env : Env w0 w [(v', Lg ++ [1]), (v, Lg)]) : Calls Try.prog 23 #[v'] w fun e w' => e = .returned (.bool false) ∧ Env w0 w' [(v, Lg)] :=
  (may_is env (va := v') (xs := Lg ++ [1]) (by simp) (full_more h)).mono fun _ _ ⟨he, henv⟩ => ⟨he, henv.pop⟩
theorem ofL {w0 w : World} {v : Value} {Lg : List Nat} (env : Env w0 w [(v, Lg)]) : Calls Try.prog 13 #[.slice (some ⟨w.heap.size, 0, none⟩) 1 1] (w.alloc (.cells #[.int .u32 1] 28)) fun e w' => ∃ r, e = .returned r ∧ Env w0 w' [(r, [1]), (v, Lg)] :=
  lof_env (env.lit1 1 1 rfl (by decide))
/-- An answer in an environment has its list's length. -/
theorem Env.form {w0 w : World} {v : Value} {zs : List Nat} {n : Nat} {l : List (Value × List Nat)} (h : Env w0 w ((v, zs) :: l)) (hn : zs.length = n) : ∃ A cap, v = .slice A n cap := by
  obtain ⟨A, cap, rfl, _⟩ := h.get (v := v) (xs := zs) (by simp)
  exact ⟨A, cap, by rw [hn]⟩
theorem addL {w0 w : World} {v r : Value} {Lg : List Nat} (h : Full Lg) (env : Env w0 w [(r, [1]), (v, Lg)]) : Calls Try.prog 16 #[v, r] w fun e w' => ∃ A cap, e = .returned (.slice A 0 cap) ∧ Env w0 w' [(v, Lg)] :=
  (add_is env (va := v) (vb := r) (xs := Lg) (ys := [1]) (by simp) (by simp) h.add).mono fun _ _ ⟨q, he, henv⟩ => by
    obtain ⟨A, cap, rfl⟩ := henv.form (n := 0) rfl
    exact ⟨A, cap, he, henv.pop.pop⟩
theorem addL2 {w0 w : World} {g m : Nat} {r : Value} {Lg : List Nat} (h : Full Lg) (hm : m + 1 = 65536) (env : Env w0 w [(r, [1]), (.slice (some ⟨g, 0, none⟩) 65536 65536, Lg)]) : Calls Try.prog 16 #[.slice (some ⟨g, 0, none⟩) m 65536, r] w fun e w' => ∃ A cap, e = .returned (.slice A 65536 cap) ∧ Env w0 w' [(.slice (some ⟨g, 0, none⟩) 65536 65536, Lg)] := by
  have hA : Arg w (.slice (some ⟨g, 0, none⟩) m 65536) (Lg.take m) := by
    obtain ⟨A, cap, e, h1, h2, hr⟩ := env.get (v := .slice (some ⟨g, 0, none⟩) 65536 65536) (xs := Lg) (by simp)
    injection e with e1 e2 e3
    subst e1 e3
    have hl := h.len
    exact ⟨_, _, by rw [List.length_take, Nat.min_eq_left (by omega)], by rw [List.length_take]; omega, h2, hr.take m⟩
  have env2 := env.add (Below.refl _ _) hA
  exact (add_is env2 (va := .slice (some ⟨g, 0, none⟩) m 65536) (vb := r) (xs := Lg.take m) (ys := [1]) (by simp) (by simp) rfl).mono fun _ _ ⟨q, he, henv⟩ => by
    obtain ⟨A, cap, rfl⟩ := henv.form (h.add2 m hm)
    exact ⟨A, cap, he, henv.pop.pop.pop⟩
theorem shlL {w0 w : World} {v : Value} {Lg : List Nat} (h : Full Lg) (env : Env w0 w [(v, Lg)]) : Calls Try.prog 19 #[v, .int .i64 1] w fun e w' => ∃ A cap, e = .returned (.slice A 0 cap) ∧ Env w0 w' [(v, Lg)] :=
  (shl_is env (va := v) (xs := Lg) (by simp) h.shl).mono fun _ _ ⟨q, he, henv⟩ => by
    obtain ⟨A, cap, rfl⟩ := henv.form (n := 0) rfl
    exact ⟨A, cap, he, henv.pop⟩
theorem shl1 {w0 w : World} {v r : Value} {Lg : List Nat} (k : Int) (n : Nat) (hz : (sShl [1] k).length = n) (env : Env w0 w [(r, [1]), (v, Lg)]) : Calls Try.prog 19 #[r, .int .i64 k] w fun e w' => ∃ A cap, e = .returned (.slice A n cap) ∧ Env w0 w' [(v, Lg)] :=
  (shl_is env (va := r) (xs := [1]) (by simp) rfl).mono fun _ _ ⟨q, he, henv⟩ => by
    obtain ⟨A, cap, rfl⟩ := henv.form hz
    exact ⟨A, cap, he, henv.pop.pop⟩
theorem shl1a {w0 w : World} {v r : Value} {Lg : List Nat} (env : Env w0 w [(r, [1]), (v, Lg)]) : Calls Try.prog 19 #[r, .int .i64 2097151] w fun e w' => ∃ A cap, e = .returned (.slice A 65536 cap) ∧ Env w0 w' [(v, Lg)] :=
  shl1 _ _ (shl_top 2097151 65535 (by decide) (by decide)) env
theorem shl1b {w0 w : World} {v r : Value} {Lg : List Nat} (env : Env w0 w [(r, [1]), (v, Lg)]) : Calls Try.prog 19 #[r, .int .i64 2097152] w fun e w' => ∃ A cap, e = .returned (.slice A 0 cap) ∧ Env w0 w' [(v, Lg)] :=
  shl1 _ _ (by rw [show (2097152 : Int) = ((2097152 : Nat) : Int) from rfl, shl_top2 2097152 65536 (by decide) rfl]; rfl) env

end Go.Proofs.Ytlfhpoffphljfaa

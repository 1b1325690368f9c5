/- DecSplits. -/
import Derived.Test.YtileljokijmpaaaDoorLawH
namespace Go.Proofs.YtileljokijmpaaaDoor
open Go.RowKit Go.Shelf

set_option linter.unusedVariables false
set_option linter.unusedSimpArgs false

theorem bnd_i64s {u : Int} (h : (Lit.int .i64 u).wf = true) : -9223372036854775808 ≤ u ∧ u < 9223372036854775808 := by
  simp [Lit.wf, IntKind.min, IntKind.max, IntKind.signed, IntKind.bits] at h
  omega

set_option maxRecDepth 100000 in
set_option maxHeartbeats 8000000 in
theorem splits_long {A : Option Addr} {nx cap : Nat} {xs : List Nat} (w : World) (h : Arg w (.slice A nx cap) xs) (h1 : 300 < nx) (k : Int) : Calls Tryd.prog 5 #[.slice A nx cap, .int .i64 k] w fun e w' => e = .returned (.bool true) ∧ Below w.heap.size w w' := by
  have env0 := env_start1 h
  clear h
  go_enter Tryd.func5, Tryd.ntmps5
  go_wp2_with fail
  refine (works4_env env0).mono ?_
  rintro e w1 ⟨rfl, env1⟩
  have HB := Lib.hid env1.1
  clear env0 env1
  go_wp2
  go_ret
  exact ⟨rfl, HB.out⟩

set_option maxRecDepth 100000 in
set_option maxHeartbeats 8000000 in
theorem splits_nil (w : World) (h : Arg w (.slice none 0 0) []) (k : Int) (hk : k < 9223372036854775808) (hk0 : -9223372036854775808 ≤ k) (ys zs : List Nat) (hy : sHi [] k = ys) (hz : sLo [] k = zs) : Calls Tryd.prog 5 #[(.slice none 0 0), .int .i64 k] w fun e w' => e = .returned (.bool true) ∧ Below w.heap.size w w' := by
  have HA := Lib.hid h
  have HL := Lib.hid h.limbs
  have HY := Lib.hid hy
  have HZ := Lib.hid hz
  clear h hy hz
  go_enter Tryd.func5, Tryd.ntmps5
  have hown0 : (w.alloc (.cells #[] 40)).ownsRow w.heap.size 40 1 (.slice (some ⟨w.heap.size, 0, none⟩) 0 0) 0 [] := World.ownsRow_lit w #[] 0 (Nat.le_refl _) (by decide) rfl
  obtain ⟨i0, hti, hz0, hz1, hz2⟩ := info_parts info32
  go_wp2_with (at_builtin; refine wpList_append_own_none rfl _ _ 24 rfl w.heap.size 40 i0 1 Tryd.underlying24 hti _ _ _ rfl hown0 rfl ?_; clear hown0)
  have env1 := (env_start1 HA.out).add (arg_empty w).2 (arg_empty w).1
  generalize w.alloc (.cells #[] 40) = w1 at *
  obtain ⟨y, hy⟩ : ∃ y, y = Value.slice (some ⟨w.heap.size, 0, none⟩) 0 0 := ⟨_, rfl⟩
  rw [← hy] at env1 ⊢
  clear hy
  go_wp2_with fail
  refine (rsplit_env env1 (xs := []) (by simp) (fun n c e => by cases e; rfl) k HY.out HZ.out).mono ?_
  rintro e w2 ⟨a, b, rfl, env2⟩
  clear env1
  go_wp2_with fail
  go_loopw [8] (fun i wr => ∃ n : Nat, n ≤ 2 ∧ i = .int .i64 (n : Int) ∧ Env w wr [(a, ys), (b, zs), (y, []), ((.slice none 0 0), [])]) (fun i _ => 2 - (intOf i).toNat)
  case atStart => exact ⟨0, by decide, rfl, env2⟩
  case round =>
    clear env2
    obtain ⟨n, hn, rfl, E⟩ := hrel
    by_cases hlt : n < 2
    · have E0 := Lib.hid E
      have b0 := lab_start E
      clear E
      go_wp2_with fail
      refine (split_lab b0 (va := y) (xs := []) (by simp) k hk hk0 HY.out HZ.out).mono ?_
      rintro e u1 ⟨q, r, rfl, b1⟩
      clear b0
      go_wp2_with fail
      refine (same4_ol b1 (va := q) (vb := a) (xs := ys) (by simp) (by simp)).mono ?_
      rintro e u2 ⟨rfl, b2⟩
      clear b1
      go_wp2_with fail
      refine (same4_ol b2 (va := r) (vb := b) (xs := zs) (by simp) (by simp)).mono ?_
      rintro e u3 ⟨rfl, b3⟩
      clear b2
      have q1 := b3.row4 (va := q) (xs := ys) (by simp)
      have q2 := b3.row4 (va := r) (xs := zs) (by simp)
      have HB := Lib.hid b3.1.1
      clear b3
      go_wp2_with fail
      refine (spoil4_is q1).mono ?_
      rintro e s1 ⟨rfl, S1⟩
      go_wp2_with fail
      refine (spoil4_is (q2.kept S1)).mono ?_
      rintro e s2 ⟨rfl, S2⟩
      have HE := Lib.hid (E0.out.step (HB.out.trans (S1.trans S2).1))
      clear q1 q2 S1 S2
      go_wp2_with fail
      go_roundw
      case rel => exact ⟨n + 1, by omega, by go_num, HE.out⟩
      case measure => simp [intOf]; omega
    · go_wp2_with fail
      refine (same4_yes E (va := y) (vb := (.slice none 0 0)) (xs := []) (ys := []) (by simp) (by simp) rfl).mono ?_
      rintro e t1 ⟨rfl, E1⟩
      clear E
      go_wp2_with fail
      refine (works4_env E1).mono ?_
      rintro e t3 ⟨rfl, E3⟩
      have HB := Lib.hid E3.1
      clear E1 E3
      go_wp2
      go_ret
      exact ⟨rfl, HB.out⟩

set_option maxRecDepth 100000 in
set_option maxHeartbeats 8000000 in
theorem splits_some {ad : Addr} {nx cap : Nat} {xs : List Nat} (w : World) (h : Arg w (.slice (some ad) nx cap) xs) (hcc : nx ≤ cap) (hcm : cap ≤ maxLen) (h1 : nx ≤ 300) (hnx : nx = xs.length) (k : Int) (hk : k < 9223372036854775808) (hk0 : -9223372036854775808 ≤ k) (ys zs : List Nat) (hy : sHi xs k = ys) (hz : sLo xs k = zs) : Calls Tryd.prog 5 #[(.slice (some ad) nx cap), .int .i64 k] w fun e w' => e = .returned (.bool true) ∧ Below w.heap.size w w' := by
  have HA := Lib.hid h
  have HNX := Lib.hid hnx
  clear hnx
  have HL := Lib.hid h.limbs
  have HY := Lib.hid hy
  have HZ := Lib.hid hz
  clear h hy hz
  go_enter Tryd.func5, Tryd.ntmps5
  have hown0 : (w.alloc (.cells #[] 40)).ownsRow w.heap.size 40 1 (.slice (some ⟨w.heap.size, 0, none⟩) 0 0) 0 [] := World.ownsRow_lit w #[] 0 (Nat.le_refl _) (by decide) rfl
  obtain ⟨i0, hti, hz0, hz1, hz2⟩ := info_parts info32
  have HC := Lib.hid (cells_arg HA.out)
  go_wp2_with (at_builtin; refine wpList_append_own _ rfl _ _ 24 rfl w.heap.size 40 i0 (.int .u32 0) 1 4 Tryd.underlying24 hti hz0 hz1 hz2 rfl (by decide) _ _ _ rfl hown0 ad nx cap (u32s xs) rfl (by simp [u32s, HNX.out]) HC.out (u32s_one xs) (by unfold maxLen at *; omega) (by omega) (by simp) ?_; intro y w1 hown' hgrow hgone; clear hgone)
  have hog := own_grown (w := w) (w2 := w1) (v' := y) (xs := xs) (by rw [← HNX.out]; simpa using hown') hgrow HL.out
  have env1 := (env_start1 HA.out).add hog.2 hog.1
  clear hown' hgrow hog HC hown0
  go_wp2_with fail
  refine (rsplit_env env1 (xs := xs) (by simp) (fun n c e => by cases e) k HY.out HZ.out).mono ?_
  rintro e w2 ⟨a, b, rfl, env2⟩
  clear env1
  go_wp2_with fail
  go_loopw [8] (fun i wr => ∃ n : Nat, n ≤ 2 ∧ i = .int .i64 (n : Int) ∧ Env w wr [(a, ys), (b, zs), (y, xs), ((.slice (some ad) nx cap), xs)]) (fun i _ => 2 - (intOf i).toNat)
  case atStart => exact ⟨0, by decide, rfl, env2⟩
  case round =>
    clear env2
    obtain ⟨n, hn, rfl, E⟩ := hrel
    by_cases hlt : n < 2
    · have E0 := Lib.hid E
      have b0 := lab_start E
      clear E
      go_wp2_with fail
      refine (split_lab b0 (va := y) (xs := xs) (by simp) k hk hk0 HY.out HZ.out).mono ?_
      rintro e u1 ⟨q, r, rfl, b1⟩
      clear b0
      go_wp2_with fail
      refine (same4_ol b1 (va := q) (vb := a) (xs := ys) (by simp) (by simp)).mono ?_
      rintro e u2 ⟨rfl, b2⟩
      clear b1
      go_wp2_with fail
      refine (same4_ol b2 (va := r) (vb := b) (xs := zs) (by simp) (by simp)).mono ?_
      rintro e u3 ⟨rfl, b3⟩
      clear b2
      have q1 := b3.row4 (va := q) (xs := ys) (by simp)
      have q2 := b3.row4 (va := r) (xs := zs) (by simp)
      have HB := Lib.hid b3.1.1
      clear b3
      go_wp2_with fail
      refine (spoil4_is q1).mono ?_
      rintro e s1 ⟨rfl, S1⟩
      go_wp2_with fail
      refine (spoil4_is (q2.kept S1)).mono ?_
      rintro e s2 ⟨rfl, S2⟩
      have HE := Lib.hid (E0.out.step (HB.out.trans (S1.trans S2).1))
      clear q1 q2 S1 S2
      go_wp2_with fail
      go_roundw
      case rel => exact ⟨n + 1, by omega, by go_num, HE.out⟩
      case measure => simp [intOf]; omega
    · go_wp2_with fail
      refine (same4_yes E (va := y) (vb := (.slice (some ad) nx cap)) (xs := xs) (ys := xs) (by simp) (by simp) rfl).mono ?_
      rintro e t1 ⟨rfl, E1⟩
      clear E
      go_wp2_with fail
      refine (works4_env E1).mono ?_
      rintro e t3 ⟨rfl, E3⟩
      have HB := Lib.hid E3.1
      clear E1 E3
      go_wp2
      go_ret
      exact ⟨rfl, HB.out⟩

theorem decSplits_law {A : Option Addr} {nx cap : Nat} {xs : List Nat} (w : World) (h : Arg w (.slice A nx cap) xs) (hz : NoRoom (.slice A nx cap)) (k : Int) (hk : (Lit.int .i64 k).wf = true) : Calls Tryd.prog 5 #[.slice A nx cap, .int .i64 k] w (fun e w' => e = .returned (.bool true) ∧ Below w.heap.size w w') := by
  have bk := bnd_i64s hk
  rcases Nat.lt_or_ge 300 nx with h1 | h1
  · exact splits_long w h h1 k
  · obtain ⟨_, _, e3, hcc, hcm, hrd⟩ := id h
    injection e3 with e3 e4 e5
    subst e3 e4 e5
    rcases A with _ | ad
    · obtain rfl := hz _ _ rfl
      obtain rfl : xs = [] := List.eq_nil_of_length_eq_zero (by omega)
      exact splits_nil w h k bk.2 bk.1 _ _ rfl rfl
    · exact splits_some w h hcc hcm h1 rfl k bk.2 bk.1 _ _ rfl rfl

end Go.Proofs.YtileljokijmpaaaDoor

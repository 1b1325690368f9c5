/- MulTells. -/
import Derived.Test.YtlfhpoffphljfaaRefP
import Derived.Test.YtlfhpoffphljfaaMulR
namespace Go.Proofs.Ytlfhpoffphljfaa
open Go.RowKit Go.Shelf

set_option linter.unusedVariables false

def NoRm (v : Value) : Prop := ∀ n cap, v = .slice none n cap → cap = 0
theorem noRoom_of_row {w : World} {a : Option Addr} {len cap : Nat} {zs : List Int}
    (h : (a = none ∧ len = 0 ∧ cap = 0 ∧ zs = []) ∨ ∃ x, a = some x ∧ len ≤ cap ∧ cap ≤ maxLen ∧ zs.length = cap ∧ (∀ i, i < zs.length → w.cell? (x.add i) = some (.int .u32 (zs.getD i 0))) ∧ ∀ n ∈ zs, (Lit.int .u32 n).wf = true) : NoRm (.slice a len cap) := by
  rcases h with ⟨rfl, rfl, rfl, rfl⟩ | ⟨x, rfl, _⟩
  · intro n cap h; cases h; rfl
  · intro n cap h; cases h

section
variable {w0 w w' : World} {l o : List (Value × List Nat)} {va vb : Value} {xs ys zs L : List Nat}
theorem newL_lab {e : Ending} (h : Lab w0 w l o) (hl : Limbs L) (hn : NewL w L e w') : ∃ r, e = .returned r ∧ Lab w0 w' l ((r, L) :: o) := by
  obtain ⟨⟨v, he, ho⟩, hb⟩ := hn
  exact ⟨v, he, h.add hb ho hl⟩
theorem mul_lab (h : Lab w0 w l o) (ha : (va, xs) ∈ l) (hb : (vb, ys) ∈ l) : Calls Try.prog 27 #[va, vb] w fun e w' => ∃ r, e = .returned r ∧ Lab w0 w' l ((r, sMul xs ys) :: o) :=
  (mul_any va vb xs ys w (h.1.get ha) (h.1.get hb)).mono fun _ _ hn => newL_lab h (sMul_limbs _ _) hn
theorem rmul_lab (h : Lab w0 w l o) (ha : (va, xs) ∈ l) (hb : (vb, ys) ∈ l) : Calls Try.prog 35 #[va, vb] w fun e w' => ∃ r, e = .returned r ∧ Lab w0 w' l ((r, sMul xs ys) :: o) :=
  (rmul_any va vb xs ys w (h.1.get ha) (h.1.get hb)).mono fun _ _ hn => newL_lab h (sMul_limbs _ _) hn
theorem square_lab (h : Lab w0 w l o) (ha : (va, xs) ∈ l) : Calls Try.prog 28 #[va] w fun e w' => ∃ r, e = .returned r ∧ Lab w0 w' l ((r, sMul xs xs) :: o) :=
  (square_any va xs w (h.1.get ha)).mono fun _ _ hn => newL_lab h (sMul_limbs _ _) hn
theorem small_lab (h : Lab w0 w l o) (ha : (va, xs) ∈ l) (m a : Nat) (hm : m < 4294967296) (hA : a < 4294967296) : Calls Try.prog 29 #[va, .int .u32 (m : Int), .int .u32 (a : Int)] w fun e w' => ∃ r, e = .returned r ∧ Lab w0 w' l ((r, sSmall xs m a) :: o) := by
  obtain ⟨A, cap, rfl, k1, k2, hr⟩ := h.1.get ha
  exact (small_any A cap xs m a w hr (by omega) hm hA).mono fun _ _ hn => newL_lab h (sSmall_limbs _ _ _) hn
theorem rsmall_lab (h : Lab w0 w l o) (ha : (va, xs) ∈ l) (m a : Nat) (hm : m < 4294967296) (hA : a < 4294967296) : Calls Try.prog 36 #[va, .int .u32 (m : Int), .int .u32 (a : Int)] w fun e w' => ∃ r, e = .returned r ∧ Lab w0 w' l ((r, sSmall xs m a) :: o) := by
  obtain ⟨A, cap, rfl, k1, k2, hr⟩ := h.1.get ha
  exact (rsmall_any A cap xs m a w hr (by omega) hm hA).mono fun _ _ hn => newL_lab h (sSmall_limbs _ _ _) hn
theorem pow_lab (h : Lab w0 w l o) (ha : (va, xs) ∈ l) (k : Int) (hk : k < 9223372036854775808) (hk0 : -9223372036854775808 ≤ k) : Calls Try.prog 30 #[va, .int .i64 k] w fun e w' => ∃ r, e = .returned r ∧ Lab w0 w' l ((r, sPow xs k) :: o) :=
  (pow_any va xs k w (h.1.get ha) hk hk0).mono fun _ _ hn => newL_lab h (sPow_limbs _ _) hn
theorem rpow_lab (h : Lab w0 w l o) (ha : (va, xs) ∈ l) (hz : NoRm va) (k : Int) (hk : k < 9223372036854775808) : Calls Try.prog 37 #[va, .int .i64 k] w fun e w' => ∃ r, e = .returned r ∧ Lab w0 w' l ((r, sPow xs k) :: o) :=
  (rpow_any va xs k w ⟨h.1.get ha, hz⟩ hk).mono fun _ _ hn => newL_lab h (sPow_limbs _ _) hn
theorem same_lab (h : Lab w0 w l o) (ha : (va, xs) ∈ o) (hb : (vb, xs) ∈ o) : Calls Try.prog 34 #[va, vb] w fun e w' => e = .returned (.bool true) ∧ Lab w0 w' l o := by
  obtain ⟨A, cap, e1, g1, g2, r1⟩ := (h.2 _ ha).1.arg (h.2 _ ha).2
  obtain ⟨A', cap', e2, g1', g2', r2⟩ := (h.2 _ hb).1.arg (h.2 _ hb).2
  simp only at e1 e2
  subst e1 e2
  have c := same_any A A' cap cap' xs xs w _ r1 r2 (Nat.le_trans g1' g2')
  rw [eqb_refl] at c
  exact c.mono fun _ _ ⟨he, n, hw⟩ => ⟨he, by rw [hw]; exact h.drewN n⟩
theorem refsame_yes (h : Env w0 w l) (ha : (va, xs) ∈ l) (hb : (vb, xs) ∈ l) : Calls Try.prog 34 #[va, vb] w fun e w' => e = .returned (.bool true) ∧ Env w0 w' l := by
  have := refsame_env h ha hb
  rwa [eqb_refl] at this
theorem copied_is (h : Env w0 w l) (ha : (va, xs) ∈ l) (hz : NoRm va) (hl : xs.length ≤ 1048576) : Calls Try.prog 33 #[va] w fun e w' => ∃ r, e = .returned r ∧ Env w0 w' ((r, xs) :: l) :=
  (copied_any ⟨h.get ha, hz⟩ hl).mono fun _ _ hn => h.newL (h.get ha).limbs hn
/-- A row of the round's own. -/
def RowOf (w0 w : World) (v : Value) : Prop := ∃ n zs, n ≤ maxLen ∧ w.ownsRow w0.heap.size 28 1 v n zs
theorem Lab.row (h : Lab w0 w l o) (ha : (va, xs) ∈ o) (hl : xs.length ≤ 65536) : RowOf w0 w va := ⟨xs.length, _, by unfold maxLen; omega, (h.2 _ ha).1⟩
theorem spoil_is (h : RowOf w0 w va) : Calls Try.prog 38 #[va] w fun e w' => e = .returned (.tuple #[]) ∧ Spoilt w0.heap.size w w' := by
  obtain ⟨n, zs, hn, ho⟩ := h
  exact spoil_any ho hn
theorem RowOf.kept (h : RowOf w0 w va) (hs : Spoilt w0.heap.size w w') : RowOf w0 w' va := by
  obtain ⟨n, zs, hn, ho⟩ := h
  obtain ⟨zs', ho'⟩ := hs.2 _ _ _ ho
  exact ⟨n, zs', hn, ho'⟩
theorem sMul_len (xs ys : List Nat) : (sMul xs ys).length ≤ 65536 := by
  unfold sMul; split
  · exact clip_length _
  · simp
theorem sSmall_len (xs : List Nat) (m a : Nat) : (sSmall xs m a).length ≤ 65536 := by
  unfold sSmall; split
  · exact clip_length _
  · simp
theorem sPow_len (xs : List Nat) (k : Int) : (sPow xs k).length ≤ 65536 := by
  unfold sPow; split
  · exact clip_length _
  · simp
end
theorem bnd_u32' {u : Int} (h : (Lit.int .u32 u).wf = true) : 0 ≤ u ∧ u < 4294967296 := by
  simp [Lit.wf, IntKind.min, IntKind.max, IntKind.signed, IntKind.bits] at h
  omega
theorem bnd_i64' {u : Int} (h : (Lit.int .i64 u).wf = true) : -9223372036854775808 ≤ u ∧ u < 9223372036854775808 := by
  simp [Lit.wf, IntKind.min, IntKind.max, IntKind.signed, IntKind.bits] at h
  omega

set_option maxRecDepth 100000 in
set_option maxHeartbeats 8000000 in
theorem mtells_long {Pa : Option Addr} {na ca : Nat} {Pb : Option Addr} {nb cb : Nat} {xs ys : List Nat} (w : World) (h0 : Arg w (.slice Pa na ca) xs) (h1 : Arg w (.slice Pb nb cb) ys) (m d : Nat) (k : Int) (hL : longL [xs, ys] = true) : Calls Try.prog 5 #[(.slice Pa na ca), (.slice Pb nb cb), .int .u32 (m : Int), .int .u32 (d : Int), .int .i64 k] w fun e w' => e = .returned (.bool true) ∧ Below w.heap.size w w' := by
  have env0 : Env w w [((.slice Pa na ca), xs), ((.slice Pb nb cb), ys)] := (((env_start w).add (Below.refl _ _) h1).add (Below.refl _ _) h0)
  clear h0 h1
  go_enter Try.func5, Try.ntmps5
  go_wp2_with fail
  obtain ⟨rL, env2⟩ := rows2 env0 (va := (.slice Pa na ca)) (xs := xs) (vb := (.slice Pb nb cb)) (ys := ys) w.heap.size rfl (by simp) (by simp)
  have cL := long_any _ _ _ rL
  rw [hL] at cL
  with_reducible refine cL.mono ?_
  rintro e w2 ⟨rfl, rfl⟩
  clear env0 cL
  go_wp2_with fail
  refine (works_env env2).mono ?_
  rintro e w9 ⟨rfl, env9⟩
  have HB := Lib.hid env9.1
  clear env9 env2 rL
  go_wp2
  go_ret
  exact ⟨rfl, HB.out⟩

set_option maxRecDepth 100000 in
set_option maxHeartbeats 8000000 in
theorem mtells_few {Pa : Option Addr} {na ca : Nat} {Pb : Option Addr} {nb cb : Nat} {xs ys : List Nat} (w : World) (h0 : Arg w (.slice Pa na ca) xs) (h1 : Arg w (.slice Pb nb cb) ys) (z0 : NoRm (.slice Pa na ca)) (z1 : NoRm (.slice Pb nb cb)) (m d : Nat) (hm : m < 4294967296) (hd : d < 4294967296) (k : Int) (hk : k < 9223372036854775808) (hk0 : -9223372036854775808 ≤ k) (h6 : ¬ 6 < k) (hL : longL [xs, ys] = false) : Calls Try.prog 5 #[(.slice Pa na ca), (.slice Pb nb cb), .int .u32 (m : Int), .int .u32 (d : Int), .int .i64 k] w fun e w' => e = .returned (.bool true) ∧ Below w.heap.size w w' := by
  have l0 := long_no hL (xs := xs) (by simp)
  have l1 := long_no hL (xs := ys) (by simp)
  have env0 : Env w w [((.slice Pa na ca), xs), ((.slice Pb nb cb), ys)] := (((env_start w).add (Below.refl _ _) h1).add (Below.refl _ _) h0)
  have Z0 := Lib.hid z0
  have Z1 := Lib.hid z1
  clear h0 h1 z0 z1
  go_enter Try.func5, Try.ntmps5
  go_wp2_with fail
  obtain ⟨rL, env2⟩ := rows2 env0 (va := (.slice Pa na ca)) (xs := xs) (vb := (.slice Pb nb cb)) (ys := ys) w.heap.size rfl (by simp) (by simp)
  have cL := long_any _ _ _ rL
  rw [hL] at cL
  with_reducible refine cL.mono ?_
  rintro e w2 ⟨rfl, rfl⟩
  clear env0 cL
  go_wp2_with fail
  refine (copied_is env2 (va := (.slice Pa na ca)) (xs := xs) (by simp) Z0.out (by omega)).mono ?_
  rintro e w3 ⟨x, rfl, env3⟩
  clear env2 rL
  go_wp2_with fail
  refine (copied_is env3 (va := (.slice Pb nb cb)) (xs := ys) (by simp) Z1.out (by omega)).mono ?_
  rintro e w4 ⟨y, rfl, env4⟩
  clear env3
  go_wp2_with fail
  go_loopw [13] (fun i wr => ∃ n : Nat, n ≤ 2 ∧ i = .int .i64 (n : Int) ∧ Env w wr [(y, ys), (x, xs), ((.slice Pa na ca), xs), ((.slice Pb nb cb), ys)]) (fun i _ => 2 - (intOf i).toNat)
  case atStart => exact ⟨0, by decide, rfl, env4⟩
  case round =>
    clear env4
    obtain ⟨n, hn, rfl, E⟩ := hrel
    by_cases hlt : n < 2
    · have E0 := Lib.hid E
      have b0 := lab_start E
      clear E
      go_wp2_with fail
      refine (mul_lab b0 (va := x) (vb := y) (xs := xs) (ys := ys) (by simp) (by simp)).mono ?_
      rintro e u1' ⟨r1, rfl, b1⟩
      clear b0
      go_wp2_with fail
      refine (small_lab b1 (va := x) (xs := xs) (by simp) m d hm hd).mono ?_
      rintro e u2' ⟨r2, rfl, b2⟩
      clear b1
      go_wp2_with fail
      refine (square_lab b2 (va := x) (xs := xs) (by simp)).mono ?_
      rintro e u3' ⟨r3, rfl, b3⟩
      clear b2
      go_wp2_with fail
      refine (pow_lab b3 (va := x) (xs := xs) (by simp) k (by omega) (by omega)).mono ?_
      rintro e u4' ⟨r4, rfl, b4⟩
      clear b3
      go_wp2_with fail
      refine (rmul_lab b4 (va := (.slice Pa na ca)) (vb := (.slice Pb nb cb)) (xs := xs) (ys := ys) (by simp) (by simp)).mono ?_
      rintro e u5' ⟨r5, rfl, b5⟩
      clear b4
      go_wp2_with fail
      refine (same_lab b5 (va := r1) (vb := r5) (xs := sMul xs ys) (by simp) (by simp)).mono ?_
      rintro e u6' ⟨rfl, b6⟩
      clear b5
      go_wp2_with fail
      refine (rsmall_lab b6 (va := (.slice Pa na ca)) (xs := xs) (by simp) m d hm hd).mono ?_
      rintro e u7' ⟨r7, rfl, b7⟩
      clear b6
      go_wp2_with fail
      refine (same_lab b7 (va := r2) (vb := r7) (xs := sSmall xs m d) (by simp) (by simp)).mono ?_
      rintro e u8' ⟨rfl, b8⟩
      clear b7
      go_wp2_with fail
      refine (rmul_lab b8 (va := (.slice Pa na ca)) (vb := (.slice Pa na ca)) (xs := xs) (ys := xs) (by simp) (by simp)).mono ?_
      rintro e u9' ⟨r9, rfl, b9⟩
      clear b8
      go_wp2_with fail
      refine (same_lab b9 (va := r3) (vb := r9) (xs := sMul xs xs) (by simp) (by simp)).mono ?_
      rintro e u10' ⟨rfl, b10⟩
      clear b9
      go_wp2_with fail
      refine (rpow_lab b10 (va := (.slice Pa na ca)) (xs := xs) (by simp) Z0.out k (by omega)).mono ?_
      rintro e u11' ⟨r11, rfl, b11⟩
      clear b10
      go_wp2_with fail
      refine (same_lab b11 (va := r4) (vb := r11) (xs := sPow xs k) (by simp) (by simp)).mono ?_
      rintro e u12' ⟨rfl, b12⟩
      clear b11
      have q1 := b12.row (va := r1) (xs := sMul xs ys) (by simp) (sMul_len _ _)
      have q2 := b12.row (va := r2) (xs := sSmall xs m d) (by simp) (sSmall_len _ _ _)
      have q3 := b12.row (va := r3) (xs := sMul xs xs) (by simp) (sMul_len _ _)
      have q4 := b12.row (va := r4) (xs := sPow xs k) (by simp) (sPow_len _ _)
      have HB := Lib.hid b12.1.1
      clear b12
      go_wp2_with fail
      refine (spoil_is q1).mono ?_
      rintro e s1 ⟨rfl, S1⟩
      go_wp2_with fail
      refine (spoil_is (q2.kept S1)).mono ?_
      rintro e s2 ⟨rfl, S2⟩
      go_wp2_with fail
      refine (spoil_is ((q3.kept S1).kept S2)).mono ?_
      rintro e s3 ⟨rfl, S3⟩
      go_wp2_with fail
      refine (spoil_is (((q4.kept S1).kept S2).kept S3)).mono ?_
      rintro e s4 ⟨rfl, S4⟩
      have HE := Lib.hid (E0.out.step (HB.out.trans (((S1.trans S2).trans S3).trans S4).1))
      clear q1 q2 q3 q4 S1 S2 S3 S4
      go_wp2_with fail
      go_roundw
      case rel => exact ⟨n + 1, by omega, by go_num, HE.out⟩
      case measure => simp [intOf]; omega
    · go_wp2_with fail
      refine (refsame_yes E (va := x) (vb := (.slice Pa na ca)) (xs := xs) (by simp) (by simp)).mono ?_
      rintro e t1 ⟨rfl, E1⟩
      clear E
      go_wp2_with fail
      refine (refsame_yes E1 (va := y) (vb := (.slice Pb nb cb)) (xs := ys) (by simp) (by simp)).mono ?_
      rintro e t2 ⟨rfl, E2⟩
      clear E1
      go_wp2_with fail
      refine (works_env E2).mono ?_
      rintro e t3 ⟨rfl, E3⟩
      have HB := Lib.hid E3.1
      clear E2 E3
      go_wp2
      go_ret
      exact ⟨rfl, HB.out⟩

set_option maxRecDepth 100000 in
set_option maxHeartbeats 8000000 in
theorem mtells_many {Pa : Option Addr} {na ca : Nat} {Pb : Option Addr} {nb cb : Nat} {xs ys : List Nat} (w : World) (h0 : Arg w (.slice Pa na ca) xs) (h1 : Arg w (.slice Pb nb cb) ys) (z0 : NoRm (.slice Pa na ca)) (z1 : NoRm (.slice Pb nb cb)) (m d : Nat) (hm : m < 4294967296) (hd : d < 4294967296) (k : Int) (hk : k < 9223372036854775808) (hk0 : -9223372036854775808 ≤ k) (h6 : 6 < k) (hL : longL [xs, ys] = false) : Calls Try.prog 5 #[(.slice Pa na ca), (.slice Pb nb cb), .int .u32 (m : Int), .int .u32 (d : Int), .int .i64 k] w fun e w' => e = .returned (.bool true) ∧ Below w.heap.size w w' := by
  have l0 := long_no hL (xs := xs) (by simp)
  have l1 := long_no hL (xs := ys) (by simp)
  have env0 : Env w w [((.slice Pa na ca), xs), ((.slice Pb nb cb), ys)] := (((env_start w).add (Below.refl _ _) h1).add (Below.refl _ _) h0)
  have Z0 := Lib.hid z0
  have Z1 := Lib.hid z1
  clear h0 h1 z0 z1
  go_enter Try.func5, Try.ntmps5
  go_wp2_with fail
  obtain ⟨rL, env2⟩ := rows2 env0 (va := (.slice Pa na ca)) (xs := xs) (vb := (.slice Pb nb cb)) (ys := ys) w.heap.size rfl (by simp) (by simp)
  have cL := long_any _ _ _ rL
  rw [hL] at cL
  with_reducible refine cL.mono ?_
  rintro e w2 ⟨rfl, rfl⟩
  clear env0 cL
  go_wp2_with fail
  refine (copied_is env2 (va := (.slice Pa na ca)) (xs := xs) (by simp) Z0.out (by omega)).mono ?_
  rintro e w3 ⟨x, rfl, env3⟩
  clear env2 rL
  go_wp2_with fail
  refine (copied_is env3 (va := (.slice Pb nb cb)) (xs := ys) (by simp) Z1.out (by omega)).mono ?_
  rintro e w4 ⟨y, rfl, env4⟩
  clear env3
  go_wp2_with fail
  go_loopw [13] (fun i wr => ∃ n : Nat, n ≤ 2 ∧ i = .int .i64 (n : Int) ∧ Env w wr [(y, ys), (x, xs), ((.slice Pa na ca), xs), ((.slice Pb nb cb), ys)]) (fun i _ => 2 - (intOf i).toNat)
  case atStart => exact ⟨0, by decide, rfl, env4⟩
  case round =>
    clear env4
    obtain ⟨n, hn, rfl, E⟩ := hrel
    by_cases hlt : n < 2
    · have E0 := Lib.hid E
      have b0 := lab_start E
      clear E
      go_wp2_with fail
      refine (mul_lab b0 (va := x) (vb := y) (xs := xs) (ys := ys) (by simp) (by simp)).mono ?_
      rintro e u1' ⟨r1, rfl, b1⟩
      clear b0
      go_wp2_with fail
      refine (small_lab b1 (va := x) (xs := xs) (by simp) m d hm hd).mono ?_
      rintro e u2' ⟨r2, rfl, b2⟩
      clear b1
      go_wp2_with fail
      refine (square_lab b2 (va := x) (xs := xs) (by simp)).mono ?_
      rintro e u3' ⟨r3, rfl, b3⟩
      clear b2
      go_wp2_with fail
      refine (pow_lab b3 (va := x) (xs := xs) (by simp) (k % 7) (by omega) (by omega)).mono ?_
      rintro e u4' ⟨r4, rfl, b4⟩
      clear b3
      go_wp2_with fail
      refine (rmul_lab b4 (va := (.slice Pa na ca)) (vb := (.slice Pb nb cb)) (xs := xs) (ys := ys) (by simp) (by simp)).mono ?_
      rintro e u5' ⟨r5, rfl, b5⟩
      clear b4
      go_wp2_with fail
      refine (same_lab b5 (va := r1) (vb := r5) (xs := sMul xs ys) (by simp) (by simp)).mono ?_
      rintro e u6' ⟨rfl, b6⟩
      clear b5
      go_wp2_with fail
      refine (rsmall_lab b6 (va := (.slice Pa na ca)) (xs := xs) (by simp) m d hm hd).mono ?_
      rintro e u7' ⟨r7, rfl, b7⟩
      clear b6
      go_wp2_with fail
      refine (same_lab b7 (va := r2) (vb := r7) (xs := sSmall xs m d) (by simp) (by simp)).mono ?_
      rintro e u8' ⟨rfl, b8⟩
      clear b7
      go_wp2_with fail
      refine (rmul_lab b8 (va := (.slice Pa na ca)) (vb := (.slice Pa na ca)) (xs := xs) (ys := xs) (by simp) (by simp)).mono ?_
      rintro e u9' ⟨r9, rfl, b9⟩
      clear b8
      go_wp2_with fail
      refine (same_lab b9 (va := r3) (vb := r9) (xs := sMul xs xs) (by simp) (by simp)).mono ?_
      rintro e u10' ⟨rfl, b10⟩
      clear b9
      go_wp2_with fail
      refine (rpow_lab b10 (va := (.slice Pa na ca)) (xs := xs) (by simp) Z0.out (k % 7) (by omega)).mono ?_
      rintro e u11' ⟨r11, rfl, b11⟩
      clear b10
      go_wp2_with fail
      refine (same_lab b11 (va := r4) (vb := r11) (xs := sPow xs (k % 7)) (by simp) (by simp)).mono ?_
      rintro e u12' ⟨rfl, b12⟩
      clear b11
      have q1 := b12.row (va := r1) (xs := sMul xs ys) (by simp) (sMul_len _ _)
      have q2 := b12.row (va := r2) (xs := sSmall xs m d) (by simp) (sSmall_len _ _ _)
      have q3 := b12.row (va := r3) (xs := sMul xs xs) (by simp) (sMul_len _ _)
      have q4 := b12.row (va := r4) (xs := sPow xs (k % 7)) (by simp) (sPow_len _ _)
      have HB := Lib.hid b12.1.1
      clear b12
      go_wp2_with fail
      refine (spoil_is q1).mono ?_
      rintro e s1 ⟨rfl, S1⟩
      go_wp2_with fail
      refine (spoil_is (q2.kept S1)).mono ?_
      rintro e s2 ⟨rfl, S2⟩
      go_wp2_with fail
      refine (spoil_is ((q3.kept S1).kept S2)).mono ?_
      rintro e s3 ⟨rfl, S3⟩
      go_wp2_with fail
      refine (spoil_is (((q4.kept S1).kept S2).kept S3)).mono ?_
      rintro e s4 ⟨rfl, S4⟩
      have HE := Lib.hid (E0.out.step (HB.out.trans (((S1.trans S2).trans S3).trans S4).1))
      clear q1 q2 q3 q4 S1 S2 S3 S4
      go_wp2_with fail
      go_roundw
      case rel => exact ⟨n + 1, by omega, by go_num, HE.out⟩
      case measure => simp [intOf]; omega
    · go_wp2_with fail
      refine (refsame_yes E (va := x) (vb := (.slice Pa na ca)) (xs := xs) (by simp) (by simp)).mono ?_
      rintro e t1 ⟨rfl, E1⟩
      clear E
      go_wp2_with fail
      refine (refsame_yes E1 (va := y) (vb := (.slice Pb nb cb)) (xs := ys) (by simp) (by simp)).mono ?_
      rintro e t2 ⟨rfl, E2⟩
      clear E1
      go_wp2_with fail
      refine (works_env E2).mono ?_
      rintro e t3 ⟨rfl, E3⟩
      have HB := Lib.hid E3.1
      clear E2 E3
      go_wp2
      go_ret
      exact ⟨rfl, HB.out⟩

theorem mtells_law {Pa : Option Addr} {na ca : Nat} {Pb : Option Addr} {nb cb : Nat} {xs ys : List Nat} (w : World) (h0 : Arg w (.slice Pa na ca) xs) (z0 : NoRm (.slice Pa na ca)) (h1 : Arg w (.slice Pb nb cb) ys) (z1 : NoRm (.slice Pb nb cb)) (u : Int) (hu : (Lit.int .u32 u).wf = true) (v : Int) (hv : (Lit.int .u32 v).wf = true) (k : Int) (hk : (Lit.int .i64 k).wf = true) :
    Calls Try.prog 5 #[(.slice Pa na ca), (.slice Pb nb cb), .int .u32 u, .int .u32 v, .int .i64 k] w fun e w' => e = .returned (.bool true) ∧ Below w.heap.size w w' := by
  have bu := bnd_u32' hu
  have bv := bnd_u32' hv
  have bk := bnd_i64' hk
  obtain ⟨m, rfl⟩ : ∃ n : Nat, u = (n : Int) := ⟨u.toNat, by omega⟩
  obtain ⟨d, rfl⟩ : ∃ n : Nat, v = (n : Int) := ⟨v.toNat, by omega⟩
  by_cases hL : longL [xs, ys] = true
  · exact mtells_long w h0 h1 m d k hL
  · have hL' : longL [xs, ys] = false := by simpa using hL
    by_cases h6 : 6 < k
    · exact mtells_many w h0 h1 z0 z1 m d (by omega) (by omega) k bk.2 bk.1 h6 hL'
    · exact mtells_few w h0 h1 z0 z1 m d (by omega) (by omega) k bk.2 bk.1 h6 hL'

end Go.Proofs.Ytlfhpoffphljfaa

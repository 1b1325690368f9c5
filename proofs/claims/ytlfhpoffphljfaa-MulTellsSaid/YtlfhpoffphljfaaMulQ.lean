/- ones; works: the examples. -/
import Derived.Test.YtlfhpoffphljfaaMulP
namespace Go.Proofs.Ytlfhpoffphljfaa
open Go.RowKit Go.Shelf

set_option linter.unusedVariables false

def fulls (n : Nat) : List Nat := List.replicate n 4294967295
theorem fulls_limbs (n : Nat) : Limbs (fulls n) := fun y hy => by rw [(List.mem_replicate.1 hy).2]; decide
def partly (n k : Nat) : List Nat := List.replicate k 4294967295 ++ List.replicate (n - k) 0
theorem partly_length {n k : Nat} (h : k ≤ n) : (partly n k).length = n := by simp [partly]; omega
theorem partly_set {n k : Nat} (h : k < n) : (partly n k).set k 4294967295 = partly n (k + 1) := by
  unfold partly
  rw [List.set_append_right _ _ (by simp), List.length_replicate, Nat.sub_self, show n - k = (n - (k + 1)) + 1 from by omega, List.replicate_succ, List.set_cons_zero, List.replicate_succ' (n := k), List.append_assoc]
  simp
theorem partly_at {n k : Nat} (h : k < n) : (partly n k)[k]?.getD 0 = 0 := by
  unfold partly
  rw [List.getElem?_append_right (by simp), List.length_replicate, Nat.sub_self, List.getElem?_replicate, if_pos (by omega)]; rfl

set_option maxHeartbeats 1000000 in
theorem ones_any (n : Nat) (w : World) (hn : n ≤ 1048576) : Calls Try.prog 25 #[.int .i64 (n : Int)] w (NewL w (fulls n)) := by
  obtain ⟨i0, hti, hz0, hz1, hz2⟩ := info_parts info32
  go_enter Try.func25, Try.ntmps25
  go_wp2_with (at_make; refine wpList_make_full _ rfl _ _ 26 rfl w.heap.size 28 i0 (.int .u32 0) 1 Try.underlying26 hti hz0 hz1 .i64 .i64 _ _ n rfl rfl rfl rfl (by rw [hz2]; omega) (by unfold maxLen; omega) (Nat.le_refl _) ?_; intro w1 hown0 hgrow0)
  have hB0 : Below w.heap.size w w1 := (Below.refl _ w).grown hgrow0 (Nat.le_refl _) (fun _ h => by cases h)
  have hO0 := own_made hown0
  clear hown0 hgrow0
  go_loopw [4] (fun i wr => ∃ k : Nat, k ≤ n ∧ i = .int .i64 (k : Int) ∧ Own wr w.heap.size (.slice (some ⟨w.heap.size, 0, none⟩) (partly n k).length n) (partly n k) ∧ Below w.heap.size w wr) (fun i _ => n - (intOf i).toNat)
  case atStart => exact ⟨0, Nat.zero_le _, rfl, by simpa [partly] using hO0, hB0⟩
  case round =>
    clear hO0 hB0
    obtain ⟨k, hk, rfl, ho, hb⟩ := hrel
    have hpl := partly_length hk
    by_cases hlt : k < n
    · have hxc := ho.cellAt (j := k) (by omega)
      rw [partly_at hlt] at hxc
      have hxf := World.ownsRow.frozenAt ho k
      have hput := ho.put (j := k) (v := 4294967295)
      rw [partly_set hlt] at hput
      have HP := Lib.hid hput
      have HB := Lib.hid (hb.setCell (p := ⟨w.heap.size, k, none⟩) (Nat.le_refl _) (lv 4294967295))
      clear hput hb ho hpl
      go_wp2
      go_roundw
      case rel => exact ⟨k + 1, by omega, by go_num, HP.out, HB.out⟩
      case measure => simp [intOf]; omega
    · obtain rfl : k = n := by omega
      have he : partly k k = fulls k := by simp [partly, fulls]
      rw [hpl, he] at ho
      have HO := Lib.hid ho
      have HB := Lib.hid hb
      clear ho hb hpl
      go_wp2
      go_ret
      exact ⟨⟨_, rfl, HO.out⟩, HB.out⟩

section
variable {w0 w w' : World} {l : List (Value × List Nat)} {va vb : Value} {xs ys zs : List Nat}
theorem ones_is (h : Env w0 w l) (n : Nat) (hn : n ≤ 1048576) : Calls Try.prog 25 #[.int .i64 (n : Int)] w fun e w' => ∃ r, e = .returned r ∧ Env w0 w' ((r, fulls n) :: l) :=
  (ones_any n w hn).mono fun _ _ hn => h.newL (fulls_limbs n) hn
theorem Env.lit1' (h : Env w0 w l) (n : Nat) (hn : n = w.heap.size) (x : Nat) (X : Int) (hX : X = (x : Int)) (hx : x < 4294967296) : Env w0 (w.alloc (.cells #[.int .u32 X] 28)) ((.slice (some ⟨n, 0, none⟩) 1 1, [x]) :: l) := by subst hn; exact h.lit1 x X hX hx
theorem Rows2.alloc {w : World} {v : Value} {L : List (List Nat)} (h : Rows2 w v L) (o : Obj) : Rows2 (w.alloc o) v L := h.below ((Below.refl _ w).alloc (Nat.le_refl _) o)
theorem rows2 (h : Env w0 w l) (n : Nat) (hn : n = w.heap.size) (h1 : (va, xs) ∈ l) (h2 : (vb, ys) ∈ l) : Rows2 (w.alloc (.cells #[va, vb] 26)) (.slice (some ⟨n, 0, none⟩) 2 2) [xs, ys] ∧ Env w0 (w.alloc (.cells #[va, vb] 26)) l := by
  subst hn
  exact rows_of h [(va, xs), (vb, ys)] (fun p hp => by
    rcases List.mem_cons.1 hp with rfl | hp
    · exact h1
    · rcases List.mem_cons.1 hp with rfl | hp
      · exact h2
      · cases hp) (by unfold maxLen; simp)
theorem rows3 {vc : Value} {zs : List Nat} (h : Env w0 w l) (n : Nat) (hn : n = w.heap.size) (h1 : (va, xs) ∈ l) (h2 : (vb, ys) ∈ l) (h3 : (vc, zs) ∈ l) : Rows2 (w.alloc (.cells #[va, vb, vc] 26)) (.slice (some ⟨n, 0, none⟩) 3 3) [xs, ys, zs] ∧ Env w0 (w.alloc (.cells #[va, vb, vc] 26)) l := by
  subst hn
  exact rows_of h [(va, xs), (vb, ys), (vc, zs)] (fun p hp => by
    rcases List.mem_cons.1 hp with rfl | hp
    · exact h1
    · rcases List.mem_cons.1 hp with rfl | hp
      · exact h2
      · rcases List.mem_cons.1 hp with rfl | hp
        · exact h3
        · cases hp) (by unfold maxLen; simp)
end

theorem sMul_eq {xs ys zs : List Nat} (hx : mayb xs = true) (hy : mayb ys = true) (hz : mayb zs = true) (hl : Limbs zs) (h : val xs * val ys = val zs) : sMul xs ys = zs := by
  rw [sMul_yes (by simp [hx, hy]), h, clip_val hl hz]
theorem sSmall_eq {xs zs : List Nat} {m a : Nat} (hx : mayb xs = true) (hz : mayb zs = true) (hl : Limbs zs) (h : val xs * m + a = val zs) : sSmall xs m a = zs := by
  rw [sSmall_yes hx, h, clip_val hl hz]
theorem sPow_eq {xs zs : List Nat} {n : Nat} (hx : mayb xs = true) (hz : mayb zs = true) (hl : Limbs zs) (h : val xs ^ n = val zs) : sPow xs (n : Int) = zs := by
  rw [sPow_yes hx, h, clip_val hl hz]

set_option maxRecDepth 100000 in
set_option maxHeartbeats 4000000 in
theorem works_any (w : World) : Calls Try.prog 24 #[] w fun e w' => e = .returned (.bool true) ∧ Below w.heap.size w w' := by
  have env := env_start w
  have la : Limbs [1, 4294967294] := (Limbs.one (by decide)).cons (by decide)
  have H1 := Lib.hid (sMul_eq (xs := fulls 1) (ys := fulls 1) (zs := [1, 4294967294]) (by decide) (by decide) (by decide) la (by decide))
  have H2 := Lib.hid (lim_eq (u := 4294967296) (zs := [0, 1]) (by decide) ((Limbs.one (by decide)).cons (by decide)) (by decide))
  have H3 := Lib.hid (sSmall_eq (xs := [0, 1]) (zs := [7, 10]) (m := 10) (a := 7) (by decide) (by decide) ((Limbs.one (by decide)).cons (by decide)) (by decide))
  have H4 := Lib.hid (lim_eq (u := 10) (zs := [10]) (by decide) (Limbs.one (by decide)) (by decide))
  have H5 := Lib.hid (sPow_eq (xs := [10]) (zs := [1661992960, 1808227885, 5]) (n := 20) (by decide) (by decide) (((Limbs.one (by decide)).cons (by decide)).cons (by decide)) (by decide))
  have H6 := Lib.hid (sPow_eq (xs := []) (zs := [1]) (n := 0) (by decide) (by decide) (Limbs.one (by decide)) (by decide))
  have H7 : Hid (sSum [[2], [3]] [[5], [7], [9]] = [31]) := by
    show _ = _
    rw [sSum_yes (by decide), show dot [[2], [3]] [[5], [7], [9]] (min [[2], [3]].length [[5], [7], [9]].length) = val [31] from by decide, clip_val (Limbs.one (by decide)) (by decide)]
  clear la
  go_enter Try.func24, Try.ntmps24
  go_wp2_with fail
  refine (ones_is env 1 (by decide)).mono ?_
  rintro e w1 ⟨r1, rfl, env1⟩
  clear env
  go_wp2_with fail
  refine (ones_is env1 1 (by decide)).mono ?_
  rintro e w2 ⟨r2, rfl, env2⟩
  clear env1
  go_wp2_with fail
  refine (mul_is env2 (va := r1) (vb := r2) (by simp) (by simp) H1.out).mono ?_
  rintro e w3 ⟨r3, rfl, env3⟩
  clear env2
  go_wp2_with fail
  refine (same2_yes (env3.lit2 1 4294967294 1 4294967294 rfl rfl (by decide) (by decide)) (va := r3) (xs := [1, 4294967294]) (by simp) (by simp) rfl).mono ?_
  rintro e w4 ⟨rfl, env4⟩
  clear env3
  go_wp2_with fail
  refine (of_env env4 4294967296 (by decide)).mono ?_
  rw [H2.out]
  rintro e w5 ⟨r5, rfl, env5⟩
  clear env4
  go_wp2_with fail
  refine (small_is env5 (va := r5) (xs := [0, 1]) (by simp) 10 7 (by decide) (by decide) H3.out).mono ?_
  rintro e w6 ⟨r6, rfl, env6⟩
  clear env5
  go_wp2_with fail
  refine (same2_yes (env6.lit2 7 10 7 10 rfl rfl (by decide) (by decide)) (va := r6) (xs := [7, 10]) (by simp) (by simp) rfl).mono ?_
  rintro e w7 ⟨rfl, env7⟩
  clear env6
  go_wp2_with fail
  refine (of_env env7 10 (by decide)).mono ?_
  rw [H4.out]
  rintro e w8 ⟨r8, rfl, env8⟩
  clear env7
  go_wp2_with fail
  refine (pow_is env8 (va := r8) (xs := [10]) (by simp) ((20 : Nat) : Int) (by decide) (by decide) H5.out).mono ?_
  rintro e w9 ⟨r9, rfl, env9⟩
  clear env8
  go_wp2_with fail
  refine (same2_yes (env9.lit3 1661992960 1808227885 5 1661992960 1808227885 5 rfl rfl rfl (by decide) (by decide) (by decide)) (va := r9) (xs := [1661992960, 1808227885, 5]) (by simp) (by simp) rfl).mono ?_
  rintro e w10 ⟨rfl, env10⟩
  clear env9
  go_wp2_with fail
  refine (pow_is env10.nil (va := .slice none 0 0) (xs := []) (by simp) ((0 : Nat) : Int) (by decide) (by decide) H6.out).mono ?_
  rintro e w11 ⟨r11, rfl, env11⟩
  clear env10
  go_wp2_with fail
  refine (same2_yes (env11.lit1 1 1 rfl (by decide)) (va := r11) (xs := [1]) (by simp) (by simp) rfl).mono ?_
  rintro e w12 ⟨rfl, env12⟩
  clear env11
  go_wp2_with fail
  have eA := env12.lit1' w12.heap.size rfl 2 2 rfl (by decide)
  have eB := eA.lit1' (w12.heap.size + 1) (by simp) 3 3 rfl (by decide)
  obtain ⟨rA, eC⟩ := rows2 eB (va := .slice (some ⟨w12.heap.size, 0, none⟩) 1 1) (xs := [2]) (vb := .slice (some ⟨w12.heap.size + 1, 0, none⟩) 1 1) (ys := [3]) (w12.heap.size + 1 + 1) (by simp) (by simp) (by simp)
  have eD := eC.lit1' (w12.heap.size + 1 + 1 + 1) (by simp) 5 5 rfl (by decide)
  have eE := eD.lit1' (w12.heap.size + 1 + 1 + 1 + 1) (by simp) 7 7 rfl (by decide)
  have eF := eE.lit1' (w12.heap.size + 1 + 1 + 1 + 1 + 1) (by simp) 9 9 rfl (by decide)
  obtain ⟨rB, eG⟩ := rows3 eF (va := .slice (some ⟨w12.heap.size + 1 + 1 + 1, 0, none⟩) 1 1) (xs := [5]) (vb := .slice (some ⟨w12.heap.size + 1 + 1 + 1 + 1, 0, none⟩) 1 1) (ys := [7]) (vc := .slice (some ⟨w12.heap.size + 1 + 1 + 1 + 1 + 1, 0, none⟩) 1 1) (zs := [9]) (w12.heap.size + 1 + 1 + 1 + 1 + 1 + 1) (by simp) (by simp) (by simp) (by simp)
  refine (sum_is eG ((((rA.alloc _).alloc _).alloc _).alloc _) rB H7.out).mono ?_
  rintro e w13 ⟨r13, rfl, env13⟩
  clear eA eB eC eD eE eF eG rA rB env12
  go_wp2_with fail
  refine (same2_yes (env13.lit1 31 31 rfl (by decide)) (va := r13) (xs := [31]) (by simp) (by simp) rfl).mono ?_
  rintro e w14 ⟨rfl, env14⟩
  have HB := Lib.hid env14.1
  clear env13 env14
  go_wp2
  go_ret
  exact ⟨rfl, HB.out⟩
theorem works_env {w0 w : World} {l : List (Value × List Nat)} (h : Env w0 w l) : Calls Try.prog 24 #[] w fun e w' => e = .returned (.bool true) ∧ Env w0 w' l :=
  (works_any w).mono fun _ _ ⟨he, hb⟩ => ⟨he, h.step hb⟩

end Go.Proofs.Ytlfhpoffphljfaa

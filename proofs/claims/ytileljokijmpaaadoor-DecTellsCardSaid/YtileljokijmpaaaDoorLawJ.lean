/- DecTells. -/
import Derived.Test.YtileljokijmpaaaDoorLawI
namespace Go.Proofs.YtileljokijmpaaaDoor
open Go.RowKit Go.Shelf

set_option linter.unusedVariables false
set_option linter.unusedSimpArgs false

set_option maxRecDepth 100000 in
set_option maxHeartbeats 8000000 in
theorem tells_long1 {A : Option Addr} {nx cap : Nat} {xs : List Nat} (w : World) (h : Arg w (.slice A nx cap) xs) (S : ByteArray) (m : Nat) (hm : S.size = m) (k : Int) (h1 : 300 < nx) : Calls Tryd.prog 4 #[.slice A nx cap, .string S, .int .i64 k] w fun e w' => e = .returned (.bool true) ∧ Below w.heap.size w w' := by
  have env0 := env_start1 h
  clear h
  go_enter Tryd.func4, Tryd.ntmps4
  go_wp2_with fail
  refine (works4_env env0).mono ?_
  rintro e w1 ⟨rfl, env1⟩
  have HB := Lib.hid env1.1
  clear env0 env1
  go_wp2
  go_ret
  exact ⟨rfl, HB.out⟩

set_option maxRecDepth 100000 in
set_option maxHeartbeats 8000000 in
theorem tells_long2 {A : Option Addr} {nx cap : Nat} {xs : List Nat} (w : World) (h : Arg w (.slice A nx cap) xs) (S : ByteArray) (m : Nat) (hm : S.size = m) (k : Int) (h1 : nx ≤ 300) (h2 : 3000 < m) : Calls Tryd.prog 4 #[.slice A nx cap, .string S, .int .i64 k] w fun e w' => e = .returned (.bool true) ∧ Below w.heap.size w w' := by
  have env0 := env_start1 h
  clear h
  go_enter Tryd.func4, Tryd.ntmps4
  go_wp2_with fail
  refine (works4_env env0).mono ?_
  rintro e w1 ⟨rfl, env1⟩
  have HB := Lib.hid env1.1
  clear env0 env1
  go_wp2
  go_ret
  exact ⟨rfl, HB.out⟩

set_option maxRecDepth 100000 in
set_option maxHeartbeats 8000000 in
theorem tells_long3 {A : Option Addr} {nx cap : Nat} {xs : List Nat} (w : World) (h : Arg w (.slice A nx cap) xs) (S : ByteArray) (m : Nat) (hm : S.size = m) (k : Int) (h1 : nx ≤ 300) (h2 : m ≤ 3000) (h3 : 3000 < k) (h4 : k < 1099511627776) : Calls Tryd.prog 4 #[.slice A nx cap, .string S, .int .i64 k] w fun e w' => e = .returned (.bool true) ∧ Below w.heap.size w w' := by
  have env0 := env_start1 h
  clear h
  go_enter Tryd.func4, Tryd.ntmps4
  go_wp2_with fail
  refine (works4_env env0).mono ?_
  rintro e w1 ⟨rfl, env1⟩
  have HB := Lib.hid env1.1
  clear env0 env1
  go_wp2
  go_ret
  exact ⟨rfl, HB.out⟩

set_option maxRecDepth 100000 in
set_option maxHeartbeats 8000000 in
theorem tells_nil_may_few {Z : List Nat} (w : World) (h : Arg w (.slice none 0 0) []) (L : List Nat) (hc : Codes L) (hl : L.length ≤ 3000) (P : List Nat) (E : Nat) (hP : pN L = P) (hE : pE L = E) (k : Int) (hk : k ≤ 3000) (hk0 : -9223372036854775808 ≤ k) (hz : sPow [10] k = Z) (M : List Nat) (hM : sShow [] = M) (hMc : Codes M) (m : Nat) (hm : M.length = m) (hm0 : 0 < m) (hml : m < 1000000) (hd : sDigits [] = m) (p1 : pN M = []) (p2 : pE M = 0) : Calls Tryd.prog 4 #[(.slice none 0 0), .string (str L), .int .i64 k] w fun e w' => e = .returned (.bool true) ∧ Below w.heap.size w w' := by
  have HA := Lib.hid h
  have HLL := Lib.hid h.limbs
  have hsz := str_size L
  have HP := Lib.hid hP
  have HE := Lib.hid hE
  have HZ := Lib.hid hz
  have HCL := Lib.hid hc
  have HM := Lib.hid hM
  have HD := Lib.hid hd
  have P1 := Lib.hid p1
  have P2 := Lib.hid p2
  obtain ⟨ln, hln⟩ : ∃ n, L.length = n := ⟨_, rfl⟩
  rw [hln] at hsz hl
  have HLN := Lib.hid hln
  obtain ⟨EI, hEI⟩ : ∃ i : Int, ((E : Nat) : Int) = i := ⟨_, rfl⟩
  have HEI := Lib.hid hEI
  have hsm := str_size M
  rw [hm] at hsm
  have HMC := Lib.hid hMc
  have HMl := Lib.hid hm
  have hmm := str_beq hMc hMc
  rw [decide_eq_true rfl] at hmm
  have hne : (str M).toList.isEmpty = false := by
    rw [str_toList]
    cases M with
    | nil => rw [List.length_nil] at hm; omega
    | cons a r => rfl
  clear hm hMc
  clear h hP hE hz hM hd p1 p2 hln hEI hc
  go_enter Tryd.func4, Tryd.ntmps4
  have hown0 : (w.alloc (.cells #[] 40)).ownsRow w.heap.size 40 1 (.slice (some ⟨w.heap.size, 0, none⟩) 0 0) 0 [] := World.ownsRow_lit w #[] 0 (Nat.le_refl _) (by decide) rfl
  obtain ⟨i0, hti, hz0, hz1, hz2⟩ := info_parts info32
  go_wp2_with (at_builtin; refine wpList_append_own_none rfl _ _ 24 rfl w.heap.size 40 i0 1 Tryd.underlying24 hti _ _ _ rfl hown0 rfl ?_; clear hown0)
  have env1 := (env_start1 HA.out).add (arg_empty w).2 (arg_empty w).1
  generalize w.alloc (.cells #[] 40) = w1 at *
  obtain ⟨y, hy⟩ : ∃ y, y = Value.slice (some ⟨w.heap.size, 0, none⟩) 0 0 := ⟨_, rfl⟩
  rw [← hy] at env1 ⊢
  clear hy
  go_wp2_with fail
  refine (rshow_env env1 (va := (.slice none 0 0)) (xs := []) (by simp) HM.out).mono ?_
  rintro e w2 ⟨rfl, env2⟩
  clear env1
  have c3 := show_env env2 (va := y) (xs := []) (by simp)
  rw [HM.out] at c3
  go_wp2_with fail
  refine c3.mono ?_
  rintro e w3 ⟨rfl, env3⟩
  clear c3 env2
  have c4 := digits_env env3 (va := y) (xs := []) (by simp)
  rw [HD.out] at c4
  go_wp2_with fail
  refine c4.mono ?_
  rintro e w4 ⟨rfl, env4⟩
  clear c4 env3
  go_wp2_with fail
  go_loopw [9] (fun i wr => ∃ n : Nat, n ≤ 2 ∧ i = .int .i64 (n : Int) ∧ Env w wr [(y, []), ((.slice none 0 0), [])]) (fun i _ => 2 - (intOf i).toNat)
  case atStart => exact ⟨0, by decide, rfl, env4⟩
  case round =>
    clear env4
    obtain ⟨n, hn, rfl, E9⟩ := hrel
    by_cases hlt : n < 2
    · have E0 := Lib.hid E9
      have b0 := lab_start E9
      clear E9
      have c1 := parse_lab b0 HCL.out (by rw [HLN.out]; omega) HP.out HE.out
      rw [HEI.out] at c1
      go_wp2_with fail
      refine c1.mono ?_
      rintro e u1 ⟨a, rfl, b1⟩
      clear b0 c1
      have c2 := rparse_lab b1 HCL.out (by rw [HLN.out]; omega) HP.out HE.out
      rw [HEI.out] at c2
      go_wp2_with fail
      refine c2.mono ?_
      rintro e u2 ⟨b, rfl, b2⟩
      clear b1 c2
      have c3 := parse_lab b2 (L := M) HMC.out (by rw [HMl.out]; omega) P1.out P2.out
      go_wp2_with fail
      refine c3.mono ?_
      rintro e u3 ⟨c, rfl, b3⟩
      clear b2 c3
      go_wp2_with fail
      refine (same4_oo b3 (va := a) (vb := b) (xs := P) (by simp) (by simp)).mono ?_
      rintro e u4 ⟨rfl, b4⟩
      clear b3
      go_wp2_with fail
      refine (same4_ol b4 (va := c) (vb := (.slice none 0 0)) (xs := []) (by simp) (by simp)).mono ?_
      rintro e u5 ⟨rfl, b5⟩
      clear b4
      go_wp2_with fail
      refine (ten_lab b5 k (by omega) (by omega) HZ.out).mono ?_
      rintro e u6 ⟨d, rfl, b6⟩
      clear b5
      go_wp2_with fail
      refine (rten_lab b6 k (by omega) HZ.out).mono ?_
      rintro e u7 ⟨d2, rfl, b7⟩
      clear b6
      go_wp2_with fail
      refine (same4_oo b7 (va := d) (vb := d2) (xs := Z) (by simp) (by simp)).mono ?_
      rintro e u8 ⟨rfl, b8⟩
      clear b7
      have q1 := b8.row4 (va := d) (xs := Z) (by simp)
      have q2 := b8.row4 (va := a) (xs := P) (by simp)
      have q3 := b8.row4 (va := c) (xs := []) (by simp)
      have HB := Lib.hid b8.1.1
      clear b8
      go_wp2_with fail
      refine (spoil4_is q1).mono ?_
      rintro e s1 ⟨rfl, S1⟩
      go_wp2_with fail
      refine (spoil4_is (q2.kept S1)).mono ?_
      rintro e s2 ⟨rfl, S2⟩
      go_wp2_with fail
      refine (spoil4_is ((q3.kept S1).kept S2)).mono ?_
      rintro e s3 ⟨rfl, S3⟩
      have HE9 := Lib.hid (E0.out.step (HB.out.trans ((S1.trans S2).trans S3).1))
      clear q1 q2 q3 S1 S2 S3
      go_wp2_with fail
      go_roundw
      case rel => exact ⟨n + 1, by omega, by go_num, HE9.out⟩
      case measure => simp [intOf]; omega
    · go_wp2_with fail
      refine (same4_yes E9 (va := y) (vb := (.slice none 0 0)) (xs := []) (ys := []) (by simp) (by simp) rfl).mono ?_
      rintro e t1 ⟨rfl, E1⟩
      clear E9
      go_wp2_with fail
      refine (works4_env E1).mono ?_
      rintro e t3 ⟨rfl, E3⟩
      have HB := Lib.hid E3.1
      clear E1 E3
      go_wp2
      go_ret
      exact ⟨rfl, HB.out⟩

set_option maxRecDepth 100000 in
set_option maxHeartbeats 8000000 in
theorem tells_nil_may_many (w : World) (h : Arg w (.slice none 0 0) []) (L : List Nat) (hc : Codes L) (hl : L.length ≤ 3000) (P : List Nat) (E : Nat) (hP : pN L = P) (hE : pE L = E) (k : Int) (hk : 1099511627776 ≤ k) (hk2 : k < 9223372036854775808) (hz : sPow [10] k = []) (M : List Nat) (hM : sShow [] = M) (hMc : Codes M) (m : Nat) (hm : M.length = m) (hm0 : 0 < m) (hml : m < 1000000) (hd : sDigits [] = m) (p1 : pN M = []) (p2 : pE M = 0) : Calls Tryd.prog 4 #[(.slice none 0 0), .string (str L), .int .i64 k] w fun e w' => e = .returned (.bool true) ∧ Below w.heap.size w w' := by
  have HA := Lib.hid h
  have HLL := Lib.hid h.limbs
  have hsz := str_size L
  have HP := Lib.hid hP
  have HE := Lib.hid hE
  have HZ := Lib.hid hz
  have HCL := Lib.hid hc
  have HM := Lib.hid hM
  have HD := Lib.hid hd
  have P1 := Lib.hid p1
  have P2 := Lib.hid p2
  obtain ⟨ln, hln⟩ : ∃ n, L.length = n := ⟨_, rfl⟩
  rw [hln] at hsz hl
  have HLN := Lib.hid hln
  obtain ⟨EI, hEI⟩ : ∃ i : Int, ((E : Nat) : Int) = i := ⟨_, rfl⟩
  have HEI := Lib.hid hEI
  have hsm := str_size M
  rw [hm] at hsm
  have HMC := Lib.hid hMc
  have HMl := Lib.hid hm
  have hmm := str_beq hMc hMc
  rw [decide_eq_true rfl] at hmm
  have hne : (str M).toList.isEmpty = false := by
    rw [str_toList]
    cases M with
    | nil => rw [List.length_nil] at hm; omega
    | cons a r => rfl
  clear hm hMc
  clear h hP hE hz hM hd p1 p2 hln hEI hc
  go_enter Tryd.func4, Tryd.ntmps4
  have hown0 : (w.alloc (.cells #[] 40)).ownsRow w.heap.size 40 1 (.slice (some ⟨w.heap.size, 0, none⟩) 0 0) 0 [] := World.ownsRow_lit w #[] 0 (Nat.le_refl _) (by decide) rfl
  obtain ⟨i0, hti, hz0, hz1, hz2⟩ := info_parts info32
  go_wp2_with (at_builtin; refine wpList_append_own_none rfl _ _ 24 rfl w.heap.size 40 i0 1 Tryd.underlying24 hti _ _ _ rfl hown0 rfl ?_; clear hown0)
  have env1 := (env_start1 HA.out).add (arg_empty w).2 (arg_empty w).1
  generalize w.alloc (.cells #[] 40) = w1 at *
  obtain ⟨y, hy⟩ : ∃ y, y = Value.slice (some ⟨w.heap.size, 0, none⟩) 0 0 := ⟨_, rfl⟩
  rw [← hy] at env1 ⊢
  clear hy
  go_wp2_with fail
  refine (rshow_env env1 (va := (.slice none 0 0)) (xs := []) (by simp) HM.out).mono ?_
  rintro e w2 ⟨rfl, env2⟩
  clear env1
  have c3 := show_env env2 (va := y) (xs := []) (by simp)
  rw [HM.out] at c3
  go_wp2_with fail
  refine c3.mono ?_
  rintro e w3 ⟨rfl, env3⟩
  clear c3 env2
  have c4 := digits_env env3 (va := y) (xs := []) (by simp)
  rw [HD.out] at c4
  go_wp2_with fail
  refine c4.mono ?_
  rintro e w4 ⟨rfl, env4⟩
  clear c4 env3
  go_wp2_with fail
  go_loopw [9] (fun i wr => ∃ n : Nat, n ≤ 2 ∧ i = .int .i64 (n : Int) ∧ Env w wr [(y, []), ((.slice none 0 0), [])]) (fun i _ => 2 - (intOf i).toNat)
  case atStart => exact ⟨0, by decide, rfl, env4⟩
  case round =>
    clear env4
    obtain ⟨n, hn, rfl, E9⟩ := hrel
    by_cases hlt : n < 2
    · have E0 := Lib.hid E9
      have b0 := lab_start E9
      clear E9
      have c1 := parse_lab b0 HCL.out (by rw [HLN.out]; omega) HP.out HE.out
      rw [HEI.out] at c1
      go_wp2_with fail
      refine c1.mono ?_
      rintro e u1 ⟨a, rfl, b1⟩
      clear b0 c1
      have c2 := rparse_lab b1 HCL.out (by rw [HLN.out]; omega) HP.out HE.out
      rw [HEI.out] at c2
      go_wp2_with fail
      refine c2.mono ?_
      rintro e u2 ⟨b, rfl, b2⟩
      clear b1 c2
      have c3 := parse_lab b2 (L := M) HMC.out (by rw [HMl.out]; omega) P1.out P2.out
      go_wp2_with fail
      refine c3.mono ?_
      rintro e u3 ⟨c, rfl, b3⟩
      clear b2 c3
      go_wp2_with fail
      refine (same4_oo b3 (va := a) (vb := b) (xs := P) (by simp) (by simp)).mono ?_
      rintro e u4 ⟨rfl, b4⟩
      clear b3
      go_wp2_with fail
      refine (same4_ol b4 (va := c) (vb := (.slice none 0 0)) (xs := []) (by simp) (by simp)).mono ?_
      rintro e u5 ⟨rfl, b5⟩
      clear b4
      have q2 := b5.row4 (va := a) (xs := P) (by simp)
      have q3 := b5.row4 (va := c) (xs := []) (by simp)
      have HB := Lib.hid b5.1.1
      clear b5
      go_wp2_with fail
      refine (spoil4_is q2).mono ?_
      rintro e s1 ⟨rfl, S1⟩
      go_wp2_with fail
      refine (spoil4_is (q3.kept S1)).mono ?_
      rintro e s2 ⟨rfl, S2⟩
      have HE9 := Lib.hid (E0.out.step (HB.out.trans (S1.trans S2).1))
      clear q2 q3 S1 S2
      go_wp2_with fail
      go_roundw
      case rel => exact ⟨n + 1, by omega, by go_num, HE9.out⟩
      case measure => simp [intOf]; omega
    · go_wp2_with fail
      refine (ten_env E9 k (by omega) (by omega) HZ.out).mono ?_
      rintro e t0 ⟨r0, rfl, E10⟩
      clear E9
      obtain ⟨A0, cap0, rfl, _⟩ := E10.get (v := r0) (xs := []) (by simp)
      go_wp2_with fail
      refine (same4_yes E10 (va := y) (vb := (.slice none 0 0)) (xs := []) (ys := []) (by simp) (by simp) rfl).mono ?_
      rintro e t1 ⟨rfl, E1⟩
      clear E10
      go_wp2_with fail
      refine (works4_env E1).mono ?_
      rintro e t3 ⟨rfl, E3⟩
      have HB := Lib.hid E3.1
      clear E1 E3
      go_wp2
      go_ret
      exact ⟨rfl, HB.out⟩

set_option maxRecDepth 100000 in
set_option maxHeartbeats 8000000 in
theorem tells_some_may_few {ad : Addr} {nx cap : Nat} {xs : List Nat} {Z : List Nat} (w : World) (h : Arg w (.slice (some ad) nx cap) xs) (hcc : nx ≤ cap) (hcm : cap ≤ maxLen) (h1 : nx ≤ 300) (hnx : nx = xs.length) (L : List Nat) (hc : Codes L) (hl : L.length ≤ 3000) (P : List Nat) (E : Nat) (hP : pN L = P) (hE : pE L = E) (k : Int) (hk : k ≤ 3000) (hk0 : -9223372036854775808 ≤ k) (hz : sPow [10] k = Z) (M : List Nat) (hM : sShow xs = M) (hMc : Codes M) (m : Nat) (hm : M.length = m) (hm0 : 0 < m) (hml : m < 1000000) (hd : sDigits xs = m) (p1 : pN M = xs) (p2 : pE M = 0) : Calls Tryd.prog 4 #[(.slice (some ad) nx cap), .string (str L), .int .i64 k] w fun e w' => e = .returned (.bool true) ∧ Below w.heap.size w w' := by
  have HA := Lib.hid h
  have HNX := Lib.hid hnx
  clear hnx
  have HLL := Lib.hid h.limbs
  have hsz := str_size L
  have HP := Lib.hid hP
  have HE := Lib.hid hE
  have HZ := Lib.hid hz
  have HCL := Lib.hid hc
  have HM := Lib.hid hM
  have HD := Lib.hid hd
  have P1 := Lib.hid p1
  have P2 := Lib.hid p2
  obtain ⟨ln, hln⟩ : ∃ n, L.length = n := ⟨_, rfl⟩
  rw [hln] at hsz hl
  have HLN := Lib.hid hln
  obtain ⟨EI, hEI⟩ : ∃ i : Int, ((E : Nat) : Int) = i := ⟨_, rfl⟩
  have HEI := Lib.hid hEI
  have hsm := str_size M
  rw [hm] at hsm
  have HMC := Lib.hid hMc
  have HMl := Lib.hid hm
  have hmm := str_beq hMc hMc
  rw [decide_eq_true rfl] at hmm
  have hne : (str M).toList.isEmpty = false := by
    rw [str_toList]
    cases M with
    | nil => rw [List.length_nil] at hm; omega
    | cons a r => rfl
  clear hm hMc
  clear h hP hE hz hM hd p1 p2 hln hEI hc
  go_enter Tryd.func4, Tryd.ntmps4
  have hown0 : (w.alloc (.cells #[] 40)).ownsRow w.heap.size 40 1 (.slice (some ⟨w.heap.size, 0, none⟩) 0 0) 0 [] := World.ownsRow_lit w #[] 0 (Nat.le_refl _) (by decide) rfl
  obtain ⟨i0, hti, hz0, hz1, hz2⟩ := info_parts info32
  have HC := Lib.hid (cells_arg HA.out)
  go_wp2_with (at_builtin; refine wpList_append_own _ rfl _ _ 24 rfl w.heap.size 40 i0 (.int .u32 0) 1 4 Tryd.underlying24 hti hz0 hz1 hz2 rfl (by decide) _ _ _ rfl hown0 ad nx cap (u32s xs) rfl (by simp [u32s, HNX.out]) HC.out (u32s_one xs) (by unfold maxLen at *; omega) (by omega) (by simp) ?_; intro y w1 hown' hgrow hgone; clear hgone)
  have hog := own_grown (w := w) (w2 := w1) (v' := y) (xs := xs) (by rw [← HNX.out]; simpa using hown') hgrow HLL.out
  have env1 := (env_start1 HA.out).add hog.2 hog.1
  clear hown' hgrow hog HC hown0
  go_wp2_with fail
  refine (rshow_env env1 (va := (.slice (some ad) nx cap)) (xs := xs) (by simp) HM.out).mono ?_
  rintro e w2 ⟨rfl, env2⟩
  clear env1
  have c3 := show_env env2 (va := y) (xs := xs) (by simp)
  rw [HM.out] at c3
  go_wp2_with fail
  refine c3.mono ?_
  rintro e w3 ⟨rfl, env3⟩
  clear c3 env2
  have c4 := digits_env env3 (va := y) (xs := xs) (by simp)
  rw [HD.out] at c4
  go_wp2_with fail
  refine c4.mono ?_
  rintro e w4 ⟨rfl, env4⟩
  clear c4 env3
  go_wp2_with fail
  go_loopw [9] (fun i wr => ∃ n : Nat, n ≤ 2 ∧ i = .int .i64 (n : Int) ∧ Env w wr [(y, xs), ((.slice (some ad) nx cap), xs)]) (fun i _ => 2 - (intOf i).toNat)
  case atStart => exact ⟨0, by decide, rfl, env4⟩
  case round =>
    clear env4
    obtain ⟨n, hn, rfl, E9⟩ := hrel
    by_cases hlt : n < 2
    · have E0 := Lib.hid E9
      have b0 := lab_start E9
      clear E9
      have c1 := parse_lab b0 HCL.out (by rw [HLN.out]; omega) HP.out HE.out
      rw [HEI.out] at c1
      go_wp2_with fail
      refine c1.mono ?_
      rintro e u1 ⟨a, rfl, b1⟩
      clear b0 c1
      have c2 := rparse_lab b1 HCL.out (by rw [HLN.out]; omega) HP.out HE.out
      rw [HEI.out] at c2
      go_wp2_with fail
      refine c2.mono ?_
      rintro e u2 ⟨b, rfl, b2⟩
      clear b1 c2
      have c3 := parse_lab b2 (L := M) HMC.out (by rw [HMl.out]; omega) P1.out P2.out
      go_wp2_with fail
      refine c3.mono ?_
      rintro e u3 ⟨c, rfl, b3⟩
      clear b2 c3
      go_wp2_with fail
      refine (same4_oo b3 (va := a) (vb := b) (xs := P) (by simp) (by simp)).mono ?_
      rintro e u4 ⟨rfl, b4⟩
      clear b3
      go_wp2_with fail
      refine (same4_ol b4 (va := c) (vb := (.slice (some ad) nx cap)) (xs := xs) (by simp) (by simp)).mono ?_
      rintro e u5 ⟨rfl, b5⟩
      clear b4
      go_wp2_with fail
      refine (ten_lab b5 k (by omega) (by omega) HZ.out).mono ?_
      rintro e u6 ⟨d, rfl, b6⟩
      clear b5
      go_wp2_with fail
      refine (rten_lab b6 k (by omega) HZ.out).mono ?_
      rintro e u7 ⟨d2, rfl, b7⟩
      clear b6
      go_wp2_with fail
      refine (same4_oo b7 (va := d) (vb := d2) (xs := Z) (by simp) (by simp)).mono ?_
      rintro e u8 ⟨rfl, b8⟩
      clear b7
      have q1 := b8.row4 (va := d) (xs := Z) (by simp)
      have q2 := b8.row4 (va := a) (xs := P) (by simp)
      have q3 := b8.row4 (va := c) (xs := xs) (by simp)
      have HB := Lib.hid b8.1.1
      clear b8
      go_wp2_with fail
      refine (spoil4_is q1).mono ?_
      rintro e s1 ⟨rfl, S1⟩
      go_wp2_with fail
      refine (spoil4_is (q2.kept S1)).mono ?_
      rintro e s2 ⟨rfl, S2⟩
      go_wp2_with fail
      refine (spoil4_is ((q3.kept S1).kept S2)).mono ?_
      rintro e s3 ⟨rfl, S3⟩
      have HE9 := Lib.hid (E0.out.step (HB.out.trans ((S1.trans S2).trans S3).1))
      clear q1 q2 q3 S1 S2 S3
      go_wp2_with fail
      go_roundw
      case rel => exact ⟨n + 1, by omega, by go_num, HE9.out⟩
      case measure => simp [intOf]; omega
    · go_wp2_with fail
      refine (same4_yes E9 (va := y) (vb := (.slice (some ad) nx cap)) (xs := xs) (ys := xs) (by simp) (by simp) rfl).mono ?_
      rintro e t1 ⟨rfl, E1⟩
      clear E9
      go_wp2_with fail
      refine (works4_env E1).mono ?_
      rintro e t3 ⟨rfl, E3⟩
      have HB := Lib.hid E3.1
      clear E1 E3
      go_wp2
      go_ret
      exact ⟨rfl, HB.out⟩

set_option maxRecDepth 100000 in
set_option maxHeartbeats 8000000 in
theorem tells_some_may_many {ad : Addr} {nx cap : Nat} {xs : List Nat} (w : World) (h : Arg w (.slice (some ad) nx cap) xs) (hcc : nx ≤ cap) (hcm : cap ≤ maxLen) (h1 : nx ≤ 300) (hnx : nx = xs.length) (L : List Nat) (hc : Codes L) (hl : L.length ≤ 3000) (P : List Nat) (E : Nat) (hP : pN L = P) (hE : pE L = E) (k : Int) (hk : 1099511627776 ≤ k) (hk2 : k < 9223372036854775808) (hz : sPow [10] k = []) (M : List Nat) (hM : sShow xs = M) (hMc : Codes M) (m : Nat) (hm : M.length = m) (hm0 : 0 < m) (hml : m < 1000000) (hd : sDigits xs = m) (p1 : pN M = xs) (p2 : pE M = 0) : Calls Tryd.prog 4 #[(.slice (some ad) nx cap), .string (str L), .int .i64 k] w fun e w' => e = .returned (.bool true) ∧ Below w.heap.size w w' := by
  have HA := Lib.hid h
  have HNX := Lib.hid hnx
  clear hnx
  have HLL := Lib.hid h.limbs
  have hsz := str_size L
  have HP := Lib.hid hP
  have HE := Lib.hid hE
  have HZ := Lib.hid hz
  have HCL := Lib.hid hc
  have HM := Lib.hid hM
  have HD := Lib.hid hd
  have P1 := Lib.hid p1
  have P2 := Lib.hid p2
  obtain ⟨ln, hln⟩ : ∃ n, L.length = n := ⟨_, rfl⟩
  rw [hln] at hsz hl
  have HLN := Lib.hid hln
  obtain ⟨EI, hEI⟩ : ∃ i : Int, ((E : Nat) : Int) = i := ⟨_, rfl⟩
  have HEI := Lib.hid hEI
  have hsm := str_size M
  rw [hm] at hsm
  have HMC := Lib.hid hMc
  have HMl := Lib.hid hm
  have hmm := str_beq hMc hMc
  rw [decide_eq_true rfl] at hmm
  have hne : (str M).toList.isEmpty = false := by
    rw [str_toList]
    cases M with
    | nil => rw [List.length_nil] at hm; omega
    | cons a r => rfl
  clear hm hMc
  clear h hP hE hz hM hd p1 p2 hln hEI hc
  go_enter Tryd.func4, Tryd.ntmps4
  have hown0 : (w.alloc (.cells #[] 40)).ownsRow w.heap.size 40 1 (.slice (some ⟨w.heap.size, 0, none⟩) 0 0) 0 [] := World.ownsRow_lit w #[] 0 (Nat.le_refl _) (by decide) rfl
  obtain ⟨i0, hti, hz0, hz1, hz2⟩ := info_parts info32
  have HC := Lib.hid (cells_arg HA.out)
  go_wp2_with (at_builtin; refine wpList_append_own _ rfl _ _ 24 rfl w.heap.size 40 i0 (.int .u32 0) 1 4 Tryd.underlying24 hti hz0 hz1 hz2 rfl (by decide) _ _ _ rfl hown0 ad nx cap (u32s xs) rfl (by simp [u32s, HNX.out]) HC.out (u32s_one xs) (by unfold maxLen at *; omega) (by omega) (by simp) ?_; intro y w1 hown' hgrow hgone; clear hgone)
  have hog := own_grown (w := w) (w2 := w1) (v' := y) (xs := xs) (by rw [← HNX.out]; simpa using hown') hgrow HLL.out
  have env1 := (env_start1 HA.out).add hog.2 hog.1
  clear hown' hgrow hog HC hown0
  go_wp2_with fail
  refine (rshow_env env1 (va := (.slice (some ad) nx cap)) (xs := xs) (by simp) HM.out).mono ?_
  rintro e w2 ⟨rfl, env2⟩
  clear env1
  have c3 := show_env env2 (va := y) (xs := xs) (by simp)
  rw [HM.out] at c3
  go_wp2_with fail
  refine c3.mono ?_
  rintro e w3 ⟨rfl, env3⟩
  clear c3 env2
  have c4 := digits_env env3 (va := y) (xs := xs) (by simp)
  rw [HD.out] at c4
  go_wp2_with fail
  refine c4.mono ?_
  rintro e w4 ⟨rfl, env4⟩
  clear c4 env3
  go_wp2_with fail
  go_loopw [9] (fun i wr => ∃ n : Nat, n ≤ 2 ∧ i = .int .i64 (n : Int) ∧ Env w wr [(y, xs), ((.slice (some ad) nx cap), xs)]) (fun i _ => 2 - (intOf i).toNat)
  case atStart => exact ⟨0, by decide, rfl, env4⟩
  case round =>
    clear env4
    obtain ⟨n, hn, rfl, E9⟩ := hrel
    by_cases hlt : n < 2
    · have E0 := Lib.hid E9
      have b0 := lab_start E9
      clear E9
      have c1 := parse_lab b0 HCL.out (by rw [HLN.out]; omega) HP.out HE.out
      rw [HEI.out] at c1
      go_wp2_with fail
      refine c1.mono ?_
      rintro e u1 ⟨a, rfl, b1⟩
      clear b0 c1
      have c2 := rparse_lab b1 HCL.out (by rw [HLN.out]; omega) HP.out HE.out
      rw [HEI.out] at c2
      go_wp2_with fail
      refine c2.mono ?_
      rintro e u2 ⟨b, rfl, b2⟩
      clear b1 c2
      have c3 := parse_lab b2 (L := M) HMC.out (by rw [HMl.out]; omega) P1.out P2.out
      go_wp2_with fail
      refine c3.mono ?_
      rintro e u3 ⟨c, rfl, b3⟩
      clear b2 c3
      go_wp2_with fail
      refine (same4_oo b3 (va := a) (vb := b) (xs := P) (by simp) (by simp)).mono ?_
      rintro e u4 ⟨rfl, b4⟩
      clear b3
      go_wp2_with fail
      refine (same4_ol b4 (va := c) (vb := (.slice (some ad) nx cap)) (xs := xs) (by simp) (by simp)).mono ?_
      rintro e u5 ⟨rfl, b5⟩
      clear b4
      have q2 := b5.row4 (va := a) (xs := P) (by simp)
      have q3 := b5.row4 (va := c) (xs := xs) (by simp)
      have HB := Lib.hid b5.1.1
      clear b5
      go_wp2_with fail
      refine (spoil4_is q2).mono ?_
      rintro e s1 ⟨rfl, S1⟩
      go_wp2_with fail
      refine (spoil4_is (q3.kept S1)).mono ?_
      rintro e s2 ⟨rfl, S2⟩
      have HE9 := Lib.hid (E0.out.step (HB.out.trans (S1.trans S2).1))
      clear q2 q3 S1 S2
      go_wp2_with fail
      go_roundw
      case rel => exact ⟨n + 1, by omega, by go_num, HE9.out⟩
      case measure => simp [intOf]; omega
    · go_wp2_with fail
      refine (ten_env E9 k (by omega) (by omega) HZ.out).mono ?_
      rintro e t0 ⟨r0, rfl, E10⟩
      clear E9
      obtain ⟨A0, cap0, rfl, _⟩ := E10.get (v := r0) (xs := []) (by simp)
      go_wp2_with fail
      refine (same4_yes E10 (va := y) (vb := (.slice (some ad) nx cap)) (xs := xs) (ys := xs) (by simp) (by simp) rfl).mono ?_
      rintro e t1 ⟨rfl, E1⟩
      clear E10
      go_wp2_with fail
      refine (works4_env E1).mono ?_
      rintro e t3 ⟨rfl, E3⟩
      have HB := Lib.hid E3.1
      clear E1 E3
      go_wp2
      go_ret
      exact ⟨rfl, HB.out⟩

set_option maxRecDepth 100000 in
set_option maxHeartbeats 8000000 in
theorem tells_some_bad_few {ad : Addr} {nx cap : Nat} {xs : List Nat} {Z : List Nat} (w : World) (h : Arg w (.slice (some ad) nx cap) xs) (hcc : nx ≤ cap) (hcm : cap ≤ maxLen) (h1 : nx ≤ 300) (hnx : nx = xs.length) (L : List Nat) (hc : Codes L) (hl : L.length ≤ 3000) (P : List Nat) (E : Nat) (hP : pN L = P) (hE : pE L = E) (k : Int) (hk : k ≤ 3000) (hk0 : -9223372036854775808 ≤ k) (hz : sPow [10] k = Z) (hM : sShow xs = []) (hd : sDigits xs = 0) (p1 : pN [] = []) (p2 : pE [] = 4) : Calls Tryd.prog 4 #[(.slice (some ad) nx cap), .string (str L), .int .i64 k] w fun e w' => e = .returned (.bool true) ∧ Below w.heap.size w w' := by
  have HA := Lib.hid h
  have HNX := Lib.hid hnx
  clear hnx
  have HLL := Lib.hid h.limbs
  have hsz := str_size L
  have HP := Lib.hid hP
  have HE := Lib.hid hE
  have HZ := Lib.hid hz
  have HCL := Lib.hid hc
  have HM := Lib.hid hM
  have HD := Lib.hid hd
  have P1 := Lib.hid p1
  have P2 := Lib.hid p2
  obtain ⟨ln, hln⟩ : ∃ n, L.length = n := ⟨_, rfl⟩
  rw [hln] at hsz hl
  have HLN := Lib.hid hln
  obtain ⟨EI, hEI⟩ : ∃ i : Int, ((E : Nat) : Int) = i := ⟨_, rfl⟩
  have HEI := Lib.hid hEI
  have hsm := str_size []
  have hmm : ((str []).toList == (str []).toList) = true := by rw [str_toList]; rfl
  have hne : (str []).toList.isEmpty = true := by rw [str_toList]; rfl
  clear h hP hE hz hM hd p1 p2 hln hEI hc
  go_enter Tryd.func4, Tryd.ntmps4
  have hown0 : (w.alloc (.cells #[] 40)).ownsRow w.heap.size 40 1 (.slice (some ⟨w.heap.size, 0, none⟩) 0 0) 0 [] := World.ownsRow_lit w #[] 0 (Nat.le_refl _) (by decide) rfl
  obtain ⟨i0, hti, hz0, hz1, hz2⟩ := info_parts info32
  have HC := Lib.hid (cells_arg HA.out)
  go_wp2_with (at_builtin; refine wpList_append_own _ rfl _ _ 24 rfl w.heap.size 40 i0 (.int .u32 0) 1 4 Tryd.underlying24 hti hz0 hz1 hz2 rfl (by decide) _ _ _ rfl hown0 ad nx cap (u32s xs) rfl (by simp [u32s, HNX.out]) HC.out (u32s_one xs) (by unfold maxLen at *; omega) (by omega) (by simp) ?_; intro y w1 hown' hgrow hgone; clear hgone)
  have hog := own_grown (w := w) (w2 := w1) (v' := y) (xs := xs) (by rw [← HNX.out]; simpa using hown') hgrow HLL.out
  have env1 := (env_start1 HA.out).add hog.2 hog.1
  clear hown' hgrow hog HC hown0
  go_wp2_with fail
  refine (rshow_env env1 (va := (.slice (some ad) nx cap)) (xs := xs) (by simp) HM.out).mono ?_
  rintro e w2 ⟨rfl, env2⟩
  clear env1
  have c3 := show_env env2 (va := y) (xs := xs) (by simp)
  rw [HM.out] at c3
  go_wp2_with fail
  refine c3.mono ?_
  rintro e w3 ⟨rfl, env3⟩
  clear c3 env2
  have c4 := digits_env env3 (va := y) (xs := xs) (by simp)
  rw [HD.out] at c4
  go_wp2_with fail
  refine c4.mono ?_
  rintro e w4 ⟨rfl, env4⟩
  clear c4 env3
  go_wp2_with fail
  go_loopw [9] (fun i wr => ∃ n : Nat, n ≤ 2 ∧ i = .int .i64 (n : Int) ∧ Env w wr [(y, xs), ((.slice (some ad) nx cap), xs)]) (fun i _ => 2 - (intOf i).toNat)
  case atStart => exact ⟨0, by decide, rfl, env4⟩
  case round =>
    clear env4
    obtain ⟨n, hn, rfl, E9⟩ := hrel
    by_cases hlt : n < 2
    · have E0 := Lib.hid E9
      have b0 := lab_start E9
      clear E9
      have c1 := parse_lab b0 HCL.out (by rw [HLN.out]; omega) HP.out HE.out
      rw [HEI.out] at c1
      go_wp2_with fail
      refine c1.mono ?_
      rintro e u1 ⟨a, rfl, b1⟩
      clear b0 c1
      have c2 := rparse_lab b1 HCL.out (by rw [HLN.out]; omega) HP.out HE.out
      rw [HEI.out] at c2
      go_wp2_with fail
      refine c2.mono ?_
      rintro e u2 ⟨b, rfl, b2⟩
      clear b1 c2
      have c3 := parse_lab b2 (L := []) (fun c h => by cases h) (by decide) P1.out P2.out
      go_wp2_with fail
      refine c3.mono ?_
      rintro e u3 ⟨c, rfl, b3⟩
      clear b2 c3
      go_wp2_with fail
      refine (same4_oo b3 (va := a) (vb := b) (xs := P) (by simp) (by simp)).mono ?_
      rintro e u4 ⟨rfl, b4⟩
      clear b3
      go_wp2_with fail
      refine (ten_lab b4 k (by omega) (by omega) HZ.out).mono ?_
      rintro e u6 ⟨d, rfl, b6⟩
      clear b4
      go_wp2_with fail
      refine (rten_lab b6 k (by omega) HZ.out).mono ?_
      rintro e u7 ⟨d2, rfl, b7⟩
      clear b6
      go_wp2_with fail
      refine (same4_oo b7 (va := d) (vb := d2) (xs := Z) (by simp) (by simp)).mono ?_
      rintro e u8 ⟨rfl, b8⟩
      clear b7
      have q1 := b8.row4 (va := d) (xs := Z) (by simp)
      have q2 := b8.row4 (va := a) (xs := P) (by simp)
      have q3 := b8.row4 (va := c) (xs := []) (by simp)
      have HB := Lib.hid b8.1.1
      clear b8
      go_wp2_with fail
      refine (spoil4_is q1).mono ?_
      rintro e s1 ⟨rfl, S1⟩
      go_wp2_with fail
      refine (spoil4_is (q2.kept S1)).mono ?_
      rintro e s2 ⟨rfl, S2⟩
      go_wp2_with fail
      refine (spoil4_is ((q3.kept S1).kept S2)).mono ?_
      rintro e s3 ⟨rfl, S3⟩
      have HE9 := Lib.hid (E0.out.step (HB.out.trans ((S1.trans S2).trans S3).1))
      clear q1 q2 q3 S1 S2 S3
      go_wp2_with fail
      go_roundw
      case rel => exact ⟨n + 1, by omega, by go_num, HE9.out⟩
      case measure => simp [intOf]; omega
    · go_wp2_with fail
      refine (same4_yes E9 (va := y) (vb := (.slice (some ad) nx cap)) (xs := xs) (ys := xs) (by simp) (by simp) rfl).mono ?_
      rintro e t1 ⟨rfl, E1⟩
      clear E9
      go_wp2_with fail
      refine (works4_env E1).mono ?_
      rintro e t3 ⟨rfl, E3⟩
      have HB := Lib.hid E3.1
      clear E1 E3
      go_wp2
      go_ret
      exact ⟨rfl, HB.out⟩

set_option maxRecDepth 100000 in
set_option maxHeartbeats 8000000 in
theorem tells_some_bad_many {ad : Addr} {nx cap : Nat} {xs : List Nat} (w : World) (h : Arg w (.slice (some ad) nx cap) xs) (hcc : nx ≤ cap) (hcm : cap ≤ maxLen) (h1 : nx ≤ 300) (hnx : nx = xs.length) (L : List Nat) (hc : Codes L) (hl : L.length ≤ 3000) (P : List Nat) (E : Nat) (hP : pN L = P) (hE : pE L = E) (k : Int) (hk : 1099511627776 ≤ k) (hk2 : k < 9223372036854775808) (hz : sPow [10] k = []) (hM : sShow xs = []) (hd : sDigits xs = 0) (p1 : pN [] = []) (p2 : pE [] = 4) : Calls Tryd.prog 4 #[(.slice (some ad) nx cap), .string (str L), .int .i64 k] w fun e w' => e = .returned (.bool true) ∧ Below w.heap.size w w' := by
  have HA := Lib.hid h
  have HNX := Lib.hid hnx
  clear hnx
  have HLL := Lib.hid h.limbs
  have hsz := str_size L
  have HP := Lib.hid hP
  have HE := Lib.hid hE
  have HZ := Lib.hid hz
  have HCL := Lib.hid hc
  have HM := Lib.hid hM
  have HD := Lib.hid hd
  have P1 := Lib.hid p1
  have P2 := Lib.hid p2
  obtain ⟨ln, hln⟩ : ∃ n, L.length = n := ⟨_, rfl⟩
  rw [hln] at hsz hl
  have HLN := Lib.hid hln
  obtain ⟨EI, hEI⟩ : ∃ i : Int, ((E : Nat) : Int) = i := ⟨_, rfl⟩
  have HEI := Lib.hid hEI
  have hsm := str_size []
  have hmm : ((str []).toList == (str []).toList) = true := by rw [str_toList]; rfl
  have hne : (str []).toList.isEmpty = true := by rw [str_toList]; rfl
  clear h hP hE hz hM hd p1 p2 hln hEI hc
  go_enter Tryd.func4, Tryd.ntmps4
  have hown0 : (w.alloc (.cells #[] 40)).ownsRow w.heap.size 40 1 (.slice (some ⟨w.heap.size, 0, none⟩) 0 0) 0 [] := World.ownsRow_lit w #[] 0 (Nat.le_refl _) (by decide) rfl
  obtain ⟨i0, hti, hz0, hz1, hz2⟩ := info_parts info32
  have HC := Lib.hid (cells_arg HA.out)
  go_wp2_with (at_builtin; refine wpList_append_own _ rfl _ _ 24 rfl w.heap.size 40 i0 (.int .u32 0) 1 4 Tryd.underlying24 hti hz0 hz1 hz2 rfl (by decide) _ _ _ rfl hown0 ad nx cap (u32s xs) rfl (by simp [u32s, HNX.out]) HC.out (u32s_one xs) (by unfold maxLen at *; omega) (by omega) (by simp) ?_; intro y w1 hown' hgrow hgone; clear hgone)
  have hog := own_grown (w := w) (w2 := w1) (v' := y) (xs := xs) (by rw [← HNX.out]; simpa using hown') hgrow HLL.out
  have env1 := (env_start1 HA.out).add hog.2 hog.1
  clear hown' hgrow hog HC hown0
  go_wp2_with fail
  refine (rshow_env env1 (va := (.slice (some ad) nx cap)) (xs := xs) (by simp) HM.out).mono ?_
  rintro e w2 ⟨rfl, env2⟩
  clear env1
  have c3 := show_env env2 (va := y) (xs := xs) (by simp)
  rw [HM.out] at c3
  go_wp2_with fail
  refine c3.mono ?_
  rintro e w3 ⟨rfl, env3⟩
  clear c3 env2
  have c4 := digits_env env3 (va := y) (xs := xs) (by simp)
  rw [HD.out] at c4
  go_wp2_with fail
  refine c4.mono ?_
  rintro e w4 ⟨rfl, env4⟩
  clear c4 env3
  go_wp2_with fail
  go_loopw [9] (fun i wr => ∃ n : Nat, n ≤ 2 ∧ i = .int .i64 (n : Int) ∧ Env w wr [(y, xs), ((.slice (some ad) nx cap), xs)]) (fun i _ => 2 - (intOf i).toNat)
  case atStart => exact ⟨0, by decide, rfl, env4⟩
  case round =>
    clear env4
    obtain ⟨n, hn, rfl, E9⟩ := hrel
    by_cases hlt : n < 2
    · have E0 := Lib.hid E9
      have b0 := lab_start E9
      clear E9
      have c1 := parse_lab b0 HCL.out (by rw [HLN.out]; omega) HP.out HE.out
      rw [HEI.out] at c1
      go_wp2_with fail
      refine c1.mono ?_
      rintro e u1 ⟨a, rfl, b1⟩
      clear b0 c1
      have c2 := rparse_lab b1 HCL.out (by rw [HLN.out]; omega) HP.out HE.out
      rw [HEI.out] at c2
      go_wp2_with fail
      refine c2.mono ?_
      rintro e u2 ⟨b, rfl, b2⟩
      clear b1 c2
      have c3 := parse_lab b2 (L := []) (fun c h => by cases h) (by decide) P1.out P2.out
      go_wp2_with fail
      refine c3.mono ?_
      rintro e u3 ⟨c, rfl, b3⟩
      clear b2 c3
      go_wp2_with fail
      refine (same4_oo b3 (va := a) (vb := b) (xs := P) (by simp) (by simp)).mono ?_
      rintro e u4 ⟨rfl, b4⟩
      clear b3
      have q2 := b4.row4 (va := a) (xs := P) (by simp)
      have q3 := b4.row4 (va := c) (xs := []) (by simp)
      have HB := Lib.hid b4.1.1
      clear b4
      go_wp2_with fail
      refine (spoil4_is q2).mono ?_
      rintro e s1 ⟨rfl, S1⟩
      go_wp2_with fail
      refine (spoil4_is (q3.kept S1)).mono ?_
      rintro e s2 ⟨rfl, S2⟩
      have HE9 := Lib.hid (E0.out.step (HB.out.trans (S1.trans S2).1))
      clear q2 q3 S1 S2
      go_wp2_with fail
      go_roundw
      case rel => exact ⟨n + 1, by omega, by go_num, HE9.out⟩
      case measure => simp [intOf]; omega
    · go_wp2_with fail
      refine (ten_env E9 k (by omega) (by omega) HZ.out).mono ?_
      rintro e t0 ⟨r0, rfl, E10⟩
      clear E9
      obtain ⟨A0, cap0, rfl, _⟩ := E10.get (v := r0) (xs := []) (by simp)
      go_wp2_with fail
      refine (same4_yes E10 (va := y) (vb := (.slice (some ad) nx cap)) (xs := xs) (ys := xs) (by simp) (by simp) rfl).mono ?_
      rintro e t1 ⟨rfl, E1⟩
      clear E10
      go_wp2_with fail
      refine (works4_env E1).mono ?_
      rintro e t3 ⟨rfl, E3⟩
      have HB := Lib.hid E3.1
      clear E1 E3
      go_wp2
      go_ret
      exact ⟨rfl, HB.out⟩

theorem sPow10_many {k : Int} (h : 1099511627776 ≤ k) : sPow [10] k = [] := by
  obtain ⟨q, rfl⟩ : ∃ q : Nat, k = (q : Int) := ⟨k.toNat, by omega⟩
  rw [sPow_ten, clip_not (ten_over (k := q) (by omega) (Nat.le_refl _))]
theorem decTells_law {A : Option Addr} {nx cap : Nat} {xs : List Nat} (w : World) (h : Arg w (.slice A nx cap) xs) (hz : NoRoom (.slice A nx cap)) (S : ByteArray) (hS : S.size ≤ maxLen) (k : Int) (hk : (Lit.int .i64 k).wf = true) : Calls Tryd.prog 4 #[.slice A nx cap, .string S, .int .i64 k] w (fun e w' => e = .returned (.bool true) ∧ Below w.heap.size w w') := by
  have bk := bnd_i64s hk
  obtain ⟨L, hc, hl, rfl⟩ := bytes_str S
  have hsz := str_size L
  rcases Nat.lt_or_ge 300 nx with h1 | h1
  · exact tells_long1 w h _ _ hsz k h1
  rcases Nat.lt_or_ge 3000 L.length with h2 | h2
  · exact tells_long2 w h _ _ hsz k h1 h2
  obtain ⟨_, _, e3, hcc, hcm, hrd⟩ := id h
  injection e3 with e3 e4 e5
  subst e3 e4 e5
  have hlx := h.limbs
  have bad : mayb xs = false → sDigits xs = 0 := fun hm => sDigits_no hm
  have good : mayb xs = true → ∃ M m, sShow xs = M ∧ Codes M ∧ M.length = m ∧ 0 < m ∧ m < 1000000 ∧ sDigits xs = m ∧ pN M = xs ∧ pE M = 0 := fun hm =>
    ⟨txt (val xs), nd (val xs), sShow_yes hm, (txt_alld _).codes, txt_length _, nd_pos _, by have := nd_le (may_lt hlx hm (Nat.le_refl 631306)) (by decide); omega, sDigits_yes hm, pN_txt hlx hm, pE_txt hlx hm⟩
  rcases (by omega : 3000 < k ∨ k ≤ 3000) with h3 | h3
  · rcases (by omega : k < 1099511627776 ∨ 1099511627776 ≤ k) with h4 | h4
    · exact tells_long3 w h _ _ hsz k h1 h2 h3 h4
    · rcases A with _ | ad
      · obtain rfl := hz _ _ rfl
        obtain rfl : xs = [] := List.eq_nil_of_length_eq_zero (by omega)
        obtain ⟨M, m, g1, g2, g3, g4, g5, g6, g7, g8⟩ := good mayb_nil
        exact tells_nil_may_many w h L hc h2 _ _ rfl rfl k h4 bk.2 (sPow10_many h4) M g1 g2 m g3 g4 g5 g6 g7 g8
      · rcases hm : mayb xs with _ | _
        · exact tells_some_bad_many w h hcc hcm h1 rfl L hc h2 _ _ rfl rfl k h4 bk.2 (sPow10_many h4) (sShow_no hm) (bad hm) rfl rfl
        · obtain ⟨M, m, g1, g2, g3, g4, g5, g6, g7, g8⟩ := good hm
          exact tells_some_may_many w h hcc hcm h1 rfl L hc h2 _ _ rfl rfl k h4 bk.2 (sPow10_many h4) M g1 g2 m g3 g4 g5 g6 g7 g8
  · rcases A with _ | ad
    · obtain rfl := hz _ _ rfl
      obtain rfl : xs = [] := List.eq_nil_of_length_eq_zero (by omega)
      obtain ⟨M, m, g1, g2, g3, g4, g5, g6, g7, g8⟩ := good mayb_nil
      exact tells_nil_may_few w h L hc h2 _ _ rfl rfl k h3 bk.1 rfl M g1 g2 m g3 g4 g5 g6 g7 g8
    · rcases hm : mayb xs with _ | _
      · exact tells_some_bad_few w h hcc hcm h1 rfl L hc h2 _ _ rfl rfl k h3 bk.1 rfl (sShow_no hm) (bad hm) rfl rfl
      · obtain ⟨M, m, g1, g2, g3, g4, g5, g6, g7, g8⟩ := good hm
        exact tells_some_may_few w h hcc hcm h1 rfl L hc h2 _ _ rfl rfl k h3 bk.1 rfl M g1 g2 m g3 g4 g5 g6 g7 g8

end Go.Proofs.YtileljokijmpaaaDoor

/- DecDigits. -/
import Derived.Test.YtekdidfpilbinaaDoorLawF
namespace Go.Proofs.YtekdidfpilbinaaDoor
open Go.RowKit Go.Shelf

set_option linter.unusedVariables false
set_option linter.unusedSimpArgs false

set_option maxRecDepth 100000 in
set_option maxHeartbeats 16000000 in
theorem digits_go {A : Option Addr} {cap nx : Nat} {xs : List Nat} (w : World) (h : Arg w (.slice A nx cap) xs) (h1 : nx ≤ 300) (hm : mayb xs = true) (S : ByteArray) (n m : Nat) (hn : val xs = n) (hS : str (sShow xs) = S) (hsz : S.size = m) (hm0 : 0 < m) (hm1 : m ≤ 1000000)
    (hidx : ∀ i p d : Nat, i < m → p = m - 1 - i → d = n / 10 ^ i % 10 → ∀ h : p < S.size, (S[p]'h).toNat = 48 + d) (hnd : nd n = m) :
    Calls Tryd.prog 8 #[.slice A nx cap] w fun e w' => e = .returned (.bool true) ∧ Below w.heap.size w w' := by
  have env0 : Env w w [(.slice A nx cap, xs)] := (env_start w).add (Below.refl _ _) h
  have HM := Lib.hid hm
  have HS := Lib.hid hS
  have HN := Lib.hid hn
  have HD := Lib.hid hnd
  have HI := Lib.hid hidx
  clear h hm hS hn hnd hidx
  go_enter Tryd.func8, Tryd.ntmps8
  go_wp2_with fail
  refine (works4_env env0).mono ?_
  rintro e w1 ⟨rfl, env1⟩
  clear env0
  have cm := may_env env1 (va := .slice A nx cap) (xs := xs) (by simp)
  rw [HM.out] at cm
  go_wp2_with fail
  refine cm.mono ?_
  rintro e w' ⟨rfl, rfl⟩
  clear cm
  have c1 := show_env env1 (va := .slice A nx cap) (xs := xs) (by simp)
  rw [HS.out] at c1
  go_wp2_with fail
  refine c1.mono ?_
  rintro e w2 ⟨rfl, env2⟩
  clear c1 env1
  go_wp2_with fail
  go_loopw [4, 5, 6] (fun s t i wr => ∃ (j : Nat) (a b : Int), j ≤ m ∧ i = .int .i64 (j : Int) ∧ s = .int .i64 a ∧ t = .int .i64 b ∧ Sums n j a b ∧ wr = w2) (fun _ _ i _ => m - (intOf i).toNat)
  case atStart => exact ⟨0, 0, 0, Nat.zero_le _, rfl, rfl, rfl, Sums.start n, rfl⟩
  case round =>
    obtain ⟨j, a, b, hj, rfl, rfl, rfl, hs, rfl⟩ := hrel
    by_cases hlt : j < m
    · obtain ⟨p, hp⟩ : ∃ p, p = m - 1 - j := ⟨_, rfl⟩
      obtain ⟨d, hd⟩ : ∃ d, d = n / 10 ^ j % 10 := ⟨_, rfl⟩
      obtain ⟨m1, hm1'⟩ : ∃ m1 : Nat, m1 = m - 1 := ⟨_, rfl⟩
      have hb := HI.out j p d hlt hp hd
      have hd9 : d < 10 := by omega
      have hst := Lib.hid (hs.step (d : Int) (by rw [hd]))
      have q1 : (m : Int) - 1 = (m1 : Int) := by omega
      have q2 : (m1 : Int) - (j : Int) = (p : Int) := by omega
      obtain ⟨b1, b2, b3, b4, _, _⟩ := hs
      have hpm : p < m := by omega
      clear hd hp hm1'
      by_cases hev : j % 2 = 0
      · rw [if_pos hev] at hst
        go_wp2
        go_roundw
        case rel => exact ⟨j + 1, a + d, b + d, by omega, by go_num, by go_num, by go_num, hst.out, trivial⟩
        case measure => simp [intOf]; omega
      · rw [if_neg hev] at hst
        go_wp2
        go_roundw
        case rel => exact ⟨j + 1, a + d, b - d, by omega, by go_num, by go_num, by go_num, hst.out, trivial⟩
        case measure => simp [intOf]; omega
    · obtain rfl : j = m := by omega
      have hs' := hs
      rw [← HD.out] at hs'
      obtain ⟨d9, d11⟩ := hs'.done
      obtain ⟨b1, b2, b3, b4, _, _⟩ := hs
      clear hs'
      obtain ⟨m1, hm1'⟩ : ∃ m1 : Nat, m1 = j - 1 := ⟨_, rfl⟩
      have q1 : (j : Int) - 1 = (m1 : Int) := by omega
      have hb := HI.out 0 m1 (n % 10) hm0 (by omega) (by simp)
      have hmay : ∀ k : Nat, k ≠ 0 → sSmE xs k = 0 := fun k hk => by unfold sSmE; rw [HM.out, if_pos rfl, if_neg hk]
      have r10 : sSmR xs 10 = n % 10 := by unfold sSmR; rw [if_pos (hmay 10 (by decide)), HN.out]
      have r9 : sSmR xs 9 = n % 9 := by unfold sSmR; rw [if_pos (hmay 9 (by decide)), HN.out]
      have r11 : sSmR xs 11 = n % 11 := by unfold sSmR; rw [if_pos (hmay 11 (by decide)), HN.out]
      obtain ⟨u, hu⟩ : ∃ u, u = n % 10 := ⟨_, rfl⟩
      obtain ⟨v, hv⟩ : ∃ v, v = n % 9 := ⟨_, rfl⟩
      obtain ⟨z, hz⟩ : ∃ z, z = n % 11 := ⟨_, rfl⟩
      have t9 : a.tmod 9 = (v : Int) := by
        rw [Int.tmod_eq_emod_of_nonneg b1]; omega
      have t11 : (b.tmod 11 + 11).tmod 11 = (z : Int) := by
        have h0 := Int.tmod_eq_emod (a := b) (b := 11)
        have h3 : -11 < b.tmod 11 := by rw [h0]; split <;> omega
        rw [Int.tmod_eq_emod_of_nonneg (by omega)]
        rw [h0]
        split <;> omega
      rw [← hu] at r10 hb
      rw [← hv] at r9
      rw [← hz] at r11
      have hu10 : u < 10 := by omega
      have hv9 : v < 9 := by omega
      have hz11 : z < 11 := by omega
      have bl : -11 < b.tmod 11 := by
        have h0 := Int.tmod_eq_emod (a := b) (b := 11)
        rw [h0]; split <;> omega
      have bu : b.tmod 11 < 11 := Int.tmod_lt_of_pos _ (by decide)
      have s10 := fun w' ha => dsmall_any (.slice A nx cap) xs 10 w' ha (by decide)
      have s9 := fun w' ha => dsmall_any (.slice A nx cap) xs 9 w' ha (by decide)
      have s11 := fun w' ha => dsmall_any (.slice A nx cap) xs 11 w' ha (by decide)
      rw [hmay 10 (by decide), r10] at s10
      rw [hmay 9 (by decide), r9] at s9
      rw [hmay 11 (by decide), r11] at s11
      clear hu hv hz d9 d11 hmay r10 r9 r11 hm1' b1 b2 b3 b4
      obtain ⟨c, hc⟩ : ∃ c : Int, b.tmod 11 = c := ⟨_, rfl⟩
      rw [hc] at t11 bl bu
      have v0 : (0 : Int) ≤ (v : Int) := by omega
      have v1 : (v : Int) < 9 := by omega
      have z0 : (0 : Int) ≤ (z : Int) := by omega
      have z1 : (z : Int) < 11 := by omega
      have u0 : (0 : Int) ≤ (u : Int) := by omega
      have u1 : (u : Int) < 10 := by omega
      obtain ⟨c8, hc8⟩ : ∃ c8, c8 = 48 + u := ⟨_, rfl⟩
      rw [← hc8] at hb
      have q8 : (c8 : Int) - 48 = (u : Int) := by omega
      have l8 : c8 < 58 := by omega
      have g8 : 48 ≤ c8 := by omega
      clear hc8
      obtain ⟨ui, hui⟩ : ∃ i : Int, (u : Int) = i := ⟨_, rfl⟩
      rw [hui] at u0 u1 q8
      have HU := Lib.hid hui
      clear hui
      obtain ⟨vi, hvi⟩ : ∃ i : Int, (v : Int) = i := ⟨_, rfl⟩
      rw [hvi] at v0 v1 t9
      have HV := Lib.hid hvi
      clear hvi
      obtain ⟨zi, hzi⟩ : ∃ i : Int, (z : Int) = i := ⟨_, rfl⟩
      rw [hzi] at z0 z1 t11
      have HZ := Lib.hid hzi
      clear hzi
      clear hv9 hz11 hu10
      have p10 := s10 wr (env2.get (by simp))
      go_wp2_with fail
      refine p10.mono ?_
      rintro e w3 ⟨⟨x3, rfl, ho3⟩, hb3⟩
      rw [HU.out]
      have env3 := env2.step hb3
      clear p10 ho3 hb3 env2
      have p9 := s9 w3 (env3.get (by simp))
      go_wp2_with fail
      refine p9.mono ?_
      rintro e w4 ⟨⟨x4, rfl, ho4⟩, hb4⟩
      rw [HV.out]
      have env4 := env3.step hb4
      clear p9 ho4 hb4 env3
      have p11 := s11 w4 (env4.get (by simp))
      go_wp2_with fail
      refine p11.mono ?_
      rintro e w5 ⟨⟨x5, rfl, ho5⟩, hb5⟩
      rw [HZ.out]
      have HB := Lib.hid (env4.step hb5).1
      clear p11 ho5 hb5 env4 s10 s9 s11
      go_wp2
      go_ret
      exact ⟨rfl, HB.out⟩

set_option maxRecDepth 100000 in
set_option maxHeartbeats 8000000 in
theorem digits_a {A : Option Addr} {cap nx : Nat} {xs : List Nat} (w : World) (h : Arg w (.slice A nx cap) xs) (hx : nx < 9223372036854775808) (h1 : 300 < nx) : Calls Tryd.prog 8 #[.slice A nx cap] w fun e w' => e = .returned (.bool true) ∧ Below w.heap.size w w' := by
  have env0 : Env w w [(.slice A nx cap, xs)] := (env_start w).add (Below.refl _ _) h
  clear h
  go_enter Tryd.func8, Tryd.ntmps8
  go_wp2_with fail
  refine (works4_env env0).mono ?_
  rintro e w1 ⟨rfl, env1⟩
  clear env0
  go_wp2_with fail
  refine (works4_env env1).mono ?_
  rintro e w2 ⟨rfl, env2⟩
  have HB := Lib.hid env2.1
  clear env1 env2
  go_wp2
  go_ret
  exact ⟨rfl, HB.out⟩

set_option maxRecDepth 100000 in
set_option maxHeartbeats 8000000 in
theorem digits_b {A : Option Addr} {cap nx : Nat} {xs : List Nat} (w : World) (h : Arg w (.slice A nx cap) xs) (hx : nx < 9223372036854775808) (h1 : nx ≤ 300) (hm : mayb xs = false) : Calls Tryd.prog 8 #[.slice A nx cap] w fun e w' => e = .returned (.bool true) ∧ Below w.heap.size w w' := by
  have env0 : Env w w [(.slice A nx cap, xs)] := (env_start w).add (Below.refl _ _) h
  clear h
  go_enter Tryd.func8, Tryd.ntmps8
  go_wp2_with fail
  refine (works4_env env0).mono ?_
  rintro e w1 ⟨rfl, env1⟩
  clear env0
  have cm := may_env env1 (va := .slice A nx cap) (xs := xs) (by simp)
  rw [hm] at cm
  go_wp2_with fail
  refine cm.mono ?_
  rintro e w' ⟨rfl, rfl⟩
  clear cm
  go_wp2_with fail
  refine (works4_env env1).mono ?_
  rintro e w2 ⟨rfl, env2⟩
  have HB := Lib.hid env2.1
  clear env1 env2
  go_wp2
  go_ret
  exact ⟨rfl, HB.out⟩
theorem decDigits_law (w : World) {a0 : Option Addr} {len0 cap0 : Nat} {xs : List Nat} (h : Arg w (.slice a0 len0 cap0) xs) :
    Calls Tryd.prog 8 #[.slice a0 len0 cap0] w fun e w' => e = .returned (.bool true) ∧ Below w.heap.size w w' := by
  obtain ⟨A, cap, e, hcc, hcm, hr⟩ := id h
  injection e with e1 e2 e3
  subst e1 e2 e3
  unfold maxLen at *
  rcases Nat.lt_or_ge 300 xs.length with h1 | h1
  · exact digits_a w h (by omega) h1
  rcases hm : mayb xs with _ | _
  · exact digits_b w h (by omega) h1 hm
  have b1 := nd_le (may_lt hr.limbs hm (Nat.le_refl 631306)) (by decide)
  refine digits_go w h h1 hm (str (txt (val xs))) (val xs) (nd (val xs)) rfl (by rw [sShow_yes hm]) (by rw [str_size, txt_length]) (nd_pos _) (by omega) (fun i p d hi hp hd hlt => ?_) rfl
  subst hp hd
  have hd := txt_digit hi
  have hl : nd (val xs) - 1 - i < (txt (val xs)).length := by rw [txt_length]; omega
  rw [str_at hl, hd, UInt8.toNat_ofNat', Nat.mod_eq_of_lt (by omega)]

end Go.Proofs.YtekdidfpilbinaaDoor

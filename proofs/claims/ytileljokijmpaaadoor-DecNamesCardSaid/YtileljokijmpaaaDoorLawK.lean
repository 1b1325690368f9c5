/- DecNames. -/
import Derived.Test.YtileljokijmpaaaDoorLawD
import Derived.Test.YtileljokijmpaaaDoorLawE
namespace Go.Proofs.YtileljokijmpaaaDoor
open Go.RowKit Go.Shelf

set_option linter.unusedVariables false
set_option linter.unusedSimpArgs false

theorem txt_of {L : List Nat} {n : Nat} (h : isT L = true) (hd : dv L = n) : txt n = L := by rw [← hd, isT_txt h]
theorem dv_nines (k : Nat) : dv (List.replicate k 57) = 10 ^ k - 1 := by
  induction k with
  | zero => rfl
  | succ k ih =>
    rw [List.replicate_succ', dv_snoc, ih, Nat.pow_succ]
    have : 0 < 10 ^ k := Nat.pow_pos (by decide)
    omega
theorem txt_nines {k : Nat} (hk : 0 < k) : txt (10 ^ k - 1) = List.replicate k 57 := by
  refine txt_of (isT_iff.2 ⟨fun c hc => by rw [(List.mem_replicate.1 hc).2]; omega, fun e => ?_, fun e => ?_⟩) (dv_nines k)
  · have := congrArg List.length e
    rw [List.length_replicate, List.length_nil] at this
    omega
  · obtain ⟨j, rfl⟩ : ∃ j, k = j + 1 := ⟨k - 1, by omega⟩
    rw [List.replicate_succ, List.head?_cons] at e
    cases e
theorem txt_one : txt 1 = [49] := txt_of (by decide) (by decide)
theorem txt_ten (k : Nat) : txt (10 ^ k) = [49] ++ List.replicate k 48 := by
  have := txt_shift (n := 1) (k := k) (by decide)
  rwa [Nat.one_mul, txt_one] at this
theorem txt_eleven (j : Nat) : txt (10 ^ (j + 1) + 1) = [49] ++ List.replicate j 48 ++ [49] := by
  refine txt_of (isT_iff.2 ⟨?_, by simp, fun e => by simp at e⟩) ?_
  · exact (AllD.append (fun c hc => by rw [List.mem_singleton.1 hc]; omega) (alld_zeros j)).append (fun c hc => by rw [List.mem_singleton.1 hc]; omega)
  · rw [dv_snoc, dv_append, dv_zeros, dv_one, List.length_replicate, Nat.pow_succ]
    omega
theorem long_pow {n q : Nat} (h : 241 * n ≤ q) : 4294967296 ^ (25 * n) ≤ 10 ^ q := by
  rw [Nat.pow_mul]
  have h1 : 4294967296 ^ 25 ≤ 10 ^ 241 := by decide
  refine Nat.le_trans (Nat.pow_le_pow_left h1 n) ?_
  rw [← Nat.pow_mul]
  exact Nat.pow_le_pow_right (by decide) h
theorem sPow_over {k : Int} (h : 631306 ≤ k) : sPow [10] k = [] := by
  obtain ⟨q, rfl⟩ : ∃ q : Nat, k = (q : Int) := ⟨k.toNat, by omega⟩
  rw [sPow_ten, clip_not (ten_over (k := q) (by omega) (Nat.le_refl _))]
theorem sPow_big {k : Int} (h : 626600 ≤ k) (h2 : k ≤ 631000) : ∃ G, sPow [10] k = G ∧ 65000 < G.length := by
  obtain ⟨q, rfl⟩ : ∃ q : Nat, k = (q : Int) := ⟨k.toNat, by omega⟩
  refine ⟨_, rfl, ?_⟩
  rw [sPow_ten, clip_of (ten_fits (k := q + 1) (by omega) (Nat.pow_lt_pow_right (by decide) (by omega)))]
  obtain ⟨m, hm⟩ : ∃ m : Nat, m = 2600 := ⟨_, rfl⟩
  have h3 := long_pow (n := m) (q := q) (by omega)
  rcases Nat.lt_or_ge (25 * m) (lim (10 ^ q)).length with h4 | h4
  · omega
  · have h5 := lim_length_le.1 h4
    omega
theorem sPow_neg {k : Int} (h : k < 0) : sPow [10] k = [] := by
  unfold sPow; rw [if_neg]; simp; omega
/-- the numbers of one round: 10^k, less 1, and 1 more -/
theorem ten_round {k : Nat} (hk : 1 ≤ k) (hk2 : k ≤ 100) : ∃ U V W : List Nat, sPow [10] (k : Int) = U ∧ sSub U [1] = V ∧ sSubOk U [1] = true ∧ sAdd U [1] = W ∧ mayb U = true ∧ mayb V = true ∧ mayb W = true ∧ val U = 10 ^ k ∧ val V = 10 ^ k - 1 ∧ val W = 10 ^ k + 1 ∧
    sHi U k = [1] ∧ sLo U k = [] ∧ sHi V k = [] ∧ sLo V k = V ∧ sHi V 0 = V ∧ sLo V 0 = [] := by
  have hp : 0 < 10 ^ k := Nat.pow_pos (by decide)
  have f : ∀ n, n ≤ 10 ^ k + 1 → (lim n).length ≤ 65536 := fun n hn => ten_fits (k := k + 1) (by omega) (by rw [Nat.pow_succ]; omega)
  have h1 : lim 1 = [1] := lim_eq (zs := [1]) (by decide) (Limbs.one (by decide)) (by decide)
  have m1 : mayb [1] = true := by decide
  have v1 : val [1] = 1 := by decide
  have mU := mayb_lim (f (10 ^ k) (by omega))
  have mV := mayb_lim (f (10 ^ k - 1) (by omega))
  have mW := mayb_lim (f (10 ^ k + 1) (by omega))
  refine ⟨lim (10 ^ k), lim (10 ^ k - 1), lim (10 ^ k + 1), ?_, ?_, ?_, ?_, mU, mV, mW, val_lim _, val_lim _, val_lim _, ?_, ?_, ?_, ?_, ?_, ?_⟩
  · rw [sPow_ten, clip_of (f _ (by omega))]
  · rw [sSub_yes (sSub_ok mU m1 (by rw [val_lim, v1]; omega)), val_lim, v1]
  · exact sSub_ok mU m1 (by rw [val_lim, v1]; omega)
  · rw [sAdd_yes (by rw [mU, m1]; rfl), val_lim, v1, clip_of (f _ (by omega))]
  · rw [sHi_yes mU, val_lim, Nat.div_self hp, h1]
  · rw [sLo_yes mU, val_lim, Nat.mod_self, lim_zero]
  · rw [sHi_yes mV, val_lim, Nat.div_eq_of_lt (by omega), lim_zero]
  · rw [sLo_yes mV, val_lim, Nat.mod_eq_of_lt (by omega)]
  · rw [show (0 : Int) = ((0 : Nat) : Int) from rfl, sHi_yes mV, val_lim, Nat.pow_zero, Nat.div_one]
  · rw [show (0 : Int) = ((0 : Nat) : Int) from rfl, sLo_yes mV, val_lim, Nat.pow_zero, Nat.mod_one, lim_zero]

set_option maxRecDepth 100000 in
set_option maxHeartbeats 2000000 in
theorem copies_c (c : Nat) (s : ByteArray) (hs : s = str [c]) (k : Nat) (hk : k ≤ 1000000) (w : World) : Calls Tryd.prog 11 #[.string s, .int .i64 (k : Int)] w fun e w' => e = .returned (.string (str (List.replicate k c))) ∧ w' = w := by
  subst hs
  have h1 := str_size [c]
  rw [List.length_singleton] at h1
  have happ : ∀ j, j ≤ 1000000 → (Op.stringOp .add (str (List.replicate j c)) (str [c])).run Tryd.prog w = .ok (.string (str (List.replicate (j + 1) c))) w := fun j hj => by rw [add_run _ _ _ (by rw [List.length_replicate, List.length_singleton]; omega), List.replicate_succ']
  have h0 : (⟨#[]⟩ : ByteArray) = str (List.replicate 0 c) := rfl
  generalize str [c] = s at *
  go_enter Tryd.func11, Tryd.ntmps11
  go_wp2
  go_loopw [5, 6] (fun o i wr => ∃ j : Nat, j ≤ k ∧ i = .int .i64 (j : Int) ∧ o = .string (str (List.replicate j c)) ∧ wr = w) (fun _ i _ => k - (intOf i).toNat)
  case atStart => exact ⟨0, Nat.zero_le _, rfl, rfl, rfl⟩
  case round =>
    obtain ⟨j, hj, rfl, rfl, rfl⟩ := hrel
    by_cases hlt : j < k
    · have hsz := str_size (List.replicate j c)
      rw [List.length_replicate] at hsz
      have ha := happ j (by omega)
      clear happ
      generalize str (List.replicate j c) = t at *
      generalize hu : str (List.replicate (j + 1) c) = u at *
      have HU := Lib.hid hu
      clear hu
      go_wp2
      go_roundw
      case rel => exact ⟨j + 1, by omega, by go_num, by rw [HU.out], trivial⟩
      case measure => simp [intOf]; omega
    · obtain rfl : j = k := by omega
      go_wp2
      go_ret
      exact ⟨rfl, rfl⟩
theorem is_yesT {w0 w : World} {l : List (Value × List Nat)} {va : Value} {xs L : List Nat} (h : Env w0 w l) (ha : (va, xs) ∈ l) (hm : mayb xs = true) {s : ByteArray} (hs : s = str L) (hL : txt (val xs) = L) (hlen : L.length < 9223372036854775808) : Calls Tryd.prog 7 #[va, .string s] w fun e w' => e = .returned (.bool true) ∧ Env w0 w' l :=
  is_yes h ha hm (by rw [hs, hL]) (by rw [← txt_length, hL]; exact hlen)
theorem Env.root {w0 w : World} {l : List (Value × List Nat)} (h : Env w0 w l) : Env w w l := ⟨Below.refl _ _, h.2⟩
theorem Env.some1 {w0 w : World} {l : List (Value × List Nat)} {p : Value × List Nat} (h : Env w0 w l) (hp : p ∈ l) : Env w0 w [p] := ⟨h.1, fun q hq => by rw [List.mem_singleton.1 hq]; exact h.2 p hp⟩

def ks : Array Value := #[.int .i64 1, .int .i64 8, .int .i64 9, .int .i64 10, .int .i64 17, .int .i64 18, .int .i64 19, .int .i64 27, .int .i64 28, .int .i64 100]
theorem ks_at : ∀ j, j < 10 → ∃ k : Nat, 1 ≤ k ∧ k ≤ 100 ∧ #[Value.int .i64 1, Value.int .i64 8, Value.int .i64 9, Value.int .i64 10, Value.int .i64 17, Value.int .i64 18, Value.int .i64 19, Value.int .i64 27, Value.int .i64 28, Value.int .i64 100][j]? = some (.int .i64 (k : Int)) := by
  intro j hj
  match j, hj with
  | 0, _ => exact ⟨1, by decide, by decide, rfl⟩
  | 1, _ => exact ⟨8, by decide, by decide, rfl⟩
  | 2, _ => exact ⟨9, by decide, by decide, rfl⟩
  | 3, _ => exact ⟨10, by decide, by decide, rfl⟩
  | 4, _ => exact ⟨17, by decide, by decide, rfl⟩
  | 5, _ => exact ⟨18, by decide, by decide, rfl⟩
  | 6, _ => exact ⟨19, by decide, by decide, rfl⟩
  | 7, _ => exact ⟨27, by decide, by decide, rfl⟩
  | 8, _ => exact ⟨28, by decide, by decide, rfl⟩
  | 9, _ => exact ⟨100, by decide, by decide, rfl⟩
theorem bad_at {Z Y : ByteArray} (hZ : Z = str (List.replicate 9 48)) (hY : Y = str ([48] ++ List.replicate 9 57)) : ∀ j, j < 11 → ∃ L : List Nat, Codes L ∧ L.length < 20 ∧ isT L = false ∧ #[Value.string ⟨#[32, 49]⟩, Value.string ⟨#[49, 32]⟩, Value.string ⟨#[43, 49]⟩, Value.string ⟨#[48, 49]⟩, Value.string ⟨#[48, 120, 49]⟩, Value.string ⟨#[49, 46, 48]⟩, Value.string ⟨#[49, 95, 48]⟩, Value.string ⟨#[128]⟩, Value.string ⟨#[97]⟩, Value.string Z, Value.string Y][j]? = some (.string (str L)) := by
  subst hZ hY
  have cs : ∀ L : List Nat, (∀ c ∈ L, c < 256) → Codes L := fun L h => h
  intro j hj
  match j, hj with
  | 0, _ => exact ⟨[32, 49], cs _ (by decide), by decide, by decide, rfl⟩
  | 1, _ => exact ⟨[49, 32], cs _ (by decide), by decide, by decide, rfl⟩
  | 2, _ => exact ⟨[43, 49], cs _ (by decide), by decide, by decide, rfl⟩
  | 3, _ => exact ⟨[48, 49], cs _ (by decide), by decide, by decide, rfl⟩
  | 4, _ => exact ⟨[48, 120, 49], cs _ (by decide), by decide, by decide, rfl⟩
  | 5, _ => exact ⟨[49, 46, 48], cs _ (by decide), by decide, by decide, rfl⟩
  | 6, _ => exact ⟨[49, 95, 48], cs _ (by decide), by decide, by decide, rfl⟩
  | 7, _ => exact ⟨[128], cs _ (by decide), by decide, by decide, rfl⟩
  | 8, _ => exact ⟨[97], cs _ (by decide), by decide, by decide, rfl⟩
  | 9, _ => exact ⟨List.replicate 9 48, cs _ (by decide), by decide, by decide, rfl⟩
  | 10, _ => exact ⟨[48] ++ List.replicate 9 57, cs _ (by decide), by decide, by decide, rfl⟩

set_option maxRecDepth 100000 in
set_option maxHeartbeats 32000000 in
theorem decNames_law (w : World) : Calls Tryd.prog 3 #[] w fun e w' => e = .returned (.bool true) ∧ Below w.heap.size w w' := by
  have env0 := env_start w
  have one : Limbs [1] := Limbs.one (by decide)
  have L1 := Lib.hid (lim_eq (u := 1) (zs := [1]) (by decide) one (by decide))
  have T0 := Lib.hid (txt_of (L := [48]) (n := val []) (by decide) (by decide))
  have N0 := Lib.hid (lim_eq (u := 1) (zs := [1]) (by decide) (by intro c hc; simp at hc; omega) (by decide))
  have S0 := Lib.hid (txt_of (L := [49]) (n := val [1]) (by decide) (by decide))
  have N1 := Lib.hid (lim_eq (u := 4294967295) (zs := [4294967295]) (by decide) (by intro c hc; simp at hc; omega) (by decide))
  have S1 := Lib.hid (txt_of (L := [52, 50, 57, 52, 57, 54, 55, 50, 57, 53]) (n := val [4294967295]) (by decide) (by decide))
  have N2 := Lib.hid (lim_eq (u := 4294967296) (zs := [0, 1]) (by decide) (by intro c hc; simp at hc; omega) (by decide))
  have S2 := Lib.hid (txt_of (L := [52, 50, 57, 52, 57, 54, 55, 50, 57, 54]) (n := val [0, 1]) (by decide) (by decide))
  have N3 := Lib.hid (lim_eq (u := 18446744073709551615) (zs := [4294967295, 4294967295]) (by decide) (by intro c hc; simp at hc; omega) (by decide))
  have S3 := Lib.hid (txt_of (L := [49, 56, 52, 52, 54, 55, 52, 52, 48, 55, 51, 55, 48, 57, 53, 53, 49, 54, 49, 53]) (n := val [4294967295, 4294967295]) (by decide) (by decide))
  have G1 := Lib.hid (sPow_over (k := 631306) (by decide))
  have G2 := Lib.hid (sPow_over (k := 640000) (by decide))
  have G3 := Lib.hid (sPow_over (k := 9223372036854775807) (by decide))
  have G4 := Lib.hid (sPow_neg (k := -1) (by decide))
  have G5 : Hid (sPow [10] 0 = [1]) := by
    show _ = _
    have := sPow_ten 0
    rw [Nat.pow_zero, clip_one, L1.out] at this
    exact this
  obtain ⟨G, hG, hGl⟩ := sPow_big (k := 631000) (by decide) (by decide)
  obtain ⟨gl, hgl⟩ : ∃ g, g = G.length := ⟨_, rfl⟩
  rw [← hgl] at hGl
  have HG := Lib.hid hG
  have HGL := Lib.hid hgl
  have Q1 := Lib.hid (sHi_no (xs := [1, 0]) (k := 1) (fun h => absurd h.1 (by decide)))
  have Q2 := Lib.hid (sLo_no (xs := [1, 0]) (k := 1) (fun h => absurd h.1 (by decide)))
  have Q3 := Lib.hid (sHi_no (xs := [1]) (k := -1) (fun h => absurd h.2 (by decide)))
  have Q4 := Lib.hid (sLo_no (xs := [1]) (k := -1) (fun h => absurd h.2 (by decide)))
  have Q5 := Lib.hid (sShow_no (xs := [1, 0]) (by decide))
  have Q6 := Lib.hid (sDigits_no (xs := [1, 0]) (by decide))
  clear one hG hgl
  go_enter Tryd.func3, Tryd.ntmps3
  go_wp2_with fail
  refine (works4_env env0).mono ?_
  rintro e w1 ⟨rfl, env1⟩
  clear env0
  go_wp2_with fail
  refine (is_yesT env1.nil (xs := []) List.mem_cons_self mayb_nil (L := [48]) rfl T0.out (by decide)).mono ?_
  rintro e w2 ⟨rfl, env2⟩
  clear env1
  go_wp2_with fail
  refine (of_is env2 1 (by decide) N0.out).mono ?_
  rintro e w3 ⟨r3, rfl, env3⟩
  clear env2
  go_wp2_with fail
  refine (is_yesT env3 (va := r3) (xs := [1]) (by simp) (by decide) (L := [49]) rfl S0.out (by decide)).mono ?_
  rintro e w4 ⟨rfl, env4⟩
  clear env3
  go_wp2_with fail
  refine (of_is env4 4294967295 (by decide) N1.out).mono ?_
  rintro e w5 ⟨r5, rfl, env5⟩
  clear env4
  go_wp2_with fail
  refine (is_yesT env5 (va := r5) (xs := [4294967295]) (by simp) (by decide) (L := [52, 50, 57, 52, 57, 54, 55, 50, 57, 53]) rfl S1.out (by decide)).mono ?_
  rintro e w6 ⟨rfl, env6⟩
  clear env5
  go_wp2_with fail
  refine (of_is env6 4294967296 (by decide) N2.out).mono ?_
  rintro e w7 ⟨r7, rfl, env7⟩
  clear env6
  go_wp2_with fail
  refine (is_yesT env7 (va := r7) (xs := [0, 1]) (by simp) (by decide) (L := [52, 50, 57, 52, 57, 54, 55, 50, 57, 54]) rfl S2.out (by decide)).mono ?_
  rintro e w8 ⟨rfl, env8⟩
  clear env7
  go_wp2_with fail
  refine (of_is env8 18446744073709551615 (by decide) N3.out).mono ?_
  rintro e w9 ⟨r9, rfl, env9⟩
  clear env8
  go_wp2_with fail
  refine (is_yesT env9 (va := r9) (xs := [4294967295, 4294967295]) (by simp) (by decide) (L := [49, 56, 52, 52, 54, 55, 52, 52, 48, 55, 51, 55, 48, 57, 53, 53, 49, 54, 49, 53]) rfl S3.out (by decide)).mono ?_
  rintro e w10 ⟨rfl, env10⟩
  clear env9
  go_wp2_with fail
  refine (of_is env10 1 (by decide) N0.out).mono ?_
  rintro e w11 ⟨r11, rfl, env11⟩
  clear env10
  have env1' := env11.some1 (p := (r11, [1])) (by simp)
  clear env11
  go_wp2_with fail
  have hcell : ∀ k v, #[Value.int .i64 1, Value.int .i64 8, Value.int .i64 9, Value.int .i64 10, Value.int .i64 17, Value.int .i64 18, Value.int .i64 19, Value.int .i64 27, Value.int .i64 28, Value.int .i64 100][k]? = some v → (w11.alloc (.cells #[Value.int .i64 1, Value.int .i64 8, Value.int .i64 9, Value.int .i64 10, Value.int .i64 17, Value.int .i64 18, Value.int .i64 19, Value.int .i64 27, Value.int .i64 28, Value.int .i64 100] 3)).cell? ⟨w11.heap.size, k, none⟩ = some v := fun k v h => by
    simp only [World.cell?, World.alloc_heap_new]
    exact h
  have hE0 := env1'.step ((Below.refl w11.heap.size w11).alloc (Nat.le_refl _) (.cells #[Value.int .i64 1, Value.int .i64 8, Value.int .i64 9, Value.int .i64 10, Value.int .i64 17, Value.int .i64 18, Value.int .i64 19, Value.int .i64 27, Value.int .i64 28, Value.int .i64 100] 3))
  have hsz : (w11.alloc (.cells #[Value.int .i64 1, Value.int .i64 8, Value.int .i64 9, Value.int .i64 10, Value.int .i64 17, Value.int .i64 18, Value.int .i64 19, Value.int .i64 27, Value.int .i64 28, Value.int .i64 100] 3)).heap.size = w11.heap.size + 1 := by simp
  generalize w11.alloc (.cells #[Value.int .i64 1, Value.int .i64 8, Value.int .i64 9, Value.int .i64 10, Value.int .i64 17, Value.int .i64 18, Value.int .i64 19, Value.int .i64 27, Value.int .i64 28, Value.int .i64 100] 3) = W1 at *
  clear env1'
  go_loopw [53] (fun i wr => ∃ j : Nat, j ≤ 10 ∧ i = .int .i64 (j : Int) ∧ Below W1.heap.size W1 wr ∧ Env w wr [(r11, [1])]) (fun i _ => 10 - (intOf i).toNat)
  case atStart => exact ⟨0, Nat.zero_le _, rfl, Below.refl _ _, hE0⟩
  case round =>
    clear hE0
    obtain ⟨j, hj, rfl, hBr, E⟩ := hrel
    by_cases hlt : j < 10
    · obtain ⟨k, hk1, hk2, hv⟩ := ks_at j hlt
      have hx := (hBr.cell (p := ⟨w11.heap.size, j, none⟩) (by rw [hsz]; exact Nat.lt_succ_self _)).trans (hcell j _ hv)
      obtain ⟨U, V, X, t1, t2, t3, t4, m1, m2, m3, v1, v2, v3, s1, s2, s3, s4, s5, s6⟩ := ten_round hk1 hk2
      obtain ⟨kj, hkj⟩ : ∃ kj : Nat, k = kj + 1 := ⟨k - 1, by omega⟩
      have hki : (k : Int) - 1 = (kj : Int) := by omega
      have T1 := Lib.hid t1
      have T2 := Lib.hid t2
      have T3 := Lib.hid t3
      have T4 := Lib.hid t4
      have M1 := Lib.hid m1
      have M2 := Lib.hid m2
      have M3 := Lib.hid m3
      have V1 := Lib.hid (show txt (val U) = [49] ++ List.replicate k 48 by rw [v1, txt_ten])
      have V2 := Lib.hid (show txt (val V) = List.replicate k 57 by rw [v2, txt_nines (by omega)])
      have V3 := Lib.hid (show txt (val X) = [49] ++ List.replicate kj 48 ++ [49] by rw [v3, hkj, txt_eleven])
      have Y1 := Lib.hid s1
      have Y2 := Lib.hid s2
      have Y3 := Lib.hid s3
      have Y4 := Lib.hid s4
      have Y5 := Lib.hid s5
      have Y6 := Lib.hid s6
      have a1 := fun w' => add_run [49] (List.replicate k 48) w' (by rw [List.length_singleton, List.length_replicate]; omega)
      have a2 := fun w' => add_run [49] (List.replicate kj 48) w' (by rw [List.length_singleton, List.length_replicate]; omega)
      have a3 := fun w' => add_run ([49] ++ List.replicate kj 48) [49] w' (by rw [List.length_append, List.length_singleton, List.length_replicate]; omega)
      have cp1 := fun w' => copies_c 48 ⟨#[48]⟩ rfl k (by omega) w'
      have cp2 := fun w' => copies_c 57 ⟨#[57]⟩ rfl k (by omega) w'
      have cp3 := fun w' => copies_c 48 ⟨#[48]⟩ rfl kj (by omega) w'
      have l1 := Lib.hid (show ([49] ++ List.replicate k 48).length < 9223372036854775808 by rw [List.length_append, List.length_singleton, List.length_replicate]; omega)
      have l2 := Lib.hid (show (List.replicate k 57).length < 9223372036854775808 by rw [List.length_replicate]; omega)
      have l3 := Lib.hid (show ([49] ++ List.replicate kj 48 ++ [49]).length < 9223372036854775808 by rw [List.length_append, List.length_append, List.length_singleton, List.length_replicate]; omega)
      rw [show str [49] = ⟨#[49]⟩ from rfl] at a1 a2 a3
      obtain ⟨z1, hz1⟩ : ∃ z, z = str (List.replicate k 48) := ⟨_, rfl⟩
      obtain ⟨z2, hz2⟩ : ∃ z, z = str ([49] ++ List.replicate k 48) := ⟨_, rfl⟩
      obtain ⟨z3, hz3⟩ : ∃ z, z = str (List.replicate k 57) := ⟨_, rfl⟩
      obtain ⟨z4, hz4⟩ : ∃ z, z = str (List.replicate kj 48) := ⟨_, rfl⟩
      obtain ⟨z5, hz5⟩ : ∃ z, z = str ([49] ++ List.replicate kj 48) := ⟨_, rfl⟩
      obtain ⟨z6, hz6⟩ : ∃ z, z = str ([49] ++ List.replicate kj 48 ++ [49]) := ⟨_, rfl⟩
      rw [← hz1, ← hz2] at a1
      rw [← hz4, ← hz5] at a2
      rw [← hz5, ← hz6] at a3
      rw [← hz1] at cp1
      rw [← hz3] at cp2
      rw [← hz4] at cp3
      have HZ2 := Lib.hid hz2
      have HZ3 := Lib.hid hz3
      have HZ6 := Lib.hid hz6
      have HK := Lib.hid (show (k : Int) < 9223372036854775808 ∧ -9223372036854775808 ≤ (k : Int) by omega)
      have HBr := Lib.hid hBr
      have HE := Lib.hid E
      have hwr := Lib.hid hBr.size
      clear t1 t2 t3 t4 m1 m2 m3 v1 v2 v3 s1 s2 s3 s4 s5 s6 hkj hz1 hz2 hz3 hz4 hz5 hz6 hcell hv hsz hGl
      have Er := E.root
      clear E
      go_wp2_with fail
      refine (ten_env Er (k : Int) HK.out.1 HK.out.2 T1.out).mono ?_
      rintro e w41 ⟨r41, rfl, env41⟩
      clear Er
      go_wp2_with fail
      refine (sub_is env41 (va := r41) (vb := r11) (xs := U) (ys := [1]) (by simp) (by simp) T3.out T2.out).mono ?_
      rintro e w42 ⟨r42, rfl, env42⟩
      clear env41
      go_wp2_with fail
      refine (ten_env env42 (k : Int) HK.out.1 HK.out.2 T1.out).mono ?_
      rintro e w43 ⟨r43, rfl, env43⟩
      clear env42
      go_wp2_with fail
      refine (cp1 w43).mono ?_
      rintro e w' ⟨rfl, rfl⟩
      go_wp2_with fail
      refine (is_yesT env43 (va := r43) (xs := U) (by simp) M1.out HZ2.out V1.out l1.out).mono ?_
      rintro e w45 ⟨rfl, env45⟩
      clear env43
      go_wp2_with fail
      refine (cp2 w45).mono ?_
      rintro e w' ⟨rfl, rfl⟩
      go_wp2_with fail
      refine (is_yesT env45 (va := r42) (xs := V) (by simp) M2.out HZ3.out V2.out l2.out).mono ?_
      rintro e w47 ⟨rfl, env47⟩
      clear env45
      go_wp2_with fail
      refine (ten_env env47 (k : Int) HK.out.1 HK.out.2 T1.out).mono ?_
      rintro e w48 ⟨r48, rfl, env48⟩
      clear env47
      go_wp2_with fail
      refine (add_is env48 (va := r48) (vb := r11) (xs := U) (ys := [1]) (by simp) (by simp) T4.out).mono ?_
      rintro e w49 ⟨r49, rfl, env49⟩
      clear env48
      go_wp2_with fail
      refine (cp3 w49).mono ?_
      rintro e w' ⟨rfl, rfl⟩
      go_wp2_with fail
      refine (is_yesT env49 (va := r49) (xs := X) (by simp) M3.out HZ6.out V3.out l3.out).mono ?_
      rintro e w51 ⟨rfl, env51⟩
      clear env49
      clear a1 a2 a3 cp1 cp2 cp3 hki
      go_wp2_with fail
      refine (ten_env env51 (k : Int) HK.out.1 HK.out.2 T1.out).mono ?_
      rintro e w52 ⟨r52, rfl, env52⟩
      clear env51
      go_wp2_with fail
      refine (split_env env52 (va := r52) (xs := U) (by simp) (k : Int) HK.out.1 HK.out.2 Y1.out Y2.out).mono ?_
      rintro e w53 ⟨A53, c53, r53, rfl, env53⟩
      clear env52
      go_wp2_with fail
      refine (split_env env53 (va := r42) (xs := V) (by simp) (k : Int) HK.out.1 HK.out.2 Y3.out Y4.out).mono ?_
      rintro e w54 ⟨A54, c54, r54, rfl, env54⟩
      clear env53
      go_wp2_with fail
      refine (split_env env54 (va := r42) (xs := V) (by simp) 0 (by decide) (by decide) Y5.out Y6.out).mono ?_
      rintro e w55 ⟨A55, c55, r55, rfl, env55⟩
      clear env54
      obtain ⟨Br53, capr53, rfl, _⟩ := env55.get (v := r53) (xs := []) (by simp)
      obtain ⟨Br55, capr55, rfl, _⟩ := env55.get (v := r55) (xs := []) (by simp)
      go_wp2_with fail
      refine (same4_yes env55 (va := .slice A53 [1].length c53) (vb := r11) (xs := [1]) (ys := [1]) (by simp) (by simp) rfl).mono ?_
      rintro e w56 ⟨rfl, env56⟩
      clear env55
      go_wp2_with fail
      refine (same4_yes env56 (va := r54) (vb := r42) (xs := V) (ys := V) (by simp) (by simp) rfl).mono ?_
      rintro e w57 ⟨rfl, env57⟩
      clear env56
      go_wp2_with fail
      refine (same4_yes env57 (va := .slice A55 V.length c55) (vb := r42) (xs := V) (ys := V) (by simp) (by simp) rfl).mono ?_
      rintro e w58 ⟨rfl, env58⟩
      clear env57
      have HE2 := Lib.hid (HE.out.step env58.1)
      have HB2 := Lib.hid (HBr.out.trans (env58.1.mono hwr.out))
      clear env58
      go_wp2_with fail
      go_roundw
      case rel => exact ⟨j + 1, by omega, by go_num, HB2.out, HE2.out⟩
      case measure => simp [intOf]; omega
    · obtain rfl : j = 10 := by omega
      clear hcell hBr hsz
      have cq1 := fun w' => copies_c 48 ⟨#[48]⟩ rfl 9 (by decide) w'
      have cq2 := fun w' => copies_c 57 ⟨#[57]⟩ rfl 9 (by decide) w'
      have aq := fun w' => add_run [48] (List.replicate 9 57) w' (by decide)
      rw [show str [48] = ⟨#[48]⟩ from rfl] at aq
      obtain ⟨Z9, hZ9⟩ : ∃ z, z = str (List.replicate 9 48) := ⟨_, rfl⟩
      obtain ⟨N9, hN9⟩ : ∃ z, z = str (List.replicate 9 57) := ⟨_, rfl⟩
      obtain ⟨Y9, hY9⟩ : ∃ z, z = str ([48] ++ List.replicate 9 57) := ⟨_, rfl⟩
      rw [← hZ9] at cq1
      rw [← hN9] at cq2
      rw [← hN9, ← hY9] at aq
      have BA := Lib.hid (bad_at hZ9 hY9)
      clear hZ9 hN9 hY9
      go_wp2_with fail
      refine (cq1 wr).mono ?_
      rintro e w' ⟨rfl, rfl⟩
      go_wp2_with fail
      refine (cq2 w').mono ?_
      rintro e w'' ⟨rfl, rfl⟩
      go_wp2_with fail
      clear cq1 cq2 aq
      have hcell2 : ∀ k v, #[Value.string ⟨#[32, 49]⟩, Value.string ⟨#[49, 32]⟩, Value.string ⟨#[43, 49]⟩, Value.string ⟨#[48, 49]⟩, Value.string ⟨#[48, 120, 49]⟩, Value.string ⟨#[49, 46, 48]⟩, Value.string ⟨#[49, 95, 48]⟩, Value.string ⟨#[128]⟩, Value.string ⟨#[97]⟩, Value.string Z9, Value.string Y9][k]? = some v → (w''.alloc (.cells #[Value.string ⟨#[32, 49]⟩, Value.string ⟨#[49, 32]⟩, Value.string ⟨#[43, 49]⟩, Value.string ⟨#[48, 49]⟩, Value.string ⟨#[48, 120, 49]⟩, Value.string ⟨#[49, 46, 48]⟩, Value.string ⟨#[49, 95, 48]⟩, Value.string ⟨#[128]⟩, Value.string ⟨#[97]⟩, Value.string Z9, Value.string Y9] 9)).cell? ⟨w''.heap.size, k, none⟩ = some v := fun k v h => by
        simp only [World.cell?, World.alloc_heap_new]
        exact h
      have hE2 := E.step ((Below.refl w''.heap.size w'').alloc (Nat.le_refl _) (.cells #[Value.string ⟨#[32, 49]⟩, Value.string ⟨#[49, 32]⟩, Value.string ⟨#[43, 49]⟩, Value.string ⟨#[48, 49]⟩, Value.string ⟨#[48, 120, 49]⟩, Value.string ⟨#[49, 46, 48]⟩, Value.string ⟨#[49, 95, 48]⟩, Value.string ⟨#[128]⟩, Value.string ⟨#[97]⟩, Value.string Z9, Value.string Y9] 9))
      have hsz2 : (w''.alloc (.cells #[Value.string ⟨#[32, 49]⟩, Value.string ⟨#[49, 32]⟩, Value.string ⟨#[43, 49]⟩, Value.string ⟨#[48, 49]⟩, Value.string ⟨#[48, 120, 49]⟩, Value.string ⟨#[49, 46, 48]⟩, Value.string ⟨#[49, 95, 48]⟩, Value.string ⟨#[128]⟩, Value.string ⟨#[97]⟩, Value.string Z9, Value.string Y9] 9)).heap.size = w''.heap.size + 1 := by simp
      generalize w''.alloc (.cells #[Value.string ⟨#[32, 49]⟩, Value.string ⟨#[49, 32]⟩, Value.string ⟨#[43, 49]⟩, Value.string ⟨#[48, 49]⟩, Value.string ⟨#[48, 120, 49]⟩, Value.string ⟨#[49, 46, 48]⟩, Value.string ⟨#[49, 95, 48]⟩, Value.string ⟨#[128]⟩, Value.string ⟨#[97]⟩, Value.string Z9, Value.string Y9] 9) = W2 at *
      clear E
      go_loopw [146] (fun i wr => ∃ j : Nat, j ≤ 11 ∧ i = .int .i64 (j : Int) ∧ Below W2.heap.size W2 wr ∧ Env w wr [(r11, [1])]) (fun i _ => 11 - (intOf i).toNat)
      case atStart => exact ⟨0, Nat.zero_le _, rfl, Below.refl _ _, hE2⟩
      case round =>
        clear hE2
        rename_i wo
        obtain ⟨j, hj, rfl, hBr, E⟩ := hrel
        by_cases hlt : j < 11
        · obtain ⟨L, hc, hl, hT, hv⟩ := BA.out j hlt
          have hx := (hBr.cell (p := ⟨w''.heap.size, j, none⟩) (by rw [hsz2]; exact Nat.lt_succ_self _)).trans (hcell2 j _ hv)
          have c0 := parse_any L wr hc (by omega)
          rw [pN_no hT, pE_no hT] at c0
          have HE := Lib.hid E
          clear hcell2 hv hc hl hT E hGl
          go_wp2_with fail
          refine c0.mono ?_
          rintro e w1 ⟨⟨v, rfl, ho⟩, hb1⟩
          clear c0
          obtain ⟨A, c, rfl⟩ := own_form (X := []) ho rfl
          have HB := Lib.hid (hBr.trans (hb1.mono hBr.size))
          have HE1 := Lib.hid (HE.out.step hb1)
          clear ho hb1 hx
          go_wp2_with fail
          go_roundw
          case rel => exact ⟨j + 1, by omega, by go_num, HB.out, HE1.out⟩
          case measure => simp [intOf]; omega
        · obtain rfl : j = 11 := by omega
          clear hcell2 hBr hsz2
          have B0 := (E.lit2 1 0 1 0 rfl rfl (by decide) (by decide))
          go_wp2_with fail
          refine (split_env B0 (va := (.slice (some ⟨wr.heap.size, 0, none⟩) 2 2)) (xs := [1, 0]) (by simp) 1 (by decide) (by decide) Q1.out Q2.out).mono ?_
          rintro e w101 ⟨A101, c101, r101, rfl, env101⟩
          clear B0
          go_wp2_with fail
          refine (split_env env101 (va := r11) (xs := [1]) (by simp) (-1) (by decide) (by decide) Q3.out Q4.out).mono ?_
          rintro e w102 ⟨A102, c102, r102, rfl, env102⟩
          clear env101
          go_wp2_with fail
          refine (ten_env env102 631306 (by decide) (by decide) G1.out).mono ?_
          rintro e w103 ⟨r103, rfl, env103⟩
          clear env102
          obtain ⟨Br101, capr101, rfl, _⟩ := env103.get (v := r101) (xs := []) (by simp)
          obtain ⟨Br102, capr102, rfl, _⟩ := env103.get (v := r102) (xs := []) (by simp)
          obtain ⟨Br103, capr103, rfl, _⟩ := env103.get (v := r103) (xs := []) (by simp)
          have cs := show_env env103 (va := (.slice (some ⟨wr.heap.size, 0, none⟩) 2 2)) (xs := [1, 0]) (by simp)
          rw [Q5.out] at cs
          have ee : (str []).toList.isEmpty = true := by rw [str_toList]; rfl
          go_wp2_with fail
          refine cs.mono ?_
          rintro e w104 ⟨rfl, env104⟩
          clear cs env103
          have cd := digits_env env104 (va := (.slice (some ⟨wr.heap.size, 0, none⟩) 2 2)) (xs := [1, 0]) (by simp)
          rw [Q6.out] at cd
          go_wp2_with fail
          refine cd.mono ?_
          rintro e w105 ⟨rfl, env105⟩
          clear cd env104
          go_wp2_with fail
          refine (ten_env env105 (-1) (by decide) (by decide) G4.out).mono ?_
          rintro e w106 ⟨r106, rfl, env106⟩
          clear env105
          obtain ⟨Br106, capr106, rfl, _⟩ := env106.get (v := r106) (xs := []) (by simp)
          go_wp2_with fail
          refine (ten_env env106 0 (by decide) (by decide) G5.out).mono ?_
          rintro e w107 ⟨r107, rfl, env107⟩
          clear env106
          go_wp2_with fail
          refine (same4_yes env107 (va := r107) (vb := r11) (xs := [1]) (ys := [1]) (by simp) (by simp) rfl).mono ?_
          rintro e w108 ⟨rfl, env108⟩
          clear env107
          go_wp2_with fail
          refine (ten_env env108 9223372036854775807 (by decide) (by decide) G3.out).mono ?_
          rintro e w109 ⟨r109, rfl, env109⟩
          clear env108
          obtain ⟨Br109, capr109, rfl, _⟩ := env109.get (v := r109) (xs := []) (by simp)
          go_wp2_with fail
          refine (ten_env env109 640000 (by decide) (by decide) G2.out).mono ?_
          rintro e w110 ⟨r110, rfl, env110⟩
          clear env109
          obtain ⟨Br110, capr110, rfl, _⟩ := env110.get (v := r110) (xs := []) (by simp)
          go_wp2_with fail
          refine (ten_env env110 631000 (by decide) (by decide) HG.out).mono ?_
          rintro e w111 ⟨r111, rfl, env111⟩
          clear env110
          obtain ⟨Br111, capr111, rfl, _⟩ := env111.get (v := r111) (xs := G) (by simp)
          have HB := Lib.hid env111.1
          clear env111
          rw [← HGL.out]
          go_wp2
          go_ret
          exact ⟨ret_bool (decide_eq_true (by omega)), HB.out⟩

end Go.Proofs.YtileljokijmpaaaDoor

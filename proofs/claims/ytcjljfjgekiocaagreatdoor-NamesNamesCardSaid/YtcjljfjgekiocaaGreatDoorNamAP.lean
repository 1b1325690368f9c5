/- Many of a text (copies); Fresh, whether it is a name or not; the names of NamesNames. -/
import Derived.Test.YtcjljfjgekiocaaGreatDoorNamAI
namespace Go.Proofs.YtcjljfjgekiocaaGreatDoor
open Go.RowKit Go.Shelf

set_option linter.unusedVariables false
set_option linter.unusedSimpArgs false

/-- what Fresh tells, if that is a name -/
def frS (L D : List Nat) : ByteArray := if isN (L ++ D) = true then str (L ++ D) else ⟨#[]⟩
theorem copies_any (c n : Nat) (w : World) (hn : n ≤ 1000) : Calls Tryz.prog 9 #[.string (str [c]), .int .i64 (n : Int)] w fun e w' => e = .returned (.string (str (List.replicate n c))) ∧ w' = w := by
  have es : str ([] : List Nat) = ⟨#[]⟩ := rfl
  have HES := Lib.hid es
  have HAD := Lib.hid (fun (j : Nat) (hj : j < n) W => nadd_str (List.replicate j c) [c] (by simp; omega) W)
  clear es
  go_enter Tryz.func9, Tryz.ntmps9
  go_wp2_with fail
  go_loopw [5, 6] (fun s i wr => ∃ j : Nat, s = .string (str (List.replicate j c)) ∧ i = .int .i64 (j : Int) ∧ j ≤ n ∧ wr = w) (fun _ i _ => n - (intOf i).toNat)
  case atStart => exact ⟨0, by rw [List.replicate_zero]; rfl, rfl, Nat.zero_le _, rfl⟩
  case round =>
    obtain ⟨j, rfl, rfl, hj, rfl⟩ := hrel
    by_cases hlt : j < n
    · have hltI : (j : Int) < (n : Int) := by omega
      have h1 := HAD.out j hlt
      rw [show List.replicate j c ++ [c] = List.replicate (j + 1) c by rw [List.replicate_succ']] at h1
      obtain ⟨R, hR⟩ : ∃ R, R = str (List.replicate (j + 1) c) := ⟨_, rfl⟩
      rw [← hR] at h1
      have HR := Lib.hid hR
      clear hR
      go_wp2_with fail
      exact ⟨⟨j + 1, by rw [HR.out], by go_num, by omega, trivial⟩, by simp [intOf]; omega⟩
    · have hltI : ¬ (j : Int) < (n : Int) := by omega
      obtain rfl : j = n := by omega
      go_wp2_with fail
      go_ret
      exact ⟨rfl, rfl⟩
set_option maxRecDepth 100000 in
set_option maxHeartbeats 4000000 in
theorem fresh_gen (L : List Nat) (ns : List (List Nat)) (ks : List Nat) (A : Option Addr) (cap : Nat) (i : Nat) (w : World) (hc : Codes L) (hn : isN L = true) (hr : RdS w A ns) (hk : ks.length = ns.length) (hl : ns.length ≤ 1000)
    (hnum : ∀ (j : Nat) (x : List Nat) (k : Nat), ns[j]? = some x → ks[j]? = some k → k ≤ 1000000 ∧ ∀ W, Calls Tryz.prog 49 #[.string (str x), .string (str L)] W fun e w' => e = .returned (.tuple #[.int .i64 ((k : Nat) : Int), .bool true]) ∧ Below W.heap.size W w')
    (hi : ixB 0 (mks (ns.length + 1) ks) = (i : Int)) (hi2 : i < 100) (D : List Nat) (hD : (⟨(Lib.decDigits i).toArray⟩ : ByteArray) = str D) (hdc : Codes D) (hD2 : (L ++ D).length ≤ 1000) :
    Calls Tryz.prog 20 #[.string (str L), .slice A ns.length cap] w fun e w' => e = .returned (.string (frS L D)) ∧ Below w.heap.size w w' := by
  obtain ⟨i0, hi0, hz0, hz1, hz2⟩ := info_parts infoBool
  have hLl := isN_len hn
  have C1 := name_any L w hc (by omega)
  rw [hn] at C1
  have HC1 := Lib.hid C1
  obtain ⟨n, hnn⟩ : ∃ n, n = ns.length := ⟨_, rfl⟩
  rw [← hnn] at hl hk hi ⊢
  have HN := Lib.hid hnn
  have HR := Lib.hid hr
  have HNUM := Lib.hid hnum
  have HK := Lib.hid hk
  have HI := Lib.hid hi
  clear C1 hnn hr hnum hk hi
  obtain ⟨N, hN⟩ : ∃ N, N = n + 1 := ⟨_, rfl⟩
  have hn1 : (n : Int) + 1 = (N : Int) := by omega
  have hNl : N ≤ 1001 := by omega
  have HNN := Lib.hid hN
  rw [← hN] at HI
  clear hN
  go_enter Tryz.func20, Tryz.ntmps20
  go_wp2_with fail
  refine HC1.out.mono ?_
  rintro e w1 ⟨rfl, hb1⟩
  have HB1 := Lib.hid hb1
  clear hb1
  go_wp2_with (at_make; refine wpList_make_full _ rfl _ _ 83 rfl w1.heap.size 4 i0 _ 1 Tryz.underlying83 hi0 hz0 hz1 .i64 .i64 _ _ N rfl rfl rfl rfl (by rw [hz2]; omega) (by unfold maxLen; omega) (Nat.le_refl _) ?_; intro w2 hown0 hgrow0)
  have HB2 : Hid (Below w1.heap.size w1 w2) := (Below.refl _ w1).grown hgrow0 (Nat.le_refl _) (fun k hk => by cases hk)
  have HO0 : Hid (w2.ownsRow w1.heap.size 4 1 (.slice (some ⟨w1.heap.size, 0, none⟩) N N) N (nbcs (mks N []))) := by
    show w2.ownsRow _ _ _ _ _ _
    rw [mks_nil, ← made_bools]
    rwa [Nat.mul_one] at hown0
  clear hown0 hgrow0
  go_wp2_with fail
  go_loopw [20] (fun s wr => ∃ (j : Nat), s = .int .i64 (j : Int) ∧ j ≤ n ∧ wr.ownsRow w1.heap.size 4 1 (.slice (some ⟨w1.heap.size, 0, none⟩) N N) N (nbcs (mks N (ks.take j))) ∧ Below w1.heap.size w1 wr) (fun s _ => n - (intOf s).toNat)
  case atStart => exact ⟨0, rfl, Nat.zero_le _, by rw [List.take_zero]; exact HO0.out, HB2.out⟩
  case round =>
    obtain ⟨j, rfl, hj, hown, hB⟩ := hrel
    have HB := Lib.hid hB
    have HO := Lib.hid hown
    clear hB hown
    by_cases hlt : j < n
    · have hltI : (j : Int) < (n : Int) := by omega
      obtain ⟨x, hx⟩ : ∃ x, ns[j]? = some x := ⟨_, List.getElem?_eq_getElem (by rw [← HN.out]; exact hlt)⟩
      obtain ⟨k, hk⟩ : ∃ k, ks[j]? = some k := ⟨_, List.getElem?_eq_getElem (by rw [HK.out]; exact hlt)⟩
      obtain ⟨b, o, rfl, hq, hcl⟩ := HR.out.at hx
      have q1 := (HB.out.cell (p := ⟨b, o + j, none⟩) (Nat.lt_of_lt_of_le hq HB1.out.size)).trans ((HB1.out.cell (p := ⟨b, o + j, none⟩) hq).trans (hcl j x hx))
      obtain ⟨hkl, CN⟩ := HNUM.out j x k hx hk
      have HCN := Lib.hid (CN wr)
      have HTK : Hid (ks.take (j + 1) = ks.take j ++ [k]) := by show _ = _; rw [List.take_add_one, hk]; rfl
      clear hx hk hcl CN
      go_wp2_with fail
      refine HCN.out.mono ?_
      rintro e w3 ⟨rfl, hb3⟩
      have HB3 := Lib.hid (HB.out.trans (hb3.mono HB.out.size))
      have HO3 := Lib.hid (nown_below HO.out hb3)
      clear hb3
      by_cases hkn : k < N
      · have hkI : (k : Int) < (N : Int) := by omega
        have hcA := HO3.out.cellAt k (by omega)
        obtain ⟨uA, huA⟩ : ∃ uA, w3.cell? ⟨w1.heap.size, k, none⟩ = some uA := by
          have := HO3.out.cellAt k (by omega)
          rw [this]
          exact ⟨_, List.getElem?_eq_getElem (by simp [nbcs, mks_len]; omega)⟩
        have hfA := HO3.out.frozenAt k
        clear hcA
        go_wp2_with fail
        refine ⟨⟨j + 1, by go_num, by omega, ?_, HB3.out.setCell (p := ⟨w1.heap.size, k, none⟩) (Nat.le_refl _) _⟩, by simp [intOf]; omega⟩
        have h1 := (HO3.out.stored k (.bool true)).1
        rw [mks_set hkn, ← HTK.out] at h1
        exact h1
      · have hkI : ¬ (k : Int) < (N : Int) := by omega
        go_wp2_with fail
        refine ⟨⟨j + 1, by go_num, by omega, ?_, HB3.out⟩, by simp [intOf]; omega⟩
        rw [HTK.out, mks_out hkn]
        exact HO3.out
    · have hltI : ¬ (j : Int) < (n : Int) := by omega
      have hje : j = n := by omega
      have h1 := HO.out
      rw [hje, ← HK.out, List.take_length] at h1
      have HO1 := Lib.hid h1
      have C2 := indexB_any (mks N ks) (some ⟨w1.heap.size, 0, none⟩) N wr (.inr ⟨w1.heap.size, 0, rfl, by have := HO1.out.lt w1.heap.size rfl; omega, fun q y hy => by
        rw [Nat.zero_add, HO1.out.cellAt q (by have := (List.getElem?_eq_some_iff.1 hy).1; rw [mks_len] at this; omega)]
        unfold nbcs
        rw [List.getElem?_map, hy]
        rfl⟩) (by rw [mks_len]; omega)
      rw [mks_len, HI.out] at C2
      have HC2 := Lib.hid C2
      have C3 := Go.Proofs.Tryz.strconv_Itoa_small i hi2 wr
      rw [hD] at C3
      have HC3 := Lib.hid C3
      have hadd := fun w => nadd_str L D (by rw [List.length_append] at hD2; omega) w
      have HC4 := Lib.hid (fun W => name_any (L ++ D) W (fun c hcc => by rcases List.mem_append.1 hcc with q | q; exact hc c q; exact hdc c q) (by omega))
      clear h1 hje C2 C3 HNUM HR
      go_wp2_with fail
      refine HC2.out.mono ?_
      rintro e w3 ⟨rfl, rfl⟩
      go_wp2_with fail
      refine HC3.out.mono ?_
      rintro e w4 ⟨rfl, rfl⟩
      go_wp2_with fail
      refine (HC4.out _).mono ?_
      rintro e w5 ⟨rfl, hb5⟩
      have HB5 := Lib.hid (HB1.out.trans ((HB.out.mono HB1.out.size).trans (hb5.mono (Nat.le_trans HB1.out.size HB.out.size))))
      clear hb5
      obtain ⟨z, hz⟩ : ∃ z, z = isN (L ++ D) := ⟨_, rfl⟩
      have HZ := Lib.hid hz
      rw [← hz]
      clear hz
      cases z
      · go_wp2_with fail
        go_ret
        refine ⟨?_, HB5.out⟩
        unfold frS
        rw [← HZ.out]
        rfl
      · go_wp2_with fail
        go_ret
        refine ⟨?_, HB5.out⟩
        unfold frS
        rw [← HZ.out]
        rfl

theorem takeWhile_self {p : Nat → Bool} : ∀ {l : List Nat}, (∀ c ∈ l, p c = true) → l.takeWhile p = l
  | [], _ => rfl
  | a :: r, h => by rw [List.takeWhile_cons, if_pos (h a (by simp)), takeWhile_self fun c hc => h c (by simp [hc])]
/-- the k-th name of NamesNames -/
def nmK (k : Nat) : List Nat := 110 :: (List.replicate (k % 20) 120 ++ List.replicate (k / 20 % 20) 121 ++ List.replicate (k / 400) 122)
theorem nmK_mem {k c : Nat} (h : c ∈ nmK k) : c = 110 ∨ c = 120 ∨ c = 121 ∨ c = 122 := by
  unfold nmK at h
  simp only [List.mem_cons, List.mem_append, List.mem_replicate] at h
  omega
theorem nmK_codes (k : Nat) : Codes (nmK k) := fun c hc => by
  have := nmK_mem hc
  omega
theorem nmK_len {k : Nat} (h : k < 4096) : (nmK k).length ≤ 60 := by
  unfold nmK
  simp
  omega
theorem nmK_inj {a b : Nat} (h : nmK a = nmK b) : a = b := by
  have h1 := congrArg (List.count 120) h
  have h2 := congrArg (List.count 121) h
  have h3 := congrArg (List.count 122) h
  unfold nmK at h1 h2 h3
  simp [List.count_cons, List.count_append, List.count_replicate] at h1 h2 h3
  omega
theorem nmK_zero : nmK 0 = [110] := rfl
theorem nmK_isN {k : Nat} (h : k < 4096) : isN (nmK k) = true := by
  have hlen := nmK_len h
  have h0 : (nmK k)[0]?.getD 0 = 110 := rfl
  have hm := @nmK_mem k
  have hne : ∀ (c : Nat) (r : List Nat), c ≠ 110 → nmK k ≠ c :: r := fun c r hc q => by
    unfold nmK at q
    injection q with q1 q2
    exact hc q1.symm
  have hdg : ∀ c ∈ nmK k, dg c = false := fun c hc => by
    rcases hm hc with rfl | rfl | rfl | rfl <;> rfl
  have hsy : ∀ c ∈ nmK k, syc c = true := fun c hc => by
    rcases hm hc with rfl | rfl | rfl | rfl <;> rfl
  have hne0 : nmK k ≠ [] := by unfold nmK; simp
  have hnum : num (nmK k) = false := by
    unfold num dgs
    have : (nmK k).all dg = false := by
      rw [List.all_eq_false]
      exact ⟨110, by unfold nmK; simp, by decide⟩
    rw [this]
    rfl
  have hdcm : dcm (nmK k) = false := by
    unfold dcm
    have : (nmK k).takeWhile (· != 46) = nmK k := by
      refine takeWhile_self fun c hc => ?_
      rcases hm hc with rfl | rfl | rfl | rfl <;> rfl
    unfold upd
    rw [this]
    simp
  have hsym : sym (nmK k) = true := by
    unfold sym
    have h1 : (nmK k).all syc = true := List.all_eq_true.2 hsy
    rw [h0, h1]
    have h2 : decide ((nmK k).length ≤ 64) = true := decide_eq_true (by omega)
    rw [h2]
    cases q : nmK k with
    | nil => exact absurd q hne0
    | cons a r => rfl
  have hkd : kd (nmK k) = 5 := by
    unfold kd
    rw [if_neg (hne 40 [] (by decide)), if_neg (hne 41 [] (by decide)), if_neg (by rw [hnum]; decide), if_neg (by rw [hdcm]; decide), if_pos hsym]
  have hfw : fw (nmK k) = false := by
    unfold fw
    rw [List.any_eq_false]
    intro x hx
    simp only [decide_eq_true_eq]
    intro q
    unfold FW at hx
    simp only [List.mem_cons, List.not_mem_nil, or_false] at hx
    rcases hx with rfl | rfl | rfl | rfl | rfl | rfl | rfl | rfl | rfl | rfl | rfl | rfl | rfl | rfl | rfl | rfl | rfl | rfl | rfl | rfl | rfl | rfl | rfl
    all_goals first
      | (exact hne _ _ (by decide) q)
      | (have := hm (c := 111) (by rw [q]; decide); omega)
  unfold isN
  rw [hkd, hfw]
  rfl
end Go.Proofs.YtcjljfjgekiocaaGreatDoor

/- Contract: Fresh, where each name that is taken has a number. -/
import Derived.Laws.Concat
import Derived.Test.YtcjljfjgekiocaaGreatDoorNamAB
namespace Go.Proofs.YtcjljfjgekiocaaGreatDoor
open Go.RowKit Go.Shelf

set_option linter.unusedVariables false
set_option linter.unusedSimpArgs false

theorem infoBool : (Tryz.prog.info? 4).map (fun i => (i.zero, i.size, i.bytes)) = some (some (.bool false), 1, 1) := by kernel_rfl
theorem nstr_app (A B : List Nat) : str A ++ str B = str (A ++ B) := by
  apply ByteArray.ext
  apply Array.ext'
  simp [str]
theorem nadd_str (A B : List Nat) (h : A.length + B.length ≤ 9223372036854775807) (w : World) : (Op.stringOp .add (str A) (str B)).run Tryz.prog w = .ok (.string (str (A ++ B))) w := by
  rw [run_string_add_sum (P := Tryz.prog) w (str A) (str B) (by rw [str_size, str_size]; exact h), nstr_app]
def mks (n : Nat) (ks : List Nat) : List Bool := (List.range n).map fun i => decide (i ∈ ks)
def nbcs (bs : List Bool) : List Value := bs.map Value.bool
theorem mks_len (n : Nat) (ks : List Nat) : (mks n ks).length = n := by simp [mks]
theorem mks_nil (n : Nat) : nbcs (mks n []) = List.replicate n (.bool false) := by
  apply List.ext_getElem?
  intro i
  simp [nbcs, mks, List.getElem?_replicate, List.getElem?_range]
  by_cases h : i < n <;> simp [h, List.getElem?_eq_none]
theorem mks_set {n k : Nat} {ks : List Nat} (h : k < n) : (nbcs (mks n ks)).set k (.bool true) = nbcs (mks n (ks ++ [k])) := by
  apply List.ext_getElem?
  intro i
  by_cases hi : i = k
  · subst hi
    rw [List.getElem?_set_self (by simp [nbcs, mks]; exact h)]
    simp [nbcs, mks, List.getElem?_range, h]
  · rw [List.getElem?_set_ne (fun e => hi e.symm)]
    by_cases hn : i < n
    · simp [nbcs, mks, List.getElem?_range, hn, hi]
    · rw [List.getElem?_eq_none (by simp [nbcs, mks]; omega), List.getElem?_eq_none (by simp [nbcs, mks]; omega)]
theorem mks_out {n k : Nat} {ks : List Nat} (h : ¬ k < n) : mks n (ks ++ [k]) = mks n ks := by
  unfold mks
  apply List.map_congr_left
  intro i hi
  have := List.mem_range.1 hi
  have hne : i ≠ k := by omega
  simp [hne]
theorem made_bools (N : Nat) : (madeCells (Value.bool false).cells N).toList = List.replicate N (.bool false) := by
  have hz : (Value.bool false).cells = #[.bool false] := rfl
  rw [hz]
  apply List.ext_getElem?
  intro i
  by_cases h : i < N
  · simp [madeCells, h, Nat.mod_one]
  · rw [List.getElem?_eq_none (by simp [madeCells]; omega), List.getElem?_eq_none (by simp; omega)]
set_option maxRecDepth 100000 in
set_option maxHeartbeats 4000000 in
theorem fresh_any (L : List Nat) (ns : List (List Nat)) (ks : List Nat) (A : Option Addr) (cap : Nat) (i : Nat) (w : World) (hc : Codes L) (hn : isN L = true) (hr : RdS w A ns) (hk : ks.length = ns.length) (hl : ns.length ≤ 1000)
    (hnum : ∀ (j : Nat) (x : List Nat) (k : Nat), ns[j]? = some x → ks[j]? = some k → k ≤ 1000000 ∧ ∀ W, Calls Tryz.prog 49 #[.string (str x), .string (str L)] W fun e w' => e = .returned (.tuple #[.int .i64 ((k : Nat) : Int), .bool true]) ∧ Below W.heap.size W w')
    (hi : ixB 0 (mks (ns.length + 1) ks) = (i : Int)) (hi2 : i < 100) (D : List Nat) (hD : (⟨(Lib.decDigits i).toArray⟩ : ByteArray) = str D) (hdc : Codes D) (hD2 : isN (L ++ D) = true) :
    Calls Tryz.prog 20 #[.string (str L), .slice A ns.length cap] w fun e w' => e = .returned (.string (str (L ++ D))) ∧ Below w.heap.size w w' := by
  obtain ⟨i0, hi0, hz0, hz1, hz2⟩ := info_parts infoBool
  have hLl := isN_len hn
  have C1 := name_any L w hc (by omega)
  rw [hn] at C1
  have HC1 := Lib.hid C1
  obtain ⟨n, hnn⟩ : ∃ n, n = ns.length := ⟨_, rfl⟩
  rw [← hnn] at hl hk hi ⊢
  have HN := Lib.hid hnn
  have HR := Lib.hid hr
  have HNUM := Lib.hid hnum
  have HK := Lib.hid hk
  have HI := Lib.hid hi
  clear C1 hnn hr hnum hk hi
  obtain ⟨N, hN⟩ : ∃ N, N = n + 1 := ⟨_, rfl⟩
  have hn1 : (n : Int) + 1 = (N : Int) := by omega
  have hNl : N ≤ 1001 := by omega
  have HNN := Lib.hid hN
  rw [← hN] at HI
  clear hN
  go_enter Tryz.func20, Tryz.ntmps20
  go_wp2_with fail
  refine HC1.out.mono ?_
  rintro e w1 ⟨rfl, hb1⟩
  have HB1 := Lib.hid hb1
  clear hb1
  go_wp2_with (at_make; refine wpList_make_full _ rfl _ _ 83 rfl w1.heap.size 4 i0 _ 1 Tryz.underlying83 hi0 hz0 hz1 .i64 .i64 _ _ N rfl rfl rfl rfl (by rw [hz2]; omega) (by unfold maxLen; omega) (Nat.le_refl _) ?_; intro w2 hown0 hgrow0)
  have HB2 : Hid (Below w1.heap.size w1 w2) := (Below.refl _ w1).grown hgrow0 (Nat.le_refl _) (fun k hk => by cases hk)
  have HO0 : Hid (w2.ownsRow w1.heap.size 4 1 (.slice (some ⟨w1.heap.size, 0, none⟩) N N) N (nbcs (mks N []))) := by
    show w2.ownsRow _ _ _ _ _ _
    rw [mks_nil, ← made_bools]
    rwa [Nat.mul_one] at hown0
  clear hown0 hgrow0
  go_wp2_with fail
  go_loopw [20] (fun s wr => ∃ (j : Nat), s = .int .i64 (j : Int) ∧ j ≤ n ∧ wr.ownsRow w1.heap.size 4 1 (.slice (some ⟨w1.heap.size, 0, none⟩) N N) N (nbcs (mks N (ks.take j))) ∧ Below w1.heap.size w1 wr) (fun s _ => n - (intOf s).toNat)
  case atStart => exact ⟨0, rfl, Nat.zero_le _, by rw [List.take_zero]; exact HO0.out, HB2.out⟩
  case round =>
    obtain ⟨j, rfl, hj, hown, hB⟩ := hrel
    have HB := Lib.hid hB
    have HO := Lib.hid hown
    clear hB hown
    by_cases hlt : j < n
    · have hltI : (j : Int) < (n : Int) := by omega
      obtain ⟨x, hx⟩ : ∃ x, ns[j]? = some x := ⟨_, List.getElem?_eq_getElem (by rw [← HN.out]; exact hlt)⟩
      obtain ⟨k, hk⟩ : ∃ k, ks[j]? = some k := ⟨_, List.getElem?_eq_getElem (by rw [HK.out]; exact hlt)⟩
      obtain ⟨b, o, rfl, hq, hcl⟩ := HR.out.at hx
      have q1 := (HB.out.cell (p := ⟨b, o + j, none⟩) (Nat.lt_of_lt_of_le hq HB1.out.size)).trans ((HB1.out.cell (p := ⟨b, o + j, none⟩) hq).trans (hcl j x hx))
      obtain ⟨hkl, CN⟩ := HNUM.out j x k hx hk
      have HCN := Lib.hid (CN wr)
      have HTK : Hid (ks.take (j + 1) = ks.take j ++ [k]) := by show _ = _; rw [List.take_add_one, hk]; rfl
      clear hx hk hcl CN
      go_wp2_with fail
      refine HCN.out.mono ?_
      rintro e w3 ⟨rfl, hb3⟩
      have HB3 := Lib.hid (HB.out.trans (hb3.mono HB.out.size))
      have HO3 := Lib.hid (nown_below HO.out hb3)
      clear hb3
      by_cases hkn : k < N
      · have hkI : (k : Int) < (N : Int) := by omega
        have hcA := HO3.out.cellAt k (by omega)
        obtain ⟨uA, huA⟩ : ∃ uA, w3.cell? ⟨w1.heap.size, k, none⟩ = some uA := by
          have := HO3.out.cellAt k (by omega)
          rw [this]
          exact ⟨_, List.getElem?_eq_getElem (by simp [nbcs, mks_len]; omega)⟩
        have hfA := HO3.out.frozenAt k
        clear hcA
        go_wp2_with fail
        refine ⟨⟨j + 1, by go_num, by omega, ?_, HB3.out.setCell (p := ⟨w1.heap.size, k, none⟩) (Nat.le_refl _) _⟩, by simp [intOf]; omega⟩
        have h1 := (HO3.out.stored k (.bool true)).1
        rw [mks_set hkn, ← HTK.out] at h1
        exact h1
      · have hkI : ¬ (k : Int) < (N : Int) := by omega
        go_wp2_with fail
        refine ⟨⟨j + 1, by go_num, by omega, ?_, HB3.out⟩, by simp [intOf]; omega⟩
        rw [HTK.out, mks_out hkn]
        exact HO3.out
    · have hltI : ¬ (j : Int) < (n : Int) := by omega
      have hje : j = n := by omega
      have h1 := HO.out
      rw [hje, ← HK.out, List.take_length] at h1
      have HO1 := Lib.hid h1
      have C2 := indexB_any (mks N ks) (some ⟨w1.heap.size, 0, none⟩) N wr (.inr ⟨w1.heap.size, 0, rfl, by have := HO1.out.lt w1.heap.size rfl; omega, fun q y hy => by
        rw [Nat.zero_add, HO1.out.cellAt q (by have := (List.getElem?_eq_some_iff.1 hy).1; rw [mks_len] at this; omega)]
        unfold nbcs
        rw [List.getElem?_map, hy]
        rfl⟩) (by rw [mks_len]; omega)
      rw [mks_len, HI.out] at C2
      have HC2 := Lib.hid C2
      have C3 := Go.Proofs.Tryz.strconv_Itoa_small i hi2 wr
      rw [hD] at C3
      have HC3 := Lib.hid C3
      have hadd := fun w => nadd_str L D (by have := isN_len hD2; rw [List.length_append] at this; omega) w
      have HC4 := Lib.hid (fun W => name_any (L ++ D) W (fun c hcc => by rcases List.mem_append.1 hcc with q | q; exact hc c q; exact hdc c q) (by have := isN_len hD2; omega))
      clear h1 hje C2 C3 HNUM HR
      go_wp2_with fail
      refine HC2.out.mono ?_
      rintro e w3 ⟨rfl, rfl⟩
      go_wp2_with fail
      refine HC3.out.mono ?_
      rintro e w4 ⟨rfl, rfl⟩
      go_wp2_with fail
      refine (HC4.out _).mono ?_
      rintro e w5 ⟨rfl, hb5⟩
      rw [hD2]
      have HB5 := Lib.hid (HB1.out.trans ((HB.out.mono HB1.out.size).trans (hb5.mono (Nat.le_trans HB1.out.size HB.out.size))))
      clear hb5
      go_wp2_with fail
      go_ret
      exact ⟨rfl, HB5.out⟩
end Go.Proofs.YtcjljfjgekiocaaGreatDoor

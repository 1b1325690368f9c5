/- The law's small functions: ints, texts, first. -/
import Derived.BigQuiet
import Derived.Deep.QuietTactic
import Derived.Test.YtcjljfjgekiocaaGreatDoorNamY
namespace Go.Proofs.YtcjljfjgekiocaaGreatDoor
open Go.RowKit Go.Shelf

set_option linter.unusedVariables false
set_option linter.unusedSimpArgs false

/-- numbers that can be read -/
def RdJ (w : World) (A : Option Addr) (l : List Int) : Prop := l = [] ∨ ∃ b o, A = some ⟨b, o, none⟩ ∧ b < w.heap.size ∧ ∀ j x, l[j]? = some x → w.cell? ⟨b, o + j, none⟩ = some (.int .i64 x)
theorem RdJ.at {w : World} {A : Option Addr} {l : List Int} (h : RdJ w A l) {j : Nat} {x : Int} (he : l[j]? = some x) : ∃ b o, A = some ⟨b, o, none⟩ ∧ b < w.heap.size ∧ ∀ j x, l[j]? = some x → w.cell? ⟨b, o + j, none⟩ = some (.int .i64 x) := by
  rcases h with rfl | h
  · simp at he
  · exact h
theorem RdJ.below {w w' : World} {A : Option Addr} {l : List Int} (h : RdJ w A l) (hb : Below w.heap.size w w') : RdJ w' A l := by
  rcases h with h | ⟨b, o, e, hq, hc⟩
  · exact .inl h
  · exact .inr ⟨b, o, e, Nat.lt_of_lt_of_le hq hb.size, fun j x hx => (hb.cell (p := ⟨b, o + j, none⟩) hq).trans (hc j x hx)⟩
theorem take_more {α : Type} {l l' : List α} {j : Nat} {x y : α} (h : l.take j = l'.take j) (hx : l[j]? = some x) (hy : l'[j]? = some y) (e : x = y) : l.take (j + 1) = l'.take (j + 1) := by
  rw [List.take_add_one, List.take_add_one, h, hx, hy, e]
set_option maxHeartbeats 2000000 in
theorem ints_any (l l' : List Int) (A A' : Option Addr) (c c' : Nat) (w : World) (hr : RdJ w A l) (hr' : RdJ w A' l') (hl : l.length ≤ 1048576) (hl' : l'.length ≤ 1048576) :
    Calls Tryz.prog 25 #[.slice A l.length c, .slice A' l'.length c'] w fun e w' => e = .returned (.bool (decide (l = l'))) ∧ Below w.heap.size w w' := by
  obtain ⟨n, hn⟩ : ∃ n, n = l.length := ⟨_, rfl⟩
  obtain ⟨n', hn'⟩ : ∃ n', n' = l'.length := ⟨_, rfl⟩
  have HN := Lib.hid hn
  have HN' := Lib.hid hn'
  rw [← hn, ← hn']
  rw [← hn] at hl
  have HR := Lib.hid hr
  have HR' := Lib.hid hr'
  clear hn hn' hr hr' hl'
  by_cases hnn : n = n'
  · subst hnn
    go_enter Tryz.func25, Tryz.ntmps25
    go_wp2_with fail
    go_loopw [5] (fun s wr => ∃ (j : Nat), s = .int .i64 (j : Int) ∧ j ≤ n ∧ Hid (l.take j = l'.take j) ∧ Below w.heap.size w wr) (fun s _ => n - (intOf s).toNat)
    case atStart => exact ⟨0, rfl, Nat.zero_le _, by show _ = _; simp, Below.refl _ _⟩
    case round =>
      obtain ⟨j, rfl, hj, HT, hB⟩ := hrel
      have HB := Lib.hid hB
      clear hB
      by_cases hlt : j < n
      · have hltI : (j : Int) < (n : Int) := by omega
        obtain ⟨x, hx⟩ : ∃ x, l[j]? = some x := ⟨_, List.getElem?_eq_getElem (by rw [← HN.out]; exact hlt)⟩
        obtain ⟨y, hy⟩ : ∃ y, l'[j]? = some y := ⟨_, List.getElem?_eq_getElem (by rw [← HN'.out]; exact hlt)⟩
        obtain ⟨b, o, rfl, hq, hc⟩ := HR.out.at hx
        obtain ⟨b', o', rfl, hq', hc'⟩ := HR'.out.at hy
        have k1 := (HB.out.cell (p := ⟨b, o + j, none⟩) hq).trans (hc j x hx)
        have k2 := (HB.out.cell (p := ⟨b', o' + j, none⟩) hq').trans (hc' j y hy)
        have HX := Lib.hid hx
        have HY := Lib.hid hy
        clear hc hc' hx hy
        go_wp2_with fail
        go_quiet (fail)
        by_cases hxy : x = y
        · have hd : (x != y) = false := by simp [hxy]
          go_wp2_with fail
          refine ⟨⟨j + 1, by go_num, by omega, take_more HT.out HX.out HY.out hxy, ndrew HB.out nq⟩, by simp [intOf]; omega⟩
        · have hd : (x != y) = true := by simp [hxy]
          go_wp2_with fail
          go_ret
          refine ⟨?_, ndrew HB.out nq⟩
          rw [decide_eq_false fun e => hxy (by
            have h1 := HX.out
            rw [e, HY.out] at h1
            injection h1 with h1
            exact h1.symm)]
          rfl
      · have hltI : ¬ (j : Int) < (n : Int) := by omega
        have HJE : Hid (j = n) := by show j = n; omega
        go_wp2_with fail
        go_ret
        refine ⟨?_, HB.out⟩
        have h1 := HT.out
        rw [HJE.out, List.take_of_length_le (by rw [← HN.out]; exact Nat.le_refl _), List.take_of_length_le (by rw [← HN'.out]; exact Nat.le_refl _)] at h1
        rw [decide_eq_true h1]
        rfl
  · go_enter Tryz.func25, Tryz.ntmps25
    go_wp2_with fail
    go_ret
    refine ⟨?_, Below.refl _ _⟩
    rw [decide_eq_false fun e => hnn (by rw [HN.out, HN'.out, e])]
    rfl
set_option maxHeartbeats 2000000 in
theorem texts_any (l l' : List (List Nat)) (A A' : Option Addr) (c c' : Nat) (w : World) (hr : RdS w A l) (hr' : RdS w A' l') (hl : l.length ≤ 1048576) (hl' : l'.length ≤ 1048576) (hok : ∀ x ∈ l, Codes x) (hok' : ∀ x ∈ l', Codes x) :
    Calls Tryz.prog 26 #[.slice A l.length c, .slice A' l'.length c'] w fun e w' => e = .returned (.bool (decide (l = l'))) ∧ Below w.heap.size w w' := by
  obtain ⟨n, hn⟩ : ∃ n, n = l.length := ⟨_, rfl⟩
  obtain ⟨n', hn'⟩ : ∃ n', n' = l'.length := ⟨_, rfl⟩
  have HN := Lib.hid hn
  have HN' := Lib.hid hn'
  rw [← hn, ← hn']
  rw [← hn] at hl
  have HR := Lib.hid hr
  have HR' := Lib.hid hr'
  have HO := Lib.hid hok
  have HO' := Lib.hid hok'
  clear hn hn' hr hr' hl' hok hok'
  by_cases hnn : n = n'
  · subst hnn
    go_enter Tryz.func26, Tryz.ntmps26
    go_wp2_with fail
    go_loopw [5] (fun s wr => ∃ (j : Nat), s = .int .i64 (j : Int) ∧ j ≤ n ∧ Hid (l.take j = l'.take j) ∧ Below w.heap.size w wr) (fun s _ => n - (intOf s).toNat)
    case atStart => exact ⟨0, rfl, Nat.zero_le _, by show _ = _; simp, Below.refl _ _⟩
    case round =>
      obtain ⟨j, rfl, hj, HT, hB⟩ := hrel
      have HB := Lib.hid hB
      clear hB
      by_cases hlt : j < n
      · have hltI : (j : Int) < (n : Int) := by omega
        obtain ⟨x, hx⟩ : ∃ x, l[j]? = some x := ⟨_, List.getElem?_eq_getElem (by rw [← HN.out]; exact hlt)⟩
        obtain ⟨y, hy⟩ : ∃ y, l'[j]? = some y := ⟨_, List.getElem?_eq_getElem (by rw [← HN'.out]; exact hlt)⟩
        obtain ⟨b, o, rfl, hq, hc⟩ := HR.out.at hx
        obtain ⟨b', o', rfl, hq', hc'⟩ := HR'.out.at hy
        have k1 := (HB.out.cell (p := ⟨b, o + j, none⟩) hq).trans (hc j x hx)
        have k2 := (HB.out.cell (p := ⟨b', o' + j, none⟩) hq').trans (hc' j y hy)
        have HX := Lib.hid hx
        have HY := Lib.hid hy
        have heq : ((str x).toList == (str y).toList) = decide (x = y) := str_beq (HO.out x (List.mem_of_getElem? hx)) (HO'.out y (List.mem_of_getElem? hy))
        obtain ⟨d, hd⟩ : ∃ d, d = decide (x = y) := ⟨_, rfl⟩
        rw [← hd] at heq
        have HD := Lib.hid hd
        clear hc hc' hx hy hd
        go_wp2_with fail
        go_quiet (fail)
        cases d
        · have hxy : x ≠ y := fun e => by
            have := HD.out
            rw [decide_eq_true e] at this
            cases this
          have HXY := Lib.hid hxy
          clear hxy
          go_wp2_with fail
          go_ret
          refine ⟨?_, ndrew HB.out nq⟩
          rw [decide_eq_false fun e => HXY.out (by
            have h1 := HX.out
            rw [e, HY.out] at h1
            injection h1 with h1
            exact h1.symm)]
          rfl
        · have hxy : x = y := of_decide_eq_true HD.out.symm
          have HXY := Lib.hid hxy
          clear hxy
          go_wp2_with fail
          exact ⟨⟨j + 1, by go_num, by omega, take_more HT.out HX.out HY.out HXY.out, ndrew HB.out nq⟩, by simp [intOf]; omega⟩
      · have hltI : ¬ (j : Int) < (n : Int) := by omega
        have HJE : Hid (j = n) := by show j = n; omega
        go_wp2_with fail
        go_ret
        refine ⟨?_, HB.out⟩
        have h1 := HT.out
        rw [HJE.out, List.take_of_length_le (by rw [← HN.out]; exact Nat.le_refl _), List.take_of_length_le (by rw [← HN'.out]; exact Nat.le_refl _)] at h1
        rw [decide_eq_true h1]
        rfl
  · go_enter Tryz.func26, Tryz.ntmps26
    go_wp2_with fail
    go_ret
    refine ⟨?_, Below.refl _ _⟩
    rw [decide_eq_false fun e => hnn (by rw [HN.out, HN'.out, e])]
    rfl
theorem first_none (k : Value) (A : Option Addr) (c : Nat) (w : World) : Calls Tryz.prog 22 #[.agg #[k, .slice A 0 c]] w fun e w' => e = .returned (.string ⟨#[]⟩) ∧ Below w.heap.size w w' := by
  go_enter Tryz.func22, Tryz.ntmps22
  go_wp2_with fail
  go_ret
  exact ⟨rfl, (Below.refl _ w).alloc (Nat.le_refl _) _⟩
end Go.Proofs.YtcjljfjgekiocaaGreatDoor

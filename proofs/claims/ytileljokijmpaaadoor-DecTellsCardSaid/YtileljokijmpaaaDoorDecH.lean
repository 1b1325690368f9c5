/- Contract: bytes.TrimLeft, at "0". -/
import Derived.Test.YtileljokijmpaaaDoorDecB
namespace Go.Proofs.YtileljokijmpaaaDoor
open Go.RowKit Go.Shelf

set_option linter.unusedVariables false

theorem drop_zeros : ∀ {T : List Nat} {k : Nat}, k ≤ T.length → (∀ j, j < k → T[j]?.getD 0 = 48) → (k < T.length → T[k]?.getD 0 ≠ 48) → T.dropWhile (· == 48) = T.drop k
  | [], k, hk, _, _ => by simp at hk; subst hk; rfl
  | c :: T, 0, _, _, h2 => by
    have := h2 (by simp)
    rw [List.dropWhile_cons_of_neg]
    · rfl
    · simpa using this
  | c :: T, k + 1, hk, h1, h2 => by
    have hc : c = 48 := by simpa using h1 0 (by omega)
    rw [List.dropWhile_cons_of_pos (by simp [hc]), List.drop_succ_cons]
    exact drop_zeros (by simpa using hk) (fun j hj => by simpa using h1 (j + 1) (by omega)) (fun hk2 => by simpa using h2 (by simpa using hk2))
theorem slice_one (g o m : Nat) (w' : World) : (Instr.sliceAt 60 (.slice (some ⟨g, o, none⟩) (m + 1) (m + 1)) (some (.int .i64 1)) none none).run Tryd.prog w' = .ok (.slice (some ⟨g, (if m = 0 then o else o + 1), none⟩) m m) w' := by
  rw [run_sliceAt_slice (h := elem62), run_slice_l (ht := elem62) (h0 := by omega) (h1 := by omega), size62]
  by_cases h : m = 0
  · subst h
    simp only [Result.andThen, sliced, if_true]
    rfl
  · have h1 : ¬ m + 1 = Int.toNat 1 := by simp; omega
    simp only [Result.andThen, sliced, if_neg h1, if_neg h, Option.map_some, Nat.mul_one, Addr.add_lit]
    rfl
def TrimPost (g : Nat) (T : List Nat) (w : World) (e : Ending) (w' : World) : Prop :=
  (∃ k, T.dropWhile (· == 48) = T.drop k ∧ k ≤ T.length ∧ e = .returned (if k = T.length then .slice none 0 0 else .slice (some ⟨g, k, none⟩) (T.length - k) (T.length - k))) ∧ w' = w

set_option maxRecDepth 100000 in
set_option maxHeartbeats 4000000 in
theorem trimByte_any (g n : Nat) (T : List Nat) (w : World) (hn : T.length = n) (hc : ∀ j, j < n → w.cell? ⟨g, j, none⟩ = some (bv (T[j]?.getD 0))) (hl : n ≤ 67108864) :
    Calls Tryd.prog 54 #[.slice (some ⟨g, 0, none⟩) n n, .int .u8 48] w (TrimPost g T w) := by
  have HN := Lib.hid hn
  clear hn
  go_enter Tryd.func54, Tryd.ntmps54
  go_wp2
  go_loopw [0] (fun s wr => ∃ k m o : Nat, n = k + m ∧ s = .slice (some ⟨g, o, none⟩) m m ∧ (0 < m → o = k) ∧ (∀ j, j < k → T[j]?.getD 0 = 48) ∧ wr = w) (fun s _ => lenOf s)
  case atStart => exact ⟨0, n, 0, by omega, rfl, fun _ => rfl, fun j hj => by omega, rfl⟩
  case round =>
    obtain ⟨k, m, o, hkm, rfl, ho, hz, rfl⟩ := hrel
    rcases m with _ | m
    · have HZ := Lib.hid hz
      have HK := Lib.hid hkm
      clear hz ho hc hkm
      go_wp2
      go_ret
      exact ⟨⟨k, drop_zeros (by rw [HN.out, HK.out]; omega) HZ.out (fun h => by have := HN.out; have := HK.out; omega), by rw [HN.out, HK.out]; omega, by rw [if_pos (by rw [HN.out, HK.out]; omega)]; rfl⟩, rfl⟩
    · obtain rfl := ho (by omega)
      have hx := hc o (by omega)
      have hsl := slice_one g o m
      have hstep : T[o]?.getD 0 = 48 → ∀ j, j < o + 1 → T[j]?.getD 0 = 48 := fun h j hj => by
        rcases Nat.lt_or_ge j o with h1 | h1
        · exact hz j h1
        · obtain rfl : j = o := by omega
          exact h
      have ho2 : 0 < m → (if m = 0 then o else o + 1) = o + 1 := fun h => by rw [if_neg (by omega)]
      have HNE : Hid (T[o]?.getD 0 ≠ 48 → T.dropWhile (· == 48) = T.drop o) := fun h => drop_zeros (by rw [HN.out]; omega) hz (fun _ => h)
      generalize T[o]?.getD 0 = c at *
      generalize (if m = 0 then o else o + 1) = o2 at *
      have HST := Lib.hid hstep
      have HO2 := Lib.hid ho2
      have HK := Lib.hid hkm
      have hmn : m + 1 ≤ 67108864 := by omega
      unfold bv at hx
      clear hstep ho2 hz hc hkm
      by_cases h48 : c = 48
      · subst h48
        go_wp2
        go_roundw
        case rel => exact ⟨o + 1, m, o2, by have := HK.out; omega, rfl, HO2.out, HST.out rfl, trivial⟩
        case measure => simp [lenOf]
      · have hne : ¬ ((c : Int) = 48) := by omega
        go_wp2
        go_ret
        exact ⟨⟨o, HNE.out h48, by rw [HN.out, HK.out]; omega, by rw [if_neg (by rw [HN.out, HK.out]; omega), HN.out, HK.out, Nat.add_sub_cancel_left]; rfl⟩, rfl⟩

set_option maxRecDepth 100000 in
set_option maxHeartbeats 4000000 in
theorem trimLeft_any (g n : Nat) (T : List Nat) (w : World) (hn : T.length = n) (hc : ∀ j, j < n → w.cell? ⟨g, j, none⟩ = some (bv (T[j]?.getD 0))) (hl : n ≤ 67108864) (h0 : 0 < n) :
    Calls Tryd.prog 34 #[.slice (some ⟨g, 0, none⟩) n n, .string ⟨#[48]⟩] w (TrimPost g T w) := by
  have c := trimByte_any g n T w hn hc hl
  have hn0 : ((n : Int) == 0) = false := beq_eq_false_iff_ne.2 (by omega)
  clear hc hn hl
  go_enter Tryd.func34, Tryd.ntmps34
  go_wp2_with fail
  refine c.mono ?_
  rintro e w1 ⟨⟨k, hk, hkl, rfl⟩, rfl⟩
  have HK := Lib.hid hk
  clear c hk
  generalize hv : (if k = T.length then Value.slice none 0 0 else .slice (some ⟨g, k, none⟩) (T.length - k) (T.length - k)) = v at *
  have HV := Lib.hid hv
  clear hv
  go_wp2
  go_ret
  exact ⟨⟨k, HK.out, hkl, by rw [HV.out]; rfl⟩, rfl⟩

end Go.Proofs.YtileljokijmpaaaDoor

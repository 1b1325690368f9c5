/- The reference's text of a number. -/
import Derived.Test.YtdkdgijcoialbaaGreatDoorBudV
import Derived.Test.YtdkdgijcoialbaaGreatDoorBudF
namespace Go.Proofs.YtdkdgijcoialbaaGreatDoor
open Go.RowKit

set_option linter.unusedVariables false
set_option linter.unusedSimpArgs false

theorem dec_txt (n : Nat) : Lib.decDigits n = (txt n).map UInt8.ofNat := by
  induction n using Nat.strongRecOn with
  | _ n ih =>
    unfold txt
    by_cases h : n < 10
    · rw [Lib.decDigits, dif_pos h, nd, dif_pos h]
      simp [pad, Nat.mod_eq_of_lt h]
    · rw [Lib.decDigits, dif_neg h, nd, dif_neg h, ih (n / 10) (by omega)]
      simp [pad, txt]
theorem itoaS_txt (n : Nat) : itoaS (n : Int) = str (txt n) := by
  unfold itoaS str
  rw [Lib.itoa_nonneg, dec_txt]
theorem whole_zero (A : Option Addr) (cap : Nat) (w : World) :
    Calls Tryz.prog 64 #[.slice A 0 cap, .bool false] w fun e w' => e = .returned (.agg #[.bool false, .slice none 0 0]) ∧ Below w.heap.size w w' := by
  go_enter Tryz.func64, Tryz.ntmps64
  go_wp2
  refine bodyPost_ret (v := .agg #[.bool false, .slice none 0 0]) ?_ rfl ⟨rfl, (Below.refl _ w).alloc (Nat.le_refl _) _⟩
  simp [results, Tryz.results64, go_sem]
theorem whole_pos (A : Option Addr) (cap n : Nat) (w : World) (hn : ¬ n = 0) :
    Calls Tryz.prog 64 #[.slice A n cap, .bool false] w fun e w' => e = .returned (.agg #[.bool false, .slice A n cap]) ∧ Below w.heap.size w w' := by
  go_enter Tryz.func64, Tryz.ntmps64
  go_wp2
  refine bodyPost_ret (v := .agg #[.bool false, .slice A n cap]) ?_ rfl ⟨rfl, (Below.refl _ w).alloc (Nat.le_refl _) _⟩
  simp [results, Tryz.results64, go_sem]
theorem lim_small {n : Nat} (h : n < 18446744073709551616) : (lim n).length ≤ 2 := lim_length_le.2 (by omega)
theorem own_off {w : World} {B b o : Nat} {v u : Value} {xs : List Nat} (h : Own w B v xs) (hb : b < B) : Own (w.setCell ⟨b, o, none⟩ u) B v xs := by
  refine ⟨h.1, ?_⟩
  rcases h.2 with h2 | ⟨g, cap, cur, e, hg, hh, r⟩
  · exact .inl h2
  · exact .inr ⟨g, cap, cur, e, hg, (Below.heap_setCell _ _ _ _ (show g ≠ b by omega)).trans hh, r⟩
def Of5 (n : Nat) (w : World) (e : Ending) (w' : World) : Prop := (∃ A c, e = .returned (.agg #[.bool false, .slice A (lim n).length c]) ∧ Own w' w.heap.size (.slice A (lim n).length c) (lim n)) ∧ Below w.heap.size w w'
set_option maxHeartbeats 2000000 in
theorem of5_any (n : Nat) (w : World) (hn : n ≤ 1099511627776) :
    Calls Tryz.prog 51 #[.int .i64 (n : Int)] w (Of5 n w) := by
  obtain ⟨W, hW⟩ : ∃ W, w.alloc (.cells #[.bool false, .slice none 0 0] 27) = W := ⟨_, rfl⟩
  have HB := Lib.hid (show Below w.heap.size w W from hW ▸ (Below.refl _ w).alloc (Nat.le_refl _) _)
  have HX := Lib.hid (show W.heap[w.heap.size]? = some (.cells #[.bool false, .slice none 0 0] 27 (0, 0)) from hW ▸ lone_new w _ _)
  have HL := Lib.hid (Array.getElem?_eq_some_iff.1 HX.out).1
  have c1 := Lib.hid (rof_any n W (by omega))
  have hn2 : (n : Int) < 18446744073709551616 := by omega
  rcases Nat.eq_zero_or_pos (lim n).length with h0 | h0
  · have hx : lim n = [] := List.eq_nil_of_length_eq_zero h0
    have HE := Lib.hid hx
    go_enter Tryz.func51, Tryz.ntmps51
    clear h0 hx
    go_wp2_with (first
      | ((with_reducible refine c1.out.mono ?_); rintro e w1 ⟨⟨v, rfl, ho⟩, hb⟩
         obtain ⟨A, cap, rfl, h1, h2, h3⟩ := ho.rd (lim_limbs n)
         rw [HE.out]
         have HB1 := Lib.hid hb
         have hx1 := (hb.block _ HL.out).trans HX.out
         have HX1 := Lib.hid hx1
         clear ho h1 h2 h3 hb hx1)
      | ((with_reducible refine (whole_zero _ _ w1).mono ?_); rintro e w2 ⟨rfl, hb⟩
         have HB2 := Lib.hid hb
         have hx2 := (hb.block _ (Array.getElem?_eq_some_iff.1 HX1.out).1).trans HX1.out
         have y0 : w2.cell? ⟨w.heap.size, 0, none⟩ = some (.bool false) := (cell_of hx2 0).trans rfl
         have y1 : w2.cell? ⟨w.heap.size, 1, none⟩ = some (.slice none 0 0) := (cell_of hx2 1).trans rfl
         have f0 := frozen_of hx2 0
         have f1 := frozen_of hx2 1
         clear hb hx2))
    have h1 := HB.out.trans (HB1.out.mono HB.out.size)
    have h2 := h1.trans (HB2.out.mono h1.size)
    refine bodyPost_ret (v := .agg #[.bool false, .slice none 0 0]) ?_ rfl ⟨⟨none, 0, by rw [HE.out]; rfl, by rw [HE.out]; exact Own.nil _ _⟩, (h2.setCell (p := ⟨w.heap.size, 0, none⟩) (Nat.le_refl _) _).setCell (p := ⟨w.heap.size, 1, none⟩) (Nat.le_refl _) _⟩
    simp [results, Tryz.results51, go_sem, y0, y1]
  · have hnz : ¬ (lim n).length = 0 := by omega
    clear h0
    go_enter Tryz.func51, Tryz.ntmps51
    go_wp2_with (first
      | ((with_reducible refine c1.out.mono ?_); rintro e w1 ⟨⟨v, rfl, ho⟩, hb⟩
         obtain ⟨A, cap, rfl, h1, h2, h3⟩ := ho.rd (lim_limbs n)
         have HO := Lib.hid ho
         have HB1 := Lib.hid hb
         have hx1 := (hb.block _ HL.out).trans HX.out
         have HX1 := Lib.hid hx1
         clear ho h1 h2 h3 hb hx1)
      | ((with_reducible refine (whole_pos _ _ _ w1 hnz).mono ?_); rintro e w2 ⟨rfl, hb⟩
         have HB2 := Lib.hid hb
         have hx2 := (hb.block _ (Array.getElem?_eq_some_iff.1 HX1.out).1).trans HX1.out
         have y0 : w2.cell? ⟨w.heap.size, 0, none⟩ = some (.bool false) := (cell_of hx2 0).trans rfl
         have y1 : w2.cell? ⟨w.heap.size, 1, none⟩ = some (.slice none 0 0) := (cell_of hx2 1).trans rfl
         have f0 := frozen_of hx2 0
         have f1 := frozen_of hx2 1
         clear hb hx2))
    have h1 := HB.out.trans (HB1.out.mono HB.out.size)
    have h2 := h1.trans (HB2.out.mono h1.size)
    have ho2 := HO.out.below HB2.out
    have hle := HB.out.size
    refine bodyPost_ret (v := .agg #[.bool false, .slice A (lim n).length cap]) ?_ rfl ⟨⟨A, cap, rfl, ((own_off (own_off ho2 HL.out) HL.out).more hle)⟩, (h2.setCell (p := ⟨w.heap.size, 0, none⟩) (Nat.le_refl _) _).setCell (p := ⟨w.heap.size, 1, none⟩) (Nat.le_refl _) _⟩
    simp [results, Tryz.results51, go_sem, y0, y1]
theorem show11_any (n : Nat) (w : World) (hn : n ≤ 1099511627776) :
    Calls Tryz.prog 33 #[.int .i64 (n : Int)] w fun e w' => e = .returned (.string (itoaS (n : Int))) ∧ Below w.heap.size w w' := by
  rw [itoaS_txt]
  have c1 := Lib.hid (of5_any n w hn)
  have hm : mayb (lim n) = true := mayb_lim (Nat.le_trans (lim_small (by omega)) (by decide))
  have HM := Lib.hid hm
  clear hm
  go_enter Tryz.func33, Tryz.ntmps33
  go_wp2_with (first
    | ((with_reducible refine c1.out.mono ?_); rintro e w1 ⟨⟨A, c, rfl, ho⟩, hb⟩
       have ha := ho.below ((Below.refl _ w1).alloc (Nat.le_refl _) (.cells #[.bool false, .slice A (lim n).length c] 27))
       obtain ⟨A', c', e1, h1, h2, h3⟩ := ha.rd (lim_limbs n)
       injection e1 with e2 e3 e4
       subst e2 e4
       have C2 := Lib.hid (rshow_any A c (lim n) _ h3 h1 h2)
       have HB1 := Lib.hid hb
       clear ho ha h1 h2 h3 hb)
    | ((with_reducible refine C2.out.mono ?_); rintro e w2 ⟨rfl, hb⟩; have HB2 := Lib.hid hb; clear hb))
  go_ret
  rw [sShow_yes HM.out, val_lim]
  exact ⟨rfl, (HB1.out.alloc HB1.out.size _).trans (HB2.out.mono (by simp; have := HB1.out.size; omega))⟩
end Go.Proofs.YtdkdgijcoialbaaGreatDoor

/- Exact says yes of the same nodes. -/
import Derived.Test.YtkmenbicmbaceaaSexQ
namespace Go.Proofs.Ytkmenbicmbaceaa
open Go.RowKit

set_option linter.unusedVariables false
set_option linter.unusedSimpArgs false

def ExactAt (n : Nat) : Prop := ∀ (F : For) (A : Option Addr) (m : Nat) (A' : Option Addr) (m' : Nat) (w : World), F.siz < n → F.siz < 70000 → Kds w F A → Kds w F A' →
  Calls Try.prog 21 #[.slice A F.len m, .slice A' F.len m'] w fun e w' => e = .returned (.bool true) ∧ Below w.heap.size w w'
set_option maxRecDepth 100000 in
set_option maxHeartbeats 8000000 in
theorem ExactAt.step {n : Nat} (ih : ExactAt n) : ExactAt (n + 1) := by
  intro F A m A' m' w hn hz hK hK'
  have hls := For.len_siz F
  go_enter Try.func21, Try.ntmps21
  go_wp2_with fail
  go_loopw [5] (fun i wr => ∃ (j : Nat) (R : For), i = .int .i64 (j : Int) ∧ j + R.len = F.len ∧ R.siz ≤ F.siz ∧ (R = .nil ∨ ∃ b f, A = some ⟨b, f, none⟩ ∧ Nds w R b (f + j * 4)) ∧ (R = .nil ∨ ∃ b f, A' = some ⟨b, f, none⟩ ∧ Nds w R b (f + j * 4)) ∧ Below w.heap.size w wr) (fun i _ => F.len - (intOf i).toNat)
  case atStart =>
    refine ⟨0, F, rfl, Nat.zero_add _, Nat.le_refl _, ?_, ?_, Below.refl _ _⟩
    · rcases hK with h | ⟨b, o, h, h'⟩
      · exact .inl h
      · exact .inr ⟨b, o, h, by simpa using h'⟩
    · rcases hK' with h | ⟨b, o, h, h'⟩
      · exact .inl h
      · exact .inr ⟨b, o, h, by simpa using h'⟩
  case round =>
    obtain ⟨j, R, rfl, hj, hs, hR, hR', hB⟩ := hrel
    cases R with
    | nil =>
      have hj' : j = F.len := hj
      subst hj'
      have HB := Lib.hid hB
      clear hj hs hR hR' hB
      go_wp2
      go_ret
      exact ⟨rfl, HB.out⟩
    | cons k a t c R =>
      rcases hR with hR | ⟨b, f, rfl, h0, h1, h2, h3, h4, h5, ⟨A1, m1, h6, h7⟩, h8⟩
      · cases hR
      rcases hR' with hR' | ⟨b', f', rfl, g0, g1, g2, -, -, -, ⟨A2, m2, g6, g7⟩, g8⟩
      · cases hR'
      have hlen : j < F.len := by simp only [For.len] at hj; omega
      have hcs : c.siz < n := by simp only [For.siz] at hs; omega
      have hcz : c.siz < 70000 := by simp only [For.siz] at hs; omega
      have HJ := Lib.hid (show j + 1 + R.len = F.len by simp only [For.len] at hj; omega)
      have HSZ := Lib.hid (show R.siz ≤ F.siz by simp only [For.siz] at hs; omega)
      have HS : Hid (∀ w2, Below w.heap.size w w2 → (w2.cell? ⟨b, f + j * 4, none⟩ = some (.int .u8 (k : Int)) ∧ w2.cell? ⟨b, f + j * 4 + 1, none⟩ = some (.int .i64 a) ∧ w2.cell? ⟨b, f + j * 4 + 2, none⟩ = some (.string (str t)) ∧ w2.cell? ⟨b, f + j * 4 + 3, none⟩ = some (.slice A1 c.len m1)) ∧
          w2.cell? ⟨b', f' + j * 4, none⟩ = some (.int .u8 (k : Int)) ∧ w2.cell? ⟨b', f' + j * 4 + 1, none⟩ = some (.int .i64 a) ∧ w2.cell? ⟨b', f' + j * 4 + 2, none⟩ = some (.string (str t)) ∧ w2.cell? ⟨b', f' + j * 4 + 3, none⟩ = some (.slice A2 c.len m2)) := fun w2 h => by
        have q : ∀ p v, w.cell? p = some v → w2.cell? p = some v := fun p v hp => (h.cell (World.block_lt_of_cell? w p hp)).trans hp
        exact ⟨⟨q _ _ h0, q _ _ h1, q _ _ h2, q _ _ h6⟩, q _ _ g0, q _ _ g1, q _ _ g2, q _ _ g6⟩
      have C := Lib.hid (fun w2 (h : Below w.heap.size w w2) => ih c A1 m1 A2 m2 w2 hcs hcz ((show Kds w c A1 from h7).keep fun p v hp => (h.cell (World.block_lt_of_cell? w p hp)).trans hp) ((show Kds w c A2 from g7).keep fun p v hp => (h.cell (World.block_lt_of_cell? w p hp)).trans hp))
      have s0 := HS.out wr.drew hB.drew
      have e2 := str_beq h4 h4
      rw [decide_eq_true rfl] at e2
      have e3 : ((str t).toList != (str t).toList) = false := by simp
      have e4 : (a != a) = false := by simp
      have e5 : ((k : Int) != (k : Int)) = false := by simp
      have HB := Lib.hid hB
      have H8 := Lib.hid h8
      have G8 := Lib.hid g8
      have hjn : (j : Int) < (F.len : Int) := by omega
      clear h0 h1 h2 h4 h6 h7 h8 g0 g1 g2 g6 g7 g8 hK hK' hB hs hj
      go_wp2_with fail
      go_region_held3 (fun w2 => (w2.cell? ⟨b, f + j * 4, none⟩ = some (.int .u8 (k : Int)) ∧ w2.cell? ⟨b, f + j * 4 + 1, none⟩ = some (.int .i64 a) ∧ w2.cell? ⟨b, f + j * 4 + 2, none⟩ = some (.string (str t)) ∧ w2.cell? ⟨b, f + j * 4 + 3, none⟩ = some (.slice A1 c.len m1)) ∧
          w2.cell? ⟨b', f' + j * 4, none⟩ = some (.int .u8 (k : Int)) ∧ w2.cell? ⟨b', f' + j * 4 + 1, none⟩ = some (.int .i64 a) ∧ w2.cell? ⟨b', f' + j * 4 + 2, none⟩ = some (.string (str t)) ∧ w2.cell? ⟨b', f' + j * 4 + 3, none⟩ = some (.slice A2 c.len m2)) (first | exact s0 | exact s1) (first
        | (go_at_call 21; (with_reducible refine (C.out _ HB.out.drew).mono ?_); rintro e w3 ⟨rfl, hb3⟩; have HB3 := Lib.hid (HB.out.drew.trans (hb3.mono HB.out.size)); have s1 := HS.out w3 HB3.out; clear hb3))
      clear s0 s1
      go_wp2_with fail
      go_roundw
      case rel =>
        refine ⟨j + 1, R, by go_num, HJ.out, HSZ.out, ?_, ?_, HB3.out⟩
        · exact .inr ⟨b, f, rfl, by have := H8.out; rwa [show f + j * 4 + 4 = f + (j + 1) * 4 from by omega] at this⟩
        · exact .inr ⟨b', f', rfl, by have := G8.out; rwa [show f' + j * 4 + 4 = f' + (j + 1) * 4 from by omega] at this⟩
      case measure => simp [intOf]; omega
theorem exact_any : ∀ n : Nat, ExactAt n
  | 0 => fun _ _ _ _ _ _ h => absurd h (Nat.not_lt_zero _)
  | n + 1 => (exact_any n).step

end Go.Proofs.Ytkmenbicmbaceaa

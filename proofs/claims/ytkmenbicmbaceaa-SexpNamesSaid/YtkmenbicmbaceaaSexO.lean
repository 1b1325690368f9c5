/- SexpPlaces: stands, and the law. -/
import Derived.Test.YtkmenbicmbaceaaSexN
namespace Go.Proofs.Ytkmenbicmbaceaa
open Go.RowKit

set_option linter.unusedVariables false
set_option linter.unusedSimpArgs false

/-- stands says yes of nodes that stand in the text, for so many nodes at most -/
def StandsAt (n : Nat) : Prop := ∀ (L : List Nat) (F : For) (A : Option Addr) (m f u : Nat) (w : World), Codes L → L.length < 70000 → F.siz < n → F.siz < 70000 → Kds w F A → Std L F f u → f ≤ L.length →
  Calls Try.prog 26 #[.string (str L), .slice A F.len m, .int .i64 (f : Int)] w fun e w' => e = .returned (.tuple #[.int .i64 (u : Int), .bool true]) ∧ Below w.heap.size w w'
set_option maxRecDepth 100000 in
set_option maxHeartbeats 4000000 in
theorem StandsAt.step {n : Nat} (ih : StandsAt n) : StandsAt (n + 1) := by
  intro L F A m f u w hc hL hn hl hK hS hf
  have hsz := str_size L
  have hls := For.len_siz F
  go_enter Try.func26, Try.ntmps26
  go_wp2_with fail
  go_loopw [2, 8] (fun fr i wr => ∃ (j g : Nat) (R : For), fr = .int .i64 (g : Int) ∧ i = .int .i64 (j : Int) ∧ j + R.len = F.len ∧ Std L R g u ∧ g ≤ L.length ∧ R.siz ≤ F.siz ∧ (R = .nil ∨ ∃ b o, A = some ⟨b, o, none⟩ ∧ Nds wr R b (o + j * 4)) ∧ Below w.heap.size w wr) (fun _ i _ => F.len - (intOf i).toNat)
  case atStart =>
    refine ⟨0, f, F, rfl, rfl, Nat.zero_add _, hS, hf, Nat.le_refl _, ?_, Below.refl _ _⟩
    rcases hK with h | ⟨b, o, h, h'⟩
    · exact .inl h
    · exact .inr ⟨b, o, h, by simpa using h'⟩
  case round =>
    clear hS
    obtain ⟨j, g, R, rfl, rfl, hj, hS, hg, hs, hR, hB⟩ := hrel
    cases R with
    | nil =>
      have hj' : j = F.len := hj
      have hu : u = g := hS
      subst hj' hu
      have HB2 := Lib.hid hB
      clear hj hs hR hB hS hc
      go_wp2
      go_ret2
      exact ⟨rfl, HB2.out⟩
    | cons k a t c R =>
      rcases hR with hR | ⟨b, o, rfl, h0, h1, h2, h3, h4, h5, ⟨A', m', h6, h7⟩, h8⟩
      · cases hR
      obtain ⟨p, q, rfl, hgp, hpl, hkq, hSR⟩ := hS
      have hlen : j < F.len := by simp only [For.len] at hj; omega
      have hcs : c.siz < n := by simp only [For.siz] at hs; omega
      have hcl : c.siz < 70000 := by simp only [For.siz] at hs; omega
      have HJ := Lib.hid (show j + 1 + R.len = F.len by simp only [For.len] at hj; omega)
      have HS := Lib.hid (show R.siz ≤ F.siz by simp only [For.siz] at hs; omega)
      have HSR := Lib.hid hSR
      have H7 := Lib.hid (show Kds wr c A' from h7)
      have H8 := Lib.hid h8
      have HB2 := Lib.hid hB
      obtain ⟨WA, hWA⟩ : ∃ WA, wr.alloc (.cells #[.int .u8 (k : Int), .int .i64 (p : Int), .string (str t), .slice A' c.len m'] 33) = WA := ⟨_, rfl⟩
      have hbA : Below wr.heap.size wr WA := hWA ▸ (Below.refl _ wr).alloc (Nat.le_refl _) _
      have hnA : WA.heap[wr.heap.size]? = some (.cells #[.int .u8 (k : Int), .int .i64 (p : Int), .string (str t), .slice A' c.len m'] 33 (0, 0)) := hWA ▸ lone_new wr _ _
      obtain ⟨⟨v0, v1⟩, v2, v3⟩ := BoxN.of hnA
      have HBX := Lib.hid (BoxN.of hnA)
      have HBA := Lib.hid hbA
      have h4' := h4
      clear hj hs h7 h8 hB hK hbA hnA hSR h4 hf
      by_cases hk : k = 0
      · rw [if_pos hk] at hkq
        obtain ⟨hSc, hp40⟩ := hkq
        have hpb := byte_at hc hpl (by rw [hsz]; exact hpl)
        rw [hp40] at hpb
        have e1 : ((k : Int) == 0) = true := by simp [hk]
        have C := Lib.hid (ih L c A' m' (p + 1) q WA hc hL hcs hcl (H7.out.below HBA.out) hSc (by omega))
        have HQ := Lib.hid hSc.le
        clear hk hc hSc hp40 h4'
        go_wp2_with fail
        refine C.out.mono ?_
        rintro e w2 ⟨rfl, hb2⟩
        obtain ⟨⟨y0, y1⟩, y2, y3⟩ := HBX.out.keep hb2
        have HB3 := Lib.hid (HB2.out.trans ((HBA.out.trans (hb2.mono HBA.out.size)).mono HB2.out.size))
        have H9 := Lib.hid (H8.out.below (HBA.out.trans (hb2.mono HBA.out.size)))
        clear hb2
        go_wp2_with fail
        go_roundw
        case rel =>
          refine ⟨j + 1, q, R, rfl, by go_num, HJ.out, HSR.out, HQ.out.2 (by omega), HS.out, ?_, HB3.out⟩
          exact .inr ⟨b, o, rfl, by have := H9.out; rwa [show o + j * 4 + 4 = o + (j + 1) * 4 from by omega] at this⟩
        case measure => simp [intOf]; omega
      · rw [if_neg hk] at hkq
        obtain ⟨ht, rfl, htt, hpt⟩ := hkq
        have e1 : ((k : Int) == 0) = false := by simp; omega
        have hx := str_extract L p (p + t.length)
        rw [List.drop_take, show p + t.length - p = t.length from by omega, ← htt] at hx
        have hts := str_size t
        have e2 := str_beq h4' h4'
        rw [decide_eq_true rfl] at e2
        have e3 := str_beq h4' (show Codes [] from fun _ h => by cases h)
        rw [decide_eq_false ht, show (str []).toList = [] from by rw [str_toList]; rfl] at e3
        have HB3 := Lib.hid (HB2.out.trans (HBA.out.mono HB2.out.size))
        have H9 := Lib.hid (H8.out.below HBA.out)
        clear hk hc htt ht h4'
        generalize t.length = tl at *
        obtain ⟨lm, hlm⟩ : ∃ lm : Nat, lm = L.length - p := ⟨_, rfl⟩
        obtain ⟨pe, hpe⟩ : ∃ pe : Nat, pe = p + tl := ⟨_, rfl⟩
        have w1' : (L.length : Int) - (p : Int) = (lm : Int) := by omega
        have w2' : (p : Int) + (tl : Int) = (pe : Int) := by omega
        have w3' : ¬ (lm : Int) < (tl : Int) := by omega
        have w3n : ¬ lm < tl := by omega
        have w3d : decide (lm < tl) = false := decide_eq_false w3n
        have w4n : p ≤ pe := by omega
        have w5n : pe ≤ L.length := by omega
        have w4' : (p : Int) ≤ (pe : Int) := by omega
        have w5' : (pe : Int) ≤ (L.length : Int) := by omega
        have w6' : lm < 70000 := by omega
        have w7' : pe < 70001 := by omega
        have w8' : IntKind.i64.wrap (lm : Int) = (lm : Int) := wrap_small _ (by omega) (by omega)
        have w9' : IntKind.i64.wrap (pe : Int) = (pe : Int) := wrap_small _ (by omega) (by omega)
        rw [← hpe] at hx hpt HSR
        have HPE := Lib.hid hpe
        clear hpe hlm
        go_wp2_with fail
        go_region_held3 (fun w' => w'.cell? ⟨wr.heap.size, 1, none⟩ = some (.int .i64 (p : Int)) ∧ w'.cell? ⟨wr.heap.size, 2, none⟩ = some (.string (str t))) (exact ⟨v1, v2⟩) (fail)
        go_wp2_with fail
        go_roundw
        case rel =>
          refine ⟨j + 1, pe, R, rfl, by go_num, HJ.out, HSR.out, w5n, HS.out, ?_, HB3.out.drew⟩
          refine .inr ⟨b, o, rfl, ?_⟩
          have h9 : Nds WA.drew R b (o + j * 4 + 4) := H9.out.below (Below.refl _ WA).drew
          rwa [show o + j * 4 + 4 = o + (j + 1) * 4 from by omega] at h9
        case measure => simp [intOf]; omega
theorem stands_any : ∀ n : Nat, StandsAt n
  | 0 => fun _ _ _ _ _ _ _ _ _ h => absurd h (Nat.not_lt_zero _)
  | n + 1 => (stands_any n).step

end Go.Proofs.Ytkmenbicmbaceaa

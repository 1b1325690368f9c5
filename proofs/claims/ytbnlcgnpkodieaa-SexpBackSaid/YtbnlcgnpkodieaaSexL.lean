/- The law's read, wrong, awake. -/
import Derived.Test.YtbnlcgnpkodieaaSexK
namespace Go.Proofs.Ytbnlcgnpkodieaa
open Go.RowKit

set_option linter.unusedVariables false
set_option linter.unusedSimpArgs false

def rdd (d : Int) (L : List Nat) : Rd := rd (Mt.new 0 0 0 d) L
/-- what the law's read tells -/
def ReadQ (d : Int) (L : List Nat) (w : World) (e : Ending) (w' : World) : Prop :=
  (∃ v B ks, e = .returned (.tuple #[v, .int .i64 (rdd d L).at', .int .i64 (rdd d L).e]) ∧ w.heap.size ≤ B ∧ KidsC w' B v (rdd d L).F ks ∧ ks.Nodup) ∧ Below w.heap.size w w'
theorem readfn_any (L : List Nat) (d : Int) (w : World) (hc : Codes L) (hl : L.length < 9223372036854775807) (h0 : 0 ≤ d) (h1 : d ≤ 65536) :
    Calls Try.prog 9 #[.string (str L), .int .i64 d] w (ReadQ d L w) := by
  have cn := new_yes 0 0 0 d w ⟨⟨by decide, by decide⟩, ⟨by decide, by decide⟩, ⟨by decide, by decide⟩, h0, h1⟩
  have CR := Lib.hid (fun mb w1 hm => read_any L mb (Mt.new 0 0 0 d) w1 hc hl hm)
  have hv : Hid (rd (Mt.new 0 0 0 d) L = rdd d L) := rfl
  unfold ReadP at CR
  rw [hv.out] at CR
  unfold ReadQ
  generalize rdd d L = r at *
  obtain ⟨rm, rF, ra, re⟩ := r
  dsimp only at CR ⊢
  generalize Mt.new 0 0 0 d = m0 at *
  clear hc hl
  go_enter Try.func9, Try.ntmps9
  go_wp2_with fail
  refine cn.mono ?_
  rintro e w1 ⟨g, hg, rfl, hm, hb1⟩
  have HB := Lib.hid hb1
  have HG := Lib.hid hg
  have cr := CR.out g w1 hm
  clear hm hb1 hg cn
  go_wp2_with fail
  refine cr.mono ?_
  rintro e w2 ⟨⟨v, B, ks, rfl, hB, hK, hn⟩, hm2, hj⟩
  obtain ⟨A, cp, rfl, -⟩ := hK.kds
  have HK := Lib.hid hK
  have HN := Lib.hid hn
  have HBB := Lib.hid hB
  have HJ := Lib.hid (HB.out.trans (hj.below HG.out HB.out.size))
  clear hK hn hB hm2 hj cr
  go_wp2
  go_ret3
  exact ⟨⟨_, B, ks, rfl, Nat.le_trans HB.out.size HBB.out, HK.out, HN.out⟩, HJ.out⟩

theorem wrong_yes (L : List Nat) (d a ee : Int) (w : World) (hc : Codes L) (hl : L.length < 9223372036854775807) (h0 : 0 ≤ d) (h1 : d ≤ 65536) (hF : (rdd d L).F = .nil) (ha : (rdd d L).at' = a) (he : (rdd d L).e = ee) :
    Calls Try.prog 13 #[.string (str L), .int .i64 d, .int .i64 a, .int .i64 ee] w fun e w' => e = .returned (.bool true) ∧ Below w.heap.size w w' := by
  have cr := readfn_any L d w hc hl h0 h1
  unfold ReadQ at cr
  rw [hF, ha, he] at cr
  clear hF ha he hc hl
  go_enter Try.func13, Try.ntmps13
  go_wp2_with fail
  refine cr.mono ?_
  rintro e w1 ⟨⟨v, B, ks, rfl, hB, hK, hn⟩, hb⟩
  obtain ⟨A, cp, rfl, -⟩ := hK.kds
  have e0 : For.nil.len = 0 := rfl
  rw [e0]
  clear hK hn hB cr
  go_wp2
  go_ret
  exact ⟨rfl, hb⟩

def exS : List Nat := [40, 97, 32, 40, 49, 32, 50, 46, 53, 41, 32, 58, 107, 41, 32, 120]
def exKids : For := .cons 5 1 [97] .nil (.cons 0 3 [] (.cons 3 4 [49] .nil (.cons 4 6 [50, 46, 53] .nil .nil)) (.cons 6 11 [58, 107] .nil .nil))
theorem exS_F : (rdd 9 exS).F = .cons 0 0 [] exKids (.cons 5 15 [120] .nil .nil) := by kernel_rfl
theorem exS_a : (rdd 9 exS).at' = 0 := by kernel_rfl
theorem exS_e : (rdd 9 exS).e = 0 := by kernel_rfl
theorem ex1 : (rdd 9 [40, 41, 41]).F = .nil ∧ (rdd 9 [40, 41, 41]).at' = 2 ∧ (rdd 9 [40, 41, 41]).e = 4 := ⟨by kernel_rfl, by kernel_rfl, by kernel_rfl⟩
theorem ex2 : (rdd 9 [40, 40, 41]).F = .nil ∧ (rdd 9 [40, 40, 41]).at' = 3 ∧ (rdd 9 [40, 40, 41]).e = 4 := ⟨by kernel_rfl, by kernel_rfl, by kernel_rfl⟩
theorem ex3 : (rdd 1 [40, 40, 97, 41, 41]).F = .nil ∧ (rdd 1 [40, 40, 97, 41, 41]).at' = 1 ∧ (rdd 1 [40, 40, 97, 41, 41]).e = 46 := ⟨by kernel_rfl, by kernel_rfl, by kernel_rfl⟩
theorem exN : For.nshow 0 [] exKids = [40, 97, 32, 40, 49, 32, 50, 46, 53, 41, 32, 58, 107, 41] := by kernel_rfl

theorem exKids_siz : exKids.siz = 5 := by decide
theorem ex_len : exKids.len = 3 := rfl
set_option maxRecDepth 100000 in
set_option maxHeartbeats 8000000 in
theorem awake_any (w : World) : Calls Try.prog 5 #[] w fun e w' => e = .returned (.bool true) ∧ Below w.heap.size w w' := by
  have cr := readfn_any exS 9 w (codes_lit (by decide)) (by decide) (by decide) (by decide)
  unfold ReadQ at cr
  rw [exS_F, exS_a, exS_e] at cr
  have W1 := Lib.hid (fun w1 => wrong_yes [40, 41, 41] 9 2 4 w1 (codes_lit (by decide)) (by decide) (by decide) (by decide) ex1.1 ex1.2.1 ex1.2.2)
  have W2 := Lib.hid (fun w1 => wrong_yes [40, 40, 41] 9 3 4 w1 (codes_lit (by decide)) (by decide) (by decide) (by decide) ex2.1 ex2.2.1 ex2.2.2)
  have W3 := Lib.hid (fun w1 => wrong_yes [40, 40, 97, 41, 41] 1 1 46 w1 (codes_lit (by decide)) (by decide) (by decide) (by decide) ex3.1 ex3.2.1 ex3.2.2)
  change Calls _ _ #[.string ⟨#[40, 97, 32, 40, 49, 32, 50, 46, 53, 41, 32, 58, 107, 41, 32, 120]⟩, .int .i64 9] w _ at cr
  have e0 : (For.cons 0 0 [] exKids (.cons 5 15 [120] .nil .nil)).len = 2 := rfl
  go_enter Try.func5, Try.ntmps5
  go_wp2_with fail
  refine cr.mono ?_
  rintro e w1 ⟨⟨v, B, ks, rfl, hB, hK, hn⟩, hb⟩
  obtain ⟨A, cp, rfl, hKd⟩ := hK.kds
  rw [e0]
  rcases hKd with h | ⟨b, o, rfl, g0, g1, g2, -, -, -, ⟨A1, m1, g3, hKK⟩, g4, g5, g6, -, -, -, ⟨A2, m2, g7, -⟩, -⟩
  · cases h
  have HKK := Lib.hid (show Kds w1 exKids A1 from hKK)
  rcases hKK with h | ⟨b', o', rfl, p0, p1, p2, -, -, -, ⟨A3, m3, p3, -⟩, p4, p5, p6, -⟩
  · cases h
  have HB := Lib.hid hb
  rw [ex_len] at g3
  have gx : w1.cell? ⟨b, o + 4 + 2, none⟩ = some (.string ⟨#[120]⟩) := g6
  clear g6
  obtain ⟨WA, hWA⟩ : ∃ WA, w1.alloc (.cells #[.int .u8 0, .int .i64 0, .string (str []), .slice (some ⟨b', o', none⟩) 3 m1] 28) = WA := ⟨_, rfl⟩
  have hbA : Below w1.heap.size w1 WA := hWA ▸ (Below.refl _ w1).alloc (Nat.le_refl _) _
  have hnA : WA.heap[w1.heap.size]? = some (.cells #[.int .u8 0, .int .i64 0, .string (str []), .slice (some ⟨b', o', none⟩) 3 m1] 28 (0, 0)) := hWA ▸ lone_new w1 _ _
  have HBA := Lib.hid hbA
  have HBX : Hid (∀ w2, Below WA.heap.size WA w2 → (w2.cell? ⟨w1.heap.size, 0, none⟩ = some (.int .u8 0) ∧ w2.cell? ⟨w1.heap.size, 1, none⟩ = some (.int .i64 0)) ∧ w2.cell? ⟨w1.heap.size, 2, none⟩ = some (.string (str [])) ∧ w2.cell? ⟨w1.heap.size, 3, none⟩ = some (.slice (some ⟨b', o', none⟩) 3 m1)) := fun w2 h => by
    have h2 := (h.block _ (kind_lt hnA)).trans hnA
    exact ⟨⟨by rw [cell_of h2]; rfl, by rw [cell_of h2]; rfl⟩, by rw [cell_of h2]; rfl, by rw [cell_of h2]; rfl⟩
  obtain ⟨⟨x0, x1⟩, x2, x3⟩ := HBX.out WA (Below.refl _ _)
  have r5 := keep_below hbA _ _ p5
  have HKA := Lib.hid (HKK.out.below hbA)
  have CS : Hid (∀ w2, Kds w2 exKids (some ⟨b', o', none⟩) → Calls Try.prog 6 #[.agg #[.int .u8 0, .int .i64 0, .string (str []), .slice (some ⟨b', o', none⟩) 3 m1]] w2 fun e w' => e = .returned (.string ⟨#[40, 97, 32, 40, 49, 32, 50, 46, 53, 41, 32, 58, 107, 41]⟩) ∧ Below w2.heap.size w2 w') := fun w2 h => by
    have c := show_any 0 0 [] exKids (some ⟨b', o', none⟩) m1 w2 (by decide) (fun _ h => by cases h) (by decide) (by decide) h (fun _ => by decide)
    rw [exN] at c
    exact c
  have CZ : Hid (∀ w2, Kds w2 exKids (some ⟨b', o', none⟩) → Calls Try.prog 11 #[.agg #[.int .u8 0, .int .i64 0, .string (str []), .slice (some ⟨b', o', none⟩) 3 m1]] w2 fun e w' => e = .returned (.int .i64 6) ∧ Below w2.heap.size w2 w') := fun w2 h => size_any 6 0 0 [] exKids (some ⟨b', o', none⟩) m1 w2 (by decide) (by decide) (by decide) h
  have CD : Hid (∀ w2, Kds w2 exKids (some ⟨b', o', none⟩) → Calls Try.prog 8 #[.agg #[.int .u8 0, .int .i64 0, .string (str []), .slice (some ⟨b', o', none⟩) 3 m1]] w2 fun e w' => e = .returned (.int .i64 2) ∧ Below w2.heap.size w2 w') := fun w2 h => depth_any 6 0 0 [] exKids (some ⟨b', o', none⟩) m1 w2 (by decide) (by decide) (by decide) h
  have CH : Hid (∀ w2, Kds w2 exKids (some ⟨b', o', none⟩) → Calls Try.prog 12 #[.agg #[.int .u8 0, .int .i64 0, .string (str []), .slice (some ⟨b', o', none⟩) 3 m1]] w2 fun e w' => e = .returned (.string ⟨#[97]⟩) ∧ Below w2.heap.size w2 w') := fun w2 h => head_any 0 0 [] exKids (some ⟨b', o', none⟩) m1 w2 (by decide) (by decide) h (by decide)
  clear hK hn hB hb cr hbA hnA
  go_wp2_with fail
  refine (CS.out WA HKA.out).mono ?_
  rintro e w2 ⟨rfl, hb2⟩
  obtain ⟨⟨y0, y1⟩, y2, y3⟩ := HBX.out w2 hb2
  have HB2 := Lib.hid hb2
  clear x0 x1 x2 x3 hb2
  go_wp2_with fail
  refine (CZ.out w2 (HKA.out.below HB2.out)).mono ?_
  rintro e w3 ⟨rfl, hb3⟩
  obtain ⟨⟨y0, y1⟩, y2, y3⟩ := HBX.out w3 (HB2.out.trans (hb3.mono HB2.out.size))
  have HB3 := Lib.hid (HB2.out.trans (hb3.mono HB2.out.size))
  clear hb3
  go_wp2_with fail
  refine (CD.out w3 (HKA.out.below HB3.out)).mono ?_
  rintro e w4 ⟨rfl, hb4⟩
  obtain ⟨⟨y0, y1⟩, y2, y3⟩ := HBX.out w4 (HB3.out.trans (hb4.mono HB3.out.size))
  have HB4 := Lib.hid (HB3.out.trans (hb4.mono HB3.out.size))
  clear hb4
  go_wp2_with fail
  refine (CH.out w4 (HKA.out.below HB4.out)).mono ?_
  rintro e w5 ⟨rfl, hb5⟩
  obtain ⟨⟨y0, y1⟩, y2, y3⟩ := HBX.out w5 (HB4.out.trans (hb5.mono HB4.out.size))
  have HB5 := Lib.hid (HB4.out.trans (hb5.mono HB4.out.size))
  clear hb5
  go_wp2_with fail
  refine (W1.out w5).mono ?_
  rintro e w6 ⟨rfl, hb6⟩
  obtain ⟨⟨y0, y1⟩, y2, y3⟩ := HBX.out w6 (HB5.out.trans (hb6.mono HB5.out.size))
  have HB6 := Lib.hid (HB5.out.trans (hb6.mono HB5.out.size))
  clear hb6
  go_wp2_with fail
  refine (W2.out w6).mono ?_
  rintro e w7 ⟨rfl, hb7⟩
  obtain ⟨⟨y0, y1⟩, y2, y3⟩ := HBX.out w7 (HB6.out.trans (hb7.mono HB6.out.size))
  have HB7 := Lib.hid (HB6.out.trans (hb7.mono HB6.out.size))
  clear hb7
  go_wp2_with fail
  refine (W3.out w7).mono ?_
  rintro e w8 ⟨rfl, hb8⟩
  have HB8 := Lib.hid (HB7.out.trans (hb8.mono HB7.out.size))
  clear hb8
  go_wp2
  go_ret
  exact ⟨rfl, HB.out.trans ((HBA.out.trans (HB8.out.mono HBA.out.size)).mono HB.out.size)⟩

end Go.Proofs.Ytbnlcgnpkodieaa

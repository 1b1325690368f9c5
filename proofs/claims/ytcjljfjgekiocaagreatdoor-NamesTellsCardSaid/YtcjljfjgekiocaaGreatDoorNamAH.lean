/- The law's works: the examples. -/
import Derived.Test.YtcjljfjgekiocaaGreatDoorNamAG
namespace Go.Proofs.YtcjljfjgekiocaaGreatDoor
open Go.RowKit Go.Shelf

set_option linter.unusedVariables false
set_option linter.unusedSimpArgs false

def tb0 : Tb := ⟨[], [], [], 0⟩
def tb1 : Tb := ⟨[([120], 0)], [([120], 0)], [], 1⟩
def tb2 : Tb := ⟨[([120], 0), ([121], 1)], [([120], 0), ([121], 1)], [], 2⟩
def tb3 : Tb := ⟨[([120], 0), ([121], 1)], [([120], 0), ([121], 1)], [([([121], 2), ([122], 3)], [([121], 2), ([122], 3)])], 4⟩
def tb4 : Tb := ⟨[([120], 0), ([121], 1)], [([120], 0), ([121], 1)], [], 4⟩
theorem tb1_is : declT tb0 [120] = tb1 := by kernel_rfl
theorem tb2_is : declT tb1 [121] = tb2 := by kernel_rfl
theorem tb3_is : openT tb2 [[121], [122]] = tb3 := by kernel_rfl
theorem tb4_is : closeT tb3 = tb4 := by kernel_rfl
theorem tb4_x : declT tb4 [120] = tb4 := by kernel_rfl
theorem tb4_le : declT tb4 [60, 61] = tb4 := by kernel_rfl
theorem tb_codes : declC tb0 [120] = 0 ∧ declC tb1 [121] = 0 ∧ openC tb2 [[121], [122]] = 0 ∧ declC tb4 [120] = 6 ∧ declC tb4 [60, 61] = 4 ∧ declV tb0 [120] = 0 ∧ declV tb1 [121] = 1 := ⟨by kernel_rfl, by kernel_rfl, by kernel_rfl, by kernel_rfl, by kernel_rfl, by kernel_rfl, by kernel_rfl⟩
theorem tb_finds : fnd tb3 [121] = some 0 ∧ findV tb3 [121] = 2 ∧ fnd tb4 [121] = some 0 ∧ findV tb4 [121] = 1 ∧ fnd tb4 [122] = none := ⟨by kernel_rfl, by kernel_rfl, by kernel_rfl, by kernel_rfl, by kernel_rfl⟩
theorem codes1 (a : Nat) (h : a < 256) : Codes [a] := fun c hc => by
  rcases List.mem_singleton.1 hc with rfl
  exact h
theorem good1 : GoodT tb1 := tb1_is ▸ GoodT.new.declT (codes1 120 (by decide))
theorem good2 : GoodT tb2 := tb2_is ▸ good1.declT (codes1 121 (by decide))
theorem codes_yz : OkS [[121], [122]] := fun x hx => by
  rcases List.mem_cons.1 hx with rfl | hx
  · exact ⟨codes1 121 (by decide), by decide⟩
  · rcases List.mem_singleton.1 hx with rfl
    exact ⟨codes1 122 (by decide), by decide⟩
theorem good3 : GoodT tb3 := tb3_is ▸ good2.openT fun x hx => (codes_yz x hx).1
theorem good4 : GoodT tb4 := tb4_is ▸ good3.closeT

/-- a call that changes a table leaves a row of numbers that lies apart -/
theorem post_row {w w' : World} {B B' g n : Nat} {T' : Tb} {ks : List Nat} {v : Value} {xs : List Value} (h : TPost w B g T' ks w') (hr : w.ownsRow B' 3 1 v n xs) (hd : ∀ k ∈ nblk v, k ∉ ks) : ∃ ks', TabAt w' B g T' ks' ∧ w'.ownsRow B' 3 1 v n xs ∧ ∀ k ∈ nblk v, k ∉ ks' := by
  obtain ⟨ks', h1, h2, h3⟩ := h
  refine ⟨ks', h1, nown_block hr fun k q => ?_, fun k q r => ?_⟩
  · obtain ⟨q1, c, q2⟩ := nown_kind hr k q
    exact h3.block k (kind_lt2 q2) (hd k q)
  · rcases h2 k r with r | r
    · exact hd k q r
    · obtain ⟨q1, c, q2⟩ := nown_kind hr k q
      have := kind_lt2 q2
      omega
theorem rdj_of {w : World} {B : Nat} {v : Value} {l : List Ent} (h : w.ownsRow B 3 1 v l.length (ics l)) : ∃ A c, v = .slice A l.length c ∧ RdJ w A (l.map fun e => ((e.2 : Nat) : Int)) := by
  obtain ⟨A, c, rfl⟩ := nslice_form h
  refine ⟨A, c, rfl, ?_⟩
  cases l with
  | nil => exact .inl rfl
  | cons a r =>
    obtain ⟨gs, rfl, -, hgs, hcl⟩ := nrow_cells h (by simp)
    refine .inr ⟨gs, 0, rfl, hgs, fun j x hx => ?_⟩
    rw [List.getElem?_map] at hx
    obtain ⟨e, he, rfl⟩ := Option.map_eq_some_iff.1 hx
    rw [Nat.zero_add]
    exact hcl j _ (by unfold ics; rw [List.getElem?_map, he]; rfl)
theorem rds_new (w : World) (ns : List (List Nat)) (t : TypeId) (cs : Array Value) (hcs : cs.toList = ns.map fun x => Value.string (str x)) : RdS (w.alloc (.cells cs t)) (some ⟨w.heap.size, 0, none⟩) ns := by
  refine .inr ⟨w.heap.size, 0, rfl, by simp, fun j x hx => ?_⟩
  have h := cell_of_row (w.alloc (.cells cs t)) w.heap.size (0 + j) _ _ _ (lone_new w cs t)
  rw [h, Nat.zero_add, ← Array.getElem?_toList, hcs, List.getElem?_map, hx]
  rfl
theorem rdj_new (w : World) (ns : List Int) (t : TypeId) (cs : Array Value) (hcs : cs.toList = ns.map fun x => Value.int .i64 x) : RdJ (w.alloc (.cells cs t)) (some ⟨w.heap.size, 0, none⟩) ns := by
  refine .inr ⟨w.heap.size, 0, rfl, by simp, fun j x hx => ?_⟩
  have h := cell_of_row (w.alloc (.cells cs t)) w.heap.size (0 + j) _ _ _ (lone_new w cs t)
  rw [h, Nat.zero_add, ← Array.getElem?_toList, hcs, List.getElem?_map, hx]
  rfl
theorem fresh_b (A : Option Addr) (cap : Nat) (w : World) (hr : RdS w A [[98, 48], [98, 50]]) : Calls Tryz.prog 20 #[.string ⟨#[98]⟩, .slice A 2 cap] w fun e w' => e = .returned (.string ⟨#[98, 49]⟩) ∧ Below w.heap.size w w' := by
  have n0 : ∀ W, Calls Tryz.prog 49 #[.string (str [98, 48]), .string (str [98])] W fun e w' => e = .returned (.tuple #[.int .i64 ((0 : Nat) : Int), .bool true]) ∧ Below W.heap.size W w' := fun W => numbered_yes _ _ [48] 0 W (by kernel_rfl) (by kernel_rfl) (codes1 48 (by decide)) (by kernel_rfl) (by decide) (by kernel_rfl)
  have n2 : ∀ W, Calls Tryz.prog 49 #[.string (str [98, 50]), .string (str [98])] W fun e w' => e = .returned (.tuple #[.int .i64 ((2 : Nat) : Int), .bool true]) ∧ Below W.heap.size W w' := fun W => numbered_yes _ _ [50] 2 W (by kernel_rfl) (by kernel_rfl) (codes1 50 (by decide)) (by kernel_rfl) (by decide) (by kernel_rfl)
  refine fresh_any [98] [[98, 48], [98, 50]] [0, 2] A cap 1 w (codes1 98 (by decide)) (by kernel_rfl) hr rfl (by decide) (fun j x k hx hk => ?_) (by kernel_rfl) (by decide) [49] (by kernel_rfl) (codes1 49 (by decide)) (by kernel_rfl)
  match j with
  | 0 =>
    injection hx with hx
    injection hk with hk
    subst hx hk
    exact ⟨by decide, n0⟩
  | 1 =>
    injection hx with hx
    injection hk with hk
    subst hx hk
    exact ⟨by decide, n2⟩
  | j + 2 => cases hx
set_option maxRecDepth 100000 in
set_option maxHeartbeats 8000000 in
theorem works_any (w : World) : Calls Tryz.prog 8 #[] w fun e w' => e = .returned (.bool true) ∧ Below w.heap.size w w' := by
  obtain ⟨B, hB⟩ : ∃ B, B = w.heap.size := ⟨_, rfl⟩
  have C0 := new_any w B (by omega)
  rw [← hB] at C0 ⊢
  have HBQ := Lib.hid hB
  clear hB
  go_enter Tryz.func8, Tryz.ntmps8
  go_wp2_with fail
  refine C0.mono ?_
  rintro e w1 ⟨rfl, h1, b1⟩
  have hs1 : B ≤ w1.heap.size := by rw [HBQ.out]; exact b1.size
  have C1 : Calls Tryz.prog 11 #[.pointer (some ⟨B, 0, none⟩), .string ⟨#[120]⟩] w1 (DPost w1 B B (declC tb0 [120]) (declV tb0 [120]) (declT tb0 [120]) _) := declare_go B tb0 _ [120] w1 B (by omega) h1 GoodT.new (codes1 120 (by decide)) (by decide)
  rw [tb_codes.1, tb_codes.2.2.2.2.2.1, tb1_is] at C1
  have HC1 := Lib.hid C1
  have H1 := Lib.hid h1
  have HW1 := Lib.hid b1
  clear C0 C1 h1 b1
  go_wp2_with fail
  refine HC1.out.mono ?_
  rintro e w2 ⟨rfl, p2⟩
  have b2 := HW1.out.trans (TPost.below H1.out (by omega) p2)
  have hs2 : B ≤ w2.heap.size := by rw [HBQ.out]; exact b2.size
  obtain ⟨k2, h2, -, -⟩ := p2
  have C2 : Calls Tryz.prog 11 #[.pointer (some ⟨B, 0, none⟩), .string ⟨#[121]⟩] w2 (DPost w2 B B (declC tb1 [121]) (declV tb1 [121]) (declT tb1 [121]) _) := declare_go B tb1 _ [121] w2 B (by omega) h2 good1 (codes1 121 (by decide)) (by decide)
  rw [tb_codes.2.1, tb_codes.2.2.2.2.2.2, tb2_is] at C2
  have HC2 := Lib.hid C2
  have H2 := Lib.hid h2
  have HW2 := Lib.hid b2
  clear HC1 C2 h2 b2 HW1 H1
  go_wp2_with fail
  refine HC2.out.mono ?_
  rintro e w3 ⟨rfl, p3⟩
  have b3 := HW2.out.trans (TPost.below H2.out (by omega) p3)
  have hs3 : B ≤ w3.heap.size := by rw [HBQ.out]; exact b3.size
  obtain ⟨k3, h3, -, -⟩ := p3
  have H3 := Lib.hid h3
  have HW3 := Lib.hid b3
  clear HC2 h3 b3 HW2 H2
  obtain ⟨W3, hW3⟩ : ∃ W3, w3.alloc (.cells #[.string ⟨#[121]⟩, .string ⟨#[122]⟩] 9) = W3 := ⟨_, rfl⟩
  have hR3 : RdS W3 (some ⟨w3.heap.size, 0, none⟩) [[121], [122]] := hW3 ▸ rds_new w3 [[121], [122]] 9 #[.string ⟨#[121]⟩, .string ⟨#[122]⟩] rfl
  have hb3' : Below w3.heap.size w3 W3 := hW3 ▸ (Below.refl _ w3).alloc (Nat.le_refl _) _
  have hS3 : B ≤ W3.heap.size := Nat.le_trans hs3 hb3'.size
  have C3 : Calls Tryz.prog 12 #[.pointer (some ⟨B, 0, none⟩), .slice (some ⟨w3.heap.size, 0, none⟩) 2 2] W3 (OpnQ W3 B B tb2 k3 [[121], [122]]) := open_all B tb2 k3 [[121], [122]] _ 2 W3 B hS3 (H3.out.below hb3') good2 hR3 codes_yz (by decide)
  have HC3 := Lib.hid C3
  have HB3 := Lib.hid hb3'
  have H3' := Lib.hid (H3.out.below hb3')
  clear C3 hR3 hb3'
  go_wp2_with fail
  refine HC3.out.mono ?_
  rintro e w4 ⟨v, k4, rfl, h4, s4, n4, r4, d4⟩
  rw [tb3_is] at h4
  rw [show openC tb2 [[121], [122]] = 0 from tb_codes.2.2.1]
  rw [show openV tb2 [[121], [122]] = [([121], 2), ([122], 3)] by kernel_rfl] at r4
  have b4 := (HW3.out.trans (HB3.out.mono hs3)).trans (TPost.below H3'.out hS3 ⟨k4, h4, s4, n4⟩)
  have hs4 : B ≤ w4.heap.size := by rw [HBQ.out]; exact b4.size
  have C4 : Calls Tryz.prog 15 #[.pointer (some ⟨B, 0, none⟩), .string ⟨#[121]⟩] w4 fun e w' => e = .returned (.tuple #[.int .i64 ((findV tb3 [121] : Nat) : Int), .bool (fnd tb3 [121]).isSome]) ∧ Below w4.heap.size w4 w' := find_any B tb3 k4 [121] w4 B h4 good3 (codes1 121 (by decide)) (by decide)
  rw [tb_finds.1, tb_finds.2.1] at C4
  have HC4 := Lib.hid C4
  have H4 := Lib.hid h4
  have HW4 := Lib.hid b4
  have HR4 := Lib.hid r4
  have HD4 := Lib.hid d4
  clear C4 h4 s4 n4 r4 d4 b4 HC3 H3 H3' HW3 HB3 hW3 hS3
  go_wp2_with fail
  refine HC4.out.mono ?_
  rintro e w5 ⟨rfl, b5⟩
  have h5 := H4.out.below b5
  have hs5 : B ≤ w5.heap.size := Nat.le_trans hs4 b5.size
  have HW5 := Lib.hid (HW4.out.trans (b5.mono hs4))
  have HR5 := Lib.hid (nown_below HR4.out b5)
  have C5 := close_all B tb3 k4 w5 B h5 good3
  rw [show closeC tb3 = 0 from rfl, tb4_is] at C5
  have HC5 := Lib.hid C5
  have H5 := Lib.hid h5
  clear C5 h5 b5 HC4 H4 HW4 HR4
  go_wp2_with fail
  refine HC5.out.mono ?_
  rintro e w6 ⟨rfl, p6⟩
  have b6 := HW5.out.trans (TPost.below H5.out hs5 p6)
  have hs6 : B ≤ w6.heap.size := by rw [HBQ.out]; exact b6.size
  obtain ⟨k6, h6, r6, d6⟩ := post_row p6 HR5.out HD4.out
  have C6 : Calls Tryz.prog 15 #[.pointer (some ⟨B, 0, none⟩), .string ⟨#[121]⟩] w6 fun e w' => e = .returned (.tuple #[.int .i64 ((findV tb4 [121] : Nat) : Int), .bool (fnd tb4 [121]).isSome]) ∧ Below w6.heap.size w6 w' := find_any B tb4 k6 [121] w6 B h6 good4 (codes1 121 (by decide)) (by decide)
  rw [tb_finds.2.2.1, tb_finds.2.2.2.1] at C6
  have HC6 := Lib.hid C6
  have H6 := Lib.hid h6
  have HW6 := Lib.hid b6
  have HR6 := Lib.hid r6
  have HD6 := Lib.hid d6
  clear C6 h6 r6 d6 b6 p6 HC5 H5 HW5 HR5 HD4
  go_wp2_with fail
  refine HC6.out.mono ?_
  rintro e w7 ⟨rfl, b7⟩
  have h7 := H6.out.below b7
  have hs7 : B ≤ w7.heap.size := Nat.le_trans hs6 b7.size
  have HW7 := Lib.hid (HW6.out.trans (b7.mono hs6))
  have HR7 := Lib.hid (nown_below HR6.out b7)
  have C7 : Calls Tryz.prog 15 #[.pointer (some ⟨B, 0, none⟩), .string ⟨#[122]⟩] w7 fun e w' => e = .returned (.tuple #[.int .i64 ((findV tb4 [122] : Nat) : Int), .bool (fnd tb4 [122]).isSome]) ∧ Below w7.heap.size w7 w' := find_any B tb4 k6 [122] w7 B h7 good4 (codes1 122 (by decide)) (by decide)
  rw [tb_finds.2.2.2.2] at C7
  have HC7 := Lib.hid C7
  have H7 := Lib.hid h7
  clear C7 h7 b7 HC6 H6 HW6 HR6
  go_wp2_with fail
  refine HC7.out.mono ?_
  rintro e w8 ⟨rfl, b8⟩
  have h8 := H7.out.below b8
  have hs8 : B ≤ w8.heap.size := Nat.le_trans hs7 b8.size
  have HW8 := Lib.hid (HW7.out.trans (b8.mono hs7))
  have HR8 := Lib.hid (nown_below HR7.out b8)
  have C8 : Calls Tryz.prog 11 #[.pointer (some ⟨B, 0, none⟩), .string ⟨#[120]⟩] w8 (DPost w8 B B (declC tb4 [120]) (declV tb4 [120]) (declT tb4 [120]) _) := declare_go B tb4 _ [120] w8 B hs8 h8 good4 (codes1 120 (by decide)) (by decide)
  rw [tb_codes.2.2.2.1, tb4_x] at C8
  have HC8 := Lib.hid C8
  have H8 := Lib.hid h8
  obtain ⟨f8, hf8⟩ : ∃ f, f = findV tb4 [122] := ⟨_, rfl⟩
  rw [← hf8]
  clear C8 h8 b8 HC7 H7 HW7 HR7 hf8
  go_wp2_with fail
  refine HC8.out.mono ?_
  rintro e w9 ⟨rfl, p9⟩
  have b9 := HW8.out.trans (TPost.below H8.out hs8 p9)
  have hs9 : B ≤ w9.heap.size := by rw [HBQ.out]; exact b9.size
  obtain ⟨k9, h9, r9, d9⟩ := post_row p9 HR8.out HD6.out
  have C9 : Calls Tryz.prog 11 #[.pointer (some ⟨B, 0, none⟩), .string ⟨#[60, 61]⟩] w9 (DPost w9 B B (declC tb4 [60, 61]) (declV tb4 [60, 61]) (declT tb4 [60, 61]) _) := declare_go B tb4 _ [60, 61] w9 B hs9 h9 good4 (fun c hc => by simp at hc; omega) (by decide)
  rw [tb_codes.2.2.2.2.1, tb4_le] at C9
  have HC9 := Lib.hid C9
  have H9 := Lib.hid h9
  have HW9 := Lib.hid b9
  have HR9 := Lib.hid r9
  have HD9 := Lib.hid d9
  obtain ⟨v8, hv8⟩ : ∃ f, f = declV tb4 [120] := ⟨_, rfl⟩
  rw [← hv8]
  clear C9 h9 b9 r9 d9 p9 HC8 H8 HW8 HR8 HD6 hv8
  go_wp2_with fail
  refine HC9.out.mono ?_
  rintro e w10 ⟨rfl, p10⟩
  have b10 := HW9.out.trans (TPost.below H9.out hs9 p10)
  have hs10 : B ≤ w10.heap.size := by rw [HBQ.out]; exact b10.size
  obtain ⟨k10, h10, r10, d10⟩ := post_row p10 HR9.out HD9.out
  obtain ⟨A, c, rfl, hJ⟩ := rdj_of (l := [([121], 2), ([122], 3)]) r10
  obtain ⟨v9, hv9⟩ : ∃ f, f = declV tb4 [60, 61] := ⟨_, rfl⟩
  rw [← hv9]
  have H10 := Lib.hid h10
  have HW10 := Lib.hid b10
  have HJ := Lib.hid hJ
  clear h10 b10 r10 d10 p10 HC9 H9 HW9 HR9 HD9 hv9 hJ
  obtain ⟨W1, hW1⟩ : ∃ W1, w10.alloc (.cells #[.int .i64 2, .int .i64 3] 3) = W1 := ⟨_, rfl⟩
  have hR1 : RdJ W1 (some ⟨w10.heap.size, 0, none⟩) [2, 3] := hW1 ▸ rdj_new w10 [2, 3] 3 #[.int .i64 2, .int .i64 3] rfl
  have hb1 : Below w10.heap.size w10 W1 := hW1 ▸ (Below.refl _ w10).alloc (Nat.le_refl _) _
  have C1 : Calls Tryz.prog 25 #[.slice A 2 c, .slice (some ⟨w10.heap.size, 0, none⟩) 2 2] W1 fun e w' => e = .returned (.bool (decide (([2, 3] : List Int) = [2, 3]))) ∧ Below W1.heap.size W1 w' := ints_any [2, 3] [2, 3] A _ c 2 W1 (HJ.out.below hb1) hR1 (by decide) (by decide)
  rw [show decide (([2, 3] : List Int) = [2, 3]) = true by decide] at C1
  have HC1 := Lib.hid C1
  have HH1 := Lib.hid (H10.out.below hb1)
  have hS1 : B ≤ W1.heap.size := Nat.le_trans hs10 hb1.size
  have HX1 := Lib.hid (HW10.out.trans (hb1.mono hs10))
  clear C1 hR1 hb1 H10 HW10 HJ
  go_wp2_with fail
  refine HC1.out.mono ?_
  rintro e w11 ⟨rfl, b11⟩
  have h11 := HH1.out.below b11
  have HX2 := Lib.hid (HX1.out.trans (b11.mono hS1))
  have hs11 : B ≤ w11.heap.size := Nat.le_trans hS1 b11.size
  have C2 : Calls Tryz.prog 19 #[.pointer (some ⟨B, 0, none⟩)] w11 fun e w' => e = .returned (.int .i64 4) ∧ w' = w11 := next_any B tb4 k10 w11 B h11
  have HC2 := Lib.hid C2
  clear C2 h11 b11 HC1 HH1 HX1 hW1
  go_wp2_with fail
  refine HC2.out.mono ?_
  rintro e w12 ⟨rfl, rfl⟩
  obtain ⟨W2, hW2⟩ : ∃ W2, w12.alloc (.cells #[.string ⟨#[98, 48]⟩, .string ⟨#[98, 50]⟩] 9) = W2 := ⟨_, rfl⟩
  have hR2 : RdS W2 (some ⟨w12.heap.size, 0, none⟩) [[98, 48], [98, 50]] := hW2 ▸ rds_new w12 [[98, 48], [98, 50]] 9 #[.string ⟨#[98, 48]⟩, .string ⟨#[98, 50]⟩] rfl
  have hb2 : Below w12.heap.size w12 W2 := hW2 ▸ (Below.refl _ w12).alloc (Nat.le_refl _) _
  have HC3 := Lib.hid (fresh_b _ 2 W2 hR2)
  have HX3 := Lib.hid (HX2.out.trans (hb2.mono hs11))
  have hS2 : B ≤ W2.heap.size := Nat.le_trans hs11 hb2.size
  clear hR2 hb2 HC2 HX2
  go_wp2_with fail
  refine HC3.out.mono ?_
  rintro e w13 ⟨rfl, b13⟩
  have HX4 := Lib.hid (HX3.out.trans (b13.mono hS2))
  clear HC3 HX3 b13 hW2
  go_wp2_with fail
  go_ret
  exact ⟨rfl, HX4.out⟩
end Go.Proofs.YtcjljfjgekiocaaGreatDoor

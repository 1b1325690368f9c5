/- LexNames, its walk (mklexr.py). -/
import Derived.Laws.IdiomStrings
import Derived.Lib.SlBytesConst
import Derived.Test.YtkkocohfdcnamaaLexQ
namespace Go.Proofs.Ytkkocohfdcnamaa
open Go.RowKit Go.Shelf

set_option linter.unusedVariables false
set_option linter.unusedSimpArgs false


theorem nk0 : kd ([]) = 0 := by decide +kernel
theorem nk1 : kd ([48]) = 3 := by decide +kernel
theorem nk2 : kd ([48, 48]) = 0 := by decide +kernel
theorem nk3 : kd ([49, 48]) = 3 := by decide +kernel
theorem nk4 : kd ([48, 48, 55]) = 0 := by decide +kernel
theorem nk5 : kd (rep 3000 [57]) = 3 := by decide +kernel
theorem nk6 : kd ([48, 46, 48]) = 4 := by decide +kernel
theorem nk7 : kd ([48, 46]) = 0 := by decide +kernel
theorem nk8 : kd ([46, 53]) = 5 := by decide +kernel
theorem nk9 : kd ([49, 46, 53, 46, 50]) = 0 := by decide +kernel
theorem nk10 : kd ([48, 49, 46, 53]) = 0 := by decide +kernel
theorem nk11 : kd ([49, 50, 46, 51, 52, 48]) = 4 := by decide +kernel
theorem nk12 : kd ([49, 101, 53]) = 0 := by decide +kernel
theorem nk13 : kd ([45, 53]) = 5 := by decide +kernel
theorem nk14 : kd ([45]) = 5 := by decide +kernel
theorem nk15 : kd ([60, 61]) = 5 := by decide +kernel
theorem nk16 : kd ([97, 45, 98, 95, 99, 63]) = 5 := by decide +kernel
theorem nk17 : kd ([120, 49]) = 5 := by decide +kernel
theorem nk18 : kd ([49, 120]) = 0 := by decide +kernel
theorem nk19 : kd (rep 64 [97]) = 5 := by decide +kernel
theorem nk20 : kd (rep 65 [97]) = 0 := by decide +kernel
theorem nk21 : kd (58 :: rep 64 [97]) = 6 := by decide +kernel
theorem nk22 : kd (58 :: rep 65 [97]) = 0 := by decide +kernel
theorem nk23 : kd ([58, 58, 97]) = 0 := by decide +kernel
theorem nk24 : kd ([58, 97, 58]) = 0 := by decide +kernel
theorem nk25 : kd ([58, 49]) = 0 := by decide +kernel
theorem nk26 : kd ([58, 45, 49]) = 6 := by decide +kernel
theorem nk27 : kd ([40, 41]) = 0 := by decide +kernel
theorem nk28 : kd ([97, 32, 98]) = 0 := by decide +kernel
theorem nk29 : kd ([32, 97]) = 0 := by decide +kernel
theorem nk30 : kd ([97, 128]) = 0 := by decide +kernel
theorem nk31 : kd ([40]) = 1 := by decide +kernel
theorem nk32 : kd ([41]) = 2 := by decide +kernel
def nmV : Array Value := #[.string ⟨#[]⟩, .int .u8 0, .string ⟨#[48]⟩, .int .u8 3, .string ⟨#[48, 48]⟩, .int .u8 0, .string ⟨#[49, 48]⟩, .int .u8 3, .string ⟨#[48, 48, 55]⟩, .int .u8 0, .string (str (rep 3000 [57])), .int .u8 3, .string ⟨#[48, 46, 48]⟩, .int .u8 4, .string ⟨#[48, 46]⟩, .int .u8 0, .string ⟨#[46, 53]⟩, .int .u8 5, .string ⟨#[49, 46, 53, 46, 50]⟩, .int .u8 0, .string ⟨#[48, 49, 46, 53]⟩, .int .u8 0, .string ⟨#[49, 50, 46, 51, 52, 48]⟩, .int .u8 4, .string ⟨#[49, 101, 53]⟩, .int .u8 0, .string ⟨#[45, 53]⟩, .int .u8 5, .string ⟨#[45]⟩, .int .u8 5, .string ⟨#[60, 61]⟩, .int .u8 5, .string ⟨#[97, 45, 98, 95, 99, 63]⟩, .int .u8 5, .string ⟨#[120, 49]⟩, .int .u8 5, .string ⟨#[49, 120]⟩, .int .u8 0, .string (str (rep 64 [97])), .int .u8 5, .string (str (rep 65 [97])), .int .u8 0, .string (str (58 :: rep 64 [97])), .int .u8 6, .string (str (58 :: rep 65 [97])), .int .u8 0, .string ⟨#[58, 58, 97]⟩, .int .u8 0, .string ⟨#[58, 97, 58]⟩, .int .u8 0, .string ⟨#[58, 49]⟩, .int .u8 0, .string ⟨#[58, 45, 49]⟩, .int .u8 6, .string ⟨#[40, 41]⟩, .int .u8 0, .string ⟨#[97, 32, 98]⟩, .int .u8 0, .string ⟨#[32, 97]⟩, .int .u8 0, .string ⟨#[97, 128]⟩, .int .u8 0, .string ⟨#[40]⟩, .int .u8 1, .string ⟨#[41]⟩, .int .u8 2]
theorem codes9 : Codes [57] := codes_lit (by decide)
theorem codesA : Codes [97] := codes_lit (by decide)
theorem codes_app {A B : List Nat} (ha : Codes A) (hb : Codes B) : Codes (A ++ B) := fun c hc => (List.mem_append.1 hc).elim (ha c) (hb c)
theorem nm_at : ∀ k, k < 33 → ∃ L, Codes L ∧ L.length ≤ 3000 ∧ nmV[k * 2]? = some (.string (str L)) ∧ nmV[k * 2 + 1]? = some (.int .u8 ((kd L : Nat) : Int)) := by
  intro k hk
  match k, hk with
  | 0, _ => exact ⟨[], codes_lit (by decide), by decide, rfl, by rw [nk0]; rfl⟩
  | 1, _ => exact ⟨[48], codes_lit (by decide), by decide, rfl, by rw [nk1]; rfl⟩
  | 2, _ => exact ⟨[48, 48], codes_lit (by decide), by decide, rfl, by rw [nk2]; rfl⟩
  | 3, _ => exact ⟨[49, 48], codes_lit (by decide), by decide, rfl, by rw [nk3]; rfl⟩
  | 4, _ => exact ⟨[48, 48, 55], codes_lit (by decide), by decide, rfl, by rw [nk4]; rfl⟩
  | 5, _ => exact ⟨rep 3000 [57], rep_codes codes9, by rw [rep_len]; decide, rfl, by rw [nk5]; rfl⟩
  | 6, _ => exact ⟨[48, 46, 48], codes_lit (by decide), by decide, rfl, by rw [nk6]; rfl⟩
  | 7, _ => exact ⟨[48, 46], codes_lit (by decide), by decide, rfl, by rw [nk7]; rfl⟩
  | 8, _ => exact ⟨[46, 53], codes_lit (by decide), by decide, rfl, by rw [nk8]; rfl⟩
  | 9, _ => exact ⟨[49, 46, 53, 46, 50], codes_lit (by decide), by decide, rfl, by rw [nk9]; rfl⟩
  | 10, _ => exact ⟨[48, 49, 46, 53], codes_lit (by decide), by decide, rfl, by rw [nk10]; rfl⟩
  | 11, _ => exact ⟨[49, 50, 46, 51, 52, 48], codes_lit (by decide), by decide, rfl, by rw [nk11]; rfl⟩
  | 12, _ => exact ⟨[49, 101, 53], codes_lit (by decide), by decide, rfl, by rw [nk12]; rfl⟩
  | 13, _ => exact ⟨[45, 53], codes_lit (by decide), by decide, rfl, by rw [nk13]; rfl⟩
  | 14, _ => exact ⟨[45], codes_lit (by decide), by decide, rfl, by rw [nk14]; rfl⟩
  | 15, _ => exact ⟨[60, 61], codes_lit (by decide), by decide, rfl, by rw [nk15]; rfl⟩
  | 16, _ => exact ⟨[97, 45, 98, 95, 99, 63], codes_lit (by decide), by decide, rfl, by rw [nk16]; rfl⟩
  | 17, _ => exact ⟨[120, 49], codes_lit (by decide), by decide, rfl, by rw [nk17]; rfl⟩
  | 18, _ => exact ⟨[49, 120], codes_lit (by decide), by decide, rfl, by rw [nk18]; rfl⟩
  | 19, _ => exact ⟨rep 64 [97], rep_codes codesA, by rw [rep_len]; decide, rfl, by rw [nk19]; rfl⟩
  | 20, _ => exact ⟨rep 65 [97], rep_codes codesA, by rw [rep_len]; decide, rfl, by rw [nk20]; rfl⟩
  | 21, _ => exact ⟨58 :: rep 64 [97], codes_app (A := [58]) (codes_lit (by decide)) (rep_codes codesA), by rw [List.length_cons, rep_len]; decide, rfl, by rw [nk21]; rfl⟩
  | 22, _ => exact ⟨58 :: rep 65 [97], codes_app (A := [58]) (codes_lit (by decide)) (rep_codes codesA), by rw [List.length_cons, rep_len]; decide, rfl, by rw [nk22]; rfl⟩
  | 23, _ => exact ⟨[58, 58, 97], codes_lit (by decide), by decide, rfl, by rw [nk23]; rfl⟩
  | 24, _ => exact ⟨[58, 97, 58], codes_lit (by decide), by decide, rfl, by rw [nk24]; rfl⟩
  | 25, _ => exact ⟨[58, 49], codes_lit (by decide), by decide, rfl, by rw [nk25]; rfl⟩
  | 26, _ => exact ⟨[58, 45, 49], codes_lit (by decide), by decide, rfl, by rw [nk26]; rfl⟩
  | 27, _ => exact ⟨[40, 41], codes_lit (by decide), by decide, rfl, by rw [nk27]; rfl⟩
  | 28, _ => exact ⟨[97, 32, 98], codes_lit (by decide), by decide, rfl, by rw [nk28]; rfl⟩
  | 29, _ => exact ⟨[32, 97], codes_lit (by decide), by decide, rfl, by rw [nk29]; rfl⟩
  | 30, _ => exact ⟨[97, 128], codes_lit (by decide), by decide, rfl, by rw [nk30]; rfl⟩
  | 31, _ => exact ⟨[40], codes_lit (by decide), by decide, rfl, by rw [nk31]; rfl⟩
  | 32, _ => exact ⟨[41], codes_lit (by decide), by decide, rfl, by rw [nk32]; rfl⟩
  | k + 33, h => exact absurd h (by omega)

theorem conv_one (g : Nat) (c : Nat) (w : World) (hc : c < 256) (hx : w.cell? ⟨g, 0, none⟩ = some (.int .u8 (c : Int))) : (convert 27 9 (.slice (some ⟨g, 0, none⟩) 1 1)).run Try.prog w = .ok (.string (str [c])) w := by
  have := run_convert_bytes_back (P := Try.prog) w 27 9 5 ⟨g, 0, none⟩ 1 ([c].map UInt8.ofNat) Try.underlying27 Try.underlying5 Try.underlying9 (fun j hj => by
    obtain rfl : j = 0 := by simpa using hj
    rw [Addr.add_lit, hx]
    congr 2
    simp
    omega)
  exact this

def bl2 : List Nat := [126, 33, 64, 36, 37, 94, 38, 42, 95, 45, 43, 61, 60, 62, 46, 63, 47, 97, 122, 65, 90]
def bl3 : List Nat := [34, 35, 39, 44, 58, 59, 91, 92, 93, 123, 124, 125, 96, 0, 127, 128, 255, 11, 12]
theorem bl2_all : bl2.all (fun c => decide (c < 256) && kd [c] == 5) = true := by decide +kernel
theorem bl3_all : bl3.all (fun c => decide (c < 256) && (kd [c] == 0 && (c == 59 || wrongV [32, c] == 1))) = true := by decide +kernel
theorem bl_at {bl : List Nat} {k : Nat} (h : k < bl.length) : (bl.map (fun c : Nat => Value.int .u8 (c : Int))).toArray[k]? = some (.int .u8 ((bl[k]?.getD 0 : Nat) : Int)) := by
  rw [List.getElem?_toArray, List.getElem?_map, List.getElem?_eq_getElem h]; rfl
theorem conv_new (c : Nat) (hc : c < 256) (w : World) : (convert 27 9 (.slice (some ⟨w.heap.size, 0, none⟩) 1 1)).run Try.prog (w.alloc (.cells #[.int .u8 (c : Int)] 5)) = .ok (.string (str [c])) (w.alloc (.cells #[.int .u8 (c : Int)] 5)) :=
  conv_one _ c _ hc ((cell_of_row _ _ _ _ _ _ (World.alloc_heap_new w _)).trans rfl)

theorem wv0 : wrongV [] = -1 := by decide +kernel
theorem wv1 : wrongV [59, 97, 41, 10, 59] = -1 := by decide +kernel
theorem wv2 : wrongV [97, 59, 0, 10, 98] = -1 := by decide +kernel
theorem wv3 : wrongV [97, 32, 59, 98, 10, 34] = 5 := by decide +kernel
theorem wv4 : wrongV [9, 13, 10, 32] = -1 := by decide +kernel
theorem wv6 : wrongV [40, 41, 41, 40] = -1 := by decide +kernel
theorem wv7 : wrongV [120, 40, 49, 121, 41] = 2 := by decide +kernel
theorem wv5 : wrongV (97 :: (rep 9 [32] ++ rep 65 [98])) = 10 := by decide +kernel
theorem lw5 : (wL [97, 40, 98, 41, 99]).length = 5 ∧ wE [97, 40, 98, 41, 99] = 0 ∧ wAt [97, 40, 98, 41, 99] = 0 := by decide +kernel
theorem skp_all : ∀ {L : List Nat}, (∀ c ∈ L, c = 32) → skp false L = L.length
  | [], _ => rfl
  | c :: r, h => by
    have hc : c = 32 := h c (by simp)
    subst hc
    rw [skp_cons_blk _ (by decide), skp_all (fun x hx => h x (List.mem_cons_of_mem _ hx)), List.length_cons]
def many : List Nat := rep 256 (rep 256 [32])
theorem many_len : many.length = 65536 := by unfold many; rw [rep_len, rep_len]; rfl
theorem many_all : ∀ c ∈ many, c = 32 := fun c hc => by
  unfold many rep at hc
  simp only [List.mem_flatten, List.mem_replicate] at hc
  obtain ⟨l, ⟨_, rfl⟩, h2⟩ := hc
  simp only [List.mem_flatten, List.mem_replicate] at h2
  obtain ⟨l, ⟨_, rfl⟩, h3⟩ := h2
  simpa using h3
theorem many_w : wL many = [] ∧ wE many = 0 ∧ wAt many = 0 := by
  have h := parts_only (skp_all many_all)
  have hok : okw many = true := by unfold okw; rw [h]; rfl
  refine ⟨?_, ?_, ?_⟩
  · unfold wL; rw [if_neg (by rw [many_len]; decide), if_pos hok, h]
  · unfold wE; rw [if_neg (by rw [many_len]; decide), if_pos hok]
  · unfold wAt; rw [if_neg (by rw [many_len]; decide), if_pos hok]
theorem more_w : wL (many ++ [32]) = [] ∧ wE (many ++ [32]) = 40 ∧ wAt (many ++ [32]) = 65536 := by
  have hl : 65536 < (many ++ [32]).length := by rw [List.length_append, many_len]; decide
  refine ⟨?_, ?_, ?_⟩
  · unfold wL; rw [if_pos hl]
  · unfold wE; rw [if_pos hl]
  · unfold wAt; rw [if_pos hl]
theorem codes32 : Codes [32] := codes_lit (by decide)
theorem codes98 : Codes [98] := codes_lit (by decide)
theorem codes10 : Codes (97 :: (rep 9 [32] ++ rep 65 [98])) :=
  codes_app (A := [97]) (B := rep 9 [32] ++ rep 65 [98]) (codes_lit (by decide)) (codes_app (rep_codes codes32) (rep_codes codes98))
theorem many_codes : Codes many := fun c hc => by rw [many_all c hc]; decide
theorem more_codes : Codes (many ++ [32]) := codes_app many_codes codes32
theorem join0 (w : World) : Calls Try.prog 12 #[.slice none 0 0] w fun e w' => e = .returned (.string ⟨#[]⟩) ∧ Below w.heap.size w w' := by
  refine (join_any _ 0 (fun _ => 0) (fun _ => []) w (by decide) ⟨_, _, rfl, fun h => absurd h (Nat.lt_irrefl 0)⟩ (fun i hi => absurd hi (Nat.not_lt_zero i))).mono ?_
  rintro e w' ⟨⟨R, rfl, h1, _⟩, hb⟩
  rw [h1 (fun i hi => absurd hi (Nat.not_lt_zero i))]
  exact ⟨rfl, hb⟩
theorem join1 (κ : Nat) (T : List Nat) (hT : Codes T) (hl : T.length ≤ 1000) (hk : ¬ (κ ≠ 0 ∧ κ = kd T)) (s : ByteArray) (hs : s = str T) (w : World) : Calls Try.prog 12 #[.slice (some ⟨w.heap.size, 0, none⟩) 1 1] (w.alloc (.cells #[.int .u8 (κ : Int), .int .i64 0, .int .i64 0, .string s] 35)) fun e w' => e = .returned (.string ⟨#[]⟩) ∧ Below w.heap.size w w' := by
  subst hs
  have hbx := (Below.refl w.heap.size w).alloc (Nat.le_refl _) (.cells #[.int .u8 (κ : Int), .int .i64 0, .int .i64 0, .string (str T)] 35)
  have hg := World.alloc_heap_new w (.cells #[.int .u8 (κ : Int), .int .i64 0, .int .i64 0, .string (str T)] 35)
  refine (join_any _ 1 (fun _ => κ) (fun _ => T) _ (by decide) ⟨_, _, rfl, fun _ => ⟨w.heap.size, rfl, (Array.getElem?_eq_some_iff.1 hg).1, fun i hi => ?_⟩⟩ (fun i hi => ⟨hT, hl⟩)).mono ?_
  · obtain rfl : i = 0 := by omega
    exact ⟨0, 0, (cell_of_row _ _ _ _ _ _ hg).trans rfl, (cell_of_row _ _ _ _ _ _ hg).trans rfl, (cell_of_row _ _ _ _ _ _ hg).trans rfl, (cell_of_row _ _ _ _ _ _ hg).trans rfl⟩
  · rintro e w' ⟨⟨R, rfl, _, h2⟩, hb⟩
    rw [h2 ⟨0, by decide, hk⟩]
    exact ⟨rfl, hbx.trans (hb.mono hbx.size)⟩
theorem kd40 : kd [40] = 1 := by decide +kernel
theorem kd41 : kd [41] = 2 := by decide +kernel
theorem kd49 : kd [49] = 3 := by decide +kernel
theorem join2 (w : World) : Calls Try.prog 12 #[.slice (some ⟨w.heap.size, 0, none⟩) 2 2] (w.alloc (.cells #[.int .u8 1, .int .i64 0, .int .i64 0, .string ⟨#[40]⟩, .int .u8 2, .int .i64 0, .int .i64 0, .string ⟨#[41]⟩] 35)) fun e w' => e = .returned (.string ⟨#[40, 32, 41]⟩) ∧ Below w.heap.size w w' := by
  have hbx := (Below.refl w.heap.size w).alloc (Nat.le_refl _) (.cells #[.int .u8 1, .int .i64 0, .int .i64 0, .string ⟨#[40]⟩, .int .u8 2, .int .i64 0, .int .i64 0, .string ⟨#[41]⟩] 35)
  have hg := World.alloc_heap_new w (.cells #[.int .u8 1, .int .i64 0, .int .i64 0, .string ⟨#[40]⟩, .int .u8 2, .int .i64 0, .int .i64 0, .string ⟨#[41]⟩] 35)
  refine (join_any _ 2 (fun i => i + 1) (fun i => [40 + i]) _ (by decide) ⟨_, _, rfl, fun _ => ⟨w.heap.size, rfl, (Array.getElem?_eq_some_iff.1 hg).1, fun i hi => ?_⟩⟩ (fun i hi => ⟨fun c hc => by rw [List.mem_singleton.1 hc]; omega, by simp⟩)).mono ?_
  · have : i = 0 ∨ i = 1 := by omega
    rcases this with rfl | rfl
    · exact ⟨0, 0, (cell_of_row _ _ _ _ _ _ hg).trans rfl, (cell_of_row _ _ _ _ _ _ hg).trans rfl, (cell_of_row _ _ _ _ _ _ hg).trans rfl, (cell_of_row _ _ _ _ _ _ hg).trans rfl⟩
    · exact ⟨0, 0, (cell_of_row _ _ _ _ _ _ hg).trans rfl, (cell_of_row _ _ _ _ _ _ hg).trans rfl, (cell_of_row _ _ _ _ _ _ hg).trans rfl, (cell_of_row _ _ _ _ _ _ hg).trans rfl⟩
  · rintro e w' ⟨⟨R, rfl, h1, _⟩, hb⟩
    rw [h1 (fun i hi => by
      have : i = 0 ∨ i = 1 := by omega
      rcases this with rfl | rfl
      · exact ⟨by decide, kd40.symm⟩
      · exact ⟨by decide, kd41.symm⟩)]
    exact ⟨rfl, hbx.trans (hb.mono hbx.size)⟩

set_option maxRecDepth 100000 in
set_option maxHeartbeats 8000000 in
theorem names_law (w : World) : Calls Try.prog 3 #[] w fun e w' => e = .returned (.bool true) ∧ Below w.heap.size w w' := by
  have c0 := works_any w
  have k1 := fun w => copies_any [57] 3000 (by decide) (by decide) w
  have k2 := fun w => copies_any [97] 64 (by decide) (by decide) w
  have k3 := fun w => copies_any [97] 65 (by decide) (by decide) w
  have e1 : ∀ w, (Op.stringOp .add ⟨#[58]⟩ (str (rep 64 [97]))).run Try.prog w = .ok (.string (str ([58] ++ rep 64 [97]))) w := add_str2 [58] (rep 64 [97]) (by rw [rep_len]; decide)
  have e2 : ∀ w, (Op.stringOp .add ⟨#[58]⟩ (str (rep 65 [97]))).run Try.prog w = .ok (.string (str ([58] ++ rep 65 [97]))) w := add_str2 [58] (rep 65 [97]) (by rw [rep_len]; decide)
  go_enter Try.func3, Try.ntmps3
  go_wp2_with fail
  refine c0.mono ?_
  rintro e w1 ⟨rfl, hb1⟩
  clear c0
  go_wp2_with fail
  refine (k1 _).mono ?_
  rintro e w2 ⟨rfl, hw⟩
  obtain rfl := hw.symm
  clear hw
  go_wp2_with fail
  refine (k2 _).mono ?_
  rintro e w2 ⟨rfl, hw⟩
  obtain rfl := hw.symm
  clear hw
  go_wp2_with fail
  refine (k3 _).mono ?_
  rintro e w2 ⟨rfl, hw⟩
  obtain rfl := hw.symm
  clear hw
  go_wp2_with fail
  refine (k2 _).mono ?_
  rintro e w2 ⟨rfl, hw⟩
  obtain rfl := hw.symm
  clear hw
  go_wp2_with fail
  refine (k3 _).mono ?_
  rintro e w2 ⟨rfl, hw⟩
  obtain rfl := hw.symm
  clear hw
  go_wp2_with fail
  clear k1 e1 e2
  obtain ⟨NV, hNV⟩ : ∃ NV, NV = nmV := ⟨_, rfl⟩
  have hnm : ∀ k, k < 33 → ∃ L, Codes L ∧ L.length ≤ 3000 ∧ (w1.alloc (.cells NV 23)).cell? ⟨w1.heap.size, k * 2, none⟩ = some (.string (str L)) ∧ (w1.alloc (.cells NV 23)).cell? ⟨w1.heap.size, k * 2 + 1, none⟩ = some (.int .u8 ((kd L : Nat) : Int)) := fun k hk => by
    obtain ⟨L, h1, h2, h3, h4⟩ := nm_at k hk
    rw [← hNV] at h3 h4
    exact ⟨L, h1, h2, (cell_of_row _ _ _ _ _ _ (World.alloc_heap_new w1 _)).trans h3, (cell_of_row _ _ _ _ _ _ (World.alloc_heap_new w1 _)).trans h4⟩
  have hbx := (Below.refl w1.heap.size w1).alloc (Nat.le_refl _) (.cells NV 23)
  have hgl : w1.heap.size < (w1.alloc (.cells NV 23)).heap.size := by rw [World.size_alloc]; omega
  have hbW := Lib.hid (hb1.trans (hbx.mono hb1.size))
  unfold nmV at hNV
  rw [← hNV]
  clear hNV hbx hb1
  generalize w1.alloc (.cells NV 23) = W at *
  generalize w1.heap.size = g at *
  go_loopw [70] (fun i wr => ∃ k : Nat, k ≤ 33 ∧ i = .int .i64 (k : Int) ∧ Below W.heap.size W wr) (fun i _ => 33 - (intOf i).toNat)
  case atStart => exact ⟨0, Nat.zero_le _, rfl, Below.refl _ _⟩
  case round =>
    obtain ⟨k, hk, rfl, hB⟩ := hrel
    by_cases hlt : k < 33
    · obtain ⟨L, hc, hl, x0, x1⟩ := hnm k hlt
      have y0 := (hB.cell (p := ⟨g, k * 2, none⟩) hgl).trans x0
      have y1 := (hB.cell (p := ⟨g, k * 2 + 1, none⟩) hgl).trans x1
      have CK := Lib.hid (fun w3 => kind_any L w3 hc (by omega))
      have HB := Lib.hid hB
      have HNM := Lib.hid hnm
      clear hnm x0 x1 hB hc
      generalize kd L = κ at *
      generalize str L = T at *
      go_wp2_with fail
      have hbx := (Below.refl wr.heap.size wr).alloc (Nat.le_refl _) (.cells #[.string T, .int .u8 (κ : Int)] 23)
      have hnew := World.alloc_heap_new wr (.cells #[.string T, .int .u8 (κ : Int)] 23)
      have HBX := Lib.hid (HB.out.trans (hbx.mono HB.out.size))
      clear y0 y1 hbx
      generalize wr.alloc (.cells #[.string T, .int .u8 (κ : Int)] 23) = WA at *
      have s0 : WA.drew.cell? ⟨wr.heap.size, 0, none⟩ = some (.string T) ∧ WA.drew.cell? ⟨wr.heap.size, 1, none⟩ = some (.int .u8 (κ : Int)) :=
        ⟨(cell_of_row WA _ _ _ _ _ hnew).trans rfl, (cell_of_row WA _ _ _ _ _ hnew).trans rfl⟩
      have hvl : wr.heap.size < WA.drew.heap.size := (Array.getElem?_eq_some_iff.1 hnew).1
      clear hnew
      generalize hvv : wr.heap.size = vb at *
      clear hvv
      have hne : ((κ : Int) == (κ : Int)) = true := by simp
      go_region_held3 (fun w' => w'.cell? ⟨vb, 0, none⟩ = some (.string T) ∧ w'.cell? ⟨vb, 1, none⟩ = some (.int .u8 (κ : Int))) (first | exact s0 | exact s1) (first
        | (go_at_call 9; (with_reducible refine (CK.out _).mono ?_); rintro e w2 ⟨rfl, hb2⟩; have s1 : w2.cell? ⟨vb, 0, none⟩ = some (.string T) ∧ w2.cell? ⟨vb, 1, none⟩ = some (.int .u8 (κ : Int)) := ⟨(hb2.cell (p := ⟨vb, 0, none⟩) hvl).trans s0.1, (hb2.cell (p := ⟨vb, 1, none⟩) hvl).trans s0.2⟩))
      all_goals
        have HBN := Lib.hid (HBX.out.drew.trans (hb2.mono HBX.out.drew.size))
        clear s0 hb2
        go_wp2_with fail
        go_roundw
        case rel => exact ⟨k + 1, by omega, by go_num, HBN.out⟩
        case measure => simp [intOf]; omega
    · obtain rfl : k = 33 := by omega
      have HB := Lib.hid (hbW.out.trans (hB.mono hbW.out.size))
      clear hnm hB hbW
      have hcv := Lib.run_convert_bytes_const (P := Try.prog) wr 27 5 #[.int .u8 126, .int .u8 33, .int .u8 64, .int .u8 36, .int .u8 37, .int .u8 94, .int .u8 38, .int .u8 42, .int .u8 95, .int .u8 45, .int .u8 43, .int .u8 61, .int .u8 60, .int .u8 62, .int .u8 46, .int .u8 63, .int .u8 47, .int .u8 97, .int .u8 122, .int .u8 65, .int .u8 90] 21 21 Try.underlying27 Try.underlying5
      go_wp2_with fail
      obtain ⟨BV, hBV⟩ : ∃ BV : Array Value, BV = (bl2.map (fun c : Nat => Value.int .u8 (c : Int))).toArray := ⟨_, rfl⟩
      have hbc : ∀ k, k < 21 → (wr.alloc (.cells BV 5 (21, 22))).cell? ⟨wr.heap.size, k, none⟩ = some (.int .u8 ((bl2[k]?.getD 0 : Nat) : Int)) := fun k hk => by
        rw [cell_of_row _ _ _ _ _ _ (World.alloc_heap_new wr _), hBV]; exact bl_at (by exact hk)
      have hbx := (Below.refl wr.heap.size wr).alloc (Nat.le_refl _) (.cells BV 5 (21, 22))
      have hbl2 : wr.heap.size < (wr.alloc (.cells BV 5 (21, 22))).heap.size := by rw [World.size_alloc]; omega
      have HBN := Lib.hid (HB.out.trans (hbx.mono HB.out.size))
      replace hBV : BV = #[.int .u8 126, .int .u8 33, .int .u8 64, .int .u8 36, .int .u8 37, .int .u8 94, .int .u8 38, .int .u8 42, .int .u8 95, .int .u8 45, .int .u8 43, .int .u8 61, .int .u8 60, .int .u8 62, .int .u8 46, .int .u8 63, .int .u8 47, .int .u8 97, .int .u8 122, .int .u8 65, .int .u8 90] := hBV
      try simp only [List.size_toArray, List.length_cons, List.length_nil, Nat.reduceAdd]
      rw [← hBV]
      clear hcv hBV hbx HB
      generalize wr.alloc (.cells BV 5 (21, 22)) = W2 at *
      generalize wr.heap.size = gb at *
      go_loopw [84] (fun i wr => ∃ k : Nat, k ≤ 21 ∧ i = .int .i64 (k : Int) ∧ Below W2.heap.size W2 wr) (fun i _ => 21 - (intOf i).toNat)
      case atStart => exact ⟨0, Nat.zero_le _, rfl, Below.refl _ _⟩
      case round =>
        obtain ⟨k, hk, rfl, hB⟩ := hrel
        by_cases hlt : k < 21
        · have y0 := (hB.cell (p := ⟨gb, k, none⟩) hbl2).trans (hbc k hlt)
          have hall := List.all_eq_true.1 bl2_all (bl2[k]?.getD 0) (by rw [List.getElem?_eq_getElem (show k < bl2.length from hlt)]; exact List.getElem_mem _)
          have HBB := Lib.hid hB
          have HBC := Lib.hid hbc
          clear hbc hB
          generalize bl2[k]?.getD 0 = c at *
          simp only [Bool.and_eq_true, decide_eq_true_eq, beq_iff_eq] at hall
          obtain ⟨hc, hk5⟩ := hall
          have ck := fun w => kind_any [c] w (fun x hx => by rw [List.mem_singleton.1 hx]; exact hc) (by simp)
          rw [hk5] at ck
          have hcv := conv_new c hc wr
          have hbx := Lib.hid (HBB.out.trans (((Below.refl wr.heap.size wr).alloc (Nat.le_refl _) (.cells #[.int .u8 (c : Int)] 5)).mono HBB.out.size))
          go_wp2_with fail
          refine (ck _).mono ?_
          rintro e w2 ⟨rfl, hb2⟩
          have HBM := Lib.hid (hbx.out.trans (hb2.mono hbx.out.size))
          clear ck hcv hb2
          go_wp2_with fail
          go_roundw
          case rel => first | exact ⟨k + 1, by omega, by go_num, HBM.out⟩ | ((repeat apply Exists.intro); exact ⟨⟨k + 1, by omega, by go_num, HBM.out⟩, rfl⟩)
          case measure => simp [intOf]; omega
        · obtain rfl : k = 21 := by omega
          have HB := Lib.hid (HBN.out.trans (hB.mono HBN.out.size))
          clear hbc hB HBN hbl2
          have hcv := Lib.run_convert_bytes_const (P := Try.prog) wr 27 5 #[.int .u8 34, .int .u8 35, .int .u8 39, .int .u8 44, .int .u8 58, .int .u8 59, .int .u8 91, .int .u8 92, .int .u8 93, .int .u8 123, .int .u8 124, .int .u8 125, .int .u8 96, .int .u8 0, .int .u8 127, .int .u8 128, .int .u8 255, .int .u8 11, .int .u8 12] 19 19 Try.underlying27 Try.underlying5
          go_wp2_with fail
          obtain ⟨BV, hBV⟩ : ∃ BV : Array Value, BV = (bl3.map (fun c : Nat => Value.int .u8 (c : Int))).toArray := ⟨_, rfl⟩
          have hbc : ∀ k, k < 19 → (wr.alloc (.cells BV 5 (19, 20))).cell? ⟨wr.heap.size, k, none⟩ = some (.int .u8 ((bl3[k]?.getD 0 : Nat) : Int)) := fun k hk => by
            rw [cell_of_row _ _ _ _ _ _ (World.alloc_heap_new wr _), hBV]; exact bl_at (by exact hk)
          have hbx := (Below.refl wr.heap.size wr).alloc (Nat.le_refl _) (.cells BV 5 (19, 20))
          have hbl2 : wr.heap.size < (wr.alloc (.cells BV 5 (19, 20))).heap.size := by rw [World.size_alloc]; omega
          have HBN := Lib.hid (HB.out.trans (hbx.mono HB.out.size))
          replace hBV : BV = #[.int .u8 34, .int .u8 35, .int .u8 39, .int .u8 44, .int .u8 58, .int .u8 59, .int .u8 91, .int .u8 92, .int .u8 93, .int .u8 123, .int .u8 124, .int .u8 125, .int .u8 96, .int .u8 0, .int .u8 127, .int .u8 128, .int .u8 255, .int .u8 11, .int .u8 12] := hBV
          try simp only [List.size_toArray, List.length_cons, List.length_nil, Nat.reduceAdd]
          rw [← hBV]
          clear hcv hBV hbx HB
          generalize wr.alloc (.cells BV 5 (19, 20)) = W2 at *
          generalize wr.heap.size = gb at *
          go_loopw [97] (fun i wr => ∃ k : Nat, k ≤ 19 ∧ i = .int .i64 (k : Int) ∧ Below W2.heap.size W2 wr) (fun i _ => 19 - (intOf i).toNat)
          case atStart => exact ⟨0, Nat.zero_le _, rfl, Below.refl _ _⟩
          case round =>
            obtain ⟨k, hk, rfl, hB⟩ := hrel
            by_cases hlt : k < 19
            · have y0 := (hB.cell (p := ⟨gb, k, none⟩) hbl2).trans (hbc k hlt)
              have hall := List.all_eq_true.1 bl3_all (bl3[k]?.getD 0) (by rw [List.getElem?_eq_getElem (show k < bl3.length from hlt)]; exact List.getElem_mem _)
              have HBB := Lib.hid hB
              have HBC := Lib.hid hbc
              clear hbc hB
              generalize bl3[k]?.getD 0 = c at *
              simp only [Bool.and_eq_true, decide_eq_true_eq, beq_iff_eq, Bool.or_eq_true] at hall
              obtain ⟨hc, hk0, hw⟩ := hall
              have ck := fun w => kind_any [c] w (fun x hx => by rw [List.mem_singleton.1 hx]; exact hc) (by simp)
              rw [hk0] at ck
              have hcv := conv_new c hc wr
              have hbx := Lib.hid (HBB.out.trans (((Below.refl wr.heap.size wr).alloc (Nat.le_refl _) (.cells #[.int .u8 (c : Int)] 5)).mono HBB.out.size))
              rcases Nat.decEq c 59 with h59 | h59
              · have hw1 := hw.resolve_left h59
                have h59i : ((c : Int) == 59) = false := beq_eq_false_iff_ne.2 (by omega)
                have cw := fun w => wrong_any [32, c] (fun x hx => by
                  rcases List.mem_cons.1 hx with rfl | hx
                  · decide
                  · rw [List.mem_singleton.1 hx]; exact hc) (by simp) w
                rw [hw1] at cw
                have ea : ∀ w, (Op.stringOp .add ⟨#[32]⟩ (str [c])).run Try.prog w = .ok (.string (str [32, c])) w := add_str2 [32] [c] (by simp)
                clear hw hw1 hk0
                go_wp2_with fail
                refine (ck _).mono ?_
                rintro e w2 ⟨rfl, hb2⟩
                have HBM := Lib.hid (hbx.out.trans (hb2.mono hbx.out.size))
                clear ck hcv hb2
                go_wp2_with fail
                refine (cw _).mono ?_
                rintro e w3 ⟨rfl, hb3⟩
                have HBN2 := Lib.hid (HBM.out.trans (hb3.mono HBM.out.size))
                clear cw hb3
                go_wp2_with fail
                go_roundw
                case rel => first | exact ⟨k + 1, by omega, by go_num, HBN2.out⟩ | ((repeat apply Exists.intro); exact ⟨⟨k + 1, by omega, by go_num, HBN2.out⟩, rfl⟩)
                case measure => simp [intOf]; omega
              · have h59i : ((c : Int) == 59) = true := beq_iff_eq.2 (by omega)
                have h59n : ((c : Int) != 59) = false := by rw [bne_eq_false_iff_eq]; omega
                clear hw hk0 h59
                go_wp2_with fail
                refine (ck _).mono ?_
                rintro e w2 ⟨rfl, hb2⟩
                have HBM := Lib.hid (hbx.out.trans (hb2.mono hbx.out.size))
                clear ck hcv hb2
                go_wp2_with fail
                go_roundw
                case rel => first | exact ⟨k + 1, by omega, by go_num, HBM.out⟩ | ((repeat apply Exists.intro); exact ⟨⟨k + 1, by omega, by go_num, HBM.out⟩, rfl⟩)
                case measure => simp [intOf]; omega
            · obtain rfl : k = 19 := by omega
              have HB := Lib.hid (HBN.out.trans (hB.mono HBN.out.size))
              clear hbc hB HBN hbl2
              have cw0 := fun w => wrong_any [] (codes_lit (by decide)) (by decide) w
              rw [wv0] at cw0
              have cw1 := fun w => wrong_any [59, 97, 41, 10, 59] (codes_lit (by decide)) (by decide) w
              rw [wv1] at cw1
              have cw2 := fun w => wrong_any [97, 59, 0, 10, 98] (codes_lit (by decide)) (by decide) w
              rw [wv2] at cw2
              have cw3 := fun w => wrong_any [97, 32, 59, 98, 10, 34] (codes_lit (by decide)) (by decide) w
              rw [wv3] at cw3
              have cw4 := fun w => wrong_any [9, 13, 10, 32] (codes_lit (by decide)) (by decide) w
              rw [wv4] at cw4
              have cw5 := fun w => wrong_any (97 :: (rep 9 [32] ++ rep 65 [98])) codes10 (by rw [List.length_cons, List.length_append, rep_len, rep_len]; decide) w
              rw [wv5] at cw5
              have cw6 := fun w => wrong_any [40, 41, 41, 40] (codes_lit (by decide)) (by decide) w
              rw [wv6] at cw6
              have cw7 := fun w => wrong_any [120, 40, 49, 121, 41] (codes_lit (by decide)) (by decide) w
              rw [wv7] at cw7
              have p9 := fun w => copies_any [32] 9 (by decide) (by decide) w
              have p65 := fun w => copies_any [98] 65 (by decide) (by decide) w
              have ea : ∀ w, (Op.stringOp .add ⟨#[97]⟩ (str (rep 9 [32]))).run Try.prog w = .ok (.string (str (97 :: rep 9 [32]))) w := add_str2 [97] (rep 9 [32]) (by rw [rep_len]; decide)
              have eb : ∀ w, (Op.stringOp .add (str (97 :: rep 9 [32])) (str (rep 65 [98]))).run Try.prog w = .ok (.string (str (97 :: (rep 9 [32] ++ rep 65 [98])))) w := add_str2 (97 :: rep 9 [32]) (rep 65 [98]) (by rw [List.length_cons, rep_len, rep_len]; decide)
              go_wp2_with fail
              refine (cw0 _).mono ?_
              rintro e w10 ⟨rfl, hq⟩
              replace HB := Lib.hid (HB.out.trans (hq.mono HB.out.size))
              clear hq
              go_wp2_with fail
              refine (cw1 _).mono ?_
              rintro e w11 ⟨rfl, hq⟩
              replace HB := Lib.hid (HB.out.trans (hq.mono HB.out.size))
              clear hq
              go_wp2_with fail
              refine (cw2 _).mono ?_
              rintro e w12 ⟨rfl, hq⟩
              replace HB := Lib.hid (HB.out.trans (hq.mono HB.out.size))
              clear hq
              go_wp2_with fail
              refine (cw3 _).mono ?_
              rintro e w13 ⟨rfl, hq⟩
              replace HB := Lib.hid (HB.out.trans (hq.mono HB.out.size))
              clear hq
              go_wp2_with fail
              refine (cw4 _).mono ?_
              rintro e w14 ⟨rfl, hq⟩
              replace HB := Lib.hid (HB.out.trans (hq.mono HB.out.size))
              clear hq
              go_wp2_with fail
              refine (p9 _).mono ?_
              rintro e w15 ⟨rfl, hw⟩
              obtain rfl := hw.symm
              clear hw
              go_wp2_with fail
              refine (p65 _).mono ?_
              rintro e w16 ⟨rfl, hw⟩
              obtain rfl := hw.symm
              clear hw
              go_wp2_with fail
              refine (cw5 _).mono ?_
              rintro e w17 ⟨rfl, hq⟩
              replace HB := Lib.hid (HB.out.trans (hq.mono HB.out.size))
              clear hq
              go_wp2_with fail
              refine (cw6 _).mono ?_
              rintro e w18 ⟨rfl, hq⟩
              replace HB := Lib.hid (HB.out.trans (hq.mono HB.out.size))
              clear hq
              go_wp2_with fail
              refine (cw7 _).mono ?_
              rintro e w19 ⟨rfl, hq⟩
              replace HB := Lib.hid (HB.out.trans (hq.mono HB.out.size))
              clear hq
              clear cw0 cw1 cw2 cw3 cw4 cw5 cw6 cw7 p9 p65 ea eb
              have cW := fun w => words_any [97, 40, 98, 41, 99] (codes_lit (by decide)) (by decide) w
              go_wp2_with fail
              refine (cW _).mono ?_
              rintro e wa ⟨⟨va, rfl, ra⟩, hq⟩
              rw [lw5.2.1, lw5.2.2]
              obtain ⟨Aa, ca, rfl⟩ := slice_form ra
              rw [lw5.1]
              replace HB := Lib.hid (HB.out.trans (hq.mono HB.out.size))
              clear hq ra cW
              have q1 := fun w => copies_any [32] 256 (by decide) (by decide) w
              have q2 := fun w => copies_any (rep 256 [32]) 256 (by decide) (by rw [rep_len]; decide) w
              go_wp2_with fail
              refine (q1 _).mono ?_
              rintro e w20 ⟨rfl, hw⟩
              obtain rfl := hw.symm
              clear hw
              go_wp2_with fail
              refine (q2 _).mono ?_
              rintro e w21 ⟨rfl, hw⟩
              obtain rfl := hw.symm
              clear hw
              clear q1 q2
              have cW := fun w => words_any many many_codes (by rw [many_len]; decide) w
              go_wp2_with fail
              refine (cW _).mono ?_
              rintro e wb ⟨⟨vb, rfl, rb⟩, hq⟩
              rw [many_w.1] at rb
              rw [many_w.2.1, many_w.2.2]
              obtain ⟨Ab, cb, rfl⟩ := slice_form rb
              replace HB := Lib.hid (HB.out.trans (hq.mono HB.out.size))
              clear hq rb cW
              have em : ∀ w, (Op.stringOp .add (str (rep 256 (rep 256 [32]))) ⟨#[32]⟩).run Try.prog w = .ok (.string (str (many ++ [32]))) w := add_str2 many [32] (by rw [many_len]; decide)
              have cW := fun w => words_any (many ++ [32]) more_codes (by rw [List.length_append, many_len]; decide) w
              go_wp2_with fail
              refine (cW _).mono ?_
              rintro e wc ⟨⟨vc, rfl, rc⟩, hq⟩
              rw [more_w.1] at rc
              rw [more_w.2.1, more_w.2.2]
              obtain ⟨Ac, cc, rfl⟩ := slice_form rc
              replace HB := Lib.hid (HB.out.trans (hq.mono HB.out.size))
              clear hq rc cW em
              go_wp2_with fail
              refine (join0 _).mono ?_
              rintro e w22 ⟨rfl, hq⟩
              replace HB := Lib.hid (HB.out.trans (hq.mono HB.out.size))
              clear hq
              go_wp2_with fail
              refine (join1 5 [49] (codes_lit (by decide)) (by decide) (by rw [kd49]; decide) _ rfl _).mono ?_
              rintro e w23 ⟨rfl, hq⟩
              replace HB := Lib.hid (HB.out.trans (hq.mono HB.out.size))
              clear hq
              go_wp2_with fail
              refine (join1 0 [] (fun _ h => by cases h) (by decide) (by decide) _ rfl _).mono ?_
              rintro e w24 ⟨rfl, hq⟩
              replace HB := Lib.hid (HB.out.trans (hq.mono HB.out.size))
              clear hq
              go_wp2_with fail
              refine (join2 _).mono ?_
              rintro e w25 ⟨rfl, hq⟩
              replace HB := Lib.hid (HB.out.trans (hq.mono HB.out.size))
              clear hq
              go_wp2
              go_ret
              exact ⟨rfl, HB.out⟩

end Go.Proofs.Ytkkocohfdcnamaa

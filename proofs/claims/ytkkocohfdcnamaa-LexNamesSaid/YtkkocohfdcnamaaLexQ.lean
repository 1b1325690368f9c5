/- Contracts: copies, Join. -/
import Derived.Laws.Concat
import Derived.Test.YtkkocohfdcnamaaBuild
import Derived.Test.YtkkocohfdcnamaaLexN
namespace Go.Proofs.Ytkkocohfdcnamaa
open Go.RowKit Go.Shelf

set_option linter.unusedVariables false
set_option linter.unusedSimpArgs false

def rep (k : Nat) (L : List Nat) : List Nat := (List.replicate k L).flatten
theorem rep_zero (L : List Nat) : rep 0 L = [] := rfl
theorem rep_succ (k : Nat) (L : List Nat) : rep (k + 1) L = rep k L ++ L := by
  unfold rep
  rw [List.replicate_succ', List.flatten_append, List.flatten_singleton]
theorem rep_len : ∀ (k : Nat) (L : List Nat), (rep k L).length = k * L.length
  | 0, L => by rw [rep_zero]; simp
  | k + 1, L => by rw [rep_succ, List.length_append, rep_len k L, Nat.succ_mul]
theorem rep_codes {k : Nat} {L : List Nat} (h : Codes L) : Codes (rep k L) := fun c hc => by
  unfold rep at hc
  rw [List.mem_flatten] at hc
  obtain ⟨l, hl, hcl⟩ := hc
  rw [List.eq_of_mem_replicate hl] at hcl
  exact h c hcl
theorem str_append2 (A B : List Nat) : str A ++ str B = str (A ++ B) := by
  apply ByteArray.ext
  apply Array.ext'
  simp [str]
theorem add_str2 (A B : List Nat) (h : A.length + B.length ≤ 9223372036854775807) (w : World) : (Op.stringOp .add (str A) (str B)).run Try.prog w = .ok (.string (str (A ++ B))) w := by
  rw [run_string_add_sum (P := Try.prog) w (str A) (str B) (by rw [str_size, str_size]; exact h), str_append2]
set_option maxRecDepth 100000 in
set_option maxHeartbeats 2000000 in
theorem copies_any (L : List Nat) (n : Nat) (hn : n ≤ 65536) (hl : L.length ≤ 65536) (w : World) : Calls Try.prog 8 #[.string (str L), .int .i64 (n : Int)] w fun e w' => e = .returned (.string (str (rep n L))) ∧ w' = w := by
  go_enter Try.func8, Try.ntmps8
  go_wp2
  go_loopw [5, 6] (fun o i wr => ∃ k : Nat, k ≤ n ∧ o = .string (str (rep k L)) ∧ i = .int .i64 (k : Int) ∧ wr = w) (fun _ i _ => n - (intOf i).toNat)
  case atStart => exact ⟨0, Nat.zero_le _, rfl, rfl, rfl⟩
  case round =>
    obtain ⟨k, hk, rfl, rfl, rfl⟩ := hrel
    by_cases hlt : k < n
    · have hlen : (rep k L).length ≤ 65536 * 65536 := by rw [rep_len]; exact Nat.mul_le_mul (by omega) hl
      have e1 := add_str2 (rep k L) L (by omega)
      rw [← rep_succ] at e1
      have HE := Lib.hid (rep_succ k L)
      clear hlen
      go_wp2
      go_roundw
      case rel => exact ⟨k + 1, by omega, rfl, by go_num, trivial⟩
      case measure => simp [intOf]; omega
    · obtain rfl : k = n := by omega
      go_wp2
      go_ret
      exact ⟨rfl, rfl⟩

/-- what the words are, joined -/
def jn (T : Nat → List Nat) : Nat → List Nat
  | 0 => []
  | k + 1 => (jn T k ++ if 0 < k then [32] else []) ++ T k
theorem jn_len {T : Nat → List Nat} {M : Nat} : ∀ {k : Nat}, (∀ i, i < k → (T i).length ≤ M) → (jn T k).length ≤ k * (M + 1)
  | 0, _ => by simp [jn]
  | k + 1, h => by
    have ih := jn_len (T := T) (k := k) (fun i hi => h i (by omega))
    have hk := h k (by omega)
    rw [jn, List.length_append, List.length_append, Nat.succ_mul]
    split <;> simp <;> omega
def Items (w : World) (v : Value) (n : Nat) (K : Nat → Nat) (T : Nat → List Nat) : Prop := ∃ A cp, v = .slice A n cp ∧ (0 < n → ∃ g, A = some ⟨g, 0, none⟩ ∧ g < w.heap.size ∧ ∀ i, i < n → ∃ a t : Int, w.cell? ⟨g, i * 4, none⟩ = some (.int .u8 ((K i : Nat) : Int)) ∧ w.cell? ⟨g, i * 4 + 1, none⟩ = some (.int .i64 a) ∧ w.cell? ⟨g, i * 4 + 2, none⟩ = some (.int .i64 t) ∧ w.cell? ⟨g, i * 4 + 3, none⟩ = some (.string (str (T i))))
def bcs (L : List Nat) : List Value := Lib.byteCells (L.map UInt8.ofNat)

theorem bcs_append (A B : List Nat) : bcs (A ++ B) = bcs A ++ bcs B := by unfold bcs Lib.byteCells; rw [List.map_append, List.map_append]
theorem bcs_len (A : List Nat) : (bcs A).length = A.length := by unfold bcs Lib.byteCells; simp
theorem isB_keep {B b : Nat} {bs : List Value} {w w' : World} (h : Lib.IsBuilderF 51 5 B b bs w) (hb : Below w.heap.size w w') : Lib.IsBuilderF 51 5 B b bs w' := by
  have one : ∀ p, Lib.BuilderAtF 51 5 B b p bs w → Lib.BuilderAtF 51 5 B b p bs w' := by
    rintro p ⟨hB, v, hv, ho, hne⟩
    exact ⟨hB, v, (hb.block b (Array.getElem?_eq_some_iff.1 hv).1).trans hv, ho.kept (row := none) ⟨hb.os, hb.tape, hb.output, hb.size, fun k hk _ => hb.block k hk⟩ (by cases hv : v.ownBlock <;> simp), hne⟩
  exact h.elim (fun x => .inl (one _ x)) (fun x => .inr (one _ x))

theorem isB_lt {B b : Nat} {bs : List Value} {w : World} (h : Lib.IsBuilderF 51 5 B b bs w) : b < w.heap.size := by
  rcases h with ⟨_, v, hv, _⟩ | ⟨_, v, hv, _⟩ <;> exact (Array.getElem?_eq_some_iff.1 hv).1

set_option maxRecDepth 100000 in
set_option maxHeartbeats 8000000 in
theorem join_any (v : Value) (n : Nat) (K : Nat → Nat) (T : Nat → List Nat) (w : World) (hn : n ≤ 1000) (hv : Items w v n K T) (hT : ∀ i, i < n → Codes (T i) ∧ (T i).length ≤ 1000) :
    Calls Try.prog 12 #[v] w fun e w' => (∃ R, e = .returned (.string (str R)) ∧ ((∀ i, i < n → K i ≠ 0 ∧ K i = kd (T i)) → R = jn T n) ∧ ((∃ i, i < n ∧ ¬ (K i ≠ 0 ∧ K i = kd (T i))) → R = [])) ∧ Below w.heap.size w w' := by
  obtain ⟨A, cp, rfl, hA⟩ := hv
  have hjl : ∀ k, k ≤ n → (jn T k).length ≤ 1001000 := fun k hk => by
    have := jn_len (T := T) (M := 1000) (k := k) (fun i hi => (hT i (by omega)).2)
    have h2 : k * (1000 + 1) ≤ 1000 * 1001 := Nat.mul_le_mul (by omega) (by omega)
    omega
  go_enter Try.func12, Try.ntmps12
  go_wp2_with fail
  have hnew := World.alloc_heap_new w (.cells #[.pointer none, .slice none 0 0] 51)
  have hbx := (Below.refl w.heap.size w).alloc (Nat.le_refl _) (.cells #[.pointer none, .slice none 0 0] 51)
  have hB0 : Lib.IsBuilderF 51 5 w.heap.size w.heap.size (bcs (jn T 0)) (w.alloc (.cells #[.pointer none, .slice none 0 0] 51)) :=
    .inl ⟨Nat.le_refl _, _, hnew, World.ownsRowF_nil _ _ _ _, by simp [Value.ownBlock]⟩
  clear hnew
  generalize w.alloc (.cells #[.pointer none, .slice none 0 0] 51) = W at *
  go_loopw [8] (fun i wr => ∃ k : Nat, k ≤ n ∧ i = .int .i64 (k : Int) ∧ Lib.IsBuilderF 51 5 w.heap.size w.heap.size (bcs (jn T k)) wr ∧ (∀ i, i < k → K i ≠ 0 ∧ K i = kd (T i)) ∧ Below w.heap.size w wr) (fun i _ => n - (intOf i).toNat)
  case atStart => exact ⟨0, Nat.zero_le _, rfl, hB0, fun i hi => by omega, hbx⟩
  case round =>
    obtain ⟨k, hk, rfl, hBl, hgood, hB⟩ := hrel
    by_cases hlt : k < n
    · obtain ⟨g, rfl, hg, hcell⟩ := hA (by omega)
      obtain ⟨a, t, x0, x1, x2, x3⟩ := hcell k hlt
      obtain ⟨hTc, hTl⟩ := hT k hlt
      have y0 := (hB.cell (p := ⟨g, k * 4, none⟩) hg).trans x0
      have y1 := (hB.cell (p := ⟨g, k * 4 + 1, none⟩) hg).trans x1
      have y2 := (hB.cell (p := ⟨g, k * 4 + 2, none⟩) hg).trans x2
      have y3 := (hB.cell (p := ⟨g, k * 4 + 3, none⟩) hg).trans x3
      have hjk := hjl k (by omega)
      have HJ : Hid (jn T (k + 1) = (jn T k ++ if 0 < k then [32] else []) ++ T k) := rfl
      have CK := Lib.hid (fun w2 => kind_any (T k) w2 hTc (by omega))
      have HA := Lib.hid hA
      have HCELL := Lib.hid hcell
      have HTT := Lib.hid hT
      have HJL := Lib.hid hjl
      have HBL := Lib.hid hBl
      have HG := Lib.hid hgood
      have HB := Lib.hid hB
      have hk0 : (0 : Int) ≤ (k : Int) := by omega
      have hkS : (k : Int) < (n : Int) := by omega
      have hkk : k < 1000 := by omega
      clear x0 x1 x2 x3 hcell hA hT hjl hBl hgood hB hbx hB0
      obtain ⟨κ, hκ⟩ : ∃ κ, κ = K k := ⟨_, rfl⟩
      rw [← hκ] at y0
      have hKk := Lib.hid hκ.symm
      obtain ⟨d, hd⟩ : ∃ d, d = kd (T k) := ⟨_, rfl⟩
      rw [← hd] at CK
      have HDD := Lib.hid hd
      clear hd
      clear hκ
      go_wp2_with fail
      have hbx := (Below.refl wr.heap.size wr).alloc (Nat.le_refl _) (.cells #[.int .u8 ((κ : Nat) : Int), .int .i64 a, .int .i64 t, .string (str (T k))] 35)
      have hnew := World.alloc_heap_new wr (.cells #[.int .u8 ((κ : Nat) : Int), .int .i64 a, .int .i64 t, .string (str (T k))] 35)
      have HBX := Lib.hid (HB.out.trans (hbx.mono HB.out.size))
      have HBL2 := Lib.hid (isB_keep HBL.out hbx)
      clear y0 y1 y2 y3 hbx
      generalize wr.alloc (.cells #[.int .u8 ((κ : Nat) : Int), .int .i64 a, .int .i64 t, .string (str (T k))] 35) = WA at *
      have s0 : WA.drew.cell? ⟨wr.heap.size, 0, none⟩ = some (.int .u8 ((κ : Nat) : Int)) ∧ WA.drew.cell? ⟨wr.heap.size, 3, none⟩ = some (.string (str (T k))) :=
        ⟨(cell_of_row WA _ _ _ _ _ hnew).trans rfl, (cell_of_row WA _ _ _ _ _ hnew).trans rfl⟩
      have hvl : wr.heap.size < WA.drew.heap.size := (Array.getElem?_eq_some_iff.1 hnew).1
      have hnewc : WA.drew.heap[wr.heap.size]? = some (.cells #[.int .u8 ((κ : Nat) : Int), .int .i64 a, .int .i64 t, .string (str (T k))] 35 (0, 0)) := hnew
      clear hnew
      have hwvb : w.heap.size < wr.heap.size := isB_lt HBL.out
      generalize hvv : wr.heap.size = vb at *
      clear hvv
      rcases Nat.decEq κ 0 with hκ0 | hκ0
      rotate_left
      · have mixed : Try.prog.follows .mixedOrders = true := by kernel_rfl
        subst hκ0
        have q0 := s0.1
        have q3 := s0.2
        clear s0
        go_region_o
        all_goals
          go_wp2_with fail
          go_ret
          exact ⟨⟨[], rfl, fun h => absurd (h k hlt) (by rw [hKk.out]; omega), fun _ => rfl⟩, HBX.out.drew⟩
      · have hκi : ((κ : Int) == 0) = false := beq_eq_false_iff_ne.2 (by omega)
        have HNE := Lib.hid hκ0
        have HNV := Lib.hid hnewc
        have HS0 := Lib.hid s0
        clear hκ0 hnewc
        rcases Nat.decEq κ d with hkd | hkd
        · have hne : ((κ : Int) == (d : Int)) = false := beq_eq_false_iff_ne.2 (by omega)
          have HKD := Lib.hid hkd
          clear hkd
          go_region_held3 (fun w' => w'.cell? ⟨vb, 0, none⟩ = some (.int .u8 ((κ : Nat) : Int)) ∧ w'.cell? ⟨vb, 3, none⟩ = some (.string (str (T k)))) (first | exact s0 | exact s1) (first
            | (go_at_call 9; (with_reducible refine (CK.out _).mono ?_); rintro e w2 ⟨rfl, hb2⟩; have s1 : w2.cell? ⟨vb, 0, none⟩ = some (.int .u8 ((κ : Nat) : Int)) ∧ w2.cell? ⟨vb, 3, none⟩ = some (.string (str (T k))) := ⟨(hb2.cell (p := ⟨vb, 0, none⟩) hvl).trans s0.1, (hb2.cell (p := ⟨vb, 3, none⟩) hvl).trans s0.2⟩))
          all_goals
            clear s0 s1
            go_wp2_with fail
            go_ret
            exact ⟨⟨[], rfl, fun h => absurd (h k hlt) (by rw [hKk.out]; intro hh; exact HKD.out (by rw [HDD.out]; exact hh.2)), fun _ => rfl⟩, HBX.out.drew.trans (hb2.mono HBX.out.drew.size)⟩
        · subst hkd
          go_region_held3 (fun w' => w'.cell? ⟨vb, 0, none⟩ = some (.int .u8 ((κ : Nat) : Int)) ∧ w'.cell? ⟨vb, 3, none⟩ = some (.string (str (T k)))) (first | exact s0 | exact s1) (first
            | (go_at_call 9; (with_reducible refine (CK.out _).mono ?_); rintro e w2 ⟨rfl, hb2⟩; have s1 : w2.cell? ⟨vb, 0, none⟩ = some (.int .u8 ((κ : Nat) : Int)) ∧ w2.cell? ⟨vb, 3, none⟩ = some (.string (str (T k))) := ⟨(hb2.cell (p := ⟨vb, 0, none⟩) hvl).trans s0.1, (hb2.cell (p := ⟨vb, 3, none⟩) hvl).trans s0.2⟩))
          all_goals
            have HNV2 := Lib.hid ((hb2.block vb hvl).trans HNV.out)
            have HBY := Lib.hid (HBX.out.drew.trans (hb2.mono HBX.out.drew.size))
            have HBL3 := Lib.hid (isB_keep (isB_keep HBL2.out (Below.refl _ _).drew) hb2)
            have HGN := Lib.hid (show ∀ i, i < k + 1 → K i ≠ 0 ∧ K i = kd (T i) from fun i hi => by
              rcases Nat.lt_or_ge i k with h | h
              · exact HG.out i h
              · obtain rfl : i = k := by omega
                rw [hKk.out]
                exact ⟨HNE.out, HDD.out⟩)
            have hlenk := bcs_len (jn T k)
            have hst := str_size (T k)
            clear s0 s1 hb2
            rcases Nat.eq_zero_or_pos k with hk1 | hk1
            · have hki : ¬ ((0 : Int) < (k : Int)) := by omega
              have HJ2 : Hid (bcs (jn T k) ++ bcs (T k) = bcs (jn T (k + 1))) := by
                show _ = _
                rw [HJ.out, if_neg (by omega), List.append_nil, bcs_append]
              have z3 : w2.cell? ⟨vb, 3, none⟩ = some (.string (str (T k))) := (cell_of_row w2 _ _ _ _ _ HNV2.out).trans rfl
              have cw := writeS_any w.heap.size w.heap.size (bcs (jn T k)) (str (T k)) w2 HBL3.out (by omega) HBY.out.size
              clear hk1
              go_wp2_with fail
              refine cw.mono ?_
              rintro e w4 ⟨rfl, h4, hb4, _⟩
              have HN4 := Lib.hid (show Lib.IsBuilderF 51 5 w.heap.size w.heap.size (bcs (jn T (k + 1))) w4 by rw [← HJ2.out]; exact .inr h4)
              have HB4 := Lib.hid (HBY.out.trans hb4)
              clear cw h4 hb4
              go_wp2_with fail
              go_roundw
              case rel => exact ⟨k + 1, by omega, by go_num, HN4.out, HGN.out, HB4.out⟩
              case measure => simp [intOf]; omega
            · have hki : (0 : Int) < (k : Int) := by omega
              have HJ2 : Hid ((bcs (jn T k) ++ [.int .u8 32]) ++ bcs (T k) = bcs (jn T (k + 1))) := by
                show _ = _
                rw [HJ.out, if_pos (by omega), bcs_append, bcs_append]; rfl
              have cw := writeB_any w.heap.size w.heap.size (bcs (jn T k)) 32 w2 HBL3.out (by omega) HBY.out.size
              clear hk1
              go_wp2_with fail
              refine cw.mono ?_
              rintro e w4 ⟨rfl, h4, hb4, hk4⟩
              have hv4 := hk4 vb _ HNV2.out (fun e => by injection e with e; omega) (fun c fz => by intro e; injection e with e1 e2; cases e2)
              have z3 : w4.cell? ⟨vb, 3, none⟩ = some (.string (str (T k))) := (cell_of_row w4 _ _ _ _ _ hv4).trans rfl
              have HB4 := Lib.hid (HBY.out.trans hb4)
              have cs := writeS_any w.heap.size w.heap.size (bcs (jn T k) ++ [.int .u8 32]) (str (T k)) w4 (.inr h4) (by rw [List.length_append, List.length_singleton]; omega) HB4.out.size
              clear cw h4 hb4 hk4 hv4
              go_wp2_with fail
              refine cs.mono ?_
              rintro e w5 ⟨rfl, h5, hb5, _⟩
              have HN5 := Lib.hid (show Lib.IsBuilderF 51 5 w.heap.size w.heap.size (bcs (jn T (k + 1))) w5 by rw [← HJ2.out]; exact .inr h5)
              have HB5 := Lib.hid (HB4.out.trans hb5)
              clear cs h5 hb5
              go_wp2_with fail
              go_roundw
              case rel => exact ⟨k + 1, by omega, by go_num, HN5.out, HGN.out, HB5.out⟩
              case measure => simp [intOf]; omega
    · obtain rfl : k = n := by omega
      have cs := Go.Proofs.Try.Builder_String_any_f w.heap.size w.heap.size ((jn T k).map UInt8.ofNat) wr hBl hB.size
      have HB := Lib.hid hB
      have HG := Lib.hid hgood
      clear hA hT hjl hBl hgood hB hbx hB0
      go_wp2_with fail
      refine cs.mono ?_
      rintro e w2 ⟨rfl, _, hb2⟩
      have HB2 := Lib.hid (HB.out.trans hb2)
      clear cs hb2
      go_wp2
      go_ret
      exact ⟨⟨jn T k, rfl, fun _ => rfl, fun ⟨i, hi, hn⟩ => absurd (HG.out i hi) hn⟩, HB2.out⟩

end Go.Proofs.Ytkkocohfdcnamaa

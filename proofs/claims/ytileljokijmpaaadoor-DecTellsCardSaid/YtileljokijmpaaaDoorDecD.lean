/- Contracts: the iterators pieces and slices.Chunk. -/
import Derived.Sort.QuietIn
import Derived.Test.YtileljokijmpaaaDoorPackN
import Derived.Test.YtileljokijmpaaaDoorDecC
namespace Go.Proofs.YtileljokijmpaaaDoor
open Go.RowKit Go.Shelf

attribute [local go_sem] Oper.semAt_some
set_option linter.unusedVariables false

/-- below n₀ nothing has turned, nor have some boxes -/
def KpC (n₀ : Nat) (cs : List Nat) (W W' : World) : Prop := Below n₀ W W' ∧ ∀ B, B ∈ cs → W'.heap[B]? = W.heap[B]?
theorem KpC.refl (n₀ : Nat) (cs : List Nat) (W : World) : KpC n₀ cs W W := ⟨Below.refl _ _, fun _ _ => rfl⟩
theorem kpC_t {n₀ : Nat} {cs : List Nat} {A B C : World} (h : KpC n₀ cs A B) (k : KpC n₀ cs B C) : KpC n₀ cs A C := ⟨h.1.trans k.1, fun b hb => (k.2 b hb).trans (h.2 b hb)⟩
theorem kpC_b {n₀ : Nat} {cs : List Nat} {w : World} (hn : n₀ ≤ w.heap.size) (hc : ∀ B, B ∈ cs → B < w.heap.size) (W : World) (l : Nat) (o o' : Obj) (hl : w.heap.size ≤ l) (h : W.heap[l]? = some o) (h2 : o.isCells = false) (h3 : o.isWalk = false) : KpC n₀ cs W (W.putObj l o') :=
  ⟨belowK_b hn W l o o' hl h h2 h3, fun B hB => World.putObj_heap_other (by have := hc B hB; omega)⟩
theorem KpC.drewN {n₀ : Nat} {cs : List Nat} {A B : World} (h : KpC n₀ cs A B) (n : Nat) : KpC n₀ cs A (B.drewN n) := ⟨below_drewN h.1 n, h.2⟩
theorem KpC.cell {n₀ : Nat} {cs : List Nat} {A B : World} (h : KpC n₀ cs A B) {b : Nat} (hb : b ∈ cs) : B.cell? ⟨b, 0, none⟩ = A.cell? ⟨b, 0, none⟩ := World.cell?_of_block (h.2 b hb)
/-- the j-th piece of nine digits, from the end -/
def piece (L : List Nat) (j : Nat) : List Nat := (L.take (L.length - 9 * j)).drop (L.length - 9 * j - 9)
def pieceN (L : List Nat) : Nat := (L.length + 8) / 9
def tellP (L : List Nat) (j : Fin (pieceN L)) : Array Value := #[.string (str (piece L j.1))]
theorem str_extract (L : List Nat) (a b : Nat) : (str L).extract a b = str ((L.take b).drop a) := by
  apply ByteArray.ext
  rw [ByteArray.data_extract]
  show (L.map UInt8.ofNat).toArray.extract a b = _
  apply Array.ext'
  simp only [Array.toList_extract, str]
  rw [List.extract_eq_take_drop, List.map_drop, List.map_take, List.drop_take]

set_option maxRecDepth 100000 in
set_option maxHeartbeats 2000000 in
theorem pieces1_in (F : Fence) (n : Nat) (h8 : F.fn 71) (hro : F.round = none) (hn : 1 ≤ n) (l Bs n₀ : Nat) (L : List Nat) (hreach : L.length < 9223372036854775808) (J Jx : List (Fin (pieceN L)) → World → Prop)
    (hY : ∀ pre x W, J pre W → pre.length < pieceN L → YieldAt F (n - 1) Tryd.prog l (tellP L x) W fun e W' =>
      (e = .returned (.bool true) ∧ J (pre ++ [x]) W' ∧ KpC n₀ [Bs] W W') ∨ (e = .returned (.bool false) ∧ Jx (pre ++ [x]) W'))
    (W : World) (hBs : W.cell? ⟨Bs, 0, none⟩ = some (.string (str L))) (h0 : J [] W) :
    CallsIn F n Tryd.prog 71 #[.func (.yield l) #[] #[], .pointer (some ⟨Bs, 0, none⟩)] W fun e W' => (∃ v, e = .returned v) ∧
      ((∃ ys, ys = List.finRange (pieceN L) ∧ J ys W') ∨ (∃ pre, (∃ k hk, pre = upTo (n := pieceN L) k hk) ∧ Jx pre W')) := by
  refine callsIn_of_wp Tryd.func71 rfl h8 ?_ hro
  simp only [Tryd.ntmps71, List.size_toArray, List.length_cons, List.length_nil, Nat.reduceAdd, Nat.reduceSub, Array.replicate_succ, Array.replicate_zero, List.push_toArray, List.append_toArray, List.nil_append, List.cons_append]
  have hsz := str_size L
  gi_wp2
  gi_loopw [3] (fun i wr => ∃ (k : Nat) (hk : k ≤ pieceN L), i = .int .i64 ((L.length : Int) - 9 * k) ∧ J (upTo k hk) wr ∧ KpC n₀ [Bs] W wr)
    (fun i _ => (intOf i + 9).toNat)
  case atStart => exact ⟨0, Nat.zero_le _, by simp, h0, KpC.refl _ _ _⟩
  case round =>
    obtain ⟨k, hk, rfl, hJs, hnx⟩ := hrel
    have hcx : wr.cell? ⟨Bs, 0, none⟩ = some (.string (str L)) := (hnx.cell (by simp)).trans hBs
    by_cases hlt : k < pieceN L
    · obtain ⟨fn, tmps, assign, body, hy, hR⟩ := hY _ ⟨k, hlt⟩ wr hJs (by rw [upTo_length]; exact hlt)
      unfold tellP piece at hy
      dsimp only at hy
      have hpn : k < (L.length + 8) / 9 := hlt
      have hkl : 9 * k < L.length := by omega
      obtain ⟨e, he⟩ : ∃ e : Nat, e = L.length - 9 * k := ⟨_, rfl⟩
      have hei : (L.length : Int) - 9 * (k : Int) = (e : Int) := by omega
      have hel : e ≤ L.length := by omega
      have he0 : 0 < e := by omega
      rw [← he, ← str_extract] at hy
      rw [hei]
      have HEI := Lib.hid hei
      have HP := Lib.hid (show (L.length + 8) / 9 = pieceN L from rfl)
      have hml : 9 * (k + 1) ≤ L.length + 8 := by omega
      clear hei he hBs
      by_cases h9 : 9 ≤ e
      · obtain ⟨a, ha⟩ : ∃ a : Nat, e = a + 9 := ⟨e - 9, by omega⟩
        rw [show e - 9 = a from by omega] at hy
        subst ha
        have hmx : max (((a + 9 : Nat) : Int) - 9) 0 = (a : Int) := by omega
        gi_wp2
        refine hR.mono ?_
        rintro e W3 (⟨rfl, hJ3, hk3⟩ | ⟨rfl, hJx3⟩)
        · gi_wp2
          go_roundw
          case rel => exact ⟨k + 1, by unfold pieceN; omega, by have := HEI.out; congr 1; omega, by rw [upTo_succ hlt]; exact hJ3, kpC_t hnx hk3⟩
          case measure => simp [intOf]; omega
        · gi_wp2
          refine bodyPost_ret (results_none rfl _ _ _) rfl ?_
          exact ⟨⟨_, rfl⟩, .inr ⟨_, ⟨k + 1, hlt, (upTo_succ hlt).symm⟩, hJx3⟩⟩
      · rw [show e - 9 = 0 from by omega] at hy
        have hmx : max ((e : Int) - 9) 0 = 0 := by omega
        gi_wp2
        refine hR.mono ?_
        rintro e W3 (⟨rfl, hJ3, hk3⟩ | ⟨rfl, hJx3⟩)
        · gi_wp2
          go_roundw
          case rel => exact ⟨k + 1, by unfold pieceN; omega, by have := HEI.out; congr 1; omega, by rw [upTo_succ hlt]; exact hJ3, kpC_t hnx hk3⟩
          case measure => simp [intOf]; omega
        · gi_wp2
          refine bodyPost_ret (results_none rfl _ _ _) rfl ?_
          exact ⟨⟨_, rfl⟩, .inr ⟨_, ⟨k + 1, hlt, (upTo_succ hlt).symm⟩, hJx3⟩⟩
    · obtain rfl : k = pieceN L := by omega
      unfold pieceN at *
      gi_wp2
      go_end0
      exact ⟨⟨_, rfl⟩, .inl ⟨_, upTo_all _, hJs⟩⟩

/-- pieces(s): the text is boxed; the function value captures the box. -/
theorem pieces_in (F : Fence) (n : Nat) (h5 : F.fn 49) (hro : F.round = none) (s : ByteArray) (w : World) :
    CallsIn F n Tryd.prog 49 #[.string s] w fun e w' => e = .returned (.func (.func 71) #[] #[.pointer (some ⟨w.heap.size, 0, none⟩)]) ∧ w' = w.alloc (.cells #[.string s] 9) := by
  refine callsIn_of_wp Tryd.func49 rfl h5 ?_ hro
  simp only [Tryd.ntmps49, List.size_toArray, List.length_cons, List.length_nil, Nat.reduceAdd, Nat.reduceSub, Array.replicate_succ, Array.replicate_zero, List.push_toArray, List.append_toArray, List.nil_append, List.cons_append]
  gi_wp2
  go_ret
  exact ⟨rfl, rfl⟩
theorem pieces_stops (F : Fence) (n : Nat) (h8 : F.fn 71) (hro : F.round = none) (hn : 1 ≤ n) (Bs n₀ : Nat) (L : List Nat) (hreach : L.length < 9223372036854775808) (w : World) (hBs : Bs < w.heap.size)
    (hc : w.cell? ⟨Bs, 0, none⟩ = some (.string (str L))) :
    SeqStopsK F n Tryd.prog 71 #[.pointer (some ⟨Bs, 0, none⟩)] (tellP L) (KpC n₀ [Bs]) (fun ys => ys = List.finRange (pieceN L))
      (fun pre => ∃ k hk, pre = upTo (n := pieceN L) k hk) (pieceN L) w := fun l J Jx W hW _ _ hY h0 =>
  pieces1_in F n h8 hro hn l Bs n₀ L hreach J Jx hY W ((hW.cell (p := ⟨Bs, 0, none⟩) hBs).trans hc) h0

/-! ### slices.Chunk by two -/
def pairN (c : Nat) : Nat := (c + 1) / 2
def tellC (b off c : Nat) (j : Fin (pairN c)) : Array Value := #[.slice (some ⟨b, off + 2 * j.1, none⟩) (min 2 (c - 2 * j.1)) (min 2 (c - 2 * j.1))]

set_option maxRecDepth 100000 in
set_option maxHeartbeats 4000000 in
theorem chunk1_in (n : Nat) (hn : 1 ≤ n) (l Bs Bn n₀ b off c cap : Nat) (hc : c ≤ cap) (hsm : c ≤ 1048576) (hreach : cap ≤ maxLen) (J Jx : List (Fin (pairN c)) → World → Prop)
    (hJd : ∀ pre W n, J pre W → J pre (W.drewN n))
    (hY : ∀ pre x W, J pre W → pre.length < pairN c → YieldAt Fence.wide (n - 1) Tryd.prog l (tellC b off c x) W fun e W' =>
      (e = .returned (.bool true) ∧ J (pre ++ [x]) W' ∧ KpC n₀ [Bs, Bn] W W') ∨ (e = .returned (.bool false) ∧ Jx (pre ++ [x]) W'))
    (W : World) (hBs : W.cell? ⟨Bs, 0, none⟩ = some (.slice (some ⟨b, off, none⟩) c cap)) (hBn : W.cell? ⟨Bn, 0, none⟩ = some (.int .i64 2)) (h0 : J [] W) :
    CallsIn Fence.wide n Tryd.prog 85 #[.func (.yield l) #[] #[], .pointer (some ⟨Bs, 0, none⟩), .pointer (some ⟨Bn, 0, none⟩)] W fun e W' => (∃ v, e = .returned v) ∧
      ((∃ ys, ys = List.finRange (pairN c) ∧ J ys W') ∨ (∃ pre, (∃ k hk, pre = upTo (n := pairN c) k hk) ∧ Jx pre W')) := by
  unfold maxLen at hreach
  refine callsIn_of_wp Tryd.func85 rfl trivial ?_ rfl
  simp only [Tryd.ntmps85, List.size_toArray, List.length_cons, List.length_nil, Nat.reduceAdd, Nat.reduceSub, Array.replicate_succ, Array.replicate_zero, List.push_toArray, List.append_toArray, List.nil_append, List.cons_append]
  gi_wp2
  gi_loopw [4] (fun i wr => ∃ (k : Nat) (hk : k ≤ pairN c), i = .int .i64 ((2 * k : Nat) : Int) ∧ J (upTo k hk) wr ∧ KpC n₀ [Bs, Bn] W wr)
    (fun i _ => c + 1 - (intOf i).toNat)
  case atStart => exact ⟨0, Nat.zero_le _, rfl, h0, KpC.refl _ _ _⟩
  case round =>
    obtain ⟨k, hk, rfl, hJs, hnx⟩ := hrel
    have x1 := (hnx.cell (by simp)).trans hBs
    have x2 := (hnx.cell (by simp)).trans hBn
    by_cases hlt : k < pairN c
    · have hpn : k < (c + 1) / 2 := hlt
      obtain ⟨e, he⟩ : ∃ e : Nat, e = min 2 (c - 2 * k) := ⟨_, rfl⟩
      have he1 : 1 ≤ e := by omega
      have he2 : e ≤ 2 := by omega
      have hec : 2 * k + e ≤ c := by omega
      have hmin : min (2 : Int) (((c - 2 * k : Nat)) : Int) = (e : Int) := by omega
      have HE := Lib.hid he
      have HN := Lib.hid hpn
      have hkc : 2 * k + 2 ≤ 1048578 := by omega
      clear he hpn hBs hBn
      gi_wp2
      gi_quiet (fail)
      obtain ⟨fn, tmps, assign, body, hy, hR⟩ := hY _ ⟨k, hlt⟩ (wr.drewN nq) (hJd _ _ nq hJs) (by rw [upTo_length]; exact hlt)
      unfold tellC at hy
      dsimp only at hy
      rw [← HE.out] at hy
      have y1 : (wr.drewN nq).cell? ⟨Bs, 0, none⟩ = some (.slice (some ⟨b, off, none⟩) c cap) := x1
      have y2 : (wr.drewN nq).cell? ⟨Bn, 0, none⟩ = some (.int .i64 2) := x2
      have hny := Lib.hid (hnx.drewN nq)
      clear x1 x2 hJs hnx
      generalize wr.drewN nq = w1 at *
      gi_wp2
      refine hR.mono ?_
      rintro e W3 (⟨rfl, hJ3, hk3⟩ | ⟨rfl, hJx3⟩)
      · have x3 := (hk3.cell (by simp)).trans y2
        gi_wp2
        go_roundw
        case rel => exact ⟨k + 1, hlt, by go_num, by rw [upTo_succ hlt]; exact hJ3, kpC_t hny.out hk3⟩
        case measure => simp [intOf]; omega
      · gi_wp2
        refine bodyPost_ret (results_none rfl _ _ _) rfl ?_
        exact ⟨⟨_, rfl⟩, .inr ⟨_, ⟨k + 1, hlt, (upTo_succ hlt).symm⟩, hJx3⟩⟩
    · obtain rfl : k = pairN c := by omega
      have hpn : c ≤ 2 * pairN c := by unfold pairN; omega
      generalize hm : 2 * pairN c = m at *
      gi_wp2
      go_end0
      exact ⟨⟨_, rfl⟩, .inl ⟨_, upTo_all _, hJs⟩⟩

/-- Chunk(l, 2): the slice and the number are boxed; the function value captures the boxes. -/
theorem chunk_any (A : Option Addr) (c cap : Nat) (w : World) :
    CallsIn Fence.wide 2 Tryd.prog 72 #[.slice A c cap, .int .i64 2] w fun e w' => e = .returned (.func (.func 85) #[] #[.pointer (some ⟨w.heap.size, 0, none⟩), .pointer (some ⟨w.heap.size + 1, 0, none⟩)]) ∧
      w' = (w.alloc (.cells #[.slice A c cap] 58)).alloc (.cells #[.int .i64 2] 3) := by
  refine callsIn_of_wp Tryd.func72 rfl trivial ?_ rfl
  simp only [Tryd.ntmps72, List.size_toArray, List.length_cons, List.length_nil, Nat.reduceAdd, Nat.reduceSub, Array.replicate_succ, Array.replicate_zero, List.push_toArray, List.append_toArray, List.nil_append, List.cons_append]
  gi_wp2
  go_ret
  exact ⟨rfl, rfl⟩
theorem abides_drewN {β : Type} {B : Nat} {J : β → World → Prop} (h : AbidesFrom B J) (s : β) (W : World) (n : Nat) (hs : J s W) : J s (W.drewN n) :=
  h s W _ none hs ⟨rfl, rfl, rfl, Nat.le_refl _, fun _ _ _ => rfl⟩ (fun r e => by cases e)
theorem chunk_stops (n : Nat) (hn : 1 ≤ n) (Bs Bn n₀ b off c cap : Nat) (hcc : c ≤ cap) (hsm : c ≤ 1048576) (hreach : cap ≤ maxLen) (w : World) (hBs : Bs < w.heap.size) (hBn : Bn < w.heap.size)
    (h1 : w.cell? ⟨Bs, 0, none⟩ = some (.slice (some ⟨b, off, none⟩) c cap)) (h2 : w.cell? ⟨Bn, 0, none⟩ = some (.int .i64 2)) :
    SeqStopsK Fence.wide n Tryd.prog 85 #[.pointer (some ⟨Bs, 0, none⟩), .pointer (some ⟨Bn, 0, none⟩)] (tellC b off c) (KpC n₀ [Bs, Bn]) (fun ys => ys = List.finRange (pairN c))
      (fun pre => ∃ k hk, pre = upTo (n := pairN c) k hk) (pairN c) w := fun l J Jx W hW hJ _ hY h0 =>
  chunk1_in n hn l Bs Bn n₀ b off c cap hcc hsm hreach J Jx (abides_drewN hJ) hY W ((hW.cell (p := ⟨Bs, 0, none⟩) hBs).trans h1) ((hW.cell (p := ⟨Bn, 0, none⟩) hBn).trans h2) h0

end Go.Proofs.YtileljokijmpaaaDoor

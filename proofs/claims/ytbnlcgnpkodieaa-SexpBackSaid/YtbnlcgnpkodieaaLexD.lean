/- The iterator told. -/
import Derived.RangeFuncBox
import Derived.RangeFuncLeaves
import Derived.RangeFuncNested
import Derived.Shelf.Abstract
import Derived.OwnWalkIn
import Derived.TacticsInMore
import Derived.LoopNIn
import Derived.LoopIn
import Derived.Maps.AppendAt
import Derived.Sort.QuietIn
import Derived.Test.YtbnlcgnpkodieaaLexC
namespace Go.Proofs.Ytbnlcgnpkodieaa
open Go.RowKit Go.Shelf

attribute [local go_sem] Oper.semAt_some
set_option linter.unusedVariables false
set_option linter.unusedSimpArgs false

theorem clone_any (L : List Nat) (w : World) (hl : L.length ≤ 281474976710656) :
    Calls Try.prog 23 #[.string (str L)] w fun e w' => e = .returned (.string (str L)) ∧ Below w.heap.size w w' := by
  have c := Go.Proofs.Try.stringslite_Clone (str L) w (by rw [str_size]; exact hl)
  go_enter Try.func23, Try.ntmps23
  go_wp2_with fail
  refine c.mono ?_
  rintro e w1 ⟨rfl, hb⟩
  clear c
  go_wp2
  go_ret
  exact ⟨rfl, hb⟩

/-- below n₀ nothing has turned, nor have some boxes -/
def KpW (n₀ : Nat) (cs : List Nat) (W W' : World) : Prop := Below n₀ W W' ∧ ∀ B, B ∈ cs → W'.heap[B]? = W.heap[B]?
theorem KpW.refl (n₀ : Nat) (cs : List Nat) (W : World) : KpW n₀ cs W W := ⟨Below.refl _ _, fun _ _ => rfl⟩
theorem kpW_t {n₀ : Nat} {cs : List Nat} {A B C : World} (h : KpW n₀ cs A B) (k : KpW n₀ cs B C) : KpW n₀ cs A C := ⟨h.1.trans k.1, fun b hb => (k.2 b hb).trans (h.2 b hb)⟩
theorem kpW_b {n₀ : Nat} {cs : List Nat} {w : World} (hn : n₀ ≤ w.heap.size) (hc : ∀ B, B ∈ cs → B < w.heap.size) (W : World) (l : Nat) (o o' : Obj) (hl : w.heap.size ≤ l) (h : W.heap[l]? = some o) (h2 : o.isCells = false) (h3 : o.isWalk = false) : KpW n₀ cs W (W.putObj l o') :=
  ⟨belowK_b hn W l o o' hl h h2 h3, fun B hB => World.putObj_heap_other (by have := hc B hB; omega)⟩
theorem KpW.cell {n₀ : Nat} {cs : List Nat} {A B : World} (h : KpW n₀ cs A B) {b : Nat} (hb : b ∈ cs) : B.cell? ⟨b, 0, none⟩ = A.cell? ⟨b, 0, none⟩ := World.cell?_of_block (h.2 b hb)
theorem KpW.of_below {n₀ : Nat} {cs : List Nat} {A B : World} (h : Below A.heap.size A B) (hn : n₀ ≤ A.heap.size) (hc : ∀ B, B ∈ cs → B < A.heap.size) : KpW n₀ cs A B :=
  ⟨h.mono hn, fun b hb => h.block b (hc b hb)⟩

/-- a word as the iterator tells it -/
def wordV (x : Nat × List Nat) : Value := .agg #[.int .u8 ((kd x.2 : Nat) : Int), .int .i64 (x.1 : Int), .int .i64 ((x.1 : Int) + (x.2.length : Int)), .string (str x.2)]
def tellW (x : Nat × List Nat) : Array Value := #[wordV x]
theorem take_next {L : List Nat} {k a : Nat} (hA : At L k a) (hlt : a < L.length) : (wds L).take (k + 1) = (wds L).take k ++ [(a, (L.drop a).take (wl (L.drop a)))] := by
  have h := hA.get hlt
  obtain ⟨hk, h⟩ := List.getElem?_eq_some_iff.1 h
  rw [List.take_succ_eq_append_getElem hk, h]
theorem piece_len {L : List Nat} {a : Nat} (hlt : a < L.length) : ((L.drop a).take (wl (L.drop a))).length = wl (L.drop a) := by
  rw [List.length_take, List.length_drop]
  have := wl_at hlt
  omega

set_option maxRecDepth 100000 in
set_option maxHeartbeats 4000000 in
theorem told1_in (n : Nat) (hn : 1 ≤ n) (l Bs n₀ : Nat) (L : List Nat) (hc : Codes L) (hl : L.length ≤ 65536) (J Jx : List (Nat × List Nat) → World → Prop)
    (hJd : ∀ pre W W', J pre W → Below W.heap.size W W' → J pre W')
    (hY : ∀ pre x W, J pre W → pre.length < (wds L).length → YieldAt Fence.wide (n - 1) Try.prog l (tellW x) W fun e W' =>
      (e = .returned (.bool true) ∧ J (pre ++ [x]) W' ∧ KpW n₀ [Bs] W W') ∨ (e = .returned (.bool false) ∧ Jx (pre ++ [x]) W'))
    (W : World) (hn₀ : n₀ ≤ W.heap.size) (hBl : Bs < W.heap.size) (hBs : W.cell? ⟨Bs, 0, none⟩ = some (.string (str L))) (h0 : J [] W) :
    CallsIn Fence.wide n Try.prog 46 #[.func (.yield l) #[] #[], .pointer (some ⟨Bs, 0, none⟩)] W fun e W' => (∃ v, e = .returned v) ∧
      ((∃ ys, ys = wds L ∧ J ys W') ∨ (∃ pre, (∃ k, pre = (wds L).take k) ∧ Jx pre W')) := by
  have c0 := behindParts_any L 0 hc (Nat.zero_le _) (by omega) W
  rw [List.drop_zero, Nat.zero_add] at c0
  have hsz := str_size L
  have HN := Lib.hid (show ∀ k a, At L k a → k ≤ (wds L).length → (k < (wds L).length ↔ a < L.length) from fun k a h => h.lt)
  refine callsIn_of_wp Try.func46 rfl trivial ?_ rfl
  simp only [Try.ntmps46, List.size_toArray, List.length_cons, List.length_nil, Nat.reduceAdd, Nat.reduceSub, Array.replicate_succ, Array.replicate_zero, List.push_toArray, List.append_toArray, List.nil_append, List.cons_append]
  gi_wp2_with fail
  refine ⟨trivial, ?_⟩
  refine (callsIn_wide.2 c0).mono ?_
  rintro e w1 ⟨rfl, rfl⟩
  clear c0
  gi_wp2_with fail
  gi_loopw [3] (fun i wr => ∃ (k a : Nat), k ≤ (wds L).length ∧ At L k a ∧ i = .int .i64 (a : Int) ∧ J ((wds L).take k) wr ∧ KpW n₀ [Bs] w1 wr)
    (fun i _ => L.length - (intOf i).toNat)
  case atStart => exact ⟨0, _, Nat.zero_le _, At.start L, rfl, h0, KpW.refl _ _ _⟩
  case round =>
    obtain ⟨k, a, hk, hA, rfl, hJs, hnx⟩ := hrel
    have hx0 := (hnx.cell (by simp)).trans hBs
    have hsz1 := hnx.1.size
    by_cases hlt : a < L.length
    · have hkl := Lib.hid ((HN.out k a hA hk).2 hlt)
      have ce := end_any L a hc hlt (by omega) wr
      have hle := wl_at hlt
      have hpos := wl_pos (L.drop a)
      have HT := Lib.hid (take_next hA hlt)
      have HX := Lib.hid (hA.next hlt)
      have hext := str_extract L a (a + wl (L.drop a))
      rw [List.drop_take, show a + wl (L.drop a) - a = wl (L.drop a) from by omega] at hext
      have hpl := piece_len hlt
      have hpc : Codes ((L.drop a).take (wl (L.drop a))) := codes_take (codes_drop hc _) _
      have CC := Lib.hid (fun w2 => clone_any ((L.drop a).take (wl (L.drop a))) w2 (by rw [hpl]; omega))
      have CK := Lib.hid (fun w2 => kind_any ((L.drop a).take (wl (L.drop a))) w2 hpc (by rw [hpl]; omega))
      have CB := Lib.hid (fun w2 => behindParts_any L (a + wl (L.drop a)) hc hle (by omega) w2)
      have HY := Lib.hid (fun W2 (h : J ((wds L).take k) W2) => hY ((wds L).take k) (a, (L.drop a).take (wl (L.drop a))) W2 h (by rw [List.length_take]; have := hkl.out; omega))
      generalize (L.drop a).take (wl (L.drop a)) = T at *
      generalize wl (L.drop a) = m at *
      have HC := Lib.hid hc
      have HJ := Lib.hid hJs
      have HNX := Lib.hid hnx
      have HA := Lib.hid hA
      clear hc hJs hnx hA hpc hY
      gi_wp2_with fail
      refine ⟨trivial, ?_⟩
      refine (callsIn_wide.2 ce).mono ?_
      rintro e w2 ⟨rfl, rfl⟩
      clear ce
      have cc := CC.out w2
      gi_wp2_with fail
      refine ⟨trivial, ?_⟩
      refine (callsIn_wide.2 cc).mono ?_
      rintro e w3 ⟨rfl, hb3⟩
      clear cc
      have ck := CK.out w3
      gi_wp2_with fail
      refine ⟨trivial, ?_⟩
      refine (callsIn_wide.2 ck).mono ?_
      rintro e w4 ⟨rfl, hb4⟩
      clear ck
      have hb24 := hb3.trans (hb4.mono hb3.size)
      obtain ⟨fn, tmps, assign, body, hy, hR⟩ := HY.out w4 (hJd _ _ _ HJ.out hb24)
      have hk24 : KpW n₀ [Bs] w2 w4 := KpW.of_below hb24 (by omega) (fun B hB => by rw [List.mem_singleton.1 hB]; omega)
      have hx4 := (hk24.cell (by simp)).trans hx0
      unfold tellW wordV at hy
      dsimp only at hy
      rw [hpl] at hy
      clear hJd
      gi_wp2
      refine hR.mono ?_
      rintro e W5 (⟨rfl, hJ5, hk5⟩ | ⟨rfl, hJx5⟩)
      · have hx5 := (hk5.cell (by simp)).trans hx4
        have cb := CB.out W5
        rw [← HT.out] at hJ5
        have HJ5 := Lib.hid hJ5
        have HK5 := Lib.hid hk5
        clear hJ5 hk5 hR hy
        gi_wp2_with fail
        refine ⟨trivial, ?_⟩
        refine (callsIn_wide.2 cb).mono ?_
        rintro e w6 ⟨rfl, rfl⟩
        clear cb
        gi_wp2
        go_roundw
        case rel => exact ⟨k + 1, a + m + skp false (L.drop (a + m)), hkl.out, HX.out, by go_num, HJ5.out, kpW_t HNX.out (kpW_t hk24 HK5.out)⟩
        case measure => simp [intOf]; omega
      · rw [← HT.out] at hJx5
        gi_wp2
        refine bodyPost_ret (results_none rfl _ _ _) rfl ?_
        exact ⟨⟨_, rfl⟩, .inr ⟨_, ⟨k + 1, rfl⟩, hJx5⟩⟩
    · have hkl : ¬ k < (wds L).length := fun h => hlt ((HN.out k a hA hk).1 h)
      have hke : (wds L).take k = wds L := List.take_of_length_le (by omega)
      rw [hke] at hJs
      have HJ := Lib.hid hJs
      clear hJs hke hkl
      gi_wp2
      go_end0
      exact ⟨⟨_, rfl⟩, .inl ⟨_, rfl, HJ.out⟩⟩


theorem told_in (n : Nat) (s : ByteArray) (w : World) :
    CallsIn Fence.wide n Try.prog 39 #[.string s] w fun e w' => e = .returned (.func (.func 46) #[] #[.pointer (some ⟨w.heap.size, 0, none⟩)]) ∧ w' = w.alloc (.cells #[.string s] 9) := by
  refine callsIn_of_wp Try.func39 rfl trivial ?_ rfl
  simp only [Try.ntmps39, List.size_toArray, List.length_cons, List.length_nil, Nat.reduceAdd, Nat.reduceSub, Array.replicate_succ, Array.replicate_zero, List.push_toArray, List.append_toArray, List.nil_append, List.cons_append]
  gi_wp2
  go_ret
  exact ⟨rfl, rfl⟩
theorem abides_below {β : Type} {B : Nat} {J : β → World → Prop} (h : AbidesFrom B J) (s : β) (W W' : World) (hs : J s W) (hb : Below W.heap.size W W') : J s W' :=
  h s W W' none hs ⟨hb.os, hb.tape, hb.output, hb.size, fun k hk _ => hb.block k hk⟩ (fun r e => by cases e)
theorem told_stops (n : Nat) (hn : 1 ≤ n) (Bs n₀ : Nat) (L : List Nat) (hc : Codes L) (hl : L.length ≤ 65536) (w : World) (hn₀ : n₀ ≤ w.heap.size) (hBs : Bs < w.heap.size)
    (h1 : w.cell? ⟨Bs, 0, none⟩ = some (.string (str L))) :
    SeqStopsK Fence.wide n Try.prog 46 #[.pointer (some ⟨Bs, 0, none⟩)] tellW (KpW n₀ [Bs]) (fun ys => ys = wds L)
      (fun pre => ∃ k, pre = (wds L).take k) (wds L).length w := fun l J Jx W hW hJ _ hY h0 =>
  told1_in n hn l Bs n₀ L hc hl J Jx (abides_below hJ) hY W (Nat.le_trans hn₀ hW.size) (Nat.lt_of_lt_of_le hBs hW.size) ((hW.cell (p := ⟨Bs, 0, none⟩) hBs).trans h1) h0

end Go.Proofs.Ytbnlcgnpkodieaa

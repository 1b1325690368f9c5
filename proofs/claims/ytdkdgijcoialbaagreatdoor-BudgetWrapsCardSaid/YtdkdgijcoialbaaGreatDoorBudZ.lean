/- The reference: May, New, Most, Text. -/
import Derived.Test.YtdkdgijcoialbaaGreatDoorBudY
namespace Go.Proofs.YtdkdgijcoialbaaGreatDoor
open Go.RowKit

set_option linter.unusedVariables false
set_option linter.unusedSimpArgs false

theorem rpay_any (g : Nat) (m : Mt) (a : At) (w : World) (h : RAt g m w) (ha : AtIs w a) (hf : Fine m) (n : Int) (hn : (a.most : Int) = n) :
    Calls Tryz.prog 9 #[.pointer (some ⟨g, 0, none⟩), .agg a.cells] w (RPaid g (m.pay n).1 (m.pay n).2 w) := by
  subst hn
  have hg := hf.1
  unfold Good at hg
  cases h0 : m.out with
  | some x =>
    obtain ⟨q, k⟩ := x
    have e0 : m.pay (a.most : Int) = (m, 46) := by unfold Mt.pay; rw [h0]
    rw [e0]
    exact rpay_gone g m a w h q k h0 (hf.2 q k h0).1
  | none =>
    by_cases hs : m.ss = m.bs
    · have e0 : m.pay (a.most : Int) = ({ m with out := some (sName, m.bs) }, 46) := by unfold Mt.pay; rw [h0]; exact if_pos hs
      rw [e0]
      exact rpay_steps g m a w h h0 hs
    · by_cases hl : (a.most : Int) ≤ m.bl
      · have e0 : m.pay (a.most : Int) = ({ m with ss := m.ss + 1, sl := max m.sl (a.most : Int) }, 0) := by unfold Mt.pay; rw [h0]; exact (if_neg hs).trans (if_pos hl)
        rw [e0]
        exact rpay_in g m a w h ha _ rfl h0 (by omega) hl (by omega) hg.1
      · have e0 : m.pay (a.most : Int) = ({ m with out := some (lName, m.bl) }, 46) := by unfold Mt.pay; rw [h0]; exact (if_neg hs).trans (if_neg hl)
        rw [e0]
        exact rpay_over g m a w h ha _ rfl h0 (by omega) (by omega)
set_option maxRecDepth 100000 in
set_option maxHeartbeats 4000000 in
theorem rmay_yes (s r l d : Int) (w : World) (h : Bmay s r l d) :
    Calls Tryz.prog 25 #[.agg #[.int .i64 s, .int .i64 r, .int .i64 l, .int .i64 d]] w fun e w' => e = .returned (.bool true) ∧ Below w.heap.size w w' := by
  obtain ⟨⟨a0, a1⟩, ⟨b0, b1⟩, ⟨c0, c1⟩, e0, e1⟩ := h
  go_enter Tryz.func25, Tryz.ntmps25
  go_wp2
  go_ret
  exact ⟨rfl, (Below.refl _ w).alloc (Nat.le_refl _) _⟩
set_option maxRecDepth 100000 in
set_option maxHeartbeats 4000000 in
theorem rmay_no (s r l d : Int) (w : World) (h : ¬ Bmay s r l d) :
    Calls Tryz.prog 25 #[.agg #[.int .i64 s, .int .i64 r, .int .i64 l, .int .i64 d]] w fun e w' => e = .returned (.bool false) ∧ Below w.heap.size w w' := by
  have H := Lib.hid h
  clear h
  go_enter Tryz.func25, Tryz.ntmps25
  go_wp2
  all_goals
    first
      | (exact absurd (show Bmay s r l d from by unfold Bmay; omega) H.out)
      | (have hd : decide (d ≤ 65536) = false := decide_eq_false (fun h => H.out (by unfold Bmay; omega))
         rw [hd]
         go_ret
         exact ⟨rfl, (Below.refl _ w).alloc (Nat.le_refl _) _⟩)
      | (go_ret
         exact ⟨rfl, (Below.refl _ w).alloc (Nat.le_refl _) _⟩)
def RMade (m : Mt) (w : World) (e : Ending) (w' : World) : Prop := ∃ g, w.heap.size ≤ g ∧ e = .returned (.tuple #[.pointer (some ⟨g, 0, none⟩), .int .i64 0]) ∧ RAt g m w' ∧ Below w.heap.size w w'
theorem rnew_yes (s r l d : Int) (w : World) (h : Bmay s r l d) :
    Calls Tryz.prog 7 #[.agg #[.int .i64 s, .int .i64 r, .int .i64 l, .int .i64 d]] w (RMade (Mt.new s r l d) w) := by
  obtain ⟨W, hW⟩ : ∃ W, w.alloc (.cells #[.int .i64 s, .int .i64 r, .int .i64 l, .int .i64 d] 23) = W := ⟨_, rfl⟩
  have HB := Lib.hid (show Below w.heap.size w W from hW ▸ (Below.refl _ w).alloc (Nat.le_refl _) _)
  have hx : W.heap[w.heap.size]? = some (.cells #[.int .i64 s, .int .i64 r, .int .i64 l, .int .i64 d] 23 (0, 0)) := hW ▸ lone_new w _ _
  have x0 : W.cell? ⟨w.heap.size, 0, none⟩ = some (.int .i64 s) := by rw [cell_of hx]; rfl
  have x1 : W.cell? ⟨w.heap.size, 1, none⟩ = some (.int .i64 r) := by rw [cell_of hx]; rfl
  have x2 : W.cell? ⟨w.heap.size, 2, none⟩ = some (.int .i64 l) := by rw [cell_of hx]; rfl
  have x3 : W.cell? ⟨w.heap.size, 3, none⟩ = some (.int .i64 d) := by rw [cell_of hx]; rfl
  have HX := Lib.hid hx
  have c := Lib.hid (rmay_yes s r l d W h)
  clear hx h
  go_enter Tryz.func7, Tryz.ntmps7
  go_wp2_with ((with_reducible refine c.out.mono ?_); rintro e w1 ⟨rfl, hb1⟩; have HB1 := Lib.hid hb1
               have hy := (hb1.block w.heap.size (Array.getElem?_eq_some_iff.1 HX.out).1).trans HX.out
               have y0 : w1.cell? ⟨w.heap.size, 0, none⟩ = some (.int .i64 s) := by rw [cell_of hy]; rfl
               have y1 : w1.cell? ⟨w.heap.size, 1, none⟩ = some (.int .i64 r) := by rw [cell_of hy]; rfl
               have y2 : w1.cell? ⟨w.heap.size, 2, none⟩ = some (.int .i64 l) := by rw [cell_of hy]; rfl
               have y3 : w1.cell? ⟨w.heap.size, 3, none⟩ = some (.int .i64 d) := by rw [cell_of hy]; rfl
               clear hb1 hy)
  go_ret2
  exact ⟨w1.heap.size, Nat.le_trans HB.out.size HB1.out.size, rfl, lone_new _ _ _, (HB.out.trans (HB1.out.mono HB.out.size)).alloc (Nat.le_trans HB.out.size HB1.out.size) _⟩
theorem rnew_no (s r l d : Int) (w : World) (h : ¬ Bmay s r l d) :
    Calls Tryz.prog 7 #[.agg #[.int .i64 s, .int .i64 r, .int .i64 l, .int .i64 d]] w fun e w' => e = .returned (.tuple #[.pointer none, .int .i64 1]) ∧ Below w.heap.size w w' := by
  obtain ⟨W, hW⟩ : ∃ W, w.alloc (.cells #[.int .i64 s, .int .i64 r, .int .i64 l, .int .i64 d] 23) = W := ⟨_, rfl⟩
  have HB := Lib.hid (show Below w.heap.size w W from hW ▸ (Below.refl _ w).alloc (Nat.le_refl _) _)
  have hx : W.heap[w.heap.size]? = some (.cells #[.int .i64 s, .int .i64 r, .int .i64 l, .int .i64 d] 23 (0, 0)) := hW ▸ lone_new w _ _
  have x0 : W.cell? ⟨w.heap.size, 0, none⟩ = some (.int .i64 s) := by rw [cell_of hx]; rfl
  have x1 : W.cell? ⟨w.heap.size, 1, none⟩ = some (.int .i64 r) := by rw [cell_of hx]; rfl
  have x2 : W.cell? ⟨w.heap.size, 2, none⟩ = some (.int .i64 l) := by rw [cell_of hx]; rfl
  have x3 : W.cell? ⟨w.heap.size, 3, none⟩ = some (.int .i64 d) := by rw [cell_of hx]; rfl
  have c := Lib.hid (rmay_no s r l d W h)
  clear hx h
  go_enter Tryz.func7, Tryz.ntmps7
  go_wp2_with ((with_reducible refine c.out.mono ?_); rintro e w1 ⟨rfl, hb1⟩; have HB1 := Lib.hid hb1; clear hb1)
  go_ret2
  exact ⟨rfl, HB.out.trans (HB1.out.mono HB.out.size)⟩
/-- which part it was -/
def OutIs (m : Mt) : Prop := m.out = none ∨ m.out = some (sName, m.bs) ∨ m.out = some (rName, m.br) ∨ m.out = some (lName, m.bl) ∨ m.out = some (dName, m.bd)
theorem most_any (g : Nat) (m : Mt) (w : World) (h : RAt g m w) (ho : OutIs m) (p : ByteArray) (n : Int) (h0 : m.out = some (p, n)) :
    Calls Tryz.prog 18 #[.pointer (some ⟨g, 0, none⟩)] w fun e w' => e = .returned (.int .i64 n) ∧ w = w' := by
  have c0 : w.cell? ⟨g, 0, none⟩ = some (.int .i64 m.bs) := by rw [cell_of h]; rfl
  have c1 : w.cell? ⟨g, 1, none⟩ = some (.int .i64 m.br) := by rw [cell_of h]; rfl
  have c2 : w.cell? ⟨g, 2, none⟩ = some (.int .i64 m.bl) := by rw [cell_of h]; rfl
  have c3 : w.cell? ⟨g, 3, none⟩ = some (.int .i64 m.bd) := by rw [cell_of h]; rfl
  have c8 : w.cell? ⟨g, 8, none⟩ = some (.string p) := by rw [cell_of h, part_some h0]; rfl
  rcases ho with e | e | e | e | e <;> rw [h0] at e <;> simp at e <;> obtain ⟨rfl, rfl⟩ := e
  all_goals
    clear h h0
    go_enter Tryz.func18, Tryz.ntmps18
    go_wp2
    go_ret
    exact ⟨rfl, rfl⟩
theorem most_none (g : Nat) (m : Mt) (w : World) (h : RAt g m w) (h0 : m.out = none) :
    Calls Tryz.prog 18 #[.pointer (some ⟨g, 0, none⟩)] w fun e w' => e = .returned (.int .i64 0) ∧ w = w' := by
  have c8 : w.cell? ⟨g, 8, none⟩ = some (.string ⟨#[]⟩) := by rw [cell_of h, part_none h0]; rfl
  clear h h0
  go_enter Tryz.func18, Tryz.ntmps18
  go_wp2
  go_ret
  exact ⟨rfl, rfl⟩
theorem rtext_none (g : Nat) (m : Mt) (w : World) (h : RAt g m w) (h0 : m.out = none) (v : Value) :
    Calls Tryz.prog 17 #[.pointer (some ⟨g, 0, none⟩), v] w fun e w' => e = .returned (.string ⟨#[]⟩) ∧ w = w' := by
  have c8 : w.cell? ⟨g, 8, none⟩ = some (.string ⟨#[]⟩) := by rw [cell_of h, part_none h0]; rfl
  clear h h0
  go_enter Tryz.func17, Tryz.ntmps17
  go_wp2
  go_ret
  exact ⟨rfl, rfl⟩
def StrsAt (w : World) (A : Option Addr) (ws : List ByteArray) : Prop := 0 < ws.length → ∃ b off, A = some ⟨b, off, none⟩ ∧ b < w.heap.size ∧ ∀ j s, ws[j]? = some s → w.cell? ⟨b, off + j, none⟩ = some (.string s)
theorem StrsAt.below {w w' : World} {A : Option Addr} {ws : List ByteArray} (h : StrsAt w A ws) (hb : Below w.heap.size w w') : StrsAt w' A ws := fun hn => by
  obtain ⟨b, off, e, hlt, hc⟩ := h hn
  exact ⟨b, off, e, Nat.lt_of_lt_of_le hlt hb.size, fun j s hj => (hb.cell (p := ⟨b, off + j, none⟩) hlt).trans (hc j s hj)⟩
theorem txtOf_cons (s : ByteArray) (ws : List ByteArray) (b : Base) : txtOf (s :: ws) b = (s ++ ⟨#[58, 32]⟩) ++ txtOf ws b := by
  apply ByteArray.ext
  show (lead (s :: ws) ++ b.text.data.toList).toArray = _
  simp [txtOf, lead, ByteArray.data_append]
theorem txtOf_nil (b : Base) : txtOf [] b = b.text := by
  apply ByteArray.ext
  simp [txtOf, lead]
theorem txtOf_size (ws : List ByteArray) (b : Base) (hb : b.ok) (hl : ws.length ≤ 1000) (hs : ∀ s ∈ ws, s.size ≤ 1000) : (txtOf ws b).size ≤ 2000000 := by
  have h1 := lead_len ws hs
  have h2 := text_small hb
  have h3 : (txtOf ws b).size = (lead ws).length + b.text.data.toList.length := by
    show (lead ws ++ b.text.data.toList).toArray.size = _
    simp
  have h4 : b.text.data.toList.length = b.text.size := by rw [Array.length_toList]; rfl
  omega
set_option maxRecDepth 100000 in
set_option maxHeartbeats 8000000 in
theorem rtext_any (g : Nat) (m : Mt) (w : World) (h : RAt g m w) (hf : Fine m) (ho : OutIs m) (p : ByteArray) (n : Int) (h0 : m.out = some (p, n)) (hn : 0 ≤ n ∧ n ≤ 1099511627776) (A : Option Addr) (cap : Nat) (ws : List ByteArray) (hw : StrsAt w A ws) (hl : ws.length ≤ 1000) (hs : ∀ s ∈ ws, s.size ≤ 1000) :
    Calls Tryz.prog 17 #[.pointer (some ⟨g, 0, none⟩), .slice A ws.length cap] w fun e w' => e = .returned (.string (txtOf ws.reverse (.used p n))) ∧ Below w.heap.size w w' := by
  have hok := hf.2 p n h0
  have c8 : w.cell? ⟨g, 8, none⟩ = some (.string p) := by rw [cell_of h, part_some h0]; rfl
  have s0 : w.drew.cell? ⟨g, 8, none⟩ = some (.string p) := c8
  have hpe := hok.1
  obtain ⟨k, hk⟩ : ∃ k : Nat, n = (k : Int) := ⟨n.toNat, by omega⟩
  have M := Lib.hid (most_any g m w.drew h ho p n h0)
  have C := Lib.hid (hk ▸ show11_any k w.drew (by omega))
  have hz := itoaS_size n (by omega) (by omega)
  have hp1 := hok.2.1
  have l1 : (⟨#[110, 111, 32]⟩ : ByteArray).size = 3 := rfl
  have l2 : (⟨#[32, 108, 101, 102, 116, 32, 111, 102, 32]⟩ : ByteArray).size = 9 := rfl
  have e1 := add_run ⟨#[110, 111, 32]⟩ p (by omega)
  have e2 := add_run (⟨#[110, 111, 32]⟩ ++ p) ⟨#[32, 108, 101, 102, 116, 32, 111, 102, 32]⟩ (by rw [size_add]; omega)
  have e3 := add_run (⟨#[110, 111, 32]⟩ ++ p ++ ⟨#[32, 108, 101, 102, 116, 32, 111, 102, 32]⟩) (itoaS n) (by rw [size_add, size_add]; omega)
  have HW := Lib.hid hw
  have HG := Lib.hid h.lt
  have HL := Lib.hid hl
  have HS := Lib.hid hs
  have HO := Lib.hid hok
  have HK := Lib.hid hk
  clear h hf ho h0 hn hw hl hs hok hz hp1 l1 l2 hk
  obtain ⟨b, hb0⟩ : ∃ b, Base.used p n = b := ⟨_, rfl⟩
  rw [hb0]
  have HB0 := Lib.hid hb0
  clear hb0
  go_enter Tryz.func17, Tryz.ntmps17
  go_wp2
  go_region_held3 (fun w' => w'.cell? ⟨g, 8, none⟩ = some (.string p)) (first | exact s0 | exact s1) (first
    | (go_at_call 18; (with_reducible refine M.out.mono ?_); rintro e w' ⟨rfl, rfl⟩)
    | (go_at_call 33; (with_reducible refine C.out.mono ?_); rintro e w1 ⟨rfl, hb⟩; have HB := Lib.hid hb; have s1 : w1.cell? ⟨g, 8, none⟩ = some (.string p) := (hb.cell (p := ⟨g, 8, none⟩) HG.out).trans s0))
  have hb0 := HB0.out
  have HT0 := Lib.hid (show txtOf [] b = (⟨#[110, 111, 32]⟩ : ByteArray) ++ p ++ ⟨#[32, 108, 101, 102, 116, 32, 111, 102, 32]⟩ ++ itoaS n by rw [txtOf_nil, ← hb0]; rfl)
  have HSZ := Lib.hid (fun (l : List ByteArray) (h1 : l.length ≤ 1000) (h2 : ∀ s ∈ l, s.size ≤ 1000) => txtOf_size l b (hb0 ▸ HO.out) h1 h2)
  have HWW := Lib.hid (HW.out.below (w' := w1) ((Below.refl _ w).drew.trans hb))
  have HB2 := Lib.hid (show Below w.heap.size w w1 from (Below.refl _ w).drew.trans hb)
  clear hb0 hb HB M C e1 e2 e3 s0 s1 c8
  generalize (⟨#[110, 111, 32]⟩ : ByteArray) ++ p ++ ⟨#[32, 108, 101, 102, 116, 32, 111, 102, 32]⟩ ++ itoaS n = base at *
  generalize (⟨#[110, 111, 32]⟩ : ByteArray) ++ p ++ ⟨#[32, 108, 101, 102, 116, 32, 111, 102, 32]⟩ = base2 at *
  go_wp2
  go_loopw [5, 6] (fun o i wr => ∃ k : Nat, k ≤ ws.length ∧ i = .int .i64 (k : Int) ∧ o = .string (txtOf (ws.take k).reverse b) ∧ w1 = wr) (fun _ i _ => (ws.length - numL i).toNat)
  case atStart => exact ⟨0, Nat.zero_le _, rfl, by rw [show (ws.take 0).reverse = [] from rfl, HT0.out], rfl⟩
  case round =>
    obtain ⟨k, hk, rfl, rfl, rfl⟩ := hrel
    rcases Nat.lt_or_ge k ws.length with hlt | hge
    · obtain ⟨bb, off, rfl, hbb, hc⟩ := HWW.out (by omega)
      have hcell := hc k ws[k] (List.getElem?_eq_getElem hlt)
      have hsz := HS.out ws[k] (List.getElem_mem hlt)
      have hts := HSZ.out (ws.take k).reverse (by have := HL.out; simp; omega) (fun s hs => HS.out s (List.mem_of_mem_take (List.mem_reverse.1 hs)))
      have HN := Lib.hid (show txtOf (ws.take (k + 1)).reverse b = (ws[k] ++ ⟨#[58, 32]⟩) ++ txtOf (ws.take k).reverse b by
        rw [List.take_add_one, List.getElem?_eq_getElem hlt, List.reverse_append]
        exact txtOf_cons _ _ _)
      have l3 : (⟨#[58, 32]⟩ : ByteArray).size = 2 := rfl
      have f1 := add_run ws[k] ⟨#[58, 32]⟩ (by omega)
      have f2 := add_run (ws[k] ++ ⟨#[58, 32]⟩) (txtOf (ws.take k).reverse b) (by rw [size_add]; omega)
      obtain ⟨k1, hk1⟩ : ∃ k1 : Nat, wrap64 ((k : Int) + 1) = (k1 : Int) ∧ k1 = k + 1 := ⟨k + 1, by have := HL.out; unfold wrap64; omega, rfl⟩
      have HK1 := Lib.hid hk1.2
      replace hk1 := hk1.1
      clear hc hsz hts l3
      generalize ws[k] = s at *
      generalize txtOf (ws.take k).reverse b = t at *
      generalize hnl : ws.length = nl at *
      go_wp2
      refine ⟨⟨k1, by have := HK1.out; omega, by rw [hk1], by rw [HK1.out, HN.out], trivial⟩, ?_⟩
      rw [hk1]; have := HK1.out; simp only [numL]; omega
    · have he : k = ws.length := by omega
      have HE := Lib.hid (show (ws.take k).reverse = ws.reverse by rw [he, List.take_length])
      go_wp2
      go_ret
      rw [HE.out]
      exact ⟨rfl, HB2.out⟩
end Go.Proofs.YtdkdgijcoialbaaGreatDoor

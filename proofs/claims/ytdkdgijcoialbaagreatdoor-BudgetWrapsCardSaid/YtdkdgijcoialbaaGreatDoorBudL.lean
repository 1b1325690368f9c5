/- Text. -/
import Derived.Test.YtdkdgijcoialbaaGreatDoorBudK
namespace Go.Proofs.YtdkdgijcoialbaaGreatDoor
open Go.RowKit Go.Shelf

set_option linter.unusedVariables false
set_option linter.unusedSimpArgs false

theorem Tab.keep {w w' : World} (h : Tab w) (hb : Below w.heap.size w w') : Tab w' := Joins.tab_stays (g := 1) (by kernel_rfl) h hb (Nat.le_refl _)
def Base.text : Base → ByteArray
  | .used p m => usedS p m
  | .num n => numS n
theorem usedErr_of {p : ByteArray} {m : Int} (hb : (Base.used p m).ok) (w : World) (hT : Tab w) :
    Calls Tryz.prog 47 #[.agg #[.string p, .int .i64 m]] w fun e w' => e = .returned (.string (usedS p m)) ∧ Below w.heap.size w w' :=
  usedErr_any p m w _ rfl hb.2.2.1 hb.2.2.2 hb.2.1 (hT.keep (((Below.refl _ w).alloc (Nat.le_refl _) _).drew))
theorem numErr_of {n : Int} (hb : (Base.num n).ok) (w : World) (hT : Tab w) :
    Calls Tryz.prog 49 #[.int .i64 n] w fun e w' => e = .returned (.string (numS n)) ∧ Below w.heap.size w w' :=
  numErr_any n w hb.1 hb.2 hT
set_option maxHeartbeats 2000000 in
theorem said_used {ws : List ByteArray} {p : ByteArray} {m : Int} {v u : Value} {w : World} (hT : ErrT w) (hB : Tab w) (he : ErrIs w v ws (.used p m)) (hb : (Base.used p m).ok) (hu : ∃ t x, u = .iface t x) :
    Calls Tryz.prog 31 #[v, u] w fun e w' => e = .returned (.string (usedS p m)) ∧ Below w.heap.size w w' := by
  obtain ⟨ut, ux, rfl⟩ := hu
  obtain ⟨W, hW⟩ : ∃ W, (w.alloc (.cells #[.iface ut ux] 49)).alloc (.cells #[.string ⟨#[]⟩] 9) = W := ⟨_, rfl⟩
  have hBW : Below w.heap.size w W := hW ▸ ((Below.refl _ w).alloc (Nat.le_refl _) _).alloc (by simp) _
  have hx : W.heap[w.heap.size + 1]? = some (.cells #[.string ⟨#[]⟩] 9 (0, 0)) := by
    rw [← hW]
    have := lone_new (w.alloc (.cells #[.iface ut ux] 49)) #[.string ⟨#[]⟩] 9
    simpa using this
  have c := Lib.hid (part_any (hT.keep hBW) (he.keep hBW) hb)
  have HB := Lib.hid hBW
  have HT := Lib.hid hB
  have HX := Lib.hid hx
  have HO := Lib.hid hb
  obtain ⟨vt, vx, rfl⟩ := he.iface
  clear hT hB he hBW hx hb
  simp only [Base.part, Base.most, Base.up] at c
  go_enter Tryz.func31, Tryz.ntmps31
  go_wp2_with (first
    | ((with_reducible refine c.out.mono ?_); rintro e w1 ⟨rfl, hb1⟩; have HB1 := Lib.hid hb1; have HX1 := Lib.hid ((hb1.block _ (Array.getElem?_eq_some_iff.1 HX.out).1).trans HX.out); clear hb1)
    | ((with_reducible refine (usedErr_of HO.out w1 (HT.out.keep (HB.out.trans (HB1.out.mono HB.out.size)))).mono ?_); rintro e w2 ⟨rfl, hb2⟩; have HB2 := Lib.hid hb2
       have hx2 := (hb2.block _ (Array.getElem?_eq_some_iff.1 HX1.out).1).trans HX1.out
       have y0 : w2.cell? ⟨w.heap.size + 1, 0, none⟩ = some (.string ⟨#[]⟩) := (cell_of hx2 0).trans rfl
       have y1 := frozen_of hx2 0
       have HX2 := Lib.hid hx2
       clear hb2 hx2))
  refine bodyPost_ret (v := .string (usedS p m)) ?_ rfl ⟨rfl, ?_⟩
  · simp [results, Tryz.results31, go_sem, y0]
  · have h1 := HB.out.trans (HB1.out.mono HB.out.size)
    exact (h1.trans (HB2.out.mono h1.size)).setCell (by simp) _
theorem foundN_num {ws : List ByteArray} {n : Int} {v : Value} {w : World} (hT : ErrT w) (he : ErrIs w v ws (.num n)) : Calls Tryz.prog 48 #[v] w fun e w' => e = .returned (.tuple #[.int .i64 n, .bool true]) ∧ Below w.heap.size w w' := foundN_some hT he
set_option maxHeartbeats 2000000 in
theorem said_num {ws : List ByteArray} {n : Int} {v u : Value} {w : World} (hT : ErrT w) (hB : Tab w) (he : ErrIs w v ws (.num n)) (hb : (Base.num n).ok) (hu : ∃ t x, u = .iface t x) :
    Calls Tryz.prog 31 #[v, u] w fun e w' => e = .returned (.string (numS n)) ∧ Below w.heap.size w w' := by
  obtain ⟨ut, ux, rfl⟩ := hu
  obtain ⟨W, hW⟩ : ∃ W, (w.alloc (.cells #[.iface ut ux] 49)).alloc (.cells #[.string ⟨#[]⟩] 9) = W := ⟨_, rfl⟩
  have hBW : Below w.heap.size w W := hW ▸ ((Below.refl _ w).alloc (Nat.le_refl _) _).alloc (by simp) _
  have hx : W.heap[w.heap.size + 1]? = some (.cells #[.string ⟨#[]⟩] 9 (0, 0)) := by
    rw [← hW]
    have := lone_new (w.alloc (.cells #[.iface ut ux] 49)) #[.string ⟨#[]⟩] 9
    simpa using this
  have c := Lib.hid (part_any (hT.keep hBW) (he.keep hBW) hb)
  have HE := Lib.hid (he.keep hBW)
  have HTT := Lib.hid (hT.keep hBW)
  have HB := Lib.hid hBW
  have HT := Lib.hid hB
  have HX := Lib.hid hx
  have HO := Lib.hid hb
  obtain ⟨vt, vx, rfl⟩ := he.iface
  clear hT hB he hBW hx hb
  simp only [Base.part, Base.most, Base.up] at c
  go_enter Tryz.func31, Tryz.ntmps31
  go_wp2_with (first
    | ((with_reducible refine c.out.mono ?_); rintro e w1 ⟨rfl, hb1⟩; have HB1 := Lib.hid hb1; have HX1 := Lib.hid ((hb1.block _ (Array.getElem?_eq_some_iff.1 HX.out).1).trans HX.out); clear hb1)
    | ((with_reducible refine (foundN_num (HTT.out.keep HB1.out) (HE.out.keep HB1.out)).mono ?_); rintro e w2 ⟨rfl, hb2⟩; have HB2 := Lib.hid hb2; have HX2 := Lib.hid ((hb2.block _ (Array.getElem?_eq_some_iff.1 HX1.out).1).trans HX1.out); clear hb2)
    | ((with_reducible refine (numErr_of HO.out w2 (HT.out.keep ((HB.out.trans (HB1.out.mono HB.out.size)).trans (HB2.out.mono (Nat.le_trans HB.out.size HB1.out.size))))).mono ?_); rintro e w3 ⟨rfl, hb3⟩; have HB3 := Lib.hid hb3
       have hx3 := (hb3.block _ (Array.getElem?_eq_some_iff.1 HX2.out).1).trans HX2.out
       have y0 : w3.cell? ⟨w.heap.size + 1, 0, none⟩ = some (.string ⟨#[]⟩) := (cell_of hx3 0).trans rfl
       have y1 := frozen_of hx3 0
       clear hb3 hx3))
  refine bodyPost_ret (v := .string (numS n)) ?_ rfl ⟨rfl, ?_⟩
  · simp [results, Tryz.results31, go_sem, y0]
  · have h1 := HB.out.trans (HB1.out.mono HB.out.size)
    have h2 := h1.trans (HB2.out.mono h1.size)
    exact (h2.trans (HB3.out.mono h2.size)).setCell (by simp) _
theorem said_any {ws : List ByteArray} {b : Base} {v u : Value} {w : World} (hT : ErrT w) (hB : Tab w) (he : ErrIs w v ws b) (hb : b.ok) (hu : ∃ t x, u = .iface t x) :
    Calls Tryz.prog 31 #[v, u] w fun e w' => e = .returned (.string b.text) ∧ Below w.heap.size w w' := by
  cases b with
  | used p m => exact said_used hT hB he hb hu
  | num n => exact said_num hT hB he hb hu

def lead (ws : List ByteArray) : List UInt8 := ws.flatMap fun s => s.data.toList ++ [58, 32]
def txtOf (ws : List ByteArray) (b : Base) : ByteArray := ⟨(lead ws ++ b.text.data.toList).toArray⟩
theorem lead_take {ws : List ByteArray} {k : Nat} {s : ByteArray} (h : ws[k]? = some s) : lead (ws.take (k + 1)) = lead (ws.take k) ++ s.data.toList ++ [58, 32] := by
  unfold lead
  rw [List.take_add_one, h, List.flatMap_append]
  simp
theorem lead_len (ws : List ByteArray) (h : ∀ s ∈ ws, s.size ≤ 1000) : (lead ws).length ≤ ws.length * 1002 := by
  unfold lead
  induction ws with
  | nil => simp
  | cons s r ih =>
    have h1 := h s (by simp)
    have h2 := ih (fun x hx => h x (by simp [hx]))
    have h3 : s.data.toList.length = s.size := by rw [Array.length_toList]; rfl
    simp only [List.flatMap_cons, List.length_append, List.length_cons, List.length_nil] at *
    omega
theorem Bld.fresh (w : World) (B : Nat) (hB : B ≤ w.heap.size) : Bld B w.heap.size [] (w.alloc (.cells #[.pointer none, .slice none 0 0] 82)) :=
  .inl ⟨hB, .slice none 0 0, lone_new _ _ _, World.ownsRowF_nil _ _ _ _, by simp [Value.ownBlock]⟩
theorem Bld.keep {B b : Nat} {L : List UInt8} {w w' : World} (h : Bld B b L w) (hb : Below w.heap.size w w') : Bld B b L w' := by
  rcases h with ⟨h1, v, h2, h3, h4⟩ | ⟨h1, v, h2, h3, h4⟩
  all_goals
    have k2 := (hb.block b (Array.getElem?_eq_some_iff.1 h2).1).trans h2
    have k3 : World.ownsRowF w' B 5 1 v (Lib.byteCells L).length (Lib.byteCells L) := by
      refine ⟨h3.1, ?_⟩
      rcases h3.2 with hn | ⟨g, cap, cur, fz, hv, hB, hg, r⟩
      · exact .inl hn
      · exact .inr ⟨g, cap, cur, fz, hv, hB, (hb.block g (Array.getElem?_eq_some_iff.1 hg).1).trans hg, r⟩
  · exact .inl ⟨h1, v, k2, k3, h4⟩
  · exact .inr ⟨h1, v, k2, k3, h4⟩
theorem write_any (B b : Nat) (L : List UInt8) (s : ByteArray) (w : World) (h : Bld B b L w) (hlen : L.length + s.size ≤ 140737488355328) (hBw : B ≤ w.heap.size) :
    Calls Tryz.prog 30 #[.pointer (some ⟨b, 0, none⟩), .string s] w fun e w' => e = .returned (.tuple #[.int .i64 s.size, .nilIface]) ∧ (Bld B b (L ++ s.data.toList) w' ∧ Below B w w') := by
  refine (writeS_any B b (Lib.byteCells L) s w h (by simpa [Lib.byteCells] using hlen) hBw).mono ?_
  rintro e w' ⟨rfl, h1, h2, _⟩
  refine ⟨rfl, .inr ?_, h2⟩
  have : Lib.byteCells (L ++ s.data.toList) = Lib.byteCells L ++ Lib.strCells s := by simp [Lib.byteCells, Lib.strCells]
  rw [this]
  exact h1
theorem OwnS.cell {w : World} {B n cap j : Nat} {A : Option Addr} {ws : List ByteArray} (h : OwnS w B (.slice A n cap) ws) (hj : j < ws.length) : ∃ g s, A = some ⟨g, 0, none⟩ ∧ ws[j]? = some s ∧ w.cell? ⟨g, j, none⟩ = some (.string s) := by
  obtain ⟨g, cap', e⟩ := Joins.ownsRow_form h (by omega)
  injection e with e1 e2 e3
  subst e1 e2
  refine ⟨g, ws[j], rfl, List.getElem?_eq_getElem hj, ?_⟩
  have hc := World.ownsRow.cellAt (xs := strs ws) (size := 1) (e := 9) (base := B) h j (by omega)
  rw [hc, strs, List.getElem?_map, List.getElem?_eq_getElem hj]
  rfl
def numL : Value → Int
  | .int _ n => n
  | _ => 0
theorem text_nil (w : World) :
    Calls Tryz.prog 16 #[.nilIface] w fun e w' => e = .returned (.string ⟨#[]⟩) ∧ w = w' := by
  go_enter Tryz.func16, Tryz.ntmps16
  go_wp2
  go_ret
  exact ⟨rfl, rfl⟩
set_option maxRecDepth 100000 in
set_option maxHeartbeats 4000000 in
theorem text_any {ws : List ByteArray} {b : Base} {v : Value} {w : World} (hT : ErrT w) (hB : Tab w) (he : ErrIs w v ws b) (hb : b.ok) (hl : ws.length ≤ 1000) (hs : ∀ s ∈ ws, s.size ≤ 1000) (hbt : b.text.size ≤ 2000) :
    Calls Tryz.prog 16 #[v] w fun e w' => e = .returned (.string (txtOf ws b)) ∧ Below w.heap.size w w' := by
  have c := Lib.hid (peeled_any v ws b w hT he hl)
  have hbi := (ErrIs.base (w := w) b).iface
  have HT := Lib.hid hT
  have HB := Lib.hid hB
  have HE := Lib.hid he
  have HO := Lib.hid hb
  have HL := Lib.hid hl
  have HS := Lib.hid hs
  have HBT := Lib.hid hbt
  have HLL := Lib.hid (lead_len ws hs)
  obtain ⟨bt, bx, hbv⟩ := hbi
  rw [hbv] at c
  clear hT hB hb hl hs hbv hbt
  obtain ⟨ty, z, rfl⟩ := he.iface
  clear he
  go_enter Tryz.func16, Tryz.ntmps16
  go_wp2_with ((with_reducible refine c.out.mono ?_); rintro e w1 ⟨⟨A, cap, rfl, hm, ho⟩, hb⟩; have HW := Lib.hid ho; have HB1 := Lib.hid hb; clear hb ho hm)
  obtain ⟨wb, hwb⟩ : ∃ wb, wb = w1.alloc (.cells #[.pointer none, .slice none 0 0] 82) := ⟨_, rfl⟩
  have HWB := Lib.hid (show Below w1.heap.size w1 wb from hwb ▸ (Below.refl _ w1).alloc (Nat.le_refl _) _)
  have HBB := Lib.hid (show Bld w1.heap.size w1.heap.size [] wb from hwb ▸ Bld.fresh w1 _ (Nat.le_refl _))
  rw [← hwb]
  clear hwb
  go_loopw [17] (fun i wr => ∃ k : Nat, k ≤ ws.length ∧ i = .int .i64 (k : Int) ∧ Bld w1.heap.size w1.heap.size (lead (ws.take k)) wr ∧ Below w1.heap.size w1 wr) (fun i _ => (ws.length - numL i).toNat)
  case atStart => exact ⟨0, Nat.zero_le _, rfl, HBB.out, HWB.out⟩
  case round =>
    obtain ⟨k, hk, rfl, hbl, hB⟩ := hrel
    have HBL := Lib.hid hbl
    have HBR := Lib.hid hB
    rcases Nat.lt_or_ge k ws.length with hlt | hge
    · obtain ⟨g, s, rfl, hsk, hcell⟩ := OwnS.cell HW.out hlt
      have hg : g < w1.heap.size := by
        rcases Nat.lt_or_ge g w1.heap.size with h | h
        · exact h
        · simp [World.cell?, Array.getElem?_eq_none h] at hcell
      have hc := (hB.cell (p := ⟨g, k, none⟩) hg).trans hcell
      have hz : (lead (ws.take k)).length ≤ 1002000 := by
        have h1 := lead_len (ws.take k) (fun x hx => HS.out x (List.mem_of_mem_take hx))
        have h2 := HL.out
        rw [List.length_take] at h1
        omega
      have hss := HS.out s (List.mem_of_getElem? hsk)
      have hsz := hB.size
      have d1 := Lib.hid (write_any _ _ _ s wr hbl (by omega) hsz)
      have HZ := Lib.hid (show (lead (ws.take k) ++ s.data.toList).length ≤ 1003000 by
        have h3 : s.data.toList.length = s.size := by rw [Array.length_toList]; rfl
        rw [List.length_append]; omega)
      have HSK := Lib.hid (lead_take hsk)
      have hkb : (k : Int) + 1 ≤ 9223372036854775807 := by have := HL.out; omega
      clear hbl hB hcell hsk hss hz hsz
      generalize hnl : ws.length = nl at *
      go_wp2_with (first
        | ((with_reducible refine d1.out.mono ?_); rintro e w2 ⟨rfl, hb2, hB2⟩; have D2 := Lib.hid (write_any _ _ _ ⟨#[58, 32]⟩ w2 hb2 (by have := HZ.out; have : (⟨#[58, 32]⟩ : ByteArray).size = 2 := rfl; omega) (Nat.le_trans HBR.out.size hB2.size)); have HB2 := Lib.hid hB2; clear hb2 hB2)
        | ((with_reducible refine D2.out.mono ?_); rintro e w3 ⟨rfl, hb3, hB3⟩; have HB3 := Lib.hid hB3; have HBL3 := Lib.hid hb3; clear hb3 hB3))
      refine ⟨⟨k + 1, by omega, by simp, ?_, HBR.out.trans (HB2.out.trans HB3.out)⟩, ?_⟩
      · rw [HSK.out]; exact HBL3.out
      · simp only [numL]; omega
    · have he : k = ws.length := by omega
      have hkeep := HB1.out.trans (hB.mono HB1.out.size)
      have d1 := Lib.hid (said_any (HT.out.keep hkeep) (HB.out.keep hkeep) (HE.out.keep hkeep) HO.out (u := .iface bt bx) ⟨_, _, rfl⟩)
      have HLE := Lib.hid (show lead (ws.take k) = lead ws by rw [he, List.take_length])
      have HKP := Lib.hid hkeep
      clear hbl hB hkeep
      go_wp2_with (first
        | ((with_reducible refine d1.out.mono ?_); rintro e w2 ⟨rfl, hb2⟩; have D2 := Lib.hid (write_any _ _ _ b.text w2 (HBL.out.keep hb2) (by rw [HLE.out]; have := HLL.out; have := HL.out; have := HBT.out; omega) (Nat.le_trans HBR.out.size hb2.size)); have HB2 := Lib.hid hb2; clear hb2)
        | ((with_reducible refine D2.out.mono ?_); rintro e w3 ⟨rfl, hb3, hB3⟩; have D3 := Lib.hid (Go.Proofs.Tryz.Builder_String_any_f _ _ _ w3 hb3 (Nat.le_trans HBR.out.size (Nat.le_trans HB2.out.size hB3.size))); have HB3 := Lib.hid hB3; clear hb3 hB3)
        | ((with_reducible refine D3.out.mono ?_); rintro e w4 ⟨rfl, hb4, hB4⟩; have HB4 := Lib.hid hB4; clear hb4 hB4))
      go_ret
      have h1 := HKP.out.trans (HB2.out.mono HKP.out.size)
      exact ⟨rfl, (h1.trans (HB3.out.mono HB1.out.size)).trans (HB4.out.mono HB1.out.size)⟩
end Go.Proofs.YtdkdgijcoialbaaGreatDoor

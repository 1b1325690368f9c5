/- Contract: Open, where it refuses. -/
import Derived.Test.YtcjljfjgekiocaaGreatDoorNamM
namespace Go.Proofs.YtcjljfjgekiocaaGreatDoor
open Go.RowKit Go.Shelf Go.Lib

set_option linter.unusedVariables false
set_option linter.unusedSimpArgs false

def OErr (w : World) (B g c : Nat) (T : Tb) (ks : List Nat) (e : Ending) (w' : World) : Prop := e = .returned (.tuple #[.slice none 0 0, .int .i64 (c : Int)]) ∧ TPost w B g T ks w'
theorem open_none (g : Nat) (T : Tb) (ks : List Nat) (A : Option Addr) (cap : Nat) (w : World) (B : Nat) (h : TabAt w B g T ks) :
    Calls Tryz.prog 12 #[.pointer (some ⟨g, 0, none⟩), .slice A 0 cap] w (OErr w B g 4 T ks) := by
  have HT := Lib.hid h
  clear h
  go_enter Tryz.func12, Tryz.ntmps12
  go_wp2_with fail
  go_ret2
  exact ⟨rfl, TPost.same HT.out (Below.refl _ _)⟩
theorem open_no (g : Nat) (T : Tb) (ks : List Nat) (ns : List (List Nat)) (A : Option Addr) (cap : Nat) (w : World) (B : Nat) (h : TabAt w B g T ks) (hr : RdS w A ns) (hok : OkS ns) (hl : ns.length ≤ 1048576) (h0 : 0 < ns.length) (hn : (ns.any fun x => !isN x) = true) :
    Calls Tryz.prog 12 #[.pointer (some ⟨g, 0, none⟩), .slice A ns.length cap] w (OErr w B g 4 T ks) := by
  have HT := Lib.hid h
  have C := someNo_any ns A cap w hr hok hl
  rw [hn] at C
  have HC := Lib.hid C
  generalize ns.length = n at *
  have h0i : ((n : Int) == 0) = false := by simp; omega
  clear h hr hok hn C
  go_enter Tryz.func12, Tryz.ntmps12
  go_wp2_with fail
  refine HC.out.mono ?_
  rintro e w1 ⟨rfl, hb1⟩
  go_wp2_with fail
  go_ret2
  exact ⟨rfl, TPost.same HT.out hb1⟩
theorem open_twice (g : Nat) (T : Tb) (ks : List Nat) (ns : List (List Nat)) (A : Option Addr) (cap : Nat) (w : World) (B : Nat) (h : TabAt w B g T ks) (hr : RdS w A ns) (hok : OkS ns) (hl : ns.length ≤ 1048576) (h0 : 0 < ns.length) (hn : (ns.any fun x => !isN x) = false) (hx : T.nx ≤ 1048576) (hd : ¬ ns.Nodup) :
    Calls Tryz.prog 12 #[.pointer (some ⟨g, 0, none⟩), .slice A ns.length cap] w (OErr w B g 6 T ks) := by
  have HT := Lib.hid h
  have C := someNo_any ns A cap w hr hok hl
  rw [hn] at C
  have HC := Lib.hid C
  have hok2 : ∀ x ∈ ns, Codes x ∧ x.length ≤ 64 := fun x hx => ⟨(hok x hx).1, by
    have := List.any_eq_false.1 hn x hx
    simp at this
    exact isN_len this⟩
  have HBO : Hid (∀ w1, Below w.heap.size w w1 → Calls Tryz.prog 40 #[.slice A ns.length cap, .int .i64 ((T.nx : Nat) : Int)] w1 (BoundP w1 (bnd ns T.nx))) := fun w1 hb => bound_any ns T.nx A cap w1 (hr.below hb) hok2 hl h0 hx
  have HTW : Hid (∀ (W : World) (l' : List Ent) (A8 : Option Addr) (c8 : Nat) (v5 : Value), l'.Perm (bnd ns T.nx) → SrW l' → RdE W A8 l' → Calls Tryz.prog 41 #[.agg #[.slice A8 l'.length c8, v5]] W fun e w' => e = .returned (.bool true) ∧ Below W.heap.size W w') := fun W l' A8 c8 v5 hp hs hr8 => by
    have := hasTwice_any l' v5 A8 c8 W hr8 (fun e he => (hok2 e.1 (bnd_mem (hp.mem_iff.1 he)).1).1) (by rw [hp.length_eq, bnd_len]; exact hl)
    rwa [adj_dup hp hs, decide_eq_true hd] at this
  have HNX : Hid (∀ w1, Below w.heap.size w w1 → w1.cell? ⟨g, 3, none⟩ = some (.int .i64 ((T.nx : Nat) : Int))) := fun w1 hb => by
    obtain ⟨a, b, s, xs, k0, hV, -⟩ := HT.out.below hb
    exact cell_of_row w1 g 3 _ _ _ hV.cell
  generalize ns.length = n at *
  have h0i : ((n : Int) == 0) = false := by simp; omega
  clear h hr hok hn C hok2
  go_enter Tryz.func12, Tryz.ntmps12
  go_wp2_with fail
  refine HC.out.mono ?_
  rintro e w1 ⟨rfl, hb1⟩
  have x3 := HNX.out w1 hb1
  have HB1 := Lib.hid hb1
  clear hb1
  go_wp2_with fail
  refine (HBO.out _ HB1.out).mono ?_
  rintro e w2 ⟨⟨v8, v5, l', rfl, hp, hs, h8, h5, hN⟩, hb2⟩
  obtain ⟨A8, c8, rfl, hrd⟩ := h8.form
  obtain ⟨A5, c5, rfl⟩ := nslice_form h5
  have HB2 := Lib.hid (HB1.out.trans (hb2.mono HB1.out.size))
  have HH8 := Lib.hid h8
  have HT2 := Lib.hid (HTW.out (w2.alloc (.cells #[.slice A8 l'.length c8, .slice A5 (bnd ns T.nx).length c5] 62)) l' A8 c8 (.slice A5 (bnd ns T.nx).length c5) hp hs (hrd.below ((Below.refl _ w2).alloc (Nat.le_refl _) _)))
  clear hp hs h8 h5 hN hb2 hrd x3 HTW
  generalize l'.length = m at *
  go_wp2_with fail
  refine HT2.out.mono ?_
  rintro e w3 ⟨rfl, hb3⟩
  go_wp2_with fail
  go_ret2
  exact ⟨rfl, TPost.same HT.out ((HB2.out.alloc HB2.out.size _).trans (hb3.mono (Nat.le_trans HB2.out.size (by simp))))⟩
theorem open_full (g : Nat) (T : Tb) (ks : List Nat) (ns : List (List Nat)) (A : Option Addr) (cap : Nat) (w : World) (B : Nat) (h : TabAt w B g T ks) (hr : RdS w A ns) (hok : OkS ns) (hl : ns.length ≤ 1048576) (h0 : 0 < ns.length) (hn : (ns.any fun x => !isN x) = false) (hx : T.nx ≤ 1048576) (hd : ns.Nodup) (hq : T.sc.length = 64 ∨ 1048576 - T.nx < ns.length) :
    Calls Tryz.prog 12 #[.pointer (some ⟨g, 0, none⟩), .slice A ns.length cap] w (OErr w B g 40 T ks) := by
  have HT := Lib.hid h
  have C := someNo_any ns A cap w hr hok hl
  rw [hn] at C
  have HC := Lib.hid C
  have hok2 : ∀ x ∈ ns, Codes x ∧ x.length ≤ 64 := fun x hx => ⟨(hok x hx).1, by
    have := List.any_eq_false.1 hn x hx
    simp at this
    exact isN_len this⟩
  have HBO : Hid (∀ w1, Below w.heap.size w w1 → Calls Tryz.prog 40 #[.slice A ns.length cap, .int .i64 ((T.nx : Nat) : Int)] w1 (BoundP w1 (bnd ns T.nx))) := fun w1 hb => bound_any ns T.nx A cap w1 (hr.below hb) hok2 hl h0 hx
  have HTW : Hid (∀ (W : World) (l' : List Ent) (A8 : Option Addr) (c8 : Nat) (v5 : Value), l'.Perm (bnd ns T.nx) → SrW l' → RdE W A8 l' → Calls Tryz.prog 41 #[.agg #[.slice A8 l'.length c8, v5]] W fun e w' => e = .returned (.bool false) ∧ Below W.heap.size W w') := fun W l' A8 c8 v5 hp hs hr8 => by
    have := hasTwice_any l' v5 A8 c8 W hr8 (fun e he => (hok2 e.1 (bnd_mem (hp.mem_iff.1 he)).1).1) (by rw [hp.length_eq, bnd_len]; exact hl)
    rwa [adj_dup hp hs, decide_eq_false (fun h => h hd)] at this
  have HNX : Hid (∀ w1, Below w.heap.size w w1 → w1.cell? ⟨g, 3, none⟩ = some (.int .i64 ((T.nx : Nat) : Int))) := fun w1 hb => by
    obtain ⟨a, b, s, xs, k0, hV, -⟩ := HT.out.below hb
    exact cell_of_row w1 g 3 _ _ _ hV.cell
  have HSC : Hid (∀ w1, Below w.heap.size w w1 → ∃ A2 c2, w1.cell? ⟨g, 2, none⟩ = some (.slice A2 T.sc.length c2)) := fun w1 hb => by
    obtain ⟨a, b, s, xs, k0, hV, -⟩ := HT.out.below hb
    obtain ⟨A2, c2, rfl⟩ := nslice_form hV.row
    exact ⟨A2, c2, cell_of_row w1 g 2 _ _ _ hV.cell⟩
  have HLF : Hid (∀ w1, Below w.heap.size w w1 → Calls Tryz.prog 35 #[.pointer (some ⟨g, 0, none⟩)] w1 fun e w' => e = .returned (.int .i64 ((1048576 - T.nx : Nat) : Int)) ∧ w' = w1) := fun w1 hb1 => left_any g T _ w1 B (HT.out.below hb1) hx
  generalize ns.length = n at *
  generalize 1048576 - T.nx = f at *
  generalize T.sc.length = m2 at *
  have h0i : ((n : Int) == 0) = false := by simp; omega
  clear h hr hok hn C hok2
  go_enter Tryz.func12, Tryz.ntmps12
  go_wp2_with fail
  refine HC.out.mono ?_
  rintro e w1 ⟨rfl, hb1⟩
  have x3 := HNX.out w1 hb1
  have HB1 := Lib.hid hb1
  clear hb1
  go_wp2_with fail
  refine (HBO.out _ HB1.out).mono ?_
  rintro e w2 ⟨⟨v8, v5, l', rfl, hp, hs, h8, h5, hN⟩, hb2⟩
  obtain ⟨A8, c8, rfl, hrd⟩ := h8.form
  obtain ⟨A5, c5, rfl⟩ := nslice_form h5
  have HB2 := Lib.hid (HB1.out.trans (hb2.mono HB1.out.size))
  have HH8 := Lib.hid h8
  have HT2 := Lib.hid (HTW.out (w2.alloc (.cells #[.slice A8 l'.length c8, .slice A5 (bnd ns T.nx).length c5] 62)) l' A8 c8 (.slice A5 (bnd ns T.nx).length c5) hp hs (hrd.below ((Below.refl _ w2).alloc (Nat.le_refl _) _)))
  clear hp hs h8 h5 hN hb2 hrd x3 HTW
  generalize l'.length = m at *
  go_wp2_with fail
  refine HT2.out.mono ?_
  rintro e w3 ⟨rfl, hb3⟩
  have HB3 := Lib.hid ((HB2.out.alloc HB2.out.size (.cells #[.slice A8 m c8, .slice A5 (bnd ns T.nx).length c5] 62)).trans (hb3.mono (Nat.le_trans HB2.out.size (by simp))))
  obtain ⟨A2, c2, x2⟩ := HSC.out w3 HB3.out
  clear hb3 HT2
  have HQ := Lib.hid hq
  clear hq
  by_cases h64 : m2 = 64
  · have h64i : (m2 : Int) = 64 := by omega
    clear h64
    go_wp2_with fail
    go_ret2
    exact ⟨rfl, TPost.same HT.out HB3.out⟩
  · have h64i : ((m2 : Int) == 64) = false := by simp; omega
    have hfi : ((f : Int) < (n : Int)) := by have := HQ.out; omega
    clear h64
    go_wp2_with fail
    refine (HLF.out _ HB3.out).mono ?_
    rintro e w4 ⟨rfl, rfl⟩
    go_wp2_with fail
    go_ret2
    exact ⟨rfl, TPost.same HT.out HB3.out⟩
end Go.Proofs.YtcjljfjgekiocaaGreatDoor

/- Contracts: whether one of some texts is no name; hasTwice; bound. -/
import Derived.BigQuiet
import Derived.Deep.QuietTactic
import Derived.Test.YtcjljfjgekiocaaGreatDoorNamE
namespace Go.Proofs.YtcjljfjgekiocaaGreatDoor
open Go.RowKit Go.Shelf

set_option linter.unusedVariables false
set_option linter.unusedSimpArgs false

/-- texts can be read from an address on -/
def RdS (w : World) (A : Option Addr) (ns : List (List Nat)) : Prop := ns = [] ∨ ∃ b o, A = some ⟨b, o, none⟩ ∧ b < w.heap.size ∧ ∀ j (x : List Nat), ns[j]? = some x → w.cell? ⟨b, o + j, none⟩ = some (.string (str x))
theorem RdS.at {w : World} {A : Option Addr} {ns : List (List Nat)} (h : RdS w A ns) {j : Nat} {x : List Nat} (he : ns[j]? = some x) : ∃ b o, A = some ⟨b, o, none⟩ ∧ b < w.heap.size ∧ ∀ j (x : List Nat), ns[j]? = some x → w.cell? ⟨b, o + j, none⟩ = some (.string (str x)) := by
  rcases h with h | h
  · rw [h] at he; simp at he
  · exact h
theorem RdS.below {w w' : World} {A : Option Addr} {ns : List (List Nat)} (h : RdS w A ns) (hb : Below w.heap.size w w') : RdS w' A ns := by
  rcases h with h | ⟨b, o, e, hlt, h⟩
  · exact .inl h
  · exact .inr ⟨b, o, e, Nat.lt_of_lt_of_le hlt hb.size, fun j x he => (hb.cell (p := ⟨b, o + j, none⟩) hlt).trans (h j x he)⟩
/-- texts of a machine -/
def OkS (ns : List (List Nat)) : Prop := ∀ x ∈ ns, Codes x ∧ x.length < 9223372036854775807

theorem noName_any (L : List Nat) (w : World) (hc : Codes L) (hl : L.length < 9223372036854775807) : Calls Tryz.prog 38 #[.string (str L)] w fun e w' => e = .returned (.bool (!isN L)) ∧ Below w.heap.size w w' := by
  have c := name_any L w hc hl
  generalize isN L = r at *
  go_enter Tryz.func38, Tryz.ntmps38
  go_wp2_with fail
  refine c.mono ?_
  rintro e w1 ⟨rfl, hb⟩
  go_wp2
  go_ret
  exact ⟨rfl, hb⟩
def ixN : Nat → List (List Nat) → Int
  | _, [] => -1
  | j, x :: r => if isN x = true then ixN (j + 1) r else (j : Int)
theorem ixN_any : ∀ (ns : List (List Nat)) (j : Nat), decide (0 ≤ ixN j ns) = ns.any fun x => !isN x
  | [], j => by simp [ixN]
  | x :: r, j => by
    rw [ixN, List.any_cons]
    cases h : isN x with
    | true => rw [if_pos rfl, ixN_any r]; rfl
    | false => rw [if_neg (by decide)]; simp
theorem ixN_le : ∀ (ns : List (List Nat)) (j : Nat), -1 ≤ ixN j ns ∧ ixN j ns < (j + ns.length : Nat)
  | [], j => by simp [ixN]; omega
  | x :: r, j => by
    have := ixN_le r (j + 1)
    rw [ixN]
    split
    · simp only [List.length_cons]; omega
    · simp only [List.length_cons]; omega
set_option maxRecDepth 100000 in
set_option maxHeartbeats 4000000 in
theorem indexName_any (ns : List (List Nat)) (A : Option Addr) (cap : Nat) (w : World) (hr : RdS w A ns) (hok : OkS ns) (hl : ns.length ≤ 1048576) :
    Calls Tryz.prog 57 #[.slice A ns.length cap, .func (.func 38) #[] #[]] w fun e w' => e = .returned (.int .i64 (ixN 0 ns)) ∧ Below w.heap.size w w' := by
  have HR := Lib.hid hr
  have HOK := Lib.hid hok
  clear hok
  go_enter Tryz.func57, Tryz.ntmps57
  go_wp2_with fail
  go_loopw [8] (fun s wr => ∃ (j : Nat), s = .int .i64 (j : Int) ∧ j ≤ ns.length ∧ Hid (ixN 0 ns = ixN j (ns.drop j)) ∧ Below w.heap.size w wr) (fun s _ => ns.length - (intOf s).toNat)
  case atStart => exact ⟨0, rfl, Nat.zero_le _, rfl, Below.refl _ _⟩
  case round =>
    obtain ⟨j, rfl, hj, HX, hB⟩ := hrel
    have HB := Lib.hid hB
    clear hB
    by_cases hlt : j < ns.length
    · obtain ⟨x, hx⟩ : ∃ x, ns[j]? = some x := ⟨_, List.getElem?_eq_getElem hlt⟩
      obtain ⟨b, o, rfl, hq, hcell⟩ := hr.at hx
      have hc1 := (HB.out.cell (p := ⟨b, o + j, none⟩) hq).trans (hcell j x hx)
      obtain ⟨hxc, hxl⟩ := HOK.out x (List.mem_of_getElem? hx)
      have HD : Hid (ixN j (ns.drop j) = if isN x = true then ixN (j + 1) (ns.drop (j + 1)) else (j : Int)) := by
        show _ = _
        rw [List.drop_eq_getElem_cons hlt, ixN]
        rw [List.getElem?_eq_getElem hlt] at hx
        injection hx with hx
        rw [hx]
      have C := Lib.hid (noName_any x wr hxc hxl)
      have hltI : (j : Int) < (ns.length : Int) := by omega
      clear hcell hx hxc hxl hj
      go_wp2_with fail
      refine C.out.mono ?_
      rintro e w2 ⟨rfl, hb2⟩
      have HB2 := Lib.hid (HB.out.trans (hb2.mono HB.out.size))
      clear hb2 C
      cases hn : isN x
      · rw [hn] at HD
        go_wp2
        go_ret
        exact ⟨reti (by rw [HX.out, HD.out]; rfl), HB2.out⟩
      · rw [hn] at HD
        go_wp2_with fail
        go_roundw
        case rel => exact ⟨j + 1, by go_num, by omega, by show _ = _; rw [HX.out, HD.out]; rfl, HB2.out⟩
        case measure => simp [intOf]; omega
    · have hje : j = ns.length := by omega
      have hltI : ¬ (j : Int) < (ns.length : Int) := by omega
      have HV : Hid (ixN 0 ns = -1) := by show _ = _; rw [HX.out, hje, List.drop_length]; rfl
      clear hj hlt hje
      go_wp2
      go_ret
      exact ⟨reti (by rw [HV.out]), HB.out⟩
theorem someNo_any (ns : List (List Nat)) (A : Option Addr) (cap : Nat) (w : World) (hr : RdS w A ns) (hok : OkS ns) (hl : ns.length ≤ 1048576) :
    Calls Tryz.prog 39 #[.slice A ns.length cap, .func (.func 38) #[] #[]] w fun e w' => e = .returned (.bool (ns.any fun x => !isN x)) ∧ Below w.heap.size w w' := by
  have c := indexName_any ns A cap w hr hok hl
  have hv := Lib.hid (ixN_any ns 0)
  obtain ⟨h1, h2⟩ := ixN_le ns 0
  clear hr hok
  generalize (ns.any fun x => !isN x) = r at *
  generalize ixN 0 ns = i at *
  go_enter Tryz.func39, Tryz.ntmps39
  go_wp2_with fail
  refine c.mono ?_
  rintro e w1 ⟨rfl, hb⟩
  go_wp2
  go_ret
  exact ⟨retb (by rw [← hv.out]), hb⟩

theorem ndrew {B : Nat} {a w : World} (h : Below B a w) (q : Nat) : Below B a (w.drewN q) := ⟨h.os, h.tape, h.output, h.size, h.block⟩
/-! ### two of the same -/
def adjF : Option (List Nat) → List Ent → Bool
  | _, [] => false
  | p, e :: r => decide (p = some e.1) || adjF (some e.1) r
def prevN (l : List Ent) (j : Nat) : Option (List Nat) := if j = 0 then none else l[j - 1]?.map Prod.fst
theorem adjF_step {l : List Ent} {j : Nat} {e : Ent} (h : l[j]? = some e) : adjF (prevN l j) (l.drop j) = (decide (prevN l j = some e.1) || adjF (prevN l (j + 1)) (l.drop (j + 1))) := by
  have hl := (List.getElem?_eq_some_iff.1 h).1
  rw [List.drop_eq_getElem_cons hl, adjF]
  have he : l[j] = e := (List.getElem?_eq_some_iff.1 h).2
  have hp : prevN l (j + 1) = some e.1 := by
    unfold prevN
    rw [if_neg (by omega), Nat.add_sub_cancel, h]; rfl
  rw [he, hp]
set_option maxRecDepth 100000 in
set_option maxHeartbeats 4000000 in
theorem hasTwice_any (l : List Ent) (v2 : Value) (A : Option Addr) (cap : Nat) (w : World) (hr : RdE w A l) (hok : ∀ e ∈ l, Codes e.1) (hl : l.length ≤ 1048576) :
    Calls Tryz.prog 41 #[.agg #[.slice A l.length cap, v2]] w fun e w' => e = .returned (.bool (adjF none l)) ∧ Below w.heap.size w w' := by
  obtain ⟨W, hW⟩ : ∃ W, w.alloc (.cells #[.slice A l.length cap, v2] 62) = W := ⟨_, rfl⟩
  have hbW : Below w.heap.size w W := hW ▸ (Below.refl _ w).alloc (Nat.le_refl _) _
  have hxW : W.heap[w.heap.size]? = some (.cells #[.slice A l.length cap, v2] 62 (0, 0)) := hW ▸ lone_new w _ _
  have x0 : W.cell? ⟨w.heap.size, 0, none⟩ = some (.slice A l.length cap) := by rw [cell_of hxW]; rfl
  have x1 : W.cell? ⟨w.heap.size, 1, none⟩ = some v2 := by rw [cell_of hxW]; rfl
  have HX := Lib.hid hxW
  have HBW := Lib.hid hbW
  have HOK := Lib.hid hok
  have hrW := hr.below hbW
  clear hxW hbW hok hr
  go_enter Tryz.func41, Tryz.ntmps41
  go_wp2_with fail
  go_loopw [8] (fun s wr => ∃ (j : Nat), s = .int .i64 (j : Int) ∧ j ≤ l.length ∧ Hid (adjF none l = adjF (prevN l j) (l.drop j)) ∧ Below W.heap.size W wr) (fun s _ => l.length - (intOf s).toNat)
  case atStart => exact ⟨0, rfl, Nat.zero_le _, rfl, Below.refl _ _⟩
  case round =>
    obtain ⟨j, rfl, hj, HXX, hB⟩ := hrel
    have HB := Lib.hid hB
    clear hB x0 x1
    by_cases hlt : j < l.length
    · obtain ⟨e, he⟩ : ∃ e, l[j]? = some e := ⟨_, List.getElem?_eq_getElem hlt⟩
      obtain ⟨b, o, rfl, hq, hcell⟩ := hrW.at he
      have hc1 := (HB.out.cell (p := ⟨b, o + j * 2, none⟩) hq).trans (hcell j e he).1
      have hc2 := (HB.out.cell (p := ⟨b, o + j * 2 + 1, none⟩) hq).trans (hcell j e he).2
      have hec := HOK.out e (List.mem_of_getElem? he)
      have HST := Lib.hid (adjF_step he)
      have hltI : (j : Int) < (l.length : Int) := by omega
      obtain ⟨V, hV⟩ : ∃ V, wr.alloc (.cells #[.string (str e.1), .int .i64 ((e.2 : Nat) : Int)] 68) = V := ⟨_, rfl⟩
      have hbV : Below wr.heap.size wr V := hV ▸ (Below.refl _ wr).alloc (Nat.le_refl _) _
      have hxV : V.heap[wr.heap.size]? = some (.cells #[.string (str e.1), .int .i64 ((e.2 : Nat) : Int)] 68 (0, 0)) := hV ▸ lone_new wr _ _
      have v0 : V.cell? ⟨wr.heap.size, 0, none⟩ = some (.string (str e.1)) := by rw [cell_of hxV]; rfl
      have v1 : V.cell? ⟨wr.heap.size, 1, none⟩ = some (.int .i64 ((e.2 : Nat) : Int)) := by rw [cell_of hxV]; rfl
      have HBV := Lib.hid (HB.out.trans (hbV.mono HB.out.size))
      have hx2 := (HBV.out.block w.heap.size (kind_lt2 HX.out)).trans HX.out
      have y0 : V.cell? ⟨w.heap.size, 0, none⟩ = some (.slice (some ⟨b, o, none⟩) l.length cap) := by rw [cell_of hx2]; rfl
      by_cases h0 : j = 0
      · have HPN : Hid (prevN l j = none) := if_pos h0
        have hg : decide ((0 : Int) < (j : Int)) = false := decide_eq_false (by omega)
        have hgn : decide (0 < j) = false := decide_eq_false (by omega)
        clear hcell he hec hj hxV hx2 hbV h0
        go_wp2_with fail
        go_quiet (fail)
        go_wp2_with fail
        refine ⟨⟨j + 1, by go_num, by omega, ?_, ndrew HBV.out nq⟩, by simp [intOf]; omega⟩
        show _ = _
        rw [HXX.out, HST.out, HPN.out]; rfl
      · obtain ⟨i, hi⟩ : ∃ i, i = j - 1 := ⟨_, rfl⟩
        obtain ⟨p, hp⟩ : ∃ p, l[i]? = some p := ⟨_, List.getElem?_eq_getElem (by omega)⟩
        have HPN : Hid (prevN l j = some p.1) := by
          show _ = _
          unfold prevN
          rw [if_neg h0, ← hi, hp]; rfl
        have hp1 := (HBV.out.cell (p := ⟨b, o + i * 2, none⟩) hq).trans (hcell i p hp).1
        have hpc := HOK.out p (List.mem_of_getElem? hp)
        have heq : ((str p.1).toList == (str e.1).toList) = decide (p.1 = e.1) := str_beq hpc hec
        have hg : decide ((0 : Int) < (j : Int)) = true := decide_eq_true (by omega)
        have hgn : decide (0 < j) = true := decide_eq_true (by omega)
        have hi1 : (j : Int) - 1 = (i : Int) := by omega
        have hil : (i : Int) < (l.length : Int) := by omega
        clear hcell he hec hj hxV hx2 hbV hp hpc hi h0
        have HEQ : Hid (decide (some p.1 = some e.1) = decide (p.1 = e.1)) := by show _ = _; simp
        generalize decide (p.1 = e.1) = d at *
        go_wp2_with fail
        go_quiet (fail)
        cases d
        · go_wp2_with fail
          refine ⟨⟨j + 1, by go_num, by omega, ?_, ndrew HBV.out nq⟩, by simp [intOf]; omega⟩
          show _ = _
          rw [HXX.out, HST.out, HPN.out, HEQ.out]; rfl
        · go_wp2
          go_ret
          exact ⟨retb (by rw [HXX.out, HST.out, HPN.out, HEQ.out]; rfl), HBW.out.trans ((ndrew HBV.out nq).mono HBW.out.size)⟩
    · have hje : j = l.length := by omega
      have hltI : ¬ (j : Int) < (l.length : Int) := by omega
      have HV : Hid (adjF none l = false) := by show _ = _; rw [HXX.out, hje, List.drop_length]; rfl
      clear hj hlt hje
      go_wp2
      go_ret
      exact ⟨retb (by rw [HV.out]), HBW.out.trans (HB.out.mono HBW.out.size)⟩
end Go.Proofs.YtcjljfjgekiocaaGreatDoor

/- Contracts: look, at names and at variables (mknamc.py). -/
import Derived.Test.YtcjljfjgekiocaaGreatDoorNamA
import Derived.Test.YtcjljfjgekiocaaGreatDoorNamB
namespace Go.Proofs.YtcjljfjgekiocaaGreatDoor
open Go.RowKit Go.Shelf

set_option linter.unusedVariables false
set_option linter.unusedSimpArgs false

/-- entries can be read from an address on -/
def RdE (w : World) (A : Option Addr) (l : List Ent) : Prop := l = [] ∨ ∃ b o, A = some ⟨b, o, none⟩ ∧ b < w.heap.size ∧ ∀ j e, l[j]? = some e → w.cell? ⟨b, o + j * 2, none⟩ = some (.string (str e.1)) ∧ w.cell? ⟨b, o + j * 2 + 1, none⟩ = some (.int .i64 ((e.2 : Nat) : Int))
theorem RdE.at {w : World} {A : Option Addr} {l : List Ent} (h : RdE w A l) {j : Nat} {e : Ent} (he : l[j]? = some e) : ∃ b o, A = some ⟨b, o, none⟩ ∧ b < w.heap.size ∧ ∀ j e, l[j]? = some e → w.cell? ⟨b, o + j * 2, none⟩ = some (.string (str e.1)) ∧ w.cell? ⟨b, o + j * 2 + 1, none⟩ = some (.int .i64 ((e.2 : Nat) : Int)) := by
  rcases h with h | h
  · rw [h] at he; simp at he
  · exact h
theorem RdE.below {w w' : World} {A : Option Addr} {l : List Ent} (h : RdE w A l) (hb : Below w.heap.size w w') : RdE w' A l := by
  rcases h with h | ⟨b, o, e, hlt, h⟩
  · exact .inl h
  · refine .inr ⟨b, o, e, Nat.lt_of_lt_of_le hlt hb.size, fun j e he => ⟨?_, ?_⟩⟩
    · exact (hb.cell (p := ⟨b, o + j * 2, none⟩) hlt).trans (h j e he).1
    · exact (hb.cell (p := ⟨b, o + j * 2 + 1, none⟩) hlt).trans (h j e he).2

set_option maxRecDepth 100000 in
set_option maxHeartbeats 4000000 in
theorem lookN_any (l : List Ent) (k : List Nat) (A : Option Addr) (cap : Nat) (w : World) (hr : RdE w A l) (hs : SrN l) (hok : ∀ e ∈ l, Codes e.1) (hk : Codes k) (hl : l.length ≤ 1048576) :
    Calls Tryz.prog 33 #[.slice A l.length cap, .string (str k), .func (.func 34) #[] #[]] w fun e w' => e = .returned (.tuple #[.int .i64 ((atN l k : Nat) : Int), .bool (isNm l k)]) ∧ Below w.heap.size w w' := by
  have HD := Lib.hid (hs.dwn k)
  have HR := Lib.hid hr
  go_enter Tryz.func33, Tryz.ntmps33
  go_wp2_with fail
  go_loopw [6, 8] (fun s d wr => ∃ (a b : Nat), s = .int .i64 (a : Int) ∧ d = .int .i64 (b : Int) ∧ a ≤ b ∧ b ≤ l.length ∧ Hid (∀ i e, i < a → l[i]? = some e → byN k e = true) ∧ Hid (∀ i e, b ≤ i → l[i]? = some e → byN k e = false) ∧ Below w.heap.size w wr) (fun s d _ => (intOf d).toNat - (intOf s).toNat)
  case atStart =>
    refine ⟨0, l.length, rfl, rfl, Nat.zero_le _, Nat.le_refl _, fun i e h => absurd h (Nat.not_lt_zero _), fun i e h he => ?_, Below.refl _ _⟩
    have := (List.getElem?_eq_some_iff.1 he).1
    omega
  case round =>
    obtain ⟨a, b, rfl, rfl, hab, hbl, H1, H2, hB⟩ := hrel
    have HB := Lib.hid hB
    clear hB
    by_cases hlt : a < b
    · obtain ⟨d, hd⟩ : ∃ d, d = b - a := ⟨_, rfl⟩
      obtain ⟨h, hh⟩ : ∃ h, h = d / 2 := ⟨_, rfl⟩
      obtain ⟨m, hm⟩ : ∃ m, m = a + h := ⟨_, rfl⟩
      have hml : m < l.length := by omega
      obtain ⟨e, he⟩ : ∃ e, l[m]? = some e := ⟨_, List.getElem?_eq_getElem hml⟩
      obtain ⟨q, o, rfl, hq, hcell⟩ := hr.at he
      have hc1 := (HB.out.cell (p := ⟨q, o + m * 2, none⟩) hq).trans (hcell m e he).1
      have hc2 := (HB.out.cell (p := ⟨q, o + m * 2 + 1, none⟩) hq).trans (hcell m e he).2
      have i1 : (b : Int) - (a : Int) = (d : Int) := by omega
      have i2 : (d : Int).tdiv 2 = (h : Int) := by rw [Int.tdiv_eq_ediv_of_nonneg (by omega)]; omega
      have i3 : (a : Int) + (h : Int) = (m : Int) := by omega
      have hd6 : d ≤ 1048576 := by omega
      have hh6 : h ≤ 1048576 := by omega
      have hec := hok e (List.mem_of_getElem? he)
      have hlss : Op.bytesLess (str e.1).toList (str k).toList = byN k e := bytes_ltn hec hk
      have HE := Lib.hid he
      have HAM : Hid (a ≤ m ∧ m < b) := ⟨by omega, by omega⟩
      have hltI : (a : Int) < (b : Int) := by omega
      have hmI : (m : Int) < (l.length : Int) := by omega
      have HAB := Lib.hid (And.intro hab hlt)
      clear hm hh hd hcell he hab hlt hec hok hk
      go_wp2_with fail
      refine (text_any (str e.1) (.int .i64 ((e.2 : Nat) : Int)) _).mono ?_
      rintro e9 w2 ⟨rfl, hb2⟩
      have HB2 := Lib.hid (HB.out.trans (hb2.mono HB.out.size))
      clear hb2
      cases hp : byN k e
      · rw [hp] at hlss
        go_wp2_with fail
        go_roundw
        case rel =>
          refine ⟨a, m, rfl, rfl, HAM.out.1, by have := HAM.out; omega, H1, fun i e' hi he' => ?_, HB2.out⟩
          cases hp' : byN k e' with
          | false => rfl
          | true => exact absurd (HD.out m i e e' hi HE.out he' hp') (by rw [hp]; decide)
        case measure => have := HAM.out; simp [intOf]; omega
      · rw [hp] at hlss
        go_wp2_with fail
        go_roundw
        case rel =>
          refine ⟨m + 1, b, by go_num, rfl, HAM.out.2, hbl, fun i e' hi he' => HD.out i m e' e (by omega) he' HE.out hp, H2, HB2.out⟩
        case measure => have := HAM.out; simp [intOf]; omega
    · have hab' : a = b := by omega
      subst hab'
      have HPOS : Hid (atN l k = a) := (pos_eq HD.out hbl H1.out H2.out).symm
      have hltI : ¬ (a : Int) < (a : Int) := by omega
      by_cases hal : a < l.length
      · obtain ⟨e, he⟩ : ∃ e, l[a]? = some e := ⟨_, List.getElem?_eq_getElem hal⟩
        obtain ⟨q, o, rfl, hq, hcell⟩ := hr.at he
        have hc1 := (HB.out.cell (p := ⟨q, o + a * 2, none⟩) hq).trans (hcell a e he).1
        have hc2 := (HB.out.cell (p := ⟨q, o + a * 2 + 1, none⟩) hq).trans (hcell a e he).2
        have hec := hok e (List.mem_of_getElem? he)
        have heql : ((str e.1).toList == (str k).toList) = decide (e.1 = k) := str_beq hec hk
        have hmI : (a : Int) < (l.length : Int) := by omega
        have HIS : Hid (isNm l k = decide (e.1 = k)) := by
          show _ = _
          unfold isNm
          rw [HPOS.out, he]
        clear hcell he hec hok hab hlt H1 H2 hr hk
        go_wp2_with fail
        refine (text_any (str e.1) (.int .i64 ((e.2 : Nat) : Int)) _).mono ?_
        rintro e9 w2 ⟨rfl, hb2⟩
        have HB2 := Lib.hid (HB.out.trans (hb2.mono HB.out.size))
        clear hb2
        generalize decide (e.1 = k) = r at *
        go_wp2
        go_ret2
        exact ⟨by rw [HPOS.out, HIS.out] <;> rfl, HB2.out⟩
      · have HIS : Hid (isNm l k = false) := by
          show _ = _
          unfold isNm
          rw [HPOS.out, List.getElem?_eq_none (by omega)]
        have hmI : ¬ (a : Int) < (l.length : Int) := by omega
        clear hok hab hlt H1 H2 hr hk
        go_wp2
        go_ret2
        exact ⟨by rw [HPOS.out, HIS.out] <;> rfl, HB.out⟩

set_option maxRecDepth 100000 in
set_option maxHeartbeats 4000000 in
theorem lookV_any (l : List Ent) (k : Int) (A : Option Addr) (cap : Nat) (w : World) (hr : RdE w A l) (hs : SrV l) (hok : ∀ e ∈ l, Codes e.1) (hk : True) (hl : l.length ≤ 1048576) :
    Calls Tryz.prog 46 #[.slice A l.length cap, .int .i64 k, .func (.func 47) #[] #[]] w fun e w' => e = .returned (.tuple #[.int .i64 ((atV l k : Nat) : Int), .bool (isVr l k)]) ∧ Below w.heap.size w w' := by
  have HD := Lib.hid (hs.dwn k)
  have HR := Lib.hid hr
  go_enter Tryz.func46, Tryz.ntmps46
  go_wp2_with fail
  go_loopw [6, 8] (fun s d wr => ∃ (a b : Nat), s = .int .i64 (a : Int) ∧ d = .int .i64 (b : Int) ∧ a ≤ b ∧ b ≤ l.length ∧ Hid (∀ i e, i < a → l[i]? = some e → byV k e = true) ∧ Hid (∀ i e, b ≤ i → l[i]? = some e → byV k e = false) ∧ Below w.heap.size w wr) (fun s d _ => (intOf d).toNat - (intOf s).toNat)
  case atStart =>
    refine ⟨0, l.length, rfl, rfl, Nat.zero_le _, Nat.le_refl _, fun i e h => absurd h (Nat.not_lt_zero _), fun i e h he => ?_, Below.refl _ _⟩
    have := (List.getElem?_eq_some_iff.1 he).1
    omega
  case round =>
    obtain ⟨a, b, rfl, rfl, hab, hbl, H1, H2, hB⟩ := hrel
    have HB := Lib.hid hB
    clear hB
    by_cases hlt : a < b
    · obtain ⟨d, hd⟩ : ∃ d, d = b - a := ⟨_, rfl⟩
      obtain ⟨h, hh⟩ : ∃ h, h = d / 2 := ⟨_, rfl⟩
      obtain ⟨m, hm⟩ : ∃ m, m = a + h := ⟨_, rfl⟩
      have hml : m < l.length := by omega
      obtain ⟨e, he⟩ : ∃ e, l[m]? = some e := ⟨_, List.getElem?_eq_getElem hml⟩
      obtain ⟨q, o, rfl, hq, hcell⟩ := hr.at he
      have hc1 := (HB.out.cell (p := ⟨q, o + m * 2, none⟩) hq).trans (hcell m e he).1
      have hc2 := (HB.out.cell (p := ⟨q, o + m * 2 + 1, none⟩) hq).trans (hcell m e he).2
      have i1 : (b : Int) - (a : Int) = (d : Int) := by omega
      have i2 : (d : Int).tdiv 2 = (h : Int) := by rw [Int.tdiv_eq_ediv_of_nonneg (by omega)]; omega
      have i3 : (a : Int) + (h : Int) = (m : Int) := by omega
      have hd6 : d ≤ 1048576 := by omega
      have hh6 : h ≤ 1048576 := by omega
      have hec := hok e (List.mem_of_getElem? he)
      have hlss : decide (((e.2 : Nat) : Int) < k) = byV k e := rfl
      have HE := Lib.hid he
      have HAM : Hid (a ≤ m ∧ m < b) := ⟨by omega, by omega⟩
      have hltI : (a : Int) < (b : Int) := by omega
      have hmI : (m : Int) < (l.length : Int) := by omega
      have HAB := Lib.hid (And.intro hab hlt)
      clear hm hh hd hcell he hab hlt hec hok hk
      go_wp2_with fail
      refine (variable_any (.string (str e.1)) ((e.2 : Nat) : Int) _).mono ?_
      rintro e9 w2 ⟨rfl, hb2⟩
      have HB2 := Lib.hid (HB.out.trans (hb2.mono HB.out.size))
      clear hb2
      cases hp : byV k e
      · rw [hp] at hlss
        go_wp2_with fail
        go_roundw
        case rel =>
          refine ⟨a, m, rfl, rfl, HAM.out.1, by have := HAM.out; omega, H1, fun i e' hi he' => ?_, HB2.out⟩
          cases hp' : byV k e' with
          | false => rfl
          | true => exact absurd (HD.out m i e e' hi HE.out he' hp') (by rw [hp]; decide)
        case measure => have := HAM.out; simp [intOf]; omega
      · rw [hp] at hlss
        go_wp2_with fail
        go_roundw
        case rel =>
          refine ⟨m + 1, b, by go_num, rfl, HAM.out.2, hbl, fun i e' hi he' => HD.out i m e' e (by omega) he' HE.out hp, H2, HB2.out⟩
        case measure => have := HAM.out; simp [intOf]; omega
    · have hab' : a = b := by omega
      subst hab'
      have HPOS : Hid (atV l k = a) := (pos_eq HD.out hbl H1.out H2.out).symm
      have hltI : ¬ (a : Int) < (a : Int) := by omega
      by_cases hal : a < l.length
      · obtain ⟨e, he⟩ : ∃ e, l[a]? = some e := ⟨_, List.getElem?_eq_getElem hal⟩
        obtain ⟨q, o, rfl, hq, hcell⟩ := hr.at he
        have hc1 := (HB.out.cell (p := ⟨q, o + a * 2, none⟩) hq).trans (hcell a e he).1
        have hc2 := (HB.out.cell (p := ⟨q, o + a * 2 + 1, none⟩) hq).trans (hcell a e he).2
        have hec := hok e (List.mem_of_getElem? he)
        have heql : (((e.2 : Nat) : Int) == k) = decide (((e.2 : Nat) : Int) = k) := by rw [Bool.eq_iff_iff, beq_iff_eq, decide_eq_true_iff]
        have hmI : (a : Int) < (l.length : Int) := by omega
        have HIS : Hid (isVr l k = decide (((e.2 : Nat) : Int) = k)) := by
          show _ = _
          unfold isVr
          rw [HPOS.out, he]
        clear hcell he hec hok hab hlt H1 H2 hr hk
        go_wp2_with fail
        refine (variable_any (.string (str e.1)) ((e.2 : Nat) : Int) _).mono ?_
        rintro e9 w2 ⟨rfl, hb2⟩
        have HB2 := Lib.hid (HB.out.trans (hb2.mono HB.out.size))
        clear hb2
        generalize decide (((e.2 : Nat) : Int) = k) = r at *
        go_wp2
        go_ret2
        exact ⟨by rw [HPOS.out, HIS.out] <;> rfl, HB2.out⟩
      · have HIS : Hid (isVr l k = false) := by
          show _ = _
          unfold isVr
          rw [HPOS.out, List.getElem?_eq_none (by omega)]
        have hmI : ¬ (a : Int) < (l.length : Int) := by omega
        clear hok hab hlt H1 H2 hr hk
        go_wp2
        go_ret2
        exact ⟨by rw [HPOS.out, HIS.out] <;> rfl, HB.out⟩
end Go.Proofs.YtcjljfjgekiocaaGreatDoor

/- What a statement's arguments are in memory: texts, lists of texts, acts. -/
import Derived.Test.YtcjljfjgekiocaaGreatDoorNamAJ
import Derived.Deep.Slices
import Derived.Deep.Strs
import Derived.Lib.SmallJoins
import Derived.ChangeArms
namespace Go.Proofs.YtcjljfjgekiocaaGreatDoor
open Go.ChangeShapes Go.WideShapes Go.ChangeAt Go.RowKit Go.Deep Go.Joins

set_option linter.unusedVariables false
set_option linter.unusedSimpArgs false

theorem str_len (s : ByteArray) : (codes s).length = s.size := by
  unfold codes
  rw [List.length_map]
  exact Array.length_toList
theorem cStrN : Tryz.prog.cellsOf 9 = 1 := by kernel_rfl
theorem cActN : Tryz.prog.cellsOf 46 = 2 := by kernel_rfl
theorem cU8N : Tryz.prog.cellsOf 5 = 1 := by kernel_rfl
theorem cStrsN : Tryz.prog.cellsOf 24 = 1 := by kernel_rfl
theorem nd_addr {a : Addr} {w : World} {v : Value} (h : w.cell? (a.add 0) = some v) : ∃ b off, a = ⟨b, off, none⟩ ∧ b < w.heap.size := by
  obtain ⟨b, off, spot⟩ := a
  have hspot : spot = none := by simpa [Addr.add] using World.cell?_spot h
  subst hspot
  refine ⟨b, off, rfl, ?_⟩
  rcases Nat.lt_or_ge b w.heap.size with hb | hb
  · exact hb
  · simp [World.cell?, Addr.add, Array.getElem?_eq_none hb] at h
theorem nd_add (b off j : Nat) : ((⟨b, off, none⟩ : Addr).add j) = ⟨b, off + j, none⟩ := by
  unfold Addr.add; split <;> simp_all
theorem list_mk {α : Type} {P : Nat → α → Prop} (n : Nat) (h : ∀ i, i < n → ∃ x, P i x) : ∃ l : List α, l.length = n ∧ ∀ (i : Nat) (x : α), l[i]? = some x → P i x := by
  refine ⟨List.ofFn fun i : Fin n => Classical.choose (h i.1 i.2), by simp, fun i x hx => ?_⟩
  obtain ⟨hi, he⟩ := List.getElem?_eq_some_iff.1 hx
  have hin : i < n := by simpa using hi
  rw [List.getElem_ofFn] at he
  rw [← he]
  exact Classical.choose_spec (h i hin)
theorem list1N {α : Type} {l : List α} (h : l.length = 1) : ∃ a, l = [a] := by
  match l, h with
  | [a], _ => exact ⟨a, rfl⟩
theorem list2N {α : Type} {l : List α} (h : l.length = 2) : ∃ a b, l = [a, b] := by
  match l, h with
  | [a, b], _ => exact ⟨a, b, rfl⟩
section
variable {H : Type} {enc : TypeId × Value → H} {w : World} {sp : Nat → Bool} {held : Bool}
theorem strs_openN {n : Nat} {c : Value} {y : DataW H × List MemPlace} (h : DataW.trod enc Tryz.prog w 0 sp held n 24 [c] = some y) :
    ∃ (ns : List (List Nat)) (A : Option Addr) (m : Nat), c = .slice A ns.length m ∧ ns.length ≤ 9223372036854775807 ∧ RdS w A ns ∧ OkR ns := by
  have hmx : maxLen = 9223372036854775807 := by decide
  rcases open_strs Tryz.underlying24 Tryz.underlying9 cStrN h with ⟨e, _⟩ | ⟨a, len, cap, m, Sx, e, _, hl, hm, hmm, _, hall⟩
  · simp at e
    subst e
    exact ⟨[], none, 0, rfl, Nat.zero_le _, .inl rfl, fun x hx => by cases hx⟩
  · simp at e
    subst e
    have hml : len ≤ m := by rw [hmm]; split <;> omega
    refine ⟨(List.range len).map fun i => codes (Sx i), some a, cap, by simp, by simp; omega, ?_, fun x hx => ?_⟩
    · cases len with
      | zero => exact .inl rfl
      | succ len =>
        obtain ⟨b, off, rfl, hlt⟩ := nd_addr (hall 0 (by omega)).1
        refine .inr ⟨b, off, rfl, hlt, fun j x hj => ?_⟩
        have hjl : j < len + 1 := by
          have := (List.getElem?_eq_some_iff.1 hj).1
          simpa using this
        rw [List.getElem?_map, List.getElem?_range hjl] at hj
        simp at hj
        subst hj
        rw [str_codes, ← nd_add]
        exact (hall j (by omega)).1
    · obtain ⟨i, hi, rfl⟩ := List.mem_map.1 hx
      have hil : i < len := by simpa using hi
      refine ⟨codes_lt _, ?_⟩
      rw [str_len]
      have := (hall i (by omega)).2
      rwa [hmx] at this
theorem acts_openN {n : Nat} {c : Value} {y : DataW H × List MemPlace} (h : DataW.trod enc Tryz.prog w 0 sp held n 43 [c] = some y) :
    ∃ (l : List Act) (A : Option Addr) (m : Nat), c = .slice A l.length m ∧ l.length ≤ 9223372036854775807 ∧ RdA w A l ∧ OkA l ∧ l.length ≤ m ∧ m ≤ 9223372036854775807 := by
  have hmx : maxLen = 9223372036854775807 := by decide
  rcases DataW.trod_slice Tryz.underlying43 h with ⟨e, _⟩ | ⟨a, len, cap, elems, rest, n', rfl, e, _, _, hl, hm, hlen, hel, _, _⟩
  · simp at e
    subst e
    exact ⟨[], none, 0, rfl, Nat.zero_le _, .inl rfl, fun x hx => (by cases hx), Nat.le_refl _, Nat.zero_le _⟩
  · simp at e
    subst e
    rw [cActN] at hel
    have hnode : ∀ i, i < len → ∃ x : Act, (w.cell? ((a.add (i * 2)).add 0) = some (.int .u8 ((x.1 : Nat) : Int)) ∧ ∃ A m, w.cell? ((a.add (i * 2)).add 1) = some (.slice A x.2.length m) ∧ RdS w A x.2) ∧ x.1 < 256 ∧ OkR x.2 ∧ x.2.length ≤ 9223372036854775807 := by
      intro i hi
      have key := hel i hi
      rw [List.getElem?_eq_getElem (by omega)] at key
      obtain ⟨cs', h1, h2⟩ := Option.bind_eq_some_iff.1 key
      obtain ⟨y0, y1, n2, _, hcl, f0, f1⟩ := trod_struct2 Tryz.underlying46 h2
      rw [cActN] at hcl
      obtain ⟨c0, c1, rfl⟩ := list2N hcl
      have hc := (World.cells?_some h1).2.2
      simp only [cU8N, cStrsN, List.drop_zero, List.take_succ_cons, List.take_zero, List.drop_succ_cons] at f0 f1
      obtain ⟨k, e0, _, hk⟩ := DataW.trod_int Tryz.underlying5 f0
      obtain ⟨ns, A, m, e1, hn, hr, ho⟩ := strs_openN f1
      simp at e0
      subst e0 e1
      have hk2 := bounds_u8 hk
      obtain ⟨kn, rfl⟩ : ∃ kn : Nat, k = (kn : Int) := ⟨k.toNat, by omega⟩
      exact ⟨(kn, ns), ⟨hc 0 (by omega), A, m, hc 1 (by omega), hr⟩, by show kn < 256; omega, ho, hn⟩
    obtain ⟨L, hL, hP⟩ := list_mk len hnode
    refine ⟨L, some a, cap, by rw [hL], by omega, ?_, fun x hx => ?_, by omega, by omega⟩
    · cases len with
      | zero => exact .inl (List.length_eq_zero_iff.1 hL)
      | succ len =>
        obtain ⟨x0, ⟨hx0, _⟩, _⟩ := hnode 0 (by omega)
        obtain ⟨b, off, rfl, hlt⟩ : ∃ b off, a = ⟨b, off, none⟩ ∧ b < w.heap.size := by
          have h0 : a.add (0 * 2) = a := by simp [Addr.add]
          rw [h0] at hx0
          exact nd_addr hx0
        refine .inr ⟨b, off, rfl, hlt, fun j x hj => ?_⟩
        obtain ⟨⟨p1, A, m, p2, p3⟩, _⟩ := hP j x hj
        rw [nd_add, nd_add] at p1 p2
        exact ⟨p1, A, m, p2, p3⟩
    · obtain ⟨j, hj⟩ := List.mem_iff_getElem?.1 hx
      exact (hP j x hj).2
theorem strs2_openN {n : Nat} {c : Value} {y : DataW H × List MemPlace} (h : DataW.trod enc Tryz.prog w 0 sp held n 56 [c] = some y) :
    ∃ (L : List (List (List Nat))) (A : Option Addr) (m : Nat), c = .slice A L.length m ∧ L.length ≤ 9223372036854775807 ∧ Rd2 w A L ∧ Ok2 L := by
  have hmx : maxLen = 9223372036854775807 := by decide
  rcases DataW.trod_slice Tryz.underlying56 h with ⟨e, _⟩ | ⟨a, len, cap, elems, rest, n', rfl, e, _, _, hl, hm, hlen, hel, _, _⟩
  · simp at e
    subst e
    exact ⟨[], none, 0, rfl, Nat.zero_le _, .inl rfl, fun x hx => by cases hx⟩
  · simp at e
    subst e
    rw [cStrsN] at hel
    have hnode : ∀ i, i < len → ∃ x : List (List Nat), (∃ A m, w.cell? ((a.add (i * 1)).add 0) = some (.slice A x.length m) ∧ RdS w A x) ∧ OkR x ∧ x.length ≤ 9223372036854775807 := by
      intro i hi
      have key := hel i hi
      rw [List.getElem?_eq_getElem (by omega)] at key
      obtain ⟨cs', h1, h2⟩ := Option.bind_eq_some_iff.1 key
      have hcl : cs'.length = 1 := (World.cells?_some h1).2.1
      obtain ⟨c0, rfl⟩ := list1N hcl
      have hc := (World.cells?_some h1).2.2
      obtain ⟨ns, A, m, e1, hn, hr, ho⟩ := strs_openN h2
      subst e1
      exact ⟨ns, ⟨A, m, hc 0 (by omega), hr⟩, ho, hn⟩
    obtain ⟨L, hL, hP⟩ := list_mk len hnode
    refine ⟨L, some a, cap, by rw [hL], by omega, ?_, fun x hx => ?_⟩
    · cases len with
      | zero => exact .inl (List.length_eq_zero_iff.1 hL)
      | succ len =>
        obtain ⟨x0, ⟨_, _, hx0, _⟩, _⟩ := hnode 0 (by omega)
        obtain ⟨b, off, rfl, hlt⟩ : ∃ b off, a = ⟨b, off, none⟩ ∧ b < w.heap.size := by
          have h0 : a.add (0 * 1) = a := by simp [Addr.add]
          rw [h0] at hx0
          exact nd_addr hx0
        refine .inr ⟨b, off, rfl, hlt, fun j x hj => ?_⟩
        obtain ⟨⟨A, m, p2, p3⟩, _⟩ := hP j x hj
        rw [nd_add, nd_add] at p2
        exact ⟨A, m, by simpa using p2, p3⟩
    · obtain ⟨j, hj⟩ := List.mem_iff_getElem?.1 hx
      exact (hP j x hj).2
end
end Go.Proofs.YtcjljfjgekiocaaGreatDoor

/- Nodes that came in, opened; how large they are: large. -/
import Derived.Test.YtbnlcgnpkodieaaSexBA
import Derived.Deep.Slices
import Derived.Deep.Strs
import Derived.Lib.SmallJoins
import Derived.ChangeArms
namespace Go.Proofs.Ytbnlcgnpkodieaa
open Go.ChangeShapes Go.WideShapes Go.ChangeAt Go.RowKit Go.Deep Go.Joins

set_option linter.unusedVariables false
set_option linter.unusedSimpArgs false

/-- nodes as they came in: texts and lists of whatever length -/
def NdR (w : World) : For → Nat → Nat → Prop
  | .nil, _, _ => True
  | .cons k a t c r, b, o => w.cell? ⟨b, o, none⟩ = some (.int .u8 (k : Int)) ∧ w.cell? ⟨b, o + 1, none⟩ = some (.int .i64 a) ∧ w.cell? ⟨b, o + 2, none⟩ = some (.string (str t)) ∧ k < 256 ∧ Codes t ∧ t.length ≤ 9223372036854775807 ∧
      (∃ A m, w.cell? ⟨b, o + 3, none⟩ = some (.slice A c.len m) ∧ c.len ≤ 9223372036854775807 ∧ (c = .nil ∨ ∃ b' o', A = some ⟨b', o', none⟩ ∧ NdR w c b' o')) ∧ NdR w r b (o + 4)
def KdR (w : World) (c : For) (A : Option Addr) : Prop := c = .nil ∨ ∃ b' o', A = some ⟨b', o', none⟩ ∧ NdR w c b' o'
/-- a node that came in, at a place -/
def One (w : World) (b o : Nat) (k : Nat) (a : Int) (t : List Nat) (c : For) (A : Option Addr) (m : Nat) : Prop :=
  w.cell? ⟨b, o, none⟩ = some (.int .u8 (k : Int)) ∧ w.cell? ⟨b, o + 1, none⟩ = some (.int .i64 a) ∧ w.cell? ⟨b, o + 2, none⟩ = some (.string (str t)) ∧ k < 256 ∧ Codes t ∧ t.length ≤ 9223372036854775807 ∧
  w.cell? ⟨b, o + 3, none⟩ = some (.slice A c.len m) ∧ c.len ≤ 9223372036854775807 ∧ KdR w c A
theorem nodes_mk {w : World} {b o : Nat} : ∀ (len j : Nat), (∀ i, j ≤ i → i < j + len → ∃ k a t c A m, One w b (o + i * 4) k a t c A m) → ∃ F : For, F.len = len ∧ NdR w F b (o + j * 4)
  | 0, j, _ => ⟨.nil, rfl, trivial⟩
  | len + 1, j, h => by
    obtain ⟨k, a, t, c, A, m, h0, h1, h2, h3, h4, h5, h6, h7, h8⟩ := h j (Nat.le_refl _) (by omega)
    obtain ⟨F, hF, hN⟩ := nodes_mk len (j + 1) (fun i h1 h2 => h i (by omega) (by omega))
    refine ⟨.cons k a t c F, by rw [For.len, hF], h0, h1, h2, h3, h4, h5, ⟨A, m, h6, h7, h8⟩, ?_⟩
    rwa [show o + j * 4 + 4 = o + (j + 1) * 4 from by omega]
theorem NdR.nds {w : World} : ∀ {F : For} {b o : Nat}, NdR w F b o → F.cods' → Nds w F b o
  | .nil, _, _, _, _ => trivial
  | .cons k a t c r, b, o, h, hf => by
    obtain ⟨h0, h1, h2, h3, h4, h5, ⟨A, m, h6, h6', h7⟩, h8⟩ := h
    obtain ⟨f1, f2, f3⟩ := hf
    refine ⟨h0, h1, h2, h3, h4, by omega, ⟨A, m, h6, ?_⟩, h8.nds f3⟩
    rcases h7 with h7 | ⟨b', o', h7, h9⟩
    · exact .inl h7
    · exact .inr ⟨b', o', h7, h9.nds f2⟩
theorem KdR.kds {w : World} {F : For} {A : Option Addr} (h : KdR w F A) (hf : F.cods') : Kds w F A := by
  rcases h with h | ⟨b, o, h, h'⟩
  · exact .inl h
  · exact .inr ⟨b, o, h, h'.nds hf⟩
theorem NdR.cods {w : World} : ∀ {F : For} {b o : Nat}, NdR w F b o → F.cods
  | .nil, _, _, _ => trivial
  | .cons k a t c r, b, o, h => by
    obtain ⟨h0, h1, h2, h3, h4, h5, ⟨A, m, h6, h6', h7⟩, h8⟩ := h
    refine ⟨h4, ?_, h8.cods⟩
    rcases h7 with h7 | ⟨b', o', h7, h9⟩
    · rw [h7]; trivial
    · exact h9.cods
theorem KdR.cods {w : World} {F : For} {A : Option Addr} (h : KdR w F A) : F.cods := by
  rcases h with h | ⟨b, o, h, h'⟩
  · rw [h]; trivial
  · exact h'.cods

section
variable {H : Type} {enc : TypeId × Value → H} {w : World} {sp : Nat → Bool} {held : Bool}
theorem nd_cells : Try.prog.cellsOf 28 = 4 := by kernel_rfl
theorem nd1_u8 : Try.prog.cellsOf 5 = 1 := by kernel_rfl
theorem nd1_int : Try.prog.cellsOf 3 = 1 := by kernel_rfl
theorem nd1_str : Try.prog.cellsOf 9 = 1 := by kernel_rfl
theorem nd1_sl : Try.prog.cellsOf 22 = 1 := by kernel_rfl
theorem nd_list4 {α : Type} {l : List α} (h : l.length = 4) : ∃ a b c d, l = [a, b, c, d] := by
  match l, h with
  | [a, b, c, d], _ => exact ⟨a, b, c, d, rfl⟩
theorem nd_addr {a : Addr} {w : World} {v : Value} (h : w.cell? (a.add 0) = some v) : ∃ b off, a = ⟨b, off, none⟩ := by
  obtain ⟨b, off, spot⟩ := a
  have hspot : spot = none := by simpa [Addr.add] using World.cell?_spot h
  subst hspot
  exact ⟨b, off, rfl⟩
theorem nd_add (b off j : Nat) : ((⟨b, off, none⟩ : Addr).add j) = ⟨b, off + j, none⟩ := by
  unfold Addr.add; split <;> simp_all
def OpenAt (n : Nat) : Prop := ∀ {c : Value} {y : DataW H × List MemPlace}, DataW.trod enc Try.prog w 0 sp held n 22 [c] = some y → ∃ (F : For) (A : Option Addr) (m : Nat), c = .slice A F.len m ∧ F.len ≤ 9223372036854775807 ∧ KdR w F A
theorem nodes_open : ∀ n : Nat, OpenAt (enc := enc) (w := w) (sp := sp) (held := held) n := by
  intro n
  induction n using Nat.strongRecOn with
  | _ n ih =>
  intro c y h
  have hmx : maxLen = 9223372036854775807 := by decide
  rcases DataW.trod_slice Try.underlying22 h with ⟨e, _⟩ | ⟨a, len, cap, elems, rest, n', rfl, e, _, _, hl, hm, hlen, hel, _, _⟩
  · simp at e
    subst e
    exact ⟨.nil, none, 0, rfl, Nat.zero_le _, .inl rfl⟩
  · simp at e
    subst e
    rw [nd_cells] at hel
    have hnode : ∀ i, i < len → ∃ k x t c' A m, w.cell? ((a.add (i * 4)).add 0) = some (.int .u8 ((k : Nat) : Int)) ∧ w.cell? ((a.add (i * 4)).add 1) = some (.int .i64 x) ∧ w.cell? ((a.add (i * 4)).add 2) = some (.string (str t)) ∧ k < 256 ∧ Codes t ∧ t.length ≤ 9223372036854775807 ∧
        w.cell? ((a.add (i * 4)).add 3) = some (.slice A (For.len c') m) ∧ c'.len ≤ 9223372036854775807 ∧ KdR w c' A := by
      intro i hi
      have key := hel i hi
      rw [List.getElem?_eq_getElem (by omega)] at key
      obtain ⟨cs', h1, h2⟩ := Option.bind_eq_some_iff.1 key
      obtain ⟨xs, n2, rfl, _, hcl, hxs, hf⟩ := DataW.trod_struct Try.underlying28 h2
      rw [nd_cells] at hcl
      obtain ⟨c0, c1, c2, c3, rfl⟩ := nd_list4 hcl
      have hc := (World.cells?_some h1).2.2
      obtain ⟨y0, y1, y2, y3, rfl⟩ := nd_list4 hxs
      have f0 : DataW.trod enc Try.prog w 0 sp held n2 5 (([c0, c1, c2, c3].drop 0).take (Try.prog.cellsOf 5)) = some y0 := hf 0 _ rfl
      have f1 : DataW.trod enc Try.prog w 0 sp held n2 3 (([c0, c1, c2, c3].drop 1).take (Try.prog.cellsOf 3)) = some y1 := hf 1 _ rfl
      have f2 : DataW.trod enc Try.prog w 0 sp held n2 9 (([c0, c1, c2, c3].drop 2).take (Try.prog.cellsOf 9)) = some y2 := hf 2 _ rfl
      have f3 : DataW.trod enc Try.prog w 0 sp held n2 22 (([c0, c1, c2, c3].drop 3).take (Try.prog.cellsOf 22)) = some y3 := hf 3 _ rfl
      rw [nd1_u8] at f0
      rw [nd1_int] at f1
      rw [nd1_str] at f2
      rw [nd1_sl] at f3
      simp only [List.drop_zero, List.take_succ_cons, List.take_zero, List.drop_succ_cons] at f0 f1 f2 f3
      obtain ⟨k, e0, _, hk⟩ := DataW.trod_int Try.underlying5 f0
      obtain ⟨x, e1, _⟩ := DataW.trod_int Try.underlying3 f1
      obtain ⟨s, e2, _, hs⟩ := DataW.trod_string Try.underlying9 f2
      obtain ⟨F, A, m, e3, hF, hK⟩ := ih n2 (by omega) f3
      obtain ⟨t, ht, htl, rfl⟩ := bytes_str s
      simp at e0 e1 e2
      subst e0 e1 e2 e3
      have hk2 := bounds_u8 hk
      obtain ⟨kn, rfl⟩ : ∃ kn : Nat, k = (kn : Int) := ⟨k.toNat, by omega⟩
      exact ⟨kn, x, t, F, A, m, hc 0 (by omega), hc 1 (by omega), hc 2 (by omega), by omega, ht, by omega, hc 3 (by omega), hF, hK⟩
    cases len with
    | zero => exact ⟨.nil, some a, cap, rfl, Nat.zero_le _, .inl rfl⟩
    | succ len =>
      obtain ⟨k0, x0, t0, c0, A0, m0, h0, _⟩ := hnode 0 (by omega)
      obtain ⟨b, off, rfl⟩ := nd_addr (a := a) (by simpa [Addr.add] using h0)
      obtain ⟨F, hF, hN⟩ := nodes_mk (w := w) (b := b) (o := off) (len + 1) 0 (fun i _ hi => by
        obtain ⟨k, x, t, c, A, m, g0, g1, g2, g3, g4, g5, g6, g7, g8⟩ := hnode i (by omega)
        rw [nd_add] at g0 g1 g2 g6
        rw [nd_add] at g0 g1 g2 g6
        exact ⟨k, x, t, c, A, m, g0, g1, g2, g3, g4, g5, g6, g7, g8⟩)
      exact ⟨F, some ⟨b, off, none⟩, cap, by rw [hF], by rw [hF]; omega, .inr ⟨b, off, rfl, by simpa using hN⟩⟩
end
end Go.Proofs.Ytbnlcgnpkodieaa

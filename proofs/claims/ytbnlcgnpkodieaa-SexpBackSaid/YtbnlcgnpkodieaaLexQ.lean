/- Contracts: copies, Join. -/
import Derived.Laws.Concat
import Derived.Test.YtbnlcgnpkodieaaBuild
import Derived.Test.YtbnlcgnpkodieaaLexN
namespace Go.Proofs.Ytbnlcgnpkodieaa
open Go.RowKit Go.Shelf

set_option linter.unusedVariables false
set_option linter.unusedSimpArgs false

def rep (k : Nat) (L : List Nat) : List Nat := (List.replicate k L).flatten
theorem rep_zero (L : List Nat) : rep 0 L = [] := rfl
theorem rep_succ (k : Nat) (L : List Nat) : rep (k + 1) L = rep k L ++ L := by
  unfold rep
  rw [List.replicate_succ', List.flatten_append, List.flatten_singleton]
theorem rep_len : ∀ (k : Nat) (L : List Nat), (rep k L).length = k * L.length
  | 0, L => by rw [rep_zero]; simp
  | k + 1, L => by rw [rep_succ, List.length_append, rep_len k L, Nat.succ_mul]
theorem rep_codes {k : Nat} {L : List Nat} (h : Codes L) : Codes (rep k L) := fun c hc => by
  unfold rep at hc
  rw [List.mem_flatten] at hc
  obtain ⟨l, hl, hcl⟩ := hc
  rw [List.eq_of_mem_replicate hl] at hcl
  exact h c hcl
theorem str_append2 (A B : List Nat) : str A ++ str B = str (A ++ B) := by
  apply ByteArray.ext
  apply Array.ext'
  simp [str]
theorem add_str2 (A B : List Nat) (h : A.length + B.length ≤ 9223372036854775807) (w : World) : (Op.stringOp .add (str A) (str B)).run Try.prog w = .ok (.string (str (A ++ B))) w := by
  rw [run_string_add_sum (P := Try.prog) w (str A) (str B) (by rw [str_size, str_size]; exact h), str_append2]
/-- what the words are, joined -/
def jn (T : Nat → List Nat) : Nat → List Nat
  | 0 => []
  | k + 1 => (jn T k ++ if 0 < k then [32] else []) ++ T k
theorem jn_len {T : Nat → List Nat} {M : Nat} : ∀ {k : Nat}, (∀ i, i < k → (T i).length ≤ M) → (jn T k).length ≤ k * (M + 1)
  | 0, _ => by simp [jn]
  | k + 1, h => by
    have ih := jn_len (T := T) (k := k) (fun i hi => h i (by omega))
    have hk := h k (by omega)
    rw [jn, List.length_append, List.length_append, Nat.succ_mul]
    split <;> simp <;> omega
def Items (w : World) (v : Value) (n : Nat) (K : Nat → Nat) (T : Nat → List Nat) : Prop := ∃ A cp, v = .slice A n cp ∧ (0 < n → ∃ g, A = some ⟨g, 0, none⟩ ∧ g < w.heap.size ∧ ∀ i, i < n → ∃ a t : Int, w.cell? ⟨g, i * 4, none⟩ = some (.int .u8 ((K i : Nat) : Int)) ∧ w.cell? ⟨g, i * 4 + 1, none⟩ = some (.int .i64 a) ∧ w.cell? ⟨g, i * 4 + 2, none⟩ = some (.int .i64 t) ∧ w.cell? ⟨g, i * 4 + 3, none⟩ = some (.string (str (T i))))
def bcs (L : List Nat) : List Value := Lib.byteCells (L.map UInt8.ofNat)

theorem bcs_append (A B : List Nat) : bcs (A ++ B) = bcs A ++ bcs B := by unfold bcs Lib.byteCells; rw [List.map_append, List.map_append]
theorem bcs_len (A : List Nat) : (bcs A).length = A.length := by unfold bcs Lib.byteCells; simp
theorem isB_keep {B b : Nat} {bs : List Value} {w w' : World} (h : Lib.IsBuilderF 40 5 B b bs w) (hb : Below w.heap.size w w') : Lib.IsBuilderF 40 5 B b bs w' := by
  have one : ∀ p, Lib.BuilderAtF 40 5 B b p bs w → Lib.BuilderAtF 40 5 B b p bs w' := by
    rintro p ⟨hB, v, hv, ho, hne⟩
    exact ⟨hB, v, (hb.block b (Array.getElem?_eq_some_iff.1 hv).1).trans hv, ho.kept (row := none) ⟨hb.os, hb.tape, hb.output, hb.size, fun k hk _ => hb.block k hk⟩ (by cases hv : v.ownBlock <;> simp), hne⟩
  exact h.elim (fun x => .inl (one _ x)) (fun x => .inr (one _ x))

theorem isB_lt {B b : Nat} {bs : List Value} {w : World} (h : Lib.IsBuilderF 40 5 B b bs w) : b < w.heap.size := by
  rcases h with ⟨_, v, hv, _⟩ | ⟨_, v, hv, _⟩ <;> exact (Array.getElem?_eq_some_iff.1 hv).1

end Go.Proofs.Ytbnlcgnpkodieaa

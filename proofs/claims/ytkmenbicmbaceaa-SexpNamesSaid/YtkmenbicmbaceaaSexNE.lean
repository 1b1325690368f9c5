/- SexpNames: the nine nodes that may not be. -/
import Derived.Test.YtkmenbicmbaceaaSexNC
namespace Go.Proofs.Ytkmenbicmbaceaa
open Go.RowKit

set_option linter.unusedVariables false
set_option linter.unusedSimpArgs false

def kidsA : For := .cons 0 0 [] .nil .nil
def kidsB : For := .cons 5 0 [] .nil .nil
def nnC (h : Nat) : Array Value := #[.int .u8 1, .int .i64 0, .string ⟨#[40]⟩, .slice none 0 0, .int .u8 2, .int .i64 0, .string ⟨#[41]⟩, .slice none 0 0, .int .u8 0, .int .i64 0, .string ⟨#[120]⟩, .slice none 0 0, .int .u8 5, .int .i64 0, .string ⟨#[]⟩, .slice none 0 0, .int .u8 5, .int .i64 0, .string ⟨#[49]⟩, .slice none 0 0, .int .u8 3, .int .i64 0, .string ⟨#[120]⟩, .slice none 0 0, .int .u8 5, .int .i64 0, .string ⟨#[120]⟩, .slice (some ⟨h, 0, none⟩) 1 1, .int .u8 77, .int .i64 0, .string ⟨#[120]⟩, .slice none 0 0, .int .u8 0, .int .i64 0, .string ⟨#[]⟩, .slice (some ⟨h + 1, 0, none⟩) 1 1]
theorem nn_at (h : Nat) : ∀ j, j < 9 → ∃ (k : Nat) (t : List Nat) (c : For) (A : Option Addr) (m : Nat), k < 256 ∧ Codes t ∧ t.length < 9223372036854775807 ∧ c.siz < 2 ∧
    (nnC h)[j * 4]? = some (.int .u8 (k : Int)) ∧ (nnC h)[j * 4 + 1]? = some (.int .i64 0) ∧ (nnC h)[j * 4 + 2]? = some (.string (str t)) ∧ (nnC h)[j * 4 + 3]? = some (.slice A c.len m) ∧
    For.nmay k t c = false ∧ For.nshow k t c = [] ∧ For.nsam k t c k t c = true ∧ (∀ w, Kds w kidsA (some ⟨h, 0, none⟩) → Kds w kidsB (some ⟨h + 1, 0, none⟩) → Kds w c A)
  | 0, _ => ⟨1, [40], .nil, none, 0, by decide, codes_lit (by decide), by decide, by decide, rfl, rfl, rfl, rfl, by kernel_rfl, by kernel_rfl, by kernel_rfl, (fun _ _ _ => .inl rfl)⟩
  | 1, _ => ⟨2, [41], .nil, none, 0, by decide, codes_lit (by decide), by decide, by decide, rfl, rfl, rfl, rfl, by kernel_rfl, by kernel_rfl, by kernel_rfl, (fun _ _ _ => .inl rfl)⟩
  | 2, _ => ⟨0, [120], .nil, none, 0, by decide, codes_lit (by decide), by decide, by decide, rfl, rfl, rfl, rfl, by kernel_rfl, by kernel_rfl, by kernel_rfl, (fun _ _ _ => .inl rfl)⟩
  | 3, _ => ⟨5, [], .nil, none, 0, by decide, codes_lit (by decide), by decide, by decide, rfl, rfl, rfl, rfl, by kernel_rfl, by kernel_rfl, by kernel_rfl, (fun _ _ _ => .inl rfl)⟩
  | 4, _ => ⟨5, [49], .nil, none, 0, by decide, codes_lit (by decide), by decide, by decide, rfl, rfl, rfl, rfl, by kernel_rfl, by kernel_rfl, by kernel_rfl, (fun _ _ _ => .inl rfl)⟩
  | 5, _ => ⟨3, [120], .nil, none, 0, by decide, codes_lit (by decide), by decide, by decide, rfl, rfl, rfl, rfl, by kernel_rfl, by kernel_rfl, by kernel_rfl, (fun _ _ _ => .inl rfl)⟩
  | 6, _ => ⟨5, [120], kidsA, (some ⟨h, 0, none⟩), 1, by decide, codes_lit (by decide), by decide, by decide, rfl, rfl, rfl, rfl, by kernel_rfl, by kernel_rfl, by kernel_rfl, (fun _ h1 _ => h1)⟩
  | 7, _ => ⟨77, [120], .nil, none, 0, by decide, codes_lit (by decide), by decide, by decide, rfl, rfl, rfl, rfl, by kernel_rfl, by kernel_rfl, by kernel_rfl, (fun _ _ _ => .inl rfl)⟩
  | 8, _ => ⟨0, [], kidsB, (some ⟨h + 1, 0, none⟩), 1, by decide, codes_lit (by decide), by decide, by decide, rfl, rfl, rfl, rfl, by kernel_rfl, by kernel_rfl, by kernel_rfl, (fun _ _ h2 => h2)⟩
  | j + 9, h => absurd h (by omega)

end Go.Proofs.Ytkmenbicmbaceaa

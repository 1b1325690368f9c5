/- SexpNames: the fourteen texts. -/
import Derived.Test.YtkmenbicmbaceaaSexNB
namespace Go.Proofs.Ytkmenbicmbaceaa
open Go.RowKit

set_option linter.unusedVariables false
set_option linter.unusedSimpArgs false

theorem sn0 : (rdd 0 []).at' = 0 ∧ (rdd 0 []).e = 0 := ⟨by kernel_rfl, by kernel_rfl⟩
theorem sn1 : (rdd 0 [32, 59, 32, 40]).at' = 0 ∧ (rdd 0 [32, 59, 32, 40]).e = 0 := ⟨by kernel_rfl, by kernel_rfl⟩
theorem sn2 : (rdd 0 [120, 32, 49]).at' = 0 ∧ (rdd 0 [120, 32, 49]).e = 0 := ⟨by kernel_rfl, by kernel_rfl⟩
theorem sn3 : (rdd 1 [40, 41]).at' = 0 ∧ (rdd 1 [40, 41]).e = 0 := ⟨by kernel_rfl, by kernel_rfl⟩
theorem sn4 : (rdd 0 [40, 41]).F = .nil ∧ (rdd 0 [40, 41]).at' = 0 ∧ (rdd 0 [40, 41]).e = 46 := ⟨by kernel_rfl, by kernel_rfl, by kernel_rfl⟩
theorem sn5 : (rdd 0 [41]).F = .nil ∧ (rdd 0 [41]).at' = 0 ∧ (rdd 0 [41]).e = 4 := ⟨by kernel_rfl, by kernel_rfl, by kernel_rfl⟩
theorem sn6 : (rdd 1 [40]).F = .nil ∧ (rdd 1 [40]).at' = 1 ∧ (rdd 1 [40]).e = 4 := ⟨by kernel_rfl, by kernel_rfl, by kernel_rfl⟩
theorem sn7 : (rdd 1 [40, 32]).F = .nil ∧ (rdd 1 [40, 32]).at' = 2 ∧ (rdd 1 [40, 32]).e = 4 := ⟨by kernel_rfl, by kernel_rfl, by kernel_rfl⟩
theorem sn8 : (rdd 0 [41, 32, 48, 49]).F = .nil ∧ (rdd 0 [41, 32, 48, 49]).at' = 2 ∧ (rdd 0 [41, 32, 48, 49]).e = 4 := ⟨by kernel_rfl, by kernel_rfl, by kernel_rfl⟩
theorem sn9 : (rdd 3 [40, 40, 41, 32, 40, 40, 41, 41, 32, 41, 32, 41]).F = .nil ∧ (rdd 3 [40, 40, 41, 32, 40, 40, 41, 41, 32, 41, 32, 41]).at' = 11 ∧ (rdd 3 [40, 40, 41, 32, 40, 40, 41, 41, 32, 41, 32, 41]).e = 4 := ⟨by kernel_rfl, by kernel_rfl, by kernel_rfl⟩
theorem sn10 : (rdd 3 [40, 40, 41, 32, 40, 40, 41, 41, 32, 41]).at' = 0 ∧ (rdd 3 [40, 40, 41, 32, 40, 40, 41, 41, 32, 41]).e = 0 := ⟨by kernel_rfl, by kernel_rfl⟩
theorem sn11 : (rdd 2 [40, 40, 41, 32, 40, 40, 41, 41, 32, 41]).F = .nil ∧ (rdd 2 [40, 40, 41, 32, 40, 40, 41, 41, 32, 41]).at' = 5 ∧ (rdd 2 [40, 40, 41, 32, 40, 40, 41, 41, 32, 41]).e = 46 := ⟨by kernel_rfl, by kernel_rfl, by kernel_rfl⟩
theorem sn12 : (rdd 1 [40, 41, 32, 40, 41]).at' = 0 ∧ (rdd 1 [40, 41, 32, 40, 41]).e = 0 := ⟨by kernel_rfl, by kernel_rfl⟩
theorem sn13 : (rdd 1 [40, 40, 41, 41, 32, 41]).F = .nil ∧ (rdd 1 [40, 40, 41, 41, 32, 41]).at' = 1 ∧ (rdd 1 [40, 40, 41, 41, 32, 41]).e = 46 := ⟨by kernel_rfl, by kernel_rfl, by kernel_rfl⟩
def snC : Array Value := #[.string ⟨#[]⟩, .int .i64 0, .int .i64 0, .int .i64 0, .string ⟨#[32, 59, 32, 40]⟩, .int .i64 0, .int .i64 0, .int .i64 0, .string ⟨#[120, 32, 49]⟩, .int .i64 0, .int .i64 0, .int .i64 0, .string ⟨#[40, 41]⟩, .int .i64 1, .int .i64 0, .int .i64 0, .string ⟨#[40, 41]⟩, .int .i64 0, .int .i64 0, .int .i64 46, .string ⟨#[41]⟩, .int .i64 0, .int .i64 0, .int .i64 4, .string ⟨#[40]⟩, .int .i64 1, .int .i64 1, .int .i64 4, .string ⟨#[40, 32]⟩, .int .i64 1, .int .i64 2, .int .i64 4, .string ⟨#[41, 32, 48, 49]⟩, .int .i64 0, .int .i64 2, .int .i64 4, .string ⟨#[40, 40, 41, 32, 40, 40, 41, 41, 32, 41, 32, 41]⟩, .int .i64 3, .int .i64 11, .int .i64 4, .string ⟨#[40, 40, 41, 32, 40, 40, 41, 41, 32, 41]⟩, .int .i64 3, .int .i64 0, .int .i64 0, .string ⟨#[40, 40, 41, 32, 40, 40, 41, 41, 32, 41]⟩, .int .i64 2, .int .i64 5, .int .i64 46, .string ⟨#[40, 41, 32, 40, 41]⟩, .int .i64 1, .int .i64 0, .int .i64 0, .string ⟨#[40, 40, 41, 41, 32, 41]⟩, .int .i64 1, .int .i64 1, .int .i64 46]
theorem sn_at : ∀ j, j < 14 → ∃ (L : List Nat) (d a e : Int), L.length < 9223372036854775807 ∧ Codes L ∧ 0 ≤ d ∧ d ≤ 65536 ∧
    snC[j * 4]? = some (.string (str L)) ∧ snC[j * 4 + 1]? = some (.int .i64 d) ∧ snC[j * 4 + 2]? = some (.int .i64 a) ∧ snC[j * 4 + 3]? = some (.int .i64 e) ∧ (rdd d L).at' = a ∧ (rdd d L).e = e ∧ (e = 0 ∨ (rdd d L).F = .nil)
  | 0, _ => ⟨[], 0, 0, 0, by decide, codes_lit (by decide), by decide, by decide, by kernel_rfl, by kernel_rfl, by kernel_rfl, by kernel_rfl, sn0.1, sn0.2, (.inl rfl)⟩
  | 1, _ => ⟨[32, 59, 32, 40], 0, 0, 0, by decide, codes_lit (by decide), by decide, by decide, by kernel_rfl, by kernel_rfl, by kernel_rfl, by kernel_rfl, sn1.1, sn1.2, (.inl rfl)⟩
  | 2, _ => ⟨[120, 32, 49], 0, 0, 0, by decide, codes_lit (by decide), by decide, by decide, by kernel_rfl, by kernel_rfl, by kernel_rfl, by kernel_rfl, sn2.1, sn2.2, (.inl rfl)⟩
  | 3, _ => ⟨[40, 41], 1, 0, 0, by decide, codes_lit (by decide), by decide, by decide, by kernel_rfl, by kernel_rfl, by kernel_rfl, by kernel_rfl, sn3.1, sn3.2, (.inl rfl)⟩
  | 4, _ => ⟨[40, 41], 0, 0, 46, by decide, codes_lit (by decide), by decide, by decide, by kernel_rfl, by kernel_rfl, by kernel_rfl, by kernel_rfl, sn4.2.1, sn4.2.2, (.inr sn4.1)⟩
  | 5, _ => ⟨[41], 0, 0, 4, by decide, codes_lit (by decide), by decide, by decide, by kernel_rfl, by kernel_rfl, by kernel_rfl, by kernel_rfl, sn5.2.1, sn5.2.2, (.inr sn5.1)⟩
  | 6, _ => ⟨[40], 1, 1, 4, by decide, codes_lit (by decide), by decide, by decide, by kernel_rfl, by kernel_rfl, by kernel_rfl, by kernel_rfl, sn6.2.1, sn6.2.2, (.inr sn6.1)⟩
  | 7, _ => ⟨[40, 32], 1, 2, 4, by decide, codes_lit (by decide), by decide, by decide, by kernel_rfl, by kernel_rfl, by kernel_rfl, by kernel_rfl, sn7.2.1, sn7.2.2, (.inr sn7.1)⟩
  | 8, _ => ⟨[41, 32, 48, 49], 0, 2, 4, by decide, codes_lit (by decide), by decide, by decide, by kernel_rfl, by kernel_rfl, by kernel_rfl, by kernel_rfl, sn8.2.1, sn8.2.2, (.inr sn8.1)⟩
  | 9, _ => ⟨[40, 40, 41, 32, 40, 40, 41, 41, 32, 41, 32, 41], 3, 11, 4, by decide, codes_lit (by decide), by decide, by decide, by kernel_rfl, by kernel_rfl, by kernel_rfl, by kernel_rfl, sn9.2.1, sn9.2.2, (.inr sn9.1)⟩
  | 10, _ => ⟨[40, 40, 41, 32, 40, 40, 41, 41, 32, 41], 3, 0, 0, by decide, codes_lit (by decide), by decide, by decide, by kernel_rfl, by kernel_rfl, by kernel_rfl, by kernel_rfl, sn10.1, sn10.2, (.inl rfl)⟩
  | 11, _ => ⟨[40, 40, 41, 32, 40, 40, 41, 41, 32, 41], 2, 5, 46, by decide, codes_lit (by decide), by decide, by decide, by kernel_rfl, by kernel_rfl, by kernel_rfl, by kernel_rfl, sn11.2.1, sn11.2.2, (.inr sn11.1)⟩
  | 12, _ => ⟨[40, 41, 32, 40, 41], 1, 0, 0, by decide, codes_lit (by decide), by decide, by decide, by kernel_rfl, by kernel_rfl, by kernel_rfl, by kernel_rfl, sn12.1, sn12.2, (.inl rfl)⟩
  | 13, _ => ⟨[40, 40, 41, 41, 32, 41], 1, 1, 46, by decide, codes_lit (by decide), by decide, by decide, by kernel_rfl, by kernel_rfl, by kernel_rfl, by kernel_rfl, sn13.2.1, sn13.2.2, (.inr sn13.1)⟩
  | j + 14, h => absurd h (by omega)

end Go.Proofs.Ytkmenbicmbaceaa

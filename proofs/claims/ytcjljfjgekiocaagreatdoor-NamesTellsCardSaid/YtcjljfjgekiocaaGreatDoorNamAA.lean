/- Contract: numbered; Fresh of what is no name. -/
import Derived.Test.YtcjljfjgekiocaaGreatDoorNamZ
import Derived.Test.YtcjljfjgekiocaaGreatDoorNamNil
namespace Go.Proofs.YtcjljfjgekiocaaGreatDoor
open Go.RowKit Go.Shelf

set_option linter.unusedVariables false
set_option linter.unusedSimpArgs false

theorem numbered_yes (s p : ByteArray) (R : List Nat) (k : Int) (w : World) (hp : Lib.hasPrefix s.data.toList p.data.toList = true) (ht : (⟨(Lib.trimPrefix s.data.toList p.data.toList).toArray⟩ : ByteArray) = str R) (hc : Codes R) (hk : kd R = 3) (hl : R.length ≤ 18) (ha : Lib.atoi (str R).data.toList = some k) :
    Calls Tryz.prog 49 #[.string s, .string p] w fun e w' => e = .returned (.tuple #[.int .i64 k, .bool true]) ∧ Below w.heap.size w w' := by
  have C1 := Go.Proofs.Tryz.strings_CutPrefix s p w
  rw [hp, ht] at C1
  have HC1 := Lib.hid C1
  have C2 := kind_any R w hc (by omega)
  rw [hk] at C2
  have HC2 := Lib.hid C2
  have HC3 := Lib.hid (fun w1 => Go.Proofs.Tryz.strconv_Atoi (str R) k (by rw [str_size]; exact hl) ha w1)
  clear C1 C2 ha hp ht
  go_enter Tryz.func49, Tryz.ntmps49
  go_wp2_with fail
  refine HC1.out.mono ?_
  rintro e w1 ⟨rfl, rfl⟩
  go_wp2_with fail
  refine HC2.out.mono ?_
  rintro e w2 ⟨rfl, hb2⟩
  go_wp2_with fail
  refine (HC3.out w2).mono ?_
  rintro e w3 ⟨rfl, t, rfl⟩
  have HB := Lib.hid hb2
  clear hb2
  go_wp2_with fail
  go_ret2
  exact ⟨rfl, HB.out.trans ((bytes_below w2 _ t).mono HB.out.size)⟩
theorem fresh_no (L : List Nat) (v : Value) (w : World) (hc : Codes L) (hl : L.length < 9223372036854775807) (hn : isN L = false) : Calls Tryz.prog 20 #[.string (str L), v] w fun e w' => e = .returned (.string ⟨#[]⟩) ∧ Below w.heap.size w w' := by
  have C := name_any L w hc hl
  rw [hn] at C
  have HC := Lib.hid C
  clear C
  go_enter Tryz.func20, Tryz.ntmps20
  go_wp2_with fail
  refine HC.out.mono ?_
  rintro e w1 ⟨rfl, hb⟩
  go_wp2_with fail
  go_ret
  exact ⟨rfl, hb⟩
end Go.Proofs.YtcjljfjgekiocaaGreatDoor

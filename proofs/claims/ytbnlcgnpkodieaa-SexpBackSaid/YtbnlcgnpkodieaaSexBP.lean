/- How large nodes are that came in: large. -/
import Derived.BigQuiet
import Derived.Deep.QuietTactic
import Derived.Test.YtbnlcgnpkodieaaSexBO
namespace Go.Proofs.Ytbnlcgnpkodieaa
open Go.RowKit

set_option linter.unusedVariables false
set_option linter.unusedSimpArgs false

theorem NdR.drewN {w : World} (q : Nat) : ∀ {F : For} {b o : Nat}, NdR w F b o → NdR (w.drewN q) F b o
  | .nil, _, _, _ => trivial
  | .cons k a t c r, b, o, h => by
    obtain ⟨h0, h1, h2, h3, h4, h5, ⟨A, m, h6, h6', h7⟩, h8⟩ := h
    refine ⟨h0, h1, h2, h3, h4, h5, ⟨A, m, h6, h6', ?_⟩, h8.drewN q⟩
    rcases h7 with h7 | ⟨b', o', h7, h9⟩
    · exact .inl h7
    · exact .inr ⟨b', o', h7, h9.drewN q⟩
theorem KdR.drewN {w : World} (q : Nat) {F : For} {A : Option Addr} (h : KdR w F A) : KdR (w.drewN q) F A := by
  rcases h with h | ⟨b, o, h, h'⟩
  · exact .inl h
  · exact .inr ⟨b, o, h, h'.drewN q⟩
def LargeAt (n : Nat) : Prop := ∀ (F : For) (A : Option Addr) (m : Nat) (w : World), F.siz < n → F.len ≤ 9223372036854775807 → KdR w F A →
  Calls Try.prog 4 #[.slice A F.len m] w fun e w' => e = .returned (.int .i64 ((F.lg : Nat) : Int)) ∧ ∃ q, w' = w.drewN q
set_option maxRecDepth 100000 in
set_option maxHeartbeats 4000000 in
theorem LargeAt.step {n : Nat} (ih : LargeAt n) : LargeAt (n + 1) := by
  intro F A m w hn hl hK
  have HL := Lib.hid (show F.lg = min 3000 (F.lgl 0) from rfl)
  generalize F.lg = lg at *
  go_enter Try.func4, Try.ntmps4
  go_wp2_with fail
  go_loopw [3, 4] (fun s i wr => ∃ (j nn : Nat) (R : For), s = .int .i64 (nn : Int) ∧ i = .int .i64 (j : Int) ∧ j + R.len = F.len ∧ F.lgl 0 = R.lgl nn ∧ j ≤ nn ∧ nn ≤ 9000 ∧ R.siz ≤ F.siz ∧ (R = .nil ∨ ∃ b o, A = some ⟨b, o, none⟩ ∧ NdR wr R b (o + j * 4)) ∧ ∃ q, wr = w.drewN q) (fun _ i _ => F.len - (intOf i).toNat)
  case atStart =>
    refine ⟨0, 0, F, rfl, rfl, Nat.zero_add _, rfl, Nat.le_refl _, by omega, Nat.le_refl _, ?_, 0, rfl⟩
    rcases hK with h | ⟨b, o, h, h'⟩
    · exact .inl h
    · exact .inr ⟨b, o, h, by simpa using h'⟩
  case round =>
    obtain ⟨j, nn, R, rfl, rfl, hj, hlg, hjn, hn9, hs, hR, q, hw⟩ := hrel
    have HW := Lib.hid hw
    cases R with
    | nil =>
      have hj' : j = F.len := hj
      have HV : Hid (lg = min 3000 nn) := by show _ = _; rw [HL.out, hlg]; rfl
      subst hj'
      clear hj hlg hs hR hw
      go_wp2
      go_ret
      exact ⟨reti (by rw [HV.out]; omega), q, HW.out⟩
    | cons k a t c R =>
      rcases hR with hR | ⟨b, o, rfl, h0, h1, h2, h3, h4, h5, ⟨A', m', h6, h6', h7⟩, h8⟩
      · cases hR
      have hlen : j < F.len := by simp only [For.len] at hj; omega
      by_cases h3000 : nn < 3000
      rotate_left
      · have HV : Hid (lg = min 3000 nn) := by show _ = _; rw [HL.out, hlg, For.lgl, if_neg h3000]
        have e1 : ¬ (nn : Int) < 3000 := by omega
        clear hj hlg hs hw h0 h1 h2 h4 h6 h7 h8
        go_wp2
        go_ret
        exact ⟨reti (by rw [HV.out]; omega), q, HW.out⟩
      · have e1 : (nn : Int) < 3000 := by omega
        have hcs : c.siz < n := by simp only [For.siz] at hs; omega
        have HJ := Lib.hid (show j + 1 + R.len = F.len by simp only [For.len] at hj; omega)
        have HS := Lib.hid (show R.siz ≤ F.siz by simp only [For.siz] at hs; omega)
        have HG := Lib.hid (show F.lgl 0 = R.lgl (nn + 1 + min 3000 (t.length / 20) + c.lg) by rw [hlg, For.lgl, if_pos h3000]; rfl)
        have H8 := Lib.hid h8
        have C := Lib.hid (fun x => ih c A' m' (wr.drewN x) hcs h6' (KdR.drewN x h7))
        have hts := str_size t
        have hcl : c.lg ≤ 3000 := by unfold For.lg; omega
        obtain ⟨q20, hq20⟩ : ∃ q20, q20 = t.length / 20 := ⟨_, rfl⟩
        have HQ := Lib.hid hq20
        have w1 : IntKind.i64.wrap (t.length : Int) = (t.length : Int) := wrap_small _ (by omega) (by omega)
        have w2 : (t.length : Int).tdiv 20 = (q20 : Int) := by rw [Int.tdiv_eq_ediv_of_nonneg (by omega)]; omega
        have hq : q20 ≤ 461168601842738790 := by omega
        rw [← hq20] at HG
        have w3 : IntKind.i64.wrap (q20 : Int) = (q20 : Int) := wrap_small _ (by omega) (by omega)
        clear hq20 HQ hj hlg hs h4 h7 h8 hcs hw
        generalize t.length = tl at *
        generalize c.lg = cl at *
        go_wp2_with fail
        go_quiet ((go_at_call 4; exact Calls.quiet_of (C.out _)))
        go_wp2_with fail
        refine ⟨⟨j + 1, nn + 1 + min 3000 q20 + cl, R, by congr 1; omega, by go_num, HJ.out, HG.out, by omega, by omega, HS.out, ?_, q + nq, ?_⟩, by simp [intOf]; omega⟩
        · exact .inr ⟨b, o, rfl, by have := NdR.drewN nq H8.out; rwa [show o + j * 4 + 4 = o + (j + 1) * 4 from by omega] at this⟩
        · rw [HW.out, World.drewN_drewN]
theorem large_any : ∀ n : Nat, LargeAt n
  | 0 => fun _ _ _ _ h => absurd h (Nat.not_lt_zero _)
  | n + 1 => (large_any n).step
end Go.Proofs.Ytbnlcgnpkodieaa

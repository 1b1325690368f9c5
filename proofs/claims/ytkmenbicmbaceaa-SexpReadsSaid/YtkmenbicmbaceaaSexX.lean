/- Writing over what was told. -/
import Derived.Test.YtkmenbicmbaceaaSexU
namespace Go.Proofs.Ytkmenbicmbaceaa
open Go.RowKit

set_option linter.unusedVariables false
set_option linter.unusedSimpArgs false

def SpoilAt (n : Nat) : Prop := ∀ (F : For) (A : Option Addr) (m : Nat) (w : World) (B : Nat) (ks : List Nat), F.siz < n → F.siz < 70000 → KidsC w B (.slice A F.len m) F ks → ks.Nodup →
  Calls Try.prog 24 #[.slice A F.len m] w fun e w' => e = .returned (.tuple #[]) ∧ But (fun q => q ∈ ks) w w'
/-- the nodes from the j-th on, in their block -/
def Rest (w : World) (B : Nat) (A : Option Addr) (j : Nat) (R : For) (ks : List Nat) : Prop :=
  ∃ zs k2, RowC w B R zs k2 ∧ k2.Nodup ∧ (∀ q ∈ k2, q ∈ ks) ∧ (R = .nil ∨ ∃ b, A = some ⟨b, 0, none⟩ ∧ b ∈ ks ∧ b ∉ k2 ∧ ∃ cur, w.heap[b]? = some (.cells cur 33 (0, 0)) ∧ ∀ t u, zs[t]? = some u → cur[j * 4 + t]? = some u)
theorem rest_start {w : World} {B m : Nat} {A : Option Addr} {F : For} {ks : List Nat} (h : KidsC w B (.slice A F.len m) F ks) (hn : ks.Nodup) : Rest w B A 0 F ks := by
  obtain ⟨ys, k0, h1, h2, rfl⟩ := h
  rw [List.nodup_append] at hn
  refine ⟨ys, k0, h2, hn.2.1, fun q hq => by simp [hq], ?_⟩
  rcases h1.2 with ⟨e, e2⟩ | ⟨g, cap, cur, e, hg, hh, r1, r2, r3⟩
  · cases F with
    | nil => exact .inl rfl
    | cons k a t c r => injection e with e e3; simp [For.len] at e3
  · injection e with e
    subst e
    refine .inr ⟨g, rfl, by simp [blk1, Value.ownBlock], fun hg2 => ?_, cur, hh, fun t u hu => ?_⟩
    · exact hn.2.2 g (by simp [blk1, Value.ownBlock]) g hg2 rfl
    · have := h1.cells (g := g) rfl t u hu
      rw [Addr.add_lit, Nat.zero_add, cell_of hh] at this
      rw [Nat.zero_mul, Nat.zero_add]
      exact this

theorem rest_step {w : World} {B j k : Nat} {a : Int} {t : List Nat} {A : Option Addr} {c R : For} {ks : List Nat} (h : Rest w B A j (.cons k a t c R) ks) :
    ∃ b cur k1 A' m', A = some ⟨b, 0, none⟩ ∧ b ∈ ks ∧ w.heap[b]? = some (.cells cur 33 (0, 0)) ∧ cur[j * 4]? = some (.int .u8 (k : Int)) ∧ cur[j * 4 + 3]? = some (.slice A' c.len m') ∧ KidsC w B (.slice A' c.len m') c k1 ∧ k1.Nodup ∧ (∀ q ∈ k1, q ∈ ks) ∧
      ∀ w2, But (fun q => q ∈ k1) w w2 → w2.heap[b]? = w.heap[b]? ∧ Rest (w2.setCell ⟨b, j * 4, none⟩ (.int .u8 77)) B A (j + 1) R ks := by
  obtain ⟨zs, kk, hR, hn, hin, h | ⟨b, rfl, hb, hbn, cur, hh, hc⟩⟩ := h
  · cases h
  obtain ⟨v, k1, zs, k2, rfl, rfl, h3, hK, hR2⟩ := rowC_cons hR
  rw [List.nodup_append] at hn
  have hb1 : b ∉ k1 := fun h => hbn (by simp [h])
  have hb2 : b ∉ k2 := fun h => hbn (by simp [h])
  obtain ⟨A', m', rfl, -⟩ := hK.kds
  refine ⟨b, cur, k1, A', m', rfl, hb, hh, ?_, hc 3 _ rfl, hK, hn.1, fun q hq => hin q (by simp [hq]), fun w2 hbut => ?_⟩
  · have := hc 0 _ rfl
    rwa [Nat.add_zero] at this
  · have hbb : w2.heap[b]? = w.heap[b]? := hbut.block b (kind_lt hh) hb1
    refine ⟨hbb, zs, k2, ?_, hn.2.1, fun q hq => hin q (by simp [hq]), .inr ⟨b, rfl, hb, hb2, _, Joins.block_setCell (hbb.trans hh) _, fun t u hu => ?_⟩⟩
    · refine hR2.keep fun q hq => ?_
      obtain ⟨_, cc, hcc⟩ := hR2.kind q hq
      rw [Below.heap_setCell _ _ _ _ (show q ≠ b from fun e => hb2 (by rw [← e]; exact hq))]
      exact hbut.block q (kind_lt hcc) (fun h => hn.2.2 q h q hq rfl)
    · have h9 := hc (t + 4) u (by rw [← hu]; rfl)
      rw [Array.getElem?_setIfInBounds_ne (by omega)]
      rw [← h9]
      congr 1
      omega
set_option maxRecDepth 100000 in
set_option maxHeartbeats 8000000 in
theorem SpoilAt.step {n : Nat} (ih : SpoilAt n) : SpoilAt (n + 1) := by
  intro F A m w B ks hn hz hK hnd
  have hls := For.len_siz F
  have HS := Lib.hid (rest_start hK hnd)
  clear hK hnd
  go_enter Try.func24, Try.ntmps24
  go_wp2_with fail
  go_loopw [2] (fun i wr => ∃ (j : Nat) (R : For), i = .int .i64 (j : Int) ∧ j + R.len = F.len ∧ R.siz ≤ F.siz ∧ Rest wr B A j R ks ∧ But (fun q => q ∈ ks) w wr) (fun i _ => F.len - (intOf i).toNat)
  case atStart => exact ⟨0, F, rfl, Nat.zero_add _, Nat.le_refl _, HS.out, But.of_below (Below.refl _ _)⟩
  case round =>
    obtain ⟨j, R, rfl, hj, hs, hR, hB⟩ := hrel
    cases R with
    | nil =>
      have hj' : j = F.len := hj
      subst hj'
      have HB := Lib.hid hB
      clear hj hs hR hB
      go_wp2_with fail
      go_end0
      exact ⟨rfl, HB.out⟩
    | cons k a t c R =>
      obtain ⟨b, cur, k1, A', m', rfl, hb, hh, hc0, hc3, hKk, hk1, hkin, hstep⟩ := rest_step hR
      have hlen : j < F.len := by simp only [For.len] at hj; omega
      have hltI : (j : Int) < (F.len : Int) := by omega
      have hj0 : (0 : Int) ≤ (j : Int) := by omega
      have HJ := Lib.hid (show j + 1 + R.len = F.len by simp only [For.len] at hj; omega)
      have HSZ := Lib.hid (show R.siz ≤ F.siz by simp only [For.siz] at hs; omega)
      have cr := ih c A' m' wr B k1 (by simp only [For.siz] at hs; omega) (by simp only [For.siz] at hs; omega) hKk hk1
      have g3 : wr.cell? ⟨b, j * 4 + 3, none⟩ = some (.slice A' c.len m') := by rw [cell_of hh]; exact hc3
      have HST := Lib.hid hstep
      have HH := Lib.hid hh
      have HC0 := Lib.hid hc0
      have HIN := Lib.hid hkin
      have HBI := Lib.hid hb
      have HB := Lib.hid hB
      clear hj hs hR hB hh hc0 hc3 hKk hk1 hkin hstep hb
      go_wp2_with fail
      refine cr.mono ?_
      rintro e w2 ⟨rfl, hb2⟩
      obtain ⟨s1, s2⟩ := HST.out w2 hb2
      have hh2 := s1.trans HH.out
      have z0 : w2.cell? ⟨b, j * 4, none⟩ = some (.int .u8 (k : Int)) := by rw [cell_of hh2]; exact HC0.out
      have zf := frozen_of hh2 (j * 4)
      have HR2 := Lib.hid s2
      have HB2 := Lib.hid hb2
      clear s1 s2 hh2 hb2 cr g3
      go_wp2_with fail
      go_roundw
      case measure => simp only [intOf]; have := HJ.out; omega
      case rel =>
        refine ⟨j + 1, R, by congr 1, HJ.out, HSZ.out, HR2.out, ?_⟩
        have h1 : But (fun q => q ∈ ks) w w2 := But.trans HB.out HB2.out (fun _ h => h) (fun q _ h => HIN.out q h)
        exact But.trans h1 (But.of_just (Just.set w2 b _ _)) (fun _ h => h) (fun q _ (e : q = b) => by rw [e]; exact HBI.out)

theorem spoil_any : ∀ n, SpoilAt n
  | 0 => fun _ _ _ _ _ _ h => absurd h (Nat.not_lt_zero _)
  | n + 1 => (spoil_any n).step

end Go.Proofs.Ytkmenbicmbaceaa

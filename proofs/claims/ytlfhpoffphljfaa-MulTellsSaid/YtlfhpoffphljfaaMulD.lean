/- Contract: squareByLimbs. -/
import Derived.Outline
import Derived.Deep.RegionWith
import Derived.Deep.DeepCutAuto
import Derived.Test.YtlfhpoffphljfaaMulC
namespace Go.Proofs.Ytlfhpoffphljfaa
open Go.RowKit Go.Shelf

theorem Rd.rest {w : World} {B b off : Nat} {xs : List Nat} (h : Rd w B (some ⟨b, off, none⟩) xs) (i : Nat) (A : Option Addr) (hA : i < xs.length → A = some ⟨b, off + i, none⟩) : Rd w B A (xs.drop i) := by
  rcases Nat.lt_or_ge i xs.length with hi | hi
  · rw [hA hi]
    have := h.part (off' := off + i) i (xs.length - i) hi rfl
    rwa [List.take_of_length_le (by simp)] at this
  · rw [List.drop_eq_nil_of_le hi]; exact Rd.nil _ _ _

theorem wr64 {n : Int} (h0 : 0 ≤ n) (h1 : n < 9223372036854775808) : IntKind.i64.wrap n = n := by rw [IntKind.wrap_i64]; omega

set_option maxRecDepth 100000 in
set_option maxHeartbeats 4000000 in
theorem squareByLimbs_any (A : Option Addr) (cap : Nat) (xs : List Nat) (w : World) (hr : Rd w w.heap.size A xs) (hx : xs.length ≤ 1048576) (hc : xs.length ≤ cap) (hle : cap ≤ maxLen) :
    Calls Try.prog 60 #[.slice A xs.length cap] w (NewNat w (val xs * val xs)) := by
  unfold maxLen at hle
  obtain ⟨i0, hi, hz0, hz1, hz2⟩ := info_parts info32
  go_enter Try.func60, Try.ntmps60
  go_wp2_with (at_make; refine wpList_make_full _ rfl _ _ 26 rfl w.heap.size 28 i0 (.int .u32 0) 1 Try.underlying26 hi hz0 hz1 .i64 .i64 _ _ (2 * xs.length) rfl rfl (by omega) (by omega) (by rw [hz2]; omega) (by unfold maxLen; omega) (Nat.le_refl _) ?_; intro w1 hown0 hgrow0)
  have hB0 : Below w.heap.size w w1 := (Below.refl _ w).grown hgrow0 (Nat.le_refl _) (fun _ h => by cases h)
  have hO0 := own_made hown0
  clear hown0 hgrow0
  go_loopw [18] (fun i wr => ∃ (k : Nat) (X : List Nat), k ≤ xs.length ∧ i = .int .i64 (k : Int) ∧ SqI xs k X ∧ Own wr w.heap.size (.slice (some ⟨w.heap.size, 0, none⟩) X.length (2 * xs.length)) X ∧ Below w.heap.size w wr) (fun i _ => xs.length - (intOf i).toNat)
  case atStart => exact ⟨0, _, Nat.zero_le _, rfl, SqI.start xs, hO0, hB0⟩
  case round =>
    clear hB0 hO0
    obtain ⟨k, X, hk, rfl, hI, hX, hB⟩ := hrel
    by_cases hlt : k < xs.length
    · obtain ⟨b, o, rfl, hb, hcell⟩ := hr.2 (by omega)
      have hyc := (hB.cell (p := ⟨b, o + k, none⟩) hb).trans (hcell k hlt)
      have hyl := hr.limbs.getD k
      generalize hm : xs[k]?.getD 0 = m at *
      have HM := Lib.hid hm
      have HI := Lib.hid hI
      have HX := Lib.hid hX
      have HB := Lib.hid hB
      have HR := Lib.hid hr
      clear hm hI hX hB hcell hr
      have s1 : IntKind.i64.wrap ((k : Int) + (xs.length : Int)) = (k : Int) + (xs.length : Int) := wr64 (by omega) (by omega)
      have s2 : IntKind.i64.wrap (2 * (k : Int)) = 2 * (k : Int) := wr64 (by omega) (by omega)
      have s3 : IntKind.i64.wrap (2 * (k : Int) + 1) = 2 * (k : Int) + 1 := wr64 (by omega) (by omega)
      have s4 : IntKind.i64.wrap ((k : Int) + 1) = (k : Int) + 1 := wr64 (by omega) (by omega)
      have t1 : ((k : Int) + (xs.length : Int)).toNat = k + xs.length := by omega
      have t2 : (2 * (k : Int) + 1).toNat = 2 * k + 1 := by omega
      have t3 : ((k : Int) + 1).toNat = k + 1 := by omega
      have b1 : (0 : Int) ≤ (k : Int) + (xs.length : Int) := by omega
      have b2 : (k : Int) + (xs.length : Int) ≤ 2 * (xs.length : Int) := by omega
      have b3 : (0 : Int) ≤ 2 * (k : Int) + 1 := by omega
      have b4 : 2 * (k : Int) + 1 ≤ (k : Int) + (xs.length : Int) := by omega
      have b5 : ¬ (2 * xs.length = 2 * k + 1) := by omega
      have b6 : (0 : Int) ≤ (k : Int) + 1 := by omega
      have b7 : (k : Int) + 1 ≤ (xs.length : Int) := by omega
      have hst := Lib.hid fun c X' (hA : ATI X (2 * k + 1) (xs.drop (k + 1)) m (xs.drop (k + 1)).length c X') => HI.out.step hlt HM.out.symm (by simp; omega) hA
      have hrB := HR.out.below HB.out (Nat.le_refl _)
      have hll : (xs.drop (k + 1)).length = xs.length - (k + 1) := by simp
      rcases Nat.lt_or_ge (k + 1) cap with hcap | hcap
      · have b9 : ¬ (cap = k + 1) := by omega
        have c := addTimes_len w.heap.size (2 * k + 1) (2 * xs.length - (2 * k + 1)) (2 * xs.length) (k + xs.length - (2 * k + 1)) (xs.length - (k + 1)) (some ⟨b, o + (k + 1), none⟩) (cap - (k + 1)) (xs.drop (k + 1)) X m wr.drew w.heap.size (by rw [hll]; omega) (by rw [hll]) HX.out HI.out.2.1 (by rw [hll, HI.out.1]; omega) (hrB.rest (k + 1) _ (fun _ => rfl)) (by rw [hll]; omega) hyl
        clear hrB hll
        go_upto_region 5 with fail
        go_region_with ((with_reducible refine c.mono ?_); rintro e wn ⟨cc, X', rfl, hA, hX', hB'⟩; have hxc := hX'.cellAt (j := k + xs.length) (by rw [hA.1.1, HI.out.1]; omega); have hxf := World.ownsRow.frozenAt hX' (k + xs.length))
        have hput := Lib.hid (hX'.put (j := k + xs.length) (v := cc))
        have hbe := Lib.hid (((HB.out.drew).trans hB').setCell (p := ⟨w.heap.size, k + xs.length, none⟩) (Nat.le_refl _) (lv cc))
        have hst2 := Lib.hid (hst.out cc X' hA)
        clear hA hX' hB' s1 s2 s3 t1 t2 t3 b1 b2 b3 b4 b5 b6 b7 hxc hxf c
        go_wp2
        go_roundw
        case rel => exact ⟨k + 1, _, by omega, by go_num, hst2.out, hput.out, hbe.out⟩
        case measure => simp [intOf]; omega
      · obtain rfl : cap = k + 1 := by omega
        have c := addTimes_len w.heap.size (2 * k + 1) (2 * xs.length - (2 * k + 1)) (2 * xs.length) (k + xs.length - (2 * k + 1)) 0 (some ⟨b, o, none⟩) 0 (xs.drop (k + 1)) X m wr.drew w.heap.size (by rw [hll]; omega) (by rw [hll]; omega) HX.out HI.out.2.1 (by rw [hll, HI.out.1]; omega) (hrB.rest (k + 1) _ (fun h => by omega)) (by rw [hll]; omega) hyl
        clear hrB hll
        go_upto_region 5 with fail
        go_region_with ((with_reducible refine c.mono ?_); rintro e wn ⟨cc, X', rfl, hA, hX', hB'⟩; have hxc := hX'.cellAt (j := k + xs.length) (by rw [hA.1.1, HI.out.1]; omega); have hxf := World.ownsRow.frozenAt hX' (k + xs.length))
        have hput := Lib.hid (hX'.put (j := k + xs.length) (v := cc))
        have hbe := Lib.hid (((HB.out.drew).trans hB').setCell (p := ⟨w.heap.size, k + xs.length, none⟩) (Nat.le_refl _) (lv cc))
        have hst2 := Lib.hid (hst.out cc X' hA)
        clear hA hX' hB' s1 s2 s3 t1 t2 t3 b1 b2 b3 b4 b5 b6 b7 hxc hxf c
        go_wp2
        go_roundw
        case rel => exact ⟨k + 1, _, by omega, by go_num, hst2.out, hput.out, hbe.out⟩
        case measure => simp [intOf]; omega
    · obtain rfl : k = xs.length := by omega
      have hZ := Lib.hid hI
      have hlx := Lib.hid hr.limbs
      have HO := Lib.hid hX
      have hB1 := Lib.hid hB
      clear hI hX hB
      go_wp2_with fail
      go_loopw [6, 47] (fun cv i wr2 => ∃ (k c : Nat) (Y : List Nat), k ≤ xs.length ∧ i = .int .i64 (k : Int) ∧ cv = .int .u64 (c : Int) ∧ DbI xs X k c Y ∧ Own wr2 w.heap.size (.slice (some ⟨w.heap.size, 0, none⟩) Y.length (2 * xs.length)) Y ∧ Below w.heap.size w wr2) (fun _ i _ => xs.length - (intOf i).toNat)
      case atStart => exact ⟨0, 0, X, Nat.zero_le _, rfl, rfl, DbI.start hZ.out.2.1, HO.out, hB1.out⟩
      case round =>
        clear HO hB1
        obtain ⟨k, c, Y, hk2, rfl, rfl, hI, hY, hB⟩ := hrel
        by_cases hlt2 : k < xs.length
        · obtain ⟨b, o, rfl, hb, hcell⟩ := hr.2 (by omega)
          have hyc := (hB.cell (p := ⟨b, o + k, none⟩) hb).trans (hcell k hlt2)
          have hyl := hr.limbs.getD k
          have hlY : Hid (Y.length = 2 * xs.length) := by show _ = _; rw [hI.1.1, hZ.out.1]
          have hc1 := hY.cellAt (j := 2 * k) (by have := hlY.out; omega)
          have hc2 := hY.cellAt (j := 2 * k + 1) (by have := hlY.out; omega)
          have hf1 := World.ownsRow.frozenAt hY (2 * k)
          have hf2 := World.ownsRow.frozenAt hY (2 * k + 1)
          have l1 := hI.1.2.1.getD (2 * k)
          have l2 := hI.1.2.1.getD (2 * k + 1)
          have hcc := hI.2.1
          have hst := Lib.hid fun o l h => DbI.step (o := o) (l := l) (h := h) hI (by rw [hZ.out.1]; omega)
          generalize hy : xs[k]?.getD 0 = y at *
          generalize hx1 : Y[2 * k]?.getD 0 = x1 at *
          generalize hx2 : Y[2 * k + 1]?.getD 0 = x2 at *
          have hpb := (at_bound hyl hyl (show 0 < 4294967296 by decide) (show 0 < 4294967296 by decide)).1
          obtain ⟨p, hp⟩ : ∃ p : Nat, p = y * y := ⟨_, rfl⟩
          rw [← hp] at hpb
          have hpi : (y : Int) * (y : Int) = (p : Int) := by rw [hp]; simp
          have hput := Lib.hid fun v1 v2 => (hY.put (j := 2 * k) (v := v1)).put (j := 2 * k + 1) (v := v2)
          have hbe := Lib.hid fun v1 v2 => (hB.setCell (p := ⟨w.heap.size, 2 * k, none⟩) (Nat.le_refl _) v1).setCell (p := ⟨w.heap.size, 2 * k + 1, none⟩) (Nat.le_refl _) v2
          have HP := Lib.hid hp
          have hl0 : Hid (Limbs xs) := hlx
          obtain ⟨l, hl⟩ : ∃ l : Nat, l = x1 * 2 + p % 4294967296 + c := ⟨_, rfl⟩
          obtain ⟨h, hh⟩ : ∃ h : Nat, h = x2 * 2 + p / 4294967296 + l / 4294967296 := ⟨_, rfl⟩
          have e1 := Lib.hid (show ((x1 : Int) * 2 + (p : Int) % 4294967296 + (c : Int)) % 4294967296 = ((l % 4294967296 : Nat) : Int) from by omega)
          have e2 := Lib.hid (show ((x2 : Int) * 2 + (p : Int) / 4294967296 + ((x1 : Int) * 2 + (p : Int) % 4294967296 + (c : Int)) / 4294967296) % 4294967296 = ((h % 4294967296 : Nat) : Int) from by omega)
          have e3 := Lib.hid (show ((x2 : Int) * 2 + (p : Int) / 4294967296 + ((x1 : Int) * 2 + (p : Int) % 4294967296 + (c : Int)) / 4294967296) / 4294967296 = ((h / 4294967296 : Nat) : Int) from by omega)
          have hst2 := Lib.hid (hst.out p l h hp hl hh hpb)
          clear hy hx1 hx2 hp hcell hr hI hY hB hst hl hh
          go_wp2_with fail
          go_roundw
          case rel =>
            refine ⟨k + 1, h / 4294967296, (Y.set (2 * k) (l % 4294967296)).set (2 * k + 1) (h % 4294967296), by omega, by go_num, by rw [e3.out], hst2.out, ?_, hbe.out _ _⟩
            have := hput.out (l % 4294967296) (h % 4294967296)
            unfold lv at this
            rw [← e1.out, ← e2.out] at this
            exact this
          case measure => simp [intOf]; omega
        · obtain rfl : k = xs.length := by omega
          have hLY : Limbs Y := hI.1.2.1
          have hYl : Y.length = 2 * xs.length := by rw [hI.1.1, hZ.out.1]
          obtain ⟨A2, cap2, e2, h1, h2, hrd⟩ := hY.rd hLY
          injection e2 with ea eb ec
          subst ea ec
          have c1 := trim_any _ _ Y wr _ hrd h1 h2
          have hfin := hY.trimmed hLY
          rw [hI.done hZ.out hlx.out] at c1 hfin
          rw [hYl] at c1
          have HF := Lib.hid hfin
          have HB := Lib.hid hB
          clear hI hY hB hr hrd h1 h2 hfin hYl hLY
          go_wp2_with fail
          refine c1.mono ?_
          rintro e wn ⟨rfl, rfl⟩
          clear c1
          go_wp2
          go_ret
          exact ⟨⟨_, rfl, HF.out⟩, HB.out⟩

end Go.Proofs.Ytlfhpoffphljfaa

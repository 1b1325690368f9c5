/- Several texts in one. -/
import Derived.Outline
import Derived.Deep.RegionWith
import Derived.Deep.DeepCutAuto
import Derived.Test.YtileljokijmpaaaDoorPackM
import Derived.Laws.CopyOwn
import Derived.Deep.MidRow
import Derived.Laws.EntriesVeiled
import Derived.OneCell
import Derived.Lib.RabinKarpLaws
import Derived.Lib.AppendZeros
import Derived.Deep.QuietTactic
import Derived.BigQuiet
import Derived.StillTailTactics

/- Contract: squareByLimbs. -/
namespace Go.Proofs.YtileljokijmpaaaDoor
open Go.RowKit Go.Shelf

theorem Rd.rest {w : World} {B b off : Nat} {xs : List Nat} (h : Rd w B (some ⟨b, off, none⟩) xs) (i : Nat) (A : Option Addr) (hA : i < xs.length → A = some ⟨b, off + i, none⟩) : Rd w B A (xs.drop i) := by
  rcases Nat.lt_or_ge i xs.length with hi | hi
  · rw [hA hi]
    have := h.part (off' := off + i) i (xs.length - i) hi rfl
    rwa [List.take_of_length_le (by simp)] at this
  · rw [List.drop_eq_nil_of_le hi]; exact Rd.nil _ _ _

theorem wr64 {n : Int} (h0 : 0 ≤ n) (h1 : n < 9223372036854775808) : IntKind.i64.wrap n = n := by rw [IntKind.wrap_i64]; omega

set_option maxRecDepth 100000 in
set_option maxHeartbeats 4000000 in
theorem squareByLimbs_any (A : Option Addr) (cap : Nat) (xs : List Nat) (w : World) (hr : Rd w w.heap.size A xs) (hx : xs.length ≤ 1048576) (hc : xs.length ≤ cap) (hle : cap ≤ maxLen) :
    Calls Tryd.prog 77 #[.slice A xs.length cap] w (NewNat w (val xs * val xs)) := by
  unfold maxLen at hle
  obtain ⟨i0, hi, hz0, hz1, hz2⟩ := info_parts info32
  go_enter Tryd.func77, Tryd.ntmps77
  go_wp2_with (at_make; refine wpList_make_full _ rfl _ _ 24 rfl w.heap.size 40 i0 (.int .u32 0) 1 Tryd.underlying24 hi hz0 hz1 .i64 .i64 _ _ (2 * xs.length) rfl rfl (by omega) (by omega) (by rw [hz2]; omega) (by unfold maxLen; omega) (Nat.le_refl _) ?_; intro w1 hown0 hgrow0)
  have hB0 : Below w.heap.size w w1 := (Below.refl _ w).grown hgrow0 (Nat.le_refl _) (fun _ h => by cases h)
  have hO0 := own_made hown0
  clear hown0 hgrow0
  go_loopw [18] (fun i wr => ∃ (k : Nat) (X : List Nat), k ≤ xs.length ∧ i = .int .i64 (k : Int) ∧ SqI xs k X ∧ Own wr w.heap.size (.slice (some ⟨w.heap.size, 0, none⟩) X.length (2 * xs.length)) X ∧ Below w.heap.size w wr) (fun i _ => xs.length - (intOf i).toNat)
  case atStart => exact ⟨0, _, Nat.zero_le _, rfl, SqI.start xs, hO0, hB0⟩
  case round =>
    clear hB0 hO0
    obtain ⟨k, X, hk, rfl, hI, hX, hB⟩ := hrel
    by_cases hlt : k < xs.length
    · obtain ⟨b, o, rfl, hb, hcell⟩ := hr.2 (by omega)
      have hyc := (hB.cell (p := ⟨b, o + k, none⟩) hb).trans (hcell k hlt)
      have hyl := hr.limbs.getD k
      generalize hm : xs[k]?.getD 0 = m at *
      have HM := Lib.hid hm
      have HI := Lib.hid hI
      have HX := Lib.hid hX
      have HB := Lib.hid hB
      have HR := Lib.hid hr
      clear hm hI hX hB hcell hr
      have s1 : IntKind.i64.wrap ((k : Int) + (xs.length : Int)) = (k : Int) + (xs.length : Int) := wr64 (by omega) (by omega)
      have s2 : IntKind.i64.wrap (2 * (k : Int)) = 2 * (k : Int) := wr64 (by omega) (by omega)
      have s3 : IntKind.i64.wrap (2 * (k : Int) + 1) = 2 * (k : Int) + 1 := wr64 (by omega) (by omega)
      have s4 : IntKind.i64.wrap ((k : Int) + 1) = (k : Int) + 1 := wr64 (by omega) (by omega)
      have t1 : ((k : Int) + (xs.length : Int)).toNat = k + xs.length := by omega
      have t2 : (2 * (k : Int) + 1).toNat = 2 * k + 1 := by omega
      have t3 : ((k : Int) + 1).toNat = k + 1 := by omega
      have b1 : (0 : Int) ≤ (k : Int) + (xs.length : Int) := by omega
      have b2 : (k : Int) + (xs.length : Int) ≤ 2 * (xs.length : Int) := by omega
      have b3 : (0 : Int) ≤ 2 * (k : Int) + 1 := by omega
      have b4 : 2 * (k : Int) + 1 ≤ (k : Int) + (xs.length : Int) := by omega
      have b5 : ¬ (2 * xs.length = 2 * k + 1) := by omega
      have b6 : (0 : Int) ≤ (k : Int) + 1 := by omega
      have b7 : (k : Int) + 1 ≤ (xs.length : Int) := by omega
      have hst := Lib.hid fun c X' (hA : ATI X (2 * k + 1) (xs.drop (k + 1)) m (xs.drop (k + 1)).length c X') => HI.out.step hlt HM.out.symm (by simp; omega) hA
      have hrB := HR.out.below HB.out (Nat.le_refl _)
      have hll : (xs.drop (k + 1)).length = xs.length - (k + 1) := by simp
      rcases Nat.lt_or_ge (k + 1) cap with hcap | hcap
      · have b9 : ¬ (cap = k + 1) := by omega
        have c := addTimes_len w.heap.size (2 * k + 1) (2 * xs.length - (2 * k + 1)) (2 * xs.length) (k + xs.length - (2 * k + 1)) (xs.length - (k + 1)) (some ⟨b, o + (k + 1), none⟩) (cap - (k + 1)) (xs.drop (k + 1)) X m wr.drew w.heap.size (by rw [hll]; omega) (by rw [hll]) HX.out HI.out.2.1 (by rw [hll, HI.out.1]; omega) (hrB.rest (k + 1) _ (fun _ => rfl)) (by rw [hll]; omega) hyl
        clear hrB hll
        go_upto_region 5 with fail
        go_region_with ((with_reducible refine c.mono ?_); rintro e wn ⟨cc, X', rfl, hA, hX', hB'⟩; have hxc := hX'.cellAt (j := k + xs.length) (by rw [hA.1.1, HI.out.1]; omega); have hxf := World.ownsRow.frozenAt hX' (k + xs.length))
        have hput := Lib.hid (hX'.put (j := k + xs.length) (v := cc))
        have hbe := Lib.hid (((HB.out.drew).trans hB').setCell (p := ⟨w.heap.size, k + xs.length, none⟩) (Nat.le_refl _) (lv cc))
        have hst2 := Lib.hid (hst.out cc X' hA)
        clear hA hX' hB' s1 s2 s3 t1 t2 t3 b1 b2 b3 b4 b5 b6 b7 hxc hxf c
        go_wp2
        go_roundw
        case rel => exact ⟨k + 1, _, by omega, by go_num, hst2.out, hput.out, hbe.out⟩
        case measure => simp [intOf]; omega
      · obtain rfl : cap = k + 1 := by omega
        have c := addTimes_len w.heap.size (2 * k + 1) (2 * xs.length - (2 * k + 1)) (2 * xs.length) (k + xs.length - (2 * k + 1)) 0 (some ⟨b, o, none⟩) 0 (xs.drop (k + 1)) X m wr.drew w.heap.size (by rw [hll]; omega) (by rw [hll]; omega) HX.out HI.out.2.1 (by rw [hll, HI.out.1]; omega) (hrB.rest (k + 1) _ (fun h => by omega)) (by rw [hll]; omega) hyl
        clear hrB hll
        go_upto_region 5 with fail
        go_region_with ((with_reducible refine c.mono ?_); rintro e wn ⟨cc, X', rfl, hA, hX', hB'⟩; have hxc := hX'.cellAt (j := k + xs.length) (by rw [hA.1.1, HI.out.1]; omega); have hxf := World.ownsRow.frozenAt hX' (k + xs.length))
        have hput := Lib.hid (hX'.put (j := k + xs.length) (v := cc))
        have hbe := Lib.hid (((HB.out.drew).trans hB').setCell (p := ⟨w.heap.size, k + xs.length, none⟩) (Nat.le_refl _) (lv cc))
        have hst2 := Lib.hid (hst.out cc X' hA)
        clear hA hX' hB' s1 s2 s3 t1 t2 t3 b1 b2 b3 b4 b5 b6 b7 hxc hxf c
        go_wp2
        go_roundw
        case rel => exact ⟨k + 1, _, by omega, by go_num, hst2.out, hput.out, hbe.out⟩
        case measure => simp [intOf]; omega
    · obtain rfl : k = xs.length := by omega
      have hZ := Lib.hid hI
      have hlx := Lib.hid hr.limbs
      have HO := Lib.hid hX
      have hB1 := Lib.hid hB
      clear hI hX hB
      go_wp2_with fail
      go_loopw [6, 47] (fun cv i wr2 => ∃ (k c : Nat) (Y : List Nat), k ≤ xs.length ∧ i = .int .i64 (k : Int) ∧ cv = .int .u64 (c : Int) ∧ DbI xs X k c Y ∧ Own wr2 w.heap.size (.slice (some ⟨w.heap.size, 0, none⟩) Y.length (2 * xs.length)) Y ∧ Below w.heap.size w wr2) (fun _ i _ => xs.length - (intOf i).toNat)
      case atStart => exact ⟨0, 0, X, Nat.zero_le _, rfl, rfl, DbI.start hZ.out.2.1, HO.out, hB1.out⟩
      case round =>
        clear HO hB1
        obtain ⟨k, c, Y, hk2, rfl, rfl, hI, hY, hB⟩ := hrel
        by_cases hlt2 : k < xs.length
        · obtain ⟨b, o, rfl, hb, hcell⟩ := hr.2 (by omega)
          have hyc := (hB.cell (p := ⟨b, o + k, none⟩) hb).trans (hcell k hlt2)
          have hyl := hr.limbs.getD k
          have hlY : Hid (Y.length = 2 * xs.length) := by show _ = _; rw [hI.1.1, hZ.out.1]
          have hc1 := hY.cellAt (j := 2 * k) (by have := hlY.out; omega)
          have hc2 := hY.cellAt (j := 2 * k + 1) (by have := hlY.out; omega)
          have hf1 := World.ownsRow.frozenAt hY (2 * k)
          have hf2 := World.ownsRow.frozenAt hY (2 * k + 1)
          have l1 := hI.1.2.1.getD (2 * k)
          have l2 := hI.1.2.1.getD (2 * k + 1)
          have hcc := hI.2.1
          have hst := Lib.hid fun o l h => DbI.step (o := o) (l := l) (h := h) hI (by rw [hZ.out.1]; omega)
          generalize hy : xs[k]?.getD 0 = y at *
          generalize hx1 : Y[2 * k]?.getD 0 = x1 at *
          generalize hx2 : Y[2 * k + 1]?.getD 0 = x2 at *
          have hpb := (at_bound hyl hyl (show 0 < 4294967296 by decide) (show 0 < 4294967296 by decide)).1
          obtain ⟨p, hp⟩ : ∃ p : Nat, p = y * y := ⟨_, rfl⟩
          rw [← hp] at hpb
          have hpi : (y : Int) * (y : Int) = (p : Int) := by rw [hp]; simp
          have hput := Lib.hid fun v1 v2 => (hY.put (j := 2 * k) (v := v1)).put (j := 2 * k + 1) (v := v2)
          have hbe := Lib.hid fun v1 v2 => (hB.setCell (p := ⟨w.heap.size, 2 * k, none⟩) (Nat.le_refl _) v1).setCell (p := ⟨w.heap.size, 2 * k + 1, none⟩) (Nat.le_refl _) v2
          have HP := Lib.hid hp
          have hl0 : Hid (Limbs xs) := hlx
          obtain ⟨l, hl⟩ : ∃ l : Nat, l = x1 * 2 + p % 4294967296 + c := ⟨_, rfl⟩
          obtain ⟨h, hh⟩ : ∃ h : Nat, h = x2 * 2 + p / 4294967296 + l / 4294967296 := ⟨_, rfl⟩
          have e1 := Lib.hid (show ((x1 : Int) * 2 + (p : Int) % 4294967296 + (c : Int)) % 4294967296 = ((l % 4294967296 : Nat) : Int) from by omega)
          have e2 := Lib.hid (show ((x2 : Int) * 2 + (p : Int) / 4294967296 + ((x1 : Int) * 2 + (p : Int) % 4294967296 + (c : Int)) / 4294967296) % 4294967296 = ((h % 4294967296 : Nat) : Int) from by omega)
          have e3 := Lib.hid (show ((x2 : Int) * 2 + (p : Int) / 4294967296 + ((x1 : Int) * 2 + (p : Int) % 4294967296 + (c : Int)) / 4294967296) / 4294967296 = ((h / 4294967296 : Nat) : Int) from by omega)
          have hst2 := Lib.hid (hst.out p l h hp hl hh hpb)
          clear hy hx1 hx2 hp hcell hr hI hY hB hst hl hh
          go_wp2_with fail
          go_roundw
          case rel =>
            refine ⟨k + 1, h / 4294967296, (Y.set (2 * k) (l % 4294967296)).set (2 * k + 1) (h % 4294967296), by omega, by go_num, by rw [e3.out], hst2.out, ?_, hbe.out _ _⟩
            have := hput.out (l % 4294967296) (h % 4294967296)
            unfold lv at this
            rw [← e1.out, ← e2.out] at this
            exact this
          case measure => simp [intOf]; omega
        · obtain rfl : k = xs.length := by omega
          have hLY : Limbs Y := hI.1.2.1
          have hYl : Y.length = 2 * xs.length := by rw [hI.1.1, hZ.out.1]
          obtain ⟨A2, cap2, e2, h1, h2, hrd⟩ := hY.rd hLY
          injection e2 with ea eb ec
          subst ea ec
          have c1 := trim_any _ _ Y wr _ hrd h1 h2
          have hfin := hY.trimmed hLY
          rw [hI.done hZ.out hlx.out] at c1 hfin
          rw [hYl] at c1
          have HF := Lib.hid hfin
          have HB := Lib.hid hB
          clear hI hY hB hr hrd h1 h2 hfin hYl hLY
          go_wp2_with fail
          refine c1.mono ?_
          rintro e wn ⟨rfl, rfl⟩
          clear c1
          go_wp2
          go_ret
          exact ⟨⟨_, rfl, HF.out⟩, HB.out⟩

end Go.Proofs.YtileljokijmpaaaDoor

/- Contracts: the halves that byHalves takes; what is built of them. -/
namespace Go.Proofs.YtileljokijmpaaaDoor
open Go.RowKit Go.Shelf

theorem Arg.some {w : World} {v : Value} {xs : List Nat} (h : Arg w v xs) (hn : 0 < xs.length) : ∃ b off cap, v = .slice (some ⟨b, off, none⟩) xs.length cap ∧ xs.length ≤ cap ∧ cap ≤ maxLen ∧ Rd w w.heap.size (some ⟨b, off, none⟩) xs := by
  obtain ⟨A, cap, e, h1, h2, hr⟩ := h
  obtain ⟨b, off, rfl, _⟩ := hr.2 hn
  exact ⟨b, off, cap, e, h1, h2, hr⟩

theorem PiecePost.arg {w : World} {L : List Nat} {e : Ending} {w' : World} (hl : L.length ≤ maxLen) (h : PiecePost w w.heap.size L e w') : ∃ v, e = .returned v ∧ Arg w v L ∧ w' = w := by
  obtain ⟨⟨A, he, hr⟩, hw⟩ := h
  exact ⟨_, he, ⟨A, _, rfl, Nat.le_refl _, hl, hr⟩, hw⟩
theorem pieceL_max {xs : List Nat} {cap : Nat} (h : Limbs xs) (h1 : xs.length ≤ cap) (h2 : cap ≤ maxLen) (i k : Nat) : (pieceL xs i k).length ≤ maxLen := by
  have := pieceL_le h i k
  omega

/-- A value in an environment, a cell of the world that the environment began with. -/
def Box (w0 : World) (B : Nat) (v : Value) : Prop := B < w0.heap.size ∧ w0.cell? ⟨B, 0, none⟩ = some v
theorem Box.at {w0 w : World} {B : Nat} {v : Value} {l : List (Value × List Nat)} (h : Box w0 B v) (E : Env w0 w l) : w.cell? ⟨B, 0, none⟩ = some v := (E.1.cell (p := ⟨B, 0, none⟩) h.1).trans h.2

theorem Env.drew {w0 w : World} {l : List (Value × List Nat)} (h : Env w0 w l) : Env w0 w.drew l := ⟨h.1.drew, fun p hp => h.2 p hp⟩

theorem Env.drop3 {w0 w : World} {a b c : Value × List Nat} {l : List (Value × List Nat)} (h : Env w0 w (a :: b :: c :: l)) : Env w0 w (a :: l) := ⟨h.1, fun p hp => by
  rcases List.mem_cons.1 hp with rfl | hp
  · exact h.2 _ (by simp)
  · exact h.2 _ (by simp [hp])⟩

section
variable {w0 w : World} {l : List (Value × List Nat)} {va : Value} {xs : List Nat} {half hb lb gb : Nat}
set_option maxHeartbeats 1000000 in
theorem low_half (E : Env w0 w l) (ha : (va, xs) ∈ l) (hB : Box w0 hb (.int .i64 (half : Int))) (h0 : 0 < xs.length) (h1 : 0 < half) (h2 : half ≤ maxLen) :
    Calls Tryd.prog 90 #[va, .pointer (some ⟨hb, 0, none⟩)] w fun e w' => ∃ r, e = .returned r ∧ Env w0 w' ((r, pieceL xs 0 half) :: l) := by
  obtain ⟨b, off, cap, rfl, hc, hm, hr⟩ := (E.get ha).some h0
  have c := piece_any b off cap xs 0 half w _ hr h0 h1 h2 hc hm
  have hcell := hB.at E
  have hpm := pieceL_max hr.limbs hc hm 0 half
  rw [Nat.sub_zero] at c
  clear hr ha
  go_enter Tryd.func90, Tryd.ntmps90
  go_wp2_with fail
  refine c.mono ?_
  rintro e w' hp
  obtain ⟨v, rfl, hv, hw⟩ := hp.arg hpm
  obtain rfl := hw.symm
  have HE := Lib.hid (E.add (Below.refl _ _) hv)
  clear c hp hv E
  go_wp2
  go_ret
  exact ⟨_, rfl, HE.out⟩
set_option maxHeartbeats 1000000 in
theorem high_half (E : Env w0 w l) (ha : (va, xs) ∈ l) (hB : Box w0 hb (.int .i64 (half : Int))) (h0 : half < xs.length) :
    Calls Tryd.prog 92 #[va, .pointer (some ⟨hb, 0, none⟩)] w fun e w' => ∃ r, e = .returned r ∧ Env w0 w' ((r, pieceL xs half (xs.length - half)) :: l) := by
  obtain ⟨b, off, cap, rfl, hc, hm, hr⟩ := (E.get ha).some (by omega)
  have c := piece_any b off cap xs half xs.length w _ hr h0 h0 (by omega) hc hm
  have hcell := hB.at E
  have hpm := pieceL_max hr.limbs hc hm half (xs.length - half)
  clear hr ha
  go_enter Tryd.func92, Tryd.ntmps92
  go_wp2_with fail
  refine c.mono ?_
  rintro e w' hp
  obtain ⟨v, rfl, hv, hw⟩ := hp.arg hpm
  obtain rfl := hw.symm
  have HE := Lib.hid (E.add (Below.refl _ _) hv)
  clear c hp hv E
  go_wp2
  go_ret
  exact ⟨_, rfl, HE.out⟩

/-- Both halves, added. -/
def bothL (xs : List Nat) (half : Nat) : List Nat := sAdd (pieceL xs 0 half) (pieceL xs half (xs.length - half))
def lowF (hb : Nat) : Value := .func (.func 90) #[] #[.pointer (some ⟨hb, 0, none⟩)]
def highF (hb : Nat) : Value := .func (.func 92) #[] #[.pointer (some ⟨hb, 0, none⟩)]
set_option maxHeartbeats 4000000 in
theorem both_halves (E : Env w0 w l) (ha : (va, xs) ∈ l) (hB : Box w0 hb (.int .i64 (half : Int))) (hL : Box w0 lb (lowF hb)) (hG : Box w0 gb (highF hb)) (h0 : half < xs.length) (h1 : 0 < half) :
    Calls Tryd.prog 93 #[va, .pointer (some ⟨lb, 0, none⟩), .pointer (some ⟨gb, 0, none⟩)] w fun e w' => ∃ r, e = .returned r ∧ Env w0 w' ((r, bothL xs half) :: l) := by
  have hh : half ≤ maxLen := by obtain ⟨_, _, _, hc, hm, _⟩ := E.get ha; omega
  have cl := hL.at E
  have cg := hG.at E
  have Ed := E.drew
  have hx0 : 0 < xs.length := by omega
  unfold lowF at cl
  unfold highF at cg
  clear E
  go_enter Tryd.func93, Tryd.ntmps93
  go_upto_region 1 with fail
  go_region_with (first
    | (go_at_call 90; (with_reducible refine (low_half Ed ha hB hx0 h1 hh).mono ?_); rintro e w1 ⟨v1, rfl, E1⟩; have cg1 := hG.at E1; unfold highF at cg1)
    | (go_at_call 92; (with_reducible refine (high_half E1 (List.mem_cons_of_mem _ ha) hB h0).mono ?_); rintro e w2 ⟨v2, rfl, E2⟩)
    | (go_at_call 12; (with_reducible refine (add_env E2 (List.mem_cons_of_mem _ (List.mem_cons_self ..)) (List.mem_cons_self ..)).mono ?_); rintro e w3 ⟨v3, rfl, E3⟩))
  all_goals
    have HE := Lib.hid E3.drop3
    clear E1 E2 E3 cg1
    go_wp2
    go_ret
    exact ⟨_, rfl, HE.out⟩
end

end Go.Proofs.YtileljokijmpaaaDoor

/- Plain mathematics of products by halves. -/
namespace Go.Proofs.YtileljokijmpaaaDoor

def lo (xs : List Nat) (half : Nat) : Nat := seg xs 0 half
def hi (xs : List Nat) (half : Nat) : Nat := seg xs half (xs.length - half)
theorem lo_lt {xs : List Nat} (h : Limbs xs) (half : Nat) : lo xs half < 4294967296 ^ half := seg_lt h 0 half
theorem hi_lt {xs : List Nat} (h : Limbs xs) {half : Nat} (hl : xs.length ≤ 2 * half) : hi xs half < 4294967296 ^ half :=
  Nat.lt_of_lt_of_le (seg_lt h half _) (Nat.pow_le_pow_right (by decide) (by omega))
theorem val_lohi (xs : List Nat) {half : Nat} (h : half ≤ xs.length) : val xs = lo xs half + 4294967296 ^ half * hi xs half := by
  rw [← seg_val xs]
  conv => lhs; rw [show xs.length = half + (xs.length - half) from by omega]
  rw [seg_add, Nat.zero_add]; rfl
theorem hi_pos {xs : List Nat} (h : Canon xs) {half : Nat} (hl : half < xs.length) : 0 < hi xs half := by
  have h1 := canon_val_ge h (fun e => by rw [e] at hl; simp at hl)
  have h2 := val_lohi xs (Nat.le_of_lt hl)
  have h3 := lo_lt h.1 half
  have h4 : 4294967296 ^ half ≤ 4294967296 ^ (xs.length - 1) := Nat.pow_le_pow_right (by decide) (by omega)
  rcases Nat.eq_zero_or_pos (hi xs half) with h0 | h0
  · rw [h0] at h2; omega
  · exact h0
theorem piece_lo {xs : List Nat} {half : Nat} (h : half < xs.length) : pieceL xs 0 half = lim (lo xs half) := by
  unfold pieceL lo; rw [Nat.min_eq_left (by omega)]
theorem piece_hi {xs : List Nat} {half : Nat} : pieceL xs half (xs.length - half) = lim (hi xs half) := by
  unfold pieceL hi; rw [Nat.min_eq_left (by omega)]
theorem lim_le {n k : Nat} (h : n < 4294967296 ^ k) : (lim n).length ≤ k := lim_length_le.2 h
theorem both_lt {xs : List Nat} (h : Limbs xs) {half : Nat} (h1 : xs.length ≤ 2 * half) : lo xs half + hi xs half < 4294967296 ^ (half + 1) := by
  have a := lo_lt h half
  have b := hi_lt h h1
  rw [Nat.pow_succ]
  omega
theorem bothL_eq {xs : List Nat} (h : Limbs xs) {half : Nat} (h0 : half < xs.length) (h1 : xs.length ≤ 2 * half) (h2 : half ≤ 65535) : bothL xs half = lim (lo xs half + hi xs half) := by
  have a := lim_le (lo_lt h half)
  have b := lim_le (hi_lt h h1)
  have c := lim_le (both_lt h h1)
  unfold bothL
  rw [piece_lo h0, piece_hi, sAdd_yes (by rw [mayb_lim (by omega), mayb_lim (by omega)]; rfl), val_lim, val_lim, clip_of (by omega)]

/-- The three products make the product. -/
theorem kar_sum {P l h l' h' C : Nat} (hC : C + h * h' + l * l' = (l + h) * (l' + h')) : l * l' + P * P * (h * h') + P * C = (l + P * h) * (l' + P * h') := by
  have : P * (C + h * h' + l * l') = P * ((l + h) * (l' + h')) := by rw [hC]
  grind
theorem lo_mul_lt {a b P : Nat} (ha : a < P) (hb : b < P) : a * b < P * P := Nat.mul_lt_mul'' ha hb

def splL (Z : List Nat) (off : Nat) (L : List Nat) : List Nat := Z.take off ++ L ++ Z.drop (off + L.length)
theorem splL_length {Z L : List Nat} {off : Nat} (h : off + L.length ≤ Z.length) : (splL Z off L).length = Z.length := by unfold splL; simp; omega
theorem splL_limbs {Z L : List Nat} {off : Nat} (hZ : Limbs Z) (hL : Limbs L) : Limbs (splL Z off L) := by unfold splL; exact ((hZ.take off).append hL).append (hZ.drop _)
/-- Both products of halves, laid side by side among zeros. -/
theorem spl_val {L H : List Nat} {half : Nat} (hl : L.length ≤ 2 * half) (hh : H.length ≤ 2 * half) : val (splL (splL (List.replicate (4 * half) 0) 0 L) (2 * half) H) = val L + 4294967296 ^ (2 * half) * val H := by
  have e1 : splL (List.replicate (4 * half) 0) 0 L = L ++ List.replicate (4 * half - L.length) 0 := by
    unfold splL; simp
  have e2 : (L ++ List.replicate (4 * half - L.length) 0).take (2 * half) = L ++ List.replicate (2 * half - L.length) 0 := by
    rw [List.take_append, List.take_of_length_le hl, List.take_replicate, Nat.min_eq_left (by omega)]
  have e3 : (L ++ List.replicate (4 * half - L.length) 0).drop (2 * half + H.length) = List.replicate (2 * half - H.length) 0 := by
    rw [List.drop_append, List.drop_eq_nil_of_le (by omega), List.drop_replicate, List.nil_append]
    congr 1; omega
  rw [e1]
  unfold splL
  rw [e2, e3, List.append_assoc, val_append, val_append, val_append, val_replicate, val_replicate]
  have : (L ++ List.replicate (2 * half - L.length) 0).length = 2 * half := by simp; omega
  rw [this]
  simp

end Go.Proofs.YtileljokijmpaaaDoor

/- A copy into a list of the call's own. -/
namespace Go.Proofs.YtileljokijmpaaaDoor
open Go.RowKit Go.Shelf

/-! ### copy into an own list -/
theorem own_block {w : World} {B g n : Nat} {Z : List Nat} (h : Own w B (.slice (some ⟨g, 0, none⟩) n n) Z) : w.heap[g]? = some (.cells (u32s Z).toArray 40 (0, 0)) ∧ B ≤ g ∧ n = Z.length ∧ n ≤ maxLen := by
  rcases h with ⟨hz, ⟨e, _⟩ | ⟨g', cap, cur, e, hg, hh, hle, hm, hs, ht⟩⟩
  · cases e
  · injection e with e1 e2 e3
    injection e1 with e1; injection e1 with e1
    subst e1 e3
    have hc : cur = (u32s Z).toArray := by
      rw [← ht, List.take_of_length_le (by simp [hs]; omega)]
    rw [hc] at hh
    exact ⟨hh, hg, e2, by omega⟩
theorem own_of_block {w : World} {B g n : Nat} {Z : List Nat} (hh : w.heap[g]? = some (.cells (u32s Z).toArray 40 (0, 0))) (hg : B ≤ g) (hn : n = Z.length) (hm : n ≤ maxLen) : Own w B (.slice (some ⟨g, 0, none⟩) n n) Z := by
  subst hn
  exact ⟨by simp [u32s], .inr ⟨g, Z.length, _, rfl, hg, hh, Nat.le_refl _, hm, by simp [u32s], by rw [List.take_of_length_le (by simp [u32s])]⟩⟩
theorem u32s_splL (Z : List Nat) (off : Nat) (L : List Nat) : splice (u32s Z) off (u32s L) = u32s (splL Z off L) := by
  unfold splice splL u32s
  rw [List.map_append, List.map_append, List.map_take, List.map_drop, List.length_map, List.append_assoc]
theorem wpList_copy_L {w : World} {ops : Array Oper} {rest : List Oper} {o : Oper} {a : Act} {Q : Exit → Act → World → Prop} (hgd : o.guard = none) (d s : Operand)
    (ho : o.op = .call { callee := .builtin .copy, args := #[d, s], argTypes := #[24, 24] }) {g off dLen dCap sCap n : Nat} {A : Option Addr} {L Z : List Nat}
    (hd : a.eval d = .slice (some ⟨g, off, none⟩) dLen dCap) (hs : a.eval s = .slice A L.length sCap) {B B2 : Nat} {w0 : World} (hO : Own w B (.slice (some ⟨g, 0, none⟩) n n) Z) (hr : Rd w B2 A L) (hle : L.length ≤ dLen) (hfit : off + L.length ≤ Z.length) (hb : Below B w0 w)
    (h : ∀ w', Own w' B (.slice (some ⟨g, 0, none⟩) n n) (splL Z off L) → Below B w0 w' → wpList Tryd.prog ops Q rest (a.put o.dst (goInt L.length)) w') :
    wpList Tryd.prog ops Q (o :: rest) a w := by
  obtain ⟨hh, hg, hn, hm⟩ := own_block hO
  have hl : (u32s L).length = L.length := by simp [u32s]
  refine wpList_copy_splice hgd d s 24 24 ho 40 Tryd.underlying24 (by kernel_rfl) (some ⟨g, off, none⟩) A dLen dCap L.length sCap hd hs g off (u32s Z) 40 hh (u32s L) (by rw [hl]; exact (Nat.min_eq_left hle).symm) ?_ (by rw [hl]; simpa [u32s] using hfit) ?_ B w0 hb hg ?_
  · intro h0
    rw [hl] at h0
    obtain ⟨b, o2, rfl, _, hc⟩ := hr.2 h0
    refine ⟨rfl, _, rfl, fun j v hv => ?_⟩
    have hj : j < L.length := by
      have := (List.getElem?_eq_some_iff.1 hv).1
      simpa [u32s] using this
    rw [Addr.add_mid, hc j hj, ← hv, u32s, List.getElem?_map, List.getElem?_eq_getElem hj]; rfl
  · intro v hv
    obtain ⟨x, _, rfl⟩ := List.mem_map.1 hv
    rfl
  · intro w' hw' hb'
    rw [hl]
    exact h w' (own_of_block (by rw [← u32s_splL]; exact hw'.out) hg (by rw [splL_length hfit]; exact hn) hm) hb'
theorem Own.head {w : World} {B : Nat} {v : Value} {xs : List Nat} (h : Own w B v xs) (h0 : 0 < xs.length) : ∃ g cap, v = .slice (some ⟨g, 0, none⟩) xs.length cap := by
  rcases h.2 with ⟨_, e⟩ | ⟨g, cap, cur, e, _⟩
  · omega
  · exact ⟨g, cap, e⟩

end Go.Proofs.YtileljokijmpaaaDoor

/- Contracts: what byHalves is handed, called at each of its takings. -/
namespace Go.Proofs.YtileljokijmpaaaDoor
open Go.RowKit Go.Shelf

set_option linter.unusedVariables false

/-- times, up to so many limbs together. -/
def TimesAt (n : Nat) : Prop := ∀ (va vb : Value) (xs ys : List Nat) (w : World), Arg w va xs → Arg w vb ys → Canon xs → Canon ys → xs.length ≤ 65536 → ys.length ≤ 65536 → xs.length + ys.length ≤ n →
  Calls Tryd.prog 65 #[va, vb] w (NewNat w (val xs * val ys))
def SquareAt (n : Nat) : Prop := ∀ (va : Value) (xs : List Nat) (w : World), Arg w va xs → Canon xs → xs.length ≤ 65536 → xs.length ≤ n →
  Calls Tryd.prog 64 #[va] w (NewNat w (val xs * val xs))
def bothF (lb gb : Nat) : Value := .func (.func 93) #[] #[.pointer (some ⟨lb, 0, none⟩), .pointer (some ⟨gb, 0, none⟩)]
theorem env_here {w : World} {l : List (Value × List Nat)} (h : ∀ p ∈ l, Arg w p.1 p.2) : Env w w l := ⟨Below.refl _ _, h⟩
theorem NewNat.from {w w1 : World} {n : Nat} {e : Ending} {w' : World} {l : List (Value × List Nat)} (E : Env w w1 l) (h : NewNat w1 n e w') : NewNat w n e w' := by
  obtain ⟨⟨v, he, ho⟩, hb⟩ := h
  exact ⟨⟨v, he, ho.more E.1.size⟩, E.1.trans (hb.mono E.1.size)⟩
theorem NewNat.mk' {w w' : World} {n : Nat} {v : Value} (h : NewNat w n (.returned v) w') : Own w' w.heap.size v (lim n) ∧ Below w.heap.size w w' := by
  obtain ⟨⟨v', he, ho⟩, hb⟩ := h
  cases he
  exact ⟨ho, hb⟩

section
variable {w : World} {va vb : Value} {xs ys : List Nat} {half hb lb gb pa pb n : Nat}

set_option maxRecDepth 100000 in
set_option maxHeartbeats 4000000 in
theorem times1_low (IH : TimesAt n) (ha : Arg w va xs) (hv : Arg w vb ys) (hA : Box w pa va) (hP : Box w pb vb) (hB : Box w hb (.int .i64 (half : Int))) (cx : Canon xs) (cy : Canon ys) (h0 : half < xs.length) (h0' : half < ys.length) (hl : xs.length ≤ 2 * half) (hl' : ys.length ≤ 2 * half) (h1 : 0 < half) (hm : half ≤ 65535) (hn : 2 * half + 2 ≤ n) :
    Calls Tryd.prog 82 #[lowF hb, .pointer (some ⟨pa, 0, none⟩), .pointer (some ⟨pb, 0, none⟩)] w (NewNat w ((lo xs half) * (lo ys half))) := by
  have Ed := (env_here (w := w) (l := [(va, xs), (vb, ys)]) (fun p hp => by
    rcases List.mem_cons.1 hp with rfl | hp
    · exact ha
    · rcases List.mem_cons.1 hp with rfl | hp
      · exact hv
      · cases hp)).drew
  have h0p : 0 < xs.length := by omega
  have h0'p : 0 < ys.length := by omega
  have hh : half ≤ maxLen := by unfold maxLen; omega
  have ca := hA.at Ed
  have cb := hP.at Ed
  have ca0 := hA.2
  have cb0 := hP.2
  have HX := Lib.hid (piece_lo h0)
  have HY := Lib.hid (piece_lo h0')
  have LX := Nat.le_succ_of_le (lim_le (lo_lt cx.1 half))
  have LY := Nat.le_succ_of_le (lim_le (lo_lt cy.1 half))
  have mx : (va, xs) ∈ [(va, xs), (vb, ys)] := List.mem_cons_self ..
  have my : (vb, ys) ∈ [(va, xs), (vb, ys)] := List.mem_cons_of_mem _ (List.mem_cons_self ..)
  clear hl hl' cx cy
  unfold lowF
  go_enter Tryd.func82, Tryd.ntmps82
  go_upto_region 1 with fail
  go_region_with (first
    | (go_at_call_of 90 va; (with_reducible refine (low_half Ed mx hB h0p h1 hh).mono ?_); rintro e w1 ⟨v1, rfl, E1⟩; have cb1 := hP.at E1)
    | (go_at_call_of 90 vb; (with_reducible refine (low_half E1 (List.mem_cons_of_mem _ my) hB h0'p h1 hh).mono ?_); rintro e w2 ⟨v2, rfl, E2⟩)
    | (go_at_call 65; have cT := IH v1 v2 _ _ w2 (E2.get (List.mem_cons_of_mem _ (List.mem_cons_self ..))) (E2.get (List.mem_cons_self ..)) (by rw [HX.out]; exact canon_lim _) (by rw [HY.out]; exact canon_lim _) (by rw [HX.out]; omega) (by rw [HY.out]; omega) (by rw [HX.out, HY.out]; omega); (with_reducible refine cT.mono ?_); rintro e w3 hN; have hN2 := hN.from E2; clear hN cT; obtain ⟨⟨v3, rfl, ho⟩, hbl⟩ := hN2; rw [HX.out, HY.out, val_lim, val_lim] at ho))
  all_goals
    have HO := Lib.hid ho
    have HB := Lib.hid hbl
    clear ho hbl E1 E2 cb1
    go_wp2
    go_ret
    exact ⟨⟨_, rfl, HO.out⟩, HB.out⟩

set_option maxRecDepth 100000 in
set_option maxHeartbeats 4000000 in
theorem times1_high (IH : TimesAt n) (ha : Arg w va xs) (hv : Arg w vb ys) (hA : Box w pa va) (hP : Box w pb vb) (hB : Box w hb (.int .i64 (half : Int))) (cx : Canon xs) (cy : Canon ys) (h0 : half < xs.length) (h0' : half < ys.length) (hl : xs.length ≤ 2 * half) (hl' : ys.length ≤ 2 * half) (h1 : 0 < half) (hm : half ≤ 65535) (hn : 2 * half + 2 ≤ n) :
    Calls Tryd.prog 82 #[highF hb, .pointer (some ⟨pa, 0, none⟩), .pointer (some ⟨pb, 0, none⟩)] w (NewNat w ((hi xs half) * (hi ys half))) := by
  have Ed := (env_here (w := w) (l := [(va, xs), (vb, ys)]) (fun p hp => by
    rcases List.mem_cons.1 hp with rfl | hp
    · exact ha
    · rcases List.mem_cons.1 hp with rfl | hp
      · exact hv
      · cases hp)).drew
  have h0p : 0 < xs.length := by omega
  have h0'p : 0 < ys.length := by omega
  have hh : half ≤ maxLen := by unfold maxLen; omega
  have ca := hA.at Ed
  have cb := hP.at Ed
  have ca0 := hA.2
  have cb0 := hP.2
  have HX := Lib.hid (piece_hi (xs := xs) (half := half))
  have HY := Lib.hid (piece_hi (xs := ys) (half := half))
  have LX := Nat.le_succ_of_le (lim_le (hi_lt cx.1 hl))
  have LY := Nat.le_succ_of_le (lim_le (hi_lt cy.1 hl'))
  have mx : (va, xs) ∈ [(va, xs), (vb, ys)] := List.mem_cons_self ..
  have my : (vb, ys) ∈ [(va, xs), (vb, ys)] := List.mem_cons_of_mem _ (List.mem_cons_self ..)
  clear hl hl' cx cy
  unfold highF
  go_enter Tryd.func82, Tryd.ntmps82
  go_upto_region 1 with fail
  go_region_with (first
    | (go_at_call_of 92 va; (with_reducible refine (high_half Ed mx hB h0).mono ?_); rintro e w1 ⟨v1, rfl, E1⟩; have cb1 := hP.at E1)
    | (go_at_call_of 92 vb; (with_reducible refine (high_half E1 (List.mem_cons_of_mem _ my) hB h0').mono ?_); rintro e w2 ⟨v2, rfl, E2⟩)
    | (go_at_call 65; have cT := IH v1 v2 _ _ w2 (E2.get (List.mem_cons_of_mem _ (List.mem_cons_self ..))) (E2.get (List.mem_cons_self ..)) (by rw [HX.out]; exact canon_lim _) (by rw [HY.out]; exact canon_lim _) (by rw [HX.out]; omega) (by rw [HY.out]; omega) (by rw [HX.out, HY.out]; omega); (with_reducible refine cT.mono ?_); rintro e w3 hN; have hN2 := hN.from E2; clear hN cT; obtain ⟨⟨v3, rfl, ho⟩, hbl⟩ := hN2; rw [HX.out, HY.out, val_lim, val_lim] at ho))
  all_goals
    have HO := Lib.hid ho
    have HB := Lib.hid hbl
    clear ho hbl E1 E2 cb1
    go_wp2
    go_ret
    exact ⟨⟨_, rfl, HO.out⟩, HB.out⟩

set_option maxRecDepth 100000 in
set_option maxHeartbeats 4000000 in
theorem times1_both (IH : TimesAt n) (ha : Arg w va xs) (hv : Arg w vb ys) (hA : Box w pa va) (hP : Box w pb vb) (hB : Box w hb (.int .i64 (half : Int))) (hL : Box w lb (lowF hb)) (hG : Box w gb (highF hb)) (cx : Canon xs) (cy : Canon ys) (h0 : half < xs.length) (h0' : half < ys.length) (hl : xs.length ≤ 2 * half) (hl' : ys.length ≤ 2 * half) (h1 : 0 < half) (hm : half ≤ 65535) (hn : 2 * half + 2 ≤ n) :
    Calls Tryd.prog 82 #[bothF lb gb, .pointer (some ⟨pa, 0, none⟩), .pointer (some ⟨pb, 0, none⟩)] w (NewNat w ((lo xs half + hi xs half) * (lo ys half + hi ys half))) := by
  have Ed := (env_here (w := w) (l := [(va, xs), (vb, ys)]) (fun p hp => by
    rcases List.mem_cons.1 hp with rfl | hp
    · exact ha
    · rcases List.mem_cons.1 hp with rfl | hp
      · exact hv
      · cases hp)).drew
  have h0p : 0 < xs.length := by omega
  have h0'p : 0 < ys.length := by omega
  have hh : half ≤ maxLen := by unfold maxLen; omega
  have ca := hA.at Ed
  have cb := hP.at Ed
  have ca0 := hA.2
  have cb0 := hP.2
  have HX := Lib.hid (bothL_eq cx.1 h0 hl (by omega))
  have HY := Lib.hid (bothL_eq cy.1 h0' hl' (by omega))
  have LX := lim_le (both_lt cx.1 hl)
  have LY := lim_le (both_lt cy.1 hl')
  have mx : (va, xs) ∈ [(va, xs), (vb, ys)] := List.mem_cons_self ..
  have my : (vb, ys) ∈ [(va, xs), (vb, ys)] := List.mem_cons_of_mem _ (List.mem_cons_self ..)
  clear hl hl' cx cy
  unfold bothF
  go_enter Tryd.func82, Tryd.ntmps82
  go_upto_region 1 with fail
  go_region_with (first
    | (go_at_call_of 93 va; (with_reducible refine (both_halves Ed mx hB hL hG h0 h1).mono ?_); rintro e w1 ⟨v1, rfl, E1⟩; have cb1 := hP.at E1)
    | (go_at_call_of 93 vb; (with_reducible refine (both_halves E1 (List.mem_cons_of_mem _ my) hB hL hG h0' h1).mono ?_); rintro e w2 ⟨v2, rfl, E2⟩)
    | (go_at_call 65; have cT := IH v1 v2 _ _ w2 (E2.get (List.mem_cons_of_mem _ (List.mem_cons_self ..))) (E2.get (List.mem_cons_self ..)) (by rw [HX.out]; exact canon_lim _) (by rw [HY.out]; exact canon_lim _) (by rw [HX.out]; omega) (by rw [HY.out]; omega) (by rw [HX.out, HY.out]; omega); (with_reducible refine cT.mono ?_); rintro e w3 hN; have hN2 := hN.from E2; clear hN cT; obtain ⟨⟨v3, rfl, ho⟩, hbl⟩ := hN2; rw [HX.out, HY.out, val_lim, val_lim] at ho))
  all_goals
    have HO := Lib.hid ho
    have HB := Lib.hid hbl
    clear ho hbl E1 E2 cb1
    go_wp2
    go_ret
    exact ⟨⟨_, rfl, HO.out⟩, HB.out⟩

set_option maxRecDepth 100000 in
set_option maxHeartbeats 4000000 in
theorem square1_low (IH : SquareAt n) (ha : Arg w va xs) (hA : Box w pa va) (hB : Box w hb (.int .i64 (half : Int))) (cx : Canon xs) (h0 : half < xs.length) (hl : xs.length ≤ 2 * half) (h1 : 0 < half) (hm : half ≤ 65535) (hn : half + 1 ≤ n) :
    Calls Tryd.prog 79 #[lowF hb, .pointer (some ⟨pa, 0, none⟩)] w (NewNat w ((lo xs half) * (lo xs half))) := by
  have Ed := env_here (w := w) (l := [(va, xs)]) (fun p hp => by
    rcases List.mem_cons.1 hp with rfl | hp
    · exact ha
    · cases hp)
  have h0p : 0 < xs.length := by omega
  have hh : half ≤ maxLen := by unfold maxLen; omega
  have ca0 := hA.2
  have HX := Lib.hid (piece_lo h0)
  have LX := Nat.le_succ_of_le (lim_le (lo_lt cx.1 half))
  have mx : (va, xs) ∈ [(va, xs)] := List.mem_cons_self ..
  clear hl cx
  unfold lowF
  go_enter Tryd.func79, Tryd.ntmps79
  go_wp2_with fail
  refine (low_half Ed mx hB h0p h1 hh).mono ?_
  rintro e w1 ⟨v1, rfl, E1⟩
  have cT := IH v1 _ w1 (E1.get (List.mem_cons_self ..)) (by rw [HX.out]; exact canon_lim _) (by rw [HX.out]; omega) (by rw [HX.out]; omega)
  go_wp2_with fail
  refine cT.mono ?_
  rintro e w3 hN
  have hN2 := hN.from E1
  obtain ⟨⟨v3, rfl, ho⟩, hbl⟩ := hN2
  rw [HX.out, val_lim] at ho
  have HO := Lib.hid ho
  have HB := Lib.hid hbl
  clear ho hbl E1 cT hN
  go_wp2
  go_ret
  exact ⟨⟨_, rfl, HO.out⟩, HB.out⟩

set_option maxRecDepth 100000 in
set_option maxHeartbeats 4000000 in
theorem square1_high (IH : SquareAt n) (ha : Arg w va xs) (hA : Box w pa va) (hB : Box w hb (.int .i64 (half : Int))) (cx : Canon xs) (h0 : half < xs.length) (hl : xs.length ≤ 2 * half) (h1 : 0 < half) (hm : half ≤ 65535) (hn : half + 1 ≤ n) :
    Calls Tryd.prog 79 #[highF hb, .pointer (some ⟨pa, 0, none⟩)] w (NewNat w ((hi xs half) * (hi xs half))) := by
  have Ed := env_here (w := w) (l := [(va, xs)]) (fun p hp => by
    rcases List.mem_cons.1 hp with rfl | hp
    · exact ha
    · cases hp)
  have h0p : 0 < xs.length := by omega
  have hh : half ≤ maxLen := by unfold maxLen; omega
  have ca0 := hA.2
  have HX := Lib.hid (piece_hi (xs := xs) (half := half))
  have LX := Nat.le_succ_of_le (lim_le (hi_lt cx.1 hl))
  have mx : (va, xs) ∈ [(va, xs)] := List.mem_cons_self ..
  clear hl cx
  unfold highF
  go_enter Tryd.func79, Tryd.ntmps79
  go_wp2_with fail
  refine (high_half Ed mx hB h0).mono ?_
  rintro e w1 ⟨v1, rfl, E1⟩
  have cT := IH v1 _ w1 (E1.get (List.mem_cons_self ..)) (by rw [HX.out]; exact canon_lim _) (by rw [HX.out]; omega) (by rw [HX.out]; omega)
  go_wp2_with fail
  refine cT.mono ?_
  rintro e w3 hN
  have hN2 := hN.from E1
  obtain ⟨⟨v3, rfl, ho⟩, hbl⟩ := hN2
  rw [HX.out, val_lim] at ho
  have HO := Lib.hid ho
  have HB := Lib.hid hbl
  clear ho hbl E1 cT hN
  go_wp2
  go_ret
  exact ⟨⟨_, rfl, HO.out⟩, HB.out⟩

set_option maxRecDepth 100000 in
set_option maxHeartbeats 4000000 in
theorem square1_both (IH : SquareAt n) (ha : Arg w va xs) (hA : Box w pa va) (hB : Box w hb (.int .i64 (half : Int))) (hL : Box w lb (lowF hb)) (hG : Box w gb (highF hb)) (cx : Canon xs) (h0 : half < xs.length) (hl : xs.length ≤ 2 * half) (h1 : 0 < half) (hm : half ≤ 65535) (hn : half + 1 ≤ n) :
    Calls Tryd.prog 79 #[bothF lb gb, .pointer (some ⟨pa, 0, none⟩)] w (NewNat w ((lo xs half + hi xs half) * (lo xs half + hi xs half))) := by
  have Ed := env_here (w := w) (l := [(va, xs)]) (fun p hp => by
    rcases List.mem_cons.1 hp with rfl | hp
    · exact ha
    · cases hp)
  have h0p : 0 < xs.length := by omega
  have hh : half ≤ maxLen := by unfold maxLen; omega
  have ca0 := hA.2
  have HX := Lib.hid (bothL_eq cx.1 h0 hl (by omega))
  have LX := lim_le (both_lt cx.1 hl)
  have mx : (va, xs) ∈ [(va, xs)] := List.mem_cons_self ..
  clear hl cx
  unfold bothF
  go_enter Tryd.func79, Tryd.ntmps79
  go_wp2_with fail
  refine (both_halves Ed mx hB hL hG h0 h1).mono ?_
  rintro e w1 ⟨v1, rfl, E1⟩
  have cT := IH v1 _ w1 (E1.get (List.mem_cons_self ..)) (by rw [HX.out]; exact canon_lim _) (by rw [HX.out]; omega) (by rw [HX.out]; omega)
  go_wp2_with fail
  refine cT.mono ?_
  rintro e w3 hN
  have hN2 := hN.from E1
  obtain ⟨⟨v3, rfl, ho⟩, hbl⟩ := hN2
  rw [HX.out, val_lim] at ho
  have HO := Lib.hid ho
  have HB := Lib.hid hbl
  clear ho hbl E1 cT hN
  go_wp2
  go_ret
  exact ⟨⟨_, rfl, HO.out⟩, HB.out⟩
end

end Go.Proofs.YtileljokijmpaaaDoor

/- Contract: byHalves, at the product that times hands it. -/
namespace Go.Proofs.YtileljokijmpaaaDoor
open Go.RowKit Go.Shelf

set_option linter.unusedVariables false

theorem Box.to {w w' : World} {B : Nat} {v : Value} (h : Box w B v) (hb : Below w.heap.size w w') : Box w' B v := ⟨Nat.lt_of_lt_of_le h.1 hb.size, (hb.cell (p := ⟨B, 0, none⟩) h.1).trans h.2⟩
theorem kar_room {Z : List Nat} {half C T : Nat} (hl : Z.length = 4 * half) (hZ : Limbs Z) (h : val Z + 4294967296 ^ half * C = T) (hT : T < 4294967296 ^ (4 * half)) : seg Z half (4 * half - half) + C < 4294967296 ^ (4 * half - half) := by
  rw [← seg_val Z, hl] at h
  have e : seg Z 0 (4 * half) = seg Z 0 half + 4294967296 ^ half * seg Z half (4 * half - half) := by
    conv => lhs; rw [show 4 * half = half + (4 * half - half) from by omega]
    rw [seg_add, Nat.zero_add]
  have e2 : 4294967296 ^ (4 * half) = 4294967296 ^ half * 4294967296 ^ (4 * half - half) := by rw [← Nat.pow_add]; congr 1; omega
  rw [e] at h
  rw [e2] at hT
  have h3 : 4294967296 ^ half * (seg Z half (4 * half - half) + C) < 4294967296 ^ half * 4294967296 ^ (4 * half - half) := by
    rw [Nat.mul_add]; omega
  exact Nat.lt_of_mul_lt_mul_left h3
theorem kar_done {Z X : List Nat} {half n C T : Nat} (S : Same Z half n X) (D : seg X half n = seg Z half n + val (lim C)) (h : val Z + 4294967296 ^ half * C = T) (hn : half + n ≤ Z.length) : val X = T := by
  have := S.whole hn
  rw [D, val_lim, Nat.mul_add] at this
  omega
/-- What the three products' lengths are. -/
theorem kar_facts {l h l' h' half : Nat} (q1 : l < 4294967296 ^ half) (q2 : l' < 4294967296 ^ half) (q3 : h < 4294967296 ^ half) (q4 : h' < 4294967296 ^ half) (q5 : 0 < h) (q6 : 0 < h') (q7 : l + h < 4294967296 ^ (half + 1)) (q8 : l' + h' < 4294967296 ^ (half + 1)) :
    (lim (l * l')).length ≤ 2 * half ∧ (lim (h * h')).length ≤ 2 * half ∧ 0 < (lim ((l + h) * (l' + h'))).length ∧ (lim ((l + h) * (l' + h'))).length ≤ 2 * half + 2 ∧ (lim (l * l')).length ≤ (lim ((l + h) * (l' + h'))).length ∧ (lim (h * h')).length ≤ (lim ((l + h) * (l' + h'))).length ∧ l * l' + h * h' ≤ (l + h) * (l' + h') := by
  have e : (l + h) * (l' + h') = l * l' + h * h' + (l * h' + h * l') := by grind
  have hle : l * l' + h * h' ≤ (l + h) * (l' + h') := by omega
  have mono : ∀ {n m : Nat}, n ≤ m → (lim n).length ≤ (lim m).length := fun {n m} hnm => by
    rw [lim_length_le]
    have := val_lt (lim_limbs m)
    rw [val_lim] at this
    omega
  refine ⟨lim_le ?_, lim_le ?_, ?_, lim_le ?_, mono (by omega), mono (by omega), hle⟩
  · rw [pow_two_mul]; exact Nat.mul_lt_mul'' q1 q2
  · rw [pow_two_mul]; exact Nat.mul_lt_mul'' q3 q4
  · have : 0 < h * h' := Nat.mul_pos q5 q6
    exact List.length_pos_iff.2 fun e => by have := lim_eq_nil.1 e; omega
  · rw [show 2 * half + 2 = 2 * (half + 1) from by omega, pow_two_mul]; exact Nat.mul_lt_mul'' q7 q8
/-- The whole product, and that it has room. -/
theorem kar_top {l h l' h' half V V' : Nat} (q1 : l < 4294967296 ^ half) (q2 : l' < 4294967296 ^ half) (q3 : h < 4294967296 ^ half) (q4 : h' < 4294967296 ^ half) (v1 : V = l + 4294967296 ^ half * h) (v2 : V' = l' + 4294967296 ^ half * h') :
    ∀ C : Nat, C + h * h' + l * l' = (l + h) * (l' + h') → l * l' + 4294967296 ^ (2 * half) * (h * h') + 4294967296 ^ half * C = V * V' ∧ V * V' < 4294967296 ^ (4 * half) := by
  intro C hC
  refine ⟨by rw [pow_two_mul, v1, v2]; exact kar_sum hC, ?_⟩
  have b : ∀ {a b V : Nat}, a < 4294967296 ^ half → b < 4294967296 ^ half → V = a + 4294967296 ^ half * b → V < 4294967296 ^ (2 * half) := fun {a b V} ha hb hv => by
    rw [pow_two_mul]
    have : 4294967296 ^ half * (b + 1) ≤ 4294967296 ^ half * 4294967296 ^ half := Nat.mul_le_mul_left _ hb
    rw [Nat.mul_add, Nat.mul_one] at this
    omega
  rw [show 4 * half = 2 * (2 * half) from by omega, pow_two_mul]
  exact Nat.mul_lt_mul'' (b q1 q3 v1) (b q2 q4 v2)
theorem Env.addNew {w0 w w' : World} {l : List (Value × List Nat)} {n : Nat} {e : Ending} (E : Env w0 w l) (h : NewNat w n e w') : ∃ v, e = .returned v ∧ Env w0 w' ((v, lim n) :: l) := by
  obtain ⟨⟨v, he, ho⟩, hb⟩ := h
  exact ⟨v, he, E.add hb (ho.arg (lim_limbs _))⟩
theorem Box.new (w : World) (v : Value) (t : TypeId) : Box (w.alloc (.cells #[v] t)) w.heap.size v := ⟨by simp, by
  have := (Boxed.new w t v).cell
  exact this⟩
theorem Box.new' (w : World) (v : Value) (t : TypeId) {n : Nat} (h : n = w.heap.size) : Box (w.alloc (.cells #[v] t)) n v := by subst h; exact Box.new w v t
theorem Box.past {w : World} {B : Nat} {v : Value} (h : Box w B v) (o : Obj) : Box (w.alloc o) B v := h.to ((Below.refl _ w).alloc (Nat.le_refl _) o)

set_option maxRecDepth 100000 in
set_option maxHeartbeats 8000000 in
theorem byHalves_times {w : World} {va vb : Value} {xs ys : List Nat} {half pa pb n : Nat} (IH : TimesAt n) (ha : Arg w va xs) (hv : Arg w vb ys) (cx : Canon xs) (cy : Canon ys) (h0 : half < xs.length) (h0' : half < ys.length) (hl : xs.length ≤ 2 * half) (hl' : ys.length ≤ 2 * half) (hA : Box w pa va) (hP : Box w pb vb) (h1 : 0 < half) (hm : half ≤ 65535) (hn : 2 * half + 2 ≤ n) :
    Calls Tryd.prog 78 #[.int .i64 (half : Int), .func (.func 82) #[] #[.pointer (some ⟨pa, 0, none⟩), .pointer (some ⟨pb, 0, none⟩)]] w (NewNat w (val xs * val ys)) := by
  obtain ⟨i0, hti, hz0, hz1, hz2⟩ := info_parts info32
  -- the world behind the three boxes
  obtain ⟨wB, hwB⟩ : ∃ wB, wB = ((w.alloc (.cells #[.int .i64 (half : Int)] 3)).alloc (.cells #[.func (.func 90) #[] #[.pointer (some ⟨w.heap.size, 0, none⟩)]] 46)).alloc (.cells #[.func (.func 92) #[] #[.pointer (some ⟨w.heap.size, 0, none⟩)]] 46) := ⟨_, rfl⟩
  have hbB : Below w.heap.size w wB := by rw [hwB]; exact (((Below.refl _ w).alloc (Nat.le_refl _) _).alloc (by simp) _).alloc (by simp; omega) _
  have hsz : wB.heap.size = w.heap.size + 3 := by rw [hwB]; simp
  have bH : Box wB w.heap.size (.int .i64 (half : Int)) := by rw [hwB]; exact ((Box.new w _ _).past _).past _
  have bL : Box wB (w.heap.size + 1) (lowF w.heap.size) := by rw [hwB]; exact (Box.new' _ _ _ (by simp)).past _
  have bG : Box wB (w.heap.size + 1 + 1) (highF w.heap.size) := by rw [hwB]; exact Box.new' _ _ _ (by simp)
  have HWB := Lib.hid hwB
  clear hwB
  go_enter Tryd.func78, Tryd.ntmps78
  go_upto_region 3 with fail
  rw [← HWB.out]
  have kL := bL.2
  have kG := bG.2
  unfold lowF at kL
  unfold highF at kG
  have hbd := hbB.drew
  have bd := (Below.refl wB.heap.size wB).drew
  have c1 := times1_low IH (ha.below hbd) (hv.below hbd) (hA.to hbd) (hP.to hbd) (bH.to bd) cx cy h0 h0' hl hl' h1 hm hn
  unfold lowF at c1
  have Ed := (env_start wB).drew
  go_cut [7, 8] (fun s7 s8 wx => Env wB wx [(s8, lim (hi xs half * hi ys half)), (s7, lim (lo xs half * lo ys half))])
  case first =>
    go_region_with (first
      | (go_at_call_of 82 (Value.func (.func 90) #[] #[.pointer (some ⟨w.heap.size, 0, none⟩)]); (with_reducible refine c1.mono ?_); rintro e w1 hN1; obtain ⟨v1, rfl, E1⟩ := Ed.addNew hN1; have kG1 := bG.at E1; unfold highF at kG1; have hb1 := hbB.trans (E1.1.mono hbB.size); have c2 := times1_high IH (ha.below hb1) (hv.below hb1) (hA.to hb1) (hP.to hb1) (bH.to E1.1) cx cy h0 h0' hl hl' h1 hm hn; unfold highF at c2; clear hN1)
      | (go_at_call_of 82 (Value.func (.func 92) #[] #[.pointer (some ⟨w.heap.size, 0, none⟩)]); (with_reducible refine c2.mono ?_); rintro e w2 hN2; obtain ⟨v2, rfl, E2⟩ := E1.addNew hN2; clear hN2))
    all_goals
      have HE := Lib.hid E2
      clear E1 E2 c1 c2 kG1 hb1
      go_wp2_with fail
      go_meet
      exact HE.out
  case rest =>
    have EC := hcut
    clear hcut c1 hbd bd Ed kL kG
    have hbc := hbB.trans (EC.1.mono hbB.size)
    have c3 := times1_both IH (ha.below hbc) (hv.below hbc) (hA.to hbc) (hP.to hbc) (bH.to EC.1) (bL.to EC.1) (bG.to EC.1) cx cy h0 h0' hl hl' h1 hm hn
    unfold bothF at c3
    have q1 := lo_lt cx.1 half
    have q2 := lo_lt cy.1 half
    have q3 := hi_lt cx.1 hl
    have q4 := hi_lt cy.1 hl'
    have q5 := hi_pos cx h0
    have q6 := hi_pos cy h0'
    have q7 := both_lt cx.1 hl
    have q8 := both_lt cy.1 hl'
    have v1 := val_lohi xs (Nat.le_of_lt h0)
    have v2 := val_lohi ys (Nat.le_of_lt h0')
    have HF := Lib.hid (kar_facts q1 q2 q3 q4 q5 q6 q7 q8)
    have HT := Lib.hid (kar_top q1 q2 q3 q4 v1 v2)
    clear q1 q2 q3 q4 q5 q6 q7 q8 v1 v2
    generalize hLL : lim (lo xs half * lo ys half) = Ll at *
    generalize hHH : lim (hi xs half * hi ys half) = Hl at *
    generalize hCC : lim ((lo xs half + hi xs half) * (lo ys half + hi ys half)) = Cl at *
    have LL := Lib.hid hLL
    have HH := Lib.hid hHH
    have CC := Lib.hid hCC
    clear hLL hHH hCC
    obtain ⟨Ah, caph, rfl, _, _, rh⟩ := EC.get (v := u8) (xs := Hl) (by simp)
    obtain ⟨Al, capl, rfl, _, _, rl⟩ := EC.get (v := u7) (xs := Ll) (by simp)
    have kH0 := bH.to EC.1
    have EB := Lib.hid EC
    clear EC
    go_wp2_with fail
    with_reducible refine c3.mono ?_
    rintro e w3 hN3
    obtain ⟨⟨v3, rfl, ho3⟩, hb3⟩ := hN3
    rw [CC.out] at ho3
    clear c3
    have F := HF.out
    obtain ⟨f1, f2, f3, f4, f5, f6, f7⟩ := F
    obtain ⟨g, cz, rfl⟩ := ho3.head f3
    have lC : Limbs Cl := by rw [← CC.out]; exact lim_limbs _
    have vL : val Ll = lo xs half * lo ys half := by rw [← LL.out, val_lim]
    have vH : val Hl = hi xs half * hi ys half := by rw [← HH.out, val_lim]
    have vC : val Cl = (lo xs half + hi xs half) * (lo ys half + hi ys half) := by rw [← CC.out, val_lim]
    have c4 := sub_in g 0 Cl.length cz cz Al capl Ll Cl w3 wc.heap.size ho3 lC (by omega) (rl.below hb3 (Nat.le_refl _)) f5 (by omega) (by rw [seg_val, vL, vC]; omega)
    have HR1 := Lib.hid (And.intro vL (And.intro vH vC))
    have HFF := Lib.hid (And.intro f1 (And.intro f2 (And.intro f4 (And.intro f6 f7))))
    clear vL vH vC f1 f2 f3 f4 f5 f6 f7 ho3
    go_wp2_with fail
    with_reducible refine c4.mono ?_
    rintro e w4 ⟨X1, rfl, S1, D1, ho4, hb4⟩
    clear c4
    have c5 := sub_in g 0 Cl.length cz cz Ah caph Hl X1 w4 wc.heap.size ho4 S1.2.1 (by rw [S1.1]; omega) (rh.below (hb3.trans hb4) (Nat.le_refl _)) HFF.out.2.2.2.1 (by have := HFF.out.2.2.1; omega) (by
      obtain ⟨vL, vH, vC⟩ := HR1.out
      have f7 := HFF.out.2.2.2.2
      rw [seg_val, vC, vL] at D1
      rw [vH]
      omega)
    have HS1 := Lib.hid (And.intro S1 D1)
    clear S1 D1 ho4
    go_wp2_with fail
    with_reducible refine c5.mono ?_
    rintro e w5 ⟨X2, rfl, S2, D2, ho5, hb5⟩
    clear c5
    have hX2 : val X2 + hi xs half * hi ys half + lo xs half * lo ys half = (lo xs half + hi xs half) * (lo ys half + hi ys half) := by
      obtain ⟨vL, vH, vC⟩ := HR1.out
      obtain ⟨S1, D1⟩ := HS1.out
      have e2 : seg X2 0 Cl.length = val X2 := seg_all (by rw [S2.1, S1.1]; exact Nat.le_refl _)
      rw [seg_val, vC, vL] at D1
      rw [e2, vH] at D2
      omega
    have hX2l : X2.length = Cl.length := by rw [S2.1, HS1.out.1.1]
    have hT := Lib.hid (HT.out _ hX2)
    have HX2l := Lib.hid hX2l
    have hb35 := hb3.trans (hb4.trans hb5)
    have k5 := kH0.to hb35
    have kc5 := k5.2
    have HLX2 := Lib.hid S2.2.1
    have HO5 := Lib.hid ho5
    clear S2 D2 hX2 hX2l ho5 hb4 hb5 hb3
    go_upto_region 10 with (first
      | (at_make; refine wpList_make_full _ rfl _ _ 24 rfl w5.heap.size 40 i0 (.int .u32 0) 1 Tryd.underlying24 hti hz0 hz1 .i64 .i64 _ _ (4 * half) rfl rfl (by omega) (by omega) (by rw [hz2]; omega) (by unfold maxLen; omega) (Nat.le_refl _) ?_; intro w6 hown6 hgrow6; have hB6 : Below w5.heap.size w5 w6 := (Below.refl _ w5).grown hgrow6 (Nat.le_refl _) (fun _ h => by cases h); have hO6 := own_made hown6; rw [List.length_replicate] at hO6; have hbc6 := hb35.trans (hB6.mono hb35.size); have kc6 := (kH0.to hbc6).2; clear hown6 hgrow6 kc5)
      | (refine wpList_copy_L rfl (.tmp 31) (.tmp 32) rfl (off := 0) rfl rfl hO6 (rl.below hbc6 (Nat.le_refl _)) (by have := HFF.out.1; omega) (by have := HFF.out.1; simp; omega) hB6 ?_; intro w7 hO7 hB7; have hbc7 := hb35.trans (hB7.mono hb35.size); have kc7 := (kH0.to hbc7).2; clear hO6 kc6)
      | (refine wpList_copy_L rfl (.tmp 37) (.tmp 38) rfl (off := 2 * half) rfl rfl hO7 (rh.below hbc7 (Nat.le_refl _)) (by have := HFF.out.2.1; omega) (by have h1 := HFF.out.1; have h2 := HFF.out.2.1; rw [splL_length (by simp; omega)]; simp; omega) hB7 ?_; intro w8 hO8 hB8; have hbc8 := hb35.trans (hB8.mono hb35.size); have kc8 := (kH0.to hbc8).2; clear hO7 kc7))
    have hZ2 : val (splL (splL (List.replicate (4 * half) 0) 0 Ll) (2 * half) Hl) = lo xs half * lo ys half + 4294967296 ^ (2 * half) * (hi xs half * hi ys half) := by
      obtain ⟨vL, vH, vC⟩ := HR1.out
      rw [spl_val HFF.out.1 HFF.out.2.1, vL, vH]
    have hZ2l : (splL (splL (List.replicate (4 * half) 0) 0 Ll) (2 * half) Hl).length = 4 * half := by
      have h1 := HFF.out.1
      have h2 := HFF.out.2.1
      rw [splL_length (by rw [splL_length (by simp; omega)]; simp; omega), splL_length (by simp; omega)]; simp
    have hZ2m : Limbs (splL (splL (List.replicate (4 * half) 0) 0 Ll) (2 * half) Hl) := splL_limbs (splL_limbs (limbs_replicate _) (by rw [← LL.out]; exact lim_limbs _)) (by rw [← HH.out]; exact lim_limbs _)
    generalize splL (splL (List.replicate (4 * half) 0) 0 Ll) (2 * half) Hl = Z2 at *
    obtain ⟨A5, cap5, e5, g1, g2, rd5⟩ := HO5.out.rd HLX2.out
    injection e5 with ea eb ec
    subst ea ec
    have rd8 := rd5.below hB8 (Nat.le_refl _)
    have ct := trim_any _ cz X2 w8.drew _ rd8 g1 g2
    rw [HX2l.out] at ct
    obtain ⟨hT1, hT2⟩ := hT.out
    rw [← hZ2] at hT1
    have hroom := kar_room hZ2l hZ2m hT1 hT2
    have ca := add_in w5.heap.size half (4 * half - half) (4 * half - half) (4 * half) _ cz (lim (val X2)) Z2 w8.drew w5.heap.size (by rw [hZ2l]; exact hO8) hZ2m (by rw [hZ2l]; omega) rd8.limPart (lim_le (by omega)) (by omega) (by rw [val_lim]; exact hroom)
    have b1 : (0 : Int) ≤ (half : Int) := by omega
    have b2 : (half : Int) ≤ 4 * (half : Int) := by omega
    have b3 : ¬ (4 * half = half) := by omega
    have HT1 := Lib.hid hT1
    have HZ2l := Lib.hid hZ2l
    clear hZ2 hT1 hT2 hroom rd5 rd8 g1 g2 hZ2m hO8 hZ2l
    go_region_with (first
      | (go_at_call 87; (with_reducible refine ct.mono ?_); rintro e w9 ⟨rfl, rfl⟩)
      | (go_at_call 86; (with_reducible refine ca.mono ?_); rintro e w9 ⟨X3, rfl, S3, D3, ho9, hb9⟩))
    all_goals
      have hv3 := kar_done S3 D3 HT1.out (by rw [HZ2l.out]; omega)
      have hl3 : X3.length = 4 * half := by rw [S3.1, HZ2l.out]
      have hrd3 := ho9.rd S3.2.1
      obtain ⟨A9, cap9, e9, g1, g2, rd9⟩ := hrd3
      injection e9 with ea eb ec
      subst ea ec
      have cT := trim_any _ _ X3 _ _ rd9 g1 g2
      have hfin := (ho9.trimmed S3.2.1).more (B' := w.heap.size) (Nat.le_trans hbB.size (Nat.le_trans EB.out.1.size hb35.size))
      rw [hl3, hv3] at cT
      rw [hv3] at hfin
      have HFIN := Lib.hid hfin
      have HBEL := Lib.hid ((hbc.trans (hbc8.mono hbc.size)).drew.trans (hb9.mono (Nat.le_trans hbc.size hb35.size)))
      clear hv3 hl3 ho9 hb9 hfin S3 D3 rd9 g1 g2
      go_wp2_with fail
      with_reducible refine cT.mono ?_
      rintro e w10 ⟨rfl, rfl⟩
      clear cT
      go_wp2
      go_ret
      exact ⟨⟨_, rfl, HFIN.out⟩, HBEL.out⟩

end Go.Proofs.YtileljokijmpaaaDoor

/- Contract: byHalves, at the product that square hands it. -/
namespace Go.Proofs.YtileljokijmpaaaDoor
open Go.RowKit Go.Shelf

set_option linter.unusedVariables false

set_option maxRecDepth 100000 in
set_option maxHeartbeats 8000000 in
theorem byHalves_square {w : World} {va : Value} {xs : List Nat} {half pa n : Nat} (IH : SquareAt n) (ha : Arg w va xs) (cx : Canon xs) (h0 : half < xs.length) (hl : xs.length ≤ 2 * half) (hA : Box w pa va) (h1 : 0 < half) (hm : half ≤ 65535) (hn : half + 1 ≤ n) :
    Calls Tryd.prog 78 #[.int .i64 (half : Int), .func (.func 79) #[] #[.pointer (some ⟨pa, 0, none⟩)]] w (NewNat w (val xs * val xs)) := by
  obtain ⟨i0, hti, hz0, hz1, hz2⟩ := info_parts info32
  -- the world behind the three boxes
  obtain ⟨wB, hwB⟩ : ∃ wB, wB = ((w.alloc (.cells #[.int .i64 (half : Int)] 3)).alloc (.cells #[.func (.func 90) #[] #[.pointer (some ⟨w.heap.size, 0, none⟩)]] 46)).alloc (.cells #[.func (.func 92) #[] #[.pointer (some ⟨w.heap.size, 0, none⟩)]] 46) := ⟨_, rfl⟩
  have hbB : Below w.heap.size w wB := by rw [hwB]; exact (((Below.refl _ w).alloc (Nat.le_refl _) _).alloc (by simp) _).alloc (by simp; omega) _
  have hsz : wB.heap.size = w.heap.size + 3 := by rw [hwB]; simp
  have bH : Box wB w.heap.size (.int .i64 (half : Int)) := by rw [hwB]; exact ((Box.new w _ _).past _).past _
  have bL : Box wB (w.heap.size + 1) (lowF w.heap.size) := by rw [hwB]; exact (Box.new' _ _ _ (by simp)).past _
  have bG : Box wB (w.heap.size + 1 + 1) (highF w.heap.size) := by rw [hwB]; exact Box.new' _ _ _ (by simp)
  have HWB := Lib.hid hwB
  clear hwB
  go_enter Tryd.func78, Tryd.ntmps78
  go_upto_region 3 with fail
  rw [← HWB.out]
  have kL := bL.2
  have kG := bG.2
  unfold lowF at kL
  unfold highF at kG
  have hbd := hbB.drew
  have bd := (Below.refl wB.heap.size wB).drew
  have c1 := square1_low IH (ha.below hbd) (hA.to hbd) (bH.to bd) cx h0 hl h1 hm hn
  unfold lowF at c1
  have Ed := (env_start wB).drew
  go_cut [7, 8] (fun s7 s8 wx => Env wB wx [(s8, lim (hi xs half * hi xs half)), (s7, lim (lo xs half * lo xs half))])
  case first =>
    go_region_with (first
      | (go_at_call_of 79 (Value.func (.func 90) #[] #[.pointer (some ⟨w.heap.size, 0, none⟩)]); (with_reducible refine c1.mono ?_); rintro e w1 hN1; obtain ⟨v1, rfl, E1⟩ := Ed.addNew hN1; have kG1 := bG.at E1; unfold highF at kG1; have hb1 := hbB.trans (E1.1.mono hbB.size); have c2 := square1_high IH (ha.below hb1) (hA.to hb1) (bH.to E1.1) cx h0 hl h1 hm hn; unfold highF at c2; clear hN1)
      | (go_at_call_of 79 (Value.func (.func 92) #[] #[.pointer (some ⟨w.heap.size, 0, none⟩)]); (with_reducible refine c2.mono ?_); rintro e w2 hN2; obtain ⟨v2, rfl, E2⟩ := E1.addNew hN2; clear hN2))
    all_goals
      have HE := Lib.hid E2
      clear E1 E2 c1 c2 kG1 hb1
      go_wp2_with fail
      go_meet
      exact HE.out
  case rest =>
    have EC := hcut
    clear hcut c1 hbd bd Ed kL kG
    have hbc := hbB.trans (EC.1.mono hbB.size)
    have c3 := square1_both IH (ha.below hbc) (hA.to hbc) (bH.to EC.1) (bL.to EC.1) (bG.to EC.1) cx h0 hl h1 hm hn
    unfold bothF at c3
    have q1 := lo_lt cx.1 half
    have q2 := lo_lt cx.1 half
    have q3 := hi_lt cx.1 hl
    have q4 := hi_lt cx.1 hl
    have q5 := hi_pos cx h0
    have q6 := hi_pos cx h0
    have q7 := both_lt cx.1 hl
    have q8 := both_lt cx.1 hl
    have v1 := val_lohi xs (Nat.le_of_lt h0)
    have v2 := val_lohi xs (Nat.le_of_lt h0)
    have HF := Lib.hid (kar_facts q1 q2 q3 q4 q5 q6 q7 q8)
    have HT := Lib.hid (kar_top q1 q2 q3 q4 v1 v2)
    clear q1 q2 q3 q4 q5 q6 q7 q8 v1 v2
    generalize hLL : lim (lo xs half * lo xs half) = Ll at *
    generalize hHH : lim (hi xs half * hi xs half) = Hl at *
    generalize hCC : lim ((lo xs half + hi xs half) * (lo xs half + hi xs half)) = Cl at *
    have LL := Lib.hid hLL
    have HH := Lib.hid hHH
    have CC := Lib.hid hCC
    clear hLL hHH hCC
    obtain ⟨Ah, caph, rfl, _, _, rh⟩ := EC.get (v := u8) (xs := Hl) (by simp)
    obtain ⟨Al, capl, rfl, _, _, rl⟩ := EC.get (v := u7) (xs := Ll) (by simp)
    have kH0 := bH.to EC.1
    have EB := Lib.hid EC
    clear EC
    go_wp2_with fail
    with_reducible refine c3.mono ?_
    rintro e w3 hN3
    obtain ⟨⟨v3, rfl, ho3⟩, hb3⟩ := hN3
    rw [CC.out] at ho3
    clear c3
    have F := HF.out
    obtain ⟨f1, f2, f3, f4, f5, f6, f7⟩ := F
    obtain ⟨g, cz, rfl⟩ := ho3.head f3
    have lC : Limbs Cl := by rw [← CC.out]; exact lim_limbs _
    have vL : val Ll = lo xs half * lo xs half := by rw [← LL.out, val_lim]
    have vH : val Hl = hi xs half * hi xs half := by rw [← HH.out, val_lim]
    have vC : val Cl = (lo xs half + hi xs half) * (lo xs half + hi xs half) := by rw [← CC.out, val_lim]
    have c4 := sub_in g 0 Cl.length cz cz Al capl Ll Cl w3 wc.heap.size ho3 lC (by omega) (rl.below hb3 (Nat.le_refl _)) f5 (by omega) (by rw [seg_val, vL, vC]; omega)
    have HR1 := Lib.hid (And.intro vL (And.intro vH vC))
    have HFF := Lib.hid (And.intro f1 (And.intro f2 (And.intro f4 (And.intro f6 f7))))
    clear vL vH vC f1 f2 f3 f4 f5 f6 f7 ho3
    go_wp2_with fail
    with_reducible refine c4.mono ?_
    rintro e w4 ⟨X1, rfl, S1, D1, ho4, hb4⟩
    clear c4
    have c5 := sub_in g 0 Cl.length cz cz Ah caph Hl X1 w4 wc.heap.size ho4 S1.2.1 (by rw [S1.1]; omega) (rh.below (hb3.trans hb4) (Nat.le_refl _)) HFF.out.2.2.2.1 (by have := HFF.out.2.2.1; omega) (by
      obtain ⟨vL, vH, vC⟩ := HR1.out
      have f7 := HFF.out.2.2.2.2
      rw [seg_val, vC, vL] at D1
      rw [vH]
      omega)
    have HS1 := Lib.hid (And.intro S1 D1)
    clear S1 D1 ho4
    go_wp2_with fail
    with_reducible refine c5.mono ?_
    rintro e w5 ⟨X2, rfl, S2, D2, ho5, hb5⟩
    clear c5
    have hX2 : val X2 + hi xs half * hi xs half + lo xs half * lo xs half = (lo xs half + hi xs half) * (lo xs half + hi xs half) := by
      obtain ⟨vL, vH, vC⟩ := HR1.out
      obtain ⟨S1, D1⟩ := HS1.out
      have e2 : seg X2 0 Cl.length = val X2 := seg_all (by rw [S2.1, S1.1]; exact Nat.le_refl _)
      rw [seg_val, vC, vL] at D1
      rw [e2, vH] at D2
      omega
    have hX2l : X2.length = Cl.length := by rw [S2.1, HS1.out.1.1]
    have hT := Lib.hid (HT.out _ hX2)
    have HX2l := Lib.hid hX2l
    have hb35 := hb3.trans (hb4.trans hb5)
    have k5 := kH0.to hb35
    have kc5 := k5.2
    have HLX2 := Lib.hid S2.2.1
    have HO5 := Lib.hid ho5
    clear S2 D2 hX2 hX2l ho5 hb4 hb5 hb3
    go_upto_region 10 with (first
      | (at_make; refine wpList_make_full _ rfl _ _ 24 rfl w5.heap.size 40 i0 (.int .u32 0) 1 Tryd.underlying24 hti hz0 hz1 .i64 .i64 _ _ (4 * half) rfl rfl (by omega) (by omega) (by rw [hz2]; omega) (by unfold maxLen; omega) (Nat.le_refl _) ?_; intro w6 hown6 hgrow6; have hB6 : Below w5.heap.size w5 w6 := (Below.refl _ w5).grown hgrow6 (Nat.le_refl _) (fun _ h => by cases h); have hO6 := own_made hown6; rw [List.length_replicate] at hO6; have hbc6 := hb35.trans (hB6.mono hb35.size); have kc6 := (kH0.to hbc6).2; clear hown6 hgrow6 kc5)
      | (refine wpList_copy_L rfl (.tmp 31) (.tmp 32) rfl (off := 0) rfl rfl hO6 (rl.below hbc6 (Nat.le_refl _)) (by have := HFF.out.1; omega) (by have := HFF.out.1; simp; omega) hB6 ?_; intro w7 hO7 hB7; have hbc7 := hb35.trans (hB7.mono hb35.size); have kc7 := (kH0.to hbc7).2; clear hO6 kc6)
      | (refine wpList_copy_L rfl (.tmp 37) (.tmp 38) rfl (off := 2 * half) rfl rfl hO7 (rh.below hbc7 (Nat.le_refl _)) (by have := HFF.out.2.1; omega) (by have h1 := HFF.out.1; have h2 := HFF.out.2.1; rw [splL_length (by simp; omega)]; simp; omega) hB7 ?_; intro w8 hO8 hB8; have hbc8 := hb35.trans (hB8.mono hb35.size); have kc8 := (kH0.to hbc8).2; clear hO7 kc7))
    have hZ2 : val (splL (splL (List.replicate (4 * half) 0) 0 Ll) (2 * half) Hl) = lo xs half * lo xs half + 4294967296 ^ (2 * half) * (hi xs half * hi xs half) := by
      obtain ⟨vL, vH, vC⟩ := HR1.out
      rw [spl_val HFF.out.1 HFF.out.2.1, vL, vH]
    have hZ2l : (splL (splL (List.replicate (4 * half) 0) 0 Ll) (2 * half) Hl).length = 4 * half := by
      have h1 := HFF.out.1
      have h2 := HFF.out.2.1
      rw [splL_length (by rw [splL_length (by simp; omega)]; simp; omega), splL_length (by simp; omega)]; simp
    have hZ2m : Limbs (splL (splL (List.replicate (4 * half) 0) 0 Ll) (2 * half) Hl) := splL_limbs (splL_limbs (limbs_replicate _) (by rw [← LL.out]; exact lim_limbs _)) (by rw [← HH.out]; exact lim_limbs _)
    generalize splL (splL (List.replicate (4 * half) 0) 0 Ll) (2 * half) Hl = Z2 at *
    obtain ⟨A5, cap5, e5, g1, g2, rd5⟩ := HO5.out.rd HLX2.out
    injection e5 with ea eb ec
    subst ea ec
    have rd8 := rd5.below hB8 (Nat.le_refl _)
    have ct := trim_any _ cz X2 w8.drew _ rd8 g1 g2
    rw [HX2l.out] at ct
    obtain ⟨hT1, hT2⟩ := hT.out
    rw [← hZ2] at hT1
    have hroom := kar_room hZ2l hZ2m hT1 hT2
    have ca := add_in w5.heap.size half (4 * half - half) (4 * half - half) (4 * half) _ cz (lim (val X2)) Z2 w8.drew w5.heap.size (by rw [hZ2l]; exact hO8) hZ2m (by rw [hZ2l]; omega) rd8.limPart (lim_le (by omega)) (by omega) (by rw [val_lim]; exact hroom)
    have b1 : (0 : Int) ≤ (half : Int) := by omega
    have b2 : (half : Int) ≤ 4 * (half : Int) := by omega
    have b3 : ¬ (4 * half = half) := by omega
    have HT1 := Lib.hid hT1
    have HZ2l := Lib.hid hZ2l
    clear hZ2 hT1 hT2 hroom rd5 rd8 g1 g2 hZ2m hO8 hZ2l
    go_region_with (first
      | (go_at_call 87; (with_reducible refine ct.mono ?_); rintro e w9 ⟨rfl, rfl⟩)
      | (go_at_call 86; (with_reducible refine ca.mono ?_); rintro e w9 ⟨X3, rfl, S3, D3, ho9, hb9⟩))
    all_goals
      have hv3 := kar_done S3 D3 HT1.out (by rw [HZ2l.out]; omega)
      have hl3 : X3.length = 4 * half := by rw [S3.1, HZ2l.out]
      have hrd3 := ho9.rd S3.2.1
      obtain ⟨A9, cap9, e9, g1, g2, rd9⟩ := hrd3
      injection e9 with ea eb ec
      subst ea ec
      have cT := trim_any _ _ X3 _ _ rd9 g1 g2
      have hfin := (ho9.trimmed S3.2.1).more (B' := w.heap.size) (Nat.le_trans hbB.size (Nat.le_trans EB.out.1.size hb35.size))
      rw [hl3, hv3] at cT
      rw [hv3] at hfin
      have HFIN := Lib.hid hfin
      have HBEL := Lib.hid ((hbc.trans (hbc8.mono hbc.size)).drew.trans (hb9.mono (Nat.le_trans hbc.size hb35.size)))
      clear hv3 hl3 ho9 hb9 hfin S3 D3 rd9 g1 g2
      go_wp2_with fail
      with_reducible refine cT.mono ?_
      rintro e w10 ⟨rfl, rfl⟩
      clear cT
      go_wp2
      go_ret
      exact ⟨⟨_, rfl, HFIN.out⟩, HBEL.out⟩

end Go.Proofs.YtileljokijmpaaaDoor

/- Contracts: add where what is added lies in a later block; byPieces, times, square. -/
namespace Go.Proofs.YtileljokijmpaaaDoor
open Go.RowKit Go.Shelf

set_option linter.unusedVariables false

/-- What add leaves. -/
def AddFar (Z : List Nat) (off n : Nat) (ys : List Nat) (g cz B : Nat) (w : World) (e : Ending) (w' : World) : Prop :=
  ∃ X : List Nat, e = .returned (.tuple #[]) ∧ Same Z off n X ∧ seg X off n = seg Z off n + val ys ∧ Own w' B (.slice (some ⟨g, 0, none⟩) X.length cz) X ∧ Only g w w'

set_option maxHeartbeats 2000000 in
theorem add_far (g off n cp cz : Nat) (A : Option Addr) (cap : Nat) (ys Z : List Nat) (w : World) (B : Nat) (hO : Own w B (.slice (some ⟨g, 0, none⟩) Z.length cz) Z) (hZ : Limbs Z) (hoff : off + n ≤ Z.length) (hr : Far w g A ys) (hl : ys.length ≤ n) (hn : n ≤ 2097152) (hv : seg Z off n + val ys < 4294967296 ^ n) :
    Calls Tryd.prog 86 #[.slice (some ⟨g, off, none⟩) n cp, .slice A ys.length cap] w (AddFar Z off n ys g cz B w) := by
  have HV := Lib.hid hv
  clear hv
  go_enter Tryd.func86, Tryd.ntmps86
  go_wp2
  go_loopw [4, 5] (fun c i wr => ∃ (k cc : Nat) (X : List Nat), k ≤ n ∧ i = .int .i64 (k : Int) ∧ c = .int .u64 (cc : Int) ∧ AddI Z off ys k cc X ∧ Own wr B (.slice (some ⟨g, 0, none⟩) X.length cz) X ∧ Only g w wr) (fun _ i _ => n - (intOf i).toNat)
  case atStart => exact ⟨0, 0, Z, Nat.zero_le _, rfl, rfl, AddI.start hZ off ys, hO, Only.refl _ _⟩
  case round =>
    obtain ⟨k, cc, X, hk, rfl, rfl, hI, hX, hB⟩ := hrel
    have hc1 : cc ≤ 1 := hI.2.1
    by_cases hlt : k < ys.length
    · obtain ⟨b, o, rfl, hb, hcell⟩ := hr.2 (by omega)
      have hyc := (hB.cell (p := ⟨b, o + k, none⟩) hb).trans (hcell k hlt)
      have hxl : X.length = Z.length := hI.1.1
      have hxc := hX.cellAt (j := off + k) (by omega)
      have hxf := World.ownsRow.frozenAt hX (off + k)
      have hyl := hr.limbs.getD k
      have hx1 := hI.1.2.1.getD (off + k)
      generalize hy : ys[k]?.getD 0 = y at *
      generalize hx : X[off + k]?.getD 0 = x at *
      have hput := Lib.hid fun v => hX.put (j := off + k) (v := v)
      have hbe := Lib.hid fun v => hB.setCell (off + k) v
      have e1 := Lib.hid (show ((cc : Int) + x + y) % 4294967296 = (((cc + x + y) % 4294967296 : Nat) : Int) from by omega)
      have e2 := Lib.hid (show ((cc : Int) + x + y) / 4294967296 = (((cc + x + y) / 4294967296 : Nat) : Int) from by omega)
      have hst := Lib.hid (hI.step (s := cc + x + y) (by omega) hr.limbs (by rw [hy, hx]))
      have hnn : k < n := by omega
      clear hy hx hxl hcell hI hX hB hO hr hoff hl
      go_wp2
      go_roundw
      case rel =>
        refine ⟨k + 1, (cc + x + y) / 4294967296, X.set (off + k) ((cc + x + y) % 4294967296), by omega, by go_num, by rw [e2.out], hst.out, ?_, hbe.out _⟩
        have := hput.out ((cc + x + y) % 4294967296)
        unfold lv at this
        rw [← e1.out] at this
        exact this
      case measure => simp [intOf]; omega
    · by_cases hc0 : 0 < cc
      · have hnn : k < n := hI.room hc0 hk HV.out (by omega)
        have hxl : X.length = Z.length := hI.1.1
        have hxc := hX.cellAt (j := off + k) (by omega)
        have hxf := World.ownsRow.frozenAt hX (off + k)
        have hx1 := hI.1.2.1.getD (off + k)
        generalize hx : X[off + k]?.getD 0 = x at *
        have hput := Lib.hid fun v => hX.put (j := off + k) (v := v)
        have hbe := Lib.hid fun v => hB.setCell (off + k) v
        have e1 := Lib.hid (show ((cc : Int) + x) % 4294967296 = (((cc + x) % 4294967296 : Nat) : Int) from by omega)
        have e2 := Lib.hid (show ((cc : Int) + x) / 4294967296 = (((cc + x) / 4294967296 : Nat) : Int) from by omega)
        have hst := Lib.hid (hI.step (s := cc + x) (by omega) hr.limbs (by rw [hx, List.getElem?_eq_none (by omega)]; rfl))
        clear hx hxl hI hX hB hO hr hoff hl
        go_wp2
        go_roundw
        case rel =>
          refine ⟨k + 1, (cc + x) / 4294967296, X.set (off + k) ((cc + x) % 4294967296), by omega, by go_num, by rw [e2.out], hst.out, ?_, hbe.out _⟩
          have := hput.out ((cc + x) % 4294967296)
          unfold lv at this
          rw [← e1.out] at this
          exact this
        case measure => simp [intOf]; omega
      · obtain rfl : cc = 0 := by omega
        have hd := Lib.hid (hI.done hk (by omega))
        have hs := Lib.hid (hI.1.more hk)
        have hX' := Lib.hid hX
        have hB' := Lib.hid hB
        clear hI hX hB hO hr hoff
        go_wp2
        go_end0
        exact ⟨X, rfl, hs.out, hd.out, hX'.out, hB'.out⟩

/-! ### byPieces -/
theorem room_gen {Z : List Nat} {off C T N : Nat} (hl : Z.length = N) (ho : off ≤ N) (h : val Z + 4294967296 ^ off * C = T) (hT : T < 4294967296 ^ N) : seg Z off (N - off) + C < 4294967296 ^ (N - off) := by
  rw [← seg_val Z, hl] at h
  have e : seg Z 0 N = seg Z 0 off + 4294967296 ^ off * seg Z off (N - off) := by
    conv => lhs; rw [show N = off + (N - off) from by omega]
    rw [seg_add, Nat.zero_add]
  have e2 : 4294967296 ^ N = 4294967296 ^ off * 4294967296 ^ (N - off) := by rw [← Nat.pow_add]; congr 1; omega
  rw [e] at h
  rw [e2] at hT
  have h3 : 4294967296 ^ off * (seg Z off (N - off) + C) < 4294967296 ^ off * 4294967296 ^ (N - off) := by
    rw [Nat.mul_add]; omega
  exact Nat.lt_of_mul_lt_mul_left h3
def PcI (xs ys : List Nat) (k : Nat) (X : List Nat) : Prop := X.length = xs.length + ys.length ∧ Limbs X ∧ val X = seg xs 0 (min k xs.length) * val ys
theorem PcI.start (xs ys : List Nat) : PcI xs ys 0 (List.replicate (xs.length + ys.length) 0) := ⟨by simp, limbs_replicate _, by rw [val_replicate, Nat.zero_min]; simp [seg]⟩
theorem seg_le_val {xs : List Nat} {k : Nat} (h : k ≤ xs.length) : seg xs 0 k ≤ val xs := by
  rw [← seg_val xs]
  conv => rhs; rw [show xs.length = k + (xs.length - k) from by omega]
  rw [seg_add]; omega
theorem mul_lt_pow {xs ys : List Nat} (hx : Limbs xs) (hy : Limbs ys) : val xs * val ys < 4294967296 ^ (xs.length + ys.length) := by
  rw [Nat.pow_add]; exact Nat.mul_lt_mul'' (val_lt hx) (val_lt hy)
/-- What one more piece makes. -/
theorem PcI.sum {xs ys X : List Nat} {k : Nat} (h : PcI xs ys k X) (hk : k < xs.length) : val X + 4294967296 ^ k * (val (pieceL xs k ys.length) * val ys) = seg xs 0 (min (k + ys.length) xs.length) * val ys := by
  rw [h.2.2, pieceL_val, Nat.min_eq_left (by omega), show min (k + ys.length) xs.length = k + min ys.length (xs.length - k) from by omega, seg_add, Nat.zero_add, Nat.add_mul, Nat.mul_assoc]
theorem PcI.room {xs ys X : List Nat} {k : Nat} (h : PcI xs ys k X) (hk : k < xs.length) (hx : Limbs xs) (hy : Limbs ys) : seg X k (xs.length + ys.length - k) + val (lim (val (pieceL xs k ys.length) * val ys)) < 4294967296 ^ (xs.length + ys.length - k) := by
  rw [val_lim]
  refine room_gen h.1 (by omega) (h.sum hk) (Nat.lt_of_le_of_lt (Nat.mul_le_mul_right _ (seg_le_val ?_)) (mul_lt_pow hx hy))
  omega
theorem PcI.step {xs ys X Y : List Nat} {k : Nat} (h : PcI xs ys k X) (hk : k < xs.length) (S : Same X k (xs.length + ys.length - k) Y) (D : seg Y k (xs.length + ys.length - k) = seg X k (xs.length + ys.length - k) + val (lim (val (pieceL xs k ys.length) * val ys))) : PcI xs ys (k + ys.length) Y := by
  refine ⟨by rw [S.1, h.1], S.2.1, ?_⟩
  have hw := S.whole (by rw [h.1]; omega)
  rw [D, val_lim, Nat.mul_add] at hw
  have := h.sum hk
  omega
theorem PcI.done {xs ys X : List Nat} {k : Nat} (h : PcI xs ys k X) (hk : xs.length ≤ k) : val X = val xs * val ys := by rw [h.2.2, Nat.min_eq_right hk, seg_val]
set_option maxRecDepth 100000 in
set_option maxHeartbeats 8000000 in
theorem byPieces_any {n : Nat} (IH : TimesAt n) (va vb : Value) (xs ys : List Nat) (w : World) (ha : Arg w va xs) (hv : Arg w vb ys) (cx : Canon xs) (cy : Canon ys) (h0 : 0 < ys.length) (hl : xs.length ≤ 65536) (hl' : ys.length ≤ 65536) (hn : 2 * ys.length ≤ n) (hx0 : 0 < xs.length) :
    Calls Tryd.prog 81 #[va, vb] w (NewNat w (val xs * val ys)) := by
  obtain ⟨i0, hti, hz0, hz1, hz2⟩ := info_parts info32
  obtain ⟨b, o, cap, rfl, hc, hm, hr⟩ := ha.some hx0
  obtain ⟨A', cap', rfl, hc', hm', hr'⟩ := id hv
  have hvv := Lib.hid hv
  clear ha hv
  unfold maxLen at hm
  go_enter Tryd.func81, Tryd.ntmps81
  go_wp2_with (at_make; refine wpList_make_full _ rfl _ _ 24 rfl w.heap.size 40 i0 (.int .u32 0) 1 Tryd.underlying24 hti hz0 hz1 .i64 .i64 _ _ (xs.length + ys.length) rfl rfl (by omega) (by omega) (by rw [hz2]; omega) (by unfold maxLen; omega) (Nat.le_refl _) ?_; intro w1 hown0 hgrow0)
  have hB0 : Below w.heap.size w w1 := (Below.refl _ w).grown hgrow0 (Nat.le_refl _) (fun _ h => by cases h)
  have hO0 := own_made hown0
  clear hown0 hgrow0
  go_loopw [6] (fun i wr => ∃ (k : Nat) (X : List Nat), k ≤ xs.length + ys.length ∧ i = .int .i64 (k : Int) ∧ PcI xs ys k X ∧ Own wr w.heap.size (.slice (some ⟨w.heap.size, 0, none⟩) X.length (xs.length + ys.length)) X ∧ Below w.heap.size w wr ∧ w.heap.size < wr.heap.size) (fun i _ => xs.length + ys.length - (intOf i).toNat)
  case atStart => exact ⟨0, _, Nat.zero_le _, rfl, PcI.start xs ys, hO0, hB0, hO0.lt_size⟩
  case round =>
    clear hB0 hO0
    obtain ⟨k, X, hk, rfl, hI, hX, hB, hsz⟩ := hrel
    by_cases hlt : k < xs.length
    · have c1 := piece_any b o cap xs k (k + ys.length) wr.drew _ (hr.below hB.drew (Nat.le_refl _)) hlt (by omega) (by unfold maxLen; omega) hc (by unfold maxLen; omega)
      rw [Int.natCast_add, Nat.add_sub_cancel_left] at c1
      have hpl := pieceL_le hr.limbs k ys.length
      have hroom := Lib.hid (hI.room hlt hr.limbs hr'.limbs)
      have hXl := hI.1
      have hLp : pieceL xs k ys.length = lim (seg xs k (min ys.length (xs.length - k))) := rfl
      have hcan : Hid (Canon (pieceL xs k ys.length)) := by rw [hLp]; exact canon_lim _
      have HI := Lib.hid hI
      have HX := Lib.hid hX
      have HB := Lib.hid hB
      have hpm : (pieceL xs k ys.length).length ≤ maxLen := by unfold maxLen; omega
      have s1 : IntKind.i64.wrap ((k : Int) + (ys.length : Int)) = (k : Int) + (ys.length : Int) := wr64 (by omega) (by omega)
      have b1 : (0 : Int) ≤ (k : Int) := by omega
      have b2 : (k : Int) ≤ (xs.length : Int) + (ys.length : Int) := by omega
      have b3 : ¬ (xs.length + ys.length = k) := by omega
      have HXl := Lib.hid hXl
      clear hI hX hB hLp hr hr' hXl
      have hcT := Lib.hid fun Ap (hrp : Rd wr.drew w.heap.size Ap (pieceL xs k ys.length)) => IH (.slice Ap (pieceL xs k ys.length).length (pieceL xs k ys.length).length) (.slice A' ys.length cap') (pieceL xs k ys.length) ys wr.drew ⟨Ap, _, rfl, Nat.le_refl _, hpm, hrp.more (Nat.le_of_lt hsz)⟩ (hvv.out.below HB.out.drew) hcan.out cy (by omega) hl' (by omega)
      go_upto_region 5 with fail
      go_region_with (first
        | (go_at_call 91; (with_reducible refine c1.mono ?_); rintro e w2 ⟨⟨Ap, rfl, hrp⟩, rfl⟩; have cT := hcT.out Ap hrp)
        | (go_at_call 65; (with_reducible refine cT.mono ?_); rintro e w3 ⟨⟨v3, rfl, ho3⟩, hb3⟩; obtain ⟨A3, cap3, rfl, hf3⟩ := ho3.far (g := w.heap.size) (lim_limbs _) hsz; have ca := add_far w.heap.size k (xs.length + ys.length - k) (xs.length + ys.length - k) (xs.length + ys.length) A3 cap3 _ X w3 w.heap.size (HX.out.below ((Below.refl wr.heap.size wr).drew.trans hb3)) HI.out.2.1 (by rw [HXl.out]; omega) hf3 (lim_le (by have := hroom.out; rw [val_lim] at this; omega)) (by omega) hroom.out)
        | (go_at_call 86; (with_reducible refine ca.mono ?_); rintro e w4 ⟨Y, rfl, S, D, ho4, hb4⟩))
      all_goals
        have hst := Lib.hid (HI.out.step hlt S D)
        have HO4 := Lib.hid ho4
        have HB4 := Lib.hid ((HB.out.drew.trans (hb3.mono (by show w.heap.size ≤ wr.heap.size; omega))).trans (hb4.below (Nat.le_refl _)))
        have HS4 := Lib.hid (show w.heap.size < w4.heap.size from ho4.lt_size)
        clear S D ho4 hb4 hb3 ho3 hf3 ca cT c1
        go_wp2_with fail
        go_roundw
        case rel => exact ⟨k + ys.length, _, by omega, by go_num, hst.out, HO4.out, HB4.out, HS4.out⟩
        case measure => simp [intOf]; omega
    · have hlX : Limbs X := hI.2.1
      have hv := hI.done (by omega)
      have hXl := hI.1
      obtain ⟨A2, cap2, e2, g1, g2, hrd⟩ := hX.rd hlX
      injection e2 with ea eb ec
      subst ea ec
      have cT := trim_any _ _ X wr _ hrd g1 g2
      have hfin := hX.trimmed hlX
      rw [hv, hXl] at cT
      rw [hv] at hfin
      have HF := Lib.hid hfin
      have HB := Lib.hid hB
      clear hI hX hB hr hr' hrd g1 g2 hfin hv hXl
      go_wp2_with fail
      with_reducible refine cT.mono ?_
      rintro e wn ⟨rfl, rfl⟩
      clear cT
      go_wp2
      go_ret
      exact ⟨⟨_, rfl, HF.out⟩, HB.out⟩

end Go.Proofs.YtileljokijmpaaaDoor

/- Contracts: times, square, Mul, Square. -/
namespace Go.Proofs.YtileljokijmpaaaDoor
open Go.RowKit Go.Shelf

set_option linter.unusedVariables false

theorem NewNat.of_alloc {w wB : World} {n : Nat} {e : Ending} {w' : World} (hb : Below w.heap.size w wB) (h : NewNat wB n e w') : NewNat w n e w' := by
  obtain ⟨⟨v, he, ho⟩, hbl⟩ := h
  exact ⟨⟨v, he, ho.more hb.size⟩, hb.trans (hbl.mono hb.size)⟩
theorem two_boxes (w : World) (v1 v2 : Value) (t : TypeId) : Below w.heap.size w ((w.alloc (.cells #[v1] t)).alloc (.cells #[v2] t)) ∧ Box ((w.alloc (.cells #[v1] t)).alloc (.cells #[v2] t)) w.heap.size v1 ∧ Box ((w.alloc (.cells #[v1] t)).alloc (.cells #[v2] t)) (w.heap.size + 1) v2 :=
  ⟨((Below.refl _ w).alloc (Nat.le_refl _) _).alloc (by simp) _, (Box.new w _ _).past _, Box.new' _ _ _ (by simp)⟩

set_option maxRecDepth 100000 in
set_option maxHeartbeats 2000000 in
theorem times_plimbs {n : Nat} (IH : TimesAt n) (A A' : Option Addr) (cap cap' : Nat) (xs ys : List Nat) (w : World) (ha : Arg w (.slice A xs.length cap) xs) (hv : Arg w (.slice A' ys.length cap') ys) (cx : Canon xs) (cy : Canon ys) (hl : xs.length ≤ 65536) (hl' : ys.length ≤ 65536) (hn : xs.length + ys.length ≤ n + 1) (h1 : ¬ xs.length < ys.length) (h2 : ys.length < 64) :
    Calls Tryd.prog 65 #[.slice A xs.length cap, .slice A' ys.length cap'] w (NewNat w (val xs * val ys)) := by
  obtain ⟨hb, x1, x2⟩ := two_boxes w (.slice A xs.length cap) (.slice A' ys.length cap') 24
  obtain ⟨wB, hwB⟩ : ∃ wB, wB = (w.alloc (.cells #[(.slice A xs.length cap)] 24)).alloc (.cells #[(.slice A' ys.length cap')] 24) := ⟨_, rfl⟩
  rw [← hwB] at hb x1 x2
  have a1 := (ha).below hb
  have a2 := (hv).below hb
  have r1 : Rd wB wB.heap.size A xs := by obtain ⟨A1, c1, e1, _, _, hr1⟩ := a1; injection e1 with e2; rw [e2]; exact hr1
  have r2 : Rd wB wB.heap.size A' ys := by obtain ⟨A1, c1, e1, _, _, hr1⟩ := a2; injection e1 with e2; rw [e2]; exact hr1
  have c := byLimbs_any A A' cap cap' xs ys wB r1 r2 (by omega) (by omega)
  have HB := Lib.hid hb
  have HW := Lib.hid hwB
  rw [hwB] at c
  clear a1 a2 x1 x2 hb hwB ha hv cx cy r1 r2 IH
  go_enter Tryd.func65, Tryd.ntmps65
  go_wp2_with fail
  with_reducible refine c.mono ?_
  rintro e w' hN
  obtain ⟨⟨v, rfl, ho⟩, hbl⟩ := hN
  rw [← HW.out] at ho hbl
  have HO := Lib.hid (ho.more HB.out.size)
  have HL := Lib.hid (HB.out.trans (hbl.mono HB.out.size))
  clear ho hbl c
  go_wp2
  go_ret
  exact ⟨⟨_, rfl, HO.out⟩, HL.out⟩

set_option maxRecDepth 100000 in
set_option maxHeartbeats 2000000 in
theorem times_ppieces {n : Nat} (IH : TimesAt n) (A A' : Option Addr) (cap cap' : Nat) (xs ys : List Nat) (w : World) (ha : Arg w (.slice A xs.length cap) xs) (hv : Arg w (.slice A' ys.length cap') ys) (cx : Canon xs) (cy : Canon ys) (hl : xs.length ≤ 65536) (hl' : ys.length ≤ 65536) (hn : xs.length + ys.length ≤ n + 1) (h1 : ¬ xs.length < ys.length) (h2 : ¬ ys.length < 64) (h3 : ys.length ≤ (xs.length + 1) / 2) :
    Calls Tryd.prog 65 #[.slice A xs.length cap, .slice A' ys.length cap'] w (NewNat w (val xs * val ys)) := by
  obtain ⟨hb, x1, x2⟩ := two_boxes w (.slice A xs.length cap) (.slice A' ys.length cap') 24
  obtain ⟨wB, hwB⟩ : ∃ wB, wB = (w.alloc (.cells #[(.slice A xs.length cap)] 24)).alloc (.cells #[(.slice A' ys.length cap')] 24) := ⟨_, rfl⟩
  rw [← hwB] at hb x1 x2
  have a1 := (ha).below hb
  have a2 := (hv).below hb
  have c := byPieces_any IH (.slice A xs.length cap) (.slice A' ys.length cap') xs ys wB a1 a2 cx cy (by omega) (by omega) (by omega) (by omega) (by omega)
  have HB := Lib.hid hb
  have HW := Lib.hid hwB
  rw [hwB] at c
  have g3 : ((ys.length : Nat) : Int) ≤ (((xs.length : Nat) : Int) + 1) / 2 := by omega
  clear a1 a2 x1 x2 hb hwB ha hv cx cy h3 IH
  go_enter Tryd.func65, Tryd.ntmps65
  go_wp2_with fail
  with_reducible refine c.mono ?_
  rintro e w' hN
  obtain ⟨⟨v, rfl, ho⟩, hbl⟩ := hN
  rw [← HW.out] at ho hbl
  have HO := Lib.hid (ho.more HB.out.size)
  have HL := Lib.hid (HB.out.trans (hbl.mono HB.out.size))
  clear ho hbl c
  go_wp2
  go_ret
  exact ⟨⟨_, rfl, HO.out⟩, HL.out⟩

set_option maxRecDepth 100000 in
set_option maxHeartbeats 2000000 in
theorem times_phalves {n : Nat} (IH : TimesAt n) (A A' : Option Addr) (cap cap' : Nat) (xs ys : List Nat) (w : World) (ha : Arg w (.slice A xs.length cap) xs) (hv : Arg w (.slice A' ys.length cap') ys) (cx : Canon xs) (cy : Canon ys) (hl : xs.length ≤ 65536) (hl' : ys.length ≤ 65536) (hn : xs.length + ys.length ≤ n + 1) (h1 : ¬ xs.length < ys.length) (h2 : ¬ ys.length < 64) (h3 : ¬ ys.length ≤ (xs.length + 1) / 2) :
    Calls Tryd.prog 65 #[.slice A xs.length cap, .slice A' ys.length cap'] w (NewNat w (val xs * val ys)) := by
  obtain ⟨hb, x1, x2⟩ := two_boxes w (.slice A xs.length cap) (.slice A' ys.length cap') 24
  obtain ⟨wB, hwB⟩ : ∃ wB, wB = (w.alloc (.cells #[(.slice A xs.length cap)] 24)).alloc (.cells #[(.slice A' ys.length cap')] 24) := ⟨_, rfl⟩
  rw [← hwB] at hb x1 x2
  have a1 := (ha).below hb
  have a2 := (hv).below hb
  have c := byHalves_times (half := (xs.length + 1) / 2) IH a1 a2 cx cy (by omega) (by omega) (by omega) (by omega) x1 x2 (by omega) (by omega) (by omega)
  rw [show ((((xs.length + 1) / 2 : Nat)) : Int) = (((xs.length : Nat) : Int) + 1) / 2 from by omega] at c
  have HB := Lib.hid hb
  have HW := Lib.hid hwB
  rw [hwB] at c
  have g3 : ¬ ((ys.length : Nat) : Int) ≤ (((xs.length : Nat) : Int) + 1) / 2 := by omega
  clear a1 a2 x1 x2 hb hwB ha hv cx cy h3 IH
  go_enter Tryd.func65, Tryd.ntmps65
  go_wp2_with fail
  with_reducible refine c.mono ?_
  rintro e w' hN
  obtain ⟨⟨v, rfl, ho⟩, hbl⟩ := hN
  rw [← HW.out] at ho hbl
  have HO := Lib.hid (ho.more HB.out.size)
  have HL := Lib.hid (HB.out.trans (hbl.mono HB.out.size))
  clear ho hbl c
  go_wp2
  go_ret
  exact ⟨⟨_, rfl, HO.out⟩, HL.out⟩

set_option maxRecDepth 100000 in
set_option maxHeartbeats 2000000 in
theorem times_slimbs {n : Nat} (IH : TimesAt n) (A A' : Option Addr) (cap cap' : Nat) (xs ys : List Nat) (w : World) (ha : Arg w (.slice A xs.length cap) xs) (hv : Arg w (.slice A' ys.length cap') ys) (cx : Canon xs) (cy : Canon ys) (hl : xs.length ≤ 65536) (hl' : ys.length ≤ 65536) (hn : xs.length + ys.length ≤ n + 1) (h1 : xs.length < ys.length) (h2 : xs.length < 64) :
    Calls Tryd.prog 65 #[.slice A xs.length cap, .slice A' ys.length cap'] w (NewNat w (val ys * val xs)) := by
  obtain ⟨hb, x1, x2⟩ := two_boxes w (.slice A' ys.length cap') (.slice A xs.length cap) 24
  obtain ⟨wB, hwB⟩ : ∃ wB, wB = (w.alloc (.cells #[(.slice A' ys.length cap')] 24)).alloc (.cells #[(.slice A xs.length cap)] 24) := ⟨_, rfl⟩
  rw [← hwB] at hb x1 x2
  have a1 := (hv).below hb
  have a2 := (ha).below hb
  have r1 : Rd wB wB.heap.size A' ys := by obtain ⟨A1, c1, e1, _, _, hr1⟩ := a1; injection e1 with e2; rw [e2]; exact hr1
  have r2 : Rd wB wB.heap.size A xs := by obtain ⟨A1, c1, e1, _, _, hr1⟩ := a2; injection e1 with e2; rw [e2]; exact hr1
  have c := byLimbs_any A' A cap' cap ys xs wB r1 r2 (by omega) (by omega)
  have HB := Lib.hid hb
  have HW := Lib.hid hwB
  rw [hwB] at c
  clear a1 a2 x1 x2 hb hwB ha hv cx cy r1 r2 IH
  go_enter Tryd.func65, Tryd.ntmps65
  go_wp2_with fail
  with_reducible refine c.mono ?_
  rintro e w' hN
  obtain ⟨⟨v, rfl, ho⟩, hbl⟩ := hN
  rw [← HW.out] at ho hbl
  have HO := Lib.hid (ho.more HB.out.size)
  have HL := Lib.hid (HB.out.trans (hbl.mono HB.out.size))
  clear ho hbl c
  go_wp2
  go_ret
  exact ⟨⟨_, rfl, HO.out⟩, HL.out⟩

set_option maxRecDepth 100000 in
set_option maxHeartbeats 2000000 in
theorem times_spieces {n : Nat} (IH : TimesAt n) (A A' : Option Addr) (cap cap' : Nat) (xs ys : List Nat) (w : World) (ha : Arg w (.slice A xs.length cap) xs) (hv : Arg w (.slice A' ys.length cap') ys) (cx : Canon xs) (cy : Canon ys) (hl : xs.length ≤ 65536) (hl' : ys.length ≤ 65536) (hn : xs.length + ys.length ≤ n + 1) (h1 : xs.length < ys.length) (h2 : ¬ xs.length < 64) (h3 : xs.length ≤ (ys.length + 1) / 2) :
    Calls Tryd.prog 65 #[.slice A xs.length cap, .slice A' ys.length cap'] w (NewNat w (val ys * val xs)) := by
  obtain ⟨hb, x1, x2⟩ := two_boxes w (.slice A' ys.length cap') (.slice A xs.length cap) 24
  obtain ⟨wB, hwB⟩ : ∃ wB, wB = (w.alloc (.cells #[(.slice A' ys.length cap')] 24)).alloc (.cells #[(.slice A xs.length cap)] 24) := ⟨_, rfl⟩
  rw [← hwB] at hb x1 x2
  have a1 := (hv).below hb
  have a2 := (ha).below hb
  have c := byPieces_any IH (.slice A' ys.length cap') (.slice A xs.length cap) ys xs wB a1 a2 cy cx (by omega) (by omega) (by omega) (by omega) (by omega)
  have HB := Lib.hid hb
  have HW := Lib.hid hwB
  rw [hwB] at c
  have g3 : ((xs.length : Nat) : Int) ≤ (((ys.length : Nat) : Int) + 1) / 2 := by omega
  clear a1 a2 x1 x2 hb hwB ha hv cx cy h3 IH
  go_enter Tryd.func65, Tryd.ntmps65
  go_wp2_with fail
  with_reducible refine c.mono ?_
  rintro e w' hN
  obtain ⟨⟨v, rfl, ho⟩, hbl⟩ := hN
  rw [← HW.out] at ho hbl
  have HO := Lib.hid (ho.more HB.out.size)
  have HL := Lib.hid (HB.out.trans (hbl.mono HB.out.size))
  clear ho hbl c
  go_wp2
  go_ret
  exact ⟨⟨_, rfl, HO.out⟩, HL.out⟩

set_option maxRecDepth 100000 in
set_option maxHeartbeats 2000000 in
theorem times_shalves {n : Nat} (IH : TimesAt n) (A A' : Option Addr) (cap cap' : Nat) (xs ys : List Nat) (w : World) (ha : Arg w (.slice A xs.length cap) xs) (hv : Arg w (.slice A' ys.length cap') ys) (cx : Canon xs) (cy : Canon ys) (hl : xs.length ≤ 65536) (hl' : ys.length ≤ 65536) (hn : xs.length + ys.length ≤ n + 1) (h1 : xs.length < ys.length) (h2 : ¬ xs.length < 64) (h3 : ¬ xs.length ≤ (ys.length + 1) / 2) :
    Calls Tryd.prog 65 #[.slice A xs.length cap, .slice A' ys.length cap'] w (NewNat w (val ys * val xs)) := by
  obtain ⟨hb, x1, x2⟩ := two_boxes w (.slice A' ys.length cap') (.slice A xs.length cap) 24
  obtain ⟨wB, hwB⟩ : ∃ wB, wB = (w.alloc (.cells #[(.slice A' ys.length cap')] 24)).alloc (.cells #[(.slice A xs.length cap)] 24) := ⟨_, rfl⟩
  rw [← hwB] at hb x1 x2
  have a1 := (hv).below hb
  have a2 := (ha).below hb
  have c := byHalves_times (half := (ys.length + 1) / 2) IH a1 a2 cy cx (by omega) (by omega) (by omega) (by omega) x1 x2 (by omega) (by omega) (by omega)
  rw [show ((((ys.length + 1) / 2 : Nat)) : Int) = (((ys.length : Nat) : Int) + 1) / 2 from by omega] at c
  have HB := Lib.hid hb
  have HW := Lib.hid hwB
  rw [hwB] at c
  have g3 : ¬ ((xs.length : Nat) : Int) ≤ (((ys.length : Nat) : Int) + 1) / 2 := by omega
  clear a1 a2 x1 x2 hb hwB ha hv cx cy h3 IH
  go_enter Tryd.func65, Tryd.ntmps65
  go_wp2_with fail
  with_reducible refine c.mono ?_
  rintro e w' hN
  obtain ⟨⟨v, rfl, ho⟩, hbl⟩ := hN
  rw [← HW.out] at ho hbl
  have HO := Lib.hid (ho.more HB.out.size)
  have HL := Lib.hid (HB.out.trans (hbl.mono HB.out.size))
  clear ho hbl c
  go_wp2
  go_ret
  exact ⟨⟨_, rfl, HO.out⟩, HL.out⟩

set_option maxRecDepth 100000 in
set_option maxHeartbeats 2000000 in
theorem times_zero (A A' : Option Addr) (cap cap' : Nat) (xs ys : List Nat) (w : World) (ha : Arg w (.slice A xs.length cap) xs) (hv : Arg w (.slice A' ys.length cap') ys) (hn : xs.length + ys.length ≤ 0) :
    Calls Tryd.prog 65 #[.slice A xs.length cap, .slice A' ys.length cap'] w (NewNat w (val xs * val ys)) := by
  obtain ⟨hb, x1, x2⟩ := two_boxes w (.slice A xs.length cap) (.slice A' ys.length cap') 24
  obtain ⟨wB, hwB⟩ : ∃ wB, wB = (w.alloc (.cells #[(.slice A xs.length cap)] 24)).alloc (.cells #[(.slice A' ys.length cap')] 24) := ⟨_, rfl⟩
  rw [← hwB] at hb x1 x2
  have a1 := (ha).below hb
  have a2 := (hv).below hb
  have r1 : Rd wB wB.heap.size A xs := by obtain ⟨A1, c1, e1, _, _, hr1⟩ := a1; injection e1 with e2; rw [e2]; exact hr1
  have r2 : Rd wB wB.heap.size A' ys := by obtain ⟨A1, c1, e1, _, _, hr1⟩ := a2; injection e1 with e2; rw [e2]; exact hr1
  have c := byLimbs_any A A' cap cap' xs ys wB r1 r2 (by omega) (by omega)
  have h1 : ¬ xs.length < ys.length := by omega
  have h2 : ys.length < 64 := by omega
  have HB := Lib.hid hb
  have HW := Lib.hid hwB
  rw [hwB] at c
  clear a1 a2 x1 x2 hb hwB ha hv r1 r2
  go_enter Tryd.func65, Tryd.ntmps65
  go_wp2_with fail
  with_reducible refine c.mono ?_
  rintro e w' hN
  obtain ⟨⟨v, rfl, ho⟩, hbl⟩ := hN
  rw [← HW.out] at ho hbl
  have HO := Lib.hid (ho.more HB.out.size)
  have HL := Lib.hid (HB.out.trans (hbl.mono HB.out.size))
  clear ho hbl c
  go_wp2
  go_ret
  exact ⟨⟨_, rfl, HO.out⟩, HL.out⟩

theorem timesAt : ∀ n, TimesAt n := by
  have step : ∀ n, TimesAt n → TimesAt (n + 1) := by
    intro n IH va vb xs ys w ha hv cx cy hl hl' hn
    obtain ⟨A, cap, rfl, _⟩ := id ha
    obtain ⟨A', cap', rfl, _⟩ := id hv
    by_cases h1 : xs.length < ys.length
    · rw [Nat.mul_comm]
      by_cases h2 : xs.length < 64
      · exact times_slimbs IH A A' cap cap' xs ys w ha hv cx cy hl hl' hn h1 h2
      · by_cases h3 : xs.length ≤ (ys.length + 1) / 2
        · exact times_spieces IH A A' cap cap' xs ys w ha hv cx cy hl hl' hn h1 h2 h3
        · exact times_shalves IH A A' cap cap' xs ys w ha hv cx cy hl hl' hn h1 h2 h3
    · by_cases h2 : ys.length < 64
      · exact times_plimbs IH A A' cap cap' xs ys w ha hv cx cy hl hl' hn h1 h2
      · by_cases h3 : ys.length ≤ (xs.length + 1) / 2
        · exact times_ppieces IH A A' cap cap' xs ys w ha hv cx cy hl hl' hn h1 h2 h3
        · exact times_phalves IH A A' cap cap' xs ys w ha hv cx cy hl hl' hn h1 h2 h3
  intro n
  induction n with
  | zero =>
    intro va vb xs ys w ha hv cx cy hl hl' hn
    obtain ⟨A, cap, rfl, _⟩ := id ha
    obtain ⟨A', cap', rfl, _⟩ := id hv
    have IH0 : TimesAt 0 ∨ True := .inr trivial
    exact times_zero A A' cap cap' xs ys w ha hv hn
  | succ n ih => exact step n ih

end Go.Proofs.YtileljokijmpaaaDoor

/- Contracts: square, Mul, Square. -/
namespace Go.Proofs.YtileljokijmpaaaDoor
open Go.RowKit Go.Shelf

set_option linter.unusedVariables false

theorem one_box (w : World) (v1 : Value) (t : TypeId) : Below w.heap.size w (w.alloc (.cells #[v1] t)) ∧ Box (w.alloc (.cells #[v1] t)) w.heap.size v1 :=
  ⟨(Below.refl _ w).alloc (Nat.le_refl _) _, Box.new w _ _⟩

set_option maxRecDepth 100000 in
set_option maxHeartbeats 2000000 in
theorem square_short (A : Option Addr) (cap : Nat) (xs : List Nat) (w : World) (ha : Arg w (.slice A xs.length cap) xs) (h2 : xs.length < 64) :
    Calls Tryd.prog 64 #[.slice A xs.length cap] w (NewNat w (val xs * val xs)) := by
  obtain ⟨hb, x1⟩ := one_box w (.slice A xs.length cap) 24
  obtain ⟨wB, hwB⟩ : ∃ wB, wB = w.alloc (.cells #[.slice A xs.length cap] 24) := ⟨_, rfl⟩
  rw [← hwB] at hb x1
  obtain ⟨A1, c1, e1, g1, g2, hr1⟩ := ha.below hb
  injection e1 with e2 _ e3
  subst e2 e3
  have c := squareByLimbs_any A cap xs wB hr1 (by omega) g1 g2
  have HB := Lib.hid hb
  have HW := Lib.hid hwB
  rw [hwB] at c
  clear x1 hb hwB ha hr1 g1 g2
  go_enter Tryd.func64, Tryd.ntmps64
  go_wp2_with fail
  with_reducible refine c.mono ?_
  rintro e w' hN
  obtain ⟨⟨v, rfl, ho⟩, hbl⟩ := hN
  rw [← HW.out] at ho hbl
  have HO := Lib.hid (ho.more HB.out.size)
  have HL := Lib.hid (HB.out.trans (hbl.mono HB.out.size))
  clear ho hbl c
  go_wp2
  go_ret
  exact ⟨⟨_, rfl, HO.out⟩, HL.out⟩

set_option maxRecDepth 100000 in
set_option maxHeartbeats 2000000 in
theorem square_long {n : Nat} (IH : SquareAt n) (A : Option Addr) (cap : Nat) (xs : List Nat) (w : World) (ha : Arg w (.slice A xs.length cap) xs) (cx : Canon xs) (hl : xs.length ≤ 65536) (hn : xs.length ≤ n + 1) (h2 : ¬ xs.length < 64) :
    Calls Tryd.prog 64 #[.slice A xs.length cap] w (NewNat w (val xs * val xs)) := by
  obtain ⟨hb, x1⟩ := one_box w (.slice A xs.length cap) 24
  obtain ⟨wB, hwB⟩ : ∃ wB, wB = w.alloc (.cells #[.slice A xs.length cap] 24) := ⟨_, rfl⟩
  rw [← hwB] at hb x1
  have c := byHalves_square (half := (xs.length + 1) / 2) IH (ha.below hb) cx (by omega) (by omega) x1 (by omega) (by omega) (by omega)
  rw [show ((((xs.length + 1) / 2 : Nat)) : Int) = (((xs.length : Nat) : Int) + 1) / 2 from by omega] at c
  have HB := Lib.hid hb
  have HW := Lib.hid hwB
  rw [hwB] at c
  clear x1 hb hwB ha cx IH
  go_enter Tryd.func64, Tryd.ntmps64
  go_wp2_with fail
  with_reducible refine c.mono ?_
  rintro e w' hN
  obtain ⟨⟨v, rfl, ho⟩, hbl⟩ := hN
  rw [← HW.out] at ho hbl
  have HO := Lib.hid (ho.more HB.out.size)
  have HL := Lib.hid (HB.out.trans (hbl.mono HB.out.size))
  clear ho hbl c
  go_wp2
  go_ret
  exact ⟨⟨_, rfl, HO.out⟩, HL.out⟩

theorem squareAt : ∀ n, SquareAt n := by
  intro n
  induction n with
  | zero =>
    intro va xs w ha cx hl hn
    obtain ⟨A, cap, rfl, _⟩ := id ha
    exact square_short A cap xs w ha (by omega)
  | succ n ih =>
    intro va xs w ha cx hl hn
    obtain ⟨A, cap, rfl, _⟩ := id ha
    by_cases h2 : xs.length < 64
    · exact square_short A cap xs w ha h2
    · exact square_long ih A cap xs w ha cx hl hn h2

/-! ### Mul -/
def sMul (xs ys : List Nat) : List Nat := if mayb xs && mayb ys then clip (val xs * val ys) else []
theorem sMul_no {xs ys : List Nat} (h : (mayb xs && mayb ys) = false) : sMul xs ys = [] := by unfold sMul; rw [h]; rfl
theorem sMul_yes {xs ys : List Nat} (h : (mayb xs && mayb ys) = true) : sMul xs ys = clip (val xs * val ys) := by unfold sMul; rw [h]; rfl
theorem sMul_limbs (xs ys : List Nat) : Limbs (sMul xs ys) := by
  unfold sMul; split
  · exact clip_limbs _
  · exact limbs_nil
/-- What is too long to be seen without reckoning is too long. -/
theorem long_clip {xs ys : List Nat} (hx : Canon xs) (hy : Canon ys) (h : longB xs.length ys.length = true) : clip (val xs * val ys) = [] := by
  unfold longB at h
  have h := of_decide_eq_true h
  refine clip_not fun hle => ?_
  rw [lim_length_le] at hle
  have h1 := canon_val_ge hx (fun e => by rw [e] at h; simp at h)
  have h2 := canon_val_ge hy (fun e => by rw [e] at h; simp at h)
  have h3 := Nat.mul_le_mul h1 h2
  rw [← Nat.pow_add] at h3
  have h4 := (Nat.pow_lt_pow_iff_right (a := 4294967296) (by decide)).1 (Nat.lt_of_le_of_lt h3 hle)
  omega
theorem prod_len {xs ys : List Nat} (hx : Limbs xs) (hy : Limbs ys) : (lim (val xs * val ys)).length ≤ xs.length + ys.length := lim_le (mul_lt_pow hx hy)

set_option maxHeartbeats 2000000 in
theorem mul_any (va vb : Value) (xs ys : List Nat) (w : World) (ha : Arg w va xs) (hv : Arg w vb ys) : Calls Tryd.prog 44 #[va, vb] w (NewL w (sMul xs ys)) := by
  obtain ⟨A, cap, rfl, k1, k2, hr⟩ := id ha
  obtain ⟨A', cap', rfl, k1', k2', hr'⟩ := id hv
  by_cases hx : mayb xs = true
  · have c1 := may_yes cap hr (by omega) hx
    by_cases hy : mayb ys = true
    · have c2 := may_yes cap' hr' (by omega) hy
      have hxm := (mayb_iff.1 hx).1
      have hym := (mayb_iff.1 hy).1
      have c3 := tooLong_any A A' xs.length ys.length cap cap' w hxm hym
      have cx := mayb_canon hr.limbs hx
      have cy := mayb_canon hr'.limbs hy
      have hs := sMul_yes (xs := xs) (ys := ys) (by simp [hx, hy])
      by_cases hL : longB xs.length ys.length = true
      · rw [long_clip cx cy hL] at hs
        rw [hL] at c3
        have HS := Lib.hid hs
        clear hs hL hx hy ha hv hr hr'
        go_enter Tryd.func44, Tryd.ntmps44
        go_wp2_with fail
        with_reducible refine c1.mono ?_
        rintro e w' ⟨rfl, hw⟩
        obtain rfl := hw.symm
        go_wp2_with fail
        with_reducible refine c2.mono ?_
        rintro e w' ⟨rfl, hw⟩
        obtain rfl := hw.symm
        go_wp2_with fail
        with_reducible refine c3.mono ?_
        rintro e w' ⟨rfl, hw⟩
        obtain rfl := hw.symm
        clear c1 c2 c3
        go_wp2
        go_ret
        exact ⟨⟨_, rfl, by rw [HS.out]; exact Own.nil _ _⟩, Below.refl _ w⟩
      · rw [Bool.eq_false_iff.2 hL] at c3
        have c4 := timesAt _ _ _ xs ys w ha hv cx cy hxm hym (Nat.le_refl _)
        have hpl := prod_len hr.limbs hr'.limbs
        have HS := Lib.hid hs
        clear hs hL hx hy ha hv hr hr'
        go_enter Tryd.func44, Tryd.ntmps44
        go_wp2_with fail
        with_reducible refine c1.mono ?_
        rintro e w' ⟨rfl, hw⟩
        obtain rfl := hw.symm
        go_wp2_with fail
        with_reducible refine c2.mono ?_
        rintro e w' ⟨rfl, hw⟩
        obtain rfl := hw.symm
        go_wp2_with fail
        with_reducible refine c3.mono ?_
        rintro e w' ⟨rfl, hw⟩
        obtain rfl := hw.symm
        go_wp2_with fail
        with_reducible refine c4.mono ?_
        rintro e w2 ⟨⟨v, rfl, ho⟩, hb⟩
        obtain ⟨A3, cap3, rfl⟩ := own_form ho rfl
        have c5 := told_any A3 (lim (val xs * val ys)).length cap3 w2 (by unfold maxLen; omega)
        have HO := Lib.hid (toldV_own ho)
        have HB := Lib.hid hb
        clear c1 c2 c3 c4 ho hb
        go_wp2_with fail
        with_reducible refine c5.mono ?_
        rintro e w' ⟨rfl, hw⟩
        obtain rfl := hw.symm
        clear c5
        go_wp2
        go_ret
        exact ⟨⟨_, rfl, by rw [HS.out]; exact HO.out⟩, HB.out⟩
    · have c2 := may_no cap' hr' (by omega) (by simpa using hy)
      have HS := Lib.hid (sMul_no (xs := xs) (ys := ys) (by simp [hy]))
      clear hx hy ha hv hr hr'
      go_enter Tryd.func44, Tryd.ntmps44
      go_wp2_with fail
      with_reducible refine c1.mono ?_
      rintro e w' ⟨rfl, hw⟩
      obtain rfl := hw.symm
      go_wp2_with fail
      with_reducible refine c2.mono ?_
      rintro e w' ⟨rfl, hw⟩
      obtain rfl := hw.symm
      clear c1 c2
      go_wp2
      go_ret
      exact ⟨⟨_, rfl, by rw [HS.out]; exact Own.nil _ _⟩, Below.refl _ w⟩
  · have c1 := may_no cap hr (by omega) (by simpa using hx)
    have HS := Lib.hid (sMul_no (xs := xs) (ys := ys) (by simp [hx]))
    clear hx ha hv hr hr'
    go_enter Tryd.func44, Tryd.ntmps44
    go_wp2_with fail
    with_reducible refine c1.mono ?_
    rintro e w' ⟨rfl, hw⟩
    obtain rfl := hw.symm
    clear c1
    go_wp2
    go_ret
    exact ⟨⟨_, rfl, by rw [HS.out]; exact Own.nil _ _⟩, Below.refl _ w⟩

set_option maxHeartbeats 2000000 in
theorem square_any (va : Value) (xs : List Nat) (w : World) (ha : Arg w va xs) : Calls Tryd.prog 43 #[va] w (NewL w (sMul xs xs)) := by
  obtain ⟨A, cap, rfl, k1, k2, hr⟩ := id ha
  by_cases hx : mayb xs = true
  · have c1 := may_yes cap hr (by omega) hx
    have hxm := (mayb_iff.1 hx).1
    have c3 := tooLong_any A A xs.length xs.length cap cap w hxm hxm
    have cx := mayb_canon hr.limbs hx
    have hs := sMul_yes (xs := xs) (ys := xs) (by simp [hx])
    by_cases hL : longB xs.length xs.length = true
    · rw [long_clip cx cx hL] at hs
      rw [hL] at c3
      have HS := Lib.hid hs
      clear hs hL hx ha hr
      go_enter Tryd.func43, Tryd.ntmps43
      go_wp2_with fail
      with_reducible refine c1.mono ?_
      rintro e w' ⟨rfl, hw⟩
      obtain rfl := hw.symm
      go_wp2_with fail
      with_reducible refine c3.mono ?_
      rintro e w' ⟨rfl, hw⟩
      obtain rfl := hw.symm
      clear c1 c3
      go_wp2
      go_ret
      exact ⟨⟨_, rfl, by rw [HS.out]; exact Own.nil _ _⟩, Below.refl _ w⟩
    · rw [Bool.eq_false_iff.2 hL] at c3
      have c4 := squareAt _ _ xs w ha cx hxm (Nat.le_refl _)
      have hpl := prod_len hr.limbs hr.limbs
      have HS := Lib.hid hs
      clear hs hL hx ha hr
      go_enter Tryd.func43, Tryd.ntmps43
      go_wp2_with fail
      with_reducible refine c1.mono ?_
      rintro e w' ⟨rfl, hw⟩
      obtain rfl := hw.symm
      go_wp2_with fail
      with_reducible refine c3.mono ?_
      rintro e w' ⟨rfl, hw⟩
      obtain rfl := hw.symm
      go_wp2_with fail
      with_reducible refine c4.mono ?_
      rintro e w2 ⟨⟨v, rfl, ho⟩, hb⟩
      obtain ⟨A3, cap3, rfl⟩ := own_form ho rfl
      have c5 := told_any A3 (lim (val xs * val xs)).length cap3 w2 (by unfold maxLen; omega)
      have HO := Lib.hid (toldV_own ho)
      have HB := Lib.hid hb
      clear c1 c3 c4 ho hb
      go_wp2_with fail
      with_reducible refine c5.mono ?_
      rintro e w' ⟨rfl, hw⟩
      obtain rfl := hw.symm
      clear c5
      go_wp2
      go_ret
      exact ⟨⟨_, rfl, by rw [HS.out]; exact HO.out⟩, HB.out⟩
  · have c1 := may_no cap hr (by omega) (by simpa using hx)
    have HS := Lib.hid (sMul_no (xs := xs) (ys := xs) (by simp [hx]))
    clear hx ha hr
    go_enter Tryd.func43, Tryd.ntmps43
    go_wp2_with fail
    with_reducible refine c1.mono ?_
    rintro e w' ⟨rfl, hw⟩
    obtain rfl := hw.symm
    clear c1
    go_wp2
    go_ret
    exact ⟨⟨_, rfl, by rw [HS.out]; exact Own.nil _ _⟩, Below.refl _ w⟩

end Go.Proofs.YtileljokijmpaaaDoor

/- Contracts: powerTooLong, Pow. -/
namespace Go.Proofs.YtileljokijmpaaaDoor
open Go.RowKit Go.Shelf

set_option linter.unusedVariables false

theorem clip_mul (a b : Nat) : sMul (clip a) (clip b) = clip (a * b) := by
  rw [sMul_yes (by rw [clip_may, clip_may]; rfl)]
  have hv : ∀ c : Nat, (lim c).length ≤ 65536 ∧ val (clip c) = c ∨ ¬ (lim c).length ≤ 65536 ∧ val (clip c) = 0 := fun c => by
    by_cases h : (lim c).length ≤ 65536
    · exact .inl ⟨h, by rw [clip_of h, val_lim]⟩
    · exact .inr ⟨h, by rw [clip_not h]; rfl⟩
  have big : ∀ c d : Nat, ¬ (lim c).length ≤ 65536 → c ≤ d → clip d = [] := fun c d h hcd => clip_not fun h2 => h (by
    rw [lim_length_le] at h2 ⊢; omega)
  have z : clip 0 = [] := by rw [clip_of (by rw [lim_zero]; simp), lim_zero]
  rcases hv a with ⟨h1, e1⟩ | ⟨h1, e1⟩ <;> rcases hv b with ⟨h2, e2⟩ | ⟨h2, e2⟩
  · rw [e1, e2]
  · rw [e2, Nat.mul_zero, z]
    rcases Nat.eq_zero_or_pos a with h0 | h0
    · rw [h0, Nat.zero_mul, z]
    · exact (big b _ h2 (Nat.le_mul_of_pos_left b h0)).symm
  · rw [e1, Nat.zero_mul, z]
    rcases Nat.eq_zero_or_pos b with h0 | h0
    · rw [h0, Nat.mul_zero, z]
    · exact (big a _ h1 (Nat.le_mul_of_pos_right a h0)).symm
  · rw [e1, Nat.zero_mul, z]
    rcases Nat.eq_zero_or_pos b with h0 | h0
    · rw [h0, Nat.mul_zero, z]
    · exact (big a _ h1 (Nat.le_mul_of_pos_right a h0)).symm

def ptl (v n : Nat) : Bool := decide (1 < blen v ∧ 2097151 / (blen v - 1) < n)
theorem ptl_false {v n : Nat} (h : ¬ (1 < blen v)) : false = ptl v n := by unfold ptl; rw [decide_eq_false (fun e => h e.1)]
theorem ptl_mid {v n : Nat} (h : 1 < blen v) : decide ((2097151 : Int) / ((blen v : Nat) - 1 : Int) < (n : Int)) = ptl v n := by
  unfold ptl
  rw [decide_eq_decide]
  have e : ((blen v : Nat) - 1 : Int) = ((blen v - 1 : Nat) : Int) := by omega
  rw [e, show (2097151 : Int) = ((2097151 : Nat) : Int) from rfl, ← Int.natCast_ediv]
  omega
/-- A power that is too long to be seen without reckoning is too long. -/
theorem ptl_clip {v n : Nat} (h : ptl v n = true) : clip (v ^ n) = [] := by
  unfold ptl at h
  obtain ⟨h1, h2⟩ := of_decide_eq_true h
  refine clip_not fun hle => ?_
  obtain ⟨E, hE⟩ : ∃ E : Nat, E = 65536 := ⟨_, rfl⟩
  rw [← hE, lim_length_le] at hle
  have hv : 2 ^ (blen v - 1) ≤ v := by
    rcases Nat.lt_or_ge v (2 ^ (blen v - 1)) with h3 | h3
    · have := blen_le.2 h3; omega
    · exact h3
  have h4 := Nat.pow_le_pow_left hv n
  rw [← Nat.pow_mul] at h4
  have h5 : 2097151 < n * (blen v - 1) := by rwa [Nat.div_lt_iff_lt_mul (by omega)] at h2
  rw [show (4294967296 : Nat) = 2 ^ 32 from rfl, ← Nat.pow_mul] at hle
  have h6 := (Nat.pow_lt_pow_iff_right (a := 2) (by decide)).1 (Nat.lt_of_le_of_lt h4 hle)
  rw [Nat.mul_comm] at h6
  omega

set_option maxHeartbeats 1000000 in
theorem powerTooLong_any (A : Option Addr) (cap : Nat) (xs : List Nat) (n : Nat) (w : World) (B : Nat) (hr : Rd w B A xs) (hc : xs.length ≤ maxLen) (hm : mayb xs = true) (hn : n < 9223372036854775808) :
    Calls Tryd.prog 41 #[.slice A xs.length cap, .int .i64 (n : Int)] w fun e w' => e = .returned (.bool (ptl (val xs) n)) ∧ w' = w := by
  have c := bits_any A cap xs w B hr hc
  rw [sBits_yes hm] at c
  have hb : blen (val xs) ≤ 2097152 := by
    have := sBits_le' hr.limbs
    rw [sBits_yes hm] at this
    have := (mayb_iff.1 hm).1
    omega
  clear hc hm hr
  by_cases h : 1 < blen (val xs)
  · have g := Lib.hid (ptl_mid (n := n) h)
    generalize hbv : blen (val xs) = b at *
    have HBV := Lib.hid hbv
    have hz : (((b : Int) - 1) == 0) = false := by rw [beq_eq_false_iff_ne]; omega
    have hp : (0 : Int) < (b : Int) - 1 := by omega
    clear hbv
    go_enter Tryd.func41, Tryd.ntmps41
    go_wp2_with fail
    with_reducible refine c.mono ?_
    rintro e w' ⟨rfl, hw⟩
    obtain rfl := hw.symm
    clear c
    go_wp2
    go_ret
    exact ⟨ret_bool g.out, rfl⟩
  · have g := Lib.hid (ptl_false (n := n) h)
    generalize hbv : blen (val xs) = b at *
    have HBV := Lib.hid hbv
    clear hbv
    go_enter Tryd.func41, Tryd.ntmps41
    go_wp2_with fail
    with_reducible refine c.mono ?_
    rintro e w' ⟨rfl, hw⟩
    obtain rfl := hw.symm
    clear c
    go_wp2
    go_ret
    exact ⟨ret_bool g.out, rfl⟩

theorem blen_lib64 {x : Nat} (h : x < 18446744073709551616) : Lib.bitLen x = blen x := by
  by_cases h0 : x = 0
  · subst h0; exact Lib.bitLenAux_zero 64
  · obtain ⟨h1, h2, h3⟩ := Lib.bitLenAux_bounds 64 x (by omega) h0
    refine (blen_unique h3 fun j hj => ?_).symm
    have : 2 ^ (Lib.bitLenAux 64 x - 1) < 2 ^ j := by omega
    have := (Nat.pow_lt_pow_iff_right (a := 2) (by decide)).1 this
    omega
theorem clip_one : clip 1 = lim 1 := clip_of (Nat.le_trans (lim_le (k := 1) (by decide)) (by decide))
def sPow (xs : List Nat) (k : Int) : List Nat := if mayb xs && decide (0 ≤ k) then clip (val xs ^ k.toNat) else []
theorem sPow_no1 {xs : List Nat} {k : Int} (h : mayb xs = false) : sPow xs k = [] := by unfold sPow; rw [h]; rfl
theorem sPow_no2 {xs : List Nat} {k : Int} (h : k < 0) : sPow xs k = [] := by unfold sPow; rw [decide_eq_false (by omega), Bool.and_false]; rfl
theorem sPow_yes {xs : List Nat} {n : Nat} (h : mayb xs = true) : sPow xs (n : Int) = clip (val xs ^ n) := by unfold sPow; rw [h, decide_eq_true (by omega)]; simp
theorem sPow_limbs (xs : List Nat) (k : Int) : Limbs (sPow xs k) := by
  unfold sPow; split
  · exact clip_limbs _
  · exact limbs_nil
theorem half_pow (n s : Nat) : n / 2 ^ s = 2 * (n / 2 ^ (s + 1)) + n / 2 ^ s % 2 := by
  rw [Nat.pow_succ, ← Nat.div_div_eq_div_mul]; omega
theorem pow_even {v n s : Nat} (h : n / 2 ^ s % 2 = 0) : v ^ (n / 2 ^ (s + 1)) * v ^ (n / 2 ^ (s + 1)) = v ^ (n / 2 ^ s) := by
  rw [← Nat.pow_add]; congr 1; have := half_pow n s; omega
theorem pow_odd {v n s : Nat} (h : n / 2 ^ s % 2 = 1) : v ^ (n / 2 ^ (s + 1)) * v ^ (n / 2 ^ (s + 1)) * v = v ^ (n / 2 ^ s) := by
  rw [← Nat.pow_add, ← Nat.pow_succ]; congr 1; have := half_pow n s; omega

set_option maxHeartbeats 2000000 in
theorem pow_yes (A : Option Addr) (cap : Nat) (xs : List Nat) (n : Nat) (w : World) (ha : Arg w (.slice A xs.length cap) xs) (hx : mayb xs = true) (hn : n < 9223372036854775808) (hp : ptl (val xs) n = false) :
    Calls Tryd.prog 27 #[.slice A xs.length cap, .int .i64 (n : Int)] w (NewL w (sPow xs (n : Int))) := by
  obtain ⟨A1, cap1, e1, k1, k2, hr⟩ := id ha
  injection e1 with ea _ eb
  subst ea eb
  have c1 := may_yes cap hr (by omega) hx
  have c2 := powerTooLong_any A cap xs n w _ hr (by omega) hx hn
  rw [hp] at c2
  have c3 := of_any 1 w (by decide)
  have hlen := blen_lib64 (x := n) (by omega)
  have hb64 : blen n ≤ 64 := blen_le.2 (by omega)
  have hsh : n / 2 ^ blen n = 0 := Nat.div_eq_of_lt (blen_le.1 (Nat.le_refl _))
  have HSH := Lib.hid hsh
  have HS := Lib.hid (sPow_yes (n := n) hx)
  have HXC := Lib.hid (clip_val hr.limbs hx)
  have HA := Lib.hid ha
  have n0 : (0 : Int) ≤ (n : Int) := by omega
  clear hx hp hr ha hsh k1 k2
  go_enter Tryd.func27, Tryd.ntmps27
  go_wp2_with fail
  with_reducible refine c1.mono ?_
  rintro e w' ⟨rfl, hw⟩
  obtain rfl := hw.symm
  go_wp2_with fail
  with_reducible refine c2.mono ?_
  rintro e w' ⟨rfl, hw⟩
  obtain rfl := hw.symm
  go_wp2_with fail
  refine c3.mono ?_
  rintro e w1 ⟨⟨r0, rfl, ho⟩, hb⟩
  have c4 := Tryd.bits_Len (n : Int) w1 (by omega) (by omega)
  rw [Int.toNat_natCast, hlen] at c4
  have HO := Lib.hid ho
  have HB := Lib.hid hb
  clear c1 c2 c3 ho hb hlen
  go_wp2_with fail
  with_reducible refine c4.mono ?_
  rintro e w' ⟨rfl, hw⟩
  obtain rfl := hw.symm
  clear c4
  go_wp2_with fail
  go_loopw [5, 6] (fun r i wr => ∃ t : Nat, t ≤ 64 ∧ i = .int .i64 ((t : Int) - 1) ∧ Own wr w.heap.size r (clip (val xs ^ (n / 2 ^ t))) ∧ Below w.heap.size w wr) (fun _ i _ => (intOf i + 1).toNat)
  case atStart => exact ⟨blen n, hb64, rfl, by rw [HSH.out, Nat.pow_zero, clip_one]; exact HO.out, HB.out⟩
  case round =>
    clear HO HB
    obtain ⟨t, ht, hi, ho, hb⟩ := hrel
    rcases t with _ | s
    · obtain rfl : u6 = .int .i64 (-1) := hi
      rw [Nat.pow_zero, Nat.div_one] at ho
      have HO := Lib.hid ho
      have HB := Lib.hid hb
      clear ho hb
      go_wp2_with fail
      go_ret
      exact ⟨⟨_, rfl, by rw [HS.out]; exact HO.out⟩, HB.out⟩
    · obtain rfl : u6 = .int .i64 (s : Int) := by rw [hi]; congr 1; omega
      have c5 := square_any u5 _ wr (ho.arg (clip_limbs _))
      rw [clip_mul] at c5
      have hq : n / 2 ^ s < 9223372036854775808 := Nat.lt_of_le_of_lt (Nat.div_le_self _ _) hn
      have hand := and_one (n / 2 ^ s) hq
      rw [Int.natCast_ediv, Int.natCast_pow] at hand
      have HAND := Lib.hid hand
      have HO := Lib.hid ho
      have HB := Lib.hid hb
      have hs64 : s ≤ 64 := by omega
      clear ho hb hand hi
      rcases Nat.mod_two_eq_zero_or_one (n / 2 ^ s) with hbit | hbit
      · have hpe := Lib.hid (pow_even (v := val xs) hbit)
        have htest : (bits BinOp.and IntKind.i64 ((n : Int) / 2 ^ s) 1 == 1) = false := by
          have := HAND.out
          rw [hbit] at this
          exact beq_eq_false_iff_ne.2 (fun h => by rw [show ((n : Int) / 2 ^ s) = ((n : Nat) : Int) / ((2 : Nat) : Int) ^ s from rfl, this] at h; simp at h)
        clear hbit
        go_wp2_with fail
        with_reducible refine c5.mono ?_
        rintro e w2 ⟨⟨r2, rfl, ho2⟩, hb2⟩
        rw [hpe.out] at ho2
        have HO2 := Lib.hid (ho2.more HB.out.size)
        have HB2 := Lib.hid (HB.out.trans (hb2.mono HB.out.size))
        clear c5 ho2 hb2
        go_wp2_with fail
        go_roundw
        case rel => exact ⟨s, hs64, rfl, HO2.out, HB2.out⟩
        case measure => simp [intOf]
      · have e6 : sMul (clip (val xs ^ (n / 2 ^ (s + 1)) * val xs ^ (n / 2 ^ (s + 1)))) xs = clip (val xs ^ (n / 2 ^ s)) := by
          conv => lhs; arg 2; rw [← HXC.out]
          rw [clip_mul, pow_odd hbit]
        have E6 := Lib.hid e6
        have htest : (bits BinOp.and IntKind.i64 ((n : Int) / 2 ^ s) 1 == 1) = true := by
          have := HAND.out
          rw [hbit] at this
          exact beq_iff_eq.2 (by rw [show ((n : Int) / 2 ^ s) = ((n : Nat) : Int) / ((2 : Nat) : Int) ^ s from rfl, this]; rfl)
        clear hbit e6
        go_wp2_with fail
        with_reducible refine c5.mono ?_
        rintro e w2 ⟨⟨r2, rfl, ho2⟩, hb2⟩
        have hbw := HB.out.trans (hb2.mono HB.out.size)
        have c6 := mul_any r2 (.slice A xs.length cap) _ xs w2 (ho2.arg (clip_limbs _)) (HA.out.below hbw)
        rw [E6.out] at c6
        have HBW := Lib.hid hbw
        clear c5 ho2 hb2 hbw
        go_wp2_with fail
        with_reducible refine c6.mono ?_
        rintro e w3 ⟨⟨r3, rfl, ho3⟩, hb3⟩
        have HO3 := Lib.hid (ho3.more HBW.out.size)
        have HB3 := Lib.hid (HBW.out.trans (hb3.mono HBW.out.size))
        clear c6 ho3 hb3
        go_wp2_with fail
        go_roundw
        case rel => exact ⟨s, hs64, rfl, HO3.out, HB3.out⟩
        case measure => simp [intOf]

set_option maxHeartbeats 2000000 in
theorem pow_any (va : Value) (xs : List Nat) (k : Int) (w : World) (ha : Arg w va xs) (hk : k < 9223372036854775808) (hk0 : -9223372036854775808 ≤ k) :
    Calls Tryd.prog 27 #[va, .int .i64 k] w (NewL w (sPow xs k)) := by
  obtain ⟨A, cap, rfl, k1, k2, hr⟩ := id ha
  by_cases hx : mayb xs = true
  · have c1 := may_yes cap hr (by omega) hx
    rcases Int.lt_or_le k 0 with h | h
    · have HS := Lib.hid (sPow_no2 (xs := xs) h)
      clear hx hr ha
      go_enter Tryd.func27, Tryd.ntmps27
      go_wp2_with fail
      with_reducible refine c1.mono ?_
      rintro e w' ⟨rfl, hw⟩
      obtain rfl := hw.symm
      clear c1
      go_wp2
      go_ret
      exact ⟨⟨_, rfl, by rw [HS.out]; exact Own.nil _ _⟩, Below.refl _ w⟩
    · obtain ⟨n, rfl⟩ := Int.eq_ofNat_of_zero_le h
      by_cases hp : ptl (val xs) n = true
      · have hs := sPow_yes (n := n) hx
        rw [ptl_clip hp] at hs
        have c2 := powerTooLong_any A cap xs n w _ hr (by omega) hx (by omega)
        rw [hp] at c2
        have HS := Lib.hid hs
        clear hx hr ha hs hp
        go_enter Tryd.func27, Tryd.ntmps27
        go_wp2_with fail
        with_reducible refine c1.mono ?_
        rintro e w' ⟨rfl, hw⟩
        obtain rfl := hw.symm
        go_wp2_with fail
        with_reducible refine c2.mono ?_
        rintro e w' ⟨rfl, hw⟩
        obtain rfl := hw.symm
        clear c1 c2
        go_wp2
        go_ret
        exact ⟨⟨_, rfl, by rw [HS.out]; exact Own.nil _ _⟩, Below.refl _ w⟩
      · exact pow_yes A cap xs n w ha hx (by omega) (by simpa using hp)
  · have c1 := may_no cap hr (by omega) (by simpa using hx)
    have HS := Lib.hid (sPow_no1 (xs := xs) (k := k) (by simpa using hx))
    clear hx ha hr
    go_enter Tryd.func27, Tryd.ntmps27
    go_wp2_with fail
    with_reducible refine c1.mono ?_
    rintro e w' ⟨rfl, hw⟩
    obtain rfl := hw.symm
    clear c1
    go_wp2
    go_ret
    exact ⟨⟨_, rfl, by rw [HS.out]; exact Own.nil _ _⟩, Below.refl _ w⟩

end Go.Proofs.YtileljokijmpaaaDoor

/- append(x, make([]uint32, n)...): n zeros behind an own list. -/
namespace Go.Proofs.YtileljokijmpaaaDoor
open Go.RowKit Go.Shelf

theorem zeros_list (m : Nat) : Builtin.zeroCells (Value.int .u32 0).cells m = (u32s (List.replicate m 0)).toArray := by
  apply Array.ext'
  have hz : (Value.int .u32 0).cells = #[.int .u32 0] := rfl
  rw [hz]
  simp only [Builtin.zeroCells, u32s, List.map_replicate, Array.toList_map, Array.toList_range]
  apply List.ext_getElem
  · simp
  · intro j h1 h2
    simp [lv, Nat.mod_one]

set_option maxRecDepth 100000 in
theorem zeros_room (w : World) (ty : TypeId) (g sLen sCap m : Nat) (cur : Array Value) (hm : 0 < m) (hg : w.heap[g]? = some (.cells cur 40 (0, 0))) (h63 : m ≤ 1048576) (hroom : sLen + m ≤ sCap) (hfit : sLen + m ≤ cur.size) :
    (Builtin.append_ #[24, 3] ty #[.slice (some ⟨g, 0, none⟩) sLen sCap, .int .i64 (m : Int)]).run Tryd.prog w =
      .ok (.slice (some ⟨g, 0, none⟩) (sLen + m) sCap) (w.setRow g (cur.toList.take sLen ++ u32s (List.replicate m 0) ++ cur.toList.drop (sLen + m)).toArray) := by
  obtain ⟨i0, hi, hz0, hz1, hz2⟩ := info_parts info32
  have hl : (u32s (List.replicate m 0)).length = m := by simp [u32s]
  have h1 : ∀ u ∈ u32s (List.replicate m 0), u.oneCell' = true := fun u hu => by
    obtain ⟨x, _, rfl⟩ := List.mem_map.1 hu
    rfl
  have hst := run_storeCells_at Tryd.prog g (sLen * 1) 40 (u32s (List.replicate m 0)) 0 cur w hg (by rw [hl]; omega) h1
  simp only [Nat.add_zero, Nat.mul_one, hl] at hst
  have hn : m ≠ 0 := by omega
  have hw : IntKind.i64.wrap (m : Int) = m := by rw [IntKind.wrap_i64]; omega
  have hneg : ¬ ((m : Int) < 0) := by omega
  have h48i : ¬ (281474976710656 < (m : Int) * (i0.bytes : Int)) := by rw [hz2]; omega
  have hzl := zeros_list m
  simp [Builtin.append_, run_underlying Tryd.underlying24, run_underlying Tryd.underlying3, sizeOf, typeInfo, zeroValue, hi, hz0, hz1, asInt, asIntOf, hw, hn, hneg, h48i, hroom, hzl, Addr.add_lit, hst]

set_option maxRecDepth 100000 in
theorem zeros_grow (w : World) (ty : TypeId) (g sLen sCap m : Nat) (olds : List Value) (hm : 0 < m) (hlo : olds.length = sLen) (holds : ∀ j v, olds[j]? = some v → w.cell? ((⟨g, 0, none⟩ : Addr).add j) = some v) (h63 : m ≤ 1048576) (hs : sLen ≤ 1048576) (hroom : sCap < sLen + m) :
    (Builtin.append_ #[24, 3] ty #[.slice (some ⟨g, 0, none⟩) sLen sCap, .int .i64 (m : Int)]).run Tryd.prog w =
      .ok (.slice (some ⟨w.heap.size, 0, none⟩) (sLen + m) (grownCap w (sLen + m) sCap 40))
        (w.drew.alloc (.cells (olds.toArray ++ (u32s (List.replicate m 0)).toArray ++ Builtin.zeroCells (Value.int .u32 0).cells (grownCap w (sLen + m) sCap 40 - (sLen + m))) 40)) := by
  obtain ⟨i0, hi, hz0, hz1, hz2⟩ := info_parts info32
  have hn : m ≠ 0 := by omega
  have hw : IntKind.i64.wrap (m : Int) = m := by rw [IntKind.wrap_i64]; omega
  have hneg : ¬ ((m : Int) < 0) := by omega
  have h48i : ¬ (281474976710656 < (m : Int) * (i0.bytes : Int)) := by rw [hz2]; omega
  have hnr : ¬ (sLen + m ≤ sCap) := by omega
  have h63' : ¬ (9223372036854775807 < ((sLen : Int) + (m : Int))) := by omega
  have h48' : ¬ (281474976710656 < Builtin.nextslicecap (sLen + m) sCap * i0.bytes) := by
    have := growslice_fits (need := sLen + m) (old := sCap) (bytes := i0.bytes) (by omega) (by rw [hz2]; omega)
    omega
  have hfo := run_firstCells_some (P := Tryd.prog) w.drew i0.size sLen ⟨g, 0, none⟩ sLen sCap olds (by rw [hz1]; omega) (by simpa using holds)
  rw [hz1] at hfo
  have hzl := zeros_list m
  simp [Builtin.append_, run_underlying Tryd.underlying24, run_underlying Tryd.underlying3, sizeOf, typeInfo, zeroValue, hi, hz0, hz1, asInt, asIntOf, hw, hn, hneg, h48i, hnr, h63', h48', Question.forced, hfo, hzl, newRow, grownCap]
  congr 2
  apply Array.ext'
  simp [List.append_assoc]

/-- The list longer by zeros: in its own place, or in a new one. -/
theorem zeros_own (w : World) (ty : TypeId) (B m : Nat) (v : Value) (xs : List Nat) (hown : Own w B v xs) (hB : B ≤ w.heap.size) (hm : 0 < m) (h63 : m ≤ 1048576) (hs : xs.length ≤ 1048576) :
    ∃ v' w', (Builtin.append_ #[24, 3] ty #[v, .int .i64 (m : Int)]).run Tryd.prog w = .ok v' w' ∧ Own w' B v' (xs ++ List.replicate m 0) ∧ w.grownBy w' v.ownBlock ∧ (∃ g cap, v' = .slice (some ⟨g, 0, none⟩) (xs.length + m) cap ∧ (v.ownBlock = some g ∨ g = w.heap.size)) := by
  obtain ⟨i0, hi, hz0, hz1, hz2⟩ := info_parts info32
  have hus : u32s (xs ++ List.replicate m 0) = u32s xs ++ u32s (List.replicate m 0) := by simp [u32s]
  have hzs : ((Value.int .u32 0).cells).size = 1 := rfl
  have grown : ∀ old : Nat, old < xs.length + m → ∀ row : Option Nat,
      Own (w.drew.alloc (.cells ((u32s xs).toArray ++ (u32s (List.replicate m 0)).toArray ++ Builtin.zeroCells (Value.int .u32 0).cells (grownCap w (xs.length + m) old 40 - (xs.length + m))) 40)) B (.slice (some ⟨w.heap.size, 0, none⟩) (xs.length + m) (grownCap w (xs.length + m) old 40)) (xs ++ List.replicate m 0) ∧
      w.grownBy (w.drew.alloc (.cells ((u32s xs).toArray ++ (u32s (List.replicate m 0)).toArray ++ Builtin.zeroCells (Value.int .u32 0).cells (grownCap w (xs.length + m) old 40 - (xs.length + m))) 40)) row := by
    intro old ho row
    have hge := grownCap_ge w (xs.length + m) old 40
    have hcm : grownCap w (xs.length + m) old 40 ≤ maxLen := grownCap_le_maxLen w (xs.length + m) old 40 (by unfold maxLen; omega)
    have hlen : (xs ++ List.replicate m 0).length = xs.length + m := by simp
    refine ⟨?_, ⟨rfl, rfl, rfl, by simp, fun k hk _ => heap_alloc_old w.drew _ hk⟩⟩
    unfold Own
    rw [hlen]
    refine ⟨by simp [u32s], .inr ⟨w.heap.size, _, _, rfl, hB, heap_alloc_new w.drew _, hge, hcm, ?_, ?_⟩⟩
    · simp only [Array.size_append, List.size_toArray, size_zeroCells, hzs, u32s, List.length_map, List.length_replicate]
      omega
    · rw [hus]
      simp only [Array.toList_append, List.append_assoc]
      rw [← List.append_assoc]
      have : (u32s xs ++ u32s (List.replicate m 0)).length = (xs.length + m) * 1 := by simp [u32s]
      rw [← this]
      exact List.take_left
  rcases hown.2 with ⟨rfl, h0⟩ | ⟨g, cap, cur, rfl, hbg, hg, hnc, hcm, hcs, htake⟩
  · have hx : xs = [] := List.eq_nil_of_length_eq_zero h0
    subst hx
    have hr := Lib.run_append_nil_zeros (P := Tryd.prog) w 24 3 ty 40 i0 (.int .u32 0) .i64 .i64 Tryd.underlying24 Tryd.underlying3 hi hz0 m hm (by omega) (by omega) (by rw [hz2]; omega)
    have hgr := grown 0 (by simp; omega) (Value.ownBlock (.slice none 0 0))
    simp only [List.length_nil, Nat.zero_add] at hgr
    rw [zeros_list m] at hr
    refine ⟨_, _, hr, ?_, ?_, w.heap.size, grownCap w m 0 40, by simp, .inr rfl⟩
    · simpa [u32s] using hgr.1
    · simpa [u32s] using hgr.2
  · by_cases hroom : xs.length + m ≤ cap
    · have hfit : xs.length + m ≤ cur.size := by omega
      have hr := zeros_room w ty g xs.length cap m cur hm hg h63 hroom hfit
      have hl : (u32s (List.replicate m 0)).length = m := by simp [u32s]
      refine ⟨_, _, hr, ?_, ⟨rfl, rfl, rfl, by simp, fun k _ hk => setRow_other w g k _ (fun e => hk (by simp [Value.ownBlock, e]))⟩, g, cap, rfl, .inl rfl⟩
      have hlen : (xs ++ List.replicate m 0).length = xs.length + m := by simp
      unfold Own
      rw [hlen]
      refine ⟨by simp [u32s], .inr ⟨g, cap, _, rfl, hbg, setRow_heap w g cur _ 40 _ hg, hroom, hcm, ?_, ?_⟩⟩
      · simp only [List.size_toArray, List.length_append, List.length_take, List.length_drop, Array.length_toList, hl]
        omega
      · rw [Nat.mul_one] at htake
        rw [htake, hus]
        have : (u32s xs ++ u32s (List.replicate m 0)).length = (xs.length + m) * 1 := by simp [u32s]
        rw [← this]
        exact List.take_left
    · have holds : ∀ j u, (u32s xs)[j]? = some u → w.cell? ((⟨g, 0, none⟩ : Addr).add j) = some u := World.ownsRow.cells hown (g := g) rfl
      have hr := zeros_grow w ty g xs.length cap m (u32s xs) hm (by simp [u32s]) holds h63 hs (by omega)
      have hgr := grown cap (by omega) (Value.ownBlock (.slice (some ⟨g, 0, none⟩) xs.length cap))
      exact ⟨_, _, hr, hgr.1, hgr.2, w.heap.size, _, rfl, .inr rfl⟩

end Go.Proofs.YtileljokijmpaaaDoor

/- Contract: Sum. -/
namespace Go.Proofs.YtileljokijmpaaaDoor
open Go.RowKit Go.Shelf

set_option linter.unusedVariables false

/-- A list of slices of limbs. -/
def Rows2 (w : World) (v : Value) (L : List (List Nat)) : Prop :=
  ∃ A cap, ∃ vs : List Value, v = .slice A L.length cap ∧ L.length ≤ maxLen ∧ (∀ j, j < L.length → Arg w (vs[j]?.getD undef) (L[j]?.getD [])) ∧
    (0 < L.length → ∃ b off, A = some ⟨b, off, none⟩ ∧ b < w.heap.size ∧ ∀ j, j < L.length → w.cell? ⟨b, off + j, none⟩ = some (vs[j]?.getD undef))
theorem Rows2.below {w w' : World} {v : Value} {L : List (List Nat)} (h : Rows2 w v L) (hb : Below w.heap.size w w') : Rows2 w' v L := by
  obtain ⟨A, cap, vs, e, hl, ha, hc⟩ := h
  refine ⟨A, cap, vs, e, hl, fun j hj => (ha j hj).below hb, fun h0 => ?_⟩
  obtain ⟨b, off, e2, hb2, hc2⟩ := hc h0
  exact ⟨b, off, e2, Nat.lt_of_lt_of_le hb2 hb.size, fun j hj => (hb.cell (p := ⟨b, off + j, none⟩) hb2).trans (hc2 j hj)⟩

def okAt (L M : List (List Nat)) (j : Nat) : Bool := (mayb (L[j]?.getD []) && mayb (M[j]?.getD [])) && !longB (L[j]?.getD []).length (M[j]?.getD []).length
def allOk (L M : List (List Nat)) (n : Nat) : Bool := (List.range n).all (okAt L M)
def dot (L M : List (List Nat)) : Nat → Nat
  | 0 => 0
  | k + 1 => dot L M k + val (L[k]?.getD []) * val (M[k]?.getD [])
def sSum (L M : List (List Nat)) : List Nat := if allOk L M (min L.length M.length) then clip (dot L M (min L.length M.length)) else []
theorem allOk_succ (L M : List (List Nat)) (k : Nat) : allOk L M (k + 1) = (allOk L M k && okAt L M k) := by unfold allOk; rw [List.range_succ, List.all_append]; simp
theorem allOk_no {L M : List (List Nat)} {k n : Nat} (hk : k < n) (h : okAt L M k = false) : allOk L M n = false := by
  unfold allOk
  rw [List.all_eq_false]
  exact ⟨k, List.mem_range.2 hk, by simp [h]⟩
theorem sSum_no {L M : List (List Nat)} {k : Nat} (hk : k < min L.length M.length) (h : okAt L M k = false) : sSum L M = [] := by unfold sSum; rw [allOk_no hk h]; rfl
theorem sSum_yes {L M : List (List Nat)} (h : allOk L M (min L.length M.length) = true) : sSum L M = clip (dot L M (min L.length M.length)) := by unfold sSum; rw [h]; rfl
theorem sSum_limbs (L M : List (List Nat)) : Limbs (sSum L M) := by
  unfold sSum; split
  · exact clip_limbs _
  · exact limbs_nil
theorem okAt_parts {L M : List (List Nat)} {j : Nat} (h : okAt L M j = true) : mayb (L[j]?.getD []) = true ∧ mayb (M[j]?.getD []) = true ∧ longB (L[j]?.getD []).length (M[j]?.getD []).length = false := by
  unfold okAt at h; simpa [and_assoc] using h
/-- A sum of so many products is short. -/
theorem dot_le {L M : List (List Nat)} (E : Nat) (hE : 131072 ≤ E) (hl : ∀ j : Nat, Limbs (L[j]?.getD [])) (hm : ∀ j : Nat, Limbs (M[j]?.getD [])) : ∀ {k : Nat}, allOk L M k = true → dot L M k ≤ k * 4294967296 ^ E
  | 0, _ => by simp [dot]
  | k + 1, h => by
    rw [allOk_succ, Bool.and_eq_true] at h
    have ih := dot_le E hE hl hm h.1
    obtain ⟨h1, h2, _⟩ := okAt_parts h.2
    have h3 := mul_lt_pow (hl k) (hm k)
    have h4 := (mayb_iff.1 h1).1
    have h5 := (mayb_iff.1 h2).1
    have h6 : 4294967296 ^ ((L[k]?.getD []).length + (M[k]?.getD []).length) ≤ 4294967296 ^ E := Nat.pow_le_pow_right (by decide) (by omega)
    rw [dot, Nat.add_mul, Nat.one_mul]
    omega
theorem dot_len {L M : List (List Nat)} (hl : ∀ j : Nat, Limbs (L[j]?.getD [])) (hm : ∀ j : Nat, Limbs (M[j]?.getD [])) {k : Nat} (h : allOk L M k = true) (hk : k < 9223372036854775808) : (lim (dot L M k)).length ≤ 131080 := by
  obtain ⟨E, hE⟩ : ∃ E : Nat, E = 131072 := ⟨_, rfl⟩
  have h1 := dot_le E (by omega) hl hm h
  have h2 : k * 4294967296 ^ E < 4294967296 ^ (E + 2) := by
    rw [Nat.pow_add, Nat.mul_comm]
    exact Nat.mul_lt_mul_of_pos_left (by omega) (Nat.pow_pos (by decide))
  have := lim_le (Nat.lt_of_le_of_lt h1 h2)
  omega
theorem Own.far2 {w : World} {B g : Nat} {v : Value} {xs : List Nat} (h : Own w B v xs) (hl : Limbs xs) (hg : g < B ∨ w.heap.size ≤ g) : ∃ A cap, v = .slice A xs.length cap ∧ Far w g A xs := by
  rcases h.2 with ⟨rfl, h0⟩ | ⟨g', cap, cur, rfl, hg', hh, hle, hm, hs, ht⟩
  · have : xs = [] := List.eq_nil_of_length_eq_zero h0
    subst this
    exact ⟨none, 0, rfl, hl, fun h => absurd h (by simp)⟩
  · have hlt := (Array.getElem?_eq_some_iff.1 hh).1
    refine ⟨_, cap, rfl, hl, fun hn => ⟨g', 0, rfl, by omega, fun j hj => ?_⟩⟩
    have hc := World.ownsRow.cellAt h j (by omega)
    rw [Nat.zero_add, hc, u32s, List.getElem?_map, List.getElem?_eq_getElem hj]
    rfl
theorem sum_room {s p n : Nat} (hn : (lim s).length + 1 ≤ n) (hp : (lim p).length + 1 ≤ n) : s + p < 4294967296 ^ n := by
  have h1 := val_lt (lim_limbs s)
  have h2 := val_lt (lim_limbs p)
  rw [val_lim] at h1 h2
  obtain ⟨m, rfl⟩ : ∃ m, n = m + 1 := ⟨n - 1, by omega⟩
  have h3 : 4294967296 ^ (lim s).length ≤ 4294967296 ^ m := Nat.pow_le_pow_right (by decide) (by omega)
  have h4 : 4294967296 ^ (lim p).length ≤ 4294967296 ^ m := Nat.pow_le_pow_right (by decide) (by omega)
  rw [Nat.pow_succ]
  omega

theorem below_drewN {B : Nat} {a w : World} (h : Below B a w) (n : Nat) : Below B a (w.drewN n) := ⟨h.os, h.tape, h.output, h.size, h.block⟩
theorem tooLong_is (A A' : Option Addr) (n m cap cap' : Nat) (w : World) (hn : n ≤ 65536) (hm : m ≤ 65536) {b : Bool} (h : longB n m = b) : Calls Tryd.prog 62 #[.slice A n cap, .slice A' m cap'] w fun e w' => e = .returned (.bool b) ∧ w' = w := by
  have := tooLong_any A A' n m cap cap' w hn hm
  rwa [h] at this
theorem far_grown {n2 g : Nat} {w3 w4 : World} {v3 vS : Value} {P : List Nat} (ho3 : Own w3 n2 v3 P) (hl : Limbs P) (hSlt : ∀ k, vS.ownBlock = some k → k < n2) (hg4 : w3.grownBy w4 vS.ownBlock) (hgg : vS.ownBlock = some g ∨ g = w3.heap.size) : ∃ A cap, v3 = .slice A P.length cap ∧ Far w4 g A P := by
  have hside : g < n2 ∨ w3.heap.size ≤ g := by
    rcases hgg with h | h
    · exact .inl (hSlt g h)
    · exact .inr (by omega)
  rcases ho3.2 with ⟨rfl, h0⟩ | ⟨g', cap, cur, rfl, hg', hh, hle, hm, hs, ht⟩
  · have : P = [] := List.eq_nil_of_length_eq_zero h0
    subst this
    exact ⟨none, 0, rfl, hl, fun h => absurd h (by simp)⟩
  · have hlt := (Array.getElem?_eq_some_iff.1 hh).1
    refine ⟨_, cap, rfl, hl, fun hn => ⟨g', 0, rfl, by omega, fun j hj => ?_⟩⟩
    have hc := World.ownsRow.cellAt ho3 j (by omega)
    have hv : w3.cell? ⟨g', j, none⟩ = some (.int .u32 ((P[j]?.getD 0 : Nat) : Int)) := by
      rw [hc, u32s, List.getElem?_map, List.getElem?_eq_getElem hj]; rfl
    rw [Nat.zero_add]
    exact hg4.cell hv (fun e => by have := hSlt g' e.symm; omega)

set_option maxRecDepth 100000 in
set_option maxHeartbeats 8000000 in
theorem sum_any (va vb : Value) (L M : List (List Nat)) (w : World) (ha : Rows2 w va L) (hv : Rows2 w vb M) : Calls Tryd.prog 73 #[va, vb] w (NewL w (sSum L M)) := by
  obtain ⟨A, cap, vs, rfl, hl, hva, hca⟩ := id ha
  obtain ⟨A', cap', vs', rfl, hl', hvb, hcb⟩ := id hv
  unfold maxLen at hl hl'
  have HVA := Lib.hid hva
  have HVB := Lib.hid hvb
  have HLA : Hid (∀ j : Nat, Limbs (L[j]?.getD [])) := fun j => by
    rcases Nat.lt_or_ge j L.length with h | h
    · exact (hva j h).limbs
    · rw [List.getElem?_eq_none h]; exact limbs_nil
  have HLB : Hid (∀ j : Nat, Limbs (M[j]?.getD [])) := fun j => by
    rcases Nat.lt_or_ge j M.length with h | h
    · exact (hvb j h).limbs
    · rw [List.getElem?_eq_none h]; exact limbs_nil
  have HCA := Lib.hid hca
  have HCB := Lib.hid hcb
  clear ha hv hva hvb hca hcb
  generalize hnL : L.length = nL at *
  generalize hnM : M.length = nM at *
  have HNL := Lib.hid hnL
  have HNM := Lib.hid hnM
  clear hnL hnM
  go_enter Tryd.func73, Tryd.ntmps73
  go_wp2
  go_loopw [5, 13] (fun s i wr => ∃ k : Nat, k ≤ min nL nM ∧ i = .int .i64 (k : Int) ∧ allOk L M k = true ∧ Own wr w.heap.size s (lim (dot L M k)) ∧ Below w.heap.size w wr) (fun _ i _ => min nL nM - (intOf i).toNat)
  case atStart => exact ⟨0, Nat.zero_le _, rfl, rfl, by rw [dot, lim_zero]; exact Own.nil _ _, Below.refl _ _⟩
  case round =>
    obtain ⟨k, hk, rfl, hok, ho, hb⟩ := hrel
    rcases Nat.lt_or_ge k (min nL nM) with hlt | hge
    · have hkL : k < nL := by omega
      have hkM : k < nM := by omega
      have hltI : (k : Int) < min (nL : Int) (nM : Int) := by omega
      obtain ⟨b, off, rfl, hblt, hcl⟩ := HCA.out (by omega)
      obtain ⟨b', off', rfl, hblt', hcl'⟩ := HCB.out (by omega)
      have x1 := (hb.cell (p := ⟨b, off + k, none⟩) hblt).trans (hcl k hkL)
      have x2 := (hb.cell (p := ⟨b', off' + k, none⟩) hblt').trans (hcl' k hkM)
      have hA := (HVA.out k hkL).below hb
      have hB := (HVB.out k hkM).below hb
      clear hcl hcl'
      have k0 : (0 : Int) ≤ (k : Int) := by omega
      have kL : (k : Int) < (nL : Int) := by omega
      have kM : (k : Int) < (nM : Int) := by omega
      generalize hvk : vs[k]?.getD undef = vk at *
      generalize hvk' : vs'[k]?.getD undef = vk' at *
      generalize hxk : L[k]?.getD [] = xs at *
      generalize hyk : M[k]?.getD [] = ys at *
      have HX := Lib.hid hxk
      have HY := Lib.hid hyk
      clear hvk hvk' hxk hyk
      obtain ⟨Ax, capx, rfl, p1, p2, rx⟩ := id hA
      obtain ⟨Ay, capy, rfl, q1, q2, ry⟩ := id hB
      by_cases hx : mayb xs = true
      · by_cases hy : mayb ys = true
        · by_cases hL : longB xs.length ys.length = true
          · have c1 := Lib.hid fun n => may_yes (w := wr.drewN n) capx (rx.drewN n) (by omega) hx
            have c2 := Lib.hid fun n => may_yes (w := wr.drewN n) capy (ry.drewN n) (by omega) hy
            have c3 := Lib.hid fun n => tooLong_is Ax Ay xs.length ys.length capx capy (wr.drewN n) (mayb_iff.1 hx).1 (mayb_iff.1 hy).1 hL
            have hs := sSum_no (L := L) (M := M) (k := k) (by rw [HNL.out, HNM.out]; exact hlt) (by unfold okAt; rw [HX.out, HY.out]; simp [hL])
            have HS := Lib.hid hs
            have HB := Lib.hid hb
            clear hs hx hy hL hA hB rx ry ho hok hb
            go_wp2_with fail
            go_quiet ((first | (go_at_call_of 24 (Value.slice Ax xs.length capx); exact Calls.quiet_of_same (c1.out _)) | (go_at_call_of 24 (Value.slice Ay ys.length capy); exact Calls.quiet_of_same (c2.out _)) | (go_at_call 62; exact Calls.quiet_of_same (c3.out _))))
            all_goals
              go_wp2
              go_ret
              exact ⟨⟨_, rfl, by rw [HS.out]; exact Own.nil _ _⟩, below_drewN HB.out _⟩
          · have hLf : longB xs.length ys.length = false := by simpa using hL
            have hxm := (mayb_iff.1 hx).1
            have hym := (mayb_iff.1 hy).1
            have c1 := Lib.hid fun n => may_yes (w := wr.drewN n) capx (rx.drewN n) (by omega) hx
            have c2 := Lib.hid fun n => may_yes (w := wr.drewN n) capy (ry.drewN n) (by omega) hy
            have c3 := Lib.hid fun n => tooLong_is Ax Ay xs.length ys.length capx capy (wr.drewN n) hxm hym hLf
            have hok1 := Lib.hid (show allOk L M (k + 1) = true by rw [allOk_succ, hok]; unfold okAt; rw [HX.out, HY.out]; simp [hx, hy, hLf])
            have hsl := dot_len HLA.out HLB.out hok (by omega)
            have HC := Lib.hid (And.intro (mayb_canon rx.limbs hx) (mayb_canon ry.limbs hy))
            have hpl := prod_len rx.limbs ry.limbs
            have hdot : Hid (dot L M (k + 1) = dot L M k + val xs * val ys) := by show _ = _; rw [dot, HX.out, HY.out]
            have HA1 := Lib.hid hA
            have HB1 := Lib.hid hB
            have HB := Lib.hid hb
            obtain ⟨As, caps, rfl⟩ := own_form ho rfl
            generalize hS : lim (dot L M k) = S at *
            generalize hP : lim (val xs * val ys) = P at *
            have HSP := Lib.hid (And.intro hS hP)
            have HO := Lib.hid ho
            clear hx hy hL hLf hA hB rx ry ho hok hb hS hP
            go_wp2_with fail
            go_quiet ((first | (go_at_call_of 24 (Value.slice Ax xs.length capx); exact Calls.quiet_of_same (c1.out _)) | (go_at_call_of 24 (Value.slice Ay ys.length capy); exact Calls.quiet_of_same (c2.out _)) | (go_at_call 62; exact Calls.quiet_of_same (c3.out _))))
            clear c1 c2 c3
            have y1 : (wr.drewN nq).cell? ⟨b, off + k, none⟩ = some (.slice Ax xs.length capx) := x1
            have y2 : (wr.drewN nq).cell? ⟨b', off' + k, none⟩ = some (.slice Ay ys.length capy) := x2
            have HB2 := Lib.hid (below_drewN HB.out nq)
            have HO2 : Hid (Own (wr.drewN nq) w.heap.size (.slice As S.length caps) S) := HO.out
            have HA2 : Hid (Arg (wr.drewN nq) (.slice Ax xs.length capx) xs) := HA1.out
            have HA3 : Hid (Arg (wr.drewN nq) (.slice Ay ys.length capy) ys) := HB1.out
            clear HA1 HB1 HB HO x1 x2
            generalize wr.drewN nq = w1 at *
            go_wp2_with fail
            go_still_tail 8, (by kernel_rfl)
            change wpList _ _ _ _ _ w1.drew
            have HB3 := Lib.hid HB2.out.drew
            have HO3 : Hid (Own w1.drew w.heap.size (.slice As S.length caps) S) := HO2.out
            have HA4 : Hid (Arg w1.drew (.slice Ax xs.length capx) xs) := HA2.out
            have HA5 : Hid (Arg w1.drew (.slice Ay ys.length capy) ys) := HA3.out
            clear HB2 HO2 HA2 HA3 y1 y2
            generalize w1.drew = w2 at *
            have c4 := timesAt _ _ _ xs ys w2 HA4.out HA5.out HC.out.1 HC.out.2 hxm hym (Nat.le_refl _)
            go_wp2_with fail
            with_reducible refine c4.mono ?_
            rintro e w3 ⟨⟨v3, rfl, ho3⟩, hb3⟩
            rw [HSP.out.2] at ho3
            have hSl : Limbs S := by rw [← HSP.out.1]; exact lim_limbs _
            have hPl : Limbs P := by rw [← HSP.out.2]; exact lim_limbs _
            have hO3 := HO3.out.below hb3
            have hSlt := World.ownsRow.lt HO3.out
            obtain ⟨v5, w4, hrun, ho4, hg4, g, cap4, rfl, hgg⟩ := zeros_own w3 24 w.heap.size (P.length - S.length + 1) (.slice As S.length caps) S hO3 (Nat.le_trans HB3.out.size hb3.size) (by omega) (by omega) (by omega)
            obtain ⟨A3, cap3, rfl, hfar⟩ := far_grown ho3 hPl (fun j hj => (hSlt j hj).2) hg4 hgg
            rw [show ((P.length - S.length + 1 : Nat) : Int) = max ((P.length : Int) - (S.length : Int)) 0 + 1 from by omega] at hrun
            have hb4 : Below w.heap.size w w4 := (HB3.out.trans (hb3.mono HB3.out.size)).grown hg4 (Nat.le_trans HB3.out.size hb3.size) (fun j hj => (hSlt j hj).1)
            have hzl : (S ++ List.replicate (P.length - S.length + 1) 0).length = S.length + (P.length - S.length + 1) := by simp
            have hval : seg (S ++ List.replicate (P.length - S.length + 1) 0) 0 (S.length + (P.length - S.length + 1)) = val S := by
              rw [← hzl, seg_val, val_append, val_replicate, Nat.mul_zero, Nat.add_zero]
            have hroom : val S + val P < 4294967296 ^ (S.length + (P.length - S.length + 1)) := by
              have := sum_room (s := dot L M k) (p := val xs * val ys) (n := S.length + (P.length - S.length + 1)) (by rw [HSP.out.1]; omega) (by rw [HSP.out.2]; omega)
              rwa [← val_lim (dot L M k), ← val_lim (val xs * val ys), HSP.out.1, HSP.out.2] at this
            have ca := add_far g 0 (S.length + (P.length - S.length + 1)) cap4 cap4 A3 cap3 P (S ++ List.replicate (P.length - S.length + 1) 0) w4 w.heap.size (by rw [hzl]; rw [← hzl] at ho4; simpa using ho4) (hSl.append (limbs_replicate _)) (by rw [hzl]; omega) hfar (by omega) (by omega) (by rw [hval]; exact hroom)
            have hge := ho4.ge
            have HVAL := Lib.hid hval
            have HB4 := Lib.hid hb4
            have HZL := Lib.hid hzl
            clear hSl hPl hO3 hSlt ho3 hb3 ho4 hg4 hgg hfar hb4 hzl hval hroom c4
            go_wp2_with (at_builtin; refine Lib.wpList_append_run _ rfl _ _ _ _ rfl _ _ rfl rfl _ _ hrun ?_)
            with_reducible refine ca.mono ?_
            rintro e w5 ⟨X, rfl, S5, D5, ho5, hb5⟩
            have hv5 : val X = dot L M (k + 1) := by
              have hw := S5.whole (by rw [HZL.out]; omega)
              rw [D5, HVAL.out] at hw
              have h1 : val (S ++ List.replicate (P.length - S.length + 1) 0) = val S := by rw [val_append, val_replicate, Nat.mul_zero, Nat.add_zero]
              have h2 : val S = dot L M k := by rw [← HSP.out.1, val_lim]
              have h3 : val P = val xs * val ys := by rw [← HSP.out.2, val_lim]
              rw [hdot.out]
              simp only [Nat.pow_zero, Nat.one_mul] at hw
              omega
            have hl5 : X.length = S.length + (P.length - S.length + 1) := by rw [S5.1, HZL.out]
            obtain ⟨A6, cap6, e6, g1, g2, rd6⟩ := ho5.rd S5.2.1
            injection e6 with ea eb ec
            subst ea ec
            have cT := trim_any _ _ X w5 _ rd6 g1 g2
            have hfin := ho5.trimmed S5.2.1
            rw [hv5, hl5] at cT
            rw [hv5] at hfin
            have HFIN := Lib.hid hfin
            have HB5 := Lib.hid (HB4.out.trans (hb5.below hge))
            clear S5 D5 ho5 hb5 hv5 hl5 rd6 g1 g2 hfin hrun ca
            go_wp2_with fail
            with_reducible refine cT.mono ?_
            rintro e w6 ⟨rfl, hw⟩
            obtain rfl := hw.symm
            clear cT
            go_wp2_with fail
            go_roundw
            case rel => exact ⟨k + 1, by omega, by go_num, hok1.out, HFIN.out, HB5.out⟩
            case measure => simp [intOf]; omega
        · have c1 := Lib.hid fun n => may_yes (w := wr.drewN n) capx (rx.drewN n) (by omega) hx
          have c2 := Lib.hid fun n => may_no (w := wr.drewN n) capy (ry.drewN n) (by omega) (by simpa using hy)
          have hs := sSum_no (L := L) (M := M) (k := k) (by rw [HNL.out, HNM.out]; exact hlt) (by unfold okAt; rw [HX.out, HY.out]; simp [hy])
          have HS := Lib.hid hs
          have HB := Lib.hid hb
          clear hs hx hy hA hB rx ry ho hok hb
          go_wp2_with fail
          go_quiet ((first | (go_at_call_of 24 (Value.slice Ax xs.length capx); exact Calls.quiet_of_same (c1.out _)) | (go_at_call_of 24 (Value.slice Ay ys.length capy); exact Calls.quiet_of_same (c2.out _))))
          all_goals
            go_wp2
            go_ret
            exact ⟨⟨_, rfl, by rw [HS.out]; exact Own.nil _ _⟩, below_drewN HB.out _⟩
      · have c1 := Lib.hid fun n => may_no (w := wr.drewN n) capx (rx.drewN n) (by omega) (by simpa using hx)
        have hs := sSum_no (L := L) (M := M) (k := k) (by rw [HNL.out, HNM.out]; exact hlt) (by unfold okAt; rw [HX.out]; simp [hx])
        have HS := Lib.hid hs
        have HB := Lib.hid hb
        clear hs hx hA hB rx ry ho hok hb
        go_wp2_with fail
        go_quiet ((go_at_call 24; exact Calls.quiet_of_same (c1.out _)))
        all_goals
          go_wp2
          go_ret
          exact ⟨⟨_, rfl, by rw [HS.out]; exact Own.nil _ _⟩, below_drewN HB.out _⟩
    · obtain rfl : k = min nL nM := by omega
      have hsl := dot_len HLA.out HLB.out hok (by omega)
      have hs : sSum L M = clip (dot L M (min nL nM)) := by
        rw [sSum_yes (by rw [HNL.out, HNM.out]; exact hok), HNL.out, HNM.out]
      have hltI : ¬ ((min nL nM : Nat) : Int) < min (nL : Int) (nM : Int) := by omega
      obtain ⟨As, caps, rfl⟩ := own_form ho rfl
      have cd := told_any As (lim (dot L M (min nL nM))).length caps wr (by unfold maxLen; omega)
      have HO := Lib.hid (toldV_own ho)
      have HB := Lib.hid hb
      have HS := Lib.hid hs
      clear hok hs ho hb hsl
      go_wp2_with fail
      with_reducible refine cd.mono ?_
      rintro e w6 ⟨rfl, hw⟩
      obtain rfl := hw.symm
      clear cd
      go_wp2_with fail
      go_ret
      exact ⟨⟨_, rfl, by rw [HS.out]; exact HO.out⟩, HB.out⟩

end Go.Proofs.YtileljokijmpaaaDoor

/- The laws' words for products: calls in an environment; same, ones, long, may; lists of lists. -/
namespace Go.Proofs.YtileljokijmpaaaDoor
open Go.RowKit Go.Shelf

set_option linter.unusedVariables false

section
variable {w0 w w' : World} {l : List (Value × List Nat)} {va vb : Value} {xs ys zs : List Nat}
theorem Env.newL {L : List Nat} {e : Ending} (E : Env w0 w l) (hl : Limbs L) (h : NewL w L e w') : ∃ r, e = .returned r ∧ Env w0 w' ((r, L) :: l) := by
  obtain ⟨⟨v, he, ho⟩, hb⟩ := h
  exact ⟨v, he, E.add hb (ho.arg hl)⟩
theorem mul_is (h : Env w0 w l) (ha : (va, xs) ∈ l) (hb : (vb, ys) ∈ l) (hz : sMul xs ys = zs) : Calls Tryd.prog 44 #[va, vb] w fun e w' => ∃ r, e = .returned r ∧ Env w0 w' ((r, zs) :: l) := by
  subst hz
  exact (mul_any va vb xs ys w (h.get ha) (h.get hb)).mono fun _ _ hn => h.newL (sMul_limbs _ _) hn
theorem square_is (h : Env w0 w l) (ha : (va, xs) ∈ l) (hz : sMul xs xs = zs) : Calls Tryd.prog 43 #[va] w fun e w' => ∃ r, e = .returned r ∧ Env w0 w' ((r, zs) :: l) := by
  subst hz
  exact (square_any va xs w (h.get ha)).mono fun _ _ hn => h.newL (sMul_limbs _ _) hn
theorem sSmall_limbs (xs : List Nat) (m a : Nat) : Limbs (sSmall xs m a) := by
  unfold sSmall; split
  · exact clip_limbs _
  · exact limbs_nil
theorem pow_is (h : Env w0 w l) (ha : (va, xs) ∈ l) (k : Int) (hk : k < 9223372036854775808) (hk0 : -9223372036854775808 ≤ k) (hz : sPow xs k = zs) : Calls Tryd.prog 27 #[va, .int .i64 k] w fun e w' => ∃ r, e = .returned r ∧ Env w0 w' ((r, zs) :: l) := by
  subst hz
  exact (pow_any va xs k w (h.get ha) hk hk0).mono fun _ _ hn => h.newL (sPow_limbs _ _) hn
theorem sum_is {L M : List (List Nat)} (h : Env w0 w l) (ha : Rows2 w va L) (hb : Rows2 w vb M) (hz : sSum L M = zs) : Calls Tryd.prog 73 #[va, vb] w fun e w' => ∃ r, e = .returned r ∧ Env w0 w' ((r, zs) :: l) := by
  subst hz
  exact (sum_any va vb L M w ha hb).mono fun _ _ hn => h.newL (sSum_limbs _ _) hn
/-- Lists of what is at hand. -/
theorem rows_of (h : Env w0 w l) (q : List (Value × List Nat)) (hq : ∀ p ∈ q, p ∈ l) (hm : q.length ≤ maxLen) :
    Rows2 (w.alloc (.cells (q.map Prod.fst).toArray 24)) (.slice (some ⟨w.heap.size, 0, none⟩) q.length q.length) (q.map Prod.snd) ∧ Env w0 (w.alloc (.cells (q.map Prod.fst).toArray 24)) l := by
  have hb : Below w.heap.size w (w.alloc (.cells (q.map Prod.fst).toArray 24)) := (Below.refl _ w).alloc (Nat.le_refl _) _
  refine ⟨⟨_, _, q.map Prod.fst, by rw [List.length_map], by simpa using hm, fun j hj => ?_, fun h0 => ⟨w.heap.size, 0, rfl, by simp, fun j hj => ?_⟩⟩, h.step hb⟩
  · have hj' : j < q.length := by simpa using hj
    have hp := hq q[j] (List.getElem_mem hj')
    rw [List.getElem?_map, List.getElem?_map, List.getElem?_eq_getElem hj']
    exact (h.2 _ hp).below hb
  · have hj' : j < q.length := by simpa using hj
    rw [World.cell?_alloc_new]
    simp [List.getElem?_eq_getElem hj']
end

def tot : List (List Nat) → Nat
  | [] => 0
  | x :: r => 1 + min 700 x.length + tot r
theorem tot_snoc (L : List (List Nat)) (x : List Nat) : tot (L ++ [x]) = tot L + (1 + min 700 x.length) := by
  induction L with
  | nil => simp [tot]
  | cons y r ih => simp only [List.cons_append, tot, ih]; omega
theorem tot_take_le (L : List (List Nat)) (k : Nat) : tot (L.take k) ≤ tot L := by
  induction L generalizing k with
  | nil => simp [tot]
  | cons y r ih =>
    cases k with
    | zero => simp [tot]
    | succ k => simp only [List.take_succ_cons, tot]; have := ih k; omega
def longL (L : List (List Nat)) : Bool := decide (700 ≤ tot L)
theorem tot_take (L : List (List Nat)) {k : Nat} (hk : k < L.length) : tot (L.take (k + 1)) = tot (L.take k) + (1 + min 700 (L[k]?.getD []).length) := by
  rw [List.take_succ_eq_append_getElem hk, tot_snoc, List.getElem?_eq_getElem hk]; rfl

end Go.Proofs.YtileljokijmpaaaDoor

/- ones; works: the examples. -/
namespace Go.Proofs.YtileljokijmpaaaDoor
open Go.RowKit Go.Shelf

set_option linter.unusedVariables false

def fulls (n : Nat) : List Nat := List.replicate n 4294967295
theorem fulls_limbs (n : Nat) : Limbs (fulls n) := fun y hy => by rw [(List.mem_replicate.1 hy).2]; decide
def partly (n k : Nat) : List Nat := List.replicate k 4294967295 ++ List.replicate (n - k) 0
theorem partly_length {n k : Nat} (h : k ≤ n) : (partly n k).length = n := by simp [partly]; omega
theorem partly_set {n k : Nat} (h : k < n) : (partly n k).set k 4294967295 = partly n (k + 1) := by
  unfold partly
  rw [List.set_append_right _ _ (by simp), List.length_replicate, Nat.sub_self, show n - k = (n - (k + 1)) + 1 from by omega, List.replicate_succ, List.set_cons_zero, List.replicate_succ' (n := k), List.append_assoc]
  simp
theorem partly_at {n k : Nat} (h : k < n) : (partly n k)[k]?.getD 0 = 0 := by
  unfold partly
  rw [List.getElem?_append_right (by simp), List.length_replicate, Nat.sub_self, List.getElem?_replicate, if_pos (by omega)]; rfl

section
variable {w0 w w' : World} {l : List (Value × List Nat)} {va vb : Value} {xs ys zs : List Nat}
theorem Env.lit1' (h : Env w0 w l) (n : Nat) (hn : n = w.heap.size) (x : Nat) (X : Int) (hX : X = (x : Int)) (hx : x < 4294967296) : Env w0 (w.alloc (.cells #[.int .u32 X] 40)) ((.slice (some ⟨n, 0, none⟩) 1 1, [x]) :: l) := by subst hn; exact h.lit1 x X hX hx
theorem Rows2.alloc {w : World} {v : Value} {L : List (List Nat)} (h : Rows2 w v L) (o : Obj) : Rows2 (w.alloc o) v L := h.below ((Below.refl _ w).alloc (Nat.le_refl _) o)
theorem rows2 (h : Env w0 w l) (n : Nat) (hn : n = w.heap.size) (h1 : (va, xs) ∈ l) (h2 : (vb, ys) ∈ l) : Rows2 (w.alloc (.cells #[va, vb] 24)) (.slice (some ⟨n, 0, none⟩) 2 2) [xs, ys] ∧ Env w0 (w.alloc (.cells #[va, vb] 24)) l := by
  subst hn
  exact rows_of h [(va, xs), (vb, ys)] (fun p hp => by
    rcases List.mem_cons.1 hp with rfl | hp
    · exact h1
    · rcases List.mem_cons.1 hp with rfl | hp
      · exact h2
      · cases hp) (by unfold maxLen; simp)
theorem rows3 {vc : Value} {zs : List Nat} (h : Env w0 w l) (n : Nat) (hn : n = w.heap.size) (h1 : (va, xs) ∈ l) (h2 : (vb, ys) ∈ l) (h3 : (vc, zs) ∈ l) : Rows2 (w.alloc (.cells #[va, vb, vc] 24)) (.slice (some ⟨n, 0, none⟩) 3 3) [xs, ys, zs] ∧ Env w0 (w.alloc (.cells #[va, vb, vc] 24)) l := by
  subst hn
  exact rows_of h [(va, xs), (vb, ys), (vc, zs)] (fun p hp => by
    rcases List.mem_cons.1 hp with rfl | hp
    · exact h1
    · rcases List.mem_cons.1 hp with rfl | hp
      · exact h2
      · rcases List.mem_cons.1 hp with rfl | hp
        · exact h3
        · cases hp) (by unfold maxLen; simp)
end

theorem sMul_eq {xs ys zs : List Nat} (hx : mayb xs = true) (hy : mayb ys = true) (hz : mayb zs = true) (hl : Limbs zs) (h : val xs * val ys = val zs) : sMul xs ys = zs := by
  rw [sMul_yes (by simp [hx, hy]), h, clip_val hl hz]
theorem sSmall_eq {xs zs : List Nat} {m a : Nat} (hx : mayb xs = true) (hz : mayb zs = true) (hl : Limbs zs) (h : val xs * m + a = val zs) : sSmall xs m a = zs := by
  rw [sSmall_yes hx, h, clip_val hl hz]
theorem sPow_eq {xs zs : List Nat} {n : Nat} (hx : mayb xs = true) (hz : mayb zs = true) (hl : Limbs zs) (h : val xs ^ n = val zs) : sPow xs (n : Int) = zs := by
  rw [sPow_yes hx, h, clip_val hl hz]

end Go.Proofs.YtileljokijmpaaaDoor

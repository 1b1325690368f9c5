/- DivTells. -/
import Derived.Test.YtidflhonhekmjaaDivR
import Derived.Test.YtidflhonhekmjaaRefV
namespace Go.Proofs.Ytidflhonhekmjaa
open Go.RowKit Go.Shelf

set_option linter.unusedVariables false

theorem Own.apartKept {w w' : World} {B g n c : Nat} {v : Value} {zs : List Nat} (H : Own w B v zs) (hap : Apart (.slice (some ⟨g, 0, none⟩) n c) v) (k : Only g w w') : Own w' B v zs := by
  refine ⟨H.1, ?_⟩
  rcases H.2 with h | ⟨g', cap', cur, e, hg', hh, r⟩
  · exact .inl h
  · have := hap g g' _ _ _ _ rfl e
    exact .inr ⟨g', cap', cur, e, hg', (k.block g' (fun e => this e.symm)).trans hh, r⟩
set_option maxHeartbeats 1000000 in
theorem is3_full {w : World} {v vw : Value} {xs ys : List Nat} {B : Nat} (ho : Own w B v xs) (hl : Limbs xs) (hB : B ≤ w.heap.size) (ha : Arg w vw ys) :
    Calls Try.prog 41 #[v, vw] w fun e w' => e = .returned (.bool (eqb xs ys)) ∧ Below B w w' ∧ (∀ v' zs B', Own w B' v' zs → Apart v v' → Own w' B' v' zs) := by
  obtain ⟨A, cap, rfl, h1, h2, hr⟩ := ho.rd hl
  obtain ⟨A', cap', rfl, h1', h2', hr'⟩ := ha
  have c := same_any A A' cap cap' xs ys w _ hr hr' (Nat.le_trans h1' h2')
  have hxm : xs.length ≤ 9223372036854775807 := Nat.le_trans h1 h2
  clear hr hr' hl h1' h2'
  go_enter Try.func41, Try.ntmps41
  go_wp2_with fail
  refine c.mono ?_
  rintro e w' ⟨rfl, nq, hw⟩
  have hBd : Below B w w' := by rw [hw]; exact ⟨rfl, rfl, rfl, Nat.le_refl _, fun _ _ => rfl⟩
  have ho' : w'.ownsRow B 26 1 (.slice A xs.length cap) xs.length (u32s xs) := by rw [hw]; exact ho
  have hK0 : ∀ v' zs B', Own w B' v' zs → Apart (.slice A xs.length cap) v' → Own w' B' v' zs := fun _ _ _ h _ => by rw [hw]; exact h
  have HKQ := Lib.hid hK0
  clear c hw ho hK0
  go_wp2
  go_loopw [6] (fun v wr => ∃ (k : Nat) (Z : List Value), k ≤ xs.length ∧ v = .int .i64 (k : Int) ∧ wr.ownsRow B 26 1 (.slice A xs.length cap) xs.length Z ∧ Below B w wr ∧ Hid (∀ v' zs B', Own w B' v' zs → Apart (.slice A xs.length cap) v' → Own wr B' v' zs)) (fun v _ => xs.length - (intOf v).toNat)
  case atStart => exact ⟨0, u32s xs, Nat.zero_le _, rfl, ho', hBd, HKQ.out⟩
  case round =>
    clear ho' hBd
    obtain ⟨k, Z, hk, rfl, hown, hBw, hKw⟩ := hrel
    by_cases hlt : k < xs.length
    · obtain ⟨g, rfl, hBg⟩ : ∃ g, A = some ⟨g, 0, none⟩ ∧ B ≤ g := by
        rcases hown.2 with ⟨_, h0⟩ | ⟨g, capv, cur, h0, hg, _⟩
        · omega
        · cases h0; exact ⟨g, rfl, hg⟩
      have hzl : Z.length = xs.length := by have := hown.1; omega
      have hcl := hown.cellAt k (by omega)
      rw [List.getElem?_eq_getElem (by omega)] at hcl
      have hfz := hown.frozenAt k
      have hst := hown.stored k (.int .u32 77)
      have hR1 := Lib.hid hst.1
      have hb0 := Lib.hid (hBw.setCell (p := ⟨g, k, none⟩) hBg (.int .u32 77))
      have hK1 := Lib.hid (show ∀ v' zs B', Own w B' v' zs → Apart (.slice (some ⟨g, 0, none⟩) xs.length cap) v' → Own (wr.setCell ⟨g, k, none⟩ (.int .u32 77)) B' v' zs from fun v' zs B' h1 h2 => (hKw.out v' zs B' h1 h2).apartKept h2 ((Only.refl g wr).setCell k (.int .u32 77)))
      clear hst hown hKw
      go_wp2
      go_roundw
      case rel => exact ⟨k + 1, _, by omega, by go_num, hR1.out, hb0.out, hK1.out⟩
      case measure => simp [intOf]; omega
    · go_wp2
      go_ret
      exact ⟨rfl, hBw, hKw.out⟩


set_option maxRecDepth 100000 in
set_option maxHeartbeats 4000000 in
theorem dtells_longa {Pa : Option Addr} {na ca : Nat} {Pb : Option Addr} {nb cb : Nat} {xa xb : List Nat} (w : World) (ha : Arg w (.slice Pa na ca) xa) (hb : Arg w (.slice Pb nb cb) xb) (m : Nat) (hl : 12 < xa.length) : Calls Try.prog 6 #[.slice Pa na ca, .slice Pb nb cb, .int .u32 (m : Int)] w fun e w' => e = .returned (.bool true) ∧ Below w.heap.size w w' := by
  have hn : na = xa.length := by obtain ⟨_, _, e, _⟩ := ha; injection e
  have p1 : decide ((12 : Int) < (na : Int)) = true := decide_eq_true (by omega)
  have env0 := env_start w
  clear ha hb hn hl
  go_enter Try.func6, Try.ntmps6
  go_wp2_with fail
  refine (awake3_env env0).mono ?_
  rintro e w1 ⟨rfl, env1⟩
  have HB := Lib.hid env1.1
  clear env0 env1
  go_wp2
  go_ret
  exact ⟨rfl, HB.out⟩

set_option maxRecDepth 100000 in
set_option maxHeartbeats 4000000 in
theorem dtells_longb {Pa : Option Addr} {na ca : Nat} {Pb : Option Addr} {nb cb : Nat} {xa xb : List Nat} (w : World) (ha : Arg w (.slice Pa na ca) xa) (hb : Arg w (.slice Pb nb cb) xb) (m : Nat) (hl0 : xa.length ≤ 12) (hl : 12 < xb.length) : Calls Try.prog 6 #[.slice Pa na ca, .slice Pb nb cb, .int .u32 (m : Int)] w fun e w' => e = .returned (.bool true) ∧ Below w.heap.size w w' := by
  have hn : na = xa.length := by obtain ⟨_, _, e, _⟩ := ha; injection e
  have hn2 : nb = xb.length := by obtain ⟨_, _, e, _⟩ := hb; injection e
  have p1 : decide ((12 : Int) < (na : Int)) = false := decide_eq_false (by omega)
  have p2 : decide ((12 : Int) < (nb : Int)) = true := decide_eq_true (by omega)
  have env0 := env_start w
  clear ha hb hn hl hn2 hl0
  go_enter Try.func6, Try.ntmps6
  go_wp2_with fail
  refine (awake3_env env0).mono ?_
  rintro e w1 ⟨rfl, env1⟩
  have HB := Lib.hid env1.1
  clear env0 env1
  go_wp2
  go_ret
  exact ⟨rfl, HB.out⟩

set_option maxRecDepth 100000 in
set_option maxHeartbeats 8000000 in
theorem dtells_few {Pa : Option Addr} {na ca : Nat} {Pb : Option Addr} {nb cb : Nat} {xa xb : List Nat} (w : World) (ha : Arg w (.slice Pa na ca) xa) (za : NoRoom (.slice Pa na ca)) (hb : Arg w (.slice Pb nb cb) xb) (zb : NoRoom (.slice Pb nb cb)) (m : Nat) (hm : m < 4294967296) (l1 : xa.length ≤ 12) (l2 : xb.length ≤ 12) : Calls Try.prog 6 #[.slice Pa na ca, .slice Pb nb cb, .int .u32 (m : Int)] w fun e w' => e = .returned (.bool true) ∧ Below w.heap.size w w' := by
  have hn : na = xa.length := by obtain ⟨_, _, e, _⟩ := ha; injection e
  have hn2 : nb = xb.length := by obtain ⟨_, _, e, _⟩ := hb; injection e
  have p1 : decide ((12 : Int) < (na : Int)) = false := decide_eq_false (by omega)
  have p2 : decide ((12 : Int) < (nb : Int)) = false := decide_eq_false (by omega)
  have cO := own3_any ⟨ha, za⟩ (by omega)
  have HA := Lib.hid ha
  have HB := Lib.hid hb
  have ZA := Lib.hid za
  have ZB := Lib.hid zb
  have L1 := Lib.hid l1
  have L2 := Lib.hid l2
  clear ha hb hn hn2 l1 l2 za zb
  go_enter Try.func6, Try.ntmps6
  go_wp2_with fail
  with_reducible refine cO.mono ?_
  rintro e w1 ⟨⟨x, rfl, hx⟩, hb1⟩
  have env1 : Env w w1 [(x, xa), (.slice Pa na ca, xa), (.slice Pb nb cb, xb)] := (((env_start1 HB.out).add (Below.refl _ _) HA.out).newR HA.out.limbs hx hb1)
  have cP := own3_any (w := w1) (v := .slice Pb nb cb) (xs := xb) ⟨env1.get (by simp), ZB.out⟩ (by have := L2.out; omega)
  clear cO hx hb1
  go_wp2_with fail
  with_reducible refine cP.mono ?_
  rintro e w2 ⟨⟨y, rfl, hy⟩, hb2⟩
  have env2 := env1.newR HB.out.limbs hy hb2
  clear cP hy hb2 env1
  go_wp2_with fail
  go_loopw [9] (fun i wr => ∃ n : Nat, n ≤ 2 ∧ i = .int .i64 (n : Int) ∧ Env w wr [(y, xb), (x, xa), (.slice Pa na ca, xa), (.slice Pb nb cb, xb)]) (fun i _ => 2 - (intOf i).toNat)
  case atStart => exact ⟨0, by decide, rfl, env2⟩
  case round =>
    clear env2
    obtain ⟨n, hn, rfl, E⟩ := hrel
    by_cases hlt : n < 2
    · have c1 := divmod_any x y xa xb wr (E.get (by simp)) (E.get (by simp))
      have HE := Lib.hid E
      have lQ := sDivQ_limbs xa xb
      have lR := sDivR_limbs xa xb
      have lP := sSmQ_limbs xa m
      have LQ := Lib.hid lQ
      have LR := Lib.hid lR
      have LP := Lib.hid lP
      clear E lQ lR lP
      go_wp2_with fail
      with_reducible refine c1.mono ?_
      rintro e v1 ⟨⟨q, r, rfl, hoq, hor, hqr⟩, hb1⟩
      have c2 := rdivmod_any (.slice Pa na ca) (.slice Pb nb cb) xa xb v1 ⟨(HE.out.get (by simp)).below hb1, ZA.out⟩ ((HE.out.get (by simp)).below hb1)
      have HOQ := Lib.hid hoq
      have HOR := Lib.hid hor
      have HQR := Lib.hid hqr
      have HB1 := Lib.hid hb1
      clear c1 hoq hor hqr hb1
      go_wp2_with fail
      with_reducible refine c2.mono ?_
      rintro e v2 ⟨⟨s, t, rfl, hos, hot⟩, hb2⟩
      have HB2 := Lib.hid (HB1.out.trans (hb2.mono HB1.out.size))
      have c3 := dsmall_any x xa m v2 ((HE.out.get (by simp)).below HB2.out) hm
      have AQT := Lib.hid (HOQ.out.apart hot)
      have ART := Lib.hid (HOR.out.apart hot)
      have AQS := Lib.hid (HOQ.out.apart hos)
      have HOQ2 := Lib.hid (HOQ.out.below hb2)
      have HOR2 := Lib.hid (HOR.out.below hb2)
      have HOS := Lib.hid hos
      have HOT := Lib.hid hot
      clear c2 hos hot hb2
      go_wp2_with fail
      with_reducible refine c3.mono ?_
      rintro e v3 ⟨⟨p, rfl, hop⟩, hb3⟩
      have HB3 := Lib.hid (HB2.out.trans (hb3.mono HB2.out.size))
      have c4 := rsmall_any (.slice Pa na ca) xa m v3 ⟨(HE.out.get (by simp)).below HB3.out, ZA.out⟩ hm
      have AQP := Lib.hid (HOQ2.out.apart hop)
      have ARP := Lib.hid (HOR2.out.apart hop)
      have HOQ3 := Lib.hid (HOQ2.out.below hb3)
      have HOR3 := Lib.hid (HOR2.out.below hb3)
      have HOS3 := Lib.hid (HOS.out.below hb3)
      have HOT3 := Lib.hid (HOT.out.below hb3)
      have HOP := Lib.hid hop
      clear c3 hop hb3
      go_wp2_with fail
      with_reducible refine c4.mono ?_
      rintro e v4 ⟨⟨n2, rfl, hon⟩, hb4⟩
      have HB4 := Lib.hid (HB3.out.trans (hb4.mono HB3.out.size))
      have AQN := Lib.hid (HOQ3.out.apart hon)
      have ARN := Lib.hid (HOR3.out.apart hon)
      have hq4 := HOQ3.out.below hb4
      have hr4 := HOR3.out.below hb4
      have hs4 := HOS3.out.below hb4
      have ht4 := HOT3.out.below hb4
      have hp4 := HOP.out.below hb4
      have c5 := is3_full hq4 LQ.out HB4.out.size (hs4.arg LQ.out)
      rw [eqb_refl] at c5
      have HR4 := Lib.hid hr4
      have HT4 := Lib.hid ht4
      have HP4 := Lib.hid hp4
      have HN4 := Lib.hid hon
      have PSZ := Lib.hid HB2.out.size
      clear c4 hon hb4 hq4 hr4 hs4 ht4 hp4
      generalize sDivE xa xb = E1 at *
      generalize sSmE xa m = E2 at *
      generalize sSmR xa m = R2 at *
      go_wp2_with fail
      with_reducible refine c5.mono ?_
      rintro e v5 ⟨rfl, hb5, hk5⟩
      have hr5 := hk5 _ _ _ HR4.out HQR.out
      have ht5 := hk5 _ _ _ HT4.out AQT.out
      have HP5 := Lib.hid (hk5 _ _ _ HP4.out AQP.out)
      have HN5 := Lib.hid (hk5 _ _ _ HN4.out AQN.out)
      have HB5 := Lib.hid (HB4.out.trans hb5)
      have c6 := is3_full hr5 LR.out HB5.out.size (ht5.arg LR.out)
      rw [eqb_refl] at c6
      clear c5 hb5 hk5 hr5 ht5
      go_wp2_with fail
      with_reducible refine c6.mono ?_
      rintro e v6 ⟨rfl, hb6, hk6⟩
      have hp6 := hk6 _ _ _ HP5.out ARP.out
      have hn6 := hk6 _ _ _ HN5.out ARN.out
      have HB6 := Lib.hid (HB5.out.trans hb6)
      have c7 := is3_full (hp6.more (B' := wr.heap.size) PSZ.out) LP.out HB6.out.size (hn6.arg LP.out)
      rw [eqb_refl] at c7
      clear c6 hb6 hk6 hp6 hn6
      go_wp2_with fail
      with_reducible refine c7.mono ?_
      rintro e v7 ⟨rfl, hb7, _⟩
      have HF := Lib.hid (HE.out.step (HB6.out.trans hb7))
      clear c7 hb7
      go_wp2_with fail
      go_roundw
      case rel => exact ⟨n + 1, by omega, by go_num, HF.out⟩
      case measure => simp [intOf]; omega
    · go_wp2_with fail
      refine (refsame3 E (va := x) (vb := .slice Pa na ca) (xs := xa) (by simp) (by simp)).mono ?_
      rintro e v2 ⟨rfl, E2⟩
      clear E
      go_wp2_with fail
      refine (refsame3 E2 (va := y) (vb := .slice Pb nb cb) (xs := xb) (by simp) (by simp)).mono ?_
      rintro e v3 ⟨rfl, E3⟩
      clear E2
      go_wp2_with fail
      refine (awake3_env E3).mono ?_
      rintro e v4 ⟨rfl, E4⟩
      have HBF := Lib.hid E4.1
      clear E3 E4
      go_wp2
      go_ret
      exact ⟨rfl, HBF.out⟩

theorem bnd_u32d {u : Int} (h : (Lit.int .u32 u).wf = true) : 0 ≤ u ∧ u < 4294967296 := by
  simp [Lit.wf, IntKind.min, IntKind.max, IntKind.signed, IntKind.bits] at h
  omega
theorem dtells_law {Pa : Option Addr} {na ca : Nat} {Pb : Option Addr} {nb cb : Nat} {xa xb : List Nat} (w : World) (ha : Arg w (.slice Pa na ca) xa) (za : NoRoom (.slice Pa na ca)) (hb : Arg w (.slice Pb nb cb) xb) (zb : NoRoom (.slice Pb nb cb)) (u : Int) (hwf : (Lit.int .u32 u).wf = true) : Calls Try.prog 6 #[.slice Pa na ca, .slice Pb nb cb, .int .u32 u] w fun e w' => e = .returned (.bool true) ∧ Below w.heap.size w w' := by
  obtain ⟨h1, h2⟩ := bnd_u32d hwf
  obtain ⟨m, rfl⟩ := Int.eq_ofNat_of_zero_le h1
  rcases Nat.lt_or_ge 12 xa.length with la | la
  · exact dtells_longa w ha hb m la
  rcases Nat.lt_or_ge 12 xb.length with lb | lb
  · exact dtells_longb w ha hb m la lb
  exact dtells_few w ha za hb zb m (by omega) la lb

end Go.Proofs.Ytidflhonhekmjaa

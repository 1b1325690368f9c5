/- Contract: Sum. -/
import Derived.Outline
import Derived.Deep.RegionWith
import Derived.Deep.QuietTactic
import Derived.BigQuiet
import Derived.StillTailTactics
import Derived.Test.YtlfhpoffphljfaaMulN
namespace Go.Proofs.Ytlfhpoffphljfaa
open Go.RowKit Go.Shelf

set_option linter.unusedVariables false

/-- A list of slices of limbs. -/
def Rows2 (w : World) (v : Value) (L : List (List Nat)) : Prop :=
  ∃ A cap, ∃ vs : List Value, v = .slice A L.length cap ∧ L.length ≤ maxLen ∧ (∀ j, j < L.length → Arg w (vs[j]?.getD undef) (L[j]?.getD [])) ∧
    (0 < L.length → ∃ b off, A = some ⟨b, off, none⟩ ∧ b < w.heap.size ∧ ∀ j, j < L.length → w.cell? ⟨b, off + j, none⟩ = some (vs[j]?.getD undef))
theorem Rows2.below {w w' : World} {v : Value} {L : List (List Nat)} (h : Rows2 w v L) (hb : Below w.heap.size w w') : Rows2 w' v L := by
  obtain ⟨A, cap, vs, e, hl, ha, hc⟩ := h
  refine ⟨A, cap, vs, e, hl, fun j hj => (ha j hj).below hb, fun h0 => ?_⟩
  obtain ⟨b, off, e2, hb2, hc2⟩ := hc h0
  exact ⟨b, off, e2, Nat.lt_of_lt_of_le hb2 hb.size, fun j hj => (hb.cell (p := ⟨b, off + j, none⟩) hb2).trans (hc2 j hj)⟩

def okAt (L M : List (List Nat)) (j : Nat) : Bool := (mayb (L[j]?.getD []) && mayb (M[j]?.getD [])) && !longB (L[j]?.getD []).length (M[j]?.getD []).length
def allOk (L M : List (List Nat)) (n : Nat) : Bool := (List.range n).all (okAt L M)
def dot (L M : List (List Nat)) : Nat → Nat
  | 0 => 0
  | k + 1 => dot L M k + val (L[k]?.getD []) * val (M[k]?.getD [])
def sSum (L M : List (List Nat)) : List Nat := if allOk L M (min L.length M.length) then clip (dot L M (min L.length M.length)) else []
theorem allOk_succ (L M : List (List Nat)) (k : Nat) : allOk L M (k + 1) = (allOk L M k && okAt L M k) := by unfold allOk; rw [List.range_succ, List.all_append]; simp
theorem allOk_no {L M : List (List Nat)} {k n : Nat} (hk : k < n) (h : okAt L M k = false) : allOk L M n = false := by
  unfold allOk
  rw [List.all_eq_false]
  exact ⟨k, List.mem_range.2 hk, by simp [h]⟩
theorem sSum_no {L M : List (List Nat)} {k : Nat} (hk : k < min L.length M.length) (h : okAt L M k = false) : sSum L M = [] := by unfold sSum; rw [allOk_no hk h]; rfl
theorem sSum_yes {L M : List (List Nat)} (h : allOk L M (min L.length M.length) = true) : sSum L M = clip (dot L M (min L.length M.length)) := by unfold sSum; rw [h]; rfl
theorem sSum_limbs (L M : List (List Nat)) : Limbs (sSum L M) := by
  unfold sSum; split
  · exact clip_limbs _
  · exact limbs_nil
theorem okAt_parts {L M : List (List Nat)} {j : Nat} (h : okAt L M j = true) : mayb (L[j]?.getD []) = true ∧ mayb (M[j]?.getD []) = true ∧ longB (L[j]?.getD []).length (M[j]?.getD []).length = false := by
  unfold okAt at h; simpa [and_assoc] using h
/-- A sum of so many products is short. -/
theorem dot_le {L M : List (List Nat)} (E : Nat) (hE : 131072 ≤ E) (hl : ∀ j : Nat, Limbs (L[j]?.getD [])) (hm : ∀ j : Nat, Limbs (M[j]?.getD [])) : ∀ {k : Nat}, allOk L M k = true → dot L M k ≤ k * 4294967296 ^ E
  | 0, _ => by simp [dot]
  | k + 1, h => by
    rw [allOk_succ, Bool.and_eq_true] at h
    have ih := dot_le E hE hl hm h.1
    obtain ⟨h1, h2, _⟩ := okAt_parts h.2
    have h3 := mul_lt_pow (hl k) (hm k)
    have h4 := (mayb_iff.1 h1).1
    have h5 := (mayb_iff.1 h2).1
    have h6 : 4294967296 ^ ((L[k]?.getD []).length + (M[k]?.getD []).length) ≤ 4294967296 ^ E := Nat.pow_le_pow_right (by decide) (by omega)
    rw [dot, Nat.add_mul, Nat.one_mul]
    omega
theorem dot_len {L M : List (List Nat)} (hl : ∀ j : Nat, Limbs (L[j]?.getD [])) (hm : ∀ j : Nat, Limbs (M[j]?.getD [])) {k : Nat} (h : allOk L M k = true) (hk : k < 9223372036854775808) : (lim (dot L M k)).length ≤ 131080 := by
  obtain ⟨E, hE⟩ : ∃ E : Nat, E = 131072 := ⟨_, rfl⟩
  have h1 := dot_le E (by omega) hl hm h
  have h2 : k * 4294967296 ^ E < 4294967296 ^ (E + 2) := by
    rw [Nat.pow_add, Nat.mul_comm]
    exact Nat.mul_lt_mul_of_pos_left (by omega) (Nat.pow_pos (by decide))
  have := lim_le (Nat.lt_of_le_of_lt h1 h2)
  omega
theorem Own.far2 {w : World} {B g : Nat} {v : Value} {xs : List Nat} (h : Own w B v xs) (hl : Limbs xs) (hg : g < B ∨ w.heap.size ≤ g) : ∃ A cap, v = .slice A xs.length cap ∧ Far w g A xs := by
  rcases h.2 with ⟨rfl, h0⟩ | ⟨g', cap, cur, rfl, hg', hh, hle, hm, hs, ht⟩
  · have : xs = [] := List.eq_nil_of_length_eq_zero h0
    subst this
    exact ⟨none, 0, rfl, hl, fun h => absurd h (by simp)⟩
  · have hlt := (Array.getElem?_eq_some_iff.1 hh).1
    refine ⟨_, cap, rfl, hl, fun hn => ⟨g', 0, rfl, by omega, fun j hj => ?_⟩⟩
    have hc := World.ownsRow.cellAt h j (by omega)
    rw [Nat.zero_add, hc, u32s, List.getElem?_map, List.getElem?_eq_getElem hj]
    rfl
theorem sum_room {s p n : Nat} (hn : (lim s).length + 1 ≤ n) (hp : (lim p).length + 1 ≤ n) : s + p < 4294967296 ^ n := by
  have h1 := val_lt (lim_limbs s)
  have h2 := val_lt (lim_limbs p)
  rw [val_lim] at h1 h2
  obtain ⟨m, rfl⟩ : ∃ m, n = m + 1 := ⟨n - 1, by omega⟩
  have h3 : 4294967296 ^ (lim s).length ≤ 4294967296 ^ m := Nat.pow_le_pow_right (by decide) (by omega)
  have h4 : 4294967296 ^ (lim p).length ≤ 4294967296 ^ m := Nat.pow_le_pow_right (by decide) (by omega)
  rw [Nat.pow_succ]
  omega

theorem below_drewN {B : Nat} {a w : World} (h : Below B a w) (n : Nat) : Below B a (w.drewN n) := ⟨h.os, h.tape, h.output, h.size, h.block⟩
theorem tooLong_is (A A' : Option Addr) (n m cap cap' : Nat) (w : World) (hn : n ≤ 65536) (hm : m ≤ 65536) {b : Bool} (h : longB n m = b) : Calls Try.prog 44 #[.slice A n cap, .slice A' m cap'] w fun e w' => e = .returned (.bool b) ∧ w' = w := by
  have := tooLong_any A A' n m cap cap' w hn hm
  rwa [h] at this
theorem far_grown {n2 g : Nat} {w3 w4 : World} {v3 vS : Value} {P : List Nat} (ho3 : Own w3 n2 v3 P) (hl : Limbs P) (hSlt : ∀ k, vS.ownBlock = some k → k < n2) (hg4 : w3.grownBy w4 vS.ownBlock) (hgg : vS.ownBlock = some g ∨ g = w3.heap.size) : ∃ A cap, v3 = .slice A P.length cap ∧ Far w4 g A P := by
  have hside : g < n2 ∨ w3.heap.size ≤ g := by
    rcases hgg with h | h
    · exact .inl (hSlt g h)
    · exact .inr (by omega)
  rcases ho3.2 with ⟨rfl, h0⟩ | ⟨g', cap, cur, rfl, hg', hh, hle, hm, hs, ht⟩
  · have : P = [] := List.eq_nil_of_length_eq_zero h0
    subst this
    exact ⟨none, 0, rfl, hl, fun h => absurd h (by simp)⟩
  · have hlt := (Array.getElem?_eq_some_iff.1 hh).1
    refine ⟨_, cap, rfl, hl, fun hn => ⟨g', 0, rfl, by omega, fun j hj => ?_⟩⟩
    have hc := World.ownsRow.cellAt ho3 j (by omega)
    have hv : w3.cell? ⟨g', j, none⟩ = some (.int .u32 ((P[j]?.getD 0 : Nat) : Int)) := by
      rw [hc, u32s, List.getElem?_map, List.getElem?_eq_getElem hj]; rfl
    rw [Nat.zero_add]
    exact hg4.cell hv (fun e => by have := hSlt g' e.symm; omega)

set_option maxRecDepth 100000 in
set_option maxHeartbeats 8000000 in
theorem sum_any (va vb : Value) (L M : List (List Nat)) (w : World) (ha : Rows2 w va L) (hv : Rows2 w vb M) : Calls Try.prog 31 #[va, vb] w (NewL w (sSum L M)) := by
  obtain ⟨A, cap, vs, rfl, hl, hva, hca⟩ := id ha
  obtain ⟨A', cap', vs', rfl, hl', hvb, hcb⟩ := id hv
  unfold maxLen at hl hl'
  have HVA := Lib.hid hva
  have HVB := Lib.hid hvb
  have HLA : Hid (∀ j : Nat, Limbs (L[j]?.getD [])) := fun j => by
    rcases Nat.lt_or_ge j L.length with h | h
    · exact (hva j h).limbs
    · rw [List.getElem?_eq_none h]; exact limbs_nil
  have HLB : Hid (∀ j : Nat, Limbs (M[j]?.getD [])) := fun j => by
    rcases Nat.lt_or_ge j M.length with h | h
    · exact (hvb j h).limbs
    · rw [List.getElem?_eq_none h]; exact limbs_nil
  have HCA := Lib.hid hca
  have HCB := Lib.hid hcb
  clear ha hv hva hvb hca hcb
  generalize hnL : L.length = nL at *
  generalize hnM : M.length = nM at *
  have HNL := Lib.hid hnL
  have HNM := Lib.hid hnM
  clear hnL hnM
  go_enter Try.func31, Try.ntmps31
  go_wp2
  go_loopw [5, 13] (fun s i wr => ∃ k : Nat, k ≤ min nL nM ∧ i = .int .i64 (k : Int) ∧ allOk L M k = true ∧ Own wr w.heap.size s (lim (dot L M k)) ∧ Below w.heap.size w wr) (fun _ i _ => min nL nM - (intOf i).toNat)
  case atStart => exact ⟨0, Nat.zero_le _, rfl, rfl, by rw [dot, lim_zero]; exact Own.nil _ _, Below.refl _ _⟩
  case round =>
    obtain ⟨k, hk, rfl, hok, ho, hb⟩ := hrel
    rcases Nat.lt_or_ge k (min nL nM) with hlt | hge
    · have hkL : k < nL := by omega
      have hkM : k < nM := by omega
      have hltI : (k : Int) < min (nL : Int) (nM : Int) := by omega
      obtain ⟨b, off, rfl, hblt, hcl⟩ := HCA.out (by omega)
      obtain ⟨b', off', rfl, hblt', hcl'⟩ := HCB.out (by omega)
      have x1 := (hb.cell (p := ⟨b, off + k, none⟩) hblt).trans (hcl k hkL)
      have x2 := (hb.cell (p := ⟨b', off' + k, none⟩) hblt').trans (hcl' k hkM)
      have hA := (HVA.out k hkL).below hb
      have hB := (HVB.out k hkM).below hb
      clear hcl hcl'
      have k0 : (0 : Int) ≤ (k : Int) := by omega
      have kL : (k : Int) < (nL : Int) := by omega
      have kM : (k : Int) < (nM : Int) := by omega
      generalize hvk : vs[k]?.getD undef = vk at *
      generalize hvk' : vs'[k]?.getD undef = vk' at *
      generalize hxk : L[k]?.getD [] = xs at *
      generalize hyk : M[k]?.getD [] = ys at *
      have HX := Lib.hid hxk
      have HY := Lib.hid hyk
      clear hvk hvk' hxk hyk
      obtain ⟨Ax, capx, rfl, p1, p2, rx⟩ := id hA
      obtain ⟨Ay, capy, rfl, q1, q2, ry⟩ := id hB
      by_cases hx : mayb xs = true
      · by_cases hy : mayb ys = true
        · by_cases hL : longB xs.length ys.length = true
          · have c1 := Lib.hid fun n => may_yes (w := wr.drewN n) capx (rx.drewN n) (by omega) hx
            have c2 := Lib.hid fun n => may_yes (w := wr.drewN n) capy (ry.drewN n) (by omega) hy
            have c3 := Lib.hid fun n => tooLong_is Ax Ay xs.length ys.length capx capy (wr.drewN n) (mayb_iff.1 hx).1 (mayb_iff.1 hy).1 hL
            have hs := sSum_no (L := L) (M := M) (k := k) (by rw [HNL.out, HNM.out]; exact hlt) (by unfold okAt; rw [HX.out, HY.out]; simp [hL])
            have HS := Lib.hid hs
            have HB := Lib.hid hb
            clear hs hx hy hL hA hB rx ry ho hok hb
            go_wp2_with fail
            go_quiet ((first | (go_at_call_of 23 (Value.slice Ax xs.length capx); exact Calls.quiet_of_same (c1.out _)) | (go_at_call_of 23 (Value.slice Ay ys.length capy); exact Calls.quiet_of_same (c2.out _)) | (go_at_call 44; exact Calls.quiet_of_same (c3.out _))))
            all_goals
              go_wp2
              go_ret
              exact ⟨⟨_, rfl, by rw [HS.out]; exact Own.nil _ _⟩, below_drewN HB.out _⟩
          · have hLf : longB xs.length ys.length = false := by simpa using hL
            have hxm := (mayb_iff.1 hx).1
            have hym := (mayb_iff.1 hy).1
            have c1 := Lib.hid fun n => may_yes (w := wr.drewN n) capx (rx.drewN n) (by omega) hx
            have c2 := Lib.hid fun n => may_yes (w := wr.drewN n) capy (ry.drewN n) (by omega) hy
            have c3 := Lib.hid fun n => tooLong_is Ax Ay xs.length ys.length capx capy (wr.drewN n) hxm hym hLf
            have hok1 := Lib.hid (show allOk L M (k + 1) = true by rw [allOk_succ, hok]; unfold okAt; rw [HX.out, HY.out]; simp [hx, hy, hLf])
            have hsl := dot_len HLA.out HLB.out hok (by omega)
            have HC := Lib.hid (And.intro (mayb_canon rx.limbs hx) (mayb_canon ry.limbs hy))
            have hpl := prod_len rx.limbs ry.limbs
            have hdot : Hid (dot L M (k + 1) = dot L M k + val xs * val ys) := by show _ = _; rw [dot, HX.out, HY.out]
            have HA1 := Lib.hid hA
            have HB1 := Lib.hid hB
            have HB := Lib.hid hb
            obtain ⟨As, caps, rfl⟩ := own_form ho rfl
            generalize hS : lim (dot L M k) = S at *
            generalize hP : lim (val xs * val ys) = P at *
            have HSP := Lib.hid (And.intro hS hP)
            have HO := Lib.hid ho
            clear hx hy hL hLf hA hB rx ry ho hok hb hS hP
            go_wp2_with fail
            go_quiet ((first | (go_at_call_of 23 (Value.slice Ax xs.length capx); exact Calls.quiet_of_same (c1.out _)) | (go_at_call_of 23 (Value.slice Ay ys.length capy); exact Calls.quiet_of_same (c2.out _)) | (go_at_call 44; exact Calls.quiet_of_same (c3.out _))))
            clear c1 c2 c3
            have y1 : (wr.drewN nq).cell? ⟨b, off + k, none⟩ = some (.slice Ax xs.length capx) := x1
            have y2 : (wr.drewN nq).cell? ⟨b', off' + k, none⟩ = some (.slice Ay ys.length capy) := x2
            have HB2 := Lib.hid (below_drewN HB.out nq)
            have HO2 : Hid (Own (wr.drewN nq) w.heap.size (.slice As S.length caps) S) := HO.out
            have HA2 : Hid (Arg (wr.drewN nq) (.slice Ax xs.length capx) xs) := HA1.out
            have HA3 : Hid (Arg (wr.drewN nq) (.slice Ay ys.length capy) ys) := HB1.out
            clear HA1 HB1 HB HO x1 x2
            generalize wr.drewN nq = w1 at *
            go_wp2_with fail
            go_still_tail 8, (by kernel_rfl)
            change wpList _ _ _ _ _ w1.drew
            have HB3 := Lib.hid HB2.out.drew
            have HO3 : Hid (Own w1.drew w.heap.size (.slice As S.length caps) S) := HO2.out
            have HA4 : Hid (Arg w1.drew (.slice Ax xs.length capx) xs) := HA2.out
            have HA5 : Hid (Arg w1.drew (.slice Ay ys.length capy) ys) := HA3.out
            clear HB2 HO2 HA2 HA3 y1 y2
            generalize w1.drew = w2 at *
            have c4 := timesAt _ _ _ xs ys w2 HA4.out HA5.out HC.out.1 HC.out.2 hxm hym (Nat.le_refl _)
            go_wp2_with fail
            with_reducible refine c4.mono ?_
            rintro e w3 ⟨⟨v3, rfl, ho3⟩, hb3⟩
            rw [HSP.out.2] at ho3
            have hSl : Limbs S := by rw [← HSP.out.1]; exact lim_limbs _
            have hPl : Limbs P := by rw [← HSP.out.2]; exact lim_limbs _
            have hO3 := HO3.out.below hb3
            have hSlt := World.ownsRow.lt HO3.out
            obtain ⟨v5, w4, hrun, ho4, hg4, g, cap4, rfl, hgg⟩ := zeros_own w3 26 w.heap.size (P.length - S.length + 1) (.slice As S.length caps) S hO3 (Nat.le_trans HB3.out.size hb3.size) (by omega) (by omega) (by omega)
            obtain ⟨A3, cap3, rfl, hfar⟩ := far_grown ho3 hPl (fun j hj => (hSlt j hj).2) hg4 hgg
            rw [show ((P.length - S.length + 1 : Nat) : Int) = max ((P.length : Int) - (S.length : Int)) 0 + 1 from by omega] at hrun
            have hb4 : Below w.heap.size w w4 := (HB3.out.trans (hb3.mono HB3.out.size)).grown hg4 (Nat.le_trans HB3.out.size hb3.size) (fun j hj => (hSlt j hj).1)
            have hzl : (S ++ List.replicate (P.length - S.length + 1) 0).length = S.length + (P.length - S.length + 1) := by simp
            have hval : seg (S ++ List.replicate (P.length - S.length + 1) 0) 0 (S.length + (P.length - S.length + 1)) = val S := by
              rw [← hzl, seg_val, val_append, val_replicate, Nat.mul_zero, Nat.add_zero]
            have hroom : val S + val P < 4294967296 ^ (S.length + (P.length - S.length + 1)) := by
              have := sum_room (s := dot L M k) (p := val xs * val ys) (n := S.length + (P.length - S.length + 1)) (by rw [HSP.out.1]; omega) (by rw [HSP.out.2]; omega)
              rwa [← val_lim (dot L M k), ← val_lim (val xs * val ys), HSP.out.1, HSP.out.2] at this
            have ca := add_far g 0 (S.length + (P.length - S.length + 1)) cap4 cap4 A3 cap3 P (S ++ List.replicate (P.length - S.length + 1) 0) w4 w.heap.size (by rw [hzl]; rw [← hzl] at ho4; simpa using ho4) (hSl.append (limbs_replicate _)) (by rw [hzl]; omega) hfar (by omega) (by omega) (by rw [hval]; exact hroom)
            have hge := ho4.ge
            have HVAL := Lib.hid hval
            have HB4 := Lib.hid hb4
            have HZL := Lib.hid hzl
            clear hSl hPl hO3 hSlt ho3 hb3 ho4 hg4 hgg hfar hb4 hzl hval hroom c4
            go_wp2_with (at_builtin; refine Lib.wpList_append_run _ rfl _ _ _ _ rfl _ _ rfl rfl _ _ hrun ?_)
            with_reducible refine ca.mono ?_
            rintro e w5 ⟨X, rfl, S5, D5, ho5, hb5⟩
            have hv5 : val X = dot L M (k + 1) := by
              have hw := S5.whole (by rw [HZL.out]; omega)
              rw [D5, HVAL.out] at hw
              have h1 : val (S ++ List.replicate (P.length - S.length + 1) 0) = val S := by rw [val_append, val_replicate, Nat.mul_zero, Nat.add_zero]
              have h2 : val S = dot L M k := by rw [← HSP.out.1, val_lim]
              have h3 : val P = val xs * val ys := by rw [← HSP.out.2, val_lim]
              rw [hdot.out]
              simp only [Nat.pow_zero, Nat.one_mul] at hw
              omega
            have hl5 : X.length = S.length + (P.length - S.length + 1) := by rw [S5.1, HZL.out]
            obtain ⟨A6, cap6, e6, g1, g2, rd6⟩ := ho5.rd S5.2.1
            injection e6 with ea eb ec
            subst ea ec
            have cT := trim_any _ _ X w5 _ rd6 g1 g2
            have hfin := ho5.trimmed S5.2.1
            rw [hv5, hl5] at cT
            rw [hv5] at hfin
            have HFIN := Lib.hid hfin
            have HB5 := Lib.hid (HB4.out.trans (hb5.below hge))
            clear S5 D5 ho5 hb5 hv5 hl5 rd6 g1 g2 hfin hrun ca
            go_wp2_with fail
            with_reducible refine cT.mono ?_
            rintro e w6 ⟨rfl, hw⟩
            obtain rfl := hw.symm
            clear cT
            go_wp2_with fail
            go_roundw
            case rel => exact ⟨k + 1, by omega, by go_num, hok1.out, HFIN.out, HB5.out⟩
            case measure => simp [intOf]; omega
        · have c1 := Lib.hid fun n => may_yes (w := wr.drewN n) capx (rx.drewN n) (by omega) hx
          have c2 := Lib.hid fun n => may_no (w := wr.drewN n) capy (ry.drewN n) (by omega) (by simpa using hy)
          have hs := sSum_no (L := L) (M := M) (k := k) (by rw [HNL.out, HNM.out]; exact hlt) (by unfold okAt; rw [HX.out, HY.out]; simp [hy])
          have HS := Lib.hid hs
          have HB := Lib.hid hb
          clear hs hx hy hA hB rx ry ho hok hb
          go_wp2_with fail
          go_quiet ((first | (go_at_call_of 23 (Value.slice Ax xs.length capx); exact Calls.quiet_of_same (c1.out _)) | (go_at_call_of 23 (Value.slice Ay ys.length capy); exact Calls.quiet_of_same (c2.out _))))
          all_goals
            go_wp2
            go_ret
            exact ⟨⟨_, rfl, by rw [HS.out]; exact Own.nil _ _⟩, below_drewN HB.out _⟩
      · have c1 := Lib.hid fun n => may_no (w := wr.drewN n) capx (rx.drewN n) (by omega) (by simpa using hx)
        have hs := sSum_no (L := L) (M := M) (k := k) (by rw [HNL.out, HNM.out]; exact hlt) (by unfold okAt; rw [HX.out]; simp [hx])
        have HS := Lib.hid hs
        have HB := Lib.hid hb
        clear hs hx hA hB rx ry ho hok hb
        go_wp2_with fail
        go_quiet ((go_at_call 23; exact Calls.quiet_of_same (c1.out _)))
        all_goals
          go_wp2
          go_ret
          exact ⟨⟨_, rfl, by rw [HS.out]; exact Own.nil _ _⟩, below_drewN HB.out _⟩
    · obtain rfl : k = min nL nM := by omega
      have hsl := dot_len HLA.out HLB.out hok (by omega)
      have hs : sSum L M = clip (dot L M (min nL nM)) := by
        rw [sSum_yes (by rw [HNL.out, HNM.out]; exact hok), HNL.out, HNM.out]
      have hltI : ¬ ((min nL nM : Nat) : Int) < min (nL : Int) (nM : Int) := by omega
      obtain ⟨As, caps, rfl⟩ := own_form ho rfl
      have cd := told_any As (lim (dot L M (min nL nM))).length caps wr (by unfold maxLen; omega)
      have HO := Lib.hid (toldV_own ho)
      have HB := Lib.hid hb
      have HS := Lib.hid hs
      clear hok hs ho hb hsl
      go_wp2_with fail
      with_reducible refine cd.mono ?_
      rintro e w6 ⟨rfl, hw⟩
      obtain rfl := hw.symm
      clear cd
      go_wp2_with fail
      go_ret
      exact ⟨⟨_, rfl, by rw [HS.out]; exact HO.out⟩, HB.out⟩

end Go.Proofs.Ytlfhpoffphljfaa

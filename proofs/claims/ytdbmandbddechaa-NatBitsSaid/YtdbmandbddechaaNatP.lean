/- NatRow. -/
import Derived.OpenShut
import Derived.Test.YtdbmandbddechaaNatO
namespace Go.Proofs.Ytdbmandbddechaa
open Go.RowKit

/-- A row of numbers that came in reads as limbs. -/
theorem arg_of_row {w : World} {a : Option Addr} {len cap : Nat} {zs : List Int}
    (h : (a = none ∧ len = 0 ∧ cap = 0 ∧ zs = []) ∨ ∃ x, a = some x ∧ len ≤ cap ∧ cap ≤ maxLen ∧ zs.length = cap ∧ (∀ i, i < zs.length → w.cell? (x.add i) = some (.int .u32 (zs.getD i 0))) ∧ ∀ n ∈ zs, (Lit.int .u32 n).wf = true) :
    ∃ xs : List Nat, xs.length = len ∧ Arg w (.slice a len cap) xs := by
  rcases h with ⟨rfl, rfl, rfl, rfl⟩ | ⟨x, rfl, h1, h2, h3, h4, h5⟩
  · exact ⟨[], rfl, Arg.nil w⟩
  · have hlen : ((zs.take len).map Int.toNat).length = len := by simp; omega
    have hb : ∀ n ∈ zs, 0 ≤ n ∧ n < 4294967296 := fun n hn => by
      have := bounds_u32 (h5 n hn)
      omega
    refine ⟨(zs.take len).map Int.toNat, hlen, some x, cap, by rw [hlen], by rw [hlen]; exact h1, h2, ?_, fun hp => ?_⟩
    · intro y hy
      obtain ⟨n, hn, rfl⟩ := List.mem_map.1 hy
      have := hb n (List.mem_of_mem_take hn)
      omega
    · obtain ⟨b, off, spot⟩ := x
      have hc := h4 0 (by omega)
      have hspot : spot = none := by simpa [Addr.add] using World.cell?_spot hc
      subst hspot
      have hblk : b < w.heap.size := by
        obtain ⟨o, ho, _⟩ := cells_of_cell hc
        simpa [Addr.add] using (Array.getElem?_eq_some_iff.1 ho).1
      refine ⟨b, off, rfl, hblk, fun j hj => ?_⟩
      have hj' : j < zs.length := by omega
      have := h4 j hj'
      have e : ((⟨b, off, none⟩ : Addr).add j) = ⟨b, off + j, none⟩ := by
        unfold Addr.add; split
        · rename_i h0; subst h0; rfl
        · rfl
      rw [e] at this
      rw [this, List.getElem?_map, List.getElem?_take, if_pos (by omega)]
      have hz := hb zs[j] (List.getElem_mem hj')
      rw [List.getD_eq_getElem?_getD, List.getElem?_eq_getElem hj']
      simp only [Option.getD_some, Option.map_some]
      rw [Int.toNat_of_nonneg hz.1]

theorem cmp_is {w0 w : World} {l : List (Value × List Nat)} {va vb : Value} {xs ys : List Nat} {X : Int} (h : Env w0 w l) (ha : (va, xs) ∈ l) (hb : (vb, ys) ∈ l) (hx : sCmp xs ys = X) : Calls Try.prog 17 #[va, vb] w fun e w' => e = .returned (.int .i64 X) ∧ Env w0 w' l := by
  have := cmp_env h ha hb
  rwa [hx] at this
theorem may_is {w0 w : World} {l : List (Value × List Nat)} {va : Value} {xs : List Nat} {b : Bool} (h : Env w0 w l) (ha : (va, xs) ∈ l) (hx : mayb xs = b) : Calls Try.prog 22 #[va] w fun e w' => e = .returned (.bool b) ∧ Env w0 w' l := by
  have := may_env h ha
  rw [hx] at this
  exact this.mono fun _ _ ⟨he, hw⟩ => ⟨he, by rw [hw]; exact h⟩
theorem sub_is {w0 w : World} {l : List (Value × List Nat)} {va vb : Value} {xs ys zs : List Nat} {b : Bool} (h : Env w0 w l) (ha : (va, xs) ∈ l) (hb : (vb, ys) ∈ l) (hx : sSubOk xs ys = b) (hz : sSub xs ys = zs) : Calls Try.prog 13 #[va, vb] w fun e w' => ∃ r, e = .returned (.tuple #[r, .bool b]) ∧ Env w0 w' ((r, zs) :: l) := by
  have := sub_env h ha hb
  rwa [hx, hz] at this
theorem same_is {w0 w : World} {l : List (Value × List Nat)} {va vb : Value} {xs ys : List Nat} {b : Bool} (h : Env w0 w l) (ha : (va, xs) ∈ l) (hb : (vb, ys) ∈ l) (hx : eqb xs ys = b) : Calls Try.prog 14 #[va, vb] w fun e w' => e = .returned (.bool b) ∧ Env w0 w' l := by
  have := same_env h ha hb
  rwa [hx] at this
theorem add_is {w0 w : World} {l : List (Value × List Nat)} {va vb : Value} {xs ys zs : List Nat} (h : Env w0 w l) (ha : (va, xs) ∈ l) (hb : (vb, ys) ∈ l) (hz : sAdd xs ys = zs) : Calls Try.prog 15 #[va, vb] w fun e w' => ∃ r, e = .returned r ∧ Env w0 w' ((r, zs) :: l) := by
  have := add_env h ha hb
  rwa [hz] at this
theorem awake_env {w0 w : World} {l : List (Value × List Nat)} (h : Env w0 w l) : Calls Try.prog 10 #[] w fun e w' => e = .returned (.bool true) ∧ Env w0 w' l :=
  (awake_any w).mono fun _ _ ⟨he, hb⟩ => ⟨he, h.step hb⟩

set_option maxRecDepth 100000 in
set_option maxHeartbeats 4000000 in
theorem row_lt_false (va vb vc : Value) (xs ys zs ds : List Nat) (Y Z : Int) (w : World) (env : Env w w [(va, xs), (vb, ys), (vc, zs)])
    (la : xs.length ≤ 2000) (lb : ys.length ≤ 2000) (lc : zs.length ≤ 2000) (hma : Hid (mayb xs = true)) (hmb : Hid (mayb ys = true)) (hmc : Hid (mayb zs = false))
    (hX : Hid (sCmp xs ys = (-1))) (hX' : Hid (sCmp ys xs = 1)) (hY : Hid (sCmp ys zs = Y)) (hZ : Hid (sCmp xs zs = Z)) (hok : Hid (sSubOk xs ys = false)) (hds : Hid (sSub xs ys = ds)) (heb : Hid (eqb xs ys = false))
 :
    Calls Try.prog 7 #[va, vb, vc] w fun e w' => e = .returned (.bool true) ∧ Below w.heap.size w w' := by
  obtain ⟨A, cap, rfl, _⟩ := env.get (v := va) (xs := xs) (by simp)
  obtain ⟨A', cap', rfl, _⟩ := env.get (v := vb) (xs := ys) (by simp)
  obtain ⟨A'', cap'', rfl, _⟩ := env.get (v := vc) (xs := zs) (by simp)
  have p1 : decide ((2000 : Int) < (xs.length : Int)) = false := decide_eq_false (by omega)
  have p2 : decide ((2000 : Int) < (ys.length : Int)) = false := decide_eq_false (by omega)
  have p3 : decide ((2000 : Int) < (zs.length : Int)) = false := decide_eq_false (by omega)
  go_enter Try.func7, Try.ntmps7
  go_wp2_with fail
  refine (awake_env env  ).mono ?_
  rintro e w1 ⟨rfl, env1⟩
  clear env
  go_wp2_with fail
  refine (cmp_is env1 (va := (.slice A xs.length cap)) (xs := xs) (vb := (.slice A' ys.length cap')) (ys := ys) (by simp) (by simp) hX.out).mono ?_
  rintro e w2 ⟨rfl, env2⟩
  clear env1
  go_wp2_with fail
  refine (cmp_is env2 (va := (.slice A' ys.length cap')) (xs := ys) (vb := (.slice A'' zs.length cap'')) (ys := zs) (by simp) (by simp) hY.out).mono ?_
  rintro e w3 ⟨rfl, env3⟩
  clear env2
  go_wp2_with fail
  refine (cmp_is env3 (va := (.slice A xs.length cap)) (xs := xs) (vb := (.slice A'' zs.length cap'')) (ys := zs) (by simp) (by simp) hZ.out).mono ?_
  rintro e w4 ⟨rfl, env4⟩
  clear env3
  go_wp2_with fail
  refine (sub_is env4 (va := (.slice A xs.length cap)) (xs := xs) (vb := (.slice A' ys.length cap')) (ys := ys) (by simp) (by simp) hok.out hds.out).mono ?_
  rintro e w5 ⟨r5, rfl, env5⟩
  clear env4
  go_wp2_with fail
  refine (may_is env5 (va := (.slice A xs.length cap)) (xs := xs) (by simp) hma.out).mono ?_
  rintro e w6 ⟨rfl, env6⟩
  clear env5
  go_wp2_with fail
  refine (may_is env6 (va := (.slice A' ys.length cap')) (xs := ys) (by simp) hmb.out).mono ?_
  rintro e w7 ⟨rfl, env7⟩
  clear env6
  go_wp2_with fail
  refine (cmp_is env7 (va := (.slice A' ys.length cap')) (xs := ys) (vb := (.slice A xs.length cap)) (ys := xs) (by simp) (by simp) hX'.out).mono ?_
  rintro e w8 ⟨rfl, env8⟩
  clear env7
  go_wp2_with fail
  refine (same_is env8 (va := (.slice A xs.length cap)) (xs := xs) (vb := (.slice A' ys.length cap')) (ys := ys) (by simp) (by simp) heb.out).mono ?_
  rintro e w9 ⟨rfl, env9⟩
  clear env8
  go_wp2_with fail
  refine (may_is env9 (va := (.slice A'' zs.length cap'')) (xs := zs) (by simp) hmc.out).mono ?_
  rintro e w10 ⟨rfl, env10⟩
  clear env9
  have hB := Lib.hid env10.1
  clear env10
  go_wp2
  go_ret
  exact ⟨rfl, hB.out⟩

set_option maxRecDepth 100000 in
set_option maxHeartbeats 4000000 in
theorem row_lt_true (va vb vc : Value) (xs ys zs ds : List Nat) (Y Z : Int) (w : World) (env : Env w w [(va, xs), (vb, ys), (vc, zs)])
    (la : xs.length ≤ 2000) (lb : ys.length ≤ 2000) (lc : zs.length ≤ 2000) (hma : Hid (mayb xs = true)) (hmb : Hid (mayb ys = true)) (hmc : Hid (mayb zs = true))
    (hX : Hid (sCmp xs ys = (-1))) (hX' : Hid (sCmp ys xs = 1)) (hY : Hid (sCmp ys zs = Y)) (hZ : Hid (sCmp xs zs = Z)) (hok : Hid (sSubOk xs ys = false)) (hds : Hid (sSub xs ys = ds)) (heb : Hid (eqb xs ys = false))
    (hfin : Hid (((decide ((0 : Int) < (-1)) || decide (0 < Y) || decide (Z ≤ 0)) && (decide ((0 : Int) ≤ (-1)) || decide (0 ≤ Y) || decide (Z < 0))) = true)) :
    Calls Try.prog 7 #[va, vb, vc] w fun e w' => e = .returned (.bool true) ∧ Below w.heap.size w w' := by
  obtain ⟨A, cap, rfl, _⟩ := env.get (v := va) (xs := xs) (by simp)
  obtain ⟨A', cap', rfl, _⟩ := env.get (v := vb) (xs := ys) (by simp)
  obtain ⟨A'', cap'', rfl, _⟩ := env.get (v := vc) (xs := zs) (by simp)
  have p1 : decide ((2000 : Int) < (xs.length : Int)) = false := decide_eq_false (by omega)
  have p2 : decide ((2000 : Int) < (ys.length : Int)) = false := decide_eq_false (by omega)
  have p3 : decide ((2000 : Int) < (zs.length : Int)) = false := decide_eq_false (by omega)
  go_enter Try.func7, Try.ntmps7
  go_wp2_with fail
  refine (awake_env env  ).mono ?_
  rintro e w1 ⟨rfl, env1⟩
  clear env
  go_wp2_with fail
  refine (cmp_is env1 (va := (.slice A xs.length cap)) (xs := xs) (vb := (.slice A' ys.length cap')) (ys := ys) (by simp) (by simp) hX.out).mono ?_
  rintro e w2 ⟨rfl, env2⟩
  clear env1
  go_wp2_with fail
  refine (cmp_is env2 (va := (.slice A' ys.length cap')) (xs := ys) (vb := (.slice A'' zs.length cap'')) (ys := zs) (by simp) (by simp) hY.out).mono ?_
  rintro e w3 ⟨rfl, env3⟩
  clear env2
  go_wp2_with fail
  refine (cmp_is env3 (va := (.slice A xs.length cap)) (xs := xs) (vb := (.slice A'' zs.length cap'')) (ys := zs) (by simp) (by simp) hZ.out).mono ?_
  rintro e w4 ⟨rfl, env4⟩
  clear env3
  go_wp2_with fail
  refine (sub_is env4 (va := (.slice A xs.length cap)) (xs := xs) (vb := (.slice A' ys.length cap')) (ys := ys) (by simp) (by simp) hok.out hds.out).mono ?_
  rintro e w5 ⟨r5, rfl, env5⟩
  clear env4
  go_wp2_with fail
  refine (may_is env5 (va := (.slice A xs.length cap)) (xs := xs) (by simp) hma.out).mono ?_
  rintro e w6 ⟨rfl, env6⟩
  clear env5
  go_wp2_with fail
  refine (may_is env6 (va := (.slice A' ys.length cap')) (xs := ys) (by simp) hmb.out).mono ?_
  rintro e w7 ⟨rfl, env7⟩
  clear env6
  go_wp2_with fail
  refine (cmp_is env7 (va := (.slice A' ys.length cap')) (xs := ys) (vb := (.slice A xs.length cap)) (ys := xs) (by simp) (by simp) hX'.out).mono ?_
  rintro e w8 ⟨rfl, env8⟩
  clear env7
  go_wp2_with fail
  refine (same_is env8 (va := (.slice A xs.length cap)) (xs := xs) (vb := (.slice A' ys.length cap')) (ys := ys) (by simp) (by simp) heb.out).mono ?_
  rintro e w9 ⟨rfl, env9⟩
  clear env8
  go_wp2_with fail
  refine (may_is env9 (va := (.slice A'' zs.length cap'')) (xs := zs) (by simp) hmc.out).mono ?_
  rintro e w10 ⟨rfl, env10⟩
  clear env9
  have hB := Lib.hid env10.1
  clear env10
  have hf := Lib.hid hfin.out
  clear hfin
  go_wp2
  all_goals (go_ret; refine ⟨ret_bool ?_, hB.out⟩; have hf2 := hf.out; simp at hf2; first | rfl | (simp; omega) | (exfalso; omega))

set_option maxRecDepth 100000 in
set_option maxHeartbeats 4000000 in
theorem row_eq_false (va vb vc : Value) (xs ys zs ds : List Nat) (Y Z : Int) (w : World) (env : Env w w [(va, xs), (vb, ys), (vc, zs)])
    (la : xs.length ≤ 2000) (lb : ys.length ≤ 2000) (lc : zs.length ≤ 2000) (hma : Hid (mayb xs = true)) (hmb : Hid (mayb ys = true)) (hmc : Hid (mayb zs = false))
    (hX : Hid (sCmp xs ys = 0)) (hX' : Hid (sCmp ys xs = 0)) (hY : Hid (sCmp ys zs = Y)) (hZ : Hid (sCmp xs zs = Z)) (hok : Hid (sSubOk xs ys = true)) (hds : Hid (sSub xs ys = ds)) (heb : Hid (eqb xs ys = true))
    (hadd : Hid (sAdd ds ys = xs)) :
    Calls Try.prog 7 #[va, vb, vc] w fun e w' => e = .returned (.bool true) ∧ Below w.heap.size w w' := by
  obtain ⟨A, cap, rfl, _⟩ := env.get (v := va) (xs := xs) (by simp)
  obtain ⟨A', cap', rfl, _⟩ := env.get (v := vb) (xs := ys) (by simp)
  obtain ⟨A'', cap'', rfl, _⟩ := env.get (v := vc) (xs := zs) (by simp)
  have p1 : decide ((2000 : Int) < (xs.length : Int)) = false := decide_eq_false (by omega)
  have p2 : decide ((2000 : Int) < (ys.length : Int)) = false := decide_eq_false (by omega)
  have p3 : decide ((2000 : Int) < (zs.length : Int)) = false := decide_eq_false (by omega)
  go_enter Try.func7, Try.ntmps7
  go_wp2_with fail
  refine (awake_env env  ).mono ?_
  rintro e w1 ⟨rfl, env1⟩
  clear env
  go_wp2_with fail
  refine (cmp_is env1 (va := (.slice A xs.length cap)) (xs := xs) (vb := (.slice A' ys.length cap')) (ys := ys) (by simp) (by simp) hX.out).mono ?_
  rintro e w2 ⟨rfl, env2⟩
  clear env1
  go_wp2_with fail
  refine (cmp_is env2 (va := (.slice A' ys.length cap')) (xs := ys) (vb := (.slice A'' zs.length cap'')) (ys := zs) (by simp) (by simp) hY.out).mono ?_
  rintro e w3 ⟨rfl, env3⟩
  clear env2
  go_wp2_with fail
  refine (cmp_is env3 (va := (.slice A xs.length cap)) (xs := xs) (vb := (.slice A'' zs.length cap'')) (ys := zs) (by simp) (by simp) hZ.out).mono ?_
  rintro e w4 ⟨rfl, env4⟩
  clear env3
  go_wp2_with fail
  refine (sub_is env4 (va := (.slice A xs.length cap)) (xs := xs) (vb := (.slice A' ys.length cap')) (ys := ys) (by simp) (by simp) hok.out hds.out).mono ?_
  rintro e w5 ⟨r5, rfl, env5⟩
  clear env4
  go_wp2_with fail
  refine (may_is env5 (va := (.slice A xs.length cap)) (xs := xs) (by simp) hma.out).mono ?_
  rintro e w6 ⟨rfl, env6⟩
  clear env5
  go_wp2_with fail
  refine (may_is env6 (va := (.slice A' ys.length cap')) (xs := ys) (by simp) hmb.out).mono ?_
  rintro e w7 ⟨rfl, env7⟩
  clear env6
  go_wp2_with fail
  refine (cmp_is env7 (va := (.slice A' ys.length cap')) (xs := ys) (vb := (.slice A xs.length cap)) (ys := xs) (by simp) (by simp) hX'.out).mono ?_
  rintro e w8 ⟨rfl, env8⟩
  clear env7
  go_wp2_with fail
  refine (same_is env8 (va := (.slice A xs.length cap)) (xs := xs) (vb := (.slice A' ys.length cap')) (ys := ys) (by simp) (by simp) heb.out).mono ?_
  rintro e w9 ⟨rfl, env9⟩
  clear env8
  go_wp2_with fail
  refine (add_is env9 (va := r5) (xs := ds) (vb := (.slice A' ys.length cap')) (ys := ys) (by simp) (by simp) hadd.out).mono ?_
  rintro e w10 ⟨r10, rfl, env10⟩
  clear env9
  go_wp2_with fail
  refine (same_yes env10 (va := r10) (xs := xs) (vb := (.slice A xs.length cap)) (ys := xs) (by simp) (by simp) rfl).mono ?_
  rintro e w11 ⟨rfl, env11⟩
  clear env10
  go_wp2_with fail
  refine (may_is env11 (va := (.slice A'' zs.length cap'')) (xs := zs) (by simp) hmc.out).mono ?_
  rintro e w12 ⟨rfl, env12⟩
  clear env11
  have hB := Lib.hid env12.1
  clear env12
  go_wp2
  go_ret
  exact ⟨rfl, hB.out⟩

set_option maxRecDepth 100000 in
set_option maxHeartbeats 4000000 in
theorem row_eq_true (va vb vc : Value) (xs ys zs ds : List Nat) (Y Z : Int) (w : World) (env : Env w w [(va, xs), (vb, ys), (vc, zs)])
    (la : xs.length ≤ 2000) (lb : ys.length ≤ 2000) (lc : zs.length ≤ 2000) (hma : Hid (mayb xs = true)) (hmb : Hid (mayb ys = true)) (hmc : Hid (mayb zs = true))
    (hX : Hid (sCmp xs ys = 0)) (hX' : Hid (sCmp ys xs = 0)) (hY : Hid (sCmp ys zs = Y)) (hZ : Hid (sCmp xs zs = Z)) (hok : Hid (sSubOk xs ys = true)) (hds : Hid (sSub xs ys = ds)) (heb : Hid (eqb xs ys = true))
    (hadd : Hid (sAdd ds ys = xs))
    (hfin : Hid (((decide ((0 : Int) < 0) || decide (0 < Y) || decide (Z ≤ 0)) && (decide ((0 : Int) ≤ 0) || decide (0 ≤ Y) || decide (Z < 0))) = true)) :
    Calls Try.prog 7 #[va, vb, vc] w fun e w' => e = .returned (.bool true) ∧ Below w.heap.size w w' := by
  obtain ⟨A, cap, rfl, _⟩ := env.get (v := va) (xs := xs) (by simp)
  obtain ⟨A', cap', rfl, _⟩ := env.get (v := vb) (xs := ys) (by simp)
  obtain ⟨A'', cap'', rfl, _⟩ := env.get (v := vc) (xs := zs) (by simp)
  have p1 : decide ((2000 : Int) < (xs.length : Int)) = false := decide_eq_false (by omega)
  have p2 : decide ((2000 : Int) < (ys.length : Int)) = false := decide_eq_false (by omega)
  have p3 : decide ((2000 : Int) < (zs.length : Int)) = false := decide_eq_false (by omega)
  go_enter Try.func7, Try.ntmps7
  go_wp2_with fail
  refine (awake_env env  ).mono ?_
  rintro e w1 ⟨rfl, env1⟩
  clear env
  go_wp2_with fail
  refine (cmp_is env1 (va := (.slice A xs.length cap)) (xs := xs) (vb := (.slice A' ys.length cap')) (ys := ys) (by simp) (by simp) hX.out).mono ?_
  rintro e w2 ⟨rfl, env2⟩
  clear env1
  go_wp2_with fail
  refine (cmp_is env2 (va := (.slice A' ys.length cap')) (xs := ys) (vb := (.slice A'' zs.length cap'')) (ys := zs) (by simp) (by simp) hY.out).mono ?_
  rintro e w3 ⟨rfl, env3⟩
  clear env2
  go_wp2_with fail
  refine (cmp_is env3 (va := (.slice A xs.length cap)) (xs := xs) (vb := (.slice A'' zs.length cap'')) (ys := zs) (by simp) (by simp) hZ.out).mono ?_
  rintro e w4 ⟨rfl, env4⟩
  clear env3
  go_wp2_with fail
  refine (sub_is env4 (va := (.slice A xs.length cap)) (xs := xs) (vb := (.slice A' ys.length cap')) (ys := ys) (by simp) (by simp) hok.out hds.out).mono ?_
  rintro e w5 ⟨r5, rfl, env5⟩
  clear env4
  go_wp2_with fail
  refine (may_is env5 (va := (.slice A xs.length cap)) (xs := xs) (by simp) hma.out).mono ?_
  rintro e w6 ⟨rfl, env6⟩
  clear env5
  go_wp2_with fail
  refine (may_is env6 (va := (.slice A' ys.length cap')) (xs := ys) (by simp) hmb.out).mono ?_
  rintro e w7 ⟨rfl, env7⟩
  clear env6
  go_wp2_with fail
  refine (cmp_is env7 (va := (.slice A' ys.length cap')) (xs := ys) (vb := (.slice A xs.length cap)) (ys := xs) (by simp) (by simp) hX'.out).mono ?_
  rintro e w8 ⟨rfl, env8⟩
  clear env7
  go_wp2_with fail
  refine (same_is env8 (va := (.slice A xs.length cap)) (xs := xs) (vb := (.slice A' ys.length cap')) (ys := ys) (by simp) (by simp) heb.out).mono ?_
  rintro e w9 ⟨rfl, env9⟩
  clear env8
  go_wp2_with fail
  refine (add_is env9 (va := r5) (xs := ds) (vb := (.slice A' ys.length cap')) (ys := ys) (by simp) (by simp) hadd.out).mono ?_
  rintro e w10 ⟨r10, rfl, env10⟩
  clear env9
  go_wp2_with fail
  refine (same_yes env10 (va := r10) (xs := xs) (vb := (.slice A xs.length cap)) (ys := xs) (by simp) (by simp) rfl).mono ?_
  rintro e w11 ⟨rfl, env11⟩
  clear env10
  go_wp2_with fail
  refine (may_is env11 (va := (.slice A'' zs.length cap'')) (xs := zs) (by simp) hmc.out).mono ?_
  rintro e w12 ⟨rfl, env12⟩
  clear env11
  have hB := Lib.hid env12.1
  clear env12
  have hf := Lib.hid hfin.out
  clear hfin
  go_wp2
  all_goals (go_ret; refine ⟨ret_bool ?_, hB.out⟩; have hf2 := hf.out; simp at hf2; first | rfl | (simp; omega) | (exfalso; omega))

set_option maxRecDepth 100000 in
set_option maxHeartbeats 4000000 in
theorem row_gt_false (va vb vc : Value) (xs ys zs ds : List Nat) (Y Z : Int) (w : World) (env : Env w w [(va, xs), (vb, ys), (vc, zs)])
    (la : xs.length ≤ 2000) (lb : ys.length ≤ 2000) (lc : zs.length ≤ 2000) (hma : Hid (mayb xs = true)) (hmb : Hid (mayb ys = true)) (hmc : Hid (mayb zs = false))
    (hX : Hid (sCmp xs ys = 1)) (hX' : Hid (sCmp ys xs = (-1))) (hY : Hid (sCmp ys zs = Y)) (hZ : Hid (sCmp xs zs = Z)) (hok : Hid (sSubOk xs ys = true)) (hds : Hid (sSub xs ys = ds)) (heb : Hid (eqb xs ys = false))
    (hadd : Hid (sAdd ds ys = xs)) :
    Calls Try.prog 7 #[va, vb, vc] w fun e w' => e = .returned (.bool true) ∧ Below w.heap.size w w' := by
  obtain ⟨A, cap, rfl, _⟩ := env.get (v := va) (xs := xs) (by simp)
  obtain ⟨A', cap', rfl, _⟩ := env.get (v := vb) (xs := ys) (by simp)
  obtain ⟨A'', cap'', rfl, _⟩ := env.get (v := vc) (xs := zs) (by simp)
  have p1 : decide ((2000 : Int) < (xs.length : Int)) = false := decide_eq_false (by omega)
  have p2 : decide ((2000 : Int) < (ys.length : Int)) = false := decide_eq_false (by omega)
  have p3 : decide ((2000 : Int) < (zs.length : Int)) = false := decide_eq_false (by omega)
  go_enter Try.func7, Try.ntmps7
  go_wp2_with fail
  refine (awake_env env  ).mono ?_
  rintro e w1 ⟨rfl, env1⟩
  clear env
  go_wp2_with fail
  refine (cmp_is env1 (va := (.slice A xs.length cap)) (xs := xs) (vb := (.slice A' ys.length cap')) (ys := ys) (by simp) (by simp) hX.out).mono ?_
  rintro e w2 ⟨rfl, env2⟩
  clear env1
  go_wp2_with fail
  refine (cmp_is env2 (va := (.slice A' ys.length cap')) (xs := ys) (vb := (.slice A'' zs.length cap'')) (ys := zs) (by simp) (by simp) hY.out).mono ?_
  rintro e w3 ⟨rfl, env3⟩
  clear env2
  go_wp2_with fail
  refine (cmp_is env3 (va := (.slice A xs.length cap)) (xs := xs) (vb := (.slice A'' zs.length cap'')) (ys := zs) (by simp) (by simp) hZ.out).mono ?_
  rintro e w4 ⟨rfl, env4⟩
  clear env3
  go_wp2_with fail
  refine (sub_is env4 (va := (.slice A xs.length cap)) (xs := xs) (vb := (.slice A' ys.length cap')) (ys := ys) (by simp) (by simp) hok.out hds.out).mono ?_
  rintro e w5 ⟨r5, rfl, env5⟩
  clear env4
  go_wp2_with fail
  refine (may_is env5 (va := (.slice A xs.length cap)) (xs := xs) (by simp) hma.out).mono ?_
  rintro e w6 ⟨rfl, env6⟩
  clear env5
  go_wp2_with fail
  refine (may_is env6 (va := (.slice A' ys.length cap')) (xs := ys) (by simp) hmb.out).mono ?_
  rintro e w7 ⟨rfl, env7⟩
  clear env6
  go_wp2_with fail
  refine (cmp_is env7 (va := (.slice A' ys.length cap')) (xs := ys) (vb := (.slice A xs.length cap)) (ys := xs) (by simp) (by simp) hX'.out).mono ?_
  rintro e w8 ⟨rfl, env8⟩
  clear env7
  go_wp2_with fail
  refine (same_is env8 (va := (.slice A xs.length cap)) (xs := xs) (vb := (.slice A' ys.length cap')) (ys := ys) (by simp) (by simp) heb.out).mono ?_
  rintro e w9 ⟨rfl, env9⟩
  clear env8
  go_wp2_with fail
  refine (add_is env9 (va := r5) (xs := ds) (vb := (.slice A' ys.length cap')) (ys := ys) (by simp) (by simp) hadd.out).mono ?_
  rintro e w10 ⟨r10, rfl, env10⟩
  clear env9
  go_wp2_with fail
  refine (same_yes env10 (va := r10) (xs := xs) (vb := (.slice A xs.length cap)) (ys := xs) (by simp) (by simp) rfl).mono ?_
  rintro e w11 ⟨rfl, env11⟩
  clear env10
  go_wp2_with fail
  refine (may_is env11 (va := (.slice A'' zs.length cap'')) (xs := zs) (by simp) hmc.out).mono ?_
  rintro e w12 ⟨rfl, env12⟩
  clear env11
  have hB := Lib.hid env12.1
  clear env12
  go_wp2
  go_ret
  exact ⟨rfl, hB.out⟩

set_option maxRecDepth 100000 in
set_option maxHeartbeats 4000000 in
theorem row_gt_true (va vb vc : Value) (xs ys zs ds : List Nat) (Y Z : Int) (w : World) (env : Env w w [(va, xs), (vb, ys), (vc, zs)])
    (la : xs.length ≤ 2000) (lb : ys.length ≤ 2000) (lc : zs.length ≤ 2000) (hma : Hid (mayb xs = true)) (hmb : Hid (mayb ys = true)) (hmc : Hid (mayb zs = true))
    (hX : Hid (sCmp xs ys = 1)) (hX' : Hid (sCmp ys xs = (-1))) (hY : Hid (sCmp ys zs = Y)) (hZ : Hid (sCmp xs zs = Z)) (hok : Hid (sSubOk xs ys = true)) (hds : Hid (sSub xs ys = ds)) (heb : Hid (eqb xs ys = false))
    (hadd : Hid (sAdd ds ys = xs))
    (hfin : Hid (((decide ((0 : Int) < 1) || decide (0 < Y) || decide (Z ≤ 0)) && (decide ((0 : Int) ≤ 1) || decide (0 ≤ Y) || decide (Z < 0))) = true)) :
    Calls Try.prog 7 #[va, vb, vc] w fun e w' => e = .returned (.bool true) ∧ Below w.heap.size w w' := by
  obtain ⟨A, cap, rfl, _⟩ := env.get (v := va) (xs := xs) (by simp)
  obtain ⟨A', cap', rfl, _⟩ := env.get (v := vb) (xs := ys) (by simp)
  obtain ⟨A'', cap'', rfl, _⟩ := env.get (v := vc) (xs := zs) (by simp)
  have p1 : decide ((2000 : Int) < (xs.length : Int)) = false := decide_eq_false (by omega)
  have p2 : decide ((2000 : Int) < (ys.length : Int)) = false := decide_eq_false (by omega)
  have p3 : decide ((2000 : Int) < (zs.length : Int)) = false := decide_eq_false (by omega)
  go_enter Try.func7, Try.ntmps7
  go_wp2_with fail
  refine (awake_env env  ).mono ?_
  rintro e w1 ⟨rfl, env1⟩
  clear env
  go_wp2_with fail
  refine (cmp_is env1 (va := (.slice A xs.length cap)) (xs := xs) (vb := (.slice A' ys.length cap')) (ys := ys) (by simp) (by simp) hX.out).mono ?_
  rintro e w2 ⟨rfl, env2⟩
  clear env1
  go_wp2_with fail
  refine (cmp_is env2 (va := (.slice A' ys.length cap')) (xs := ys) (vb := (.slice A'' zs.length cap'')) (ys := zs) (by simp) (by simp) hY.out).mono ?_
  rintro e w3 ⟨rfl, env3⟩
  clear env2
  go_wp2_with fail
  refine (cmp_is env3 (va := (.slice A xs.length cap)) (xs := xs) (vb := (.slice A'' zs.length cap'')) (ys := zs) (by simp) (by simp) hZ.out).mono ?_
  rintro e w4 ⟨rfl, env4⟩
  clear env3
  go_wp2_with fail
  refine (sub_is env4 (va := (.slice A xs.length cap)) (xs := xs) (vb := (.slice A' ys.length cap')) (ys := ys) (by simp) (by simp) hok.out hds.out).mono ?_
  rintro e w5 ⟨r5, rfl, env5⟩
  clear env4
  go_wp2_with fail
  refine (may_is env5 (va := (.slice A xs.length cap)) (xs := xs) (by simp) hma.out).mono ?_
  rintro e w6 ⟨rfl, env6⟩
  clear env5
  go_wp2_with fail
  refine (may_is env6 (va := (.slice A' ys.length cap')) (xs := ys) (by simp) hmb.out).mono ?_
  rintro e w7 ⟨rfl, env7⟩
  clear env6
  go_wp2_with fail
  refine (cmp_is env7 (va := (.slice A' ys.length cap')) (xs := ys) (vb := (.slice A xs.length cap)) (ys := xs) (by simp) (by simp) hX'.out).mono ?_
  rintro e w8 ⟨rfl, env8⟩
  clear env7
  go_wp2_with fail
  refine (same_is env8 (va := (.slice A xs.length cap)) (xs := xs) (vb := (.slice A' ys.length cap')) (ys := ys) (by simp) (by simp) heb.out).mono ?_
  rintro e w9 ⟨rfl, env9⟩
  clear env8
  go_wp2_with fail
  refine (add_is env9 (va := r5) (xs := ds) (vb := (.slice A' ys.length cap')) (ys := ys) (by simp) (by simp) hadd.out).mono ?_
  rintro e w10 ⟨r10, rfl, env10⟩
  clear env9
  go_wp2_with fail
  refine (same_yes env10 (va := r10) (xs := xs) (vb := (.slice A xs.length cap)) (ys := xs) (by simp) (by simp) rfl).mono ?_
  rintro e w11 ⟨rfl, env11⟩
  clear env10
  go_wp2_with fail
  refine (may_is env11 (va := (.slice A'' zs.length cap'')) (xs := zs) (by simp) hmc.out).mono ?_
  rintro e w12 ⟨rfl, env12⟩
  clear env11
  have hB := Lib.hid env12.1
  clear env12
  have hf := Lib.hid hfin.out
  clear hfin
  go_wp2
  all_goals (go_ret; refine ⟨ret_bool ?_, hB.out⟩; have hf2 := hf.out; simp at hf2; first | rfl | (simp; omega) | (exfalso; omega))

end Go.Proofs.Ytdbmandbddechaa

/- DivTwice. -/
import Derived.Test.YtidflhonhekmjaaDivG
namespace Go.Proofs.Ytidflhonhekmjaa
open Go.RowKit Go.Shelf

set_option linter.unusedVariables false

theorem Env.cell0 {w0 w : World} {l : List (Value × List Nat)} {bb oo n c : Nat} {xs : List Nat} (h : Env w0 w l) (hm : (.slice (some ⟨bb, oo, none⟩) n c, xs) ∈ l) (h0 : 0 < xs.length) : w.cell? ⟨bb, oo, none⟩ = some (.int .u32 ((xs[0]?.getD 0 : Nat) : Int)) := by
  obtain ⟨A, cap, e, _, _, hr⟩ := h.get hm
  injection e with e1 _ _
  obtain ⟨b, o, e2, _, hc⟩ := hr.2 h0
  subst e1
  injection e2 with e2
  injection e2 with e3 e4
  subst e3 e4
  have := hc 0 h0
  rwa [Nat.add_zero] at this
theorem small_lim {A m : Nat} (ha : (lim A).length ≤ 65536) (hm : 0 < m) : sSmE (lim A) m = 0 ∧ sSmQ (lim A) m = lim (A / m) ∧ sSmR (lim A) m = A % m := by
  have hE : sSmE (lim A) m = 0 := by unfold sSmE; rw [mayb_lim ha, if_pos rfl, if_neg (by omega)]
  refine ⟨hE, ?_, ?_⟩
  · unfold sSmQ; rw [if_pos hE, val_lim]
  · unfold sSmR; rw [if_pos hE, val_lim]
theorem lim_one {m : Nat} (h0 : 0 < m) (hm : m < 4294967296) : lim m = [m] := lim_eq (mayb_iff.2 ⟨by simp, by simp; omega⟩) (Limbs.one hm) (by rw [val, val, Nat.mul_zero, Nat.add_zero])
theorem pow_lenK {k c : Nat} (h : k < 32 * c) : (lim (2 ^ k)).length ≤ c := by
  rw [lim_len_blen, blen_le]
  exact Nat.pow_lt_pow_right (by decide) h
theorem pow_lenT {k : Nat} (h : k ≤ 3000) : (lim (2 ^ k)).length ≤ 100 := pow_lenK (by omega)
theorem or_one {y : Nat} (hy : y < 4294967296) : ∃ m : Nat, bits BinOp.or IntKind.u32 (y : Int) 1 = (m : Int) ∧ 0 < m ∧ m < 4294967296 :=
  ⟨y ||| 1, u32_or_nat y 1 hy (by decide), Nat.lt_of_lt_of_le Nat.one_pos (Nat.right_le_or (n := y) (m := 1)), Nat.or_lt_two_pow (n := 32) hy (by decide)⟩

set_option maxRecDepth 100000 in
set_option maxHeartbeats 8000000 in
theorem dtwice_longa {Pa : Option Addr} {na ca : Nat} {Pb : Option Addr} {nb cb : Nat} {Pc : Option Addr} {nc cc : Nat} {xa xb xc : List Nat} (w : World) (k : Int) (ha : Arg w (.slice Pa na ca) (xa)) (hb : Arg w (.slice Pb nb cb) (xb)) (hc : Arg w (.slice Pc nc cc) (xc))  (la : 200 < xa.length) : Calls Try.prog 10 #[(.slice Pa na ca), (.slice Pb nb cb), (.slice Pc nc cc), .int .i64 (k : Int)] w fun e w' => e = .returned (.bool true) ∧ Below w.heap.size w w' := by
  have hna : na = (xa).length := by obtain ⟨_, _, e, _⟩ := ha; injection e
  have hnb : nb = (xb).length := by obtain ⟨_, _, e, _⟩ := hb; injection e
  have hnc : nc = (xc).length := by obtain ⟨_, _, e, _⟩ := hc; injection e
  have pa : decide ((200 : Int) < (na : Int)) = true := decide_eq_true (by omega)
  clear la
  have env0 : Env w w [((.slice Pa na ca), xa), ((.slice Pb nb cb), xb), ((.slice Pc nc cc), xc)] := ((((env_start w).add (Below.refl _ _) hc).add (Below.refl _ _) hb).add (Below.refl _ _) ha)
  clear ha hna hb hnb hc hnc
  go_enter Try.func10, Try.ntmps10
  go_wp2_with fail
  refine (awake3_env env0).mono ?_
  rintro e w1 ⟨rfl, env1⟩
  clear env0
  have HB := Lib.hid env1.1
  clear env1
  go_wp2
  go_ret
  exact ⟨rfl, HB.out⟩

set_option maxRecDepth 100000 in
set_option maxHeartbeats 8000000 in
theorem dtwice_longb {Pa : Option Addr} {na ca : Nat} {Pb : Option Addr} {nb cb : Nat} {Pc : Option Addr} {nc cc : Nat} {xa xb xc : List Nat} (w : World) (k : Int) (ha : Arg w (.slice Pa na ca) (xa)) (hb : Arg w (.slice Pb nb cb) (xb)) (hc : Arg w (.slice Pc nc cc) (xc)) (la : xa.length ≤ 200) (lb : 100 < xb.length) : Calls Try.prog 10 #[(.slice Pa na ca), (.slice Pb nb cb), (.slice Pc nc cc), .int .i64 (k : Int)] w fun e w' => e = .returned (.bool true) ∧ Below w.heap.size w w' := by
  have hna : na = (xa).length := by obtain ⟨_, _, e, _⟩ := ha; injection e
  have hnb : nb = (xb).length := by obtain ⟨_, _, e, _⟩ := hb; injection e
  have hnc : nc = (xc).length := by obtain ⟨_, _, e, _⟩ := hc; injection e
  have pa : decide ((200 : Int) < (na : Int)) = false := decide_eq_false (by omega)
  have pb : decide ((100 : Int) < (nb : Int)) = true := decide_eq_true (by omega)
  clear la lb
  have env0 : Env w w [((.slice Pa na ca), xa), ((.slice Pb nb cb), xb), ((.slice Pc nc cc), xc)] := ((((env_start w).add (Below.refl _ _) hc).add (Below.refl _ _) hb).add (Below.refl _ _) ha)
  clear ha hna hb hnb hc hnc
  go_enter Try.func10, Try.ntmps10
  go_wp2_with fail
  refine (awake3_env env0).mono ?_
  rintro e w1 ⟨rfl, env1⟩
  clear env0
  have HB := Lib.hid env1.1
  clear env1
  go_wp2
  go_ret
  exact ⟨rfl, HB.out⟩

set_option maxRecDepth 100000 in
set_option maxHeartbeats 8000000 in
theorem dtwice_longc {Pa : Option Addr} {na ca : Nat} {Pb : Option Addr} {nb cb : Nat} {Pc : Option Addr} {nc cc : Nat} {xa xb xc : List Nat} (w : World) (k : Int) (ha : Arg w (.slice Pa na ca) (xa)) (hb : Arg w (.slice Pb nb cb) (xb)) (hc : Arg w (.slice Pc nc cc) (xc)) (la : xa.length ≤ 200) (lb : xb.length ≤ 100) (lc : 100 < xc.length) : Calls Try.prog 10 #[(.slice Pa na ca), (.slice Pb nb cb), (.slice Pc nc cc), .int .i64 (k : Int)] w fun e w' => e = .returned (.bool true) ∧ Below w.heap.size w w' := by
  have hna : na = (xa).length := by obtain ⟨_, _, e, _⟩ := ha; injection e
  have hnb : nb = (xb).length := by obtain ⟨_, _, e, _⟩ := hb; injection e
  have hnc : nc = (xc).length := by obtain ⟨_, _, e, _⟩ := hc; injection e
  have pa : decide ((200 : Int) < (na : Int)) = false := decide_eq_false (by omega)
  have pb : decide ((100 : Int) < (nb : Int)) = false := decide_eq_false (by omega)
  have pc : decide ((100 : Int) < (nc : Int)) = true := decide_eq_true (by omega)
  clear la lb lc
  have env0 : Env w w [((.slice Pa na ca), xa), ((.slice Pb nb cb), xb), ((.slice Pc nc cc), xc)] := ((((env_start w).add (Below.refl _ _) hc).add (Below.refl _ _) hb).add (Below.refl _ _) ha)
  clear ha hna hb hnb hc hnc
  go_enter Try.func10, Try.ntmps10
  go_wp2_with fail
  refine (awake3_env env0).mono ?_
  rintro e w1 ⟨rfl, env1⟩
  clear env0
  have HB := Lib.hid env1.1
  clear env1
  go_wp2
  go_ret
  exact ⟨rfl, HB.out⟩

set_option maxRecDepth 100000 in
set_option maxHeartbeats 8000000 in
theorem dtwice_longk {Pa : Option Addr} {na ca : Nat} {Pb : Option Addr} {nb cb : Nat} {Pc : Option Addr} {nc cc : Nat} {xa xb xc : List Nat} (w : World) (k : Int) (ha : Arg w (.slice Pa na ca) (xa)) (hb : Arg w (.slice Pb nb cb) (xb)) (hc : Arg w (.slice Pc nc cc) (xc)) (la : (xa).length ≤ 200) (lb : (xb).length ≤ 100) (lc : (xc).length ≤ 100) (lk : 3000 < k) : Calls Try.prog 10 #[(.slice Pa na ca), (.slice Pb nb cb), (.slice Pc nc cc), .int .i64 (k : Int)] w fun e w' => e = .returned (.bool true) ∧ Below w.heap.size w w' := by
  have hna : na = (xa).length := by obtain ⟨_, _, e, _⟩ := ha; injection e
  have hnb : nb = (xb).length := by obtain ⟨_, _, e, _⟩ := hb; injection e
  have hnc : nc = (xc).length := by obtain ⟨_, _, e, _⟩ := hc; injection e
  have pa : decide ((200 : Int) < (na : Int)) = false := decide_eq_false (by omega)
  have pb : decide ((100 : Int) < (nb : Int)) = false := decide_eq_false (by omega)
  have pc : decide ((100 : Int) < (nc : Int)) = false := decide_eq_false (by omega)
  have pk : decide ((3000 : Int) < k) = true := decide_eq_true lk
  clear la lb lc
  have env0 : Env w w [((.slice Pa na ca), xa), ((.slice Pb nb cb), xb), ((.slice Pc nc cc), xc)] := ((((env_start w).add (Below.refl _ _) hc).add (Below.refl _ _) hb).add (Below.refl _ _) ha)
  clear ha hna hb hnb hc hnc
  go_enter Try.func10, Try.ntmps10
  go_wp2_with fail
  refine (awake3_env env0).mono ?_
  rintro e w1 ⟨rfl, env1⟩
  clear env0
  have HB := Lib.hid env1.1
  clear env1
  go_wp2
  go_ret
  exact ⟨rfl, HB.out⟩

set_option maxRecDepth 100000 in
set_option maxHeartbeats 8000000 in
theorem dtwice_bada {Pa : Option Addr} {na ca : Nat} {Pb : Option Addr} {nb cb : Nat} {Pc : Option Addr} {nc cc : Nat} {xa xb xc : List Nat} (w : World) (k : Int) (ha : Arg w (.slice Pa na ca) (xa)) (hb : Arg w (.slice Pb nb cb) (xb)) (hc : Arg w (.slice Pc nc cc) (xc)) (la : (xa).length ≤ 200) (lb : (xb).length ≤ 100) (lc : (xc).length ≤ 100) (lk : k ≤ 3000) (ma : mayb xa = false) : Calls Try.prog 10 #[(.slice Pa na ca), (.slice Pb nb cb), (.slice Pc nc cc), .int .i64 (k : Int)] w fun e w' => e = .returned (.bool true) ∧ Below w.heap.size w w' := by
  have hna : na = (xa).length := by obtain ⟨_, _, e, _⟩ := ha; injection e
  have hnb : nb = (xb).length := by obtain ⟨_, _, e, _⟩ := hb; injection e
  have hnc : nc = (xc).length := by obtain ⟨_, _, e, _⟩ := hc; injection e
  have pa : decide ((200 : Int) < (na : Int)) = false := decide_eq_false (by omega)
  have pb : decide ((100 : Int) < (nb : Int)) = false := decide_eq_false (by omega)
  have pc : decide ((100 : Int) < (nc : Int)) = false := decide_eq_false (by omega)
  have Ma := Lib.hid ma
  have pk : decide ((3000 : Int) < k) = false := decide_eq_false (by omega)
  clear la lb lc ma
  have env0 : Env w w [((.slice Pa na ca), xa), ((.slice Pb nb cb), xb), ((.slice Pc nc cc), xc)] := ((((env_start w).add (Below.refl _ _) hc).add (Below.refl _ _) hb).add (Below.refl _ _) ha)
  clear ha hna hb hnb hc hnc
  go_enter Try.func10, Try.ntmps10
  go_wp2_with fail
  refine (awake3_env env0).mono ?_
  rintro e w1 ⟨rfl, env1⟩
  clear env0
  go_wp2_with fail
  refine (may_is env1 (va := (.slice Pa na ca)) (xs := xa) (by simp) Ma.out).mono ?_
  rintro e w2 ⟨rfl, env2⟩
  clear env1
  have HB := Lib.hid env2.1
  clear env2
  go_wp2
  go_ret
  exact ⟨rfl, HB.out⟩

set_option maxRecDepth 100000 in
set_option maxHeartbeats 8000000 in
theorem dtwice_badb {Pa : Option Addr} {na ca : Nat} {Pb : Option Addr} {nb cb : Nat} {Pc : Option Addr} {nc cc : Nat} {xa xb xc : List Nat} (w : World) (k : Int) (ha : Arg w (.slice Pa na ca) (xa)) (hb : Arg w (.slice Pb nb cb) (xb)) (hc : Arg w (.slice Pc nc cc) (xc)) (la : (xa).length ≤ 200) (lb : (xb).length ≤ 100) (lc : (xc).length ≤ 100) (lk : k ≤ 3000) (ma : mayb xa = true) (mb : mayb xb = false) : Calls Try.prog 10 #[(.slice Pa na ca), (.slice Pb nb cb), (.slice Pc nc cc), .int .i64 (k : Int)] w fun e w' => e = .returned (.bool true) ∧ Below w.heap.size w w' := by
  have hna : na = (xa).length := by obtain ⟨_, _, e, _⟩ := ha; injection e
  have hnb : nb = (xb).length := by obtain ⟨_, _, e, _⟩ := hb; injection e
  have hnc : nc = (xc).length := by obtain ⟨_, _, e, _⟩ := hc; injection e
  have pa : decide ((200 : Int) < (na : Int)) = false := decide_eq_false (by omega)
  have pb : decide ((100 : Int) < (nb : Int)) = false := decide_eq_false (by omega)
  have pc : decide ((100 : Int) < (nc : Int)) = false := decide_eq_false (by omega)
  have Ma := Lib.hid ma
  have Mb := Lib.hid mb
  have pk : decide ((3000 : Int) < k) = false := decide_eq_false (by omega)
  clear la lb lc ma mb
  have env0 : Env w w [((.slice Pa na ca), xa), ((.slice Pb nb cb), xb), ((.slice Pc nc cc), xc)] := ((((env_start w).add (Below.refl _ _) hc).add (Below.refl _ _) hb).add (Below.refl _ _) ha)
  clear ha hna hb hnb hc hnc
  go_enter Try.func10, Try.ntmps10
  go_wp2_with fail
  refine (awake3_env env0).mono ?_
  rintro e w1 ⟨rfl, env1⟩
  clear env0
  go_wp2_with fail
  refine (may_is env1 (va := (.slice Pa na ca)) (xs := xa) (by simp) Ma.out).mono ?_
  rintro e w2 ⟨rfl, env2⟩
  clear env1
  go_wp2_with fail
  refine (may_is env2 (va := (.slice Pb nb cb)) (xs := xb) (by simp) Mb.out).mono ?_
  rintro e w3 ⟨rfl, env3⟩
  clear env2
  have HB := Lib.hid env3.1
  clear env3
  go_wp2
  go_ret
  exact ⟨rfl, HB.out⟩

set_option maxRecDepth 100000 in
set_option maxHeartbeats 8000000 in
theorem dtwice_badc {Pa : Option Addr} {na ca : Nat} {Pb : Option Addr} {nb cb : Nat} {Pc : Option Addr} {nc cc : Nat} {xa xb xc : List Nat} (w : World) (k : Int) (ha : Arg w (.slice Pa na ca) (xa)) (hb : Arg w (.slice Pb nb cb) (xb)) (hc : Arg w (.slice Pc nc cc) (xc)) (la : (xa).length ≤ 200) (lb : (xb).length ≤ 100) (lc : (xc).length ≤ 100) (lk : k ≤ 3000) (ma : mayb xa = true) (mb : mayb xb = true) (mc : mayb xc = false) : Calls Try.prog 10 #[(.slice Pa na ca), (.slice Pb nb cb), (.slice Pc nc cc), .int .i64 (k : Int)] w fun e w' => e = .returned (.bool true) ∧ Below w.heap.size w w' := by
  have hna : na = (xa).length := by obtain ⟨_, _, e, _⟩ := ha; injection e
  have hnb : nb = (xb).length := by obtain ⟨_, _, e, _⟩ := hb; injection e
  have hnc : nc = (xc).length := by obtain ⟨_, _, e, _⟩ := hc; injection e
  have pa : decide ((200 : Int) < (na : Int)) = false := decide_eq_false (by omega)
  have pb : decide ((100 : Int) < (nb : Int)) = false := decide_eq_false (by omega)
  have pc : decide ((100 : Int) < (nc : Int)) = false := decide_eq_false (by omega)
  have Ma := Lib.hid ma
  have Mb := Lib.hid mb
  have Mc := Lib.hid mc
  have pk : decide ((3000 : Int) < k) = false := decide_eq_false (by omega)
  clear la lb lc ma mb mc
  have env0 : Env w w [((.slice Pa na ca), xa), ((.slice Pb nb cb), xb), ((.slice Pc nc cc), xc)] := ((((env_start w).add (Below.refl _ _) hc).add (Below.refl _ _) hb).add (Below.refl _ _) ha)
  clear ha hna hb hnb hc hnc
  go_enter Try.func10, Try.ntmps10
  go_wp2_with fail
  refine (awake3_env env0).mono ?_
  rintro e w1 ⟨rfl, env1⟩
  clear env0
  go_wp2_with fail
  refine (may_is env1 (va := (.slice Pa na ca)) (xs := xa) (by simp) Ma.out).mono ?_
  rintro e w2 ⟨rfl, env2⟩
  clear env1
  go_wp2_with fail
  refine (may_is env2 (va := (.slice Pb nb cb)) (xs := xb) (by simp) Mb.out).mono ?_
  rintro e w3 ⟨rfl, env3⟩
  clear env2
  go_wp2_with fail
  refine (may_is env3 (va := (.slice Pc nc cc)) (xs := xc) (by simp) Mc.out).mono ?_
  rintro e w4 ⟨rfl, env4⟩
  clear env3
  have HB := Lib.hid env4.1
  clear env4
  go_wp2
  go_ret
  exact ⟨rfl, HB.out⟩

set_option maxRecDepth 100000 in
set_option maxHeartbeats 8000000 in
theorem dtwice_zerob {Pa : Option Addr} {na ca : Nat} {Pb : Option Addr} {nb cb : Nat} {Pc : Option Addr} {nc cc : Nat} {xa xb xc : List Nat} (w : World) (k : Int) (ha : Arg w (.slice Pa na ca) (xa)) (hb : Arg w (.slice Pb nb cb) (xb)) (hc : Arg w (.slice Pc nc cc) (xc)) (la : (xa).length ≤ 200) (lb : (xb).length ≤ 100) (lc : (xc).length ≤ 100) (lk : k ≤ 3000) (ma : mayb xa = true) (mb : mayb xb = true) (mc : mayb xc = true) (hb0 : xb.length = 0) : Calls Try.prog 10 #[(.slice Pa na ca), (.slice Pb nb cb), (.slice Pc nc cc), .int .i64 (k : Int)] w fun e w' => e = .returned (.bool true) ∧ Below w.heap.size w w' := by
  have hna : na = (xa).length := by obtain ⟨_, _, e, _⟩ := ha; injection e
  have hnb : nb = (xb).length := by obtain ⟨_, _, e, _⟩ := hb; injection e
  have hnc : nc = (xc).length := by obtain ⟨_, _, e, _⟩ := hc; injection e
  have pa : decide ((200 : Int) < (na : Int)) = false := decide_eq_false (by omega)
  have pb : decide ((100 : Int) < (nb : Int)) = false := decide_eq_false (by omega)
  have pc : decide ((100 : Int) < (nc : Int)) = false := decide_eq_false (by omega)
  have Ma := Lib.hid ma
  have Mb := Lib.hid mb
  have Mc := Lib.hid mc
  have pk : decide ((3000 : Int) < k) = false := decide_eq_false (by omega)
  have z1 : ((nb : Int) == 0) = true := beq_iff_eq.2 (by omega)
  clear hb0
  clear la lb lc ma mb mc
  have env0 : Env w w [((.slice Pa na ca), xa), ((.slice Pb nb cb), xb), ((.slice Pc nc cc), xc)] := ((((env_start w).add (Below.refl _ _) hc).add (Below.refl _ _) hb).add (Below.refl _ _) ha)
  clear ha hna hb hnb hc hnc
  go_enter Try.func10, Try.ntmps10
  go_wp2_with fail
  refine (awake3_env env0).mono ?_
  rintro e w1 ⟨rfl, env1⟩
  clear env0
  go_wp2_with fail
  refine (may_is env1 (va := (.slice Pa na ca)) (xs := xa) (by simp) Ma.out).mono ?_
  rintro e w2 ⟨rfl, env2⟩
  clear env1
  go_wp2_with fail
  refine (may_is env2 (va := (.slice Pb nb cb)) (xs := xb) (by simp) Mb.out).mono ?_
  rintro e w3 ⟨rfl, env3⟩
  clear env2
  go_wp2_with fail
  refine (may_is env3 (va := (.slice Pc nc cc)) (xs := xc) (by simp) Mc.out).mono ?_
  rintro e w4 ⟨rfl, env4⟩
  clear env3
  have HB := Lib.hid env4.1
  clear env4
  go_wp2
  go_ret
  exact ⟨rfl, HB.out⟩

set_option maxRecDepth 100000 in
set_option maxHeartbeats 8000000 in
theorem dtwice_zeroc {Pa : Option Addr} {na ca : Nat} {Pb : Option Addr} {nb cb : Nat} {Pc : Option Addr} {nc cc : Nat} {xa xb xc : List Nat} (w : World) (k : Int) (ha : Arg w (.slice Pa na ca) (xa)) (hb : Arg w (.slice Pb nb cb) (xb)) (hc : Arg w (.slice Pc nc cc) (xc)) (la : (xa).length ≤ 200) (lb : (xb).length ≤ 100) (lc : (xc).length ≤ 100) (lk : k ≤ 3000) (ma : mayb xa = true) (mb : mayb xb = true) (mc : mayb xc = true) (hb0 : 0 < xb.length) (hc0 : xc.length = 0) : Calls Try.prog 10 #[(.slice Pa na ca), (.slice Pb nb cb), (.slice Pc nc cc), .int .i64 (k : Int)] w fun e w' => e = .returned (.bool true) ∧ Below w.heap.size w w' := by
  have hna : na = (xa).length := by obtain ⟨_, _, e, _⟩ := ha; injection e
  have hnb : nb = (xb).length := by obtain ⟨_, _, e, _⟩ := hb; injection e
  have hnc : nc = (xc).length := by obtain ⟨_, _, e, _⟩ := hc; injection e
  have pa : decide ((200 : Int) < (na : Int)) = false := decide_eq_false (by omega)
  have pb : decide ((100 : Int) < (nb : Int)) = false := decide_eq_false (by omega)
  have pc : decide ((100 : Int) < (nc : Int)) = false := decide_eq_false (by omega)
  have Ma := Lib.hid ma
  have Mb := Lib.hid mb
  have Mc := Lib.hid mc
  have pk : decide ((3000 : Int) < k) = false := decide_eq_false (by omega)
  have z1 : ((nb : Int) == 0) = false := beq_eq_false_iff_ne.2 (by omega)
  have z2 : ((nc : Int) == 0) = true := beq_iff_eq.2 (by omega)
  clear hb0 hc0
  clear la lb lc ma mb mc
  have env0 : Env w w [((.slice Pa na ca), xa), ((.slice Pb nb cb), xb), ((.slice Pc nc cc), xc)] := ((((env_start w).add (Below.refl _ _) hc).add (Below.refl _ _) hb).add (Below.refl _ _) ha)
  clear ha hna hb hnb hc hnc
  go_enter Try.func10, Try.ntmps10
  go_wp2_with fail
  refine (awake3_env env0).mono ?_
  rintro e w1 ⟨rfl, env1⟩
  clear env0
  go_wp2_with fail
  refine (may_is env1 (va := (.slice Pa na ca)) (xs := xa) (by simp) Ma.out).mono ?_
  rintro e w2 ⟨rfl, env2⟩
  clear env1
  go_wp2_with fail
  refine (may_is env2 (va := (.slice Pb nb cb)) (xs := xb) (by simp) Mb.out).mono ?_
  rintro e w3 ⟨rfl, env3⟩
  clear env2
  go_wp2_with fail
  refine (may_is env3 (va := (.slice Pc nc cc)) (xs := xc) (by simp) Mc.out).mono ?_
  rintro e w4 ⟨rfl, env4⟩
  clear env3
  have HB := Lib.hid env4.1
  clear env4
  go_wp2
  go_ret
  exact ⟨rfl, HB.out⟩

set_option maxRecDepth 100000 in
set_option maxHeartbeats 8000000 in
theorem dtwice_negk {Pa : Option Addr} {na ca : Nat} {Pb : Option Addr} {nb cb : Nat} {Pc : Option Addr} {nc cc : Nat} {xa xb xc : List Nat} (w : World) (k : Int) (ha : Arg w (.slice Pa na ca) (xa)) (hb : Arg w (.slice Pb nb cb) (xb)) (hc : Arg w (.slice Pc nc cc) (xc)) (la : (xa).length ≤ 200) (lb : (xb).length ≤ 100) (lc : (xc).length ≤ 100) (lk : k ≤ 3000) (ma : mayb xa = true) (mb : mayb xb = true) (mc : mayb xc = true) (hb0 : 0 < xb.length) (hc0 : 0 < xc.length) (hk0 : k < 0) : Calls Try.prog 10 #[(.slice Pa na ca), (.slice Pb nb cb), (.slice Pc nc cc), .int .i64 (k : Int)] w fun e w' => e = .returned (.bool true) ∧ Below w.heap.size w w' := by
  have hna : na = (xa).length := by obtain ⟨_, _, e, _⟩ := ha; injection e
  have hnb : nb = (xb).length := by obtain ⟨_, _, e, _⟩ := hb; injection e
  have hnc : nc = (xc).length := by obtain ⟨_, _, e, _⟩ := hc; injection e
  have pa : decide ((200 : Int) < (na : Int)) = false := decide_eq_false (by omega)
  have pb : decide ((100 : Int) < (nb : Int)) = false := decide_eq_false (by omega)
  have pc : decide ((100 : Int) < (nc : Int)) = false := decide_eq_false (by omega)
  have Ma := Lib.hid ma
  have Mb := Lib.hid mb
  have Mc := Lib.hid mc
  have pk : decide ((3000 : Int) < k) = false := decide_eq_false (by omega)
  have z1 : ((nb : Int) == 0) = false := beq_eq_false_iff_ne.2 (by omega)
  have z2 : ((nc : Int) == 0) = false := beq_eq_false_iff_ne.2 (by omega)
  have z3 : decide (k < 0) = true := decide_eq_true hk0
  clear hb0 hc0
  clear la lb lc ma mb mc
  have env0 : Env w w [((.slice Pa na ca), xa), ((.slice Pb nb cb), xb), ((.slice Pc nc cc), xc)] := ((((env_start w).add (Below.refl _ _) hc).add (Below.refl _ _) hb).add (Below.refl _ _) ha)
  clear ha hna hb hnb hc hnc
  go_enter Try.func10, Try.ntmps10
  go_wp2_with fail
  refine (awake3_env env0).mono ?_
  rintro e w1 ⟨rfl, env1⟩
  clear env0
  go_wp2_with fail
  refine (may_is env1 (va := (.slice Pa na ca)) (xs := xa) (by simp) Ma.out).mono ?_
  rintro e w2 ⟨rfl, env2⟩
  clear env1
  go_wp2_with fail
  refine (may_is env2 (va := (.slice Pb nb cb)) (xs := xb) (by simp) Mb.out).mono ?_
  rintro e w3 ⟨rfl, env3⟩
  clear env2
  go_wp2_with fail
  refine (may_is env3 (va := (.slice Pc nc cc)) (xs := xc) (by simp) Mc.out).mono ?_
  rintro e w4 ⟨rfl, env4⟩
  clear env3
  have HB := Lib.hid env4.1
  clear env4
  go_wp2
  go_ret
  exact ⟨rfl, HB.out⟩

set_option maxRecDepth 100000 in
set_option maxHeartbeats 8000000 in
theorem dtwice_go {Pa : Option Addr} {na ca : Nat} {Pb : Option Addr} {nb cb : Nat} {Pc : Option Addr} {nc cc : Nat} {A B C : Nat} (w : World) (k : Nat) (ha : Arg w (.slice Pa na ca) (lim A)) (hb : Arg w (.slice Pb nb cb) (lim B)) (hc : Arg w (.slice Pc nc cc) (lim C)) (la : (lim A).length ≤ 200) (lb : (lim B).length ≤ 100) (lc : (lim C).length ≤ 100) (lk : k ≤ 3000) (hB0 : 0 < B) (hC0 : 0 < C) : Calls Try.prog 10 #[(.slice Pa na ca), (.slice Pb nb cb), (.slice Pc nc cc), .int .i64 (k : Int)] w fun e w' => e = .returned (.bool true) ∧ Below w.heap.size w w' := by
  have hna : na = (lim A).length := by obtain ⟨_, _, e, _⟩ := ha; injection e
  have hnb : nb = (lim B).length := by obtain ⟨_, _, e, _⟩ := hb; injection e
  have hnc : nc = (lim C).length := by obtain ⟨_, _, e, _⟩ := hc; injection e
  have pa : decide ((200 : Int) < (na : Int)) = false := decide_eq_false (by omega)
  have pb : decide ((100 : Int) < (nb : Int)) = false := decide_eq_false (by omega)
  have pc : decide ((100 : Int) < (nc : Int)) = false := decide_eq_false (by omega)
  have pk : decide ((3000 : Int) < (k : Int)) = false := decide_eq_false (by omega)
  have pk0 : decide ((k : Int) < 0) = false := decide_eq_false (by omega)
  have hbp := lim_pos_len hB0
  have hcp := lim_pos_len hC0
  have z1 : ((nb : Int) == 0) = false := beq_eq_false_iff_ne.2 (by omega)
  have z2 : ((nc : Int) == 0) = false := beq_eq_false_iff_ne.2 (by omega)
  have z3 : 0 < nb := by omega
  have k1 := lim_len_mono (Nat.div_le_self A B)
  have k2 := len_mulD B C
  have k3 := pow_lenT lk
  have h2k := Nat.two_pow_pos k
  have hbc : 0 < B * C := Nat.mul_pos hB0 hC0
  have hyl := (lim_limbs B).getD 0
  obtain ⟨m, ho1, hm0, hm1⟩ := or_one hyl
  have hlm := lim_one hm0 hm1
  have hlml : (lim m).length ≤ 1 := by rw [hlm]; exact Nat.le_refl _
  have MA := Lib.hid (mayb_lim (n := A) (by omega))
  have MB := Lib.hid (mayb_lim (n := B) (by omega))
  have MC := Lib.hid (mayb_lim (n := C) (by omega))
  have E1 := Lib.hid (div_lim_E (A := A) (B := B) (by omega) (by omega) hB0)
  have Q1 := Lib.hid (div_lim_Q (A := A) (B := B) (by omega) (by omega) hB0)
  have R1 := Lib.hid (div_lim_R (A := A) (B := B) (by omega) (by omega) hB0)
  have E2 := Lib.hid (div_lim_E (A := A / B) (B := C) (by omega) (by omega) hC0)
  have Q2 := Lib.hid (show sDivQ (lim (A / B)) (lim C) = lim (A / (B * C)) by rw [div_lim_Q (by omega) (by omega) hC0, Nat.div_div_eq_div_mul])
  have R2 := Lib.hid (div_lim_R (A := A / B) (B := C) (by omega) (by omega) hC0)
  have HP := Lib.hid (mul_limD (a := B) (b := C) (by omega))
  have E3 := Lib.hid (div_lim_E (A := A) (B := B * C) (by omega) (by omega) hbc)
  have Q3 := Lib.hid (div_lim_Q (A := A) (B := B * C) (by omega) (by omega) hbc)
  have R3 := Lib.hid (div_lim_R (A := A) (B := B * C) (by omega) (by omega) hbc)
  have HS := Lib.hid (show sShl [1] (k : Int) = lim (2 ^ k) by rw [sShl_yes (by decide), show val [1] = 1 from by decide, Nat.one_mul, clip_of (by omega)])
  have E4 := Lib.hid (div_lim_E (A := A) (B := 2 ^ k) (by omega) (by omega) h2k)
  have Q4 := Lib.hid (div_lim_Q (A := A) (B := 2 ^ k) (by omega) (by omega) h2k)
  have R4 := Lib.hid (div_lim_R (A := A) (B := 2 ^ k) (by omega) (by omega) h2k)
  obtain ⟨e5, q5, r5⟩ := small_lim (A := A) (m := m) (by omega) hm0
  have E5 := Lib.hid e5
  have Q5 := Lib.hid q5
  have R5 := Lib.hid r5
  have e6 := div_lim_E (A := A) (B := m) (by omega) (by omega) hm0
  have q6 := div_lim_Q (A := A) (B := m) (by omega) (by omega) hm0
  have r6 := div_lim_R (A := A) (B := m) (by omega) (by omega) hm0
  rw [hlm] at e6 q6 r6
  have E6 := Lib.hid e6
  have Q6 := Lib.hid q6
  have R6 := Lib.hid r6
  have HSR := Lib.hid (show sShr (lim A) (k : Int) = lim (A / 2 ^ k) by rw [sShr_yes (mayb_lim (by omega)), val_lim])
  have hrb : A % m < 4294967296 := Nat.lt_trans (Nat.mod_lt _ hm0) hm1
  obtain ⟨bb, oo, hPb⟩ : ∃ bb oo, Pb = some ⟨bb, oo, none⟩ := by
    obtain ⟨A', cap, e, _, _, hr⟩ := hb
    injection e with e1 _ _
    obtain ⟨b, o, e2, _, _⟩ := hr.2 hbp
    exact ⟨b, o, e1.trans e2⟩
  subst hPb
  have HBP := Lib.hid hbp
  generalize hy : (lim B)[0]?.getD 0 = y at *
  have HY := Lib.hid hy
  generalize hmr : A % m = mr at *
  clear k1 k2 k3 h2k hbc hlm hlml e5 q5 r5 e6 q6 r6 hbp hcp hB0 hC0 hy hmr la lb lc
  have env0 : Env w w [((.slice Pa na ca), lim A), ((.slice (some ⟨bb, oo, none⟩) nb cb), lim B), ((.slice Pc nc cc), lim C)] := ((((env_start w).add (Below.refl _ _) hc).add (Below.refl _ _) hb).add (Below.refl _ _) ha)
  clear ha hna hb hnb hc hnc
  go_enter Try.func10, Try.ntmps10
  go_wp2_with fail
  refine (awake3_env env0).mono ?_
  rintro e w1 ⟨rfl, env1⟩
  clear env0
  go_wp2_with fail
  refine (may_is env1 (va := (.slice Pa na ca)) (xs := lim A) (by simp) MA.out).mono ?_
  rintro e w2 ⟨rfl, env2⟩
  clear env1
  go_wp2_with fail
  refine (may_is env2 (va := (.slice (some ⟨bb, oo, none⟩) nb cb)) (xs := lim B) (by simp) MB.out).mono ?_
  rintro e w3 ⟨rfl, env3⟩
  clear env2
  go_wp2_with fail
  refine (may_is env3 (va := (.slice Pc nc cc)) (xs := lim C) (by simp) MC.out).mono ?_
  rintro e w4 ⟨rfl, env4⟩
  clear env3
  go_wp2_with fail
  refine (divmod_is env4 (va := (.slice Pa na ca)) (vb := (.slice (some ⟨bb, oo, none⟩) nb cb)) (xs := lim A) (ys := lim B) (by simp) (by simp) Q1.out R1.out E1.out).mono ?_
  rintro e w5 ⟨q5, r5, rfl, env5⟩
  clear env4
  go_wp2_with fail
  refine (divmod_is env5 (va := q5) (vb := (.slice Pc nc cc)) (xs := lim (A / B)) (ys := lim C) (by simp) (by simp) Q2.out R2.out E2.out).mono ?_
  rintro e w6 ⟨q6, r6, rfl, env6⟩
  clear env5
  go_wp2_with fail
  refine (mul_is env6 (va := (.slice (some ⟨bb, oo, none⟩) nb cb)) (vb := (.slice Pc nc cc)) (xs := lim B) (ys := lim C) (by simp) (by simp) HP.out).mono ?_
  rintro e w7 ⟨r7, rfl, env7⟩
  clear env6
  go_wp2_with fail
  refine (divmod_is env7 (va := (.slice Pa na ca)) (vb := r7) (xs := lim A) (ys := lim (B * C)) (by simp) (by simp) Q3.out R3.out E3.out).mono ?_
  rintro e w8 ⟨q8, r8, rfl, env8⟩
  clear env7
  go_wp2_with fail
  refine (of3_env (env8.lit1 1 1 rfl (by decide))).mono ?_
  rintro e w9 ⟨rfl, env9⟩
  clear env8
  go_wp2_with fail
  refine (shl_is env9 (va := (.slice (some ⟨w8.heap.size, 0, none⟩) 1 1)) (xs := [1]) (by simp) HS.out).mono ?_
  rintro e w10 ⟨r10, rfl, env10⟩
  clear env9
  go_wp2_with fail
  refine (divmod_is env10 (va := (.slice Pa na ca)) (vb := r10) (xs := lim A) (ys := lim (2 ^ k)) (by simp) (by simp) Q4.out R4.out E4.out).mono ?_
  rintro e w11 ⟨q11, r11, rfl, env11⟩
  clear env10
  have hc0 := env11.cell0 (bb := bb) (oo := oo) (n := nb) (c := cb) (xs := lim B) (by simp) HBP.out
  rw [HY.out] at hc0
  go_wp2_with fail
  refine (dsmall_is env11 (va := (.slice Pa na ca)) (xs := lim A) (by simp) m hm1 Q5.out R5.out E5.out).mono ?_
  rintro e w12 ⟨q12, rfl, env12⟩
  clear env11 hc0
  have hc0 := env12.cell0 (bb := bb) (oo := oo) (n := nb) (c := cb) (xs := lim B) (by simp) HBP.out
  rw [HY.out] at hc0
  go_wp2_with fail
  refine (of3_env (env12.lit1 m (m : Int) rfl hm1)).mono ?_
  rintro e w13 ⟨rfl, env13⟩
  clear env12 hc0
  go_wp2_with fail
  refine (divmod_is env13 (va := (.slice Pa na ca)) (vb := (.slice (some ⟨w12.heap.size, 0, none⟩) 1 1)) (xs := lim A) (ys := [m]) (by simp) (by simp) Q6.out R6.out E6.out).mono ?_
  rintro e w14 ⟨q14, r14, rfl, env14⟩
  clear env13
  go_wp2_with fail
  refine (same3_yes env14 (va := q6) (vb := q8) (xs := lim (A / (B * C))) (ys := lim (A / (B * C))) (by simp) (by simp) rfl).mono ?_
  rintro e w15 ⟨rfl, env15⟩
  clear env14
  go_wp2_with fail
  refine (shr_is env15 (va := (.slice Pa na ca)) (xs := lim A) (by simp) HSR.out).mono ?_
  rintro e w16 ⟨r16, rfl, env16⟩
  clear env15
  go_wp2_with fail
  refine (same3_yes env16 (va := q11) (vb := r16) (xs := lim (A / 2 ^ k)) (ys := lim (A / 2 ^ k)) (by simp) (by simp) rfl).mono ?_
  rintro e w17 ⟨rfl, env17⟩
  clear env16
  go_wp2_with fail
  refine (same3_yes env17 (va := q12) (vb := q14) (xs := lim (A / m)) (ys := lim (A / m)) (by simp) (by simp) rfl).mono ?_
  rintro e w18 ⟨rfl, env18⟩
  clear env17
  go_wp2_with fail
  refine (of_is env18 mr (by omega) rfl).mono ?_
  rintro e w19 ⟨r19, rfl, env19⟩
  clear env18
  go_wp2_with fail
  refine (same3_yes env19 (va := r14) (vb := r19) (xs := lim mr) (ys := lim mr) (by simp) (by simp) rfl).mono ?_
  rintro e w20 ⟨rfl, env20⟩
  clear env19
  have HB := Lib.hid env20.1
  clear env20
  go_wp2
  go_ret
  exact ⟨rfl, HB.out⟩

theorem dtwice_law {Pa : Option Addr} {na ca : Nat} {Pb : Option Addr} {nb cb : Nat} {Pc : Option Addr} {nc cc : Nat} {xa xb xc : List Nat} (w : World) (ha : Arg w (.slice Pa na ca) xa) (hb : Arg w (.slice Pb nb cb) xb) (hc : Arg w (.slice Pc nc cc) xc) (k : Int) (hwf : (Lit.int .i64 k).wf = true) : Calls Try.prog 10 #[(.slice Pa na ca), (.slice Pb nb cb), (.slice Pc nc cc), .int .i64 (k : Int)] w (fun e w' => e = .returned (.bool true) ∧ Below w.heap.size w w') := by
  rcases Nat.lt_or_ge 200 xa.length with la | la
  · exact dtwice_longa w k ha hb hc la
  rcases Nat.lt_or_ge 100 xb.length with lb | lb
  · exact dtwice_longb w k ha hb hc la lb
  rcases Nat.lt_or_ge 100 xc.length with lc | lc
  · exact dtwice_longc w k ha hb hc la lb lc
  rcases Int.lt_or_le 3000 k with lk | lk
  · exact dtwice_longk w k ha hb hc la lb lc lk
  rcases ma : mayb xa with _ | _
  · exact dtwice_bada w k ha hb hc la lb lc lk ma
  rcases mb : mayb xb with _ | _
  · exact dtwice_badb w k ha hb hc la lb lc lk ma mb
  rcases mc : mayb xc with _ | _
  · exact dtwice_badc w k ha hb hc la lb lc lk ma mb mc
  rcases Nat.eq_zero_or_pos xb.length with hb0 | hb0
  · exact dtwice_zerob w k ha hb hc la lb lc lk ma mb mc hb0
  rcases Nat.eq_zero_or_pos xc.length with hc0 | hc0
  · exact dtwice_zeroc w k ha hb hc la lb lc lk ma mb mc hb0 hc0
  rcases Int.lt_or_le k 0 with hk0 | hk0
  · exact dtwice_negk w k ha hb hc la lb lc lk ma mb mc hb0 hc0 hk0
  obtain ⟨n, rfl⟩ := Int.eq_ofNat_of_zero_le hk0
  obtain ⟨A, rfl⟩ := may_limD ha.limbs ma
  obtain ⟨B, rfl⟩ := may_limD hb.limbs mb
  obtain ⟨C, rfl⟩ := may_limD hc.limbs mc
  have hB0 : 0 < B := by
    rcases Nat.eq_zero_or_pos B with h | h
    · subst h; rw [lim_zero] at hb0; simp at hb0
    · exact h
  have hC0 : 0 < C := by
    rcases Nat.eq_zero_or_pos C with h | h
    · subst h; rw [lim_zero] at hc0; simp at hc0
    · exact h
  exact dtwice_go w n ha hb hc la lb lc (by omega) hB0 hC0

end Go.Proofs.Ytidflhonhekmjaa

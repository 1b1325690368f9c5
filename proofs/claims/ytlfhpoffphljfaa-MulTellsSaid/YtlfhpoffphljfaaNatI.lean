/- Contract: Shl. -/
import Derived.Sort.QuietIn
import Derived.Test.YtlfhpoffphljfaaNatH
namespace Go.Proofs.Ytlfhpoffphljfaa
open Go.RowKit Go.Shelf

attribute [local go_sem] Oper.semAt_some

def sShl (xs : List Nat) (k : Int) : List Nat := if mayb xs && decide (0 ≤ k) then clip (val xs * 2 ^ k.toNat) else []

/-! ### the rounds, as a fold -/
def shlSum (xs : List Nat) (r c j : Nat) : Nat := xs[j]?.getD 0 * 2 ^ r + c
def shlStep (xs : List Nat) (r : Nat) (st : Nat × List Nat) (j : Fin xs.length) : Nat × List Nat := (shlSum xs r st.1 j.1 / 4294967296, st.2 ++ [shlSum xs r st.1 j.1 % 4294967296])
def shlTo (xs : List Nat) (r q : Nat) (pre : List (Fin xs.length)) : Nat × List Nat := pre.foldl (shlStep xs r) (0, List.replicate q 0)
theorem shlTo_snoc (xs : List Nat) (r q : Nat) (pre : List (Fin xs.length)) (j : Fin xs.length) : shlTo xs r q (pre ++ [j]) = shlStep xs r (shlTo xs r q pre) j := by simp [shlTo]
theorem pow31 {r : Nat} (hr : r < 32) : 2 ^ r ≤ 2147483648 := by
  have : (2 : Nat) ^ r ≤ 2 ^ 31 := Nat.pow_le_pow_right (by decide) (by omega)
  exact this
theorem shl_bound {a r c : Nat} (ha : a < 4294967296) (hr : r < 32) (hc : c ≤ 2147483648) : a * 2 ^ r + c ≤ 9223372036854775808 := by
  have h1 := pow31 hr
  have h2 : a * 2 ^ r ≤ 4294967295 * 2147483648 := Nat.mul_le_mul (by omega) h1
  omega
theorem shlTo_from {xs : List Nat} (hx : Limbs xs) {r : Nat} (hr : r < 32) : ∀ (pre : List (Fin xs.length)) (st : Nat × List Nat), st.1 ≤ 2147483648 → Limbs st.2 →
    (pre.foldl (shlStep xs r) st).1 ≤ 2147483648 ∧ Limbs (pre.foldl (shlStep xs r) st).2 ∧ (pre.foldl (shlStep xs r) st).2.length = st.2.length + pre.length
  | [], st, h, k => ⟨h, k, rfl⟩
  | j :: t, st, h, k => by
    have hb := shl_bound (hx.getD j.1) hr h
    have := shlTo_from hx hr t (shlStep xs r st j) (by unfold shlStep shlSum; show _ / 4294967296 ≤ _; omega) (by unfold shlStep; exact k.append (Limbs.one (Nat.mod_lt _ (by decide))))
    rw [List.foldl_cons]
    refine ⟨this.1, this.2.1, this.2.2.trans ?_⟩
    simp [shlStep]
    omega
theorem shlTo_ok {xs : List Nat} (hx : Limbs xs) {r : Nat} (hr : r < 32) (q : Nat) (pre : List (Fin xs.length)) : (shlTo xs r q pre).1 ≤ 2147483648 ∧ Limbs (shlTo xs r q pre).2 ∧ (shlTo xs r q pre).2.length = q + pre.length := by
  have := shlTo_from hx hr pre (0, List.replicate q 0) (by simp) (limbs_replicate q)
  simpa [shlTo] using this
theorem shlTo_val (xs : List Nat) (r q : Nat) : ∀ {k : Nat} (hk : k ≤ xs.length), val (shlTo xs r q (upTo k hk)).2 + 4294967296 ^ (q + k) * (shlTo xs r q (upTo k hk)).1 = 4294967296 ^ q * (2 ^ r * val (xs.take k)) ∧ (shlTo xs r q (upTo k hk)).2.length = q + k := by
  intro k
  induction k with
  | zero => intro _; simp [shlTo, upTo, val, val_replicate]
  | succ k ih =>
    intro hk
    obtain ⟨h1, h2⟩ := ih (Nat.le_of_lt hk)
    rw [upTo_succ hk, shlTo_snoc]
    generalize shlTo xs r q (upTo k (Nat.le_of_lt hk)) = st at h1 h2
    obtain ⟨c, out⟩ := st
    simp only [shlStep] at h1 h2 ⊢
    refine ⟨?_, by simp [h2]; omega⟩
    rw [val_snoc, h2, val_take_succ]
    have hs : shlSum xs r c k = xs[k]?.getD 0 * 2 ^ r + c := rfl
    have hd := Nat.mod_add_div (shlSum xs r c k) 4294967296
    generalize shlSum xs r c k = s at hs hd ⊢
    have e1 : 4294967296 ^ (q + (k + 1)) = 4294967296 ^ (q + k) * 4294967296 := by rw [← Nat.add_assoc, Nat.pow_succ]
    rw [e1, Nat.mul_assoc, Nat.add_assoc, ← Nat.mul_add, hd, hs, Nat.mul_add, Nat.mul_add (2 ^ r), Nat.mul_add (4294967296 ^ q), ← h1]
    have e2 : 4294967296 ^ (q + k) * (xs[k]?.getD 0 * 2 ^ r) = 4294967296 ^ q * (2 ^ r * (4294967296 ^ k * xs[k]?.getD 0)) := by
      rw [Nat.pow_add, Nat.mul_assoc]; congr 1; rw [Nat.mul_comm (xs[k]?.getD 0), ← Nat.mul_assoc, Nat.mul_comm (4294967296 ^ k), Nat.mul_assoc]
    rw [e2]
    omega
theorem shlTo_all (xs : List Nat) (k : Nat) : val ((shlTo xs (k % 32) (k / 32) (List.finRange xs.length)).2 ++ [(shlTo xs (k % 32) (k / 32) (List.finRange xs.length)).1]) = val xs * 2 ^ k := by
  obtain ⟨h1, h2⟩ := shlTo_val xs (k % 32) (k / 32) (Nat.le_refl xs.length)
  rw [upTo_all] at h1 h2
  rw [val_snoc, h2, h1, List.take_of_length_le (Nat.le_refl _)]
  have : (2 : Nat) ^ k = 4294967296 ^ (k / 32) * 2 ^ (k % 32) := by rw [show (4294967296 : Nat) = 2 ^ 32 from rfl, ← Nat.pow_mul, ← Nat.pow_add, Nat.div_add_mod]
  rw [this, ← Nat.mul_assoc, Nat.mul_comm (val xs)]
theorem shl_next {xs : List Nat} {pre : List (Fin xs.length)} {r q j a c : Nat} {out : List Nat} {hk : j < xs.length} (hA : shlTo xs r q (pre ++ [⟨j, hk⟩]) = shlStep xs r (shlTo xs r q pre) ⟨j, hk⟩)
    (h1 : (shlTo xs r q pre).1 = c) (h2 : (shlTo xs r q pre).2 = out) (h3 : xs[j]?.getD 0 = a) : shlTo xs r q (pre ++ [⟨j, hk⟩]) = ((a * 2 ^ r + c) / 4294967296, out ++ [(a * 2 ^ r + c) % 4294967296]) := by
  rw [hA]
  unfold shlStep shlSum
  rw [h1, h2, h3]

/-- a make of so many, with room for more -/
theorem make_rowN {P : Program} (t e : TypeId) (i : TypeInfo) (z : Value) (ht : P.underlying t = some (.slice e)) (hi : P.info? e = some i) (hz : i.zero = some z)
    (n c : Nat) (hnc : n ≤ c) (hbytes : i.bytes * c ≤ 281474976710656) (h63 : c ≤ 9223372036854775807) (w : World) :
    (Instr.makeSlice t (.int .i64 (n : Int)) (.int .i64 (c : Int))).run P w = .ok (.slice (some ⟨w.heap.size, 0, none⟩) n c) (w.alloc (.cells (madeCells z.cells (c * i.size)) e)) := by
  have hb : (i.bytes : Int) * (c : Int) ≤ 281474976710656 := by
    have h : ((i.bytes * c : Nat) : Int) ≤ 281474976710656 := by omega
    rwa [Int.natCast_mul] at h
  have hr := run_make (P := P) w t e i z ht hi hz .i64 .i64 n c (by omega) (by omega) hb (by omega)
  simp only [Int.toNat_natCast] at hr
  exact hr
theorem Rd.drewN {w : World} {B : Nat} {A : Option Addr} {xs : List Nat} (h : Rd w B A xs) (n : Nat) : Rd (w.drewN n) B A xs := h
/-- a piece of code that comes to one end alone -/
theorem wpIn_one {F : Fence} {n : Nat} {P : Program} {c : Code} {Q : Exit → Act → World → Prop} {a A : Act} {w w1 : World} (h : c.wpIn F n P (fun e a' w' => e = Exit.normal ∧ a' = A ∧ w' = w1) a w) (hq : Q .normal A w1) : c.wpIn F n P Q a w :=
  wpIn_mono h fun e a' w' ⟨h1, h2, h3⟩ => by subst h1 h2 h3; exact hq
theorem wpIn_of_wide {F : Fence} (hF : Hid (F = Fence.wide)) {n : Nat} {P : Program} {c : Code} {Q : Exit → Act → World → Prop} {a : Act} {w : World} (h : c.wp P Q a w) : c.wpIn F n P Q a w := by
  have := hF.out
  subst this
  exact wpIn_wide.2 h

set_option maxRecDepth 100000 in
set_option maxHeartbeats 4000000 in
theorem shl_loop (F : Fence) (n : Nat) (hF : Hid (F = Fence.wide)) (hro : F.round = none) (hn : 8 ≤ n) (A : Option Addr) (cap : Nat) (xs : List Nat) (k : Nat) (w : World) (hr : Rd w w.heap.size A xs)
    (hx : mayb xs = true) (h0 : 0 < xs.length) (hk : k + sBits xs ≤ 2097152) :
    CallsIn F n Try.prog 19 #[.slice A xs.length cap, .int .i64 (k : Int)] w fun e w' => (∃ v, e = .returned v ∧ Own w' w.heap.size v (clip (val xs * 2 ^ k))) ∧ Below w.heap.size w w' := by
  have h1 : 1 ≤ n := by omega
  have hxm := (mayb_iff.1 hx).1
  obtain ⟨i0, hi, hz0, hz1, hz2⟩ := info_parts info32
  have hB0 : Below w.heap.size w (w.alloc (.cells #[.int .i64 (k : Int)] 3)) := (Below.refl _ w).alloc (Nat.le_refl _) _
  have c1 := fun nn => may_yes cap ((hr.below hB0 (Nat.le_refl _)).drewN nn) (by unfold maxLen; omega) hx
  have c2 := fun nn => bits_any A cap xs _ _ ((hr.below hB0 (Nat.le_refl _)).drewN nn) (by unfold maxLen; omega)
  have hf36 := wide_fn hF 41
  have hf37 := wide_fn hF 42
  have hf42 := wide_fn hF 55
  have hz : (((xs.length : Nat) : Int) == 0) = false := beq_eq_false_iff_ne.2 (by omega)
  have hk0 : decide ((k : Int) < 0) = false := decide_eq_false (by omega)
  have hk1 : decide ((2097152 : Int) - (sBits xs : Nat) < (k : Int)) = false := decide_eq_false (by omega)
  refine callsIn_of_wp_marks Try.func19 rfl (wide_fn hF _) ?_ hro
  simp only [Try.ntmps19, List.size_toArray, List.length_cons, List.length_nil, Nat.reduceAdd, Nat.reduceSub, Array.replicate_succ, Array.replicate_zero, List.push_toArray, List.append_toArray, List.nil_append, List.cons_append]
  have HC1 := Lib.hid c1
  have HC2 := Lib.hid c2
  clear c1 c2
  gi_wp2_with fail
  refine wpIn_of_wide hF ?_
  go_quiet ((first | (go_at_call 23; exact Calls.quiet_of_same (HC1.out _)) | (go_at_call 21; exact Calls.quiet_of_same (HC2.out _))))
  obtain ⟨wB, hwB⟩ : ∃ wB, (w.alloc (.cells #[.int .i64 (k : Int)] 3)).drewN nq = wB := ⟨_, rfl⟩
  have hBB : Below w.heap.size w wB := by rw [← hwB]; exact ⟨hB0.os, hB0.tape, hB0.output, hB0.size, hB0.block⟩
  have bK : Boxed wB w.heap.size 3 (.int .i64 (k : Int)) := by rw [← hwB]; exact Boxed.new w _ _
  have hszB : wB.heap.size = w.heap.size + 1 := by rw [← hwB]; exact World.size_alloc _ _
  have hkc := bK.cell
  have hkle : k ≤ 2097152 := by omega
  have hmk := make_rowN (P := Try.prog) 26 28 i0 (.int .u32 0) Try.underlying26 hi hz0 (k / 32) (k / 32 + xs.length + 1) (by omega) (by rw [hz2]; omega) (by omega)
  have emk : (((k / 32 + xs.length + 1 : Nat)) : Int) = (k : Int) / 32 + xs.length + 1 := by omega
  have emk2 : (((k / 32 : Nat)) : Int) = (k : Int) / 32 := by omega
  rw [emk, emk2] at hmk
  clear emk emk2 HC1 HC2
  rw [hwB]
  clear hwB
  gi_wp2_with fail
  obtain ⟨w1, hw1⟩ : ∃ w1, wB.alloc (.cells (madeCells #[.int .u32 0] (k / 32 + xs.length + 1)) 28) = w1 := ⟨_, rfl⟩
  rw [hw1]
  have hs1 : w1.heap.size = w.heap.size + 1 + 1 := by rw [← hw1, World.size_alloc, hszB]
  have hB1 : Below w.heap.size w w1 := by rw [← hw1]; exact hBB.alloc (by omega) _
  have bK1 : Boxed w1 w.heap.size 3 (.int .i64 (k : Int)) := by rw [← hw1]; exact bK.alloc _
  have hown0 : w1.ownsRow w.heap.size 28 1 (.slice (some ⟨w.heap.size + 1, 0, none⟩) (k / 32) (k / 32 + xs.length + 1)) (List.replicate (k / 32) 0).length (u32s (List.replicate (k / 32) 0)) := by
    rw [← hw1]
    refine ⟨by simp [u32s], .inr ⟨w.heap.size + 1, k / 32 + xs.length + 1, madeCells #[.int .u32 0] (k / 32 + xs.length + 1), by simp, by omega, ?_, by simp; omega, by unfold maxLen; omega, by simp [size_madeCells], ?_⟩⟩
    · have := World.alloc_heap_new wB (.cells (madeCells #[.int .u32 0] (k / 32 + xs.length + 1)) 28)
      rwa [hszB] at this
    · rw [toList_madeCells_one, List.take_replicate]
      simp [u32s, lv]
      omega
  refine (limbs_in F _ hf36 hro _ _ _ _).mono ?_
  rintro e w' ⟨rfl, rfl⟩
  clear hw1 bK hmk hkc hszB hBB
  have bO := Boxed.new w1 26 (.slice (some ⟨w.heap.size + 1, 0, none⟩) (k / 32) (k / 32 + xs.length + 1))
  have bC := Boxed.new (w1.alloc (.cells #[.slice (some ⟨w.heap.size + 1, 0, none⟩) (k / 32) (k / 32 + xs.length + 1)] 26)) 23 (.int .u64 0)
  have bN := Boxed.new ((w1.alloc (.cells #[.slice (some ⟨w.heap.size + 1, 0, none⟩) (k / 32) (k / 32 + xs.length + 1)] 26)).alloc (.cells #[.int .u64 0] 23)) 26 (.slice A xs.length cap)
  simp only [World.size_alloc, hs1] at bO bC bN
  have hB3 : Below w.heap.size w (((w1.alloc (.cells #[.slice (some ⟨w.heap.size + 1, 0, none⟩) (k / 32) (k / 32 + xs.length + 1)] 26)).alloc (.cells #[.int .u64 0] 23)).alloc (.cells #[.slice A xs.length cap] 26)) :=
    ((hB1.alloc (by omega) _).alloc (by simp; omega) _).alloc (by simp; omega) _
  have hO := Lib.hid (((hown0.alloc (.cells #[.slice (some ⟨w.heap.size + 1, 0, none⟩) (k / 32) (k / 32 + xs.length + 1)] 26)).alloc (.cells #[.int .u64 0] 23)).alloc (.cells #[.slice A xs.length cap] 26))
  have hKx := Lib.hid (((bK1.alloc (.cells #[.slice (some ⟨w.heap.size + 1, 0, none⟩) (k / 32) (k / 32 + xs.length + 1)] 26)).alloc (.cells #[.int .u64 0] 23)).alloc (.cells #[.slice A xs.length cap] 26))
  have hOx := Lib.hid ((bO.alloc (.cells #[.int .u64 0] 23)).alloc (.cells #[.slice A xs.length cap] 26))
  have hCx := Lib.hid (bC.alloc (.cells #[.slice A xs.length cap] 26))
  have HS := Lib.hid hs1
  clear bK1 bO bC hown0 hs1
  gi_wp2_with fail
  refine wpIn_rangeFunc_ownG hro h1 (gf := 55) (lb := #[.pointer (some ⟨w.heap.size + 1 + 1 + 1 + 1, 0, none⟩)]) (by simp [HS.out]; rfl) hf42 (enters_of Try.func55 (by kernel_rfl) rfl)
    (limbs_stops F (n - 1) hf42 hro (by omega) (w.heap.size + 1 + 1 + 1 + 1) w.heap.size A cap xs (by unfold maxLen; omega) _ (by simp [HS.out]) (by simp [HS.out]; omega) bN.cell (hr.below hB3 (Nat.le_refl _))) belowK_t (belowK_b (by simp [HS.out]; omega)) (Below.refl _ _) (fun _ => rfl)
    (fun pre W => ((∃ v, Boxed W (w.heap.size + 1 + 1) 26 v ∧ W.ownsRow w.heap.size 28 1 v (shlTo xs (k % 32) (k / 32) pre).2.length (u32s (shlTo xs (k % 32) (k / 32) pre).2) ∧ True) ∧ Boxed W (w.heap.size + 1 + 1 + 1) 23 (.int .u64 ((shlTo xs (k % 32) (k / 32) pre).1 : Nat)) ∧ Boxed W w.heap.size 3 (.int .i64 (k : Int))) ∧ Below w.heap.size w W)
    (fun _ _ _ => False)
    (OwnFrom.and (OwnFrom.and (Own.from (holdsRow_own w.heap.size (w.heap.size + 1 + 1) 26 28 1 (fun pre => (shlTo xs (k % 32) (k / 32) pre).2.length) (fun pre => u32s (shlTo xs (k % 32) (k / 32) pre).2) (fun _ _ => True)) _)
      (OwnFrom.and (Own.from (boxed_own (w.heap.size + 1 + 1 + 1) 23 (fun pre => .int .u64 ((shlTo xs (k % 32) (k / 32) pre).1 : Nat))) _) (Own.from (boxed_own w.heap.size 3 (fun _ => .int .i64 (k : Int))) _)))
      (ownFrom_below (Nat.le_refl _) (by simp [HS.out]; omega)))
    (fun _ _ _ _ _ hs _ _ => hs)
    ⟨⟨⟨_, hOx.out, by simpa [shlTo] using hO.out, trivial⟩, hCx.out, hKx.out⟩, hB3⟩
    ?a₁ ?assign ?body ?done ?stop
  case assign =>
    intro l x W K hK
    gi_wp2
    exact hK
  case body =>
    rintro l pre ⟨j, hj⟩ W ⟨⟨⟨v, hv, hrow, _⟩, hcar, hbb⟩, hB⟩ hlt
    have hA := Lib.hid (shlTo_snoc xs (k % 32) (k / 32) pre ⟨j, hj⟩)
    have hok := shlTo_ok hr.limbs (r := k % 32) (by omega) (k / 32) pre
    have hxk := hr.limbs.getD j
    unfold tells
    dsimp only
    generalize hcc : (shlTo xs (k % 32) (k / 32) pre).1 = c at *
    generalize hoo : (shlTo xs (k % 32) (k / 32) pre).2 = out at *
    generalize haa : xs[j]?.getD 0 = a at *
    have HC := Lib.hid hcc
    have HO := Lib.hid hoo
    have HX := Lib.hid haa
    clear hcc hoo haa
    have hc1 := hcar.cell
    have hc2 := hcar.frozen
    have hb1 := hbb.cell
    have hv1 := hv.cell
    have hv2 := hv.frozen
    obtain ⟨ok1, ok2, ok3⟩ := hok
    have HOK := Lib.hid ok3
    have hol : out.length ≤ 131072 := by omega
    clear ok3 hx hr
    have hn := Lib.hid (shl_next hA.out HC.out HO.out HX.out)
    have t1 : IntKind.u64.wrap (a : Int) = a := IntWalk.u64_in _ (by omega)
    have hrl : k % 32 < 32 := by omega
    have t2 : ((k : Nat) : Int).tmod 32 = ((k % 32 : Nat) : Int) := by rw [Int.tmod_eq_emod_of_nonneg (by omega)]; omega
    generalize k % 32 = r at *
    have r0 : (0 : Int) ≤ r := by omega
    have t3 : (a : Int) * 2 ^ r = ((a * 2 ^ r : Nat) : Int) := by simp
    have hab := shl_bound hxk hrl ok1
    have hn' := hn.out
    generalize hm : a * 2 ^ r = m at *
    have HM := Lib.hid hm
    have HT := Lib.hid t3
    clear hm t3
    have t4 : IntKind.u64.wrap ((a : Int) * 2 ^ r) = (m : Int) := by rw [HT.out]; exact IntWalk.u64_in _ (by omega)
    have t5 : IntKind.u64.wrap ((m : Int) + (c : Int)) = (m : Int) + c := IntWalk.u64_in _ (by omega)
    have HN := Lib.hid hn'
    clear hn' hn
    gi_wp2_with fail
    apply wpIn_one (w1 := W.drew)
    case h =>
      gi_region
      all_goals exact ⟨rfl, rfl, rfl⟩
    clear t1 t2 t4 t5 hc1 hc2 hb1 hv1 hv2
    obtain ⟨Wd, hWd⟩ : ∃ Wd, W.drew = Wd := ⟨_, rfl⟩
    rw [hWd]
    have hkd : KeepsOthers W Wd := by rw [← hWd]; exact KeepsOthers.drew _
    have hbd : Below w.heap.size W Wd := by rw [← hWd]; exact (Below.refl _ W).drew
    replace hv : Boxed Wd (w.heap.size + 1 + 1) 26 v := by rw [← hWd]; exact hv
    replace hrow : Wd.ownsRow w.heap.size 28 1 v out.length (u32s out) := by rw [← hWd]; exact hrow
    replace hcar : Boxed Wd (w.heap.size + 1 + 1 + 1) 23 (.int .u64 (c : Nat)) := by rw [← hWd]; exact hcar
    replace hbb : Boxed Wd w.heap.size 3 (.int .i64 (k : Int)) := by rw [← hWd]; exact hbb
    replace hB : Below w.heap.size w Wd := hB.trans hbd
    clear hWd
    have hc1 := hcar.cell
    have hc2 := hcar.frozen
    have hv1 := hv.cell
    have hv2 := hv.frozen
    have e1 := Lib.hid (show (((m : Int) + c) % 4294967296 : Int) = (((m + c) % 4294967296 : Nat) : Int) from by omega)
    have e2 := Lib.hid (show (((m : Int) + c) / 4294967296 : Int) = (((m + c) / 4294967296 : Nat) : Int) from by omega)
    gi_wp2_with (gi_at_builtin; refine wpListIn_append_own _ rfl _ _ 26 rfl w.heap.size 28 i0 (.int .u32 0) 1 4 Try.underlying26 hi hz0 hz1 hz2 rfl (by decide) _ _ _ rfl (hrow.alloc _) ⟨Wd.heap.size, 0, none⟩ 1 1 [_] rfl rfl (cell_one_new _ _ _) (by simp [Value.oneCell']) (by unfold maxLen; omega) (by omega) (by have := hB.size; simp; omega) ?_; intro v' w2 hown' hgrow hgone; clear hgone; obtain ⟨g', cap', rfl⟩ := ownsRow_succ hown'; obtain ⟨b1, b2, b3⟩ := round_kept hv hrow hcar (by decide) (by decide) hB.size (by omega) (by omega) (by omega) hown' hgrow; have q1 := b1.cell; have q2 := b1.frozen; have q3 := b2.cell; have q4 := b2.frozen)
    refine ⟨(hkd.trans (b3 _).1).from _, hbd.trans (b3 _).2.1, ⟨⟨⟨_, (b3 _).2.2.1, ?_, trivial⟩, ?_, round_box hbb hrow (by decide) (by omega) (by omega) hgrow⟩, hB.trans (b3 _).2.1⟩⟩
    · have h := (b3 (.int .u64 (((m : Int) + c) / 4294967296))).2.2.2.1
      rw [HN.out, u32s_snoc, ← e1.out]
      simpa using h
    · have h := (b3 (.int .u64 (((m : Int) + c) / 4294967296))).2.2.2.2
      rw [HN.out, ← e2.out]
      exact h
  case done =>
    rintro D ys' W hD rfl ⟨⟨⟨v, hv, hrow, _⟩, hcar, _⟩, hB⟩ hK
    have hok := shlTo_ok hr.limbs (r := k % 32) (by omega) (k / 32) (List.finRange xs.length)
    have hval := shlTo_all xs k
    generalize (shlTo xs (k % 32) (k / 32) (List.finRange xs.length)).1 = c at *
    generalize (shlTo xs (k % 32) (k / 32) (List.finRange xs.length)).2 = out at *
    obtain ⟨ok1, ok2, ok3⟩ := hok
    have hol : out.length ≤ 131072 := by rw [ok3]; simp; omega
    have HV := Lib.hid hval
    have hlz : Limbs (out ++ [c]) := ok2.append (Limbs.one (by omega))
    have hc1 := hcar.cell
    have hv1 := hv.cell
    have hDs : w.heap.size ≤ D := by simp [HS.out] at hD; omega
    clear ok3 hval hx hk0 hk1 hz
    gi_wp2_with (gi_at_builtin; refine wpListIn_append_own _ rfl _ _ 26 rfl w.heap.size 28 i0 (.int .u32 0) 1 4 Try.underlying26 hi hz0 hz1 hz2 rfl (by decide) _ _ _ rfl (hrow.alloc _) ⟨W.heap.size, 0, none⟩ 1 1 [_] rfl rfl (cell_one_new _ _ _) (by simp [Value.oneCell']) (by unfold maxLen; omega) (by omega) (by have := hB.size; simp; omega) ?_; intro v' w2 hown' hgrow hgone; clear hgone; obtain ⟨g', cap', rfl⟩ := ownsRow_succ hown')
    have hown2 : w2.ownsRow w.heap.size 28 1 (.slice (some ⟨g', 0, none⟩) (out.length + 1) cap') (out.length + 1) (u32s (out ++ [c])) := by rw [u32s_snoc]; exact hown'
    obtain ⟨hk2, hb2⟩ := appended_plain hrow hB.size hgrow
    have hK2 := hk2.same D _ hK rfl
    refine (wided hF (tidy_own hown2 hlz)).mono ?_
    rintro e w' ⟨⟨v', rfl, hv'⟩, hww⟩
    subst hww
    clear hown' hgrow hown2
    gi_wp2
    refine ⟨by simp, .inl ⟨_, _, rfl, run_takeDeferred hK2, ?_⟩⟩
    refine ⟨_, results_tmp rfl _ _ _, ⟨v', rfl, ?_⟩, (hB.trans hb2).trans (belowK_b (w := w) (Nat.le_refl _) _ D _ _ hDs hK2 rfl rfl)⟩
    rw [HV.out] at hv'
    exact ownsRow_putObj hv' _ hK2 rfl
  case stop =>
    rintro D c pre W _ _ h _
    exact h.elim

end Go.Proofs.Ytlfhpoffphljfaa

/- Contract: limbs, by places; Shr. -/
import Derived.Test.YtlfhpoffphljfaaNatJ
namespace Go.Proofs.Ytlfhpoffphljfaa
open Go.RowKit Go.Shelf

attribute [local go_sem] Oper.semAt_some

/-- What round k is told. -/
def tellAt (xs : List Nat) (k : Nat) : Array Value := #[.int .i64 (k : Int), .int .u32 ((xs[k]?.getD 0 : Nat) : Int)]

set_option maxRecDepth 100000 in
set_option maxHeartbeats 2000000 in
theorem limbs2_in (F : Fence) (n : Nat) (h8 : F.fn 55) (hro : F.round = none) (hn : 1 ≤ n) (l Bs n₀ b off cap len : Nat) (xs : List Nat) (hlen : Hid (len = xs.length)) (hreach : len ≤ maxLen) (hlim : Limbs xs) (hb : b < n₀) (J : Nat → World → Prop)
    (hY : ∀ k W, J k W → k < len → YieldAt F (n - 1) Try.prog l (tellAt xs k) W fun e W' => e = .returned (.bool true) ∧ J (k + 1) W' ∧ Below n₀ W W')
    (W : World) (hBs : W.cell? ⟨Bs, 0, none⟩ = some (.slice (some ⟨b, off, none⟩) len cap)) (hc : ∀ j, j < len → W.cell? ⟨b, off + j, none⟩ = some (.int .u32 ((xs[j]?.getD 0 : Nat) : Int))) (h0 : J 0 W) :
    CallsIn F n Try.prog 55 #[.func (.yield l) #[] #[], .pointer (some ⟨Bs, 0, none⟩)] W fun e W' => (∃ v, e = .returned v) ∧ J len W' := by
  unfold maxLen at hreach
  refine callsIn_of_wp Try.func55 rfl h8 ?_ hro
  simp only [Try.ntmps55, List.size_toArray, List.length_cons, List.length_nil, Nat.reduceAdd, Nat.reduceSub, Array.replicate_succ, Array.replicate_zero, List.push_toArray, List.append_toArray, List.nil_append, List.cons_append]
  gi_wp2
  gi_loopw [7] (fun i wr => ∃ (k : Nat), k ≤ len ∧ i = .int .i64 k ∧ J k wr ∧ Below n₀ W wr)
    (fun i _ => len - (intOf i).toNat)
  case atStart => exact ⟨0, Nat.zero_le _, rfl, h0, Below.refl _ _⟩
  case round =>
    obtain ⟨k, hk, rfl, hJs, hnx⟩ := hrel
    have hcx : k < len → wr.cell? ⟨b, off + k, none⟩ = some (.int .u32 ((xs[k]?.getD 0 : Nat) : Int)) := fun h => (hnx.cell (p := ⟨b, off + k, none⟩) hb).trans (hc k h)
    by_cases hlt : k < len
    · obtain ⟨fn, tmps, assign, body, hy, hR⟩ := hY k wr hJs hlt
      unfold tellAt at hy
      have hcx' := hcx hlt
      have hl := hlim.getD k
      gi_wp2
      refine hR.mono ?_
      rintro e W3 ⟨rfl, hJ3, hk3⟩
      gi_wp2
      go_roundw
      case rel => exact ⟨k + 1, by omega, by simp, hJ3, hnx.trans hk3⟩
      case measure => simp [intOf]; omega
    · obtain rfl : k = len := by omega
      gi_wp2
      go_end0
      exact ⟨⟨_, rfl⟩, hJs⟩

set_option maxRecDepth 100000 in
set_option maxHeartbeats 1000000 in
theorem limbs2_nil_in (F : Fence) (n : Nat) (h8 : F.fn 55) (hro : F.round = none) (l Bs : Nat) (A : Option Addr) (cap : Nat) (J : Nat → World → Prop) (W : World) (hBs : W.cell? ⟨Bs, 0, none⟩ = some (.slice A 0 cap)) (h0 : J 0 W) :
    CallsIn F n Try.prog 55 #[.func (.yield l) #[] #[], .pointer (some ⟨Bs, 0, none⟩)] W fun e W' => (∃ v, e = .returned v) ∧ J 0 W' := by
  refine callsIn_of_wp Try.func55 rfl h8 ?_ hro
  simp only [Try.ntmps55, List.size_toArray, List.length_cons, List.length_nil, Nat.reduceAdd, Nat.reduceSub, Array.replicate_succ, Array.replicate_zero, List.push_toArray, List.append_toArray, List.nil_append, List.cons_append]
  gi_wp2
  gi_loopw [7] (fun i wr => i = .int .i64 0 ∧ J 0 wr) (fun _ _ => 0)
  case atStart => exact ⟨rfl, h0⟩
  case round =>
    obtain ⟨rfl, hJs⟩ := hrel
    gi_wp2
    go_end0
    exact ⟨⟨_, rfl⟩, hJs⟩

theorem limbs_at (F : Fence) (n : Nat) (h8 : F.fn 55) (hro : F.round = none) (hn : 1 ≤ n) (Bs n₀ : Nat) (A : Option Addr) (cap : Nat) (xs : List Nat) (hreach : xs.length ≤ maxLen) (w : World) (hBs : Bs < w.heap.size) (hn₀ : n₀ ≤ w.heap.size)
    (hc : w.cell? ⟨Bs, 0, none⟩ = some (.slice A xs.length cap)) (hI : Rd w n₀ A xs) :
    TellsAt F n Try.prog 55 #[.pointer (some ⟨Bs, 0, none⟩)] (tellAt xs) xs.length n₀ w := fun l J W hW hY h0 => by
  have hc' := (hW.cell (p := ⟨Bs, 0, none⟩) hBs).trans hc
  have hI' := hI.below (hW.mono hn₀) (Nat.le_refl _)
  rcases Nat.eq_zero_or_pos xs.length with h | h
  · rw [h] at hc' ⊢
    exact limbs2_nil_in F n h8 hro l Bs A cap J W hc' h0
  · obtain ⟨b, off, rfl, hb, hcs⟩ := hI'.2 h
    exact limbs2_in F n h8 hro hn l Bs n₀ b off cap xs.length xs rfl hreach hI.limbs hb J hY W hc' hcs h0

/-! ### Shr -/
def sShr (xs : List Nat) (k : Int) : List Nat := if mayb xs && decide (0 ≤ k) then lim (val xs / 2 ^ k.toNat) else []

/-- What out is when i rounds are over. -/
def ShrOk (ys : List Nat) (r i : Nat) (out : List Nat) : Prop := Limbs out ∧ out.length = i ∧ val out = val (ys.take i) / 2 ^ r ∧ (0 < i → out[i - 1]?.getD 0 < 2 ^ (32 - r))

theorem pow32 {r : Nat} (hr : r < 32) : 2 ^ r * 2 ^ (32 - r) = 4294967296 := by rw [← Nat.pow_add, show r + (32 - r) = 32 from by omega]
theorem shr_zero (ys : List Nat) (r : Nat) : ShrOk ys r 0 [] := ⟨limbs_nil, rfl, by simp [val], fun h => by omega⟩
theorem shr_hi {y r : Nat} (hr : r < 32) : y * 2 ^ (32 - r) / 4294967296 = y / 2 ^ r := by
  rw [← pow32 hr, Nat.mul_div_mul_right _ _ (Nat.two_pow_pos _)]
theorem shr_first {ys : List Nat} {r : Nat} (hr : r < 32) (hy : Limbs ys) : ShrOk ys r 1 [ys[0]?.getD 0 / 2 ^ r] := by
  have h := hy.getD 0
  have hle : ys[0]?.getD 0 / 2 ^ r ≤ ys[0]?.getD 0 := Nat.div_le_self _ _
  refine ⟨Limbs.one (by omega), rfl, ?_, fun _ => ?_⟩
  · rw [val_take_succ]; simp [val]
  · simp only [Nat.sub_self, List.getElem?_cons_zero, Option.getD_some]
    exact (Nat.div_lt_iff_lt_mul (Nat.two_pow_pos r)).2 (by rw [Nat.mul_comm, pow32 hr]; exact h)
theorem val_set {xs : List Nat} {i x : Nat} (hi : i < xs.length) : val (xs.set i x) + 4294967296 ^ i * xs[i]?.getD 0 = val xs + 4294967296 ^ i * x := by
  induction xs generalizing i with
  | nil => simp at hi
  | cons y r ih =>
    cases i with
    | zero => simp [val]; omega
    | succ i =>
      have := ih (i := i) (by simpa using hi)
      simp only [List.set_cons_succ, val, List.getElem?_cons_succ]
      have h2 := congrArg (4294967296 * ·) this
      simp only [Nat.mul_add, ← Nat.mul_assoc, Nat.mul_comm 4294967296 (4294967296 ^ i)] at h2
      rw [Nat.pow_succ]
      omega
theorem Limbs.set {xs : List Nat} (h : Limbs xs) (i : Nat) {x : Nat} (hx : x < 4294967296) : Limbs (xs.set i x) := fun y hy => by
  rcases List.mem_or_eq_of_mem_set hy with h' | rfl
  · exact h y h'
  · exact hx
/-- the part below, added in, fits -/
theorem shr_fits {t y r : Nat} (hr : r < 32) (ht : t < 2 ^ (32 - r)) : t + y * 2 ^ (32 - r) % 4294967296 < 4294967296 := by
  rw [← pow32 hr, Nat.mul_mod_mul_right]
  have h1 : y % 2 ^ r < 2 ^ r := Nat.mod_lt _ (Nat.two_pow_pos r)
  have h2 : (y % 2 ^ r + 1) * 2 ^ (32 - r) ≤ 2 ^ r * 2 ^ (32 - r) := Nat.mul_le_mul_right _ h1
  rw [Nat.add_mul, Nat.one_mul] at h2
  omega
theorem shr_next {ys out : List Nat} {r i y t : Nat} (hr : r < 32) (h : ShrOk ys r (i + 1) out) (hy : ys[i + 1]?.getD 0 = y) (hyl : y < 4294967296) (ht : out[i]?.getD 0 = t) :
    ShrOk ys r (i + 2) (out.set i (t + y * 2 ^ (32 - r) % 4294967296) ++ [y / 2 ^ r]) := by
  obtain ⟨h1, h2, h3, h4⟩ := h
  have htl : t < 2 ^ (32 - r) := by rw [← ht]; exact h4 (by omega)
  have hf := shr_fits (y := y) hr htl
  have hhi : y / 2 ^ r < 4294967296 := Nat.lt_of_le_of_lt (Nat.div_le_self _ _) hyl
  refine ⟨(h1.set i hf).append (Limbs.one hhi), by simp [h2], ?_, fun _ => ?_⟩
  · have hs := val_set (xs := out) (i := i) (x := t + y * 2 ^ (32 - r) % 4294967296) (by omega)
    rw [ht, Nat.mul_add] at hs
    rw [val_snoc, List.length_set, h2]
    have e : val (List.take (i + 2) ys) = val (List.take (i + 1) ys) + 2 ^ r * (4294967296 ^ i * (y * 2 ^ (32 - r))) := by
      rw [val_take_succ, hy]
      congr 1
      rw [Nat.pow_succ, ← pow32 hr]
      generalize (2 ^ r * 2 ^ (32 - r)) ^ i = p
      rw [Nat.mul_comm (2 ^ r) (p * _), Nat.mul_assoc, Nat.mul_assoc p, Nat.mul_comm (y * _), ← Nat.mul_assoc (2 ^ r), Nat.mul_comm (2 ^ r) y, Nat.mul_assoc, Nat.mul_assoc]
      congr 1
      rw [Nat.mul_comm (2 ^ (32 - r)) y, ← Nat.mul_assoc, Nat.mul_comm (2 ^ r) y, Nat.mul_assoc]
    rw [e, Nat.add_mul_div_left _ _ (Nat.two_pow_pos r), ← h3]
    have hw := Nat.mod_add_div (y * 2 ^ (32 - r)) 4294967296
    rw [shr_hi hr] at hw
    have h5 : 4294967296 ^ i * (y * 2 ^ (32 - r)) = 4294967296 ^ i * (y * 2 ^ (32 - r) % 4294967296) + 4294967296 ^ (i + 1) * (y / 2 ^ r) := by
      conv => lhs; rw [← hw]
      rw [Nat.mul_add, Nat.pow_succ, Nat.mul_assoc]
    omega
  · rw [show i + 2 - 1 = i + 1 from rfl, List.getElem?_append_right (by simp [h2]), List.length_set, h2]
    simp only [Nat.sub_self, List.getElem?_cons_zero, Option.getD_some]
    exact (Nat.div_lt_iff_lt_mul (Nat.two_pow_pos r)).2 (by rw [Nat.mul_comm, pow32 hr]; exact hyl)
theorem val_drop {xs : List Nat} (h : Limbs xs) {q : Nat} (hq : q ≤ xs.length) : val (xs.drop q) = val xs / 4294967296 ^ q := by
  have h1 := val_lt (h.take q)
  rw [List.length_take, Nat.min_eq_left hq] at h1
  rw [val_split xs q, Nat.min_eq_left hq, Nat.add_mul_div_left _ _ (Nat.pow_pos (by decide)), Nat.div_eq_of_lt h1, Nat.zero_add]
theorem shr_all {xs out : List Nat} (h : Limbs xs) {k : Nat} (hk : k / 32 ≤ xs.length) (ho : ShrOk (xs.drop (k / 32)) (k % 32) (xs.drop (k / 32)).length out) : val out = val xs / 2 ^ k := by
  rw [ho.2.2.1, List.take_of_length_le (Nat.le_refl _), val_drop h hk, Nat.div_div_eq_div_mul]
  congr 1
  rw [show (4294967296 : Nat) = 2 ^ 32 from rfl, ← Nat.pow_mul, ← Nat.pow_add, Nat.div_add_mod]

end Go.Proofs.Ytlfhpoffphljfaa

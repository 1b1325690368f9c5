/- Several texts in one. -/
import Derived.Test.YtileljokijmpaaaDoorPackN
import Derived.Laws.AppendOwnNone
import Derived.Deep.MidRow

/- NatSums: the law's walk. -/
namespace Go.Proofs.YtileljokijmpaaaDoor
open Go.RowKit

theorem sum_fits {n m k : Nat} (h1 : n < 4294967296 ^ k) (h2 : m < 4294967296 ^ k) : (lim (n + m)).length ≤ k + 1 := by
  rw [lim_length_le, Nat.pow_succ]
  omega
theorem val_pow {xs : List Nat} (h : Limbs xs) {k : Nat} (hl : xs.length ≤ k) : val xs < 4294967296 ^ k := Nat.lt_of_lt_of_le (val_lt h) (Nat.pow_le_pow_right (by decide) hl)
theorem sum_fits2 {xs ys : List Nat} (hx : Limbs xs) (hy : Limbs ys) {k : Nat} (h1 : xs.length ≤ k) (h2 : ys.length ≤ k) : (lim (val xs + val ys)).length ≤ k + 1 := sum_fits (val_pow hx h1) (val_pow hy h2)

end Go.Proofs.YtileljokijmpaaaDoor

/- NatShifts: the law's walk. -/
namespace Go.Proofs.YtileljokijmpaaaDoor
open Go.RowKit

set_option linter.unusedVariables false

theorem shl_fits {xs : List Nat} (hx : Limbs xs) {k : Nat} (hl : xs.length ≤ 2000) (hk : k ≤ 10000) : (lim (val xs * 2 ^ k)).length ≤ 65536 := by
  rw [lim_len_blen]
  by_cases h0 : val xs = 0
  · rw [h0, Nat.zero_mul]; exact Nat.zero_le _
  · have h2 := blen_shift (n := val xs) (r := 0) (k := k) h0 (Nat.two_pow_pos k)
    rw [Nat.add_zero] at h2
    rw [h2]
    have h3 : blen (val xs) ≤ 32 * xs.length := blen_le.2 (by rw [Nat.pow_mul]; exact val_lt hx)
    omega
theorem le_fits {xs : List Nat} (hx : Limbs xs) (hm : mayb xs = true) {n : Nat} (h : n ≤ val xs) : (lim n).length ≤ 65536 :=
  Nat.le_trans (lim_length_le.2 (Nat.lt_of_le_of_lt h (val_lt hx))) (mayb_iff.1 hm).1

end Go.Proofs.YtileljokijmpaaaDoor

/- NatWhole: the law's walk. -/
namespace Go.Proofs.YtileljokijmpaaaDoor
open Go.RowKit

set_option linter.unusedVariables false


/-- the sum of 2^j over the bits below k -/
def part (xs : List Nat) (k : Nat) : List Nat := lim (val xs % 2 ^ k)
theorem pow_fits {k : Nat} (h : k ≤ 2000) : (lim (2 ^ k)).length ≤ 65536 := by
  rw [lim_len_blen]
  have : blen (2 ^ k) ≤ k + 1 := blen_le.2 (Nat.pow_lt_pow_right (by decide) (by omega))
  omega
theorem shl_one {k : Nat} (h : k ≤ 2000) : sShl [1] (k : Int) = lim (2 ^ k) := by
  rw [sShl_yes (by decide), show val [1] = 1 from rfl, Nat.one_mul, clip_of (pow_fits h)]
theorem part_next {xs : List Nat} (hx : Limbs xs) (hm : mayb xs = true) {k : Nat} (hk : k ≤ 2000) (hb : (val xs).testBit k = true) : sAdd (part xs k) (lim (2 ^ k)) = part xs (k + 1) := by
  have e : val xs % 2 ^ (k + 1) = val xs % 2 ^ k + 2 ^ k := by
    rw [Nat.testBit_eq_decide_div_mod_eq] at hb
    have hb' : val xs / 2 ^ k % 2 = 1 := by simpa using hb
    rw [Nat.pow_succ, Nat.mod_mul, hb', Nat.mul_one]
  have h1 := mayb_lim (le_fits hx hm (Nat.mod_le (val xs) (2 ^ k)))
  have h2 := mayb_lim (le_fits hx hm (Nat.mod_le (val xs) (2 ^ (k + 1))))
  unfold part
  exact sAdd_eq h1 (mayb_lim (pow_fits hk)) h2 (lim_limbs _) (by rw [val_lim, val_lim, val_lim, e])
theorem part_same {xs : List Nat} {k : Nat} (hb : (val xs).testBit k = false) : part xs (k + 1) = part xs k := by
  have e : val xs % 2 ^ (k + 1) = val xs % 2 ^ k := by
    rw [Nat.testBit_eq_decide_div_mod_eq] at hb
    have hb' : val xs / 2 ^ k % 2 = 0 := by
      have : ¬ val xs / 2 ^ k % 2 = 1 := by simpa using hb
      omega
    rw [Nat.pow_succ, Nat.mod_mul, hb']; omega
  unfold part
  rw [e]
theorem part_all {xs : List Nat} (hx : Limbs xs) (hm : mayb xs = true) : part xs (sBits xs) = xs := by
  unfold part
  rw [sBits_yes hm, Nat.mod_eq_of_lt (blen_le.1 (Nat.le_refl _)), lim_val (mayb_canon hx hm)]
theorem part_zero (xs : List Nat) : part xs 0 = [] := by
  unfold part
  rw [Nat.pow_zero, Nat.mod_one, lim_zero]
theorem sBit_nat (xs : List Nat) (k : Nat) (hm : mayb xs = true) : sBit xs (k : Int) = (val xs).testBit k := by
  unfold sBit
  rw [hm, decide_eq_true (by omega)]
  simp

end Go.Proofs.YtileljokijmpaaaDoor

/- Contracts of the document's own answers of layer 1: May, Cmp, at, cut, Of, Low. -/
namespace Go.Proofs.YtileljokijmpaaaDoor
open Go.RowKit

set_option linter.unusedVariables false

set_option maxHeartbeats 400000 in
theorem rmay_any (A : Option Addr) (cap : Nat) (xs : List Nat) (w : World) (B : Nat) (hr : Rd w B A xs) (hle : xs.length ≤ maxLen) :
    Calls Tryd.prog 36 #[.slice A xs.length cap] w fun e w' => e = .returned (.bool (mayb xs)) ∧ w' = w := by
  unfold maxLen at hle
  rcases Nat.eq_zero_or_pos xs.length with h0 | h0
  · have : xs = [] := List.eq_nil_of_length_eq_zero h0
    subst this
    go_enter Tryd.func36, Tryd.ntmps36
    go_wp2
    go_ret
    exact ⟨by simp [mayb], rfl⟩
  · obtain ⟨b, off, rfl, hlt, hc⟩ := hr.2 h0
    have hcl := hc (xs.length - 1) (by omega)
    have hl := hr.limbs.getD (xs.length - 1)
    have hM := Lib.hid (mayb_pos h0)
    clear hc
    have hz0 : (((xs.length : Nat) : Int) == 0) = false := beq_eq_false_iff_ne.2 (by omega)
    by_cases h1 : xs.length ≤ 65536
    · go_enter Tryd.func36, Tryd.ntmps36
      go_wp2
      go_ret
      exact ⟨ret_bool (by rw [hM.out, Bool.eq_iff_iff]; simp [h1]; omega), rfl⟩
    · go_enter Tryd.func36, Tryd.ntmps36
      go_wp2
      go_ret
      exact ⟨ret_bool (by rw [hM.out]; simp [h1]), rfl⟩
theorem rmay_is {A : Option Addr} (cap : Nat) {xs : List Nat} {w : World} {B : Nat} (hr : Rd w B A xs) (hle : xs.length ≤ maxLen) {b : Bool} (h : mayb xs = b) :
    Calls Tryd.prog 36 #[.slice A xs.length cap] w fun e w' => e = .returned (.bool b) ∧ w' = w := by
  have := rmay_any A cap xs w B hr hle
  rwa [h] at this

/-! ### at, cut, Of -/
end Go.Proofs.YtileljokijmpaaaDoor

/- Contracts of the document's own answers of layer 1: Add, Sub, Low. -/
namespace Go.Proofs.YtileljokijmpaaaDoor
open Go.RowKit

set_option linter.unusedVariables false

/-- after k rounds of a sum -/
def AddOk (xs ys : List Nat) (k c : Nat) (O : List Nat) : Prop := Limbs O ∧ O.length = k ∧ c ≤ 1 ∧ val O + 4294967296 ^ k * c = val (xs.take k) + val (ys.take k)
theorem addOk_zero (xs ys : List Nat) : AddOk xs ys 0 0 [] := ⟨limbs_nil, rfl, by decide, by simp [val]⟩
theorem addOk_next {xs ys O : List Nat} {k c x y : Nat} (h : AddOk xs ys k c O) (hx : xs[k]?.getD 0 = x) (hy : ys[k]?.getD 0 = y) (hxl : x < 4294967296) (hyl : y < 4294967296) : AddOk xs ys (k + 1) ((x + y + c) / 4294967296) (O ++ [(x + y + c) % 4294967296]) := by
  obtain ⟨h1, h2, h3, h4⟩ := h
  refine ⟨h1.append (Limbs.one (Nat.mod_lt _ (by decide))), by simp [h2], by omega, ?_⟩
  rw [val_snoc, h2, val_take_succ, val_take_succ, hx, hy]
  have hd := Nat.mod_add_div (x + y + c) 4294967296
  generalize hs : x + y + c = s at hd ⊢
  rw [Nat.pow_succ, Nat.mul_assoc, Nat.add_assoc, ← Nat.mul_add, hd, ← hs, Nat.mul_add, Nat.mul_add]
  omega
theorem addOk_all {xs ys O : List Nat} {M c : Nat} (hx : Limbs xs) (hy : Limbs ys) (h : AddOk xs ys (M + 1) c O) (h1 : xs.length ≤ M) (h2 : ys.length ≤ M) : val O = val xs + val ys := by
  obtain ⟨_, _, h3, h4⟩ := h
  rw [List.take_of_length_le (Nat.le_succ_of_le h1), List.take_of_length_le (Nat.le_succ_of_le h2)] at h4
  have a := val_pow hx h1
  have b := val_pow hy h2
  rw [Nat.pow_succ] at h4
  generalize 4294967296 ^ M = p at *
  have hc : c = 0 ∨ c = 1 := by omega
  rcases hc with rfl | rfl
  · rw [Nat.mul_zero] at h4; exact h4
  · rw [Nat.mul_one] at h4; omega

/-- after k rounds of a difference -/
def SubOk (xs ys : List Nat) (k c : Nat) (O : List Nat) : Prop := Limbs O ∧ O.length = k ∧ c ≤ 1 ∧ val O + val (ys.take k) = val (xs.take k) + 4294967296 ^ k * c
theorem subOk_zero (xs ys : List Nat) : SubOk xs ys 0 0 [] := ⟨limbs_nil, rfl, by decide, by simp [val]⟩
theorem subOk_next {xs ys O : List Nat} {k c x y : Nat} (h : SubOk xs ys k c O) (hx : xs[k]?.getD 0 = x) (hy : ys[k]?.getD 0 = y) (hxl : x < 4294967296) (hyl : y < 4294967296) : SubOk xs ys (k + 1) (1 - (4294967296 + x - y - c) / 4294967296) (O ++ [(4294967296 + x - y - c) % 4294967296]) := by
  obtain ⟨h1, h2, h3, h4⟩ := h
  refine ⟨h1.append (Limbs.one (Nat.mod_lt _ (by decide))), by simp [h2], by omega, ?_⟩
  rw [val_snoc, h2, val_take_succ, val_take_succ, hx, hy]
  have hd : (4294967296 + x - y - c) % 4294967296 + y + c = x + 4294967296 * (1 - (4294967296 + x - y - c) / 4294967296) := by omega
  generalize (4294967296 + x - y - c) % 4294967296 = m at hd ⊢
  generalize 1 - (4294967296 + x - y - c) / 4294967296 = q at hd ⊢
  have := congrArg (4294967296 ^ k * ·) hd
  simp only [Nat.mul_add] at this
  rw [Nat.pow_succ, Nat.mul_assoc]
  omega
theorem subOk_all {xs ys O : List Nat} {c : Nat} (h : SubOk xs ys xs.length c O) (hl : ys.length ≤ xs.length) (hv : val ys ≤ val xs) : val O = val xs - val ys := by
  obtain ⟨h1, h2, h3, h4⟩ := h
  rw [List.take_of_length_le (Nat.le_refl _), List.take_of_length_le hl] at h4
  have hlt := val_lt h1
  rw [h2] at hlt
  have hc : c = 0 ∨ c = 1 := by omega
  rcases hc with rfl | rfl
  · omega
  · rw [Nat.mul_one] at h4; omega

theorem own_formR {w : World} {B : Nat} {e : TypeId} {v : Value} {n : Nat} {xs : List Value} (h : w.ownsRow B e 1 v n xs) : ∃ A cap, v = .slice A n cap := by
  rcases h.2 with ⟨rfl, h0⟩ | ⟨g, cap, cur, rfl, _⟩
  · exact ⟨none, 0, by rw [h0]⟩
  · exact ⟨_, cap, rfl⟩

end Go.Proofs.YtileljokijmpaaaDoor

/- Contracts of the document's own answers of layer 1: Add, Sub, whatever is handed in; Low; and what the laws do beside: own, is. -/
namespace Go.Proofs.YtileljokijmpaaaDoor
open Go.RowKit

set_option linter.unusedVariables false

theorem val_drop_cons {xs : List Nat} {k : Nat} (h : k < xs.length) : val (xs.drop k) = val (xs.drop (k + 1)) * 4294967296 + xs[k]?.getD 0 := by
  rw [List.drop_eq_getElem_cons h, List.getElem?_eq_getElem h]
  simp only [val, Option.getD_some]
  omega

end Go.Proofs.YtileljokijmpaaaDoor

/- What the laws do beside: own, is; values that are the walk's own and those that are only read. -/
namespace Go.Proofs.YtileljokijmpaaaDoor
open Go.RowKit

set_option linter.unusedVariables false

theorem u32s_one (xs : List Nat) : ∀ u ∈ u32s xs, u.oneCell' = true := by
  intro u hu
  obtain ⟨x, _, rfl⟩ := List.mem_map.1 hu
  rfl

/-- As Arg, and nil has no room. -/
def ArgZ (w : World) (v : Value) (xs : List Nat) : Prop := Arg w v xs ∧ ∀ n cap, v = .slice none n cap → cap = 0
/-! ### what is only read (l), and what is the walk's own since w0 (o) -/
def Lab (w0 w : World) (l o : List (Value × List Nat)) : Prop := Env w0 w l ∧ ∀ p ∈ o, Own w w0.heap.size p.1 p.2 ∧ Limbs p.2

section
variable {w0 w w' : World} {l o : List (Value × List Nat)} {va vb : Value} {xs ys : List Nat}
theorem Lab.step (h : Lab w0 w l o) (hb : Below w.heap.size w w') : Lab w0 w' l o := ⟨h.1.step hb, fun p hp => ⟨(h.2 p hp).1.below hb, (h.2 p hp).2⟩⟩
theorem Lab.add (h : Lab w0 w l o) (hb : Below w.heap.size w w') {r : Value} {zs : List Nat} (hr : Own w' w.heap.size r zs) (hl : Limbs zs) : Lab w0 w' l ((r, zs) :: o) :=
  ⟨h.1.step hb, fun p hp => by
    rcases List.mem_cons.1 hp with rfl | hp
    · exact ⟨hr.more h.1.1.size, hl⟩
    · exact ⟨(h.2 p hp).1.below hb, (h.2 p hp).2⟩⟩
theorem lab_start (h : Env w0 w l) : Lab w w l [] := ⟨⟨Below.refl _ _, h.2⟩, fun _ h => by cases h⟩
theorem Lab.drewN (h : Lab w0 w l o) (n : Nat) : Lab w0 (w.drewN n) l o := h.step ⟨rfl, rfl, rfl, Nat.le_refl _, fun _ _ => rfl⟩

theorem add_lab (h : Lab w0 w l o) (ha : (va, xs) ∈ l) (hb : (vb, ys) ∈ l) : Calls Tryd.prog 12 #[va, vb] w fun e w' => ∃ r, e = .returned r ∧ Lab w0 w' l ((r, sAdd xs ys) :: o) := by
  obtain ⟨A, cap, rfl, h1, h2, hr⟩ := h.1.get ha
  obtain ⟨A', cap', rfl, h1', h2', hr'⟩ := h.1.get hb
  exact (add_any A A' cap cap' xs ys w hr hr' (Nat.le_trans h1 h2) (Nat.le_trans h1' h2')).mono fun _ _ ⟨⟨r, he, ho⟩, hbl⟩ => ⟨r, he, h.add hbl ho (sAdd_limbs _ _)⟩
theorem sub_lab (h : Lab w0 w l o) (ha : (va, xs) ∈ l) (hb : (vb, ys) ∈ l) : Calls Tryd.prog 9 #[va, vb] w fun e w' => ∃ r, e = .returned (.tuple #[r, .bool (sSubOk xs ys)]) ∧ Lab w0 w' l ((r, sSub xs ys) :: o) := by
  obtain ⟨A, cap, rfl, h1, h2, hr⟩ := h.1.get ha
  obtain ⟨A', cap', rfl, h1', h2', hr'⟩ := h.1.get hb
  exact (sub_any A A' cap cap' xs ys w hr hr' (Nat.le_trans h1 h2) (Nat.le_trans h1' h2')).mono fun _ _ ⟨⟨r, he, ho⟩, hbl⟩ => ⟨r, he, h.add hbl ho (sSub_limbs _ _)⟩
theorem of_lab (h : Lab w0 w l o) (u : Nat) (hu : u < 18446744073709551616) : Calls Tryd.prog 8 #[.int .u64 (u : Int)] w fun e w' => ∃ r, e = .returned r ∧ Lab w0 w' l ((r, lim u) :: o) :=
  (of_any u w hu).mono fun _ _ ⟨⟨r, he, ho⟩, hbl⟩ => ⟨r, he, h.add hbl ho (lim_limbs _)⟩
theorem rmay_env (h : Env w0 w l) (ha : (va, xs) ∈ l) : Calls Tryd.prog 36 #[va] w fun e w' => e = .returned (.bool (mayb xs)) ∧ Env w0 w' l := by
  obtain ⟨A, cap, rfl, h1, h2, hr⟩ := h.get ha
  exact (rmay_is cap hr (Nat.le_trans h1 h2) rfl).mono fun _ _ ⟨he, hw⟩ => ⟨he, by rw [hw]; exact h⟩
end

end Go.Proofs.YtileljokijmpaaaDoor

/- NatTells: the law's walk, whatever is handed in. -/
namespace Go.Proofs.YtileljokijmpaaaDoor
open Go.RowKit

set_option linter.unusedVariables false

def NoRoom (v : Value) : Prop := ∀ n cap, v = .slice none n cap → cap = 0
theorem noRoom_of_row {w : World} {a : Option Addr} {len cap : Nat} {zs : List Int}
    (h : (a = none ∧ len = 0 ∧ cap = 0 ∧ zs = []) ∨ ∃ x, a = some x ∧ len ≤ cap ∧ cap ≤ maxLen ∧ zs.length = cap ∧ (∀ i, i < zs.length → w.cell? (x.add i) = some (.int .u32 (zs.getD i 0))) ∧ ∀ n ∈ zs, (Lit.int .u32 n).wf = true) : NoRoom (.slice a len cap) := by
  rcases h with ⟨rfl, rfl, rfl, rfl⟩ | ⟨x, rfl, _⟩
  · intro n cap h; cases h; rfl
  · intro n cap h; cases h
end Go.Proofs.YtileljokijmpaaaDoor

/- Contracts of the document's own answers: power, Bits, Bit. -/
namespace Go.Proofs.YtileljokijmpaaaDoor
open Go.RowKit

set_option linter.unusedVariables false

theorem pow_lt32 {j : Nat} (h : j < 32) : 2 ^ j < 4294967296 := by
  have : 2 ^ j < 2 ^ 32 := Nat.pow_lt_pow_right (by decide) h
  simpa using this

theorem blen_half {x : Nat} (h : x ≠ 0) : blen x = blen (x / 2) + 1 := by
  rcases Nat.eq_zero_or_pos (x / 2) with h0 | h0
  · have : x = 1 := by omega
    subst this
    decide
  · have := blen_shift (n := x / 2) (r := x % 2) (k := 1) (by omega) (by omega)
    rw [← this]
    congr 1
    omega

theorem sBit_no1 {xs : List Nat} (k : Int) (h : mayb xs = false) : sBit xs k = false := by unfold sBit; rw [h]; simp
theorem sBit_no3 {xs : List Nat} (hx : Limbs xs) {k : Nat} (h : xs.length ≤ k / 32) : sBit xs (k : Int) = false := by
  refine sBit_over (Nat.le_trans (sBits_le hx) ?_)
  omega

end Go.Proofs.YtileljokijmpaaaDoor

/- Contracts of the document's own answers: Shl. -/
namespace Go.Proofs.YtileljokijmpaaaDoor
open Go.RowKit

set_option linter.unusedVariables false

/-- after i rounds of a product with p, behind q limbs of 0 -/
def ShlOk (xs : List Nat) (q p i c : Nat) (Z : List Nat) : Prop := Limbs Z ∧ Z.length = q + i ∧ c ≤ 2147483648 ∧ val Z + 4294967296 ^ (q + i) * c = 4294967296 ^ q * (p * val (xs.take i))
theorem shlOk_zero (xs : List Nat) (q p : Nat) : ShlOk xs q p 0 0 (List.replicate q 0) := ⟨limbs_replicate q, by simp, by decide, by simp [val, val_replicate]⟩
theorem mul_bound {x p : Nat} (hx : x < 4294967296) (hp : p ≤ 2147483648) : x * p ≤ 9223372034707292160 := by
  have h1 : x * p ≤ 4294967295 * p := Nat.mul_le_mul_right _ (by omega)
  omega
theorem shlOk_next {xs Z : List Nat} {q p i c x : Nat} (h : ShlOk xs q p i c Z) (hx : xs[i]?.getD 0 = x) (hxl : x < 4294967296) (hp : p ≤ 2147483648) : ShlOk xs q p (i + 1) ((x * p + c) / 4294967296) (Z ++ [(x * p + c) % 4294967296]) := by
  obtain ⟨h1, h2, h3, h4⟩ := h
  have hb := mul_bound hxl hp
  refine ⟨h1.append (Limbs.one (Nat.mod_lt _ (by decide))), by simp [h2]; omega, by omega, ?_⟩
  rw [val_snoc, h2, val_take_succ, hx]
  have hd := Nat.mod_add_div (x * p + c) 4294967296
  have e1 : 4294967296 ^ (q + (i + 1)) = 4294967296 ^ (q + i) * 4294967296 := by rw [← Nat.add_assoc, Nat.pow_succ]
  rw [e1, Nat.mul_assoc, Nat.add_assoc, ← Nat.mul_add, hd, Nat.mul_add, Nat.mul_add p, Nat.mul_add (4294967296 ^ q), ← h4]
  have e2 : 4294967296 ^ (q + i) * (x * p) = 4294967296 ^ q * (p * (4294967296 ^ i * x)) := by
    rw [Nat.pow_add, Nat.mul_assoc]; congr 1; rw [Nat.mul_comm x, ← Nat.mul_assoc, Nat.mul_comm (4294967296 ^ i), Nat.mul_assoc]
  rw [e2]
  omega
theorem shlOk_all {xs Z : List Nat} {k c : Nat} (hx : Limbs xs) (h : ShlOk xs (k / 32) (2 ^ (k % 32)) (xs.length + 1) c Z) : val Z = val xs * 2 ^ k := by
  obtain ⟨h1, h2, h3, h4⟩ := h
  have hp := pow31 (r := k % 32) (by omega)
  rw [List.take_of_length_le (by omega)] at h4
  have h5 : val xs * 2 ^ k = 4294967296 ^ (k / 32) * (2 ^ (k % 32) * val xs) := by
    have : (2 : Nat) ^ k = 4294967296 ^ (k / 32) * 2 ^ (k % 32) := by rw [show (4294967296 : Nat) = 2 ^ 32 from rfl, ← Nat.pow_mul, ← Nat.pow_add, Nat.div_add_mod]
    rw [this, Nat.mul_comm (val xs), Nat.mul_assoc]
  rw [h5]
  have hv := val_lt hx
  have h6 : 2 ^ (k % 32) * val xs < 4294967296 ^ (xs.length + 1) := by
    have a := Nat.mul_le_mul_right (val xs) hp
    rw [Nat.pow_succ]
    generalize 4294967296 ^ xs.length = P at *
    omega
  have h7 : 4294967296 ^ (k / 32) * (2 ^ (k % 32) * val xs) < 4294967296 ^ (k / 32 + (xs.length + 1)) := by
    rw [Nat.pow_add]
    exact (Nat.mul_lt_mul_left (Nat.pow_pos (by decide))).2 h6
  rw [← h4] at h7 ⊢
  generalize 4294967296 ^ (k / 32 + (xs.length + 1)) = P at *
  rcases Nat.eq_zero_or_pos c with h0 | h0
  · subst h0; omega
  · exfalso
    have := Nat.mul_le_mul_left P h0
    omega

theorem own_zeros (w : World) (q : Nat) (hq : q ≤ maxLen) : (w.alloc (.cells (madeCells (Value.int .u32 0).cells (q * 1)) 40)).ownsRow w.heap.size 40 1 (.slice (some ⟨w.heap.size, 0, none⟩) q q) (List.replicate q 0).length (u32s (List.replicate q 0)) := by
  have h := World.ownsRow_lit w (madeCells (Value.int .u32 0).cells (q * 1)) q (base := w.heap.size) (e := 40) (size := 1) (Nat.le_refl _) hq (by rw [show (Value.int .u32 0).cells = #[.int .u32 0] from rfl]; have := congrArg List.length (toList_madeCells_one (.int .u32 0) (q * 1)); simpa using this)
  have e : (madeCells (Value.int .u32 0).cells (q * 1)).toList = u32s (List.replicate q 0) := by
    rw [show (Value.int .u32 0).cells = #[.int .u32 0] from rfl, toList_madeCells_one]
    simp [u32s, lv]
  rw [e] at h
  simpa using h

end Go.Proofs.YtileljokijmpaaaDoor

/- SexpNames, math: a text of so many (, and so many ). -/
import Derived.Test.YtkmenbicmbaceaaSexU
namespace Go.Proofs.Ytkmenbicmbaceaa

set_option linter.unusedVariables false
set_option linter.unusedSimpArgs false

def opw : Nat → Nat → List (Nat × List Nat)
  | _, 0 => []
  | p, k + 1 => (p, [40]) :: opw (p + 1) k
def clw : Nat → Nat → List (Nat × List Nat)
  | _, 0 => []
  | p, k + 1 => (p, [41]) :: clw (p + 1) k
def nest : Nat → Nat → For
  | _, 0 => .nil
  | p, k + 1 => .cons 0 (p : Int) [] (nest (p + 1) k) .nil
theorem kd40 : kd [40] = 1 := by kernel_rfl
theorem kd41 : kd [41] = 2 := by kernel_rfl
theorem opw_len : ∀ p k, (opw p k).length = k
  | _, 0 => rfl
  | p, k + 1 => by rw [opw, List.length_cons, opw_len]
theorem clw_len : ∀ p k, (clw p k).length = k
  | _, 0 => rfl
  | p, k + 1 => by rw [clw, List.length_cons, clw_len]
theorem nest_siz : ∀ p k, (nest p k).siz = k
  | _, 0 => rfl
  | p, k + 1 => by simp only [nest, For.siz, nest_siz]; omega
theorem nest_dep : ∀ p k, (nest p k).dep = k
  | _, 0 => rfl
  | p, k + 1 => by simp only [nest, For.dep, nest_dep, if_true]; omega
theorem skp_par (k m : Nat) : skp false (List.replicate k 40 ++ List.replicate m 41) = 0 := by
  cases k with
  | zero =>
    cases m with
    | zero => rfl
    | succ m => exact skp_cons_no _ (by decide) (by decide)
  | succ k => exact skp_cons_no _ (by decide) (by decide)
theorem sqn_par : ∀ (k m a : Nat), sqn a (List.replicate k 40 ++ List.replicate m 41) = opw a k ++ clw (a + k) m
  | 0, 0, a => rfl
  | 0, m + 1, a => by
    have ih := sqn_par 0 m (a + 1)
    have hs := skp_par 0 m
    simp only [List.replicate_zero, List.nil_append, opw] at ih hs ⊢
    have hw : wl (List.replicate (m + 1) 41) = 1 := wl_single (c := 41) (by decide) _
    rw [sqn_cons a (by simp [List.replicate_succ]), hw]
    have hd : (List.replicate (m + 1) 41).drop 1 = List.replicate m 41 := rfl
    rw [hd, hs, List.drop_zero]
    have ht : (List.replicate (m + 1) 41).take 1 = [41] := rfl
    rw [ht, Nat.add_zero, ih]
    rfl
  | k + 1, m, a => by
    have ih := sqn_par k m (a + 1)
    have hs := skp_par k m
    have hc : List.replicate (k + 1) 40 ++ List.replicate m 41 = 40 :: (List.replicate k 40 ++ List.replicate m 41) := rfl
    have hw : wl (40 :: (List.replicate k 40 ++ List.replicate m 41)) = 1 := wl_single (c := 40) (by decide) _
    rw [hc, sqn_cons a (by simp), hw]
    have hd : (40 :: (List.replicate k 40 ++ List.replicate m 41)).drop 1 = List.replicate k 40 ++ List.replicate m 41 := rfl
    rw [hd, hs, List.drop_zero, Nat.add_zero, ih]
    have e : a + 1 + k = a + (k + 1) := by omega
    rw [e]
    rfl
theorem wds_par (k m : Nat) : wds (List.replicate k 40 ++ List.replicate m 41) = opw 0 k ++ clw k m := by
  unfold wds
  rw [skp_par, List.drop_zero, sqn_par, Nat.zero_add]
theorem opw_kd : ∀ {p k : Nat} {x : Nat × List Nat}, x ∈ opw p k → kd x.2 = 1
  | p, k + 1, x, h => by
    rcases List.mem_cons.1 h with h | h
    · rw [h]; exact kd40
    · exact opw_kd h
theorem clw_kd : ∀ {p k : Nat} {x : Nat × List Nat}, x ∈ clw p k → kd x.2 = 2
  | p, k + 1, x, h => by
    rcases List.mem_cons.1 h with h | h
    · rw [h]; exact kd41
    · exact clw_kd h
theorem okw_par (k m : Nat) : okw (List.replicate k 40 ++ List.replicate m 41) = true := okw_of_all fun x hx => by
  rw [wds_par] at hx
  rcases List.mem_append.1 hx with h | h
  · rw [opw_kd h]; decide
  · rw [clw_kd h]; decide
theorem nds_cl (most deep : Int) (n q k : Nat) (D : Int) : nds most n deep (clw q k) D = ⟨.nil, clw q k, D, none⟩ := by
  cases n with
  | zero => rfl
  | succ n =>
    cases k with
    | zero => rfl
    | succ k => rw [clw, nds, if_pos kd41]
theorem nds_nest (most : Int) : ∀ (k n : Nat) (deep : Int) (p q k' : Nat) (D : Int), k ≤ k' → k ≤ n → deep + k ≤ most → deep ≤ D →
    nds most n deep (opw p k ++ clw q k') D = ⟨nest p k, clw (q + k) (k' - k), max D (deep + k), none⟩
  | 0, n, deep, p, q, k', D, h1, h2, h3, h4 => by
    rw [opw, List.nil_append, nds_cl]
    have e : max D (deep + ((0 : Nat) : Int)) = D := by omega
    rw [e]; rfl
  | k + 1, 0, deep, p, q, k', D, h1, h2, h3, h4 => by omega
  | k + 1, n + 1, deep, p, q, k', D, h1, h2, h3, h4 => by
    have ih := nds_nest most k n (deep + 1) (p + 1) q k' (max D (deep + 1)) (by omega) (by omega) (by omega) (by omega)
    obtain ⟨j, hj⟩ : ∃ j, k' - k = j + 1 := ⟨k' - k - 1, by omega⟩
    rw [opw, List.cons_append, nds, if_neg (by rw [kd40]; decide), if_pos kd40, if_neg (by omega), ih]
    simp only [hj, clw, nds_cl]
    have e1 : max (max D (deep + 1)) (deep + 1 + (k : Int)) = max D (deep + ((k + 1 : Nat) : Int)) := by omega
    have e2 : k' - (k + 1) = j := by omega
    have e3 : q + k + 1 = q + (k + 1) := by omega
    rw [e1, e2, e3]
    rfl
theorem nds_over (most : Int) : ∀ (m k n : Nat) (deep : Int) (p : Nat) (Z : List (Nat × List Nat)) (D : Int), m < k → m < n → deep + m = most → deep ≤ D →
    (nds most n deep (opw p k ++ Z) D).er = some (46, ((p + m : Nat) : Int))
  | m, 0, n, deep, p, Z, D, h1, h2, h3, h4 => by omega
  | m, k + 1, 0, deep, p, Z, D, h1, h2, h3, h4 => by omega
  | 0, k + 1, n + 1, deep, p, Z, D, h1, h2, h3, h4 => by
    rw [opw, List.cons_append, nds, if_neg (by rw [kd40]; decide), if_pos kd40, if_pos (by omega)]
    rfl
  | m + 1, k + 1, n + 1, deep, p, Z, D, h1, h2, h3, h4 => by
    have ih := nds_over most m k n (deep + 1) (p + 1) Z (max D (deep + 1)) (by omega) (by omega) (by omega) (by omega)
    rw [opw, List.cons_append, nds, if_neg (by rw [kd40]; decide), if_pos kd40, if_neg (by omega)]
    simp only [ih]
    congr 3
    omega
theorem wE_par {k : Nat} (h : 2 * k ≤ 65536) : wE (List.replicate k 40 ++ List.replicate k 41) = 0 := by
  unfold wE
  rw [if_neg (by rw [List.length_append, List.length_replicate, List.length_replicate]; omega), okw_par, if_pos rfl]
/-- so many, deep enough -/
theorem par_yes {k : Nat} (h : 2 * k ≤ 65536) : (rdd (k : Int) (List.replicate k 40 ++ List.replicate k 41)).F = nest 0 k ∧ (rdd (k : Int) (List.replicate k 40 ++ List.replicate k 41)).at' = 0 ∧ (rdd (k : Int) (List.replicate k 40 ++ List.replicate k 41)).e = 0 := by
  obtain ⟨f1, f2, -, f4⟩ := refR_rdd (k : Int) (List.replicate k 40 ++ List.replicate k 41)
  rw [f1, f2, f4]
  have hl : (opw 0 k ++ clw k k).length = k + k := by rw [List.length_append, opw_len, clw_len]
  have hn := nds_nest (k : Int) k ((opw 0 k ++ clw k k).length + 1) 0 0 k k 0 (Nat.le_refl _) (by omega) (by omega) (Int.le_refl _)
  unfold refR
  rw [if_pos (wE_par h), wds_par, hn, Nat.sub_self]
  exact ⟨rfl, rfl, rfl⟩
/-- so many, one too deep -/
theorem par_no {k : Nat} (h : 2 * k ≤ 65536) (h1 : 0 < k) : (rdd ((k : Int) - 1) (List.replicate k 40 ++ List.replicate k 41)).F = .nil ∧ (rdd ((k : Int) - 1) (List.replicate k 40 ++ List.replicate k 41)).at' = (k : Int) - 1 ∧ (rdd ((k : Int) - 1) (List.replicate k 40 ++ List.replicate k 41)).e = 46 := by
  obtain ⟨f1, f2, -, f4⟩ := refR_rdd ((k : Int) - 1) (List.replicate k 40 ++ List.replicate k 41)
  rw [f1, f2, f4]
  have hl : (opw 0 k ++ clw k k).length = k + k := by rw [List.length_append, opw_len, clw_len]
  have hn := nds_over ((k : Int) - 1) (k - 1) k ((opw 0 k ++ clw k k).length + 1) 0 0 (clw k k) 0 (by omega) (by omega) (by omega) (Int.le_refl _)
  unfold refR
  rw [if_pos (wE_par h), wds_par, hn]
  dsimp only
  rw [if_neg (by omega)]
  exact ⟨rfl, by omega, rfl⟩
/-- too many blanks -/
theorem blanks_no (d : Int) {L : List Nat} (h : L.length = 65537) : (rdd d L).at' = 65536 ∧ (rdd d L).e = 40 := by
  have e1 : wE L = 40 := by unfold wE; rw [if_pos (by omega)]
  have e2 : wAt L = 65536 := by unfold wAt; rw [if_pos (by omega)]
  unfold rdd rd
  rw [if_neg (by omega), e1, e2]
  exact ⟨rfl, rfl⟩

end Go.Proofs.Ytkmenbicmbaceaa

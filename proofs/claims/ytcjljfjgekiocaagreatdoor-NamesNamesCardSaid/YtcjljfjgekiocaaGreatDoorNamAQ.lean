/- The math of NamesNames: 4096 names declared, 64 scopes opened. -/
import Derived.Test.YtcjljfjgekiocaaGreatDoorNamAP
import Derived.Test.YtcjljfjgekiocaaGreatDoorNamAN
namespace Go.Proofs.YtcjljfjgekiocaaGreatDoor
open Go.RowKit Go.Shelf

set_option linter.unusedVariables false
set_option linter.unusedSimpArgs false

/-- so many names declared -/
def dclN : Nat → Tb
  | 0 => tb0
  | k + 1 => declT (dclN k) (nmK k)
structure DclI (k : Nat) : Prop where
  good : GoodT (dclN k)
  nx : (dclN k).nx = k
  sc : (dclN k).sc = []
  len : (dclN k).dn.length = k
  mem : ∀ L, (∃ e ∈ (dclN k).dn, e.1 = L) ↔ ∃ j, j < k ∧ L = nmK j
theorem dcl_code {k : Nat} (h : DclI k) (hk : k < 4096) : declC (dclN k) (nmK k) = 0 := by
  unfold declC
  have h1 : isNm (dclN k).dn (nmK k) = false := by
    cases q : isNm (dclN k).dn (nmK k) with
    | false => rfl
    | true =>
      obtain ⟨j, hj, e⟩ := (h.mem _).1 ((isNm_iff h.good.srn _).1 q)
      have := nmK_inj e
      omega
  rw [if_neg (by rw [nmK_isN hk]; decide), if_neg (by rw [h1]; decide), if_neg (by rw [h.len, h.nx]; omega)]
theorem dcl_ok : ∀ {k : Nat}, k ≤ 4096 → DclI k
  | 0, _ => ⟨GoodT.new, rfl, rfl, rfl, fun L => ⟨fun ⟨e, he, _⟩ => (by cases he), fun ⟨j, hj, _⟩ => absurd hj (Nat.not_lt_zero _)⟩⟩
  | k + 1, hk => by
    have h := dcl_ok (k := k) (by omega)
    have hc := dcl_code h (by omega)
    have e : dclN (k + 1) = { dn := insN (dclN k).dn (nmK k, (dclN k).nx), dv := (dclN k).dv ++ [(nmK k, (dclN k).nx)], sc := (dclN k).sc, nx := (dclN k).nx + 1 } := by
      show declT (dclN k) (nmK k) = _
      unfold declT
      rw [if_pos hc]
    refine ⟨?_, ?_, ?_, ?_, fun L => ?_⟩
    · show GoodT (declT (dclN k) (nmK k))
      exact h.good.declT (nmK_codes k)
    · rw [e]
      show (dclN k).nx + 1 = _
      rw [h.nx]
    · rw [e]
      exact h.sc
    · rw [e]
      show (insN (dclN k).dn (nmK k, (dclN k).nx)).length = _
      rw [(insN_perm _ _).length_eq, List.length_cons, h.len]
    · rw [e]
      show (∃ x ∈ insN (dclN k).dn (nmK k, (dclN k).nx), x.1 = L) ↔ _
      constructor
      · rintro ⟨x, hx, rfl⟩
        rcases List.mem_cons.1 ((insN_perm _ _).mem_iff.1 hx) with rfl | q
        · exact ⟨k, Nat.lt_succ_self _, rfl⟩
        · obtain ⟨j, hj, e2⟩ := (h.mem x.1).1 ⟨x, q, rfl⟩
          exact ⟨j, Nat.lt_succ_of_lt hj, e2⟩
      · rintro ⟨j, hj, rfl⟩
        by_cases q : j = k
        · subst q
          exact ⟨_, (insN_perm _ _).mem_iff.2 (List.mem_cons_self ..), rfl⟩
        · obtain ⟨x, hx, e2⟩ := (h.mem (nmK j)).2 ⟨j, by omega, rfl⟩
          exact ⟨x, (insN_perm _ _).mem_iff.2 (List.mem_cons_of_mem _ hx), e2⟩
theorem isN_m : isN [109] = true := by kernel_rfl
theorem isN_n : isN [110] = true := by kernel_rfl
theorem dcl_m {K : Nat} (hK : K = 4096) : declC (dclN K) [109] = 40 ∧ declT (dclN K) [109] = dclN K := by
  have h := dcl_ok (Nat.le_of_eq hK)
  have h1 : isNm (dclN K).dn [109] = false := by
    cases q : isNm (dclN K).dn [109] with
    | false => rfl
    | true =>
      obtain ⟨j, hj, e⟩ := (h.mem _).1 ((isNm_iff h.good.srn _).1 q)
      unfold nmK at e
      injection e with e1 e2
      omega
  have hc : declC (dclN K) [109] = 40 := by
    unfold declC
    rw [if_neg (by rw [isN_m]; decide), if_neg (by rw [h1]; decide), if_pos (.inl (by rw [h.len, hK]))]
  exact ⟨hc, by unfold declT; rw [if_neg (by rw [hc]; decide)]⟩
theorem dcl_n {K : Nat} (hK : K = 4096) : declC (dclN K) [110] = 6 ∧ declT (dclN K) [110] = dclN K := by
  have h := dcl_ok (Nat.le_of_eq hK)
  have h1 : isNm (dclN K).dn [110] = true := (isNm_iff h.good.srn _).2 ((h.mem _).2 ⟨0, by omega, nmK_zero.symm⟩)
  have hc : declC (dclN K) [110] = 6 := by
    unfold declC
    rw [if_neg (by rw [isN_n]; decide), if_pos h1]
  exact ⟨hc, by unfold declT; rw [if_neg (by rw [hc]; decide)]⟩
/-- so many scopes opened -/
def opnN (K : Nat) : Nat → Tb
  | 0 => dclN K
  | i + 1 => openT (opnN K i) [[109]]
structure OpnI (K i : Nat) : Prop where
  good : GoodT (opnN K i)
  nx : (opnN K i).nx = 4096 + i
  sc : (opnN K i).sc.length = i
theorem any_m : ([[109]].any fun x => !isN x) = false := by
  show (!isN [109] || false) = false
  rw [isN_m]
  rfl
theorem opn_code {K i : Nat} (hK : K = 4096) (h : OpnI K i) (hi : i < 64) : openC (opnN K i) [[109]] = 0 := by
  unfold openC
  rw [if_neg (fun q => by
    rcases q with q | q
    · cases q
    · rw [any_m] at q
      cases q), if_neg (fun q => q (by decide)), if_neg (by rw [h.sc, h.nx]; simp; omega)]
theorem codes_m : ∀ x ∈ [[109]], Codes x := fun x hx => by
  rcases List.mem_singleton.1 hx with rfl
  exact codes1 109 (by decide)
theorem opn_ok {K : Nat} (hK : K = 4096) : ∀ {i : Nat}, i ≤ 64 → OpnI K i
  | 0, _ => ⟨(dcl_ok (Nat.le_of_eq hK)).good, by show (dclN K).nx = _; rw [(dcl_ok (Nat.le_of_eq hK)).nx, hK], by
    show (dclN K).sc.length = 0
    rw [(dcl_ok (Nat.le_of_eq hK)).sc]
    rfl⟩
  | i + 1, hi => by
    have h := opn_ok hK (i := i) (by omega)
    have hc := opn_code hK h (by omega)
    refine ⟨h.good.openT codes_m, ?_, ?_⟩
    · show (openT (opnN K i) [[109]]).nx = _
      unfold openT
      rw [if_pos hc]
      show (opnN K i).nx + 1 = _
      rw [h.nx]
      omega
    · show (openT (opnN K i) [[109]]).sc.length = _
      rw [openT_sc, if_pos hc, h.sc]
theorem opn_full {K : Nat} (hK : K = 4096) : openC (opnN K 64) [[109]] = 40 ∧ openT (opnN K 64) [[109]] = opnN K 64 ∧ openC (opnN K 64) [[109], [109]] = 6 ∧ openT (opnN K 64) [[109], [109]] = opnN K 64 := by
  have h := opn_ok hK (Nat.le_refl 64)
  have h1 : openC (opnN K 64) [[109]] = 40 := by
    unfold openC
    rw [if_neg (fun q => by
      rcases q with q | q
      · cases q
      · rw [any_m] at q
        cases q), if_neg (fun q => q (by decide)), if_pos (.inl h.sc)]
  have h2 : openC (opnN K 64) [[109], [109]] = 6 := by
    unfold openC
    rw [if_neg (fun q => by
      rcases q with q | q
      · cases q
      · have : ([[109], [109]].any fun x => !isN x) = false := by
          show (!isN [109] || (!isN [109] || false)) = false
          rw [isN_m]
          rfl
        rw [this] at q
        cases q), if_pos (by decide)]
  exact ⟨h1, by unfold openT; rw [if_neg (by rw [h1]; decide)], h2, by unfold openT; rw [if_neg (by rw [h2]; decide)]⟩
theorem opn_find {K : Nat} (hK : K = 4096) : (fnd (opnN K 64) [109]).isSome = true ∧ findV (opnN K 64) [109] = 4159 := by
  have h := opn_ok hK (i := 63) (by omega)
  obtain ⟨h1, h2⟩ := find_opened (T := opnN K 63) (ns := [[109]]) (k := 0) (x := [109]) (opn_code hK h (by omega)) rfl
  have e : openT (opnN K 63) [[109]] = opnN K 64 := rfl
  rw [e] at h1 h2
  rw [h.nx] at h2
  exact ⟨by rw [h1]; rfl, h2⟩
theorem opn_of {K : Nat} (hK : K = 4096) : (ofd (opnN K 64) (4159 : Int)).isSome = true ∧ ofV (opnN K 64) (4159 : Int) = [109] ∧ (ofd (opnN K 64) (4160 : Int)).isSome = false := by
  have h := opn_ok hK (Nat.le_refl 64)
  obtain ⟨h1, h2, -, -⟩ := back_find h.good (opn_find hK).1
  rw [(opn_find hK).2] at h1 h2
  refine ⟨h1, h2, ?_⟩
  cases q : ofd (opnN K 64) (4160 : Int) with
  | none => rfl
  | some i =>
    have hi : isVr (vrAt (opnN K 64) i) (4160 : Int) = true := List.find?_some (p := fun i => isVr (vrAt (opnN K 64) i) (4160 : Int)) q
    obtain ⟨e, he, h3⟩ := (isVr_iff (h.good.nm i).2.1 _).1 hi
    have := (h.good.entry (h.good.same.2 he)).2.2.2
    rw [h.nx] at this
    omega
end Go.Proofs.YtcjljfjgekiocaaGreatDoor

/- The laws' words for products: calls in an environment; same, ones, long, may; lists of lists. -/
import Derived.Test.YtlfhpoffphljfaaMulO
namespace Go.Proofs.Ytlfhpoffphljfaa
open Go.RowKit Go.Shelf

set_option linter.unusedVariables false

section
variable {w0 w w' : World} {l : List (Value × List Nat)} {va vb : Value} {xs ys zs : List Nat}
theorem Env.newL {L : List Nat} {e : Ending} (E : Env w0 w l) (hl : Limbs L) (h : NewL w L e w') : ∃ r, e = .returned r ∧ Env w0 w' ((r, L) :: l) := by
  obtain ⟨⟨v, he, ho⟩, hb⟩ := h
  exact ⟨v, he, E.add hb (ho.arg hl)⟩
theorem mul_is (h : Env w0 w l) (ha : (va, xs) ∈ l) (hb : (vb, ys) ∈ l) (hz : sMul xs ys = zs) : Calls Try.prog 27 #[va, vb] w fun e w' => ∃ r, e = .returned r ∧ Env w0 w' ((r, zs) :: l) := by
  subst hz
  exact (mul_any va vb xs ys w (h.get ha) (h.get hb)).mono fun _ _ hn => h.newL (sMul_limbs _ _) hn
theorem square_is (h : Env w0 w l) (ha : (va, xs) ∈ l) (hz : sMul xs xs = zs) : Calls Try.prog 28 #[va] w fun e w' => ∃ r, e = .returned r ∧ Env w0 w' ((r, zs) :: l) := by
  subst hz
  exact (square_any va xs w (h.get ha)).mono fun _ _ hn => h.newL (sMul_limbs _ _) hn
theorem sSmall_limbs (xs : List Nat) (m a : Nat) : Limbs (sSmall xs m a) := by
  unfold sSmall; split
  · exact clip_limbs _
  · exact limbs_nil
theorem small_is (h : Env w0 w l) (ha : (va, xs) ∈ l) (m a : Nat) (hm : m < 4294967296) (hA : a < 4294967296) (hz : sSmall xs m a = zs) : Calls Try.prog 29 #[va, .int .u32 (m : Int), .int .u32 (a : Int)] w fun e w' => ∃ r, e = .returned r ∧ Env w0 w' ((r, zs) :: l) := by
  subst hz
  obtain ⟨A, cap, rfl, k1, k2, hr⟩ := h.get ha
  exact (small_any A cap xs m a w hr (by omega) hm hA).mono fun _ _ hn => h.newL (sSmall_limbs _ _ _) hn
theorem pow_is (h : Env w0 w l) (ha : (va, xs) ∈ l) (k : Int) (hk : k < 9223372036854775808) (hk0 : -9223372036854775808 ≤ k) (hz : sPow xs k = zs) : Calls Try.prog 30 #[va, .int .i64 k] w fun e w' => ∃ r, e = .returned r ∧ Env w0 w' ((r, zs) :: l) := by
  subst hz
  exact (pow_any va xs k w (h.get ha) hk hk0).mono fun _ _ hn => h.newL (sPow_limbs _ _) hn
theorem sum_is {L M : List (List Nat)} (h : Env w0 w l) (ha : Rows2 w va L) (hb : Rows2 w vb M) (hz : sSum L M = zs) : Calls Try.prog 31 #[va, vb] w fun e w' => ∃ r, e = .returned r ∧ Env w0 w' ((r, zs) :: l) := by
  subst hz
  exact (sum_any va vb L M w ha hb).mono fun _ _ hn => h.newL (sSum_limbs _ _) hn
set_option maxHeartbeats 1000000 in
theorem same2_env (h : Env w0 w l) (ha : (va, xs) ∈ l) (hb : (vb, ys) ∈ l) : Calls Try.prog 26 #[va, vb] w fun e w' => e = .returned (.bool (eqb xs ys)) ∧ Env w0 w' l := by
  have c := refsame_env h ha hb
  clear h ha hb
  go_enter Try.func26, Try.ntmps26
  go_wp2_with fail
  refine c.mono ?_
  rintro e w' ⟨rfl, env⟩
  clear c
  go_wp2
  go_ret
  exact ⟨rfl, env⟩
theorem same2_yes (h : Env w0 w l) (ha : (va, xs) ∈ l) (hb : (vb, ys) ∈ l) (he : xs = ys) : Calls Try.prog 26 #[va, vb] w fun e w' => e = .returned (.bool true) ∧ Env w0 w' l := by
  have := same2_env h ha hb
  subst he
  rwa [eqb_refl] at this

/-- Lists of what is at hand. -/
theorem rows_of (h : Env w0 w l) (q : List (Value × List Nat)) (hq : ∀ p ∈ q, p ∈ l) (hm : q.length ≤ maxLen) :
    Rows2 (w.alloc (.cells (q.map Prod.fst).toArray 26)) (.slice (some ⟨w.heap.size, 0, none⟩) q.length q.length) (q.map Prod.snd) ∧ Env w0 (w.alloc (.cells (q.map Prod.fst).toArray 26)) l := by
  have hb : Below w.heap.size w (w.alloc (.cells (q.map Prod.fst).toArray 26)) := (Below.refl _ w).alloc (Nat.le_refl _) _
  refine ⟨⟨_, _, q.map Prod.fst, by rw [List.length_map], by simpa using hm, fun j hj => ?_, fun h0 => ⟨w.heap.size, 0, rfl, by simp, fun j hj => ?_⟩⟩, h.step hb⟩
  · have hj' : j < q.length := by simpa using hj
    have hp := hq q[j] (List.getElem_mem hj')
    rw [List.getElem?_map, List.getElem?_map, List.getElem?_eq_getElem hj']
    exact (h.2 _ hp).below hb
  · have hj' : j < q.length := by simpa using hj
    rw [World.cell?_alloc_new]
    simp [List.getElem?_eq_getElem hj']
end

def tot : List (List Nat) → Nat
  | [] => 0
  | x :: r => 1 + min 700 x.length + tot r
theorem tot_snoc (L : List (List Nat)) (x : List Nat) : tot (L ++ [x]) = tot L + (1 + min 700 x.length) := by
  induction L with
  | nil => simp [tot]
  | cons y r ih => simp only [List.cons_append, tot, ih]; omega
theorem tot_take_le (L : List (List Nat)) (k : Nat) : tot (L.take k) ≤ tot L := by
  induction L generalizing k with
  | nil => simp [tot]
  | cons y r ih =>
    cases k with
    | zero => simp [tot]
    | succ k => simp only [List.take_succ_cons, tot]; have := ih k; omega
def longL (L : List (List Nat)) : Bool := decide (700 ≤ tot L)
theorem tot_take (L : List (List Nat)) {k : Nat} (hk : k < L.length) : tot (L.take (k + 1)) = tot (L.take k) + (1 + min 700 (L[k]?.getD []).length) := by
  rw [List.take_succ_eq_append_getElem hk, tot_snoc, List.getElem?_eq_getElem hk]; rfl

set_option maxRecDepth 100000 in
set_option maxHeartbeats 1000000 in
theorem long_any (v : Value) (L : List (List Nat)) (w : World) (h : Rows2 w v L) : Calls Try.prog 32 #[v] w fun e w' => e = .returned (.bool (longL L)) ∧ w' = w := by
  obtain ⟨A, cap, vs, rfl, hl, hva, hca⟩ := h
  unfold maxLen at hl
  have HVA := Lib.hid hva
  have HCA := Lib.hid hca
  clear hva hca
  generalize hn : L.length = n at *
  have HN := Lib.hid hn
  clear hn
  go_enter Try.func32, Try.ntmps32
  go_wp2
  go_loop [3, 4] (fun s i => ∃ k t : Nat, k ≤ n ∧ t ≤ 1400 ∧ i = .int .i64 (k : Int) ∧ s = .int .i64 (t : Int) ∧ Hid (t = tot (L.take k))) (fun _ i => n - (intOf i).toNat)
  case atStart => exact ⟨0, 0, Nat.zero_le _, by decide, rfl, rfl, by show _ = _; simp [tot]⟩
  case round =>
    obtain ⟨k, t, hk, ht, rfl, rfl, hT⟩ := hrel
    by_cases hlt : k < n
    · by_cases h7 : t < 700
      · obtain ⟨b, off, rfl, hb, hcl⟩ := HCA.out (by omega)
        have x1 := hcl k hlt
        obtain ⟨Ax, capx, ex, p1, p2, rx⟩ := HVA.out k hlt
        rw [ex] at x1
        have hst := Lib.hid (tot_take L (k := k) (by rw [HN.out]; exact hlt))
        generalize hxl : (L[k]?.getD []).length = m at *
        have HXL := Lib.hid hxl
        have hm63 : m ≤ 9223372036854775807 := by unfold maxLen at p2; omega
        clear hcl ex rx p1 p2 hxl
        have hmin : min (700 : Int) (m : Int) = ((min 700 m : Nat) : Int) := by omega
        have hmb : min 700 m ≤ 700 := Nat.min_le_left _ _
        generalize hmm : min 700 m = mm at *
        have HMM := Lib.hid hmm
        clear hmm
        go_wp2
        go_round
        case rel => exact ⟨k + 1, t + 1 + mm, by omega, by omega, by go_num, by simp, by show _ = _; rw [hst.out, hT.out]; have := HMM.out; omega⟩
        case measure => simp [intOf]; omega
      · go_wp2
        go_ret
        exact ⟨ret_bool (by unfold longL; symm; apply decide_eq_true; have h1 := hT.out; have h2 := tot_take_le L k; omega), rfl⟩
    · obtain rfl : k = n := by omega
      go_wp2
      go_ret
      exact ⟨ret_bool (by unfold longL; rw [decide_eq_decide]; have h1 := hT.out; rw [← HN.out, List.take_length] at h1; omega), rfl⟩

set_option maxHeartbeats 1000000 in
theorem may2_any (v : Value) (L : List (List Nat)) (w : World) (h : Rows2 w v L) : Calls Try.prog 40 #[v] w fun e w' => e = .returned (.bool (L.all mayb)) ∧ w' = w := by
  obtain ⟨A, cap, vs, rfl, hl, hva, hca⟩ := h
  unfold maxLen at hl
  have HVA := Lib.hid hva
  have HCA := Lib.hid hca
  clear hva hca
  generalize hn : L.length = n at *
  have HN := Lib.hid hn
  clear hn
  go_enter Try.func40, Try.ntmps40
  go_wp2
  go_loop [3] (fun i => ∃ k : Nat, k ≤ n ∧ i = .int .i64 (k : Int) ∧ Hid ((L.take k).all mayb = true)) (fun i => n - (intOf i).toNat)
  case atStart => exact ⟨0, Nat.zero_le _, rfl, by show _ = _; simp⟩
  case round =>
    obtain ⟨k, hk, rfl, hT⟩ := hrel
    by_cases hlt : k < n
    · obtain ⟨b, off, rfl, hb, hcl⟩ := HCA.out (by omega)
      have x1 := hcl k hlt
      obtain ⟨Ax, capx, ex, p1, p2, rx⟩ := HVA.out k hlt
      rw [ex] at x1
      have hkL : k < L.length := by rw [HN.out]; exact hlt
      have hst : L.take (k + 1) = L.take k ++ [L[k]?.getD []] := by rw [List.take_succ_eq_append_getElem hkL, List.getElem?_eq_getElem hkL]; rfl
      have HST := Lib.hid hst
      have hmem : L[k]?.getD [] ∈ L := by rw [List.getElem?_eq_getElem hkL]; exact List.getElem_mem hkL
      have HMEM := Lib.hid hmem
      clear hcl ex hst hmem hkL
      by_cases hx : mayb (L[k]?.getD []) = true
      · have c := may_yes capx rx (by omega) hx
        have HX := Lib.hid hx
        clear hx rx p1 p2
        generalize (L[k]?.getD []).length = m at *
        go_wp2_with fail
        with_reducible refine c.mono ?_
        rintro e w' ⟨rfl, hw⟩
        obtain rfl := hw.symm
        clear c
        go_wp2
        go_round
        case rel => exact ⟨k + 1, by omega, by go_num, by show _ = _; rw [HST.out, List.all_append, hT.out]; simp [HX.out]⟩
        case measure => simp [intOf]; omega
      · have c := may_no capx rx (by omega) (by simpa using hx)
        have HX := Lib.hid hx
        clear hx rx p1 p2
        generalize (L[k]?.getD []).length = m at *
        go_wp2_with fail
        with_reducible refine c.mono ?_
        rintro e w' ⟨rfl, hw⟩
        obtain rfl := hw.symm
        clear c
        go_wp2
        go_ret
        exact ⟨ret_bool (by symm; rw [List.all_eq_false]; exact ⟨_, HMEM.out, HX.out⟩), rfl⟩
    · obtain rfl : k = n := by omega
      go_wp2
      go_ret
      exact ⟨ret_bool (by have h1 := hT.out; rw [← HN.out, List.take_length] at h1; exact h1.symm), rfl⟩

end Go.Proofs.Ytlfhpoffphljfaa

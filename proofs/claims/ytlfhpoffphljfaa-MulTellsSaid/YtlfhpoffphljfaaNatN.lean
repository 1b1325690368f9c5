/- Contracts of values in an environment: what is known to be read goes on being read from call to call. And Same, same, of. -/
import Derived.Test.YtlfhpoffphljfaaNatM
namespace Go.Proofs.Ytlfhpoffphljfaa
open Go.RowKit

/-- The value v is a slice that reads as the limbs xs. -/
def Arg (w : World) (v : Value) (xs : List Nat) : Prop := ∃ A cap, v = .slice A xs.length cap ∧ xs.length ≤ cap ∧ cap ≤ maxLen ∧ Rd w w.heap.size A xs
/-- the same limbs? -/
def eqb (xs ys : List Nat) : Bool := decide (xs = ys)
theorem eqb_refl (xs : List Nat) : eqb xs xs = true := by unfold eqb; simp
/-- Since w0 nothing that lay has turned; each value of the list reads as its limbs. -/
def Env (w0 w : World) (l : List (Value × List Nat)) : Prop := Below w0.heap.size w0 w ∧ ∀ p ∈ l, Arg w p.1 p.2

theorem Arg.below {w w' : World} {v : Value} {xs : List Nat} (h : Arg w v xs) (hb : Below w.heap.size w w') : Arg w' v xs := by
  obtain ⟨A, cap, e, h1, h2, hr⟩ := h
  exact ⟨A, cap, e, h1, h2, (hr.below hb (Nat.le_refl _)).more hb.size⟩
theorem Arg.limbs {w : World} {v : Value} {xs : List Nat} (h : Arg w v xs) : Limbs xs := by obtain ⟨_, _, _, _, _, hr⟩ := h; exact hr.limbs
theorem Own.arg {w : World} {B : Nat} {v : Value} {xs : List Nat} (h : Own w B v xs) (hl : Limbs xs) : Arg w v xs := by
  obtain ⟨A, cap, e, h1, h2, hr⟩ := h.rd hl
  exact ⟨A, cap, e, h1, h2, hr⟩
theorem Arg.nil (w : World) : Arg w (.slice none 0 0) [] := ⟨none, 0, rfl, Nat.le_refl _, by decide, Rd.nil _ _ _⟩

section
variable {w0 w w' : World} {l : List (Value × List Nat)}
theorem Env.step (h : Env w0 w l) (hb : Below w.heap.size w w') : Env w0 w' l := ⟨h.1.trans (hb.mono h.1.size), fun p hp => (h.2 p hp).below hb⟩
theorem Env.add (h : Env w0 w l) (hb : Below w.heap.size w w') {v : Value} {xs : List Nat} (ha : Arg w' v xs) : Env w0 w' ((v, xs) :: l) := ⟨h.1.trans (hb.mono h.1.size), fun p hp => by
  rcases List.mem_cons.1 hp with rfl | hp
  · exact ha
  · exact (h.2 p hp).below hb⟩
theorem Env.get (h : Env w0 w l) {v : Value} {xs : List Nat} (hm : (v, xs) ∈ l) : Arg w v xs := h.2 _ hm
theorem Env.drewN (h : Env w0 w l) (n : Nat) : Env w0 (w.drewN n) l := ⟨⟨h.1.os, h.1.tape, h.1.output, h.1.size, h.1.block⟩, fun p hp => h.2 p hp⟩
theorem Env.nil (h : Env w0 w l) : Env w0 w ((.slice none 0 0, []) :: l) := h.add (Below.refl _ _) (Arg.nil _)
/-- A literal of limbs. -/
theorem Env.lit (h : Env w0 w l) (xs : List Nat) (hl : Limbs xs) (hm : xs.length ≤ maxLen) : Env w0 (w.alloc (.cells (u32s xs).toArray 28)) ((.slice (some ⟨w.heap.size, 0, none⟩) xs.length xs.length, xs) :: l) := by
  refine h.add ((Below.refl _ w).alloc (Nat.le_refl _) _) ?_
  have ho : Own (w.alloc (.cells (u32s xs).toArray 28)) w.heap.size (.slice (some ⟨w.heap.size, 0, none⟩) xs.length xs.length) xs := by
    have := World.ownsRow_lit w (u32s xs).toArray xs.length (base := w.heap.size) (e := 28) (size := 1) (Nat.le_refl _) hm (by simp [u32s])
    simpa [Own] using this
  exact ho.arg hl
theorem Env.lit1 (h : Env w0 w l) (x : Nat) (X : Int) (hX : X = (x : Int)) (hx : x < 4294967296) : Env w0 (w.alloc (.cells #[.int .u32 X] 28)) ((.slice (some ⟨w.heap.size, 0, none⟩) 1 1, [x]) :: l) := by subst hX; exact h.lit [x] (Limbs.one hx) (by unfold maxLen; simp)
theorem Env.lit2 (h : Env w0 w l) (x y : Nat) (X Y : Int) (hX : X = (x : Int)) (hY : Y = (y : Int)) (hx : x < 4294967296) (hy : y < 4294967296) : Env w0 (w.alloc (.cells #[.int .u32 X, .int .u32 Y] 28)) ((.slice (some ⟨w.heap.size, 0, none⟩) 2 2, [x, y]) :: l) := by subst hX hY; exact h.lit [x, y] ((Limbs.one hy).cons hx) (by unfold maxLen; simp)
theorem Env.lit3 (h : Env w0 w l) (x y z : Nat) (X Y Z : Int) (hX : X = (x : Int)) (hY : Y = (y : Int)) (hZ : Z = (z : Int)) (hx : x < 4294967296) (hy : y < 4294967296) (hz : z < 4294967296) : Env w0 (w.alloc (.cells #[.int .u32 X, .int .u32 Y, .int .u32 Z] 28)) ((.slice (some ⟨w.heap.size, 0, none⟩) 3 3, [x, y, z]) :: l) := by subst hX hY hZ; exact h.lit [x, y, z] (((Limbs.one hz).cons hy).cons hx) (by unfold maxLen; simp)
theorem env_start (w : World) : Env w w [] := ⟨Below.refl _ _, fun _ h => by cases h⟩
theorem env_start1 {w : World} {v : Value} {xs : List Nat} (h : Arg w v xs) : Env w w [(v, xs)] := (env_start w).add (Below.refl _ _) h

/-! ### the calls -/
variable {va vb : Value} {xs ys : List Nat}
theorem may_env (h : Env w0 w l) (ha : (va, xs) ∈ l) : Calls Try.prog 23 #[va] w fun e w' => e = .returned (.bool (mayb xs)) ∧ w' = w := by
  obtain ⟨A, cap, rfl, h1, h2, hr⟩ := h.get ha
  exact may_any A cap xs w _ hr (Nat.le_trans h1 h2)
theorem cmp_env (h : Env w0 w l) (ha : (va, xs) ∈ l) (hb : (vb, ys) ∈ l) : Calls Try.prog 18 #[va, vb] w fun e w' => e = .returned (.int .i64 (sCmp xs ys)) ∧ Env w0 w' l := by
  obtain ⟨A, cap, rfl, h1, h2, hr⟩ := h.get ha
  obtain ⟨A', cap', rfl, h1', h2', hr'⟩ := h.get hb
  exact (cmp_any A A' cap cap' xs ys w _ hr hr' (Nat.le_trans h1 h2) (Nat.le_trans h1' h2')).mono fun _ _ ⟨he, n, hw⟩ => ⟨he, by rw [hw]; exact h.drewN n⟩
theorem sAdd_limbs (xs ys : List Nat) : Limbs (sAdd xs ys) := by
  unfold sAdd; split
  · exact clip_limbs _
  · exact limbs_nil
theorem sSub_limbs (xs ys : List Nat) : Limbs (sSub xs ys) := by
  unfold sSub; split
  · exact lim_limbs _
  · exact limbs_nil
theorem sShl_limbs (xs : List Nat) (k : Int) : Limbs (sShl xs k) := by
  unfold sShl; split
  · exact clip_limbs _
  · exact limbs_nil
theorem sShr_limbs (xs : List Nat) (k : Int) : Limbs (sShr xs k) := by
  unfold sShr; split
  · exact lim_limbs _
  · exact limbs_nil
theorem add_env (h : Env w0 w l) (ha : (va, xs) ∈ l) (hb : (vb, ys) ∈ l) : Calls Try.prog 16 #[va, vb] w fun e w' => ∃ r, e = .returned r ∧ Env w0 w' ((r, sAdd xs ys) :: l) := by
  obtain ⟨A, cap, rfl, h1, h2, hr⟩ := h.get ha
  obtain ⟨A', cap', rfl, h1', h2', hr'⟩ := h.get hb
  exact (add_any A A' cap cap' xs ys w hr hr' (Nat.le_trans h1 h2) (Nat.le_trans h1' h2')).mono fun _ _ ⟨⟨r, he, ho⟩, hbl⟩ => ⟨r, he, h.add hbl (ho.arg (sAdd_limbs _ _))⟩
theorem sub_env (h : Env w0 w l) (ha : (va, xs) ∈ l) (hb : (vb, ys) ∈ l) : Calls Try.prog 14 #[va, vb] w fun e w' => ∃ r, e = .returned (.tuple #[r, .bool (sSubOk xs ys)]) ∧ Env w0 w' ((r, sSub xs ys) :: l) := by
  obtain ⟨A, cap, rfl, h1, h2, hr⟩ := h.get ha
  obtain ⟨A', cap', rfl, h1', h2', hr'⟩ := h.get hb
  exact (sub_any A A' cap cap' xs ys w hr hr' (Nat.le_trans h1 h2) (Nat.le_trans h1' h2')).mono fun _ _ ⟨⟨r, he, ho⟩, hbl⟩ => ⟨r, he, h.add hbl (ho.arg (sSub_limbs _ _))⟩
theorem bits_env (h : Env w0 w l) (ha : (va, xs) ∈ l) : Calls Try.prog 21 #[va] w fun e w' => e = .returned (.int .i64 (sBits xs : Nat)) ∧ w' = w := by
  obtain ⟨A, cap, rfl, h1, h2, hr⟩ := h.get ha
  exact bits_any A cap xs w _ hr (Nat.le_trans h1 h2)
theorem bit_env (h : Env w0 w l) (ha : (va, xs) ∈ l) (k : Int) : Calls Try.prog 22 #[va, .int .i64 k] w fun e w' => e = .returned (.bool (sBit xs k)) ∧ w' = w := by
  obtain ⟨A, cap, rfl, h1, h2, hr⟩ := h.get ha
  exact bit_any A cap xs k w _ hr (Nat.le_trans h1 h2)
theorem low_env (h : Env w0 w l) (ha : (va, xs) ∈ l) : Calls Try.prog 12 #[va] w fun e w' => e = .returned (.tuple #[.int .u64 (sLow xs : Nat), .bool (sLowOk xs)]) ∧ Env w0 w' l := by
  obtain ⟨A, cap, rfl, h1, h2, hr⟩ := h.get ha
  exact (low_any A cap xs w hr (Nat.le_trans h1 h2)).mono fun _ _ ⟨he, hbl⟩ => ⟨he, h.step hbl⟩
theorem of_env (h : Env w0 w l) (u : Nat) (hu : u < 18446744073709551616) : Calls Try.prog 17 #[.int .u64 (u : Int)] w fun e w' => ∃ r, e = .returned r ∧ Env w0 w' ((r, lim u) :: l) :=
  (of_any u w hu).mono fun _ _ ⟨⟨r, he, ho⟩, hbl⟩ => ⟨r, he, h.add hbl (ho.arg (lim_limbs _))⟩
theorem shl_env (h : Env w0 w l) (ha : (va, xs) ∈ l) (k : Int) : Calls Try.prog 19 #[va, .int .i64 k] w fun e w' => ∃ r, e = .returned r ∧ Env w0 w' ((r, sShl xs k) :: l) := by
  obtain ⟨A, cap, rfl, h1, h2, hr⟩ := h.get ha
  exact (shl_any A cap xs k w hr (Nat.le_trans h1 h2)).mono fun _ _ ⟨⟨r, he, ho⟩, hbl⟩ => ⟨r, he, h.add hbl (ho.arg (sShl_limbs _ _))⟩
theorem shr_env (h : Env w0 w l) (ha : (va, xs) ∈ l) (k : Int) : Calls Try.prog 20 #[va, .int .i64 k] w fun e w' => ∃ r, e = .returned r ∧ Env w0 w' ((r, sShr xs k) :: l) := by
  obtain ⟨A, cap, rfl, h1, h2, hr⟩ := h.get ha
  exact (shr_any A cap xs k w hr h1 h2).mono fun _ _ ⟨⟨r, he, ho⟩, hbl⟩ => ⟨r, he, h.add hbl (ho.arg (sShr_limbs _ _))⟩
end

/-! ### Same -/
set_option maxHeartbeats 1000000 in
theorem same_eq (A A' : Option Addr) (cap cap' len : Nat) (xs ys : List Nat) (w : World) (B : Nat) (hr : Rd w B A xs) (hr' : Rd w B A' ys) (h1 : Hid (xs.length = len)) (h2 : Hid (ys.length = len)) (hc : len ≤ maxLen) :
    Calls Try.prog 34 #[.slice A len cap, .slice A' len cap'] w fun e w' => e = .returned (.bool (eqb xs ys)) ∧ ∃ n, w' = w.drewN n := by
  unfold maxLen at hc
  go_enter Try.func34, Try.ntmps34
  go_wp2
  go_loopw [5] (fun v wr => ∃ k : Nat, k ≤ len ∧ v = .int .i64 (k : Int) ∧ Hid (∀ j, j < k → xs[j]?.getD 0 = ys[j]?.getD 0) ∧ ∃ n, wr = w.drewN n) (fun v _ => len - (intOf v).toNat)
  case atStart => exact ⟨0, Nat.zero_le _, rfl, fun j h => by omega, 0, rfl⟩
  case round =>
    obtain ⟨k, hk, rfl, hu, nw, rfl⟩ := hrel
    by_cases hlt : k < len
    · obtain ⟨b, off, rfl, _, hcell⟩ := hr.2 (by have := h1.out; omega)
      obtain ⟨b', off', rfl, _, hcell'⟩ := hr'.2 (by have := h2.out; omega)
      have q1 := hcell k (by have := h1.out; omega)
      have q2 := hcell' k (by have := h2.out; omega)
      have l1 := hr.limbs.getD k
      have l2 := hr'.limbs.getD k
      clear hcell hcell'
      by_cases he : xs[k]?.getD 0 = ys[k]?.getD 0
      · have HE := Lib.hid he
        have hb : ((((xs[k]?.getD 0 : Nat) : Int)) != ((ys[k]?.getD 0 : Nat) : Int)) = false := by rw [he]; simp
        have g1 : xs[k]?.getD 0 ≤ ys[k]?.getD 0 := by omega
        have g2 : ys[k]?.getD 0 ≤ xs[k]?.getD 0 := by omega
        clear he
        go_wp2
        go_quiet (fail)
        go_wp2
        go_roundw
        case rel => exact ⟨k + 1, by omega, by go_num, fun j hj => by rcases Nat.lt_or_ge j k with h | h; exact hu.out j h; (obtain rfl : j = k := by omega); exact HE.out, _, rfl⟩
        case measure => simp [intOf]; omega
      · have hne : Hid (eqb xs ys = false) := by show _ = _; unfold eqb; rw [decide_eq_false]; intro e; rw [e] at he; exact he rfl
        have hb : ((((xs[k]?.getD 0 : Nat) : Int)) != ((ys[k]?.getD 0 : Nat) : Int)) = true := by rw [bne_iff_ne]; omega
        clear he
        go_wp2
        go_quiet (fail)
        go_wp2
        go_ret
        exact ⟨ret_bool hne.out.symm, _, World.drewN_drewN _ _ _⟩
    · have hyes : Hid (eqb xs ys = true) := by
        show _ = _
        unfold eqb
        rw [decide_eq_true]
        apply List.ext_getElem (by rw [h1.out, h2.out])
        intro j q1 q2
        have := hu.out j (by have := h1.out; omega)
        rw [List.getElem?_eq_getElem q1, List.getElem?_eq_getElem q2] at this
        simpa using this
      go_wp2
      go_ret
      exact ⟨ret_bool hyes.out.symm, nw, rfl⟩

set_option maxHeartbeats 1000000 in
theorem same_any (A A' : Option Addr) (cap cap' : Nat) (xs ys : List Nat) (w : World) (B : Nat) (hr : Rd w B A xs) (hr' : Rd w B A' ys) (hc' : ys.length ≤ maxLen) :
    Calls Try.prog 34 #[.slice A xs.length cap, .slice A' ys.length cap'] w fun e w' => e = .returned (.bool (eqb xs ys)) ∧ ∃ n, w' = w.drewN n := by
  by_cases h : xs.length = ys.length
  · have := same_eq A A' cap cap' ys.length xs ys w B hr hr' h rfl hc'
    rwa [h]
  · have hne : Hid (eqb xs ys = false) := by show _ = _; unfold eqb; rw [decide_eq_false]; intro e; rw [e] at h; exact h rfl
    have hb : ((xs.length : Int) != (ys.length : Int)) = true := by rw [bne_iff_ne]; omega
    clear h hc'
    go_enter Try.func34, Try.ntmps34
    go_wp2
    go_ret
    exact ⟨ret_bool hne.out.symm, 0, rfl⟩

section
variable {w0 w w' : World} {l : List (Value × List Nat)} {va vb : Value} {xs ys : List Nat}
theorem refsame_env (h : Env w0 w l) (ha : (va, xs) ∈ l) (hb : (vb, ys) ∈ l) : Calls Try.prog 34 #[va, vb] w fun e w' => e = .returned (.bool (eqb xs ys)) ∧ Env w0 w' l := by
  obtain ⟨A, cap, rfl, _, _, hr⟩ := h.get ha
  obtain ⟨A', cap', rfl, h1', h2', hr'⟩ := h.get hb
  exact (same_any A A' cap cap' xs ys w _ hr hr' (Nat.le_trans h1' h2')).mono fun _ _ ⟨he, n, hw⟩ => ⟨he, by rw [hw]; exact h.drewN n⟩
set_option maxHeartbeats 1000000 in
theorem same_env (h : Env w0 w l) (ha : (va, xs) ∈ l) (hb : (vb, ys) ∈ l) : Calls Try.prog 15 #[va, vb] w fun e w' => e = .returned (.bool (eqb xs ys)) ∧ Env w0 w' l := by
  have c := refsame_env h ha hb
  clear h ha hb
  go_enter Try.func15, Try.ntmps15
  go_wp2_with fail
  refine c.mono ?_
  rintro e w' ⟨rfl, env⟩
  clear c
  go_wp2
  go_ret
  exact ⟨rfl, env⟩
theorem lof_any (v : Value) (w : World) : Calls Try.prog 13 #[v] w fun e w' => e = .returned v ∧ w' = w := by
  go_enter Try.func13, Try.ntmps13
  go_wp2
  go_ret
  exact ⟨rfl, rfl⟩
theorem lof_env {v : Value} (h : Env w0 w ((v, xs) :: l)) : Calls Try.prog 13 #[v] w fun e w' => ∃ r, e = .returned r ∧ Env w0 w' ((r, xs) :: l) :=
  (lof_any v w).mono fun _ _ ⟨he, hw⟩ => ⟨v, he, by rw [hw]; exact h⟩
theorem same_yes (h : Env w0 w l) (ha : (va, xs) ∈ l) (hb : (vb, ys) ∈ l) (he : xs = ys) : Calls Try.prog 15 #[va, vb] w fun e w' => e = .returned (.bool true) ∧ Env w0 w' l := by
  have := same_env h ha hb
  subst he
  rwa [eqb_refl] at this
end

/-! ### closed reckonings -/
theorem sAdd_eq {xs ys zs : List Nat} (hx : mayb xs = true) (hy : mayb ys = true) (hz : mayb zs = true) (hl : Limbs zs) (h : val xs + val ys = val zs) : sAdd xs ys = zs := by
  rw [sAdd_yes (by simp [hx, hy]), h, clip_val hl hz]
theorem sSub_ok {xs ys : List Nat} (hx : mayb xs = true) (hy : mayb ys = true) (h : val ys ≤ val xs) : sSubOk xs ys = true := by
  unfold sSubOk; simp [hx, hy, h]
theorem sSub_eq {xs ys zs : List Nat} (hx : mayb xs = true) (hy : mayb ys = true) (hz : mayb zs = true) (hl : Limbs zs) (h : val ys + val zs = val xs) : sSub xs ys = zs := by
  rw [sSub_yes (sSub_ok hx hy (by omega)), show val xs - val ys = val zs from by omega, lim_val (mayb_canon hl hz)]
theorem sShl_eq {xs zs : List Nat} {k : Nat} (hx : mayb xs = true) (hz : mayb zs = true) (hl : Limbs zs) (h : val xs * 2 ^ k = val zs) : sShl xs (k : Int) = zs := by
  rw [sShl_yes hx, h, clip_val hl hz]
theorem sShr_eq {xs zs : List Nat} {k : Nat} (hx : mayb xs = true) (hz : mayb zs = true) (hl : Limbs zs) (h : val xs / 2 ^ k = val zs) : sShr xs (k : Int) = zs := by
  rw [sShr_yes hx, h, lim_val (mayb_canon hl hz)]
theorem lim_eq {u : Nat} {zs : List Nat} (hz : mayb zs = true) (hl : Limbs zs) (h : val zs = u) : lim u = zs := by
  rw [← h, lim_val (mayb_canon hl hz)]

end Go.Proofs.Ytlfhpoffphljfaa

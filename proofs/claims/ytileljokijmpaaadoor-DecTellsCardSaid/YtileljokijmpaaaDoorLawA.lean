/- The laws' words for decimals: same, is, works. -/
import Derived.Test.YtileljokijmpaaaDoorDecI
import Derived.Test.YtileljokijmpaaaDoorDecM
namespace Go.Proofs.YtileljokijmpaaaDoor
open Go.RowKit Go.Shelf

set_option linter.unusedVariables false
set_option linter.unusedSimpArgs false

theorem bytes_str (s : ByteArray) : ∃ L, Codes L ∧ L.length = s.size ∧ s = str L := by
  refine ⟨s.data.toList.map UInt8.toNat, fun c hc => ?_, by rw [List.length_map, Array.length_toList]; rfl, ?_⟩
  · obtain ⟨x, _, rfl⟩ := List.mem_map.1 hc
    exact x.toNat_lt
  · apply ByteArray.ext
    show s.data = ((s.data.toList.map UInt8.toNat).map UInt8.ofNat).toArray
    rw [List.map_map, show (UInt8.ofNat ∘ UInt8.toNat) = id from by funext x; simp, List.map_id]

theorem pN_limbs (L : List Nat) : Limbs (pN L) := by
  unfold pN; split
  · exact clip_limbs _
  · exact limbs_nil
theorem sPow10_limbs (k : Int) : Limbs (sPow [10] k) := sPow_limbs _ _
theorem pN_no {L : List Nat} (h : isT L = false) : pN L = [] := by unfold pN; rw [h]; rfl
theorem pE_no {L : List Nat} (h : isT L = false) : pE L = 4 := by unfold pE; rw [h]; rfl
theorem pN_txt {xs : List Nat} (hl : Limbs xs) (hm : mayb xs = true) : pN (txt (val xs)) = xs := by
  unfold pN; rw [txt_isT, if_pos rfl, dv_txt, clip_val hl hm]
theorem may_len {xs : List Nat} (hl : Limbs xs) (hm : mayb xs = true) : (lim (val xs)).length ≤ 65536 := by
  rw [lim_val (mayb_canon hl hm)]
  exact (mayb_iff.1 hm).1
theorem pE_txt {xs : List Nat} (hl : Limbs xs) (hm : mayb xs = true) : pE (txt (val xs)) = 0 := by
  unfold pE; rw [txt_isT, if_pos rfl, dv_txt, if_pos (may_len hl hm)]

section
variable {w0 w w' : World} {l : List (Value × List Nat)} {va vb : Value} {xs ys zs : List Nat}
theorem show_env (h : Env w0 w l) (ha : (va, xs) ∈ l) : Calls Tryd.prog 16 #[va] w fun e w' => e = .returned (.string (str (sShow xs))) ∧ Env w0 w' l :=
  (show_any va xs w (h.get ha)).mono fun _ _ ⟨he, hb⟩ => ⟨he, h.step hb⟩
theorem digits_env (h : Env w0 w l) (ha : (va, xs) ∈ l) : Calls Tryd.prog 17 #[va] w fun e w' => e = .returned (.int .i64 (sDigits xs : Nat)) ∧ Env w0 w' l :=
  (digits_any va xs w (h.get ha)).mono fun _ _ ⟨he, hb⟩ => ⟨he, h.step hb⟩
theorem parse_env (h : Env w0 w l) {L : List Nat} (hc : Codes L) (hl : L.length < 9223372036854775808) : Calls Tryd.prog 15 #[.string (str L)] w fun e w' => ∃ A c, e = .returned (.tuple #[.slice A (pN L).length c, .int .i64 (pE L : Nat)]) ∧ Env w0 w' ((.slice A (pN L).length c, pN L) :: l) :=
  (parse_any L w hc hl).mono fun _ _ hp => by
    obtain ⟨⟨v, he, ho⟩, hb⟩ := hp
    obtain ⟨A, c, rfl⟩ := own_form ho rfl
    exact ⟨A, c, he, h.add hb (ho.arg (pN_limbs L))⟩
theorem ten_env (h : Env w0 w l) (k : Int) (hk : k < 9223372036854775808) (hk0 : -9223372036854775808 ≤ k) (hz : sPow [10] k = zs) : Calls Tryd.prog 10 #[.int .i64 k] w fun e w' => ∃ r, e = .returned r ∧ Env w0 w' ((r, zs) :: l) := by
  subst hz
  refine (ten_any k w hk hk0).mono fun _ _ hn => ?_
  obtain ⟨⟨v, he, ho⟩, hb⟩ := hn
  exact ⟨v, he, h.add hb (ho.arg (sPow10_limbs k))⟩
theorem split_env (h : Env w0 w l) (ha : (va, xs) ∈ l) (k : Int) (hk : k < 9223372036854775808) (hk0 : -9223372036854775808 ≤ k) (hy : sHi xs k = ys) (hz : sLo xs k = zs) : Calls Tryd.prog 13 #[va, .int .i64 k] w fun e w' => ∃ A c r, e = .returned (.tuple #[.slice A ys.length c, r]) ∧ Env w0 w' ((.slice A ys.length c, ys) :: (r, zs) :: l) := by
  subst hy hz
  refine (split_any va xs k w (h.get ha) hk hk0).mono fun _ w2 hn => ?_
  obtain ⟨⟨v, v', he, ho, ho'⟩, hb⟩ := hn
  obtain ⟨A, c, rfl⟩ := own_form ho rfl
  exact ⟨A, c, v', he, (h.add hb (ho'.arg (sLo_limbs xs k))).add (Below.refl _ _) (ho.arg (sHi_limbs xs k))⟩
set_option maxHeartbeats 1000000 in
theorem same4_env (h : Env w0 w l) (ha : (va, xs) ∈ l) (hb : (vb, ys) ∈ l) : Calls Tryd.prog 14 #[va, vb] w fun e w' => e = .returned (.bool (eqb xs ys)) ∧ Env w0 w' l := by
  have c := refsame_env h ha hb
  clear h ha hb
  go_enter Tryd.func14, Tryd.ntmps14
  go_wp2_with fail
  refine c.mono ?_
  rintro e w' ⟨rfl, env⟩
  clear c
  go_wp2
  go_ret
  exact ⟨rfl, env⟩
theorem same4_yes (h : Env w0 w l) (ha : (va, xs) ∈ l) (hb : (vb, ys) ∈ l) (he : xs = ys) : Calls Tryd.prog 14 #[va, vb] w fun e w' => e = .returned (.bool true) ∧ Env w0 w' l := by
  have := same4_env h ha hb
  subst he
  rwa [eqb_refl] at this
set_option maxHeartbeats 4000000 in
set_option maxRecDepth 100000 in
theorem is_yes (h : Env w0 w l) (ha : (va, xs) ∈ l) (hm : mayb xs = true) {s : ByteArray} (hs : s = str (txt (val xs))) (hlen : nd (val xs) < 9223372036854775808) : Calls Tryd.prog 7 #[va, .string s] w fun e w' => e = .returned (.bool true) ∧ Env w0 w' l := by
  subst hs
  have hl := (h.get ha).limbs
  have HA := Lib.hid ha
  have c0 := parse_env h (L := txt (val xs)) (txt_alld _).codes (by rw [txt_length]; exact hlen)
  rw [pN_txt hl hm, pE_txt hl hm] at c0
  have H1 := Lib.hid (sShow_yes hm)
  have H2 := Lib.hid (sDigits_yes hm)
  have hbq := str_beq (txt_alld (val xs)).codes (txt_alld (val xs)).codes
  rw [decide_eq_true rfl] at hbq
  have hsz : (str (txt (val xs))).size = nd (val xs) := by rw [str_size, txt_length]
  clear h ha
  go_enter Tryd.func7, Tryd.ntmps7
  go_wp2_with fail
  refine c0.mono ?_
  rintro e w1 ⟨A, c, rfl, env1⟩
  clear c0
  have c1 := show_env env1 (List.mem_cons_of_mem _ HA.out)
  rw [H1.out] at c1
  go_wp2_with fail
  refine c1.mono ?_
  rintro e w2 ⟨rfl, env2⟩
  clear c1 env1
  have c2 := digits_env env2 (List.mem_cons_of_mem _ HA.out)
  rw [H2.out] at c2
  go_wp2_with fail
  refine c2.mono ?_
  rintro e w3 ⟨rfl, env3⟩
  clear c2 env2
  go_wp2_with fail
  refine (same4_yes env3 (va := .slice A xs.length c) (xs := xs) List.mem_cons_self (List.mem_cons_of_mem _ HA.out) rfl).mono ?_
  rintro e w4 ⟨rfl, env4⟩
  have HE := Lib.hid env4.pop
  clear env3 env4
  go_wp2
  go_ret
  exact ⟨rfl, HE.out⟩
end

theorem bad4 : ∀ k, k < 4 → ∃ L : List Nat, Codes L ∧ L.length < 3 ∧ isT L = false ∧ #[Value.string ⟨#[48, 48]⟩, Value.string ⟨#[]⟩, Value.string ⟨#[49, 97]⟩, Value.string ⟨#[45, 49]⟩][k]? = some (.string (str L)) := by
  intro k hk
  have cs : ∀ a b, a < 256 → b < 256 → Codes [a, b] := fun a b h1 h2 c hc => by
    rcases List.mem_cons.1 hc with rfl | hc
    · exact h1
    · rw [List.mem_singleton.1 hc]; exact h2
  match k, hk with
  | 0, _ => exact ⟨[48, 48], cs _ _ (by decide) (by decide), by decide, by decide, rfl⟩
  | 1, _ => exact ⟨[], (fun c hc => (by cases hc)), by decide, by decide, rfl⟩
  | 2, _ => exact ⟨[49, 97], cs _ _ (by decide) (by decide), by decide, by decide, rfl⟩
  | 3, _ => exact ⟨[45, 49], cs _ _ (by decide) (by decide), by decide, by decide, rfl⟩

set_option maxRecDepth 100000 in
set_option maxHeartbeats 8000000 in
theorem works4_any (w : World) : Calls Tryd.prog 6 #[] w fun e w' => e = .returned (.bool true) ∧ Below w.heap.size w w' := by
  have env := env_start w
  have one : ∀ {x : Nat}, x < 4294967296 → Limbs [x] := fun h => Limbs.one h
  have L1 := Lib.hid (lim_eq (u := 12345) (zs := [12345]) (by decide) (one (by decide)) (by decide))
  have L2 := Lib.hid (lim_eq (u := 123) (zs := [123]) (by decide) (one (by decide)) (by decide))
  have L3 := Lib.hid (lim_eq (u := 45) (zs := [45]) (by decide) (one (by decide)) (by decide))
  have L4 := Lib.hid (lim_eq (u := 1000000000) (zs := [1000000000]) (by decide) (one (by decide)) (by decide))
  have S1 : Hid (sHi [12345] 2 = [123]) := by
    show _ = _
    unfold sHi; rw [if_pos (by decide)]; exact lim_eq (by decide) (one (by decide)) (by decide)
  have S2 : Hid (sLo [12345] 2 = [45]) := by
    show _ = _
    unfold sLo; rw [if_pos (by decide)]; exact lim_eq (by decide) (one (by decide)) (by decide)
  have S3 : Hid (sHi [12345] 9 = []) := by
    show _ = _
    unfold sHi; rw [if_pos (by decide)]; exact lim_eq (by decide) limbs_nil (by decide)
  have S4 : Hid (sLo [12345] 9 = [12345]) := by
    show _ = _
    unfold sLo; rw [if_pos (by decide)]; exact lim_eq (by decide) (one (by decide)) (by decide)
  have S5 : Hid (sPow [10] 9 = [1000000000]) := by
    show _ = _
    have e : lim (val [10] ^ (9 : Int).toNat) = [1000000000] := lim_eq (by decide) (one (by decide)) (by decide)
    unfold sPow; rw [if_pos (by decide), clip_of (by rw [e]; decide), e]
  have S6 : Hid (nd (val [0, 0, 1]) = 20) := nd_unique (by decide) (by decide) (by decide)
  have S7 : Hid ((⟨#[49, 56, 52, 52, 54, 55, 52, 52, 48, 55, 51, 55, 48, 57, 53, 53, 49, 54, 49, 54]⟩ : ByteArray) = str (txt (val [0, 0, 1]))) := by
    show _ = _
    unfold txt; rw [S6.out]; rfl
  clear one
  go_enter Tryd.func6, Tryd.ntmps6
  go_wp2_with fail
  have hcell : ∀ k v, #[Value.string ⟨#[48, 48]⟩, Value.string ⟨#[]⟩, Value.string ⟨#[49, 97]⟩, Value.string ⟨#[45, 49]⟩][k]? = some v → (w.alloc (.cells #[Value.string ⟨#[48, 48]⟩, Value.string ⟨#[]⟩, Value.string ⟨#[49, 97]⟩, Value.string ⟨#[45, 49]⟩] 9)).cell? ⟨w.heap.size, k, none⟩ = some v := fun k v h => by
    simp only [World.cell?, World.alloc_heap_new]
    exact h
  have hB0 : Below w.heap.size w (w.alloc (.cells #[Value.string ⟨#[48, 48]⟩, Value.string ⟨#[]⟩, Value.string ⟨#[49, 97]⟩, Value.string ⟨#[45, 49]⟩] 9)) := (Below.refl _ w).alloc (Nat.le_refl _) _
  have hsz : (w.alloc (.cells #[Value.string ⟨#[48, 48]⟩, Value.string ⟨#[]⟩, Value.string ⟨#[49, 97]⟩, Value.string ⟨#[45, 49]⟩] 9)).heap.size = w.heap.size + 1 := by simp
  generalize w.alloc (.cells #[Value.string ⟨#[48, 48]⟩, Value.string ⟨#[]⟩, Value.string ⟨#[49, 97]⟩, Value.string ⟨#[45, 49]⟩] 9) = W at *
  go_loopw [11] (fun i wr => ∃ k : Nat, k ≤ 4 ∧ i = .int .i64 (k : Int) ∧ Below W.heap.size W wr) (fun i _ => 4 - (intOf i).toNat)
  case atStart => exact ⟨0, Nat.zero_le _, rfl, Below.refl _ _⟩
  case round =>
    obtain ⟨k, hk, rfl, hBr⟩ := hrel
    by_cases hlt : k < 4
    · obtain ⟨L, hc, hl, hT, hv⟩ := bad4 k hlt
      have hx := (hBr.cell (p := ⟨w.heap.size, k, none⟩) (by rw [hsz]; exact Nat.lt_succ_self _)).trans (hcell k _ hv)
      have c0 := parse_any L wr hc (by omega)
      rw [pN_no hT, pE_no hT] at c0
      clear hcell hv hc hl hT env hB0
      go_wp2_with fail
      refine c0.mono ?_
      rintro e w1 ⟨⟨v, rfl, ho⟩, hb1⟩
      clear c0
      obtain ⟨A, c, rfl⟩ := own_form (X := []) ho rfl
      have HB := Lib.hid (hBr.trans (hb1.mono hBr.size))
      clear ho hb1 hx
      go_wp2_with fail
      go_roundw
      case rel => exact ⟨k + 1, by omega, by go_num, HB.out⟩
      case measure => simp [intOf]; omega
    · obtain rfl : k = 4 := by omega
      have env0 : Env w wr [] := ⟨hB0.trans (hBr.mono (by omega)), fun _ h => by cases h⟩
      clear env hB0 hcell hBr
      go_wp2_with fail
      refine (of_env env0 12345 (by decide)).mono ?_
      rw [L1.out]
      rintro e w1 ⟨r1, rfl, env1⟩
      clear env0
      go_wp2_with fail
      refine (split_env env1 (va := r1) (xs := [12345]) List.mem_cons_self 2 (by decide) (by decide) S1.out S2.out).mono ?_
      rintro e w2 ⟨A2, c2, r2, rfl, env2⟩
      clear env1
      go_wp2_with fail
      refine (of_env env2 12345 (by decide)).mono ?_
      rw [L1.out]
      rintro e w3 ⟨r3, rfl, env3⟩
      clear env2
      go_wp2_with fail
      refine (split_env env3 (va := r3) (xs := [12345]) List.mem_cons_self 9 (by decide) (by decide) S3.out S4.out).mono ?_
      rintro e w4 ⟨A4, c4, r4, rfl, env4⟩
      clear env3
      go_wp2_with fail
      refine (is_yes (env4.lit3 0 0 1 0 0 1 rfl rfl rfl (by decide) (by decide) (by decide)) (xs := [0, 0, 1]) List.mem_cons_self (by decide) S7.out (by rw [S6.out]; decide)).mono ?_
      rintro e w5 ⟨rfl, env5⟩
      clear env4
      go_wp2_with fail
      refine (ten_env env5 9 (by decide) (by decide) S5.out).mono ?_
      rintro e w6 ⟨r6, rfl, env6⟩
      clear env5
      go_wp2_with fail
      refine (of_env env6 1000000000 (by decide)).mono ?_
      rw [L4.out]
      rintro e w7 ⟨r7, rfl, env7⟩
      clear env6
      go_wp2_with fail
      refine (same4_yes env7 (va := r6) (vb := r7) (xs := [1000000000]) (ys := [1000000000]) (by simp) (by simp) rfl).mono ?_
      rintro e w8 ⟨rfl, env8⟩
      clear env7
      go_wp2_with fail
      refine (of_env env8 123 (by decide)).mono ?_
      rw [L2.out]
      rintro e w9 ⟨r9, rfl, env9⟩
      clear env8
      go_wp2_with fail
      refine (same4_yes env9 (va := .slice A2 [123].length c2) (vb := r9) (xs := [123]) (ys := [123]) (by simp) (by simp) rfl).mono ?_
      rintro e w10 ⟨rfl, env10⟩
      clear env9
      go_wp2_with fail
      refine (of_env env10 45 (by decide)).mono ?_
      rw [L3.out]
      rintro e w11 ⟨r11, rfl, env11⟩
      clear env10
      go_wp2_with fail
      refine (same4_yes env11 (va := r2) (vb := r11) (xs := [45]) (ys := [45]) (by simp) (by simp) rfl).mono ?_
      rintro e w12 ⟨rfl, env12⟩
      clear env11
      go_wp2_with fail
      refine (of_env env12 12345 (by decide)).mono ?_
      rw [L1.out]
      rintro e w13 ⟨r13, rfl, env13⟩
      clear env12
      go_wp2_with fail
      refine (same4_yes env13 (va := r4) (vb := r13) (xs := [12345]) (ys := [12345]) (by simp) (by simp) rfl).mono ?_
      rintro e w14 ⟨rfl, env14⟩
      have HB := Lib.hid env14.1
      clear env13 env14
      go_wp2
      go_ret
      exact ⟨rfl, HB.out⟩
theorem works4_env {w0 w : World} {l : List (Value × List Nat)} (h : Env w0 w l) : Calls Tryd.prog 6 #[] w fun e w' => e = .returned (.bool true) ∧ Env w0 w' l :=
  (works4_any w).mono fun _ _ ⟨he, hb⟩ => ⟨he, h.step hb⟩

end Go.Proofs.YtileljokijmpaaaDoor

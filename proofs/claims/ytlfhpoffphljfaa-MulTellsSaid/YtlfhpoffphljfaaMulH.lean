/- Contract: byHalves, at the product that times hands it. -/
import Derived.Laws.EntriesVeiled
import Derived.OneCell
import Derived.Test.YtlfhpoffphljfaaMulG
import Derived.Test.YtlfhpoffphljfaaMulFb
namespace Go.Proofs.Ytlfhpoffphljfaa
open Go.RowKit Go.Shelf

set_option linter.unusedVariables false

theorem Box.to {w w' : World} {B : Nat} {v : Value} (h : Box w B v) (hb : Below w.heap.size w w') : Box w' B v := ⟨Nat.lt_of_lt_of_le h.1 hb.size, (hb.cell (p := ⟨B, 0, none⟩) h.1).trans h.2⟩
theorem kar_room {Z : List Nat} {half C T : Nat} (hl : Z.length = 4 * half) (hZ : Limbs Z) (h : val Z + 4294967296 ^ half * C = T) (hT : T < 4294967296 ^ (4 * half)) : seg Z half (4 * half - half) + C < 4294967296 ^ (4 * half - half) := by
  rw [← seg_val Z, hl] at h
  have e : seg Z 0 (4 * half) = seg Z 0 half + 4294967296 ^ half * seg Z half (4 * half - half) := by
    conv => lhs; rw [show 4 * half = half + (4 * half - half) from by omega]
    rw [seg_add, Nat.zero_add]
  have e2 : 4294967296 ^ (4 * half) = 4294967296 ^ half * 4294967296 ^ (4 * half - half) := by rw [← Nat.pow_add]; congr 1; omega
  rw [e] at h
  rw [e2] at hT
  have h3 : 4294967296 ^ half * (seg Z half (4 * half - half) + C) < 4294967296 ^ half * 4294967296 ^ (4 * half - half) := by
    rw [Nat.mul_add]; omega
  exact Nat.lt_of_mul_lt_mul_left h3
theorem kar_done {Z X : List Nat} {half n C T : Nat} (S : Same Z half n X) (D : seg X half n = seg Z half n + val (lim C)) (h : val Z + 4294967296 ^ half * C = T) (hn : half + n ≤ Z.length) : val X = T := by
  have := S.whole hn
  rw [D, val_lim, Nat.mul_add] at this
  omega
/-- What the three products' lengths are. -/
theorem kar_facts {l h l' h' half : Nat} (q1 : l < 4294967296 ^ half) (q2 : l' < 4294967296 ^ half) (q3 : h < 4294967296 ^ half) (q4 : h' < 4294967296 ^ half) (q5 : 0 < h) (q6 : 0 < h') (q7 : l + h < 4294967296 ^ (half + 1)) (q8 : l' + h' < 4294967296 ^ (half + 1)) :
    (lim (l * l')).length ≤ 2 * half ∧ (lim (h * h')).length ≤ 2 * half ∧ 0 < (lim ((l + h) * (l' + h'))).length ∧ (lim ((l + h) * (l' + h'))).length ≤ 2 * half + 2 ∧ (lim (l * l')).length ≤ (lim ((l + h) * (l' + h'))).length ∧ (lim (h * h')).length ≤ (lim ((l + h) * (l' + h'))).length ∧ l * l' + h * h' ≤ (l + h) * (l' + h') := by
  have e : (l + h) * (l' + h') = l * l' + h * h' + (l * h' + h * l') := by grind
  have hle : l * l' + h * h' ≤ (l + h) * (l' + h') := by omega
  have mono : ∀ {n m : Nat}, n ≤ m → (lim n).length ≤ (lim m).length := fun {n m} hnm => by
    rw [lim_length_le]
    have := val_lt (lim_limbs m)
    rw [val_lim] at this
    omega
  refine ⟨lim_le ?_, lim_le ?_, ?_, lim_le ?_, mono (by omega), mono (by omega), hle⟩
  · rw [pow_two_mul]; exact Nat.mul_lt_mul'' q1 q2
  · rw [pow_two_mul]; exact Nat.mul_lt_mul'' q3 q4
  · have : 0 < h * h' := Nat.mul_pos q5 q6
    exact List.length_pos_iff.2 fun e => by have := lim_eq_nil.1 e; omega
  · rw [show 2 * half + 2 = 2 * (half + 1) from by omega, pow_two_mul]; exact Nat.mul_lt_mul'' q7 q8
/-- The whole product, and that it has room. -/
theorem kar_top {l h l' h' half V V' : Nat} (q1 : l < 4294967296 ^ half) (q2 : l' < 4294967296 ^ half) (q3 : h < 4294967296 ^ half) (q4 : h' < 4294967296 ^ half) (v1 : V = l + 4294967296 ^ half * h) (v2 : V' = l' + 4294967296 ^ half * h') :
    ∀ C : Nat, C + h * h' + l * l' = (l + h) * (l' + h') → l * l' + 4294967296 ^ (2 * half) * (h * h') + 4294967296 ^ half * C = V * V' ∧ V * V' < 4294967296 ^ (4 * half) := by
  intro C hC
  refine ⟨by rw [pow_two_mul, v1, v2]; exact kar_sum hC, ?_⟩
  have b : ∀ {a b V : Nat}, a < 4294967296 ^ half → b < 4294967296 ^ half → V = a + 4294967296 ^ half * b → V < 4294967296 ^ (2 * half) := fun {a b V} ha hb hv => by
    rw [pow_two_mul]
    have : 4294967296 ^ half * (b + 1) ≤ 4294967296 ^ half * 4294967296 ^ half := Nat.mul_le_mul_left _ hb
    rw [Nat.mul_add, Nat.mul_one] at this
    omega
  rw [show 4 * half = 2 * (2 * half) from by omega, pow_two_mul]
  exact Nat.mul_lt_mul'' (b q1 q3 v1) (b q2 q4 v2)
theorem Env.addNew {w0 w w' : World} {l : List (Value × List Nat)} {n : Nat} {e : Ending} (E : Env w0 w l) (h : NewNat w n e w') : ∃ v, e = .returned v ∧ Env w0 w' ((v, lim n) :: l) := by
  obtain ⟨⟨v, he, ho⟩, hb⟩ := h
  exact ⟨v, he, E.add hb (ho.arg (lim_limbs _))⟩
theorem Box.new (w : World) (v : Value) (t : TypeId) : Box (w.alloc (.cells #[v] t)) w.heap.size v := ⟨by simp, by
  have := (Boxed.new w t v).cell
  exact this⟩
theorem Box.new' (w : World) (v : Value) (t : TypeId) {n : Nat} (h : n = w.heap.size) : Box (w.alloc (.cells #[v] t)) n v := by subst h; exact Box.new w v t
theorem Box.past {w : World} {B : Nat} {v : Value} (h : Box w B v) (o : Obj) : Box (w.alloc o) B v := h.to ((Below.refl _ w).alloc (Nat.le_refl _) o)

set_option maxRecDepth 100000 in
set_option maxHeartbeats 8000000 in
theorem byHalves_times {w : World} {va vb : Value} {xs ys : List Nat} {half pa pb n : Nat} (IH : TimesAt n) (ha : Arg w va xs) (hv : Arg w vb ys) (cx : Canon xs) (cy : Canon ys) (h0 : half < xs.length) (h0' : half < ys.length) (hl : xs.length ≤ 2 * half) (hl' : ys.length ≤ 2 * half) (hA : Box w pa va) (hP : Box w pb vb) (h1 : 0 < half) (hm : half ≤ 65535) (hn : 2 * half + 2 ≤ n) :
    Calls Try.prog 58 #[.int .i64 (half : Int), .func (.func 59) #[] #[.pointer (some ⟨pa, 0, none⟩), .pointer (some ⟨pb, 0, none⟩)]] w (NewNat w (val xs * val ys)) := by
  obtain ⟨i0, hti, hz0, hz1, hz2⟩ := info_parts info32
  -- the world behind the three boxes
  obtain ⟨wB, hwB⟩ : ∃ wB, wB = ((w.alloc (.cells #[.int .i64 (half : Int)] 3)).alloc (.cells #[.func (.func 67) #[] #[.pointer (some ⟨w.heap.size, 0, none⟩)]] 41)).alloc (.cells #[.func (.func 68) #[] #[.pointer (some ⟨w.heap.size, 0, none⟩)]] 41) := ⟨_, rfl⟩
  have hbB : Below w.heap.size w wB := by rw [hwB]; exact (((Below.refl _ w).alloc (Nat.le_refl _) _).alloc (by simp) _).alloc (by simp; omega) _
  have hsz : wB.heap.size = w.heap.size + 3 := by rw [hwB]; simp
  have bH : Box wB w.heap.size (.int .i64 (half : Int)) := by rw [hwB]; exact ((Box.new w _ _).past _).past _
  have bL : Box wB (w.heap.size + 1) (lowF w.heap.size) := by rw [hwB]; exact (Box.new' _ _ _ (by simp)).past _
  have bG : Box wB (w.heap.size + 1 + 1) (highF w.heap.size) := by rw [hwB]; exact Box.new' _ _ _ (by simp)
  have HWB := Lib.hid hwB
  clear hwB
  go_enter Try.func58, Try.ntmps58
  go_upto_region 3 with fail
  rw [← HWB.out]
  have kL := bL.2
  have kG := bG.2
  unfold lowF at kL
  unfold highF at kG
  have hbd := hbB.drew
  have bd := (Below.refl wB.heap.size wB).drew
  have c1 := times1_low IH (ha.below hbd) (hv.below hbd) (hA.to hbd) (hP.to hbd) (bH.to bd) cx cy h0 h0' hl hl' h1 hm hn
  unfold lowF at c1
  have Ed := (env_start wB).drew
  go_cut [7, 8] (fun s7 s8 wx => Env wB wx [(s8, lim (hi xs half * hi ys half)), (s7, lim (lo xs half * lo ys half))])
  case first =>
    go_region_with (first
      | (go_at_call_of 59 (Value.func (.func 67) #[] #[.pointer (some ⟨w.heap.size, 0, none⟩)]); (with_reducible refine c1.mono ?_); rintro e w1 hN1; obtain ⟨v1, rfl, E1⟩ := Ed.addNew hN1; have kG1 := bG.at E1; unfold highF at kG1; have hb1 := hbB.trans (E1.1.mono hbB.size); have c2 := times1_high IH (ha.below hb1) (hv.below hb1) (hA.to hb1) (hP.to hb1) (bH.to E1.1) cx cy h0 h0' hl hl' h1 hm hn; unfold highF at c2; clear hN1)
      | (go_at_call_of 59 (Value.func (.func 68) #[] #[.pointer (some ⟨w.heap.size, 0, none⟩)]); (with_reducible refine c2.mono ?_); rintro e w2 hN2; obtain ⟨v2, rfl, E2⟩ := E1.addNew hN2; clear hN2))
    all_goals
      have HE := Lib.hid E2
      clear E1 E2 c1 c2 kG1 hb1
      go_wp2_with fail
      go_meet
      exact HE.out
  case rest =>
    have EC := hcut
    clear hcut c1 hbd bd Ed kL kG
    have hbc := hbB.trans (EC.1.mono hbB.size)
    have c3 := times1_both IH (ha.below hbc) (hv.below hbc) (hA.to hbc) (hP.to hbc) (bH.to EC.1) (bL.to EC.1) (bG.to EC.1) cx cy h0 h0' hl hl' h1 hm hn
    unfold bothF at c3
    have q1 := lo_lt cx.1 half
    have q2 := lo_lt cy.1 half
    have q3 := hi_lt cx.1 hl
    have q4 := hi_lt cy.1 hl'
    have q5 := hi_pos cx h0
    have q6 := hi_pos cy h0'
    have q7 := both_lt cx.1 hl
    have q8 := both_lt cy.1 hl'
    have v1 := val_lohi xs (Nat.le_of_lt h0)
    have v2 := val_lohi ys (Nat.le_of_lt h0')
    have HF := Lib.hid (kar_facts q1 q2 q3 q4 q5 q6 q7 q8)
    have HT := Lib.hid (kar_top q1 q2 q3 q4 v1 v2)
    clear q1 q2 q3 q4 q5 q6 q7 q8 v1 v2
    generalize hLL : lim (lo xs half * lo ys half) = Ll at *
    generalize hHH : lim (hi xs half * hi ys half) = Hl at *
    generalize hCC : lim ((lo xs half + hi xs half) * (lo ys half + hi ys half)) = Cl at *
    have LL := Lib.hid hLL
    have HH := Lib.hid hHH
    have CC := Lib.hid hCC
    clear hLL hHH hCC
    obtain ⟨Ah, caph, rfl, _, _, rh⟩ := EC.get (v := u8) (xs := Hl) (by simp)
    obtain ⟨Al, capl, rfl, _, _, rl⟩ := EC.get (v := u7) (xs := Ll) (by simp)
    have kH0 := bH.to EC.1
    have EB := Lib.hid EC
    clear EC
    go_wp2_with fail
    with_reducible refine c3.mono ?_
    rintro e w3 hN3
    obtain ⟨⟨v3, rfl, ho3⟩, hb3⟩ := hN3
    rw [CC.out] at ho3
    clear c3
    have F := HF.out
    obtain ⟨f1, f2, f3, f4, f5, f6, f7⟩ := F
    obtain ⟨g, cz, rfl⟩ := ho3.head f3
    have lC : Limbs Cl := by rw [← CC.out]; exact lim_limbs _
    have vL : val Ll = lo xs half * lo ys half := by rw [← LL.out, val_lim]
    have vH : val Hl = hi xs half * hi ys half := by rw [← HH.out, val_lim]
    have vC : val Cl = (lo xs half + hi xs half) * (lo ys half + hi ys half) := by rw [← CC.out, val_lim]
    have c4 := sub_in g 0 Cl.length cz cz Al capl Ll Cl w3 wc.heap.size ho3 lC (by omega) (rl.below hb3 (Nat.le_refl _)) f5 (by omega) (by rw [seg_val, vL, vC]; omega)
    have HR1 := Lib.hid (And.intro vL (And.intro vH vC))
    have HFF := Lib.hid (And.intro f1 (And.intro f2 (And.intro f4 (And.intro f6 f7))))
    clear vL vH vC f1 f2 f3 f4 f5 f6 f7 ho3
    go_wp2_with fail
    with_reducible refine c4.mono ?_
    rintro e w4 ⟨X1, rfl, S1, D1, ho4, hb4⟩
    clear c4
    have c5 := sub_in g 0 Cl.length cz cz Ah caph Hl X1 w4 wc.heap.size ho4 S1.2.1 (by rw [S1.1]; omega) (rh.below (hb3.trans hb4) (Nat.le_refl _)) HFF.out.2.2.2.1 (by have := HFF.out.2.2.1; omega) (by
      obtain ⟨vL, vH, vC⟩ := HR1.out
      have f7 := HFF.out.2.2.2.2
      rw [seg_val, vC, vL] at D1
      rw [vH]
      omega)
    have HS1 := Lib.hid (And.intro S1 D1)
    clear S1 D1 ho4
    go_wp2_with fail
    with_reducible refine c5.mono ?_
    rintro e w5 ⟨X2, rfl, S2, D2, ho5, hb5⟩
    clear c5
    have hX2 : val X2 + hi xs half * hi ys half + lo xs half * lo ys half = (lo xs half + hi xs half) * (lo ys half + hi ys half) := by
      obtain ⟨vL, vH, vC⟩ := HR1.out
      obtain ⟨S1, D1⟩ := HS1.out
      have e2 : seg X2 0 Cl.length = val X2 := seg_all (by rw [S2.1, S1.1]; exact Nat.le_refl _)
      rw [seg_val, vC, vL] at D1
      rw [e2, vH] at D2
      omega
    have hX2l : X2.length = Cl.length := by rw [S2.1, HS1.out.1.1]
    have hT := Lib.hid (HT.out _ hX2)
    have HX2l := Lib.hid hX2l
    have hb35 := hb3.trans (hb4.trans hb5)
    have k5 := kH0.to hb35
    have kc5 := k5.2
    have HLX2 := Lib.hid S2.2.1
    have HO5 := Lib.hid ho5
    clear S2 D2 hX2 hX2l ho5 hb4 hb5 hb3
    go_upto_region 10 with (first
      | (at_make; refine wpList_make_full _ rfl _ _ 26 rfl w5.heap.size 28 i0 (.int .u32 0) 1 Try.underlying26 hti hz0 hz1 .i64 .i64 _ _ (4 * half) rfl rfl (by omega) (by omega) (by rw [hz2]; omega) (by unfold maxLen; omega) (Nat.le_refl _) ?_; intro w6 hown6 hgrow6; have hB6 : Below w5.heap.size w5 w6 := (Below.refl _ w5).grown hgrow6 (Nat.le_refl _) (fun _ h => by cases h); have hO6 := own_made hown6; rw [List.length_replicate] at hO6; have hbc6 := hb35.trans (hB6.mono hb35.size); have kc6 := (kH0.to hbc6).2; clear hown6 hgrow6 kc5)
      | (refine wpList_copy_L rfl (.tmp 31) (.tmp 32) rfl (off := 0) rfl rfl hO6 (rl.below hbc6 (Nat.le_refl _)) (by have := HFF.out.1; omega) (by have := HFF.out.1; simp; omega) hB6 ?_; intro w7 hO7 hB7; have hbc7 := hb35.trans (hB7.mono hb35.size); have kc7 := (kH0.to hbc7).2; clear hO6 kc6)
      | (refine wpList_copy_L rfl (.tmp 37) (.tmp 38) rfl (off := 2 * half) rfl rfl hO7 (rh.below hbc7 (Nat.le_refl _)) (by have := HFF.out.2.1; omega) (by have h1 := HFF.out.1; have h2 := HFF.out.2.1; rw [splL_length (by simp; omega)]; simp; omega) hB7 ?_; intro w8 hO8 hB8; have hbc8 := hb35.trans (hB8.mono hb35.size); have kc8 := (kH0.to hbc8).2; clear hO7 kc7))
    have hZ2 : val (splL (splL (List.replicate (4 * half) 0) 0 Ll) (2 * half) Hl) = lo xs half * lo ys half + 4294967296 ^ (2 * half) * (hi xs half * hi ys half) := by
      obtain ⟨vL, vH, vC⟩ := HR1.out
      rw [spl_val HFF.out.1 HFF.out.2.1, vL, vH]
    have hZ2l : (splL (splL (List.replicate (4 * half) 0) 0 Ll) (2 * half) Hl).length = 4 * half := by
      have h1 := HFF.out.1
      have h2 := HFF.out.2.1
      rw [splL_length (by rw [splL_length (by simp; omega)]; simp; omega), splL_length (by simp; omega)]; simp
    have hZ2m : Limbs (splL (splL (List.replicate (4 * half) 0) 0 Ll) (2 * half) Hl) := splL_limbs (splL_limbs (limbs_replicate _) (by rw [← LL.out]; exact lim_limbs _)) (by rw [← HH.out]; exact lim_limbs _)
    generalize splL (splL (List.replicate (4 * half) 0) 0 Ll) (2 * half) Hl = Z2 at *
    obtain ⟨A5, cap5, e5, g1, g2, rd5⟩ := HO5.out.rd HLX2.out
    injection e5 with ea eb ec
    subst ea ec
    have rd8 := rd5.below hB8 (Nat.le_refl _)
    have ct := trim_any _ cz X2 w8.drew _ rd8 g1 g2
    rw [HX2l.out] at ct
    obtain ⟨hT1, hT2⟩ := hT.out
    rw [← hZ2] at hT1
    have hroom := kar_room hZ2l hZ2m hT1 hT2
    have ca := add_in w5.heap.size half (4 * half - half) (4 * half - half) (4 * half) _ cz (lim (val X2)) Z2 w8.drew w5.heap.size (by rw [hZ2l]; exact hO8) hZ2m (by rw [hZ2l]; omega) rd8.limPart (lim_le (by omega)) (by omega) (by rw [val_lim]; exact hroom)
    have b1 : (0 : Int) ≤ (half : Int) := by omega
    have b2 : (half : Int) ≤ 4 * (half : Int) := by omega
    have b3 : ¬ (4 * half = half) := by omega
    have HT1 := Lib.hid hT1
    have HZ2l := Lib.hid hZ2l
    clear hZ2 hT1 hT2 hroom rd5 rd8 g1 g2 hZ2m hO8 hZ2l
    go_region_with (first
      | (go_at_call 48; (with_reducible refine ct.mono ?_); rintro e w9 ⟨rfl, rfl⟩)
      | (go_at_call 51; (with_reducible refine ca.mono ?_); rintro e w9 ⟨X3, rfl, S3, D3, ho9, hb9⟩))
    all_goals
      have hv3 := kar_done S3 D3 HT1.out (by rw [HZ2l.out]; omega)
      have hl3 : X3.length = 4 * half := by rw [S3.1, HZ2l.out]
      have hrd3 := ho9.rd S3.2.1
      obtain ⟨A9, cap9, e9, g1, g2, rd9⟩ := hrd3
      injection e9 with ea eb ec
      subst ea ec
      have cT := trim_any _ _ X3 _ _ rd9 g1 g2
      have hfin := (ho9.trimmed S3.2.1).more (B' := w.heap.size) (Nat.le_trans hbB.size (Nat.le_trans EB.out.1.size hb35.size))
      rw [hl3, hv3] at cT
      rw [hv3] at hfin
      have HFIN := Lib.hid hfin
      have HBEL := Lib.hid ((hbc.trans (hbc8.mono hbc.size)).drew.trans (hb9.mono (Nat.le_trans hbc.size hb35.size)))
      clear hv3 hl3 ho9 hb9 hfin S3 D3 rd9 g1 g2
      go_wp2_with fail
      with_reducible refine cT.mono ?_
      rintro e w10 ⟨rfl, rfl⟩
      clear cT
      go_wp2
      go_ret
      exact ⟨⟨_, rfl, HFIN.out⟩, HBEL.out⟩

end Go.Proofs.Ytlfhpoffphljfaa

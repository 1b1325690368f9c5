/- The reference's nodes; told (mksexfd.py, sexq_tail.txt). -/
import Derived.Deep.RegionHeldLaw
import Derived.Deep.RegionHeld2
import Derived.Test.YtkmenbicmbaceaaSexF
namespace Go.Proofs.Ytkmenbicmbaceaa
open Go.RowKit

set_option linter.unusedVariables false
set_option linter.unusedSimpArgs false

/-- the cells xs are those of the nodes; ks: all rows below them -/
def RowD (w : World) (B : Nat) : For → List Value → List Nat → Prop
  | .nil, xs, ks => xs = [] ∧ ks = []
  | .cons k a t c r, xs, ks => ∃ v ys k0 zs k2, xs = ndC k a t v ++ zs ∧ ks = (blk1 v ++ k0) ++ k2 ∧ (k < 256 ∧ Codes t ∧ t.length < 9223372036854775807) ∧
      w.ownsRow B 88 4 v c.len ys ∧ RowD w B c ys k0 ∧ RowD w B r zs k2
def KidsD (w : World) (B : Nat) (v : Value) (F : For) (ks : List Nat) : Prop := ∃ ys k0, w.ownsRow B 88 4 v F.len ys ∧ RowD w B F ys k0 ∧ ks = blk1 v ++ k0
theorem rowD_cons {w : World} {B k : Nat} {a : Int} {t : List Nat} {c r : For} {xs : List Value} {ks : List Nat} (h : RowD w B (.cons k a t c r) xs ks) :
    ∃ v k1 zs k2, xs = ndC k a t v ++ zs ∧ ks = k1 ++ k2 ∧ (k < 256 ∧ Codes t ∧ t.length < 9223372036854775807) ∧ KidsD w B v c k1 ∧ RowD w B r zs k2 := by
  obtain ⟨v, ys, k0, zs, k2, h1, h2, h3, h4, h5, h6⟩ := h
  exact ⟨v, _, zs, k2, h1, h2, h3, ⟨ys, k0, h4, h5, rfl⟩, h6⟩
theorem rowD_mk {w : World} {B k : Nat} {a : Int} {t : List Nat} {c r : For} {v : Value} {zs : List Value} {k1 k2 : List Nat} (h3 : k < 256 ∧ Codes t ∧ t.length < 9223372036854775807) (h : KidsD w B v c k1) (h' : RowD w B r zs k2) :
    RowD w B (.cons k a t c r) (ndC k a t v ++ zs) (k1 ++ k2) := by
  obtain ⟨ys, k0, h4, h5, rfl⟩ := h
  exact ⟨v, ys, k0, zs, k2, rfl, rfl, h3, h4, h5, h'⟩
theorem rowD_len {w : World} {B : Nat} : ∀ {F : For} {xs : List Value} {ks : List Nat}, RowD w B F xs ks → xs.length = F.len * 4
  | .nil, xs, ks, h => by rw [h.1]; rfl
  | .cons k a t c r, xs, ks, h => by
    obtain ⟨v, k1, zs, k2, rfl, -, -, -, h⟩ := rowD_cons h
    rw [List.length_append, ndC_len, rowD_len h, For.len]
    omega
theorem RowD.keep {w w' : World} {B : Nat} : ∀ {F : For} {xs : List Value} {ks : List Nat}, RowD w B F xs ks → (∀ b ∈ ks, w'.heap[b]? = w.heap[b]?) → RowD w' B F xs ks
  | .nil, xs, ks, h, _ => h
  | .cons k a t c r, xs, ks, h, hk => by
    obtain ⟨v, ys, k0, zs, k2, h1, rfl, h3, h4, h5, h6⟩ := h
    refine ⟨v, ys, k0, zs, k2, h1, rfl, h3, ownsRow_block h4 fun b hb => hk b (by simp [hb]), RowD.keep h5 fun b hb => hk b (by simp [hb]), RowD.keep h6 fun b hb => hk b (by simp [hb])⟩
theorem KidsD.keep {w w' : World} {B : Nat} {v : Value} {F : For} {ks : List Nat} (h : KidsD w B v F ks) (hk : ∀ b ∈ ks, w'.heap[b]? = w.heap[b]?) : KidsD w' B v F ks := by
  obtain ⟨ys, k0, h1, h2, rfl⟩ := h
  exact ⟨ys, k0, ownsRow_block h1 fun b hb => hk b (by simp [hb]), h2.keep fun b hb => hk b (by simp [hb]), rfl⟩
theorem RowD.kind {w : World} {B : Nat} : ∀ {F : For} {xs : List Value} {ks : List Nat}, RowD w B F xs ks → ∀ b ∈ ks, B ≤ b ∧ ∃ c, w.heap[b]? = some (.cells c 88 (0, 0))
  | .nil, xs, ks, h, b, hb => by rw [h.2] at hb; cases hb
  | .cons k a t c r, xs, ks, h, b, hb => by
    obtain ⟨v, ys, k0, zs, k2, h1, rfl, h3, h4, h5, h6⟩ := h
    simp only [List.mem_append] at hb
    rcases hb with (hb | hb) | hb
    · exact ownsRow_kind2 h4 b hb
    · exact h5.kind b hb
    · exact h6.kind b hb
theorem KidsD.kind {w : World} {B : Nat} {v : Value} {F : For} {ks : List Nat} (h : KidsD w B v F ks) : ∀ b ∈ ks, B ≤ b ∧ ∃ c, w.heap[b]? = some (.cells c 88 (0, 0)) := by
  obtain ⟨ys, k0, h1, h2, rfl⟩ := h
  intro b hb
  simp only [List.mem_append] at hb
  rcases hb with hb | hb
  · exact ownsRow_kind2 h1 b hb
  · exact h2.kind b hb
theorem RowD.app {w : World} {B : Nat} : ∀ {F G : For} {xs ys : List Value} {k1 k2 : List Nat}, RowD w B F xs k1 → RowD w B G ys k2 → RowD w B (F.app G) (xs ++ ys) (k1 ++ k2)
  | .nil, G, xs, ys, k1, k2, h, h' => by rw [h.1, h.2]; exact h'
  | .cons k a t c r, G, xs, ys, k1, k2, h, h' => by
    obtain ⟨v, ka, zs, kb, rfl, rfl, h3, h4, h5⟩ := rowD_cons h
    rw [List.append_assoc, List.append_assoc]
    exact rowD_mk h3 h4 (h5.app h')
theorem RowD.split {w : World} {B : Nat} : ∀ {F G : For} {xs : List Value} {ks : List Nat}, RowD w B (F.app G) xs ks → ∃ x1 x2 k1 k2, xs = x1 ++ x2 ∧ ks = k1 ++ k2 ∧ RowD w B F x1 k1 ∧ RowD w B G x2 k2
  | .nil, G, xs, ks, h => ⟨[], xs, [], ks, rfl, rfl, ⟨rfl, rfl⟩, h⟩
  | .cons k a t c r, G, xs, ks, h => by
    obtain ⟨v, ka, zs, kb, rfl, rfl, h3, h4, h5⟩ := rowD_cons h
    obtain ⟨x1, x2, k1, k2, rfl, rfl, h6, h7⟩ := h5.split
    exact ⟨ndC k a t v ++ x1, x2, ka ++ k1, k2, by simp, by simp, rowD_mk h3 h4 h6, h7⟩
theorem rowD_one {w : World} {B k : Nat} {a : Int} {t : List Nat} {c : For} {xs : List Value} {ks : List Nat} (h : RowD w B (For.one k a t c) xs ks) : ∃ v, xs = ndC k a t v ∧ (k < 256 ∧ Codes t ∧ t.length < 9223372036854775807) ∧ KidsD w B v c ks := by
  obtain ⟨v, ka, zs, kb, rfl, rfl, h3, h4, h5⟩ := rowD_cons h
  obtain ⟨rfl, rfl⟩ := h5
  exact ⟨v, by simp, h3, by simpa using h4⟩
theorem rowD_one_mk {w : World} {B k : Nat} {a : Int} {t : List Nat} {c : For} {v : Value} {ks : List Nat} (h3 : k < 256 ∧ Codes t ∧ t.length < 9223372036854775807) (h : KidsD w B v c ks) : RowD w B (For.one k a t c) (ndC k a t v) ks := by
  have := rowD_mk (r := .nil) (a := a) h3 h ⟨rfl, rfl⟩
  rw [List.append_nil, List.append_nil] at this
  exact this
theorem KidsD.nil (w : World) (B : Nat) : KidsD w B (.slice none 0 0) .nil [] := ⟨[], [], World.ownsRow_nil _ _ _ _, ⟨rfl, rfl⟩, rfl⟩

/-- what a call owns can be read -/
theorem RowD.nds {w : World} {B : Nat} : ∀ {F : For} {xs : List Value} {ks : List Nat}, RowD w B F xs ks → ∀ {g o : Nat}, (∀ j u, xs[j]? = some u → w.cell? ⟨g, o + j, none⟩ = some u) → Nds w F g o
  | .nil, xs, ks, h, g, o, hc => trivial
  | .cons k a t c r, xs, ks, h, g, o, hc => by
    obtain ⟨v, ys, k0, zs, k2, rfl, rfl, ⟨h3, h4, h5⟩, h6, h7, h8⟩ := h
    have c0 := hc 0 (.int .u8 (k : Int)) rfl
    have c1 := hc 1 (.int .i64 a) rfl
    have c2 := hc 2 (.string (str t)) rfl
    have c3 := hc 3 v rfl
    obtain ⟨A, m, rfl⟩ := slice_form h6
    refine ⟨c0, c1, c2, h3, h4, h5, ⟨A, m, c3, ?_⟩, h8.nds fun j u hj => ?_⟩
    · cases c with
      | nil => exact .inl rfl
      | cons k' a' t' c' r' =>
        obtain ⟨g', rfl, hg0, hg1, hcell⟩ := row_cells h6 (Nat.succ_pos _)
        exact .inr ⟨g', 0, rfl, h7.nds fun j u hj => by rw [Nat.zero_add]; exact hcell j u hj⟩
    · have := hc (4 + j) u (by rw [List.getElem?_append_right (by rw [ndC_len]; omega), ndC_len, Nat.add_sub_cancel_left]; exact hj)
      rwa [Nat.add_assoc]
theorem KidsD.kds {w : World} {B : Nat} {v : Value} {F : For} {ks : List Nat} (h : KidsD w B v F ks) : ∃ A m, v = .slice A F.len m ∧ Kds w F A := by
  obtain ⟨ys, k0, h1, h2, -⟩ := h
  obtain ⟨A, m, rfl⟩ := slice_form h1
  refine ⟨A, m, rfl, ?_⟩
  cases F with
  | nil => exact .inl rfl
  | cons k' a' t' c' r' =>
    obtain ⟨g', rfl, hg0, hg1, hcell⟩ := row_cells h1 (Nat.succ_pos _)
    exact .inr ⟨g', 0, rfl, h2.nds fun j u hj => by rw [Nat.zero_add]; exact hcell j u hj⟩

theorem ownsRow_base {w : World} {B B' : Nat} {e : TypeId} {size : Nat} {v : Value} {n : Nat} {xs : List Value} (h : w.ownsRow B e size v n xs) (hb : B' ≤ B) : w.ownsRow B' e size v n xs := by
  refine ⟨h.1, ?_⟩
  rcases h.2 with h2 | ⟨g, cap, cur, e, hg, r⟩
  · exact .inl h2
  · exact .inr ⟨g, cap, cur, e, Nat.le_trans hb hg, r⟩
theorem RowD.base {w : World} {B B' : Nat} (hb : B' ≤ B) : ∀ {F : For} {xs : List Value} {ks : List Nat}, RowD w B F xs ks → RowD w B' F xs ks
  | .nil, xs, ks, h => h
  | .cons k a t c r, xs, ks, h => by
    obtain ⟨v, ys, k0, zs, k2, h1, rfl, h3, h4, h5, h6⟩ := h
    exact ⟨v, ys, k0, zs, k2, h1, rfl, h3, ownsRow_base h4 hb, RowD.base hb h5, RowD.base hb h6⟩
theorem KidsD.base {w : World} {B B' : Nat} {v : Value} {F : For} {ks : List Nat} (h : KidsD w B v F ks) (hb : B' ≤ B) : KidsD w B' v F ks := by
  obtain ⟨ys, k0, h1, h2, rfl⟩ := h
  exact ⟨ys, k0, ownsRow_base h1 hb, h2.base hb, rfl⟩
theorem info_rd : ∃ i, Try.prog.info? 88 = some i ∧ i.zero = some (.agg #[.int .u8 0, .int .i64 0, .string ⟨#[]⟩, .slice none 0 0]) ∧ i.size = 4 ∧ i.bytes = 56 := by
  have h0 : (Try.prog.info? 88).map (fun i => (i.zero, i.size, i.bytes)) = some (some (.agg #[.int .u8 0, .int .i64 0, .string ⟨#[]⟩, .slice none 0 0]), 4, 56) := by kernel_rfl
  obtain ⟨i, hi, h⟩ := Option.map_eq_some_iff.1 h0
  simp only [Prod.mk.injEq] at h
  exact ⟨i, hi, h.1, h.2.1, h.2.2⟩
/-- told: the same nodes, as the reference has them, in rows of its own -/
def ToldAt (n : Nat) : Prop := ∀ (F : For) (A : Option Addr) (m : Nat) (w : World), F.siz < n → F.siz < 70000 → Kds w F A →
  Calls Try.prog 22 #[.slice A F.len m] w fun e w' => (∃ v ks, e = .returned v ∧ KidsD w' w.heap.size v F ks) ∧ Below w.heap.size w w'
set_option maxRecDepth 100000 in
set_option maxHeartbeats 8000000 in
theorem ToldAt.step {n : Nat} (ih : ToldAt n) : ToldAt (n + 1) := by
  intro F A m w hn hz hK
  obtain ⟨i0, hi, hz0, hz1, hz2⟩ := info_rd
  have hls := For.len_siz F
  go_enter Try.func22, Try.ntmps22
  go_wp2_with fail
  go_loopw [3, 4] (fun o i wr => ∃ (j : Nat) (P R : For) (xs : List Value) (ks : List Nat), i = .int .i64 (j : Int) ∧ j = P.len ∧ F = P.app R ∧ wr.ownsRow w.heap.size 88 4 o j xs ∧ RowD wr w.heap.size P xs ks ∧ (∀ b ∈ ks, some b ≠ o.ownBlock) ∧ (R = .nil ∨ ∃ b f, A = some ⟨b, f, none⟩ ∧ Nds w R b (f + j * 4)) ∧ Below w.heap.size w wr) (fun _ i _ => F.len - (intOf i).toNat)
  case atStart =>
    refine ⟨0, .nil, F, [], [], rfl, rfl, rfl, World.ownsRow_nil _ _ _ _, ⟨rfl, rfl⟩, (fun _ h => by cases h), ?_, Below.refl _ _⟩
    rcases hK with h | ⟨b, o, h, h'⟩
    · exact .inl h
    · exact .inr ⟨b, o, h, by simpa using h'⟩
  case round =>
    obtain ⟨j, P, R, xs, ks, rfl, hj, hF, ho, hP, hk, hR, hB⟩ := hrel
    have hFl := congrArg For.len hF
    have hFs := congrArg For.siz hF
    rw [For.app_len] at hFl
    rw [For.siz_app] at hFs
    obtain ⟨oA, oc, rfl⟩ := slice_form ho
    cases R with
    | nil =>
      have hj' : j = F.len := by rw [hFl, hj]; rfl
      have HO := Lib.hid ho
      have HP := Lib.hid hP
      have HB := Lib.hid hB
      have HF := Lib.hid hF
      subst hj'
      clear ho hP hk hR hB hF hFl hFs hj
      go_wp2
      go_ret
      refine ⟨⟨_, _, rfl, ⟨xs, ks, HO.out, ?_, rfl⟩⟩, HB.out⟩
      have := HP.out
      rw [HF.out, For.app_nil]; exact this
    | cons k a t c R =>
      rcases hR with hR | ⟨b, f, rfl, h0, h1, h2, h3, h4, h5, ⟨A', m', h6, h7⟩, h8⟩
      · cases hR
      have hlen : j < F.len := by simp only [For.len] at hFl; omega
      have hcs : c.siz < n := by simp only [For.siz] at hFs; omega
      have hcz : c.siz < 70000 := by simp only [For.siz] at hFs; omega
      have hbl := World.block_lt_of_cell? w _ h0
      have y0 := (hB.cell hbl).trans h0
      have y1 := (hB.cell (p := ⟨b, f + j * 4 + 1, none⟩) hbl).trans h1
      have y2 := (hB.cell (p := ⟨b, f + j * 4 + 2, none⟩) hbl).trans h2
      have y6 := (hB.cell (p := ⟨b, f + j * 4 + 3, none⟩) hbl).trans h6
      have C := Lib.hid (ih c A' m' wr.drew hcs hcz ((show Kds w c A' from h7).keep fun p v hp => (hB.drew.cell (World.block_lt_of_cell? w p hp)).trans hp))
      have HO := Lib.hid ho
      have HP := Lib.hid hP
      have HB := Lib.hid hB
      have HK := Lib.hid hk
      have HF : Hid (F = (P.app (.one k a t c)).app R) := by show _ = _; rw [hF, For.app_assoc]; rfl
      have H8 := Lib.hid h8
      have H35 := Lib.hid (show k < 256 ∧ Codes t ∧ t.length < 9223372036854775807 from ⟨h3, h4, h5⟩)
      have HJ := Lib.hid hj
      have hjb : j < 70000 := by omega
      have s0 : wr.drew.cell? ⟨b, f + j * 4, none⟩ = some (.int .u8 (k : Int)) ∧ wr.drew.cell? ⟨b, f + j * 4 + 1, none⟩ = some (.int .i64 a) ∧ wr.drew.cell? ⟨b, f + j * 4 + 2, none⟩ = some (.string (str t)) ∧ wr.drew.cell? ⟨b, f + j * 4 + 3, none⟩ = some (.slice A' c.len m') := ⟨y0, y1, y2, y6⟩
      have HS : Hid (∀ w2, Below w.heap.size w w2 → w2.cell? ⟨b, f + j * 4, none⟩ = some (.int .u8 (k : Int)) ∧ w2.cell? ⟨b, f + j * 4 + 1, none⟩ = some (.int .i64 a) ∧ w2.cell? ⟨b, f + j * 4 + 2, none⟩ = some (.string (str t)) ∧ w2.cell? ⟨b, f + j * 4 + 3, none⟩ = some (.slice A' c.len m')) := fun w2 h => ⟨(h.cell hbl).trans h0, (h.cell (p := ⟨b, f + j * 4 + 1, none⟩) hbl).trans h1, (h.cell (p := ⟨b, f + j * 4 + 2, none⟩) hbl).trans h2, (h.cell (p := ⟨b, f + j * 4 + 3, none⟩) hbl).trans h6⟩
      have hl63 : j + 1 ≤ maxLen := by unfold maxLen; omega
      have hlby : (j + 1) * 56 ≤ 140737488355328 := by omega
      clear h0 h1 h2 h4 h6 h7 h8 hK ho hP hk hB hF hFl hFs hj y0 y1 y2 y6
      go_wp2_with fail
      go_region_held_law (fun w2 => w2.cell? ⟨b, f + j * 4, none⟩ = some (.int .u8 (k : Int)) ∧ w2.cell? ⟨b, f + j * 4 + 1, none⟩ = some (.int .i64 a) ∧ w2.cell? ⟨b, f + j * 4 + 2, none⟩ = some (.string (str t)) ∧ w2.cell? ⟨b, f + j * 4 + 3, none⟩ = some (.slice A' c.len m')) (first | exact s0 | exact s1 | exact s2 | exact s3)
        (first
          | (refine step_append_lies _ rfl (.tmp 11) (.tmp 34) 39 rfl w.heap.size 88 i0 _ 4 56 Try.underlying39 hi hz0 hz1 hz2 rfl (by decide) _ _ _ rfl hoZ ⟨w2.heap.size, 0, none⟩ 1 1 _ rfl rfl hnews hone (by decide) hl63 hlby hBZ _ rfl ?_
             intro g cap w3 hown hgrow hat hlt
             simp only [List.getElem_toArray, List.getElem_cons_succ, List.getElem_cons_zero, Act.put, List.setIfInBounds_toArray, List.set_cons_zero, List.set_cons_succ]
             have hb3 : Below w.heap.size w w3 := HBZ.out.grown hgrow hBZ (fun r hr => (hoZ.lt r hr).1)
             have s3 := HS.out w3 hb3)
          | (go_simp; go_at_call 22
             (with_reducible refine C.out.mono ?_)
             rintro e w2 ⟨⟨v2, k2, rfl, hK2⟩, hb2⟩
             have hbw : Below w.heap.size w w2 := HB.out.drew.trans (hb2.mono HB.out.size)
             have s1 := HS.out w2 hbw
             obtain ⟨A2, m2, rfl, -⟩ := hK2.kds
             have ho2 : w2.ownsRow w.heap.size 88 4 (.slice oA j oc) j xs := ownsRow_block HO.out (fun q hq => by
               obtain ⟨_, cc, hcc⟩ := ownsRow_kind2 HO.out q hq
               exact hb2.block q (kind_lt hcc))
             have hoZ := ho2.alloc (.cells #[.int .u8 (k : Int), .int .i64 a, .string (str t), .slice A2 c.len m2] 88)
             have hnZ : (w2.alloc (.cells #[.int .u8 (k : Int), .int .i64 a, .string (str t), .slice A2 c.len m2] 88)).heap[w2.heap.size]? = some (.cells #[.int .u8 (k : Int), .int .i64 a, .string (str t), .slice A2 c.len m2] 88 (0, 0)) := lone_new w2 _ _
             have HBZ := Lib.hid (hbw.alloc hbw.size (.cells #[.int .u8 (k : Int), .int .i64 a, .string (str t), .slice A2 c.len m2] 88))
             have s2 := HS.out _ HBZ.out
             have hBZ := HBZ.out.size
             have hnews := World.news_of_block (cs := #[.int .u8 (k : Int), .int .i64 a, .string (str t), .slice A2 c.len m2]) hnZ
             have hone : ∀ u ∈ [Value.int .u8 (k : Int), .int .i64 a, .string (str t), .slice A2 c.len m2], u.oneCell' = true := by
               intro u hu; simp only [List.mem_cons, List.not_mem_nil, or_false] at hu; rcases hu with rfl | rfl | rfl | rfl <;> rfl
             have HO2 := Lib.hid ho2
             have HK2 := Lib.hid hK2
             have HB2 := Lib.hid hb2
             clear hK2 hb2 ho2 hnZ))
      have hgrow : (w2.alloc (.cells #[.int .u8 (k : Int), .int .i64 a, .string (str t), .slice A2 c.len m2] 88)).grownBy w3 (Value.slice oA j oc).ownBlock := hgrow
      have hat : (Value.slice oA j oc).ownBlock = some g ∨ g = (w2.alloc (.cells #[.int .u8 (k : Int), .int .i64 a, .string (str t), .slice A2 c.len m2] 88)).heap.size := hat
      have hob : ∀ q ∈ blk1 (.slice oA j oc), q < wr.heap.size := fun q hq => by obtain ⟨_, cc, hcc⟩ := ownsRow_kind2 HO.out q hq; exact kind_lt hcc
      have HBs := HB2.out.size
      have hZs : (w2.alloc (.cells #[.int .u8 (k : Int), .int .i64 a, .string (str t), .slice A2 c.len m2] 88)).heap.size = w2.heap.size + 1 := World.size_alloc _ _
      have hks : ∀ q ∈ ks, some q ≠ (Value.slice oA j oc).ownBlock ∧ q < wr.heap.size := fun q hq => ⟨HK.out q hq, by obtain ⟨_, cc, hcc⟩ := HP.out.kind q hq; exact kind_lt hcc⟩
      have hk2 : ∀ q ∈ k2, some q ≠ (Value.slice oA j oc).ownBlock ∧ q < w2.heap.size := fun q hq => by
        obtain ⟨hge, cc, hcc⟩ := HK2.out.kind q hq
        refine ⟨fun e => ?_, kind_lt hcc⟩
        have := hob q (by simp [blk1, ← e])
        have h9 : wr.heap.size ≤ q := hge
        omega
      have hnew : ∀ q ∈ ks ++ k2, some q ≠ some g ∧ q < w2.heap.size := fun q hq => by
        have hh : some q ≠ (Value.slice oA j oc).ownBlock ∧ q < w2.heap.size := by
          rcases List.mem_append.1 hq with h | h
          · exact ⟨(hks q h).1, by have := (hks q h).2; have h8 : wr.heap.size ≤ w2.heap.size := HBs; omega⟩
          · exact hk2 q h
        refine ⟨fun e => ?_, hh.2⟩
        rcases hat with h | h
        · exact hh.1 (by rw [h]; exact e)
        · injection e with e; omega
      have hkeep3 : ∀ q, some q ≠ (Value.slice oA j oc).ownBlock → q < w2.heap.size → w3.heap[q]? = w2.heap[q]? := fun q h1 h2 =>
        (hgrow.block q (by omega) h1).trans (Below.heap_alloc _ _ _ h2)
      have HROW := Lib.hid (show RowD w3 w.heap.size (P.app (.one k a t c)) (xs ++ ndC k a t (.slice A2 c.len m2)) (ks ++ k2) from
        ((HP.out.keep (w' := w2) fun q hq => HB2.out.block q (hks q hq).2).keep fun q hq => hkeep3 q (hks q hq).1 (by have := (hks q hq).2; have h8 : wr.heap.size ≤ w2.heap.size := HBs; omega)).app
          (rowD_one_mk H35.out ((HK2.out.keep fun q hq => hkeep3 q (hk2 q hq).1 (hk2 q hq).2).base HB.out.size)))
      have HOWN := Lib.hid hown
      have HNEW := Lib.hid (show ∀ q ∈ ks ++ k2, some q ≠ (Value.slice (some ⟨g, 0, none⟩) (j + 1) cap).ownBlock from fun q hq => (hnew q hq).1)
      have HB3 := Lib.hid hb3
      clear hob hks hk2 hnew hkeep3 hown hgrow hat hlt s0 s1 s2 s3 hnews hone hoZ hBZ hb3 hZs HBs
      go_wp2_with fail
      go_roundw
      case rel =>
        refine ⟨j + 1, P.app (.one k a t c), R, _, ks ++ k2, by go_num, by rw [For.app_len, HJ.out]; rfl, HF.out, HOWN.out, HROW.out, HNEW.out, ?_, HB3.out⟩
        exact .inr ⟨b, f, rfl, by have := H8.out; rwa [show f + j * 4 + 4 = f + (j + 1) * 4 from by omega] at this⟩
      case measure => simp [intOf]; omega
theorem told_any : ∀ n : Nat, ToldAt n
  | 0 => fun _ _ _ _ h => absurd h (Nat.not_lt_zero _)
  | n + 1 => (told_any n).step

end Go.Proofs.Ytkmenbicmbaceaa

/- Contracts: add where what is added lies in a later block; byPieces, times, square. -/
import Derived.Test.YtlfhpoffphljfaaMulI
import Derived.Test.YtlfhpoffphljfaaMulD
namespace Go.Proofs.Ytlfhpoffphljfaa
open Go.RowKit Go.Shelf

set_option linter.unusedVariables false

/-- Nothing but the block g has turned. -/
structure Only (g : Nat) (w w' : World) : Prop where
  os : w'.os = w.os
  tape : w'.tape = w.tape
  output : w'.output = w.output
  size : w'.heap.size = w.heap.size
  block : ∀ k, k ≠ g → w'.heap[k]? = w.heap[k]?
theorem Only.refl (g : Nat) (w : World) : Only g w w := ⟨rfl, rfl, rfl, rfl, fun _ _ => rfl⟩
theorem Only.setCell {g : Nat} {w w' : World} (h : Only g w w') (j : Nat) (v : Value) : Only g w (w'.setCell ⟨g, j, none⟩ v) :=
  ⟨h.os, h.tape, h.output, by simpa using h.size, fun k hk => (heap_setCell_other w' ⟨g, j, none⟩ k v (fun e => hk (by simp [e]))).trans (h.block k hk)⟩
theorem Only.cell {g : Nat} {w w' : World} (h : Only g w w') {p : Addr} (hp : p.block ≠ g) : w'.cell? p = w.cell? p := by
  unfold World.cell?
  rw [h.block p.block hp]
theorem Only.below {g B : Nat} {w w' : World} (h : Only g w w') (hB : B ≤ g) : Below B w w' := ⟨h.os, h.tape, h.output, Nat.le_of_eq h.size.symm, fun k hk => h.block k (by omega)⟩
/-- A slice of limbs in another block than g. -/
def Far (w : World) (g : Nat) (A : Option Addr) (xs : List Nat) : Prop :=
  Limbs xs ∧ (0 < xs.length → ∃ b off, A = some ⟨b, off, none⟩ ∧ b ≠ g ∧ ∀ j, j < xs.length → w.cell? ⟨b, off + j, none⟩ = some (.int .u32 ((xs[j]?.getD 0 : Nat) : Int)))
theorem Far.limbs {w : World} {g : Nat} {A : Option Addr} {xs : List Nat} (h : Far w g A xs) : Limbs xs := h.1

/-- What add leaves. -/
def AddFar (Z : List Nat) (off n : Nat) (ys : List Nat) (g cz B : Nat) (w : World) (e : Ending) (w' : World) : Prop :=
  ∃ X : List Nat, e = .returned (.tuple #[]) ∧ Same Z off n X ∧ seg X off n = seg Z off n + val ys ∧ Own w' B (.slice (some ⟨g, 0, none⟩) X.length cz) X ∧ Only g w w'

set_option maxHeartbeats 2000000 in
theorem add_far (g off n cp cz : Nat) (A : Option Addr) (cap : Nat) (ys Z : List Nat) (w : World) (B : Nat) (hO : Own w B (.slice (some ⟨g, 0, none⟩) Z.length cz) Z) (hZ : Limbs Z) (hoff : off + n ≤ Z.length) (hr : Far w g A ys) (hl : ys.length ≤ n) (hn : n ≤ 2097152) (hv : seg Z off n + val ys < 4294967296 ^ n) :
    Calls Try.prog 51 #[.slice (some ⟨g, off, none⟩) n cp, .slice A ys.length cap] w (AddFar Z off n ys g cz B w) := by
  have HV := Lib.hid hv
  clear hv
  go_enter Try.func51, Try.ntmps51
  go_wp2
  go_loopw [4, 5] (fun c i wr => ∃ (k cc : Nat) (X : List Nat), k ≤ n ∧ i = .int .i64 (k : Int) ∧ c = .int .u64 (cc : Int) ∧ AddI Z off ys k cc X ∧ Own wr B (.slice (some ⟨g, 0, none⟩) X.length cz) X ∧ Only g w wr) (fun _ i _ => n - (intOf i).toNat)
  case atStart => exact ⟨0, 0, Z, Nat.zero_le _, rfl, rfl, AddI.start hZ off ys, hO, Only.refl _ _⟩
  case round =>
    obtain ⟨k, cc, X, hk, rfl, rfl, hI, hX, hB⟩ := hrel
    have hc1 : cc ≤ 1 := hI.2.1
    by_cases hlt : k < ys.length
    · obtain ⟨b, o, rfl, hb, hcell⟩ := hr.2 (by omega)
      have hyc := (hB.cell (p := ⟨b, o + k, none⟩) hb).trans (hcell k hlt)
      have hxl : X.length = Z.length := hI.1.1
      have hxc := hX.cellAt (j := off + k) (by omega)
      have hxf := World.ownsRow.frozenAt hX (off + k)
      have hyl := hr.limbs.getD k
      have hx1 := hI.1.2.1.getD (off + k)
      generalize hy : ys[k]?.getD 0 = y at *
      generalize hx : X[off + k]?.getD 0 = x at *
      have hput := Lib.hid fun v => hX.put (j := off + k) (v := v)
      have hbe := Lib.hid fun v => hB.setCell (off + k) v
      have e1 := Lib.hid (show ((cc : Int) + x + y) % 4294967296 = (((cc + x + y) % 4294967296 : Nat) : Int) from by omega)
      have e2 := Lib.hid (show ((cc : Int) + x + y) / 4294967296 = (((cc + x + y) / 4294967296 : Nat) : Int) from by omega)
      have hst := Lib.hid (hI.step (s := cc + x + y) (by omega) hr.limbs (by rw [hy, hx]))
      have hnn : k < n := by omega
      clear hy hx hxl hcell hI hX hB hO hr hoff hl
      go_wp2
      go_roundw
      case rel =>
        refine ⟨k + 1, (cc + x + y) / 4294967296, X.set (off + k) ((cc + x + y) % 4294967296), by omega, by go_num, by rw [e2.out], hst.out, ?_, hbe.out _⟩
        have := hput.out ((cc + x + y) % 4294967296)
        unfold lv at this
        rw [← e1.out] at this
        exact this
      case measure => simp [intOf]; omega
    · by_cases hc0 : 0 < cc
      · have hnn : k < n := hI.room hc0 hk HV.out (by omega)
        have hxl : X.length = Z.length := hI.1.1
        have hxc := hX.cellAt (j := off + k) (by omega)
        have hxf := World.ownsRow.frozenAt hX (off + k)
        have hx1 := hI.1.2.1.getD (off + k)
        generalize hx : X[off + k]?.getD 0 = x at *
        have hput := Lib.hid fun v => hX.put (j := off + k) (v := v)
        have hbe := Lib.hid fun v => hB.setCell (off + k) v
        have e1 := Lib.hid (show ((cc : Int) + x) % 4294967296 = (((cc + x) % 4294967296 : Nat) : Int) from by omega)
        have e2 := Lib.hid (show ((cc : Int) + x) / 4294967296 = (((cc + x) / 4294967296 : Nat) : Int) from by omega)
        have hst := Lib.hid (hI.step (s := cc + x) (by omega) hr.limbs (by rw [hx, List.getElem?_eq_none (by omega)]; rfl))
        clear hx hxl hI hX hB hO hr hoff hl
        go_wp2
        go_roundw
        case rel =>
          refine ⟨k + 1, (cc + x) / 4294967296, X.set (off + k) ((cc + x) % 4294967296), by omega, by go_num, by rw [e2.out], hst.out, ?_, hbe.out _⟩
          have := hput.out ((cc + x) % 4294967296)
          unfold lv at this
          rw [← e1.out] at this
          exact this
        case measure => simp [intOf]; omega
      · obtain rfl : cc = 0 := by omega
        have hd := Lib.hid (hI.done hk (by omega))
        have hs := Lib.hid (hI.1.more hk)
        have hX' := Lib.hid hX
        have hB' := Lib.hid hB
        clear hI hX hB hO hr hoff
        go_wp2
        go_end0
        exact ⟨X, rfl, hs.out, hd.out, hX'.out, hB'.out⟩

theorem Own.lt_size {w : World} {B g n cap : Nat} {xs : List Nat} (h : Own w B (.slice (some ⟨g, 0, none⟩) n cap) xs) : g < w.heap.size := (World.ownsRow.lt h g rfl).2

/-! ### byPieces -/
theorem room_gen {Z : List Nat} {off C T N : Nat} (hl : Z.length = N) (ho : off ≤ N) (h : val Z + 4294967296 ^ off * C = T) (hT : T < 4294967296 ^ N) : seg Z off (N - off) + C < 4294967296 ^ (N - off) := by
  rw [← seg_val Z, hl] at h
  have e : seg Z 0 N = seg Z 0 off + 4294967296 ^ off * seg Z off (N - off) := by
    conv => lhs; rw [show N = off + (N - off) from by omega]
    rw [seg_add, Nat.zero_add]
  have e2 : 4294967296 ^ N = 4294967296 ^ off * 4294967296 ^ (N - off) := by rw [← Nat.pow_add]; congr 1; omega
  rw [e] at h
  rw [e2] at hT
  have h3 : 4294967296 ^ off * (seg Z off (N - off) + C) < 4294967296 ^ off * 4294967296 ^ (N - off) := by
    rw [Nat.mul_add]; omega
  exact Nat.lt_of_mul_lt_mul_left h3
def PcI (xs ys : List Nat) (k : Nat) (X : List Nat) : Prop := X.length = xs.length + ys.length ∧ Limbs X ∧ val X = seg xs 0 (min k xs.length) * val ys
theorem PcI.start (xs ys : List Nat) : PcI xs ys 0 (List.replicate (xs.length + ys.length) 0) := ⟨by simp, limbs_replicate _, by rw [val_replicate, Nat.zero_min]; simp [seg]⟩
theorem seg_le_val {xs : List Nat} {k : Nat} (h : k ≤ xs.length) : seg xs 0 k ≤ val xs := by
  rw [← seg_val xs]
  conv => rhs; rw [show xs.length = k + (xs.length - k) from by omega]
  rw [seg_add]; omega
theorem mul_lt_pow {xs ys : List Nat} (hx : Limbs xs) (hy : Limbs ys) : val xs * val ys < 4294967296 ^ (xs.length + ys.length) := by
  rw [Nat.pow_add]; exact Nat.mul_lt_mul'' (val_lt hx) (val_lt hy)
/-- What one more piece makes. -/
theorem PcI.sum {xs ys X : List Nat} {k : Nat} (h : PcI xs ys k X) (hk : k < xs.length) : val X + 4294967296 ^ k * (val (pieceL xs k ys.length) * val ys) = seg xs 0 (min (k + ys.length) xs.length) * val ys := by
  rw [h.2.2, pieceL_val, Nat.min_eq_left (by omega), show min (k + ys.length) xs.length = k + min ys.length (xs.length - k) from by omega, seg_add, Nat.zero_add, Nat.add_mul, Nat.mul_assoc]
theorem PcI.room {xs ys X : List Nat} {k : Nat} (h : PcI xs ys k X) (hk : k < xs.length) (hx : Limbs xs) (hy : Limbs ys) : seg X k (xs.length + ys.length - k) + val (lim (val (pieceL xs k ys.length) * val ys)) < 4294967296 ^ (xs.length + ys.length - k) := by
  rw [val_lim]
  refine room_gen h.1 (by omega) (h.sum hk) (Nat.lt_of_le_of_lt (Nat.mul_le_mul_right _ (seg_le_val ?_)) (mul_lt_pow hx hy))
  omega
theorem PcI.step {xs ys X Y : List Nat} {k : Nat} (h : PcI xs ys k X) (hk : k < xs.length) (S : Same X k (xs.length + ys.length - k) Y) (D : seg Y k (xs.length + ys.length - k) = seg X k (xs.length + ys.length - k) + val (lim (val (pieceL xs k ys.length) * val ys))) : PcI xs ys (k + ys.length) Y := by
  refine ⟨by rw [S.1, h.1], S.2.1, ?_⟩
  have hw := S.whole (by rw [h.1]; omega)
  rw [D, val_lim, Nat.mul_add] at hw
  have := h.sum hk
  omega
theorem PcI.done {xs ys X : List Nat} {k : Nat} (h : PcI xs ys k X) (hk : xs.length ≤ k) : val X = val xs * val ys := by rw [h.2.2, Nat.min_eq_right hk, seg_val]
theorem Own.far {w : World} {B g : Nat} {v : Value} {xs : List Nat} (h : Own w B v xs) (hl : Limbs xs) (hg : g < B) : ∃ A cap, v = .slice A xs.length cap ∧ Far w g A xs := by
  rcases h.2 with ⟨rfl, h0⟩ | ⟨g', cap, cur, rfl, hg', hh, hle, hm, hs, ht⟩
  · have : xs = [] := List.eq_nil_of_length_eq_zero h0
    subst this
    exact ⟨none, 0, rfl, hl, fun h => absurd h (by simp)⟩
  · refine ⟨_, cap, rfl, hl, fun hn => ⟨g', 0, rfl, by omega, fun j hj => ?_⟩⟩
    have hc := World.ownsRow.cellAt h j (by omega)
    rw [Nat.zero_add, hc, u32s, List.getElem?_map, List.getElem?_eq_getElem hj]
    rfl

set_option maxRecDepth 100000 in
set_option maxHeartbeats 8000000 in
theorem byPieces_any {n : Nat} (IH : TimesAt n) (va vb : Value) (xs ys : List Nat) (w : World) (ha : Arg w va xs) (hv : Arg w vb ys) (cx : Canon xs) (cy : Canon ys) (h0 : 0 < ys.length) (hl : xs.length ≤ 65536) (hl' : ys.length ≤ 65536) (hn : 2 * ys.length ≤ n) (hx0 : 0 < xs.length) :
    Calls Try.prog 57 #[va, vb] w (NewNat w (val xs * val ys)) := by
  obtain ⟨i0, hti, hz0, hz1, hz2⟩ := info_parts info32
  obtain ⟨b, o, cap, rfl, hc, hm, hr⟩ := ha.some hx0
  obtain ⟨A', cap', rfl, hc', hm', hr'⟩ := id hv
  have hvv := Lib.hid hv
  clear ha hv
  unfold maxLen at hm
  go_enter Try.func57, Try.ntmps57
  go_wp2_with (at_make; refine wpList_make_full _ rfl _ _ 26 rfl w.heap.size 28 i0 (.int .u32 0) 1 Try.underlying26 hti hz0 hz1 .i64 .i64 _ _ (xs.length + ys.length) rfl rfl (by omega) (by omega) (by rw [hz2]; omega) (by unfold maxLen; omega) (Nat.le_refl _) ?_; intro w1 hown0 hgrow0)
  have hB0 : Below w.heap.size w w1 := (Below.refl _ w).grown hgrow0 (Nat.le_refl _) (fun _ h => by cases h)
  have hO0 := own_made hown0
  clear hown0 hgrow0
  go_loopw [6] (fun i wr => ∃ (k : Nat) (X : List Nat), k ≤ xs.length + ys.length ∧ i = .int .i64 (k : Int) ∧ PcI xs ys k X ∧ Own wr w.heap.size (.slice (some ⟨w.heap.size, 0, none⟩) X.length (xs.length + ys.length)) X ∧ Below w.heap.size w wr ∧ w.heap.size < wr.heap.size) (fun i _ => xs.length + ys.length - (intOf i).toNat)
  case atStart => exact ⟨0, _, Nat.zero_le _, rfl, PcI.start xs ys, hO0, hB0, hO0.lt_size⟩
  case round =>
    clear hB0 hO0
    obtain ⟨k, X, hk, rfl, hI, hX, hB, hsz⟩ := hrel
    by_cases hlt : k < xs.length
    · have c1 := piece_any b o cap xs k (k + ys.length) wr.drew _ (hr.below hB.drew (Nat.le_refl _)) hlt (by omega) (by unfold maxLen; omega) hc (by unfold maxLen; omega)
      rw [Int.natCast_add, Nat.add_sub_cancel_left] at c1
      have hpl := pieceL_le hr.limbs k ys.length
      have hroom := Lib.hid (hI.room hlt hr.limbs hr'.limbs)
      have hXl := hI.1
      have hLp : pieceL xs k ys.length = lim (seg xs k (min ys.length (xs.length - k))) := rfl
      have hcan : Hid (Canon (pieceL xs k ys.length)) := by rw [hLp]; exact canon_lim _
      have HI := Lib.hid hI
      have HX := Lib.hid hX
      have HB := Lib.hid hB
      have hpm : (pieceL xs k ys.length).length ≤ maxLen := by unfold maxLen; omega
      have s1 : IntKind.i64.wrap ((k : Int) + (ys.length : Int)) = (k : Int) + (ys.length : Int) := wr64 (by omega) (by omega)
      have b1 : (0 : Int) ≤ (k : Int) := by omega
      have b2 : (k : Int) ≤ (xs.length : Int) + (ys.length : Int) := by omega
      have b3 : ¬ (xs.length + ys.length = k) := by omega
      have HXl := Lib.hid hXl
      clear hI hX hB hLp hr hr' hXl
      have hcT := Lib.hid fun Ap (hrp : Rd wr.drew w.heap.size Ap (pieceL xs k ys.length)) => IH (.slice Ap (pieceL xs k ys.length).length (pieceL xs k ys.length).length) (.slice A' ys.length cap') (pieceL xs k ys.length) ys wr.drew ⟨Ap, _, rfl, Nat.le_refl _, hpm, hrp.more (Nat.le_of_lt hsz)⟩ (hvv.out.below HB.out.drew) hcan.out cy (by omega) hl' (by omega)
      go_upto_region 5 with fail
      go_region_with (first
        | (go_at_call 66; (with_reducible refine c1.mono ?_); rintro e w2 ⟨⟨Ap, rfl, hrp⟩, rfl⟩; have cT := hcT.out Ap hrp)
        | (go_at_call 46; (with_reducible refine cT.mono ?_); rintro e w3 ⟨⟨v3, rfl, ho3⟩, hb3⟩; obtain ⟨A3, cap3, rfl, hf3⟩ := ho3.far (g := w.heap.size) (lim_limbs _) hsz; have ca := add_far w.heap.size k (xs.length + ys.length - k) (xs.length + ys.length - k) (xs.length + ys.length) A3 cap3 _ X w3 w.heap.size (HX.out.below ((Below.refl wr.heap.size wr).drew.trans hb3)) HI.out.2.1 (by rw [HXl.out]; omega) hf3 (lim_le (by have := hroom.out; rw [val_lim] at this; omega)) (by omega) hroom.out)
        | (go_at_call 51; (with_reducible refine ca.mono ?_); rintro e w4 ⟨Y, rfl, S, D, ho4, hb4⟩))
      all_goals
        have hst := Lib.hid (HI.out.step hlt S D)
        have HO4 := Lib.hid ho4
        have HB4 := Lib.hid ((HB.out.drew.trans (hb3.mono (by show w.heap.size ≤ wr.heap.size; omega))).trans (hb4.below (Nat.le_refl _)))
        have HS4 := Lib.hid (show w.heap.size < w4.heap.size from ho4.lt_size)
        clear S D ho4 hb4 hb3 ho3 hf3 ca cT c1
        go_wp2_with fail
        go_roundw
        case rel => exact ⟨k + ys.length, _, by omega, by go_num, hst.out, HO4.out, HB4.out, HS4.out⟩
        case measure => simp [intOf]; omega
    · have hlX : Limbs X := hI.2.1
      have hv := hI.done (by omega)
      have hXl := hI.1
      obtain ⟨A2, cap2, e2, g1, g2, hrd⟩ := hX.rd hlX
      injection e2 with ea eb ec
      subst ea ec
      have cT := trim_any _ _ X wr _ hrd g1 g2
      have hfin := hX.trimmed hlX
      rw [hv, hXl] at cT
      rw [hv] at hfin
      have HF := Lib.hid hfin
      have HB := Lib.hid hB
      clear hI hX hB hr hr' hrd g1 g2 hfin hv hXl
      go_wp2_with fail
      with_reducible refine cT.mono ?_
      rintro e wn ⟨rfl, rfl⟩
      clear cT
      go_wp2
      go_ret
      exact ⟨⟨_, rfl, HF.out⟩, HB.out⟩

end Go.Proofs.Ytlfhpoffphljfaa

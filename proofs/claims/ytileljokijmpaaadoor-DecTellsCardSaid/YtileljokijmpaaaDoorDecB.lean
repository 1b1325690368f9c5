/- Contract: putDigits: it writes digits into a text of the call's own. -/
import Derived.StillTailTactics
import Derived.Test.YtileljokijmpaaaDoorPackD
import Derived.Test.YtileljokijmpaaaDoorDecC
namespace Go.Proofs.YtileljokijmpaaaDoor
open Go.RowKit Go.Shelf

set_option linter.unusedVariables false

/-- the block g is a row of just these bytes -/
def TextAt (w : World) (g : Nat) (Z : List Nat) : Prop := w.heap[g]? = some (.cells (b8s Z).toArray 5 (0, 0))
theorem TextAt.lt {w : World} {g : Nat} {Z : List Nat} (h : TextAt w g Z) : g < w.heap.size := (Array.getElem?_eq_some_iff.1 h).1
theorem TextAt.below {w w' : World} {g : Nat} {Z : List Nat} (h : TextAt w g Z) (hb : Below w.heap.size w w') : TextAt w' g Z := (hb.block g h.lt).trans h

theorem but_refl (g : Nat) (w : World) : w.grownBy w (some g) := ⟨rfl, rfl, rfl, Nat.le_refl _, fun _ _ _ => rfl⟩
theorem but_trans {g : Nat} {a b c : World} (h : a.grownBy b (some g)) (k : b.grownBy c (some g)) : a.grownBy c (some g) :=
  ⟨k.os.trans h.os, k.tape.trans h.tape, k.output.trans h.output, Nat.le_trans h.size k.size, fun i hi hg => (k.block i (Nat.lt_of_lt_of_le hi h.size) hg).trans (h.block i hi hg)⟩
theorem but_of {g : Nat} {w w' : World} (h : Below w.heap.size w w') : w.grownBy w' (some g) := ⟨h.os, h.tape, h.output, h.size, fun k hk _ => h.block k hk⟩
theorem but_below {g B : Nat} {w w' : World} (h : w.grownBy w' (some g)) (hB : B ≤ g) (hs : B ≤ w.heap.size) : Below B w w' := ⟨h.os, h.tape, h.output, h.size, fun k hk => h.block k (by omega) (by intro e; injection e with e; omega)⟩
theorem but_setRow {g : Nat} {w w' : World} (h : w.grownBy w' (some g)) (cs : Array Value) : w.grownBy (w'.setRow g cs) (some g) :=
  ⟨h.os, h.tape, h.output, by have := h.size; simpa [World.setRow] using this, fun k hk hg => (setRow_other w' g k cs (fun e => hg (by rw [e]))).trans (h.block k hk hg)⟩

/-- limbs in a block below B -/
def ArgB (w : World) (B : Nat) (v : Value) (xs : List Nat) : Prop := ∃ A cap, v = .slice A xs.length cap ∧ xs.length ≤ cap ∧ cap ≤ maxLen ∧ Rd w B A xs
/-- limbs in another block than g -/
def ArgO (w : World) (g : Nat) (v : Value) (xs : List Nat) : Prop :=
  ∃ A cap, v = .slice A xs.length cap ∧ xs.length ≤ cap ∧ cap ≤ maxLen ∧ Limbs xs ∧ (0 < xs.length → ∃ b off, A = some ⟨b, off, none⟩ ∧ b < w.heap.size ∧ b ≠ g ∧ ∀ j, j < xs.length → w.cell? ⟨b, off + j, none⟩ = some (.int .u32 ((xs[j]?.getD 0 : Nat) : Int)))
theorem ArgB.below {w w' : World} {B B' : Nat} {v : Value} {xs : List Nat} (h : ArgB w B v xs) (hb : Below B' w w') (hB : B ≤ B') : ArgB w' B v xs := by
  obtain ⟨A, cap, e, h1, h2, hr⟩ := h
  exact ⟨A, cap, e, h1, h2, hr.below hb hB⟩
theorem ArgB.arg {w : World} {B : Nat} {v : Value} {xs : List Nat} (h : ArgB w B v xs) (hB : B ≤ w.heap.size) : Arg w v xs := by
  obtain ⟨A, cap, e, h1, h2, hr⟩ := h
  exact ⟨A, cap, e, h1, h2, hr.more hB⟩
theorem ArgO.arg {w : World} {g : Nat} {v : Value} {xs : List Nat} (h : ArgO w g v xs) : Arg w v xs := by
  obtain ⟨A, cap, e, h1, h2, hl, hr⟩ := h
  exact ⟨A, cap, e, h1, h2, hl, fun h0 => by
    obtain ⟨b, off, e, hb, _, hc⟩ := hr h0
    exact ⟨b, off, e, hb, hc⟩⟩
theorem ArgO.limbs {w : World} {g : Nat} {v : Value} {xs : List Nat} (h : ArgO w g v xs) : Limbs xs := h.arg.limbs
theorem ArgO.but {w w' : World} {g : Nat} {v : Value} {xs : List Nat} (h : ArgO w g v xs) (hb : w.grownBy w' (some g)) : ArgO w' g v xs := by
  obtain ⟨A, cap, e, h1, h2, hl, hr⟩ := h
  refine ⟨A, cap, e, h1, h2, hl, fun h0 => ?_⟩
  obtain ⟨b, off, e, hlt, hne, hc⟩ := hr h0
  exact ⟨b, off, e, Nat.lt_of_lt_of_le hlt hb.size, hne, fun j hj => (World.cell?_of_block (hb.block b hlt (fun e => hne (by injection e)))).trans (hc j hj)⟩
theorem Arg.argO {w : World} {g : Nat} {v : Value} {xs : List Nat} (h : Arg w v xs) (hg : w.heap.size ≤ g) : ArgO w g v xs := by
  obtain ⟨A, cap, e, h1, h2, hl, hr⟩ := h
  exact ⟨A, cap, e, h1, h2, hl, fun h0 => by
    obtain ⟨b, off, e, hb, hc⟩ := hr h0
    exact ⟨b, off, e, hb, by omega, hc⟩⟩
theorem Own.argO {w : World} {B g : Nat} {v : Value} {xs : List Nat} (h : Own w B v xs) (hl : Limbs xs) (hg : g < B) : ArgO w g v xs := by
  rcases h.2 with ⟨rfl, h0⟩ | ⟨k, cap, cur, rfl, hk, hh, hle, hm, hs, ht⟩
  · exact ⟨none, 0, by rw [h0], by omega, by decide, hl, fun h => by omega⟩
  · refine ⟨_, cap, rfl, hle, hm, hl, fun hn => ⟨k, 0, rfl, (Array.getElem?_eq_some_iff.1 hh).1, by omega, fun j hj => ?_⟩⟩
    have hc := World.ownsRow.cellAt h j (by omega)
    rw [Nat.zero_add, hc, u32s, List.getElem?_map, List.getElem?_eq_getElem hj]
    rfl
/-- a list of slices of limbs, all below B -/
def RowsB (w : World) (B : Nat) (v : Value) (P : List (List Nat)) : Prop :=
  ∃ A cap, ∃ vs : List Value, v = .slice A P.length cap ∧ P.length ≤ cap ∧ cap ≤ maxLen ∧ (∀ j, j < P.length → ArgB w B (vs[j]?.getD undef) (P[j]?.getD [])) ∧
    (0 < P.length → ∃ b off, A = some ⟨b, off, none⟩ ∧ b < B ∧ ∀ j, j < P.length → w.cell? ⟨b, off + j, none⟩ = some (vs[j]?.getD undef))
theorem RowsB.below {w w' : World} {B B' : Nat} {v : Value} {P : List (List Nat)} (h : RowsB w B v P) (hb : Below B' w w') (hB : B ≤ B') : RowsB w' B v P := by
  obtain ⟨A, cap, vs, e, h1, h2, ha, hc⟩ := h
  refine ⟨A, cap, vs, e, h1, h2, fun j hj => (ha j hj).below hb hB, fun h0 => ?_⟩
  obtain ⟨b, off, e2, hlt, hc2⟩ := hc h0
  exact ⟨b, off, e2, hlt, fun j hj => (hb.cell (p := ⟨b, off + j, none⟩) (by simp; omega)).trans (hc2 j hj)⟩
theorem RowsB.take {w : World} {B : Nat} {A : Option Addr} {n cap : Nat} {P : List (List Nat)} (h : RowsB w B (.slice A n cap) P) (k : Nat) (hk : k ≤ P.length) : RowsB w B (.slice A k cap) (P.take k) := by
  obtain ⟨A', cap', vs, e, h1, h2, ha, hc⟩ := h
  injection e with e1 e2 e3
  subst e1 e3
  have hl : (P.take k).length = k := by rw [List.length_take]; omega
  refine ⟨A, cap, vs, by rw [hl], by omega, h2, fun j hj => ?_, fun h0 => ?_⟩
  · rw [List.getElem?_take, if_pos (by omega)]
    exact ha j (by omega)
  · obtain ⟨b, off, e2, hlt, hc2⟩ := hc (by omega)
    exact ⟨b, off, e2, hlt, fun j hj => hc2 j (by omega)⟩

theorem splice_two {α : Type} (Z A B : List α) (off : Nat) (h : off + A.length + B.length ≤ Z.length) : splice (splice Z off A) (off + A.length) B = splice Z off (A ++ B) := by
  unfold splice
  have h1 : (Z.take off).length = off := by rw [List.length_take]; omega
  rw [List.take_append, List.take_append, h1, List.drop_append, List.drop_append, h1]
  rw [List.take_of_length_le (show (Z.take off).length ≤ off + A.length by omega), show off + A.length - off = A.length from by omega, List.take_of_length_le (Nat.le_refl _), Nat.sub_self, List.take_zero,
    List.drop_eq_nil_of_le (show (Z.take off).length ≤ off + A.length + B.length by omega), show off + A.length + B.length - off = A.length + B.length from by omega, List.drop_eq_nil_of_le (show A.length ≤ A.length + B.length by omega), List.drop_drop]
  simp [Nat.add_assoc]
theorem b8s_splice (Z A : List Nat) (off : Nat) : b8s (splice Z off A) = splice (b8s Z) off (b8s A) := by
  unfold splice b8s
  simp

/-- powers of the pieces' base, each the square of the one ahead -/
def Pows (P : List (List Nat)) : Prop := ∀ j, j < P.length → P[j]?.getD [] = lim (10 ^ (9 * 2 ^ j)) ∧ (lim (10 ^ (9 * 2 ^ j))).length ≤ 65536

def PDPost (Z : List Nat) (off : Nat) (T : List Nat) (g : Nat) (w : World) (e : Ending) (w' : World) : Prop := e = .returned (.tuple #[]) ∧ TextAt w' g (splice Z off T) ∧ w.grownBy w' (some g)

theorem small_low {xs : List Nat} (hl : Limbs xs) (hm : mayb xs = true) (hv : val xs < 4294967296) : sLow xs = val xs := by
  have h1 : xs.length ≤ 1 := by
    rcases Nat.lt_or_ge 1 xs.length with h | h
    · exfalso
      have := canon_val_ge (mayb_canon hl hm) (fun e => by rw [e] at h; simp at h)
      have h2 : 4294967296 ^ 1 ≤ 4294967296 ^ (xs.length - 1) := Nat.pow_le_pow_right (by decide) (by omega)
      omega
    · exact h
  unfold sLow sLowOk
  rw [hm, decide_eq_true (by omega)]
  rfl

set_option maxRecDepth 100000 in
set_option maxHeartbeats 4000000 in
theorem put_zero (g off cp : Nat) (vn : Value) (A : Option Addr) (cap : Nat) (xs Z : List Nat) (w : World) (hT : TextAt w g Z) (hoff : off + 9 ≤ Z.length) (hn : ArgO w g vn xs) (hm : mayb xs = true) (hv : val xs < 1000000000) :
    Calls Tryd.prog 33 #[.slice (some ⟨g, off, none⟩) 9 cp, vn, .slice A 0 cap] w (PDPost Z off (pad (val xs) 9) g w) := by
  have c1 := low_env (env_start1 hn.arg) (va := vn) (xs := xs) (by simp)
  rw [small_low hn.limbs hm (by omega)] at c1
  obtain ⟨A', cap', rfl, _⟩ := id hn
  have hi : Hid ((Tryd.prog.info? 77).map (·.size) = some (b8s (pad (val xs) 9)).toArray.size) := by
    show _ = _
    rw [List.size_toArray, b8s_length, pad_length]
    kernel_rfl
  have hall := Lib.hid (show (b8s (pad (val xs) 9)).toArray.all (·.oneCell') = true by rw [Array.all_eq_true_iff_forall_mem]; intro v hv; exact b8s_one _ v (by simpa using hv))
  have hsz := Lib.hid (show (Array.replicate 9 (Value.int .u8 0)).size = (b8s (pad (val xs) 9)).toArray.size by rw [Array.size_replicate, List.size_toArray, b8s_length, pad_length])
  have hsz8 : Hid ((Tryd.prog.info? 5).map (·.size) = some 1) := by
    show _ = _
    kernel_rfl
  clear hn
  generalize hL : pad (val xs) 9 = L at *
  have hll : L.length = 9 := by rw [← hL, pad_length]
  have HL := Lib.hid hL
  clear hL
  go_enter Tryd.func33, Tryd.ntmps33
  go_wp2_with fail
  refine c1.mono ?_
  rintro e w1 ⟨rfl, E1⟩
  clear c1
  have c2 := nine_any (val xs) w1 (by omega)
  rw [HL.out] at c2
  go_wp2_with fail
  refine c2.mono ?_
  rintro e w2 ⟨rfl, hb2⟩
  clear c2
  have hB := E1.1.trans (hb2.mono E1.1.size)
  have hTx := hT.below hB
  have hgl := hTx.lt
  have hTy : TextAt (w2.alloc (.cells (Array.replicate 9 (.int .u8 0)) 77)) g Z := hTx.below ((Below.refl _ w2).alloc (Nat.le_refl _) _)
  have hR : (w2.alloc (.cells (Array.replicate 9 (.int .u8 0)) 77)).heap[w2.heap.size]? = some (.cells (Array.replicate 9 (.int .u8 0)) 77 (0, 0)) := by
    show (w2.heap.push _)[w2.heap.size]? = _
    rw [Array.getElem?_push, if_pos rfl]
  have hR2 := setRow_heap _ w2.heap.size _ (b8s L).toArray _ _ hR
  have hTz : ((w2.alloc (.cells (Array.replicate 9 (.int .u8 0)) 77)).setRow w2.heap.size (b8s L).toArray).heap[g]? = some (.cells (b8s Z).toArray 5 (0, 0)) := (setRow_other _ _ _ _ (by omega)).trans hTy
  have hsrc : ∀ (j : Nat) v, (b8s L)[j]? = some v → ((w2.alloc (.cells (Array.replicate 9 (.int .u8 0)) 77)).setRow w2.heap.size (b8s L).toArray).cell? ((⟨w2.heap.size, 0, none⟩ : Addr).add j) = some v := fun j v hj => by
    rw [Addr.add_lit, Nat.zero_add, cell_setRow_same _ _ _ _ _ _ _ hR]
    simpa using hj
  have hlen : (b8s L).length = Nat.min 9 9 := by rw [b8s_length, hll]; rfl
  have hfit : off + (b8s L).length ≤ (b8s Z).toArray.size := by rw [b8s_length, hll, List.size_toArray, b8s_length]; exact hoff
  have hone := b8s_one L
  have HB := Lib.hid ((hB.trans (((Below.refl _ w2).alloc (Nat.le_refl _) (.cells (Array.replicate 9 (.int .u8 0)) 77)).mono hB.size)).trans (below_setRow (Below.refl _ _) (B := w.heap.size) (g := w2.heap.size) hB.size (b8s L).toArray))
  go_wp2_with (first | refine wpList_store_row rfl 77 _ _ rfl w2.heap.size _ rfl rfl 77 _ hR hi.out hsz.out hall.out ?_ | (refine wpList_copy_own rfl _ _ 60 60 rfl 5 Tryd.underlying60 hsz8.out g off 9 cp ⟨w2.heap.size, 0, none⟩ 9 9 rfl rfl _ 5 hTz (b8s L) hlen hsrc hfit hone ?_))
  go_end0
  exact ⟨rfl, by unfold TextAt; rw [b8s_splice]; exact setRow_heap _ g _ _ _ _ hTz, but_setRow (but_of HB.out) _⟩

theorem elem62 : Tryd.prog.underlying 60 = some (.slice (Tryd.prog.elem 60)) := by
  rw [Tryd.underlying60]
  kernel_rfl
theorem size62 (w : World) : (sizeOf (Tryd.prog.elem 60)).run Tryd.prog w = .ok 1 w := by
  have e : Tryd.prog.elem 60 = 5 := by kernel_rfl
  have h : (Tryd.prog.info? 5).map (·.size) = some 1 := by kernel_rfl
  rw [e]
  cases hq : Tryd.prog.info? 5 with
  | none => rw [hq] at h; simp at h
  | some i => rw [hq] at h; simp at h; simp [sizeOf, typeInfo, hq, h]
theorem slice_half (g off cp : Nat) {H : Nat} (h : H < cp) (w' : World) : (Instr.sliceAt 60 (.slice (some ⟨g, off, none⟩) (H + H) cp) (some (.int .i64 (H : Int))) none none).run Tryd.prog w' = .ok (.slice (some ⟨g, off + H, none⟩) H (cp - H)) w' := by
  rw [run_sliceAt_slice (h := elem62), run_slice_l (ht := elem62) (h0 := by omega) (h1 := by omega), size62]
  have h1 : ¬ cp = H := by omega
  simp only [Result.andThen, sliced, Int.toNat_natCast, if_neg h1, Option.map_some, Nat.mul_one, Addr.add_lit, Nat.add_sub_cancel]

def PutAt (k H : Nat) : Prop := ∀ (g off cp : Nat) (vn : Value) (A : Option Addr) (cap : Nat) (P : List (List Nat)) (xs Z : List Nat) (w : World), H ≤ cp → TextAt w g Z → off + H ≤ Z.length → Z.length ≤ 1048576 * 64 → ArgO w g vn xs → mayb xs = true → val xs < 10 ^ H →
  RowsB w g (.slice A k cap) P → P.length = k → Pows P →
  Calls Tryd.prog 33 #[.slice (some ⟨g, off, none⟩) H cp, vn, .slice A k cap] w (PDPost Z off (pad (val xs) H) g w)

set_option maxRecDepth 100000 in
set_option maxHeartbeats 4000000 in
theorem put_step {k H : Nat} (hH : H = 9 * 2 ^ k) (ih : PutAt k H) : PutAt (k + 1) (H + H) := by
  intro g off cp vn A cap P xs Z w hcp hT hoff hZ hn hm hv hP hPl hpw
  obtain ⟨A', cap', rfl, _⟩ := id hn
  obtain ⟨hpk, hpf⟩ := hpw k (by omega)
  rw [← hH] at hpk hpf
  have hPt := hP.take k (by omega)
  obtain ⟨A2, cap2, vs, e2, hc1, hc2, hva, hvc⟩ := id hP
  injection e2 with e2 e3 e4
  subst e2 e4
  obtain ⟨b, o, rfl, hbg, hcl⟩ := hvc (by omega)
  have hck := hcl k (by omega)
  have hak := hva k (by omega)
  rw [hpk] at hak
  have hgl := hT.lt
  have hak' := hak.arg (Nat.le_of_lt hgl)
  generalize hvk : vs[k]?.getD undef = vk at *
  have cD := divmod_any _ _ xs (lim (10 ^ H)) w hn.arg hak'
  obtain ⟨Ak, capk, rfl, _⟩ := id hak
  have hT0 : 0 < 10 ^ H := Nat.pow_pos (by decide)
  have hlk : 0 < (lim (10 ^ H)).length := List.length_pos_iff.2 (fun e => by rw [lim_eq_nil] at e; omega)
  have hE : sDivE xs (lim (10 ^ H)) = 0 := sDivE_ok (by rw [hm, mayb_lim hpf]; rfl) hlk
  rw [hE, sDivQ_ok hE, sDivR_ok hE, val_lim] at cD
  have hq1 : val xs / 10 ^ H < 10 ^ H := Nat.div_lt_of_lt_mul (by rw [← Nat.pow_add]; exact hv)
  have hr1 : val xs % 10 ^ H < 10 ^ H := Nat.mod_lt _ hT0
  have hfq : (lim (val xs / 10 ^ H)).length ≤ 65536 := Nat.le_trans (lim_length_le.2 (Nat.lt_trans hq1 (lim_length_le.1 (Nat.le_refl _)))) hpf
  have hfr : (lim (val xs % 10 ^ H)).length ≤ 65536 := Nat.le_trans (lim_length_le.2 (Nat.lt_trans hr1 (lim_length_le.1 (Nat.le_refl _)))) hpf
  have hpad : pad (val xs) (H + H) = pad (val xs / 10 ^ H) H ++ pad (val xs % 10 ^ H) H := by rw [pad_add, pad_mod]
  have hi1 : ((k + 1 : Nat) : Int) - 1 = (k : Int) := by omega
  have hi3 : ((H : Int) + (H : Int)) / 2 = (H : Int) := by omega
  have hHp : 9 ≤ H := by rw [hH]; have := Nat.two_pow_pos k; omega
  have hlim : H + H ≤ 67108864 := by omega
  have hpl : k + 1 ≤ 9223372036854775807 := by unfold maxLen at hc2; omega
  have hkk : k < k + 1 := by omega
  have hcpH : H ≤ cp := by omega
  have hkcap : k ≤ cap := by omega
  have hk1 : k ≤ k + 1 := by omega
  have hHH : H ≤ H + H := by omega
  have hltc : H < cp := by omega
  have hnec : ¬ cp = H := by omega
  have hnec2 : ¬ H = cp := by omega
  have HPL := Lib.hid (show (P.take k).length = k by rw [List.length_take]; omega)
  have HPAD := Lib.hid hpad
  have HN := Lib.hid hn
  have HPT := Lib.hid hPt
  have HTT := Lib.hid hT
  have HIH := Lib.hid ih
  have HPW := Lib.hid (show Pows (P.take k) from fun j hj => by
    have hl : (P.take k).length = k := by rw [List.length_take]; omega
    rw [List.getElem?_take, if_pos (by omega)]
    exact hpw j (by omega))
  rw [← e3] at hc1
  clear e3 hPl
  have HQ := Lib.hid hq1
  have HR := Lib.hid hr1
  have HFQ := Lib.hid hfq
  have HFR := Lib.hid hfr
  have HHH := Lib.hid hH
  clear hpad hn hPt ih hpw hq1 hr1 hfq hfr hH hpk hpf hva hvc hcl hak hak' hE hT0 hlk hv hvk hP
  generalize val xs / 10 ^ H = q at *
  generalize val xs % 10 ^ H = r at *
  go_enter Tryd.func33, Tryd.ntmps33
  go_wp2_with fail
  refine cD.mono ?_
  rintro e w1 ⟨⟨v, v', rfl, ho, ho', hap⟩, hb1⟩
  clear cD
  have hnq := ho.argO (lim_limbs q) hgl
  have hnr := ho'.argO (lim_limbs r) hgl
  obtain ⟨Aq, cq, rfl, _⟩ := id hnq
  obtain ⟨Ar, cr, rfl, _⟩ := id hnr
  have HT1 := Lib.hid (HTT.out.below hb1)
  have HP1 := Lib.hid (HPT.out.below hb1 (Nat.le_of_lt hgl))
  have HB1 := Lib.hid (but_of (g := g) hb1)
  have HNQ := Lib.hid hnq
  have HNR := Lib.hid hnr
  clear ho ho' hap hnq hnr hb1
  go_wp2_with fail
  go_still_tail 7, (by kernel_rfl)
  change wpList _ _ _ _ _ w1.drew
  have HT2 : Hid (TextAt w1.drew g Z) := HT1.out
  have HP2 : Hid (RowsB w1.drew g (Value.slice (some ⟨b, o, none⟩) k cap) (P.take k)) := HP1.out
  have HB2 : Hid (w.grownBy w1.drew (some g)) := Lib.hid (but_trans HB1.out (but_of (Below.drew (Below.refl _ _))))
  have HNQ2 : Hid (ArgO w1.drew g (.slice Aq (lim q).length cq) (lim q)) := HNQ.out
  have HNR2 : Hid (ArgO w1.drew g (.slice Ar (lim r).length cr) (lim r)) := HNR.out
  clear HT1 HP1 HB1 HNQ HNR
  generalize w1.drew = w2 at *
  have c1 := HIH.out g off cp _ _ cap (P.take k) (lim q) Z w2 (by omega) HT2.out (by omega) (by omega) HNQ2.out (mayb_lim HFQ.out) (by rw [val_lim]; exact HQ.out) HP2.out HPL.out HPW.out
  rw [val_lim] at c1
  go_wp2_with fail
  refine c1.mono ?_
  rintro e w3 ⟨rfl, ht3, hg3⟩
  clear c1
  have hl3 : (splice Z off (pad q H)).length = Z.length := length_splice _ _ _ (by rw [pad_length]; omega)
  have HT3 := Lib.hid ht3
  have HP3 := Lib.hid (HP2.out.below (but_below hg3 (Nat.le_refl _) (Nat.le_of_lt HT2.out.lt)) (Nat.le_refl _))
  have HB3 := Lib.hid (but_trans HB2.out hg3)
  have HNR3 := Lib.hid (HNR2.out.but hg3)
  clear ht3 hg3 HT2 HP2 HB2 HNQ2 HNR2
  have hsl := slice_half g off cp hltc
  go_wp2_with fail
  go_still_tail 7, (by kernel_rfl)
  change wpList _ _ _ _ _ w3.drew
  have HT4 : Hid (TextAt w3.drew g (splice Z off (pad q H))) := HT3.out
  have HP4 : Hid (RowsB w3.drew g (Value.slice (some ⟨b, o, none⟩) k cap) (P.take k)) := HP3.out
  have HB4 : Hid (w.grownBy w3.drew (some g)) := Lib.hid (but_trans HB3.out (but_of (Below.drew (Below.refl _ _))))
  have HNR4 : Hid (ArgO w3.drew g (.slice Ar (lim r).length cr) (lim r)) := HNR3.out
  clear HT3 HP3 HB3 HNR3
  generalize w3.drew = w4 at *
  have c2 := HIH.out g (off + H) (cp - H) _ _ cap (P.take k) (lim r) _ w4 (by omega) HT4.out (by rw [hl3]; omega) (by rw [hl3]; omega) HNR4.out (mayb_lim HFR.out) (by rw [val_lim]; exact HR.out) HP4.out HPL.out HPW.out
  rw [val_lim] at c2
  have hs2 : splice (splice Z off (pad q H)) (off + H) (pad r H) = splice Z off (pad (val xs) (H + H)) := by
    have := splice_two Z (pad q H) (pad r H) off (by rw [pad_length, pad_length]; omega)
    rw [pad_length] at this
    rw [this, HPAD.out]
  have HS := Lib.hid hs2
  clear hs2 hl3 hsl
  go_wp2_with fail
  refine c2.mono ?_
  rintro e w5 ⟨rfl, ht5, hg5⟩
  clear c2
  rw [HS.out] at ht5
  have HT5 := Lib.hid ht5
  have HB5 := Lib.hid (but_trans HB4.out hg5)
  clear ht5 hg5
  go_wp2
  go_end0
  exact ⟨rfl, HT5.out, HB5.out⟩

theorem put_any : ∀ k, PutAt k (9 * 2 ^ k)
  | 0 => by
    intro g off cp vn A cap P xs Z w hcp hT hoff hZ hn hm hv hP hPl hpw
    exact put_zero g off cp vn A cap xs Z w hT (by simpa using hoff) hn hm (by simpa using hv)
  | k + 1 => by
    have := put_step rfl (put_any k)
    rwa [show 9 * 2 ^ k + 9 * 2 ^ k = 9 * 2 ^ (k + 1) by rw [Nat.pow_succ]; omega] at this

end Go.Proofs.YtileljokijmpaaaDoor

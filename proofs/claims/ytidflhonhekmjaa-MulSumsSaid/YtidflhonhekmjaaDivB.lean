/- Contract: nextLimb: a guess, put right by a jump back. -/
import Derived.ScopeJumps
import Derived.WalkMore
import Derived.Test.YtidflhonhekmjaaDivA
namespace Go.Proofs.Ytidflhonhekmjaa
open Go.RowKit Go.Shelf

set_option linter.unusedVariables false

/-- A scope with one label: what stands behind the label is walked once. -/
theorem wp_scope_label {P : Program} {a : Act} {w : World} {Q : Exit → Act → World → Prop} {c rest : Code} (l : Nat) (J : Act → World → Prop) (μ : Act → World → Nat) (hf : findLabel c l = some (Code.skip.seq rest))
    (pass : ∀ a w, J a w → rest.wp P (Exit.jump l (fun a' w' => J a' w' ∧ μ a' w' < μ a w) Q) a w)
    (first : (∀ a w, J a w → rest.wp P (Exit.jump l J Q) a w) → c.wp P (Exit.jump l J Q) a w) : (Code.scope c).wp P Q a w := by
  refine wp_scope_jumps l J μ hf (first fun a w h => wp_mono (pass a w h) fun e a' w' hq => ?_) fun a w h => wp_seq (wp_skip (pass a w h))
  cases e <;> first | exact hq | exact ⟨hq.1, hq.2.1⟩
theorem Only.trans {g : Nat} {a b c : World} (h : Only g a b) (k : Only g b c) : Only g a c := ⟨k.os.trans h.os, k.tape.trans h.tape, k.output.trans h.output, k.size.trans h.size, fun i hi => (k.block i hi).trans (h.block i hi)⟩
theorem Only.drewN (g : Nat) (w : World) (n : Nat) : Only g w (w.drewN n) := ⟨rfl, rfl, rfl, rfl, fun _ _ => rfl⟩
theorem Far.only {w w' : World} {g : Nat} {A : Option Addr} {xs : List Nat} (h : Far w g A xs) (k : Only g w w') : Far w' g A xs :=
  ⟨h.1, fun hn => by
    obtain ⟨b, off, e, hb, hc⟩ := h.2 hn
    exact ⟨b, off, e, hb, fun j hj => (k.cell (p := ⟨b, off + j, none⟩) hb).trans (hc j hj)⟩⟩

/-- What nextLimb leaves. -/
def NLPost (Z : List Nat) (off : Nat) (ys : List Nat) (g cz B : Nat) (w : World) (e : Ending) (w' : World) : Prop :=
  ∃ (q : Nat) (X : List Nat), e = .returned (.int .u32 (q : Int)) ∧ q < 4294967296 ∧ Same Z off (ys.length + 1) X ∧ seg X off (ys.length + 1) + q * val ys = seg Z off (ys.length + 1) ∧ seg X off (ys.length + 1) < val ys ∧ Own w' B (.slice (some ⟨g, 0, none⟩) X.length cz) X ∧ Only g w w'

theorem or_wide {x y : Nat} (hx : x < 4294967296) (hy : y < 4294967296) : bits BinOp.or IntKind.u64 ((x : Int) * 4294967296) (y : Int) = ((x * 4294967296 + y : Nat) : Int) := by
  have := or_low (m := x * 4294967296) (c := y) (r := 32) ⟨x, by omega⟩ hy (by omega) (by omega)
  rw [Int.natCast_mul] at this
  rw [show ((4294967296 : Nat) : Int) = 4294967296 from rfl] at this
  rw [this]; omega

/-- What holds at every jump. -/
def NLJ (g off cp : Nat) (b o cap N tp : Nat) (f s wd L D : Nat) (w : World) (a' : Act) (w' : World) : Prop :=
  (∃ n, w' = w.drewN n) ∧ ∃ (gg oo : Nat) (u2 u3 u8 u11 u12 u13 u14 u15 u16 u17 u18 u19 u20 u21 u22 u23 u24 u25 u26 u27 u28 u29 u30 u31 u32 u33 u34 u35 u36 u37 u38 u39 u40 u41 u42 u43 u44 u45 u46 u47 u48 u49 u50 u51 u52 u53 u54 u55 u56 u57 u58 u59 u60 u61 u62 u63 u64 u65 u66 u67 u68 u69 u70 u71 u72 u73 u74 u75 u76 u77 u78 u79 u80 : Value), a' = { tmps := #[.slice (some ⟨g, off, none⟩) (N + 1) cp, .slice (some ⟨b, o, none⟩) N cap, u2, u3, .int .u32 0, .int .i64 (tp : Int), .int .u64 (f : Int), .int .u64 (s : Int), u8, .int .u64 (gg : Int), .int .u64 (oo : Int), u11, u12, u13, u14, u15, u16, u17, u18, u19, u20, u21, u22, u23, u24, u25, u26, u27, u28, u29, u30, u31, u32, u33, u34, u35, u36, u37, u38, u39, u40, u41, u42, u43, u44, u45, u46, u47, u48, u49, u50, u51, u52, u53, u54, u55, u56, u57, u58, u59, u60, u61, u62, u63, u64, u65, u66, u67, u68, u69, u70, u71, u72, u73, u74, u75, u76, u77, u78, u79, u80], defers := [] } ∧ gg * f + oo = wd ∧ L < (gg + 1) * D ∧ gg < 18446744073709551616 ∧ oo < 8589934592

set_option maxHeartbeats 4000000 in
theorem nextLimb_any (g off cp cz : Nat) (A : Option Addr) (cap : Nat) (ys Z : List Nat) (w : World) (B : Nat) (hn : 2 ≤ ys.length) (hO : Own w B (.slice (some ⟨g, 0, none⟩) Z.length cz) Z) (hZ : Limbs Z) (hoff : off + ys.length < Z.length) (hr : Far w g A ys) (hl : ys.length ≤ 2097152) (hf : 0 < ys[ys.length - 1]?.getD 0) (hlt : seg Z off (ys.length + 1) < val ys * 4294967296) :
    Calls Try.prog 84 #[.slice (some ⟨g, off, none⟩) (ys.length + 1) cp, .slice A ys.length cap] w (NLPost Z off ys g cz B w) := by
  obtain ⟨N, hN⟩ : ∃ N, ys.length = N := ⟨_, rfl⟩
  obtain ⟨sp, hsp⟩ : ∃ sp, ys.length = sp + 2 := ⟨ys.length - 2, by omega⟩
  obtain ⟨tp, htp⟩ : ∃ tp, ys.length = tp + 1 := ⟨ys.length - 1, by omega⟩
  obtain ⟨b, o, rfl, hb, hcell⟩ := hr.2 (by omega)
  have c1 := hcell tp (by omega)
  have c2 := hcell sp (by omega)
  have d0 := hO.cellAt (j := off + N) (by omega)
  have d1 := hO.cellAt (j := off + tp) (by omega)
  have d2 := hO.cellAt (j := off + sp) (by omega)
  rw [show ys.length - 1 = tp from by omega] at hf
  have l1 := hr.limbs.getD tp
  have l2 := hr.limbs.getD sp
  have m0 := hZ.getD (off + N)
  have m1 := hZ.getD (off + tp)
  have m2 := hZ.getD (off + sp)
  generalize hF : ys[tp]?.getD 0 = f at *
  generalize hS : ys[sp]?.getD 0 = s at *
  generalize h0 : Z[off + N]?.getD 0 = z0 at *
  generalize h1 : Z[off + tp]?.getD 0 = z1 at *
  generalize h2 : Z[off + sp]?.getD 0 = z2 at *
  have HTOP := Lib.hid (tops_of hr.limbs hZ (off := off) hsp)
  rw [show sp + 1 = tp from by omega, show sp + 2 = N from by omega, hF, hS, h0, h1, h2] at HTOP
  have HF := Lib.hid hF
  have HS := Lib.hid hS
  have H0 := Lib.hid h0
  have H1 := Lib.hid h1
  have H2 := Lib.hid h2
  have HO := Lib.hid hO
  have HR := Lib.hid hr
  have HLT := Lib.hid hlt
  have t5 := or_wide (x := z0) (y := z1) m0 m1
  obtain ⟨wd, hwd⟩ : ∃ wd : Nat, wd = z0 * 4294967296 + z1 := ⟨_, rfl⟩
  rw [← hwd] at t5
  rw [← hwd] at HTOP
  have HW := Lib.hid hwd
  clear hF hS h0 h1 h2 hO hr hlt hcell hwd
  have q1 : (wd : Int) / (f : Int) = ((wd / f : Nat) : Int) := by simp
  have q2 : (wd : Int) % (f : Int) = ((wd % f : Nat) : Int) := by simp
  have q0 : ((f : Int) == 0) = false := beq_eq_false_iff_ne.2 (by omega)
  have q3 : wd / f < 18446744073709551616 := Nat.lt_of_le_of_lt (Nat.div_le_self _ _) (by have := HW.out; omega)
  have q4 : wd % f < 4294967296 := Nat.lt_trans (Nat.mod_lt _ hf) l1
  have hstart : Hid (wd / f * f + wd % f = wd ∧ seg Z off (ys.length + 1) < (wd / f + 1) * val ys) := by
    obtain ⟨P, dl, ll, x1, x2, x3, x4⟩ := HTOP.out
    exact ⟨by rw [Nat.mul_comm]; exact Nat.div_add_mod wd f, guess_start x3 x4 x2 m2 hf⟩
  have k1 : tp < N := by omega
  have k2 : sp < N := by omega
  have k3 : N ≤ 2097152 := by omega
  have i1 : (tp : Int) - 1 = (sp : Int) := by omega
  have i2 : (tp : Int) + 1 = (N : Int) := by omega
  have i3 := Lib.hid (show (N : Int) - 1 = (tp : Int) from by omega)
  have HN := Lib.hid hN
  have HSP := Lib.hid hsp
  have HTP := Lib.hid htp
  rw [hN]
  have HOFF := Lib.hid hoff
  have HLL := Lib.hid hl
  clear hN hsp htp hn hl hoff
  generalize wd / f = g0 at *
  generalize wd % f = o0 at *
  go_enter Try.func84, Try.ntmps84
  go_wp2
  refine wp_scope_label 0 (NLJ g off cp b o cap N tp f s wd (seg Z off (ys.length + 1)) (val ys) w) (fun a' _ => (intOf (a'.tmps.getD 9 undef)).toNat) rfl ?pass ?first
  case first =>
    intro hp
    go_wp2
    rw [i3.out]
    go_quiet (fail)
    go_wp2
    go_quiet (fail)
    go_wp2
    go_quiet (fail)
    go_wp2
    go_step3
    rw [q2]
    rename_i hK
    exact hK _ _ (hp _ _ ⟨⟨_, ((World.drewN_drewN _ _ _).trans (World.drewN_drewN _ _ _))⟩, g0, o0, _, _, _, _, _, _, _, _, _, _, _, _, _, _, _, _, _, _, _, _, _, _, _, _, _, _, _, _, _, _, _, _, _, _, _, _, _, _, _, _, _, _, _, _, _, _, _, _, _, _, _, _, _, _, _, _, _, _, _, _, _, _, _, _, _, _, _, _, _, _, _, _, _, rfl, hstart.out.1, hstart.out.2, q3, by omega⟩)
  case pass =>
    clear q0 q1 q2 q3 q4 hstart t5
    rintro a' w' ⟨⟨n, rfl⟩, gg, oo, u2, u3, u8, u11, u12, u13, u14, u15, u16, u17, u18, u19, u20, u21, u22, u23, u24, u25, u26, u27, u28, u29, u30, u31, u32, u33, u34, u35, u36, u37, u38, u39, u40, u41, u42, u43, u44, u45, u46, u47, u48, u49, u50, u51, u52, u53, u54, u55, u56, u57, u58, u59, u60, u61, u62, u63, u64, u65, u66, u67, u68, u69, u70, u71, u72, u73, u74, u75, u76, u77, u78, u79, u80, rfl, hg, hL, hgb, hob⟩
    have HG := Lib.hid hg
    have HL := Lib.hid hL
    clear hg hL
    have hv : ∃ v : Nat, v = oo + f := ⟨_, rfl⟩
    obtain ⟨v, hv⟩ := hv
    by_cases hA : oo ≤ 4294967295
    · by_cases hG : gg ≤ 4294967295
      · obtain ⟨p, hp⟩ : ∃ p : Nat, p = gg * s := ⟨_, rfl⟩
        have hpi : (gg : Int) * (s : Int) = (p : Int) := by rw [hp]; simp
        have hpb : p ≤ 18446744065119617025 := by
          have : gg * s ≤ 4294967295 * 4294967295 := Nat.mul_le_mul hG (by omega)
          rw [hp]; omega
        have t5 := or_wide (x := oo) (y := z2) (by omega) m2
        obtain ⟨tt, htt⟩ : ∃ tt : Nat, tt = oo * 4294967296 + z2 := ⟨_, rfl⟩
        rw [← htt] at t5
        have htb : tt < 18446744073709551616 := by omega
        by_cases hP : tt < p
        · have hg0 : gg ≠ 0 := by rintro rfl; rw [Nat.zero_mul] at hp; omega
          obtain ⟨j, hj⟩ : ∃ j, gg = j + 1 := ⟨gg - 1, by omega⟩
          have hji : (gg : Int) - 1 = (j : Int) := by omega
          have hvi : (oo : Int) + (f : Int) = (v : Int) := by omega
          have HJ1 : Hid (j * f + v = wd) := by
            have h1 := HG.out
            rw [hj, Nat.add_mul, Nat.one_mul] at h1
            show _ = _
            omega
          have HJ2 : Hid (seg Z off (ys.length + 1) < (j + 1) * val ys) := by
            obtain ⟨P, dl, ll, x1, x2, x3, x4⟩ := HTOP.out
            rw [← hj]
            exact guess_over x3 x4 x2 HG.out (by rw [← htt, ← hp]; exact hP)
          have hgj : 1 ≤ gg := by omega
          have hjg : j < gg := by omega
          have hvb : v < 8589934592 := by omega
          clear hp htt hj hv hg0
          go_wp2_with fail
          go_step3
          refine ⟨rfl, ⟨⟨n, rfl⟩, j, v, _, _, _, _, _, _, _, _, _, _, _, _, _, _, _, _, _, _, _, _, _, _, _, _, _, _, _, _, _, _, _, _, _, _, _, _, _, _, _, _, _, _, _, _, _, _, _, _, _, _, _, _, _, _, _, _, _, _, _, _, _, _, _, _, _, _, _, _, _, _, _, _, _, rfl, HJ1.out, HJ2.out, by omega, by omega⟩, ?_⟩
          simp [intOf]; omega
        · have HE1 : Hid (gg * s ≤ oo * 4294967296 + z2) := by rw [← htt, ← hp]; show _ ≤ _; omega
          clear hp htt hv
          have cT := takeTimes_any g off cp cz (some ⟨b, o, none⟩) cap ys Z gg (w.drewN n) B HO.out hZ HOFF.out HR.out HLL.out (by omega)
          rw [HN.out] at cT
          go_wp2_with fail
          with_reducible refine cT.mono ?_
          rintro e w2 ⟨bb, X, hbb, he, hS, hE, hO2, hOn⟩
          clear cT
          have hOn2 := (Only.drewN g w n).trans hOn
          have HOn := Lib.hid hOn2
          have HS2 := Lib.hid hS
          have HO2 := Lib.hid hO2
          clear hOn hOn2 hO2
          rcases (show bb = 0 ∨ bb = 1 from by omega) with rfl | rfl
          · obtain rfl : e = .returned (.bool false) := he
            rw [Nat.mul_zero, Nat.add_zero, Nat.mul_comm] at hE
            have HE := Lib.hid hE
            have hgs : ¬ (4294967295 < gg) := by omega
            have HLt : Hid (seg X off (ys.length + 1) < val ys) := by
              have h1 := HL.out
              have h2 := HE.out
              rw [Nat.add_mul, Nat.one_mul] at h1
              show _ < _
              omega
            clear hE hS
            go_wp2
            simp only [Exit.jump]
            go_ret
            exact ⟨gg, X, rfl, by omega, HS2.out, HE.out, HLt.out, HO2.out, HOn.out⟩
          · obtain rfl : e = .returned (.bool true) := he
            have hnear : gg * val ys ≤ seg Z off (ys.length + 1) + val ys := by
              obtain ⟨P, dl, ll, x1, x2, x3, x4⟩ := HTOP.out
              exact guess_near x3 x4 x1 hf HG.out (by omega) (HE1.out)
            have HX := Lib.hid hS.2.1
            have hxl : X.length = Z.length := hS.1
            have cP := putBack_any g off cp cz (some ⟨b, o, none⟩) cap ys X w2 B HO2.out hS.2.1 (by have := HOFF.out; omega) (HR.out.only HOn.out) HLL.out
            rw [HN.out] at cP
            have hsl := seg_lt hS.2.1 off (ys.length + 1)
            have hdl : val ys ≤ 4294967296 ^ (ys.length + 1) := Nat.le_trans (Nat.le_of_lt (val_lt HR.out.limbs)) (Nat.pow_le_pow_right (by decide) (by omega))
            have HFX := Lib.hid fun (x' q : Nat) (h1 : x' < 4294967296 ^ (ys.length + 1)) (h2 : x' + 4294967296 ^ (ys.length + 1) * q = seg X off (ys.length + 1) + val ys) => guess_fix hE hsl h1 h2 hdl hnear
            clear hE hS hsl hdl hnear hxl
            go_wp2_with fail
            with_reducible refine cP.mono ?_
            rintro e w3 ⟨q, Y, rfl, hS3, hE3, hO3, hOn3⟩
            clear cP
            have hfx := HFX.out (seg Y off (ys.length + 1)) q (seg_lt hS3.2.1 off (ys.length + 1)) hE3
            obtain ⟨j, hj, hj2, hj3⟩ := hfx
            have hji : (gg : Int) - 1 = (j : Int) := by omega
            have hgj : ¬ (gg = 0) := by omega
            have hjb : j < 4294967296 := by omega
            have HJ2 := Lib.hid hj2
            have HJ3 := Lib.hid hj3
            have HS3 := Lib.hid hS3
            have HO3 := Lib.hid hO3
            have HOn3 := Lib.hid hOn3
            clear hE3 hS3 hO3 hOn3 hj2 hj3 hj
            go_wp2
            simp only [Exit.jump]
            go_ret
            exact ⟨j, Y, rfl, hjb, HS2.out.then HS3.out, HJ2.out, HJ3.out, HO3.out, HOn.out.trans HOn3.out⟩
      · obtain ⟨j, hj⟩ : ∃ j, gg = j + 1 := ⟨gg - 1, by omega⟩
        have hji : (gg : Int) - 1 = (j : Int) := by omega
        have hvi : (oo : Int) + (f : Int) = (v : Int) := by omega
        have HJ1 : Hid (j * f + v = wd) := by
          have h1 := HG.out
          rw [hj, Nat.add_mul, Nat.one_mul] at h1
          show _ = _
          omega
        have HJ2 : Hid (seg Z off (ys.length + 1) < (j + 1) * val ys) := by
          rw [← hj]
          have h1 : 4294967296 * val ys ≤ gg * val ys := Nat.mul_le_mul_right _ (by omega)
          have h2 := HLT.out
          show _ < _
          omega
        have hgj : 1 ≤ gg := by omega
        have hjg : j < gg := by omega
        have hvb : v < 8589934592 := by omega
        clear hj hv
        go_wp2_with fail
        go_step3
        refine ⟨rfl, ⟨⟨n, rfl⟩, j, v, _, _, _, _, _, _, _, _, _, _, _, _, _, _, _, _, _, _, _, _, _, _, _, _, _, _, _, _, _, _, _, _, _, _, _, _, _, _, _, _, _, _, _, _, _, _, _, _, _, _, _, _, _, _, _, _, _, _, _, _, _, _, _, _, _, _, _, _, _, _, _, _, _, rfl, HJ1.out, HJ2.out, by omega, by omega⟩, ?_⟩
        simp [intOf]; omega
    · have hG : gg ≤ 4294967295 := by
        obtain ⟨P, dl, ll, x1, x2, x3, x4⟩ := HTOP.out
        have h1 := guess_top x3 x4 x1 l2 HLT.out
        have h2 := HG.out
        rcases Nat.lt_or_ge 4294967295 gg with h3 | h3
        · exfalso
          have h4 : 4294967296 * f ≤ gg * f := Nat.mul_le_mul_right _ h3
          omega
        · exact h3
      have HE1 : Hid (gg * s ≤ oo * 4294967296 + z2) := by
        have : gg * s ≤ 4294967295 * 4294967295 := Nat.mul_le_mul hG (by omega)
        show _ ≤ _
        omega
      clear hv
      have cT := takeTimes_any g off cp cz (some ⟨b, o, none⟩) cap ys Z gg (w.drewN n) B HO.out hZ HOFF.out HR.out HLL.out (by omega)
      rw [HN.out] at cT
      go_wp2_with fail
      with_reducible refine cT.mono ?_
      rintro e w2 ⟨bb, X, hbb, he, hS, hE, hO2, hOn⟩
      clear cT
      have hOn2 := (Only.drewN g w n).trans hOn
      have HOn := Lib.hid hOn2
      have HS2 := Lib.hid hS
      have HO2 := Lib.hid hO2
      clear hOn hOn2 hO2
      rcases (show bb = 0 ∨ bb = 1 from by omega) with rfl | rfl
      · obtain rfl : e = .returned (.bool false) := he
        rw [Nat.mul_zero, Nat.add_zero, Nat.mul_comm] at hE
        have HE := Lib.hid hE
        have hgs : ¬ (4294967295 < gg) := by omega
        have HLt : Hid (seg X off (ys.length + 1) < val ys) := by
          have h1 := HL.out
          have h2 := HE.out
          rw [Nat.add_mul, Nat.one_mul] at h1
          show _ < _
          omega
        clear hE hS
        go_wp2
        simp only [Exit.jump]
        go_ret
        exact ⟨gg, X, rfl, by omega, HS2.out, HE.out, HLt.out, HO2.out, HOn.out⟩
      · obtain rfl : e = .returned (.bool true) := he
        have hnear : gg * val ys ≤ seg Z off (ys.length + 1) + val ys := by
          obtain ⟨P, dl, ll, x1, x2, x3, x4⟩ := HTOP.out
          exact guess_near x3 x4 x1 hf HG.out (by omega) (HE1.out)
        have HX := Lib.hid hS.2.1
        have hxl : X.length = Z.length := hS.1
        have cP := putBack_any g off cp cz (some ⟨b, o, none⟩) cap ys X w2 B HO2.out hS.2.1 (by have := HOFF.out; omega) (HR.out.only HOn.out) HLL.out
        rw [HN.out] at cP
        have hsl := seg_lt hS.2.1 off (ys.length + 1)
        have hdl : val ys ≤ 4294967296 ^ (ys.length + 1) := Nat.le_trans (Nat.le_of_lt (val_lt HR.out.limbs)) (Nat.pow_le_pow_right (by decide) (by omega))
        have HFX := Lib.hid fun (x' q : Nat) (h1 : x' < 4294967296 ^ (ys.length + 1)) (h2 : x' + 4294967296 ^ (ys.length + 1) * q = seg X off (ys.length + 1) + val ys) => guess_fix hE hsl h1 h2 hdl hnear
        clear hE hS hsl hdl hnear hxl
        go_wp2_with fail
        with_reducible refine cP.mono ?_
        rintro e w3 ⟨q, Y, rfl, hS3, hE3, hO3, hOn3⟩
        clear cP
        have hfx := HFX.out (seg Y off (ys.length + 1)) q (seg_lt hS3.2.1 off (ys.length + 1)) hE3
        obtain ⟨j, hj, hj2, hj3⟩ := hfx
        have hji : (gg : Int) - 1 = (j : Int) := by omega
        have hgj : ¬ (gg = 0) := by omega
        have hjb : j < 4294967296 := by omega
        have HJ2 := Lib.hid hj2
        have HJ3 := Lib.hid hj3
        have HS3 := Lib.hid hS3
        have HO3 := Lib.hid hO3
        have HOn3 := Lib.hid hOn3
        clear hE3 hS3 hO3 hOn3 hj2 hj3 hj
        go_wp2
        simp only [Exit.jump]
        go_ret
        exact ⟨j, Y, rfl, hjb, HS2.out.then HS3.out, HJ2.out, HJ3.out, HO3.out, HOn.out.trans HOn3.out⟩

end Go.Proofs.Ytidflhonhekmjaa

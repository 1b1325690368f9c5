/- The law NamesOwn. (Printed by wip/mknamown.py.) -/
import Derived.Test.YtcjljfjgekiocaaGreatDoorNamAJ
namespace Go.Proofs.YtcjljfjgekiocaaGreatDoor
open Go.RowKit Go.Shelf

set_option linter.unusedVariables false
set_option linter.unusedSimpArgs false

/-- three tables that lie apart -/
def Three (w0 W : World) (g : Nat) (T : Tb) (u : Nat) (U : Tb) (x : Nat) (X : Tb) : Prop := ∃ kg ku kx, TabAt W w0.heap.size g T kg ∧ TabAt W w0.heap.size u U ku ∧ TabAt W w0.heap.size x X kx ∧ (∀ k ∈ ku, k ∉ kg) ∧ (∀ k ∈ kx, k ∉ kg) ∧ (∀ k ∈ ku, k ∉ kx) ∧ Below w0.heap.size w0 W
theorem Three.below {w0 W W' : World} {g u x : Nat} {T U X : Tb} (h : Three w0 W g T u U x X) (hb : Below W.heap.size W W') : Three w0 W' g T u U x X := by
  obtain ⟨kg, ku, kx, h1, h2, h3, d1, d2, d3, h4⟩ := h
  exact ⟨kg, ku, kx, h1.below hb, h2.below hb, h3.below hb, d1, d2, d3, h4.trans (hb.mono h4.size)⟩
theorem Three.post {w0 W W' : World} {g u x : Nat} {T T' U X : Tb} {kg ku kx : List Nat} (h1 : TabAt W w0.heap.size g T kg) (h2 : TabAt W w0.heap.size u U ku) (h3 : TabAt W w0.heap.size x X kx) (d1 : ∀ k ∈ ku, k ∉ kg) (d2 : ∀ k ∈ kx, k ∉ kg) (d3 : ∀ k ∈ ku, k ∉ kx) (h4 : Below w0.heap.size w0 W) (hp : TPost W w0.heap.size g T' kg W') : Three w0 W' g T' u U x X := by
  have hb := h4.trans (TPost.below h1 h4.size hp)
  obtain ⟨k2, q1, q2, q3⟩ := hp
  have hn : ∀ {ks : List Nat}, (∀ k ∈ ks, W.heap.size > k) → (∀ k ∈ ks, k ∉ kg) → ∀ k ∈ ks, k ∉ k2 := fun hlt hd k hk r => by
    rcases q2 k r with r | r
    · exact hd k hk r
    · have := hlt k hk
      omega
  exact ⟨k2, ku, kx, q1, h2.keepNb q3 d1, h3.keepNb q3 d2, hn (fun k hk => (h2.kind k hk).2) d1, hn (fun k hk => (h3.kind k hk).2) d2, d3, hb⟩
theorem Three.two {w0 W : World} {g u x : Nat} {T U X : Tb} (h : Three w0 W g T u U x X) : Two w0 W g T u U := by
  obtain ⟨kg, ku, kx, h1, h2, h3, d1, d2, d3, h4⟩ := h
  exact ⟨kg, ku, h1, h2, d1, h4⟩
theorem Three.last {w0 W W' : World} {g u x : Nat} {T U X X' : Tb} {kg ku kx : List Nat} (h1 : TabAt W w0.heap.size g T kg) (h2 : TabAt W w0.heap.size u U ku) (h3 : TabAt W w0.heap.size x X kx) (d1 : ∀ k ∈ ku, k ∉ kg) (d2 : ∀ k ∈ kx, k ∉ kg) (d3 : ∀ k ∈ ku, k ∉ kx) (h4 : Below w0.heap.size w0 W) (hp : TPost W w0.heap.size x X' kx W') : Two w0 W' g T u U := by
  have hb := h4.trans (TPost.below h3 h4.size hp)
  obtain ⟨k2, q1, q2, q3⟩ := hp
  exact ⟨kg, ku, h1.keepNb q3 fun k hk r => d2 k r hk, h2.keepNb q3 d3, d1, hb⟩
theorem RdA.one {w : World} {A : Option Addr} {l : List Act} (h : RdA w A l) {j : Nat} {a : Act} (he : l[j]? = some a) : ∃ b o, A = some ⟨b, o, none⟩ ∧ b < w.heap.size ∧ RdA w (some ⟨b, o + j * 2, none⟩) [a] ∧ w.cell? ⟨b, o + j * 2, none⟩ = some (.int .u8 ((a.1 : Nat) : Int)) ∧ ∃ A' c, w.cell? ⟨b, o + j * 2 + 1, none⟩ = some (.slice A' a.2.length c) ∧ RdS w A' a.2 := by
  obtain ⟨b, o, h1, h2, h3, h4⟩ := h.at he
  refine ⟨b, o, h1, h2, .inr ⟨b, o + j * 2, rfl, h2, fun i x hx => ?_⟩, h3, h4⟩
  match i with
  | 0 =>
    injection hx with hx
    subst hx
    exact ⟨by simpa using h3, h4⟩
  | i + 1 => cases hx
theorem act_no {T : Tb} {a : Act} : (a.1 % 4 = 0 → declC T (fst1 a.2) ≠ 0 → actT T a = T) ∧ (a.1 % 4 = 1 → openC T a.2 ≠ 0 → actT T a = T) ∧ (a.1 % 4 = 2 → closeC T ≠ 0 → actT T a = T) := by
  refine ⟨fun h1 h2 => ?_, fun h1 h2 => ?_, fun h1 h2 => ?_⟩
  · unfold actT
    rw [if_pos h1]
    unfold declT
    rw [if_neg h2]
  · unfold actT
    rw [if_neg (by omega), if_pos h1]
    unfold openT
    rw [if_neg h2]
  · unfold actT
    rw [if_neg (by omega), if_neg (by omega), if_pos h1]
    unfold closeC at h2
    split at h2
    · rename_i h3
      obtain ⟨dn, dv, sc, nx⟩ := T
      have h4 : sc = [] := List.length_eq_zero_iff.1 h3
      subst h4
      rfl
    · exact absurd rfl h2
theorem probe_below {wr W6 W7 : World} {B p : Nat} {P' : Tb} {kp : List Nat} (b6 : Below wr.heap.size wr W6) (hk : ∀ k ∈ kp, wr.heap.size ≤ k) (hp : TPost W6 B p P' kp W7) : Below wr.heap.size wr W7 := by
  obtain ⟨_, _, _, n⟩ := hp
  exact b6.trans (n.below b6.size hk)
set_option maxRecDepth 100000 in
set_option maxHeartbeats 16000000 in
theorem own_law (w : World) (l : List Act) (A : Option Addr) (c : Nat) (ms : List Act) (Am : Option Addr) (cm : Nat) (ns : List (List Nat)) (An : Option Addr) (cn : Nat) (hr : RdA w A l) (hok : OkA l) (hl : l.length ≤ 9223372036854775807) (hr2 : RdA w Am ms) (hok2 : OkA ms) (hl2 : ms.length ≤ cm ∧ cm ≤ 9223372036854775807) (hr3 : RdS w An ns) (hok3 : OkR ns) (hl3 : ns.length ≤ 9223372036854775807) :
    Calls Tryz.prog 7 #[.slice A l.length c, .slice Am ms.length cm, .slice An ns.length cn] w fun e w' => e = .returned (.bool true) ∧ Below w.heap.size w w' := by
  have HR := Lib.hid hr
  have HO := Lib.hid hok
  have HR2 := Lib.hid hr2
  have HO2 := Lib.hid hok2
  have HR3 := Lib.hid hr3
  have HO3 := Lib.hid hok3
  obtain ⟨n, hn⟩ : ∃ n, n = l.length := ⟨_, rfl⟩
  obtain ⟨m, hm⟩ : ∃ m, m = ms.length := ⟨_, rfl⟩
  obtain ⟨p, hp⟩ : ∃ p, p = ns.length := ⟨_, rfl⟩
  have HN := Lib.hid hn
  have HM := Lib.hid hm
  have HP := Lib.hid hp
  rw [← hn] at hl ⊢
  rw [← hm] at hl2 ⊢
  rw [← hp] at hl3 ⊢
  have hmc := hl2.1
  have hcm := hl2.2
  clear hr hok hr2 hok2 hr3 hok3 hn hm hp hl2
  go_enter Tryz.func7, Tryz.ntmps7
  go_wp2_with fail
  refine (works_any _).mono ?_
  rintro e w1 ⟨rfl, b1⟩
  have C1 := long_any l A c w1 (HR.out.below b1) HO.out (by rw [← HN.out]; exact hl)
  rw [← HN.out] at C1
  have HC1 := Lib.hid C1
  have HW1 := Lib.hid b1
  clear b1 C1
  go_wp2_with fail
  refine HC1.out.mono ?_
  rintro e w2 ⟨⟨b, rfl, hS⟩, rfl⟩
  clear HC1
  cases b with
  | true =>
    clear hS
    go_wp2_with fail
    refine (works_any _).mono ?_
    rintro e w3 ⟨rfl, b3⟩
    have HW3 := Lib.hid (HW1.out.trans (b3.mono HW1.out.size))
    clear b3
    go_wp2_with fail
    go_ret
    exact ⟨rfl, HW3.out⟩
  | false =>
  have HS := Lib.hid (hS rfl)
  have C2 := long_any ms Am cm w2 (HR2.out.below HW1.out) HO2.out (by rw [← HM.out]; omega)
  rw [← HM.out] at C2
  have HC2 := Lib.hid C2
  clear hS C2
  go_wp2_with fail
  refine HC2.out.mono ?_
  rintro e w2 ⟨⟨b, rfl, hS⟩, rfl⟩
  clear HC2
  cases b with
  | true =>
    clear hS
    go_wp2_with fail
    refine (works_any _).mono ?_
    rintro e w3 ⟨rfl, b3⟩
    have HW3 := Lib.hid (HW1.out.trans (b3.mono HW1.out.size))
    clear b3
    go_wp2_with fail
    go_ret
    exact ⟨rfl, HW3.out⟩
  | false =>
  have HSM := Lib.hid (hS rfl)
  have HC2 := Lib.hid (long1_any w2 An p cn ns 46 (HR3.out.below HW1.out) HO3.out (by rw [← HP.out]; exact hl3) HP.out)
  clear hS
  go_wp2_with fail
  refine HC2.out.mono ?_
  rintro e w3 ⟨⟨b, rfl, hS3⟩, b3⟩
  have HW3 := Lib.hid (HW1.out.trans (b3.mono HW1.out.size))
  clear HC2 b3 HW1
  cases b with
  | true =>
    clear hS3
    go_wp2_with fail
    refine (works_any _).mono ?_
    rintro e w4 ⟨rfl, b4⟩
    have HW4 := Lib.hid (HW3.out.trans (b4.mono HW3.out.size))
    clear b4
    go_wp2_with fail
    go_ret
    exact ⟨rfl, HW4.out⟩
  | false =>
  have HS3 := Lib.hid (hS3 rfl)
  clear hS3
  obtain ⟨g, hg⟩ : ∃ g, g = w3.heap.size := ⟨_, rfl⟩
  have C4 := new_any w3 w.heap.size HW3.out.size
  rw [← hg] at C4
  have HC4 := Lib.hid C4
  have HGQ := Lib.hid hg
  clear C4 hg
  go_wp2_with fail
  refine HC4.out.mono ?_
  rintro e w4 ⟨rfl, h4, b4⟩
  have hb4 := HW3.out.trans (b4.mono (by rw [HGQ.out]; exact HW3.out.size))
  have C5 := play_any g tb0 [g] l A c w4 w h4 GoodT.new hb4 HR.out HO.out HS.out
  rw [← HN.out] at C5
  have HC5 := Lib.hid C5
  have HT4 := Lib.hid h4
  have HW4 := Lib.hid hb4
  clear HC4 C5 h4 b4 hb4 HGQ HW3
  go_wp2_with fail
  refine HC5.out.mono ?_
  rintro e w5 ⟨rfl, hp5⟩
  have hG0 : GoodT (playT tb0 l) := GoodT.play GoodT.new fun a ha x hx => ((HO.out a ha).2.1 x hx).1
  obtain ⟨d0, hd0⟩ : ∃ d : Int, d = ((playT tb0 l).sc.length : Int) - (tb0.sc.length : Int) := ⟨_, rfl⟩
  rw [← hd0]
  clear hd0
  generalize playT tb0 l = T0 at *
  have HG0 := Lib.hid hG0
  have hb5 := HW4.out.trans (TPost.below HT4.out HW4.out.size hp5)
  obtain ⟨kg, h5, -, -⟩ := hp5
  have HC6 := Lib.hid (copy_any g T0 kg w5 w.heap.size hb5.size h5 hG0)
  have HT5 := Lib.hid h5
  have HW5 := Lib.hid hb5
  clear HC5 hG0 h5 hb5 HW4 HT4
  go_wp2_with fail
  refine HC6.out.mono ?_
  rintro e w6 ⟨u, ku, rfl, h6, hk6, b6⟩
  have h2 : Two w w6 g T0 u T0 := ⟨kg, ku, HT5.out.below b6, h6, fun k q q2 => by
    have := hk6 k q
    have := (HT5.out.kind k q2).2
    omega, HW5.out.trans (b6.mono HW5.out.size)⟩
  have HTW := Lib.hid h2
  clear HC6 h6 hk6 b6 h2 HT5 HW5
  obtain ⟨kg1, ku1, t1, t2, t3, t4⟩ := HTW.out
  have HC7 := Lib.hid (copy_any g T0 kg1 w6 w.heap.size t4.size t1 HG0.out)
  have HT1 := Lib.hid t1
  have HT2 := Lib.hid t2
  have HT3 := Lib.hid t3
  have HT4 := Lib.hid t4
  clear t1 t2 t3 t4 HTW
  go_wp2_with fail
  refine HC7.out.mono ?_
  rintro e w7 ⟨x, kx, rfl, h7, hk7, b7⟩
  have h3 : Three w w7 g T0 u T0 x T0 := ⟨kg1, ku1, kx, HT1.out.below b7, HT2.out.below b7, h7, HT3.out, fun k q q2 => by
    have := hk7 k q
    have := (HT1.out.kind k q2).2
    omega, fun k q q2 => by
    have := hk7 k q2
    have := (HT2.out.kind k q).2
    omega, HT4.out.trans (b7.mono HT4.out.size)⟩
  have HTH := Lib.hid h3
  clear HC7 h7 hk7 b7 h3 HT1 HT2 HT3 HT4
  go_wp2_with fail
  go_loopw [10] (fun i wr => ∃ j : Nat, i = .int .i64 (j : Int) ∧ j ≤ m ∧ Three w wr g T0 u T0 x T0) (fun i _ => m - (intOf i).toNat)
  case atStart => exact ⟨0, rfl, Nat.zero_le _, HTH.out⟩
  case round =>
    obtain ⟨j, rfl, hj, h2⟩ := hrel
    have HTj := Lib.hid h2
    clear h2
    by_cases hlt : j < m
    · have hltI : (j : Int) < (m : Int) := by omega
      obtain ⟨a, ha⟩ : ∃ a, ms[j]? = some a := ⟨_, List.getElem?_eq_getElem (by rw [← HM.out]; exact hlt)⟩
      obtain ⟨bm, om, rfl, hbm, r1, k1, A', c', k2, k3⟩ := HR2.out.one ha
      obtain ⟨q1, q2, q3⟩ := HO2.out a (List.mem_of_getElem? ha)
      have qs := HSM.out.2 a (List.mem_of_getElem? ha)
      obtain ⟨kg1, ku1, kx1, t1, t2, t3, d1, d2, d3, t4⟩ := HTj.out
      have HC8 := Lib.hid (copy_any g T0 kg1 wr w.heap.size t4.size t1 HG0.out)
      have HWR := Lib.hid t4
      have HR1 := Lib.hid r1
      have HOA := Lib.hid (show OkA [a] from fun a' ha' => by
        rw [List.mem_singleton.1 ha']
        exact ⟨q1, q2, q3⟩)
      have HSA := Lib.hid (show ShA [a] from ⟨by simp, fun a' ha' => by
        rw [List.mem_singleton.1 ha']
        exact qs⟩)
      have HK1 := Lib.hid k1
      have HK2 := Lib.hid k2
      have HK3 := Lib.hid k3
      have HOS := Lib.hid (q2.s qs)
      obtain ⟨q, hq⟩ : ∃ q, q = a.2.length := ⟨_, rfl⟩
      have hq4 : q < 400 := by rw [hq]; exact qs.1
      have HQ := Lib.hid hq
      obtain ⟨kd4, hk4⟩ : ∃ k, k = a.1 % 4 := ⟨_, rfl⟩
      have HK4 := Lib.hid hk4
      have e4 : ((a.1 : Nat) : Int) % 4 = (kd4 : Int) := by omega
      have hlt4 : kd4 < 4 := by omega
      clear ha r1 k1 k2 k3 q1 q2 q3 qs t1 t2 t3 d1 d2 d3 t4 hk4 hq
      go_wp2_with fail
      refine HC8.out.mono ?_
      rintro e w6 ⟨pp, kp, rfl, h6, hk6, b6⟩
      have hbw : Below w.heap.size w w6 := HWR.out.trans (b6.mono HWR.out.size)
      have x1 := (hbw.cell (p := ⟨bm, om + j * 2, none⟩) hbm).trans HK1.out
      have x2 := (hbw.cell (p := ⟨bm, om + j * 2 + 1, none⟩) hbm).trans HK2.out
      rw [← HQ.out] at x2
      have H6 := Lib.hid h6
      have HK6 := Lib.hid hk6
      have HB6 := Lib.hid b6
      have HBW := Lib.hid hbw
      clear HC8 h6 hk6 b6 hbw
      have hc4 : kd4 = 0 ∨ kd4 = 1 ∨ kd4 = 2 ∨ kd4 = 3 := by omega
      rcases hc4 with rfl | rfl | rfl | rfl
      · simp only [Int.ofNat_zero, Int.ofNat_one, Int.cast_ofNat_Int] at e4
        have C1 := first_any (.int .u8 ((a.1 : Nat) : Int)) a.2 A' c' w6 (HK3.out.below HBW.out) ⟨_, rfl⟩ (by rw [← HQ.out]; omega)
        rw [← HQ.out] at C1
        have HC1 := Lib.hid C1
        clear C1
        go_wp2_with fail
        refine HC1.out.mono ?_
        rintro e w7 ⟨rfl, hb1⟩
        have hf : Codes (fst1 a.2) ∧ (fst1 a.2).length < 9223372036854775807 := by
          refine ⟨fst1_codes fun x hx => (HOS.out x hx).1, ?_⟩
          cases q : a.2 with
          | nil => decide
          | cons x r => exact (HOS.out x (by rw [q]; simp)).2
        have C2 := declare_go pp T0 kp (fst1 a.2) w7 w.heap.size (Nat.le_trans HBW.out.size hb1.size) (H6.out.below hb1) HG0.out hf.1 hf.2
        have HB1 := Lib.hid (HB6.out.trans (hb1.mono HB6.out.size))
        clear hb1 x1 x2
        go_wp2_with fail
        refine C2.mono ?_
        rintro e w8 ⟨rfl, hp2⟩
        have HNO := Lib.hid (act_no (T := T0) (a := a)).1
        have HT8 := Lib.hid (HTj.out.below (probe_below HB1.out HK6.out hp2))
        have hcc := declC_cases T0 (fst1 a.2)
        obtain ⟨cc, hce⟩ : ∃ cc, cc = declC T0 (fst1 a.2) := ⟨_, rfl⟩
        rw [← hce] at hcc HNO ⊢
        have HNO := Lib.hid (HNO.out HK4.out.symm)
        obtain ⟨vv, hvv⟩ : ∃ vv, vv = declV T0 (fst1 a.2) := ⟨_, rfl⟩
        rw [← hvv]
        have HCC := Lib.hid hcc
        clear hp2 hce hvv hcc C2 HC1 HB1 H6 HK6 HB6 HBW
        by_cases h0 : cc = 0
        · subst h0
          go_wp2_with fail
          exact ⟨⟨j + 1, by go_num, by omega, HT8.out⟩, by simp [intOf]; omega⟩
        · have h0' : ¬ (cc : Int) = 0 := by omega
          obtain ⟨kg2, ku2, kx2, t1, t2, t3, d1, d2, d3, t4⟩ := HT8.out
          have C9 := play_any g T0 kg2 [a] (some ⟨bm, om + j * 2, none⟩) (cm - j) w8 w t1 HG0.out t4 HR1.out HOA.out HSA.out
          rw [show playT T0 [a] = T0 from HNO.out h0] at C9
          have HC9 := Lib.hid C9
          have HL := Lib.hid fun W hp => Three.post (T' := T0) (W' := W) t1 t2 t3 d1 d2 d3 t4 hp
          clear C9 t1 t2 t3 d1 d2 d3 t4
          go_wp2_with fail
          refine HC9.out.mono ?_
          rintro e w9 ⟨rfl, hp9⟩
          have HT9 := Lib.hid (HL.out w9 hp9)
          clear hp9 HC9 HL
          go_wp2_with fail
          exact ⟨⟨j + 1, by go_num, by omega, HT9.out⟩, by simp [intOf]; omega⟩
      · simp only [Int.ofNat_zero, Int.ofNat_one, Int.cast_ofNat_Int] at e4
        have C2 := open_all pp T0 kp a.2 A' c' w6 w.heap.size HBW.out.size H6.out HG0.out (HK3.out.below HBW.out) HOS.out (by rw [← HQ.out]; omega)
        rw [← HQ.out] at C2
        have HC2 := Lib.hid C2
        clear C2
        go_wp2_with fail
        refine HC2.out.mono ?_
        rintro e w8 ⟨v, kp2, rfl, h8, s8, n8, r8, d8⟩
        have HNO := Lib.hid (act_no (T := T0) (a := a)).2.1
        have HT8 := Lib.hid (HTj.out.below (probe_below HB6.out HK6.out ⟨kp2, h8, s8, n8⟩))
        have hcc := openC_cases T0 a.2
        obtain ⟨cc, hce⟩ : ∃ cc, cc = openC T0 a.2 := ⟨_, rfl⟩
        rw [← hce] at hcc HNO ⊢
        have HNO := Lib.hid (HNO.out HK4.out.symm)
        have HCC := Lib.hid hcc
        clear h8 s8 n8 r8 d8 hce hcc HC2 H6 HK6 HB6 HBW x1 x2
        by_cases h0 : cc = 0
        · subst h0
          go_wp2_with fail
          exact ⟨⟨j + 1, by go_num, by omega, HT8.out⟩, by simp [intOf]; omega⟩
        · have h0' : ¬ (cc : Int) = 0 := by omega
          obtain ⟨kg2, ku2, kx2, t1, t2, t3, d1, d2, d3, t4⟩ := HT8.out
          have C9 := play_any g T0 kg2 [a] (some ⟨bm, om + j * 2, none⟩) (cm - j) w8 w t1 HG0.out t4 HR1.out HOA.out HSA.out
          rw [show playT T0 [a] = T0 from HNO.out h0] at C9
          have HC9 := Lib.hid C9
          have HL := Lib.hid fun W hp => Three.post (T' := T0) (W' := W) t1 t2 t3 d1 d2 d3 t4 hp
          clear C9 t1 t2 t3 d1 d2 d3 t4
          go_wp2_with fail
          refine HC9.out.mono ?_
          rintro e w9 ⟨rfl, hp9⟩
          have HT9 := Lib.hid (HL.out w9 hp9)
          clear hp9 HC9 HL
          go_wp2_with fail
          exact ⟨⟨j + 1, by go_num, by omega, HT9.out⟩, by simp [intOf]; omega⟩
      · simp only [Int.ofNat_zero, Int.ofNat_one, Int.cast_ofNat_Int] at e4
        have HC2 := Lib.hid (close_all pp T0 kp w6 w.heap.size H6.out HG0.out)
        go_wp2_with fail
        refine HC2.out.mono ?_
        rintro e w8 ⟨rfl, hp2⟩
        have HNO := Lib.hid (act_no (T := T0) (a := a)).2.2
        have HT8 := Lib.hid (HTj.out.below (probe_below HB6.out HK6.out hp2))
        have hcc : closeC T0 = 5 ∨ closeC T0 = 0 := by unfold closeC; split <;> simp
        obtain ⟨cc, hce⟩ : ∃ cc, cc = closeC T0 := ⟨_, rfl⟩
        rw [← hce] at hcc HNO ⊢
        have HNO := Lib.hid (HNO.out HK4.out.symm)
        have HCC := Lib.hid hcc
        clear hp2 hce hcc HC2 H6 HK6 HB6 HBW x1 x2
        by_cases h0 : cc = 0
        · subst h0
          go_wp2_with fail
          exact ⟨⟨j + 1, by go_num, by omega, HT8.out⟩, by simp [intOf]; omega⟩
        · have h0' : ¬ (cc : Int) = 0 := by omega
          obtain ⟨kg2, ku2, kx2, t1, t2, t3, d1, d2, d3, t4⟩ := HT8.out
          have C9 := play_any g T0 kg2 [a] (some ⟨bm, om + j * 2, none⟩) (cm - j) w8 w t1 HG0.out t4 HR1.out HOA.out HSA.out
          rw [show playT T0 [a] = T0 from HNO.out h0] at C9
          have HC9 := Lib.hid C9
          have HL := Lib.hid fun W hp => Three.post (T' := T0) (W' := W) t1 t2 t3 d1 d2 d3 t4 hp
          clear C9 t1 t2 t3 d1 d2 d3 t4
          go_wp2_with fail
          refine HC9.out.mono ?_
          rintro e w9 ⟨rfl, hp9⟩
          have HT9 := Lib.hid (HL.out w9 hp9)
          clear hp9 HC9 HL
          go_wp2_with fail
          exact ⟨⟨j + 1, by go_num, by omega, HT9.out⟩, by simp [intOf]; omega⟩
      · simp only [Int.ofNat_zero, Int.ofNat_one, Int.cast_ofNat_Int] at e4
        have HT8 := Lib.hid (HTj.out.below HB6.out)
        clear H6 HK6 HB6 HBW
        go_wp2_with fail
        exact ⟨⟨j + 1, by go_num, by omega, HT8.out⟩, by simp [intOf]; omega⟩
    · have hltI : ¬ (j : Int) < (m : Int) := by omega
      obtain ⟨kg1, ku1, kx1, t1, t2, t3, d1, d2, d3, t4⟩ := HTj.out
      have C8 := play_any x T0 kx1 ms Am cm wr w t3 HG0.out t4 HR2.out HO2.out HSM.out
      rw [← HM.out] at C8
      have HC8 := Lib.hid C8
      have HL := Lib.hid fun W X' hp => Three.last (X' := X') (W' := W) t1 t2 t3 d1 d2 d3 t4 hp
      clear C8 t1 t2 t3 d1 d2 d3 t4 HTj HTH
      go_wp2_with fail
      refine HC8.out.mono ?_
      rintro e w9 ⟨rfl, hp9⟩
      have HT9 := Lib.hid (HL.out w9 _ hp9)
      generalize ((playT T0 ms).sc.length : Int) - (T0.sc.length : Int) = d9
      clear hp9 HC8 HL
      go_wp2_with fail
      go_loopw [13] (fun i wr => ∃ i' : Nat, i = .int .i64 (i' : Int) ∧ i' ≤ p ∧ Two w wr g T0 u T0) (fun i _ => p - (intOf i).toNat)
      case atStart => exact ⟨0, rfl, Nat.zero_le _, HT9.out⟩
      case round =>
        obtain ⟨i, rfl, hi, h2⟩ := hrel
        have HTi := Lib.hid h2
        clear h2
        by_cases hlti : i < p
        · have hltiI : (i : Int) < (p : Int) := by omega
          obtain ⟨kg1, ku1, t1, t2, t3, t4⟩ := HTi.out
          obtain ⟨x, hx⟩ : ∃ x, ns[i]? = some x := ⟨_, List.getElem?_eq_getElem (by rw [← HP.out]; exact hlti)⟩
          obtain ⟨bs, ofs, rfl, hbs, y1⟩ := HR3.out.atl hx
          have y2 := (t4.cell (p := ⟨bs, ofs + i, none⟩) hbs).trans y1
          have hox := (HO3.out.s HS3.out) x (List.mem_of_getElem? hx)
          have HC8 := Lib.hid (find_any g T0 kg1 x wr w.heap.size t1 HG0.out hox.1 hox.2)
          have HC9 := Lib.hid fun W (hb : Below wr.heap.size wr W) => find_any u T0 ku1 x W w.heap.size (t2.below hb) HG0.out hox.1 hox.2
          have HWR := Lib.hid t4
          clear t1 t2 t3 t4 hx y1 hox
          generalize findV T0 x = f at *
          generalize (fnd T0 x).isSome = z at *
          go_wp2_with fail
          refine HC8.out.mono ?_
          rintro e w8 ⟨rfl, b8⟩
          have y3 := (b8.cell (p := ⟨bs, ofs + i, none⟩) (Nat.lt_of_lt_of_le hbs HWR.out.size)).trans y2
          have HC9' := Lib.hid (HC9.out w8 b8)
          have HB8 := Lib.hid b8
          clear HC8 HC9 b8 y2
          go_wp2_with fail
          refine HC9'.out.mono ?_
          rintro e w9 ⟨rfl, b9⟩
          have HB9 := Lib.hid (HB8.out.trans (b9.mono HB8.out.size))
          clear HC9' y3 b9
          cases z
          · go_wp2_with fail
            exact ⟨⟨i + 1, by go_num, by omega, HTi.out.below HB9.out⟩, by simp [intOf]; omega⟩
          · go_wp2_with fail
            exact ⟨⟨i + 1, by go_num, by omega, HTi.out.below HB9.out⟩, by simp [intOf]; omega⟩
        · have hltiI : ¬ (i : Int) < (p : Int) := by omega
          obtain ⟨kg1, ku1, t1, t2, t3, t4⟩ := HTi.out
          have HC8 := Lib.hid (next_any g T0 kg1 wr w.heap.size t1)
          have HC9 := Lib.hid (next_any u T0 ku1 wr w.heap.size t2)
          have HWR := Lib.hid t4
          clear t1 t2 t3 t4
          go_wp2_with fail
          refine HC8.out.mono ?_
          rintro e w8 ⟨rfl, rfl⟩
          clear HC8
          go_wp2_with fail
          refine HC9.out.mono ?_
          rintro e w8 ⟨rfl, rfl⟩
          clear HC9
          go_wp2_with fail
          go_ret
          exact ⟨rfl, HWR.out⟩
end Go.Proofs.YtcjljfjgekiocaaGreatDoor

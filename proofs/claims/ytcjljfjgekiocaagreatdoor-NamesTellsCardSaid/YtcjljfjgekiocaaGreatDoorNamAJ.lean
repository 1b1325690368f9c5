/- The law NamesShut. -/
import Derived.Test.YtcjljfjgekiocaaGreatDoorNamAI
namespace Go.Proofs.YtcjljfjgekiocaaGreatDoor
open Go.RowKit Go.Shelf

set_option linter.unusedVariables false
set_option linter.unusedSimpArgs false

/-- lists of texts can be read from an address on -/
def Rd2 (w : World) (A : Option Addr) (L : List (List (List Nat))) : Prop := L = [] ∨ ∃ b o, A = some ⟨b, o, none⟩ ∧ b < w.heap.size ∧ ∀ j (ns : List (List Nat)), L[j]? = some ns → ∃ A' c, w.cell? ⟨b, o + j, none⟩ = some (.slice A' ns.length c) ∧ RdS w A' ns
theorem Rd2.at {w : World} {A : Option Addr} {L : List (List (List Nat))} (h : Rd2 w A L) {j : Nat} {ns : List (List Nat)} (he : L[j]? = some ns) : ∃ b o, A = some ⟨b, o, none⟩ ∧ b < w.heap.size ∧ ∃ A' c, w.cell? ⟨b, o + j, none⟩ = some (.slice A' ns.length c) ∧ RdS w A' ns := by
  rcases h with h | ⟨b, o, h1, h2, h3⟩
  · rw [h] at he; simp at he
  · exact ⟨b, o, h1, h2, h3 j ns he⟩
def Ok2 (L : List (List (List Nat))) : Prop := ∀ ns ∈ L, OkR ns ∧ ns.length ≤ 9223372036854775807
theorem rda_new (w : World) (A : Option Addr) (n c : Nat) (ns : List (List Nat)) (t : TypeId) (hr : RdS w A ns) (hn : n = ns.length) : RdA (w.alloc (.cells #[.int .u8 0, .slice A n c] t)) (some ⟨w.heap.size, 0, none⟩) [(0, ns)] := by
  refine .inr ⟨w.heap.size, 0, rfl, by simp, fun j a ha => ?_⟩
  match j with
  | 0 =>
    injection ha with ha
    subst ha hn
    exact ⟨cell_of_row _ w.heap.size 0 _ _ _ (lone_new w _ t), A, c, cell_of_row _ w.heap.size 1 _ _ _ (lone_new w _ t), hr.below ((Below.refl _ w).alloc (Nat.le_refl _) _)⟩
  | j + 1 => cases ha
def Long1P (ns : List (List Nat)) (e : Ending) : Prop := ∃ b, e = .returned (.bool b) ∧ (b = false → ShS ns)
theorem long1_any (w : World) (A : Option Addr) (n c : Nat) (ns : List (List Nat)) (t : TypeId) (hr : RdS w A ns) (hok : OkR ns) (hl : ns.length ≤ 9223372036854775807) (hn : n = ns.length) :
    Calls Tryz.prog 21 #[.slice (some ⟨w.heap.size, 0, none⟩) 1 1] (w.alloc (.cells #[.int .u8 0, .slice A n c] t)) fun e w' => Long1P ns e ∧ Below w.heap.size w w' := by
  refine (long_any [(0, ns)] _ 1 _ (rda_new w A n c ns t hr hn) (fun a ha => ?_) (by simp)).mono fun e w' ⟨⟨b, h1, h2⟩, h3⟩ => ⟨⟨b, h1, fun q => (h2 q).2 _ (List.mem_singleton.2 rfl)⟩, h3 ▸ (Below.refl _ w).alloc (Nat.le_refl _) _⟩
  obtain rfl := List.mem_singleton.1 ha
  exact ⟨Nat.zero_lt_succ _, hok, hl⟩
/-- two tables that lie apart -/
def Two (w0 W : World) (g : Nat) (T : Tb) (u : Nat) (U : Tb) : Prop := ∃ kg ku, TabAt W w0.heap.size g T kg ∧ TabAt W w0.heap.size u U ku ∧ (∀ k ∈ ku, k ∉ kg) ∧ Below w0.heap.size w0 W
theorem Two.below {w0 W W' : World} {g u : Nat} {T U : Tb} (h : Two w0 W g T u U) (hb : Below W.heap.size W W') : Two w0 W' g T u U := by
  obtain ⟨kg, ku, h1, h2, h3, h4⟩ := h
  exact ⟨kg, ku, h1.below hb, h2.below hb, h3, h4.trans (hb.mono h4.size)⟩
theorem Two.post {w0 W W' : World} {g u : Nat} {T T' U : Tb} {kg ku : List Nat} (h1 : TabAt W w0.heap.size g T kg) (h2 : TabAt W w0.heap.size u U ku) (h3 : ∀ k ∈ ku, k ∉ kg) (h4 : Below w0.heap.size w0 W) (hp : TPost W w0.heap.size g T' kg W') : Two w0 W' g T' u U := by
  obtain ⟨k2, q1, q2, q3⟩ := hp.other h2 h3
  exact ⟨k2, ku, q1, q2, q3, h4.trans (TPost.below h1 h4.size hp)⟩
set_option maxRecDepth 100000 in
set_option maxHeartbeats 16000000 in
theorem shut_law (w : World) (l : List Act) (A : Option Addr) (c : Nat) (os : List (List (List Nat))) (Ao : Option Addr) (co : Nat) (ns : List (List Nat)) (An : Option Addr) (cn : Nat) (hr : RdA w A l) (hok : OkA l) (hl : l.length ≤ 9223372036854775807) (hr2 : Rd2 w Ao os) (hok2 : Ok2 os) (hl2 : os.length ≤ 9223372036854775807) (hr3 : RdS w An ns) (hok3 : OkR ns) (hl3 : ns.length ≤ 9223372036854775807) :
    Calls Tryz.prog 5 #[.slice A l.length c, .slice Ao os.length co, .slice An ns.length cn] w fun e w' => e = .returned (.bool true) ∧ Below w.heap.size w w' := by
  have HR := Lib.hid hr
  have HO := Lib.hid hok
  have HR2 := Lib.hid hr2
  have HO2 := Lib.hid hok2
  have HR3 := Lib.hid hr3
  have HO3 := Lib.hid hok3
  obtain ⟨n, hn⟩ : ∃ n, n = l.length := ⟨_, rfl⟩
  obtain ⟨m, hm⟩ : ∃ m, m = os.length := ⟨_, rfl⟩
  obtain ⟨p, hp⟩ : ∃ p, p = ns.length := ⟨_, rfl⟩
  have HN := Lib.hid hn
  have HM := Lib.hid hm
  have HP := Lib.hid hp
  rw [← hn] at hl ⊢
  rw [← hm] at hl2 ⊢
  rw [← hp] at hl3 ⊢
  clear hr hok hr2 hok2 hr3 hok3 hn hm hp
  go_enter Tryz.func5, Tryz.ntmps5
  go_wp2_with fail
  refine (works_any _).mono ?_
  rintro e w1 ⟨rfl, b1⟩
  have C1 := long_any l A c w1 (HR.out.below b1) HO.out (by rw [← HN.out]; exact hl)
  rw [← HN.out] at C1
  have HC1 := Lib.hid C1
  have HW1 := Lib.hid b1
  clear b1 C1
  go_wp2_with fail
  refine HC1.out.mono ?_
  rintro e w2 ⟨⟨b, rfl, hS⟩, rfl⟩
  clear HC1
  cases b with
  | true =>
    clear hS
    go_wp2_with fail
    refine (works_any _).mono ?_
    rintro e w3 ⟨rfl, b3⟩
    have HW3 := Lib.hid (HW1.out.trans (b3.mono HW1.out.size))
    clear b3
    go_wp2_with fail
    go_ret
    exact ⟨rfl, HW3.out⟩
  | false =>
  have HS := Lib.hid (hS rfl)
  have HC2 := Lib.hid (long1_any w2 An p cn ns 46 (HR3.out.below HW1.out) HO3.out (by rw [← HP.out]; exact hl3) HP.out)
  clear hS
  go_wp2_with fail
  refine HC2.out.mono ?_
  rintro e w3 ⟨⟨b, rfl, hS3⟩, b3⟩
  have HW3 := Lib.hid (HW1.out.trans (b3.mono HW1.out.size))
  clear HC2 b3 HW1
  cases b with
  | true =>
    clear hS3
    go_wp2_with fail
    refine (works_any _).mono ?_
    rintro e w4 ⟨rfl, b4⟩
    have HW4 := Lib.hid (HW3.out.trans (b4.mono HW3.out.size))
    clear b4
    go_wp2_with fail
    go_ret
    exact ⟨rfl, HW4.out⟩
  | false =>
  have HS3 := Lib.hid (hS3 rfl)
  clear hS3
  by_cases h70 : 70 < m
  · have h70I : (70 : Int) < (m : Int) := by omega
    go_wp2_with fail
    refine (works_any _).mono ?_
    rintro e w4 ⟨rfl, b4⟩
    have HW4 := Lib.hid (HW3.out.trans (b4.mono HW3.out.size))
    clear b4
    go_wp2_with fail
    go_ret
    exact ⟨rfl, HW4.out⟩
  have h70I : ¬ (70 : Int) < (m : Int) := by omega
  go_wp2_with fail
  go_loopw [7] (fun s wr => ∃ j : Nat, s = .int .i64 (j : Int) ∧ j ≤ m ∧ Hid (∀ o ∈ os.take j, ShS o) ∧ Below w.heap.size w wr) (fun s _ => m - (intOf s).toNat)
  case atStart => exact ⟨0, rfl, Nat.zero_le _, fun o ho => by simp at ho, HW3.out⟩
  case round =>
    obtain ⟨j, rfl, hj, HSO, hb⟩ := hrel
    have HB := Lib.hid hb
    clear hb
    by_cases hlt : j < m
    · have hltI : (j : Int) < (m : Int) := by omega
      obtain ⟨o, ho⟩ : ∃ a, os[j]? = some a := ⟨_, List.getElem?_eq_getElem (by rw [← HM.out]; exact hlt)⟩
      obtain ⟨b, off, rfl, hbl, A', c', k1, k2⟩ := HR2.out.at ho
      have x1 := (HB.out.cell (p := ⟨b, off + j, none⟩) hbl).trans k1
      obtain ⟨q1, q2⟩ := HO2.out o (List.mem_of_getElem? ho)
      obtain ⟨q, hq⟩ : ∃ q, q = o.length := ⟨_, rfl⟩
      rw [← hq] at x1 q2
      have HC4 := Lib.hid (long1_any wr A' q c' o 46 (k2.below HB.out) q1 (by rw [← hq]; exact q2) hq)
      have HOO := Lib.hid ho
      clear ho k1 k2 q1 hq
      go_wp2_with fail
      refine HC4.out.mono ?_
      rintro e w4 ⟨⟨b', rfl, hS4⟩, b4⟩
      have HW4 := Lib.hid (HB.out.trans (b4.mono HB.out.size))
      clear HC4 b4
      cases b' with
      | true =>
        clear hS4
        go_wp2_with fail
        go_ret
        exact ⟨rfl, HW4.out⟩
      | false =>
        have HS4 := Lib.hid (hS4 rfl)
        clear hS4
        go_wp2_with fail
        exact ⟨⟨j + 1, by go_num, by omega, fun o' ho' => by
          rw [List.take_add_one, HOO.out] at ho'
          rcases List.mem_append.1 ho' with r | r
          · exact HSO.out o' r
          · obtain rfl : o' = o := by simpa using r
            exact HS4.out, HW4.out⟩, by simp [intOf]; omega⟩
    · have hltI : ¬ (j : Int) < (m : Int) := by omega
      have HOS : Hid (∀ o ∈ os, ShS o) := fun o ho => HSO.out o (by rw [List.take_of_length_le (by rw [← HM.out]; omega)]; exact ho)
      obtain ⟨g, hg⟩ : ∃ g, g = wr.heap.size := ⟨_, rfl⟩
      have C4 := new_any wr w.heap.size HB.out.size
      rw [← hg] at C4
      have HC4 := Lib.hid C4
      have HGQ := Lib.hid hg
      clear C4 hg HSO HW3
      go_wp2_with fail
      refine HC4.out.mono ?_
      rintro e w4 ⟨rfl, h4, b4⟩
      have hb4 := HB.out.trans (b4.mono (by rw [HGQ.out]; exact HB.out.size))
      have C5 := play_any g tb0 [g] l A c w4 w h4 GoodT.new hb4 HR.out HO.out HS.out
      rw [← HN.out] at C5
      have HC5 := Lib.hid C5
      have HT4 := Lib.hid h4
      have HW4 := Lib.hid hb4
      clear HC4 C5 h4 b4 hb4 HGQ HB
      go_wp2_with fail
      refine HC5.out.mono ?_
      rintro e w5 ⟨rfl, hp5⟩
      have hG0 : GoodT (playT tb0 l) := GoodT.play GoodT.new fun a ha x hx => ((HO.out a ha).2.1 x hx).1
      obtain ⟨d0, hd0⟩ : ∃ d : Int, d = ((playT tb0 l).sc.length : Int) - (tb0.sc.length : Int) := ⟨_, rfl⟩
      rw [← hd0]
      clear hd0
      generalize playT tb0 l = T0 at *
      have HG0 := Lib.hid hG0
      have hb5 := HW4.out.trans (TPost.below HT4.out HW4.out.size hp5)
      obtain ⟨kg, h5, -, -⟩ := hp5
      have HC6 := Lib.hid (copy_any g T0 kg w5 w.heap.size hb5.size h5 hG0)
      have HT5 := Lib.hid h5
      have HW5 := Lib.hid hb5
      clear HC5 hG0 h5 hb5 HW4 HT4
      go_wp2_with fail
      refine HC6.out.mono ?_
      rintro e w6 ⟨u, ku, rfl, h6, hk6, b6⟩
      have h2 : Two w w6 g T0 u T0 := ⟨kg, ku, HT5.out.below b6, h6, fun k q q2 => by
        have := hk6 k q
        have := (HT5.out.kind k q2).2
        omega, HW5.out.trans (b6.mono HW5.out.size)⟩
      have HC7 := Lib.hid (next_any g T0 kg w6 w.heap.size (HT5.out.below b6))
      have HTW := Lib.hid h2
      clear HC6 h6 hk6 b6 h2 HT5 HW5
      go_wp2_with fail
      refine HC7.out.mono ?_
      rintro e w7 ⟨rfl, rfl⟩
      clear HC7
      go_wp2_with fail
      go_loopw [10, 11, 12] (fun mn nx i wr => ∃ j a b : Nat, mn = .int .i64 (a : Int) ∧ nx = .int .i64 (b : Int) ∧ i = .int .i64 (j : Int) ∧ j ≤ m ∧ Hid (a + T0.sc.length = (opensT T0 (os.take j)).sc.length ∧ b = (opensT T0 (os.take j)).nx) ∧ Two w wr g (opensT T0 (os.take j)) u T0) (fun _ _ i _ => m - (intOf i).toNat)
      case atStart => exact ⟨0, 0, T0.nx, rfl, rfl, rfl, Nat.zero_le _, ⟨by rw [Nat.zero_add]; rfl, rfl⟩, HTW.out⟩
      case round =>
        obtain ⟨j, a, b, rfl, rfl, rfl, hj, HAB, h2⟩ := hrel
        have HT2 := Lib.hid h2
        clear h2
        by_cases hlt : j < m
        · have hltI : (j : Int) < (m : Int) := by omega
          obtain ⟨o, ho⟩ : ∃ a, os[j]? = some a := ⟨_, List.getElem?_eq_getElem (by rw [← HM.out]; exact hlt)⟩
          obtain ⟨bo, off, rfl, hbl, A', c', k1, k2⟩ := HR2.out.at ho
          obtain ⟨kg1, ku1, t1, t2, t3, t4⟩ := HT2.out
          have x1 := (t4.cell (p := ⟨bo, off + j, none⟩) hbl).trans k1
          obtain ⟨q1, q2⟩ := HO2.out o (List.mem_of_getElem? ho)
          have hso := HOS.out o (List.mem_of_getElem? ho)
          have hG1 : GoodT (opensT T0 (os.take j)) := HG0.out.opens fun a' ha' x hx => ((HO2.out a' (List.mem_of_mem_take ha')).1 x hx).1
          have HE := Lib.hid (opensT_take (T := T0) ho)
          obtain ⟨T1, hT1⟩ : ∃ T1, T1 = opensT T0 (os.take j) := ⟨_, rfl⟩
          rw [← hT1] at t1 hG1 HE HAB
          obtain ⟨q, hq⟩ : ∃ q, q = o.length := ⟨_, rfl⟩
          have hq4 : q < 400 := by rw [hq]; exact hso.1
          have HQ := Lib.hid hq
          have C8 := open_all g T1 kg1 o A' c' wr w.heap.size t4.size t1 hG1 (k2.below t4) (q1.s hso) (by rw [← hq]; omega)
          rw [← hq] at C8 x1
          have HC8 := Lib.hid C8
          have HK2 := Lib.hid k2
          have HT1 := Lib.hid t1
          have HU1 := Lib.hid t2
          have HDJ := Lib.hid t3
          have HWR := Lib.hid t4
          have HG1 := Lib.hid hG1
          have HOK := Lib.hid (q1.s hso)
          have HX1 := Lib.hid k1
          have hab : a ≤ 64 ∧ b ≤ 1048576 := by
            have h1 := hG1.sl
            have h2 := hG1.nx
            have h3 := HAB.out
            omega
          have ha64 := hab.1
          have hb64 := hab.2
          clear ho k1 k2 t1 t2 t3 t4 q1 q2 hso hG1 hT1 hq C8 hab
          go_wp2_with fail
          refine HC8.out.mono ?_
          rintro e w8 ⟨v, kg2, rfl, h8, s8, n8, r8, d8⟩
          have hTw : Two w w8 g (openT T1 o) u T0 := Two.post HT1.out HU1.out HDJ.out HWR.out ⟨kg2, h8, s8, n8⟩
          have hcs := openC_cases T1 o
          have hsc := openT_sc T1 o
          obtain ⟨cc, hcc⟩ : ∃ cc, cc = openC T1 o := ⟨_, rfl⟩
          rw [← hcc] at hcs hsc ⊢
          have HCC := Lib.hid hcc
          have HSC := Lib.hid hsc
          have HCS := Lib.hid hcs
          have HTw := Lib.hid hTw
          have H8 := Lib.hid h8
          have HW8 : Hid (Below w.heap.size w w8) := by obtain ⟨_, _, _, _, _, q⟩ := hTw; exact q
          clear hcs hsc hcc h8 s8 n8 d8 HC8 HU1 HDJ HT1 hTw
          by_cases h0 : cc = 0
          · subst h0
            have e1 : openV T1 o = bnd o T1.nx := by unfold openV; rw [if_pos HCC.out.symm]
            rw [e1, bnd_len, ← HQ.out] at r8
            obtain ⟨Av, cv, rfl⟩ := nslice_form r8
            have HRV := Lib.hid r8
            have x8 := (HW8.out.cell (p := ⟨bo, off + j, none⟩) hbl).trans HX1.out
            rw [← HQ.out] at x8
            have HG2 := Lib.hid (HG1.out.openT (ns := o) fun x hx => (HOK.out x hx).1)
            have HNX : Hid ((openT T1 o).nx = T1.nx + q) := by
              show _ = _
              unfold openT
              rw [if_pos HCC.out.symm, HQ.out]
            clear r8 e1 x1
            go_wp2_with fail
            go_loopw [15] (fun i w9 => ∃ k : Nat, i = .int .i64 (k : Int) ∧ k ≤ q ∧ Below w8.heap.size w8 w9) (fun i _ => q - (intOf i).toNat)
            case atStart => exact ⟨0, rfl, Nat.zero_le _, Below.refl _ _⟩
            case round =>
              obtain ⟨k, rfl, hk, hb9⟩ := hrel
              have HB9 := Lib.hid hb9
              clear hb9
              by_cases hltk : k < q
              · have hltkI : (k : Int) < (q : Int) := by omega
                obtain ⟨x, hx⟩ : ∃ x, o[k]? = some x := ⟨_, List.getElem?_eq_getElem (by rw [← HQ.out]; exact hltk)⟩
                have hbw : Below w.heap.size w wr := HW8.out.trans (HB9.out.mono HW8.out.size)
                obtain ⟨bs, ofs, rfl, hbs, y1⟩ := HK2.out.atl hx
                have y2 := (hbw.cell (p := ⟨bs, ofs + k, none⟩) hbs).trans y1
                have y0 := (hbw.cell (p := ⟨bo, off + j, none⟩) hbl).trans HX1.out
                rw [← HQ.out] at y0
                obtain ⟨gs, rfl, -, hgs, hcl⟩ := nrow_cells HRV.out (by omega)
                have y3 := (HB9.out.cell (p := ⟨gs, k, none⟩) hgs).trans (hcl k (.int .i64 ((T1.nx + k : Nat) : Int)) (by unfold ics; rw [List.getElem?_map, bnd_at hx]; rfl))
                obtain ⟨f1, f2⟩ := find_opened HCC.out.symm hx
                have C9 := find_any g (openT T1 o) kg2 x wr w.heap.size (H8.out.below HB9.out) HG2.out (HOK.out x (List.mem_of_getElem? hx)).1 (HOK.out x (List.mem_of_getElem? hx)).2
                rw [f1, f2, show (some T1.sc.length).isSome = true from rfl] at C9
                obtain ⟨z, hz⟩ : ∃ z : Int, z = ((T1.nx + k : Nat) : Int) := ⟨_, rfl⟩
                rw [← hz] at y3 C9
                have HC9 := Lib.hid C9
                have HY3 := Lib.hid y3
                have HGS := Lib.hid (Nat.lt_of_lt_of_le hgs HB9.out.size)
                clear hx y1 y3 hcl f1 f2 C9 hz hbw
                go_wp2_with fail
                refine HC9.out.mono ?_
                rintro e w10 ⟨rfl, b10⟩
                have y3 := (b10.cell (p := ⟨gs, k, none⟩) HGS.out).trans HY3.out
                have HB10 := Lib.hid (HB9.out.trans (b10.mono HB9.out.size))
                clear y0 y2 b10 HC9
                go_wp2_with fail
                exact ⟨⟨k + 1, by go_num, by omega, HB10.out⟩, by simp [intOf]; omega⟩
              · have hltkI : ¬ (k : Int) < (q : Int) := by omega
                go_wp2_with fail
                have hab : a + 1 + T0.sc.length = (openT T1 o).sc.length ∧ b + q = (openT T1 o).nx := by
                  have h1 := HAB.out
                  have h2 := HSC.out
                  have h3 := HNX.out
                  simp at h2
                  omega
                exact ⟨⟨j + 1, a + 1, b + q, rfl, rfl, by go_num, by omega, by rw [HE.out]; exact hab, by rw [HE.out]; exact HTw.out.below HB9.out⟩, by simp [intOf]; omega⟩
          · have h0' : ¬ (cc : Int) = 0 := by omega
            have e1 : openT T1 o = T1 := by unfold openT; rw [if_neg (by rw [← HCC.out]; exact h0)]
            have HE1 := Lib.hid e1
            clear r8 e1 x1
            go_wp2_with fail
            exact ⟨⟨j + 1, a, b, rfl, rfl, by go_num, by omega, by rw [HE.out, HE1.out]; exact HAB.out, by rw [HE.out]; exact HTw.out⟩, by simp [intOf]; omega⟩
        · have hltI : ¬ (j : Int) < (m : Int) := by omega
          rw [List.take_of_length_le (by rw [← HM.out]; omega)] at HAB HT2
          have hGn : GoodT (opensT T0 os) := HG0.out.opens fun a' ha' x hx => ((HO2.out a' ha').1 x hx).1
          have hfb : ∀ x, fnd (clsT (opensT T0 os) a) x = fnd T0 x ∧ findV (clsT (opensT T0 os) a) x = findV T0 x := fun x => by
            have h1 := find_back T0 os x
            rwa [show (opensT T0 os).sc.length - T0.sc.length = a by have := HAB.out.1; omega] at h1
          have ha64 : a ≤ 64 := by
            have h1 := hGn.sl
            have h2 := HAB.out.1
            omega
          have hle : Hid (a ≤ (opensT T0 os).sc.length) := by show _ ≤ _; have := HAB.out.1; omega
          have HNX : Hid ((opensT T0 os).nx = b) := HAB.out.2.symm
          generalize opensT T0 os = Tn at *
          have HFB := Lib.hid hfb
          have HGn := Lib.hid hGn
          clear hfb hGn HAB HTW
          go_wp2_with fail
          go_loopw [18] (fun i wr => ∃ k : Nat, i = .int .i64 (k : Int) ∧ k ≤ a ∧ Two w wr g (clsT Tn k) u T0) (fun i _ => a - (intOf i).toNat)
          case atStart => exact ⟨0, rfl, Nat.zero_le _, by rw [clsT_zero]; exact HT2.out⟩
          case round =>
            obtain ⟨k, rfl, hk, h2⟩ := hrel
            have HTk := Lib.hid h2
            clear h2
            by_cases hltk : k < a
            · have hltkI : (k : Int) < (a : Int) := by omega
              obtain ⟨kg1, ku1, t1, t2, t3, t4⟩ := HTk.out
              have C8 := close_all g (clsT Tn k) kg1 wr w.heap.size t1 (HGn.out.cls (by have := hle.out; omega))
              rw [closeC_cls (by have := hle.out; omega), closeT_cls (by have := hle.out; omega)] at C8
              have HC8 := Lib.hid C8
              have HT1 := Lib.hid t1
              have HU1 := Lib.hid t2
              have HDJ := Lib.hid t3
              have HWR := Lib.hid t4
              clear C8 t1 t2 t3 t4
              go_wp2_with fail
              refine HC8.out.mono ?_
              rintro e w8 ⟨rfl, hp⟩
              have HTw := Lib.hid (Two.post HT1.out HU1.out HDJ.out HWR.out hp)
              clear hp HC8 HT1 HU1 HDJ HWR
              go_wp2_with fail
              exact ⟨⟨k + 1, by go_num, by omega, HTw.out⟩, by simp [intOf]; omega⟩
            · have hltkI : ¬ (k : Int) < (a : Int) := by omega
              obtain rfl : k = a := by omega
              go_wp2_with fail
              go_loopw [19] (fun i wr => ∃ i' : Nat, i = .int .i64 (i' : Int) ∧ i' ≤ p ∧ Two w wr g (clsT Tn k) u T0) (fun i _ => p - (intOf i).toNat)
              case atStart => exact ⟨0, rfl, Nat.zero_le _, HTk.out⟩
              case round =>
                obtain ⟨i, rfl, hi, h2⟩ := hrel
                have HTi := Lib.hid h2
                clear h2
                by_cases hlti : i < p
                · have hltiI : (i : Int) < (p : Int) := by omega
                  obtain ⟨kg1, ku1, t1, t2, t3, t4⟩ := HTi.out
                  obtain ⟨x, hx⟩ : ∃ x, ns[i]? = some x := ⟨_, List.getElem?_eq_getElem (by rw [← HP.out]; exact hlti)⟩
                  obtain ⟨bs, ofs, rfl, hbs, y1⟩ := HR3.out.atl hx
                  have y2 := (t4.cell (p := ⟨bs, ofs + i, none⟩) hbs).trans y1
                  have hox := (HO3.out.s HS3.out) x (List.mem_of_getElem? hx)
                  have C8 := find_any g (clsT Tn k) kg1 x wr w.heap.size t1 (HGn.out.cls hle.out) hox.1 hox.2
                  rw [(HFB.out x).1, (HFB.out x).2] at C8
                  have HC8 := Lib.hid C8
                  have HC9 := Lib.hid fun W (hb : Below wr.heap.size wr W) => find_any u T0 ku1 x W w.heap.size (t2.below hb) HG0.out hox.1 hox.2
                  have HWR := Lib.hid t4
                  have HY := Lib.hid y1
                  clear C8 t1 t2 t3 t4 hx y1 hox
                  generalize findV T0 x = f at *
                  generalize (fnd T0 x).isSome = z at *
                  go_wp2_with fail
                  refine HC8.out.mono ?_
                  rintro e w8 ⟨rfl, b8⟩
                  have y3 := (b8.cell (p := ⟨bs, ofs + i, none⟩) (Nat.lt_of_lt_of_le hbs HWR.out.size)).trans y2
                  have C9 := HC9.out w8 b8
                  have HC9' := Lib.hid C9
                  have HB8 := Lib.hid b8
                  clear HC8 HC9 C9 b8 y2
                  go_wp2_with fail
                  refine HC9'.out.mono ?_
                  rintro e w9 ⟨rfl, b9⟩
                  have HB9 := Lib.hid (HB8.out.trans (b9.mono HB8.out.size))
                  clear HC9' y3 b9
                  cases z
                  · go_wp2_with fail
                    exact ⟨⟨i + 1, by go_num, by omega, HTi.out.below HB9.out⟩, by simp [intOf]; omega⟩
                  · go_wp2_with fail
                    exact ⟨⟨i + 1, by go_num, by omega, HTi.out.below HB9.out⟩, by simp [intOf]; omega⟩
                · have hltiI : ¬ (i : Int) < (p : Int) := by omega
                  obtain ⟨kg1, ku1, t1, t2, t3, t4⟩ := HTi.out
                  have C8 := next_any g (clsT Tn k) kg1 wr w.heap.size t1
                  rw [show (clsT Tn k).nx = b from HNX.out] at C8
                  have HC8 := Lib.hid C8
                  have HWR := Lib.hid t4
                  clear C8 t1 t2 t3 t4
                  go_wp2_with fail
                  refine HC8.out.mono ?_
                  rintro e w8 ⟨rfl, rfl⟩
                  clear HC8
                  go_wp2_with fail
                  go_ret
                  exact ⟨rfl, HWR.out⟩
end Go.Proofs.YtcjljfjgekiocaaGreatDoor

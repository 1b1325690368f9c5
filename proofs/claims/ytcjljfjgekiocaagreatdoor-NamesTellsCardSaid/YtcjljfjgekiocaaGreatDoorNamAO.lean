/- The law NamesBack. -/
import Derived.Test.YtcjljfjgekiocaaGreatDoorNamAJ
import Derived.Test.YtcjljfjgekiocaaGreatDoorNamAM
import Derived.Test.YtcjljfjgekiocaaGreatDoorNamAN
namespace Go.Proofs.YtcjljfjgekiocaaGreatDoor
open Go.RowKit Go.Shelf

set_option linter.unusedVariables false
set_option linter.unusedSimpArgs false

theorem scs_rd {w : World} {B : Nat} {v : Value} {l : List Ent} (h : w.ownsRow B 9 1 v l.length (scs l)) : ∃ A c, v = .slice A l.length c ∧ RdS w A (l.map (·.1)) := by
  obtain ⟨A, c, rfl⟩ := nslice_form h
  refine ⟨A, c, rfl, ?_⟩
  cases l with
  | nil => exact .inl rfl
  | cons a r =>
    obtain ⟨gs, rfl, -, hgs, hcl⟩ := nrow_cells h (by simp)
    refine .inr ⟨gs, 0, rfl, hgs, fun j x hx => ?_⟩
    rw [List.getElem?_map] at hx
    obtain ⟨e, he, rfl⟩ := Option.map_eq_some_iff.1 hx
    rw [Nat.zero_add]
    exact hcl j _ (by unfold scs; rw [List.getElem?_map, he]; rfl)
theorem RdJ.atl {w : World} {A : Option Addr} {l : List Int} (h : RdJ w A l) {j : Nat} {x : Int} (he : l[j]? = some x) : ∃ b o, A = some ⟨b, o, none⟩ ∧ b < w.heap.size ∧ w.cell? ⟨b, o + j, none⟩ = some (.int .i64 x) := by
  obtain ⟨b, o, h1, h2, h3⟩ := h.at he
  exact ⟨b, o, h1, h2, h3 j x he⟩
set_option maxRecDepth 100000 in
set_option maxHeartbeats 16000000 in
theorem back_law (w : World) (l : List Act) (A : Option Addr) (c : Nat) (ns : List (List Nat)) (An : Option Addr) (cn : Nat) (hr : RdA w A l) (hok : OkA l) (hl : l.length ≤ 9223372036854775807) (hr3 : RdS w An ns) (hok3 : OkR ns) (hl3 : ns.length ≤ 9223372036854775807) :
    Calls Tryz.prog 6 #[.slice A l.length c, .slice An ns.length cn] w fun e w' => e = .returned (.bool true) ∧ Below w.heap.size w w' := by
  have HR := Lib.hid hr
  have HO := Lib.hid hok
  have HR3 := Lib.hid hr3
  have HO3 := Lib.hid hok3
  obtain ⟨n, hn⟩ : ∃ n, n = l.length := ⟨_, rfl⟩
  obtain ⟨p, hp⟩ : ∃ p, p = ns.length := ⟨_, rfl⟩
  have HN := Lib.hid hn
  have HP := Lib.hid hp
  rw [← hn] at hl ⊢
  rw [← hp] at hl3 ⊢
  clear hr hok hr3 hok3 hn hp
  go_enter Tryz.func6, Tryz.ntmps6
  go_wp2_with fail
  refine (works_any _).mono ?_
  rintro e w1 ⟨rfl, b1⟩
  have C1 := long_any l A c w1 (HR.out.below b1) HO.out (by rw [← HN.out]; exact hl)
  rw [← HN.out] at C1
  have HC1 := Lib.hid C1
  have HW1 := Lib.hid b1
  clear b1 C1
  go_wp2_with fail
  refine HC1.out.mono ?_
  rintro e w2 ⟨⟨b, rfl, hS⟩, rfl⟩
  clear HC1
  cases b with
  | true =>
    clear hS
    go_wp2_with fail
    refine (works_any _).mono ?_
    rintro e w3 ⟨rfl, b3⟩
    have HW3 := Lib.hid (HW1.out.trans (b3.mono HW1.out.size))
    clear b3
    go_wp2_with fail
    go_ret
    exact ⟨rfl, HW3.out⟩
  | false =>
  have HS := Lib.hid (hS rfl)
  have HC2 := Lib.hid (long1_any w2 An p cn ns 46 (HR3.out.below HW1.out) HO3.out (by rw [← HP.out]; exact hl3) HP.out)
  clear hS
  go_wp2_with fail
  refine HC2.out.mono ?_
  rintro e w3 ⟨⟨b, rfl, hS3⟩, b3⟩
  have HW3 := Lib.hid (HW1.out.trans (b3.mono HW1.out.size))
  clear HC2 b3 HW1
  cases b with
  | true =>
    clear hS3
    go_wp2_with fail
    refine (works_any _).mono ?_
    rintro e w4 ⟨rfl, b4⟩
    have HW4 := Lib.hid (HW3.out.trans (b4.mono HW3.out.size))
    clear b4
    go_wp2_with fail
    go_ret
    exact ⟨rfl, HW4.out⟩
  | false =>
  have HS3 := Lib.hid (hS3 rfl)
  clear hS3
  obtain ⟨g, hg⟩ : ∃ g, g = w3.heap.size := ⟨_, rfl⟩
  have C4 := new_any w3 w.heap.size HW3.out.size
  rw [← hg] at C4
  have HC4 := Lib.hid C4
  have HGQ := Lib.hid hg
  clear C4 hg
  go_wp2_with fail
  refine HC4.out.mono ?_
  rintro e w4 ⟨rfl, h4, b4⟩
  have hb4 := HW3.out.trans (b4.mono (by rw [HGQ.out]; exact HW3.out.size))
  have C5 := play_any g tb0 [g] l A c w4 w h4 GoodT.new hb4 HR.out HO.out HS.out
  rw [← HN.out] at C5
  have HC5 := Lib.hid C5
  have HT4 := Lib.hid h4
  have HW4 := Lib.hid hb4
  clear HC4 C5 h4 b4 hb4 HGQ HW3
  go_wp2_with fail
  refine HC5.out.mono ?_
  rintro e w5 ⟨rfl, hp5⟩
  have hG0 : GoodT (playT tb0 l) := GoodT.play GoodT.new fun a ha x hx => ((HO.out a ha).2.1 x hx).1
  rw [show ((playT tb0 l).sc.length : Int) - (tb0.sc.length : Int) = ((playT tb0 l).sc.length : Int) by show _ - ((0 : Nat) : Int) = _; omega]
  generalize playT tb0 l = T0 at *
  obtain ⟨op, hop⟩ : ∃ op : Int, op = (T0.sc.length : Int) := ⟨_, rfl⟩
  rw [← hop]
  have HOP := Lib.hid hop
  have HG0 := Lib.hid hG0
  have hb5 := HW4.out.trans (TPost.below HT4.out HW4.out.size hp5)
  obtain ⟨kg, h5, -, -⟩ := hp5
  have HT5 := Lib.hid h5
  have HW5 := Lib.hid hb5
  clear HC5 hG0 h5 hb5 HW4 HT4 hop
  go_wp2_with fail
  go_loopw [7] (fun i wr => ∃ j : Nat, i = .int .i64 (j : Int) ∧ j ≤ p ∧ Below w5.heap.size w5 wr) (fun i _ => p - (intOf i).toNat)
  case atStart => exact ⟨0, rfl, Nat.zero_le _, Below.refl _ _⟩
  case round =>
    obtain ⟨i, rfl, hi, hb⟩ := hrel
    have HB := Lib.hid hb
    clear hb
    by_cases hlti : i < p
    · have hltiI : (i : Int) < (p : Int) := by omega
      obtain ⟨x, hx⟩ : ∃ x, ns[i]? = some x := ⟨_, List.getElem?_eq_getElem (by rw [← HP.out]; exact hlti)⟩
      obtain ⟨bs, ofs, rfl, hbs, y1⟩ := HR3.out.atl hx
      have hbw := HW5.out.trans (HB.out.mono HW5.out.size)
      have y2 := (hbw.cell (p := ⟨bs, ofs + i, none⟩) hbs).trans y1
      have hox := (HO3.out.s HS3.out) x (List.mem_of_getElem? hx)
      have HC8 := Lib.hid (find_any g T0 kg x wr w.heap.size (HT5.out.below HB.out) HG0.out hox.1 hox.2)
      have HOX := Lib.hid hox
      have HBS := Lib.hid (Nat.lt_of_lt_of_le hbs hbw.size)
      have HBF : Hid ((fnd T0 x).isSome = true → (ofd T0 (findV T0 x : Int)).isSome = true ∧ ofV T0 (findV T0 x : Int) = x ∧ findV T0 x < T0.nx ∧ isN x = true) := fun q => back_find HG0.out q
      clear hx y1 hox hbw
      generalize findV T0 x = f at *
      generalize (fnd T0 x).isSome = z at *
      go_wp2_with fail
      refine HC8.out.mono ?_
      rintro e w8 ⟨rfl, b8⟩
      have y3 := (b8.cell (p := ⟨bs, ofs + i, none⟩) HBS.out).trans y2
      have HB8 := Lib.hid (HB.out.trans (b8.mono HB.out.size))
      have HL8 := Lib.hid (Nat.lt_of_lt_of_le HBS.out b8.size)
      clear HC8 b8 y2
      cases z
      · go_wp2_with fail
        exact ⟨⟨i + 1, by go_num, by omega, HB8.out⟩, by simp [intOf]; omega⟩
      · obtain ⟨z1, z2, z3, z4⟩ := HBF.out rfl
        have C9 := tabOf_any g T0 kg (f : Int) w8 w.heap.size (HT5.out.below HB8.out) HG0.out
        rw [z1, z2] at C9
        have HC9 := Lib.hid C9
        clear C9 z1 z2 HBF
        go_wp2_with fail
        refine HC9.out.mono ?_
        rintro e w9 ⟨rfl, b9⟩
        have y4 := (b9.cell (p := ⟨bs, ofs + i, none⟩) HL8.out).trans y3
        have HB9 := Lib.hid (HB8.out.trans (b9.mono HB8.out.size))
        have HC10 := Lib.hid (next_any g T0 kg w9 w.heap.size (HT5.out.below HB9.out))
        have C11 := name_any x w9 HOX.out.1 HOX.out.2
        rw [z4] at C11
        have HC11 := Lib.hid C11
        obtain ⟨nx, hnx⟩ : ∃ nx, nx = T0.nx := ⟨_, rfl⟩
        rw [← hnx] at z3 HC10
        have q1 : ¬ (f : Int) < 0 := by omega
        have q2 : ¬ (nx : Int) ≤ (f : Int) := by omega
        clear HC9 b9 y3 z4 C11 hnx
        go_wp2_with fail
        refine HC10.out.mono ?_
        rintro e w10 ⟨rfl, rfl⟩
        go_wp2_with fail
        refine HC11.out.mono ?_
        rintro e w11 ⟨rfl, b11⟩
        have HB11 := Lib.hid (HB9.out.trans (b11.mono HB9.out.size))
        clear b11 HC10 HC11
        go_wp2_with fail
        exact ⟨⟨i + 1, by go_num, by omega, HB11.out⟩, by simp [intOf]; omega⟩
    · have hltiI : ¬ (i : Int) < (p : Int) := by omega
      have HC8 := Lib.hid (declared_any g T0 kg wr w.heap.size (HT5.out.below HB.out) HG0.out)
      go_wp2_with fail
      refine HC8.out.mono ?_
      rintro e w8 ⟨v, u, rfl, hv, hu, -, b8⟩
      obtain ⟨d, hd⟩ : ∃ d, d = T0.dn.length := ⟨_, rfl⟩
      have HDL := Lib.hid hd
      obtain ⟨Av, cv, rfl, hrv⟩ := scs_rd hv
      obtain ⟨Au, cu, rfl, hru⟩ := rdj_of hu
      rw [← hd]
      have HR8 := Lib.hid hrv
      have HJ8 := Lib.hid hru
      have hdl := HG0.out.dl
      rw [← hd] at hdl
      have HW8 := Lib.hid (HB.out.trans (b8.mono HB.out.size))
      clear hv hu b8 hrv hru hd HC8 HB
      obtain ⟨wz, hwz⟩ : ∃ wz, wz = w8 := ⟨_, rfl⟩
      go_wp2_with fail
      go_loopw [14] (fun i wr => ∃ j : Nat, i = .int .i64 (j : Int) ∧ j ≤ d ∧ Below w8.heap.size w8 wr) (fun i _ => d - (intOf i).toNat)
      case atStart => exact ⟨0, rfl, Nat.zero_le _, Below.refl _ _⟩
      case round =>
        obtain ⟨i, rfl, hi, hb⟩ := hrel
        have HB := Lib.hid hb
        clear hb
        by_cases hlti : i < d
        · have hltiI : (i : Int) < (d : Int) := by omega
          obtain ⟨e, he⟩ : ∃ e, T0.dn[i]? = some e := ⟨_, List.getElem?_eq_getElem (by rw [← HDL.out]; exact hlti)⟩
          have HE := Lib.hid he
          obtain ⟨Ba, Oa, rfl, hba, a1⟩ := HR8.out.atl (j := i) (x := e.1) (by rw [List.getElem?_map, he]; rfl)
          obtain ⟨Bu, Ou, hau, hbu, u1⟩ := HJ8.out.atl (j := i) (x := ((e.2 : Nat) : Int)) (by rw [List.getElem?_map, he]; rfl)
          subst hau
          have HBU := Lib.hid hbu
          have HBA := Lib.hid hba
          have HAI := Lib.hid a1
          have hem := List.mem_of_getElem? he
          obtain ⟨vi, hvi⟩ : ∃ v, v = e.2 := ⟨_, rfl⟩
          rw [← hvi] at u1
          have HUI := Lib.hid u1
          have HVI := Lib.hid hvi
          have u2 := (HB.out.cell (p := ⟨Bu, Ou + i, none⟩) hbu).trans u1
          obtain ⟨z1, z2, z3, z4⟩ := back_decl HG0.out hem
          have hcd := HG0.out.ok e hem
          have C9 := tabOf_any g T0 kg (vi : Int) wr w.heap.size (HT5.out.below (HW8.out.trans (HB.out.mono HW8.out.size))) HG0.out
          rw [hvi, z1, z2, ← hvi] at C9
          have HC9 := Lib.hid C9
          have HCD := Lib.hid hcd
          have HZ3 := Lib.hid z3
          have HZ4 : Hid (op = 0 → findV T0 e.1 = vi) := fun q => by rw [HVI.out]; exact z4 (by have := HOP.out; omega)
          clear he hem z1 z2 z3 z4 hcd C9 a1 u1 hvi
          go_wp2_with fail
          refine HC9.out.mono ?_
          rintro e' w9 ⟨rfl, b9⟩
          have HB9 := Lib.hid (HB.out.trans (b9.mono HB.out.size))
          have a2 := (HB9.out.cell (p := ⟨Ba, Oa + i, none⟩) hba).trans HAI.out
          have C10 := find_any g T0 kg e.1 w9 w.heap.size (HT5.out.below (HW8.out.trans (HB9.out.mono HW8.out.size))) HG0.out HCD.out.1 (by have := HCD.out.2.1; omega)
          rw [HZ3.out] at C10
          have HC10 := Lib.hid C10
          obtain ⟨f, hf⟩ : ∃ f, f = findV T0 e.1 := ⟨_, rfl⟩
          have HF : Hid (op = 0 → f = vi) := fun q => by rw [hf]; exact HZ4.out q
          rw [← hf] at HC10
          clear HC9 b9 u2 C10 hf
          go_wp2_with fail
          refine HC10.out.mono ?_
          rintro e' w10 ⟨rfl, b10⟩
          have HB10 := Lib.hid (HB9.out.trans (b10.mono HB9.out.size))
          have a3 := (HB10.out.cell (p := ⟨Ba, Oa + i, none⟩) hba).trans HAI.out
          have u3 := (HB10.out.cell (p := ⟨Bu, Ou + i, none⟩) hbu).trans HUI.out
          have hself : ((str e.1).toList == (str e.1).toList) = true := by simp
          clear HC10 b10 a2
          generalize hs1 : str e.1 = s1 at *
          have HS1 := Lib.hid hs1
          clear hs1
          have hcase : (op = 0 ∧ f = vi) ∨ (op ≠ 0 ∧ f < vi) ∨ (op ≠ 0 ∧ ¬ f < vi) := by
            by_cases q : op = 0
            · exact .inl ⟨q, HF.out q⟩
            · by_cases q2 : f < vi
              · exact .inr (.inl ⟨q, q2⟩)
              · exact .inr (.inr ⟨q, q2⟩)
          by_cases h0 : i = 0
          · have hg : decide ((0 : Int) < (i : Int)) = false := decide_eq_false (by omega)
            have hgn : decide (0 < i) = false := decide_eq_false (by omega)
            clear h0
            rcases hcase with ⟨rfl, hfv⟩ | ⟨hop, hfl⟩ | ⟨hop, hfl⟩
            · have hfv2 := hfv.symm
              subst hfv2
              clear HF hfv
              go_wp2_with fail
              go_quiet (fail)
              go_wp2_with fail
              go_loopw [19] (fun k w2 => ∃ k' : Nat, k = .int .i64 (k' : Int) ∧ k' ≤ i ∧ Below w10.heap.size w10 w2) (fun k _ => i - (intOf k).toNat)
              case atStart => exact ⟨0, rfl, Nat.zero_le _, ndrew (Below.refl _ w10) nq⟩
              case round =>
                obtain ⟨k, rfl, hk, hbk⟩ := hrel
                have HBK := Lib.hid hbk
                clear hbk
                by_cases hlk : k < i
                · have hlkI : (k : Int) < (i : Int) := by omega
                  obtain ⟨ek, hek⟩ : ∃ e, T0.dn[k]? = some e := ⟨_, List.getElem?_eq_getElem (by rw [← HDL.out]; omega)⟩
                  obtain ⟨bu, ou, eu, hbu, u1⟩ := HJ8.out.atl (j := k) (by rw [List.getElem?_map, hek]; rfl)
                  injection eu with eu
                  injection eu with eu1 eu2
                  subst eu1 eu2
                  have hb10 := HB10.out.trans (HBK.out.mono HB10.out.size)
                  have u2 := (hb10.cell (p := ⟨Bu, Ou + k, none⟩) hbu).trans u1
                  have u3 := (hb10.cell (p := ⟨Bu, Ou + i, none⟩) HBU.out).trans HUI.out
                  have hne := decl_ne HG0.out hlk HE.out hek
                  have hne2 : decide ((ek.2 : Int) = (vi : Int)) = false := decide_eq_false (by rw [HVI.out]; omega)
                  have hne3 : ((ek.2 : Int) == (vi : Int)) = false := by rw [HVI.out]; simp; omega
                  have hne4 : ¬ (ek.2 : Int) = (vi : Int) := by rw [HVI.out]; omega
                  clear hek u1 hne hb10
                  go_wp2_with fail
                  go_quiet (fail)
                  go_wp2_with fail
                  exact ⟨⟨k + 1, by go_num, by omega, ndrew HBK.out nq⟩, by simp [intOf]; omega⟩
                · have hlkI : ¬ (k : Int) < (i : Int) := by omega
                  go_wp2_with fail
                  exact ⟨⟨i + 1, by go_num, by omega, HB10.out.trans (HBK.out.mono HB10.out.size)⟩, by simp [intOf]; omega⟩
            · have hop1 : (op == 0) = false := by simp; omega
              have hop2 : decide (op = 0) = false := decide_eq_false hop
              have hf1 : decide ((f : Int) < (vi : Int)) = true := decide_eq_true (by omega)
              have hf2 : decide (f < vi) = true := decide_eq_true hfl
              clear HF
              go_wp2_with fail
              go_quiet (fail)
              go_wp2_with fail
              go_loopw [19] (fun k w2 => ∃ k' : Nat, k = .int .i64 (k' : Int) ∧ k' ≤ i ∧ Below w10.heap.size w10 w2) (fun k _ => i - (intOf k).toNat)
              case atStart => exact ⟨0, rfl, Nat.zero_le _, ndrew (Below.refl _ w10) nq⟩
              case round =>
                obtain ⟨k, rfl, hk, hbk⟩ := hrel
                have HBK := Lib.hid hbk
                clear hbk
                by_cases hlk : k < i
                · have hlkI : (k : Int) < (i : Int) := by omega
                  obtain ⟨ek, hek⟩ : ∃ e, T0.dn[k]? = some e := ⟨_, List.getElem?_eq_getElem (by rw [← HDL.out]; omega)⟩
                  obtain ⟨bu, ou, eu, hbu, u1⟩ := HJ8.out.atl (j := k) (by rw [List.getElem?_map, hek]; rfl)
                  injection eu with eu
                  injection eu with eu1 eu2
                  subst eu1 eu2
                  have hb10 := HB10.out.trans (HBK.out.mono HB10.out.size)
                  have u2 := (hb10.cell (p := ⟨Bu, Ou + k, none⟩) hbu).trans u1
                  have u3 := (hb10.cell (p := ⟨Bu, Ou + i, none⟩) HBU.out).trans HUI.out
                  have hne := decl_ne HG0.out hlk HE.out hek
                  have hne2 : decide ((ek.2 : Int) = (vi : Int)) = false := decide_eq_false (by rw [HVI.out]; omega)
                  have hne3 : ((ek.2 : Int) == (vi : Int)) = false := by rw [HVI.out]; simp; omega
                  have hne4 : ¬ (ek.2 : Int) = (vi : Int) := by rw [HVI.out]; omega
                  clear hek u1 hne hb10
                  go_wp2_with fail
                  go_quiet (fail)
                  go_wp2_with fail
                  exact ⟨⟨k + 1, by go_num, by omega, ndrew HBK.out nq⟩, by simp [intOf]; omega⟩
                · have hlkI : ¬ (k : Int) < (i : Int) := by omega
                  go_wp2_with fail
                  exact ⟨⟨i + 1, by go_num, by omega, HB10.out.trans (HBK.out.mono HB10.out.size)⟩, by simp [intOf]; omega⟩
            · have hop1 : (op == 0) = false := by simp; omega
              have hop2 : decide (op = 0) = false := decide_eq_false hop
              have hf1 : decide ((f : Int) < (vi : Int)) = false := decide_eq_false (by omega)
              have hf2 : decide (f < vi) = false := decide_eq_false hfl
              clear HF
              go_wp2_with fail
              go_quiet (fail)
              go_wp2_with fail
              go_loopw [19] (fun k w2 => ∃ k' : Nat, k = .int .i64 (k' : Int) ∧ k' ≤ i ∧ Below w10.heap.size w10 w2) (fun k _ => i - (intOf k).toNat)
              case atStart => exact ⟨0, rfl, Nat.zero_le _, ndrew (Below.refl _ w10) nq⟩
              case round =>
                obtain ⟨k, rfl, hk, hbk⟩ := hrel
                have HBK := Lib.hid hbk
                clear hbk
                by_cases hlk : k < i
                · have hlkI : (k : Int) < (i : Int) := by omega
                  obtain ⟨ek, hek⟩ : ∃ e, T0.dn[k]? = some e := ⟨_, List.getElem?_eq_getElem (by rw [← HDL.out]; omega)⟩
                  obtain ⟨bu, ou, eu, hbu, u1⟩ := HJ8.out.atl (j := k) (by rw [List.getElem?_map, hek]; rfl)
                  injection eu with eu
                  injection eu with eu1 eu2
                  subst eu1 eu2
                  have hb10 := HB10.out.trans (HBK.out.mono HB10.out.size)
                  have u2 := (hb10.cell (p := ⟨Bu, Ou + k, none⟩) hbu).trans u1
                  have u3 := (hb10.cell (p := ⟨Bu, Ou + i, none⟩) HBU.out).trans HUI.out
                  have hne := decl_ne HG0.out hlk HE.out hek
                  have hne2 : decide ((ek.2 : Int) = (vi : Int)) = false := decide_eq_false (by rw [HVI.out]; omega)
                  have hne3 : ((ek.2 : Int) == (vi : Int)) = false := by rw [HVI.out]; simp; omega
                  have hne4 : ¬ (ek.2 : Int) = (vi : Int) := by rw [HVI.out]; omega
                  clear hek u1 hne hb10
                  go_wp2_with fail
                  go_quiet (fail)
                  go_wp2_with fail
                  exact ⟨⟨k + 1, by go_num, by omega, ndrew HBK.out nq⟩, by simp [intOf]; omega⟩
                · have hlkI : ¬ (k : Int) < (i : Int) := by omega
                  go_wp2_with fail
                  exact ⟨⟨i + 1, by go_num, by omega, HB10.out.trans (HBK.out.mono HB10.out.size)⟩, by simp [intOf]; omega⟩
          · obtain ⟨i', hi'⟩ : ∃ i', i = i' + 1 := ⟨i - 1, by omega⟩
            have hg : decide ((0 : Int) < (i : Int)) = true := decide_eq_true (by omega)
            have hgn : decide (0 < i) = true := decide_eq_true (by omega)
            have hi1 : (i : Int) - 1 = (i' : Int) := by omega
            have hi2 : (i' : Int) < (d : Int) := by omega
            have hwi : IntKind.i64.wrap (i' : Int) = (i' : Int) := by rw [IntKind.wrap_i64]; omega
            obtain ⟨pe, hpe⟩ : ∃ e, T0.dn[i']? = some e := ⟨_, List.getElem?_eq_getElem (by rw [← HDL.out]; omega)⟩
            obtain ⟨Ba', Oa', eba, hba', a0⟩ := HR8.out.atl (j := i') (x := pe.1) (by rw [List.getElem?_map, hpe]; rfl)
            injection eba with eba
            injection eba with eba1 eba2
            subst eba1 eba2
            have a5 := (HB10.out.cell (p := ⟨Ba, Oa + i', none⟩) hba').trans a0
            have hltp := decl_lt HG0.out (by have := HE.out; rwa [hi'] at this) hpe
            have hcp := (HG0.out.ok pe (List.mem_of_getElem? hpe)).1
            have hless : Op.bytesLess s1.toList (str pe.1).toList = false := by
              rw [← HS1.out, bytes_ltn HCD.out.1 hcp]
              exact ltn_asym hltp
            have hneq : (s1.toList == (str pe.1).toList) = false := by
              rw [← HS1.out, str_beq HCD.out.1 hcp]
              exact decide_eq_false fun q => by rw [q, ltn_irr] at hltp; cases hltp
            generalize str pe.1 = s0 at *
            clear h0 hi' hpe a0 hltp hcp
            rcases hcase with ⟨rfl, hfv⟩ | ⟨hop, hfl⟩ | ⟨hop, hfl⟩
            · have hfv2 := hfv.symm
              subst hfv2
              clear HF hfv
              go_wp2_with fail
              go_quiet (fail)
              go_wp2_with fail
              go_loopw [19] (fun k w2 => ∃ k' : Nat, k = .int .i64 (k' : Int) ∧ k' ≤ i ∧ Below w10.heap.size w10 w2) (fun k _ => i - (intOf k).toNat)
              case atStart => exact ⟨0, rfl, Nat.zero_le _, ndrew (Below.refl _ w10) nq⟩
              case round =>
                obtain ⟨k, rfl, hk, hbk⟩ := hrel
                have HBK := Lib.hid hbk
                clear hbk
                by_cases hlk : k < i
                · have hlkI : (k : Int) < (i : Int) := by omega
                  obtain ⟨ek, hek⟩ : ∃ e, T0.dn[k]? = some e := ⟨_, List.getElem?_eq_getElem (by rw [← HDL.out]; omega)⟩
                  obtain ⟨bu, ou, eu, hbu, u1⟩ := HJ8.out.atl (j := k) (by rw [List.getElem?_map, hek]; rfl)
                  injection eu with eu
                  injection eu with eu1 eu2
                  subst eu1 eu2
                  have hb10 := HB10.out.trans (HBK.out.mono HB10.out.size)
                  have u2 := (hb10.cell (p := ⟨Bu, Ou + k, none⟩) hbu).trans u1
                  have u3 := (hb10.cell (p := ⟨Bu, Ou + i, none⟩) HBU.out).trans HUI.out
                  have hne := decl_ne HG0.out hlk HE.out hek
                  have hne2 : decide ((ek.2 : Int) = (vi : Int)) = false := decide_eq_false (by rw [HVI.out]; omega)
                  have hne3 : ((ek.2 : Int) == (vi : Int)) = false := by rw [HVI.out]; simp; omega
                  have hne4 : ¬ (ek.2 : Int) = (vi : Int) := by rw [HVI.out]; omega
                  clear hek u1 hne hb10
                  go_wp2_with fail
                  go_quiet (fail)
                  go_wp2_with fail
                  exact ⟨⟨k + 1, by go_num, by omega, ndrew HBK.out nq⟩, by simp [intOf]; omega⟩
                · have hlkI : ¬ (k : Int) < (i : Int) := by omega
                  go_wp2_with fail
                  exact ⟨⟨i + 1, by go_num, by omega, HB10.out.trans (HBK.out.mono HB10.out.size)⟩, by simp [intOf]; omega⟩
            · have hop1 : (op == 0) = false := by simp; omega
              have hop2 : decide (op = 0) = false := decide_eq_false hop
              have hf1 : decide ((f : Int) < (vi : Int)) = true := decide_eq_true (by omega)
              have hf2 : decide (f < vi) = true := decide_eq_true hfl
              clear HF
              go_wp2_with fail
              go_quiet (fail)
              go_wp2_with fail
              go_loopw [19] (fun k w2 => ∃ k' : Nat, k = .int .i64 (k' : Int) ∧ k' ≤ i ∧ Below w10.heap.size w10 w2) (fun k _ => i - (intOf k).toNat)
              case atStart => exact ⟨0, rfl, Nat.zero_le _, ndrew (Below.refl _ w10) nq⟩
              case round =>
                obtain ⟨k, rfl, hk, hbk⟩ := hrel
                have HBK := Lib.hid hbk
                clear hbk
                by_cases hlk : k < i
                · have hlkI : (k : Int) < (i : Int) := by omega
                  obtain ⟨ek, hek⟩ : ∃ e, T0.dn[k]? = some e := ⟨_, List.getElem?_eq_getElem (by rw [← HDL.out]; omega)⟩
                  obtain ⟨bu, ou, eu, hbu, u1⟩ := HJ8.out.atl (j := k) (by rw [List.getElem?_map, hek]; rfl)
                  injection eu with eu
                  injection eu with eu1 eu2
                  subst eu1 eu2
                  have hb10 := HB10.out.trans (HBK.out.mono HB10.out.size)
                  have u2 := (hb10.cell (p := ⟨Bu, Ou + k, none⟩) hbu).trans u1
                  have u3 := (hb10.cell (p := ⟨Bu, Ou + i, none⟩) HBU.out).trans HUI.out
                  have hne := decl_ne HG0.out hlk HE.out hek
                  have hne2 : decide ((ek.2 : Int) = (vi : Int)) = false := decide_eq_false (by rw [HVI.out]; omega)
                  have hne3 : ((ek.2 : Int) == (vi : Int)) = false := by rw [HVI.out]; simp; omega
                  have hne4 : ¬ (ek.2 : Int) = (vi : Int) := by rw [HVI.out]; omega
                  clear hek u1 hne hb10
                  go_wp2_with fail
                  go_quiet (fail)
                  go_wp2_with fail
                  exact ⟨⟨k + 1, by go_num, by omega, ndrew HBK.out nq⟩, by simp [intOf]; omega⟩
                · have hlkI : ¬ (k : Int) < (i : Int) := by omega
                  go_wp2_with fail
                  exact ⟨⟨i + 1, by go_num, by omega, HB10.out.trans (HBK.out.mono HB10.out.size)⟩, by simp [intOf]; omega⟩
            · have hop1 : (op == 0) = false := by simp; omega
              have hop2 : decide (op = 0) = false := decide_eq_false hop
              have hf1 : decide ((f : Int) < (vi : Int)) = false := decide_eq_false (by omega)
              have hf2 : decide (f < vi) = false := decide_eq_false hfl
              clear HF
              go_wp2_with fail
              go_quiet (fail)
              go_wp2_with fail
              go_loopw [19] (fun k w2 => ∃ k' : Nat, k = .int .i64 (k' : Int) ∧ k' ≤ i ∧ Below w10.heap.size w10 w2) (fun k _ => i - (intOf k).toNat)
              case atStart => exact ⟨0, rfl, Nat.zero_le _, ndrew (Below.refl _ w10) nq⟩
              case round =>
                obtain ⟨k, rfl, hk, hbk⟩ := hrel
                have HBK := Lib.hid hbk
                clear hbk
                by_cases hlk : k < i
                · have hlkI : (k : Int) < (i : Int) := by omega
                  obtain ⟨ek, hek⟩ : ∃ e, T0.dn[k]? = some e := ⟨_, List.getElem?_eq_getElem (by rw [← HDL.out]; omega)⟩
                  obtain ⟨bu, ou, eu, hbu, u1⟩ := HJ8.out.atl (j := k) (by rw [List.getElem?_map, hek]; rfl)
                  injection eu with eu
                  injection eu with eu1 eu2
                  subst eu1 eu2
                  have hb10 := HB10.out.trans (HBK.out.mono HB10.out.size)
                  have u2 := (hb10.cell (p := ⟨Bu, Ou + k, none⟩) hbu).trans u1
                  have u3 := (hb10.cell (p := ⟨Bu, Ou + i, none⟩) HBU.out).trans HUI.out
                  have hne := decl_ne HG0.out hlk HE.out hek
                  have hne2 : decide ((ek.2 : Int) = (vi : Int)) = false := decide_eq_false (by rw [HVI.out]; omega)
                  have hne3 : ((ek.2 : Int) == (vi : Int)) = false := by rw [HVI.out]; simp; omega
                  have hne4 : ¬ (ek.2 : Int) = (vi : Int) := by rw [HVI.out]; omega
                  clear hek u1 hne hb10
                  go_wp2_with fail
                  go_quiet (fail)
                  go_wp2_with fail
                  exact ⟨⟨k + 1, by go_num, by omega, ndrew HBK.out nq⟩, by simp [intOf]; omega⟩
                · have hlkI : ¬ (k : Int) < (i : Int) := by omega
                  go_wp2_with fail
                  exact ⟨⟨i + 1, by go_num, by omega, HB10.out.trans (HBK.out.mono HB10.out.size)⟩, by simp [intOf]; omega⟩
        · have hltiI : ¬ (i : Int) < (d : Int) := by omega
          have hge : (0 : Int) ≤ op := by rw [HOP.out]; omega
          go_wp2_with fail
          go_ret
          exact ⟨rfl, HW5.out.trans ((HW8.out.trans (HB.out.mono HW8.out.size)).mono HW5.out.size)⟩
end Go.Proofs.YtcjljfjgekiocaaGreatDoor

/- The law's play. -/
import Derived.Test.YtcjljfjgekiocaaGreatDoorNamAF
namespace Go.Proofs.YtcjljfjgekiocaaGreatDoor
open Go.RowKit Go.Shelf

set_option linter.unusedVariables false
set_option linter.unusedSimpArgs false

theorem declT_sc (T : Tb) (L : List Nat) : (declT T L).sc = T.sc := by
  unfold declT
  split <;> rfl
theorem openT_sc (T : Tb) (ns : List (List Nat)) : (openT T ns).sc.length = T.sc.length + if openC T ns = 0 then 1 else 0 := by
  unfold openT
  split
  · rw [List.length_append]; rfl
  · rfl
theorem declC_cases (T : Tb) (L : List Nat) : declC T L = 4 ∨ declC T L = 6 ∨ declC T L = 40 ∨ declC T L = 0 := by
  unfold declC
  repeat' split
  all_goals simp
theorem openC_cases (T : Tb) (ns : List (List Nat)) : openC T ns = 4 ∨ openC T ns = 6 ∨ openC T ns = 40 ∨ openC T ns = 0 := by
  unfold openC
  repeat' split
  all_goals simp
theorem playT_take {T : Tb} {l : List Act} {j : Nat} {a : Act} (h : l[j]? = some a) : playT T (l.take (j + 1)) = actT (playT T (l.take j)) a := by
  unfold playT
  rw [List.take_add_one, h, List.foldl_append]
  rfl
theorem TPost.step {w wr w1 w2 : World} {B g : Nat} {T2 : Tb} {ks ks1 : List Nat} (s1 : ∀ k ∈ ks1, k ∈ ks ∨ w.heap.size ≤ k) (n1 : Nb (fun k => k ∈ ks) w wr) (hb : Below wr.heap.size wr w1) (h2 : TPost w1 B g T2 ks1 w2) : TPost w B g T2 ks w2 := by
  obtain ⟨k2, a2, s2, n2⟩ := h2
  have hsz := n1.size
  have hsz2 := hb.size
  refine ⟨k2, a2, fun k q => ?_, Nb.trans (Nb.trans (P' := fun _ => False) n1 (Nb.of hb) (fun _ h => h) (fun _ _ h => h.elim)) n2 (fun _ h => h) fun k hk q => ?_⟩
  · rcases s2 k q with r | r
    · exact s1 k r
    · exact .inr (by omega)
  · rcases s1 k q with r | r
    · exact r
    · omega
theorem openPost {w w' : World} {B g : Nat} {T : Tb} {ks : List Nat} {ns : List (List Nat)} {e : Ending} (h : OpnQ w B g T ks ns e w') : TPost w B g (openT T ns) ks w' := by
  obtain ⟨v, ks', h1, h2, h3, h4, h5⟩ := h
  exact ⟨ks', h2, h3, h4⟩
set_option maxRecDepth 100000 in
set_option maxHeartbeats 8000000 in
theorem play_any (g : Nat) (T : Tb) (ks : List Nat) (l : List Act) (A : Option Addr) (c : Nat) (w w0 : World) (h : TabAt w w0.heap.size g T ks) (hG : GoodT T) (hb0 : Below w0.heap.size w0 w) (hr : RdA w0 A l) (hok : OkA l) (hs : ShA l) :
    Calls Tryz.prog 32 #[.pointer (some ⟨g, 0, none⟩), .slice A l.length c] w fun e w' => e = .returned (.int .i64 (((playT T l).sc.length : Int) - (T.sc.length : Int))) ∧ TPost w w0.heap.size g (playT T l) ks w' := by
  have HT := Lib.hid h
  have HG := Lib.hid hG
  have HR := Lib.hid hr
  have HO := Lib.hid hok
  have HB0 := Lib.hid hb0
  have HS := Lib.hid hs.2
  have hl := hs.1
  obtain ⟨n, hn⟩ : ∃ n, n = l.length := ⟨_, rfl⟩
  have HN := Lib.hid hn
  rw [← hn] at hl ⊢
  clear h hG hr hok hs hb0 hn
  go_enter Tryz.func32, Tryz.ntmps32
  go_wp2_with fail
  go_loopw [5, 6] (fun s i wr => ∃ (j : Nat) (d : Int), s = .int .i64 d ∧ Hid (d = ((playT T (l.take j)).sc.length : Int) - (T.sc.length : Int)) ∧ i = .int .i64 (j : Int) ∧ j ≤ n ∧ TPost w w0.heap.size g (playT T (l.take j)) ks wr) (fun _ i _ => n - (intOf i).toNat)
  case atStart => exact ⟨0, 0, rfl, by show (0:Int) = (T.sc.length : Int) - (T.sc.length : Int); omega, rfl, Nat.zero_le _, TPost.same HT.out (Below.refl _ _)⟩
  case round =>
    obtain ⟨j, d, rfl, HD, rfl, hj, hP⟩ := hrel
    have HP := Lib.hid hP
    by_cases hlt : j < n
    · have hltI : (j : Int) < (n : Int) := by omega
      obtain ⟨a, ha⟩ : ∃ a, l[j]? = some a := ⟨_, List.getElem?_eq_getElem (by rw [← HN.out]; exact hlt)⟩
      have hbr : Below w0.heap.size w0 wr := HB0.out.trans (TPost.below HT.out HB0.out.size hP)
      obtain ⟨b, o, rfl, hb, k1, A', c', k2, k3⟩ := HR.out.at ha
      obtain ⟨q1, q2, q3⟩ := HO.out a (List.mem_of_getElem? ha)
      have q2 := q2.s (HS.out a (List.mem_of_getElem? ha))
      have q4 := (HS.out a (List.mem_of_getElem? ha)).1
      have x1 := (hbr.cell (p := ⟨b, o + j * 2, none⟩) hb).trans k1
      have x2 := (hbr.cell (p := ⟨b, o + j * 2 + 1, none⟩) hb).trans k2
      have HE := Lib.hid (playT_take (T := T) ha)
      have HGT := Lib.hid (GoodT.play (l := l.take j) HG.out fun a' ha' => fun x hx => (((HO.out a' (List.mem_of_mem_take ha')).2.1) x hx).1)
      have HOS := Lib.hid q2
      have HRS := Lib.hid (k3.below hbr)
      have HBR := Lib.hid hbr
      obtain ⟨p, hp⟩ : ∃ p, p = a.2.length := ⟨_, rfl⟩
      have HPP := Lib.hid hp
      rw [← hp] at x2 q4
      obtain ⟨ks1, hT1, hs1, hn1⟩ := hP
      have HS1 := Lib.hid hs1
      have HN1 := Lib.hid hn1
      have HT1 := Lib.hid hT1
      obtain ⟨kd4, hk4⟩ : ∃ k, k = a.1 % 4 := ⟨_, rfl⟩
      have HK4 := Lib.hid hk4
      have e4 : ((a.1 : Nat) : Int) % 4 = (kd4 : Int) := by omega
      have hlt4 : kd4 < 4 := by omega
      obtain ⟨T1, hT1e⟩ : ∃ T1, T1 = playT T (l.take j) := ⟨_, rfl⟩
      rw [← hT1e] at HT1 HGT HE HP HD
      have hd : -64 ≤ d ∧ d ≤ 64 := by
        have h1 := HGT.out.sl
        have h2 := HG.out.sl
        rw [HD.out]
        omega
      have hd1 := hd.1
      have hd2 := hd.2
      have hsz : w0.heap.size ≤ wr.heap.size := hbr.size
      have w1 : IntKind.i64.wrap (d + 1) = d + 1 := by rw [IntKind.wrap_i64]; omega
      have w2 : IntKind.i64.wrap (d - 1) = d - 1 := by rw [IntKind.wrap_i64]; omega
      have HTE := Lib.hid hT1e
      clear k1 k2 k3 q2 q3 hp hT1 hs1 hn1 hk4 hT1e
      have hc4 : kd4 = 0 ∨ kd4 = 1 ∨ kd4 = 2 ∨ kd4 = 3 := by omega
      rcases hc4 with rfl | rfl | rfl | rfl
      · simp only [Int.ofNat_zero, Int.ofNat_one, Int.cast_ofNat_Int] at e4
        have HX := Lib.hid (show actT T1 a = declT T1 (fst1 a.2) by unfold actT; rw [if_pos HK4.out.symm])
        have C1 := first_any (.int .u8 ((a.1 : Nat) : Int)) a.2 A' c' wr HRS.out ⟨_, rfl⟩ (by rw [← HPP.out]; omega)
        rw [← HPP.out] at C1
        have HC1 := Lib.hid C1
        clear C1
        go_wp2_with fail
        refine HC1.out.mono ?_
        rintro e w1 ⟨rfl, hb1⟩
        have hf : Codes (fst1 a.2) ∧ (fst1 a.2).length < 9223372036854775807 := by
          refine ⟨fst1_codes fun x hx => (HOS.out x hx).1, ?_⟩
          cases q : a.2 with
          | nil => decide
          | cons x r => exact (HOS.out x (by rw [q]; simp)).2
        have C2 := declare_go g T1 ks1 (fst1 a.2) w1 w0.heap.size (Nat.le_trans hsz hb1.size) (HT1.out.below hb1) HGT.out hf.1 hf.2
        have HB1 := Lib.hid hb1
        clear hb1
        go_wp2_with fail
        refine C2.mono ?_
        rintro e w2 ⟨rfl, hp2⟩
        have HP2 := Lib.hid (TPost.step HS1.out HN1.out HB1.out hp2)
        clear C2 hp2
        go_wp2_with fail
        exact ⟨⟨j + 1, d, rfl, by show d = _; rw [HE.out, HX.out, declT_sc]; exact HD.out, by go_num, by omega, by rw [HE.out, HX.out]; exact HP2.out⟩, by simp [intOf]; omega⟩
      · simp only [Int.ofNat_zero, Int.ofNat_one, Int.cast_ofNat_Int] at e4
        have HX := Lib.hid (show actT T1 a = openT T1 a.2 by unfold actT; rw [if_neg (by rw [← HK4.out]; decide), if_pos HK4.out.symm])
        have C1 := open_all g T1 ks1 a.2 A' c' wr w0.heap.size hsz HT1.out HGT.out HRS.out HOS.out (by rw [← HPP.out]; omega)
        rw [← HPP.out] at C1
        have HC1 := Lib.hid C1
        clear C1
        go_wp2_with fail
        refine HC1.out.mono ?_
        rintro e w2 ⟨v, ks', rfl, h2, h3, h4, h5⟩
        have HP2 := Lib.hid (TPost.step HS1.out HN1.out (Below.refl _ _) ⟨ks', h2, h3, h4⟩)
        have hsc := openT_sc T1 a.2
        have hcs := openC_cases T1 a.2
        obtain ⟨cc, hcc⟩ : ∃ cc, cc = openC T1 a.2 := ⟨_, rfl⟩
        rw [← hcc] at hsc hcs ⊢
        have HSC := Lib.hid hsc
        have HCS := Lib.hid hcs
        clear h2 h3 h4 h5 HC1 hsc hcs hcc
        by_cases h0 : cc = 0
        · subst h0
          go_wp2_with fail
          exact ⟨⟨j + 1, d + 1, rfl, by show d + 1 = _; have := HD.out; rw [HE.out, HX.out, HSC.out]; simp; omega, by go_num, by omega, by rw [HE.out, HX.out]; exact HP2.out⟩, by simp [intOf]; omega⟩
        · have h0' : ¬ (cc : Int) = 0 := by omega
          go_wp2_with fail
          exact ⟨⟨j + 1, d, rfl, by show d = _; have := HD.out; rw [HE.out, HX.out, HSC.out, if_neg h0]; omega, by go_num, by omega, by rw [HE.out, HX.out]; exact HP2.out⟩, by simp [intOf]; omega⟩
      · simp only [Int.ofNat_zero, Int.ofNat_one, Int.cast_ofNat_Int] at e4
        have HX := Lib.hid (show actT T1 a = closeT T1 by unfold actT; rw [if_neg (by rw [← HK4.out]; decide), if_neg (by rw [← HK4.out]; decide), if_pos HK4.out.symm])
        have C1 := close_all g T1 ks1 wr w0.heap.size HT1.out HGT.out
        have HC1 := Lib.hid C1
        clear C1
        go_wp2_with fail
        refine HC1.out.mono ?_
        rintro e w2 ⟨rfl, hp2⟩
        have HP2 := Lib.hid (TPost.step HS1.out HN1.out (Below.refl _ _) hp2)
        clear hp2 HC1
        by_cases h0 : T1.sc.length = 0
        · have hc : closeC T1 = 5 := by unfold closeC; rw [if_pos h0]
          rw [hc]
          have HL : Hid ((closeT T1).sc.length = T1.sc.length) := by show T1.sc.dropLast.length = _; rw [List.length_dropLast]; omega
          clear h0 hc
          go_wp2_with fail
          exact ⟨⟨j + 1, d, rfl, by show d = _; have := HD.out; rw [HE.out, HX.out, HL.out]; omega, by go_num, by omega, by rw [HE.out, HX.out]; exact HP2.out⟩, by simp [intOf]; omega⟩
        · have hc : closeC T1 = 0 := by unfold closeC; rw [if_neg h0]
          rw [hc]
          have HL : Hid ((closeT T1).sc.length + 1 = T1.sc.length) := by show T1.sc.dropLast.length + 1 = _; rw [List.length_dropLast]; omega
          clear h0 hc
          go_wp2_with fail
          exact ⟨⟨j + 1, d - 1, rfl, by show d - 1 = _; have := HD.out; have := HL.out; rw [HE.out, HX.out]; omega, by go_num, by omega, by rw [HE.out, HX.out]; exact HP2.out⟩, by simp [intOf]; omega⟩
      · simp only [Int.ofNat_zero, Int.ofNat_one, Int.cast_ofNat_Int] at e4
        have HX := Lib.hid (show actT T1 a = T1 by unfold actT; rw [if_neg (by rw [← HK4.out]; decide), if_neg (by rw [← HK4.out]; decide), if_neg (by rw [← HK4.out]; decide)])
        go_wp2_with fail
        exact ⟨⟨j + 1, d, rfl, by show d = _; rw [HE.out, HX.out]; exact HD.out, by go_num, by omega, by rw [HE.out, HX.out]; exact HP.out⟩, by simp [intOf]; omega⟩
    · have hltI : ¬ (j : Int) < (n : Int) := by omega
      have HJ : Hid (j = n) := by show j = n; omega
      go_wp2_with fail
      go_ret
      have e : l.take j = l := List.take_of_length_le (by rw [HJ.out, ← HN.out]; exact Nat.le_refl _)
      have HD' := HD.out
      rw [e] at HP HD'
      exact ⟨by rw [← HD']; rfl, HP.out⟩
end Go.Proofs.YtcjljfjgekiocaaGreatDoor

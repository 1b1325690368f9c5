/- Contract: Declare. -/
import Derived.Test.YtcjljfjgekiocaaGreatDoorNamK
import Derived.Deep.CutRange
namespace Go.Proofs.YtcjljfjgekiocaaGreatDoor
open Go.RowKit Go.Shelf Go.Lib

set_option linter.unusedVariables false
set_option linter.unusedSimpArgs false

theorem own_more {w8 : World} {B g8 c8 : Nat} {l : List Ent} {x : Ent} (h : w8.ownsRow B 68 2 (.slice (some ⟨g8, 0, none⟩) (l.length + 1) c8) (l.length + 1) (ecs l ++ ecell x)) : OwnE w8 B (.slice (some ⟨g8, 0, none⟩) (l.length + 1) c8) (l ++ [x]) := by
  show w8.ownsRow _ _ _ _ _ _
  rw [ecs_append, ecs_eone, List.length_append]
  exact h
theorem nblk_at {b : Value} {g8 n m c k : Nat} (h : b.ownBlock = some g8 ∨ m ≤ g8) (hk : k ∈ nblk (.slice (some ⟨g8, 0, none⟩) n c)) : k ∈ nblk b ∨ m ≤ k := by
  have : k = g8 := by simpa [nblk, Value.ownBlock] using hk
  subst this
  exact h.imp (fun h => by simp [nblk, h]) id
def CutA (w : World) (B g E : Nat) (T : Tb) (x : Ent) (ks : List Nat) (R : World) : Prop := ∃ ks', TabAt R B g T ks' ∧ (∀ k ∈ ks', k ∈ ks ∨ w.heap.size ≤ k) ∧ Nb (fun k => k ∈ ks) w R ∧ E ∉ ks' ∧ EntAt R E x
theorem cutA {w V w6 : World} {B g E : Nat} {T : Tb} {a v b s : Value} {xs : List Value} {k0 ks : List Nat} {l : List Ent} {x : Ent} (h : TabV V B g T a b s xs k0) (hs : ∀ k ∈ tks g a b s k0, k ∈ ks ∨ w.heap.size ≤ k) (hw : Nb (fun k => k ∈ ks) w V)
    (hn : Nb (fun k => k ∈ nblk a) V w6) (ho : OwnE w6 B v l) (hk : ∀ k ∈ nblk v, k ∈ nblk a ∨ V.heap.size ≤ k) (hE : ∀ k ∈ tks g a b s k0, k ≠ E) (hlt : E < V.heap.size) (he : EntAt w6 E x) : CutA w B g E { T with dn := l } x ks (w6.setCell ⟨g, 0, none⟩ v) := by
  have hsz := hw.size
  have hgE : E ≠ g := fun e => hE g (by simp [tks]) e.symm
  refine ⟨tks g v b s k0, ⟨_, _, _, _, _, h.setA hn ho hk, rfl⟩, fun k q => ?_, Nb.trans (Nb.trans hw hn (fun _ h => h) fun k hk2 q => ?_) (Nb.set _ _ _ _ (fun k => k = g) rfl) (fun _ h => h) fun k hk2 q => ?_, fun q => ?_, (Below.heap_setCell _ _ _ _ hgE).trans he⟩
  · simp only [tks, List.mem_cons, List.mem_append] at q hs
    rcases q with q | ((q | q) | q) | q
    · exact hs k (.inl q)
    · rcases hk k q with r | r
      · exact hs k (.inr (.inl (.inl (.inl r))))
      · exact .inr (by omega)
    · exact hs k (.inr (.inl (.inl (.inr q))))
    · exact hs k (.inr (.inl (.inr q)))
    · exact hs k (.inr (.inr q))
  · rcases hs k (by simp [tks, q]) with r | r
    · exact r
    · omega
  · rcases hs k (by simp [tks, q]) with r | r
    · exact r
    · omega
  · simp only [tks, List.mem_cons, List.mem_append] at q hE
    rcases q with q | ((q | q) | q) | q
    · exact hgE q
    · rcases hk E q with r | r
      · exact hE E (.inr (.inl (.inl (.inl r)))) rfl
      · omega
    · exact hE E (.inr (.inl (.inl (.inr q)))) rfl
    · exact hE E (.inr (.inl (.inr q))) rfl
    · exact hE E (.inr (.inr q)) rfl
def DPost (w : World) (B g c v : Nat) (T' : Tb) (ks : List Nat) (e : Ending) (w' : World) : Prop := e = .returned (.tuple #[.int .i64 (v : Int), .int .i64 (c : Int)]) ∧ TPost w B g T' ks w'
set_option maxRecDepth 100000 in
set_option maxHeartbeats 8000000 in
theorem declare_go (g : Nat) (T : Tb) (ks : List Nat) (L : List Nat) (w : World) (B : Nat) (hB : B ≤ w.heap.size) (h : TabAt w B g T ks) (hG : GoodT T) (hc : Codes L) (hl : L.length < 9223372036854775807) :
    Calls Tryz.prog 11 #[.pointer (some ⟨g, 0, none⟩), .string (str L)] w (DPost w B g (declC T L) (declV T L) (declT T L) ks) := by
  have HT := Lib.hid h
  obtain ⟨a, b, s, xs, k0, h, rfl⟩ := h
  have HV := Lib.hid h
  have HG := Lib.hid hG
  obtain ⟨A, cap, rfl, hrd⟩ := h.dn.form
  have C1 := Lib.hid (name_any L w hc hl)
  have hcell := h.cell
  have c0 : w.cell? ⟨g, 0, none⟩ = some (.slice A T.dn.length cap) := cell_of_row w g 0 _ _ _ h.cell
  have HRD := Lib.hid hrd
  have HC := Lib.hid hc
  have hdl := hG.dl
  have hnx := hG.nx
  clear h hrd hcell hG hc c0
  cases hN : isN L with
  | false =>
    have e1 : declC T L = 4 := by simp [declC, hN]
    have e2 : declV T L = 0 := by simp [declV, e1]
    have e3 : declT T L = T := by simp [declT, e1]
    rw [e1, e2, e3]
    rw [hN] at C1
    clear hN e1 e2 e3
    go_enter Tryz.func11, Tryz.ntmps11
    go_wp2_with fail
    refine C1.out.mono ?_
    rintro e w1 ⟨rfl, hb1⟩
    go_wp2_with fail
    go_ret2
    exact ⟨rfl, TPost.same HT.out hb1⟩
  | true =>
  rw [hN] at C1
  cases hI : isNm T.dn L with
  | true =>
    have e1 : declC T L = 6 := by simp [declC, hN, hI]
    have e2 : declV T L = 0 := by simp [declV, e1]
    have e3 : declT T L = T := by simp [declT, e1]
    rw [e1, e2, e3]
    have HI := Lib.hid hI
    clear hN e1 e2 e3 hI
    go_enter Tryz.func11, Tryz.ntmps11
    go_wp2_with fail
    refine C1.out.mono ?_
    rintro e w1 ⟨rfl, hb1⟩
    have c0 : w1.cell? ⟨g, 0, none⟩ = some (.slice A T.dn.length cap) := cell_of_row w1 g 0 _ _ _ (HV.out.keep fun k hk => hb1.block k (HV.out.kind k hk).2).cell
    have C2 := lookN_any T.dn L A cap w1 (HRD.out.below hb1) HG.out.srn (fun e he => (HG.out.ok e he).1) HC.out (by omega)
    rw [HI.out] at C2
    have HC2 := Lib.hid C2
    clear C2 C1
    generalize atN T.dn L = at0 at *
    go_wp2_with fail
    refine HC2.out.mono ?_
    rintro e w2 ⟨rfl, hb2⟩
    go_wp2_with fail
    go_ret2
    exact ⟨rfl, TPost.same HT.out (hb1.trans (hb2.mono hb1.size))⟩
  | false =>
  have HI := Lib.hid hI
  have HW2 : Hid (∀ w1, Below w.heap.size w w1 → Calls Tryz.prog 33 #[.slice A T.dn.length cap, .string (str L), .func (.func 34) #[] #[]] w1 fun e w' => e = .returned (.tuple #[.int .i64 ((atN T.dn L : Nat) : Int), .bool false]) ∧ Below w1.heap.size w1 w') := fun w1 hb1 => by
    have C2 := lookN_any T.dn L A cap w1 (HRD.out.below hb1) HG.out.srn (fun e he => (HG.out.ok e he).1) HC.out (by omega)
    rw [HI.out] at C2
    exact C2
  have HLF : Hid (∀ w1, Below w.heap.size w w1 → Calls Tryz.prog 35 #[.pointer (some ⟨g, 0, none⟩)] w1 fun e w' => e = .returned (.int .i64 ((1048576 - T.nx : Nat) : Int)) ∧ w' = w1) := fun w1 hb1 => left_any g T _ w1 B (HT.out.below hb1) hnx
  have HCE : Hid (∀ w1, Below w.heap.size w w1 → w1.heap[g]? = some (.cells #[.slice A T.dn.length cap, b, s, .int .i64 ((T.nx : Nat) : Int)] 65 (0, 0))) := fun w1 hb1 => (HV.out.keep fun k hk => hb1.block k (HV.out.kind k hk).2).cell
  by_cases hfull : T.dn.length = 4096 ∨ 1048576 - T.nx = 0
  · have e1 : declC T L = 40 := by simp only [declC, hN, hI]; rw [if_neg (by decide), if_neg (by decide), if_pos hfull]
    have e2 : declV T L = 0 := by simp [declV, e1]
    have e3 : declT T L = T := by simp [declT, e1]
    rw [e1, e2, e3]
    clear hN e1 e2 e3 hI
    generalize 1048576 - T.nx = f at *
    generalize T.dn.length = n at *
    generalize atN T.dn L = at0 at *
    by_cases h4 : n = 4096
    · have h4i : (n : Int) = 4096 := by omega
      clear hfull h4
      go_enter Tryz.func11, Tryz.ntmps11
      go_wp2_with fail
      refine C1.out.mono ?_
      rintro e w1 ⟨rfl, hb1⟩
      have c0 := cell_of_row w1 g 0 _ _ _ (HCE.out w1 hb1)
      simp only [List.getElem?_toArray, List.getElem?_cons_zero] at c0
      have HB1 := Lib.hid hb1
      clear hb1
      go_wp2_with fail
      refine (HW2.out _ HB1.out).mono ?_
      rintro e w2 ⟨rfl, hb2⟩
      have HB2 := Lib.hid (HB1.out.trans (hb2.mono HB1.out.size))
      have d0 := cell_of_row w2 g 0 _ _ _ (HCE.out w2 HB2.out)
      simp only [List.getElem?_toArray, List.getElem?_cons_zero] at d0
      clear c0 hb2
      go_wp2_with fail
      go_ret2
      exact ⟨rfl, TPost.same HT.out HB2.out⟩
    · have h4i : ¬ (n : Int) = 4096 := by omega
      have hf0 : f = 0 := by
        rcases hfull with h | h
        · exact absurd h h4
        · exact h
      subst hf0
      clear hfull
      go_enter Tryz.func11, Tryz.ntmps11
      go_wp2_with fail
      refine C1.out.mono ?_
      rintro e w1 ⟨rfl, hb1⟩
      have c0 := cell_of_row w1 g 0 _ _ _ (HCE.out w1 hb1)
      simp only [List.getElem?_toArray, List.getElem?_cons_zero] at c0
      have HB1 := Lib.hid hb1
      clear hb1
      go_wp2_with fail
      refine (HW2.out _ HB1.out).mono ?_
      rintro e w2 ⟨rfl, hb2⟩
      have HB2 := Lib.hid (HB1.out.trans (hb2.mono HB1.out.size))
      have d0 := cell_of_row w2 g 0 _ _ _ (HCE.out w2 HB2.out)
      simp only [List.getElem?_toArray, List.getElem?_cons_zero] at d0
      clear c0 hb2
      go_wp2_with fail
      refine (HLF.out _ HB2.out).mono ?_
      rintro e w3 ⟨rfl, rfl⟩
      go_wp2_with fail
      go_ret2
      exact ⟨rfl, TPost.same HT.out HB2.out⟩
  · have e1 : declC T L = 0 := by simp only [declC, hN, hI]; rw [if_neg (by decide), if_neg (by decide), if_neg hfull]
    have e2 : declV T L = T.nx := by simp [declV, e1]
    have e3 : declT T L = { dn := insN T.dn (L, T.nx), dv := T.dv ++ [(L, T.nx)], sc := T.sc, nx := T.nx + 1 } := by simp [declT, e1]
    rw [e1, e2, e3]
    have hlen : L.length ≤ 281474976710656 := by have := isN_len hN; omega
    have h4 : ¬ T.dn.length = 4096 := fun e => hfull (.inl e)
    have hf0 : ¬ 1048576 - T.nx = 0 := fun e => hfull (.inr e)
    have HAT : Hid (atN T.dn L ≤ T.dn.length) := atN_le _ _
    have HIN : Hid (insN T.dn (L, T.nx) = T.dn.take (atN T.dn L) ++ (L, T.nx) :: T.dn.drop (atN T.dn L)) := rfl
    clear hN e1 e2 e3 hI hfull
    generalize 1048576 - T.nx = f at *
    generalize hn : T.dn.length = n at *
    generalize atN T.dn L = at0 at *
    have HNN := Lib.hid hn
    clear hn
    have h4i : ¬ (n : Int) = 4096 := by omega
    have hf0i : ¬ (f : Int) = 0 := by omega
    have h4b : ((n : Int) == 4096) = false := by simp; omega
    have hf0b : ((f : Int) == 0) = false := by simp; omega
    go_enter Tryz.func11, Tryz.ntmps11
    go_wp2_with fail
    refine C1.out.mono ?_
    rintro e w1 ⟨rfl, hb1⟩
    have c0 := cell_of_row w1 g 0 _ _ _ (HCE.out w1 hb1)
    simp only [List.getElem?_toArray, List.getElem?_cons_zero] at c0
    have HB1 := Lib.hid hb1
    clear hb1
    go_wp2_with fail
    refine (HW2.out _ HB1.out).mono ?_
    rintro e w2 ⟨rfl, hb2⟩
    have HB2 := Lib.hid (HB1.out.trans (hb2.mono HB1.out.size))
    have d0 := cell_of_row w2 g 0 _ _ _ (HCE.out w2 HB2.out)
    have d3 := cell_of_row w2 g 3 _ _ _ (HCE.out w2 HB2.out)
    simp only [List.getElem?_toArray, List.getElem?_cons_zero, List.getElem?_cons_succ] at d0 d3
    have C4 := given_any L ((T.nx : Nat) : Int) w2 hlen
    have HC4 := Lib.hid C4
    clear c0 hb2 C4
    go_wp2_with fail
    refine (HLF.out _ HB2.out).mono ?_
    rintro e w3 ⟨rfl, rfl⟩
    go_wp2_with fail
    refine HC4.out.mono ?_
    rintro e w4 ⟨rfl, hb4⟩
    have HB4 := Lib.hid (HB2.out.trans (hb4.mono HB2.out.size))
    have HV4 : Hid (TabV w4 B g T (.slice A n cap) b s xs k0) := HV.out.keep fun k hk => HB4.out.block k (HV.out.kind k hk).2
    clear d0 d3 hb4 HC4 HLF HW2 C1
    go_wp2_with fail
    obtain ⟨V, hVe⟩ : ∃ V, w4.alloc (.cells #[.string (str L), .int .i64 ((T.nx : Nat) : Int)] 68) = V := ⟨_, rfl⟩
    obtain ⟨E, hEe⟩ : ∃ E, w4.heap.size = E := ⟨_, rfl⟩
    have hEV : V.heap[E]? = some (.cells (ecell (L, T.nx)).toArray 68 (0, 0)) := by rw [← hVe, ← hEe]; exact lone_new w4 _ _
    have HVV : Hid (TabV V B g T (.slice A n cap) b s xs k0) := HV4.out.alloc (congrArg World.heap hVe.symm)
    have HBV : Hid (Below w.heap.size w V) := hVe ▸ HB4.out.alloc HB4.out.size _
    have hEg : ∀ k ∈ tks g (.slice A n cap) b s k0, k ≠ E := fun k hk e => by
      have := (HV4.out.kind k hk).2
      omega
    rw [hVe, hEe]
    have v0 := cell_of_row V g 0 _ _ _ HVV.out.cell
    have e0 := cell_of_row V E 0 _ _ _ hEV
    have e1 := cell_of_row V E 1 _ _ _ hEV
    simp only [List.getElem?_toArray, List.getElem?_cons_zero, List.getElem?_cons_succ, ecell] at v0 e0 e1
    have hgV : g < V.heap.size := kind_lt2 HVV.out.cell
    have hEV2 : E < V.heap.size := kind_lt2 hEV
    have HEV := Lib.hid hEV
    have HEG := Lib.hid hEg
    have HINS : Hid (∀ W : World, W = (V.alloc (.cells #[.string (str L), .int .i64 ((T.nx : Nat) : Int)] 68)).drew → Calls Tryz.prog 37 #[.slice A n cap, .int .i64 (at0 : Int), .slice (some ⟨V.heap.size, 0, none⟩) 1 1] W (InsQ V B g E #[.slice A n cap, b, s, .int .i64 ((T.nx : Nat) : Int)] #[.string (str L), .int .i64 ((T.nx : Nat) : Int)] (.slice A n cap) (insN T.dn (L, T.nx)))) := fun W hW => by
      rw [HIN.out]
      have hq := HVV.out.alloc (show W.heap = (V.alloc _).heap from by rw [hW]; rfl)
      have hB2 := HBV.out.size
      have hs : V.heap.size ≤ W.heap.size := by rw [hW]; exact Nat.le_of_lt (by simp)
      have hin : E ∉ nblk (.slice A n cap) := fun hm => hEg E (by simp [tks, hm]) rfl
      refine (insert_any (.slice A n cap) T.dn at0 (L, T.nx) V.heap.size 1 W B (by have := HAT.out; have := HNN.out; omega) (by omega) hq.dn (by have := HNN.out; omega) (by rw [hW]; exact lone_new V _ _) fun hm => ?_).mono fun e w6 h => insQ hW h HVV.out.cell hEV (tks_keepA HVV.out).1 hin
      obtain ⟨c, hc⟩ := (nown_kind HVV.out.dn _ hm).2
      have := kind_lt2 hc
      omega
    clear hVe hEe hEV hEg
    have HBS : Hid (Nb (fun k => k ∈ tks g (.slice A n cap) b s k0) w V) := Nb.of HBV.out
    have hm0 : (0 : Nat) = 0 := rfl
    go_cut [52] from 43 to 55 (fun s52 wx => CutA w B g E { T with dn := insN T.dn (L, T.nx) } (L, T.nx) (tks g (.slice A n cap) b s k0) wx)
    case first =>
      go_region_law (go_simp; refine (HINS.out _ rfl).mono ?_; rintro e w6 ⟨A6, c6, rfl, hc6, he6, hown, hnb, hkk⟩
                     have z0 := cell_of_row w6 g 0 _ _ _ hc6
                     simp only [List.getElem?_toArray, List.getElem?_cons_zero] at z0
                     have zf : w6.frozen? ⟨g, 0, none⟩ = false := frozen_of hc6 0
                     have HC6 := Lib.hid hc6
                     have HE6 := Lib.hid he6
                     have HO6 := Lib.hid hown
                     have HN6 := Lib.hid hnb
                     have HK6 := Lib.hid hkk
                     clear hown hnb hkk hc6 he6)
      all_goals
        have HP : Hid (CutA w B g E { T with dn := insN T.dn (L, T.nx) } (L, T.nx) (tks g (.slice A n cap) b s k0) (w6.setCell ⟨g, 0, none⟩ (.slice A6 (insN T.dn (L, T.nx)).length c6))) :=
          cutA HVV.out (fun _ h => .inl h) HBS.out HN6.out HO6.out HK6.out HEG.out hEV2 HE6.out
        clear z0 zf v0 e0 e1 HINS HC6 HE6 HO6 HN6
        go_wp2_with fail
        go_meet
        exact HP.out
    case rest =>
      obtain ⟨ks7, ⟨a7, b7, s7, xs7, k7, hV7, rfl⟩, hs7, hw7, hEk, hE7⟩ := hcut
      have hEg : E ≠ g := fun e => HEG.out g (by simp [tks]) e.symm
      clear HINS v0 e0 e1 HVV HBV HEV HEG HBS HV4 HB4 HB2 HB1 HCE HV HIN HAT HNN hgV hEV2 hm0 HI HC HRD
      obtain ⟨Bb, cb, rfl, -⟩ := hV7.dv.form
      have HV7 := Lib.hid hV7
      have HEK := Lib.hid hEk
      have HS7 := Lib.hid hs7
      have HW7 := Lib.hid hw7
      have HE7 : Hid (wc.heap[E]? = some (.cells #[.string (str L), .int .i64 ((T.nx : Nat) : Int)] 68 (0, 0))) := hE7
      have y1 := cell_of_row wc g 1 _ _ _ hV7.cell
      have e0 := cell_of_row wc E 0 _ _ _ HE7.out
      have e1 := cell_of_row wc E 1 _ _ _ HE7.out
      simp only [List.getElem?_toArray, List.getElem?_cons_zero, List.getElem?_cons_succ] at y1 e0 e1
      have hgR : g < wc.heap.size := kind_lt2 hV7.cell
      have hER : E < wc.heap.size := kind_lt2 HE7.out
      clear hV7 hs7 hw7 hE7 hEk
      obtain ⟨i0, hi, hz0, hz1, hz2⟩ := info_parts infoEnt
      have hVZ : TabV (wc.alloc (.cells #[.string (str L), .int .i64 ((T.nx : Nat) : Int)] 68)).drew B g _ _ _ s7 xs7 k7 := HV7.out.alloc rfl
      have hownb := hVZ.dv
      have hnews : ∀ j u, (ecell (L, T.nx))[j]? = some u → (wc.alloc (.cells #[.string (str L), .int .i64 ((T.nx : Nat) : Int)] 68)).drew.cell? ((⟨wc.heap.size, 0, none⟩ : Addr).add j) = some u := World.news_of_block (cs := (ecell (L, T.nx)).toArray) (show (wc.alloc _).heap[wc.heap.size]? = _ from lone_new wc _ _)
      have hone : ∀ u ∈ ecell (L, T.nx), u.oneCell' = true := fun u hu => by simp [ecell] at hu; rcases hu with rfl | rfl <;> rfl
      have hl63 : T.dv.length + 1 ≤ maxLen := by have := HG.out.vl; have := HG.out.dl; unfold maxLen; omega
      have hlby : (T.dv.length + 1) * 24 ≤ 140737488355328 := by have := HG.out.vl; have := HG.out.dl; omega
      have hBZ : B ≤ (wc.alloc (.cells #[.string (str L), .int .i64 ((T.nx : Nat) : Int)] 68)).drew.heap.size := by
        have h2 := HW7.out.size
        show B ≤ (wc.alloc _).heap.size
        simp
        omega
      clear hVZ
      go_wp2_with fail
      go_cut [64] from 56 to 67 (fun s64 wx => CutP w B g E { dn := insN T.dn (L, T.nx), dv := T.dv ++ [(L, T.nx)], sc := T.sc, nx := T.nx } (L, T.nx) (tks g (.slice A n cap) b s k0) wx)
      case first =>
        go_region_law (refine step_append_lies _ rfl (.tmp 61) (.tmp 63) 60 rfl B 68 i0 _ 2 24 Tryz.underlying60 hi hz0 hz1 hz2 rfl (by decide) _ _ _ rfl hownb ⟨wc.heap.size, 0, none⟩ 1 1 (ecell (L, T.nx)) rfl rfl hnews hone (by decide) hl63 hlby hBZ _ rfl ?_
                       intro g8 c8 w8 hown8 hgrow8 hat8 hlt8
                       have hnb8 := grown_nb rfl hgrow8
                       have hc8 := (hnb8.block g hgR (tks_keepA HV7.out).2.1).trans HV7.out.cell
                       have hd8 := (hnb8.block E hER (fun h => HEK.out (by simp only [tks, List.mem_cons, List.mem_append]; exact .inr (.inl (.inl (.inr h)))))).trans HE7.out
                       have z1 := cell_of_row w8 g 1 _ _ _ hc8
                       simp only [List.getElem?_toArray, List.getElem?_cons_zero, List.getElem?_cons_succ] at z1
                       have zf : w8.frozen? ⟨g, 1, none⟩ = false := frozen_of hc8 1
                       have HO8 := Lib.hid hown8
                       have HN8 := Lib.hid hnb8
                       have HA8 := Lib.hid hat8
                       have HD8 := Lib.hid hd8
                       clear hown8 hgrow8 hat8 hlt8 hnb8 hc8 hd8)
        all_goals
          have HP : Hid (CutP w B g E { dn := insN T.dn (L, T.nx), dv := T.dv ++ [(L, T.nx)], sc := T.sc, nx := T.nx } (L, T.nx) (tks g (.slice A n cap) b s k0) (w8.setCell ⟨g, 1, none⟩ (.slice (some ⟨g8, 0, none⟩) (T.dv.length + 1) c8))) :=
            ⟨TPost.setB HV7.out HS7.out HW7.out HN8.out (own_more HO8.out) (fun k hk => nblk_at (HA8.out.imp id fun h => by rw [h]; show wc.heap.size ≤ (wc.alloc _).heap.size; simp) hk), (Below.heap_setCell _ _ _ _ hEg).trans HD8.out⟩
          clear z1 zf y1 e0 e1 hownb hnews hone HO8 HN8 HA8 HD8
          go_wp2_with fail
          go_meet
          exact HP.out
      case rest =>
        obtain ⟨hP, hE8⟩ := hcut
        have HPP := Lib.hid (hP.setN (T.nx + 1))
        obtain ⟨ks8, ⟨a8, b8, s8, xs8, k8, hV8, rfl⟩, -, -⟩ := hP
        have hE9 : wc.heap[E]? = some (.cells #[.string (str L), .int .i64 ((T.nx : Nat) : Int)] 68 (0, 0)) := hE8
        have z3 : wc.cell? ⟨g, 3, none⟩ = some (.int .i64 ((T.nx : Nat) : Int)) := cell_of_row _ g 3 _ _ _ hV8.cell
        have zf3 : wc.frozen? ⟨g, 3, none⟩ = false := frozen_of hV8.cell 3
        have ze : (wc.setCell ⟨g, 3, none⟩ (.int .i64 ((T.nx : Int) + 1))).cell? ⟨E, 1, none⟩ = some (.int .i64 ((T.nx : Nat) : Int)) := cell_of_row _ E 1 _ _ _ ((Below.heap_setCell _ _ _ _ hEg).trans hE9)
        have hw1 : ((T.nx + 1 : Nat) : Int) = (T.nx : Int) + 1 := by omega
        rw [hw1] at HPP
        clear hV8 hE8 hE9 y1 e0 e1 hownb hnews hone hBZ
        go_wp2_with fail
        go_ret2
        exact ⟨rfl, HPP.out⟩
end Go.Proofs.YtcjljfjgekiocaaGreatDoor

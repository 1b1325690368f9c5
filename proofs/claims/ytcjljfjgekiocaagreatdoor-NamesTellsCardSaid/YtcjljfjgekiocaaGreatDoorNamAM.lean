/- Contract: Declared of a table. -/
import Derived.Test.YtcjljfjgekiocaaGreatDoorNamAH
namespace Go.Proofs.YtcjljfjgekiocaaGreatDoor
open Go.RowKit Go.Shelf Go.Lib

set_option linter.unusedVariables false
set_option linter.unusedSimpArgs false

theorem infoStrN : (Tryz.prog.info? 9).map (fun i => (i.zero, i.size, i.bytes)) = some (some (.string ⟨#[]⟩), 1, 16) := by kernel_rfl
theorem infoIntN2 : (Tryz.prog.info? 3).map (fun i => (i.zero, i.size, i.bytes)) = some (some (.int .i64 0), 1, 8) := by kernel_rfl
/-- the names of entries, as cells -/
def scs (l : List Ent) : List Value := l.map fun e => .string (str e.1)
theorem scs_take {l : List Ent} {j : Nat} {e : Ent} (h : l[j]? = some e) : scs (l.take (j + 1)) = scs (l.take j) ++ [.string (str e.1)] := by
  unfold scs
  rw [List.take_add_one, h, List.map_append]
  rfl
theorem ics_take {l : List Ent} {j : Nat} {e : Ent} (h : l[j]? = some e) : ics (l.take (j + 1)) = ics (l.take j) ++ [.int .i64 ((e.2 : Nat) : Int)] := by
  unfold ics
  rw [List.take_add_one, h, List.map_append]
  rfl
theorem lone_at {W : World} {n : Nat} (o : Array Value) (t : TypeId) (h : n = W.heap.size) : (W.alloc (.cells o t)).heap[n]? = some (.cells o t (0, 0)) := by
  subst h
  exact lone_new W o t
/-- two rows of one call that lie apart -/
def Two2 (w W : World) (v u : Value) (n : Nat) (xs ys : List Value) : Prop := W.ownsRow w.heap.size 9 1 v n xs ∧ W.ownsRow w.heap.size 3 1 u n ys ∧ (nblk v ++ nblk u).Nodup ∧ Below w.heap.size w W
def DclP (w : World) (T : Tb) (e : Ending) (w' : World) : Prop := ∃ v u, e = .returned (.tuple #[v, u]) ∧ Two2 w w' v u T.dn.length (scs T.dn) (ics T.dn)
theorem own_ne {w : World} {B : Nat} {e : TypeId} {size : Nat} {v : Value} {n : Nat} {xs : List Value} (h : w.ownsRow B e size v n xs) {k : Nat} (hk : w.heap.size ≤ k) : some k ≠ v.ownBlock := fun q => by
  obtain ⟨-, c, hc⟩ := nown_kind h k (by rw [nblk, ← q]; simp)
  have := kind_lt2 hc
  omega
/-- an append has been done, in some world behind wr -/
def App1 (wr : World) (own : Option Nat) (g : Nat) (w8 : World) : Prop := ∃ Z : World, Below wr.heap.size wr Z ∧ Z.grownBy w8 own ∧ (own = some g ∨ g = Z.heap.size) ∧ g < w8.heap.size
/-- another row is as it was -/
theorem App1.far {wr w8 : World} {B g : Nat} {e e' : TypeId} {size size' n n' : Nat} {v u : Value} {xs ys : List Value} (h : App1 wr v.ownBlock g w8) (hv : wr.ownsRow B e size v n xs) (hu : wr.ownsRow B e' size' u n' ys) (hd : ∀ k ∈ nblk u, k ∉ nblk v) : w8.ownsRow B e' size' u n' ys := by
  obtain ⟨Z, h1, h2, -, -⟩ := h
  refine nown_block (nown_below hu h1) fun k hk => h2.block k ?_ fun q => hd k hk (by rw [nblk, ← q]; simp)
  obtain ⟨-, c, hc⟩ := nown_kind hu k hk
  exact Nat.lt_of_lt_of_le (kind_lt2 hc) h1.size
theorem App1.below {wr w8 : World} {B g : Nat} {e : TypeId} {size n : Nat} {v : Value} {xs : List Value} (h : App1 wr v.ownBlock g w8) (hv : wr.ownsRow B e size v n xs) (hB : B ≤ wr.heap.size) : Below B wr w8 := by
  obtain ⟨Z, h1, h2, -, -⟩ := h
  have hs := h1.size
  refine (h1.mono hB).trans ⟨h2.os, h2.tape, h2.output, h2.size, fun k hk => h2.block k (by omega) fun q => ?_⟩
  obtain ⟨hb, -⟩ := nown_kind hv k (by rw [nblk, ← q]; simp)
  omega
theorem App1.size {wr w8 : World} {own : Option Nat} {g : Nat} (h : App1 wr own g w8) : wr.heap.size ≤ w8.heap.size := by
  obtain ⟨Z, h1, h2, -, -⟩ := h
  exact Nat.le_trans h1.size h2.size
theorem App1.blk {wr w8 : World} {B g : Nat} {e : TypeId} {size n : Nat} {v : Value} {xs : List Value} (h : App1 wr v.ownBlock g w8) (hv : wr.ownsRow B e size v n xs) {k : Nat} (hk : k < wr.heap.size) (hd : k ∉ nblk v) : w8.heap[k]? = wr.heap[k]? := by
  obtain ⟨Z, h1, h2, -, -⟩ := h
  exact (h2.block k (Nat.lt_of_lt_of_le hk h1.size) fun q => hd (by rw [nblk, ← q]; simp)).trans (h1.block k hk)
/-- both appends -/
theorem two_fin {w wr w8 w9 : World} {B g8 g9 j c8 c9 : Nat} {e e' : TypeId} {v u : Value} {xs ys n1 n2 : List Value} (hB : B ≤ wr.heap.size) (hv : wr.ownsRow B e 1 v j xs) (hu : wr.ownsRow B e' 1 u j ys) (hd : (nblk v ++ nblk u).Nodup) (hb : Below B w wr)
    (h1 : App1 wr v.ownBlock g8 w8) (o1 : w8.ownsRow B e 1 (.slice (some ⟨g8, 0, none⟩) (j + 1) c8) (j + 1) (xs ++ n1)) (h2 : App1 w8 u.ownBlock g9 w9) (o2 : w9.ownsRow B e' 1 (.slice (some ⟨g9, 0, none⟩) (j + 1) c9) (j + 1) (ys ++ n2)) :
    w9.ownsRow B e 1 (.slice (some ⟨g8, 0, none⟩) (j + 1) c8) (j + 1) (xs ++ n1) ∧ g8 ≠ g9 ∧ Below B w w9 := by
  have hd2 : ∀ k ∈ nblk u, k ∉ nblk v := fun k hk hk2 => (List.nodup_append.1 hd).2.2 k hk2 k hk rfl
  have hu8 := h1.far hv hu hd2
  have hne : g8 ≠ g9 := by
    obtain ⟨Z, q1, q2, q3, q4⟩ := h1
    obtain ⟨Z', r1, r2, r3, r4⟩ := h2
    have s1 := q1.size
    have s2 := r1.size
    intro eg
    subst eg
    rcases r3 with r3 | r3
    · obtain ⟨-, c, hc⟩ := nown_kind hu g8 (by rw [nblk, r3]; simp)
      have hlt := kind_lt2 hc
      rcases q3 with q3 | q3
      · exact hd2 g8 (by rw [nblk, r3]; simp) (by rw [nblk, q3]; simp)
      · omega
    · omega
  refine ⟨nown_block o1 fun k hk => ?_, hne, hb.trans ((h1.below hv hB).trans (h2.below hu8 (Nat.le_trans hB h1.size)))⟩
  have hk : k = g8 := by simpa [nblk, Value.ownBlock] using hk
  subst hk
  obtain ⟨-, c, hc⟩ := nown_kind o1 k (by simp [nblk, Value.ownBlock])
  have hlt := kind_lt2 hc
  obtain ⟨Z', r1, r2, r3, r4⟩ := h2
  refine (r2.block k (Nat.lt_of_lt_of_le hlt r1.size) fun q => ?_).trans (r1.block k hlt)
  -- the second row's old block is another one
  have hku : k ∈ nblk u := by rw [nblk, ← q]; simp
  obtain ⟨-, c', hc'⟩ := nown_kind hu k hku
  have hlt' := kind_lt2 hc'
  obtain ⟨Z, q1, q2, q3, q4⟩ := h1
  have s1 := q1.size
  rcases q3 with q3 | q3
  · exact hd2 k hku (by rw [nblk, q3]; simp)
  · omega
set_option maxRecDepth 100000 in
set_option maxHeartbeats 8000000 in
theorem declared_any (g : Nat) (T : Tb) (ks : List Nat) (w : World) (B : Nat) (h : TabAt w B g T ks) (hG : GoodT T) : Calls Tryz.prog 17 #[.pointer (some ⟨g, 0, none⟩)] w (DclP w T) := by
  obtain ⟨a, b, s, xs, k0, h, rfl⟩ := h
  obtain ⟨A, cap, rfl, hrd⟩ := h.dn.form
  have HRD := Lib.hid hrd
  have hdl := hG.dl
  obtain ⟨n, hn⟩ : ∃ n, n = T.dn.length := ⟨_, rfl⟩
  have HN := Lib.hid hn
  rw [← hn] at hdl
  have hcell := h.cell
  rw [← hn] at hcell
  have x0 := cell_of_row w g 0 _ _ _ hcell
  simp only [List.getElem?_toArray, List.getElem?_cons_zero, List.getElem?_cons_succ] at x0
  obtain ⟨i2, hi2, hz20, hz21, hz22⟩ := info_parts infoStrN
  obtain ⟨i3, hi3, hz30, hz31, hz32⟩ := info_parts infoIntN2
  clear h hG hrd hcell hn
  go_enter Tryz.func17, Tryz.ntmps17
  go_wp2_with fail
  go_loopw [2, 3, 14] (fun v u i wr => ∃ j : Nat, i = .int .i64 (j : Int) ∧ j ≤ n ∧ Two2 w wr v u j (scs (T.dn.take j)) (ics (T.dn.take j))) (fun _ _ i _ => n - (intOf i).toNat)
  case atStart => exact ⟨0, rfl, Nat.zero_le _, by rw [List.take_zero]; exact World.ownsRow_nil _ _ _ _, by rw [List.take_zero]; exact World.ownsRow_nil _ _ _ _, by simp [nblk, Value.ownBlock], Below.refl _ _⟩
  case round =>
    obtain ⟨j, rfl, hj, hv, hu, hd, hb⟩ := hrel
    have HV := Lib.hid hv
    have HU := Lib.hid hu
    have HD := Lib.hid hd
    have HB := Lib.hid hb
    clear hv hu hd hb x0
    by_cases hlt : j < n
    · have hltI : (j : Int) < (n : Int) := by omega
      obtain ⟨e, he⟩ : ∃ e, T.dn[j]? = some e := ⟨_, List.getElem?_eq_getElem (by rw [← HN.out]; exact hlt)⟩
      obtain ⟨bb, o, rfl, hq, hcl⟩ := HRD.out.at he
      have y0 := (HB.out.cell (p := ⟨bb, o + j * 2, none⟩) hq).trans (hcl j e he).1
      have y1 := (HB.out.cell (p := ⟨bb, o + j * 2 + 1, none⟩) hq).trans (hcl j e he).2
      have HE := Lib.hid he
      obtain ⟨V, hV⟩ : ∃ V, wr.alloc (.cells #[.string (str e.1), .int .i64 ((e.2 : Nat) : Int)] 68) = V := ⟨_, rfl⟩
      have hbV : Below wr.heap.size wr V := hV ▸ (Below.refl _ wr).alloc (Nat.le_refl _) _
      have hxV : V.heap[wr.heap.size]? = some (.cells #[.string (str e.1), .int .i64 ((e.2 : Nat) : Int)] 68 (0, 0)) := hV ▸ lone_new wr _ _
      have v0 : V.cell? ⟨wr.heap.size, 0, none⟩ = some (.string (str e.1)) := by rw [cell_of hxV]; rfl
      have v1 : V.cell? ⟨wr.heap.size, 1, none⟩ = some (.int .i64 ((e.2 : Nat) : Int)) := by rw [cell_of hxV]; rfl
      obtain ⟨A2, c2, rfl⟩ := nslice_form HV.out
      obtain ⟨A3, c3, rfl⟩ := nslice_form HU.out
      have hlV : wr.heap.size < V.heap.size := kind_lt2 hxV
      have HVV := Lib.hid (nown_below HV.out hbV)
      have HUV := Lib.hid (nown_below HU.out hbV)
      have HBV := Lib.hid (HB.out.trans (hbV.mono HB.out.size))
      have HEV := Lib.hid hxV
      have HD1 := Lib.hid (show ∀ k ∈ nblk (Value.slice A2 j c2), k ∉ nblk (Value.slice A3 j c3) from fun k h1 h2 => (List.nodup_append.1 HD.out).2.2 k h1 k h2 rfl)
      have HD2 := Lib.hid (show ∀ k ∈ nblk (Value.slice A3 j c3), k ∉ nblk (Value.slice A2 j c2) from fun k h1 h2 => (List.nodup_append.1 HD.out).2.2 k h2 k h1 rfl)
      have HEL := Lib.hid hlV
      have HEPN := Lib.hid (show wr.heap.size ∉ nblk (Value.slice A2 j c2) from fun q => by
        obtain ⟨-, c, hc⟩ := nown_kind HV.out _ q
        exact Nat.lt_irrefl _ (kind_lt2 hc))
      have HEQN := Lib.hid (show wr.heap.size ∉ nblk (Value.slice A3 j c3) from fun q => by
        obtain ⟨-, c, hc⟩ := nown_kind HU.out _ q
        exact Nat.lt_irrefl _ (kind_lt2 hc))
      have HBQ : Hid (w.heap.size < V.heap.size) := Nat.lt_of_le_of_lt HB.out.size hlV
      have HDX : Hid ((nblk (Value.slice A3 j c3) ++ nblk (Value.slice A2 j c2)).Nodup) := (List.perm_append_comm.nodup_iff).1 HD.out
      have HBS := Lib.hid (Nat.le_trans HB.out.size (Nat.le_of_lt hlV))
      have hl63 : j + 1 ≤ maxLen := by unfold maxLen; omega
      have hlb16 : (j + 1) * 16 ≤ 140737488355328 := by omega
      have hlb8 : (j + 1) * 8 ≤ 140737488355328 := by omega
      clear hcl he hbV hxV
      go_wp2_with fail
      -- REGION
      go_region_law (first
        | (refine step_append_lies _ rfl (.tmp 18) (.tmp 21) 24 rfl w.heap.size 9 i2 _ 1 16 Tryz.underlying24 hi2 hz20 hz21 hz22 rfl (by decide) _ _ _ rfl (by first | exact HRP.out _ (by first | exact Below.refl wQ.heap.size wQ | exact (Below.refl wQ.heap.size wQ).alloc (Nat.le_refl _) _) | exact nown_below HVV.out (by first | exact ((Below.refl V.heap.size V).drew.alloc (Nat.le_refl _) _) | exact (((Below.refl V.heap.size V).drew.alloc (Nat.le_refl _) _).alloc (by simp) _))) _ 1 1 [.string (str e.1)] rfl rfl (by first | exact World.news_of_block (cs := #[.string (str e.1)]) (lone_at _ _ (by simp)) | exact World.news_of_block (cs := #[.string (str e.1)]) ((Below.heap_alloc _ _ _ (by simp)).trans (lone_at _ _ (by simp))) | exact World.news_of_block (cs := #[.string (str e.1)]) ((HPQ.out _ (by first | (simp; done) | (simp; omega)) (by first | (simp; done) | (simp; omega))).trans (lone_at _ _ (by simp))) | exact World.news_of_block (cs := #[.string (str e.1)]) ((HPQ.out _ (by first | (simp; done) | (simp; omega)) (by first | (simp; done) | (simp; omega))).trans ((Below.heap_alloc _ _ _ (by simp)).trans (lone_at _ _ (by simp))))) (by intro u hu; simp at hu; subst hu; rfl) (by decide) hl63 hlb16 (by have := HBS.out; simp; omega) _ rfl ?_
           intro gP cP wP hownP hgrowP hatP hltP
           first
             | have HAP := Lib.hid (show App1 wQ (Value.slice A2 j c2).ownBlock gP wP from ⟨_, (by first | exact Below.refl wQ.heap.size wQ | exact (Below.refl wQ.heap.size wQ).alloc (Nat.le_refl _) _), hgrowP, hatP, hltP⟩)
             | have HAP := Lib.hid (show App1 V (Value.slice A2 j c2).ownBlock gP wP from ⟨_, (by first | exact ((Below.refl V.heap.size V).drew.alloc (Nat.le_refl _) _) | exact (((Below.refl V.heap.size V).drew.alloc (Nat.le_refl _) _).alloc (by simp) _)), hgrowP, hatP, hltP⟩)
               have HRQ := Lib.hid (fun W' (hb : Below wP.heap.size wP W') => nown_below (HAP.out.far HVV.out HUV.out HD2.out) hb)
               have HPP := Lib.hid (fun k (h1 : V.heap.size ≤ k) h2 => hgrowP.block k h2 (own_ne HVV.out h1))
               have hEP := (HAP.out.blk HVV.out HEL.out HEPN.out).trans HEV.out
               have z0P := cell_of_row wP wr.heap.size 0 _ _ _ hEP
               have z1P := cell_of_row wP wr.heap.size 1 _ _ _ hEP
               simp only [List.getElem?_toArray, List.getElem?_cons_zero, List.getElem?_cons_succ] at z0P z1P
               have hlP : wr.heap.size < wP.heap.size := Nat.lt_of_lt_of_le HEL.out HAP.out.size
               have hSP : w.heap.size ≤ wP.heap.size := Nat.le_trans HBS.out HAP.out.size
               clear hEP
           have HOP := Lib.hid hownP
           clear hownP hgrowP hatP hltP)
        | (refine step_append_lies _ rfl (.tmp 23) (.tmp 26) 30 rfl w.heap.size 3 i3 _ 1 8 Tryz.underlying30 hi3 hz30 hz31 hz32 rfl (by decide) _ _ _ rfl (by first | exact HRQ.out _ (by first | exact Below.refl wP.heap.size wP | exact (Below.refl wP.heap.size wP).alloc (Nat.le_refl _) _) | exact nown_below HUV.out (by first | exact ((Below.refl V.heap.size V).drew.alloc (Nat.le_refl _) _) | exact (((Below.refl V.heap.size V).drew.alloc (Nat.le_refl _) _).alloc (by simp) _))) _ 1 1 [.int .i64 ((e.2 : Nat) : Int)] rfl rfl (by first | exact World.news_of_block (cs := #[.int .i64 ((e.2 : Nat) : Int)]) (lone_at _ _ (by simp)) | exact World.news_of_block (cs := #[.int .i64 ((e.2 : Nat) : Int)]) ((Below.heap_alloc _ _ _ (by simp)).trans (lone_at _ _ (by simp))) | exact World.news_of_block (cs := #[.int .i64 ((e.2 : Nat) : Int)]) ((HPP.out _ (by first | (simp; done) | (simp; omega)) (by first | (simp; done) | (simp; omega))).trans (lone_at _ _ (by simp))) | exact World.news_of_block (cs := #[.int .i64 ((e.2 : Nat) : Int)]) ((HPP.out _ (by first | (simp; done) | (simp; omega)) (by first | (simp; done) | (simp; omega))).trans ((Below.heap_alloc _ _ _ (by simp)).trans (lone_at _ _ (by simp))))) (by intro u hu; simp at hu; subst hu; rfl) (by decide) hl63 hlb8 (by have := HBS.out; simp; omega) _ rfl ?_
           intro gQ cQ wQ hownQ hgrowQ hatQ hltQ
           first
             | have HAQ := Lib.hid (show App1 wP (Value.slice A3 j c3).ownBlock gQ wQ from ⟨_, (by first | exact Below.refl wP.heap.size wP | exact (Below.refl wP.heap.size wP).alloc (Nat.le_refl _) _), hgrowQ, hatQ, hltQ⟩)
             | have HAQ := Lib.hid (show App1 V (Value.slice A3 j c3).ownBlock gQ wQ from ⟨_, (by first | exact ((Below.refl V.heap.size V).drew.alloc (Nat.le_refl _) _) | exact (((Below.refl V.heap.size V).drew.alloc (Nat.le_refl _) _).alloc (by simp) _)), hgrowQ, hatQ, hltQ⟩)
               have HRP := Lib.hid (fun W' (hb : Below wQ.heap.size wQ W') => nown_below (HAQ.out.far HUV.out HVV.out HD1.out) hb)
               have HPQ := Lib.hid (fun k (h1 : V.heap.size ≤ k) h2 => hgrowQ.block k h2 (own_ne HUV.out h1))
               have hEQ := (HAQ.out.blk HUV.out HEL.out HEQN.out).trans HEV.out
               have z0Q := cell_of_row wQ wr.heap.size 0 _ _ _ hEQ
               have z1Q := cell_of_row wQ wr.heap.size 1 _ _ _ hEQ
               simp only [List.getElem?_toArray, List.getElem?_cons_zero, List.getElem?_cons_succ] at z0Q z1Q
               have hlQ : wr.heap.size < wQ.heap.size := Nat.lt_of_lt_of_le HEL.out HAQ.out.size
               have hSQ : w.heap.size ≤ wQ.heap.size := Nat.le_trans HBS.out HAQ.out.size
               clear hEQ
           have HOQ := Lib.hid hownQ
           clear hownQ hgrowQ hatQ hltQ))
      all_goals
        first
          | have HF := Lib.hid (two_fin (Nat.le_of_lt HBQ.out) HVV.out HUV.out HD.out HBV.out HAP.out HOP.out HAQ.out HOQ.out)
            have HFIN := Lib.hid (show Two2 w wQ (.slice (some ⟨gP, 0, none⟩) (j + 1) cP) (.slice (some ⟨gQ, 0, none⟩) (j + 1) cQ) (j + 1) (scs (T.dn.take (j + 1))) (ics (T.dn.take (j + 1))) from by
              rw [scs_take HE.out, ics_take HE.out]
              exact ⟨HF.out.1, HOQ.out, by have := HF.out.2.1; simpa [nblk, Value.ownBlock] using this, HF.out.2.2⟩)
          | have HF := Lib.hid (two_fin (Nat.le_of_lt HBQ.out) HUV.out HVV.out HDX.out HBV.out HAQ.out HOQ.out HAP.out HOP.out)
            have HFIN := Lib.hid (show Two2 w wP (.slice (some ⟨gP, 0, none⟩) (j + 1) cP) (.slice (some ⟨gQ, 0, none⟩) (j + 1) cQ) (j + 1) (scs (T.dn.take (j + 1))) (ics (T.dn.take (j + 1))) from by
              rw [scs_take HE.out, ics_take HE.out]
              exact ⟨HOP.out, HF.out.1, by have := HF.out.2.1; simpa [nblk, Value.ownBlock] using Ne.symm this, HF.out.2.2⟩)
        go_wp2_with fail
        exact ⟨⟨j + 1, by go_num, by omega, HFIN.out⟩, by simp [intOf]; omega⟩
      -- END
    · have hltI : ¬ (j : Int) < (n : Int) := by omega
      have HJ : Hid (j = T.dn.length) := by show j = _; rw [← HN.out]; omega
      go_wp2_with fail
      go_ret2
      refine ⟨_, _, rfl, ?_⟩
      have e1 : T.dn.take j = T.dn := List.take_of_length_le (by rw [HJ.out]; exact Nat.le_refl _)
      rw [e1] at HV HU
      rw [← HJ.out]
      exact ⟨HV.out, HU.out, HD.out, HB.out⟩
end Go.Proofs.YtcjljfjgekiocaaGreatDoor

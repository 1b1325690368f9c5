/- The reference of names, contracts: XNamAS to XNamAX in one text (wip/mknamone.py). -/
import Derived.Test.YtcjljfjgekiocaaGreatDoorNamAN
import Derived.Test.YtcjljfjgekiocaaGreatDoorLexK
import Derived.Deep.RegionLaw
import Derived.Test.YtcjljfjgekiocaaGreatDoorNamAM
import Derived.Test.YtcjljfjgekiocaaGreatDoorNamAO
import Derived.BigQuiet
import Derived.Deep.QuietTactic
/- The reference of layer 14: Name, at; its table in memory. (Printed by wip/mknamas.py.) -/
namespace Go.Proofs.YtcjljfjgekiocaaGreatDoor
open Go.RowKit Go.Shelf

set_option linter.unusedVariables false
set_option linter.unusedSimpArgs false

set_option maxRecDepth 100000 in
set_option maxHeartbeats 4000000 in
theorem rname_any (L : List Nat) (w : World) (hc : Codes L) (hl : L.length < 9223372036854775806) : Calls Tryz.prog 31 #[.string (str L)] w fun e w' => e = .returned (.bool (isN L)) ∧ Below w.heap.size w w' := by
  have HCL := Lib.hid hc
  obtain ⟨W, hW⟩ : ∃ W, w.alloc (.cells #[.string ⟨#[116, 114, 117, 101]⟩, .string ⟨#[102, 97, 108, 115, 101]⟩, .string ⟨#[110, 111, 116]⟩, .string ⟨#[97, 110, 100]⟩, .string ⟨#[111, 114]⟩, .string ⟨#[61, 62]⟩, .string ⟨#[105, 116, 101]⟩, .string ⟨#[61]⟩, .string ⟨#[60, 61]⟩, .string ⟨#[60]⟩, .string ⟨#[62, 61]⟩, .string ⟨#[62]⟩, .string ⟨#[95]⟩, .string ⟨#[100, 105, 118, 105, 115, 105, 98, 108, 101]⟩, .string ⟨#[101, 120, 105, 115, 116, 115]⟩, .string ⟨#[102, 111, 114, 97, 108, 108]⟩, .string ⟨#[108, 101, 116]⟩, .string ⟨#[45]⟩, .string ⟨#[43]⟩, .string ⟨#[42]⟩, .string ⟨#[47]⟩, .string ⟨#[82, 101, 97, 108]⟩, .string ⟨#[73, 110, 116]⟩] 9) = W := ⟨_, rfl⟩
  have HR := Lib.hid (show RdS W (some ⟨w.heap.size, 0, none⟩) FW from hW ▸ rds_new w FW 9 #[.string ⟨#[116, 114, 117, 101]⟩, .string ⟨#[102, 97, 108, 115, 101]⟩, .string ⟨#[110, 111, 116]⟩, .string ⟨#[97, 110, 100]⟩, .string ⟨#[111, 114]⟩, .string ⟨#[61, 62]⟩, .string ⟨#[105, 116, 101]⟩, .string ⟨#[61]⟩, .string ⟨#[60, 61]⟩, .string ⟨#[60]⟩, .string ⟨#[62, 61]⟩, .string ⟨#[62]⟩, .string ⟨#[95]⟩, .string ⟨#[100, 105, 118, 105, 115, 105, 98, 108, 101]⟩, .string ⟨#[101, 120, 105, 115, 116, 115]⟩, .string ⟨#[102, 111, 114, 97, 108, 108]⟩, .string ⟨#[108, 101, 116]⟩, .string ⟨#[45]⟩, .string ⟨#[43]⟩, .string ⟨#[42]⟩, .string ⟨#[47]⟩, .string ⟨#[82, 101, 97, 108]⟩, .string ⟨#[73, 110, 116]⟩] rfl)
  have HB := Lib.hid (show Below w.heap.size w W from hW ▸ (Below.refl _ w).alloc (Nat.le_refl _) _)
  have CK := rkind_any L W hc hl
  have HCK := Lib.hid CK
  have HD : Hid (isN L = (decide (kd L = 5) && !fw L)) := rfl
  have HFW : Hid (∀ x ∈ FW, Codes x) := by
    intro x hx c hc
    have h := (show (FW.all fun x => x.all fun c => decide (c < 256)) = true by kernel_rfl)
    have := List.all_eq_true.1 (List.all_eq_true.1 h x hx) c hc
    simpa using this
  have HL23 : Hid (FW.length = 23) := by
    show FW.length = 23
    kernel_rfl
  clear CK hl hc
  generalize isN L = r at *
  go_enter Tryz.func31, Tryz.ntmps31
  go_wp2_with fail
  obtain ⟨S2, hS2⟩ : ∃ S, S = w.heap.size := ⟨_, rfl⟩
  rw [← hS2] at HR ⊢
  have HS := Lib.hid hS2
  clear hW hS2
  go_loopw [4] (fun s wr => ∃ j : Nat, s = .int .i64 (j : Int) ∧ j ≤ 23 ∧ Hid (∀ x ∈ FW.take j, x ≠ L) ∧ wr = W) (fun s _ => 23 - (intOf s).toNat)
  case atStart => exact ⟨0, rfl, Nat.zero_le _, fun x hx => by simp at hx, rfl⟩
  case round =>
    obtain ⟨j, rfl, hj, HN, rfl⟩ := hrel
    by_cases hlt : j < 23
    · have hltI : (j : Int) < 23 := by omega
      obtain ⟨x, hx⟩ : ∃ x, FW[j]? = some x := ⟨_, List.getElem?_eq_getElem (by rw [HL23.out]; exact hlt)⟩
      obtain ⟨bs, ofs, hae, hbs, y1⟩ := HR.out.atl hx
      injection hae with hae
      injection hae with e1 e2
      subst e1 e2
      rw [Nat.zero_add] at y1
      have heq : ((str x).toList == (str L).toList) = decide (x = L) := str_beq (HFW.out x (List.mem_of_getElem? hx)) HCL.out
      obtain ⟨d, hd⟩ : ∃ d, d = decide (x = L) := ⟨_, rfl⟩
      rw [← hd] at heq
      have HX := Lib.hid hx
      have HDD := Lib.hid hd
      clear hx hd
      cases d
      · go_wp2_with fail
        exact ⟨⟨j + 1, by go_num, by omega, fun y hy => by
          rw [List.take_add_one, HX.out] at hy
          rcases List.mem_append.1 hy with q | q
          · exact HN.out y q
          · obtain rfl : y = x := by simpa using q
            exact of_decide_eq_false HDD.out.symm, trivial⟩, by simp [intOf]; omega⟩
      · have hr : r = false := by
          rw [HD.out]
          have : fw L = true := by
            unfold fw
            rw [List.any_eq_true]
            exact ⟨x, List.mem_of_getElem? HX.out, by simpa using (of_decide_eq_true HDD.out.symm).symm⟩
          rw [this]
          simp
        have HRR := Lib.hid hr
        clear hr
        go_wp2_with fail
        go_ret
        exact ⟨by rw [HRR.out]; rfl, HB.out⟩
    · have hltI : ¬ (j : Int) < 23 := by omega
      have hfw : fw L = false := by
        unfold fw
        rw [List.any_eq_false]
        intro x hx
        have h1 := HN.out x (by rw [List.take_of_length_le (by rw [HL23.out]; omega)]; exact hx)
        simpa using fun q => h1 q.symm
      have hr : r = decide (kd L = 5) := by rw [HD.out, hfw]; simp
      obtain ⟨k, hk⟩ : ∃ k, k = kd L := ⟨_, rfl⟩
      rw [← hk] at hr HCK
      have HRR := Lib.hid hr
      have hkb : k ≤ 6 := by
        rw [hk]
        unfold kd
        repeat' split
        all_goals omega
      clear hr hfw hk
      go_wp2_with fail
      refine HCK.out.mono ?_
      rintro e w1 ⟨rfl, rfl⟩
      have HB1 := HB
      by_cases h5 : k = 5
      · subst h5
        go_wp2_with fail
        go_ret
        exact ⟨by rw [HRR.out]; rfl, HB.out⟩
      · have h5I : ((k : Int) == 5) = false := by simp; omega
        have h5D : decide ((k : Int) = 5) = false := decide_eq_false (by omega)
        go_wp2_with fail
        go_ret
        exact ⟨by rw [HRR.out, decide_eq_false h5]; rfl, HB.out⟩
/-- where a name stands first, from j on; -1: it does not -/
def atR (L : List Nat) : Nat → List Ent → Int
  | _, [] => -1
  | j, e :: r => if e.1 = L then (j : Int) else atR L (j + 1) r
theorem atR_cases (L : List Nat) : ∀ (l : List Ent) (j : Nat), (atR L j l = -1 ∧ ∀ e ∈ l, e.1 ≠ L) ∨ ∃ i e, atR L j l = ((j + i : Nat) : Int) ∧ l[i]? = some e ∧ e.1 = L
  | [], j => .inl ⟨rfl, fun e he => by cases he⟩
  | e :: r, j => by
    by_cases h : e.1 = L
    · exact .inr ⟨0, e, by rw [atR, if_pos h]; rfl, rfl, h⟩
    · rcases atR_cases L r (j + 1) with ⟨h1, h2⟩ | ⟨i, x, h1, h2, h3⟩
      · exact .inl ⟨by rw [atR, if_neg h]; exact h1, fun x hx => by
          rcases List.mem_cons.1 hx with rfl | q
          · exact h
          · exact h2 x q⟩
      · exact .inr ⟨i + 1, x, by rw [atR, if_neg h, h1]; congr 1; omega, h2, h3⟩
set_option maxRecDepth 100000 in
set_option maxHeartbeats 4000000 in
theorem at_any (l : List Ent) (L : List Nat) (A : Option Addr) (c : Nat) (w : World) (hr : RdE w A l) (hc : Codes L) (hok : ∀ e ∈ l, Codes e.1) (hl : l.length ≤ 1048576) : Calls Tryz.prog 52 #[.slice A l.length c, .string (str L)] w fun e w' => e = .returned (.int .i64 (atR L 0 l)) ∧ w' = w := by
  have HR := Lib.hid hr
  have HCL := Lib.hid hc
  have HOK := Lib.hid hok
  obtain ⟨n, hn⟩ : ∃ n, n = l.length := ⟨_, rfl⟩
  have HN := Lib.hid hn
  rw [← hn] at hl ⊢
  obtain ⟨z, hz⟩ : ∃ z, z = atR L 0 l := ⟨_, rfl⟩
  rw [← hz]
  have HZ := Lib.hid hz
  clear hr hc hok hn hz
  go_enter Tryz.func52, Tryz.ntmps52
  go_wp2_with fail
  go_loopw [5] (fun s wr => ∃ j : Nat, s = .int .i64 (j : Int) ∧ j ≤ n ∧ Hid (z = atR L j (l.drop j)) ∧ wr = w) (fun s _ => n - (intOf s).toNat)
  case atStart => exact ⟨0, rfl, Nat.zero_le _, HZ.out, rfl⟩
  case round =>
    obtain ⟨j, rfl, hj, HJ, rfl⟩ := hrel
    by_cases hlt : j < n
    · have hltI : (j : Int) < (n : Int) := by omega
      obtain ⟨x, hx⟩ : ∃ x, l[j]? = some x := ⟨_, List.getElem?_eq_getElem (by rw [← HN.out]; exact hlt)⟩
      obtain ⟨bs, ofs, rfl, hbs, y⟩ := HR.out.at hx
      have y1 := (y j x hx).1
      have heq : ((str x.1).toList == (str L).toList) = decide (x.1 = L) := str_beq (HOK.out x (List.mem_of_getElem? hx)) HCL.out
      have hdr : l.drop j = x :: l.drop (j + 1) := by
        rw [List.drop_eq_getElem_cons (by rw [← HN.out]; exact hlt)]
        congr 1
        exact (List.getElem?_eq_some_iff.1 hx).2
      obtain ⟨d, hd⟩ : ∃ d, d = decide (x.1 = L) := ⟨_, rfl⟩
      rw [← hd] at heq
      have HDD := Lib.hid hd
      have HDR := Lib.hid hdr
      clear hx hd y hdr
      cases d
      · go_wp2_with fail
        exact ⟨⟨j + 1, by go_num, by omega, by
          have h1 := HJ.out
          rw [HDR.out, atR, if_neg (of_decide_eq_false HDD.out.symm)] at h1
          exact h1, trivial⟩, by simp [intOf]; omega⟩
      · have hzj : z = (j : Int) := by
          have h1 := HJ.out
          rwa [HDR.out, atR, if_pos (of_decide_eq_true HDD.out.symm)] at h1
        have HZJ := Lib.hid hzj
        clear hzj
        go_wp2_with fail
        go_ret
        exact ⟨by rw [HZJ.out]; rfl, rfl⟩
    · have hltI : ¬ (j : Int) < (n : Int) := by omega
      have hzj : z = -1 := by
        have h1 := HJ.out
        rwa [List.drop_eq_nil_of_le (by rw [← HN.out]; omega)] at h1
      have HZJ := Lib.hid hzj
      clear hzj
      go_wp2_with fail
      go_ret
      exact ⟨by rw [HZJ.out]; rfl, rfl⟩
/-! ### the reference's table -/
def RSc (w : World) (B : Nat) : List Scp → List Value → List Nat → Prop
  | [], xs, ks => xs = [] ∧ ks = []
  | s :: r, xs, ks => ∃ v zs k2, xs = v :: zs ∧ ks = nblk v ++ k2 ∧ w.ownsRow B 89 2 v s.2.length (ecs s.2) ∧ RSc w B r zs k2
theorem RSc.len {w : World} {B : Nat} : ∀ {ss : List Scp} {xs : List Value} {ks : List Nat}, RSc w B ss xs ks → xs.length = ss.length
  | [], xs, ks, h => by rw [h.1]; rfl
  | s :: r, xs, ks, ⟨v, zs, k2, h1, h2, h3, h5⟩ => by
    have := h5.len
    rw [h1]
    simp
    omega
theorem RSc.keep {w w' : World} {B : Nat} : ∀ {ss : List Scp} {xs : List Value} {ks : List Nat}, RSc w B ss xs ks → (∀ b ∈ ks, w'.heap[b]? = w.heap[b]?) → RSc w' B ss xs ks
  | [], xs, ks, h, _ => h
  | s :: r, xs, ks, ⟨v, zs, k2, h1, h2, h3, h5⟩, hk => by
    subst h2
    exact ⟨v, zs, k2, h1, rfl, nown_block h3 fun b hb => hk b (by simp [hb]), h5.keep fun b hb => hk b (by simp [hb])⟩
theorem RSc.kind {w : World} {B : Nat} : ∀ {ss : List Scp} {xs : List Value} {ks : List Nat}, RSc w B ss xs ks → ∀ b ∈ ks, B ≤ b ∧ b < w.heap.size
  | [], xs, ks, h, b, hb => by rw [h.2] at hb; cases hb
  | s :: r, xs, ks, ⟨v, zs, k2, h1, h2, h3, h5⟩, b, hb => by
    subst h2
    rcases List.mem_append.1 hb with hb | hb
    · obtain ⟨q1, c, q2⟩ := nown_kind h3 b hb
      exact ⟨q1, kind_lt2 q2⟩
    · exact h5.kind b hb
theorem RSc.snoc {w : World} {B : Nat} {v : Value} {s : Scp} (h1 : w.ownsRow B 89 2 v s.2.length (ecs s.2)) : ∀ {ss : List Scp} {xs : List Value} {ks : List Nat}, RSc w B ss xs ks → RSc w B (ss ++ [s]) (xs ++ [v]) (ks ++ nblk v)
  | [], xs, ks, h => by
    rw [h.1, h.2]
    exact ⟨v, [], [], rfl, by simp, h1, rfl, rfl⟩
  | s' :: r, xs, ks, ⟨v', zs, k2, e1, e2, h3, h5⟩ => by
    subst e1 e2
    exact ⟨v', zs ++ [v], k2 ++ nblk v, rfl, by simp, h3, RSc.snoc h1 h5⟩
theorem RSc.init {w : World} {B : Nat} {s : Scp} : ∀ {ss : List Scp} {xs : List Value} {ks : List Nat}, RSc w B (ss ++ [s]) xs ks → ∃ k0 k1, ks = k0 ++ k1 ∧ RSc w B ss (xs.take ss.length) k0
  | [], xs, ks, h => ⟨[], ks, rfl, by simp [RSc]⟩
  | s' :: r, xs, ks, ⟨v', zs, k2, e1, e2, h3, h5⟩ => by
    obtain ⟨k0, k1, e3, h6⟩ := h5.init
    subst e1 e2 e3
    exact ⟨nblk v' ++ k0, k1, by simp, v', zs.take r.length, k0, by simp, rfl, h3, h6⟩
theorem RSc.at {w : World} {B : Nat} : ∀ {ss : List Scp} {xs : List Value} {ks : List Nat} {i : Nat} {s : Scp}, RSc w B ss xs ks → ss[i]? = some s → ∃ v, xs[i]? = some v ∧ w.ownsRow B 89 2 v s.2.length (ecs s.2)
  | [], xs, ks, i, s, h, hi => by simp at hi
  | s' :: r, xs, ks, i, s, ⟨v', zs, k2, e1, e2, h3, h5⟩, hi => by
    subst e1
    cases i with
    | zero =>
      obtain rfl : s' = s := by simpa using hi
      exact ⟨v', rfl, h3⟩
    | succ i =>
      obtain ⟨v, q1, q3⟩ := h5.at (i := i) (by simpa using hi)
      exact ⟨v, by simpa using q1, q3⟩
def rks (g : Nat) (a s : Value) (k0 : List Nat) : List Nat := g :: (nblk a ++ nblk s ++ k0)
/-- the reference's table that has what T has -/
structure RefV (w : World) (B g : Nat) (T : Tb) (a s : Value) (xs : List Value) (k0 : List Nat) : Prop where
  cell : w.heap[g]? = some (.cells #[a, s, .int .i64 ((T.nx : Nat) : Int)] 51 (0, 0))
  base : B ≤ g
  al : w.ownsRow B 89 2 a T.dv.length (ecs T.dv)
  row : w.ownsRow B 48 1 s T.sc.length xs
  scs : RSc w B T.sc xs k0
  nd : (rks g a s k0).Nodup
def RefAt (w : World) (B g : Nat) (T : Tb) (ks : List Nat) : Prop := ∃ a s xs k0, RefV w B g T a s xs k0 ∧ ks = rks g a s k0
theorem RefV.kind {w : World} {B g : Nat} {T : Tb} {a s : Value} {xs : List Value} {k0 : List Nat} (h : RefV w B g T a s xs k0) : ∀ k ∈ rks g a s k0, B ≤ k ∧ k < w.heap.size := by
  intro k hk
  simp only [rks, List.mem_cons, List.mem_append] at hk
  rcases hk with rfl | (hk | hk) | hk
  · exact ⟨h.base, kind_lt2 h.cell⟩
  · obtain ⟨q1, c, q2⟩ := nown_kind h.al k hk
    exact ⟨q1, kind_lt2 q2⟩
  · obtain ⟨q1, c, q2⟩ := nown_kind h.row k hk
    exact ⟨q1, kind_lt2 q2⟩
  · exact h.scs.kind k hk
theorem RefV.keep {w w' : World} {B g : Nat} {T : Tb} {a s : Value} {xs : List Value} {k0 : List Nat} (h : RefV w B g T a s xs k0) (hk : ∀ k ∈ rks g a s k0, w'.heap[k]? = w.heap[k]?) : RefV w' B g T a s xs k0 :=
  ⟨(hk g (by simp [rks])).trans h.cell, h.base, nown_block h.al fun k q => hk k (by simp [rks, q]), nown_block h.row fun k q => hk k (by simp [rks, q]), h.scs.keep fun k q => hk k (by simp [rks, q]), h.nd⟩
theorem RefAt.kind {w : World} {B g : Nat} {T : Tb} {ks : List Nat} (h : RefAt w B g T ks) : ∀ k ∈ ks, B ≤ k ∧ k < w.heap.size := by
  obtain ⟨a, s, xs, k0, h, rfl⟩ := h
  exact h.kind
theorem RefAt.keep {w w' : World} {B g : Nat} {T : Tb} {ks : List Nat} (h : RefAt w B g T ks) (hk : ∀ k ∈ ks, w'.heap[k]? = w.heap[k]?) : RefAt w' B g T ks := by
  obtain ⟨a, s, xs, k0, h, rfl⟩ := h
  exact ⟨a, s, xs, k0, h.keep hk, rfl⟩
theorem RefAt.below {w w' : World} {B g : Nat} {T : Tb} {ks : List Nat} (h : RefAt w B g T ks) (hb : Below w.heap.size w w') : RefAt w' B g T ks := h.keep fun k q => hb.block k (h.kind k q).2
theorem RefAt.keepNb {w w' : World} {B g : Nat} {T : Tb} {ks : List Nat} {P : Nat → Prop} (h : RefAt w B g T ks) (hn : Nb P w w') (hk : ∀ k ∈ ks, ¬ P k) : RefAt w' B g T ks := h.keep fun k q => hn.block k (h.kind k q).2 (hk k q)
/-- what a call that changes it leaves -/
def FPost (w : World) (B g : Nat) (T : Tb) (ks : List Nat) (w' : World) : Prop := ∃ ks', RefAt w' B g T ks' ∧ (∀ k ∈ ks', k ∈ ks ∨ w.heap.size ≤ k) ∧ Nb (fun k => k ∈ ks) w w'
theorem FPost.same {w w' : World} {B g : Nat} {T : Tb} {ks : List Nat} (h : RefAt w B g T ks) (hb : Below w.heap.size w w') : FPost w B g T ks w' := ⟨ks, h.below hb, fun k hk => .inl hk, Nb.of hb⟩
end Go.Proofs.YtcjljfjgekiocaaGreatDoor

/- The reference of layer 14: Close, Find, Of. -/
namespace Go.Proofs.YtcjljfjgekiocaaGreatDoor
open Go.RowKit Go.Shelf

set_option linter.unusedVariables false
set_option linter.unusedSimpArgs false

theorem nodup_rks {g : Nat} {la lb l0 l1 : List Nat} (h : (g :: (la ++ lb ++ (l0 ++ l1))).Nodup) : (g :: (la ++ lb ++ l0)).Nodup ∧ ∀ k ∈ la ++ lb ++ l0, k ≠ g := by
  grind
/-- one element less -/
theorem row_less {w : World} {B : Nat} {e : TypeId} {g n c : Nat} {xs : List Value} (h : w.ownsRow B e 1 (.slice (some ⟨g, 0, none⟩) (n + 1) c) (n + 1) xs) : w.ownsRow B e 1 (.slice (some ⟨g, 0, none⟩) n c) n (xs.take n) := by
  obtain ⟨h1, h2⟩ := h
  refine ⟨by rw [List.length_take]; omega, ?_⟩
  rcases h2 with ⟨h2, h3⟩ | ⟨g', cap, cur, e1, hb, hc, hn, hm, hs, ht⟩
  · omega
  · injection e1 with e1 e2 e3
    injection e1 with e1
    injection e1 with e1
    subst e1 e3
    refine .inr ⟨g, c, cur, rfl, hb, hc, by omega, hm, hs, ?_⟩
    rw [← ht, List.take_take]
    congr 1
    omega
theorem rclose_post {w W : World} {B g m cap gs : Nat} {T : Tb} {a : Value} {xs : List Value} {k0 : List Nat} (h : RefV w B g T a (.slice (some ⟨gs, 0, none⟩) T.sc.length cap) xs k0) (hm : T.sc.length = m + 1) (hW : Nb (fun k => k ∈ rks g a (.slice (some ⟨gs, 0, none⟩) T.sc.length cap) k0) w W) (hh : W.heap = w.heap := by rfl) :
    FPost w B g (closeT T) (rks g a (.slice (some ⟨gs, 0, none⟩) T.sc.length cap) k0) (W.setCell ⟨g, 1, none⟩ (.slice (some ⟨gs, 0, none⟩) m cap)) := by
  obtain ⟨ss, s1, hss⟩ : ∃ ss s1, T.sc = ss ++ [s1] := by
    have hne : T.sc ≠ [] := fun e => by
      rw [e] at hm
      simp at hm
    exact ⟨T.sc.dropLast, T.sc.getLast hne, (List.dropLast_concat_getLast hne).symm⟩
  have hsl : ss.length = m := by
    rw [hss] at hm
    simp at hm
    omega
  have hsc := h.scs
  have hnd := h.nd
  have hkd := h.kind
  rw [hss] at hsc
  obtain ⟨q0, q1, hq, hsc⟩ := hsc.init
  rw [hsl] at hsc
  rw [hq] at hnd hkd
  obtain ⟨hnd0, hne⟩ := nodup_rks (la := nblk a) (lb := nblk (.slice (some ⟨gs, 0, none⟩) T.sc.length cap)) (l0 := q0) (l1 := q1) hnd
  have hsame : ∀ k ∈ nblk a ++ nblk (.slice (some ⟨gs, 0, none⟩) T.sc.length cap) ++ q0, (W.setCell ⟨g, 1, none⟩ (.slice (some ⟨gs, 0, none⟩) m cap)).heap[k]? = w.heap[k]? := fun k hk => by
    rw [Below.heap_setCell _ _ _ _ (show k ≠ g from hne k hk), hh]
  have hrow := h.row
  rw [hm] at hrow
  refine ⟨rks g a (.slice (some ⟨gs, 0, none⟩) m cap) q0, ⟨a, .slice (some ⟨gs, 0, none⟩) m cap, xs.take m, q0, ⟨?_, h.base, ?_, ?_, ?_, hnd0⟩, rfl⟩, ?_, ?_⟩
  · exact set_at _ (by rw [hh]; exact h.cell)
  · exact nown_block h.al fun k hk => hsame k (by simp [hk])
  · show World.ownsRow _ _ _ _ _ T.sc.dropLast.length _
    rw [hss, List.dropLast_concat, hsl]
    exact nown_block (row_less hrow) fun k hk => hsame k (by
      simp only [List.mem_append]
      exact .inl (.inr hk))
  · show RSc _ _ T.sc.dropLast _ _
    rw [hss, List.dropLast_concat]
    exact hsc.keep fun k hk => hsame k (by simp [hk])
  · intro k hk
    left
    simp only [rks, nblk, Value.ownBlock, List.mem_append, List.mem_cons, Option.toList] at hk ⊢
    rw [hq]
    grind
  · exact Nb.trans hW (Nb.set _ _ _ _ (fun k => k = g) rfl) (fun _ h => h) fun k _ hk => by
      subst hk
      simp [rks]
set_option maxRecDepth 100000 in
set_option maxHeartbeats 4000000 in
theorem rclose_any (g : Nat) (T : Tb) (ks : List Nat) (w : World) (B : Nat) (h : RefAt w B g T ks) (hG : GoodT T) :
    Calls Tryz.prog 27 #[.pointer (some ⟨g, 0, none⟩)] w fun e w' => e = .returned (.int .i64 (closeC T : Int)) ∧ FPost w B g (closeT T) ks w' := by
  have H := Lib.hid h
  obtain ⟨a, s, xs, k0, h, rfl⟩ := h
  have HV := Lib.hid h
  have hsl := hG.sl
  obtain ⟨n, hn⟩ : ∃ n, n = T.sc.length := ⟨_, rfl⟩
  have HN := Lib.hid hn
  have hrow := h.row
  obtain ⟨A, cap, rfl⟩ := nslice_form hrow
  have hcell := h.cell
  rw [← hn] at hrow hcell hsl
  have x1 := cell_of_row w g 1 _ _ _ hcell
  have xf := frozen_of hcell 1
  simp only [List.getElem?_toArray, List.getElem?_cons_zero, List.getElem?_cons_succ] at x1
  have HROW := Lib.hid hrow
  have HCELL := Lib.hid hcell
  have HCC : Hid (closeC T = if n = 0 then 5 else 0) := by show _ = _; unfold closeC; rw [HN.out]
  generalize closeC T = cc at *
  clear h hG hn hrow hcell
  by_cases h0 : n = 0
  · have hcc := HCC.out
    rw [if_pos h0] at hcc
    have HX := Lib.hid hcc
    have HE : Hid (closeT T = T) := by
      have h3 := HN.out
      obtain ⟨dn, dv, sc, nx⟩ := T
      have h4 : sc = [] := List.length_eq_zero_iff.1 (by rw [← h3, h0])
      subst h4
      rfl
    subst h0
    clear hcc
    go_enter Tryz.func27, Tryz.ntmps27
    go_wp2_with fail
    go_ret
    exact ⟨by rw [HX.out]; rfl, by rw [HE.out]; exact FPost.same (by have := H.out; rwa [← HN.out] at this) (Below.refl _ _)⟩
  · have hcc := HCC.out
    rw [if_neg h0] at hcc
    have HX := Lib.hid hcc
    obtain ⟨m, rfl⟩ : ∃ m, n = m + 1 := ⟨n - 1, by omega⟩
    obtain ⟨gs, capp, hf, hBs, hlts⟩ := HROW.out.form (by omega)
    injection hf with hf1 hf2 hf3
    subst hf1 hf3
    have hcl : m + 1 ≤ cap := by
      rcases HROW.out.2 with ⟨h2, h3⟩ | ⟨g', cap', cur, e1, hb, hc, hn', hm, hs, ht⟩
      · omega
      · injection e1 with e1 e2 e3
        omega
    have hclI : (m : Int) ≤ (cap : Int) := by omega
    have i1 : ((m + 1 : Nat) : Int) = (m : Int) + 1 := by omega
    have i2 : (m : Int) + 1 - 1 = (m : Int) := by omega
    have i3 : ¬ ((m : Int) + 1) = 0 := by omega
    have wm : IntKind.i64.wrap (m : Int) = (m : Int) := by rw [IntKind.wrap_i64]; omega
    clear hcc h0 hf2
    go_enter Tryz.func27, Tryz.ntmps27
    go_wp2_with fail
    go_region_law (fail)
    all_goals
      have HP := Lib.hid (rclose_post HV.out HN.out.symm (Nb.rfl' _ w).drew)
      go_wp2_with fail
      go_ret
      exact ⟨by rw [HX.out]; rfl, HP.out⟩
end Go.Proofs.YtcjljfjgekiocaaGreatDoor

/- The reference of layer 14: Find, Of. -/
namespace Go.Proofs.YtcjljfjgekiocaaGreatDoor
open Go.RowKit Go.Shelf

set_option linter.unusedVariables false
set_option linter.unusedSimpArgs false

/-- entries of whatever type, as they can be read -/
theorem ents_rd {w : World} {B : Nat} {e : TypeId} {v : Value} {l : List Ent} (h : w.ownsRow B e 2 v l.length (ecs l)) : ∃ A c, v = .slice A l.length c ∧ RdE w A l := by
  obtain ⟨A, c, rfl⟩ := nslice_form h
  refine ⟨A, c, rfl, ?_⟩
  cases l with
  | nil => exact .inl rfl
  | cons a r =>
    obtain ⟨gs, rfl, -, hgs, hcl⟩ := nrow_cells h (by simp)
    refine .inr ⟨gs, 0, rfl, hgs, fun j x hx => ?_⟩
    obtain ⟨h1, h2⟩ := ecs_at hx
    rw [Nat.zero_add]
    exact ⟨hcl _ _ h1, hcl _ _ h2⟩
theorem ref_rd {w : World} {B g : Nat} {T : Tb} {a s : Value} {xs : List Value} {k0 : List Nat} (h : RefV w B g T a s xs k0) :
    ∃ A1 c1 As cs, w.cell? ⟨g, 0, none⟩ = some (.slice A1 T.dv.length c1) ∧ w.cell? ⟨g, 1, none⟩ = some (.slice As T.sc.length cs) ∧ RdE w A1 T.dv ∧
      ∀ (i : Nat) (x : Scp), T.sc[i]? = some x → ∃ gs Ai ci, As = some ⟨gs, 0, none⟩ ∧ gs < w.heap.size ∧ w.cell? ⟨gs, i, none⟩ = some (.slice Ai x.2.length ci) ∧ RdE w Ai x.2 := by
  obtain ⟨A1, c1, rfl, r1⟩ := ents_rd h.al
  obtain ⟨As, cs, rfl⟩ := nslice_form h.row
  refine ⟨A1, c1, As, cs, cell_of_row w g 0 _ _ _ h.cell, cell_of_row w g 1 _ _ _ h.cell, r1, fun i x hx => ?_⟩
  obtain ⟨v, q1, q2⟩ := h.scs.at hx
  obtain ⟨Ai, ci, rfl, r2⟩ := ents_rd q2
  have hi := (List.getElem?_eq_some_iff.1 hx).1
  obtain ⟨gs, rfl, -, hgs, hcl⟩ := nrow_cells h.row (by omega)
  exact ⟨gs, Ai, ci, rfl, hgs, hcl i _ q1, r2⟩
theorem fnd_at {T : Tb} (h : GoodT T) {L : List Nat} {i : Nat} {e : Ent} (hi : i ≤ T.sc.length) (hno : ∀ j, i < j → j < T.sc.length → isNm (nmAt T j) L = false) (hno2 : i = T.sc.length → ∀ j, j < T.sc.length → isNm (nmAt T j) L = false) (he : e ∈ nmAt T i) (h1 : e.1 = L) : fnd T L = some i ∧ findV T L = e.2 := by
  have hq : isNm (nmAt T i) L = true := (isNm_iff (h.nm i).1 _).2 ⟨e, he, h1⟩
  have hf : fnd T L = some i := by
    unfold fnd
    by_cases hm : i = T.sc.length
    · refine find_first (p := bkw T.sc.length T.sc.length) (k := T.sc.length + 1) (by rw [List.take_of_length_le (by unfold blks; simp [bkw_len]), hm]; rfl) (fun j hj => hno2 hm j ?_) hq
      unfold bkw at hj
      obtain ⟨t, ht, rfl⟩ := List.mem_map.1 hj
      have := List.mem_range.1 ht
      omega
    · refine find_first (p := bkw T.sc.length (T.sc.length - 1 - i)) (k := T.sc.length - i) ?_ (fun j hj => ?_) hq
      · rw [blks_take (by omega), show T.sc.length - i = (T.sc.length - 1 - i) + 1 by omega, bkw_succ]
        congr 2
        omega
      · unfold bkw at hj
        obtain ⟨t, ht, rfl⟩ := List.mem_map.1 hj
        have := List.mem_range.1 ht
        exact hno _ (by omega) (by omega)
  refine ⟨hf, ?_⟩
  unfold findV
  rw [hf]
  show (((nmAt T i)[atN (nmAt T i) L]?).map (·.2)).getD 0 = _
  rw [← h1, atN_get (h.nm i).1 he]
  rfl
theorem fnd_no {T : Tb} {L : List Nat} (h : ∀ i, i ≤ T.sc.length → isNm (nmAt T i) L = false) : fnd T L = none ∧ findV T L = 0 := by
  have hf : fnd T L = none := by
    unfold fnd
    rw [List.find?_eq_none]
    intro i hi
    rw [h i (blks_mem.1 hi)]
    decide
  exact ⟨hf, by unfold findV; rw [hf]⟩
theorem vrAt_sc {T : Tb} {i : Nat} {x : Scp} (hx : T.sc[i]? = some x) : vrAt T i = x.2 := by
  have hi := (List.getElem?_eq_some_iff.1 hx).1
  unfold vrAt
  rw [if_neg (by omega), hx]
  rfl
theorem vrAt_dv (T : Tb) : vrAt T T.sc.length = T.dv := by
  unfold vrAt
  rw [if_pos rfl]
theorem nm_no {T : Tb} (h : GoodT T) {L : List Nat} {i : Nat} (hno : ∀ e ∈ vrAt T i, e.1 ≠ L) : isNm (nmAt T i) L = false := by
  cases q : isNm (nmAt T i) L with
  | false => rfl
  | true =>
    obtain ⟨e, he, h1⟩ := (isNm_iff (h.nm i).1 _).1 q
    exact absurd h1 (hno e (h.same.1 he))
set_option maxRecDepth 100000 in
set_option maxHeartbeats 8000000 in
theorem rfind_any (g : Nat) (T : Tb) (ks : List Nat) (L : List Nat) (w : World) (B : Nat) (h : RefAt w B g T ks) (hG : GoodT T) (hc : Codes L) :
    Calls Tryz.prog 28 #[.pointer (some ⟨g, 0, none⟩), .string (str L)] w fun e w' => e = .returned (.tuple #[.int .i64 ((findV T L : Nat) : Int), .bool (fnd T L).isSome]) ∧ w' = w := by
  obtain ⟨a, s, xs, k0, h, rfl⟩ := h
  obtain ⟨A1, c1, As, cs, x0, x1, r1, r2⟩ := ref_rd h
  have HG := Lib.hid hG
  have HC := Lib.hid hc
  have HR1 := Lib.hid r1
  have HR2 := Lib.hid r2
  have hsl := hG.sl
  obtain ⟨m, hm⟩ : ∃ m, m = T.sc.length := ⟨_, rfl⟩
  obtain ⟨d, hd⟩ : ∃ d, d = T.dv.length := ⟨_, rfl⟩
  have HM := Lib.hid hm
  have HD := Lib.hid hd
  rw [← hm] at x1 hsl
  rw [← hd] at x0
  have hdl : d ≤ 4096 := by rw [hd, hG.vl]; exact hG.dl
  obtain ⟨f, hf⟩ : ∃ f, f = findV T L := ⟨_, rfl⟩
  obtain ⟨z, hz⟩ : ∃ z, z = (fnd T L).isSome := ⟨_, rfl⟩
  rw [← hf, ← hz]
  have HF := Lib.hid hf
  have HZ := Lib.hid hz
  clear h hG hc r1 r2 hm hd hf hz
  go_enter Tryz.func28, Tryz.ntmps28
  go_wp2_with fail
  go_loopw [6] (fun s wr => ∃ j : Nat, s = .int .i64 ((j : Int) - 1) ∧ j ≤ m ∧ Hid (∀ i, j ≤ i → i < m → isNm (nmAt T i) L = false) ∧ wr = w) (fun s _ => (intOf s + 1).toNat)
  case atStart => exact ⟨m, rfl, Nat.le_refl _, fun i h1 h2 => by omega, rfl⟩
  case round =>
    obtain ⟨j, rfl, hj, HN, rfl⟩ := hrel
    by_cases h0 : 0 < j
    · obtain ⟨i, hi⟩ : ∃ i, i = j - 1 := ⟨_, rfl⟩
      have hji : (j : Int) - 1 = (i : Int) := by omega
      have hge : (0 : Int) ≤ (i : Int) := by omega
      have him : (i : Int) < (m : Int) := by omega
      obtain ⟨x, hx⟩ : ∃ x, T.sc[i]? = some x := ⟨_, List.getElem?_eq_getElem (by rw [← HM.out]; omega)⟩
      obtain ⟨gs, Ai, ci, rfl, hgs, x2, r2⟩ := HR2.out i x hx
      have HX := Lib.hid (vrAt_sc hx)
      have hxl : x.2.length ≤ 1048576 := by
        have := HG.out.vll i
        rwa [vrAt_sc hx] at this
      have C1 := at_any x.2 L Ai ci wr r2 HC.out (fun e he => by
        have := (HG.out.nm i).2.2.2.1
        rw [vrAt_sc hx] at this
        exact this e he) hxl
      have HCS := Lib.hid (atR_cases L x.2 0)
      obtain ⟨p, hp⟩ : ∃ p, p = x.2.length := ⟨_, rfl⟩
      rw [← hp] at x2 C1 hxl
      have HP := Lib.hid hp
      obtain ⟨y, hy⟩ : ∃ y, y = atR L 0 x.2 := ⟨_, rfl⟩
      rw [← hy] at C1 HCS
      have HC1 := Lib.hid C1
      have HR3 := Lib.hid r2
      have HI := Lib.hid hi
      have HJ0 := Lib.hid h0
      rw [hji]
      clear hx C1 hp hy r2 hi h0 hji
      go_wp2_with fail
      refine HC1.out.mono ?_
      rintro e w1 ⟨rfl, rfl⟩
      rcases HCS.out with ⟨rfl, hno⟩ | ⟨t, e, rfl, he, he1⟩
      · have HNO := Lib.hid hno
        clear hno HC1
        go_wp2_with fail
        refine ⟨⟨i, ?_, by have := HI.out; omega, fun k h1 h2 => ?_, trivial⟩, by have := HI.out; have := HJ0.out; simp [intOf]⟩
        · rfl
        · by_cases hk : k = i
          · subst hk
            exact nm_no HG.out (by rw [HX.out]; exact HNO.out)
          · exact HN.out k (by have := HI.out; have := HJ0.out; omega) h2
      · obtain ⟨bs, ofs, rfl, hbs, hcl⟩ := HR3.out.at he
        have y1 := (hcl t e he).2
        have htl : t < p := by rw [HP.out]; exact (List.getElem?_eq_some_iff.1 he).1
        have htp : (t : Int) < (p : Int) := by omega
        have ht0 : ¬ (t : Int) < 0 := by omega
        have hmem : e ∈ nmAt T i := HG.out.same.2 (by rw [HX.out]; exact List.mem_of_getElem? he)
        obtain ⟨q1, q2⟩ := fnd_at HG.out (L := L) (i := i) (e := e) (by rw [← HM.out]; omega) (fun k h1 h2 => HN.out k (by have := HI.out; have := HJ0.out; omega) (by rw [HM.out]; exact h2)) (fun q => by rw [← HM.out] at q; omega) hmem he1
        have hf : f = e.2 := by rw [HF.out, q2]
        have hz : z = true := by rw [HZ.out, q1]; rfl
        rw [← hf] at y1
        have HZ2 := Lib.hid hz
        rw [Nat.zero_add]
        clear hcl he q1 q2 hf hz hmem HC1
        go_wp2_with fail
        go_ret2
        exact ⟨by rw [HZ2.out]; rfl, rfl⟩
    · obtain rfl : j = 0 := by omega
      have C1 := at_any T.dv L A1 c1 wr HR1.out HC.out (fun e he => by
        have := (HG.out.nm T.sc.length).2.2.2.1
        rw [vrAt_dv] at this
        exact this e he) (by rw [← HD.out]; omega)
      rw [← HD.out] at C1
      have HCS := Lib.hid (atR_cases L T.dv 0)
      obtain ⟨y, hy⟩ : ∃ y, y = atR L 0 T.dv := ⟨_, rfl⟩
      rw [← hy] at C1 HCS
      have HC1 := Lib.hid C1
      clear C1 hy h0
      go_wp2_with fail
      refine HC1.out.mono ?_
      rintro e w1 ⟨rfl, rfl⟩
      rcases HCS.out with ⟨rfl, hno⟩ | ⟨t, e, rfl, he, he1⟩
      · obtain ⟨q1, q2⟩ := fnd_no (T := T) (L := L) fun i hi => by
          by_cases hk : i = T.sc.length
          · subst hk
            exact nm_no HG.out (by rw [vrAt_dv]; exact hno)
          · exact HN.out i (Nat.zero_le _) (by rw [HM.out]; omega)
        have hf : f = 0 := by rw [HF.out, q2]
        have hz : z = false := by rw [HZ.out, q1]; rfl
        have HF2 := Lib.hid hf
        have HZ2 := Lib.hid hz
        clear q1 q2 hf hz hno HC1
        go_wp2_with fail
        go_ret2
        exact ⟨by rw [HF2.out, HZ2.out]; rfl, rfl⟩
      · obtain ⟨bs, ofs, rfl, hbs, hcl⟩ := HR1.out.at he
        have y1 := (hcl t e he).2
        have htl : t < d := by rw [HD.out]; exact (List.getElem?_eq_some_iff.1 he).1
        have htp : (t : Int) < (d : Int) := by omega
        have ht0 : ¬ (t : Int) < 0 := by omega
        have hmem : e ∈ nmAt T T.sc.length := HG.out.same.2 (by rw [vrAt_dv]; exact List.mem_of_getElem? he)
        obtain ⟨q1, q2⟩ := fnd_at HG.out (L := L) (i := T.sc.length) (e := e) (Nat.le_refl _) (fun k h1 h2 => by omega) (fun _ k h1 => HN.out k (Nat.zero_le _) (by rw [HM.out]; exact h1)) hmem he1
        have hf : f = e.2 := by rw [HF.out, q2]
        have hz : z = true := by rw [HZ.out, q1]; rfl
        rw [← hf] at y1
        have HZ2 := Lib.hid hz
        rw [Nat.zero_add]
        clear hcl he q1 q2 hf hz hmem HC1
        go_wp2_with fail
        go_ret2
        exact ⟨by rw [HZ2.out]; rfl, rfl⟩
theorem of_no {T : Tb} (h : GoodT T) {v : Int} (hno : ∀ i, i ≤ T.sc.length → ∀ e ∈ vrAt T i, (e.2 : Int) ≠ v) : ofd T v = none ∧ ofV T v = [] := by
  have hf : ofd T v = none := by
    unfold ofd
    rw [List.find?_eq_none]
    intro i hi
    cases q : isVr (vrAt T i) v with
    | false => decide
    | true =>
      obtain ⟨e, he, h1⟩ := (isVr_iff (h.nm i).2.1 _).1 q
      exact absurd h1 (hno i (blks_mem.1 hi) e he)
  exact ⟨hf, by unfold ofV; rw [hf]⟩
set_option maxRecDepth 100000 in
set_option maxHeartbeats 8000000 in
theorem rof_any (g : Nat) (T : Tb) (ks : List Nat) (v : Int) (w : World) (B : Nat) (h : RefAt w B g T ks) (hG : GoodT T) :
    Calls Tryz.prog 29 #[.pointer (some ⟨g, 0, none⟩), .int .i64 v] w fun e w' => e = .returned (.tuple #[.string (str (ofV T v)), .bool (ofd T v).isSome]) ∧ w' = w := by
  obtain ⟨a, s, xs, k0, h, rfl⟩ := h
  obtain ⟨A1, c1, As, cs, x0, x1, r1, r2⟩ := ref_rd h
  have HG := Lib.hid hG
  have HR1 := Lib.hid r1
  have HR2 := Lib.hid r2
  have hsl := hG.sl
  obtain ⟨m, hm⟩ : ∃ m, m = T.sc.length := ⟨_, rfl⟩
  obtain ⟨d, hd⟩ : ∃ d, d = T.dv.length := ⟨_, rfl⟩
  have HM := Lib.hid hm
  have HD := Lib.hid hd
  rw [← hm] at x1 hsl
  rw [← hd] at x0
  have hdl : d ≤ 4096 := by rw [hd, hG.vl]; exact hG.dl
  obtain ⟨f, hf⟩ : ∃ f, f = str (ofV T v) := ⟨_, rfl⟩
  obtain ⟨z, hz⟩ : ∃ z, z = (ofd T v).isSome := ⟨_, rfl⟩
  rw [← hf, ← hz]
  have HF := Lib.hid hf
  have HZ := Lib.hid hz
  clear h hG r1 r2 hm hd hf hz
  go_enter Tryz.func29, Tryz.ntmps29
  go_wp2_with fail
  go_loopw [6] (fun s wr => ∃ j : Nat, s = .int .i64 (j : Int) ∧ j ≤ m + 1 ∧ Hid (∀ i, i < j → ∀ e ∈ vrAt T i, (e.2 : Int) ≠ v) ∧ wr = w) (fun s _ => m + 1 - (intOf s).toNat)
  case atStart => exact ⟨0, rfl, Nat.zero_le _, fun i h1 => by omega, rfl⟩
  case round =>
    obtain ⟨j, rfl, hj, HN, rfl⟩ := hrel
    by_cases hlt : j ≤ m
    · have hltI : (j : Int) ≤ (m : Int) := by omega
      -- the list that is looked through
      obtain ⟨l, Al, cl, hl, rl, hcase⟩ : ∃ (l : List Ent) (Al : Option Addr) (cl : Nat), vrAt T j = l ∧ RdE wr Al l ∧ ((j = m ∧ Al = A1 ∧ cl = c1 ∧ l.length = d) ∨ (j < m ∧ ∃ gs, As = some ⟨gs, 0, none⟩ ∧ gs < wr.heap.size ∧ wr.cell? ⟨gs, j, none⟩ = some (.slice Al l.length cl))) := by
        by_cases hjm : j = m
        · exact ⟨T.dv, A1, c1, by rw [hjm, HM.out, vrAt_dv], HR1.out, .inl ⟨hjm, rfl, rfl, HD.out.symm⟩⟩
        · obtain ⟨x, hx⟩ : ∃ x, T.sc[j]? = some x := ⟨_, List.getElem?_eq_getElem (by rw [← HM.out]; omega)⟩
          obtain ⟨gs, Ai, ci, e1, hgs, x2, r2⟩ := HR2.out j x hx
          exact ⟨x.2, Ai, ci, vrAt_sc hx, r2, .inr ⟨by omega, gs, e1, hgs, x2⟩⟩
      have hll : l.length ≤ 1048576 := by
        have := HG.out.vll j
        rwa [hl] at this
      have HL := Lib.hid hl
      have HRL := Lib.hid rl
      obtain ⟨p, hp⟩ : ∃ p, p = l.length := ⟨_, rfl⟩
      rw [← hp] at hll hcase
      have HP := Lib.hid hp
      clear hl rl hp
      rcases hcase with ⟨hjm, rfl, rfl, rfl⟩ | ⟨hjm, gs, rfl, hgs, x2⟩
      · have hltJ : ¬ (j : Int) < (m : Int) := by omega
        clear hjm
        go_wp2_with fail
        go_loopw [8] (fun k w2 => ∃ i : Nat, k = .int .i64 (i : Int) ∧ i ≤ p ∧ Hid (∀ e ∈ l.take i, (e.2 : Int) ≠ v) ∧ w2 = wr) (fun k _ => p - (intOf k).toNat)
        case atStart => exact ⟨0, rfl, Nat.zero_le _, fun e he => by simp at he, rfl⟩
        case round =>
          obtain ⟨i, rfl, hi, HNI, rfl⟩ := hrel
          by_cases hlti : i < p
          · have hltiI : (i : Int) < (p : Int) := by omega
            obtain ⟨e, he⟩ : ∃ e, l[i]? = some e := ⟨_, List.getElem?_eq_getElem (by rw [← HP.out]; exact hlti)⟩
            obtain ⟨bs, ofs, rfl, hbs, hcl⟩ := HRL.out.at he
            have y1 := (hcl i e he).1
            have y2 := (hcl i e he).2
            have HE := Lib.hid he
            by_cases hv : (e.2 : Int) = v
            · have hmem : e ∈ nmAt T j := HG.out.same.2 (by rw [HL.out]; exact List.mem_of_getElem? he)
              obtain ⟨q1, q2⟩ := of_entry HG.out (i := j) (by rw [← HM.out]; exact hlt) hmem
              rw [hv] at q1 q2
              have hf : f = str e.1 := by rw [HF.out, q2]
              have hz : z = true := by rw [HZ.out, q1]
              have HZ2 := Lib.hid hz
              rw [← hf] at y1
              rw [hv] at y2
              clear hcl he q1 q2 hf hz hmem hv
              go_wp2_with fail
              go_ret2
              exact ⟨by rw [HZ2.out]; rfl, rfl⟩
            · have hv2 : ((e.2 : Int) == v) = false := by simpa using hv
              have HV := Lib.hid hv
              clear hcl he
              go_wp2_with fail
              exact ⟨⟨i + 1, by go_num, by omega, fun e' he' => by
                rw [List.take_add_one, HE.out] at he'
                rcases List.mem_append.1 he' with r | r
                · exact HNI.out e' r
                · obtain rfl : e' = e := by simpa using r
                  exact HV.out, trivial⟩, by simp [intOf]; omega⟩
          · have hltiI : ¬ (i : Int) < (p : Int) := by omega
            have HI : Hid (∀ e ∈ l, (e.2 : Int) ≠ v) := fun e he => HNI.out e (by rw [List.take_of_length_le (by rw [← HP.out]; omega)]; exact he)
            go_wp2_with fail
            exact ⟨⟨j + 1, by go_num, by omega, fun k hk => by
              by_cases hkj : k = j
              · subst hkj
                rw [HL.out]
                exact HI.out
              · exact HN.out k (by omega), trivial⟩, by simp [intOf]; omega⟩
      · have hltJ : (j : Int) < (m : Int) := by omega
        clear hjm
        go_wp2_with fail
        go_loopw [8] (fun k w2 => ∃ i : Nat, k = .int .i64 (i : Int) ∧ i ≤ p ∧ Hid (∀ e ∈ l.take i, (e.2 : Int) ≠ v) ∧ w2 = wr) (fun k _ => p - (intOf k).toNat)
        case atStart => exact ⟨0, rfl, Nat.zero_le _, fun e he => by simp at he, rfl⟩
        case round =>
          obtain ⟨i, rfl, hi, HNI, rfl⟩ := hrel
          by_cases hlti : i < p
          · have hltiI : (i : Int) < (p : Int) := by omega
            obtain ⟨e, he⟩ : ∃ e, l[i]? = some e := ⟨_, List.getElem?_eq_getElem (by rw [← HP.out]; exact hlti)⟩
            obtain ⟨bs, ofs, rfl, hbs, hcl⟩ := HRL.out.at he
            have y1 := (hcl i e he).1
            have y2 := (hcl i e he).2
            have HE := Lib.hid he
            by_cases hv : (e.2 : Int) = v
            · have hmem : e ∈ nmAt T j := HG.out.same.2 (by rw [HL.out]; exact List.mem_of_getElem? he)
              obtain ⟨q1, q2⟩ := of_entry HG.out (i := j) (by rw [← HM.out]; exact hlt) hmem
              rw [hv] at q1 q2
              have hf : f = str e.1 := by rw [HF.out, q2]
              have hz : z = true := by rw [HZ.out, q1]
              have HZ2 := Lib.hid hz
              rw [← hf] at y1
              rw [hv] at y2
              clear hcl he q1 q2 hf hz hmem hv
              go_wp2_with fail
              go_ret2
              exact ⟨by rw [HZ2.out]; rfl, rfl⟩
            · have hv2 : ((e.2 : Int) == v) = false := by simpa using hv
              have HV := Lib.hid hv
              clear hcl he
              go_wp2_with fail
              exact ⟨⟨i + 1, by go_num, by omega, fun e' he' => by
                rw [List.take_add_one, HE.out] at he'
                rcases List.mem_append.1 he' with r | r
                · exact HNI.out e' r
                · obtain rfl : e' = e := by simpa using r
                  exact HV.out, trivial⟩, by simp [intOf]; omega⟩
          · have hltiI : ¬ (i : Int) < (p : Int) := by omega
            have HI : Hid (∀ e ∈ l, (e.2 : Int) ≠ v) := fun e he => HNI.out e (by rw [List.take_of_length_le (by rw [← HP.out]; omega)]; exact he)
            go_wp2_with fail
            exact ⟨⟨j + 1, by go_num, by omega, fun k hk => by
              by_cases hkj : k = j
              · subst hkj
                rw [HL.out]
                exact HI.out
              · exact HN.out k (by omega), trivial⟩, by simp [intOf]; omega⟩
    · have hltI : ¬ (j : Int) ≤ (m : Int) := by omega
      obtain ⟨q1, q2⟩ := of_no HG.out (v := v) fun i hi => HN.out i (by rw [← HM.out] at hi; omega)
      have hf : f = ⟨#[]⟩ := by rw [HF.out, q2]; rfl
      have hz : z = false := by rw [HZ.out, q1]; rfl
      have HF2 := Lib.hid hf
      have HZ2 := Lib.hid hz
      clear q1 q2 hf hz
      go_wp2_with fail
      go_ret2
      exact ⟨by rw [HF2.out, HZ2.out]; rfl, rfl⟩
end Go.Proofs.YtcjljfjgekiocaaGreatDoor

/- The reference of layer 14: Declare. -/
namespace Go.Proofs.YtcjljfjgekiocaaGreatDoor
open Go.RowKit Go.Shelf

set_option linter.unusedVariables false
set_option linter.unusedSimpArgs false

theorem infoEntR : (Tryz.prog.info? 89).map (fun i => (i.zero, i.size, i.bytes)) = some (some (.agg #[.string ⟨#[]⟩, .int .i64 0]), 2, 24) := by kernel_rfl
theorem rks_split (g : Nat) (a s : Value) (k0 : List Nat) : rks g a s k0 = [g] ++ (nblk a ++ (nblk s ++ k0)) := by simp [rks]
theorem rks_a {g n : Nat} {a v s : Value} {k0 : List Nat} (h : (rks g a s k0).Nodup) (hk : ∀ k ∈ rks g a s k0, k < n) (hv : ∀ k ∈ nblk v, k ∈ nblk a ∨ n ≤ k) : (rks g v s k0).Nodup := by
  rw [rks_split] at h hk ⊢
  exact nodup_swap h (nblk_nd v) hk hv
theorem rks_g {g : Nat} {a s : Value} {k0 : List Nat} (h : (rks g a s k0).Nodup) : ∀ k ∈ nblk a ++ nblk s ++ k0, k ≠ g := by
  simp only [rks, List.nodup_cons] at h
  exact fun k hk e => h.1 (e ▸ hk)
theorem RefV.as {w : World} {B g : Nat} {T T' : Tb} {a s : Value} {xs : List Value} {k0 : List Nat} (h : RefV w B g T a s xs k0) (h1 : T'.dv = T.dv) (h2 : T'.sc = T.sc) (h3 : T'.nx = T.nx) : RefV w B g T' a s xs k0 :=
  ⟨by rw [h3]; exact h.cell, h.base, by rw [h1]; exact h.al, by rw [h2]; exact h.row, by rw [h2]; exact h.scs, h.nd⟩
theorem RefV.setA {V w6 : World} {B g : Nat} {T : Tb} {a v s : Value} {xs : List Value} {k0 : List Nat} {l : List Ent} (h : RefV V B g T a s xs k0) (hn : Nb (fun k => k ∈ nblk a) V w6) (ho : w6.ownsRow B 89 2 v l.length (ecs l)) (hk : ∀ k ∈ nblk v, k ∈ nblk a ∨ V.heap.size ≤ k) :
    RefV (w6.setCell ⟨g, 0, none⟩ v) B g { T with dv := l } v s xs k0 := by
  have hnd := rks_a h.nd (fun k q => (h.kind k q).2) hk
  have hg := rks_g hnd
  have ha : ∀ k ∈ [g] ++ (nblk s ++ k0), k ∉ nblk a := nodup_out (by have := h.nd; rwa [rks_split] at this)
  have hs : ∀ k ∈ nblk s ++ k0, (w6.setCell ⟨g, 0, none⟩ v).heap[k]? = V.heap[k]? := fun k q =>
    (Below.heap_setCell _ _ _ _ (show k ≠ g from hg k (by simp only [List.mem_append] at q ⊢; grind))).trans (hn.block k (h.kind k (by simp only [rks, List.mem_append, List.mem_cons] at q ⊢; grind)).2 (ha k (by simp only [List.mem_append, List.mem_cons, List.mem_singleton] at q ⊢; grind)))
  refine ⟨?_, h.base, nown_block ho fun k q => Below.heap_setCell _ _ _ _ (show k ≠ g from hg k (by simp [q])), nown_block h.row fun k q => hs k (by simp [q]), h.scs.keep fun k q => hs k (by simp [q]), hnd⟩
  exact set_at _ ((hn.block g (kind_lt2 h.cell) (ha g (by simp))).trans h.cell)
theorem RefV.setN {V : World} {B g : Nat} {T : Tb} {a s : Value} {xs : List Value} {k0 : List Nat} (h : RefV V B g T a s xs k0) (n : Nat) : RefV (V.setCell ⟨g, 2, none⟩ (.int .i64 (n : Int))) B g { T with nx := n } a s xs k0 := by
  have hg := rks_g h.nd
  have hs : ∀ k ∈ nblk a ++ nblk s ++ k0, (V.setCell ⟨g, 2, none⟩ (.int .i64 (n : Int))).heap[k]? = V.heap[k]? := fun k q => Below.heap_setCell _ _ _ _ (show k ≠ g from hg k q)
  exact ⟨set_at _ h.cell, h.base, nown_block h.al fun k q => hs k (by simp [q]), nown_block h.row fun k q => hs k (by simp [q]), h.scs.keep fun k q => hs k (by simp [q]), h.nd⟩
theorem FPost.setA {w V w6 : World} {B g : Nat} {T : Tb} {a v s : Value} {xs : List Value} {k0 ks : List Nat} {l : List Ent} (h : RefV V B g T a s xs k0) (hs : ∀ k ∈ rks g a s k0, k ∈ ks ∨ w.heap.size ≤ k) (hw : Nb (fun k => k ∈ ks) w V)
    (hn : Nb (fun k => k ∈ nblk a) V w6) (ho : w6.ownsRow B 89 2 v l.length (ecs l)) (hk : ∀ k ∈ nblk v, k ∈ nblk a ∨ V.heap.size ≤ k) : FPost w B g { T with dv := l } ks (w6.setCell ⟨g, 0, none⟩ v) := by
  have hsz := hw.size
  refine ⟨_, ⟨_, _, _, _, h.setA hn ho hk, rfl⟩, fun k q => ?_, Nb.trans (Nb.trans hw hn (fun _ h => h) fun k hk2 q => ?_) (Nb.set _ _ _ _ (fun k => k = g) rfl) (fun _ h => h) fun k hk2 q => ?_⟩
  · simp only [rks, List.mem_cons, List.mem_append] at q hs
    rcases q with q | (q | q) | q
    · exact hs k (.inl q)
    · rcases hk k q with r | r
      · exact hs k (.inr (.inl (.inl r)))
      · exact .inr (by omega)
    · exact hs k (.inr (.inl (.inr q)))
    · exact hs k (.inr (.inr q))
  · rcases hs k (by simp [rks, q]) with r | r
    · exact r
    · omega
  · rcases hs k (by simp [rks, q]) with r | r
    · exact r
    · omega
theorem FPost.setN {w V : World} {B g : Nat} {T T' : Tb} {ks : List Nat} (h : FPost w B g T ks V) (n : Nat) (h1 : T'.dv = T.dv) (h2 : T'.sc = T.sc) (h3 : T'.nx = n) : FPost w B g T' ks (V.setCell ⟨g, 2, none⟩ (.int .i64 (n : Int))) := by
  obtain ⟨ks', ⟨a, s, xs, k0, h, rfl⟩, hs, hw⟩ := h
  refine ⟨_, ⟨_, _, _, _, (h.setN n).as h1 h2 h3, rfl⟩, hs, Nb.trans hw (Nb.set _ _ _ _ (fun k => k = g) rfl) (fun _ h => h) fun k hk2 q => ?_⟩
  rcases hs k (by simp [rks, q]) with r | r
  · exact r
  · omega
theorem isNm_dv {T : Tb} (h : GoodT T) (L : List Nat) : isNm T.dn L = true ↔ ∃ e ∈ T.dv, e.1 = L := by
  rw [isNm_iff h.srn]
  constructor
  · rintro ⟨e, he, h1⟩
    exact ⟨e, h.perm.mem_iff.2 he, h1⟩
  · rintro ⟨e, he, h1⟩
    exact ⟨e, h.perm.mem_iff.1 he, h1⟩
theorem own_more2 {w8 : World} {B g8 c8 : Nat} {l : List Ent} {x : Ent} (h : w8.ownsRow B 89 2 (.slice (some ⟨g8, 0, none⟩) (l.length + 1) c8) (l.length + 1) (ecs l ++ ecell x)) : w8.ownsRow B 89 2 (.slice (some ⟨g8, 0, none⟩) (l.length + 1) c8) (l ++ [x]).length (ecs (l ++ [x])) := by
  rw [ecs_append, ecs_eone, List.length_append]
  exact h
theorem rks_keep {w : World} {B g : Nat} {T : Tb} {a s : Value} {xs : List Value} {k0 : List Nat} (h : RefV w B g T a s xs k0) : g ∉ nblk a := fun q => rks_g h.nd g (by simp [q]) rfl
set_option maxRecDepth 100000 in
set_option maxHeartbeats 8000000 in
theorem rdeclare_any (g : Nat) (T : Tb) (ks : List Nat) (L : List Nat) (w : World) (B : Nat) (hB : B ≤ w.heap.size) (h : RefAt w B g T ks) (hG : GoodT T) (hc : Codes L) (hl : L.length < 9223372036854775806) :
    Calls Tryz.prog 23 #[.pointer (some ⟨g, 0, none⟩), .string (str L)] w fun e w' => e = .returned (.tuple #[.int .i64 (declV T L : Int), .int .i64 (declC T L : Int)]) ∧ FPost w B g (declT T L) ks w' := by
  have HH := Lib.hid h
  have C1 := Lib.hid (rname_any L w hc hl)
  have HG := Lib.hid hG
  have HC := Lib.hid hc
  have hdl := hG.dl
  have hnx := hG.nx
  have hvl := hG.vl
  obtain ⟨d, hd⟩ : ∃ d, d = T.dv.length := ⟨_, rfl⟩
  have HD := Lib.hid hd
  rw [← hvl, ← hd] at hdl
  clear h hG hc hvl hd
  cases hN : isN L with
  | false =>
    have e1 : declC T L = 4 := by simp [declC, hN]
    have e2 : declV T L = 0 := by simp [declV, e1]
    have e3 : declT T L = T := by simp [declT, e1]
    rw [e1, e2, e3]
    rw [hN] at C1
    clear hN e1 e2 e3
    go_enter Tryz.func23, Tryz.ntmps23
    go_wp2_with fail
    refine C1.out.mono ?_
    rintro e w1 ⟨rfl, hb1⟩
    have HB := Lib.hid hb1
    clear hb1
    go_wp2_with fail
    go_ret2
    exact ⟨rfl, FPost.same HH.out HB.out⟩
  | true =>
    rw [hN] at C1
    rcases atR_cases L T.dv 0 with ⟨hy, hno⟩ | ⟨t, e, hy, he, he1⟩
    · have HY := Lib.hid hy
      have hnm : isNm T.dn L = false := by
        cases q : isNm T.dn L with
        | false => rfl
        | true =>
          obtain ⟨e, he, h1⟩ := (isNm_dv HG.out L).1 q
          exact absurd h1 (hno e he)
      by_cases hfull : d = 4096 ∨ 1048576 - T.nx = 0
      · have e1 : declC T L = 40 := by
          unfold declC
          rw [if_neg (by rw [hN]; decide), if_neg (by rw [hnm]; decide), if_pos (by rw [← HG.out.vl, ← HD.out]; exact hfull)]
        have e2 : declV T L = 0 := by simp [declV, e1]
        have e3 : declT T L = T := by simp [declT, e1]
        rw [e1, e2, e3]
        clear e1 e2 e3 hno hnm hN hy
        by_cases hd4 : d = 4096
        · subst hd4
          clear hfull hdl
          go_enter Tryz.func23, Tryz.ntmps23
          go_wp2_with fail
          refine C1.out.mono ?_
          rintro e w1 ⟨rfl, hb1⟩
          have h1 := HH.out.below hb1
          obtain ⟨a, s, xs, k0, hv, rfl⟩ := h1
          obtain ⟨A1, c1, As, cs, x0, x1, r1, -⟩ := ref_rd hv
          have x2 : w1.cell? ⟨g, 2, none⟩ = some (.int .i64 ((T.nx : Nat) : Int)) := cell_of_row w1 g 2 _ _ _ hv.cell
          rw [← HD.out] at x0
          have C2 := at_any T.dv L A1 c1 w1 r1 HC.out (fun e he => (HG.out.ok e (HG.out.perm.mem_iff.1 he)).1) (by rw [HG.out.vl]; have := HG.out.dl; omega)
          rw [← HD.out, HY.out] at C2
          have HC2 := Lib.hid C2
          have HV := Lib.hid hv
          have HB1 := Lib.hid hb1
          clear C1 C2 hv r1 hb1 x1
          go_wp2_with fail
          refine HC2.out.mono ?_
          rintro e w2 ⟨rfl, rfl⟩
          clear HC2
          go_wp2_with fail
          go_ret2
          exact ⟨rfl, FPost.same HH.out HB1.out⟩
        · have hdg : decide ((4096 : Int) ≤ (d : Int)) = false := decide_eq_false (by omega)
          have hdg2 : decide (4096 ≤ d) = false := decide_eq_false (by omega)
          have hng : decide ((1048576 : Int) ≤ (T.nx : Int)) = true := decide_eq_true (by omega)
          obtain ⟨nx, hnxe⟩ : ∃ nx, nx = T.nx := ⟨_, rfl⟩
          rw [← hnxe] at hng
          have HNXE := Lib.hid hnxe
          clear hfull hd4 hnx hnxe
          go_enter Tryz.func23, Tryz.ntmps23
          go_wp2_with fail
          refine C1.out.mono ?_
          rintro e w1 ⟨rfl, hb1⟩
          have h1 := HH.out.below hb1
          obtain ⟨a, s, xs, k0, hv, rfl⟩ := h1
          obtain ⟨A1, c1, As, cs, x0, x1, r1, -⟩ := ref_rd hv
          have x2 : w1.cell? ⟨g, 2, none⟩ = some (.int .i64 ((T.nx : Nat) : Int)) := cell_of_row w1 g 2 _ _ _ hv.cell
          rw [← HD.out] at x0
          have C2 := at_any T.dv L A1 c1 w1 r1 HC.out (fun e he => (HG.out.ok e (HG.out.perm.mem_iff.1 he)).1) (by rw [← HD.out]; omega)
          rw [← HD.out, HY.out] at C2
          have HC2 := Lib.hid C2
          have HV := Lib.hid hv
          have HB1 := Lib.hid hb1
          rw [← HNXE.out] at x2
          clear C1 C2 hv r1 hb1 x1
          go_wp2_with fail
          refine HC2.out.mono ?_
          rintro e w2 ⟨rfl, rfl⟩
          clear HC2
          go_wp2_with fail
          go_ret2
          exact ⟨rfl, FPost.same HH.out HB1.out⟩
      · have e1 : declC T L = 0 := by
          unfold declC
          rw [if_neg (by rw [hN]; decide), if_neg (by rw [hnm]; decide), if_neg (by rw [← HG.out.vl, ← HD.out]; exact hfull)]
        have e2 : declV T L = T.nx := by simp [declV, e1]
        have e3 : declT T L = { dn := insN T.dn (L, T.nx), dv := T.dv ++ [(L, T.nx)], sc := T.sc, nx := T.nx + 1 } := by simp [declT, e1]
        rw [e1, e2, e3]
        have hdg : decide ((4096 : Int) ≤ (d : Int)) = false := decide_eq_false (by omega)
        have hdg2 : decide (4096 ≤ d) = false := decide_eq_false (by omega)
        have hng : decide ((1048576 : Int) ≤ (T.nx : Int)) = false := decide_eq_false (by omega)
        have hng2 : decide (1048576 ≤ T.nx) = false := decide_eq_false (by omega)
        obtain ⟨i0, hi, hz0, hz1, hz2⟩ := info_parts infoEntR
        clear hfull e1 e2 e3 hno hnm hN hy
        go_enter Tryz.func23, Tryz.ntmps23
        go_wp2_with fail
        refine C1.out.mono ?_
        rintro e w1 ⟨rfl, hb1⟩
        have h1 := HH.out.below hb1
        obtain ⟨a, s, xs, k0, hv, rfl⟩ := h1
        obtain ⟨A1, c1, As, cs, x0, x1, r1, -⟩ := ref_rd hv
        have x2 : w1.cell? ⟨g, 2, none⟩ = some (.int .i64 ((T.nx : Nat) : Int)) := cell_of_row w1 g 2 _ _ _ hv.cell
        rw [← HD.out] at x0
        have C2 := at_any T.dv L A1 c1 w1 r1 HC.out (fun e he => (HG.out.ok e (HG.out.perm.mem_iff.1 he)).1) (by rw [← HD.out]; omega)
        rw [← HD.out, HY.out] at C2
        have HC2 := Lib.hid C2
        have HV := Lib.hid hv
        have HB1 := Lib.hid hb1
        clear C1 C2 hv r1 hb1 x1
        go_wp2_with fail
        refine HC2.out.mono ?_
        rintro e w2 ⟨rfl, rfl⟩
        clear HC2
        go_wp2_with fail
        have hgl : g < w2.heap.size := kind_lt2 HV.out.cell
        have hal := HV.out.al
        have HBW := Lib.hid (Nat.le_trans hB HB1.out.size)
        have hown : (w2.alloc (.cells #[.string (str L), .int .i64 ((T.nx : Nat) : Int)] 89)).drew.ownsRow B 89 2 a d (ecs T.dv) := by
          rw [HD.out]
          exact nown_below hal ((Below.refl _ w2).alloc (Nat.le_refl _) _).drew
        obtain ⟨Aa, ca, rfl⟩ := nslice_form hown
        have hx0 := x0
        have hcl := cell_of_row w2 g 0 _ _ _ HV.out.cell
        have hcc : w2.cell? ⟨g, 0, none⟩ = some (.slice Aa d ca) := hcl
        have hnews : ∀ j u, (ecell (L, T.nx))[j]? = some u → (w2.alloc (.cells #[.string (str L), .int .i64 ((T.nx : Nat) : Int)] 89)).drew.cell? ((⟨w2.heap.size, 0, none⟩ : Addr).add j) = some u := World.news_of_block (cs := (ecell (L, T.nx)).toArray) (show (w2.alloc _).heap[w2.heap.size]? = _ from lone_new w2 _ _)
        have hone : ∀ u ∈ ecell (L, T.nx), u.oneCell' = true := fun u hu => by simp [ecell] at hu; rcases hu with rfl | rfl <;> rfl
        have hl63 : d + 1 ≤ maxLen := by unfold maxLen; omega
        have hlby : (d + 1) * 24 ≤ 140737488355328 := by omega
        have hbz : B ≤ (w2.alloc (.cells #[.string (str L), .int .i64 ((T.nx : Nat) : Int)] 89)).drew.heap.size := by
          have := HBW.out
          show B ≤ (w2.alloc _).heap.size
          simp
          omega
        clear x0 hx0 hcl hal
        go_cut [44] from 32 to 46 (fun s44 wx => FPost w B g { T with dv := T.dv ++ [(L, T.nx)] } (rks g (.slice Aa d ca) s k0) wx)
        case first =>
          go_region_law (refine step_append_lies _ rfl (.tmp 36) (.tmp 43) 48 rfl B 89 i0 _ 2 24 Tryz.underlying48 hi hz0 hz1 hz2 rfl (by decide) _ _ _ rfl hown ⟨w2.heap.size, 0, none⟩ 1 1 (ecell (L, T.nx)) rfl rfl hnews hone (by decide) hl63 hlby hbz _ rfl ?_
                         intro g8 c8 w8 hown8 hgrow8 hat8 hlt8
                         have hnb8 := grown_nb rfl hgrow8
                         have hc8 := (hnb8.block g hgl (rks_keep HV.out)).trans HV.out.cell
                         have zf : w8.frozen? ⟨g, 0, none⟩ = false := frozen_of hc8 0
                         have z1 := cell_of_row w8 g 0 _ _ _ hc8
                         simp only [List.getElem?_toArray, List.getElem?_cons_zero, List.getElem?_cons_succ] at z1
                         have HO8 := Lib.hid hown8
                         have HN8 := Lib.hid hnb8
                         have HA8 := Lib.hid hat8
                         clear hown8 hgrow8 hat8 hlt8 hnb8 hc8)
          all_goals
            have HP : Hid (FPost w B g { T with dv := T.dv ++ [(L, T.nx)] } (rks g (.slice Aa d ca) s k0) (w8.setCell ⟨g, 0, none⟩ (.slice (some ⟨g8, 0, none⟩) (d + 1) c8))) :=
              FPost.setA HV.out (fun _ h => .inl h) (Nb.of HB1.out) HN8.out (by
                have h2 := HO8.out
                rw [HD.out] at h2
                have h3 := own_more2 h2
                rw [← HD.out] at h3
                exact h3) (fun k hk => nblk_at (HA8.out.imp id fun h => by rw [h]; show w2.heap.size ≤ (w2.alloc _).heap.size; simp) hk)
            clear z1 zf x2 hcc hown hnews hone HO8 HN8 HA8
            go_wp2_with fail
            go_meet
            exact HP.out
        case rest =>
          have HPP := Lib.hid (hcut.setN (T' := { dn := insN T.dn (L, T.nx), dv := T.dv ++ [(L, T.nx)], sc := T.sc, nx := T.nx + 1 }) (T.nx + 1) rfl rfl rfl)
          obtain ⟨ks8, ⟨a8, s8, xs8, k8, hV8, rfl⟩, -, -⟩ := hcut
          have z3 : wc.cell? ⟨g, 2, none⟩ = some (.int .i64 ((T.nx : Nat) : Int)) := cell_of_row _ g 2 _ _ _ hV8.cell
          have zf3 : wc.frozen? ⟨g, 2, none⟩ = false := frozen_of hV8.cell 2
          have z4 : (wc.setCell ⟨g, 2, none⟩ (.int .i64 ((T.nx : Int) + 1))).cell? ⟨g, 2, none⟩ = some (.int .i64 ((T.nx : Int) + 1)) := cell_of_row _ g 2 _ _ _ (set_at _ hV8.cell)
          have hw1 : ((T.nx + 1 : Nat) : Int) = (T.nx : Int) + 1 := by omega
          rw [hw1] at HPP
          clear x2 hcc hown hnews hone hV8 hw1
          go_wp2_with fail
          go_ret2
          exact ⟨by congr 3, HPP.out⟩
    · have HY := Lib.hid hy
      have hnm : isNm T.dn L = true := (isNm_dv HG.out L).2 ⟨e, List.mem_of_getElem? he, he1⟩
      have e1 : declC T L = 6 := by
        unfold declC
        rw [if_neg (by rw [hN]; decide), if_pos hnm]
      have e2 : declV T L = 0 := by simp [declV, e1]
      have e3 : declT T L = T := by simp [declT, e1]
      rw [e1, e2, e3]
      rw [Nat.zero_add] at HY
      have ht0 : (0 : Int) ≤ (t : Int) := by omega
      clear e1 e2 e3 hnm he he1 hN hy
      go_enter Tryz.func23, Tryz.ntmps23
      go_wp2_with fail
      refine C1.out.mono ?_
      rintro e w1 ⟨rfl, hb1⟩
      have h1 := HH.out.below hb1
      obtain ⟨a, s, xs, k0, hv, rfl⟩ := h1
      obtain ⟨A1, c1, As, cs, x0, x1, r1, -⟩ := ref_rd hv
      have x2 : w1.cell? ⟨g, 2, none⟩ = some (.int .i64 ((T.nx : Nat) : Int)) := cell_of_row w1 g 2 _ _ _ hv.cell
      rw [← HD.out] at x0
      have C2 := at_any T.dv L A1 c1 w1 r1 HC.out (fun e he => (HG.out.ok e (HG.out.perm.mem_iff.1 he)).1) (by rw [← HD.out]; omega)
      rw [← HD.out, HY.out] at C2
      have HC2 := Lib.hid C2
      have HV := Lib.hid hv
      have HB1 := Lib.hid hb1
      clear C1 C2 hv r1 hb1 x1
      go_wp2_with fail
      refine HC2.out.mono ?_
      rintro e w2 ⟨rfl, rfl⟩
      clear HC2
      go_wp2_with fail
      go_ret2
      exact ⟨rfl, FPost.same HH.out HB1.out⟩
end Go.Proofs.YtcjljfjgekiocaaGreatDoor

/- The reference of layer 14: Open. -/
namespace Go.Proofs.YtcjljfjgekiocaaGreatDoor
open Go.RowKit Go.Shelf Go.Lib

set_option linter.unusedVariables false
set_option linter.unusedSimpArgs false

theorem infoScR : (Tryz.prog.info? 48).map (fun i => (i.zero, i.size, i.bytes)) = some (some (.slice none 0 0), 1, 24) := by kernel_rfl
abbrev REnt (w : World) (B : Nat) (v : Value) (l : List Ent) : Prop := w.ownsRow B 89 2 v l.length (ecs l)
abbrev RInt (w : World) (B : Nat) (v : Value) (l : List Ent) : Prop := w.ownsRow B 3 1 v l.length (ics l)
/-- what Open leaves -/
def ROpn (w : World) (B g : Nat) (T : Tb) (ks : List Nat) (ns : List (List Nat)) (e : Ending) (w' : World) : Prop :=
  ∃ v, e = .returned (.tuple #[v, .int .i64 (openC T ns : Int)]) ∧ FPost w B g (openT T ns) ks w' ∧ RInt w' w.heap.size v (openV T ns)
/-- one more scope -/
theorem RefV.setS {V w6 : World} {B g : Nat} {T : Tb} {a v s v8 : Value} {xs : List Value} {k0 : List Nat} {l lv : List Ent} (h : RefV V B g T a s xs k0) (hn : Nb (fun k => k ∈ nblk s) V w6) (ho : w6.ownsRow B 48 1 v (T.sc.length + 1) (xs ++ [v8])) (hk : ∀ k ∈ nblk v, k ∈ nblk s ∨ V.heap.size ≤ k)
    (h8 : REnt V B v8 lv) (hf : ∀ k ∈ nblk v8, k < V.heap.size ∧ k ∉ rks g a s k0) :
    RefV (w6.setCell ⟨g, 1, none⟩ v) B g { T with sc := T.sc ++ [(l, lv)] } a v (xs ++ [v8]) (k0 ++ nblk v8) := by
  have hsp : ∀ u, rks g a u k0 = (g :: nblk a) ++ (nblk u ++ k0) := fun u => by simp [rks]
  have hnd0 : (rks g a v k0).Nodup := by
    have h1 := h.nd
    have h2 := h.kind
    rw [hsp] at h1 h2 ⊢
    exact nodup_swap h1 (nblk_nd v) (fun k q => (h2 k q).2) hk
  have hnd : (rks g a v (k0 ++ nblk v8)).Nodup := by
    have e : rks g a v (k0 ++ nblk v8) = rks g a v k0 ++ nblk v8 := by simp [rks]
    rw [e, List.nodup_append]
    refine ⟨hnd0, nblk_nd v8, fun x hx y hy exy => ?_⟩
    subst exy
    obtain ⟨q1, q2⟩ := hf x hy
    simp only [rks, List.mem_cons, List.mem_append] at hx q2
    rcases hx with hx | (hx | hx) | hx
    · exact q2 (.inl hx)
    · exact q2 (.inr (.inl (.inl hx)))
    · rcases hk x hx with r | r
      · exact q2 (.inr (.inl (.inr r)))
      · omega
    · exact q2 (.inr (.inr hx))
  have hg := rks_g hnd
  have ha : ∀ k ∈ (g :: nblk a) ++ k0, k ∉ nblk s := nodup_out (by have := h.nd; rwa [hsp] at this)
  have hs : ∀ k ∈ nblk a ++ k0, (w6.setCell ⟨g, 1, none⟩ v).heap[k]? = V.heap[k]? := fun k q =>
    (Below.heap_setCell _ _ _ _ (show k ≠ g from hg k (by simp only [List.mem_append] at q ⊢; grind))).trans (hn.block k (h.kind k (by simp only [rks, List.mem_append, List.mem_cons] at q ⊢; grind)).2 (ha k (by simp only [List.mem_append, List.mem_cons] at q ⊢; grind)))
  have hs2 : ∀ k ∈ nblk v8, (w6.setCell ⟨g, 1, none⟩ v).heap[k]? = V.heap[k]? := fun k q =>
    (Below.heap_setCell _ _ _ _ (show k ≠ g from hg k (by simp only [List.mem_append] at q ⊢; grind))).trans (hn.block k (hf k q).1 fun r => (hf k q).2 (by simp only [rks, List.mem_append, List.mem_cons]; exact .inr (.inl (.inr r))))
  refine ⟨?_, h.base, nown_block h.al fun k q => hs k (by simp [q]), ?_, RSc.snoc (s := (l, lv)) (nown_block h8 fun k q => hs2 k q) (h.scs.keep fun k q => hs k (by simp [q])), hnd⟩
  · exact set_at _ ((hn.block g (kind_lt2 h.cell) (ha g (by simp))).trans h.cell)
  · show World.ownsRow _ _ _ _ _ (T.sc ++ [(l, lv)]).length _
    rw [List.length_append]
    exact nown_block ho fun k q => Below.heap_setCell _ _ _ _ (show k ≠ g from hg k (by simp [q]))
theorem bnd_take {ns : List (List Nat)} {n j : Nat} {x : List Nat} (h : ns[j]? = some x) : (bnd ns n).take (j + 1) = (bnd ns n).take j ++ [(x, n + j)] := by
  rw [List.take_add_one, bnd_at h]
  rfl
/-- two rows of a call, that lie apart, behind what lies below -/
def Lo (w W : World) (v u : Value) (l : List Ent) : Prop := REnt W w.heap.size v l ∧ RInt W w.heap.size u l ∧ (nblk v ++ nblk u).Nodup ∧ Below w.heap.size w W
/-- both appends, of whatever sizes -/
theorem two_finG {sz sz' : Nat} {w wr w8 w9 : World} {B g8 g9 j c8 c9 : Nat} {e e' : TypeId} {v u : Value} {xs ys n1 n2 : List Value} (hB : B ≤ wr.heap.size) (hv : wr.ownsRow B e sz v j xs) (hu : wr.ownsRow B e' sz' u j ys) (hd : (nblk v ++ nblk u).Nodup) (hb : Below B w wr)
    (h1 : App1 wr v.ownBlock g8 w8) (o1 : w8.ownsRow B e sz (.slice (some ⟨g8, 0, none⟩) (j + 1) c8) (j + 1) (xs ++ n1)) (h2 : App1 w8 u.ownBlock g9 w9) (o2 : w9.ownsRow B e' sz' (.slice (some ⟨g9, 0, none⟩) (j + 1) c9) (j + 1) (ys ++ n2)) :
    w9.ownsRow B e sz (.slice (some ⟨g8, 0, none⟩) (j + 1) c8) (j + 1) (xs ++ n1) ∧ g8 ≠ g9 ∧ Below B w w9 := by
  have hd2 : ∀ k ∈ nblk u, k ∉ nblk v := fun k hk hk2 => (List.nodup_append.1 hd).2.2 k hk2 k hk rfl
  have hu8 := h1.far hv hu hd2
  have hne : g8 ≠ g9 := by
    obtain ⟨Z, q1, q2, q3, q4⟩ := h1
    obtain ⟨Z', r1, r2, r3, r4⟩ := h2
    have s1 := q1.size
    have s2 := r1.size
    intro eg
    subst eg
    rcases r3 with r3 | r3
    · obtain ⟨-, c, hc⟩ := nown_kind hu g8 (by rw [nblk, r3]; simp)
      have hlt := kind_lt2 hc
      rcases q3 with q3 | q3
      · exact hd2 g8 (by rw [nblk, r3]; simp) (by rw [nblk, q3]; simp)
      · omega
    · omega
  refine ⟨nown_block o1 fun k hk => ?_, hne, hb.trans ((h1.below hv hB).trans (h2.below hu8 (Nat.le_trans hB h1.size)))⟩
  have hk : k = g8 := by simpa [nblk, Value.ownBlock] using hk
  subst hk
  obtain ⟨-, c, hc⟩ := nown_kind o1 k (by simp [nblk, Value.ownBlock])
  have hlt := kind_lt2 hc
  obtain ⟨Z', r1, r2, r3, r4⟩ := h2
  refine (r2.block k (Nat.lt_of_lt_of_le hlt r1.size) fun q => ?_).trans (r1.block k hlt)
  -- the second row's old block is another one
  have hku : k ∈ nblk u := by rw [nblk, ← q]; simp
  obtain ⟨-, c', hc'⟩ := nown_kind hu k hku
  have hlt' := kind_lt2 hc'
  obtain ⟨Z, q1, q2, q3, q4⟩ := h1
  have s1 := q1.size
  rcases q3 with q3 | q3
  · exact hd2 k hku (by rw [nblk, q3]; simp)
  · omega
theorem ropen_post {w wA wr w8 : World} {B g m j g8 c8 cv cu nx : Nat} {T : Tb} {ks : List Nat} {ns : List (List Nat)} {a : Value} {As Av Au : Option Addr} {cs : Nat} {xs : List Value} {k0 : List Nat} (hB : B ≤ w.heap.size) (hks : ks = rks g a (.slice As T.sc.length cs) k0) (hk : ∀ k ∈ ks, k < w.heap.size) (hrv : RefV wr B g T a (.slice As T.sc.length cs) xs k0)
    (hW0 : Below w.heap.size w wA) (hA : Below wA.heap.size wA wr) (hj : j = ns.length) (hm : m = T.sc.length) (hx : nx = T.nx) (hc : openC T ns = 0) (hv : wr.ownsRow wA.heap.size 89 2 (.slice Av j cv) j (ecs (bnd ns nx))) (hu : wr.ownsRow wA.heap.size 3 1 (.slice Au j cu) j (ics (bnd ns nx)))
    (hown : w8.ownsRow B 48 1 (.slice (some ⟨g8, 0, none⟩) (m + 1) c8) (m + 1) (xs ++ [.slice Av j cv])) (hgrow : (wr.alloc (.cells #[.slice Av j cv] 48)).grownBy w8 (Value.slice As m cs).ownBlock) (hat : (Value.slice As m cs).ownBlock = some g8 ∨ g8 = (wr.alloc (.cells #[.slice Av j cv] 48)).heap.size) :
    FPost w B g (openT T ns) ks ((w8.setCell ⟨g, 1, none⟩ (.slice (some ⟨g8, 0, none⟩) (m + 1) c8)).setCell ⟨g, 2, none⟩ (.int .i64 ((nx : Int) + (j : Int)))) ∧
      RInt ((w8.setCell ⟨g, 1, none⟩ (.slice (some ⟨g8, 0, none⟩) (m + 1) c8)).setCell ⟨g, 2, none⟩ (.int .i64 ((nx : Int) + (j : Int)))) w.heap.size (.slice Au j cu) (openV T ns) := by
  subst hm hx hj
  have hsA := hW0.size
  have hsr := hA.size
  have hnb : Nb (fun k => k ∈ nblk (.slice As T.sc.length cs)) wr w8 := grown_nb2 hgrow
  have hkv : ∀ k ∈ nblk (.slice (some ⟨g8, 0, none⟩) (T.sc.length + 1) c8), k ∈ nblk (.slice As T.sc.length cs) ∨ wr.heap.size ≤ k := fun k hk => nblk_at (hat.imp id fun h => by rw [h]; simp) hk
  have h8 : REnt wr B (.slice Av ns.length cv) (bnd ns T.nx) := by
    show wr.ownsRow _ _ _ _ (bnd ns T.nx).length _
    rw [bnd_len]
    exact nown_mono hv (by omega)
  have hlow : ∀ {v : Value} {e : TypeId} {sz n : Nat} {ys : List Value}, wr.ownsRow wA.heap.size e sz v n ys → ∀ k ∈ nblk v, k < wr.heap.size ∧ k ∉ ks ∧ wA.heap.size ≤ k := fun h k q => by
    obtain ⟨q1, c, q2⟩ := nown_kind h k q
    refine ⟨kind_lt2 q2, fun r => ?_, q1⟩
    have := hk k r
    omega
  have h1 := hrv.setS (l := srtE (bnd ns T.nx)) hnb hown hkv h8 (fun k q => ⟨(hlow hv k q).1, by rw [← hks]; exact (hlow hv k q).2.1⟩)
  have h2 := h1.setN (T.nx + ns.length)
  have hT : openT T ns = { T with sc := T.sc ++ [(srtE (bnd ns T.nx), bnd ns T.nx)], nx := T.nx + ns.length } := by unfold openT; rw [if_pos hc]
  have ec : ((T.nx + ns.length : Nat) : Int) = (T.nx : Int) + (ns.length : Int) := by omega
  rw [ec] at h2
  have hgk : g ∈ ks := by rw [hks]; simp [rks]
  refine ⟨⟨_, ⟨_, _, _, _, h2.as (by rw [hT]) (by rw [hT]) (by rw [hT]), rfl⟩, fun k q => ?_, ?_⟩, ?_⟩
  · simp only [rks, List.mem_cons, List.mem_append] at q
    rcases q with q | (q | q) | (q | q)
    · exact .inl (q ▸ hgk)
    · exact .inl (by rw [hks]; simp [rks, q])
    · rcases hkv k q with r | r
      · exact .inl (by rw [hks]; simp [rks, r])
      · exact .inr (by omega)
    · exact .inl (by rw [hks]; simp [rks, q])
    · exact .inr (by have := (hlow hv k q).2.2; omega)
  · have n1 : Nb (fun k => k ∈ ks) w wr := Nb.of (hW0.trans (hA.mono hW0.size))
    refine Nb.trans (Nb.trans (Nb.trans n1 hnb (fun _ h => h) fun k _ q => ?_) (Nb.set _ _ _ _ (fun k => k = g) rfl) (fun _ h => h) fun k _ q => ?_) (Nb.set _ _ _ _ (fun k => k = g) rfl) (fun _ h => h) fun k _ q => ?_
    · rw [hks]
      simp only [rks, List.mem_cons, List.mem_append]
      exact .inr (.inl (.inr q))
    · exact q ▸ hgk
    · exact q ▸ hgk
  · have e1 : openV T ns = bnd ns T.nx := by unfold openV; rw [if_pos hc]
    rw [e1]
    show World.ownsRow _ _ _ _ _ (bnd ns T.nx).length _
    rw [bnd_len]
    refine nown_mono (nown_block hu fun k q => ?_) hsA
    obtain ⟨q1, q2, q3⟩ := hlow hu k q
    have hkg : k ≠ g := fun e => q2 (e ▸ hgk)
    refine (Below.heap_setCell _ _ _ _ (show k ≠ g from hkg)).trans ((Below.heap_setCell _ _ _ _ (show k ≠ g from hkg)).trans (hnb.block k q1 fun r => q2 ?_))
    rw [hks]
    simp only [rks, List.mem_cons, List.mem_append]
    exact .inr (.inl (.inr r))
set_option maxRecDepth 100000 in
set_option maxHeartbeats 8000000 in
theorem ropen_any (g : Nat) (T : Tb) (ks : List Nat) (ns : List (List Nat)) (A : Option Addr) (cap : Nat) (w : World) (B : Nat) (hB : B ≤ w.heap.size) (h : RefAt w B g T ks) (hG : GoodT T) (hr : RdS w A ns) (hok : OkS ns) (hok2 : ∀ x ∈ ns, x.length < 9223372036854775806) (hl : ns.length ≤ 1000) :
    Calls Tryz.prog 24 #[.pointer (some ⟨g, 0, none⟩), .slice A ns.length cap] w (ROpn w B g T ks ns) := by
  have HH := Lib.hid h
  have HG := Lib.hid hG
  have HR := Lib.hid hr
  have HOK := Lib.hid hok
  have HOK2 := Lib.hid hok2
  have hsl := hG.sl
  have hnx := hG.nx
  obtain ⟨n, hn⟩ : ∃ n, n = ns.length := ⟨_, rfl⟩
  obtain ⟨m, hm⟩ : ∃ m, m = T.sc.length := ⟨_, rfl⟩
  obtain ⟨nx, hx⟩ : ∃ nx, nx = T.nx := ⟨_, rfl⟩
  have HN := Lib.hid hn
  have HM := Lib.hid hm
  have HX := Lib.hid hx
  rw [← hn] at hl ⊢
  rw [← hm] at hsl
  rw [← hx] at hnx
  have HC : Hid (openC T ns = if (ns = [] ∨ (ns.any fun x => !isN x) = true) then 4 else if ¬ ns.Nodup then 6 else if T.sc.length = 64 ∨ 1048576 - T.nx < ns.length then 40 else 0) := rfl
  obtain ⟨i0, hi, hz0, hz1, hz2⟩ := info_parts infoEntR
  obtain ⟨i3, hi3, hz30, hz31, hz32⟩ := info_parts infoIntN
  obtain ⟨i4, hi4, hz40, hz41, hz42⟩ := info_parts infoScR
  clear h hG hr hok hok2 hn hm hx
  go_enter Tryz.func24, Tryz.ntmps24
  by_cases h0 : n = 0
  · have hc : openC T ns = 4 := by rw [HC.out, if_pos (.inl (List.length_eq_zero_iff.1 (by rw [← HN.out]; exact h0)))]
    have HCC := Lib.hid hc
    subst h0
    clear hc
    go_wp2_with fail
    go_ret2
    refine ⟨_, by rw [HCC.out]; rfl, ?_, ?_⟩
    · unfold openT
      rw [if_neg (by rw [HCC.out]; decide)]
      exact FPost.same HH.out (Below.refl _ _)
    · unfold openV
      rw [if_neg (by rw [HCC.out]; decide)]
      exact World.ownsRow_nil _ _ _ _
  have h0I : ((n : Int) == 0) = false := by simp; omega
  have h0D : decide ((n : Int) = 0) = false := decide_eq_false (by omega)
  have H0 := Lib.hid h0
  clear h0
  go_wp2_with fail
  go_loopw [6] (fun s wr => ∃ j : Nat, s = .int .i64 (j : Int) ∧ j ≤ n ∧ Hid (∀ x ∈ ns.take j, isN x = true) ∧ Below w.heap.size w wr) (fun s _ => n - (intOf s).toNat)
  case atStart => exact ⟨0, rfl, Nat.zero_le _, fun x hx => by simp at hx, Below.refl _ _⟩
  case round =>
    obtain ⟨j, rfl, hj, HNJ, hb⟩ := hrel
    have HB := Lib.hid hb
    clear hb
    by_cases hlt : j < n
    · have hltI : (j : Int) < (n : Int) := by omega
      obtain ⟨x, hx⟩ : ∃ x, ns[j]? = some x := ⟨_, List.getElem?_eq_getElem (by rw [← HN.out]; exact hlt)⟩
      obtain ⟨bs, ofs, rfl, hbs, y1⟩ := HR.out.atl hx
      have y2 := (HB.out.cell (p := ⟨bs, ofs + j, none⟩) hbs).trans y1
      have hm := List.mem_of_getElem? hx
      have C1 := rname_any x wr (HOK.out x hm).1 (HOK2.out x hm)
      obtain ⟨d, hd⟩ : ∃ d, d = isN x := ⟨_, rfl⟩
      rw [← hd] at C1
      have HC1 := Lib.hid C1
      have HXX := Lib.hid hx
      have HD := Lib.hid hd
      clear hx y1 hm C1 hd
      go_wp2_with fail
      refine HC1.out.mono ?_
      rintro e w1 ⟨rfl, hb1⟩
      have HB1 := Lib.hid (HB.out.trans (hb1.mono HB.out.size))
      clear hb1 HC1
      cases d
      · have hc : openC T ns = 4 := by
          have ha : (ns.any fun x => !isN x) = true := List.any_eq_true.2 ⟨x, List.mem_of_getElem? HXX.out, by rw [← HD.out]; rfl⟩
          rw [HC.out, if_pos (.inr ha)]
        have HCC := Lib.hid hc
        clear hc
        go_wp2_with fail
        go_ret2
        refine ⟨_, by rw [HCC.out]; rfl, ?_, ?_⟩
        · unfold openT
          rw [if_neg (by rw [HCC.out]; decide)]
          exact FPost.same HH.out HB1.out
        · unfold openV
          rw [if_neg (by rw [HCC.out]; decide)]
          exact World.ownsRow_nil _ _ _ _
      · go_wp2_with fail
        exact ⟨⟨j + 1, by go_num, by omega, fun y hy => by
          rw [List.take_add_one, HXX.out] at hy
          rcases List.mem_append.1 hy with q | q
          · exact HNJ.out y q
          · obtain rfl : y = x := by simpa using q
            exact HD.out.symm, HB1.out⟩, by simp [intOf]; omega⟩
    · have hltI : ¬ (j : Int) < (n : Int) := by omega
      have hany : (ns.any fun x => !isN x) = false := by
        rw [List.any_eq_false]
        intro x hx
        have := HNJ.out x (by rw [List.take_of_length_le (by rw [← HN.out]; omega)]; exact hx)
        simp [this]
      have hne : ¬ (ns = [] ∨ (ns.any fun x => !isN x) = true) := fun q => by
        rcases q with q | q
        · exact H0.out (by rw [HN.out, q]; rfl)
        · rw [hany] at q
          cases q
      have HCD : Hid (openC T ns = if ¬ ns.Nodup then 6 else if T.sc.length = 64 ∨ 1048576 - T.nx < ns.length then 40 else 0) := by
        show _ = _
        rw [HC.out, if_neg hne]
      clear hany hne HC HNJ
      obtain ⟨wA, rfl⟩ : ∃ wA : World, wA = wr := ⟨_, rfl⟩
      have HW0 := HB
      go_wp2_with fail
      go_loopw [7, 8, 9] (fun v u s w2 => ∃ j : Nat, s = .int .i64 (j : Int) ∧ j ≤ n ∧ Hid ((ns.take j).Nodup) ∧ Lo wA w2 v u ((bnd ns nx).take j)) (fun _ _ s _ => n - (intOf s).toNat)
      case atStart => exact ⟨0, rfl, Nat.zero_le _, by show List.Nodup _; simp, by rw [List.take_zero]; exact World.ownsRow_nil _ _ _ _, by rw [List.take_zero]; exact World.ownsRow_nil _ _ _ _, by simp [nblk, Value.ownBlock], Below.refl _ _⟩
      case round =>
        obtain ⟨j, rfl, hj, HND, hLo⟩ := hrel
        obtain ⟨hv, hu, hd, hb⟩ := hLo
        have hlen : ((bnd ns nx).take j).length = j := by rw [List.length_take, bnd_len, ← HN.out]; omega
        have hv2 := hv
        have hu2 := hu
        unfold REnt at hv2
        unfold RInt at hu2
        rw [hlen] at hv2 hu2
        obtain ⟨Av, cv, rfl⟩ := nslice_form hv2
        obtain ⟨Au, cu, rfl⟩ := nslice_form hu2
        have HV := Lib.hid hv2
        have HU := Lib.hid hu2
        have HD := Lib.hid hd
        have HB := Lib.hid hb
        have hbw := HW0.out.trans (hb.mono HW0.out.size)
        have HBW := Lib.hid hbw
        by_cases hlt : j < n
        · have hltI : (j : Int) < (n : Int) := by omega
          obtain ⟨x, hx⟩ : ∃ x, ns[j]? = some x := ⟨_, List.getElem?_eq_getElem (by rw [← HN.out]; exact hlt)⟩
          obtain ⟨bs, ofs, rfl, hbs, y1⟩ := HR.out.atl hx
          have y2 := (hbw.cell (p := ⟨bs, ofs + j, none⟩) hbs).trans y1
          have hm := List.mem_of_getElem? hx
          have r1 : RdE wr Av ((bnd ns nx).take j) := by
            obtain ⟨A', c', e0, r1⟩ := ents_rd hv
            injection e0 with e01 e02 e03
            rw [e01]
            exact r1
          have C1 := at_any ((bnd ns nx).take j) x Av cv wr r1 (HOK.out x hm).1 (fun e he => (HOK.out e.1 (bnd_mem (List.mem_of_mem_take he)).1).1) (by rw [hlen]; omega)
          rw [hlen] at C1
          have HCS := Lib.hid (atR_cases x ((bnd ns nx).take j) 0)
          obtain ⟨z, hz⟩ : ∃ z, z = atR x 0 ((bnd ns nx).take j) := ⟨_, rfl⟩
          rw [← hz] at C1 HCS
          have HC1 := Lib.hid C1
          have HXX := Lib.hid hx
          have hrg := HH.out.below hbw
          have HRG := Lib.hid hrg
          obtain ⟨a, s, xs, k0, hrv, -⟩ := hrg
          have x2 : wr.cell? ⟨g, 2, none⟩ = some (.int .i64 ((nx : Nat) : Int)) := by
            have := cell_of_row wr g 2 _ _ _ hrv.cell
            rw [← HX.out] at this
            exact this
          have hgl : g < wr.heap.size := kind_lt2 hrv.cell
          clear hx y1 hm C1 hz hv hu hv2 hu2 hd hb hrv hbw r1 hlen
          go_wp2_with fail
          refine HC1.out.mono ?_
          rintro e w1 ⟨rfl, rfl⟩
          rcases HCS.out with ⟨rfl, hno⟩ | ⟨t, e, rfl, he, he1⟩
          · have HNO := Lib.hid hno
            have hw1 : IntKind.i64.wrap ((nx : Int) + (j : Int)) = (nx : Int) + (j : Int) := by rw [IntKind.wrap_i64]; omega
            clear hno HC1
            go_wp2_with fail
            have hwA : wA.heap.size ≤ w1.heap.size := HB.out.size
            have hownv := nown_below HV.out ((Below.refl w1.heap.size w1).alloc (Nat.le_refl _) (.cells #[.string (str x), .int .i64 ((nx : Int) + (j : Int))] 89)).drew
            have hnews : ∀ q u, [Value.string (str x), .int .i64 ((nx : Int) + (j : Int))][q]? = some u → (w1.alloc (.cells #[.string (str x), .int .i64 ((nx : Int) + (j : Int))] 89)).drew.cell? ((⟨w1.heap.size, 0, none⟩ : Addr).add q) = some u := World.news_of_block (cs := #[.string (str x), .int .i64 ((nx : Int) + (j : Int))]) (show (w1.alloc _).heap[w1.heap.size]? = _ from lone_new w1 _ _)
            have hone : ∀ u ∈ [Value.string (str x), .int .i64 ((nx : Int) + (j : Int))], u.oneCell' = true := fun u hu => by simp at hu; rcases hu with rfl | rfl <;> rfl
            have hl63 : j + 1 ≤ maxLen := by unfold maxLen; omega
            have hlby : (j + 1) * 24 ≤ 140737488355328 := by omega
            have hlby8 : (j + 1) * 8 ≤ 140737488355328 := by omega
            have hbz : wA.heap.size ≤ (w1.alloc (.cells #[.string (str x), .int .i64 ((nx : Int) + (j : Int))] 89)).drew.heap.size := by
              show _ ≤ (w1.alloc _).heap.size
              simp
              omega
            go_region_law (refine step_append_lies _ rfl (.tmp 38) (.tmp 50) 48 rfl wA.heap.size 89 i0 _ 2 24 Tryz.underlying48 hi hz0 hz1 hz2 rfl (by decide) _ _ _ rfl hownv ⟨w1.heap.size, 0, none⟩ 1 1 [.string (str x), .int .i64 ((nx : Int) + (j : Int))] rfl rfl hnews hone (by decide) hl63 hlby hbz _ rfl ?_
                           intro g8 c8 w8 hown8 hgrow8 hat8 hlt8
                           have HA8 := Lib.hid (show App1 w1 (Value.slice Av j cv).ownBlock g8 w8 from ⟨_, ((Below.refl _ w1).alloc (Nat.le_refl _) _).drew, hgrow8, hat8, hlt8⟩)
                           have HO8 := Lib.hid hown8
                           clear hown8 hgrow8 hat8 hlt8)
            all_goals
              have HB8 := Lib.hid (HB.out.trans (HA8.out.below HV.out HB.out.size))
              have hb8 := HW0.out.trans (HB8.out.mono HW0.out.size)
              obtain ⟨a8, s8, xs8, k8, hrv8, -⟩ := HH.out.below hb8
              have z2 : w8.cell? ⟨g, 2, none⟩ = some (.int .i64 ((nx : Nat) : Int)) := by
                have := cell_of_row w8 g 2 _ _ _ hrv8.cell
                rw [← HX.out] at this
                exact this
              have hgl8 : g < w8.heap.size := kind_lt2 hrv8.cell
              have HD2 : Hid (∀ k ∈ nblk (Value.slice Au j cu), k ∉ nblk (Value.slice Av j cv)) := fun k h1 h2 => (List.nodup_append.1 HD.out).2.2 k h2 k h1 rfl
              have hownu := nown_below (HA8.out.far HV.out HU.out HD2.out) ((Below.refl w8.heap.size w8).alloc (Nat.le_refl _) (.cells #[.int .i64 ((nx : Int) + (j : Int))] 3))
              have hnews8 : ∀ q u, [Value.int .i64 ((nx : Int) + (j : Int))][q]? = some u → (w8.alloc (.cells #[.int .i64 ((nx : Int) + (j : Int))] 3)).cell? ((⟨w8.heap.size, 0, none⟩ : Addr).add q) = some u := World.news_of_block (cs := #[.int .i64 ((nx : Int) + (j : Int))]) (show (w8.alloc _).heap[w8.heap.size]? = _ from lone_new w8 _ _)
              have hone8 : ∀ u ∈ [Value.int .i64 ((nx : Int) + (j : Int))], u.oneCell' = true := fun u hu => by simp at hu; rcases hu with rfl; rfl
              have hbz8 : wA.heap.size ≤ (w8.alloc (.cells #[.int .i64 ((nx : Int) + (j : Int))] 3)).heap.size := by
                have := HB8.out.size
                simp
                omega
              clear hownv hnews hone hbz y2 x2 hb8 hrv8 hlby hgl
              go_wp2_with (at_builtin; refine wpList_append_lies _ rfl _ _ 30 rfl wA.heap.size 3 i3 _ 1 8 Tryz.underlying30 hi3 hz30 hz31 hz32 rfl (by decide) _ _ _ rfl hownu ⟨w8.heap.size, 0, none⟩ 1 1 [.int .i64 ((nx : Int) + (j : Int))] rfl rfl hnews8 hone8 (by decide) hl63 hlby8 hbz8 _ rfl ?_; intro g9 c9 w9 hown9 hgrow9 hat9 hlt9)
              have HA9 := Lib.hid (show App1 w8 (Value.slice Au j cu).ownBlock g9 w9 from ⟨_, (Below.refl _ w8).alloc (Nat.le_refl _) _, hgrow9, hat9, hlt9⟩)
              have HF := Lib.hid (two_finG HB.out.size HV.out HU.out HD.out HB.out HA8.out HO8.out HA9.out hown9)
              have HO9 := Lib.hid hown9
              clear hown9 hgrow9 hat9 hlt9 hownu hnews8 hone8 hbz8 z2
              have HNEW : Hid (Lo wA w9 (.slice (some ⟨g8, 0, none⟩) (j + 1) c8) (.slice (some ⟨g9, 0, none⟩) (j + 1) c9) ((bnd ns nx).take (j + 1))) := by
                have hl1 : ((bnd ns nx).take (j + 1)).length = j + 1 := by rw [List.length_take, bnd_len, ← HN.out]; omega
                have ec : ((nx + j : Nat) : Int) = (nx : Int) + (j : Int) := by omega
                have e1 : ecs ((bnd ns nx).take (j + 1)) = ecs ((bnd ns nx).take j) ++ [.string (str x), .int .i64 ((nx : Int) + (j : Int))] := by
                  rw [bnd_take HXX.out, ecs_append, ecs_eone]
                  unfold ecell
                  rw [ec]
                have e2 : ics ((bnd ns nx).take (j + 1)) = ics ((bnd ns nx).take j) ++ [.int .i64 ((nx : Int) + (j : Int))] := by
                  rw [bnd_take HXX.out]
                  unfold ics
                  rw [List.map_append]
                  show _ ++ [Value.int .i64 ((nx + j : Nat) : Int)] = _
                  rw [ec]
                refine ⟨?_, ?_, ?_, HF.out.2.2⟩
                · show w9.ownsRow _ _ _ _ _ _
                  rw [hl1, e1]
                  exact HF.out.1
                · show w9.ownsRow _ _ _ _ _ _
                  rw [hl1, e2]
                  exact HO9.out
                · have := HF.out.2.1
                  simpa [nblk, Value.ownBlock] using this
              have HND2 : Hid ((ns.take (j + 1)).Nodup) := by
                show List.Nodup _
                rw [List.take_add_one, HXX.out, List.nodup_append]
                refine ⟨HND.out, by simp, fun a ha b hb e => ?_⟩
                have hbx : b = x := by simpa using hb
                subst hbx
                obtain ⟨q, hq⟩ := List.mem_iff_getElem?.1 ha
                have hqj : q < j := by
                  have := (List.getElem?_eq_some_iff.1 hq).1
                  rw [List.length_take] at this
                  omega
                rw [List.getElem?_take, if_pos hqj] at hq
                refine HNO.out (a, nx + q) (List.mem_of_getElem? (i := q) ?_) e
                rw [List.getElem?_take, if_pos hqj]
                exact bnd_at hq
              go_wp2_with fail
              exact ⟨⟨j + 1, by go_num, by omega, HND2.out, HNEW.out⟩, by simp [intOf]; omega⟩
          · have hc : openC T ns = 6 := by
              rw [HCD.out, if_pos]
              intro hnd
              have hlt2 : t < j := by
                have := (List.getElem?_eq_some_iff.1 he).1
                rw [List.length_take] at this
                omega
              rw [List.getElem?_take, if_pos hlt2] at he
              have htn : t < ns.length := by rw [← HN.out]; omega
              rw [bnd_at (List.getElem?_eq_getElem htn)] at he
              injection he with he
              have e1 : ns[t] = x := by rw [← he1, ← he]
              have e2 : ns[j]'(by rw [← HN.out]; exact hlt) = x := (List.getElem?_eq_some_iff.1 HXX.out).2
              have := List.pairwise_iff_getElem.1 hnd t j htn (by rw [← HN.out]; exact hlt) hlt2
              exact this (e1.trans e2.symm)
            have HCC := Lib.hid hc
            have ht0 : (0 : Int) ≤ (t : Int) := by omega
            rw [Nat.zero_add]
            clear hc he he1 HC1
            go_wp2_with fail
            go_ret2
            refine ⟨_, by rw [HCC.out]; rfl, ?_, ?_⟩
            · unfold openT
              rw [if_neg (by rw [HCC.out]; decide)]
              exact FPost.same HH.out HBW.out
            · unfold openV
              rw [if_neg (by rw [HCC.out]; decide)]
              exact World.ownsRow_nil _ _ _ _
        · have hltI : ¬ (j : Int) < (n : Int) := by omega
          obtain rfl : j = n := by omega
          have hnd : ns.Nodup := by
            have := HND.out
            rwa [List.take_of_length_le (by rw [← HN.out]; exact Nat.le_refl _)] at this
          have hbl : (bnd ns nx).take j = bnd ns nx := List.take_of_length_le (by rw [bnd_len, ← HN.out]; exact Nat.le_refl _)
          have hcd := HCD.out
          rw [if_neg (fun q => q hnd), ← HM.out, ← HX.out, ← HN.out] at hcd
          have hrg := HH.out.below hbw
          obtain ⟨a, s, xs, k0, hrv, hks⟩ := hrg
          obtain ⟨As, cs, rfl⟩ := nslice_form hrv.row
          have x1 : wr.cell? ⟨g, 1, none⟩ = some (.slice As m cs) := by
            have := cell_of_row wr g 1 _ _ _ hrv.cell
            rw [← HM.out] at this
            exact this
          have x2 : wr.cell? ⟨g, 2, none⟩ = some (.int .i64 ((nx : Nat) : Int)) := by
            have := cell_of_row wr g 2 _ _ _ hrv.cell
            rw [← HX.out] at this
            exact this
          have hgl : g < wr.heap.size := kind_lt2 hrv.cell
          rw [hbl] at HV HU
          have HRV := Lib.hid hrv
          have HKS := Lib.hid hks
          by_cases hfull : m = 64 ∨ 1048576 - nx < j
          · rw [if_pos hfull] at hcd
            have HCC := Lib.hid hcd
            have hw1 : IntKind.i64.wrap ((nx : Int) + (j : Int)) = (nx : Int) + (j : Int) := by rw [IntKind.wrap_i64]; omega
            have HE1 : Hid (FPost w B g (openT T ns) ks wr ∧ RInt wr w.heap.size (.slice none 0 0) (openV T ns)) := by
              refine ⟨?_, ?_⟩
              · unfold openT
                rw [if_neg (by rw [HCC.out]; decide)]
                exact FPost.same HH.out HBW.out
              · unfold openV
                rw [if_neg (by rw [HCC.out]; decide)]
                exact World.ownsRow_nil _ _ _ _
            by_cases hm4 : m = 64
            · subst hm4
              clear hcd hfull hv hu hv2 hu2 hd hb hbw hrv hks hnd hbl hlen
              go_wp2_with fail
              go_ret2
              exact ⟨_, by rw [HCC.out]; rfl, HE1.out⟩
            · have hmg : decide ((64 : Int) ≤ (m : Int)) = false := decide_eq_false (by omega)
              have hmg2 : decide (64 ≤ m) = false := decide_eq_false (by omega)
              have hxg : decide ((1048576 : Int) < (nx : Int) + (j : Int)) = true := decide_eq_true (by omega)
              clear hcd hfull hv hu hv2 hu2 hd hb hbw hrv hks hnd hbl hlen hm4
              go_wp2_with fail
              go_ret2
              exact ⟨_, by rw [HCC.out]; rfl, HE1.out⟩
          · rw [if_neg hfull] at hcd
            have HCC := Lib.hid hcd
            have hw1 : IntKind.i64.wrap ((nx : Int) + (j : Int)) = (nx : Int) + (j : Int) := by rw [IntKind.wrap_i64]; omega
            have hmg : decide ((64 : Int) ≤ (m : Int)) = false := decide_eq_false (by omega)
            have hmg2 : decide (64 ≤ m) = false := decide_eq_false (by omega)
            have hxg : decide ((1048576 : Int) < (nx : Int) + (j : Int)) = false := decide_eq_false (by omega)
            have hxg2 : ¬ (1048576 : Int) < (nx : Int) + (j : Int) := by omega
            have HFN := Lib.hid hfull
            have hownr : (wr.alloc (.cells #[.slice Av j cv] 48)).ownsRow B 48 1 (.slice As m cs) m xs := by
              have := hrv.row
              rw [← HM.out] at this
              exact nown_below this ((Below.refl _ wr).alloc (Nat.le_refl _) _)
            have hnews : ∀ q u, [Value.slice Av j cv][q]? = some u → (wr.alloc (.cells #[.slice Av j cv] 48)).cell? ((⟨wr.heap.size, 0, none⟩ : Addr).add q) = some u := World.news_of_block (cs := #[.slice Av j cv]) (show (wr.alloc _).heap[wr.heap.size]? = _ from lone_new wr _ _)
            have hone : ∀ u ∈ [Value.slice Av j cv], u.oneCell' = true := fun u hu => by simp at hu; rcases hu with rfl; rfl
            have hl63 : m + 1 ≤ maxLen := by unfold maxLen; omega
            have hlby : (m + 1) * 24 ≤ 140737488355328 := by omega
            have hbz : B ≤ (wr.alloc (.cells #[.slice Av j cv] 48)).heap.size := by
              have := HBW.out.size
              simp
              omega
            clear hcd hfull hv hu hv2 hu2 hd hb hbw hrv hks hnd hbl hlen
            go_wp2_with (at_builtin
                         refine wpList_append_lies _ rfl _ _ 49 rfl B 48 i4 _ 1 24 Tryz.underlying49 hi4 hz40 hz41 hz42 rfl (by decide) _ _ _ rfl hownr ⟨wr.heap.size, 0, none⟩ 1 1 [.slice Av j cv] rfl rfl hnews hone (by decide) hl63 hlby hbz _ rfl ?_
                         intro g8 c8 w8 hown8 hgrow8 hat8 hlt8
                         have hgrow : (wr.alloc (.cells #[.slice Av j cv] 48)).grownBy w8 (Value.slice As m cs).ownBlock := hgrow8
                         have hat : (Value.slice As m cs).ownBlock = some g8 ∨ g8 = (wr.alloc (.cells #[.slice Av j cv] 48)).heap.size := hat8
                         have hnb : Nb (fun k => k ∈ nblk (.slice As m cs)) wr w8 := grown_nb2 hgrow
                         have hgs : g ∉ nblk (.slice As m cs) := fun q => by
                           rw [HM.out] at q
                           exact rks_g HRV.out.nd g (by
                             simp only [List.mem_append]
                             exact .inl (.inr q)) rfl
                         have hc8 := (hnb.block g hgl hgs).trans HRV.out.cell
                         have z1 := cell_of_row w8 g 1 _ _ _ hc8
                         have zf1 : w8.frozen? ⟨g, 1, none⟩ = false := frozen_of hc8 1
                         have hc9 := set_at (g := g) (o := 1) (.slice (some ⟨g8, 0, none⟩) (m + 1) c8) hc8
                         have z2 : (w8.setCell ⟨g, 1, none⟩ (.slice (some ⟨g8, 0, none⟩) (m + 1) c8)).cell? ⟨g, 2, none⟩ = some (.int .i64 (nx : Int)) := by
                           have := cell_of_row _ g 2 _ _ _ hc9
                           rw [← HX.out] at this
                           exact this
                         have zf2 : (w8.setCell ⟨g, 1, none⟩ (.slice (some ⟨g8, 0, none⟩) (m + 1) c8)).frozen? ⟨g, 2, none⟩ = false := frozen_of hc9 2
                         have HP := Lib.hid (ropen_post hB HKS.out (fun k hk => (HH.out.kind k hk).2) HRV.out HW0.out HB.out HN.out HM.out HX.out HCC.out HV.out HU.out hown8 hgrow hat)
                         simp only [List.getElem?_toArray, List.getElem?_cons_zero, List.getElem?_cons_succ] at z1
                         clear hown8 hgrow8 hat8 hlt8 hgrow hat hnb hgs hc8 hc9 hownr hnews hone hbz x1 x2)
            go_wp2_with fail
            go_ret2
            exact ⟨_, by rw [HCC.out]; rfl, HP.out⟩
end Go.Proofs.YtcjljfjgekiocaaGreatDoor

/- The reference of layer 14: Declared. (Printed by wip/mknamax.py.) -/
namespace Go.Proofs.YtcjljfjgekiocaaGreatDoor
open Go.RowKit Go.Shelf Go.Lib

set_option linter.unusedVariables false
set_option linter.unusedSimpArgs false

/-- not told yet: it stands behind the last one that was -/
def cand (last : Option (List Nat)) (e : Ent) : Bool := match last with
  | none => true
  | some L => ltn L e.1
def Best (last : Option (List Nat)) (l : List Ent) (b : Int) : Prop := (b = -1 ∧ ∀ e ∈ l, cand last e = false) ∨ ∃ (t : Nat) (e : Ent), b = (t : Int) ∧ l[t]? = some e ∧ cand last e = true ∧ ∀ x ∈ l, cand last x = true → ltn x.1 e.1 = false
def lastN (l : List Ent) (k : Nat) : Option (List Nat) := if k = 0 then none else (l[k - 1]?).map (·.1)
theorem Best.zero (last : Option (List Nat)) (l : List Ent) : Best last (l.take 0) (-1) := .inl ⟨rfl, fun e he => by simp at he⟩
theorem Best.skip {last : Option (List Nat)} {l : List Ent} {i : Nat} {b : Int} {e : Ent} (h : Best last (l.take i) b) (he : l[i]? = some e) (hc : cand last e = false) : Best last (l.take (i + 1)) b := by
  have hm : ∀ x ∈ l.take (i + 1), x ∈ l.take i ∨ x = e := fun x hx => by
    rw [List.take_add_one, he] at hx
    rcases List.mem_append.1 hx with q | q
    · exact .inl q
    · exact .inr (by simpa using q)
  rcases h with ⟨h1, h2⟩ | ⟨t, y, h1, h2, h3, h4⟩
  · refine .inl ⟨h1, fun x hx => ?_⟩
    rcases hm x hx with q | rfl
    · exact h2 x q
    · exact hc
  · refine .inr ⟨t, y, h1, ?_, h3, fun x hx hcx => ?_⟩
    · have ht := (List.getElem?_eq_some_iff.1 h2).1
      rw [List.length_take] at ht
      rw [List.getElem?_take] at h2 ⊢
      rw [if_pos (by omega)] at h2 ⊢
      exact h2
    · rcases hm x hx with q | rfl
      · exact h4 x q hcx
      · rw [hc] at hcx
        cases hcx
theorem Best.take {last : Option (List Nat)} {l : List Ent} {i : Nat} {b : Int} {e : Ent} (h : Best last (l.take i) b) (he : l[i]? = some e) (hc : cand last e = true) (hb : ∀ t y, b = ((t : Nat) : Int) → l[t]? = some y → ltn e.1 y.1 = true) : Best last (l.take (i + 1)) (i : Int) := by
  refine .inr ⟨i, e, rfl, by rw [List.getElem?_take, if_pos (Nat.lt_succ_self _)]; exact he, hc, fun x hx hcx => ?_⟩
  rw [List.take_add_one, he] at hx
  rcases List.mem_append.1 hx with q | q
  · rcases h with ⟨h1, h2⟩ | ⟨t, y, h1, h2, h3, h4⟩
    · rw [h2 x q] at hcx
      cases hcx
    · have h5 := h4 x q hcx
      rw [List.getElem?_take] at h2
      split at h2
      · have h6 := hb t y h1 h2
        cases h7 : ltn x.1 e.1 with
        | false => rfl
        | true =>
          rw [ltn_trans h7 h6] at h5
          cases h5
      · cases h2
  · obtain rfl : x = e := by simpa using q
    exact ltn_irr _
theorem Best.stay {last : Option (List Nat)} {l : List Ent} {i t : Nat} {e y : Ent} (h : Best last (l.take i) (t : Int)) (he : l[i]? = some e) (hy : l[t]? = some y) (hb : ltn e.1 y.1 = false) : Best last (l.take (i + 1)) (t : Int) := by
  rcases h with ⟨h1, h2⟩ | ⟨t', y', h1, h2, h3, h4⟩
  · omega
  · have e1 : t' = t := by omega
    subst e1
    have ht := (List.getElem?_eq_some_iff.1 h2).1
    rw [List.length_take] at ht
    rw [List.getElem?_take, if_pos (by omega), hy] at h2
    injection h2 with h2
    subst h2
    refine .inr ⟨t', y, rfl, by rw [List.getElem?_take, if_pos (by omega)]; exact hy, h3, fun x hx hcx => ?_⟩
    rw [List.take_add_one, he] at hx
    rcases List.mem_append.1 hx with q | q
    · exact h4 x q hcx
    · obtain rfl : x = e := by simpa using q
      exact hb
/-- the best of all is the next one in the row -/
theorem Best.next {l m : List Ent} {k : Nat} {b : Int} {x : Ent} (hs : SrN m) (hp : l.Perm m) (hx : m[k]? = some x) (h : Best (lastN m k) l b) : ∃ t, b = ((t : Nat) : Int) ∧ l[t]? = some x := by
  have hcand : ∀ {q : Nat} {e : Ent}, m[q]? = some e → (cand (lastN m k) e = true ↔ k ≤ q) := fun {q} {e} he => by
    unfold lastN
    by_cases hk : k = 0
    · rw [if_pos hk]
      exact ⟨fun _ => by omega, fun _ => rfl⟩
    · rw [if_neg hk]
      have hkl := (List.getElem?_eq_some_iff.1 hx).1
      obtain ⟨y, hy⟩ : ∃ y, m[k - 1]? = some y := ⟨_, List.getElem?_eq_getElem (by omega)⟩
      rw [hy]
      show ltn y.1 e.1 = true ↔ _
      obtain ⟨h1, h2⟩ := List.getElem?_eq_some_iff.1 hy
      obtain ⟨h3, h4⟩ := List.getElem?_eq_some_iff.1 he
      constructor
      · intro hl
        rcases Nat.lt_or_ge q k with hq | hq
        · exfalso
          rcases Nat.lt_or_ge q (k - 1) with hq2 | hq2
          · have := List.pairwise_iff_getElem.1 hs q (k - 1) h3 h1 hq2
            rw [h2, h4] at this
            rw [ltn_asym this] at hl
            cases hl
          · have : q = k - 1 := by omega
            subst this
            rw [h2] at h4
            rw [h4, ltn_irr] at hl
            cases hl
        · exact hq
      · intro hq
        have := List.pairwise_iff_getElem.1 hs (k - 1) q h1 h3 (by omega)
        rwa [h2, h4] at this
  have hxc := (hcand hx).2 (Nat.le_refl _)
  rcases h with ⟨h1, h2⟩ | ⟨t, e, h1, h2, h3, h4⟩
  · rw [h2 x (hp.mem_iff.2 (List.mem_of_getElem? hx))] at hxc
    cases hxc
  · refine ⟨t, h1, ?_⟩
    obtain ⟨q, hq⟩ := List.mem_iff_getElem?.1 (hp.mem_iff.1 (List.mem_of_getElem? h2))
    have hkq := (hcand hq).1 h3
    have h5 := h4 x (hp.mem_iff.2 (List.mem_of_getElem? hx)) hxc
    rcases Nat.lt_or_ge k q with hlt | hge
    · obtain ⟨g1, g2⟩ := List.getElem?_eq_some_iff.1 hx
      obtain ⟨g3, g4⟩ := List.getElem?_eq_some_iff.1 hq
      have := List.pairwise_iff_getElem.1 hs k q g1 g3 hlt
      rw [g2, g4] at this
      rw [this] at h5
      cases h5
    · have : q = k := by omega
      subst this
      rw [hx] at hq
      injection hq with hq
      rw [hq]
      exact h2
def lenS : Value → Nat
  | .slice _ n _ => n
  | _ => 0
set_option maxRecDepth 100000 in
set_option maxHeartbeats 16000000 in
theorem rdeclared_any (g : Nat) (T : Tb) (ks : List Nat) (w : World) (B : Nat) (h : RefAt w B g T ks) (hG : GoodT T) : Calls Tryz.prog 30 #[.pointer (some ⟨g, 0, none⟩)] w (DclP w T) := by
  obtain ⟨a, s, xs, k0, h, rfl⟩ := h
  obtain ⟨A1, c1, As, cs, x0, -, r1, -⟩ := ref_rd h
  have HG := Lib.hid hG
  have HR1 := Lib.hid r1
  have hgl : g < w.heap.size := kind_lt2 h.cell
  have hdl : T.dv.length ≤ 4096 := by rw [hG.vl]; exact hG.dl
  obtain ⟨d, hd⟩ : ∃ d, d = T.dv.length := ⟨_, rfl⟩
  have HD := Lib.hid hd
  have HDN : Hid (T.dn.length = d) := by show _ = _; rw [hd, hG.vl]
  rw [← hd] at x0 hdl
  have HX0 := Lib.hid x0
  obtain ⟨i2, hi2, hz20, hz21, hz22⟩ := info_parts infoStrN
  obtain ⟨i3, hi3, hz30, hz31, hz32⟩ := info_parts infoIntN2
  clear h hG r1 hd
  go_enter Tryz.func30, Tryz.ntmps30
  go_wp2_with fail
  go_loopw [4, 5] (fun v u wr => ∃ k : Nat, k ≤ d ∧ lenS v = k ∧ Two2 w wr v u k (scs (T.dn.take k)) (ics (T.dn.take k))) (fun v _ _ => d - lenS v)
  case atStart => exact ⟨0, Nat.zero_le _, rfl, by rw [List.take_zero]; exact World.ownsRow_nil _ _ _ _, by rw [List.take_zero]; exact World.ownsRow_nil _ _ _ _, by simp [nblk, Value.ownBlock], Below.refl _ _⟩
  case round =>
    obtain ⟨k, hk, -, hv, hu, hdj, hb⟩ := hrel
    obtain ⟨Av, cv, rfl⟩ := nslice_form hv
    obtain ⟨Au, cu, rfl⟩ := nslice_form hu
    have HV := Lib.hid hv
    have HU := Lib.hid hu
    have HDJ := Lib.hid hdj
    have HB := Lib.hid hb
    have y0 := (hb.cell (p := ⟨g, 0, none⟩) hgl).trans HX0.out
    clear hv hu hdj hb x0
    by_cases hlt : k < d
    · have hltI : (k : Int) < (d : Int) := by omega
      obtain ⟨wo, rfl⟩ : ∃ wo : World, wo = wr := ⟨_, rfl⟩
      go_wp2_with fail
      go_loopw [6, 7] (fun b i w2 => ∃ (i' : Nat) (b' : Int), b = .int .i64 b' ∧ i = .int .i64 (i' : Int) ∧ i' ≤ d ∧ Hid (Best (lastN T.dn k) (T.dv.take i') b') ∧ Below wo.heap.size wo w2) (fun _ i _ => d - (intOf i).toNat)
      case atStart => exact ⟨0, -1, rfl, rfl, Nat.zero_le _, Best.zero _ _, Below.refl _ _⟩
      case round =>
        obtain ⟨i, b, rfl, rfl, hi, HBE, hb2⟩ := hrel
        have HB2 := Lib.hid hb2
        have hbw := HB.out.trans (hb2.mono HB.out.size)
        have y1 := (hbw.cell (p := ⟨g, 0, none⟩) hgl).trans HX0.out
        clear hb2 y0
        by_cases hlti : i < d
        · have hltiI : (i : Int) < (d : Int) := by omega
          obtain ⟨e, he⟩ : ∃ e, T.dv[i]? = some e := ⟨_, List.getElem?_eq_getElem (by rw [← HD.out]; exact hlti)⟩
          obtain ⟨be, oe, eA, hbe, hcl⟩ := HR1.out.at he
          subst eA
          have ye := (hbw.cell (p := ⟨be, oe + i * 2, none⟩) hbe).trans (hcl i e he).1
          have hce := (HG.out.ok e (HG.out.perm.mem_iff.1 (List.mem_of_getElem? he))).1
          have HE := Lib.hid he
          have HCE := Lib.hid hce
          have HCL := Lib.hid hcl
          -- what is told of the last one
          obtain ⟨tl, htl⟩ : ∃ tl, tl = !cand (lastN T.dn k) e := ⟨_, rfl⟩
          have HTL := Lib.hid htl
          clear he hce hcl htl
          by_cases hk0 : k = 0
          · have hkg : decide ((0 : Int) < (k : Int)) = false := decide_eq_false (by omega)
            have hkgn : decide (0 < k) = false := decide_eq_false (by omega)
            have HTC : Hid (cand (lastN T.dn k) e = true) := by
              show _ = _
              unfold lastN
              rw [if_pos hk0]
              rfl
            clear hk0 HTL
            go_wp2_with fail
            go_quiet (fail)
            have HB3 := Lib.hid (ndrew HB2.out nq)
            generalize wr.drewN nq = w3 at *
            have hbw3 := HB.out.trans (HB3.out.mono HB.out.size)
            have y3 := (hbw3.cell (p := ⟨g, 0, none⟩) hgl).trans HX0.out
            have ye3 := (hbw3.cell (p := ⟨be, oe + i * 2, none⟩) hbe).trans (HCL.out i e HE.out).1
            clear y1 ye
            rcases HBE.out with ⟨rfl, hb1⟩ | ⟨t, y, rfl, hy, hy1, hy2⟩
            · have HBK : Hid (Best (lastN T.dn k) (T.dv.take (i + 1)) (i : Int)) := HBE.out.take HE.out HTC.out fun t y q _ => by omega
              clear hb1
              go_wp2_with fail
              go_quiet (fail)
              go_wp2_with fail
              exact ⟨⟨i + 1, (i : Int), rfl, by go_num, by omega, HBK.out, ndrew HB3.out nq⟩, by simp [intOf]; omega⟩
            · have htl : t < i := by
                have := (List.getElem?_eq_some_iff.1 hy).1
                rw [List.length_take] at this
                omega
              rw [List.getElem?_take, if_pos htl] at hy
              have yt := (hbw3.cell (p := ⟨be, oe + t * 2, none⟩) hbe).trans (HCL.out t y hy).1
              have hcy := (HG.out.ok y (HG.out.perm.mem_iff.1 (List.mem_of_getElem? hy))).1
              have hless : Op.bytesLess (str e.1).toList (str y.1).toList = ltn e.1 y.1 := bytes_ltn HCE.out hcy
              have ht0 : ¬ (t : Int) < 0 := by omega
              have htd : (t : Int) < (d : Int) := by omega
              have ht1 : decide ((t : Int) < 0) = false := decide_eq_false ht0
              obtain ⟨ls, hls⟩ : ∃ ls, ls = ltn e.1 y.1 := ⟨_, rfl⟩
              rw [← hls] at hless
              have HLS := Lib.hid hls
              have HY := Lib.hid hy
              clear hls hy hy1 hy2 hcy
              cases ls
              · have HBK : Hid (Best (lastN T.dn k) (T.dv.take (i + 1)) (t : Int)) := HBE.out.stay HE.out HY.out HLS.out.symm
                go_wp2_with fail
                go_quiet (fail)
                go_wp2_with fail
                exact ⟨⟨i + 1, (t : Int), rfl, by go_num, by omega, HBK.out, ndrew HB3.out nq⟩, by simp [intOf]; omega⟩
              · have HBK : Hid (Best (lastN T.dn k) (T.dv.take (i + 1)) (i : Int)) := HBE.out.take HE.out HTC.out fun t' y' q1 q2 => by
                  have e1 : t' = t := by omega
                  subst e1
                  rw [HY.out] at q2
                  injection q2 with q2
                  rw [← q2]
                  exact HLS.out.symm
                go_wp2_with fail
                go_quiet (fail)
                go_wp2_with fail
                exact ⟨⟨i + 1, (i : Int), rfl, by go_num, by omega, HBK.out, ndrew HB3.out nq⟩, by simp [intOf]; omega⟩
          · have hkg : decide ((0 : Int) < (k : Int)) = true := decide_eq_true (by omega)
            have hkgn : decide (0 < k) = true := decide_eq_true (by omega)
            obtain ⟨k', hk'⟩ : ∃ k', k = k' + 1 := ⟨k - 1, by omega⟩
            have hk1 : (k : Int) - 1 = (k' : Int) := by omega
            have hwk : IntKind.i64.wrap (k' : Int) = (k' : Int) := by rw [IntKind.wrap_i64]; omega
            have hk2 : (k' : Int) < (k : Int) := by omega
            obtain ⟨le, hle⟩ : ∃ e, T.dn[k']? = some e := ⟨_, List.getElem?_eq_getElem (by have := HDN.out; omega)⟩
            obtain ⟨gv, eAv, -, hgv, hcv⟩ := nrow_cells HV.out (by omega)
            subst eAv
            have yo := (HB2.out.cell (p := ⟨gv, k', none⟩) hgv).trans (hcv k' (.string (str le.1)) (by unfold scs; rw [List.getElem?_map, List.getElem?_take, if_pos (by omega), hle]; rfl))
            have hcl := (HG.out.ok le (List.mem_of_getElem? hle)).1
            have hless : Op.bytesLess (str e.1).toList (str le.1).toList = ltn e.1 le.1 := bytes_ltn HCE.out hcl
            have heq : ((str e.1).toList == (str le.1).toList) = decide (e.1 = le.1) := str_beq HCE.out hcl
            have HLN : Hid (cand (lastN T.dn k) e = ltn le.1 e.1) := by
              show _ = _
              unfold lastN
              rw [if_neg hk0, hk', Nat.add_sub_cancel, hle]
              rfl
            obtain ⟨l1, hl1⟩ : ∃ ls, ls = ltn e.1 le.1 := ⟨_, rfl⟩
            obtain ⟨l2, hl2⟩ : ∃ ls, ls = decide (e.1 = le.1) := ⟨_, rfl⟩
            rw [← hl1] at hless
            rw [← hl2] at heq
            have HL1 := Lib.hid hl1
            have HL2 := Lib.hid hl2
            clear hk0 HTL hk' hle hcv hcl hl1 hl2
            cases l1
            · cases l2
              · have HTC : Hid (cand (lastN T.dn k) e = true) := by
                  show _ = _
                  rw [HLN.out]
                  cases q : ltn le.1 e.1 with
                  | true => rfl
                  | false => exact absurd (ltn_tri HL1.out.symm q) (of_decide_eq_false HL2.out.symm)
                go_wp2_with fail
                go_quiet (fail)
                have HB3 := Lib.hid (ndrew HB2.out nq)
                generalize wr.drewN nq = w3 at *
                have hbw3 := HB.out.trans (HB3.out.mono HB.out.size)
                have y3 := (hbw3.cell (p := ⟨g, 0, none⟩) hgl).trans HX0.out
                have ye3 := (hbw3.cell (p := ⟨be, oe + i * 2, none⟩) hbe).trans (HCL.out i e HE.out).1
                clear y1 ye
                rcases HBE.out with ⟨rfl, hb1⟩ | ⟨t, y, rfl, hy, hy1, hy2⟩
                · have HBK : Hid (Best (lastN T.dn k) (T.dv.take (i + 1)) (i : Int)) := HBE.out.take HE.out HTC.out fun t y q _ => by omega
                  clear hb1
                  go_wp2_with fail
                  go_quiet (fail)
                  go_wp2_with fail
                  exact ⟨⟨i + 1, (i : Int), rfl, by go_num, by omega, HBK.out, ndrew HB3.out nq⟩, by simp [intOf]; omega⟩
                · have htl : t < i := by
                    have := (List.getElem?_eq_some_iff.1 hy).1
                    rw [List.length_take] at this
                    omega
                  rw [List.getElem?_take, if_pos htl] at hy
                  have yt := (hbw3.cell (p := ⟨be, oe + t * 2, none⟩) hbe).trans (HCL.out t y hy).1
                  have hcy := (HG.out.ok y (HG.out.perm.mem_iff.1 (List.mem_of_getElem? hy))).1
                  have hless : Op.bytesLess (str e.1).toList (str y.1).toList = ltn e.1 y.1 := bytes_ltn HCE.out hcy
                  have ht0 : ¬ (t : Int) < 0 := by omega
                  have htd : (t : Int) < (d : Int) := by omega
                  have ht1 : decide ((t : Int) < 0) = false := decide_eq_false ht0
                  obtain ⟨ls, hls⟩ : ∃ ls, ls = ltn e.1 y.1 := ⟨_, rfl⟩
                  rw [← hls] at hless
                  have HLS := Lib.hid hls
                  have HY := Lib.hid hy
                  clear hls hy hy1 hy2 hcy
                  cases ls
                  · have HBK : Hid (Best (lastN T.dn k) (T.dv.take (i + 1)) (t : Int)) := HBE.out.stay HE.out HY.out HLS.out.symm
                    go_wp2_with fail
                    go_quiet (fail)
                    go_wp2_with fail
                    exact ⟨⟨i + 1, (t : Int), rfl, by go_num, by omega, HBK.out, ndrew HB3.out nq⟩, by simp [intOf]; omega⟩
                  · have HBK : Hid (Best (lastN T.dn k) (T.dv.take (i + 1)) (i : Int)) := HBE.out.take HE.out HTC.out fun t' y' q1 q2 => by
                      have e1 : t' = t := by omega
                      subst e1
                      rw [HY.out] at q2
                      injection q2 with q2
                      rw [← q2]
                      exact HLS.out.symm
                    go_wp2_with fail
                    go_quiet (fail)
                    go_wp2_with fail
                    exact ⟨⟨i + 1, (i : Int), rfl, by go_num, by omega, HBK.out, ndrew HB3.out nq⟩, by simp [intOf]; omega⟩
              · have HTC : Hid (cand (lastN T.dn k) e = false) := by
                  show _ = _
                  rw [HLN.out, ← of_decide_eq_true HL2.out.symm]
                  exact ltn_irr _
                go_wp2_with fail
                go_quiet (fail)
                have HB3 := Lib.hid (ndrew HB2.out nq)
                generalize wr.drewN nq = w3 at *
                have hbw3 := HB.out.trans (HB3.out.mono HB.out.size)
                have y3 := (hbw3.cell (p := ⟨g, 0, none⟩) hgl).trans HX0.out
                have ye3 := (hbw3.cell (p := ⟨be, oe + i * 2, none⟩) hbe).trans (HCL.out i e HE.out).1
                clear y1 ye
                go_wp2_with fail
                go_quiet (fail)
                go_wp2_with fail
                exact ⟨⟨i + 1, b, rfl, by go_num, by omega, HBE.out.skip HE.out HTC.out, ndrew HB3.out nq⟩, by simp [intOf]; omega⟩
            · have HTC : Hid (cand (lastN T.dn k) e = false) := by
                show _ = _
                rw [HLN.out]
                exact ltn_asym HL1.out.symm
              go_wp2_with fail
              go_quiet (fail)
              have HB3 := Lib.hid (ndrew HB2.out nq)
              generalize wr.drewN nq = w3 at *
              have hbw3 := HB.out.trans (HB3.out.mono HB.out.size)
              have y3 := (hbw3.cell (p := ⟨g, 0, none⟩) hgl).trans HX0.out
              have ye3 := (hbw3.cell (p := ⟨be, oe + i * 2, none⟩) hbe).trans (HCL.out i e HE.out).1
              clear y1 ye
              go_wp2_with fail
              go_quiet (fail)
              go_wp2_with fail
              exact ⟨⟨i + 1, b, rfl, by go_num, by omega, HBE.out.skip HE.out HTC.out, ndrew HB3.out nq⟩, by simp [intOf]; omega⟩
        · have hltiI : ¬ (i : Int) < (d : Int) := by omega
          obtain ⟨x, hx⟩ : ∃ x, T.dn[k]? = some x := ⟨_, List.getElem?_eq_getElem (by rw [HDN.out]; exact hlt)⟩
          have hbe := HBE.out
          rw [List.take_of_length_le (by rw [← HD.out]; omega)] at hbe
          obtain ⟨t, rfl, ht⟩ := hbe.next HG.out.srn HG.out.perm hx
          have htl : t < d := by rw [HD.out]; exact (List.getElem?_eq_some_iff.1 ht).1
          have htd : (t : Int) < (d : Int) := by omega
          have htz : (0 : Int) ≤ (t : Int) := by omega
          obtain ⟨be, oe, eA, hbe2, hcl⟩ := HR1.out.at ht
          subst eA
          have yt := (hbw.cell (p := ⟨be, oe + t * 2, none⟩) hbe2).trans (hcl t x ht).1
          have hv2 := nown_below HV.out HB2.out
          have hu2 := nown_below HU.out HB2.out
          have hwr : w.heap.size ≤ wr.heap.size := hbw.size
          have hownv := nown_below hv2 ((Below.refl wr.heap.size wr).alloc (Nat.le_refl _) (.cells #[.string (str x.1)] 9))
          have hnews : ∀ q u, [Value.string (str x.1)][q]? = some u → (wr.alloc (.cells #[.string (str x.1)] 9)).cell? ((⟨wr.heap.size, 0, none⟩ : Addr).add q) = some u := World.news_of_block (cs := #[.string (str x.1)]) (lone_new wr _ _)
          have hone : ∀ u ∈ [Value.string (str x.1)], u.oneCell' = true := fun u hu => by simp at hu; rcases hu with rfl; rfl
          have hl63 : k + 1 ≤ maxLen := by unfold maxLen; omega
          have hlb16 : (k + 1) * 16 ≤ 140737488355328 := by omega
          have hlb8 : (k + 1) * 8 ≤ 140737488355328 := by omega
          have hbz : w.heap.size ≤ (wr.alloc (.cells #[.string (str x.1)] 9)).heap.size := by simp; omega
          have HV2 := Lib.hid hv2
          have HU2 := Lib.hid hu2
          have HBW := Lib.hid hbw
          have HT := Lib.hid ht
          have HX := Lib.hid hx
          have HCL := Lib.hid hcl
          have HD2 : Hid (∀ q ∈ nblk (Value.slice Au k cu), q ∉ nblk (Value.slice Av k cv)) := fun q h1 h2 => (List.nodup_append.1 HDJ.out).2.2 q h2 q h1 rfl
          clear hx hbe ht hcl hv2 hu2 hbw HBE
          go_wp2_with (at_builtin
                       first
                         | (skip
                            refine wpList_append_lies _ rfl _ _ 24 rfl w.heap.size 9 i2 _ 1 16 Tryz.underlying24 hi2 hz20 hz21 hz22 rfl (by decide) _ _ _ rfl hownv ⟨wr.heap.size, 0, none⟩ 1 1 [.string (str x.1)] rfl rfl hnews hone (by decide) hl63 hlb16 hbz _ rfl ?_
                            intro g8 c8 w8 hown8 hgrow8 hat8 hlt8
                            have HA8 := Lib.hid (show App1 wr (Value.slice Av k cv).ownBlock g8 w8 from ⟨_, (Below.refl _ wr).alloc (Nat.le_refl _) _, hgrow8, hat8, hlt8⟩)
                            have HO8 := Lib.hid hown8
                            have hb8 := HBW.out.trans (HA8.out.below HV2.out HBW.out.size)
                            have z0 := (hb8.cell (p := ⟨g, 0, none⟩) hgl).trans HX0.out
                            have zt := (hb8.cell (p := ⟨be, oe + t * 2 + 1, none⟩) hbe2).trans (HCL.out t x HT.out).2
                            have HB8 := Lib.hid hb8
                            clear hown8 hgrow8 hat8 hlt8 hb8 hownv hnews hone hbz yt y1
                            have hownu := nown_below (HA8.out.far HV2.out HU2.out HD2.out) ((Below.refl w8.heap.size w8).alloc (Nat.le_refl _) (.cells #[.int .i64 ((x.2 : Nat) : Int)] 3))
                            have hnews8 : ∀ q u, [Value.int .i64 ((x.2 : Nat) : Int)][q]? = some u → (w8.alloc (.cells #[.int .i64 ((x.2 : Nat) : Int)] 3)).cell? ((⟨w8.heap.size, 0, none⟩ : Addr).add q) = some u := World.news_of_block (cs := #[.int .i64 ((x.2 : Nat) : Int)]) (lone_new w8 _ _)
                            have hone8 : ∀ u ∈ [Value.int .i64 ((x.2 : Nat) : Int)], u.oneCell' = true := fun u hu => by simp at hu; rcases hu with rfl; rfl
                            have hbz8 : w.heap.size ≤ (w8.alloc (.cells #[.int .i64 ((x.2 : Nat) : Int)] 3)).heap.size := by
                              have := HB8.out.size
                              simp
                              omega)
                         | (skip
                            refine wpList_append_lies _ rfl _ _ 30 rfl w.heap.size 3 i3 _ 1 8 Tryz.underlying30 hi3 hz30 hz31 hz32 rfl (by decide) _ _ _ rfl hownu ⟨w8.heap.size, 0, none⟩ 1 1 [.int .i64 ((x.2 : Nat) : Int)] rfl rfl hnews8 hone8 (by decide) hl63 hlb8 hbz8 _ rfl ?_
                            intro g9 c9 w9 hown9 hgrow9 hat9 hlt9))
          have HA9 := Lib.hid (show App1 w8 (Value.slice Au k cu).ownBlock g9 w9 from ⟨_, (Below.refl _ w8).alloc (Nat.le_refl _) _, hgrow9, hat9, hlt9⟩)
          have HF := Lib.hid (two_finG HBW.out.size HV2.out HU2.out HDJ.out HBW.out HA8.out HO8.out HA9.out hown9)
          have HO9 := Lib.hid hown9
          have HNEW : Hid (Two2 w w9 (.slice (some ⟨g8, 0, none⟩) (k + 1) c8) (.slice (some ⟨g9, 0, none⟩) (k + 1) c9) (k + 1) (scs (T.dn.take (k + 1))) (ics (T.dn.take (k + 1)))) := by
            show Two2 _ _ _ _ _ _ _
            rw [scs_take HX.out, ics_take HX.out]
            exact ⟨HF.out.1, HO9.out, by have := HF.out.2.1; simpa [nblk, Value.ownBlock] using this, HF.out.2.2⟩
          clear hown9 hgrow9 hat9 hlt9 hownu hnews8 hone8 hbz8 z0 zt
          go_wp2_with fail
          exact ⟨⟨k + 1, by omega, rfl, HNEW.out⟩, by simp [lenS]; omega⟩
    · have hltI : ¬ (k : Int) < (d : Int) := by omega
      obtain rfl : k = d := by omega
      have e1 : T.dn.take k = T.dn := List.take_of_length_le (by rw [HDN.out]; exact Nat.le_refl _)
      rw [e1] at HV HU
      have HRES : Hid (Two2 w wr (.slice Av k cv) (.slice Au k cu) T.dn.length (scs T.dn) (ics T.dn)) := by
        show Two2 _ _ _ _ _ _ _
        rw [HDN.out]
        exact ⟨HV.out, HU.out, HDJ.out, HB.out⟩
      clear e1
      go_wp2_with fail
      go_ret2
      exact ⟨_, _, rfl, HRES.out⟩
end Go.Proofs.YtcjljfjgekiocaaGreatDoor

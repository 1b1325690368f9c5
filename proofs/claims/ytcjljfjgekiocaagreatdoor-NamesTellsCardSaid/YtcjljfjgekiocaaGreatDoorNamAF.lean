/- Acts that come in; the law's long, and play. -/
import Derived.BigQuiet
import Derived.Deep.QuietTactic
import Derived.Test.YtcjljfjgekiocaaGreatDoorNamAE
namespace Go.Proofs.YtcjljfjgekiocaaGreatDoor
open Go.RowKit Go.Shelf

set_option linter.unusedVariables false
set_option linter.unusedSimpArgs false

/-- acts can be read from an address on -/
def RdA (w : World) (A : Option Addr) (l : List Act) : Prop := l = [] ∨ ∃ b o, A = some ⟨b, o, none⟩ ∧ b < w.heap.size ∧ ∀ j (a : Act), l[j]? = some a → w.cell? ⟨b, o + j * 2, none⟩ = some (.int .u8 ((a.1 : Nat) : Int)) ∧ ∃ A' c, w.cell? ⟨b, o + j * 2 + 1, none⟩ = some (.slice A' a.2.length c) ∧ RdS w A' a.2
theorem RdA.at {w : World} {A : Option Addr} {l : List Act} (h : RdA w A l) {j : Nat} {a : Act} (he : l[j]? = some a) : ∃ b o, A = some ⟨b, o, none⟩ ∧ b < w.heap.size ∧ w.cell? ⟨b, o + j * 2, none⟩ = some (.int .u8 ((a.1 : Nat) : Int)) ∧ ∃ A' c, w.cell? ⟨b, o + j * 2 + 1, none⟩ = some (.slice A' a.2.length c) ∧ RdS w A' a.2 := by
  rcases h with h | ⟨b, o, h1, h2, h3⟩
  · rw [h] at he; simp at he
  · obtain ⟨h4, A', c, h5, h6⟩ := h3 j a he
    exact ⟨b, o, h1, h2, h4, A', c, h5, h6⟩
theorem RdA.below {w w' : World} {A : Option Addr} {l : List Act} (h : RdA w A l) (hb : Below w.heap.size w w') : RdA w' A l := by
  rcases h with h | ⟨b, o, e, hlt, h⟩
  · exact .inl h
  · refine .inr ⟨b, o, e, Nat.lt_of_lt_of_le hlt hb.size, fun j a he => ?_⟩
    obtain ⟨h4, A', c, h5, h6⟩ := h j a he
    exact ⟨(hb.cell (p := ⟨b, _, none⟩) hlt).trans h4, A', c, (hb.cell (p := ⟨b, _, none⟩) hlt).trans h5, h6.below hb⟩
/-- texts as they come in -/
def OkR (ns : List (List Nat)) : Prop := ∀ x ∈ ns, Codes x ∧ x.length ≤ 9223372036854775807
/-- no long ones -/
def ShS (ns : List (List Nat)) : Prop := ns.length < 400 ∧ ∀ x ∈ ns, x.length < 12000
theorem OkR.s {ns : List (List Nat)} (h : OkR ns) (hs : ShS ns) : OkS ns := fun x hx => ⟨(h x hx).1, by have := hs.2 x hx; omega⟩
/-- acts of a machine -/
def OkA (l : List Act) : Prop := ∀ a ∈ l, a.1 < 256 ∧ OkR a.2 ∧ a.2.length ≤ 9223372036854775807
def ShA (l : List Act) : Prop := l.length < 400 ∧ ∀ a ∈ l, ShS a.2

def LongP (l : List Act) (e : Ending) : Prop := ∃ b, e = .returned (.bool b) ∧ (b = false → ShA l)
theorem RdS.atl {w : World} {A : Option Addr} {ns : List (List Nat)} (h : RdS w A ns) {j : Nat} {x : List Nat} (he : ns[j]? = some x) : ∃ b o, A = some ⟨b, o, none⟩ ∧ b < w.heap.size ∧ w.cell? ⟨b, o + j, none⟩ = some (.string (str x)) := by
  obtain ⟨b, o, h1, h2, h3⟩ := h.at he
  exact ⟨b, o, h1, h2, h3 j x he⟩
set_option maxRecDepth 100000 in
set_option maxHeartbeats 4000000 in
theorem long_any (l : List Act) (A : Option Addr) (c : Nat) (w : World) (hr : RdA w A l) (hok : OkA l) (hl : l.length ≤ 9223372036854775807) :
    Calls Tryz.prog 21 #[.slice A l.length c] w fun e w' => LongP l e ∧ w' = w := by
  have HR := Lib.hid hr
  have HO := Lib.hid hok
  obtain ⟨n, hn⟩ : ∃ n, n = l.length := ⟨_, rfl⟩
  have HN := Lib.hid hn
  rw [← hn] at hl ⊢
  clear hr hok hn
  go_enter Tryz.func21, Tryz.ntmps21
  go_wp2_with fail
  go_loopw [3, 4] (fun s i wr => ∃ j m : Nat, s = .int .i64 (m : Int) ∧ i = .int .i64 (j : Int) ∧ j ≤ n ∧ m ≤ 900 ∧ Hid (m < 400 → j ≤ m ∧ ∀ a ∈ l.take j, ShS a.2) ∧ wr = w) (fun _ i _ => n - (intOf i).toNat)
  case atStart => exact ⟨0, 0, rfl, rfl, Nat.zero_le _, by omega, fun _ => ⟨Nat.le_refl _, by simp⟩, rfl⟩
  case round =>
    obtain ⟨j, m, rfl, rfl, hj, hm, HM, rfl⟩ := hrel
    by_cases hlt : j < n
    · have hltI : (j : Int) < (n : Int) := by omega
      by_cases hm4 : m < 400
      · have hmI : (m : Int) < 400 := by omega
        obtain ⟨a, ha⟩ : ∃ a, l[j]? = some a := ⟨_, List.getElem?_eq_getElem (by rw [← HN.out]; exact hlt)⟩
        obtain ⟨b, o, rfl, hb, k1, A', c', k2, k3⟩ := HR.out.at ha
        obtain ⟨-, q2, q3⟩ := HO.out a (List.mem_of_getElem? ha)
        have HA := Lib.hid ha
        have HRS := Lib.hid k3
        have HOS := Lib.hid q2
        obtain ⟨p, hp⟩ : ∃ p, p = a.2.length := ⟨_, rfl⟩
        have HP := Lib.hid hp
        rw [← hp] at k2 q3
        have HMM := Lib.hid (HM.out hm4)
        clear ha k1 k3 q2 hp HM
        go_wp2_with fail
        go_loopw [3, 5] (fun s i w2 => ∃ k m' : Nat, s = .int .i64 (m' : Int) ∧ i = .int .i64 (k : Int) ∧ k ≤ p ∧ m' ≤ 900 ∧ Hid (m' < 400 → k + j + 1 ≤ m' ∧ ∀ x ∈ a.2.take k, x.length < 12000) ∧ w2 = wr) (fun _ i _ => p - (intOf i).toNat)
        case atStart => exact ⟨0, m + 1, rfl, rfl, Nat.zero_le _, by omega, fun _ => ⟨by have := HMM.out.1; omega, by simp⟩, rfl⟩
        case round =>
          obtain ⟨k, m', rfl, rfl, hk, hm', HM', rfl⟩ := hrel
          by_cases hlt2 : k < p
          · have hlt2I : (k : Int) < (p : Int) := by omega
            by_cases hm5 : m' < 400
            · have hm5I : (m' : Int) < 400 := by omega
              obtain ⟨x, hx⟩ : ∃ x, a.2[k]? = some x := ⟨_, List.getElem?_eq_getElem (by rw [← HP.out]; exact hlt2)⟩
              obtain ⟨b2, o2, rfl, hb2, k4⟩ := HRS.out.atl hx
              have hxl := (HOS.out x (List.mem_of_getElem? hx)).2
              have hts := str_size x
              obtain ⟨q, hq⟩ : ∃ q, q = x.length / 30 := ⟨_, rfl⟩
              have w1 : IntKind.i64.wrap (x.length : Int) = (x.length : Int) := wrap_small _ (by omega) (by omega)
              have w2 : (x.length : Int).tdiv 30 = (q : Int) := by rw [Int.tdiv_eq_ediv_of_nonneg (by omega)]; omega
              have hq : q ≤ 461168601842738790 := by omega
              have w3 : IntKind.i64.wrap (q : Int) = (q : Int) := wrap_small _ (by omega) (by omega)
              have HXX := Lib.hid hx
              have HXL : Hid (q < 400 → x.length < 12000) := fun hq4 => by omega
              clear hx
              generalize htl : x.length = tl at *
              have HTL := Lib.hid htl
              clear htl
              go_wp2_with fail
              exact ⟨⟨k + 1, m' + 1 + min 400 q, by congr 1; omega, by go_num, by omega, by omega, fun h4 => ⟨by have := (HM'.out hm5).1; omega, fun y hy => by
                rw [List.take_add_one, HXX.out] at hy
                rcases List.mem_append.1 hy with r | r
                · exact (HM'.out hm5).2 y r
                · obtain rfl : y = x := by simpa using r
                  rw [HTL.out]
                  exact HXL.out (by omega)⟩, trivial⟩, by simp [intOf]; omega⟩
            · have hm5I : ¬ (m' : Int) < 400 := by omega
              go_wp2_with fail
              exact ⟨⟨j + 1, m', rfl, by go_num, by omega, hm', fun q => absurd q hm5, trivial⟩, by simp [intOf]; omega⟩
          · have hlt2I : ¬ (k : Int) < (p : Int) := by omega
            have HK : Hid (k = p) := by show k = p; omega
            go_wp2_with fail
            exact ⟨⟨j + 1, m', rfl, by go_num, by omega, hm', fun q => ⟨by have := (HM'.out q).1; omega, fun a' ha' => by
                have h1 := HM'.out q
                rw [List.take_add_one, HA.out] at ha'
                rcases List.mem_append.1 ha' with r | r
                · exact HMM.out.2 a' r
                · obtain rfl : a' = a := by simpa using r
                  have h2 := h1.2
                  rw [HK.out, HP.out, List.take_of_length_le (Nat.le_refl _)] at h2
                  exact ⟨by rw [← HP.out, ← HK.out]; omega, h2⟩⟩, trivial⟩, by simp [intOf]; omega⟩
      · have hmI : ¬ (m : Int) < 400 := by omega
        have hmG : (400 : Int) ≤ (m : Int) := by omega
        go_wp2_with fail
        go_ret
        exact ⟨⟨_, rfl, fun q => by simp at q⟩, rfl⟩
    · have hltI : ¬ (j : Int) < (n : Int) := by omega
      have HJ : Hid (j = n) := by show j = n; omega
      go_wp2_with fail
      go_ret
      refine ⟨⟨_, rfl, fun q => ?_⟩, rfl⟩
      have hm4 : m < 400 := by simp at q; omega
      obtain ⟨h1, h2⟩ := HM.out hm4
      rw [HJ.out, List.take_of_length_le (by rw [← HN.out]; exact Nat.le_refl _)] at h2
      exact ⟨by rw [← HN.out, ← HJ.out]; omega, h2⟩
theorem TPost.trans {w w1 w2 : World} {B g : Nat} {T T1 T2 : Tb} {ks : List Nat} (h : TPost w B g T1 ks w1) (h2 : ∀ k1, TabAt w1 B g T1 k1 → TPost w1 B g T2 k1 w2) : TPost w B g T2 ks w2 := by
  obtain ⟨k1, a1, s1, n1⟩ := h
  obtain ⟨k2, a2, s2, n2⟩ := h2 k1 a1
  have hsz := n1.size
  refine ⟨k2, a2, fun k q => ?_, Nb.trans n1 n2 (fun _ h => h) fun k hk q => ?_⟩
  · rcases s2 k q with r | r
    · exact s1 k r
    · exact .inr (by omega)
  · rcases s1 k q with r | r
    · exact r
    · omega
theorem TPost.below {w w1 : World} {B g : Nat} {T T1 : Tb} {ks : List Nat} (h0 : TabAt w B g T ks) (hB : B ≤ w.heap.size) (h : TPost w B g T1 ks w1) : Below B w w1 := by
  obtain ⟨k1, a1, s1, n1⟩ := h
  exact n1.below hB fun k q => (h0.kind k q).1
end Go.Proofs.YtcjljfjgekiocaaGreatDoor

/- The law's first, where there is a name; Open's and Declare's answers at tables that stand apart. -/
import Derived.Test.YtcjljfjgekiocaaGreatDoorNamAC
namespace Go.Proofs.YtcjljfjgekiocaaGreatDoor
open Go.RowKit Go.Shelf

set_option linter.unusedVariables false
set_option linter.unusedSimpArgs false

/-- an act's first name -/
def fst1 (ns : List (List Nat)) : List Nat := ns.head?.getD []
theorem first_any (k : Value) (ns : List (List Nat)) (A : Option Addr) (c : Nat) (w : World) (hr : RdS w A ns) (hk : ∃ v : Nat, k = .int .u8 (v : Int)) (hl : ns.length ≤ 1048576) : Calls Tryz.prog 22 #[.agg #[k, .slice A ns.length c]] w fun e w' => e = .returned (.string (str (fst1 ns))) ∧ Below w.heap.size w w' := by
  obtain ⟨v, rfl⟩ := hk
  cases ns with
  | nil => exact first_none _ A c w
  | cons x r =>
    obtain ⟨b, o, rfl, hq, hc⟩ := hr.at (j := 0) (x := x) rfl
    have h0 := hc 0 x rfl
    obtain ⟨n, hn⟩ : ∃ n, n = (x :: r).length := ⟨_, rfl⟩
    rw [← hn] at hl ⊢
    have hpos : (0 : Int) < (n : Int) := by rw [hn]; simp
    have hpn : 0 < n := by omega
    have h0' : w.cell? ⟨b, o, none⟩ = some (.string (str x)) := h0
    have HX : Hid (fst1 (x :: r) = x) := rfl
    clear hn hc h0 hr
    obtain ⟨W, hW⟩ : ∃ W, w.alloc (.cells #[.int .u8 (v : Int), .slice (some ⟨b, o, none⟩) n c] 46) = W := ⟨_, rfl⟩
    have hb : Below w.heap.size w W := hW ▸ (Below.refl _ w).alloc (Nat.le_refl _) _
    have q1 : W.cell? ⟨b, o, none⟩ = some (.string (str x)) := (hb.cell (p := ⟨b, o, none⟩) hq).trans h0'
    have hS : W.heap[w.heap.size]? = some (.cells #[.int .u8 (v : Int), .slice (some ⟨b, o, none⟩) n c] 46 (0, 0)) := hW ▸ lone_new w _ _
    have q2 := cell_of_row W w.heap.size 1 _ _ _ hS
    simp only [List.getElem?_toArray, List.getElem?_cons_zero, List.getElem?_cons_succ] at q2
    clear hS h0' hq
    go_enter Tryz.func22, Tryz.ntmps22
    go_wp2_with fail
    go_ret
    exact ⟨by rw [HX.out]; rfl, hb⟩
/-- what lies apart from a table stays, whatever is done to the table -/
theorem TPost.other {w w' : World} {B B' g g' : Nat} {T T' : Tb} {ks ks' : List Nat} (h : TPost w B g T ks w') (h' : TabAt w B' g' T' ks') (hd : ∀ k ∈ ks', k ∉ ks) : ∃ k2, TabAt w' B g T k2 ∧ TabAt w' B' g' T' ks' ∧ ∀ k ∈ ks', k ∉ k2 := by
  obtain ⟨k2, h1, h2, h3⟩ := h
  refine ⟨k2, h1, h'.keepNb h3 hd, fun k q q2 => ?_⟩
  rcases h2 k q2 with r | r
  · exact hd k q r
  · have := (h'.kind k q).2
    omega
end Go.Proofs.YtcjljfjgekiocaaGreatDoor

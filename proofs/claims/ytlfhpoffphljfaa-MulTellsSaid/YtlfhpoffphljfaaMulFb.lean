/- A copy into a list of the call's own. -/
import Derived.Laws.CopyOwn
import Derived.Deep.MidRow
import Derived.Test.YtlfhpoffphljfaaMulF
namespace Go.Proofs.Ytlfhpoffphljfaa
open Go.RowKit Go.Shelf

/-! ### copy into an own list -/
theorem own_block {w : World} {B g n : Nat} {Z : List Nat} (h : Own w B (.slice (some ⟨g, 0, none⟩) n n) Z) : w.heap[g]? = some (.cells (u32s Z).toArray 28 (0, 0)) ∧ B ≤ g ∧ n = Z.length ∧ n ≤ maxLen := by
  rcases h with ⟨hz, ⟨e, _⟩ | ⟨g', cap, cur, e, hg, hh, hle, hm, hs, ht⟩⟩
  · cases e
  · injection e with e1 e2 e3
    injection e1 with e1; injection e1 with e1
    subst e1 e3
    have hc : cur = (u32s Z).toArray := by
      rw [← ht, List.take_of_length_le (by simp [hs]; omega)]
    rw [hc] at hh
    exact ⟨hh, hg, e2, by omega⟩
theorem own_of_block {w : World} {B g n : Nat} {Z : List Nat} (hh : w.heap[g]? = some (.cells (u32s Z).toArray 28 (0, 0))) (hg : B ≤ g) (hn : n = Z.length) (hm : n ≤ maxLen) : Own w B (.slice (some ⟨g, 0, none⟩) n n) Z := by
  subst hn
  exact ⟨by simp [u32s], .inr ⟨g, Z.length, _, rfl, hg, hh, Nat.le_refl _, hm, by simp [u32s], by rw [List.take_of_length_le (by simp [u32s])]⟩⟩
theorem u32s_splL (Z : List Nat) (off : Nat) (L : List Nat) : splice (u32s Z) off (u32s L) = u32s (splL Z off L) := by
  unfold splice splL u32s
  rw [List.map_append, List.map_append, List.map_take, List.map_drop, List.length_map, List.append_assoc]
theorem wpList_copy_L {w : World} {ops : Array Oper} {rest : List Oper} {o : Oper} {a : Act} {Q : Exit → Act → World → Prop} (hgd : o.guard = none) (d s : Operand)
    (ho : o.op = .call { callee := .builtin .copy, args := #[d, s], argTypes := #[26, 26] }) {g off dLen dCap sCap n : Nat} {A : Option Addr} {L Z : List Nat}
    (hd : a.eval d = .slice (some ⟨g, off, none⟩) dLen dCap) (hs : a.eval s = .slice A L.length sCap) {B B2 : Nat} {w0 : World} (hO : Own w B (.slice (some ⟨g, 0, none⟩) n n) Z) (hr : Rd w B2 A L) (hle : L.length ≤ dLen) (hfit : off + L.length ≤ Z.length) (hb : Below B w0 w)
    (h : ∀ w', Own w' B (.slice (some ⟨g, 0, none⟩) n n) (splL Z off L) → Below B w0 w' → wpList Try.prog ops Q rest (a.put o.dst (goInt L.length)) w') :
    wpList Try.prog ops Q (o :: rest) a w := by
  obtain ⟨hh, hg, hn, hm⟩ := own_block hO
  have hl : (u32s L).length = L.length := by simp [u32s]
  refine wpList_copy_splice hgd d s 26 26 ho 28 Try.underlying26 (by kernel_rfl) (some ⟨g, off, none⟩) A dLen dCap L.length sCap hd hs g off (u32s Z) 28 hh (u32s L) (by rw [hl]; exact (Nat.min_eq_left hle).symm) ?_ (by rw [hl]; simpa [u32s] using hfit) ?_ B w0 hb hg ?_
  · intro h0
    rw [hl] at h0
    obtain ⟨b, o2, rfl, _, hc⟩ := hr.2 h0
    refine ⟨rfl, _, rfl, fun j v hv => ?_⟩
    have hj : j < L.length := by
      have := (List.getElem?_eq_some_iff.1 hv).1
      simpa [u32s] using this
    rw [Addr.add_mid, hc j hj, ← hv, u32s, List.getElem?_map, List.getElem?_eq_getElem hj]; rfl
  · intro v hv
    obtain ⟨x, _, rfl⟩ := List.mem_map.1 hv
    rfl
  · intro w' hw' hb'
    rw [hl]
    exact h w' (own_of_block (by rw [← u32s_splL]; exact hw'.out) hg (by rw [splL_length hfit]; exact hn) hm) hb'
theorem Own.head {w : World} {B : Nat} {v : Value} {xs : List Nat} (h : Own w B v xs) (h0 : 0 < xs.length) : ∃ g cap, v = .slice (some ⟨g, 0, none⟩) xs.length cap := by
  rcases h.2 with ⟨_, e⟩ | ⟨g, cap, cur, e, _⟩
  · omega
  · exact ⟨g, cap, e⟩

end Go.Proofs.Ytlfhpoffphljfaa

/- NatRow. -/
import Derived.OpenShut
import Derived.Test.YtlfhpoffphljfaaNatO
namespace Go.Proofs.Ytlfhpoffphljfaa
open Go.RowKit

/-- A row of numbers that came in reads as limbs. -/
theorem arg_of_row {w : World} {a : Option Addr} {len cap : Nat} {zs : List Int}
    (h : (a = none ∧ len = 0 ∧ cap = 0 ∧ zs = []) ∨ ∃ x, a = some x ∧ len ≤ cap ∧ cap ≤ maxLen ∧ zs.length = cap ∧ (∀ i, i < zs.length → w.cell? (x.add i) = some (.int .u32 (zs.getD i 0))) ∧ ∀ n ∈ zs, (Lit.int .u32 n).wf = true) :
    ∃ xs : List Nat, xs.length = len ∧ Arg w (.slice a len cap) xs := by
  rcases h with ⟨rfl, rfl, rfl, rfl⟩ | ⟨x, rfl, h1, h2, h3, h4, h5⟩
  · exact ⟨[], rfl, Arg.nil w⟩
  · have hlen : ((zs.take len).map Int.toNat).length = len := by simp; omega
    have hb : ∀ n ∈ zs, 0 ≤ n ∧ n < 4294967296 := fun n hn => by
      have := bounds_u32 (h5 n hn)
      omega
    refine ⟨(zs.take len).map Int.toNat, hlen, some x, cap, by rw [hlen], by rw [hlen]; exact h1, h2, ?_, fun hp => ?_⟩
    · intro y hy
      obtain ⟨n, hn, rfl⟩ := List.mem_map.1 hy
      have := hb n (List.mem_of_mem_take hn)
      omega
    · obtain ⟨b, off, spot⟩ := x
      have hc := h4 0 (by omega)
      have hspot : spot = none := by simpa [Addr.add] using World.cell?_spot hc
      subst hspot
      have hblk : b < w.heap.size := by
        obtain ⟨o, ho, _⟩ := cells_of_cell hc
        simpa [Addr.add] using (Array.getElem?_eq_some_iff.1 ho).1
      refine ⟨b, off, rfl, hblk, fun j hj => ?_⟩
      have hj' : j < zs.length := by omega
      have := h4 j hj'
      have e : ((⟨b, off, none⟩ : Addr).add j) = ⟨b, off + j, none⟩ := by
        unfold Addr.add; split
        · rename_i h0; subst h0; rfl
        · rfl
      rw [e] at this
      rw [this, List.getElem?_map, List.getElem?_take, if_pos (by omega)]
      have hz := hb zs[j] (List.getElem_mem hj')
      rw [List.getD_eq_getElem?_getD, List.getElem?_eq_getElem hj']
      simp only [Option.getD_some, Option.map_some]
      rw [Int.toNat_of_nonneg hz.1]

theorem cmp_is {w0 w : World} {l : List (Value × List Nat)} {va vb : Value} {xs ys : List Nat} {X : Int} (h : Env w0 w l) (ha : (va, xs) ∈ l) (hb : (vb, ys) ∈ l) (hx : sCmp xs ys = X) : Calls Try.prog 18 #[va, vb] w fun e w' => e = .returned (.int .i64 X) ∧ Env w0 w' l := by
  have := cmp_env h ha hb
  rwa [hx] at this
theorem may_is {w0 w : World} {l : List (Value × List Nat)} {va : Value} {xs : List Nat} {b : Bool} (h : Env w0 w l) (ha : (va, xs) ∈ l) (hx : mayb xs = b) : Calls Try.prog 23 #[va] w fun e w' => e = .returned (.bool b) ∧ Env w0 w' l := by
  have := may_env h ha
  rw [hx] at this
  exact this.mono fun _ _ ⟨he, hw⟩ => ⟨he, by rw [hw]; exact h⟩
theorem sub_is {w0 w : World} {l : List (Value × List Nat)} {va vb : Value} {xs ys zs : List Nat} {b : Bool} (h : Env w0 w l) (ha : (va, xs) ∈ l) (hb : (vb, ys) ∈ l) (hx : sSubOk xs ys = b) (hz : sSub xs ys = zs) : Calls Try.prog 14 #[va, vb] w fun e w' => ∃ r, e = .returned (.tuple #[r, .bool b]) ∧ Env w0 w' ((r, zs) :: l) := by
  have := sub_env h ha hb
  rwa [hx, hz] at this
theorem same_is {w0 w : World} {l : List (Value × List Nat)} {va vb : Value} {xs ys : List Nat} {b : Bool} (h : Env w0 w l) (ha : (va, xs) ∈ l) (hb : (vb, ys) ∈ l) (hx : eqb xs ys = b) : Calls Try.prog 15 #[va, vb] w fun e w' => e = .returned (.bool b) ∧ Env w0 w' l := by
  have := same_env h ha hb
  rwa [hx] at this
theorem add_is {w0 w : World} {l : List (Value × List Nat)} {va vb : Value} {xs ys zs : List Nat} (h : Env w0 w l) (ha : (va, xs) ∈ l) (hb : (vb, ys) ∈ l) (hz : sAdd xs ys = zs) : Calls Try.prog 16 #[va, vb] w fun e w' => ∃ r, e = .returned r ∧ Env w0 w' ((r, zs) :: l) := by
  have := add_env h ha hb
  rwa [hz] at this
theorem awake_env {w0 w : World} {l : List (Value × List Nat)} (h : Env w0 w l) : Calls Try.prog 11 #[] w fun e w' => e = .returned (.bool true) ∧ Env w0 w' l :=
  (awake_any w).mono fun _ _ ⟨he, hb⟩ => ⟨he, h.step hb⟩

theorem shl_is {w0 w : World} {l : List (Value × List Nat)} {va : Value} {xs zs : List Nat} {k : Int} (h : Env w0 w l) (ha : (va, xs) ∈ l) (hz : sShl xs k = zs) : Calls Try.prog 19 #[va, .int .i64 k] w fun e w' => ∃ r, e = .returned r ∧ Env w0 w' ((r, zs) :: l) := by
  have := shl_env h ha k
  rwa [hz] at this
theorem shr_is {w0 w : World} {l : List (Value × List Nat)} {va : Value} {xs zs : List Nat} {k : Int} (h : Env w0 w l) (ha : (va, xs) ∈ l) (hz : sShr xs k = zs) : Calls Try.prog 20 #[va, .int .i64 k] w fun e w' => ∃ r, e = .returned r ∧ Env w0 w' ((r, zs) :: l) := by
  have := shr_env h ha k
  rwa [hz] at this
theorem bits_is {w0 w : World} {l : List (Value × List Nat)} {va : Value} {xs : List Nat} {n : Nat} (h : Env w0 w l) (ha : (va, xs) ∈ l) (hx : sBits xs = n) : Calls Try.prog 21 #[va] w fun e w' => e = .returned (.int .i64 (n : Nat)) ∧ Env w0 w' l := by
  have := bits_env h ha
  rw [hx] at this
  exact this.mono fun _ _ ⟨he, hw⟩ => ⟨he, by rw [hw]; exact h⟩
theorem bit_is {w0 w : World} {l : List (Value × List Nat)} {va : Value} {xs : List Nat} {k : Int} {b : Bool} (h : Env w0 w l) (ha : (va, xs) ∈ l) (hx : sBit xs k = b) : Calls Try.prog 22 #[va, .int .i64 k] w fun e w' => e = .returned (.bool b) ∧ Env w0 w' l := by
  have := bit_env h ha k
  rw [hx] at this
  exact this.mono fun _ _ ⟨he, hw⟩ => ⟨he, by rw [hw]; exact h⟩
theorem Env.of1 {w0 w : World} {p : Value × List Nat} {l : List (Value × List Nat)} (h : Env w0 w (p :: l)) : Env w0 w l := ⟨h.1, fun q hq => h.2 q (by simp [hq])⟩
theorem Env.swap {w0 w : World} {p q : Value × List Nat} {l : List (Value × List Nat)} (h : Env w0 w (p :: q :: l)) : Env w0 w (q :: l) := h.of1

section
variable {w0 w w' : World} {l : List (Value × List Nat)} {va vb : Value} {xs ys zs : List Nat}
theorem Env.pop {p : Value × List Nat} (h : Env w0 w (p :: l)) : Env w0 w l := ⟨h.1, fun q hq => h.2 q (List.mem_cons_of_mem _ hq)⟩
theorem Env.lit4 (h : Env w0 w l) (x y z t : Nat) (X Y Z T : Int) (hX : X = (x : Int)) (hY : Y = (y : Int)) (hZ : Z = (z : Int)) (hT : T = (t : Int)) (hx : x < 4294967296) (hy : y < 4294967296) (hz : z < 4294967296) (ht : t < 4294967296) : Env w0 (w.alloc (.cells #[.int .u32 X, .int .u32 Y, .int .u32 Z, .int .u32 T] 28)) ((.slice (some ⟨w.heap.size, 0, none⟩) 4 4, [x, y, z, t]) :: l) := by subst hX hY hZ hT; exact h.lit [x, y, z, t] ((((Limbs.one ht).cons hz).cons hy).cons hx) (by unfold maxLen; simp)
theorem low_is {n : Nat} {b : Bool} (h : Env w0 w l) (ha : (va, xs) ∈ l) (hl : sLow xs = n) (hb : sLowOk xs = b) : Calls Try.prog 12 #[va] w fun e w' => e = .returned (.tuple #[.int .u64 (n : Nat), .bool b]) ∧ Env w0 w' l := by
  have := low_env h ha
  rwa [hl, hb] at this
theorem of_is (h : Env w0 w l) (u : Nat) (hu : u < 18446744073709551616) (hz : lim u = zs) : Calls Try.prog 17 #[.int .u64 (u : Int)] w fun e w' => ∃ r, e = .returned r ∧ Env w0 w' ((r, zs) :: l) := by
  have := of_env h u hu
  rwa [hz] at this
end

end Go.Proofs.Ytlfhpoffphljfaa

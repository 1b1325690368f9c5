/- Contracts: the halves that byHalves takes; what is built of them. -/
import Derived.Outline
import Derived.Deep.RegionWith
import Derived.Deep.DeepCutAuto
import Derived.Test.YtlfhpoffphljfaaMulC
namespace Go.Proofs.Ytlfhpoffphljfaa
open Go.RowKit Go.Shelf

theorem Arg.some {w : World} {v : Value} {xs : List Nat} (h : Arg w v xs) (hn : 0 < xs.length) : ∃ b off cap, v = .slice (some ⟨b, off, none⟩) xs.length cap ∧ xs.length ≤ cap ∧ cap ≤ maxLen ∧ Rd w w.heap.size (some ⟨b, off, none⟩) xs := by
  obtain ⟨A, cap, e, h1, h2, hr⟩ := h
  obtain ⟨b, off, rfl, _⟩ := hr.2 hn
  exact ⟨b, off, cap, e, h1, h2, hr⟩

theorem PiecePost.arg {w : World} {L : List Nat} {e : Ending} {w' : World} (hl : L.length ≤ maxLen) (h : PiecePost w w.heap.size L e w') : ∃ v, e = .returned v ∧ Arg w v L ∧ w' = w := by
  obtain ⟨⟨A, he, hr⟩, hw⟩ := h
  exact ⟨_, he, ⟨A, _, rfl, Nat.le_refl _, hl, hr⟩, hw⟩
theorem pieceL_max {xs : List Nat} {cap : Nat} (h : Limbs xs) (h1 : xs.length ≤ cap) (h2 : cap ≤ maxLen) (i k : Nat) : (pieceL xs i k).length ≤ maxLen := by
  have := pieceL_le h i k
  omega

/-- A value in an environment, a cell of the world that the environment began with. -/
def Box (w0 : World) (B : Nat) (v : Value) : Prop := B < w0.heap.size ∧ w0.cell? ⟨B, 0, none⟩ = some v
theorem Box.at {w0 w : World} {B : Nat} {v : Value} {l : List (Value × List Nat)} (h : Box w0 B v) (E : Env w0 w l) : w.cell? ⟨B, 0, none⟩ = some v := (E.1.cell (p := ⟨B, 0, none⟩) h.1).trans h.2

theorem Env.drew {w0 w : World} {l : List (Value × List Nat)} (h : Env w0 w l) : Env w0 w.drew l := ⟨h.1.drew, fun p hp => h.2 p hp⟩

theorem Env.drop3 {w0 w : World} {a b c : Value × List Nat} {l : List (Value × List Nat)} (h : Env w0 w (a :: b :: c :: l)) : Env w0 w (a :: l) := ⟨h.1, fun p hp => by
  rcases List.mem_cons.1 hp with rfl | hp
  · exact h.2 _ (by simp)
  · exact h.2 _ (by simp [hp])⟩

section
variable {w0 w : World} {l : List (Value × List Nat)} {va : Value} {xs : List Nat} {half hb lb gb : Nat}
set_option maxHeartbeats 1000000 in
theorem low_half (E : Env w0 w l) (ha : (va, xs) ∈ l) (hB : Box w0 hb (.int .i64 (half : Int))) (h0 : 0 < xs.length) (h1 : 0 < half) (h2 : half ≤ maxLen) :
    Calls Try.prog 67 #[va, .pointer (some ⟨hb, 0, none⟩)] w fun e w' => ∃ r, e = .returned r ∧ Env w0 w' ((r, pieceL xs 0 half) :: l) := by
  obtain ⟨b, off, cap, rfl, hc, hm, hr⟩ := (E.get ha).some h0
  have c := piece_any b off cap xs 0 half w _ hr h0 h1 h2 hc hm
  have hcell := hB.at E
  have hpm := pieceL_max hr.limbs hc hm 0 half
  rw [Nat.sub_zero] at c
  clear hr ha
  go_enter Try.func67, Try.ntmps67
  go_wp2_with fail
  refine c.mono ?_
  rintro e w' hp
  obtain ⟨v, rfl, hv, hw⟩ := hp.arg hpm
  obtain rfl := hw.symm
  have HE := Lib.hid (E.add (Below.refl _ _) hv)
  clear c hp hv E
  go_wp2
  go_ret
  exact ⟨_, rfl, HE.out⟩
set_option maxHeartbeats 1000000 in
theorem high_half (E : Env w0 w l) (ha : (va, xs) ∈ l) (hB : Box w0 hb (.int .i64 (half : Int))) (h0 : half < xs.length) :
    Calls Try.prog 68 #[va, .pointer (some ⟨hb, 0, none⟩)] w fun e w' => ∃ r, e = .returned r ∧ Env w0 w' ((r, pieceL xs half (xs.length - half)) :: l) := by
  obtain ⟨b, off, cap, rfl, hc, hm, hr⟩ := (E.get ha).some (by omega)
  have c := piece_any b off cap xs half xs.length w _ hr h0 h0 (by omega) hc hm
  have hcell := hB.at E
  have hpm := pieceL_max hr.limbs hc hm half (xs.length - half)
  clear hr ha
  go_enter Try.func68, Try.ntmps68
  go_wp2_with fail
  refine c.mono ?_
  rintro e w' hp
  obtain ⟨v, rfl, hv, hw⟩ := hp.arg hpm
  obtain rfl := hw.symm
  have HE := Lib.hid (E.add (Below.refl _ _) hv)
  clear c hp hv E
  go_wp2
  go_ret
  exact ⟨_, rfl, HE.out⟩

/-- Both halves, added. -/
def bothL (xs : List Nat) (half : Nat) : List Nat := sAdd (pieceL xs 0 half) (pieceL xs half (xs.length - half))
def lowF (hb : Nat) : Value := .func (.func 67) #[] #[.pointer (some ⟨hb, 0, none⟩)]
def highF (hb : Nat) : Value := .func (.func 68) #[] #[.pointer (some ⟨hb, 0, none⟩)]
set_option maxHeartbeats 4000000 in
theorem both_halves (E : Env w0 w l) (ha : (va, xs) ∈ l) (hB : Box w0 hb (.int .i64 (half : Int))) (hL : Box w0 lb (lowF hb)) (hG : Box w0 gb (highF hb)) (h0 : half < xs.length) (h1 : 0 < half) :
    Calls Try.prog 69 #[va, .pointer (some ⟨lb, 0, none⟩), .pointer (some ⟨gb, 0, none⟩)] w fun e w' => ∃ r, e = .returned r ∧ Env w0 w' ((r, bothL xs half) :: l) := by
  have hh : half ≤ maxLen := by obtain ⟨_, _, _, hc, hm, _⟩ := E.get ha; omega
  have cl := hL.at E
  have cg := hG.at E
  have Ed := E.drew
  have hx0 : 0 < xs.length := by omega
  unfold lowF at cl
  unfold highF at cg
  clear E
  go_enter Try.func69, Try.ntmps69
  go_upto_region 1 with fail
  go_region_with (first
    | (go_at_call 67; (with_reducible refine (low_half Ed ha hB hx0 h1 hh).mono ?_); rintro e w1 ⟨v1, rfl, E1⟩; have cg1 := hG.at E1; unfold highF at cg1)
    | (go_at_call 68; (with_reducible refine (high_half E1 (List.mem_cons_of_mem _ ha) hB h0).mono ?_); rintro e w2 ⟨v2, rfl, E2⟩)
    | (go_at_call 16; (with_reducible refine (add_env E2 (List.mem_cons_of_mem _ (List.mem_cons_self ..)) (List.mem_cons_self ..)).mono ?_); rintro e w3 ⟨v3, rfl, E3⟩))
  all_goals
    have HE := Lib.hid E3.drop3
    clear E1 E2 E3 cg1
    go_wp2
    go_ret
    exact ⟨_, rfl, HE.out⟩
end

end Go.Proofs.Ytlfhpoffphljfaa

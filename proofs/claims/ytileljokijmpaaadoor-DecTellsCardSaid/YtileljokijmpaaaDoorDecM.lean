/- Contract: Parse. -/
import Derived.Test.YtileljokijmpaaaDoorDecL
namespace Go.Proofs.YtileljokijmpaaaDoor
open Go.RowKit Go.Shelf

set_option linter.unusedVariables false

/-- the natural of a text, and the error -/
def pN (L : List Nat) : List Nat := if isT L then clip (dv L) else []
def pE (L : List Nat) : Nat := if isT L then (if (lim (dv L)).length ≤ 65536 then 0 else 40) else 4
def ParsePost (w : World) (N : List Nat) (E : Nat) (e : Ending) (w' : World) : Prop :=
  (∃ v, e = .returned (.tuple #[v, .int .i64 (E : Int)]) ∧ Own w' w.heap.size v N) ∧ Below w.heap.size w w'

theorem isT_over {L : List Nat} (h : isT L = true) (hl : 631306 < L.length) : ¬ (lim (dv L)).length ≤ 65536 := by
  have h1 : nd (dv L) = L.length := by rw [← txt_length, isT_txt h]
  have h0 : dv L ≠ 0 := fun h0 => by rw [h0, nd_zero] at h1; omega
  exact ten_over (k := nd (dv L) - 1) (by omega) (nd_ge h0)
theorem clip_over {n : Nat} (h : ¬ (lim n).length ≤ 65536) : clip n = [] := clip_not h

set_option maxRecDepth 100000 in
set_option maxHeartbeats 4000000 in
theorem parse_any (L : List Nat) (w : World) (hc : Codes L) (hl : L.length < 9223372036854775808) :
    Calls Tryd.prog 15 #[.string (str L)] w (ParsePost w (pN L) (pE L)) := by
  have c0 := isText_any L w hc hl
  have hsz := str_size L
  have e1 := str_beq hc (show Codes [48] from fun c h => by rw [List.mem_singleton.1 h]; decide)
  rw [show (str [48]).toList = [48] from by rw [str_toList]; rfl] at e1
  unfold pN pE
  cases hT : isT L with
  | false =>
    rw [hT] at c0
    rw [if_neg (by decide), if_neg (by decide)]
    clear e1 hT
    go_enter Tryd.func15, Tryd.ntmps15
    go_wp2_with fail
    refine c0.mono ?_
    rintro e w1 ⟨rfl, hb⟩
    clear c0
    go_wp2_with fail
    go_ret2
    exact ⟨⟨_, rfl, World.ownsRow_nil _ _ _ _⟩, hb⟩
  | true =>
    rw [hT] at c0
    rw [if_pos rfl, if_pos rfl]
    have hD := (isT_iff.1 hT).1
    have hne : 0 < L.length := List.length_pos_iff.2 (isT_iff.1 hT).2.1
    by_cases h48 : L = [48]
    · subst h48
      rw [decide_eq_true rfl] at e1
      have k1 : clip (dv [48]) = [] := by rw [dv_one]; exact clip_zero
      have k2 : (if (lim (dv [48])).length ≤ 65536 then 0 else 40) = 0 := by rw [dv_one, lim_zero]; rfl
      rw [k1, k2]
      clear hT hD
      go_enter Tryd.func15, Tryd.ntmps15
      go_wp2_with fail
      refine c0.mono ?_
      rintro e w1 ⟨rfl, hb⟩
      clear c0
      go_wp2_with fail
      go_ret2
      exact ⟨⟨_, rfl, World.ownsRow_nil _ _ _ _⟩, hb⟩
    · rw [decide_eq_false h48] at e1
      have hpos := isT_pos hT h48
      by_cases hlong : 631306 < L.length
      · have hov := isT_over hT hlong
        rw [clip_over hov, if_neg hov]
        clear hT hD hov hpos
        go_enter Tryd.func15, Tryd.ntmps15
        go_wp2_with fail
        refine c0.mono ?_
        rintro e w1 ⟨rfl, hb⟩
        clear c0
        go_wp2_with fail
        go_ret2
        exact ⟨⟨_, rfl, World.ownsRow_nil _ _ _ _⟩, hb⟩
      · have cj := fun w1 => joined_any L w1 hD hne (by omega)
        by_cases hfit : (lim (dv L)).length ≤ 65536
        · rw [if_pos hfit]
          have hcl : (clip (dv L)).length ≠ 0 := fun h => by
            have h1 := List.eq_nil_of_length_eq_zero h
            have h2 := val_clip hfit
            rw [h1] at h2
            exact absurd h2.symm (by simp [val]; omega)
          generalize clip (dv L) = N at *
          clear hT hD hpos hfit
          go_enter Tryd.func15, Tryd.ntmps15
          go_wp2_with fail
          refine c0.mono ?_
          rintro e w1 ⟨rfl, hb⟩
          clear c0
          have cj := cj w1
          go_wp2_with fail
          refine cj.mono ?_
          rintro e w2 ⟨⟨v, rfl, ho⟩, hb2⟩
          clear cj
          obtain ⟨A, c, rfl⟩ := own_form ho rfl
          have HO := Lib.hid (ho.more hb.size)
          have HB := Lib.hid (hb.trans (hb2.mono hb.size))
          clear ho hb hb2
          go_wp2_with fail
          go_ret2
          exact ⟨⟨_, rfl, HO.out⟩, HB.out⟩
        · rw [if_neg hfit]
          have hcl := clip_over hfit
          rw [hcl] at cj ⊢
          clear hT hD hpos hfit hcl
          go_enter Tryd.func15, Tryd.ntmps15
          go_wp2_with fail
          refine c0.mono ?_
          rintro e w1 ⟨rfl, hb⟩
          clear c0
          have cj := cj w1
          go_wp2_with fail
          refine cj.mono ?_
          rintro e w2 ⟨⟨v, rfl, ho⟩, hb2⟩
          clear cj
          obtain ⟨A, c, rfl⟩ := own_form (X := []) ho rfl
          have HB := Lib.hid (hb.trans (hb2.mono hb.size))
          clear ho hb hb2
          go_wp2_with fail
          go_ret2
          exact ⟨⟨_, rfl, World.ownsRow_nil _ _ _ _⟩, HB.out⟩

end Go.Proofs.YtileljokijmpaaaDoor

/- Open, whatever comes; calls of no table. -/
import Derived.Test.YtcjljfjgekiocaaGreatDoorNamX
import Derived.Test.YtcjljfjgekiocaaGreatDoorNamU
namespace Go.Proofs.YtcjljfjgekiocaaGreatDoor
open Go.RowKit Go.Shelf

attribute [local go_sem] Oper.semAt_some
set_option linter.unusedVariables false
set_option linter.unusedSimpArgs false

/-- what Open leaves -/
def OpnP (w : World) (B g : Nat) (T : Tb) (ks : List Nat) (ns : List (List Nat)) (e : Ending) (w' : World) : Prop :=
  (openC T ns ≠ 0 ∧ OErr w B g (openC T ns) T ks e w') ∨ (openC T ns = 0 ∧ OOk w B g T ks ns e w')
theorem open_any (g : Nat) (T : Tb) (ks : List Nat) (ns : List (List Nat)) (A : Option Addr) (cap : Nat) (w : World) (B : Nat) (hBw : B ≤ w.heap.size) (h : TabAt w B g T ks) (hG : GoodT T) (hr : RdS w A ns) (hok : OkS ns) (hl : ns.length ≤ 1048576) :
    Calls Tryz.prog 12 #[.pointer (some ⟨g, 0, none⟩), .slice A ns.length cap] w (OpnP w B g T ks ns) := by
  by_cases h0 : ns = []
  · subst h0
    have e : openC T [] = 4 := by simp [openC]
    refine (open_none g T ks A cap w B h).mono fun e' w' h' => .inl ?_
    rw [e]
    exact ⟨by decide, h'⟩
  have hpos : 0 < ns.length := by
    cases ns with
    | nil => exact absurd rfl h0
    | cons a r => simp
  cases hn : ns.any fun x => !isN x with
  | true =>
    have e : openC T ns = 4 := by unfold openC; rw [if_pos (.inr hn)]
    refine (open_no g T ks ns A cap w B h hr hok hl hpos hn).mono fun e' w' h' => .inl ?_
    rw [e]
    exact ⟨by decide, h'⟩
  | false =>
    have e0 : ¬ (ns = [] ∨ (ns.any fun x => !isN x) = true) := fun q => by
      rcases q with q | q
      · exact h0 q
      · rw [hn] at q
        cases q
    by_cases hd : ns.Nodup
    · by_cases hq : T.sc.length = 64 ∨ 1048576 - T.nx < ns.length
      · have e : openC T ns = 40 := by unfold openC; rw [if_neg e0, if_neg (fun q => q hd), if_pos hq]
        refine (open_full g T ks ns A cap w B h hr hok hl hpos hn hG.nx hd hq).mono fun e' w' h' => .inl ?_
        rw [e]
        exact ⟨by decide, h'⟩
      · have e : openC T ns = 0 := by unfold openC; rw [if_neg e0, if_neg (fun q => q hd), if_neg hq]
        have hsl := hG.sl
        exact (open_ok g T ks ns A cap w B hBw h hr hok hl hpos hn hG.nx hd (by omega) (by omega)).mono fun e' w' h' => .inr ⟨e, h'⟩
    · have e : openC T ns = 6 := by unfold openC; rw [if_neg e0, if_pos hd]
      refine (open_twice g T ks ns A cap w B h hr hok hl hpos hn hG.nx hd).mono fun e' w' h' => .inl ?_
      rw [e]
      exact ⟨by decide, h'⟩
theorem declare_nil (v : Value) (w : World) : Calls Tryz.prog 11 #[.pointer none, v] w fun e w' => e = .returned (.tuple #[.int .i64 0, .int .i64 2]) ∧ w' = w := by
  go_enter Tryz.func11, Tryz.ntmps11
  go_wp2_with fail
  go_ret2
  exact ⟨rfl, rfl⟩
theorem open_nil (v : Value) (w : World) : Calls Tryz.prog 12 #[.pointer none, v] w fun e w' => e = .returned (.tuple #[.slice none 0 0, .int .i64 2]) ∧ w' = w := by
  go_enter Tryz.func12, Tryz.ntmps12
  go_wp2_with fail
  go_ret2
  exact ⟨rfl, rfl⟩
theorem close_nil (w : World) : Calls Tryz.prog 14 #[.pointer none] w fun e w' => e = .returned (.int .i64 2) ∧ w' = w := by
  go_enter Tryz.func14, Tryz.ntmps14
  go_wp2_with fail
  go_ret
  exact ⟨rfl, rfl⟩
theorem declared_nil (w : World) : Calls Tryz.prog 17 #[.pointer none] w fun e w' => e = .returned (.tuple #[.slice none 0 0, .slice none 0 0]) ∧ w' = w := by
  go_enter Tryz.func17, Tryz.ntmps17
  go_wp2_with fail
  go_ret2
  exact ⟨rfl, rfl⟩
theorem next_nil (w : World) : Calls Tryz.prog 19 #[.pointer none] w fun e w' => e = .returned (.int .i64 0) ∧ w' = w := by
  go_enter Tryz.func19, Tryz.ntmps19
  go_wp2_with fail
  go_ret
  exact ⟨rfl, rfl⟩
/-- blocks of no table tells nothing -/
theorem blocks_nil (Bt n₀ : Nat) (T : TypeId) (f : Nat → SD × SD) (w : World) (hBt : Boxed w Bt T (.pointer none)) :
    SeqN 8 66 #[.pointer (some ⟨Bt, 0, none⟩)] (tellK f) n₀ [Bt] (fun ys => ys = []) (fun _ => False) 0 w := by
  intro l J Jx W hW hJ hJx hY h0
  have hBtW : Boxed W Bt T (.pointer none) := (hW.block Bt hBt.lt).trans hBt
  have t1 := hBtW.cell
  have hl := hBtW.lt
  have HJ := Lib.hid (hJ.alloc (.cells #[.func (.yield l) #[] #[]] 99) h0)
  clear hY h0
  refine callsIn_of_wp_marks Tryz.func66 rfl trivial ?_ rfl
  simp only [Tryz.ntmps66, List.size_toArray, List.length_cons, List.length_nil, Nat.reduceAdd, Nat.reduceSub, Array.replicate_succ, Array.replicate_zero, List.push_toArray, List.append_toArray, List.nil_append, List.cons_append]
  gi_wp2_with fail
  exact ⟨_, results_none rfl _ _ _, ⟨_, rfl⟩, .inl ⟨_, rfl, HJ.out⟩⟩
end Go.Proofs.YtcjljfjgekiocaaGreatDoor

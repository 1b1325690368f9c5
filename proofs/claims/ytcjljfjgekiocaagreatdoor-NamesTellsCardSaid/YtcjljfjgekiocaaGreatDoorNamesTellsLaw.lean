/- The law NamesTells, for every input it returns true; what is handed in reads behind the call as it did; the variables that the row lists are tied to the program's text. No condition beyond the card's own. -/
import Derived.Test.YtcjljfjgekiocaaGreatDoorRows
import Derived.WalkKit
import Derived.ProofKit
import Derived.OpenShut
import Derived.ShutString
import Derived.ChangeOld
import Derived.Below
import Derived.Lay
import Derived.LaidMore
import Derived.SevenTiedAt
import Derived.LaidHandle
import Derived.LaidSub
import Derived.Lib.LaidTab
import Derived.MakeChecks
import Derived.Test.YtcjljfjgekiocaaGreatDoorCards
import Derived.Test.YtcjljfjgekiocaaGreatDoorTie
import Derived.Test.YtcjljfjgekiocaaGreatDoorNamAK
import Derived.Test.YtcjljfjgekiocaaGreatDoorNamAY
import Derived.Deep.Slices
import Derived.Deep.Strs
import Derived.Lib.SmallJoins
import Derived.ChangeArms
namespace Go.Proofs.YtcjljfjgekiocaaGreatDoor
open Go.ChangeShapes Go.WideShapes Go.ChangeAt Go.RowKit Go.Deep Go.Joins

set_option linter.unusedVariables false
set_option linter.unusedSimpArgs false

variable {H : Type} {enc : TypeId × Value → H} {w : World} {sp : Nat → Bool} {held : Bool}
theorem acts_openK {n : Nat} {c : Value} {y : DataW H × List MemPlace} (h : DataW.trod enc Tryz.prog w 0 sp held n 43 [c] = some y) :
    ∃ (l : List Act) (A : Option Addr) (m : Nat), c = .slice A l.length m ∧ l.length ≤ 9223372036854775807 ∧ RdA w A l ∧ OkA l ∧ ∀ b o (j : Nat) (a : Act), A = some ⟨b, o, none⟩ → l[j]? = some a → ∀ n c, w.cell? ⟨b, o + j * 2 + 1, none⟩ = some (.slice none n c) → c = 0 := by
  have hmx : maxLen = 9223372036854775807 := by decide
  rcases DataW.trod_slice Tryz.underlying43 h with ⟨e, _⟩ | ⟨a, len, cap, elems, rest, n', rfl, e, _, _, hl, hm, hlen, hel, _, _⟩
  · simp at e
    subst e
    exact ⟨[], none, 0, rfl, Nat.zero_le _, .inl rfl, fun x hx => (by cases hx), fun b o j a e => by cases e⟩
  · simp at e
    subst e
    rw [cActN] at hel
    have hnode : ∀ i, i < len → ∃ x : Act, (w.cell? ((a.add (i * 2)).add 0) = some (.int .u8 ((x.1 : Nat) : Int)) ∧ ∃ A m, w.cell? ((a.add (i * 2)).add 1) = some (.slice A x.2.length m) ∧ RdS w A x.2) ∧ x.1 < 256 ∧ OkR x.2 ∧ x.2.length ≤ 9223372036854775807 ∧ (∀ n c, w.cell? ((a.add (i * 2)).add 1) = some (.slice none n c) → c = 0) := by
      intro i hi
      have key := hel i hi
      rw [List.getElem?_eq_getElem (by omega)] at key
      obtain ⟨cs', h1, h2⟩ := Option.bind_eq_some_iff.1 key
      obtain ⟨y0, y1, n2, _, hcl, f0, f1⟩ := trod_struct2 Tryz.underlying46 h2
      rw [cActN] at hcl
      obtain ⟨c0, c1, rfl⟩ := list2N hcl
      have hc := (World.cells?_some h1).2.2
      simp only [cU8N, cStrsN, List.drop_zero, List.take_succ_cons, List.take_zero, List.drop_succ_cons] at f0 f1
      obtain ⟨k, e0, _, hk⟩ := DataW.trod_int Tryz.underlying5 f0
      have hnil : ∀ n c, c1 = .slice none n c → c = 0 := by
        rintro n c rfl
        rcases DataW.trod_slice Tryz.underlying24 f1 with ⟨e, _⟩ | ⟨a', len', cap', elems', rest', n'', e0, e, _⟩
        · simp at e
          exact e.2
        · simp at e
      obtain ⟨ns, A, m, e1, hn, hr, ho⟩ := strs_openN f1
      simp at e0
      subst e0 e1
      have hk2 := bounds_u8 hk
      obtain ⟨kn, rfl⟩ : ∃ kn : Nat, k = (kn : Int) := ⟨k.toNat, by omega⟩
      exact ⟨(kn, ns), ⟨hc 0 (by omega), A, m, hc 1 (by omega), hr⟩, by show kn < 256; omega, ho, hn, fun n c h => hnil n c (by rw [hc 1 (by omega)] at h; exact Option.some.inj h)⟩
    obtain ⟨L, hL, hP⟩ := list_mk len hnode
    refine ⟨L, some a, cap, by rw [hL], by omega, ?_, fun x hx => ?_, fun b o j x e hj n c hcell => ?_⟩
    · cases len with
      | zero => exact .inl (List.length_eq_zero_iff.1 hL)
      | succ len =>
        obtain ⟨x0, ⟨hx0, _⟩, _⟩ := hnode 0 (by omega)
        obtain ⟨b, off, rfl, hlt⟩ : ∃ b off, a = ⟨b, off, none⟩ ∧ b < w.heap.size := by
          have h0 : a.add (0 * 2) = a := by simp [Addr.add]
          rw [h0] at hx0
          exact nd_addr hx0
        refine .inr ⟨b, off, rfl, hlt, fun j x hj => ?_⟩
        obtain ⟨⟨p1, A, m, p2, p3⟩, _⟩ := hP j x hj
        rw [nd_add, nd_add] at p1 p2
        exact ⟨p1, A, m, p2, p3⟩
    · obtain ⟨j, hj⟩ := List.mem_iff_getElem?.1 hx
      obtain ⟨-, p1, p2, p3, -⟩ := hP j x hj
      exact ⟨p1, p2, p3⟩
    · cases e
      obtain ⟨-, -, -, -, p⟩ := hP j x hj
      rw [nd_add, nd_add] at p
      exact p n c hcell
end Go.Proofs.YtcjljfjgekiocaaGreatDoor
namespace Go.Proofs.YtcjljfjgekiocaaGreatDoor.namesTellsLaw
open Go.ChangeShapes Go.WideShapes Go.ChangeAt Go.RowKit
set_option linter.unusedVariables false

theorem own : ownKnob Tryz.prog.godebug = none := by kernel_rfl
theorem laidOut : laidOutB Tryz.prog = true := by kernel_rfl

theorem door_met (os : Os) (args : Array Value) : laidMetH Tryz.prog Rows.namesTellsRow.laid ((World.doorLaid Tryz.prog 400 os).forCall (fun _ _ => 0) ⟨#[], args, []⟩).memory :=
  laidMetH_of_parts3 (fuel := 8) (laidMet_of_run' 8 (by kernel_rfl) (by kernel_rfl)) (by kernel_rfl) (by kernel_rfl)
set_option maxRecDepth 100000 in
theorem lifted (os : Os) (started : os.Started) (H : Type) (enc : TypeId × Value → H) :
    ReturnsInHanded {} Tryz.checked os 4 .any (fun w args => (Rows.namesTellsSpec.pre enc Tryz.prog Tryz.f4 Rows.namesTellsRow.domain false w args ∧ laidMetH Tryz.prog Rows.namesTellsRow.laid w) ∧ sizedMet enc Tryz.prog Tryz.f4 (OpenSpec.ofChange Rows.namesTellsSpec) false w args) (Rows.namesTellsSpec.post enc Tryz.prog Tryz.f4 false true false false) := by
  refine returnsInHanded_of_change_and (C := Tryz.checked) (X := fun w _ => laidMetH Tryz.prog Rows.namesTellsRow.laid w) (fun _ _ _ hh h => h.of_heap hh) own started (by kernel_rfl) Tryz.func4
    (ChangeSpec.witness_shaped (enc := enc) (C := Tryz.checked) (os := os) (X := fun w _ => laidMetH Tryz.prog Rows.namesTellsRow.laid w) false (World.doorLaid Tryz.prog 400 os) #[.slice none 0 0, .slice none 0 0] 8 rfl (World.shaped_of_RefB (by kernel_rfl) (by kernel_rfl)) (by kernel_rfl) (by kernel_rfl) (by kernel_rfl) (door_met os _)) ?_
  intro W base args ds gs before hval0 hW _ _ hL _
  have hval : ∀ (j : Nat) t v, Tryz.f4.params[j]? = some t → args[j]? = some v → Value.okWide Tryz.prog W .any base t v := hval0
  have hW' := hW
  obtain ⟨p, q, hA0, hV, rfl, hfz, hnd⟩ := hW
  have hA : DataW.TrodAll enc Tryz.prog W 0 (fun _ => true) true Tryz.f4.params.toList args.toList ds p := hA0
  rw [Tryz.params4] at hA hval
  obtain ⟨v0, vs0, d0, ds0, p0, q0, hargs, rfl, rfl, h0, r0⟩ := trodAll_cons hA
  obtain ⟨v1, vs1, d1, ds1, p1, q1, rfl, rfl, rfl, h1, r1⟩ := trodAll_cons r0
  obtain ⟨rfl, rfl, rfl⟩ := trodAll_nil r1
  obtain rfl : args = #[v0, v1] := by cases args; simp_all
  obtain ⟨rfl, rfl⟩ := trodVars_none hV
  have k0 := h0
  have lt0 : ∀ x ∈ p0, x.block < W.heap.size := by obtain ⟨m, hm⟩ := k0; exact DataW.trod_lt m _ _ _ hm
  obtain ⟨a0, len0, cap0, rfl⟩ := okWide_slice Tryz.underlying43 (hval 0 43 v0 rfl rfl)
  obtain ⟨L0, A0, m0, e0, hl0, hr0, ho0, hx0⟩ : ∃ L A m, Value.slice a0 len0 cap0 = .slice A L.length m ∧ L.length ≤ 9223372036854775807 ∧ RdA W A L ∧ OkA L ∧ ∀ b o (j : Nat) (a : Act), A = some ⟨b, o, none⟩ → L[j]? = some a → ∀ n c, W.cell? ⟨b, o + j * 2 + 1, none⟩ = some (.slice none n c) → c = 0 := by
    obtain ⟨fuel, hf⟩ := h0
    exact acts_openK (by simpa [Value.cells] using hf)
  have k1 := h1
  have lt1 : ∀ x ∈ p1, x.block < W.heap.size := by obtain ⟨m, hm⟩ := k1; exact DataW.trod_lt m _ _ _ hm
  obtain ⟨a1, len1, cap1, rfl⟩ := okWide_slice Tryz.underlying24 (hval 1 24 v1 rfl rfl)
  obtain ⟨L1, A1, m1, e1, hl1, hr1, ho1⟩ : ∃ L A m, Value.slice a1 len1 cap1 = .slice A L.length m ∧ L.length ≤ 9223372036854775807 ∧ RdS W A L ∧ OkR L := by
    obtain ⟨fuel, hf⟩ := h1
    exact strs_openN (by simpa [Value.cells] using hf)
  clear hA0 hval0 hval
  rw [e0] at hW' k0 ⊢
  rw [e1] at hW' k1 ⊢
  refine (tells_law W L0 A0 m0 L1 A1 m1 hr0 ho0 hl0 hx0 hr1 ho1 hl1).mono fun e W' ⟨he, bel⟩ => ?_
  subst he
  exact ⟨_, rfl, _, _, _, [], _, [], hW', trodAll_mk1 (shut_bool Tryz.underlying4 _), (trodAll_cons_mk (Below.trod laidOut (by kernel_rfl) (of_decide_eq_true (by kernel_rfl)) k0 bel lt0) (trodAll_cons_mk (Below.trod laidOut (by kernel_rfl) (of_decide_eq_true (by kernel_rfl)) k1 bel lt1) trodAll_mk0)), rfl, bel.frame _, fun h => by cases h⟩

theorem over : Rows.namesTellsRow.holds Tryz.pinned (OpenSpec.ofChange Rows.namesTellsSpec) :=
  OpenClaim.holds_of_wide 4 Tryz.f4 rfl rfl rfl rfl rfl rfl rfl ⟨rfl, rfl, rfl, rfl, rfl⟩ rfl rfl rfl rfl rfl (by kernel_rfl) Tryz.func4 (by kernel_rfl)
    (of_decide_eq_true (by kernel_rfl)) (by unfold Func.isWrapper; first | (rw [if_pos (by decide +kernel)]; kernel_rfl) | (rw [if_neg (by decide +kernel)]; exact ⟨rfl, rfl⟩))
    (fun os started H enc _ => lifted os started H enc)

theorem proved : Rows.NamesTellsCardSaid :=
  Claim7.holds_tied_plain_at .later [] [.data, .data, .data, .sentinel, .sentinel] true (true, "66b7eadca4abd60b264a4a706e4553dd01ab8a323b299c50bca34486b652a185") true over (fun _ h => by cases h) (by kernel_rfl) (fun _ h => by cases h) namesTells_row_tie rfl ⟨rfl, rfl⟩ (by kernel_rfl) rfl
    (fun f fn hf hfn => by
      obtain rfl : f = 4 := Option.some.inj ((show Tryz.prog.funcNamed "alidade/alidadelaw14.NamesTells" = some 4 by kernel_rfl).symm.trans hf) |>.symm
      obtain rfl : fn = Tryz.f4 := (Option.some.inj (Tryz.func4.symm.trans hfn)).symm
      exact ⟨by kernel_rfl, fun j t ht => by
        rw [Tryz.params4] at ht
        have hm : t ∈ [43, 24] := by simpa using Array.mem_of_getElem? ht
        have hall : ([43, 24].all fun u => !Tryz.prog.wantsStandIn u) = true := by kernel_rfl
        exact (show Tryz.prog.wantsStandIn t = false by simpa using List.all_eq_true.1 hall t hm)⟩)
    (by kernel_rfl)
#print axioms proved
end Go.Proofs.YtcjljfjgekiocaaGreatDoor.namesTellsLaw

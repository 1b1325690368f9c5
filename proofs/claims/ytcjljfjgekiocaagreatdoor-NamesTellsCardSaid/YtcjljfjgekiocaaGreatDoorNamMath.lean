/- Names and what they stand for: the order of texts, entries, tables. -/
import Derived.Test.YtcjljfjgekiocaaGreatDoorStr
import Derived.Test.YtcjljfjgekiocaaGreatDoorLexMath
import Derived.Lib.Bytealg
namespace Go.Proofs.YtcjljfjgekiocaaGreatDoor

set_option linter.unusedVariables false
set_option linter.unusedSimpArgs false

/-! ### texts by their bytes -/
def ltn : List Nat → List Nat → Bool
  | _, [] => false
  | [], _ :: _ => true
  | a :: x, b :: y => decide (a < b) || (decide (a = b) && ltn x y)
theorem ltn_irr : ∀ a : List Nat, ltn a a = false
  | [] => rfl
  | a :: x => by simp [ltn, ltn_irr x]
theorem ltn_trans : ∀ {a b c : List Nat}, ltn a b = true → ltn b c = true → ltn a c = true
  | _, _, [], _, h => by simp [ltn] at h
  | _, [], _ :: _, h, _ => by simp [ltn] at h
  | [], _ :: _, _ :: _, _, _ => rfl
  | a :: x, b :: y, c :: z, h, h' => by
    simp only [ltn, Bool.or_eq_true, Bool.and_eq_true, decide_eq_true_eq] at h h' ⊢
    rcases h with h | ⟨rfl, h⟩ <;> rcases h' with h' | ⟨rfl, h'⟩
    · exact .inl (by omega)
    · exact .inl h
    · exact .inl h'
    · exact .inr ⟨rfl, ltn_trans h h'⟩
theorem ltn_tri : ∀ {a b : List Nat}, ltn a b = false → ltn b a = false → a = b
  | [], [], _, _ => rfl
  | [], _ :: _, h, _ => by simp [ltn] at h
  | _ :: _, [], _, h => by simp [ltn] at h
  | a :: x, b :: y, h, h' => by
    simp only [ltn, Bool.or_eq_false_iff, Bool.and_eq_false_iff, decide_eq_false_iff_not] at h h'
    have e : a = b := by omega
    subst e
    have h1 := h.2.resolve_left (by simp)
    have h2 := h'.2.resolve_left (by simp)
    rw [ltn_tri h1 h2]
theorem ltn_asym {a b : List Nat} (h : ltn a b = true) : ltn b a = false := by
  cases h' : ltn b a with
  | false => rfl
  | true => have := ltn_trans h h'; rw [ltn_irr] at this; cases this
theorem u8_lt2 {a b : Nat} (ha : a < 256) (hb : b < 256) : (UInt8.ofNat a < UInt8.ofNat b) ↔ a < b := by
  rw [UInt8.lt_iff_toNat_lt, UInt8.toNat_ofNat', UInt8.toNat_ofNat', Nat.mod_eq_of_lt ha, Nat.mod_eq_of_lt hb]
theorem less_ltn : ∀ {A B : List Nat}, Codes A → Codes B → Op.bytesLess (A.map UInt8.ofNat) (B.map UInt8.ofNat) = ltn A B
  | [], [], _, _ => rfl
  | _ :: _, [], _, _ => rfl
  | [], _ :: _, _, _ => rfl
  | a :: x, b :: y, hA, hB => by
    have ha := hA a (by simp)
    have hb := hB b (by simp)
    have ih := less_ltn (A := x) (B := y) (fun c h => hA c (by simp [h])) (fun c h => hB c (by simp [h]))
    rw [List.map_cons, List.map_cons, Op.bytesLess, ih, ltn]
    have e1 : decide (UInt8.ofNat a < UInt8.ofNat b) = decide (a < b) := by
      rw [decide_eq_decide]; exact u8_lt2 ha hb
    have e2 : (UInt8.ofNat a == UInt8.ofNat b) = decide (a = b) := by
      rw [Bool.eq_iff_iff, beq_iff_eq, decide_eq_true_iff]
      exact ⟨fun h => ofNat_inj ha hb h, fun h => by rw [h]⟩
    rw [e1, e2]
theorem bytes_ltn {A B : List Nat} (hA : Codes A) (hB : Codes B) : Op.bytesLess (str A).toList (str B).toList = ltn A B := by
  rw [str_toList, str_toList]; exact less_ltn hA hB
def cmn (A B : List Nat) : Int := if ltn A B then -1 else if ltn B A then 1 else 0
theorem cmp_cmn : ∀ {A B : List Nat}, Codes A → Codes B → Lib.compareBytes (A.map UInt8.ofNat) (B.map UInt8.ofNat) = cmn A B
  | [], [], _, _ => rfl
  | _ :: _, [], _, _ => by simp [Lib.compareBytes, cmn, ltn]
  | [], _ :: _, _, _ => rfl
  | a :: x, b :: y, hA, hB => by
    have ha := hA a (by simp)
    have hb := hB b (by simp)
    have ih := cmp_cmn (A := x) (B := y) (fun c h => hA c (by simp [h])) (fun c h => hB c (by simp [h]))
    rw [List.map_cons, List.map_cons, Lib.compareBytes, ih]
    unfold cmn
    simp only [ltn]
    rcases Nat.lt_trichotomy a b with h | h | h
    · rw [if_pos ((u8_lt2 ha hb).2 h)]
      simp [h]
    · subst h
      rw [if_neg (fun e => absurd ((u8_lt2 ha ha).1 e) (by omega)), if_neg (fun e => absurd ((u8_lt2 ha ha).1 e) (by omega))]
      simp
    · rw [if_neg (fun e => absurd ((u8_lt2 ha hb).1 e) (by omega)), if_pos ((u8_lt2 hb ha).2 h)]
      have e1 : ¬ a < b := by omega
      have e2 : ¬ a = b := by omega
      simp [e1, e2, h]
theorem cmp_str {A B : List Nat} (hA : Codes A) (hB : Codes B) : Lib.compareBytes (str A).data.toList (str B).data.toList = cmn A B := by
  show Lib.compareBytes ((A.map UInt8.ofNat).toArray.toList) ((B.map UInt8.ofNat).toArray.toList) = _
  exact cmp_cmn hA hB

/-! ### names -/
def FW : List (List Nat) := [[116, 114, 117, 101], [102, 97, 108, 115, 101], [110, 111, 116], [97, 110, 100], [111, 114], [61, 62], [105, 116, 101], [61], [60, 61], [60], [62, 61], [62], [95], [100, 105, 118, 105, 115, 105, 98, 108, 101], [101, 120, 105, 115, 116, 115], [102, 111, 114, 97, 108, 108], [108, 101, 116], [45], [43], [42], [47], [82, 101, 97, 108], [73, 110, 116]]
def fw (L : List Nat) : Bool := FW.any fun w => decide (L = w)
def isN (L : List Nat) : Bool := decide (kd L = 5) && !fw L
/-- an entry: a name, its variable -/
abbrev Ent := List Nat × Nat
def ecs (l : List Ent) : List Value := l.flatMap fun e => [.string (str e.1), .int .i64 ((e.2 : Nat) : Int)]
theorem ecs_len : ∀ l : List Ent, (ecs l).length = l.length * 2
  | [] => rfl
  | e :: l => by
    have := ecs_len l
    unfold ecs at this ⊢
    rw [List.flatMap_cons, List.length_append, this, List.length_cons]
    simp only [List.length_cons, List.length_nil]; omega
theorem ecs_cons (e : Ent) (l : List Ent) : ecs (e :: l) = .string (str e.1) :: .int .i64 ((e.2 : Nat) : Int) :: ecs l := rfl
theorem ecs_append (l l' : List Ent) : ecs (l ++ l') = ecs l ++ ecs l' := by unfold ecs; rw [List.flatMap_append]
theorem ecs_at : ∀ {l : List Ent} {j : Nat} {e : Ent}, l[j]? = some e → (ecs l)[j * 2]? = some (.string (str e.1)) ∧ (ecs l)[j * 2 + 1]? = some (.int .i64 ((e.2 : Nat) : Int))
  | [], j, e, h => by simp at h
  | x :: l, 0, e, h => by
    simp at h
    subst h
    exact ⟨rfl, rfl⟩
  | x :: l, j + 1, e, h => by
    have := ecs_at (l := l) (j := j) (e := e) (by simpa using h)
    rw [ecs_cons, show (j + 1) * 2 = j * 2 + 1 + 1 by omega]
    exact this
/-- each name, each variable, is one of a machine -/
def Ok (l : List Ent) : Prop := ∀ e ∈ l, Codes e.1 ∧ e.1.length ≤ 64 ∧ e.2 ≤ 1048576
end Go.Proofs.YtcjljfjgekiocaaGreatDoor

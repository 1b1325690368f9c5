/- Words of a text, over codes: kinds, what parts words, words one behind the other. -/
import Derived.Lib.Strings
import Derived.Lib.IndexLaws
namespace Go.Proofs.YtcjljfjgekiocaaGreatDoor

set_option linter.unusedVariables false

def dg (c : Nat) : Bool := decide (48 ≤ c) && decide (c ≤ 57)
def ltr (c : Nat) : Bool := (decide (97 ≤ c) && decide (c ≤ 122)) || (decide (65 ≤ c) && decide (c ≤ 90))
def sgs : List Nat := [126, 33, 64, 36, 37, 94, 38, 42, 95, 45, 43, 61, 60, 62, 46, 63, 47]
def hdc (c : Nat) : Bool := ltr c || sgs.contains c
def syc (c : Nat) : Bool := hdc c || dg c
def pcc (c : Nat) : Bool := syc c || c == 58
def plc (c : Nat) : Nat := if hdc c then 7 else if dg c then 3 else if c == 58 then 1 else 0
def dgs (L : List Nat) : Bool := L.all dg && !L.isEmpty
def num (L : List Nat) : Bool := dgs L && (L == [48] || !(L[0]?.getD 0 == 48))
/-- how many stand ahead of the first c -/
def upd (L : List Nat) (c : Nat) : Nat := (L.takeWhile (· != c)).length
def dcm (L : List Nat) : Bool := decide (upd L 46 < L.length) && (num (L.take (upd L 46)) && dgs (L.drop (upd L 46 + 1)))
def sym (L : List Nat) : Bool := !L.isEmpty && (decide (L.length ≤ 64) && (hdc (L[0]?.getD 0) && L.all syc))
def kd (L : List Nat) : Nat := if L = [40] then 1 else if L = [41] then 2 else if num L = true then 3 else if dcm L = true then 4 else if sym L = true then 5 else if L[0]?.getD 0 = 58 ∧ sym (L.drop 1) = true then 6 else 0
def blk (c : Nat) : Bool := c == 32 || (c == 9 || (c == 13 || c == 10))
/-- how many bytes part words (true: within a comment) -/
def skp : Bool → List Nat → Nat
  | _, [] => 0
  | true, c :: r => if c = 10 then skp false r + 1 else skp true r + 1
  | false, c :: r => if blk c = true then skp false r + 1 else if c = 59 then skp true r + 1 else 0
/-- how long the piece is -/
def wl (R : List Nat) : Nat := max (R.takeWhile pcc).length 1
def sq : Nat → Nat → List Nat → List (Nat × List Nat)
  | 0, _, _ => []
  | _ + 1, _, [] => []
  | f + 1, a, c :: r => (a, (c :: r).take (wl (c :: r))) :: sq f (a + wl (c :: r) + skp false ((c :: r).drop (wl (c :: r)))) (((c :: r).drop (wl (c :: r))).drop (skp false ((c :: r).drop (wl (c :: r)))))
def sqn (a : Nat) (R : List Nat) : List (Nat × List Nat) := sq R.length a R
def wds (L : List Nat) : List (Nat × List Nat) := sqn (skp false L) (L.drop (skp false L))

theorem dg_iff {c : Nat} : dg c = true ↔ 48 ≤ c ∧ c ≤ 57 := by simp [dg]
theorem hdc_dg {c : Nat} (h : dg c = true) : hdc c = false := by
  rw [dg_iff] at h
  have : c = 48 ∨ c = 49 ∨ c = 50 ∨ c = 51 ∨ c = 52 ∨ c = 53 ∨ c = 54 ∨ c = 55 ∨ c = 56 ∨ c = 57 := by omega
  rcases this with rfl | rfl | rfl | rfl | rfl | rfl | rfl | rfl | rfl | rfl <;> decide
theorem pcc_plc (c : Nat) : pcc c = decide (plc c ≠ 0) := by
  unfold pcc syc plc
  cases hdc c <;> cases dg c <;> by_cases h : c = 58 <;> simp [h]
theorem hdc_plc (c : Nat) : hdc c = decide (plc c = 7) := by
  unfold plc
  cases hdc c <;> cases dg c <;> by_cases h : c = 58 <;> simp [h]
theorem syc_plc (c : Nat) : syc c = decide (plc c = 7 ∨ plc c = 3) := by
  unfold syc plc
  cases hdc c <;> cases dg c <;> by_cases h : c = 58 <;> simp [h]
theorem plc_vals (c : Nat) : plc c = 7 ∨ plc c = 3 ∨ plc c = 1 ∨ plc c = 0 := by
  unfold plc
  cases hdc c <;> cases dg c <;> by_cases h : c = 58 <;> simp [h]
theorem wl_pos (R : List Nat) : 1 ≤ wl R := Nat.le_max_right _ _
theorem takeWhile_le {α : Type} (p : α → Bool) : ∀ L : List α, (L.takeWhile p).length ≤ L.length
  | [] => Nat.le_refl _
  | c :: r => by
    rw [List.takeWhile_cons]
    split
    · have := takeWhile_le p r
      simp only [List.length_cons]; omega
    · simp
theorem upd_le (L : List Nat) (c : Nat) : upd L c ≤ L.length := takeWhile_le _ _
theorem wl_le {R : List Nat} (h : R ≠ []) : wl R ≤ R.length := by
  have := takeWhile_le pcc R
  have h2 := List.length_pos_iff.2 h
  unfold wl; omega
theorem skp_le : ∀ (b : Bool) (L : List Nat), skp b L ≤ L.length
  | b, [] => by cases b <;> simp [skp]
  | true, c :: r => by
    have h1 := skp_le true r
    have h2 := skp_le false r
    rw [skp]; simp only [List.length_cons]; split <;> omega
  | false, c :: r => by
    have h1 := skp_le true r
    have h2 := skp_le false r
    rw [skp]; simp only [List.length_cons]; split
    · omega
    · split <;> omega
theorem skp_again : ∀ (b : Bool) (L : List Nat), skp false (L.drop (skp b L)) = 0
  | b, [] => by cases b <;> simp [skp]
  | true, c :: r => by
    have h1 := skp_again true r
    have h2 := skp_again false r
    rw [skp]
    split
    · rwa [List.drop_succ_cons]
    · rwa [List.drop_succ_cons]
  | false, c :: r => by
    have h1 := skp_again true r
    have h2 := skp_again false r
    by_cases hb : blk c = true
    · rw [show skp false (c :: r) = skp false r + 1 by rw [skp, if_pos hb]]
      rwa [List.drop_succ_cons]
    · by_cases h59 : c = 59
      · rw [show skp false (c :: r) = skp true r + 1 by rw [skp, if_neg hb, if_pos h59]]
        rwa [List.drop_succ_cons]
      · have : skp false (c :: r) = 0 := by rw [skp, if_neg hb, if_neg h59]
        rw [this]
        exact this
theorem skp_cons_blk {c : Nat} (r : List Nat) (h : blk c = true) : skp false (c :: r) = skp false r + 1 := by rw [skp, if_pos h]
theorem skp_cons_59 (r : List Nat) : skp false (59 :: r) = skp true r + 1 := by rw [skp, if_neg (by decide), if_pos rfl]
theorem skp_cons_no {c : Nat} (r : List Nat) (h : blk c = false) (h2 : c ≠ 59) : skp false (c :: r) = 0 := by rw [skp, if_neg (by rw [h]; decide), if_neg h2]
theorem skp_true_10 (r : List Nat) : skp true (10 :: r) = skp false (10 :: r) := by rw [skp, if_pos rfl, skp, if_pos (by decide)]
theorem skp_true_no {c : Nat} (r : List Nat) (h : c ≠ 10) : skp true (c :: r) = skp true r + 1 := by rw [skp, if_neg h]
theorem upd_nil (c : Nat) : upd [] c = 0 := rfl
theorem upd_cons_eq (c : Nat) (r : List Nat) : upd (c :: r) c = 0 := by simp [upd]
theorem upd_cons_ne {c d : Nat} (r : List Nat) (h : d ≠ c) : upd (d :: r) c = upd r c + 1 := by simp [upd, h]
theorem skp_comment : ∀ R : List Nat, skp true R = upd R 10 + skp false (R.drop (upd R 10))
  | [] => by simp [skp, upd]
  | c :: r => by
    by_cases h : c = 10
    · subst h
      rw [skp_true_10, upd_cons_eq, Nat.zero_add]; rfl
    · rw [skp_true_no r h, upd_cons_ne r h, List.drop_succ_cons, skp_comment r]; omega
theorem skp_line (r : List Nat) : skp false (59 :: r) = upd (59 :: r) 10 + skp false ((59 :: r).drop (upd (59 :: r) 10)) := by
  rw [skp_cons_59, upd_cons_ne r (by decide), List.drop_succ_cons, skp_comment r]; omega

theorem sq_nil (f a : Nat) : sq f a [] = [] := by cases f <;> rfl
theorem sq_fuel : ∀ (f g a : Nat) (R : List Nat), R.length ≤ f → R.length ≤ g → sq f a R = sq g a R
  | f, g, a, [], _, _ => by rw [sq_nil, sq_nil]
  | 0, _, _, _ :: _, h, _ => by simp at h
  | _ + 1, 0, _, _ :: _, _, h => by simp at h
  | f + 1, g + 1, a, c :: r, hf, hg => by
    rw [sq, sq]
    congr 1
    have h1 := wl_pos (c :: r)
    simp only [List.length_cons] at hf hg
    refine sq_fuel f g _ _ ?_ ?_ <;> (simp only [List.length_drop, List.length_cons]; omega)
theorem sqn_nil (a : Nat) : sqn a [] = [] := rfl
theorem sqn_cons (a : Nat) {R : List Nat} (h : R ≠ []) : sqn a R = (a, R.take (wl R)) :: sqn (a + wl R + skp false (R.drop (wl R))) ((R.drop (wl R)).drop (skp false (R.drop (wl R)))) := by
  obtain ⟨c, r, rfl⟩ := List.exists_cons_of_ne_nil h
  unfold sqn
  rw [List.length_cons, sq]
  congr 1
  have h1 := wl_pos (c :: r)
  refine sq_fuel _ _ _ _ ?_ (Nat.le_refl _)
  simp only [List.length_drop, List.length_cons]; omega
/-- by places in the text -/
theorem sqn_at {L : List Nat} {a : Nat} (h : a < L.length) : sqn a (L.drop a) = (a, (L.drop a).take (wl (L.drop a))) :: sqn (a + wl (L.drop a) + skp false (L.drop (a + wl (L.drop a)))) (L.drop (a + wl (L.drop a) + skp false (L.drop (a + wl (L.drop a))))) := by
  rw [sqn_cons a (by rw [ne_eq, List.drop_eq_nil_iff]; omega), List.drop_drop, List.drop_drop]
theorem sqn_end {L : List Nat} {a : Nat} (h : L.length ≤ a) : sqn a (L.drop a) = [] := by rw [List.drop_eq_nil_of_le h]; rfl
theorem wl_at {L : List Nat} {a : Nat} (h : a < L.length) : a + wl (L.drop a) ≤ L.length := by
  have := wl_le (R := L.drop a) (by rw [ne_eq, List.drop_eq_nil_iff]; omega)
  rw [List.length_drop] at this; omega
theorem skp_at (L : List Nat) {a : Nat} (h : a ≤ L.length) : a + skp false (L.drop a) ≤ L.length := by
  have := skp_le false (L.drop a)
  rw [List.length_drop] at this; omega

/-- the iterator's place ahead of word k -/
def At (L : List Nat) (k a : Nat) : Prop := a ≤ L.length ∧ (wds L).drop k = sqn a (L.drop a) ∧ skp false (L.drop a) = 0
theorem At.start (L : List Nat) : At L 0 (skp false L) := ⟨skp_le _ _, rfl, skp_again _ _⟩
theorem At.lt {L : List Nat} {k a : Nat} (h : At L k a) (hk : k ≤ (wds L).length) : k < (wds L).length ↔ a < L.length := by
  obtain ⟨h1, h2, _⟩ := h
  constructor
  · intro hl
    rcases Nat.lt_or_ge a L.length with h | h
    · exact h
    · rw [sqn_end h, List.drop_eq_nil_iff] at h2; omega
  · intro hl
    rw [sqn_at hl] at h2
    rcases Nat.lt_or_ge k (wds L).length with h | h
    · exact h
    · rw [List.drop_eq_nil_of_le h] at h2; cases h2
theorem At.get {L : List Nat} {k a : Nat} (h : At L k a) (hl : a < L.length) : (wds L)[k]? = some (a, (L.drop a).take (wl (L.drop a))) := by
  have h2 := h.2.1
  rw [sqn_at hl] at h2
  have := congrArg (·[0]?) h2
  simpa using this
theorem At.next {L : List Nat} {k a : Nat} (h : At L k a) (hl : a < L.length) : At L (k + 1) (a + wl (L.drop a) + skp false (L.drop (a + wl (L.drop a)))) := by
  refine ⟨skp_at L (wl_at hl), ?_, ?_⟩
  · have h2 := h.2.1
    rw [sqn_at hl] at h2
    rw [← List.drop_drop, h2]; rfl
  · rw [← List.drop_drop]
    exact skp_again _ _
theorem At.of {L : List Nat} : ∀ {k : Nat}, k ≤ (wds L).length → ∃ a, At L k a
  | 0, _ => ⟨_, At.start L⟩
  | k + 1, h => by
    obtain ⟨a, ha⟩ := At.of (L := L) (k := k) (by omega)
    exact ⟨_, ha.next ((ha.lt (by omega)).1 (by omega))⟩
theorem At.of_get {L : List Nat} {k : Nat} {x : Nat × List Nat} (h : (wds L)[k]? = some x) : At L k x.1 ∧ x.1 < L.length ∧ x.2 = (L.drop x.1).take (wl (L.drop x.1)) := by
  have hk : k < (wds L).length := by
    rcases Nat.lt_or_ge k (wds L).length with h' | h'
    · exact h'
    · rw [List.getElem?_eq_none h'] at h; cases h
  obtain ⟨a, ha⟩ := At.of (L := L) (Nat.le_of_lt hk)
  have hl := (ha.lt (Nat.le_of_lt hk)).1 hk
  rw [ha.get hl] at h
  injection h with h
  subst h
  exact ⟨ha, hl, rfl⟩

/-! ### what Words tells -/
def okw (L : List Nat) : Bool := (wds L).all (fun x => !(kd x.2 == 0))
def firstBad (L : List Nat) : Nat := (((wds L).find? (fun x => kd x.2 == 0)).map Prod.fst).getD 0
def wE (L : List Nat) : Nat := if 65536 < L.length then 40 else if okw L = true then 0 else 4
def wAt (L : List Nat) : Nat := if 65536 < L.length then 65536 else if okw L = true then 0 else firstBad L
def wL (L : List Nat) : List (Nat × List Nat) := if 65536 < L.length then [] else if okw L = true then wds L else []
theorem okw_of_all {L : List Nat} (h : ∀ x ∈ wds L, kd x.2 ≠ 0) : okw L = true := by
  unfold okw
  rw [List.all_eq_true]
  intro x hx
  simpa using h x hx
theorem okw_all {L : List Nat} (h : okw L = true) : ∀ x ∈ wds L, kd x.2 ≠ 0 := by
  unfold okw at h
  rw [List.all_eq_true] at h
  intro x hx
  simpa using h x hx
theorem bad_of {L : List Nat} {k : Nat} {p : List (Nat × List Nat)} {x : Nat × List Nat} (e : (wds L).take k = p ++ [x]) (hp : ∀ y ∈ p, kd y.2 ≠ 0) (hx : kd x.2 = 0) : okw L = false ∧ firstBad L = x.1 := by
  have hw : wds L = p ++ (x :: (wds L).drop k) := by
    have := List.take_append_drop k (wds L)
    rw [e] at this
    rw [List.append_assoc] at this
    exact this.symm
  constructor
  · unfold okw
    rw [hw, List.all_append, List.all_cons, hx]
    simp
  · unfold firstBad
    rw [hw, List.find?_append, List.find?_eq_none.2 (fun y hy => by simpa using hp y hy), Option.none_or, List.find?_cons_of_pos (by simpa using hx)]
    rfl
theorem wds_len (L : List Nat) : (wds L).length ≤ L.length := by
  have : ∀ (f a : Nat) (R : List Nat), (sq f a R).length ≤ f := by
    intro f
    induction f with
    | zero => intro a R; simp [sq]
    | succ f ih =>
      intro a R
      cases R with
      | nil => simp [sq]
      | cons c r => rw [sq]; simp only [List.length_cons]; have := ih (a + wl (c :: r) + skp false ((c :: r).drop (wl (c :: r)))) (((c :: r).drop (wl (c :: r))).drop (skp false ((c :: r).drop (wl (c :: r))))); omega
  have h := this (L.drop (skp false L)).length (skp false L) (L.drop (skp false L))
  have h2 : (L.drop (skp false L)).length ≤ L.length := by rw [List.length_drop]; omega
  exact Nat.le_trans h h2

/-! ### the first of a byte -/
theorem indexByte_upd : ∀ (L : List Nat) (c : Nat), (∀ x ∈ L, x < 256) → c < 256 → Lib.indexByte (L.map UInt8.ofNat) (UInt8.ofNat c) = if upd L c < L.length then (upd L c : Int) else -1
  | [], c, _, _ => by simp [Lib.indexByte, upd]
  | d :: r, c, h, hc => by
    have ih := indexByte_upd r c (fun x hx => h x (List.mem_cons_of_mem _ hx)) hc
    have hd : d < 256 := h d (by simp)
    rw [List.map_cons, Lib.indexByte]
    by_cases e : d = c
    · subst e
      simp [upd_cons_eq]
    · have hne : (UInt8.ofNat d == UInt8.ofNat c) = false := by
        rw [beq_eq_false_iff_ne]
        intro he
        have := congrArg UInt8.toNat he
        rw [UInt8.toNat_ofNat', UInt8.toNat_ofNat', Nat.mod_eq_of_lt hd, Nat.mod_eq_of_lt hc] at this
        exact e this
      rw [hne, ih, upd_cons_ne r e]
      simp only [List.length_cons]
      by_cases hl : upd r c < r.length
      · simp only [if_pos hl, if_pos (Nat.succ_lt_succ hl), if_neg Bool.false_ne_true]
        rw [if_neg (by simp)]
        rfl
      · simp only [if_neg hl, if_neg (show ¬ upd r c + 1 < r.length + 1 by omega), if_neg Bool.false_ne_true]
        rfl

end Go.Proofs.YtcjljfjgekiocaaGreatDoor

/- Nodes: lists of nodes as one kind of data, how large and how deep they are, their text, whether they may be. -/
import Derived.Test.YtbnlcgnpkodieaaLexM
namespace Go.Proofs.Ytbnlcgnpkodieaa

set_option linter.unusedVariables false

/-- nodes one behind the other: a node's kind, place, text, kids; the rest -/
inductive For
  | nil
  | cons (k : Nat) (a : Int) (t : List Nat) (kids rest : For)
namespace For
def len : For → Nat
  | nil => 0
  | cons _ _ _ _ r => r.len + 1
def app : For → For → For
  | nil, G => G
  | cons k a t c r, G => cons k a t c (r.app G)
def one (k : Nat) (a : Int) (t : List Nat) (c : For) : For := cons k a t c nil
theorem app_len : ∀ F G : For, (F.app G).len = F.len + G.len
  | nil, G => by simp [app, len]
  | cons k a t c r, G => by simp only [app, len, app_len r G]; omega
theorem app_nil : ∀ F : For, F.app nil = F
  | nil => rfl
  | cons k a t c r => by rw [app, app_nil r]
theorem app_assoc : ∀ F G H : For, (F.app G).app H = F.app (G.app H)
  | nil, G, H => rfl
  | cons k a t c r, G, H => by simp only [app, app_assoc r G H]
/-- how many nodes -/
def siz : For → Nat
  | nil => 0
  | cons _ _ _ c r => 1 + c.siz + r.siz
theorem siz_app : ∀ F G : For, (F.app G).siz = F.siz + G.siz
  | nil, G => by simp [app, siz]
  | cons k a t c r, G => by simp only [app, siz, siz_app r G]; omega
theorem len_siz : ∀ F : For, F.len ≤ F.siz
  | nil => Nat.le_refl _
  | cons _ _ _ c r => by have := len_siz r; simp only [len, siz]; omega
/-- how deep the deepest is -/
def dep : For → Nat
  | nil => 0
  | cons k _ _ c r => max (if k = 0 then 1 + c.dep else 0) r.dep
def ndep (k : Nat) (c : For) : Nat := if k = 0 then 1 + c.dep else 0
theorem dep_app : ∀ F G : For, (F.app G).dep = max F.dep G.dep
  | nil, G => by simp [app, dep]
  | cons k a t c r, G => by simp only [app, dep, dep_app r G]; omega
theorem dep_siz : ∀ F : For, F.dep ≤ F.siz
  | nil => Nat.le_refl _
  | cons k _ _ c r => by
    have h1 := dep_siz c
    have h2 := dep_siz r
    simp only [dep, siz]
    split <;> omega
theorem ndep_siz (k : Nat) (c : For) : ndep k c ≤ 1 + c.siz := by
  have := dep_siz c
  unfold ndep
  split <;> omega
/-- whether they may be -/
def may : For → Bool
  | nil => true
  | cons k _ t c r => (if k = 0 then t.isEmpty && c.may else decide (k = kd t) && decide (k ≠ 1) && decide (k ≠ 2) && decide (c.len = 0)) && r.may
def nmay (k : Nat) (t : List Nat) (c : For) : Bool := if k = 0 then t.isEmpty && c.may else decide (k = kd t) && decide (k ≠ 1) && decide (k ≠ 2) && decide (c.len = 0)
theorem may_cons (k : Nat) (a : Int) (t : List Nat) (c r : For) : (cons k a t c r).may = (nmay k t c && r.may) := rfl
/-- their text, with a blank between each two -/
def txt : For → List Nat
  | nil => []
  | cons k _ t c r => (if k = 0 then 40 :: (c.txt ++ [41]) else t) ++ (if r.len = 0 then [] else 32 :: r.txt)
def ntxt (k : Nat) (t : List Nat) (c : For) : List Nat := if k = 0 then 40 :: (c.txt ++ [41]) else t
theorem txt_cons (k : Nat) (a : Int) (t : List Nat) (c r : For) : (cons k a t c r).txt = ntxt k t c ++ (if r.len = 0 then [] else 32 :: r.txt) := rfl
/-- whether they are the same, wherever they stand -/
def sam : For → For → Bool
  | nil, nil => true
  | cons k _ t c r, cons k' _ t' c' r' => (decide (k = k') && (decide (t = t') && sam c c')) && sam r r'
  | _, _ => false
def nsam (k : Nat) (t : List Nat) (c : For) (k' : Nat) (t' : List Nat) (c' : For) : Bool := decide (k = k') && (decide (t = t') && sam c c')
theorem sam_len : ∀ {F G : For}, sam F G = true → F.len = G.len
  | nil, nil, _ => rfl
  | nil, cons _ _ _ _ _, h => by simp [sam] at h
  | cons _ _ _ _ _, nil, h => by simp [sam] at h
  | cons k a t c r, cons k' a' t' c' r', h => by
    simp only [sam, Bool.and_eq_true] at h
    simp only [len, sam_len h.2]
/-- the first one's text, if it is a symbol -/
def head : For → List Nat
  | nil => []
  | cons k _ t _ _ => if k = 5 then t else []
def nhead (k : Nat) (c : For) : List Nat := if k = 0 then c.head else []
/-- each text, and each kind, is one of a machine -/
def fine : For → Prop
  | nil => True
  | cons k a t c r => k < 256 ∧ (∀ x ∈ t, x < 256) ∧ c.fine ∧ r.fine
end For
end Go.Proofs.Ytbnlcgnpkodieaa

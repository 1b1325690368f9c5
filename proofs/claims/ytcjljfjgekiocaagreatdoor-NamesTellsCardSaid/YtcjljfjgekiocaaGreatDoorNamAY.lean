/- The law NamesTells. (Printed by wip/mknamtel.py.) -/
import Derived.Test.YtcjljfjgekiocaaGreatDoorNamBA
namespace Go.Proofs.YtcjljfjgekiocaaGreatDoor
open Go.RowKit Go.Shelf Go.Lib

set_option linter.unusedVariables false
set_option linter.unusedSimpArgs false

/-- a table, and the reference's, that lie apart -/
def TU (w0 W : World) (g : Nat) (T : Tb) (u : Nat) (U : Tb) : Prop := ∃ kg ku, TabAt W w0.heap.size g T kg ∧ RefAt W w0.heap.size u U ku ∧ (∀ k ∈ ku, k ∉ kg) ∧ Below w0.heap.size w0 W
theorem TU.below {w0 W W' : World} {g u : Nat} {T U : Tb} (h : TU w0 W g T u U) (hb : Below W.heap.size W W') : TU w0 W' g T u U := by
  obtain ⟨kg, ku, h1, h2, h3, h4⟩ := h
  exact ⟨kg, ku, h1.below hb, h2.below hb, h3, h4.trans (hb.mono h4.size)⟩
theorem FPost.below {w w1 : World} {B g : Nat} {T T1 : Tb} {ks : List Nat} (h0 : RefAt w B g T ks) (hB : B ≤ w.heap.size) (h : FPost w B g T1 ks w1) : Below B w w1 := by
  obtain ⟨k1, a1, s1, n1⟩ := h
  exact n1.below hB fun k q => (h0.kind k q).1
theorem TU.postT {w0 W W' : World} {g u : Nat} {T T' U : Tb} {kg ku : List Nat} (h1 : TabAt W w0.heap.size g T kg) (h2 : RefAt W w0.heap.size u U ku) (h3 : ∀ k ∈ ku, k ∉ kg) (h4 : Below w0.heap.size w0 W) (hp : TPost W w0.heap.size g T' kg W') : TU w0 W' g T' u U := by
  have hb := h4.trans (TPost.below h1 h4.size hp)
  obtain ⟨k2, q1, q2, q3⟩ := hp
  refine ⟨k2, ku, q1, h2.keepNb q3 h3, fun k hk r => ?_, hb⟩
  rcases q2 k r with r | r
  · exact h3 k hk r
  · have := (h2.kind k hk).2
    omega
theorem TU.postR {w0 W W' : World} {g u : Nat} {T U U' : Tb} {kg ku : List Nat} (h1 : TabAt W w0.heap.size g T kg) (h2 : RefAt W w0.heap.size u U ku) (h3 : ∀ k ∈ ku, k ∉ kg) (h4 : Below w0.heap.size w0 W) (hp : FPost W w0.heap.size u U' ku W') : TU w0 W' g T u U' := by
  have hb := h4.trans (FPost.below h2 h4.size hp)
  obtain ⟨k2, q1, q2, q3⟩ := hp
  refine ⟨kg, k2, h1.keepNb q3 fun k hk r => h3 k r hk, q1, fun k hk r => ?_, hb⟩
  rcases q2 k hk with q | q
  · exact h3 k q r
  · have := (h1.kind k r).2
    omega
theorem TU.last {w0 W : World} {g u : Nat} {T U : Tb} (h : TU w0 W g T u U) : W.cell? ⟨u, 2, none⟩ = some (.int .i64 ((U.nx : Nat) : Int)) := by
  obtain ⟨kg, ku, h1, ⟨a, s, xs, k0, hv, -⟩, h3, h4⟩ := h
  exact cell_of_row W u 2 _ _ _ hv.cell
theorem TU.next {w0 W : World} {g u : Nat} {T U : Tb} (h : TU w0 W g T u U) : ∀ q, Calls Tryz.prog 19 #[.pointer (some ⟨g, 0, none⟩)] (W.drewN q) fun e w' => e = .returned (.int .i64 ((T.nx : Nat) : Int)) ∧ w' = W.drewN q := fun q => by
  obtain ⟨kg, ku, h1, -, -, -⟩ := h
  exact next_any g T kg (W.drewN q) w0.heap.size (h1.keep fun k _ => rfl)
theorem ref_new (W : World) (B : Nat) (hB : B ≤ W.heap.size) : RefAt (W.alloc (.cells #[.slice none 0 0, .slice none 0 0, .int .i64 0] 51)) B W.heap.size tb0 [W.heap.size] :=
  ⟨_, _, [], [], ⟨lone_new W _ _, hB, World.ownsRow_nil _ _ _ _, World.ownsRow_nil _ _ _ _, ⟨rfl, rfl⟩, by simp [rks, nblk, Value.ownBlock]⟩, by simp [rks, nblk, Value.ownBlock]⟩
theorem spoil_at {w : World} {B : Nat} {e : TypeId} {g n c : Nat} {xs : List Value} (h : w.ownsRow B e 1 (.slice (some ⟨g, 0, none⟩) n c) n xs) {j : Nat} (hj : j < n) (u : Value) : ∃ uA, w.cell? ⟨g, j, none⟩ = some uA ∧ w.frozen? ⟨g, j, none⟩ = false ∧ (w.setCell ⟨g, j, none⟩ u).ownsRow B e 1 (.slice (some ⟨g, 0, none⟩) n c) n (xs.set j u) := by
  have hl : j < xs.length := by have := h.1; omega
  exact ⟨_, (h.cellAt j (by omega)).trans (List.getElem?_eq_getElem hl), h.frozenAt j, (h.stored j u).1⟩
/-- two rows of a call, whatever is in them -/
def SpI (wS wr : World) (v u : Value) (d : Nat) : Prop := (∃ xs, wr.ownsRow wS.heap.size 9 1 v d xs) ∧ (∃ ys, wr.ownsRow wS.heap.size 3 1 u d ys) ∧ Below wS.heap.size wS wr
theorem wpList_append_own_or {P : Program} {w : World} {ops : Array Oper} {rest : List Oper} {o : Oper} {a : Go.Act} {Q : Exit → Go.Act → World → Prop} (hgd : o.guard = none) (s x : Operand) (t : TypeId)
    (ho : o.op = .call { callee := .builtin .append, args := #[s, x], argTypes := #[t, t] })
    (base : Nat) (e : TypeId) (i : TypeInfo) (z : Value) (size bytes : Nat) (ht : P.underlying t = some (.slice e)) (hi : P.info? e = some i) (hz : i.zero = some z)
    (hsize : i.size = size) (hby : i.bytes = bytes) (hzs : z.cells.size = size) (hsz : 0 < size)
    (v : Value) (n : Nat) (xs : List Value) (hs : a.eval s = v) (hown : w.ownsRow base e size v n xs)
    (A : Option Addr) (m c : Nat) (news : List Value) (hx : a.eval x = .slice A m c) (h0 : A = none → m = 0 ∧ c = 0) (hl : news.length = m * size) (hnews : ∀ ad, A = some ad → ∀ j u, news[j]? = some u → w.cell? (ad.add j) = some u) (h1 : ∀ u ∈ news, u.oneCell' = true)
    (h63 : n + m ≤ maxLen) (hbytes : (n + m) * bytes ≤ 140737488355328) (hbase : base ≤ w.heap.size)
    (h : ∀ v' w', w'.ownsRow base e size v' (n + m) (xs ++ news) → w.grownBy w' v.ownBlock → wpList P ops Q rest (a.put o.dst v') w') : wpList P ops Q (o :: rest) a w := by
  cases A with
  | none =>
    obtain ⟨rfl, rfl⟩ := h0 rfl
    obtain rfl : news = [] := by simpa using hl
    exact wpList_append_own_none hgd s x t ho base e i size ht hi v n xs hs hown hx (h v w (by simpa using hown) ⟨rfl, rfl, rfl, Nat.le_refl _, fun _ _ _ => rfl⟩)
  | some ad => exact wpList_append_own w hgd s x t ho base e i z size bytes ht hi hz hsize hby hzs hsz v n xs hs hown ad m c news hx hl (hnews ad rfl) h1 h63 hbytes hbase fun v' w' a b _ => h v' w' a b
/-- texts as cells -/
def txs (L : List (List Nat)) : List Value := scs (L.map fun x => (x, 0))
theorem txs_len (L : List (List Nat)) : (txs L).length = L.length := by simp [txs, scs]
theorem txs_one (L : List (List Nat)) : ∀ u ∈ txs L, u.oneCell' = true := by
  intro u hu
  simp only [txs, scs, List.mem_map] at hu
  obtain ⟨e, -, rfl⟩ := hu
  rfl
theorem txs_news {w : World} {A : Option Addr} {L : List (List Nat)} (h : RdS w A L) : ∀ ad, A = some ad → ∀ j u, (txs L)[j]? = some u → w.cell? (ad.add j) = some u := by
  rintro ad rfl j u hu
  rcases h with rfl | ⟨b, o, e2, hb, hc⟩
  · simp [txs, scs] at hu
  · injection e2 with e2
    subst e2
    simp only [txs, scs, List.map_map, List.getElem?_map, Option.map_eq_some_iff] at hu
    obtain ⟨x, hx, rfl⟩ := hu
    rw [Addr.add_lit]
    exact hc j x hx
theorem own_texts {w : World} {B : Nat} {v : Value} {q : Nat} {L : List (List Nat)} (h : w.ownsRow B 9 1 v q (txs L)) (hq : q = L.length) : ∃ A c, v = .slice A q c ∧ RdS w A L := by
  have e : q = (L.map fun x => (x, 0)).length := by rw [List.length_map]; exact hq
  rw [e] at h
  obtain ⟨A, c, e1, hr⟩ := scs_rd (l := L.map fun x => (x, 0)) h
  refine ⟨A, c, by rw [e1, e], ?_⟩
  have hm : (L.map (fun x => (x, 0))).map (·.1) = L := by simp [List.map_map, Function.comp_def]
  rw [hm] at hr
  exact hr
theorem own_ints {w : World} {B : Nat} {v : Value} {d : Nat} {l : List Ent} (h : w.ownsRow B 3 1 v l.length (ics l)) (hd : d = l.length) : ∃ A c, v = .slice A d c ∧ RdJ w A (l.map fun e => ((e.2 : Nat) : Int)) := by
  subst hd
  exact rdj_of h
theorem openV_len (T : Tb) (ns : List (List Nat)) : (openV T ns).length ≤ ns.length := by
  unfold openV
  split
  · rw [bnd_len]; exact Nat.le_refl _
  · simp
/-- two tables, and two rows of the caller's own, that all lie apart -/
def K1 (w0 W : World) (g : Nat) (T : Tb) (u : Nat) (U : Tb) (va own : Value) (d q : Nat) : Prop :=
  ∃ kg ku, TabAt W w0.heap.size g T kg ∧ RefAt W w0.heap.size u U ku ∧ (∀ k ∈ ku, k ∉ kg) ∧ Below w0.heap.size w0 W ∧ (∃ xs, W.ownsRow w0.heap.size 3 1 va d xs) ∧ (∃ ys, W.ownsRow w0.heap.size 9 1 own q ys) ∧ (∀ k ∈ nblk va, k ∉ kg ∧ k ∉ ku ∧ k ∉ nblk own) ∧ (∀ k ∈ nblk own, k ∉ kg ∧ k ∉ ku)
theorem K1.tu {w0 W : World} {g u : Nat} {T U : Tb} {va own : Value} {d q : Nat} (h : K1 w0 W g T u U va own d q) : TU w0 W g T u U := by
  obtain ⟨kg, ku, h1, h2, h3, h4, -⟩ := h
  exact ⟨kg, ku, h1, h2, h3, h4⟩
theorem K1.below {w0 W W' : World} {g u : Nat} {T U : Tb} {va own : Value} {d q : Nat} (h : K1 w0 W g T u U va own d q) (hb : Below W.heap.size W W') : K1 w0 W' g T u U va own d q := by
  obtain ⟨kg, ku, h1, h2, h3, h4, ⟨xs, h5⟩, ⟨ys, h6⟩, h7, h8⟩ := h
  exact ⟨kg, ku, h1.below hb, h2.below hb, h3, h4.trans (hb.mono h4.size), ⟨xs, nown_below h5 hb⟩, ⟨ys, nown_below h6 hb⟩, h7, h8⟩
theorem K1.opened {w0 w6 W7 w8 w9 : World} {g u : Nat} {T1 T2 : Tb} {kg ku ks' : List Nat} {va own : Value} {d q : Nat} {xs ys : List Value} (t1 : TabAt w6 w0.heap.size g T1 kg) (t2 : RefAt w6 w0.heap.size u T1 ku) (t3 : ∀ k ∈ ku, k ∉ kg) (t4 : Below w0.heap.size w0 w6) (b7 : Below w6.heap.size w6 W7) (hown : W7.ownsRow w6.heap.size 9 1 own q ys)
    (a1 : TabAt w8 w0.heap.size g T2 ks') (a2 : ∀ k ∈ ks', k ∈ kg ∨ W7.heap.size ≤ k) (a3 : Nb (fun k => k ∈ kg) W7 w8) (hva : w8.ownsRow W7.heap.size 3 1 va d xs) (a4 : ∀ k ∈ nblk va, k ∉ ks') (hp : FPost w8 w0.heap.size u T2 ku w9) :
    K1 w0 w9 g T2 u T2 va own d q ∧ w9.ownsRow W7.heap.size 3 1 va d xs ∧ w9.ownsRow w6.heap.size 9 1 own q ys := by
  obtain ⟨k2, q1, q2, q3⟩ := hp
  have s6 := t4.size
  have s7 := b7.size
  have s8 := a3.size
  have lku : ∀ k ∈ ku, k < w6.heap.size := fun k hk => (t2.kind k hk).2
  have lkg : ∀ k ∈ kg, k < w6.heap.size := fun k hk => (t1.kind k hk).2
  have ho : ∀ k ∈ nblk own, w6.heap.size ≤ k ∧ k < W7.heap.size := fun k hk => by
    obtain ⟨h1, c, hc⟩ := nown_kind hown k hk
    exact ⟨h1, kind_lt2 hc⟩
  have hv : ∀ k ∈ nblk va, W7.heap.size ≤ k ∧ k < w8.heap.size := fun k hk => by
    obtain ⟨h1, c, hc⟩ := nown_kind hva k hk
    exact ⟨h1, kind_lt2 hc⟩
  have o8 := nown_block hown fun b hb => a3.block b (ho b hb).2 fun hk => by
    have := lkg b hk
    have := (ho b hb).1
    omega
  have o9 := nown_block o8 fun b hb => q3.block b (by have := (ho b hb).2; omega) fun hk => by
    have := lku b hk
    have := (ho b hb).1
    omega
  have v9 := nown_block hva fun b hb => q3.block b (hv b hb).2 fun hk => by
    have := lku b hk
    have := (hv b hb).1
    omega
  have ap : ∀ k ∈ ku, k ∉ ks' := fun k hk r => by
    rcases a2 k r with r | r
    · exact t3 k hk r
    · have := lku k hk
      omega
  have b8 := a3.below (B := w0.heap.size) (by omega) fun k hk => (t1.kind k hk).1
  have b9 := q3.below (B := w0.heap.size) (by omega) fun k hk => (t2.kind k hk).1
  refine ⟨⟨ks', k2, a1.keepNb q3 fun k hk r => ap k r hk, q1, fun k hk r => ?_, ((t4.trans (b7.mono s6)).trans b8).trans b9, ⟨_, nown_mono v9 (by omega)⟩, ⟨_, nown_mono o9 s6⟩, fun k hk => ⟨a4 k hk, fun r => ?_, fun r => ?_⟩, fun k hk => ⟨fun r => ?_, fun r => ?_⟩⟩, v9, o9⟩
  · rcases q2 k hk with q | q
    · exact ap k q r
    · have := (a1.kind k r).2
      omega
  · have := hv k hk
    rcases q2 k r with q | q
    · have := lku k q
      omega
    · omega
  · have := hv k hk
    have := ho k r
    omega
  · have := ho k hk
    rcases a2 k r with q | q
    · have := lkg k q
      omega
    · omega
  · have := ho k hk
    rcases q2 k r with q | q
    · have := lku k q
      omega
    · omega
theorem K1.store {w0 W : World} {g u gv go cv co : Nat} {T U : Tb} {d q k : Nat} (h : K1 w0 W g T u U (.slice (some ⟨gv, 0, none⟩) d cv) (.slice (some ⟨go, 0, none⟩) q co) d q) (hd : k < d) (hq : k < q) (x y : Value) :
    (∃ z, W.cell? ⟨gv, k, none⟩ = some z) ∧ W.frozen? ⟨gv, k, none⟩ = false ∧ (∃ z, (W.setCell ⟨gv, k, none⟩ x).cell? ⟨go, k, none⟩ = some z) ∧ (W.setCell ⟨gv, k, none⟩ x).frozen? ⟨go, k, none⟩ = false ∧
      K1 w0 ((W.setCell ⟨gv, k, none⟩ x).setCell ⟨go, k, none⟩ y) g T u U (.slice (some ⟨gv, 0, none⟩) d cv) (.slice (some ⟨go, 0, none⟩) q co) d q := by
  obtain ⟨kg, ku, h1, h2, h3, h4, ⟨xs, h5⟩, ⟨ys, h6⟩, h7, h8⟩ := h
  have m1 : gv ∈ nblk (.slice (some ⟨gv, 0, none⟩) d cv) := by simp [nblk, Value.ownBlock]
  have m2 : go ∈ nblk (.slice (some ⟨go, 0, none⟩) q co) := by simp [nblk, Value.ownBlock]
  have n1 := h7 gv m1
  have n2 := h8 go m2
  have hne : gv ≠ go := fun e => n1.2.2 (e ▸ m2)
  obtain ⟨uA, c1, f1, r1⟩ := spoil_at h5 hd x
  have k1 : ∀ b, b ≠ gv → (W.setCell ⟨gv, k, none⟩ x).heap[b]? = W.heap[b]? := fun b hb => Below.heap_setCell _ _ _ _ (show b ≠ gv from hb)
  have h6' := nown_block h6 fun b hb => k1 b (by
    have : b = go := by simpa [nblk, Value.ownBlock] using hb
    omega)
  obtain ⟨uB, c2, f2, r2⟩ := spoil_at h6' hq y
  have k2 : ∀ b, b ≠ go → ((W.setCell ⟨gv, k, none⟩ x).setCell ⟨go, k, none⟩ y).heap[b]? = (W.setCell ⟨gv, k, none⟩ x).heap[b]? := fun b hb => Below.heap_setCell _ _ _ _ (show b ≠ go from hb)
  have r1' := nown_block r1 fun b hb => k2 b (by
    have : b = gv := by simpa [nblk, Value.ownBlock] using hb
    omega)
  have l1 := (nown_kind h5 gv m1).1
  have l2 := (nown_kind h6 go m2).1
  refine ⟨⟨_, c1⟩, f1, ⟨_, c2⟩, f2, kg, ku, h1.keep fun b hb => (k2 b fun e => n2.1 (e ▸ hb)).trans (k1 b fun e => n1.1 (e ▸ hb)), h2.keep fun b hb => (k2 b fun e => n2.2 (e ▸ hb)).trans (k1 b fun e => n1.2.1 (e ▸ hb)), h3, Below.setCell (p := ⟨go, k, none⟩) (Below.setCell (p := ⟨gv, k, none⟩) h4 l1 _) l2 _, ⟨_, r1'⟩, ⟨_, r2⟩, h7, h8⟩
/-- a nil slice has no capacity -/
def NoC (w : World) (A : Option Addr) (l : List Act) : Prop := ∀ b o (j : Nat) (a : Act), A = some ⟨b, o, none⟩ → l[j]? = some a → ∀ n c, w.cell? ⟨b, o + j * 2 + 1, none⟩ = some (.slice none n c) → c = 0
set_option maxRecDepth 100000 in
set_option maxHeartbeats 32000000 in
theorem tells_law (w : World) (l : List Act) (A : Option Addr) (c : Nat) (ns : List (List Nat)) (An : Option Addr) (cn : Nat) (hr : RdA w A l) (hok : OkA l) (hl : l.length ≤ 9223372036854775807) (hnc : NoC w A l) (hr3 : RdS w An ns) (hok3 : OkR ns) (hl3 : ns.length ≤ 9223372036854775807) :
    Calls Tryz.prog 4 #[.slice A l.length c, .slice An ns.length cn] w fun e w' => e = .returned (.bool true) ∧ Below w.heap.size w w' := by
  have HR := Lib.hid hr
  have HO := Lib.hid hok
  have HNC := Lib.hid hnc
  have HR3 := Lib.hid hr3
  have HO3 := Lib.hid hok3
  obtain ⟨n, hn⟩ : ∃ n, n = l.length := ⟨_, rfl⟩
  obtain ⟨p, hp⟩ : ∃ p, p = ns.length := ⟨_, rfl⟩
  have HN := Lib.hid hn
  have HP := Lib.hid hp
  rw [← hn] at hl ⊢
  rw [← hp] at hl3 ⊢
  clear hr hok hnc hr3 hok3 hn hp
  have C1 := long_any l A c w HR.out HO.out (by rw [← HN.out]; exact hl)
  rw [← HN.out] at C1
  have HC1 := Lib.hid C1
  clear C1
  go_enter Tryz.func4, Tryz.ntmps4
  go_wp2_with fail
  refine HC1.out.mono ?_
  rintro e w2 ⟨⟨b, rfl, hS⟩, rfl⟩
  clear HC1
  cases b with
  | true =>
    clear hS
    go_wp2_with fail
    refine (works_any _).mono ?_
    rintro e w3 ⟨rfl, b3⟩
    have HW3 := Lib.hid b3
    clear b3
    go_wp2_with fail
    go_ret
    exact ⟨rfl, HW3.out⟩
  | false =>
  have HS := Lib.hid (hS rfl)
  have HC2 := Lib.hid (long1_any w2 An p cn ns 46 HR3.out HO3.out (by rw [← HP.out]; exact hl3) HP.out)
  clear hS
  go_wp2_with fail
  refine HC2.out.mono ?_
  rintro e w3 ⟨⟨b, rfl, hS3⟩, b3⟩
  have HW3 := Lib.hid b3
  clear HC2 b3
  cases b with
  | true =>
    clear hS3
    go_wp2_with fail
    refine (works_any _).mono ?_
    rintro e w4 ⟨rfl, b4⟩
    have HW4 := Lib.hid (HW3.out.trans (b4.mono HW3.out.size))
    clear b4
    go_wp2_with fail
    go_ret
    exact ⟨rfl, HW4.out⟩
  | false =>
  have HS3 := Lib.hid (hS3 rfl)
  clear hS3
  obtain ⟨g, hg⟩ : ∃ g, g = w3.heap.size := ⟨_, rfl⟩
  have C4 := new_any w3 w2.heap.size HW3.out.size
  rw [← hg] at C4
  have HC4 := Lib.hid C4
  have HGQ := Lib.hid hg
  clear C4 hg
  go_wp2_with fail
  refine HC4.out.mono ?_
  rintro e w4 ⟨rfl, h4, b4⟩
  have hb4 := HW3.out.trans (b4.mono (by rw [HGQ.out]; exact HW3.out.size))
  obtain ⟨W5, hW5⟩ : ∃ W, w4.alloc (.cells #[.slice none 0 0, .slice none 0 0, .int .i64 0] 51) = W := ⟨_, rfl⟩
  obtain ⟨u, hu⟩ : ∃ u, u = w4.heap.size := ⟨_, rfl⟩
  have HT0 := Lib.hid (show TU w2 W5 g tb0 u tb0 from hW5 ▸ ⟨[g], [u], h4.below ((Below.refl _ w4).alloc (Nat.le_refl _) _), by rw [hu]; exact ref_new w4 w2.heap.size hb4.size, fun k hk r => by
    rw [List.mem_singleton.1 hk] at r
    have := (h4.kind u r).2
    omega, hb4.alloc hb4.size _⟩)
  have HU := Lib.hid hu
  clear HC4 h4 b4 hb4 HGQ HW3
  go_wp2_with fail
  rw [← hu]
  clear hW5 hu HU
  go_loopw [7] (fun i wr => ∃ j : Nat, i = .int .i64 (j : Int) ∧ j ≤ n ∧ TU w2 wr g (playT tb0 (l.take j)) u (playT tb0 (l.take j))) (fun i _ => n - (intOf i).toNat)
  case atStart => exact ⟨0, rfl, Nat.zero_le _, HT0.out⟩
  case round =>
    obtain ⟨j, rfl, hj, h2⟩ := hrel
    have HTj := Lib.hid h2
    clear h2
    have hGj : GoodT (playT tb0 (l.take j)) := GoodT.play GoodT.new fun a ha x hx => ((HO.out a (List.mem_of_mem_take ha)).2.1 x hx).1
    by_cases hlt : j < n
    · have hltI : (j : Int) < (n : Int) := by omega
      obtain ⟨a, ha⟩ : ∃ a, l[j]? = some a := ⟨_, List.getElem?_eq_getElem (by rw [← HN.out]; exact hlt)⟩
      obtain ⟨ba, oa, rfl, hba, k1, A', c', k2, k3⟩ := HR.out.at ha
      obtain ⟨q1, q2, q3⟩ := HO.out a (List.mem_of_getElem? ha)
      have qs := HS.out.2 a (List.mem_of_getElem? ha)
      have HOS := Lib.hid (q2.s qs)
      have HQS := Lib.hid qs
      have hbr : Below w2.heap.size w2 wr := by obtain ⟨_, _, _, _, _, q⟩ := HTj.out; exact q
      have x1 := (hbr.cell (p := ⟨ba, oa + j * 2, none⟩) hba).trans k1
      have x2 := (hbr.cell (p := ⟨ba, oa + j * 2 + 1, none⟩) hba).trans k2
      have HE := Lib.hid (playT_take (T := tb0) ha)
      obtain ⟨q, hq⟩ : ∃ q, q = a.2.length := ⟨_, rfl⟩
      rw [← hq] at x2 k2
      have hq4 : q < 400 := by rw [hq]; exact qs.1
      have HQ := Lib.hid hq
      have HK1 := Lib.hid k1
      have HK2 := Lib.hid k2
      have HK3 := Lib.hid k3
      have HBR := Lib.hid hbr
      obtain ⟨kd4, hk4⟩ : ∃ k, k = a.1 % 4 := ⟨_, rfl⟩
      have HK4 := Lib.hid hk4
      have e4 : ((a.1 : Nat) : Int) % 4 = (kd4 : Int) := by omega
      have hlt4 : kd4 < 4 := by omega
      obtain ⟨T1, hT1⟩ : ∃ T1, T1 = playT tb0 (l.take j) := ⟨_, rfl⟩
      rw [← hT1] at hGj HTj HE
      have HG := Lib.hid hGj
      have C1 := first_any (.int .u8 ((a.1 : Nat) : Int)) a.2 A' c' wr (k3.below hbr) ⟨_, rfl⟩ (by rw [← hq]; omega)
      rw [← hq] at C1
      have HC1 := Lib.hid C1
      have HF := Lib.hid (show Codes (fst1 a.2) ∧ (fst1 a.2).length < 12000 from by
        refine ⟨fst1_codes fun x hx => (HOS.out x hx).1, ?_⟩
        cases q : a.2 with
        | nil => decide
        | cons x r => exact HQS.out.2 x (by rw [q]; simp))
      have HAA := Lib.hid ha
      clear ha k1 k2 k3 q1 q2 q3 qs hq hk4 hT1 hGj C1 hbr
      go_wp2_with fail
      refine HC1.out.mono ?_
      rintro e w6 ⟨rfl, b6⟩
      have HT6 := Lib.hid (HTj.out.below b6)
      have hbw : Below w2.heap.size w2 w6 := HBR.out.trans (b6.mono HBR.out.size)
      have y1 := (hbw.cell (p := ⟨ba, oa + j * 2, none⟩) hba).trans HK1.out
      have HW6 := Lib.hid hbw
      obtain ⟨fs, hfs⟩ : ∃ fs, fs = fst1 a.2 := ⟨_, rfl⟩
      rw [← hfs] at HF ⊢
      have HFS := Lib.hid hfs
      clear b6 hbw x1 x2 HC1 hfs
      have hc4 : kd4 = 0 ∨ kd4 = 1 ∨ kd4 = 2 ∨ kd4 = 3 := by omega
      rcases hc4 with rfl | rfl | rfl | rfl
      · as_aux_lemma =>
        simp only [Int.ofNat_zero, Int.ofNat_one, Int.cast_ofNat_Int] at e4
        have HX := Lib.hid (show actT T1 a = declT T1 fs by unfold actT; rw [if_pos HK4.out.symm, HFS.out])
        obtain ⟨kg1, ku1, t1, t2, t3, t4⟩ := HT6.out
        have C2 := declare_go g T1 kg1 fs w6 w2.heap.size t4.size t1 HG.out HF.out.1 (by have := HF.out.2; omega)
        have HC2 := Lib.hid C2
        have HPT := Lib.hid fun W hp => TU.postT (T' := declT T1 fs) (W' := W) t1 t2 t3 t4 hp
        clear C2 t1 t2 t3 t4
        go_wp2_with fail
        refine HC2.out.mono ?_
        rintro e w7 ⟨rfl, hp7⟩
        have HT7 := Lib.hid (HPT.out w7 hp7)
        obtain ⟨kg2, ku2, t1, t2, t3, t4⟩ := HT7.out
        have C3 := rdeclare_any u T1 ku2 fs w7 w2.heap.size t4.size t2 HG.out HF.out.1 (by have := HF.out.2; omega)
        have HC3 := Lib.hid C3
        have HPR := Lib.hid fun W hp => TU.postR (U' := declT T1 fs) (W' := W) t1 t2 t3 t4 hp
        obtain ⟨cc, hcc⟩ : ∃ cc, cc = declC T1 fs := ⟨_, rfl⟩
        obtain ⟨vv, hvv⟩ : ∃ vv, vv = declV T1 fs := ⟨_, rfl⟩
        rw [← hcc, ← hvv] at HC3 ⊢
        clear C3 t1 t2 t3 t4 HC2 hp7 HPT hcc hvv y1
        go_wp2_with fail
        refine HC3.out.mono ?_
        rintro e w8 ⟨rfl, hp8⟩
        have HT8 := Lib.hid (HPR.out w8 hp8)
        rw [← HX.out, ← HE.out] at HT8
        clear hp8 HC3 HPR HT7
        go_wp2_with fail
        have hGn : GoodT (playT tb0 (l.take (j + 1))) := GoodT.play GoodT.new fun a ha x hx => ((HO.out a (List.mem_of_mem_take ha)).2.1 x hx).1
        obtain ⟨kg9, ku9, t1, t2, t3, t4⟩ := HT8.out
        have D1 := find_any g (playT tb0 (l.take (j + 1))) kg9 fs w8 w2.heap.size t1 hGn HF.out.1 (by have := HF.out.2; omega)
        have HD1 := Lib.hid D1
        have HD2 := Lib.hid fun W (hb : Below w8.heap.size w8 W) => rfind_any u (playT tb0 (l.take (j + 1))) ku9 fs W w2.heap.size (t2.below hb) hGn HF.out.1
        generalize findV (playT tb0 (l.take (j + 1))) fs = fv at *
        generalize (fnd (playT tb0 (l.take (j + 1))) fs).isSome = fz at *
        clear t1 t2 t3 t4 D1 hGn
        refine HD1.out.mono ?_
        rintro e w9 ⟨rfl, b9⟩
        have HD3 := Lib.hid (HD2.out w9 b9)
        have HT9 := Lib.hid (HT8.out.below b9)
        clear HD1 HD2 b9
        go_wp2_with fail
        refine HD3.out.mono ?_
        rintro e w10 ⟨rfl, rfl⟩
        have z2 := HT9.out.last
        have HNX := Lib.hid HT9.out.next
        obtain ⟨nx, hnx⟩ : ∃ nx, nx = (playT tb0 (l.take (j + 1))).nx := ⟨_, rfl⟩
        rw [← hnx] at z2 HNX
        clear HD3 hnx
        go_wp2_with fail
        go_quiet ((go_at_call 19; exact Calls.quiet_of_same (HNX.out _)))
        go_wp2_with fail
        exact ⟨⟨j + 1, by go_num, by omega, HT9.out.below (ndrew (Below.refl _ w10) nq)⟩, by simp [intOf]; omega⟩
      · as_aux_lemma =>
        simp only [Int.ofNat_zero, Int.ofNat_one, Int.cast_ofNat_Int] at e4
        have HX := Lib.hid (show actT T1 a = openT T1 a.2 by unfold actT; rw [if_neg (by rw [← HK4.out]; decide), if_pos HK4.out.symm])
        have bA : Below w6.heap.size w6 (w6.alloc (.cells #[] 9)) := (Below.refl _ w6).alloc (Nat.le_refl _) _
        have hba6 : ba < w6.heap.size := Nat.lt_of_lt_of_le hba HW6.out.size
        have y2 := (bA.cell (p := ⟨ba, oa + j * 2 + 1, none⟩) hba6).trans ((HW6.out.cell (p := ⟨ba, oa + j * 2 + 1, none⟩) hba).trans HK2.out)
        have hown0 : (w6.alloc (.cells #[] 9)).ownsRow w6.heap.size 9 1 (.slice (some ⟨w6.heap.size, 0, none⟩) 0 0) 0 [] := World.ownsRow_lit w6 #[] 0 (Nat.le_refl _) (by decide) rfl
        have HNEWS := Lib.hid (txs_news ((HK3.out.below HW6.out).below bA))
        have HNONE := Lib.hid (show A' = none → q = 0 ∧ c' = 0 from fun e => by
          have h1 := HK2.out
          rw [e] at h1
          refine ⟨?_, HNC.out ba oa j a rfl HAA.out _ _ h1⟩
          have h3 := HK3.out
          rw [e] at h3
          rcases h3 with h3 | ⟨b, o, e2, -⟩
          · rw [HQ.out, h3]; rfl
          · cases e2)
        have HB6 := Lib.hid hba6
        obtain ⟨i0, hi, hz0, hz1, hz2⟩ := info_parts infoStrN
        clear hba6
        go_wp2_with (at_builtin; revert hown0)
        intro hown0
        refine wpList_append_own_or rfl _ _ 24 rfl w6.heap.size 9 i0 (.string ⟨#[]⟩) 1 16 Tryz.underlying24 hi hz0 hz1 hz2 rfl (by decide) _ _ _ rfl hown0 A' q c' (txs a.2) rfl HNONE.out (by rw [txs_len, Nat.mul_one]; exact HQ.out.symm) HNEWS.out (txs_one _) (by unfold maxLen; omega) (by omega) (by simp) ?_
        intro own W7 hown hgrow
        have b7 : Below w6.heap.size w6 W7 := bA.grown hgrow (by simp) (fun j ej => Nat.le_of_eq (Option.some.inj ej))
        have hown' : W7.ownsRow w6.heap.size 9 1 own q (txs a.2) := by
          rw [Nat.zero_add, List.nil_append] at hown
          exact hown
        obtain ⟨Ao, co, rfl, rO⟩ := own_texts hown' HQ.out
        obtain ⟨kg, ku, t1, t2, t3, t4⟩ := HT6.out
        have C2 := open_all g T1 kg a.2 Ao co W7 w2.heap.size (Nat.le_trans t4.size b7.size) (t1.below b7) HG.out rO HOS.out (by rw [← HQ.out]; omega)
        rw [← HQ.out] at C2
        have HC2 := Lib.hid C2
        have HOP := Lib.hid (fun (w8 w9 : World) (ks' : List Nat) (va : Value) (d : Nat) (xs : List Value) (T2 : Tb) a1 a2 a3 hva a4 hp => K1.opened (w8 := w8) (w9 := w9) (T2 := T2) (ks' := ks') (va := va) (d := d) (xs := xs) t1 t2 t3 t4 b7 hown' a1 a2 a3 hva a4 hp)
        have HBF := Lib.hid (fun (w8 : World) (a3 : Nb (fun k => k ∈ kg) W7 w8) => show Below w2.heap.size w2 w8 from (t4.trans (b7.mono t4.size)).trans (a3.below (B := w2.heap.size) (Nat.le_trans t4.size b7.size) fun k hk => (t1.kind k hk).1))
        have HR2 := Lib.hid (fun (w8 : World) (a3 : Nb (fun k => k ∈ kg) W7 w8) => ropen_any u T1 ku a.2 A' c' w8 w2.heap.size (HBF.out w8 a3).size ((t2.below b7).keepNb a3 t3) HG.out (HK3.out.below (HBF.out w8 a3)) HOS.out (fun x hx => by have := HQS.out.2 x hx; omega) (by rw [← HQ.out]; omega))
        clear t1 t2 t3 t4 b7 hown' hown hown0 hgrow bA y2 rO C2 HNONE HNEWS hi hz0 hz1 hz2 y1
        go_wp2_with fail
        refine HC2.out.mono ?_
        rintro e w8 ⟨va, ks', rfl, a1, a2, a3, hva, a4⟩
        have hB8 := HBF.out w8 a3
        have C3 := HR2.out w8 a3
        rw [← HQ.out] at C3
        have HC3 := Lib.hid C3
        have y8 := (hB8.cell (p := ⟨ba, oa + j * 2 + 1, none⟩) hba).trans HK2.out
        have HOP2 := Lib.hid fun (w9 : World) hp => HOP.out w8 w9 ks' va _ _ _ a1 a2 a3 hva a4 hp
        clear a1 a2 a3 hva a4 hB8 C3 HC2 HR2 HBF HOP
        go_wp2_with fail
        refine HC3.out.mono ?_
        rintro e w9 ⟨vb, rfl, hp9, hvb⟩
        generalize openC T1 a.2 = cc
        obtain ⟨hk9, hva9, hown9⟩ := HOP2.out w9 hp9
        obtain ⟨d, hd⟩ : ∃ d, d = (openV T1 a.2).length := ⟨_, rfl⟩
        have HD := Lib.hid hd
        obtain ⟨Av, cv, rfl, rv⟩ := own_ints hva9 hd
        obtain ⟨Ab, cb, rfl, rb⟩ := own_ints hvb hd
        obtain ⟨Ax, cx, ex, rO9⟩ := own_texts hown9 HQ.out
        cases ex
        rw [← hd] at hk9
        have hdq : d ≤ q := by rw [HD.out, HQ.out]; exact openV_len _ _
        have hb9 : Below w2.heap.size w2 w9 := by
          obtain ⟨_, _, _, _, _, hh, _⟩ := hk9
          exact hh
        have C4 := ints_any _ _ Av Ab cv cb w9 rv rb (by rw [List.length_map, ← HD.out]; omega) (by rw [List.length_map, ← HD.out]; omega)
        rw [List.length_map, ← HD.out] at C4
        simp only [decide_true] at C4
        have HC4 := Lib.hid C4
        have HC5 := Lib.hid fun W (hb : Below w9.heap.size w9 W) => texts_any a.2 a.2 Ao A' co c' W (rO9.below hb) ((HK3.out.below hb9).below hb) (by rw [← HQ.out]; omega) (by rw [← HQ.out]; omega) (fun x hx => (HOS.out x hx).1) (fun x hx => (HOS.out x hx).1)
        have y9 := (hb9.cell (p := ⟨ba, oa + j * 2 + 1, none⟩) hba).trans HK2.out
        have HK9 := Lib.hid hk9
        have HB9 := Lib.hid (Nat.lt_of_lt_of_le hba hb9.size)
        clear hk9 hva9 hown9 hvb hp9 hd rv rb rO9 hb9 C4 HC3 HOP2 y8
        go_wp2_with fail
        refine HC4.out.mono ?_
        rintro e w10 ⟨rfl, b10⟩
        have y10 := (b10.cell (p := ⟨ba, oa + j * 2 + 1, none⟩) HB9.out).trans y9
        have C6 := HC5.out w10 b10
        rw [← HQ.out] at C6
        simp only [decide_true] at C6
        have HC6 := Lib.hid C6
        have HK10 := Lib.hid (HK9.out.below b10)
        clear HC4 HC5 b10 C6 y9 HK9
        go_wp2_with fail
        refine HC6.out.mono ?_
        rintro e w11 ⟨rfl, b11⟩
        have HK11 := Lib.hid (HK10.out.below b11)
        clear HC6 b11 y10 HK10
        go_wp2_with fail
        go_loopw [18] (fun s wr => ∃ k : Nat, s = .int .i64 (k : Int) ∧ k ≤ d ∧ K1 w2 wr g (openT T1 a.2) u (openT T1 a.2) (.slice Av d cv) (.slice Ao q co) d q) (fun s _ => d - (intOf s).toNat)
        case atStart => exact ⟨0, rfl, Nat.zero_le _, HK11.out⟩
        case round =>
          obtain ⟨k, rfl, hk, hK⟩ := hrel
          by_cases hlk : k < d
          · have hlkI : (k : Int) < (d : Int) := by omega
            have hlkq : (k : Int) < (q : Int) := by omega
            obtain ⟨gv, go, ev, eo⟩ : ∃ gv go, Av = some ⟨gv, 0, none⟩ ∧ Ao = some ⟨go, 0, none⟩ := by
              obtain ⟨_, _, _, _, _, _, ⟨_, h5⟩, ⟨_, h6⟩, _⟩ := hK
              obtain ⟨gv, e1, -⟩ := nrow_cells h5 (by omega)
              obtain ⟨go, e2, -⟩ := nrow_cells h6 (by omega)
              exact ⟨gv, go, e1, e2⟩
            subst ev eo
            obtain ⟨⟨uA, hA⟩, fA, ⟨uB, hB⟩, fB, hN⟩ := hK.store hlk (by omega) (.int .i64 (-7)) (.string ⟨#[115, 112, 111, 105, 108, 116]⟩)
            have HN2 := Lib.hid hN
            clear hK hN
            go_wp2_with fail
            exact ⟨⟨k + 1, by go_num, by omega, HN2.out⟩, by simp [intOf]; omega⟩
          · have hlkI : ¬ (k : Int) < (d : Int) := by omega
            have HT8 := Lib.hid hK.tu
            rw [← HX.out, ← HE.out] at HT8
            clear hK
            obtain ⟨w8, rfl⟩ : ∃ W : World, W = wr := ⟨_, rfl⟩
            go_wp2_with fail
            have hGn : GoodT (playT tb0 (l.take (j + 1))) := GoodT.play GoodT.new fun a ha x hx => ((HO.out a (List.mem_of_mem_take ha)).2.1 x hx).1
            obtain ⟨kg9, ku9, t1, t2, t3, t4⟩ := HT8.out
            have D1 := find_any g (playT tb0 (l.take (j + 1))) kg9 fs w8 w2.heap.size t1 hGn HF.out.1 (by have := HF.out.2; omega)
            have HD1 := Lib.hid D1
            have HD2 := Lib.hid fun W (hb : Below w8.heap.size w8 W) => rfind_any u (playT tb0 (l.take (j + 1))) ku9 fs W w2.heap.size (t2.below hb) hGn HF.out.1
            generalize findV (playT tb0 (l.take (j + 1))) fs = fv at *
            generalize (fnd (playT tb0 (l.take (j + 1))) fs).isSome = fz at *
            clear t1 t2 t3 t4 D1 hGn
            refine HD1.out.mono ?_
            rintro e w9 ⟨rfl, b9⟩
            have HD3 := Lib.hid (HD2.out w9 b9)
            have HT9 := Lib.hid (HT8.out.below b9)
            clear HD1 HD2 b9
            go_wp2_with fail
            refine HD3.out.mono ?_
            rintro e w10 ⟨rfl, rfl⟩
            have z2 := HT9.out.last
            have HNX := Lib.hid HT9.out.next
            obtain ⟨nx, hnx⟩ : ∃ nx, nx = (playT tb0 (l.take (j + 1))).nx := ⟨_, rfl⟩
            rw [← hnx] at z2 HNX
            clear HD3 hnx
            go_wp2_with fail
            go_quiet ((go_at_call 19; exact Calls.quiet_of_same (HNX.out _)))
            go_wp2_with fail
            exact ⟨⟨j + 1, by go_num, by omega, HT9.out.below (ndrew (Below.refl _ w10) nq)⟩, by simp [intOf]; omega⟩
      · as_aux_lemma =>
        simp only [Int.ofNat_zero, Int.ofNat_one, Int.cast_ofNat_Int] at e4
        have HX := Lib.hid (show actT T1 a = closeT T1 by unfold actT; rw [if_neg (by rw [← HK4.out]; decide), if_neg (by rw [← HK4.out]; decide), if_pos HK4.out.symm])
        obtain ⟨kg1, ku1, t1, t2, t3, t4⟩ := HT6.out
        have C2 := close_all g T1 kg1 w6 w2.heap.size t1 HG.out
        have HC2 := Lib.hid C2
        have HPT := Lib.hid fun W hp => TU.postT (T' := closeT T1) (W' := W) t1 t2 t3 t4 hp
        clear C2 t1 t2 t3 t4
        go_wp2_with fail
        refine HC2.out.mono ?_
        rintro e w7 ⟨rfl, hp7⟩
        have HT7 := Lib.hid (HPT.out w7 hp7)
        obtain ⟨kg2, ku2, t1, t2, t3, t4⟩ := HT7.out
        have C3 := rclose_any u T1 ku2 w7 w2.heap.size t2 HG.out
        have HC3 := Lib.hid C3
        have HPR := Lib.hid fun W hp => TU.postR (U' := closeT T1) (W' := W) t1 t2 t3 t4 hp
        obtain ⟨cc, hcc⟩ : ∃ cc, cc = closeC T1 := ⟨_, rfl⟩
        rw [← hcc] at HC3 ⊢
        clear C3 t1 t2 t3 t4 HC2 hp7 HPT hcc y1
        go_wp2_with fail
        refine HC3.out.mono ?_
        rintro e w8 ⟨rfl, hp8⟩
        have HT8 := Lib.hid (HPR.out w8 hp8)
        rw [← HX.out, ← HE.out] at HT8
        clear hp8 HC3 HPR HT7
        go_wp2_with fail
        have hGn : GoodT (playT tb0 (l.take (j + 1))) := GoodT.play GoodT.new fun a ha x hx => ((HO.out a (List.mem_of_mem_take ha)).2.1 x hx).1
        obtain ⟨kg9, ku9, t1, t2, t3, t4⟩ := HT8.out
        have D1 := find_any g (playT tb0 (l.take (j + 1))) kg9 fs w8 w2.heap.size t1 hGn HF.out.1 (by have := HF.out.2; omega)
        have HD1 := Lib.hid D1
        have HD2 := Lib.hid fun W (hb : Below w8.heap.size w8 W) => rfind_any u (playT tb0 (l.take (j + 1))) ku9 fs W w2.heap.size (t2.below hb) hGn HF.out.1
        generalize findV (playT tb0 (l.take (j + 1))) fs = fv at *
        generalize (fnd (playT tb0 (l.take (j + 1))) fs).isSome = fz at *
        clear t1 t2 t3 t4 D1 hGn
        refine HD1.out.mono ?_
        rintro e w9 ⟨rfl, b9⟩
        have HD3 := Lib.hid (HD2.out w9 b9)
        have HT9 := Lib.hid (HT8.out.below b9)
        clear HD1 HD2 b9
        go_wp2_with fail
        refine HD3.out.mono ?_
        rintro e w10 ⟨rfl, rfl⟩
        have z2 := HT9.out.last
        have HNX := Lib.hid HT9.out.next
        obtain ⟨nx, hnx⟩ : ∃ nx, nx = (playT tb0 (l.take (j + 1))).nx := ⟨_, rfl⟩
        rw [← hnx] at z2 HNX
        clear HD3 hnx
        go_wp2_with fail
        go_quiet ((go_at_call 19; exact Calls.quiet_of_same (HNX.out _)))
        go_wp2_with fail
        exact ⟨⟨j + 1, by go_num, by omega, HT9.out.below (ndrew (Below.refl _ w10) nq)⟩, by simp [intOf]; omega⟩
      · as_aux_lemma =>
        simp only [Int.ofNat_zero, Int.ofNat_one, Int.cast_ofNat_Int] at e4
        have HX := Lib.hid (show actT T1 a = T1 by unfold actT; rw [if_neg (by rw [← HK4.out]; decide), if_neg (by rw [← HK4.out]; decide), if_neg (by rw [← HK4.out]; decide)])
        obtain ⟨w8, hw8⟩ : ∃ w8, w8 = w6 := ⟨_, rfl⟩
        subst hw8
        have HT8 := HT6
        rw [← HX.out, ← HE.out] at HT8
        go_wp2_with fail
        have hGn : GoodT (playT tb0 (l.take (j + 1))) := GoodT.play GoodT.new fun a ha x hx => ((HO.out a (List.mem_of_mem_take ha)).2.1 x hx).1
        obtain ⟨kg9, ku9, t1, t2, t3, t4⟩ := HT8.out
        have D1 := find_any g (playT tb0 (l.take (j + 1))) kg9 fs w8 w2.heap.size t1 hGn HF.out.1 (by have := HF.out.2; omega)
        have HD1 := Lib.hid D1
        have HD2 := Lib.hid fun W (hb : Below w8.heap.size w8 W) => rfind_any u (playT tb0 (l.take (j + 1))) ku9 fs W w2.heap.size (t2.below hb) hGn HF.out.1
        generalize findV (playT tb0 (l.take (j + 1))) fs = fv at *
        generalize (fnd (playT tb0 (l.take (j + 1))) fs).isSome = fz at *
        clear t1 t2 t3 t4 D1 hGn
        refine HD1.out.mono ?_
        rintro e w9 ⟨rfl, b9⟩
        have HD3 := Lib.hid (HD2.out w9 b9)
        have HT9 := Lib.hid (HT8.out.below b9)
        clear HD1 HD2 b9
        go_wp2_with fail
        refine HD3.out.mono ?_
        rintro e w10 ⟨rfl, rfl⟩
        have z2 := HT9.out.last
        have HNX := Lib.hid HT9.out.next
        obtain ⟨nx, hnx⟩ : ∃ nx, nx = (playT tb0 (l.take (j + 1))).nx := ⟨_, rfl⟩
        rw [← hnx] at z2 HNX
        clear HD3 hnx
        go_wp2_with fail
        go_quiet ((go_at_call 19; exact Calls.quiet_of_same (HNX.out _)))
        go_wp2_with fail
        exact ⟨⟨j + 1, by go_num, by omega, HT9.out.below (ndrew (Below.refl _ w10) nq)⟩, by simp [intOf]; omega⟩
    · have hltI : ¬ (j : Int) < (n : Int) := by omega
      rw [List.take_of_length_le (by rw [← HN.out]; omega)] at hGj HTj
      generalize playT tb0 l = Tn at *
      have HG := Lib.hid hGj
      clear hGj HT0
      go_wp2_with fail
      go_loopw [23] (fun s wr => ∃ z : Int, s = .int .i64 z ∧ -1 ≤ z ∧ z ≤ 500 ∧ TU w2 wr g Tn u Tn) (fun s _ => (500 - intOf s).toNat)
      case atStart => exact ⟨-1, rfl, by omega, by omega, HTj.out⟩
      case round =>
        obtain ⟨z, rfl, hz1, hz2, h2⟩ := hrel
        have HT := Lib.hid h2
        have x2 := h2.last
        obtain ⟨nx, hnx⟩ : ∃ nx, nx = Tn.nx := ⟨_, rfl⟩
        rw [← hnx] at x2
        have HNX := Lib.hid hnx
        clear h2 hnx
        by_cases hc : z ≤ (nx : Int) ∧ z < 500
        · have hc1 := hc.1
          have hc2 := hc.2
          obtain ⟨kg1, ku1, t1, t2, t3, t4⟩ := HT.out
          have HC1 := Lib.hid (tabOf_any g Tn kg1 z wr w2.heap.size t1 HG.out)
          have HC2 := Lib.hid fun W (hb : Below wr.heap.size wr W) => rof_any u Tn ku1 z W w2.heap.size (t2.below hb) HG.out
          generalize str (ofV Tn z) = so at *
          generalize (ofd Tn z).isSome = zo at *
          have hself : (so.toList == so.toList) = true := by simp
          have hw1 : IntKind.i64.wrap (z + 1) = z + 1 := by rw [IntKind.wrap_i64]; omega
          clear t1 t2 t3 t4 hc
          go_wp2_with fail
          refine HC1.out.mono ?_
          rintro e w8 ⟨rfl, b8⟩
          have HC3 := Lib.hid (HC2.out w8 b8)
          have HT8 := Lib.hid (HT.out.below b8)
          clear HC1 HC2 b8 x2
          go_wp2_with fail
          refine HC3.out.mono ?_
          rintro e w9 ⟨rfl, rfl⟩
          clear HC3
          go_wp2_with fail
          exact ⟨⟨z + 1, rfl, by omega, by omega, HT8.out⟩, by simp [intOf]; omega⟩
        · have HE : Hid (TU w2 wr g Tn u Tn) := HT.out
          have hend : (¬ z ≤ (nx : Int)) ∨ (z ≤ (nx : Int) ∧ ¬ z < 500) := by omega
          clear hc
          rcases hend with hc1 | ⟨hc1, hc2⟩
          · as_aux_lemma =>
            go_wp2_with fail
            go_loopw [28] (fun s wr => ∃ r : Nat, s = .int .i64 (r : Int) ∧ r ≤ 2 ∧ TU w2 wr g Tn u Tn) (fun s _ => 2 - (intOf s).toNat)
            case atStart => exact ⟨0, rfl, Nat.zero_le _, HE.out⟩
            case round =>
              obtain ⟨r, rfl, hr, h2⟩ := hrel
              have HT := Lib.hid h2
              clear h2
              by_cases hlr : r < 2
              · have hlrI : (r : Int) < 2 := by omega
                obtain ⟨kg1, ku1, t1, t2, t3, t4⟩ := HT.out
                obtain ⟨wS, rfl⟩ : ∃ wS : World, wS = wr := ⟨_, rfl⟩
                have HC1 := Lib.hid (declared_any g Tn kg1 wS w2.heap.size t1 HG.out)
                have HC2 := Lib.hid fun W (hb : Below wS.heap.size wS W) => rdeclared_any u Tn ku1 W w2.heap.size (t2.below hb) HG.out
                clear t1 t2 t3 t4
                go_wp2_with fail
                refine HC1.out.mono ?_
                rintro e w8 ⟨v, v', rfl, hv, hv', hdv, b8⟩
                have HC3 := Lib.hid (HC2.out w8 b8)
                have HV := Lib.hid hv
                have HV' := Lib.hid hv'
                have HDV := Lib.hid hdv
                have HB8 := Lib.hid b8
                clear HC1 HC2 hv hv' hdv b8
                go_wp2_with fail
                refine HC3.out.mono ?_
                rintro e w9 ⟨y, y', rfl, hy, hy', hdy, b9⟩
                have hv9 := nown_below HV.out b9
                have hv9' := nown_below HV'.out b9
                have hb9 := HB8.out.trans (b9.mono HB8.out.size)
                obtain ⟨d, hd⟩ : ∃ d, d = Tn.dn.length := ⟨_, rfl⟩
                have HD := Lib.hid hd
                obtain ⟨Av, cv, rfl, rv⟩ := scs_rd hv9
                obtain ⟨Av', cv', rfl, rv'⟩ := rdj_of hv9'
                obtain ⟨Ay, cy, rfl, ry⟩ := scs_rd hy
                obtain ⟨Ay', cy', rfl, ry'⟩ := rdj_of hy'
                have hdl : Tn.dn.length ≤ 4096 := HG.out.dl
                have hcod : ∀ x ∈ Tn.dn.map (·.1), Codes x := fun x hx => by
                  obtain ⟨e, he, rfl⟩ := List.mem_map.1 hx
                  exact (HG.out.ok e he).1
                have C4 := texts_any (Tn.dn.map (·.1)) (Tn.dn.map (·.1)) Av Ay cv cy w9 rv ry (by rw [List.length_map]; omega) (by rw [List.length_map]; omega) hcod hcod
                rw [List.length_map, decide_eq_true rfl] at C4
                have HC4 := Lib.hid C4
                have HC5 := Lib.hid fun W (hb : Below w9.heap.size w9 W) => ints_any (Tn.dn.map fun e => ((e.2 : Nat) : Int)) (Tn.dn.map fun e => ((e.2 : Nat) : Int)) Av' Ay' cv' cy' W (rv'.below hb) (ry'.below hb) (by rw [List.length_map]; omega) (by rw [List.length_map]; omega)
                have HV9 := Lib.hid hv9
                have HV9' := Lib.hid hv9'
                have HB9 := Lib.hid hb9
                rw [← hd] at HC4 HDV ⊢
                clear hy hy' hdy b9 hv9 hv9' hb9 rv rv' ry ry' hcod C4 HC3 HV HV' hd hdl HB8
                go_wp2_with fail
                refine HC4.out.mono ?_
                rintro e w10 ⟨rfl, b10⟩
                have C6 := HC5.out w10 b10
                rw [List.length_map] at C6
                simp only [decide_true] at C6
                rw [← HD.out] at C6
                have HC6 := Lib.hid C6
                have HB10 := Lib.hid b10
                clear HC4 HC5 b10 C6
                go_wp2_with fail
                refine HC6.out.mono ?_
                rintro e w11 ⟨rfl, b11⟩
                have hb11 := HB10.out.trans (b11.mono HB10.out.size)
                have hv := nown_below HV9.out hb11
                have hv' := nown_below HV9'.out hb11
                rw [← HD.out] at hv hv'
                have HB11 := Lib.hid (HB9.out.trans (hb11.mono HB9.out.size))
                have HV := Lib.hid hv
                have HV' := Lib.hid hv'
                clear HC6 b11 hb11 HB10 hv hv' HV9 HV9'
                have hdl : d ≤ 4096 := by rw [HD.out]; exact HG.out.dl
                go_wp2_with fail
                go_loopw [33] (fun s wr => ∃ i : Nat, s = .int .i64 (i : Int) ∧ i ≤ d ∧ SpI wS wr (.slice Av d cv) (.slice Av' d cv') d) (fun s _ => d - (intOf s).toNat)
                case atStart => exact ⟨0, rfl, Nat.zero_le _, ⟨_, HV.out⟩, ⟨_, HV'.out⟩, HB11.out⟩
                case round =>
                  obtain ⟨i, rfl, hi, ⟨xs, hv⟩, ⟨ys, hv'⟩, hb⟩ := hrel
                  by_cases hli : i < d
                  · have hliI : (i : Int) < (d : Int) := by omega
                    obtain ⟨gv, ev, hgv, hgl, -⟩ := nrow_cells hv (by omega)
                    obtain ⟨gu, eu, hgu, hgl', -⟩ := nrow_cells hv' (by omega)
                    subst ev eu
                    have hne : gu ≠ gv := fun e => by
                      have := HDV.out
                      simp [nblk, Value.ownBlock, e] at this
                    have s1 := spoil_at hv (j := i) (by omega) (.string ⟨#[115, 112, 111, 105, 108, 116]⟩)
                    obtain ⟨uA, hA, fA, hvn⟩ := s1
                    have hv2 := nown_block hv' (w' := wr.setCell ⟨gv, i, none⟩ (.string ⟨#[115, 112, 111, 105, 108, 116]⟩)) fun k hk => Below.heap_setCell _ _ _ _ (show k ≠ gv from by
                      have : k = gu := by simpa [nblk, Value.ownBlock] using hk
                      omega)
                    obtain ⟨uB, hBc, fB, hvn2⟩ := spoil_at hv2 (j := i) (by omega) (.int .i64 (-7))
                    have hvn3 := nown_block hvn (w' := (wr.setCell ⟨gv, i, none⟩ (.string ⟨#[115, 112, 111, 105, 108, 116]⟩)).setCell ⟨gu, i, none⟩ (.int .i64 (-7))) fun k hk => Below.heap_setCell _ _ _ _ (show k ≠ gu from by
                      have : k = gv := by simpa [nblk, Value.ownBlock] using hk
                      omega)
                    have HNEW := Lib.hid (show SpI wS ((wr.setCell ⟨gv, i, none⟩ (.string ⟨#[115, 112, 111, 105, 108, 116]⟩)).setCell ⟨gu, i, none⟩ (.int .i64 (-7))) (.slice (some ⟨gv, 0, none⟩) d cv) (.slice (some ⟨gu, 0, none⟩) d cv') d from ⟨⟨_, hvn3⟩, ⟨_, hvn2⟩, Below.setCell (p := ⟨gu, i, none⟩) (Below.setCell (p := ⟨gv, i, none⟩) hb hgv _) hgu _⟩)
                    clear hv hv' hb hvn hv2 hvn2 hvn3
                    go_wp2_with fail
                    exact ⟨⟨i + 1, by go_num, by omega, HNEW.out⟩, by simp [intOf]; omega⟩
                  · have hliI : ¬ (i : Int) < (d : Int) := by omega
                    have HT9 := Lib.hid (HT.out.below hb)
                    clear hv hv' hb
                    go_wp2_with fail
                    exact ⟨⟨r + 1, by go_num, by omega, HT9.out⟩, by simp [intOf]; omega⟩
              · have hlrI : ¬ (r : Int) < 2 := by omega
                go_wp2_with fail
                go_loopw [34] (fun i wr => ∃ i' : Nat, i = .int .i64 (i' : Int) ∧ i' ≤ p ∧ TU w2 wr g Tn u Tn) (fun i _ => p - (intOf i).toNat)
                case atStart => exact ⟨0, rfl, Nat.zero_le _, HT.out⟩
                case round =>
                  obtain ⟨i, rfl, hi, h2⟩ := hrel
                  have HTi := Lib.hid h2
                  clear h2
                  by_cases hlti : i < p
                  · have hltiI : (i : Int) < (p : Int) := by omega
                    obtain ⟨kg1, ku1, t1, t2, t3, t4⟩ := HTi.out
                    obtain ⟨x, hx⟩ : ∃ x, ns[i]? = some x := ⟨_, List.getElem?_eq_getElem (by rw [← HP.out]; exact hlti)⟩
                    obtain ⟨bs, ofs, rfl, hbs, y1⟩ := HR3.out.atl hx
                    have y2 := (t4.cell (p := ⟨bs, ofs + i, none⟩) hbs).trans y1
                    have hox := (HO3.out.s HS3.out) x (List.mem_of_getElem? hx)
                    have hx12 := HS3.out.2 x (List.mem_of_getElem? hx)
                    have HC8 := Lib.hid (find_any g Tn kg1 x wr w2.heap.size t1 HG.out hox.1 hox.2)
                    have HC9 := Lib.hid fun W (hb : Below wr.heap.size wr W) => rfind_any u Tn ku1 x W w2.heap.size (t2.below hb) HG.out hox.1
                    have HN1 := Lib.hid fun W => name_any x W hox.1 hox.2
                    have HN2 := Lib.hid fun W => rname_any x W hox.1 (by omega)
                    have HBS := Lib.hid (Nat.lt_of_lt_of_le hbs t4.size)
                    clear t1 t2 t3 t4 hx y1 hox hx12
                    generalize findV Tn x = f at *
                    generalize (fnd Tn x).isSome = z at *
                    generalize isN x = nn at *
                    go_wp2_with fail
                    refine HC8.out.mono ?_
                    rintro e w8 ⟨rfl, b8⟩
                    have y3 := (b8.cell (p := ⟨bs, ofs + i, none⟩) HBS.out).trans y2
                    have HC9' := Lib.hid (HC9.out w8 b8)
                    have HT8 := Lib.hid (HTi.out.below b8)
                    have HL8 := Lib.hid (Nat.lt_of_lt_of_le HBS.out b8.size)
                    clear HC8 HC9 b8 y2
                    go_wp2_with fail
                    refine HC9'.out.mono ?_
                    rintro e w9 ⟨rfl, rfl⟩
                    clear HC9'
                    have F0 := Lib.hid (show TU w2 w9.drew g Tn u Tn ∧ bs < w9.drew.heap.size from ⟨HT8.out.below ((Below.refl _ w9).drew), HL8.out⟩)
                    have s0 : w9.drew.cell? ⟨bs, ofs + i, none⟩ = some (.string (str x)) := y3
                    clear y3 HT8 HL8 HTi HBS
                    go_wp2_with fail
                    go_region_held3 (fun w' => w'.cell? ⟨bs, ofs + i, none⟩ = some (.string (str x))) (first | exact s0 | exact s1 | exact s2) (first
                      | (go_at_call 13; (with_reducible refine (HN1.out _).mono ?_); rintro e wa ⟨rfl, ba⟩; have s1 := (ba.cell (p := ⟨bs, ofs + i, none⟩) F0.out.2).trans s0; have F1 := Lib.hid (And.intro (F0.out.1.below ba) (Nat.lt_of_lt_of_le F0.out.2 ba.size)); clear ba)
                      | (go_at_call 31; (with_reducible refine (HN2.out _).mono ?_); rintro e wb ⟨rfl, bb⟩; have s2 := (bb.cell (p := ⟨bs, ofs + i, none⟩) F1.out.2).trans s1; have F2 := Lib.hid (F1.out.1.below bb); clear bb))
                    all_goals
                      go_wp2_with fail
                      exact ⟨⟨i + 1, by go_num, by omega, F2.out⟩, by simp [intOf]; omega⟩
                  · have hltiI : ¬ (i : Int) < (p : Int) := by omega
                    obtain ⟨kg1, ku1, t1, t2, t3, t4⟩ := HTi.out
                    have HW := Lib.hid t4
                    clear t1 t2 t3 t4
                    go_wp2_with fail
                    refine (works_any _).mono ?_
                    rintro e w8 ⟨rfl, b8⟩
                    have HW8 := Lib.hid (HW.out.trans (b8.mono HW.out.size))
                    clear b8
                    go_wp2_with fail
                    go_ret
                    exact ⟨rfl, HW8.out⟩
          · as_aux_lemma =>
            go_wp2_with fail
            go_loopw [28] (fun s wr => ∃ r : Nat, s = .int .i64 (r : Int) ∧ r ≤ 2 ∧ TU w2 wr g Tn u Tn) (fun s _ => 2 - (intOf s).toNat)
            case atStart => exact ⟨0, rfl, Nat.zero_le _, HE.out⟩
            case round =>
              obtain ⟨r, rfl, hr, h2⟩ := hrel
              have HT := Lib.hid h2
              clear h2
              by_cases hlr : r < 2
              · have hlrI : (r : Int) < 2 := by omega
                obtain ⟨kg1, ku1, t1, t2, t3, t4⟩ := HT.out
                obtain ⟨wS, rfl⟩ : ∃ wS : World, wS = wr := ⟨_, rfl⟩
                have HC1 := Lib.hid (declared_any g Tn kg1 wS w2.heap.size t1 HG.out)
                have HC2 := Lib.hid fun W (hb : Below wS.heap.size wS W) => rdeclared_any u Tn ku1 W w2.heap.size (t2.below hb) HG.out
                clear t1 t2 t3 t4
                go_wp2_with fail
                refine HC1.out.mono ?_
                rintro e w8 ⟨v, v', rfl, hv, hv', hdv, b8⟩
                have HC3 := Lib.hid (HC2.out w8 b8)
                have HV := Lib.hid hv
                have HV' := Lib.hid hv'
                have HDV := Lib.hid hdv
                have HB8 := Lib.hid b8
                clear HC1 HC2 hv hv' hdv b8
                go_wp2_with fail
                refine HC3.out.mono ?_
                rintro e w9 ⟨y, y', rfl, hy, hy', hdy, b9⟩
                have hv9 := nown_below HV.out b9
                have hv9' := nown_below HV'.out b9
                have hb9 := HB8.out.trans (b9.mono HB8.out.size)
                obtain ⟨d, hd⟩ : ∃ d, d = Tn.dn.length := ⟨_, rfl⟩
                have HD := Lib.hid hd
                obtain ⟨Av, cv, rfl, rv⟩ := scs_rd hv9
                obtain ⟨Av', cv', rfl, rv'⟩ := rdj_of hv9'
                obtain ⟨Ay, cy, rfl, ry⟩ := scs_rd hy
                obtain ⟨Ay', cy', rfl, ry'⟩ := rdj_of hy'
                have hdl : Tn.dn.length ≤ 4096 := HG.out.dl
                have hcod : ∀ x ∈ Tn.dn.map (·.1), Codes x := fun x hx => by
                  obtain ⟨e, he, rfl⟩ := List.mem_map.1 hx
                  exact (HG.out.ok e he).1
                have C4 := texts_any (Tn.dn.map (·.1)) (Tn.dn.map (·.1)) Av Ay cv cy w9 rv ry (by rw [List.length_map]; omega) (by rw [List.length_map]; omega) hcod hcod
                rw [List.length_map, decide_eq_true rfl] at C4
                have HC4 := Lib.hid C4
                have HC5 := Lib.hid fun W (hb : Below w9.heap.size w9 W) => ints_any (Tn.dn.map fun e => ((e.2 : Nat) : Int)) (Tn.dn.map fun e => ((e.2 : Nat) : Int)) Av' Ay' cv' cy' W (rv'.below hb) (ry'.below hb) (by rw [List.length_map]; omega) (by rw [List.length_map]; omega)
                have HV9 := Lib.hid hv9
                have HV9' := Lib.hid hv9'
                have HB9 := Lib.hid hb9
                rw [← hd] at HC4 HDV ⊢
                clear hy hy' hdy b9 hv9 hv9' hb9 rv rv' ry ry' hcod C4 HC3 HV HV' hd hdl HB8
                go_wp2_with fail
                refine HC4.out.mono ?_
                rintro e w10 ⟨rfl, b10⟩
                have C6 := HC5.out w10 b10
                rw [List.length_map] at C6
                simp only [decide_true] at C6
                rw [← HD.out] at C6
                have HC6 := Lib.hid C6
                have HB10 := Lib.hid b10
                clear HC4 HC5 b10 C6
                go_wp2_with fail
                refine HC6.out.mono ?_
                rintro e w11 ⟨rfl, b11⟩
                have hb11 := HB10.out.trans (b11.mono HB10.out.size)
                have hv := nown_below HV9.out hb11
                have hv' := nown_below HV9'.out hb11
                rw [← HD.out] at hv hv'
                have HB11 := Lib.hid (HB9.out.trans (hb11.mono HB9.out.size))
                have HV := Lib.hid hv
                have HV' := Lib.hid hv'
                clear HC6 b11 hb11 HB10 hv hv' HV9 HV9'
                have hdl : d ≤ 4096 := by rw [HD.out]; exact HG.out.dl
                go_wp2_with fail
                go_loopw [33] (fun s wr => ∃ i : Nat, s = .int .i64 (i : Int) ∧ i ≤ d ∧ SpI wS wr (.slice Av d cv) (.slice Av' d cv') d) (fun s _ => d - (intOf s).toNat)
                case atStart => exact ⟨0, rfl, Nat.zero_le _, ⟨_, HV.out⟩, ⟨_, HV'.out⟩, HB11.out⟩
                case round =>
                  obtain ⟨i, rfl, hi, ⟨xs, hv⟩, ⟨ys, hv'⟩, hb⟩ := hrel
                  by_cases hli : i < d
                  · have hliI : (i : Int) < (d : Int) := by omega
                    obtain ⟨gv, ev, hgv, hgl, -⟩ := nrow_cells hv (by omega)
                    obtain ⟨gu, eu, hgu, hgl', -⟩ := nrow_cells hv' (by omega)
                    subst ev eu
                    have hne : gu ≠ gv := fun e => by
                      have := HDV.out
                      simp [nblk, Value.ownBlock, e] at this
                    have s1 := spoil_at hv (j := i) (by omega) (.string ⟨#[115, 112, 111, 105, 108, 116]⟩)
                    obtain ⟨uA, hA, fA, hvn⟩ := s1
                    have hv2 := nown_block hv' (w' := wr.setCell ⟨gv, i, none⟩ (.string ⟨#[115, 112, 111, 105, 108, 116]⟩)) fun k hk => Below.heap_setCell _ _ _ _ (show k ≠ gv from by
                      have : k = gu := by simpa [nblk, Value.ownBlock] using hk
                      omega)
                    obtain ⟨uB, hBc, fB, hvn2⟩ := spoil_at hv2 (j := i) (by omega) (.int .i64 (-7))
                    have hvn3 := nown_block hvn (w' := (wr.setCell ⟨gv, i, none⟩ (.string ⟨#[115, 112, 111, 105, 108, 116]⟩)).setCell ⟨gu, i, none⟩ (.int .i64 (-7))) fun k hk => Below.heap_setCell _ _ _ _ (show k ≠ gu from by
                      have : k = gv := by simpa [nblk, Value.ownBlock] using hk
                      omega)
                    have HNEW := Lib.hid (show SpI wS ((wr.setCell ⟨gv, i, none⟩ (.string ⟨#[115, 112, 111, 105, 108, 116]⟩)).setCell ⟨gu, i, none⟩ (.int .i64 (-7))) (.slice (some ⟨gv, 0, none⟩) d cv) (.slice (some ⟨gu, 0, none⟩) d cv') d from ⟨⟨_, hvn3⟩, ⟨_, hvn2⟩, Below.setCell (p := ⟨gu, i, none⟩) (Below.setCell (p := ⟨gv, i, none⟩) hb hgv _) hgu _⟩)
                    clear hv hv' hb hvn hv2 hvn2 hvn3
                    go_wp2_with fail
                    exact ⟨⟨i + 1, by go_num, by omega, HNEW.out⟩, by simp [intOf]; omega⟩
                  · have hliI : ¬ (i : Int) < (d : Int) := by omega
                    have HT9 := Lib.hid (HT.out.below hb)
                    clear hv hv' hb
                    go_wp2_with fail
                    exact ⟨⟨r + 1, by go_num, by omega, HT9.out⟩, by simp [intOf]; omega⟩
              · have hlrI : ¬ (r : Int) < 2 := by omega
                go_wp2_with fail
                go_loopw [34] (fun i wr => ∃ i' : Nat, i = .int .i64 (i' : Int) ∧ i' ≤ p ∧ TU w2 wr g Tn u Tn) (fun i _ => p - (intOf i).toNat)
                case atStart => exact ⟨0, rfl, Nat.zero_le _, HT.out⟩
                case round =>
                  obtain ⟨i, rfl, hi, h2⟩ := hrel
                  have HTi := Lib.hid h2
                  clear h2
                  by_cases hlti : i < p
                  · have hltiI : (i : Int) < (p : Int) := by omega
                    obtain ⟨kg1, ku1, t1, t2, t3, t4⟩ := HTi.out
                    obtain ⟨x, hx⟩ : ∃ x, ns[i]? = some x := ⟨_, List.getElem?_eq_getElem (by rw [← HP.out]; exact hlti)⟩
                    obtain ⟨bs, ofs, rfl, hbs, y1⟩ := HR3.out.atl hx
                    have y2 := (t4.cell (p := ⟨bs, ofs + i, none⟩) hbs).trans y1
                    have hox := (HO3.out.s HS3.out) x (List.mem_of_getElem? hx)
                    have hx12 := HS3.out.2 x (List.mem_of_getElem? hx)
                    have HC8 := Lib.hid (find_any g Tn kg1 x wr w2.heap.size t1 HG.out hox.1 hox.2)
                    have HC9 := Lib.hid fun W (hb : Below wr.heap.size wr W) => rfind_any u Tn ku1 x W w2.heap.size (t2.below hb) HG.out hox.1
                    have HN1 := Lib.hid fun W => name_any x W hox.1 hox.2
                    have HN2 := Lib.hid fun W => rname_any x W hox.1 (by omega)
                    have HBS := Lib.hid (Nat.lt_of_lt_of_le hbs t4.size)
                    clear t1 t2 t3 t4 hx y1 hox hx12
                    generalize findV Tn x = f at *
                    generalize (fnd Tn x).isSome = z at *
                    generalize isN x = nn at *
                    go_wp2_with fail
                    refine HC8.out.mono ?_
                    rintro e w8 ⟨rfl, b8⟩
                    have y3 := (b8.cell (p := ⟨bs, ofs + i, none⟩) HBS.out).trans y2
                    have HC9' := Lib.hid (HC9.out w8 b8)
                    have HT8 := Lib.hid (HTi.out.below b8)
                    have HL8 := Lib.hid (Nat.lt_of_lt_of_le HBS.out b8.size)
                    clear HC8 HC9 b8 y2
                    go_wp2_with fail
                    refine HC9'.out.mono ?_
                    rintro e w9 ⟨rfl, rfl⟩
                    clear HC9'
                    have F0 := Lib.hid (show TU w2 w9.drew g Tn u Tn ∧ bs < w9.drew.heap.size from ⟨HT8.out.below ((Below.refl _ w9).drew), HL8.out⟩)
                    have s0 : w9.drew.cell? ⟨bs, ofs + i, none⟩ = some (.string (str x)) := y3
                    clear y3 HT8 HL8 HTi HBS
                    go_wp2_with fail
                    go_region_held3 (fun w' => w'.cell? ⟨bs, ofs + i, none⟩ = some (.string (str x))) (first | exact s0 | exact s1 | exact s2) (first
                      | (go_at_call 13; (with_reducible refine (HN1.out _).mono ?_); rintro e wa ⟨rfl, ba⟩; have s1 := (ba.cell (p := ⟨bs, ofs + i, none⟩) F0.out.2).trans s0; have F1 := Lib.hid (And.intro (F0.out.1.below ba) (Nat.lt_of_lt_of_le F0.out.2 ba.size)); clear ba)
                      | (go_at_call 31; (with_reducible refine (HN2.out _).mono ?_); rintro e wb ⟨rfl, bb⟩; have s2 := (bb.cell (p := ⟨bs, ofs + i, none⟩) F1.out.2).trans s1; have F2 := Lib.hid (F1.out.1.below bb); clear bb))
                    all_goals
                      go_wp2_with fail
                      exact ⟨⟨i + 1, by go_num, by omega, F2.out⟩, by simp [intOf]; omega⟩
                  · have hltiI : ¬ (i : Int) < (p : Int) := by omega
                    obtain ⟨kg1, ku1, t1, t2, t3, t4⟩ := HTi.out
                    have HW := Lib.hid t4
                    clear t1 t2 t3 t4
                    go_wp2_with fail
                    refine (works_any _).mono ?_
                    rintro e w8 ⟨rfl, b8⟩
                    have HW8 := Lib.hid (HW.out.trans (b8.mono HW.out.size))
                    clear b8
                    go_wp2_with fail
                    go_ret
                    exact ⟨rfl, HW8.out⟩
end Go.Proofs.YtcjljfjgekiocaaGreatDoor

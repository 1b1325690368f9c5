/- Contracts: addTimes, add, sub: they write into a list of the call's own. -/
import Derived.Test.YtlfhpoffphljfaaMulA
namespace Go.Proofs.Ytlfhpoffphljfaa
open Go.RowKit

/-- One place of an own list is written. -/
theorem Own.put {w : World} {B g cap j v : Nat} {Z : List Nat} (h : Own w B (.slice (some ⟨g, 0, none⟩) Z.length cap) Z) :
    Own (w.setCell ⟨g, j, none⟩ (lv v)) B (.slice (some ⟨g, 0, none⟩) (Z.set j v).length cap) (Z.set j v) := by
  have := (World.ownsRow.stored h j (lv v)).1
  unfold Own
  rw [List.length_set, u32s, List.map_set]
  exact this
theorem Own.cellAt {w : World} {B g cap j : Nat} {Z : List Nat} (h : Own w B (.slice (some ⟨g, 0, none⟩) Z.length cap) Z) (hj : j < Z.length) : w.cell? ⟨g, j, none⟩ = some (.int .u32 ((Z[j]?.getD 0 : Nat) : Int)) := by
  rw [World.ownsRow.cellAt h j (by omega), u32s, List.getElem?_map, List.getElem?_eq_getElem hj]; rfl
theorem Own.ge {w : World} {B g cap : Nat} {xs : List Nat} {n : Nat} (h : Own w B (.slice (some ⟨g, 0, none⟩) n cap) xs) : B ≤ g := by
  rcases h.2 with ⟨e, _⟩ | ⟨g', cap', cur, e, hg, _⟩
  · cases e
  · injection e with e1; injection e1 with e2; injection e2 with e3; omega

/-- What addTimes leaves. -/
def ATPost (Z : List Nat) (off : Nat) (ys : List Nat) (m g cz B : Nat) (w : World) (e : Ending) (w' : World) : Prop :=
  ∃ (c : Nat) (X : List Nat), e = .returned (.int .u32 (c : Int)) ∧ ATI Z off ys m ys.length c X ∧ Own w' B (.slice (some ⟨g, 0, none⟩) X.length cz) X ∧ Below B w w'

set_option maxHeartbeats 1000000 in
theorem addTimes_any (g off cp cz : Nat) (A : Option Addr) (cap : Nat) (ys Z : List Nat) (m : Nat) (w : World) (B : Nat) (hO : Own w B (.slice (some ⟨g, 0, none⟩) Z.length cz) Z) (hZ : Limbs Z) (hoff : off + ys.length ≤ Z.length) (hr : Rd w B A ys) (hl : ys.length ≤ 2097152) (hm : m < 4294967296) :
    Calls Try.prog 65 #[.slice (some ⟨g, off, none⟩) ys.length cp, .slice A ys.length cap, .int .u32 (m : Int)] w (ATPost Z off ys m g cz B w) := by
  go_enter Try.func65, Try.ntmps65
  go_wp2
  go_loopw [7, 13] (fun c i wr => ∃ (k cc : Nat) (X : List Nat), k ≤ ys.length ∧ i = .int .i64 (k : Int) ∧ c = .int .u64 (cc : Int) ∧ ATI Z off ys m k cc X ∧ Own wr B (.slice (some ⟨g, 0, none⟩) X.length cz) X ∧ Below B w wr) (fun _ i _ => ys.length - (intOf i).toNat)
  case atStart => exact ⟨0, 0, Z, Nat.zero_le _, rfl, rfl, ATI.start hZ off ys m, hO, Below.refl _ _⟩
  case round =>
    obtain ⟨k, cc, X, hk, rfl, rfl, hI, hX, hB⟩ := hrel
    by_cases hlt : k < ys.length
    · obtain ⟨b, o, rfl, hb, hcell⟩ := hr.2 (by omega)
      have hyc := (hB.cell (p := ⟨b, o + k, none⟩) hb).trans (hcell k hlt)
      have hxl : X.length = Z.length := hI.1.1
      have hxc := hX.cellAt (j := off + k) (by omega)
      have hxf := World.ownsRow.frozenAt hX (off + k)
      have hcc := hI.2.1
      have hyl := hr.limbs.getD k
      have hx1 := hI.1.2.1.getD (off + k)
      have hI' := Lib.hid hI
      have hge := hX.ge
      generalize hy : ys[k]?.getD 0 = y at *
      generalize hx : X[off + k]?.getD 0 = x at *
      have HY := Lib.hid hy
      have HX := Lib.hid hx
      have HL := Lib.hid hxl
      have hput := Lib.hid fun v => hX.put (j := off + k) (v := v)
      have hbe := Lib.hid fun v => hB.setCell (p := ⟨g, off + k, none⟩) hge v
      obtain ⟨p, hp⟩ : ∃ p : Nat, p = y * m := ⟨_, rfl⟩
      have hbd := at_bound hyl hm hx1 hcc
      rw [← hp] at hbd
      obtain ⟨hbd1, hbd2⟩ := hbd
      have hpi : (y : Int) * (m : Int) = (p : Int) := by rw [hp]; simp
      have HP := Lib.hid hp
      have e1 := Lib.hid (show ((p : Int) + x + cc) % 4294967296 = (((p + x + cc) % 4294967296 : Nat) : Int) from by omega)
      have e2 := Lib.hid (show ((p : Int) + x + cc) / 4294967296 = (((p + x + cc) / 4294967296 : Nat) : Int) from by omega)
      have hst := Lib.hid (hI.step (s := p + x + cc) (by omega) (by rw [hy, hx, hp]) hbd2)
      clear hy hx hxl hcell hI hX hB hO hp hge hr hoff
      go_wp2
      go_roundw
      case rel =>
        refine ⟨k + 1, (p + x + cc) / 4294967296, X.set (off + k) ((p + x + cc) % 4294967296), by omega, by go_num, by rw [e2.out], hst.out, ?_, hbe.out _⟩
        have := hput.out ((p + x + cc) % 4294967296)
        unfold lv at this
        rw [← e1.out] at this
        exact this
      case measure => simp [intOf]; omega
    · obtain rfl : k = ys.length := by omega
      have hcc := hI.2.1
      have e0 := Lib.hid (show (cc : Int) % 4294967296 = (cc : Int) from by omega)
      have hI' := Lib.hid hI
      have hX' := Lib.hid hX
      have hB' := Lib.hid hB
      clear hI hX hB hO hr hoff
      go_wp2
      go_ret
      exact ⟨cc, X, ret_int (by first | rfl | exact e0.out), hI'.out, hX'.out, hB'.out⟩

theorem addTimes_len (g off cp cz n1 n2 : Nat) (A : Option Addr) (cap : Nat) (ys Z : List Nat) (m : Nat) (w : World) (B : Nat) (h1 : n1 = ys.length) (h2 : n2 = ys.length) (hO : Own w B (.slice (some ⟨g, 0, none⟩) Z.length cz) Z) (hZ : Limbs Z) (hoff : off + ys.length ≤ Z.length) (hr : Rd w B A ys) (hl : ys.length ≤ 2097152) (hm : m < 4294967296) :
    Calls Try.prog 65 #[.slice (some ⟨g, off, none⟩) n1 cp, .slice A n2 cap, .int .u32 (m : Int)] w (ATPost Z off ys m g cz B w) := by
  subst h1; subst h2
  exact addTimes_any g off cp cz A cap ys Z m w B hO hZ hoff hr hl hm

/-- What add leaves. -/
def AddPost (Z : List Nat) (off n : Nat) (ys : List Nat) (g cz B : Nat) (w : World) (e : Ending) (w' : World) : Prop :=
  ∃ X : List Nat, e = .returned (.tuple #[]) ∧ Same Z off n X ∧ seg X off n = seg Z off n + val ys ∧ Own w' B (.slice (some ⟨g, 0, none⟩) X.length cz) X ∧ Below B w w'

set_option maxHeartbeats 2000000 in
theorem add_in (g off n cp cz : Nat) (A : Option Addr) (cap : Nat) (ys Z : List Nat) (w : World) (B : Nat) (hO : Own w B (.slice (some ⟨g, 0, none⟩) Z.length cz) Z) (hZ : Limbs Z) (hoff : off + n ≤ Z.length) (hr : Rd w B A ys) (hl : ys.length ≤ n) (hn : n ≤ 2097152) (hv : seg Z off n + val ys < 4294967296 ^ n) :
    Calls Try.prog 51 #[.slice (some ⟨g, off, none⟩) n cp, .slice A ys.length cap] w (AddPost Z off n ys g cz B w) := by
  have HV := Lib.hid hv
  clear hv
  go_enter Try.func51, Try.ntmps51
  go_wp2
  go_loopw [4, 5] (fun c i wr => ∃ (k cc : Nat) (X : List Nat), k ≤ n ∧ i = .int .i64 (k : Int) ∧ c = .int .u64 (cc : Int) ∧ AddI Z off ys k cc X ∧ Own wr B (.slice (some ⟨g, 0, none⟩) X.length cz) X ∧ Below B w wr) (fun _ i _ => n - (intOf i).toNat)
  case atStart => exact ⟨0, 0, Z, Nat.zero_le _, rfl, rfl, AddI.start hZ off ys, hO, Below.refl _ _⟩
  case round =>
    obtain ⟨k, cc, X, hk, rfl, rfl, hI, hX, hB⟩ := hrel
    have hc1 : cc ≤ 1 := hI.2.1
    by_cases hlt : k < ys.length
    · obtain ⟨b, o, rfl, hb, hcell⟩ := hr.2 (by omega)
      have hyc := (hB.cell (p := ⟨b, o + k, none⟩) hb).trans (hcell k hlt)
      have hxl : X.length = Z.length := hI.1.1
      have hxc := hX.cellAt (j := off + k) (by omega)
      have hxf := World.ownsRow.frozenAt hX (off + k)
      have hyl := hr.limbs.getD k
      have hx1 := hI.1.2.1.getD (off + k)
      have hge := hX.ge
      generalize hy : ys[k]?.getD 0 = y at *
      generalize hx : X[off + k]?.getD 0 = x at *
      have hput := Lib.hid fun v => hX.put (j := off + k) (v := v)
      have hbe := Lib.hid fun v => hB.setCell (p := ⟨g, off + k, none⟩) hge v
      have e1 := Lib.hid (show ((cc : Int) + x + y) % 4294967296 = (((cc + x + y) % 4294967296 : Nat) : Int) from by omega)
      have e2 := Lib.hid (show ((cc : Int) + x + y) / 4294967296 = (((cc + x + y) / 4294967296 : Nat) : Int) from by omega)
      have hst := Lib.hid (hI.step (s := cc + x + y) (by omega) hr.limbs (by rw [hy, hx]))
      have hnn : k < n := by omega
      clear hy hx hxl hcell hI hX hB hO hge hr hoff hl
      go_wp2
      go_roundw
      case rel =>
        refine ⟨k + 1, (cc + x + y) / 4294967296, X.set (off + k) ((cc + x + y) % 4294967296), by omega, by go_num, by rw [e2.out], hst.out, ?_, hbe.out _⟩
        have := hput.out ((cc + x + y) % 4294967296)
        unfold lv at this
        rw [← e1.out] at this
        exact this
      case measure => simp [intOf]; omega
    · by_cases hc0 : 0 < cc
      · have hnn : k < n := hI.room hc0 hk HV.out (by omega)
        have hxl : X.length = Z.length := hI.1.1
        have hxc := hX.cellAt (j := off + k) (by omega)
        have hxf := World.ownsRow.frozenAt hX (off + k)
        have hx1 := hI.1.2.1.getD (off + k)
        have hge := hX.ge
        generalize hx : X[off + k]?.getD 0 = x at *
        have hput := Lib.hid fun v => hX.put (j := off + k) (v := v)
        have hbe := Lib.hid fun v => hB.setCell (p := ⟨g, off + k, none⟩) hge v
        have e1 := Lib.hid (show ((cc : Int) + x) % 4294967296 = (((cc + x) % 4294967296 : Nat) : Int) from by omega)
        have e2 := Lib.hid (show ((cc : Int) + x) / 4294967296 = (((cc + x) / 4294967296 : Nat) : Int) from by omega)
        have hst := Lib.hid (hI.step (s := cc + x) (by omega) hr.limbs (by rw [hx, List.getElem?_eq_none (by omega)]; rfl))
        clear hx hxl hI hX hB hO hge hr hoff hl
        go_wp2
        go_roundw
        case rel =>
          refine ⟨k + 1, (cc + x) / 4294967296, X.set (off + k) ((cc + x) % 4294967296), by omega, by go_num, by rw [e2.out], hst.out, ?_, hbe.out _⟩
          have := hput.out ((cc + x) % 4294967296)
          unfold lv at this
          rw [← e1.out] at this
          exact this
        case measure => simp [intOf]; omega
      · obtain rfl : cc = 0 := by omega
        have hd := Lib.hid (hI.done hk (by omega))
        have hs := Lib.hid (hI.1.more hk)
        have hX' := Lib.hid hX
        have hB' := Lib.hid hB
        clear hI hX hB hO hr hoff
        go_wp2
        go_end0
        exact ⟨X, rfl, hs.out, hd.out, hX'.out, hB'.out⟩

theorem wrap_neg {x s : Nat} (h : ¬ s ≤ x) (hb : s ≤ x + 4294967296) : ∃ q : Nat, IntKind.u64.wrap ((x : Int) - (s : Int)) = (q : Int) ∧ q / 9223372036854775808 = 1 ∧ q % 4294967296 + s = x + 4294967296 ∧ q < 18446744073709551616 := by
  refine ⟨x + 18446744073709551616 - s, ?_, by omega, by omega, by omega⟩
  rw [IntKind.wrap_u64]; omega

/-- What sub leaves. -/
def SubPost (Z : List Nat) (off n : Nat) (ys : List Nat) (g cz B : Nat) (w : World) (e : Ending) (w' : World) : Prop :=
  ∃ X : List Nat, e = .returned (.tuple #[]) ∧ Same Z off n X ∧ seg X off n + val ys = seg Z off n ∧ Own w' B (.slice (some ⟨g, 0, none⟩) X.length cz) X ∧ Below B w w'

set_option maxHeartbeats 2000000 in
theorem sub_in (g off n cp cz : Nat) (A : Option Addr) (cap : Nat) (ys Z : List Nat) (w : World) (B : Nat) (hO : Own w B (.slice (some ⟨g, 0, none⟩) Z.length cz) Z) (hZ : Limbs Z) (hoff : off + n ≤ Z.length) (hr : Rd w B A ys) (hl : ys.length ≤ n) (hn : n ≤ 2097152) (hv : val ys ≤ seg Z off n) :
    Calls Try.prog 70 #[.slice (some ⟨g, off, none⟩) n cp, .slice A ys.length cap] w (SubPost Z off n ys g cz B w) := by
  have HV := Lib.hid hv
  clear hv
  go_enter Try.func70, Try.ntmps70
  go_wp2
  go_loopw [4, 5] (fun c i wr => ∃ (k cc : Nat) (X : List Nat), k ≤ n ∧ i = .int .i64 (k : Int) ∧ c = .int .u64 (cc : Int) ∧ SubI Z off ys k cc X ∧ Own wr B (.slice (some ⟨g, 0, none⟩) X.length cz) X ∧ Below B w wr) (fun _ i _ => n - (intOf i).toNat)
  case atStart => exact ⟨0, 0, Z, Nat.zero_le _, rfl, rfl, SubI.start hZ off ys, hO, Below.refl _ _⟩
  case round =>
    obtain ⟨k, cc, X, hk, rfl, rfl, hI, hX, hB⟩ := hrel
    have hc1 : cc ≤ 1 := hI.2.1
    by_cases hlt : k < ys.length
    · obtain ⟨b, o, rfl, hb, hcell⟩ := hr.2 (by omega)
      have hyc := (hB.cell (p := ⟨b, o + k, none⟩) hb).trans (hcell k hlt)
      have hxl : X.length = Z.length := hI.1.1
      have hxc := hX.cellAt (j := off + k) (by omega)
      have hxf := World.ownsRow.frozenAt hX (off + k)
      have hyl := hr.limbs.getD k
      have hx1 := hI.1.2.1.getD (off + k)
      have hge := hX.ge
      generalize hy : ys[k]?.getD 0 = y at *
      generalize hx : X[off + k]?.getD 0 = x at *
      have hput := Lib.hid fun v => hX.put (j := off + k) (v := v)
      have hbe := Lib.hid fun v => hB.setCell (p := ⟨g, off + k, none⟩) hge v
      have hnn : k < n := by omega
      by_cases hs : (cc + y) ≤ x
      · obtain ⟨d, hd⟩ : ∃ d : Nat, x = d + (cc + y) := ⟨x - ((cc + y)), by omega⟩
        have hst := Lib.hid (hI.step (d := d) (b := 0) (by omega) (by omega) (by omega) (by rw [hy, hx]; omega))
        have e1 := Lib.hid (show ((x : Int) - ((cc : Int) + y)) = (d : Int) from by omega)
        have e2 := Lib.hid (show ((x : Int) - ((cc : Int) + y)) / 9223372036854775808 = ((0 : Nat) : Int) from by omega)
        have hsi : ((cc : Int) + y) ≤ (x : Int) := by omega
        clear hy hx hxl hcell hI hX hB hO hge hr hoff hl hd
        go_wp2
        go_roundw
        case rel =>
          refine ⟨k + 1, 0, X.set (off + k) d, by omega, by go_num, by rw [e2.out], hst.out, ?_, hbe.out _⟩
          have := hput.out d
          unfold lv at this
          rw [← e1.out] at this
          exact this
        case measure => simp [intOf]; omega
      · obtain ⟨q, hq, q1, q2, q3⟩ := wrap_neg (x := x) (s := (cc + y)) (by omega) (by omega)
        have hst := Lib.hid (hI.step (d := q % 4294967296) (b := 1) (by omega) (by omega) (by omega) (by rw [hy, hx]; omega))
        have hq' : IntKind.u64.wrap ((x : Int) - ((cc : Int) + y)) = (q : Int) := by first | exact hq | (rw [← hq]; congr 1)
        have e1 := Lib.hid (show ((q : Int)) % 4294967296 = ((q % 4294967296 : Nat) : Int) from by omega)
        have e2 := Lib.hid (show ((q : Int)) / 9223372036854775808 = ((1 : Nat) : Int) from by omega)
        have hq3 := Lib.hid q3
        clear hy hx hxl hcell hI hX hB hO hge hr hoff hl hq q1 q2 q3
        go_wp2
        go_roundw
        case rel =>
          refine ⟨k + 1, 1, X.set (off + k) (q % 4294967296), by omega, by go_num, by rw [e2.out], hst.out, ?_, hbe.out _⟩
          have := hput.out (q % 4294967296)
          unfold lv at this
          rw [← e1.out] at this
          exact this
        case measure => simp [intOf]; omega
    · by_cases hc0 : 0 < cc
      · have hnn : k < n := hI.room hc0 hk HV.out (by omega)
        have hy0 : ys[k]?.getD 0 = 0 := by rw [List.getElem?_eq_none (by omega)]; rfl
        have hxl : X.length = Z.length := hI.1.1
        have hxc := hX.cellAt (j := off + k) (by omega)
        have hxf := World.ownsRow.frozenAt hX (off + k)
        have hx1 := hI.1.2.1.getD (off + k)
        have hge := hX.ge
        generalize hx : X[off + k]?.getD 0 = x at *
        have hput := Lib.hid fun v => hX.put (j := off + k) (v := v)
        have hbe := Lib.hid fun v => hB.setCell (p := ⟨g, off + k, none⟩) hge v
        by_cases hs : cc ≤ x
        · obtain ⟨d, hd⟩ : ∃ d : Nat, x = d + cc := ⟨x - (cc), by omega⟩
          have hst := Lib.hid (hI.step (d := d) (b := 0) (by omega) (by omega) (by omega) (by rw [hy0, hx]; omega))
          have e1 := Lib.hid (show ((x : Int) - (cc : Int)) = (d : Int) from by omega)
          have e2 := Lib.hid (show ((x : Int) - (cc : Int)) / 9223372036854775808 = ((0 : Nat) : Int) from by omega)
          have hsi : (cc : Int) ≤ (x : Int) := by omega
          clear hy0 hx hxl hI hX hB hO hge hr hoff hl hd
          go_wp2
          go_roundw
          case rel =>
            refine ⟨k + 1, 0, X.set (off + k) d, by omega, by go_num, by rw [e2.out], hst.out, ?_, hbe.out _⟩
            have := hput.out d
            unfold lv at this
            rw [← e1.out] at this
            exact this
          case measure => simp [intOf]; omega
        · obtain ⟨q, hq, q1, q2, q3⟩ := wrap_neg (x := x) (s := cc) (by omega) (by omega)
          have hst := Lib.hid (hI.step (d := q % 4294967296) (b := 1) (by omega) (by omega) (by omega) (by rw [hy0, hx]; omega))
          have hq' : IntKind.u64.wrap ((x : Int) - (cc : Int)) = (q : Int) := by first | exact hq | (rw [← hq]; congr 1)
          have e1 := Lib.hid (show ((q : Int)) % 4294967296 = ((q % 4294967296 : Nat) : Int) from by omega)
          have e2 := Lib.hid (show ((q : Int)) / 9223372036854775808 = ((1 : Nat) : Int) from by omega)
          have hq3 := Lib.hid q3
          clear hy0 hx hxl hI hX hB hO hge hr hoff hl hq q1 q2 q3
          go_wp2
          go_roundw
          case rel =>
            refine ⟨k + 1, 1, X.set (off + k) (q % 4294967296), by omega, by go_num, by rw [e2.out], hst.out, ?_, hbe.out _⟩
            have := hput.out (q % 4294967296)
            unfold lv at this
            rw [← e1.out] at this
            exact this
          case measure => simp [intOf]; omega
      · obtain rfl : cc = 0 := by omega
        have hd := Lib.hid (hI.done hk (by omega))
        have hs := Lib.hid (hI.1.more hk)
        have hX' := Lib.hid hX
        have hB' := Lib.hid hB
        clear hI hX hB hO hr hoff
        go_wp2
        go_end0
        exact ⟨X, rfl, hs.out, hd.out, hX'.out, hB'.out⟩

end Go.Proofs.Ytlfhpoffphljfaa

/- Rows of bools that the call owns; the laws' helpers on them. -/
import Derived.Test.YtlljhcfiojfimaaRows
import Derived.Test.YtlljhcfiojfimaaRowN
import Derived.Test.YtlljhcfiojfimaaOwn
import Derived.Test.YtlljhcfiojfimaaBelowKit
import Derived.WalkKit
import Derived.Below
import Derived.WalkSmall
import Derived.Lib.Hide
import Derived.BigQuiet
import Derived.Deep.QuietTactic
import Derived.OpenShut
namespace Go.Proofs.Ytlljhcfiojfimaa.TBool
open Go.RowKit RowN
set_option linter.unusedVariables false
def fc (b : Bool) : List Value := [.bool b]
theorem fw : Wide fc 1 := ⟨fun _ => rfl, by rintro x v hv; simp only [fc, List.mem_cons, List.not_mem_nil, or_false] at hv; subst hv; rfl, by omega⟩
abbrev T : Nat := 4
theorem ft : ElT Try.prog 40 4 (.bool false) 1 1 := ⟨Try.underlying40, by kernel_rfl, by omega, rfl⟩
def IsRow (l : List Bool) (w : World) (e : Ending) (w' : World) : Prop := ∃ p c, e = .returned (.slice p l.length c) ∧ Owns fc 1 w' w.heap.size T (.slice p l.length c) l ∧ Below w.heap.size w w'
def IsBo (b : Bool) (w : World) (e : Ending) (w' : World) : Prop := e = .returned (.bool b) ∧ Below w.heap.size w w'
theorem read {w : World} {a : Option Addr} {l : List Bool} (h : Reads fc 1 w a l) (j : Nat) (hj : j < l.length) : ∃ blk off, a = some ⟨blk, off, none⟩ ∧ blk < w.heap.size ∧ w.cell? ⟨blk, off + j, none⟩ = some (.bool l[j]) := by
  obtain ⟨blk, off, e, hlt, hc⟩ := h j hj
  exact ⟨blk, off, e, hlt, by have := hc 0 (by omega); rw [Nat.mul_one] at this; exact this⟩
theorem own {w : World} {B n cap : Nat} {a : Option Addr} {l : List Bool} (h : Owns fc 1 w B T (.slice a n cap) l) (j : Nat) (hj : j < l.length) : ∃ g, a = some ⟨g, 0, none⟩ ∧ B ≤ g ∧ g < w.heap.size ∧ w.cell? ⟨g, j, none⟩ = some (.bool l[j]) ∧ w.frozen? ⟨g, j, none⟩ = false := by
  obtain ⟨g, e, hb, hlt, hc⟩ := h.at fw j hj
  exact ⟨g, e, hb, hlt, by have := (hc 0 (by omega)).1; rw [Nat.mul_one] at this; exact this, by have := (hc 0 (by omega)).2; rw [Nat.mul_one] at this; exact this⟩
theorem stored {w : World} {B g cap n : Nat} {l : List Bool} (h : Owns fc 1 w B T (.slice (some ⟨g, 0, none⟩) n cap) l) (j : Nat) (hj : j < l.length) (x : Bool) :
    Owns fc 1 (w.setCell ⟨g, j, none⟩ (.bool x)) B T (.slice (some ⟨g, 0, none⟩) n cap) (l.set j x) := by
  have := h.stored fw j hj 0 (by omega) (.bool x) x rfl
  rw [Nat.mul_one] at this
  exact this
set_option maxHeartbeats 2000000 in
theorem eq_c (w : World) (m c1 c2 : Nat) (a1 a2 : Option Addr) (l : List Bool) (hm : l.length = m) (hs : m ≤ 1099511627776) (h1 : Reads fc 1 w a1 l) (h2 : Reads fc 1 w a2 l) :
    Calls Try.prog 35 #[.slice a1 m c1, .slice a2 m c2] w (IsBo true w) := by
  have K1 := Lib.hid h1
  have K2 := Lib.hid h2
  have HM := Lib.hid hm
  clear h1 h2 hm
  go_enter Try.func35, Try.ntmps35
  go_wp2
  go_loopw [5] (fun i wr => ∃ k : Nat, k ≤ m ∧ i = .int .i64 k ∧ Below w.heap.size w wr) (fun i _ => m - (intOf i).toNat)
  case atStart => exact ⟨0, Nat.zero_le _, rfl, Below.refl _ _⟩
  case round =>
    obtain ⟨k, hk, rfl, hbel⟩ := hrel
    by_cases hlt : k < m
    · obtain ⟨g1, o1, rfl, hg1, q0⟩ := read (K1.out.on hbel) k (by rw [HM.out]; exact hlt)
      obtain ⟨g2, o2, rfl, hg2, p0⟩ := read (K2.out.on hbel) k (by rw [HM.out]; exact hlt)
      generalize (l[k]'(by rw [HM.out]; exact hlt)) = x at q0 p0
      have b0 : (0 : Int) ≤ (k : Int) := by omega
      have b1 : (k : Int) < (m : Int) := by omega
      have HB := Lib.hid hbel
      clear hbel
      cases x with
      | false =>
        go_wp2_with fail
        go_quiet (fail)
        go_wp2
        go_roundw
        · exact ⟨k + 1, by omega, by go_num, below_drewN HB.out _⟩
        · simp [intOf]; omega
      | true =>
        go_wp2_with fail
        go_quiet (fail)
        go_wp2
        go_roundw
        · exact ⟨k + 1, by omega, by go_num, below_drewN HB.out _⟩
        · simp [intOf]; omega
    · go_wp2
      go_ret
      exact ⟨rfl, hbel⟩
/-- The marks k, k + 1, ..: whether they are divisible by 3. -/
def mk (k : Int) : Bool := k % 3 == 0
def marks (k : Int) (n : Nat) : List Bool := (List.range n).map fun (i : Nat) => mk (k + (i : Int))
theorem marks_len (k : Int) (n : Nat) : (marks k n).length = n := by simp [marks]
theorem marks_get (k : Int) (n j : Nat) (h : j < (marks k n).length) : (marks k n)[j] = mk (k + (j : Int)) := by simp [marks]
def markTo (l : List Bool) (k : Int) (j : Nat) : List Bool := marks k j ++ l.drop j
theorem markTo_zero (l : List Bool) (k : Int) : markTo l k 0 = l := by simp [markTo, marks]
theorem markTo_len (l : List Bool) (k : Int) (j : Nat) (h : j ≤ l.length) : (markTo l k j).length = l.length := by simp [markTo, marks_len]; omega
theorem markTo_all (l : List Bool) (k : Int) : markTo l k l.length = marks k l.length := by simp [markTo]
theorem markTo_set (l : List Bool) (k : Int) (j : Nat) (h : j < l.length) : (markTo l k j).set j (mk (k + (j : Int))) = markTo l k (j + 1) := by
  unfold markTo
  have e1 : (marks k j).length = j := marks_len k j
  rw [List.set_append_right _ _ (by omega), e1, Nat.sub_self, List.drop_eq_getElem_cons h, List.set_cons_zero]
  have e2 : marks k (j + 1) = marks k j ++ [mk (k + (j : Int))] := by simp [marks, List.range_succ]
  rw [e2, List.append_assoc]
  rfl
theorem gb_set {w w' : World} {g o : Nat} {row : Option Nat} (h : w.grownBy w' row) (hr : row = some g) (v : Value) : w.grownBy (w'.setCell ⟨g, o, none⟩ v) row :=
  h.trans ⟨rfl, rfl, rfl, by simp [World.setCell], fun i _ hne => Below.heap_setCell _ _ _ _ (fun e => hne (by rw [hr]; exact congrArg some e))⟩
def MarkedO (B : Nat) (v : Value) (l : List Bool) (x : Int) (w : World) (e : Ending) (w' : World) : Prop := e = .returned (.int .i64 x) ∧ Owns fc 1 w' B T v l ∧ w.grownBy w' v.ownBlock
set_option maxHeartbeats 2000000 in
theorem mark_o (w : World) (B : Nat) (a : Option Addr) (m cap : Nat) (l : List Bool) (k : Int) (hm : l.length = m) (hs : m ≤ 1099511627776) (hk0 : 0 ≤ k) (hk1 : k ≤ 1099511627776) (h : Owns fc 1 w B T (.slice a m cap) l) :
    Calls Try.prog 36 #[.slice a m cap, .int .i64 k] w (MarkedO B (.slice a m cap) (marks k m) (k + (m : Int)) w) := by
  have H0 := Lib.hid h
  have HM := Lib.hid hm
  clear hm h
  go_enter Try.func36, Try.ntmps36
  go_wp2
  go_loopw [1, 5] (fun q i wr => ∃ j : Nat, j ≤ m ∧ i = .int .i64 j ∧ q = .int .i64 (k + (j : Int)) ∧ Hid (Owns fc 1 wr B T (.slice a m cap) (markTo l k j)) ∧ w.grownBy wr (Value.slice a m cap).ownBlock) (fun _ i _ => m - (intOf i).toNat)
  case atStart => exact ⟨0, Nat.zero_le _, rfl, by simp, by rw [markTo_zero]; exact H0, World.grownBy.refl _ _⟩
  case round =>
    obtain ⟨j, hj, rfl, rfl, hown, hbel⟩ := hrel
    by_cases hlt : j < m
    · have HL : (markTo l k j).length = m := by rw [markTo_len _ _ _ (by rw [HM.out]; omega), HM.out]
      obtain ⟨g, rfl, hBg, hgl, q0, z0⟩ := own hown.out j (by rw [HL]; exact hlt)
      generalize ((markTo l k j)[j]'(by rw [HL]; exact hlt)) = y at q0
      have b1 : (0 : Int) ≤ (j : Int) := by omega
      have b2 : (j : Int) < (m : Int) := by omega
      have HG := Lib.hid hbel
      have HL' := Lib.hid HL
      clear hbel HL
      obtain ⟨k0, hk0'⟩ : ∃ k0, k + (j : Int) = k0 := ⟨_, rfl⟩
      have K0 : 0 ≤ k0 ∧ k0 ≤ 90000000000000 := by omega
      rw [hk0']
      have HK := Lib.hid hk0'
      clear hk0'
      go_wp2
      go_roundw
      case rel =>
        refine ⟨j + 1, by omega, by go_num, congrArg (Value.int .i64) (by have := HK.out; omega), ?_, ?_⟩
        · have R := stored hown.out j (by rw [HL'.out]; exact hlt) (mk (k + (j : Int)))
          rw [markTo_set _ _ _ (by rw [HM.out]; exact hlt)] at R
          rw [HK.out] at R
          exact Lib.hid R
        · exact gb_set HG.out rfl _
      case measure => simp [intOf]; omega
    · obtain rfl : j = m := by omega
      go_wp2
      go_ret
      refine ⟨rfl, ?_, hbel⟩
      have e := markTo_all l k
      rw [HM.out] at e
      have R := hown.out
      rw [e] at R
      exact R
def Marked (lo hi : Nat) (v : Value) (l : List Bool) (x : Int) (w : World) (e : Ending) (w' : World) : Prop := e = .returned (.int .i64 x) ∧ Own.Ow fc 1 T w' lo hi v l ∧ Own.Mid lo hi w w'
theorem mark_c (w : World) (lo hi : Nat) (a : Option Addr) (m cap : Nat) (l : List Bool) (k : Int) (hm : l.length = m) (hs : m ≤ 1099511627776) (hk0 : 0 ≤ k) (hk1 : k ≤ 1099511627776) (h : Own.Ow fc 1 T w lo hi (.slice a m cap) l) (hlo : lo ≤ w.heap.size) :
    Calls Try.prog 36 #[.slice a m cap, .int .i64 k] w (Marked lo hi (.slice a m cap) (marks k m) (k + (m : Int)) w) :=
  (mark_o w lo a m cap l k hm hs hk0 hk1 h.own).mono fun e w' ⟨he, ho, hg⟩ => ⟨he, ⟨ho, h.top, Nat.le_trans h.lim hg.size⟩, Own.Mid.of_grown hg (fun k hk => ⟨h.own.low k hk, h.top k hk⟩) hlo⟩
set_option maxHeartbeats 2000000 in
theorem held_c (w : World) (a : Option Addr) (m cap : Nat) (k : Int) (hs : m ≤ 1099511627776) (hk0 : 0 ≤ k) (hk1 : k ≤ 1099511627776) (h : Reads fc 1 w a (marks k m)) :
    Calls Try.prog 37 #[.slice a m cap, .int .i64 k] w (fun e w' => e = .returned (.int .i64 (k + (m : Int))) ∧ Below w.heap.size w w') := by
  have KK := Lib.hid h
  clear h
  go_enter Try.func37, Try.ntmps37
  go_wp2
  go_loopw [1, 5] (fun q i wr => ∃ j : Nat, j ≤ m ∧ i = .int .i64 j ∧ q = .int .i64 (k + (j : Int)) ∧ Below w.heap.size w wr) (fun _ i _ => m - (intOf i).toNat)
  case atStart => exact ⟨0, Nat.zero_le _, rfl, by simp, Below.refl _ _⟩
  case round =>
    obtain ⟨j, hj, rfl, rfl, hbel⟩ := hrel
    by_cases hlt : j < m
    · have hl : j < (marks k m).length := by rw [marks_len]; exact hlt
      obtain ⟨g, o, rfl, hgl, q0⟩ := read (KK.out.on hbel) j hl
      rw [marks_get] at q0
      have b1 : (0 : Int) ≤ (j : Int) := by omega
      have b2 : (j : Int) < (m : Int) := by omega
      have HB := Lib.hid hbel
      clear hbel hl
      obtain ⟨k0, hk0'⟩ : ∃ k0, k + (j : Int) = k0 := ⟨_, rfl⟩
      have K0 : 0 ≤ k0 ∧ k0 ≤ 90000000000000 := by omega
      rw [hk0'] at q0 ⊢
      have HK := Lib.hid hk0'
      clear hk0'
      obtain ⟨b, hb⟩ : ∃ b, mk k0 = b := ⟨_, rfl⟩
      rw [hb] at q0
      have hb' : (k0 % 3 == 0) = b := hb
      have hb2 : decide (k0 % 3 = 0) = b := by rw [← hb']; exact (Bool.eq_iff_iff.2 (by simp))
      clear hb
      cases b with
      | false =>
        go_wp2
        go_roundw
        case rel => exact ⟨j + 1, by omega, by go_num, congrArg (Value.int .i64) (by have := HK.out; omega), HB.out⟩
        case measure => simp [intOf]; omega
      | true =>
        go_wp2
        go_roundw
        case rel => exact ⟨j + 1, by omega, by go_num, congrArg (Value.int .i64) (by have := HK.out; omega), HB.out⟩
        case measure => simp [intOf]; omega
    · obtain rfl : j = m := by omega
      go_wp2
      go_ret
      exact ⟨rfl, hbel⟩
end Go.Proofs.Ytlljhcfiojfimaa.TBool

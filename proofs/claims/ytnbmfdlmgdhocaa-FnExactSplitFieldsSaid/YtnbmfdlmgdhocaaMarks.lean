/- Contracts of the law's helpers on slices of strings: equal lists compare equal; marks are written and found again. -/
import Derived.Test.YtnbmfdlmgdhocaaRows
import Derived.Test.YtnbmfdlmgdhocaaBytesKit
import Derived.Test.YtnbmfdlmgdhocaaHexMath
import Derived.Test.YtnbmfdlmgdhocaaNumMath
import Derived.Test.YtnbmfdlmgdhocaaNumFmt
import Derived.Test.YtnbmfdlmgdhocaaStrKit
import Derived.Test.YtnbmfdlmgdhocaaSplitI
import Derived.Lib.Hide
import Derived.BigQuiet
import Derived.Deep.RegionHeld3
namespace Go.Proofs.Ytnbmfdlmgdhocaa.Marks
open Go.RowKit BytesKit HexMath NumMath NumFmt StrKit

def mark (k : Nat) : ByteArray := ⟨#[109] ++ (dg k).toArray⟩
def marks (k n : Nat) : List ByteArray := (List.range n).map fun i => mark (k + i)
theorem marks_len (k n : Nat) : (marks k n).length = n := by simp [marks]
theorem marks_get (k n j : Nat) (h : j < (marks k n).length) : (marks k n)[j] = mark (k + j) := by simp [marks]
/-- The first j elements are marked. -/
def markTo (l : List ByteArray) (k j : Nat) : List ByteArray := marks k j ++ l.drop j
theorem markTo_zero (l : List ByteArray) (k : Nat) : markTo l k 0 = l := by simp [markTo, marks]
theorem markTo_len (l : List ByteArray) (k j : Nat) (h : j ≤ l.length) : (markTo l k j).length = l.length := by simp [markTo, marks_len]; omega
theorem markTo_all (l : List ByteArray) (k : Nat) : markTo l k l.length = marks k l.length := by simp [markTo]
theorem markTo_set (l : List ByteArray) (k j : Nat) (h : j < l.length) : (markTo l k j).set j (mark (k + j)) = markTo l k (j + 1) := by
  unfold markTo
  have e1 : (marks k j).length = j := marks_len k j
  rw [List.set_append_right _ _ (by omega), e1, Nat.sub_self, List.drop_eq_getElem_cons h, List.set_cons_zero]
  have e2 : marks k (j + 1) = marks k j ++ [mark (k + j)] := by simp [marks, List.range_succ]
  rw [e2, List.append_assoc]
  rfl

theorem mark_byte (a : Nat) : IntKind.u8.wrap (48 + (a : Int) % 10) = ((fig (a % 10)).toNat : Int) := by
  rw [figI _ (by omega), if_pos (by omega)]
  rw [IntWalk.u8_in _ (by omega)]; omega

def Text (b : ByteArray) (w : World) (e : Ending) (w' : World) : Prop := e = .returned (.string b) ∧ Below w.heap.size w w'

set_option maxHeartbeats 400000 in
theorem text_c (x : Int) (w : World) (h0 : 0 < x) (h1 : x ≤ 1000000000) :
    Calls Try.prog 33 #[.int .i64 x] w (Text (mark x.toNat) w) := by
  obtain ⟨N, rfl⟩ := Int.eq_ofNat_of_zero_le (show 0 ≤ x by omega)
  rw [Int.toNat_natCast]
  go_enter Try.func33, Try.ntmps33
  go_wp2
  go_loopw [0, 3] (fun n s wr => ∃ (a : Nat) (acc : ByteArray), n = .int .i64 a ∧ s = .string acc ∧ a ≤ N ∧ Below w.heap.size w wr ∧ Hid (dg a ++ acc.data.toList = dg N))
    (fun n _ _ => (intOf n).toNat)
  case atStart => exact ⟨N, ⟨#[]⟩, rfl, rfl, Nat.le_refl _, Below.refl _ _, by show dg N ++ [] = dg N; simp⟩
  case round =>
    obtain ⟨a, acc, rfl, rfl, ha, hbel, hacc⟩ := hrel
    by_cases hz : 0 < a
    · have hcv := one_str wr (fig (a % 10))
      have hsm := acc_small N a acc hacc.out (by omega)
      have hmb := mark_byte a
      go_wp2
      go_roundw
      case rel => exact ⟨a / 10, _, by go_num, rfl, by omega, hbel.alloc hbel.size _, round_acc N a acc hz hacc.out⟩
      case measure => simp [intOf]; omega
    · obtain rfl : a = 0 := by omega
      have F := Lib.hid (acc_done N acc hacc.out)
      have hsm := acc_small N 0 acc hacc.out (by omega)
      go_wp2
      go_ret
      exact ⟨by rw [F.out]; exact congrArg (fun b : ByteArray => Ending.returned (.string b)) (by apply ByteArray.ext; simp [mark]), hbel⟩

def YesDrawn (w : World) (e : Ending) (w' : World) : Prop := e = .returned (.bool true) ∧ ∃ n, w' = w.drewN n

set_option maxHeartbeats 400000 in
theorem eq_c (w : World) (B1 B2 : Nat) (v1 v2 : Value) (ss : List ByteArray) (hs : ss.length ≤ 1048576) (h1 : OwnsS w B1 9 v1 ss) (h2 : OwnsS w B2 9 v2 ss) :
    Calls Try.prog 20 #[v1, v2] w (YesDrawn w) := by
  obtain ⟨a1, c1, rfl, k1⟩ := h1.form
  obtain ⟨a2, c2, rfl, k2⟩ := h2.form
  obtain ⟨m, hm⟩ : ∃ m, ss.length = m := ⟨_, rfl⟩
  have K1 := Lib.hid k1
  have K2 := Lib.hid k2
  clear k1 k2 h1 h2
  rw [hm] at hs ⊢
  have HM := Lib.hid hm
  clear hm
  go_enter Try.func20, Try.ntmps20
  go_wp2
  go_loopw [5] (fun i wr => ∃ k n : Nat, k ≤ m ∧ i = .int .i64 k ∧ wr = w.drewN n) (fun i _ => m - (intOf i).toNat)
  case atStart => exact ⟨0, 0, Nat.zero_le _, rfl, rfl⟩
  case round =>
    obtain ⟨k, n, hk, rfl, rfl⟩ := hrel
    by_cases hlt : k < m
    · obtain ⟨g1, rfl, _, _, q1, _⟩ := K1.out k (by rw [HM.out]; exact hlt)
      obtain ⟨g2, rfl, _, _, q2, _⟩ := K2.out k (by rw [HM.out]; exact hlt)
      obtain ⟨b, hb⟩ : ∃ b, ss[k]'(by rw [HM.out]; exact hlt) = b := ⟨_, rfl⟩
      rw [hb] at q1 q2
      clear hb
      have b0 : (0 : Int) ≤ (k : Int) := by omega
      have b1 : (k : Int) < (m : Int) := by omega
      go_wp2_with fail
      go_quiet (fail)
      go_wp2
      go_roundw
      case rel => exact ⟨k + 1, _, by omega, by go_num, rfl⟩
      case measure => simp [intOf]; omega
    · go_wp2
      go_ret
      exact ⟨rfl, n, rfl⟩

def Marked (B : Nat) (v : Value) (l : List ByteArray) (x : Int) (w : World) (e : Ending) (w' : World) : Prop := e = .returned (.int .i64 x) ∧ OwnsS w' B 9 v l ∧ Below B w w'

set_option maxHeartbeats 400000 in
theorem mark_c (w : World) (B : Nat) (v : Value) (l : List ByteArray) (k : Nat) (hs : l.length ≤ 1048576) (hk0 : 0 < k) (hk1 : k ≤ 1048576) (hB : B ≤ w.heap.size) (h : OwnsS w B 9 v l) :
    Calls Try.prog 21 #[v, .int .i64 k] w (Marked B v (marks k l.length) ((k : Int) + (l.length : Int)) w) := by
  obtain ⟨a, cap, rfl, _⟩ := h.form
  obtain ⟨m, hm⟩ : ∃ m, l.length = m := ⟨_, rfl⟩
  rw [hm] at hs ⊢
  have H0 := Lib.hid (show OwnsS w B 9 (.slice a m cap) l by rw [← hm]; exact h)
  have HM := Lib.hid hm
  clear hm h
  go_enter Try.func21, Try.ntmps21
  go_wp2
  go_loopw [1, 5] (fun q i wr => ∃ j : Nat, j ≤ m ∧ i = .int .i64 j ∧ q = .int .i64 ((k : Int) + (j : Int)) ∧ Hid (OwnsS wr B 9 (.slice a m cap) (markTo l k j)) ∧ Below B w wr) (fun _ i _ => m - (intOf i).toNat)
  case atStart => exact ⟨0, Nat.zero_le _, rfl, by simp, by rw [markTo_zero]; exact H0, Below.refl _ _⟩
  case round =>
    obtain ⟨j, hj, rfl, rfl, hown, hbel⟩ := hrel
    by_cases hlt : j < m
    · have HL : (markTo l k j).length = m := by rw [markTo_len _ _ _ (by rw [HM.out]; omega), HM.out]
      have hsz := hbel.size
      go_wp2_with fail
      refine (text_c _ _ (by omega) (by omega)).mono ?_
      rintro e w1 ⟨rfl, hb1⟩
      have hown1 : OwnsS w1 B 9 (.slice a m cap) (markTo l k j) := hown.out.below hb1 (hown.out.lt)
      obtain ⟨g, rfl, hBg, _, q1, q2⟩ := hown1.at j (by rw [HL]; exact hlt)
      obtain ⟨b0, hb0⟩ : ∃ b0, (markTo l k j)[j]'(by rw [HL]; exact hlt) = b0 := ⟨_, rfl⟩
      rw [hb0] at q1
      have HO := Lib.hid hown1
      have hb2 : Below B w w1 := hbel.trans (hb1.mono (by omega))
      have HN := Lib.hid (show ((k : Int) + (j : Int)).toNat = k + j by omega)
      obtain ⟨t, ht⟩ : ∃ t, mark ((k : Int) + (j : Int)).toNat = t := ⟨_, rfl⟩
      rw [ht]
      have HT := Lib.hid ht
      clear hown1 hown ht hb1 hb0 HL
      go_wp2
      go_roundw
      case rel =>
        refine ⟨j + 1, by omega, by go_num, congrArg (Value.int .i64) (by omega), ?_, hb2.setCell (p := ⟨g, j, none⟩) hBg _⟩
        have R := HO.out.stored (by rw [markTo_len _ _ _ (by rw [HM.out]; omega), HM.out]) j t
        rw [← HT.out, HN.out, markTo_set _ _ _ (by rw [HM.out]; exact hlt)] at R
        rw [← HT.out, HN.out]
        exact R
      case measure => simp [intOf]; omega
    · obtain rfl : j = m := by omega
      go_wp2
      go_ret
      refine ⟨rfl, ?_, hbel⟩
      have e := markTo_all l k
      rw [HM.out] at e
      have R := hown.out
      rw [e] at R
      exact R

set_option maxHeartbeats 400000 in
theorem held_c (w : World) (B : Nat) (v : Value) (k m : Nat) (hs : m ≤ 1048576) (hk0 : 0 < k) (hk1 : k ≤ 1048576) (h : OwnsS w B 9 v (marks k m)) :
    Calls Try.prog 22 #[v, .int .i64 k] w (fun e w' => e = .returned (.int .i64 ((k : Int) + (m : Int))) ∧ Below w.heap.size w w') := by
  obtain ⟨a, cap, rfl, kk⟩ := h.form
  have KK := Lib.hid kk
  clear kk h
  rw [marks_len]
  go_enter Try.func22, Try.ntmps22
  go_wp2
  go_loopw [1, 5] (fun q i wr => ∃ j : Nat, j ≤ m ∧ i = .int .i64 j ∧ q = .int .i64 ((k : Int) + (j : Int)) ∧ Below w.heap.size w wr) (fun _ i _ => m - (intOf i).toNat)
  case atStart => exact ⟨0, Nat.zero_le _, rfl, by simp, Below.refl _ _⟩
  case round =>
    obtain ⟨j, hj, rfl, rfl, hbel⟩ := hrel
    by_cases hlt : j < m
    · obtain ⟨g, rfl, _, hgl, q1, _⟩ := KK.out j (by rw [marks_len]; exact hlt)
      rw [marks_get] at q1
      have q2 : wr.cell? ⟨g, j, none⟩ = some (.string (mark (k + j))) := (hbel.cell (p := ⟨g, j, none⟩) hgl).trans q1
      have hgr : g < wr.heap.size := Nat.lt_of_lt_of_le hgl hbel.size
      have hn : ((k : Int) + (j : Int)).toNat = k + j := by omega
      have b0 : (0 : Int) ≤ (j : Int) := by omega
      have b1 : (j : Int) < (m : Int) := by omega
      clear q1
      go_wp2_with fail
      go_region_held3 (fun w' => w'.cell? ⟨g, j, none⟩ = some (.string (mark (k + j))))
        (first | go_keep | (rw [hb1.cell (p := ⟨g, j, none⟩) hgr]; assumption))
        ((go_at_call 33; refine (text_c _ _ (by omega) (by omega)).mono ?_; rintro e w1 ⟨rfl, hb1⟩))
      have R : Below w.heap.size w w1 := (hbel.drew).trans (hb1.mono hbel.size)
      clear hb1 hbel q2 hn
      go_wp2
      go_roundw
      case rel => exact ⟨j + 1, by omega, by go_num, congrArg (Value.int .i64) (by omega), R⟩
      case measure => simp [intOf]; omega
    · obtain rfl : j = m := by omega
      go_wp2
      go_ret
      exact ⟨rfl, hbel⟩

/-- The law's own calls: marks from 1 on. -/
theorem mark_one (w : World) (B : Nat) (v : Value) (l : List ByteArray) (hs : l.length ≤ 1048576) (hB : B ≤ w.heap.size) (h : OwnsS w B 9 v l) :
    Calls Try.prog 21 #[v, .int .i64 1] w (Marked B v (marks 1 l.length) (1 + (l.length : Int)) w) :=
  mark_c w B v l 1 hs (by omega) (by omega) hB h
theorem held_one (w : World) (B : Nat) (v : Value) (m : Nat) (hs : m ≤ 1048576) (h : OwnsS w B 9 v (marks 1 m)) :
    Calls Try.prog 22 #[v, .int .i64 1] w (fun e w' => e = .returned (.int .i64 (1 + (m : Int))) ∧ Below w.heap.size w w') :=
  held_c w B v 1 m hs (by omega) (by omega) h
end Go.Proofs.Ytnbmfdlmgdhocaa.Marks

/- Contracts of the laws' helpers on slices of int: copied, compared, marked and found again. -/
import Derived.Test.YtgdniakncjjggaaRows
import Derived.Test.YtgdniakncjjggaaKit
import Derived.WalkKit
import Derived.Below
import Derived.WalkSmall
import Derived.Lib.Hide
import Derived.BigQuiet
import Derived.Deep.QuietTactic
import Derived.OpenShut
namespace Go.Proofs.Ytgdniakncjjggaa.IntRow
open Go.RowKit Row1

abbrev fI : Int → Value := Value.int .i64
theorem it : ElT Try.prog 24 3 (fI 0) 8 := ⟨Try.underlying24, by kernel_rfl, by omega, rfl⟩
/-- The first elements of a slice read as l. -/
def Reads (w : World) (a : Option Addr) (l : List Int) : Prop := ∀ j (hj : j < l.length), ∃ blk off, a = some ⟨blk, off, none⟩ ∧ blk < w.heap.size ∧ w.cell? ⟨blk, off + j, none⟩ = some (.int .i64 l[j])
theorem Reads.on {w w' : World} {a : Option Addr} {l : List Int} (h : Reads w a l) (hb : Below w.heap.size w w') : Reads w' a l := fun j hj => by
  obtain ⟨blk, off, e, hlt, hc⟩ := h j hj
  exact ⟨blk, off, e, Nat.lt_of_lt_of_le hlt hb.size, ((BelowKit.bcell hb).1 _ _ hlt).trans hc⟩
theorem Reads.below {w w' : World} {B : Nat} {a : Option Addr} {l : List Int} (h : Reads w a l) (hb : Below B w w') (hB : ∀ b o, a = some ⟨b, o, none⟩ → b < B) : Reads w' a l := fun j hj => by
  obtain ⟨blk, off, e, hlt, hc⟩ := h j hj
  exact ⟨blk, off, e, Nat.lt_of_lt_of_le hlt hb.size, (hb.cell (p := ⟨blk, off + j, none⟩) (hB _ _ e)).trans hc⟩
theorem Reads.drewN {w : World} {a : Option Addr} {l : List Int} (h : Reads w a l) (n : Nat) : Reads (w.drewN n) a l := h
theorem reads_own {w : World} {B T n cap : Nat} {a : Option Addr} {l : List Int} (h : Owns fI w B T (.slice a n cap) l) : Reads w a l := fun j hj => by
  obtain ⟨g, e, _, hlt, hc, _⟩ := h.at j hj
  exact ⟨g, 0, e, hlt, by rw [Nat.zero_add]; exact hc⟩
theorem own_len {w : World} {B T n cap : Nat} {a : Option Addr} {l : List Int} (h : Owns fI w B T (.slice a n cap) l) : n = l.length := by
  obtain ⟨_, _, e, _⟩ := h.form
  cases e
  rfl
/-- A slice of integers that came in. -/
theorem reads_in {w : World} {a : Option Addr} {len cap : Nat} {zs : List Int}
    (h : (a = none ∧ len = 0 ∧ cap = 0 ∧ zs = []) ∨ ∃ x, a = some x ∧ len ≤ cap ∧ cap ≤ maxLen ∧ zs.length = cap ∧ (∀ i, i < zs.length → w.cell? (x.add i) = some (.int .i64 (zs.getD i 0))) ∧ ∀ n ∈ zs, (Lit.int .i64 n).wf = true) :
    Reads w a (zs.take len) ∧ (zs.take len).length = len ∧ len ≤ maxLen ∧ ∀ n ∈ zs.take len, -9223372036854775808 ≤ n ∧ n ≤ 9223372036854775807 := by
  rcases h with ⟨rfl, rfl, _, rfl⟩ | ⟨⟨blk, off, spot⟩, rfl, hl, hm, hz, hcell, hwf⟩
  · exact ⟨fun j hj => by simp at hj, rfl, Nat.zero_le _, by simp⟩
  · have hle : (zs.take len).length = len := by simp; omega
    refine ⟨fun j hj => ?_, hle, Nat.le_trans hl hm, fun n hn => ?_⟩
    · have hj2 : j < zs.length := by omega
      have hc := hcell j hj2
      have hspot : spot = none := by simpa [Addr.add] using World.cell?_spot (hcell 0 (by omega))
      subst hspot
      have hadd : (⟨blk, off, none⟩ : Addr).add j = ⟨blk, off + j, none⟩ := by unfold Addr.add; split <;> simp_all
      rw [hadd] at hc
      refine ⟨blk, off, rfl, World.block_lt_of_cell? w _ hc, ?_⟩
      rw [hc]
      simp [List.getD, hj2]
    · have := hwf n (List.mem_of_mem_take hn)
      exact bounds_i64 this

/-- The answer is the list l in new memory. -/
def IsList (l : List Int) (w : World) (e : Ending) (w' : World) : Prop := ∃ a cap, e = .returned (.slice a l.length cap) ∧ Owns fI w' w.heap.size 3 (.slice a l.length cap) l ∧ Below w.heap.size w w'
theorem IsList.nil (w w' : World) (h : Below w.heap.size w w') : IsList [] w (.returned (.slice none 0 0)) w' := ⟨none, 0, rfl, Owns.nil _ _ _, h⟩

def Yes (w : World) (e : Ending) (w' : World) : Prop := e = .returned (.bool true) ∧ ∃ n, w' = w.drewN n

set_option maxHeartbeats 400000 in
theorem eq_c (w : World) (m c1 c2 : Nat) (a1 a2 : Option Addr) (l : List Int) (hm : l.length = m) (hs : m ≤ 1099511627776) (h1 : Reads w a1 l) (h2 : Reads w a2 l) :
    Calls Try.prog 21 #[.slice a1 m c1, .slice a2 m c2] w (Yes w) := by
  have K1 := Lib.hid h1
  have K2 := Lib.hid h2
  have HM := Lib.hid hm
  clear h1 h2 hm
  go_enter Try.func21, Try.ntmps21
  go_wp2
  go_loopw [5] (fun i wr => ∃ k n : Nat, k ≤ m ∧ i = .int .i64 k ∧ wr = w.drewN n) (fun i _ => m - (intOf i).toNat)
  case atStart => exact ⟨0, 0, Nat.zero_le _, rfl, rfl⟩
  case round =>
    obtain ⟨k, n, hk, rfl, rfl⟩ := hrel
    by_cases hlt : k < m
    · obtain ⟨g1, o1, rfl, _, q1⟩ := K1.out k (by rw [HM.out]; exact hlt)
      obtain ⟨g2, o2, rfl, _, q2⟩ := K2.out k (by rw [HM.out]; exact hlt)
      obtain ⟨b, hb⟩ : ∃ b, l[k]'(by rw [HM.out]; exact hlt) = b := ⟨_, rfl⟩
      rw [hb] at q1 q2
      clear hb
      have b0 : (0 : Int) ≤ (k : Int) := by omega
      have b1 : (k : Int) < (m : Int) := by omega
      go_wp2_with fail
      go_quiet (fail)
      go_wp2
      go_roundw
      case rel => exact ⟨k + 1, _, by omega, by go_num, rfl⟩
      case measure => simp [intOf]; omega
    · go_wp2
      go_ret
      exact ⟨rfl, n, rfl⟩

/-- The marks k, k + 1, .. -/
def marks (k : Int) (n : Nat) : List Int := (List.range n).map fun (i : Nat) => k + (i : Int)
theorem marks_len (k : Int) (n : Nat) : (marks k n).length = n := by simp [marks]
theorem marks_get (k : Int) (n j : Nat) (h : j < (marks k n).length) : (marks k n)[j] = k + (j : Int) := by simp [marks]
def markTo (l : List Int) (k : Int) (j : Nat) : List Int := marks k j ++ l.drop j
theorem markTo_zero (l : List Int) (k : Int) : markTo l k 0 = l := by simp [markTo, marks]
theorem markTo_len (l : List Int) (k : Int) (j : Nat) (h : j ≤ l.length) : (markTo l k j).length = l.length := by simp [markTo, marks_len]; omega
theorem markTo_all (l : List Int) (k : Int) : markTo l k l.length = marks k l.length := by simp [markTo]
theorem markTo_set (l : List Int) (k : Int) (j : Nat) (h : j < l.length) : (markTo l k j).set j (k + (j : Int)) = markTo l k (j + 1) := by
  unfold markTo
  have e1 : (marks k j).length = j := marks_len k j
  rw [List.set_append_right _ _ (by omega), e1, Nat.sub_self, List.drop_eq_getElem_cons h, List.set_cons_zero]
  have e2 : marks k (j + 1) = marks k j ++ [k + (j : Int)] := by simp [marks, List.range_succ]
  rw [e2, List.append_assoc]
  rfl

def Marked (B : Nat) (v : Value) (l : List Int) (x : Int) (w : World) (e : Ending) (w' : World) : Prop := e = .returned (.int .i64 x) ∧ Owns fI w' B 3 v l ∧ Below B w w'

set_option maxHeartbeats 400000 in
theorem mark_c (w : World) (B : Nat) (a : Option Addr) (m cap : Nat) (l : List Int) (k : Int) (hm : l.length = m) (hs : m ≤ 1099511627776) (hk0 : 0 ≤ k) (hk1 : k ≤ 1099511627776) (h : Owns fI w B 3 (.slice a m cap) l) :
    Calls Try.prog 22 #[.slice a m cap, .int .i64 k] w (Marked B (.slice a m cap) (marks k m) (k + (m : Int)) w) := by
  have H0 := Lib.hid h
  have HM := Lib.hid hm
  clear hm h
  go_enter Try.func22, Try.ntmps22
  go_wp2
  go_loopw [1, 5] (fun q i wr => ∃ j : Nat, j ≤ m ∧ i = .int .i64 j ∧ q = .int .i64 (k + (j : Int)) ∧ Hid (Owns fI wr B 3 (.slice a m cap) (markTo l k j)) ∧ Below B w wr) (fun _ i _ => m - (intOf i).toNat)
  case atStart => exact ⟨0, Nat.zero_le _, rfl, by simp, by rw [markTo_zero]; exact H0, Below.refl _ _⟩
  case round =>
    obtain ⟨j, hj, rfl, rfl, hown, hbel⟩ := hrel
    by_cases hlt : j < m
    · have HL : (markTo l k j).length = m := by rw [markTo_len _ _ _ (by rw [HM.out]; omega), HM.out]
      obtain ⟨g, rfl, hBg, _, q1, q2⟩ := hown.out.at j (by rw [HL]; exact hlt)
      obtain ⟨b0, hb0⟩ : ∃ b0, (markTo l k j)[j]'(by rw [HL]; exact hlt) = b0 := ⟨_, rfl⟩
      rw [hb0] at q1
      clear hb0 HL
      go_wp2
      go_roundw
      case rel =>
        refine ⟨j + 1, by omega, by go_num, congrArg (Value.int .i64) (by omega), ?_, hbel.setCell (p := ⟨g, j, none⟩) hBg _⟩
        have R := hown.out.stored (by rw [markTo_len _ _ _ (by rw [HM.out]; omega), HM.out]) j (k + (j : Int))
        rw [markTo_set _ _ _ (by rw [HM.out]; exact hlt)] at R
        exact R
      case measure => simp [intOf]; omega
    · obtain rfl : j = m := by omega
      go_wp2
      go_ret
      refine ⟨rfl, ?_, hbel⟩
      have e := markTo_all l k
      rw [HM.out] at e
      have R := hown.out
      rw [e] at R
      exact R

set_option maxHeartbeats 400000 in
theorem held_c (w : World) (a : Option Addr) (m cap : Nat) (k : Int) (hs : m ≤ 1099511627776) (hk0 : 0 ≤ k) (hk1 : k ≤ 1099511627776) (h : Reads w a (marks k m)) :
    Calls Try.prog 23 #[.slice a m cap, .int .i64 k] w (fun e w' => e = .returned (.int .i64 (k + (m : Int))) ∧ ∃ n, w' = w.drewN n) := by
  have KK := Lib.hid h
  clear h
  go_enter Try.func23, Try.ntmps23
  go_wp2
  go_loopw [1, 5] (fun q i wr => ∃ j n : Nat, j ≤ m ∧ i = .int .i64 j ∧ q = .int .i64 (k + (j : Int)) ∧ wr = w.drewN n) (fun _ i _ => m - (intOf i).toNat)
  case atStart => exact ⟨0, 0, Nat.zero_le _, rfl, by simp, rfl⟩
  case round =>
    obtain ⟨j, n, hj, rfl, rfl, rfl⟩ := hrel
    by_cases hlt : j < m
    · obtain ⟨g, o, rfl, hgl, q1⟩ := KK.out j (by rw [marks_len]; exact hlt)
      rw [marks_get] at q1
      have b0 : (0 : Int) ≤ (j : Int) := by omega
      have b1 : (j : Int) < (m : Int) := by omega
      go_wp2
      go_roundw
      case rel => exact ⟨j + 1, _, by omega, by go_num, congrArg (Value.int .i64) (by omega), rfl⟩
      case measure => simp [intOf]; omega
    · obtain rfl : j = m := by omega
      go_wp2
      go_ret
      exact ⟨rfl, _, rfl⟩

def IsCopy (l : List Int) (w : World) (e : Ending) (w' : World) : Prop := ∃ g : Nat, e = .returned (.slice (some ⟨g, 0, none⟩) l.length l.length) ∧ w.heap.size ≤ g ∧ Owns fI w' w.heap.size 3 (.slice (some ⟨g, 0, none⟩) l.length l.length) l ∧ Below w.heap.size w w'
theorem copy_set (l : List Int) (j : Nat) (h : j < l.length) : (l.take j ++ List.replicate (l.length - j) 0).set j l[j] = l.take (j + 1) ++ List.replicate (l.length - (j + 1)) 0 := by
  have e : (l.take j).length = j := by simp; omega
  rw [List.set_append_right _ _ (by omega), e, Nat.sub_self, show l.length - j = (l.length - (j + 1)) + 1 by omega, List.replicate_succ, List.set_cons_zero, List.take_succ_eq_append_getElem h, List.append_assoc]
  rfl
set_option maxHeartbeats 400000 in
theorem copy_c (w : World) (a : Option Addr) (m cap : Nat) (l : List Int) (hm : l.length = m) (hs : m ≤ 1099511627776) (h : Reads w a l) :
    Calls Try.prog 20 #[.slice a m cap] w (IsCopy l w) := by
  have KK := Lib.hid h
  have HM := Lib.hid hm
  clear h hm
  go_enter Try.func20, Try.ntmps20
  go_wp2_with (at_make; refine wpList_make1 it _ rfl _ _ rfl w.heap.size .i64 .i64 _ _ m rfl rfl rfl rfl hs (Nat.le_refl _) ?_; intro w1 hown1 hg1)
  have HO1 := Lib.hid hown1
  have hb1 : Below w.heap.size w w1 := (Below.refl _ _).grown hg1 (Nat.le_refl _) (by simp)
  have K1 := Lib.hid (KK.out.on hb1)
  have HB1 := Lib.hid hb1
  clear hown1 hg1 hb1
  go_loopw [4] (fun i wr => ∃ j : Nat, j ≤ m ∧ i = .int .i64 j ∧ Hid (Owns fI wr w.heap.size 3 (.slice (some ⟨w.heap.size, 0, none⟩) m m) (l.take j ++ List.replicate (m - j) 0)) ∧ Below w.heap.size w wr) (fun i _ => m - (intOf i).toNat)
  case atStart => exact ⟨0, Nat.zero_le _, rfl, by simpa using HO1, HB1.out⟩
  case round =>
    obtain ⟨j, hj, rfl, hown, hbel⟩ := hrel
    by_cases hlt : j < m
    · have hr := KK.out.on hbel
      obtain ⟨g, o, rfl, hgl, q1⟩ := hr j (by rw [HM.out]; exact hlt)
      have HL : (l.take j ++ List.replicate (m - j) 0).length = m := by simp [HM.out]; omega
      have q2 := (hown.out.cell j (by rw [HL]; exact hlt)).2
      have q3 := (hown.out.cell j (by rw [HL]; exact hlt)).1
      obtain ⟨b0, hb0⟩ : ∃ b0, (l.take j ++ List.replicate (m - j) 0)[j]'(by rw [HL]; exact hlt) = b0 := ⟨_, rfl⟩
      rw [hb0] at q3
      obtain ⟨x, hx⟩ : ∃ x, l[j]'(by rw [HM.out]; exact hlt) = x := ⟨_, rfl⟩
      rw [hx] at q1
      have HX := Lib.hid hx
      have b1 : (0 : Int) ≤ (j : Int) := by omega
      have b2 : (j : Int) < (m : Int) := by omega
      have HB := Lib.hid hbel
      clear hr hb0 HL hx hbel
      go_wp2
      go_roundw
      case rel =>
        refine ⟨j + 1, by omega, by go_num, ?_, HB.out.setCell (p := ⟨w.heap.size, j, none⟩) (Nat.le_refl _) _⟩
        have R := hown.out.stored (by simp [HM.out]; omega) j x
        have E := copy_set l j (by rw [HM.out]; exact hlt)
        rw [HX.out, HM.out] at E
        rw [E] at R
        exact R
      case measure => simp [intOf]; omega
    · obtain rfl : j = m := by omega
      go_wp2
      go_ret
      refine ⟨w.heap.size, ?_, Nat.le_refl _, ?_, hbel⟩
      · rw [HM.out]; rfl
      · have R := hown.out
        rw [Nat.sub_self, List.take_of_length_le (by rw [HM.out]; exact Nat.le_refl _)] at R
        simpa [HM.out] using R
end Go.Proofs.Ytgdniakncjjggaa.IntRow

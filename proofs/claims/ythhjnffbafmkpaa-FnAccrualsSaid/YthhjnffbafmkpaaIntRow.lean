/- Contracts of the laws' helpers on slices of int: copied, compared, marked and found again. -/
import Derived.Test.YthhjnffbafmkpaaRows
import Derived.Test.YthhjnffbafmkpaaKit
import Derived.WalkKit
import Derived.Below
import Derived.WalkSmall
import Derived.Lib.Hide
import Derived.BigQuiet
import Derived.Deep.QuietTactic
import Derived.OpenShut
namespace Go.Proofs.Ythhjnffbafmkpaa.IntRow
open Go.RowKit Row1

abbrev fI : Int → Value := Value.int .i64
theorem it : ElT Try.prog 24 3 (fI 0) 8 := ⟨Try.underlying24, by kernel_rfl, by omega, rfl⟩
/-- The first elements of a slice read as l. -/
def Reads (w : World) (a : Option Addr) (l : List Int) : Prop := ∀ j (hj : j < l.length), ∃ blk off, a = some ⟨blk, off, none⟩ ∧ blk < w.heap.size ∧ w.cell? ⟨blk, off + j, none⟩ = some (.int .i64 l[j])
theorem Reads.on {w w' : World} {a : Option Addr} {l : List Int} (h : Reads w a l) (hb : Below w.heap.size w w') : Reads w' a l := fun j hj => by
  obtain ⟨blk, off, e, hlt, hc⟩ := h j hj
  exact ⟨blk, off, e, Nat.lt_of_lt_of_le hlt hb.size, ((BelowKit.bcell hb).1 _ _ hlt).trans hc⟩
theorem Reads.below {w w' : World} {B : Nat} {a : Option Addr} {l : List Int} (h : Reads w a l) (hb : Below B w w') (hB : ∀ b o, a = some ⟨b, o, none⟩ → b < B) : Reads w' a l := fun j hj => by
  obtain ⟨blk, off, e, hlt, hc⟩ := h j hj
  exact ⟨blk, off, e, Nat.lt_of_lt_of_le hlt hb.size, (hb.cell (p := ⟨blk, off + j, none⟩) (hB _ _ e)).trans hc⟩
theorem Reads.drewN {w : World} {a : Option Addr} {l : List Int} (h : Reads w a l) (n : Nat) : Reads (w.drewN n) a l := h
theorem reads_own {w : World} {B T n cap : Nat} {a : Option Addr} {l : List Int} (h : Owns fI w B T (.slice a n cap) l) : Reads w a l := fun j hj => by
  obtain ⟨g, e, _, hlt, hc, _⟩ := h.at j hj
  exact ⟨g, 0, e, hlt, by rw [Nat.zero_add]; exact hc⟩
theorem own_len {w : World} {B T n cap : Nat} {a : Option Addr} {l : List Int} (h : Owns fI w B T (.slice a n cap) l) : n = l.length := by
  obtain ⟨_, _, e, _⟩ := h.form
  cases e
  rfl
/-- A slice of integers that came in. -/
theorem reads_in {w : World} {a : Option Addr} {len cap : Nat} {zs : List Int}
    (h : (a = none ∧ len = 0 ∧ cap = 0 ∧ zs = []) ∨ ∃ x, a = some x ∧ len ≤ cap ∧ cap ≤ maxLen ∧ zs.length = cap ∧ (∀ i, i < zs.length → w.cell? (x.add i) = some (.int .i64 (zs.getD i 0))) ∧ ∀ n ∈ zs, (Lit.int .i64 n).wf = true) :
    Reads w a (zs.take len) ∧ (zs.take len).length = len ∧ len ≤ maxLen ∧ ∀ n ∈ zs.take len, -9223372036854775808 ≤ n ∧ n ≤ 9223372036854775807 := by
  rcases h with ⟨rfl, rfl, _, rfl⟩ | ⟨⟨blk, off, spot⟩, rfl, hl, hm, hz, hcell, hwf⟩
  · exact ⟨fun j hj => by simp at hj, rfl, Nat.zero_le _, by simp⟩
  · have hle : (zs.take len).length = len := by simp; omega
    refine ⟨fun j hj => ?_, hle, Nat.le_trans hl hm, fun n hn => ?_⟩
    · have hj2 : j < zs.length := by omega
      have hc := hcell j hj2
      have hspot : spot = none := by simpa [Addr.add] using World.cell?_spot (hcell 0 (by omega))
      subst hspot
      have hadd : (⟨blk, off, none⟩ : Addr).add j = ⟨blk, off + j, none⟩ := by unfold Addr.add; split <;> simp_all
      rw [hadd] at hc
      refine ⟨blk, off, rfl, World.block_lt_of_cell? w _ hc, ?_⟩
      rw [hc]
      simp [List.getD, hj2]
    · have := hwf n (List.mem_of_mem_take hn)
      exact bounds_i64 this

/-- The answer is the list l in new memory. -/
def IsList (l : List Int) (w : World) (e : Ending) (w' : World) : Prop := ∃ a cap, e = .returned (.slice a l.length cap) ∧ Owns fI w' w.heap.size 3 (.slice a l.length cap) l ∧ Below w.heap.size w w'
theorem IsList.nil (w w' : World) (h : Below w.heap.size w w') : IsList [] w (.returned (.slice none 0 0)) w' := ⟨none, 0, rfl, Owns.nil _ _ _, h⟩

def Yes (w : World) (e : Ending) (w' : World) : Prop := e = .returned (.bool true) ∧ ∃ n, w' = w.drewN n


/-- The marks k, k + 1, .. -/
def marks (k : Int) (n : Nat) : List Int := (List.range n).map fun (i : Nat) => k + (i : Int)
theorem marks_len (k : Int) (n : Nat) : (marks k n).length = n := by simp [marks]
theorem marks_get (k : Int) (n j : Nat) (h : j < (marks k n).length) : (marks k n)[j] = k + (j : Int) := by simp [marks]
def markTo (l : List Int) (k : Int) (j : Nat) : List Int := marks k j ++ l.drop j
theorem markTo_zero (l : List Int) (k : Int) : markTo l k 0 = l := by simp [markTo, marks]
theorem markTo_len (l : List Int) (k : Int) (j : Nat) (h : j ≤ l.length) : (markTo l k j).length = l.length := by simp [markTo, marks_len]; omega
theorem markTo_all (l : List Int) (k : Int) : markTo l k l.length = marks k l.length := by simp [markTo]
theorem markTo_set (l : List Int) (k : Int) (j : Nat) (h : j < l.length) : (markTo l k j).set j (k + (j : Int)) = markTo l k (j + 1) := by
  unfold markTo
  have e1 : (marks k j).length = j := marks_len k j
  rw [List.set_append_right _ _ (by omega), e1, Nat.sub_self, List.drop_eq_getElem_cons h, List.set_cons_zero]
  have e2 : marks k (j + 1) = marks k j ++ [k + (j : Int)] := by simp [marks, List.range_succ]
  rw [e2, List.append_assoc]
  rfl

def Marked (B : Nat) (v : Value) (l : List Int) (x : Int) (w : World) (e : Ending) (w' : World) : Prop := e = .returned (.int .i64 x) ∧ Owns fI w' B 3 v l ∧ Below B w w'



end Go.Proofs.Ythhjnffbafmkpaa.IntRow

/- Contracts of the drawn rows of integers: twelve places; a total and weights. -/
import Derived.Test.YthhjnffbafmkpaaRows
import Derived.Test.YthhjnffbafmkpaaKit
import Derived.Test.YthhjnffbafmkpaaIntRow
import Derived.Test.YthhjnffbafmkpaaCurC
import Derived.Lib.Hide
namespace Go.Proofs.Ythhjnffbafmkpaa.DrawRow
open Go.RowKit CurKit CurByte Cur Row1 IntRow BelowKit

/-- All numbers lie from lo to hi. -/
def In (lo hi : Int) (l : List Int) : Prop := ∀ x ∈ l, lo ≤ x ∧ x ≤ hi
theorem In.nil (lo hi : Int) : In lo hi [] := by intro x hx; cases hx
theorem In.snoc {lo hi : Int} {l : List Int} (h : In lo hi l) (x : Int) (h1 : lo ≤ x) (h2 : x ≤ hi) : In lo hi (l ++ [x]) := by
  intro y hy
  rcases List.mem_append.1 hy with hy | hy
  · exact h y hy
  · obtain rfl : y = x := by simpa using hy
    exact ⟨h1, h2⟩
theorem In.get {lo hi : Int} {l : List Int} (h : In lo hi l) (j : Nat) (hj : j < l.length) : lo ≤ l[j] ∧ l[j] ≤ hi := h _ (List.getElem_mem hj)

def Places (n : Nat) (lo hi : Int) (w : World) (e : Ending) (w' : World) : Prop :=
  ∃ (l : List Int) (a : Option Addr) (cap : Nat), l.length = n ∧ In lo hi l ∧ e = .returned (.slice a n cap) ∧ Owns fI w' w.heap.size 3 (.slice a n cap) l ∧ Below w.heap.size w w'

set_option maxRecDepth 100000 in
set_option maxHeartbeats 1000000 in
theorem places_c (w : World) (a : Option Addr) (len cap : Nat) (hcode : CodeAt w a len) (hs : len ≤ maxLen) :
    Calls Try.prog 12 #[.slice a len cap] w (Places 12 0 9999 w) := by
  have HK := Lib.hid hcode
  have HS := Lib.hid hs
  clear hcode hs
  go_enter Try.func12, Try.ntmps12
  go_wp2_with fail
  refine (new_c _ a len cap HK.out HS.out).mono ?_
  rintro e w1 ⟨rfl, h1⟩
  have H1 := Lib.hid h1
  have hz1 := h1.lt
  obtain ⟨b, hb⟩ : ∃ b, w.heap.size = b := ⟨_, rfl⟩
  have HB := Lib.hid hb
  clear h1
  rw [hb] at H1 hz1 ⊢
  clear hb
  go_wp2
  go_loopw [4, 5] (fun v i wr => ∃ (k : Nat) (l : List Int), k ≤ 12 ∧ i = .int .i64 k ∧ Hid (l.length = k ∧ In 0 9999 l ∧ CurIn 73 w wr b a len cap ∧ Owns fI wr (b + 1) 3 v l))
    (fun _ i _ => 12 - (intOf i).toNat)
  case atStart => exact ⟨0, [], by omega, rfl, rfl, In.nil _ _, H1.out.alloc _, Owns.made w1 _ _ (by omega)⟩
  case round =>
    obtain ⟨k, l, hk, rfl, hh⟩ := hrel
    by_cases hlt : k < 12
    · go_wp2_with fail
      refine (below_c w _ b a len cap 10000 hh.out.2.2.1 (by omega)).mono ?_
      rintro e w2 ⟨x, hx, rfl, h2⟩
      have hx2 : (x : Int) ≤ 9999 := by omega
      have H2 := Lib.hid (show CurIn 73 w w2 b a len cap ∧ Owns fI w2 (b + 1) 3 u4 l from
        ⟨h2.1, hh.out.2.2.2.kept h2.2 (.inr (fun e => by have := hh.out.2.2.2.low b e; omega))⟩)
      have hz2 : b + 1 ≤ w2.heap.size := h2.1.lt
      have HL := Lib.hid hh.out.1
      clear h2 hx
      go_wp2_with (at_builtin; refine wpList_append1 it (one_int _) _ rfl (.tmp 13) (.tmp 16) rfl (b + 1) _ l rfl (H2.out.2.alloc _) w2.heap.size 1 1 [(x : Int)] rfl rfl (heap_alloc_new w2 _) ?_ ?_ ?_; (rw [HL.out]; simp; omega); (simp; omega); intro v' w3 hown3 hg3)
      have R := Lib.hid (show (l ++ [(x : Int)]).length = k + 1 ∧ In 0 9999 (l ++ [(x : Int)]) ∧ CurIn 73 w w3 b a len cap ∧ Owns fI w3 (b + 1) 3 v' (l ++ [(x : Int)]) from
        ⟨by simp [HL.out], hh.out.2.1.snoc _ (by omega) hx2, (H2.out.1.alloc _).keep hg3 (fun e => by have := H2.out.2.low b e.symm; omega) (fun j hj => by have := H2.out.2.low j hj; rw [HB.out]; omega), hown3⟩)
      clear hown3 hg3 hh H2 HL
      go_wp2
      go_roundw
      case rel => exact ⟨k + 1, _, by omega, by go_num, R⟩
      case measure => simp [intOf]; omega
    · obtain rfl : k = 12 := by omega
      obtain ⟨a', cap', rfl, _⟩ := hh.out.2.2.2.form
      have HL := Lib.hid hh.out.1
      rw [HL.out] at hh ⊢
      go_wp2
      go_ret
      exact ⟨l, a', cap', HL.out, hh.out.2.1, rfl, hh.out.2.2.2.base (by rw [HB.out]; omega), hh.out.2.2.1.bel⟩
end Go.Proofs.Ythhjnffbafmkpaa.DrawRow

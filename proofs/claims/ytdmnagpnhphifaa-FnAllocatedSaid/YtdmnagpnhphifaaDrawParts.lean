/- The contract of the drawn total and weights. -/
import Derived.Test.YtdmnagpnhphifaaDrawRow
namespace Go.Proofs.Ytdmnagpnhphifaa.DrawParts
open Go.RowKit CurKit CurByte Cur Row1 IntRow BelowKit DrawRow

theorem made_one (w : World) (B T : Nat) (x : Int) (hb : B ≤ w.heap.size) : Owns fI (w.alloc (.cells #[.int .i64 x] T)) B T (.slice (some ⟨w.heap.size, 0, none⟩) 1 1) [x] :=
  ⟨by simp, .inr ⟨w.heap.size, 1, _, rfl, hb, heap_alloc_new w _, Nat.le_refl _, by unfold maxLen; omega, rfl, rfl⟩⟩
def Parts (w : World) (e : Ending) (w' : World) : Prop :=
  ∃ (t : Int) (l : List Int) (a : Option Addr) (n cap : Nat), (0 ≤ t ∧ t ≤ 99999) ∧ l.length = n ∧ (1 ≤ n ∧ n ≤ 7) ∧ In 0 50 l ∧ 0 < l.sum ∧ e = .returned (.tuple #[.int .i64 t, .slice a n cap]) ∧ Owns fI w' w.heap.size 3 (.slice a n cap) l ∧ Below w.heap.size w w'
theorem sum_up {l : List Int} (h : 0 < l.sum) (x : Int) (hx : 0 ≤ x) : 0 < (l ++ [x]).sum := by rw [List.sum_append]; simp; omega

set_option maxRecDepth 100000 in
set_option maxHeartbeats 1000000 in
theorem parts_c (w : World) (a : Option Addr) (len cap : Nat) (hcode : CodeAt w a len) (hs : len ≤ maxLen) :
    Calls Try.prog 14 #[.slice a len cap] w (Parts w) := by
  have HK := Lib.hid hcode
  have HS := Lib.hid hs
  clear hcode hs
  go_enter Try.func14, Try.ntmps14
  go_wp2_with fail
  refine (new_c _ a len cap HK.out HS.out).mono ?_
  rintro e w1 ⟨rfl, h1⟩
  have H1 := Lib.hid h1
  have hz1 := h1.lt
  obtain ⟨b, hb⟩ : ∃ b, w.heap.size = b := ⟨_, rfl⟩
  have HB := Lib.hid hb
  clear h1
  rw [hb] at H1 hz1 ⊢
  clear hb
  go_wp2_with fail
  refine (below_c w _ b a len cap 50 H1.out (by omega)).mono ?_
  rintro e w2 ⟨x, hx, rfl, h2⟩
  have hx2 : (x : Int) ≤ 49 := by omega
  have H2 := Lib.hid h2.1
  have hz2 : b + 1 ≤ w2.heap.size := h2.1.lt
  clear h2 hx H1 hz1
  obtain ⟨y, hy⟩ : ∃ y : Int, 1 + (x : Int) = y := ⟨_, rfl⟩
  have hy0 : 1 ≤ y := by omega
  have hy1 : y ≤ 50 := by omega
  have HY := Lib.hid hy
  go_wp2_with fail
  have HC0 := Lib.hid (H2.out.alloc (.cells #[.int .i64 y] 3))
  have HO0 := Lib.hid (made_one w2 (b + 1) 3 y hz2)
  have HI0 := Lib.hid (show [y].length = 0 + 1 ∧ In 0 50 [y] ∧ 0 < [y].sum from ⟨rfl, (In.nil 0 50).snoc y (by omega) hy1, by simp; omega⟩)
  clear hy
  go_loopw [5, 6] (fun v i wr => ∃ (k : Nat) (l : List Int), k ≤ 6 ∧ i = .int .i64 k ∧ Hid (l.length = k + 1 ∧ In 0 50 l ∧ 0 < l.sum) ∧ Hid (CurIn 58 w wr b a len cap) ∧ Hid (Owns fI wr (b + 1) 3 v l))
    (fun _ i _ => 7 - (intOf i).toNat)
  case atStart => exact ⟨0, [y], by omega, rfl, HI0, HC0, HO0⟩
  case round =>
    obtain ⟨k, l, hk, rfl, hi, hc, ho⟩ := hrel
    go_wp2_with fail
    refine (below_c w _ b a len cap 7 hc.out (by omega)).mono ?_
    rintro e w3 ⟨z, hz, rfl, h3⟩
    have hz6 : z ≤ 6 := by omega
    have HC3 := Lib.hid h3.1
    have HO3 := Lib.hid (ho.out.kept h3.2 (.inr (fun e => by have := ho.out.low b e; omega)))
    clear h3 hz hc ho
    by_cases hkz : k < z
    · have hkz' : (k : Int) < (z : Int) := by omega
      go_wp2_with fail
      refine (below_c w _ b a len cap 50 HC3.out (by omega)).mono ?_
      rintro e w4 ⟨q, hq, rfl, h4⟩
      have hq2 : (q : Int) ≤ 49 := by omega
      have HC4 := Lib.hid h4.1
      have HO4 := Lib.hid (HO3.out.kept h4.2 (.inr (fun e => by have := HO3.out.low b e; omega)))
      have hz4 : b + 1 ≤ w4.heap.size := h4.1.lt
      clear h4 hq HC3 HO3
      go_wp2_with (at_builtin; refine wpList_append1 it (one_int _) _ rfl (.tmp 19) (.tmp 22) rfl (b + 1) _ l rfl (HO4.out.alloc _) w4.heap.size 1 1 [(q : Int)] rfl rfl (heap_alloc_new w4 _) ?_ ?_ ?_; (rw [hi.out.1]; simp; omega); (simp; omega); intro v' w5 hown5 hg5)
      have HI5 := Lib.hid (show (l ++ [(q : Int)]).length = (k + 1) + 1 ∧ In 0 50 (l ++ [(q : Int)]) ∧ 0 < (l ++ [(q : Int)]).sum from
        ⟨by simp [hi.out.1], hi.out.2.1.snoc _ (by omega) (by omega), sum_up hi.out.2.2 _ (by omega)⟩)
      have HC5 := Lib.hid ((HC4.out.alloc (.cells #[.int .i64 (q : Int)] 3)).keep hg5 (fun e => by have := HO4.out.low b e.symm; omega) (fun j hj => by have := HO4.out.low j hj; rw [HB.out]; omega))
      have HO5 := Lib.hid hown5
      clear hown5 hg5 HC4 HO4 hi
      go_wp2
      go_roundw
      case rel => exact ⟨k + 1, _, by omega, by go_num, HI5, HC5, HO5⟩
      case measure => simp [intOf]; omega
    · have hkz' : ¬ (k : Int) < (z : Int) := by omega
      go_wp2_with fail
      refine (below_c w _ b a len cap 100000 HC3.out (by omega)).mono ?_
      rintro e w4 ⟨q, hq, rfl, h4⟩
      have hq2 : (q : Int) ≤ 99999 := by omega
      have HC4 := Lib.hid h4.1
      have HO4 := Lib.hid (HO3.out.kept h4.2 (.inr (fun e => by have := HO3.out.low b e; omega)))
      clear h4 hq HC3 HO3
      obtain ⟨a', cap', rfl, _⟩ := HO4.out.form
      have HL := Lib.hid hi.out.1
      rw [HL.out] at HO4 ⊢
      go_wp2
      go_ret2
      exact ⟨(q : Int), l, a', k + 1, cap', ⟨by omega, hq2⟩, HL.out, ⟨by omega, by omega⟩, hi.out.2.1, hi.out.2.2, rfl, HO4.out.base (by rw [HB.out]; omega), HC4.out.bel⟩
end Go.Proofs.Ytdmnagpnhphifaa.DrawParts

/- Contracts of both SpreadYear: the list of the months' parts, in new memory. -/
import Derived.Test.YtdmnagpnhphifaaRows
import Derived.Test.YtdmnagpnhphifaaRow1
import Derived.Test.YtdmnagpnhphifaaIntRow
import Derived.Test.YtdmnagpnhphifaaFracMath
import Derived.Test.YtdmnagpnhphifaaFracGcd
import Derived.Test.YtdmnagpnhphifaaBelowKit
import Derived.WalkKit
import Derived.Below
import Derived.WalkSmall
import Derived.Lib.Hide
import Derived.BigQuiet
import Derived.Deep.RegionHeld3
namespace Go.Proofs.Ytdmnagpnhphifaa.Spread
open Go.RowKit Row1 IntRow FracMath

/-- The part of month i + 1. -/
def part (t m : Int) (i : Nat) : Int := ((i : Int) + 1) * t / m - (i : Int) * t / m
def spr (t m : Int) (n : Nat) : List Int := (List.range n).map (part t m)
theorem spr_len (t m : Int) (n : Nat) : (spr t m n).length = n := by simp [spr]
theorem spr_succ (t m : Int) (n : Nat) : spr t m (n + 1) = spr t m n ++ [part t m n] := by simp [spr, List.range_succ]
def okS (t m : Int) : Bool := decide ((0 ≤ t ∧ t ≤ 1000000000) ∧ (1 ≤ m ∧ m ≤ 12))
def spreadR (t m : Int) : List Int := if okS t m = true then spr t m m.toNat else []
theorem spread_len (t m : Int) : (spreadR t m).length ≤ 12 := by
  unfold spreadR; split
  · rename_i h
    rw [spr_len]
    simp only [okS, decide_eq_true_eq] at h
    omega
  · simp
def IsList (l : List Int) (w : World) (e : Ending) (w' : World) : Prop := ∃ a cap, e = .returned (.slice a l.length cap) ∧ Owns fI w' w.heap.size 3 (.slice a l.length cap) l ∧ Below w.heap.size w w'
theorem IsList.nil (w w' : World) (h : Below w.heap.size w w') : IsList [] w (.returned (.slice none 0 0)) w' := ⟨none, 0, rfl, Owns.nil _ _ _, h⟩
theorem set_next {α : Type} (l : List α) (j N : Nat) (z x : α) (hl : l.length = j) (h : j < N) : (l ++ List.replicate (N - j) z).set j x = (l ++ [x]) ++ List.replicate (N - (j + 1)) z := by
  rw [List.set_append_right _ _ (by omega), hl, Nat.sub_self, show N - j = (N - (j + 1)) + 1 by omega, List.replicate_succ, List.set_cons_zero, List.append_assoc]
  rfl
/-- The bounds of a month's quotients. -/
theorem part_bd {t m : Int} (j : Nat) (h0 : 0 ≤ t) (h1 : t ≤ 1000000000) (h2 : 1 ≤ m) (h3 : j ≤ 12) :
    0 ≤ ((j : Int) + 1) * t ∧ ((j : Int) + 1) * t ≤ 13000000000 ∧ 0 ≤ (j : Int) * t ∧ (j : Int) * t ≤ 13000000000 ∧ 0 ≤ ((j : Int) + 1) * t / m ∧ ((j : Int) + 1) * t / m ≤ 13000000000 ∧ 0 ≤ (j : Int) * t / m ∧ (j : Int) * t / m ≤ 13000000000 := by
  have a0 : 0 ≤ (j : Int) * t := Int.mul_nonneg (by omega) h0
  have a1 : (j : Int) * t ≤ 12 * 1000000000 := Int.mul_le_mul (by omega) h1 h0 (by omega)
  have e : ((j : Int) + 1) * t = (j : Int) * t + t := by rw [Int.add_mul, Int.one_mul]
  have b1 := div_bd2 (n := ((j : Int) + 1) * t) (d := m) (by omega) (by omega)
  have b2 := div_bd2 (n := (j : Int) * t) (d := m) (by omega) (by omega)
  omega
where
  div_bd2 {n d : Int} (hd : 0 < d) (h : 0 ≤ n) : 0 ≤ n / d ∧ n / d ≤ n := ⟨Int.ediv_nonneg h (by omega), Int.ediv_le_self _ h⟩

set_option maxHeartbeats 1000000 in
theorem spread_i (t m : Int) (w : World) :
    Calls Try.prog 17 #[.int .i64 t, .int .i64 m] w (IsList (spreadR t m) w) := by
  by_cases h1 : t < 0
  · rw [show spreadR t m = [] by unfold spreadR okS; rw [decide_eq_false (by omega)]; rfl]
    go_enter Try.func17, Try.ntmps17
    go_wp2
    go_ret
    exact IsList.nil _ _ (Below.refl _ _)
  have d1 : decide (t < 0) = false := by simpa using h1
  by_cases h2 : 1000000000 < t
  · rw [show spreadR t m = [] by unfold spreadR okS; rw [decide_eq_false (by omega)]; rfl]
    go_enter Try.func17, Try.ntmps17
    go_wp2
    go_ret
    exact IsList.nil _ _ (Below.refl _ _)
  by_cases h3 : m < 1
  · rw [show spreadR t m = [] by unfold spreadR okS; rw [decide_eq_false (by omega)]; rfl]
    go_enter Try.func17, Try.ntmps17
    go_wp2
    go_ret
    exact IsList.nil _ _ (Below.refl _ _)
  by_cases h4 : 12 < m
  · rw [show spreadR t m = [] by unfold spreadR okS; rw [decide_eq_false (by omega)]; rfl]
    go_enter Try.func17, Try.ntmps17
    go_wp2
    go_ret
    exact IsList.nil _ _ (Below.refl _ _)
  obtain ⟨N, rfl⟩ : ∃ N : Nat, m = N := ⟨m.toNat, by omega⟩
  have HE := Lib.hid (show spreadR t N = spr t N N by unfold spreadR okS; rw [decide_eq_true (by omega)]; simp)
  rw [HE.out]
  have hN0 : ¬ (N : Int) = 0 := by omega
  have hNb : ((N : Int) == 0) = false := by rw [beq_eq_false_iff_ne]; omega
  go_enter Try.func17, Try.ntmps17
  go_wp2_with (at_make; refine wpList_make1 it _ rfl _ _ rfl w.heap.size .i64 .i64 _ _ N rfl rfl rfl rfl (by omega) (Nat.le_refl _) ?_; intro w1 hown1 hg1)
  have HO1 := Lib.hid hown1
  have HB1 := Lib.hid (show Below w.heap.size w w1 from (Below.refl _ _).grown hg1 (Nat.le_refl _) (by simp))
  clear hown1 hg1
  go_loopw [6, 27] (fun b i wr => ∃ j : Nat, j ≤ N ∧ i = .int .i64 j ∧ b = .int .i64 ((j : Int) * t / (N : Int)) ∧ Hid (Owns fI wr w.heap.size 3 (.slice (some ⟨w.heap.size, 0, none⟩) N N) (spr t N j ++ List.replicate (N - j) 0)) ∧ Below w.heap.size w wr) (fun _ i _ => N - (intOf i).toNat)
  case atStart => exact ⟨0, Nat.zero_le _, rfl, by simp, by simpa [spr] using HO1, HB1.out⟩
  case round =>
    obtain ⟨j, hj, rfl, rfl, hown, hbel⟩ := hrel
    by_cases hlt : j < N
    · obtain ⟨p1, p2, p3, p4, p5, p6, p7, p8⟩ := part_bd (t := t) (m := N) j (by omega) (by omega) (by omega) (by omega)
      have HL : (spr t N j ++ List.replicate (N - j) 0).length = N := by simp [spr_len]; omega
      have q2 := (hown.out.cell j (by rw [HL]; exact hlt)).2
      have q3 := (hown.out.cell j (by rw [HL]; exact hlt)).1
      obtain ⟨b0, hb0⟩ : ∃ b0, (spr t N j ++ List.replicate (N - j) 0)[j]'(by rw [HL]; exact hlt) = b0 := ⟨_, rfl⟩
      rw [hb0] at q3
      have b1 : (0 : Int) ≤ (j : Int) := by omega
      have b2 : (j : Int) < (N : Int) := by omega
      have HB := Lib.hid hbel
      clear hb0 HL hbel
      go_wp2
      go_roundw
      case rel =>
        refine ⟨j + 1, by omega, by go_num, by go_num, ?_, HB.out.setCell (p := ⟨w.heap.size, j, none⟩) (Nat.le_refl _) _⟩
        have R := hown.out.stored (by simp [spr_len]; omega) j (part t N j)
        rw [set_next _ _ _ _ _ (spr_len _ _ _) hlt, ← spr_succ] at R
        exact R
      case measure => simp [intOf]; omega
    · obtain rfl : j = N := by omega
      go_wp2
      go_ret
      have R := hown.out
      rw [Nat.sub_self, List.replicate_zero, List.append_nil] at R
      refine ⟨some ⟨w.heap.size, 0, none⟩, j, ?_, ?_, hbel⟩
      · rw [spr_len]; rfl
      · rw [spr_len]; exact R
set_option maxHeartbeats 1000000 in
theorem spread_s (t m : Int) (w : World) :
    Calls Try.prog 26 #[.int .i64 t, .int .i64 m] w (IsList (spreadR t m) w) := by
  by_cases h3 : m < 1
  · rw [show spreadR t m = [] by unfold spreadR okS; rw [decide_eq_false (by omega)]; rfl]
    have d3 : decide (1 ≤ m) = false := by simpa using h3
    go_enter Try.func26, Try.ntmps26
    go_wp2
    refine wp_loop_rounds 1 ?_
    rw [rounds_succ]
    go_wp2
    go_ret
    exact ⟨some ⟨w.heap.size, 0, none⟩, 0, rfl, Owns.made w _ _ (Nat.le_refl _), by (repeat (first | exact Below.refl _ _ | apply BelowKit.bl_alloc | apply BelowKit.bl_drewN | apply BelowKit.bl_drew | (refine BelowKit.bl_set ?_ _ ?_; rotate_left; (first | omega | (simp; omega) | simp)) | (refine BelowKit.bl_trans ?_ (‹Hid (Below _ _ _)›).out)))⟩
  by_cases h4 : 12 < m
  · rw [show spreadR t m = [] by unfold spreadR okS; rw [decide_eq_false (by omega)]; rfl]
    have d4 : decide (m ≤ 12) = false := by simpa using h4
    go_enter Try.func26, Try.ntmps26
    go_wp2
    refine wp_loop_rounds 1 ?_
    rw [rounds_succ]
    go_wp2
    go_ret
    exact ⟨some ⟨w.heap.size, 0, none⟩, 0, rfl, Owns.made w _ _ (Nat.le_refl _), by (repeat (first | exact Below.refl _ _ | apply BelowKit.bl_alloc | apply BelowKit.bl_drewN | apply BelowKit.bl_drew | (refine BelowKit.bl_set ?_ _ ?_; rotate_left; (first | omega | (simp; omega) | simp)) | (refine BelowKit.bl_trans ?_ (‹Hid (Below _ _ _)›).out)))⟩
  by_cases h1 : ¬ (0 ≤ t ∧ t ≤ 1000000000)
  · rw [show spreadR t m = [] by unfold spreadR okS; rw [decide_eq_false (by omega)]; rfl]
    have ET := Lib.hid (show inB t 0 1000000000 = false by simp only [inB, decide_eq_false_iff_not]; exact h1)
    clear h1
    go_enter Try.func26, Try.ntmps26
    go_wp2
    refine wp_loop_rounds 1 ?_
    rw [rounds_succ]
    go_wp2_with fail
    refine (FracGcd.in_s' t 0 1000000000 _ _ ET.out).mono ?_
    rintro e w' ⟨rfl, rfl⟩
    go_wp2
    go_ret
    exact ⟨some ⟨w.heap.size, 0, none⟩, 0, rfl, Owns.made w _ _ (Nat.le_refl _), by (repeat (first | exact Below.refl _ _ | apply BelowKit.bl_alloc | apply BelowKit.bl_drewN | apply BelowKit.bl_drew | (refine BelowKit.bl_set ?_ _ ?_; rotate_left; (first | omega | (simp; omega) | simp)) | (refine BelowKit.bl_trans ?_ (‹Hid (Below _ _ _)›).out)))⟩
  have hT : 0 ≤ t ∧ t ≤ 1000000000 := by omega
  clear h1
  have HE := Lib.hid (show spreadR t m = spr t m m.toNat by unfold spreadR okS; rw [decide_eq_true (by omega)]; simp)
  rw [HE.out]
  have ET := Lib.hid (inB_yes hT.1 hT.2)
  have hN0 : ¬ m = 0 := by omega
  have hNb : (m == 0) = false := by rw [beq_eq_false_iff_ne]; omega
  go_enter Try.func26, Try.ntmps26
  go_wp2
  go_loopw [5, 6] (fun v i wr => ∃ j : Nat, (j : Int) ≤ m ∧ i = .int .i64 ((j : Int) + 1) ∧ Hid (Owns fI wr w.heap.size 3 v (spr t m j)) ∧ Below w.heap.size w wr) (fun _ i _ => m.toNat + 1 - (intOf i).toNat)
  case atStart => exact ⟨0, by omega, rfl, Owns.made w _ _ (Nat.le_refl _), by (repeat (first | exact Below.refl _ _ | apply BelowKit.bl_alloc | apply BelowKit.bl_drewN | apply BelowKit.bl_drew | (refine BelowKit.bl_set ?_ _ ?_; rotate_left; (first | omega | (simp; omega) | simp)) | (refine BelowKit.bl_trans ?_ (‹Hid (Below _ _ _)›).out)))⟩
  case round =>
    obtain ⟨j, hj, rfl, hown, hbel⟩ := hrel
    by_cases hlt : (j : Int) < m
    · obtain ⟨p1, p2, p3, p4, p5, p6, p7, p8⟩ := part_bd (t := t) (m := m) j (by omega) (by omega) (by omega) (by omega)
      have hj1 : (j : Int) + 1 ≤ m := by omega
      have hN12 : m ≤ 12 := by omega
      have HX := Lib.hid (spr_len t m j)
      have W1 : IntKind.i64.wrap (((j : Int) + 1) * t) = ((j : Int) + 1) * t := IntWalk.i64_in _ (by omega)
      have W2 : IntKind.i64.wrap (j : Int) = (j : Int) := IntWalk.i64_in _ (by omega)
      have W3 : IntKind.i64.wrap ((j : Int) * t) = (j : Int) * t := IntWalk.i64_in _ (by omega)
      have W4 : IntKind.i64.wrap (((j : Int) + 1) * t / m - (j : Int) * t / m) = ((j : Int) + 1) * t / m - (j : Int) * t / m := IntWalk.i64_in _ (by omega)
      have E1 : (((j : Int) + 1) * t).tdiv m = ((j : Int) + 1) * t / m := Int.tdiv_eq_ediv_of_nonneg (by omega)
      have E2 : ((j : Int) * t).tdiv m = (j : Int) * t / m := Int.tdiv_eq_ediv_of_nonneg (by omega)
      have W5 : IntKind.i64.wrap (((j : Int) + 1) * t / m) = ((j : Int) + 1) * t / m := IntWalk.i64_in _ (by omega)
      have W6 : IntKind.i64.wrap ((j : Int) * t / m) = (j : Int) * t / m := IntWalk.i64_in _ (by omega)
      go_wp2_with fail
      refine (FracGcd.in_s' t 0 1000000000 _ _ ET.out).mono ?_
      rintro e w' ⟨rfl, rfl⟩
      go_wp2_with fail
      go_region_held3 (fun _ => True) (trivial)
        ((refine step_append1 it (one_int _) _ (o := ⟨some 35, _, _, _, _, _⟩) rfl (.tmp 21) (.tmp 34) rfl w.heap.size _ _ ?_ (hown.out.alloc _).drew wr.heap.size 1 1 [((j : Int) + 1) * t / m - (j : Int) * t / m] rfl ?_ (heap_alloc_new wr _) ?_ ?_ ?_; rfl; rfl; (rw [HX.out]; simp; omega); (have := hbel.size; simp; omega); intro v' w1 hown1 hg1))
      all_goals
        have R := Lib.hid (show Owns fI w1 w.heap.size 3 v' (spr t m (j + 1)) by rw [spr_succ]; exact hown1)
        have R2 := Lib.hid (show Below w.heap.size w w1 from ((hbel.alloc hbel.size _).drew).trans (((hown.out.alloc _).drew).grown hg1 (Nat.le_refl _) (by have := hbel.size; simp; omega)))
        clear hown1 hown hbel hg1 E1 E2 W1 W2 W3 W4 W5 W6
        go_wp2
        go_roundw
        case rel => exact ⟨j + 1, by omega, by go_num, R, R2.out⟩
        case measure => simp [intOf]; omega
    · have hj1 : decide ((j : Int) + 1 ≤ m) = false := decide_eq_false (by omega)
      have HJ := Lib.hid (show j = m.toNat by omega)
      obtain ⟨a, cap, rfl, _⟩ := hown.out.form
      go_wp2
      go_ret
      rw [HJ.out] at hown
      rw [HJ.out]
      exact ⟨a, cap, rfl, hown.out, hbel⟩
end Go.Proofs.Ytdmnagpnhphifaa.Spread

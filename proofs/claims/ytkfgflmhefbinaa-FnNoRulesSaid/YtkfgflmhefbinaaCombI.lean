/- Contract of the program's combine: an operation on two values. Written by gen_vali.py. -/
import Derived.Test.YtkfgflmhefbinaaRows
import Derived.Test.YtkfgflmhefbinaaNodeMath
import Derived.Test.YtkfgflmhefbinaaFracI
import Derived.Test.YtkfgflmhefbinaaFracISub
import Derived.Test.YtkfgflmhefbinaaFracIDiv
import Derived.Test.YtkfgflmhefbinaaFracICmp
namespace Go.Proofs.Ytkfgflmhefbinaa.CombI
open Go.RowKit RowN TNode NodeMath FracMath FracMake
def combR (k a b c d : Int) : Int × Int × Bool :=
  if k = 3 then sumR a b c d else if k = 4 then subR a b c d else if k = 5 then mulR a b c d else if k = 6 then divR a b c d
  else if k = 7 then (if cmpI c d a b < 0 then (c, d, true) else (a, b, true)) else (if 0 < cmpI c d a b then (c, d, true) else (a, b, true))
set_option maxHeartbeats 4000000 in
theorem comb3 (a b c d : Int) (w : World) : Calls Try.prog 131 #[.int .i64 3, .agg #[.int .i64 a, .int .i64 b], .agg #[.int .i64 c, .int .i64 d]] w (IsFrac (sumR a b c d) w) := by
  obtain ⟨⟨r1, r2, r3⟩, hr⟩ : ∃ r, sumR a b c d = r := ⟨_, rfl⟩
  rw [hr]
  have HRR := Lib.hid hr
  clear hr
  go_enter Try.func131, Try.ntmps131
  go_wp2_with fail
  refine (FracI.add_i a b c d _).mono ?_
  rintro e w1 ⟨rfl, hb⟩
  rw [HRR.out]
  have x0 : w1.cell? ⟨w.heap.size, 0, none⟩ = some (.int .i64 a) := ((BelowKit.bcell hb).1 _ _ (by first | omega | (simp; done) | (simp; omega))).trans (by simp [go_sem])
  have x1 : w1.cell? ⟨w.heap.size, 1, none⟩ = some (.int .i64 b) := ((BelowKit.bcell hb).1 _ _ (by first | omega | (simp; done) | (simp; omega))).trans (by simp [go_sem])
  have y0 : w1.cell? ⟨w.heap.size + 1, 0, none⟩ = some (.int .i64 c) := ((BelowKit.bcell hb).1 _ _ (by first | omega | (simp; done) | (simp; omega))).trans (by simp [go_sem])
  have y1 : w1.cell? ⟨w.heap.size + 1, 1, none⟩ = some (.int .i64 d) := ((BelowKit.bcell hb).1 _ _ (by first | omega | (simp; done) | (simp; omega))).trans (by simp [go_sem])
  have s0 : w1.cell? ⟨w.heap.size + 1 + 1, 0, none⟩ = some (.int .i64 0) := ((BelowKit.bcell hb).1 _ _ (by first | omega | (simp; done) | (simp; omega))).trans (by simp [go_sem])
  have s1 : w1.cell? ⟨w.heap.size + 1 + 1, 1, none⟩ = some (.int .i64 0) := ((BelowKit.bcell hb).1 _ _ (by first | omega | (simp; done) | (simp; omega))).trans (by simp [go_sem])
  have f0 : w1.frozen? ⟨w.heap.size + 1 + 1, 0, none⟩ = false := ((BelowKit.bcell hb).2 _ _ (by first | omega | (simp; done) | (simp; omega))).trans (by simp [go_sem])
  have f1 : w1.frozen? ⟨w.heap.size + 1 + 1, 1, none⟩ = false := ((BelowKit.bcell hb).2 _ _ (by first | omega | (simp; done) | (simp; omega))).trans (by simp [go_sem])
  have zz : w.heap.size + 1 + 1 < w1.heap.size := by have := hb.size; simp at this; omega
  have zz1 : w.heap.size + 1 < w1.heap.size := by omega
  have zz0 : w.heap.size < w1.heap.size := by omega
  have HB := Lib.hid (show Below w.heap.size w w1 from BelowKit.bl_trans (by (repeat (first | exact Below.refl _ _ | apply BelowKit.bl_alloc | apply BelowKit.bl_drewN | apply BelowKit.bl_drew | (refine BelowKit.bl_set ?_ _ ?_; rotate_left; (first | omega | (simp; omega) | simp)) | (refine BelowKit.bl_trans ?_ (‹Hid (Below _ _ _)›).out)))) hb)
  clear hb
  go_wp2
  refine bodyPost_ret (v := .tuple #[.agg #[.int .i64 r1, .int .i64 r2], .bool r3]) (by simp [results, Try.results131, go_sem, s0, s1]) rfl ?_
  exact ⟨rfl, BelowKit.bl_set (BelowKit.bl_set HB.out (a := ⟨w.heap.size + 1 + 1, 0, none⟩) _ (by simp; try omega)) (a := ⟨w.heap.size + 1 + 1, 1, none⟩) _ (by simp; try omega)⟩
set_option maxHeartbeats 4000000 in
theorem comb4 (a b c d : Int) (w : World) : Calls Try.prog 131 #[.int .i64 4, .agg #[.int .i64 a, .int .i64 b], .agg #[.int .i64 c, .int .i64 d]] w (IsFrac (subR a b c d) w) := by
  obtain ⟨⟨r1, r2, r3⟩, hr⟩ : ∃ r, subR a b c d = r := ⟨_, rfl⟩
  rw [hr]
  have HRR := Lib.hid hr
  clear hr
  go_enter Try.func131, Try.ntmps131
  go_wp2_with fail
  refine (FracISub.sub_i a b c d _).mono ?_
  rintro e w1 ⟨rfl, hb⟩
  rw [HRR.out]
  have x0 : w1.cell? ⟨w.heap.size, 0, none⟩ = some (.int .i64 a) := ((BelowKit.bcell hb).1 _ _ (by first | omega | (simp; done) | (simp; omega))).trans (by simp [go_sem])
  have x1 : w1.cell? ⟨w.heap.size, 1, none⟩ = some (.int .i64 b) := ((BelowKit.bcell hb).1 _ _ (by first | omega | (simp; done) | (simp; omega))).trans (by simp [go_sem])
  have y0 : w1.cell? ⟨w.heap.size + 1, 0, none⟩ = some (.int .i64 c) := ((BelowKit.bcell hb).1 _ _ (by first | omega | (simp; done) | (simp; omega))).trans (by simp [go_sem])
  have y1 : w1.cell? ⟨w.heap.size + 1, 1, none⟩ = some (.int .i64 d) := ((BelowKit.bcell hb).1 _ _ (by first | omega | (simp; done) | (simp; omega))).trans (by simp [go_sem])
  have s0 : w1.cell? ⟨w.heap.size + 1 + 1, 0, none⟩ = some (.int .i64 0) := ((BelowKit.bcell hb).1 _ _ (by first | omega | (simp; done) | (simp; omega))).trans (by simp [go_sem])
  have s1 : w1.cell? ⟨w.heap.size + 1 + 1, 1, none⟩ = some (.int .i64 0) := ((BelowKit.bcell hb).1 _ _ (by first | omega | (simp; done) | (simp; omega))).trans (by simp [go_sem])
  have f0 : w1.frozen? ⟨w.heap.size + 1 + 1, 0, none⟩ = false := ((BelowKit.bcell hb).2 _ _ (by first | omega | (simp; done) | (simp; omega))).trans (by simp [go_sem])
  have f1 : w1.frozen? ⟨w.heap.size + 1 + 1, 1, none⟩ = false := ((BelowKit.bcell hb).2 _ _ (by first | omega | (simp; done) | (simp; omega))).trans (by simp [go_sem])
  have zz : w.heap.size + 1 + 1 < w1.heap.size := by have := hb.size; simp at this; omega
  have zz1 : w.heap.size + 1 < w1.heap.size := by omega
  have zz0 : w.heap.size < w1.heap.size := by omega
  have HB := Lib.hid (show Below w.heap.size w w1 from BelowKit.bl_trans (by (repeat (first | exact Below.refl _ _ | apply BelowKit.bl_alloc | apply BelowKit.bl_drewN | apply BelowKit.bl_drew | (refine BelowKit.bl_set ?_ _ ?_; rotate_left; (first | omega | (simp; omega) | simp)) | (refine BelowKit.bl_trans ?_ (‹Hid (Below _ _ _)›).out)))) hb)
  clear hb
  go_wp2
  refine bodyPost_ret (v := .tuple #[.agg #[.int .i64 r1, .int .i64 r2], .bool r3]) (by simp [results, Try.results131, go_sem, s0, s1]) rfl ?_
  exact ⟨rfl, BelowKit.bl_set (BelowKit.bl_set HB.out (a := ⟨w.heap.size + 1 + 1, 0, none⟩) _ (by simp; try omega)) (a := ⟨w.heap.size + 1 + 1, 1, none⟩) _ (by simp; try omega)⟩
set_option maxHeartbeats 4000000 in
theorem comb5 (a b c d : Int) (w : World) : Calls Try.prog 131 #[.int .i64 5, .agg #[.int .i64 a, .int .i64 b], .agg #[.int .i64 c, .int .i64 d]] w (IsFrac (mulR a b c d) w) := by
  obtain ⟨⟨r1, r2, r3⟩, hr⟩ : ∃ r, mulR a b c d = r := ⟨_, rfl⟩
  rw [hr]
  have HRR := Lib.hid hr
  clear hr
  go_enter Try.func131, Try.ntmps131
  go_wp2_with fail
  refine (FracI.mul_i a b c d _).mono ?_
  rintro e w1 ⟨rfl, hb⟩
  rw [HRR.out]
  have x0 : w1.cell? ⟨w.heap.size, 0, none⟩ = some (.int .i64 a) := ((BelowKit.bcell hb).1 _ _ (by first | omega | (simp; done) | (simp; omega))).trans (by simp [go_sem])
  have x1 : w1.cell? ⟨w.heap.size, 1, none⟩ = some (.int .i64 b) := ((BelowKit.bcell hb).1 _ _ (by first | omega | (simp; done) | (simp; omega))).trans (by simp [go_sem])
  have y0 : w1.cell? ⟨w.heap.size + 1, 0, none⟩ = some (.int .i64 c) := ((BelowKit.bcell hb).1 _ _ (by first | omega | (simp; done) | (simp; omega))).trans (by simp [go_sem])
  have y1 : w1.cell? ⟨w.heap.size + 1, 1, none⟩ = some (.int .i64 d) := ((BelowKit.bcell hb).1 _ _ (by first | omega | (simp; done) | (simp; omega))).trans (by simp [go_sem])
  have s0 : w1.cell? ⟨w.heap.size + 1 + 1, 0, none⟩ = some (.int .i64 0) := ((BelowKit.bcell hb).1 _ _ (by first | omega | (simp; done) | (simp; omega))).trans (by simp [go_sem])
  have s1 : w1.cell? ⟨w.heap.size + 1 + 1, 1, none⟩ = some (.int .i64 0) := ((BelowKit.bcell hb).1 _ _ (by first | omega | (simp; done) | (simp; omega))).trans (by simp [go_sem])
  have f0 : w1.frozen? ⟨w.heap.size + 1 + 1, 0, none⟩ = false := ((BelowKit.bcell hb).2 _ _ (by first | omega | (simp; done) | (simp; omega))).trans (by simp [go_sem])
  have f1 : w1.frozen? ⟨w.heap.size + 1 + 1, 1, none⟩ = false := ((BelowKit.bcell hb).2 _ _ (by first | omega | (simp; done) | (simp; omega))).trans (by simp [go_sem])
  have zz : w.heap.size + 1 + 1 < w1.heap.size := by have := hb.size; simp at this; omega
  have zz1 : w.heap.size + 1 < w1.heap.size := by omega
  have zz0 : w.heap.size < w1.heap.size := by omega
  have HB := Lib.hid (show Below w.heap.size w w1 from BelowKit.bl_trans (by (repeat (first | exact Below.refl _ _ | apply BelowKit.bl_alloc | apply BelowKit.bl_drewN | apply BelowKit.bl_drew | (refine BelowKit.bl_set ?_ _ ?_; rotate_left; (first | omega | (simp; omega) | simp)) | (refine BelowKit.bl_trans ?_ (‹Hid (Below _ _ _)›).out)))) hb)
  clear hb
  go_wp2
  refine bodyPost_ret (v := .tuple #[.agg #[.int .i64 r1, .int .i64 r2], .bool r3]) (by simp [results, Try.results131, go_sem, s0, s1]) rfl ?_
  exact ⟨rfl, BelowKit.bl_set (BelowKit.bl_set HB.out (a := ⟨w.heap.size + 1 + 1, 0, none⟩) _ (by simp; try omega)) (a := ⟨w.heap.size + 1 + 1, 1, none⟩) _ (by simp; try omega)⟩
set_option maxHeartbeats 4000000 in
theorem comb6 (a b c d : Int) (w : World) : Calls Try.prog 131 #[.int .i64 6, .agg #[.int .i64 a, .int .i64 b], .agg #[.int .i64 c, .int .i64 d]] w (IsFrac (divR a b c d) w) := by
  obtain ⟨⟨r1, r2, r3⟩, hr⟩ : ∃ r, divR a b c d = r := ⟨_, rfl⟩
  rw [hr]
  have HRR := Lib.hid hr
  clear hr
  go_enter Try.func131, Try.ntmps131
  go_wp2_with fail
  refine (FracIDiv.div_i a b c d _).mono ?_
  rintro e w1 ⟨rfl, hb⟩
  rw [HRR.out]
  have x0 : w1.cell? ⟨w.heap.size, 0, none⟩ = some (.int .i64 a) := ((BelowKit.bcell hb).1 _ _ (by first | omega | (simp; done) | (simp; omega))).trans (by simp [go_sem])
  have x1 : w1.cell? ⟨w.heap.size, 1, none⟩ = some (.int .i64 b) := ((BelowKit.bcell hb).1 _ _ (by first | omega | (simp; done) | (simp; omega))).trans (by simp [go_sem])
  have y0 : w1.cell? ⟨w.heap.size + 1, 0, none⟩ = some (.int .i64 c) := ((BelowKit.bcell hb).1 _ _ (by first | omega | (simp; done) | (simp; omega))).trans (by simp [go_sem])
  have y1 : w1.cell? ⟨w.heap.size + 1, 1, none⟩ = some (.int .i64 d) := ((BelowKit.bcell hb).1 _ _ (by first | omega | (simp; done) | (simp; omega))).trans (by simp [go_sem])
  have s0 : w1.cell? ⟨w.heap.size + 1 + 1, 0, none⟩ = some (.int .i64 0) := ((BelowKit.bcell hb).1 _ _ (by first | omega | (simp; done) | (simp; omega))).trans (by simp [go_sem])
  have s1 : w1.cell? ⟨w.heap.size + 1 + 1, 1, none⟩ = some (.int .i64 0) := ((BelowKit.bcell hb).1 _ _ (by first | omega | (simp; done) | (simp; omega))).trans (by simp [go_sem])
  have f0 : w1.frozen? ⟨w.heap.size + 1 + 1, 0, none⟩ = false := ((BelowKit.bcell hb).2 _ _ (by first | omega | (simp; done) | (simp; omega))).trans (by simp [go_sem])
  have f1 : w1.frozen? ⟨w.heap.size + 1 + 1, 1, none⟩ = false := ((BelowKit.bcell hb).2 _ _ (by first | omega | (simp; done) | (simp; omega))).trans (by simp [go_sem])
  have zz : w.heap.size + 1 + 1 < w1.heap.size := by have := hb.size; simp at this; omega
  have zz1 : w.heap.size + 1 < w1.heap.size := by omega
  have zz0 : w.heap.size < w1.heap.size := by omega
  have HB := Lib.hid (show Below w.heap.size w w1 from BelowKit.bl_trans (by (repeat (first | exact Below.refl _ _ | apply BelowKit.bl_alloc | apply BelowKit.bl_drewN | apply BelowKit.bl_drew | (refine BelowKit.bl_set ?_ _ ?_; rotate_left; (first | omega | (simp; omega) | simp)) | (refine BelowKit.bl_trans ?_ (‹Hid (Below _ _ _)›).out)))) hb)
  clear hb
  go_wp2
  refine bodyPost_ret (v := .tuple #[.agg #[.int .i64 r1, .int .i64 r2], .bool r3]) (by simp [results, Try.results131, go_sem, s0, s1]) rfl ?_
  exact ⟨rfl, BelowKit.bl_set (BelowKit.bl_set HB.out (a := ⟨w.heap.size + 1 + 1, 0, none⟩) _ (by simp; try omega)) (a := ⟨w.heap.size + 1 + 1, 1, none⟩) _ (by simp; try omega)⟩
set_option maxHeartbeats 4000000 in
theorem comb7 (a b c d : Int) (w : World) : Calls Try.prog 131 #[.int .i64 7, .agg #[.int .i64 a, .int .i64 b], .agg #[.int .i64 c, .int .i64 d]] w (IsFrac (combR 7 a b c d) w) := by
  obtain ⟨r, hr⟩ : ∃ r, cmpI c d a b = r := ⟨_, rfl⟩
  obtain ⟨R, hR⟩ : ∃ R, combR 7 a b c d = R := ⟨_, rfl⟩
  have EY : Hid (r < 0 → R = (c, d, true)) := Lib.hid (fun e => by rw [← hR]; unfold combR; simp [hr, e])
  have EN : Hid (¬ (r < 0) → R = (a, b, true)) := Lib.hid (fun e => by rw [← hR]; unfold combR; simp [hr, e])
  rw [hR]
  have HRR := Lib.hid hr
  clear hr hR
  go_enter Try.func131, Try.ntmps131
  go_wp2_with fail
  refine (FracICmp.cmp_i c d a b _).mono ?_
  rintro e w1 ⟨rfl, hb⟩
  rw [HRR.out]
  have x0 : w1.cell? ⟨w.heap.size, 0, none⟩ = some (.int .i64 a) := ((BelowKit.bcell hb).1 _ _ (by first | omega | (simp; done) | (simp; omega))).trans (by simp [go_sem])
  have x1 : w1.cell? ⟨w.heap.size, 1, none⟩ = some (.int .i64 b) := ((BelowKit.bcell hb).1 _ _ (by first | omega | (simp; done) | (simp; omega))).trans (by simp [go_sem])
  have y0 : w1.cell? ⟨w.heap.size + 1, 0, none⟩ = some (.int .i64 c) := ((BelowKit.bcell hb).1 _ _ (by first | omega | (simp; done) | (simp; omega))).trans (by simp [go_sem])
  have y1 : w1.cell? ⟨w.heap.size + 1, 1, none⟩ = some (.int .i64 d) := ((BelowKit.bcell hb).1 _ _ (by first | omega | (simp; done) | (simp; omega))).trans (by simp [go_sem])
  have s0 : w1.cell? ⟨w.heap.size + 1 + 1, 0, none⟩ = some (.int .i64 0) := ((BelowKit.bcell hb).1 _ _ (by first | omega | (simp; done) | (simp; omega))).trans (by simp [go_sem])
  have s1 : w1.cell? ⟨w.heap.size + 1 + 1, 1, none⟩ = some (.int .i64 0) := ((BelowKit.bcell hb).1 _ _ (by first | omega | (simp; done) | (simp; omega))).trans (by simp [go_sem])
  have f0 : w1.frozen? ⟨w.heap.size + 1 + 1, 0, none⟩ = false := ((BelowKit.bcell hb).2 _ _ (by first | omega | (simp; done) | (simp; omega))).trans (by simp [go_sem])
  have f1 : w1.frozen? ⟨w.heap.size + 1 + 1, 1, none⟩ = false := ((BelowKit.bcell hb).2 _ _ (by first | omega | (simp; done) | (simp; omega))).trans (by simp [go_sem])
  have zz : w.heap.size + 1 + 1 < w1.heap.size := by have := hb.size; simp at this; omega
  have zz1 : w.heap.size + 1 < w1.heap.size := by omega
  have zz0 : w.heap.size < w1.heap.size := by omega
  have HB := Lib.hid (show Below w.heap.size w w1 from BelowKit.bl_trans (by (repeat (first | exact Below.refl _ _ | apply BelowKit.bl_alloc | apply BelowKit.bl_drewN | apply BelowKit.bl_drew | (refine BelowKit.bl_set ?_ _ ?_; rotate_left; (first | omega | (simp; omega) | simp)) | (refine BelowKit.bl_trans ?_ (‹Hid (Below _ _ _)›).out)))) hb)
  clear hb
  by_cases hh : r < 0
  case pos =>
    have dd : decide (r < 0) = true := decide_eq_true hh
    have E := Lib.hid (EY.out hh)
    clear EY EN hh
    go_wp2
    refine bodyPost_ret (v := .tuple #[.agg #[.int .i64 c, .int .i64 d], .bool true]) (by simp [results, Try.results131, go_sem, s0, s1]) rfl ?_
    rw [E.out]
    exact ⟨rfl, BelowKit.bl_set (BelowKit.bl_set HB.out (a := ⟨w.heap.size + 1 + 1, 0, none⟩) _ (by simp; try omega)) (a := ⟨w.heap.size + 1 + 1, 1, none⟩) _ (by simp; try omega)⟩
  case neg =>
    have dd : decide (r < 0) = false := decide_eq_false hh
    have E := Lib.hid (EN.out (by omega))
    clear EY EN hh
    go_wp2
    refine bodyPost_ret (v := .tuple #[.agg #[.int .i64 a, .int .i64 b], .bool true]) (by simp [results, Try.results131, go_sem, s0, s1]) rfl ?_
    rw [E.out]
    exact ⟨rfl, BelowKit.bl_set (BelowKit.bl_set HB.out (a := ⟨w.heap.size + 1 + 1, 0, none⟩) _ (by simp; try omega)) (a := ⟨w.heap.size + 1 + 1, 1, none⟩) _ (by simp; try omega)⟩
set_option maxHeartbeats 4000000 in
theorem comb8 (a b c d : Int) (w : World) : Calls Try.prog 131 #[.int .i64 8, .agg #[.int .i64 a, .int .i64 b], .agg #[.int .i64 c, .int .i64 d]] w (IsFrac (combR 8 a b c d) w) := by
  obtain ⟨r, hr⟩ : ∃ r, cmpI c d a b = r := ⟨_, rfl⟩
  obtain ⟨R, hR⟩ : ∃ R, combR 8 a b c d = R := ⟨_, rfl⟩
  have EY : Hid (0 < r → R = (c, d, true)) := Lib.hid (fun e => by rw [← hR]; unfold combR; simp [hr, e])
  have EN : Hid (¬ (0 < r) → R = (a, b, true)) := Lib.hid (fun e => by rw [← hR]; unfold combR; simp [hr, e])
  rw [hR]
  have HRR := Lib.hid hr
  clear hr hR
  go_enter Try.func131, Try.ntmps131
  go_wp2_with fail
  refine (FracICmp.cmp_i c d a b _).mono ?_
  rintro e w1 ⟨rfl, hb⟩
  rw [HRR.out]
  have x0 : w1.cell? ⟨w.heap.size, 0, none⟩ = some (.int .i64 a) := ((BelowKit.bcell hb).1 _ _ (by first | omega | (simp; done) | (simp; omega))).trans (by simp [go_sem])
  have x1 : w1.cell? ⟨w.heap.size, 1, none⟩ = some (.int .i64 b) := ((BelowKit.bcell hb).1 _ _ (by first | omega | (simp; done) | (simp; omega))).trans (by simp [go_sem])
  have y0 : w1.cell? ⟨w.heap.size + 1, 0, none⟩ = some (.int .i64 c) := ((BelowKit.bcell hb).1 _ _ (by first | omega | (simp; done) | (simp; omega))).trans (by simp [go_sem])
  have y1 : w1.cell? ⟨w.heap.size + 1, 1, none⟩ = some (.int .i64 d) := ((BelowKit.bcell hb).1 _ _ (by first | omega | (simp; done) | (simp; omega))).trans (by simp [go_sem])
  have s0 : w1.cell? ⟨w.heap.size + 1 + 1, 0, none⟩ = some (.int .i64 0) := ((BelowKit.bcell hb).1 _ _ (by first | omega | (simp; done) | (simp; omega))).trans (by simp [go_sem])
  have s1 : w1.cell? ⟨w.heap.size + 1 + 1, 1, none⟩ = some (.int .i64 0) := ((BelowKit.bcell hb).1 _ _ (by first | omega | (simp; done) | (simp; omega))).trans (by simp [go_sem])
  have f0 : w1.frozen? ⟨w.heap.size + 1 + 1, 0, none⟩ = false := ((BelowKit.bcell hb).2 _ _ (by first | omega | (simp; done) | (simp; omega))).trans (by simp [go_sem])
  have f1 : w1.frozen? ⟨w.heap.size + 1 + 1, 1, none⟩ = false := ((BelowKit.bcell hb).2 _ _ (by first | omega | (simp; done) | (simp; omega))).trans (by simp [go_sem])
  have zz : w.heap.size + 1 + 1 < w1.heap.size := by have := hb.size; simp at this; omega
  have zz1 : w.heap.size + 1 < w1.heap.size := by omega
  have zz0 : w.heap.size < w1.heap.size := by omega
  have HB := Lib.hid (show Below w.heap.size w w1 from BelowKit.bl_trans (by (repeat (first | exact Below.refl _ _ | apply BelowKit.bl_alloc | apply BelowKit.bl_drewN | apply BelowKit.bl_drew | (refine BelowKit.bl_set ?_ _ ?_; rotate_left; (first | omega | (simp; omega) | simp)) | (refine BelowKit.bl_trans ?_ (‹Hid (Below _ _ _)›).out)))) hb)
  clear hb
  by_cases hh : 0 < r
  case pos =>
    have dd : decide (0 < r) = true := decide_eq_true hh
    have E := Lib.hid (EY.out hh)
    clear EY EN hh
    go_wp2
    refine bodyPost_ret (v := .tuple #[.agg #[.int .i64 c, .int .i64 d], .bool true]) (by simp [results, Try.results131, go_sem, s0, s1]) rfl ?_
    rw [E.out]
    exact ⟨rfl, BelowKit.bl_set (BelowKit.bl_set HB.out (a := ⟨w.heap.size + 1 + 1, 0, none⟩) _ (by simp; try omega)) (a := ⟨w.heap.size + 1 + 1, 1, none⟩) _ (by simp; try omega)⟩
  case neg =>
    have dd : decide (0 < r) = false := decide_eq_false hh
    have E := Lib.hid (EN.out (by omega))
    clear EY EN hh
    go_wp2
    refine bodyPost_ret (v := .tuple #[.agg #[.int .i64 a, .int .i64 b], .bool true]) (by simp [results, Try.results131, go_sem, s0, s1]) rfl ?_
    rw [E.out]
    exact ⟨rfl, BelowKit.bl_set (BelowKit.bl_set HB.out (a := ⟨w.heap.size + 1 + 1, 0, none⟩) _ (by simp; try omega)) (a := ⟨w.heap.size + 1 + 1, 1, none⟩) _ (by simp; try omega)⟩
theorem comb_i (k a b c d : Int) (h : 3 ≤ k ∧ k ≤ 8) (w : World) : Calls Try.prog 131 #[.int .i64 k, .agg #[.int .i64 a, .int .i64 b], .agg #[.int .i64 c, .int .i64 d]] w (IsFrac (combR k a b c d) w) := by
  have hk : k = 3 ∨ k = 4 ∨ k = 5 ∨ k = 6 ∨ k = 7 ∨ k = 8 := by omega
  rcases hk with rfl | rfl | rfl | rfl | rfl | rfl
  · exact comb3 a b c d w
  · exact comb4 a b c d w
  · exact comb5 a b c d w
  · exact comb6 a b c d w
  · exact comb7 a b c d w
  · exact comb8 a b c d w
end Go.Proofs.Ytkfgflmhefbinaa.CombI

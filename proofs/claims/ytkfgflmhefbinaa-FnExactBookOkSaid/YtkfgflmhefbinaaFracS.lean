/- Contracts of the model's operations on fractions: the same numbers as the plain functions of FracMath, in new memory. -/
import Derived.Test.YtkfgflmhefbinaaRows
import Derived.Test.YtkfgflmhefbinaaKit
import Derived.Test.YtkfgflmhefbinaaFracGcd
import Derived.Test.YtkfgflmhefbinaaFracValid
import Derived.Test.YtkfgflmhefbinaaFracMake
import Derived.Test.YtkfgflmhefbinaaFracMakeS
import Derived.Test.YtkfgflmhefbinaaFracOps
import Derived.WalkKit
import Derived.Below
import Derived.WalkSmall
import Derived.Lib.Hide
import Derived.BigQuiet
import Derived.Deep.RegionHeld3
namespace Go.Proofs.Ytkfgflmhefbinaa.FracS
open Go.RowKit FracMath FracGcd FracValid FracMake FracMakeS FracOps

theorem wr {x : Int} (h1 : -4000000000000000000 ≤ x) (h2 : x ≤ 4000000000000000000) : IntKind.i64.wrap x = x := IntWalk.i64_in _ (by omega)

set_option maxHeartbeats 1000000 in
theorem new_s (n d : Int) (w : World) :
    Calls Try.prog 93 #[.int .i64 n, .int .i64 d] w (IsFrac (newR n d) w) := by
  by_cases h0 : d = 0
  · subst h0
    have hr : newR n 0 = (0, 0, false) := by unfold newR; rw [red_zero]; split <;> rfl
    rw [hr]
    clear hr
    go_enter Try.func93, Try.ntmps93
    go_wp2
    refine bodyPost_ret (v := .tuple #[.agg #[.int .i64 0, .int .i64 0], .bool false]) (by simp [results, Try.results93, go_sem]) rfl ⟨rfl, ?_⟩
    (repeat (first | exact Below.refl _ _ | apply BelowKit.bl_alloc | apply BelowKit.bl_drewN | apply BelowKit.bl_drew | (refine BelowKit.bl_set ?_ _ ?_; rotate_left; (first | omega | (simp; omega) | simp)) | (refine BelowKit.bl_trans ?_ (‹Hid (Below _ _ _)›).out)))
  · have hb : (d == 0) = false := by simpa using h0
    by_cases h1 : -1000000000000 ≤ n ∧ n ≤ 1000000000000
    · have EN := Lib.hid (inB_yes h1.1 h1.2)
      by_cases h2 : -1000000000000 ≤ d ∧ d ≤ 1000000000000
      · have ED := Lib.hid (inB_yes h2.1 h2.2)
        rw [show newR n d = red n d by simp [newR, h1, h2]]
        obtain ⟨h1, h3⟩ := h1
        obtain ⟨h2, h4⟩ := h2
        obtain ⟨⟨x, y, z⟩, hr⟩ : ∃ r, red n d = r := ⟨_, rfl⟩
        rw [hr]
        have HR := Lib.hid hr
        clear hr
        go_enter Try.func93, Try.ntmps93
        go_wp2_with fail
        refine (in_s _ _ _ _).mono ?_
        rintro e w' ⟨rfl, rfl⟩
        rw [EN.out]
        go_wp2_with fail
        refine (in_s _ _ _ _).mono ?_
        rintro e w' ⟨rfl, rfl⟩
        rw [ED.out]
        go_wp2_with fail
        refine (make_s n d _ h0 (by omega) (by omega) (by omega) (by omega)).mono ?_
        rintro e w1 ⟨rfl, hb1⟩
        rw [HR.out]
        obtain ⟨hc1, hf1⟩ := BelowKit.bcell hb1
        have hz1 := hb1.size
        try simp at hz1
        have HB1 := Lib.hid hb1
        clear hb1
        have q0 : w1.cell? ⟨w.heap.size, 0, none⟩ = some (.int .i64 0) := by rw [hc1 _ _ (by first | omega | (simp; done) | (simp; omega))]; simp [go_sem]
        have q1 : w1.cell? ⟨w.heap.size, 1, none⟩ = some (.int .i64 0) := by rw [hc1 _ _ (by first | omega | (simp; done) | (simp; omega))]; simp [go_sem]
        go_wp2
        refine bodyPost_ret (v := .tuple #[.agg #[.int .i64 x, .int .i64 y], .bool z]) (by simp [results, Try.results93, q0, q1, go_sem]) rfl ⟨rfl, ?_⟩
        (repeat (first | exact Below.refl _ _ | apply BelowKit.bl_alloc | apply BelowKit.bl_drewN | apply BelowKit.bl_drew | (refine BelowKit.bl_set ?_ _ ?_; rotate_left; (first | omega | (simp; omega) | simp)) | (refine BelowKit.bl_trans ?_ (‹Hid (Below _ _ _)›).out)))
      · have ED := Lib.hid (show inB d (-1000000000000) 1000000000000 = false by simp only [inB, decide_eq_false_iff_not]; exact h2)
        rw [show newR n d = (0, 0, false) by simp only [newR, h2, and_false, if_false]]
        clear h2
        go_enter Try.func93, Try.ntmps93
        go_wp2_with fail
        refine (in_s _ _ _ _).mono ?_
        rintro e w' ⟨rfl, rfl⟩
        rw [EN.out]
        go_wp2_with fail
        refine (in_s _ _ _ _).mono ?_
        rintro e w' ⟨rfl, rfl⟩
        rw [ED.out]
        go_wp2
        refine bodyPost_ret (v := .tuple #[.agg #[.int .i64 0, .int .i64 0], .bool false]) (by simp [results, Try.results93, go_sem]) rfl ⟨rfl, ?_⟩
        (repeat (first | exact Below.refl _ _ | apply BelowKit.bl_alloc | apply BelowKit.bl_drewN | apply BelowKit.bl_drew | (refine BelowKit.bl_set ?_ _ ?_; rotate_left; (first | omega | (simp; omega) | simp)) | (refine BelowKit.bl_trans ?_ (‹Hid (Below _ _ _)›).out)))
    · have EN := Lib.hid (show inB n (-1000000000000) 1000000000000 = false by simp only [inB, decide_eq_false_iff_not]; exact h1)
      rw [show newR n d = (0, 0, false) by simp only [newR, h1, false_and, if_false]]
      clear h1
      go_enter Try.func93, Try.ntmps93
      go_wp2_with fail
      refine (in_s _ _ _ _).mono ?_
      rintro e w' ⟨rfl, rfl⟩
      rw [EN.out]
      go_wp2
      refine bodyPost_ret (v := .tuple #[.agg #[.int .i64 0, .int .i64 0], .bool false]) (by simp [results, Try.results93, go_sem]) rfl ⟨rfl, ?_⟩
      (repeat (first | exact Below.refl _ _ | apply BelowKit.bl_alloc | apply BelowKit.bl_drewN | apply BelowKit.bl_drew | (refine BelowKit.bl_set ?_ _ ?_; rotate_left; (first | omega | (simp; omega) | simp)) | (refine BelowKit.bl_trans ?_ (‹Hid (Below _ _ _)›).out)))

def sumG (s a b c d : Int) : Int × Int × Bool := if okB a b = true ∧ okB c d = true then red (a * d + s * c * b) (b * d) else (0, 0, false)
theorem sumG_one (a b c d : Int) : sumG 1 a b c d = sumR a b c d := by unfold sumG sumR; rw [Int.one_mul]
theorem sumG_neg (a b c d : Int) : sumG (-1) a b c d = subR a b c d := by unfold sumG subR; rw [Int.neg_one_mul]

set_option maxHeartbeats 2000000 in
theorem sum_s (s a b c d : Int) (w : World) (hs1 : -1 ≤ s) (hs2 : s ≤ 1) :
    Calls Try.prog 133 #[.agg #[.int .i64 a, .int .i64 b], .agg #[.int .i64 c, .int .i64 d], .int .i64 s] w (IsFrac (sumG s a b c d) w) := by
  cases h1 : okB a b with
  | false =>
    rw [show sumG s a b c d = (0, 0, false) by simp [sumG, h1]]
    have H1 := Lib.hid h1
    clear h1
    go_enter Try.func133, Try.ntmps133
    go_wp2_with fail
    refine (ok_s a b _).mono ?_
    rintro e w1 ⟨rfl, hb1⟩
    rw [H1.out]
    obtain ⟨hc1, hf1⟩ := BelowKit.bcell hb1
    have hz1 := hb1.size
    try simp at hz1
    have HB1 := Lib.hid hb1
    clear hb1
    have q0 : w1.cell? ⟨w.heap.size + 1 + 1, 0, none⟩ = some (.int .i64 0) := by rw [hc1 _ _ (by first | omega | (simp; done) | (simp; omega))]; simp [go_sem]
    have q1 : w1.cell? ⟨w.heap.size + 1 + 1, 1, none⟩ = some (.int .i64 0) := by rw [hc1 _ _ (by first | omega | (simp; done) | (simp; omega))]; simp [go_sem]
    go_wp2
    refine bodyPost_ret (v := .tuple #[.agg #[.int .i64 0, .int .i64 0], .bool false]) (by simp [results, Try.results133, q0, q1, go_sem]) rfl ⟨rfl, ?_⟩
    (repeat (first | exact Below.refl _ _ | apply BelowKit.bl_alloc | apply BelowKit.bl_drewN | apply BelowKit.bl_drew | (refine BelowKit.bl_set ?_ _ ?_; rotate_left; (first | omega | (simp; omega) | simp)) | (refine BelowKit.bl_trans ?_ (‹Hid (Below _ _ _)›).out)))
  | true =>
    cases h2 : okB c d with
    | false =>
      rw [show sumG s a b c d = (0, 0, false) by simp [sumG, h2]]
      have H1 := Lib.hid h1
      have H2 := Lib.hid h2
      clear h1 h2
      go_enter Try.func133, Try.ntmps133
      go_wp2_with fail
      refine (ok_s a b _).mono ?_
      rintro e w1 ⟨rfl, hb1⟩
      rw [H1.out]
      obtain ⟨hc1, hf1⟩ := BelowKit.bcell hb1
      have hz1 := hb1.size
      try simp at hz1
      have HB1 := Lib.hid hb1
      clear hb1
      go_wp2_with fail
      refine (ok_s c d _).mono ?_
      rintro e w2 ⟨rfl, hb2⟩
      rw [H2.out]
      replace hb2 := BelowKit.bl_trans HB1.out hb2
      clear hc1 hf1 hz1 HB1
      obtain ⟨hc2, hf2⟩ := BelowKit.bcell hb2
      have hz2 := hb2.size
      try simp at hz2
      have HB2 := Lib.hid hb2
      clear hb2
      have q0 : w2.cell? ⟨w.heap.size + 1 + 1, 0, none⟩ = some (.int .i64 0) := by rw [hc2 _ _ (by first | omega | (simp; done) | (simp; omega))]; simp [go_sem]
      have q1 : w2.cell? ⟨w.heap.size + 1 + 1, 1, none⟩ = some (.int .i64 0) := by rw [hc2 _ _ (by first | omega | (simp; done) | (simp; omega))]; simp [go_sem]
      go_wp2
      refine bodyPost_ret (v := .tuple #[.agg #[.int .i64 0, .int .i64 0], .bool false]) (by simp [results, Try.results133, q0, q1, go_sem]) rfl ⟨rfl, ?_⟩
      (repeat (first | exact Below.refl _ _ | apply BelowKit.bl_alloc | apply BelowKit.bl_drewN | apply BelowKit.bl_drew | (refine BelowKit.bl_set ?_ _ ?_; rotate_left; (first | omega | (simp; omega) | simp)) | (refine BelowKit.bl_trans ?_ (‹Hid (Below _ _ _)›).out)))
    | true =>
      obtain ⟨k1, k2, k3, k4⟩ := ok_bd h1
      obtain ⟨l1, l2, l3, l4⟩ := ok_bd h2
      have hg1 := gcd_pos (n := b) (d := d) (by omega)
      have hg2 := gcd_le (n := b) (d := d) (by omega) 1000000 (by omega) (by omega)
      have hq := sum_spec (a := a) (c := s * c) (b := b) (d := d) (by omega) (by omega)
      have tb := tdiv_bd b (Int.gcd b d : Int) 1000000 (by omega) (by omega)
      have td := tdiv_bd d (Int.gcd b d : Int) 1000000 (by omega) (by omega)
      have eb := tdiv_exact (Int.gcd_dvd_left b d)
      have ed := tdiv_exact (Int.gcd_dvd_right b d)
      have pb := Int.ediv_nonneg (a := b) (b := (Int.gcd b d : Int)) (by omega) (by omega)
      have pd := Int.ediv_nonneg (a := d) (b := (Int.gcd b d : Int)) (by omega) (by omega)
      have hp : 0 < b / (Int.gcd b d : Int) * d := by
        have : 1 ≤ b / (Int.gcd b d : Int) := Int.le_ediv_of_mul_le hg1 (by have := Int.le_of_dvd (by omega) (Int.gcd_dvd_left b d); omega)
        exact Int.mul_pos (by omega) (by omega)
      rw [eb] at tb
      rw [ed] at td
      obtain ⟨g, hg⟩ : ∃ g : Int, (Int.gcd b d : Int) = g := ⟨_, rfl⟩
      rw [hg] at hg1 hg2 hq tb td eb ed pb pd hp
      obtain ⟨P, hP⟩ : ∃ P : Int, d / g = P := ⟨_, rfl⟩
      obtain ⟨Q, hQ⟩ : ∃ Q : Int, b / g = Q := ⟨_, rfl⟩
      rw [hP] at hq ed td pd
      rw [hQ] at hq eb tb pb hp
      have HG := Lib.hid hg
      obtain ⟨b1, b2⟩ := tb
      obtain ⟨b3, b4⟩ := td
      have m1 := mul_bd k3 k4 pd b4 (by omega)
      have m0 := mul_bd' (x := s) (y := c) (A := 1) (by omega) (by omega) l3 l4 (by omega)
      obtain ⟨m01, m02⟩ := m0
      have m2 := mul_bd (x := s * c) (y := Q) (A := 1000000000000) (by omega) (by omega) pb b2 (by omega)
      have m3 := mul_bd (x := Q) (y := d) (A := 1000000) (by omega) b2 (by omega : 0 ≤ d) l2 (by omega)
      have W1 : IntKind.i64.wrap (a * P) = a * P := wr (by omega) (by omega)
      have W2 : IntKind.i64.wrap (s * c) = s * c := wr (by omega) (by omega)
      have W3 : IntKind.i64.wrap (s * c * Q) = s * c * Q := wr (by omega) (by omega)
      have W4 : IntKind.i64.wrap (a * P + s * c * Q) = a * P + s * c * Q := wr (by omega) (by omega)
      have W5 : IntKind.i64.wrap (Q * d) = Q * d := wr (by omega) (by omega)
      have W6 : IntKind.i64.wrap Q = Q := wr (by omega) (by omega)
      have W7 : IntKind.i64.wrap P = P := wr (by omega) (by omega)
      obtain ⟨⟨x, y, z⟩, hr⟩ : ∃ r, red (a * P + s * c * Q) (Q * d) = r := ⟨_, rfl⟩
      rw [show sumG s a b c d = (x, y, z) by rw [← hr, hq]; simp [sumG, h1, h2]]
      have HR := Lib.hid hr
      have H1 := Lib.hid h1
      have H2 := Lib.hid h2
      have hgb : (g == 0) = false := by rw [beq_eq_false_iff_ne]; omega
      have hg0 : ¬ g = 0 := by omega
      have HM := Lib.hid (show (Q * d ≠ 0) ∧ (-4000000000000000000 ≤ a * P + s * c * Q ∧ a * P + s * c * Q ≤ 4000000000000000000) ∧ (-4000000000000000000 ≤ Q * d ∧ Q * d ≤ 4000000000000000000) by omega)
      clear h1 h2 hr hq hg m1 m2 m3 hp
      go_enter Try.func133, Try.ntmps133
      go_wp2_with fail
      refine (ok_s a b _).mono ?_
      rintro e w1 ⟨rfl, hb1⟩
      rw [H1.out]
      obtain ⟨hc1, hf1⟩ := BelowKit.bcell hb1
      have hz1 := hb1.size
      try simp at hz1
      have HB1 := Lib.hid hb1
      clear hb1
      go_wp2_with fail
      refine (ok_s c d _).mono ?_
      rintro e w2 ⟨rfl, hb2⟩
      rw [H2.out]
      replace hb2 := BelowKit.bl_trans HB1.out hb2
      clear hc1 hf1 hz1 HB1
      obtain ⟨hc2, hf2⟩ := BelowKit.bcell hb2
      have hz2 := hb2.size
      try simp at hz2
      have HB2 := Lib.hid hb2
      clear hb2
      go_wp2_with fail
      refine (gcd_s _ _ _ (by omega) (by omega) (by omega) (by omega)).mono ?_
      rintro e w' ⟨rfl, rfl⟩
      rw [HG.out]
      go_wp2_with fail
      have fa : w2.cell? ⟨w.heap.size, 0, none⟩ = some (.int .i64 a) := by rw [hc2 _ _ (by first | omega | (simp; done) | (simp; omega))]; simp [go_sem]
      have fb : w2.cell? ⟨w.heap.size, 1, none⟩ = some (.int .i64 b) := by rw [hc2 _ _ (by first | omega | (simp; done) | (simp; omega))]; simp [go_sem]
      have fc : w2.cell? ⟨w.heap.size + 1, 0, none⟩ = some (.int .i64 c) := by rw [hc2 _ _ (by first | omega | (simp; done) | (simp; omega))]; simp [go_sem]
      have fd : w2.cell? ⟨w.heap.size + 1, 1, none⟩ = some (.int .i64 d) := by rw [hc2 _ _ (by first | omega | (simp; done) | (simp; omega))]; simp [go_sem]
      go_region_held3 (fun W => W.cell? ⟨w.heap.size, 0, none⟩ = some (.int .i64 a) ∧ W.cell? ⟨w.heap.size, 1, none⟩ = some (.int .i64 b) ∧ W.cell? ⟨w.heap.size + 1, 0, none⟩ = some (.int .i64 c) ∧ W.cell? ⟨w.heap.size + 1, 1, none⟩ = some (.int .i64 d))
        (first | exact ⟨fa, fb, fc, fd⟩ | exact ⟨ga, gb, gc, gd⟩ | (refine ⟨?_, ?_, ?_, ?_⟩ <;> (repeat (rw [World.cell?_setCell_far _ _ _ _ (by first | (simp; done) | (simp; omega))])) <;> first | exact ga | exact gb | exact gc | exact gd))
        ((first
          | (go_at_call 113; (with_reducible refine (make_s _ _ _ HM.out.1 HM.out.2.1.1 HM.out.2.1.2 HM.out.2.2.1 HM.out.2.2.2).mono ?_); rintro e w3 ⟨rfl, hb3⟩; rw [HR.out]; replace hb3 := BelowKit.bl_trans (BelowKit.bl_drew HB2.out) hb3; clear hc2 hf2 hz2 HB2; obtain ⟨hc3, hf3⟩ := BelowKit.bcell hb3; have hz3 := hb3.size; simp at hz3; have HB3 := Lib.hid hb3; clear hb3; have ga : w3.cell? ⟨w.heap.size, 0, none⟩ = some (.int .i64 a) := (by rw [hc3 _ _ (by first | omega | (simp; done) | (simp; omega))]; simp [go_sem]); have gb : w3.cell? ⟨w.heap.size, 1, none⟩ = some (.int .i64 b) := (by rw [hc3 _ _ (by first | omega | (simp; done) | (simp; omega))]; simp [go_sem]); have gc : w3.cell? ⟨w.heap.size + 1, 0, none⟩ = some (.int .i64 c) := (by rw [hc3 _ _ (by first | omega | (simp; done) | (simp; omega))]; simp [go_sem]); have gd : w3.cell? ⟨w.heap.size + 1, 1, none⟩ = some (.int .i64 d) := (by rw [hc3 _ _ (by first | omega | (simp; done) | (simp; omega))]; simp [go_sem]))))
      have q0 : w3.cell? ⟨w.heap.size + 1 + 1, 0, none⟩ = some (.int .i64 0) := by rw [hc3 _ _ (by first | omega | (simp; done) | (simp; omega))]; simp [go_sem]
      have q1 : w3.cell? ⟨w.heap.size + 1 + 1, 1, none⟩ = some (.int .i64 0) := by rw [hc3 _ _ (by first | omega | (simp; done) | (simp; omega))]; simp [go_sem]
      go_wp2
      refine bodyPost_ret (v := .tuple #[.agg #[.int .i64 x, .int .i64 y], .bool z]) (by simp [results, Try.results133, q0, q1, go_sem]) rfl ⟨rfl, ?_⟩
      (repeat (first | exact Below.refl _ _ | apply BelowKit.bl_alloc | apply BelowKit.bl_drewN | apply BelowKit.bl_drew | (refine BelowKit.bl_set ?_ _ ?_; rotate_left; (first | omega | (simp; omega) | simp)) | (refine BelowKit.bl_trans ?_ (‹Hid (Below _ _ _)›).out)))

set_option maxHeartbeats 1000000 in
theorem add_s (a b c d : Int) (w : World) :
    Calls Try.prog 120 #[.agg #[.int .i64 a, .int .i64 b], .agg #[.int .i64 c, .int .i64 d]] w (IsFrac (sumR a b c d) w) := by
      obtain ⟨⟨x, y, z⟩, hr⟩ : ∃ r, sumG (1) a b c d = r := ⟨_, rfl⟩
      rw [← sumG_one, hr]
      have HR := Lib.hid hr
      clear hr
      go_enter Try.func120, Try.ntmps120
      go_wp2_with fail
      refine (sum_s _ a b c d _ (by omega) (by omega)).mono ?_
      rintro e w1 ⟨rfl, hb1⟩
      rw [HR.out]
      obtain ⟨hc1, hf1⟩ := BelowKit.bcell hb1
      have hz1 := hb1.size
      try simp at hz1
      have HB1 := Lib.hid hb1
      clear hb1
      have q0 : w1.cell? ⟨w.heap.size + 1 + 1, 0, none⟩ = some (.int .i64 0) := by rw [hc1 _ _ (by first | omega | (simp; done) | (simp; omega))]; simp [go_sem]
      have q1 : w1.cell? ⟨w.heap.size + 1 + 1, 1, none⟩ = some (.int .i64 0) := by rw [hc1 _ _ (by first | omega | (simp; done) | (simp; omega))]; simp [go_sem]
      go_wp2
      refine bodyPost_ret (v := .tuple #[.agg #[.int .i64 x, .int .i64 y], .bool z]) (by simp [results, Try.results120, q0, q1, go_sem]) rfl ⟨rfl, ?_⟩
      (repeat (first | exact Below.refl _ _ | apply BelowKit.bl_alloc | apply BelowKit.bl_drewN | apply BelowKit.bl_drew | (refine BelowKit.bl_set ?_ _ ?_; rotate_left; (first | omega | (simp; omega) | simp)) | (refine BelowKit.bl_trans ?_ (‹Hid (Below _ _ _)›).out)))

set_option maxHeartbeats 1000000 in
theorem sub_s (a b c d : Int) (w : World) :
    Calls Try.prog 121 #[.agg #[.int .i64 a, .int .i64 b], .agg #[.int .i64 c, .int .i64 d]] w (IsFrac (subR a b c d) w) := by
      obtain ⟨⟨x, y, z⟩, hr⟩ : ∃ r, sumG (-1) a b c d = r := ⟨_, rfl⟩
      rw [← sumG_neg, hr]
      have HR := Lib.hid hr
      clear hr
      go_enter Try.func121, Try.ntmps121
      go_wp2_with fail
      refine (sum_s _ a b c d _ (by omega) (by omega)).mono ?_
      rintro e w1 ⟨rfl, hb1⟩
      rw [HR.out]
      obtain ⟨hc1, hf1⟩ := BelowKit.bcell hb1
      have hz1 := hb1.size
      try simp at hz1
      have HB1 := Lib.hid hb1
      clear hb1
      have q0 : w1.cell? ⟨w.heap.size + 1 + 1, 0, none⟩ = some (.int .i64 0) := by rw [hc1 _ _ (by first | omega | (simp; done) | (simp; omega))]; simp [go_sem]
      have q1 : w1.cell? ⟨w.heap.size + 1 + 1, 1, none⟩ = some (.int .i64 0) := by rw [hc1 _ _ (by first | omega | (simp; done) | (simp; omega))]; simp [go_sem]
      go_wp2
      refine bodyPost_ret (v := .tuple #[.agg #[.int .i64 x, .int .i64 y], .bool z]) (by simp [results, Try.results121, q0, q1, go_sem]) rfl ⟨rfl, ?_⟩
      (repeat (first | exact Below.refl _ _ | apply BelowKit.bl_alloc | apply BelowKit.bl_drewN | apply BelowKit.bl_drew | (refine BelowKit.bl_set ?_ _ ?_; rotate_left; (first | omega | (simp; omega) | simp)) | (refine BelowKit.bl_trans ?_ (‹Hid (Below _ _ _)›).out)))

set_option maxHeartbeats 1000000 in
theorem small_s (a b : Int) (w : World) :
    Calls Try.prog 134 #[.agg #[.int .i64 a, .int .i64 b]] w (IsBool (facB a b) w) := by
  cases h1 : okB a b with
  | false =>
      rw [show facB a b = false by simp [facB, h1]]
      have H1 := Lib.hid h1
      clear h1
      go_enter Try.func134, Try.ntmps134
      go_wp2_with fail
      refine (ok_s a b _).mono ?_
      rintro e w1 ⟨rfl, hb1⟩
      rw [H1.out]
      obtain ⟨hc1, hf1⟩ := BelowKit.bcell hb1
      have hz1 := hb1.size
      try simp at hz1
      have HB1 := Lib.hid hb1
      clear hb1
      go_wp2
      go_ret
      exact ⟨rfl, by (repeat (first | exact Below.refl _ _ | apply BelowKit.bl_alloc | apply BelowKit.bl_drewN | apply BelowKit.bl_drew | (refine BelowKit.bl_set ?_ _ ?_; rotate_left; (first | omega | (simp; omega) | simp)) | (refine BelowKit.bl_trans ?_ (‹Hid (Below _ _ _)›).out)))⟩
  | true =>
      obtain ⟨x, hx⟩ : ∃ x, inB a (-1000000) 1000000 = x := ⟨_, rfl⟩
      rw [show facB a b = x by simp [facB, h1, hx]]
      have H1 := Lib.hid h1
      have HX := Lib.hid hx
      clear h1 hx
      go_enter Try.func134, Try.ntmps134
      go_wp2_with fail
      refine (ok_s a b _).mono ?_
      rintro e w1 ⟨rfl, hb1⟩
      rw [H1.out]
      obtain ⟨hc1, hf1⟩ := BelowKit.bcell hb1
      have hz1 := hb1.size
      try simp at hz1
      have HB1 := Lib.hid hb1
      clear hb1
      go_wp2_with fail
      refine (in_s _ _ _ _).mono ?_
      rintro e w' ⟨rfl, rfl⟩
      rw [HX.out]
      go_wp2
      go_ret
      exact ⟨rfl, by (repeat (first | exact Below.refl _ _ | apply BelowKit.bl_alloc | apply BelowKit.bl_drewN | apply BelowKit.bl_drew | (refine BelowKit.bl_set ?_ _ ?_; rotate_left; (first | omega | (simp; omega) | simp)) | (refine BelowKit.bl_trans ?_ (‹Hid (Below _ _ _)›).out)))⟩
end Go.Proofs.Ytkfgflmhefbinaa.FracS

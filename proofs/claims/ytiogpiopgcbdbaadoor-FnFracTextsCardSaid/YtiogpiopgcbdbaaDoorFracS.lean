/- Contracts of the model's operations on fractions: the same numbers as the plain functions of FracMath, in new memory. -/
import Derived.Test.YtiogpiopgcbdbaaDoorRows
import Derived.Test.YtiogpiopgcbdbaaDoorKit
import Derived.Test.YtiogpiopgcbdbaaDoorFracGcd
import Derived.Test.YtiogpiopgcbdbaaDoorFracValid
import Derived.Test.YtiogpiopgcbdbaaDoorFracMake
import Derived.Test.YtiogpiopgcbdbaaDoorFracMakeS
import Derived.Test.YtiogpiopgcbdbaaDoorFracOps
import Derived.WalkKit
import Derived.Below
import Derived.WalkSmall
import Derived.Lib.Hide
import Derived.BigQuiet
import Derived.Deep.RegionHeld3
namespace Go.Proofs.YtiogpiopgcbdbaaDoor.FracS
open Go.RowKit FracMath FracGcd FracValid FracMake FracMakeS FracOps

theorem wr {x : Int} (h1 : -4000000000000000000 ≤ x) (h2 : x ≤ 4000000000000000000) : IntKind.i64.wrap x = x := IntWalk.i64_in _ (by omega)

set_option maxHeartbeats 1000000 in
theorem new_s (n d : Int) (w : World) :
    Calls Tryd.prog 48 #[.int .i64 n, .int .i64 d] w (IsFrac (newR n d) w) := by
  by_cases h0 : d = 0
  · subst h0
    have hr : newR n 0 = (0, 0, false) := by unfold newR; rw [red_zero]; split <;> rfl
    rw [hr]
    clear hr
    go_enter Tryd.func48, Tryd.ntmps48
    go_wp2
    refine bodyPost_ret (v := .tuple #[.agg #[.int .i64 0, .int .i64 0], .bool false]) (by simp [results, Tryd.results48, go_sem]) rfl ⟨rfl, ?_⟩
    (repeat (first | exact Below.refl _ _ | apply BelowKit.bl_alloc | apply BelowKit.bl_drewN | apply BelowKit.bl_drew | (refine BelowKit.bl_set ?_ _ ?_; rotate_left; (first | omega | (simp; omega) | simp)) | (refine BelowKit.bl_trans ?_ (‹Hid (Below _ _ _)›).out)))
  · have hb : (d == 0) = false := by simpa using h0
    by_cases h1 : -1000000000000 ≤ n ∧ n ≤ 1000000000000
    · have EN := Lib.hid (inB_yes h1.1 h1.2)
      by_cases h2 : -1000000000000 ≤ d ∧ d ≤ 1000000000000
      · have ED := Lib.hid (inB_yes h2.1 h2.2)
        rw [show newR n d = red n d by simp [newR, h1, h2]]
        obtain ⟨h1, h3⟩ := h1
        obtain ⟨h2, h4⟩ := h2
        obtain ⟨⟨x, y, z⟩, hr⟩ : ∃ r, red n d = r := ⟨_, rfl⟩
        rw [hr]
        have HR := Lib.hid hr
        clear hr
        go_enter Tryd.func48, Tryd.ntmps48
        go_wp2_with fail
        refine (in_s _ _ _ _).mono ?_
        rintro e w' ⟨rfl, rfl⟩
        rw [EN.out]
        go_wp2_with fail
        refine (in_s _ _ _ _).mono ?_
        rintro e w' ⟨rfl, rfl⟩
        rw [ED.out]
        go_wp2_with fail
        refine (make_s n d _ h0 (by omega) (by omega) (by omega) (by omega)).mono ?_
        rintro e w1 ⟨rfl, hb1⟩
        rw [HR.out]
        obtain ⟨hc1, hf1⟩ := BelowKit.bcell hb1
        have hz1 := hb1.size
        try simp at hz1
        have HB1 := Lib.hid hb1
        clear hb1
        have q0 : w1.cell? ⟨w.heap.size, 0, none⟩ = some (.int .i64 0) := by rw [hc1 _ _ (by first | omega | (simp; done) | (simp; omega))]; simp [go_sem]
        have q1 : w1.cell? ⟨w.heap.size, 1, none⟩ = some (.int .i64 0) := by rw [hc1 _ _ (by first | omega | (simp; done) | (simp; omega))]; simp [go_sem]
        go_wp2
        refine bodyPost_ret (v := .tuple #[.agg #[.int .i64 x, .int .i64 y], .bool z]) (by simp [results, Tryd.results48, q0, q1, go_sem]) rfl ⟨rfl, ?_⟩
        (repeat (first | exact Below.refl _ _ | apply BelowKit.bl_alloc | apply BelowKit.bl_drewN | apply BelowKit.bl_drew | (refine BelowKit.bl_set ?_ _ ?_; rotate_left; (first | omega | (simp; omega) | simp)) | (refine BelowKit.bl_trans ?_ (‹Hid (Below _ _ _)›).out)))
      · have ED := Lib.hid (show inB d (-1000000000000) 1000000000000 = false by simp only [inB, decide_eq_false_iff_not]; exact h2)
        rw [show newR n d = (0, 0, false) by simp only [newR, h2, and_false, if_false]]
        clear h2
        go_enter Tryd.func48, Tryd.ntmps48
        go_wp2_with fail
        refine (in_s _ _ _ _).mono ?_
        rintro e w' ⟨rfl, rfl⟩
        rw [EN.out]
        go_wp2_with fail
        refine (in_s _ _ _ _).mono ?_
        rintro e w' ⟨rfl, rfl⟩
        rw [ED.out]
        go_wp2
        refine bodyPost_ret (v := .tuple #[.agg #[.int .i64 0, .int .i64 0], .bool false]) (by simp [results, Tryd.results48, go_sem]) rfl ⟨rfl, ?_⟩
        (repeat (first | exact Below.refl _ _ | apply BelowKit.bl_alloc | apply BelowKit.bl_drewN | apply BelowKit.bl_drew | (refine BelowKit.bl_set ?_ _ ?_; rotate_left; (first | omega | (simp; omega) | simp)) | (refine BelowKit.bl_trans ?_ (‹Hid (Below _ _ _)›).out)))
    · have EN := Lib.hid (show inB n (-1000000000000) 1000000000000 = false by simp only [inB, decide_eq_false_iff_not]; exact h1)
      rw [show newR n d = (0, 0, false) by simp only [newR, h1, false_and, if_false]]
      clear h1
      go_enter Tryd.func48, Tryd.ntmps48
      go_wp2_with fail
      refine (in_s _ _ _ _).mono ?_
      rintro e w' ⟨rfl, rfl⟩
      rw [EN.out]
      go_wp2
      refine bodyPost_ret (v := .tuple #[.agg #[.int .i64 0, .int .i64 0], .bool false]) (by simp [results, Tryd.results48, go_sem]) rfl ⟨rfl, ?_⟩
      (repeat (first | exact Below.refl _ _ | apply BelowKit.bl_alloc | apply BelowKit.bl_drewN | apply BelowKit.bl_drew | (refine BelowKit.bl_set ?_ _ ?_; rotate_left; (first | omega | (simp; omega) | simp)) | (refine BelowKit.bl_trans ?_ (‹Hid (Below _ _ _)›).out)))




end Go.Proofs.YtiogpiopgcbdbaaDoor.FracS

/- Contracts of the model's roundings: the plain functions flo and rndR. -/
import Derived.Test.YthhjnffbafmkpaaRoundC
import Derived.Test.YthhjnffbafmkpaaKit
namespace Go.Proofs.Ythhjnffbafmkpaa.RoundS
open Go.RowKit FracMath RoundMath FracGcd FracValid FracOps RoundI RoundF

set_option maxHeartbeats 1000000 in
theorem floorfrac_s (n d : Int) (w : World) :
    Calls Try.prog 42 #[.agg #[.int .i64 n, .int .i64 d]] w (IsInt (flo n d) w) := by
  cases h1 : okB n d with
  | false =>
    rw [show flo n d = 0 by simp [flo, h1]]
    have H1 := Lib.hid h1
    clear h1
    go_enter Try.func42, Try.ntmps42
    go_wp2_with fail
    refine (ok_s n d _).mono ?_
    rintro e w1 ⟨rfl, hb1⟩
    rw [H1.out]
    obtain ⟨hc1, hf1⟩ := BelowKit.bcell hb1
    have HB1 := Lib.hid hb1
    clear hb1
    go_wp2
    go_ret
    exact ⟨rfl, by (repeat (first | exact Below.refl _ _ | apply BelowKit.bl_alloc | apply BelowKit.bl_drewN | apply BelowKit.bl_drew | (refine BelowKit.bl_set ?_ _ ?_; rotate_left; (first | omega | (simp; omega) | simp)) | (refine BelowKit.bl_trans ?_ (‹Hid (Below _ _ _)›).out)))⟩
  | true =>
    rw [show flo n d = n / d by simp [flo, h1]]
    obtain ⟨k1, k2, k3, k4⟩ := ok_bd h1
    have H1 := Lib.hid h1
    obtain ⟨b1, b2⟩ := tdiv_bd n d 1000000000000 k3 k4
    have hd0 : ¬ d = 0 := by omega
    have hdb : (d == 0) = false := by rw [beq_eq_false_iff_ne]; omega
    clear h1
    have hneg : n.tmod d < 0 ↔ n < 0 ∧ ¬ n.tmod d = 0 := by
      have e1 := Int.tdiv_mul_add_tmod n d
      constructor
      · intro h
        refine ⟨?_, by omega⟩
        have := Int.tmod_nonneg d (a := n)
        omega
      · rintro ⟨h, h0⟩
        have := Int.tmod_nonneg d (a := -n) (by omega)
        rw [Int.neg_tmod] at this
        omega
    by_cases c : n < 0
    · by_cases o : n.tmod d = 0
      · have E := Lib.hid (flr_no (n := n) (d := d) (by omega) (by omega))
        have ob : (n.tmod d != 0) = false := by rw [o]; rfl
        clear hneg o
        go_enter Try.func42, Try.ntmps42
        go_wp2_with fail
        refine (ok_s n d _).mono ?_
        rintro e w1 ⟨rfl, hb1⟩
        rw [H1.out]
        obtain ⟨hc1, hf1⟩ := BelowKit.bcell hb1
        have hz1 := hb1.size
        try simp at hz1
        have HB1 := Lib.hid hb1
        clear hb1
        go_wp2
        go_ret
        exact ⟨int_eq E.out, by (repeat (first | exact Below.refl _ _ | apply BelowKit.bl_alloc | apply BelowKit.bl_drewN | apply BelowKit.bl_drew | (refine BelowKit.bl_set ?_ _ ?_; rotate_left; (first | omega | (simp; omega) | simp)) | (refine BelowKit.bl_trans ?_ (‹Hid (Below _ _ _)›).out)))⟩
      · have E := Lib.hid (flr_yes (n := n) (d := d) (by omega) (by omega))
        have ob : (n.tmod d != 0) = true := by rw [bne_iff_ne]; exact o
        clear hneg o
        go_enter Try.func42, Try.ntmps42
        go_wp2_with fail
        refine (ok_s n d _).mono ?_
        rintro e w1 ⟨rfl, hb1⟩
        rw [H1.out]
        obtain ⟨hc1, hf1⟩ := BelowKit.bcell hb1
        have hz1 := hb1.size
        try simp at hz1
        have HB1 := Lib.hid hb1
        clear hb1
        go_wp2
        go_ret
        exact ⟨int_eq E.out, by (repeat (first | exact Below.refl _ _ | apply BelowKit.bl_alloc | apply BelowKit.bl_drewN | apply BelowKit.bl_drew | (refine BelowKit.bl_set ?_ _ ?_; rotate_left; (first | omega | (simp; omega) | simp)) | (refine BelowKit.bl_trans ?_ (‹Hid (Below _ _ _)›).out)))⟩
    · have E := Lib.hid (flr_no (n := n) (d := d) (by omega) (by omega))
      have cb : decide (n < 0) = false := by simpa using c
      clear hneg
      go_enter Try.func42, Try.ntmps42
      go_wp2_with fail
      refine (ok_s n d _).mono ?_
      rintro e w1 ⟨rfl, hb1⟩
      rw [H1.out]
      obtain ⟨hc1, hf1⟩ := BelowKit.bcell hb1
      have hz1 := hb1.size
      try simp at hz1
      have HB1 := Lib.hid hb1
      clear hb1
      go_wp2
      go_ret
      exact ⟨int_eq (by first | exact E.out | rfl), by (repeat (first | exact Below.refl _ _ | apply BelowKit.bl_alloc | apply BelowKit.bl_drewN | apply BelowKit.bl_drew | (refine BelowKit.bl_set ?_ _ ?_; rotate_left; (first | omega | (simp; omega) | simp)) | (refine BelowKit.bl_trans ?_ (‹Hid (Below _ _ _)›).out)))⟩
end Go.Proofs.Ythhjnffbafmkpaa.RoundS

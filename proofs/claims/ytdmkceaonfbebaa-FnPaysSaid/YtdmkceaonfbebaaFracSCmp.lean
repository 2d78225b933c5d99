/- The contract of the model's comparison of fractions. -/
import Derived.Test.YtdmkceaonfbebaaRows
import Derived.Test.YtdmkceaonfbebaaKit
import Derived.Test.YtdmkceaonfbebaaFracC
import Derived.WalkKit
import Derived.Below
import Derived.WalkSmall
import Derived.Lib.Hide
namespace Go.Proofs.Ytdmkceaonfbebaa.FracSCmp
open Go.RowKit FracMath FracGcd FracValid FracOps

theorem wr {x : Int} (h1 : -4000000000000000000 ≤ x) (h2 : x ≤ 4000000000000000000) : IntKind.i64.wrap x = x := IntWalk.i64_in _ (by omega)

set_option maxHeartbeats 2000000 in
theorem cmp_s (a b c d : Int) (w : World) :
    Calls Try.prog 17 #[.agg #[.int .i64 a, .int .i64 b], .agg #[.int .i64 c, .int .i64 d]] w (IsInt (cmpI a b c d) w) := by
  cases h1 : okB a b with
  | false =>
    rw [show cmpI a b c d = 2 by simp [cmpI, h1]]
    have H1 := Lib.hid h1
    clear h1
    go_enter Try.func17, Try.ntmps17
    go_wp2_with fail
    refine (ok_s a b _).mono ?_
    rintro e w1 ⟨rfl, hb1⟩
    rw [H1.out]
    obtain ⟨hc1, hf1⟩ := BelowKit.bcell hb1
    have hz1 := hb1.size
    try simp at hz1
    have HB1 := Lib.hid hb1
    clear hb1
    go_wp2
    go_ret
    exact ⟨rfl, by (repeat (first | exact Below.refl _ _ | apply BelowKit.bl_alloc | apply BelowKit.bl_drewN | apply BelowKit.bl_drew | (refine BelowKit.bl_set ?_ _ ?_; rotate_left; (first | omega | (simp; omega) | simp)) | (refine BelowKit.bl_trans ?_ (‹Hid (Below _ _ _)›).out)))⟩
  | true =>
    cases h2 : okB c d with
    | false =>
      rw [show cmpI a b c d = 2 by simp [cmpI, h2]]
      have H1 := Lib.hid h1
      have H2 := Lib.hid h2
      clear h1 h2
      go_enter Try.func17, Try.ntmps17
      go_wp2_with fail
      refine (ok_s a b _).mono ?_
      rintro e w1 ⟨rfl, hb1⟩
      rw [H1.out]
      obtain ⟨hc1, hf1⟩ := BelowKit.bcell hb1
      have hz1 := hb1.size
      try simp at hz1
      have HB1 := Lib.hid hb1
      clear hb1
      go_wp2_with fail
      refine (ok_s c d _).mono ?_
      rintro e w2 ⟨rfl, hb2⟩
      rw [H2.out]
      replace hb2 := BelowKit.bl_trans HB1.out hb2
      clear hc1 hf1 hz1 HB1
      obtain ⟨hc2, hf2⟩ := BelowKit.bcell hb2
      have hz2 := hb2.size
      try simp at hz2
      have HB2 := Lib.hid hb2
      clear hb2
      go_wp2
      go_ret
      exact ⟨rfl, by (repeat (first | exact Below.refl _ _ | apply BelowKit.bl_alloc | apply BelowKit.bl_drewN | apply BelowKit.bl_drew | (refine BelowKit.bl_set ?_ _ ?_; rotate_left; (first | omega | (simp; omega) | simp)) | (refine BelowKit.bl_trans ?_ (‹Hid (Below _ _ _)›).out)))⟩
    | true =>
      obtain ⟨⟨s1, s2⟩, ⟨s3, s4⟩, s5, s6⟩ := sum_bd h1 h2
      have hn : -c * b = -(c * b) := Int.neg_mul c b
      have E : (a * d < c * b ∧ cmpI a b c d = -1) ∨ (c * b < a * d ∧ cmpI a b c d = 1) ∨ (a * d = c * b ∧ cmpI a b c d = 0) := by
        have e : cmpI a b c d = sgnI (a * d + -c * b) := by simp [cmpI, h1, h2]
        rw [e, hn]
        unfold sgnI
        rcases Int.lt_trichotomy (a * d) (c * b) with h | h | h
        · exact .inl ⟨h, by rw [if_pos (by omega)]⟩
        · exact .inr (.inr ⟨h, by rw [if_neg (by omega), if_neg (by omega)]⟩)
        · exact .inr (.inl ⟨h, by rw [if_neg (by omega), if_pos (by omega)]⟩)
      have W1 : IntKind.i64.wrap (a * d) = a * d := wr (by omega) (by omega)
      have W2 : IntKind.i64.wrap (c * b) = c * b := wr (by omega) (by omega)
      have H1 := Lib.hid h1
      have H2 := Lib.hid h2
      clear h1 h2 hn
      obtain ⟨X, hX⟩ : ∃ X : Int, a * d = X := ⟨_, rfl⟩
      obtain ⟨Y, hY⟩ : ∃ Y : Int, c * b = Y := ⟨_, rfl⟩
      rw [hX] at W1 E s1 s2
      rw [hY] at W2 E s3 s4
      rcases E with ⟨E, e0⟩ | ⟨E, e0⟩ | ⟨E, e0⟩
      all_goals
        first | subst E | skip
        rw [e0]
        clear e0
        go_enter Try.func17, Try.ntmps17
        go_wp2_with fail
        refine (ok_s a b _).mono ?_
        rintro e w1 ⟨rfl, hb1⟩
        rw [H1.out]
        obtain ⟨hc1, hf1⟩ := BelowKit.bcell hb1
        have hz1 := hb1.size
        try simp at hz1
        have HB1 := Lib.hid hb1
        clear hb1
        go_wp2_with fail
        refine (ok_s c d _).mono ?_
        rintro e w2 ⟨rfl, hb2⟩
        rw [H2.out]
        replace hb2 := BelowKit.bl_trans HB1.out hb2
        clear hc1 hf1 hz1 HB1
        obtain ⟨hc2, hf2⟩ := BelowKit.bcell hb2
        have hz2 := hb2.size
        try simp at hz2
        have HB2 := Lib.hid hb2
        clear hb2
        go_wp2
        go_ret
        exact ⟨rfl, by (repeat (first | exact Below.refl _ _ | apply BelowKit.bl_alloc | apply BelowKit.bl_drewN | apply BelowKit.bl_drew | (refine BelowKit.bl_set ?_ _ ?_; rotate_left; (first | omega | (simp; omega) | simp)) | (refine BelowKit.bl_trans ?_ (‹Hid (Below _ _ _)›).out)))⟩
end Go.Proofs.Ytdmkceaonfbebaa.FracSCmp

/- The contract of the program's RoundFrac: the plain function rndR. -/
import Derived.Test.YtkfgflmhefbinaaRoundI
namespace Go.Proofs.Ytkfgflmhefbinaa.RoundF
open Go.RowKit FracMath RoundMath FracGcd FracValid FracOps RoundI

/-- The rounded number and true; or 0 and false. -/
def rndR (n d m : Int) : Int × Bool := if okB n d = true ∧ 1 ≤ m ∧ m ≤ 4 then (rnd n d m, true) else (0, false)
def IsRnd (r : Int × Bool) (w : World) (e : Ending) (w' : World) : Prop := e = .returned (.tuple #[.int .i64 r.1, .bool r.2]) ∧ Below w.heap.size w w'
theorem rndR_no1 {n d m : Int} (h : okB n d = false) : rndR n d m = (0, false) := by simp [rndR, h]
theorem rndR_no2 {n d m : Int} (h : ¬ (1 ≤ m ∧ m ≤ 4)) : rndR n d m = (0, false) := by unfold rndR; rw [if_neg (fun k => h k.2)]
theorem rndR_yes {n d m : Int} (h : okB n d = true) (h1 : 1 ≤ m) (h2 : m ≤ 4) : rndR n d m = (rnd n d m, true) := by unfold rndR; rw [if_pos ⟨h, h1, h2⟩]
theorem tup_eq {a b : Int} {x : Bool} (h : a = b) : Ending.returned (.tuple #[.int .i64 a, .bool x]) = .returned (.tuple #[.int .i64 b, .bool x]) := by rw [h]

set_option maxHeartbeats 1000000 in
theorem round_i (n d m : Int) (w : World) :
    Calls Try.prog 60 #[.agg #[.int .i64 n, .int .i64 d], .int .i64 m] w (IsRnd (rndR n d m) w) := by
  cases h1 : okB n d with
  | false =>
    rw [rndR_no1 h1]
    have H1 := Lib.hid h1
    clear h1
    go_enter Try.func60, Try.ntmps60
    go_wp2_with fail
    refine (valid_i n d _).mono ?_
    rintro e w1 ⟨rfl, hb1⟩
    rw [H1.out]
    obtain ⟨hc1, hf1⟩ := BelowKit.bcell hb1
    have HB1 := Lib.hid hb1
    clear hb1
    go_wp2
    go_ret2
    exact ⟨rfl, by (repeat (first | exact Below.refl _ _ | apply BelowKit.bl_alloc | apply BelowKit.bl_drewN | apply BelowKit.bl_drew | (refine BelowKit.bl_set ?_ _ ?_; rotate_left; (first | omega | (simp; omega) | simp)) | (refine BelowKit.bl_trans ?_ (‹Hid (Below _ _ _)›).out)))⟩
  | true =>
    have H1 := Lib.hid h1
    obtain ⟨k1, k2, k3, k4⟩ := ok_bd h1
    by_cases c1 : m = 1
    · subst c1
      rw [rndR_yes h1 (by omega) (by omega)]
      clear h1
      go_enter Try.func60, Try.ntmps60
      go_wp2_with fail
      refine (valid_i n d _).mono ?_
      rintro e w1 ⟨rfl, hb1⟩
      rw [H1.out]
      obtain ⟨hc1, hf1⟩ := BelowKit.bcell hb1
      have hz1 := hb1.size
      try simp at hz1
      have HB1 := Lib.hid hb1
      clear hb1
      go_wp2_with fail
      refine (floor_i n d _ _ rfl (by omega) (by omega) (by omega) (by omega)).mono ?_
      rintro e w2 ⟨rfl, hb2⟩
      have HB2 := Lib.hid hb2
      clear hb2
      go_wp2
      go_ret2
      exact ⟨rfl, by (repeat (first | exact Below.refl _ _ | apply BelowKit.bl_alloc | apply BelowKit.bl_drewN | apply BelowKit.bl_drew | (refine BelowKit.bl_set ?_ _ ?_; rotate_left; (first | omega | (simp; omega) | simp)) | (refine BelowKit.bl_trans ?_ (‹Hid (Below _ _ _)›).out)))⟩
    · have b1 : (m == 1) = false := by rw [beq_eq_false_iff_ne]; exact c1
      by_cases c2 : m = 2
      · subst c2
        rw [rndR_yes h1 (by omega) (by omega), rnd2 (by omega)]
        have hq := div_bd (n := -n) (d := d) (B := 1000000000000) (by omega) (by omega) (by omega) (by omega)
        obtain ⟨q, hq2⟩ : ∃ q, -n / d = q := ⟨_, rfl⟩
        rw [hq2] at hq ⊢
        obtain ⟨q1, q2⟩ := hq
        have HQ := Lib.hid hq2
        clear h1 hq2 c1
        go_enter Try.func60, Try.ntmps60
        go_wp2_with fail
        refine (valid_i n d _).mono ?_
        rintro e w1 ⟨rfl, hb1⟩
        rw [H1.out]
        obtain ⟨hc1, hf1⟩ := BelowKit.bcell hb1
        have hz1 := hb1.size
        try simp at hz1
        have HB1 := Lib.hid hb1
        clear hb1
        go_wp2_with fail
        refine (neg_i n d _ (by omega) (by omega)).mono ?_
        rintro e w2 ⟨rfl, hb2⟩
        replace hb2 := BelowKit.bl_trans HB1.out hb2
        clear hc1 hf1 hz1 HB1
        obtain ⟨hc2, hf2⟩ := BelowKit.bcell hb2
        have hz2 := hb2.size
        try simp at hz2
        have HB2 := Lib.hid hb2
        clear hb2
        go_wp2_with fail
        refine (floor_i (-n) d q _ HQ.out (by omega) (by omega) (by omega) (by omega)).mono ?_
        rintro e w3 ⟨rfl, hb3⟩
        have HB3 := Lib.hid hb3
        clear hb3
        go_wp2
        go_ret2
        exact ⟨rfl, by (repeat (first | exact Below.refl _ _ | apply BelowKit.bl_alloc | apply BelowKit.bl_drewN | apply BelowKit.bl_drew | (refine BelowKit.bl_set ?_ _ ?_; rotate_left; (first | omega | (simp; omega) | simp)) | (refine BelowKit.bl_trans ?_ (‹Hid (Below _ _ _)›).out)))⟩
      · have b2 : (m == 2) = false := by rw [beq_eq_false_iff_ne]; exact c2
        by_cases c3 : m = 3
        · subst c3
          rw [rndR_yes h1 (by omega) (by omega), rnd3 (by omega)]
          clear h1 c1 c2 b1 b2
          go_enter Try.func60, Try.ntmps60
          go_wp2_with fail
          refine (valid_i n d _).mono ?_
          rintro e w1 ⟨rfl, hb1⟩
          rw [H1.out]
          obtain ⟨hc1, hf1⟩ := BelowKit.bcell hb1
          have hz1 := hb1.size
          try simp at hz1
          have HB1 := Lib.hid hb1
          clear hb1
          go_wp2_with fail
          refine (nearest_i n d _ _ rfl (by omega) (by omega) (by omega) (by omega)).mono ?_
          rintro e w2 ⟨rfl, hb2⟩
          have HB2 := Lib.hid hb2
          clear hb2
          go_wp2
          go_ret2
          exact ⟨rfl, by (repeat (first | exact Below.refl _ _ | apply BelowKit.bl_alloc | apply BelowKit.bl_drewN | apply BelowKit.bl_drew | (refine BelowKit.bl_set ?_ _ ?_; rotate_left; (first | omega | (simp; omega) | simp)) | (refine BelowKit.bl_trans ?_ (‹Hid (Below _ _ _)›).out)))⟩
        · have b3 : (m == 3) = false := by rw [beq_eq_false_iff_ne]; exact c3
          by_cases c4 : m = 4
          · subst c4
            rw [rndR_yes h1 (by omega) (by omega)]
            clear h1 c1 c2 c3 b1 b2 b3
            go_enter Try.func60, Try.ntmps60
            go_wp2_with fail
            refine (valid_i n d _).mono ?_
            rintro e w1 ⟨rfl, hb1⟩
            rw [H1.out]
            obtain ⟨hc1, hf1⟩ := BelowKit.bcell hb1
            have hz1 := hb1.size
            try simp at hz1
            have HB1 := Lib.hid hb1
            clear hb1
            go_wp2_with fail
            refine (even_i n d _ H1.out).mono ?_
            rintro e w2 ⟨rfl, hb2⟩
            have HB2 := Lib.hid hb2
            clear hb2
            go_wp2
            go_ret2
            exact ⟨rfl, by (repeat (first | exact Below.refl _ _ | apply BelowKit.bl_alloc | apply BelowKit.bl_drewN | apply BelowKit.bl_drew | (refine BelowKit.bl_set ?_ _ ?_; rotate_left; (first | omega | (simp; omega) | simp)) | (refine BelowKit.bl_trans ?_ (‹Hid (Below _ _ _)›).out)))⟩
          · have b4 : (m == 4) = false := by rw [beq_eq_false_iff_ne]; exact c4
            rw [rndR_no2 (by omega)]
            clear h1
            go_enter Try.func60, Try.ntmps60
            go_wp2_with fail
            refine (valid_i n d _).mono ?_
            rintro e w1 ⟨rfl, hb1⟩
            rw [H1.out]
            obtain ⟨hc1, hf1⟩ := BelowKit.bcell hb1
            have HB1 := Lib.hid hb1
            clear hb1
            go_wp2
            go_ret2
            exact ⟨rfl, by (repeat (first | exact Below.refl _ _ | apply BelowKit.bl_alloc | apply BelowKit.bl_drewN | apply BelowKit.bl_drew | (refine BelowKit.bl_set ?_ _ ?_; rotate_left; (first | omega | (simp; omega) | simp)) | (refine BelowKit.bl_trans ?_ (‹Hid (Below _ _ _)›).out)))⟩
end Go.Proofs.Ytkfgflmhefbinaa.RoundF

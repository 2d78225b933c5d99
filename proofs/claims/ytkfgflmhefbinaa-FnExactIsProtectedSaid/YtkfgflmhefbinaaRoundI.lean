/- Contracts of the program's roundings: the same numbers as the plain functions of RoundMath, in new memory. -/
import Derived.Test.YtkfgflmhefbinaaRows
import Derived.Test.YtkfgflmhefbinaaKit
import Derived.Test.YtkfgflmhefbinaaRoundMath
import Derived.Test.YtkfgflmhefbinaaFracGcd
import Derived.Test.YtkfgflmhefbinaaFracValid
import Derived.Test.YtkfgflmhefbinaaFracOps
import Derived.WalkKit
import Derived.Below
import Derived.WalkSmall
import Derived.BigQuiet
import Derived.Lib.Hide
namespace Go.Proofs.Ytkfgflmhefbinaa.RoundI
open Go.RowKit FracMath RoundMath FracGcd FracValid FracOps

theorem wr {x : Int} (h1 : -4000000000000000000 ≤ x) (h2 : x ≤ 4000000000000000000) : IntKind.i64.wrap x = x := IntWalk.i64_in _ (by omega)
theorem int_eq {a b : Int} (h : a = b) : Ending.returned (.int .i64 a) = .returned (.int .i64 b) := by rw [h]

set_option maxHeartbeats 1000000 in
theorem floor_i (n d q : Int) (w : World) (h : n / d = q) (h1 : -4000000000000000000 ≤ n) (h2 : n ≤ 4000000000000000000) (h3 : 1 ≤ d) (h4 : d ≤ 4000000000000000000) :
    Calls Try.prog 96 #[.agg #[.int .i64 n, .int .i64 d]] w (IsInt q w) := by
  have b := tdiv_bd n d 4000000000000000000 h1 h2
  obtain ⟨b1, b2⟩ := b
  have hd0 : ¬ d = 0 := by omega
  have hdb : (d == 0) = false := by rw [beq_eq_false_iff_ne]; omega
  by_cases c : n.tmod d < 0
  · have e := Lib.hid ((flr_yes (by omega) c).trans h)
    clear h
    go_enter Try.func96, Try.ntmps96
    go_wp2
    go_ret
    exact ⟨int_eq e.out, by (repeat (first | exact Below.refl _ _ | apply BelowKit.bl_alloc | apply BelowKit.bl_drewN | apply BelowKit.bl_drew | (refine BelowKit.bl_set ?_ _ ?_; rotate_left; (first | omega | (simp; omega) | simp)) | (refine BelowKit.bl_trans ?_ (‹Hid (Below _ _ _)›).out)))⟩
  · have e := Lib.hid ((flr_no (by omega) c).trans h)
    clear h
    go_enter Try.func96, Try.ntmps96
    go_wp2
    go_ret
    exact ⟨int_eq e.out, by (repeat (first | exact Below.refl _ _ | apply BelowKit.bl_alloc | apply BelowKit.bl_drewN | apply BelowKit.bl_drew | (refine BelowKit.bl_set ?_ _ ?_; rotate_left; (first | omega | (simp; omega) | simp)) | (refine BelowKit.bl_trans ?_ (‹Hid (Below _ _ _)›).out)))⟩

/-- The floor of a valid fraction; else 0. -/
def flo (n d : Int) : Int := if okB n d = true then n / d else 0

set_option maxHeartbeats 1000000 in
theorem nearest_i (n d q : Int) (w : World) (h : (n * 2 + d) / (d * 2) = q) (h1 : -1000000000000000000 ≤ n) (h2 : n ≤ 1000000000000000000) (h3 : 1 ≤ d) (h4 : d ≤ 1000000000000000000) :
    Calls Try.prog 98 #[.agg #[.int .i64 n, .int .i64 d]] w (IsInt q w) := by
  have HQ := Lib.hid h
  have W1 := Lib.hid (show IntKind.i64.wrap (n * 2 + 1 * d) = n * 2 + d by rw [wr (by omega) (by omega), Int.one_mul])
  have W2 := Lib.hid (wr (x := n * 2) (by omega) (by omega))
  have W3 := Lib.hid (wr (x := 1 * d) (by omega) (by omega))
  have W4 := Lib.hid (wr (x := d * 2) (by omega) (by omega))
  clear h
  go_enter Try.func98, Try.ntmps98
  go_wp2_with fail
  refine (plus_i n d 1 2 _ _ _ W1.out W2.out W3.out W4.out).mono ?_
  rintro e w1 ⟨rfl, hb1⟩
  obtain ⟨hc1, hf1⟩ := BelowKit.bcell hb1
  have hz1 := hb1.size
  try simp at hz1
  have HB1 := Lib.hid hb1
  clear hb1
  go_wp2_with fail
  refine (floor_i _ _ q _ HQ.out (by omega) (by omega) (by omega) (by omega)).mono ?_
  rintro e w2 ⟨rfl, hb2⟩
  have HB2 := Lib.hid hb2
  clear hb2
  go_wp2
  go_ret
  exact ⟨rfl, by (repeat (first | exact Below.refl _ _ | apply BelowKit.bl_alloc | apply BelowKit.bl_drewN | apply BelowKit.bl_drew | (refine BelowKit.bl_set ?_ _ ?_; rotate_left; (first | omega | (simp; omega) | simp)) | (refine BelowKit.bl_trans ?_ (‹Hid (Below _ _ _)›).out)))⟩

set_option maxHeartbeats 1000000 in
theorem even_i (n d : Int) (w : World) (h : okB n d = true) :
    Calls Try.prog 99 #[.agg #[.int .i64 n, .int .i64 d]] w (IsInt (rnd n d 4) w) := by
  obtain ⟨k1, k2, k3, k4⟩ := ok_bd h
  have hb := div_bd (n := n * 2 + d) (d := d * 2) (B := 4000000000000) (by omega) (by omega) (by omega) (by omega)
  have he := rnd4 (n := n) (d := d) (by omega) (okB_iff.1 h).2.2
  obtain ⟨q, hq⟩ : ∃ q, (n * 2 + d) / (d * 2) = q := ⟨_, rfl⟩
  rw [hq] at hb he
  obtain ⟨b1, b2⟩ := hb
  have HQ := Lib.hid hq
  clear hq h
  by_cases c : d = 2
  · subst c
    by_cases o : q.tmod 2 = 0
    · rw [if_neg (fun h => h.2 o)] at he
      rw [he]
      clear he
      have ob : (q.tmod 2 == 0) = true := by rw [o]; rfl
      have on : (q.tmod 2 != 0) = false := by rw [o]; rfl
      have ob2 : (q % 2 == 0) = true := by rw [beq_iff_eq, ← Int.dvd_iff_emod_eq_zero, Int.dvd_iff_tmod_eq_zero]; exact o
      clear o
      go_enter Try.func99, Try.ntmps99
      go_wp2_with fail
      refine (nearest_i n 2 q _ HQ.out (by omega) (by omega) (by omega) (by omega)).mono ?_
      rintro e w1 ⟨rfl, hb1⟩
      obtain ⟨hc1, hf1⟩ := BelowKit.bcell hb1
      have hz1 := hb1.size
      try simp at hz1
      have HB1 := Lib.hid hb1
      clear hb1
      go_wp2
      go_ret
      exact ⟨rfl, by (repeat (first | exact Below.refl _ _ | apply BelowKit.bl_alloc | apply BelowKit.bl_drewN | apply BelowKit.bl_drew | (refine BelowKit.bl_set ?_ _ ?_; rotate_left; (first | omega | (simp; omega) | simp)) | (refine BelowKit.bl_trans ?_ (‹Hid (Below _ _ _)›).out)))⟩
    · rw [if_pos ⟨rfl, o⟩] at he
      rw [he]
      clear he
      have ob : (q.tmod 2 == 0) = false := by rw [beq_eq_false_iff_ne]; exact o
      have on : (q.tmod 2 != 0) = true := by rw [bne_iff_ne]; exact o
      clear o
      go_enter Try.func99, Try.ntmps99
      go_wp2_with fail
      refine (nearest_i n 2 q _ HQ.out (by omega) (by omega) (by omega) (by omega)).mono ?_
      rintro e w1 ⟨rfl, hb1⟩
      obtain ⟨hc1, hf1⟩ := BelowKit.bcell hb1
      have hz1 := hb1.size
      try simp at hz1
      have HB1 := Lib.hid hb1
      clear hb1
      go_wp2
      go_ret
      exact ⟨rfl, by (repeat (first | exact Below.refl _ _ | apply BelowKit.bl_alloc | apply BelowKit.bl_drewN | apply BelowKit.bl_drew | (refine BelowKit.bl_set ?_ _ ?_; rotate_left; (first | omega | (simp; omega) | simp)) | (refine BelowKit.bl_trans ?_ (‹Hid (Below _ _ _)›).out)))⟩
  · rw [if_neg (fun h => c h.1)] at he
    rw [he]
    clear he
    have cb : (d == 2) = false := by rw [beq_eq_false_iff_ne]; exact c
    go_enter Try.func99, Try.ntmps99
    go_wp2_with fail
    refine (nearest_i n d q _ HQ.out (by omega) (by omega) (by omega) (by omega)).mono ?_
    rintro e w1 ⟨rfl, hb1⟩
    obtain ⟨hc1, hf1⟩ := BelowKit.bcell hb1
    have hz1 := hb1.size
    try simp at hz1
    have HB1 := Lib.hid hb1
    clear hb1
    go_wp2
    go_ret
    exact ⟨rfl, by (repeat (first | exact Below.refl _ _ | apply BelowKit.bl_alloc | apply BelowKit.bl_drewN | apply BelowKit.bl_drew | (refine BelowKit.bl_set ?_ _ ?_; rotate_left; (first | omega | (simp; omega) | simp)) | (refine BelowKit.bl_trans ?_ (‹Hid (Below _ _ _)›).out)))⟩
end Go.Proofs.Ytkfgflmhefbinaa.RoundI

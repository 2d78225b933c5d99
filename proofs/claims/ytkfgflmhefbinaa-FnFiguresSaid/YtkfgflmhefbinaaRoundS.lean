/- Contracts of the model's roundings: the plain functions flo and rndR. -/
import Derived.Test.YtkfgflmhefbinaaRoundC
import Derived.Test.YtkfgflmhefbinaaKit
namespace Go.Proofs.Ytkfgflmhefbinaa.RoundS
open Go.RowKit FracMath RoundMath FracGcd FracValid FracOps RoundI RoundF

set_option maxHeartbeats 1000000 in
theorem floorfrac_s (n d : Int) (w : World) :
    Calls Try.prog 65 #[.agg #[.int .i64 n, .int .i64 d]] w (IsInt (flo n d) w) := by
  cases h1 : okB n d with
  | false =>
    rw [show flo n d = 0 by simp [flo, h1]]
    have H1 := Lib.hid h1
    clear h1
    go_enter Try.func65, Try.ntmps65
    go_wp2_with fail
    refine (ok_s n d _).mono ?_
    rintro e w1 ⟨rfl, hb1⟩
    rw [H1.out]
    obtain ⟨hc1, hf1⟩ := BelowKit.bcell hb1
    have HB1 := Lib.hid hb1
    clear hb1
    go_wp2
    go_ret
    exact ⟨rfl, by (repeat (first | exact Below.refl _ _ | apply BelowKit.bl_alloc | apply BelowKit.bl_drewN | apply BelowKit.bl_drew | (refine BelowKit.bl_set ?_ _ ?_; rotate_left; (first | omega | (simp; omega) | simp)) | (refine BelowKit.bl_trans ?_ (‹Hid (Below _ _ _)›).out)))⟩
  | true =>
    rw [show flo n d = n / d by simp [flo, h1]]
    obtain ⟨k1, k2, k3, k4⟩ := ok_bd h1
    have H1 := Lib.hid h1
    obtain ⟨b1, b2⟩ := tdiv_bd n d 1000000000000 k3 k4
    have hd0 : ¬ d = 0 := by omega
    have hdb : (d == 0) = false := by rw [beq_eq_false_iff_ne]; omega
    clear h1
    have hneg : n.tmod d < 0 ↔ n < 0 ∧ ¬ n.tmod d = 0 := by
      have e1 := Int.tdiv_mul_add_tmod n d
      constructor
      · intro h
        refine ⟨?_, by omega⟩
        have := Int.tmod_nonneg d (a := n)
        omega
      · rintro ⟨h, h0⟩
        have := Int.tmod_nonneg d (a := -n) (by omega)
        rw [Int.neg_tmod] at this
        omega
    by_cases c : n < 0
    · by_cases o : n.tmod d = 0
      · have E := Lib.hid (flr_no (n := n) (d := d) (by omega) (by omega))
        have ob : (n.tmod d != 0) = false := by rw [o]; rfl
        clear hneg o
        go_enter Try.func65, Try.ntmps65
        go_wp2_with fail
        refine (ok_s n d _).mono ?_
        rintro e w1 ⟨rfl, hb1⟩
        rw [H1.out]
        obtain ⟨hc1, hf1⟩ := BelowKit.bcell hb1
        have hz1 := hb1.size
        try simp at hz1
        have HB1 := Lib.hid hb1
        clear hb1
        go_wp2
        go_ret
        exact ⟨int_eq E.out, by (repeat (first | exact Below.refl _ _ | apply BelowKit.bl_alloc | apply BelowKit.bl_drewN | apply BelowKit.bl_drew | (refine BelowKit.bl_set ?_ _ ?_; rotate_left; (first | omega | (simp; omega) | simp)) | (refine BelowKit.bl_trans ?_ (‹Hid (Below _ _ _)›).out)))⟩
      · have E := Lib.hid (flr_yes (n := n) (d := d) (by omega) (by omega))
        have ob : (n.tmod d != 0) = true := by rw [bne_iff_ne]; exact o
        clear hneg o
        go_enter Try.func65, Try.ntmps65
        go_wp2_with fail
        refine (ok_s n d _).mono ?_
        rintro e w1 ⟨rfl, hb1⟩
        rw [H1.out]
        obtain ⟨hc1, hf1⟩ := BelowKit.bcell hb1
        have hz1 := hb1.size
        try simp at hz1
        have HB1 := Lib.hid hb1
        clear hb1
        go_wp2
        go_ret
        exact ⟨int_eq E.out, by (repeat (first | exact Below.refl _ _ | apply BelowKit.bl_alloc | apply BelowKit.bl_drewN | apply BelowKit.bl_drew | (refine BelowKit.bl_set ?_ _ ?_; rotate_left; (first | omega | (simp; omega) | simp)) | (refine BelowKit.bl_trans ?_ (‹Hid (Below _ _ _)›).out)))⟩
    · have E := Lib.hid (flr_no (n := n) (d := d) (by omega) (by omega))
      have cb : decide (n < 0) = false := by simpa using c
      clear hneg
      go_enter Try.func65, Try.ntmps65
      go_wp2_with fail
      refine (ok_s n d _).mono ?_
      rintro e w1 ⟨rfl, hb1⟩
      rw [H1.out]
      obtain ⟨hc1, hf1⟩ := BelowKit.bcell hb1
      have hz1 := hb1.size
      try simp at hz1
      have HB1 := Lib.hid hb1
      clear hb1
      go_wp2
      go_ret
      exact ⟨int_eq (by first | exact E.out | rfl), by (repeat (first | exact Below.refl _ _ | apply BelowKit.bl_alloc | apply BelowKit.bl_drewN | apply BelowKit.bl_drew | (refine BelowKit.bl_set ?_ _ ?_; rotate_left; (first | omega | (simp; omega) | simp)) | (refine BelowKit.bl_trans ?_ (‹Hid (Below _ _ _)›).out)))⟩
set_option maxHeartbeats 8000000 in
theorem round_s (n d m : Int) (w : World) :
    Calls Try.prog 26 #[.agg #[.int .i64 n, .int .i64 d], .int .i64 m] w (IsRnd (rndR n d m) w) := by
  cases h1 : okB n d with
  | false =>
    rw [rndR_no1 h1]
    have H1 := Lib.hid h1
    clear h1
    go_enter Try.func26, Try.ntmps26
    go_wp2_with fail
    refine (ok_s n d _).mono ?_
    rintro e w1 ⟨rfl, hb1⟩
    rw [H1.out]
    obtain ⟨hc1, hf1⟩ := BelowKit.bcell hb1
    have hz1 := hb1.size
    try simp at hz1
    have HB1 := Lib.hid hb1
    clear hb1
    go_wp2
    go_ret2
    exact ⟨rfl, by (repeat (first | exact Below.refl _ _ | apply BelowKit.bl_alloc | apply BelowKit.bl_drewN | apply BelowKit.bl_drew | (refine BelowKit.bl_set ?_ _ ?_; rotate_left; (first | omega | (simp; omega) | simp)) | (refine BelowKit.bl_trans ?_ (‹Hid (Below _ _ _)›).out)))⟩
  | true =>
    have H1 := Lib.hid h1
    obtain ⟨k1, k2, k3, k4⟩ := ok_bd h1
    by_cases hm : 1 ≤ m ∧ m ≤ 4
    · have HM := Lib.hid (inB_yes hm.1 hm.2)
      obtain ⟨m1, m2⟩ := hm
      rw [rndR_yes h1 m1 m2]
      have hq := div_bd (n := n) (d := d) (B := 1000000000000) (by omega) (by omega) k3 k4
      have hr := rst_bd n (d := d) (by omega)
      have he := rst_eq n d
      have hF : flo n d = n / d := by simp [flo, h1]
      have hR : rnd n d m = if m = 1 then n / d else if m = 2 then (if 0 < rst n d then n / d + 1 else n / d) else if m = 3 then (if d ≤ 2 * rst n d then n / d + 1 else n / d) else (if d < 2 * rst n d ∨ (2 * rst n d = d ∧ n / d % 2 = 1) then n / d + 1 else n / d) := rfl
      obtain ⟨q, hq2⟩ : ∃ q, n / d = q := ⟨_, rfl⟩
      obtain ⟨r, hr2⟩ : ∃ r, rst n d = r := ⟨_, rfl⟩
      rw [hq2] at hq he hF hR
      rw [hr2] at hr he hR
      have HF := Lib.hid hF
      have W1 : IntKind.i64.wrap (q * d) = q * d := wr (by omega) (by omega)
      have W2 : IntKind.i64.wrap (n - q * d) = r := by rw [wr (by omega) (by omega)]; omega
      obtain ⟨q1, q2⟩ := hq
      obtain ⟨r1, r2⟩ := hr
      have HA := Lib.hid (and_one q)
      clear h1 hq2 hr2 he hF
      by_cases c1 : m = 1
      · subst c1
        rw [if_pos rfl] at hR
        rw [hR]
        clear hR m1 m2
        go_enter Try.func26, Try.ntmps26
        go_wp2_with fail
        refine (ok_s n d _).mono ?_
        rintro e w1 ⟨rfl, hb1⟩
        rw [H1.out]
        obtain ⟨hc1, hf1⟩ := BelowKit.bcell hb1
        have hz1 := hb1.size
        try simp at hz1
        have HB1 := Lib.hid hb1
        clear hb1
        go_wp2_with fail
        refine (in_s' _ 1 4 _ true HM.out).mono ?_
        rintro e w2 ⟨rfl, rfl⟩
        go_wp2_with fail
        refine (floorfrac_s n d _).mono ?_
        rintro e w2 ⟨rfl, hb2⟩
        rw [HF.out]
        replace hb2 := BelowKit.bl_trans HB1.out hb2
        clear hc1 hf1 hz1 HB1
        obtain ⟨hc2, hf2⟩ := BelowKit.bcell hb2
        have hz2 := hb2.size
        try simp at hz2
        have HB2 := Lib.hid hb2
        clear hb2
        go_wp2
        go_ret2
        exact ⟨rfl, by (repeat (first | exact Below.refl _ _ | apply BelowKit.bl_alloc | apply BelowKit.bl_drewN | apply BelowKit.bl_drew | (refine BelowKit.bl_set ?_ _ ?_; rotate_left; (first | omega | (simp; omega) | simp)) | (refine BelowKit.bl_trans ?_ (‹Hid (Below _ _ _)›).out)))⟩
      · have b1 : (m == 1) = false := by rw [beq_eq_false_iff_ne]; exact c1
        by_cases c2 : m = 2
        · subst c2
          rw [if_neg (by omega), if_pos rfl] at hR
          by_cases o : 0 < r
          · rw [if_pos o] at hR
            rw [hR]
            clear hR m1 m2 c1 b1
            go_enter Try.func26, Try.ntmps26
            go_wp2_with fail
            refine (ok_s n d _).mono ?_
            rintro e w1 ⟨rfl, hb1⟩
            rw [H1.out]
            obtain ⟨hc1, hf1⟩ := BelowKit.bcell hb1
            have hz1 := hb1.size
            try simp at hz1
            have HB1 := Lib.hid hb1
            clear hb1
            go_wp2_with fail
            refine (in_s' _ 1 4 _ true HM.out).mono ?_
            rintro e w2 ⟨rfl, rfl⟩
            go_wp2_with fail
            refine (floorfrac_s n d _).mono ?_
            rintro e w2 ⟨rfl, hb2⟩
            rw [HF.out]
            replace hb2 := BelowKit.bl_trans HB1.out hb2
            clear hc1 hf1 hz1 HB1
            obtain ⟨hc2, hf2⟩ := BelowKit.bcell hb2
            have hz2 := hb2.size
            try simp at hz2
            have HB2 := Lib.hid hb2
            clear hb2
            go_wp2
            go_ret2
            exact ⟨rfl, by (repeat (first | exact Below.refl _ _ | apply BelowKit.bl_alloc | apply BelowKit.bl_drewN | apply BelowKit.bl_drew | (refine BelowKit.bl_set ?_ _ ?_; rotate_left; (first | omega | (simp; omega) | simp)) | (refine BelowKit.bl_trans ?_ (‹Hid (Below _ _ _)›).out)))⟩
          · rw [if_neg o] at hR
            rw [hR]
            clear hR m1 m2 c1 b1
            go_enter Try.func26, Try.ntmps26
            go_wp2_with fail
            refine (ok_s n d _).mono ?_
            rintro e w1 ⟨rfl, hb1⟩
            rw [H1.out]
            obtain ⟨hc1, hf1⟩ := BelowKit.bcell hb1
            have hz1 := hb1.size
            try simp at hz1
            have HB1 := Lib.hid hb1
            clear hb1
            go_wp2_with fail
            refine (in_s' _ 1 4 _ true HM.out).mono ?_
            rintro e w2 ⟨rfl, rfl⟩
            go_wp2_with fail
            refine (floorfrac_s n d _).mono ?_
            rintro e w2 ⟨rfl, hb2⟩
            rw [HF.out]
            replace hb2 := BelowKit.bl_trans HB1.out hb2
            clear hc1 hf1 hz1 HB1
            obtain ⟨hc2, hf2⟩ := BelowKit.bcell hb2
            have hz2 := hb2.size
            try simp at hz2
            have HB2 := Lib.hid hb2
            clear hb2
            go_wp2
            go_ret2
            exact ⟨rfl, by (repeat (first | exact Below.refl _ _ | apply BelowKit.bl_alloc | apply BelowKit.bl_drewN | apply BelowKit.bl_drew | (refine BelowKit.bl_set ?_ _ ?_; rotate_left; (first | omega | (simp; omega) | simp)) | (refine BelowKit.bl_trans ?_ (‹Hid (Below _ _ _)›).out)))⟩
        · have b2 : (m == 2) = false := by rw [beq_eq_false_iff_ne]; exact c2
          by_cases c3 : m = 3
          · subst c3
            rw [if_neg (by omega), if_neg (by omega), if_pos rfl] at hR
            by_cases o : d ≤ 2 * r
            · rw [if_pos o] at hR
              rw [hR]
              clear hR m1 m2 c1 b1 c2 b2
              go_enter Try.func26, Try.ntmps26
              go_wp2_with fail
              refine (ok_s n d _).mono ?_
              rintro e w1 ⟨rfl, hb1⟩
              rw [H1.out]
              obtain ⟨hc1, hf1⟩ := BelowKit.bcell hb1
              have hz1 := hb1.size
              try simp at hz1
              have HB1 := Lib.hid hb1
              clear hb1
              go_wp2_with fail
              refine (in_s' _ 1 4 _ true HM.out).mono ?_
              rintro e w2 ⟨rfl, rfl⟩
              go_wp2_with fail
              refine (floorfrac_s n d _).mono ?_
              rintro e w2 ⟨rfl, hb2⟩
              rw [HF.out]
              replace hb2 := BelowKit.bl_trans HB1.out hb2
              clear hc1 hf1 hz1 HB1
              obtain ⟨hc2, hf2⟩ := BelowKit.bcell hb2
              have hz2 := hb2.size
              try simp at hz2
              have HB2 := Lib.hid hb2
              clear hb2
              go_wp2
              go_ret2
              exact ⟨rfl, by (repeat (first | exact Below.refl _ _ | apply BelowKit.bl_alloc | apply BelowKit.bl_drewN | apply BelowKit.bl_drew | (refine BelowKit.bl_set ?_ _ ?_; rotate_left; (first | omega | (simp; omega) | simp)) | (refine BelowKit.bl_trans ?_ (‹Hid (Below _ _ _)›).out)))⟩
            · rw [if_neg o] at hR
              rw [hR]
              clear hR m1 m2 c1 b1 c2 b2
              go_enter Try.func26, Try.ntmps26
              go_wp2_with fail
              refine (ok_s n d _).mono ?_
              rintro e w1 ⟨rfl, hb1⟩
              rw [H1.out]
              obtain ⟨hc1, hf1⟩ := BelowKit.bcell hb1
              have hz1 := hb1.size
              try simp at hz1
              have HB1 := Lib.hid hb1
              clear hb1
              go_wp2_with fail
              refine (in_s' _ 1 4 _ true HM.out).mono ?_
              rintro e w2 ⟨rfl, rfl⟩
              go_wp2_with fail
              refine (floorfrac_s n d _).mono ?_
              rintro e w2 ⟨rfl, hb2⟩
              rw [HF.out]
              replace hb2 := BelowKit.bl_trans HB1.out hb2
              clear hc1 hf1 hz1 HB1
              obtain ⟨hc2, hf2⟩ := BelowKit.bcell hb2
              have hz2 := hb2.size
              try simp at hz2
              have HB2 := Lib.hid hb2
              clear hb2
              go_wp2
              go_ret2
              exact ⟨rfl, by (repeat (first | exact Below.refl _ _ | apply BelowKit.bl_alloc | apply BelowKit.bl_drewN | apply BelowKit.bl_drew | (refine BelowKit.bl_set ?_ _ ?_; rotate_left; (first | omega | (simp; omega) | simp)) | (refine BelowKit.bl_trans ?_ (‹Hid (Below _ _ _)›).out)))⟩
          · obtain rfl : m = 4 := by omega
            rw [if_neg (by omega), if_neg (by omega), if_neg (by omega)] at hR
            clear m1 m2 c1 b1 c2 b2 c3
            by_cases o : d < 2 * r
            · rw [if_pos (Or.inl o)] at hR
              rw [hR]
              clear hR
              go_enter Try.func26, Try.ntmps26
              go_wp2_with fail
              refine (ok_s n d _).mono ?_
              rintro e w1 ⟨rfl, hb1⟩
              rw [H1.out]
              obtain ⟨hc1, hf1⟩ := BelowKit.bcell hb1
              have hz1 := hb1.size
              try simp at hz1
              have HB1 := Lib.hid hb1
              clear hb1
              go_wp2_with fail
              refine (in_s' _ 1 4 _ true HM.out).mono ?_
              rintro e w2 ⟨rfl, rfl⟩
              go_wp2_with fail
              refine (floorfrac_s n d _).mono ?_
              rintro e w2 ⟨rfl, hb2⟩
              rw [HF.out]
              replace hb2 := BelowKit.bl_trans HB1.out hb2
              clear hc1 hf1 hz1 HB1
              obtain ⟨hc2, hf2⟩ := BelowKit.bcell hb2
              have hz2 := hb2.size
              try simp at hz2
              have HB2 := Lib.hid hb2
              clear hb2
              go_wp2
              go_ret2
              exact ⟨rfl, by (repeat (first | exact Below.refl _ _ | apply BelowKit.bl_alloc | apply BelowKit.bl_drewN | apply BelowKit.bl_drew | (refine BelowKit.bl_set ?_ _ ?_; rotate_left; (first | omega | (simp; omega) | simp)) | (refine BelowKit.bl_trans ?_ (‹Hid (Below _ _ _)›).out)))⟩
            · by_cases o2 : 2 * r = d
              · have ob : (2 * r == d) = true := by rw [beq_iff_eq]; exact o2
                have od : decide (d < 2 * r) = false := by simpa using o
                by_cases o3 : q % 2 = 1
                · rw [if_pos (Or.inr ⟨o2, o3⟩)] at hR
                  rw [hR]
                  have oa : (bits .and .i64 q 1 == 1) = true := by rw [HA.out, beq_iff_eq]; exact o3
                  clear hR o2 o3 o
                  go_enter Try.func26, Try.ntmps26
                  go_wp2_with fail
                  refine (ok_s n d _).mono ?_
                  rintro e w1 ⟨rfl, hb1⟩
                  rw [H1.out]
                  obtain ⟨hc1, hf1⟩ := BelowKit.bcell hb1
                  have hz1 := hb1.size
                  try simp at hz1
                  have HB1 := Lib.hid hb1
                  clear hb1
                  go_wp2_with fail
                  refine (in_s' _ 1 4 _ true HM.out).mono ?_
                  rintro e w2 ⟨rfl, rfl⟩
                  go_wp2_with fail
                  refine (floorfrac_s n d _).mono ?_
                  rintro e w2 ⟨rfl, hb2⟩
                  rw [HF.out]
                  replace hb2 := BelowKit.bl_trans HB1.out hb2
                  clear hc1 hf1 hz1 HB1
                  obtain ⟨hc2, hf2⟩ := BelowKit.bcell hb2
                  have hz2 := hb2.size
                  try simp at hz2
                  have HB2 := Lib.hid hb2
                  clear hb2
                  go_wp2
                  go_ret2
                  exact ⟨rfl, by (repeat (first | exact Below.refl _ _ | apply BelowKit.bl_alloc | apply BelowKit.bl_drewN | apply BelowKit.bl_drew | (refine BelowKit.bl_set ?_ _ ?_; rotate_left; (first | omega | (simp; omega) | simp)) | (refine BelowKit.bl_trans ?_ (‹Hid (Below _ _ _)›).out)))⟩
                · rw [if_neg (by omega)] at hR
                  rw [hR]
                  have oa : (bits .and .i64 q 1 == 1) = false := by rw [HA.out, beq_eq_false_iff_ne]; exact o3
                  clear hR o2 o3 o
                  go_enter Try.func26, Try.ntmps26
                  go_wp2_with fail
                  refine (ok_s n d _).mono ?_
                  rintro e w1 ⟨rfl, hb1⟩
                  rw [H1.out]
                  obtain ⟨hc1, hf1⟩ := BelowKit.bcell hb1
                  have hz1 := hb1.size
                  try simp at hz1
                  have HB1 := Lib.hid hb1
                  clear hb1
                  go_wp2_with fail
                  refine (in_s' _ 1 4 _ true HM.out).mono ?_
                  rintro e w2 ⟨rfl, rfl⟩
                  go_wp2_with fail
                  refine (floorfrac_s n d _).mono ?_
                  rintro e w2 ⟨rfl, hb2⟩
                  rw [HF.out]
                  replace hb2 := BelowKit.bl_trans HB1.out hb2
                  clear hc1 hf1 hz1 HB1
                  obtain ⟨hc2, hf2⟩ := BelowKit.bcell hb2
                  have hz2 := hb2.size
                  try simp at hz2
                  have HB2 := Lib.hid hb2
                  clear hb2
                  go_wp2
                  go_ret2
                  exact ⟨rfl, by (repeat (first | exact Below.refl _ _ | apply BelowKit.bl_alloc | apply BelowKit.bl_drewN | apply BelowKit.bl_drew | (refine BelowKit.bl_set ?_ _ ?_; rotate_left; (first | omega | (simp; omega) | simp)) | (refine BelowKit.bl_trans ?_ (‹Hid (Below _ _ _)›).out)))⟩
              · rw [if_neg (by omega)] at hR
                rw [hR]
                have ob : (2 * r == d) = false := by rw [beq_eq_false_iff_ne]; exact o2
                have od : decide (d < 2 * r) = false := by simpa using o
                clear hR o2 o
                go_enter Try.func26, Try.ntmps26
                go_wp2_with fail
                refine (ok_s n d _).mono ?_
                rintro e w1 ⟨rfl, hb1⟩
                rw [H1.out]
                obtain ⟨hc1, hf1⟩ := BelowKit.bcell hb1
                have hz1 := hb1.size
                try simp at hz1
                have HB1 := Lib.hid hb1
                clear hb1
                go_wp2_with fail
                refine (in_s' _ 1 4 _ true HM.out).mono ?_
                rintro e w2 ⟨rfl, rfl⟩
                go_wp2_with fail
                refine (floorfrac_s n d _).mono ?_
                rintro e w2 ⟨rfl, hb2⟩
                rw [HF.out]
                replace hb2 := BelowKit.bl_trans HB1.out hb2
                clear hc1 hf1 hz1 HB1
                obtain ⟨hc2, hf2⟩ := BelowKit.bcell hb2
                have hz2 := hb2.size
                try simp at hz2
                have HB2 := Lib.hid hb2
                clear hb2
                go_wp2
                go_ret2
                exact ⟨rfl, by (repeat (first | exact Below.refl _ _ | apply BelowKit.bl_alloc | apply BelowKit.bl_drewN | apply BelowKit.bl_drew | (refine BelowKit.bl_set ?_ _ ?_; rotate_left; (first | omega | (simp; omega) | simp)) | (refine BelowKit.bl_trans ?_ (‹Hid (Below _ _ _)›).out)))⟩
    · have HM := Lib.hid (show inB m 1 4 = false by simp only [inB, decide_eq_false_iff_not]; exact hm)
      rw [rndR_no2 hm]
      clear h1 hm
      go_enter Try.func26, Try.ntmps26
      go_wp2_with fail
      refine (ok_s n d _).mono ?_
      rintro e w1 ⟨rfl, hb1⟩
      rw [H1.out]
      obtain ⟨hc1, hf1⟩ := BelowKit.bcell hb1
      have hz1 := hb1.size
      try simp at hz1
      have HB1 := Lib.hid hb1
      clear hb1
      go_wp2_with fail
      refine (in_s' _ 1 4 _ false HM.out).mono ?_
      rintro e w2 ⟨rfl, rfl⟩
      go_wp2
      go_ret2
      exact ⟨rfl, by (repeat (first | exact Below.refl _ _ | apply BelowKit.bl_alloc | apply BelowKit.bl_drewN | apply BelowKit.bl_drew | (refine BelowKit.bl_set ?_ _ ?_; rotate_left; (first | omega | (simp; omega) | simp)) | (refine BelowKit.bl_trans ?_ (‹Hid (Below _ _ _)›).out)))⟩
end Go.Proofs.Ytkfgflmhefbinaa.RoundS

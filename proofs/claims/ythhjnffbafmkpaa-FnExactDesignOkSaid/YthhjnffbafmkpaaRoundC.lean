/- My kit: texts that lean on no dump, in one file. -/
import Derived.WalkKit
import Derived.Test.YthhjnffbafmkpaaKit
import Derived.Test.YthhjnffbafmkpaaRows
import Derived.Test.YthhjnffbafmkpaaFracC
import Derived.Below
import Derived.WalkSmall
import Derived.BigQuiet
import Derived.Lib.Hide
/- Plain mathematics of rounding: floors, halves, and the bit test of odd numbers. Imports nothing of the dump. -/
namespace Go.Proofs.Ythhjnffbafmkpaa.RoundMath
open FracMath

theorem flr_yes {n d : Int} (hd : 0 < d) (h : n.tmod d < 0) : n.tdiv d - 1 = n / d := by
  have e1 := Int.tdiv_mul_add_tmod n d
  have e2 := Int.ediv_mul_add_emod n d
  have e3 := Int.emod_lt_of_pos n hd
  have e4 := Int.emod_nonneg n (by omega : d ≠ 0)
  have e5 : -d < n.tmod d := by have := Int.lt_tmod_of_pos n hd; omega
  have k : (n.tdiv d - 1 - n / d) * d = n % d - (n.tmod d + d) := by rw [Int.sub_mul, Int.sub_mul]; omega
  by_cases c : n.tdiv d - 1 - n / d = 0
  · omega
  · exfalso
    rcases Int.lt_or_gt_of_ne c with c | c
    · have := Int.mul_le_mul_of_nonneg_right (show n.tdiv d - 1 - n / d ≤ -1 by omega) (Int.le_of_lt hd)
      omega
    · have := Int.mul_le_mul_of_nonneg_right (show 1 ≤ n.tdiv d - 1 - n / d by omega) (Int.le_of_lt hd)
      omega
theorem flr_no {n d : Int} (hd : 0 < d) (h : ¬ n.tmod d < 0) : n.tdiv d = n / d := by
  have e1 := Int.tdiv_mul_add_tmod n d
  have e2 := Int.ediv_mul_add_emod n d
  have e3 := Int.emod_lt_of_pos n hd
  have e4 := Int.emod_nonneg n (by omega : d ≠ 0)
  have e5 : n.tmod d < d := Int.tmod_lt_of_pos n hd
  have k : (n.tdiv d - n / d) * d = n % d - n.tmod d := by rw [Int.sub_mul]; omega
  by_cases c : n.tdiv d - n / d = 0
  · omega
  · exfalso
    rcases Int.lt_or_gt_of_ne c with c | c
    · have := Int.mul_le_mul_of_nonneg_right (show n.tdiv d - n / d ≤ -1 by omega) (Int.le_of_lt hd)
      omega
    · have := Int.mul_le_mul_of_nonneg_right (show 1 ≤ n.tdiv d - n / d by omega) (Int.le_of_lt hd)
      omega
/-- The quotient by a positive number is fixed by its bounds. -/
theorem div_is {n d q : Int} (hd : 0 < d) (h1 : q * d ≤ n) (h2 : n < (q + 1) * d) : n / d = q := by
  have a := Int.le_ediv_of_mul_le hd h1
  have b : n / d < q + 1 := Int.ediv_lt_of_lt_mul hd h2
  omega
/-- The remainder over the floor. -/
def rst (n d : Int) : Int := n - n / d * d
theorem rst_bd (n : Int) {d : Int} (hd : 0 < d) : 0 ≤ rst n d ∧ rst n d < d := by
  have e2 := Int.ediv_mul_add_emod n d
  have e3 := Int.emod_lt_of_pos n hd
  have e4 := Int.emod_nonneg n (by omega : d ≠ 0)
  unfold rst; omega
theorem rst_eq (n d : Int) : n = n / d * d + rst n d := by unfold rst; omega
theorem up_eq {n d : Int} (hd : 0 < d) : -((-n) / d) = if 0 < rst n d then n / d + 1 else n / d := by
  have hb := rst_bd n hd
  have he := rst_eq n d
  generalize n / d = q at *
  generalize rst n d = r at *
  split
  · have : (-n) / d = -(q + 1) := div_is hd (by rw [Int.neg_mul, Int.add_mul]; omega) (by rw [show -(q + 1) + 1 = -q by omega, Int.neg_mul]; omega)
    omega
  · have : (-n) / d = -q := div_is hd (by rw [Int.neg_mul]; omega) (by rw [Int.add_mul, Int.neg_mul]; omega)
    omega
theorem half_eq {n d : Int} (hd : 0 < d) : (n * 2 + d) / (d * 2) = if d ≤ 2 * rst n d then n / d + 1 else n / d := by
  have hb := rst_bd n hd
  have he := rst_eq n d
  generalize n / d = q at *
  generalize rst n d = r at *
  have e1 : q * (d * 2) = q * d * 2 := by rw [Int.mul_assoc]
  split
  · exact div_is (by omega) (by rw [Int.add_mul, e1]; omega) (by rw [Int.add_mul, Int.add_mul, e1]; omega)
  · exact div_is (by omega) (by rw [e1]; omega) (by rw [Int.add_mul, e1]; omega)
/-- In lowest terms, the half lies at the denominator 2 alone. -/
theorem half_two {n d : Int} (hd : 0 < d) (hg : (Int.gcd n d : Int) = 1) : 2 * rst n d = d ↔ d = 2 := by
  have hb := rst_bd n hd
  have he := rst_eq n d
  constructor
  · intro h
    have h1 : d ∣ 2 * n := ⟨2 * (n / d) + 1, by
      have : d * (2 * (n / d) + 1) = 2 * (n / d * d) + d := by rw [Int.mul_add, Int.mul_one, Int.mul_left_comm, Int.mul_comm d]
      omega⟩
    have h2 : d ∣ 2 := by
      have hc : Nat.Coprime d.natAbs n.natAbs := by
        have e : Int.gcd n d = Nat.gcd n.natAbs d.natAbs := rfl
        unfold Nat.Coprime
        rw [Nat.gcd_comm]
        omega
      have h3 := Int.natAbs_dvd_natAbs.2 h1
      rw [Int.natAbs_mul] at h3
      exact Int.natAbs_dvd_natAbs.1 (hc.dvd_of_dvd_mul_right h3)
    have h3 := Int.le_of_dvd (by omega) h2
    omega
  · rintro rfl
    have h0 : rst n 2 ≠ 0 := by
      intro h0
      rw [h0] at he
      have : (2 : Int) ∣ (Int.gcd n 2 : Int) := Int.dvd_coe_gcd ⟨n / 2, by omega⟩ ⟨1, rfl⟩
      rw [hg] at this
      omega
    omega
/-- The four ways of rounding: down, up, halves up, halves to the even number. -/
def rnd (n d m : Int) : Int :=
  if m = 1 then n / d else if m = 2 then (if 0 < rst n d then n / d + 1 else n / d)
  else if m = 3 then (if d ≤ 2 * rst n d then n / d + 1 else n / d)
  else (if d < 2 * rst n d ∨ (2 * rst n d = d ∧ n / d % 2 = 1) then n / d + 1 else n / d)
theorem rnd1 (n d : Int) : rnd n d 1 = n / d := rfl
theorem rnd2 {n d : Int} (hd : 0 < d) : rnd n d 2 = -((-n) / d) := by rw [up_eq hd]; rfl
theorem rnd3 {n d : Int} (hd : 0 < d) : rnd n d 3 = (n * 2 + d) / (d * 2) := by rw [half_eq hd]; rfl
/-- Halves to the even number, as the program has it. -/
theorem rnd4 {n d : Int} (hd : 0 < d) (hg : (Int.gcd n d : Int) = 1) :
    rnd n d 4 = if d = 2 ∧ ¬ ((n * 2 + d) / (d * 2)).tmod 2 = 0 then (n * 2 + d) / (d * 2) - 1 else (n * 2 + d) / (d * 2) := by
  have h2 := half_two hd hg
  have hm : ∀ x : Int, x.tmod 2 = 0 ↔ x % 2 = 0 := fun x => by rw [← Int.dvd_iff_tmod_eq_zero, Int.dvd_iff_emod_eq_zero]
  rw [half_eq hd]
  unfold rnd
  rw [if_neg (by omega), if_neg (by omega), if_neg (by omega)]
  simp only [hm]
  generalize n / d = q at *
  generalize rst n d = r at *
  by_cases c : 2 * r = d
  · have hd2 := h2.1 c
    rw [if_pos (show d ≤ 2 * r by omega)]
    by_cases o : q % 2 = 1
    · rw [if_pos (Or.inr ⟨c, o⟩), if_neg (by omega)]
    · rw [if_neg (by omega), if_pos (by omega)]; omega
  · have hd2 : d ≠ 2 := fun h => c (h2.2 h)
    rw [if_neg (show ¬ (d = 2 ∧ _) from fun h => hd2 h.1)]
    by_cases o : d < 2 * r
    · rw [if_pos (Or.inl o), if_pos (by omega)]
    · rw [if_neg (by omega), if_neg (by omega)]
theorem div_bd {n d B : Int} (hd : 0 < d) (hB : 0 ≤ B) (h1 : -B ≤ n) (h2 : n ≤ B) : -B ≤ n / d ∧ n / d ≤ B := by
  constructor
  · refine Int.le_ediv_of_mul_le hd ?_
    have : B * 1 ≤ B * d := Int.mul_le_mul_of_nonneg_left (by omega) hB
    rw [Int.neg_mul]; omega
  · have h : n / d < B + 1 := by
      refine Int.ediv_lt_of_lt_mul hd ?_
      have : (B + 1) * 1 ≤ (B + 1) * d := Int.mul_le_mul_of_nonneg_left (by omega) (by omega)
      omega
    omega
theorem rnd_bd {n d m : Int} (h : okB n d = true) : -1000000000001 ≤ rnd n d m ∧ rnd n d m ≤ 1000000000001 := by
  obtain ⟨h1, h2, h3, h4⟩ := ok_bd h
  have b := div_bd (n := n) (d := d) (by omega) (by omega : (0 : Int) ≤ 1000000000000) h3 h4
  unfold rnd
  repeat' split
  all_goals omega
/-- The last bit. -/
theorem and_one (x : Int) : bits .and .i64 x 1 = x % 2 := by
  have e : (((BitVec.ofInt IntKind.i64.bits x) &&& (BitVec.ofInt IntKind.i64.bits 1)).toNat : Int) = x % 2 := by
    rw [BitVec.toNat_and]
    have : (BitVec.ofInt IntKind.i64.bits 1).toNat = 1 := by decide
    rw [this, Nat.and_one_is_mod, BitVec.toNat_ofInt]
    have : ((2 ^ IntKind.i64.bits : Nat) : Int) = 18446744073709551616 := by decide
    rw [this]
    omega
  show IntKind.i64.wrap (((BitVec.ofInt IntKind.i64.bits x) &&& (BitVec.ofInt IntKind.i64.bits (1 : Int))).toNat : Int) = x % 2
  rw [e, IntWalk.i64_in _ (by omega)]
end Go.Proofs.Ythhjnffbafmkpaa.RoundMath

/- Contracts of the program's roundings: the same numbers as the plain functions of RoundMath, in new memory. -/
namespace Go.Proofs.Ythhjnffbafmkpaa.RoundI
open Go.RowKit FracMath RoundMath FracGcd FracValid FracOps

theorem wr {x : Int} (h1 : -4000000000000000000 ≤ x) (h2 : x ≤ 4000000000000000000) : IntKind.i64.wrap x = x := IntWalk.i64_in _ (by omega)
theorem int_eq {a b : Int} (h : a = b) : Ending.returned (.int .i64 a) = .returned (.int .i64 b) := by rw [h]

set_option maxHeartbeats 1000000 in
theorem floor_i (n d q : Int) (w : World) (h : n / d = q) (h1 : -4000000000000000000 ≤ n) (h2 : n ≤ 4000000000000000000) (h3 : 1 ≤ d) (h4 : d ≤ 4000000000000000000) :
    Calls Try.prog 57 #[.agg #[.int .i64 n, .int .i64 d]] w (IsInt q w) := by
  have b := tdiv_bd n d 4000000000000000000 h1 h2
  obtain ⟨b1, b2⟩ := b
  have hd0 : ¬ d = 0 := by omega
  have hdb : (d == 0) = false := by rw [beq_eq_false_iff_ne]; omega
  by_cases c : n.tmod d < 0
  · have e := Lib.hid ((flr_yes (by omega) c).trans h)
    clear h
    go_enter Try.func57, Try.ntmps57
    go_wp2
    go_ret
    exact ⟨int_eq e.out, by (repeat (first | exact Below.refl _ _ | apply BelowKit.bl_alloc | apply BelowKit.bl_drewN | apply BelowKit.bl_drew | (refine BelowKit.bl_set ?_ _ ?_; rotate_left; (first | omega | (simp; omega) | simp)) | (refine BelowKit.bl_trans ?_ (‹Hid (Below _ _ _)›).out)))⟩
  · have e := Lib.hid ((flr_no (by omega) c).trans h)
    clear h
    go_enter Try.func57, Try.ntmps57
    go_wp2
    go_ret
    exact ⟨int_eq e.out, by (repeat (first | exact Below.refl _ _ | apply BelowKit.bl_alloc | apply BelowKit.bl_drewN | apply BelowKit.bl_drew | (refine BelowKit.bl_set ?_ _ ?_; rotate_left; (first | omega | (simp; omega) | simp)) | (refine BelowKit.bl_trans ?_ (‹Hid (Below _ _ _)›).out)))⟩

/-- The floor of a valid fraction; else 0. -/
def flo (n d : Int) : Int := if okB n d = true then n / d else 0

set_option maxHeartbeats 1000000 in
theorem nearest_i (n d q : Int) (w : World) (h : (n * 2 + d) / (d * 2) = q) (h1 : -1000000000000000000 ≤ n) (h2 : n ≤ 1000000000000000000) (h3 : 1 ≤ d) (h4 : d ≤ 1000000000000000000) :
    Calls Try.prog 59 #[.agg #[.int .i64 n, .int .i64 d]] w (IsInt q w) := by
  have HQ := Lib.hid h
  have W1 := Lib.hid (show IntKind.i64.wrap (n * 2 + 1 * d) = n * 2 + d by rw [wr (by omega) (by omega), Int.one_mul])
  have W2 := Lib.hid (wr (x := n * 2) (by omega) (by omega))
  have W3 := Lib.hid (wr (x := 1 * d) (by omega) (by omega))
  have W4 := Lib.hid (wr (x := d * 2) (by omega) (by omega))
  clear h
  go_enter Try.func59, Try.ntmps59
  go_wp2_with fail
  refine (plus_i n d 1 2 _ _ _ W1.out W2.out W3.out W4.out).mono ?_
  rintro e w1 ⟨rfl, hb1⟩
  obtain ⟨hc1, hf1⟩ := BelowKit.bcell hb1
  have hz1 := hb1.size
  try simp at hz1
  have HB1 := Lib.hid hb1
  clear hb1
  go_wp2_with fail
  refine (floor_i _ _ q _ HQ.out (by omega) (by omega) (by omega) (by omega)).mono ?_
  rintro e w2 ⟨rfl, hb2⟩
  have HB2 := Lib.hid hb2
  clear hb2
  go_wp2
  go_ret
  exact ⟨rfl, by (repeat (first | exact Below.refl _ _ | apply BelowKit.bl_alloc | apply BelowKit.bl_drewN | apply BelowKit.bl_drew | (refine BelowKit.bl_set ?_ _ ?_; rotate_left; (first | omega | (simp; omega) | simp)) | (refine BelowKit.bl_trans ?_ (‹Hid (Below _ _ _)›).out)))⟩

set_option maxHeartbeats 1000000 in
theorem even_i (n d : Int) (w : World) (h : okB n d = true) :
    Calls Try.prog 60 #[.agg #[.int .i64 n, .int .i64 d]] w (IsInt (rnd n d 4) w) := by
  obtain ⟨k1, k2, k3, k4⟩ := ok_bd h
  have hb := div_bd (n := n * 2 + d) (d := d * 2) (B := 4000000000000) (by omega) (by omega) (by omega) (by omega)
  have he := rnd4 (n := n) (d := d) (by omega) (okB_iff.1 h).2.2
  obtain ⟨q, hq⟩ : ∃ q, (n * 2 + d) / (d * 2) = q := ⟨_, rfl⟩
  rw [hq] at hb he
  obtain ⟨b1, b2⟩ := hb
  have HQ := Lib.hid hq
  clear hq h
  by_cases c : d = 2
  · subst c
    by_cases o : q.tmod 2 = 0
    · rw [if_neg (fun h => h.2 o)] at he
      rw [he]
      clear he
      have ob : (q.tmod 2 == 0) = true := by rw [o]; rfl
      have on : (q.tmod 2 != 0) = false := by rw [o]; rfl
      have ob2 : (q % 2 == 0) = true := by rw [beq_iff_eq, ← Int.dvd_iff_emod_eq_zero, Int.dvd_iff_tmod_eq_zero]; exact o
      clear o
      go_enter Try.func60, Try.ntmps60
      go_wp2_with fail
      refine (nearest_i n 2 q _ HQ.out (by omega) (by omega) (by omega) (by omega)).mono ?_
      rintro e w1 ⟨rfl, hb1⟩
      obtain ⟨hc1, hf1⟩ := BelowKit.bcell hb1
      have hz1 := hb1.size
      try simp at hz1
      have HB1 := Lib.hid hb1
      clear hb1
      go_wp2
      go_ret
      exact ⟨rfl, by (repeat (first | exact Below.refl _ _ | apply BelowKit.bl_alloc | apply BelowKit.bl_drewN | apply BelowKit.bl_drew | (refine BelowKit.bl_set ?_ _ ?_; rotate_left; (first | omega | (simp; omega) | simp)) | (refine BelowKit.bl_trans ?_ (‹Hid (Below _ _ _)›).out)))⟩
    · rw [if_pos ⟨rfl, o⟩] at he
      rw [he]
      clear he
      have ob : (q.tmod 2 == 0) = false := by rw [beq_eq_false_iff_ne]; exact o
      have on : (q.tmod 2 != 0) = true := by rw [bne_iff_ne]; exact o
      clear o
      go_enter Try.func60, Try.ntmps60
      go_wp2_with fail
      refine (nearest_i n 2 q _ HQ.out (by omega) (by omega) (by omega) (by omega)).mono ?_
      rintro e w1 ⟨rfl, hb1⟩
      obtain ⟨hc1, hf1⟩ := BelowKit.bcell hb1
      have hz1 := hb1.size
      try simp at hz1
      have HB1 := Lib.hid hb1
      clear hb1
      go_wp2
      go_ret
      exact ⟨rfl, by (repeat (first | exact Below.refl _ _ | apply BelowKit.bl_alloc | apply BelowKit.bl_drewN | apply BelowKit.bl_drew | (refine BelowKit.bl_set ?_ _ ?_; rotate_left; (first | omega | (simp; omega) | simp)) | (refine BelowKit.bl_trans ?_ (‹Hid (Below _ _ _)›).out)))⟩
  · rw [if_neg (fun h => c h.1)] at he
    rw [he]
    clear he
    have cb : (d == 2) = false := by rw [beq_eq_false_iff_ne]; exact c
    go_enter Try.func60, Try.ntmps60
    go_wp2_with fail
    refine (nearest_i n d q _ HQ.out (by omega) (by omega) (by omega) (by omega)).mono ?_
    rintro e w1 ⟨rfl, hb1⟩
    obtain ⟨hc1, hf1⟩ := BelowKit.bcell hb1
    have hz1 := hb1.size
    try simp at hz1
    have HB1 := Lib.hid hb1
    clear hb1
    go_wp2
    go_ret
    exact ⟨rfl, by (repeat (first | exact Below.refl _ _ | apply BelowKit.bl_alloc | apply BelowKit.bl_drewN | apply BelowKit.bl_drew | (refine BelowKit.bl_set ?_ _ ?_; rotate_left; (first | omega | (simp; omega) | simp)) | (refine BelowKit.bl_trans ?_ (‹Hid (Below _ _ _)›).out)))⟩
end Go.Proofs.Ythhjnffbafmkpaa.RoundI

/- The contract of the program's RoundFrac: the plain function rndR. -/
namespace Go.Proofs.Ythhjnffbafmkpaa.RoundF
open Go.RowKit FracMath RoundMath FracGcd FracValid FracOps RoundI

/-- The rounded number and true; or 0 and false. -/
def rndR (n d m : Int) : Int × Bool := if okB n d = true ∧ 1 ≤ m ∧ m ≤ 4 then (rnd n d m, true) else (0, false)
def IsRnd (r : Int × Bool) (w : World) (e : Ending) (w' : World) : Prop := e = .returned (.tuple #[.int .i64 r.1, .bool r.2]) ∧ Below w.heap.size w w'
theorem rndR_no1 {n d m : Int} (h : okB n d = false) : rndR n d m = (0, false) := by simp [rndR, h]
theorem rndR_no2 {n d m : Int} (h : ¬ (1 ≤ m ∧ m ≤ 4)) : rndR n d m = (0, false) := by unfold rndR; rw [if_neg (fun k => h k.2)]
theorem rndR_yes {n d m : Int} (h : okB n d = true) (h1 : 1 ≤ m) (h2 : m ≤ 4) : rndR n d m = (rnd n d m, true) := by unfold rndR; rw [if_pos ⟨h, h1, h2⟩]
theorem tup_eq {a b : Int} {x : Bool} (h : a = b) : Ending.returned (.tuple #[.int .i64 a, .bool x]) = .returned (.tuple #[.int .i64 b, .bool x]) := by rw [h]

set_option maxHeartbeats 1000000 in
theorem round_i (n d m : Int) (w : World) :
    Calls Try.prog 49 #[.agg #[.int .i64 n, .int .i64 d], .int .i64 m] w (IsRnd (rndR n d m) w) := by
  cases h1 : okB n d with
  | false =>
    rw [rndR_no1 h1]
    have H1 := Lib.hid h1
    clear h1
    go_enter Try.func49, Try.ntmps49
    go_wp2_with fail
    refine (valid_i n d _).mono ?_
    rintro e w1 ⟨rfl, hb1⟩
    rw [H1.out]
    obtain ⟨hc1, hf1⟩ := BelowKit.bcell hb1
    have HB1 := Lib.hid hb1
    clear hb1
    go_wp2
    go_ret2
    exact ⟨rfl, by (repeat (first | exact Below.refl _ _ | apply BelowKit.bl_alloc | apply BelowKit.bl_drewN | apply BelowKit.bl_drew | (refine BelowKit.bl_set ?_ _ ?_; rotate_left; (first | omega | (simp; omega) | simp)) | (refine BelowKit.bl_trans ?_ (‹Hid (Below _ _ _)›).out)))⟩
  | true =>
    have H1 := Lib.hid h1
    obtain ⟨k1, k2, k3, k4⟩ := ok_bd h1
    by_cases c1 : m = 1
    · subst c1
      rw [rndR_yes h1 (by omega) (by omega)]
      clear h1
      go_enter Try.func49, Try.ntmps49
      go_wp2_with fail
      refine (valid_i n d _).mono ?_
      rintro e w1 ⟨rfl, hb1⟩
      rw [H1.out]
      obtain ⟨hc1, hf1⟩ := BelowKit.bcell hb1
      have hz1 := hb1.size
      try simp at hz1
      have HB1 := Lib.hid hb1
      clear hb1
      go_wp2_with fail
      refine (floor_i n d _ _ rfl (by omega) (by omega) (by omega) (by omega)).mono ?_
      rintro e w2 ⟨rfl, hb2⟩
      have HB2 := Lib.hid hb2
      clear hb2
      go_wp2
      go_ret2
      exact ⟨rfl, by (repeat (first | exact Below.refl _ _ | apply BelowKit.bl_alloc | apply BelowKit.bl_drewN | apply BelowKit.bl_drew | (refine BelowKit.bl_set ?_ _ ?_; rotate_left; (first | omega | (simp; omega) | simp)) | (refine BelowKit.bl_trans ?_ (‹Hid (Below _ _ _)›).out)))⟩
    · have b1 : (m == 1) = false := by rw [beq_eq_false_iff_ne]; exact c1
      by_cases c2 : m = 2
      · subst c2
        rw [rndR_yes h1 (by omega) (by omega), rnd2 (by omega)]
        have hq := div_bd (n := -n) (d := d) (B := 1000000000000) (by omega) (by omega) (by omega) (by omega)
        obtain ⟨q, hq2⟩ : ∃ q, -n / d = q := ⟨_, rfl⟩
        rw [hq2] at hq ⊢
        obtain ⟨q1, q2⟩ := hq
        have HQ := Lib.hid hq2
        clear h1 hq2 c1
        go_enter Try.func49, Try.ntmps49
        go_wp2_with fail
        refine (valid_i n d _).mono ?_
        rintro e w1 ⟨rfl, hb1⟩
        rw [H1.out]
        obtain ⟨hc1, hf1⟩ := BelowKit.bcell hb1
        have hz1 := hb1.size
        try simp at hz1
        have HB1 := Lib.hid hb1
        clear hb1
        go_wp2_with fail
        refine (neg_i n d _ (by omega) (by omega)).mono ?_
        rintro e w2 ⟨rfl, hb2⟩
        replace hb2 := BelowKit.bl_trans HB1.out hb2
        clear hc1 hf1 hz1 HB1
        obtain ⟨hc2, hf2⟩ := BelowKit.bcell hb2
        have hz2 := hb2.size
        try simp at hz2
        have HB2 := Lib.hid hb2
        clear hb2
        go_wp2_with fail
        refine (floor_i (-n) d q _ HQ.out (by omega) (by omega) (by omega) (by omega)).mono ?_
        rintro e w3 ⟨rfl, hb3⟩
        have HB3 := Lib.hid hb3
        clear hb3
        go_wp2
        go_ret2
        exact ⟨rfl, by (repeat (first | exact Below.refl _ _ | apply BelowKit.bl_alloc | apply BelowKit.bl_drewN | apply BelowKit.bl_drew | (refine BelowKit.bl_set ?_ _ ?_; rotate_left; (first | omega | (simp; omega) | simp)) | (refine BelowKit.bl_trans ?_ (‹Hid (Below _ _ _)›).out)))⟩
      · have b2 : (m == 2) = false := by rw [beq_eq_false_iff_ne]; exact c2
        by_cases c3 : m = 3
        · subst c3
          rw [rndR_yes h1 (by omega) (by omega), rnd3 (by omega)]
          clear h1 c1 c2 b1 b2
          go_enter Try.func49, Try.ntmps49
          go_wp2_with fail
          refine (valid_i n d _).mono ?_
          rintro e w1 ⟨rfl, hb1⟩
          rw [H1.out]
          obtain ⟨hc1, hf1⟩ := BelowKit.bcell hb1
          have hz1 := hb1.size
          try simp at hz1
          have HB1 := Lib.hid hb1
          clear hb1
          go_wp2_with fail
          refine (nearest_i n d _ _ rfl (by omega) (by omega) (by omega) (by omega)).mono ?_
          rintro e w2 ⟨rfl, hb2⟩
          have HB2 := Lib.hid hb2
          clear hb2
          go_wp2
          go_ret2
          exact ⟨rfl, by (repeat (first | exact Below.refl _ _ | apply BelowKit.bl_alloc | apply BelowKit.bl_drewN | apply BelowKit.bl_drew | (refine BelowKit.bl_set ?_ _ ?_; rotate_left; (first | omega | (simp; omega) | simp)) | (refine BelowKit.bl_trans ?_ (‹Hid (Below _ _ _)›).out)))⟩
        · have b3 : (m == 3) = false := by rw [beq_eq_false_iff_ne]; exact c3
          by_cases c4 : m = 4
          · subst c4
            rw [rndR_yes h1 (by omega) (by omega)]
            clear h1 c1 c2 c3 b1 b2 b3
            go_enter Try.func49, Try.ntmps49
            go_wp2_with fail
            refine (valid_i n d _).mono ?_
            rintro e w1 ⟨rfl, hb1⟩
            rw [H1.out]
            obtain ⟨hc1, hf1⟩ := BelowKit.bcell hb1
            have hz1 := hb1.size
            try simp at hz1
            have HB1 := Lib.hid hb1
            clear hb1
            go_wp2_with fail
            refine (even_i n d _ H1.out).mono ?_
            rintro e w2 ⟨rfl, hb2⟩
            have HB2 := Lib.hid hb2
            clear hb2
            go_wp2
            go_ret2
            exact ⟨rfl, by (repeat (first | exact Below.refl _ _ | apply BelowKit.bl_alloc | apply BelowKit.bl_drewN | apply BelowKit.bl_drew | (refine BelowKit.bl_set ?_ _ ?_; rotate_left; (first | omega | (simp; omega) | simp)) | (refine BelowKit.bl_trans ?_ (‹Hid (Below _ _ _)›).out)))⟩
          · have b4 : (m == 4) = false := by rw [beq_eq_false_iff_ne]; exact c4
            rw [rndR_no2 (by omega)]
            clear h1
            go_enter Try.func49, Try.ntmps49
            go_wp2_with fail
            refine (valid_i n d _).mono ?_
            rintro e w1 ⟨rfl, hb1⟩
            rw [H1.out]
            obtain ⟨hc1, hf1⟩ := BelowKit.bcell hb1
            have HB1 := Lib.hid hb1
            clear hb1
            go_wp2
            go_ret2
            exact ⟨rfl, by (repeat (first | exact Below.refl _ _ | apply BelowKit.bl_alloc | apply BelowKit.bl_drewN | apply BelowKit.bl_drew | (refine BelowKit.bl_set ?_ _ ?_; rotate_left; (first | omega | (simp; omega) | simp)) | (refine BelowKit.bl_trans ?_ (‹Hid (Below _ _ _)›).out)))⟩
end Go.Proofs.Ythhjnffbafmkpaa.RoundF

/- Facts: five integers. Both sides' test of a fact answers okF; memory grows and nothing else. -/
import Derived.Test.YtggnkjnpiagdpaaDoorRows
import Derived.Test.YtggnkjnpiagdpaaDoorRowN
import Derived.Test.YtggnkjnpiagdpaaDoorShape
import Derived.Test.YtggnkjnpiagdpaaDoorMon
import Derived.Test.YtggnkjnpiagdpaaDoorBelowKit
import Derived.WalkKit
import Derived.Below
import Derived.WalkSmall
import Derived.Lib.Hide
namespace Go.Proofs.YtggnkjnpiagdpaaDoor.Fact
open Go.RowKit RowN Mon

structure Fa where
  k : Int
  f : Int
  t : Int
  n : Int
  v : Int
def fc (x : Fa) : List Value := [.int .i64 x.k, .int .i64 x.f, .int .i64 x.t, .int .i64 x.n, .int .i64 x.v]
def fv (x : Fa) : Value := .agg #[.int .i64 x.k, .int .i64 x.f, .int .i64 x.t, .int .i64 x.n, .int .i64 x.v]
def f0 : Fa := ⟨0, 0, 0, 0, 0⟩
theorem fw : Wide fc 5 := ⟨fun _ => rfl, by rintro x v hv; simp only [fc, List.mem_cons, List.not_mem_nil, or_false] at hv; rcases hv with rfl | rfl | rfl | rfl | rfl <;> rfl, by omega⟩
theorem ft : ElT Tryd.prog 24 55 (fv f0) 5 40 := ⟨Tryd.underlying24, by kernel_rfl, by omega, rfl⟩

def Wf (x : Fa) : Prop := (Lit.int .i64 x.k).wf = true ∧ (Lit.int .i64 x.f).wf = true ∧ (Lit.int .i64 x.t).wf = true ∧ (Lit.int .i64 x.n).wf = true ∧ (Lit.int .i64 x.v).wf = true
open Shape in
theorem cov {w : World} {cs : List Value} (h : FitL w [.int .i64, .int .i64, .int .i64, .int .i64, .int .i64] cs) : ∃ x, cs = fc x ∧ Wf x := by
  obtain ⟨k, _, rfl, w0, h⟩ := fit_int h
  obtain ⟨f, _, rfl, w1, h⟩ := fit_int h
  obtain ⟨t, _, rfl, w2, h⟩ := fit_int h
  obtain ⟨n, _, rfl, w3, h⟩ := fit_int h
  obtain ⟨v, _, rfl, w4, h⟩ := fit_int h
  obtain rfl := fit_nil h
  exact ⟨⟨k, f, t, n, v⟩, rfl, w0, w1, w2, w3, w4⟩

def okF (x : Fa) : Bool := inB x.k 1 50 && inB x.f 0 3600 && inB x.t 0 3600 && decide (x.f < x.t) && inB x.n 0 3599 && inB x.v (-1000000000) 1000000000
theorem okF_no {x : Fa} (h : ¬ (1 ≤ x.k ∧ x.k ≤ 50 ∧ 0 ≤ x.f ∧ x.f < x.t ∧ x.t ≤ 3600 ∧ 0 ≤ x.n ∧ x.n ≤ 3599 ∧ -1000000000 ≤ x.v ∧ x.v ≤ 1000000000)) : okF x = false := by
  cases hb : okF x with
  | false => rfl
  | true =>
    simp only [okF, inB, Bool.and_eq_true, decide_eq_true_eq] at hb
    omega
theorem okF_yes {x : Fa} (h : 1 ≤ x.k ∧ x.k ≤ 50 ∧ 0 ≤ x.f ∧ x.f < x.t ∧ x.t ≤ 3600 ∧ 0 ≤ x.n ∧ x.n ≤ 3599 ∧ -1000000000 ≤ x.v ∧ x.v ≤ 1000000000) : okF x = true := by
  simp only [okF, inB, Bool.and_eq_true, decide_eq_true_eq]
  omega
theorem okF_of {x : Fa} (h : okF x = true) : 1 ≤ x.k ∧ x.k ≤ 50 ∧ 0 ≤ x.f ∧ x.f < x.t ∧ x.t ≤ 3600 ∧ 0 ≤ x.n ∧ x.n ≤ 3599 ∧ -1000000000 ≤ x.v ∧ x.v ≤ 1000000000 := by
  simp only [okF, inB, Bool.and_eq_true, decide_eq_true_eq] at h
  omega
def IsBo (b : Bool) (w : World) (e : Ending) (w' : World) : Prop := e = .returned (.bool b) ∧ Below w.heap.size w w'
theorem bo_eq {a b : Bool} (h : a = b) : Ending.returned (.bool a) = .returned (.bool b) := by rw [h]

theorem key_i (x : Int) (w : World) : Calls Tryd.prog 49 #[.int .i64 x] w (IsB (inB x 1 50) w) := by
  by_cases h1 : 1 ≤ x
  · by_cases h2 : x ≤ 50
    · rw [inB_yes h1 h2]
      go_enter Tryd.func49, Tryd.ntmps49
      go_wp2
      go_ret
      exact ⟨rfl, rfl⟩
    · rw [inB_hi h2]
      go_enter Tryd.func49, Tryd.ntmps49
      go_wp2
      go_ret
      exact ⟨rfl, rfl⟩
  · rw [inB_lo h1]
    go_enter Tryd.func49, Tryd.ntmps49
    go_wp2
    go_ret
    exact ⟨rfl, rfl⟩
theorem win_i (x l : Int) (w : World) (h0 : 0 ≤ l) (h1 : l ≤ 4000000000000000000) : Calls Tryd.prog 26 #[.int .i64 x, .int .i64 l] w (IsB (inB x (-l) l) w) := by
  by_cases h2 : -l ≤ x
  · by_cases h3 : x ≤ l
    · rw [inB_yes h2 h3]
      go_enter Tryd.func26, Tryd.ntmps26
      go_wp2
      go_ret
      exact ⟨rfl, rfl⟩
    · rw [inB_hi h3]
      go_enter Tryd.func26, Tryd.ntmps26
      go_wp2
      go_ret
      exact ⟨rfl, rfl⟩
  · rw [inB_lo h2]
    go_enter Tryd.func26, Tryd.ntmps26
    go_wp2
    go_ret
    exact ⟨rfl, rfl⟩
theorem mend_i (x : Int) (w : World) : Calls Tryd.prog 23 #[.int .i64 x] w (IsB (inB x 0 3600) w) := by
  by_cases h1 : 0 ≤ x
  · by_cases h2 : x ≤ 3600
    · rw [inB_yes h1 h2]
      go_enter Tryd.func23, Tryd.ntmps23
      go_wp2
      go_ret
      exact ⟨rfl, rfl⟩
    · rw [inB_hi h2]
      go_enter Tryd.func23, Tryd.ntmps23
      go_wp2
      go_ret
      exact ⟨rfl, rfl⟩
  · rw [inB_lo h1]
    go_enter Tryd.func23, Tryd.ntmps23
    go_wp2
    go_ret
    exact ⟨rfl, rfl⟩
set_option maxHeartbeats 1000000 in
theorem fact_i (x : Fa) (w : World) : Calls Tryd.prog 37 #[fv x] w (IsBo (okF x) w) := by
  obtain ⟨k, f, t, n, v⟩ := x
  obtain ⟨b1, e1⟩ : ∃ b, inB k 1 50 = b := ⟨_, rfl⟩
  obtain ⟨b2, e2⟩ : ∃ b, inB f 0 3600 = b := ⟨_, rfl⟩
  obtain ⟨b3, e3⟩ : ∃ b, inB t 0 3600 = b := ⟨_, rfl⟩
  obtain ⟨b5, e5⟩ : ∃ b, inB n 0 3599 = b := ⟨_, rfl⟩
  obtain ⟨b6, e6⟩ : ∃ b, inB v (-1000000000) 1000000000 = b := ⟨_, rfl⟩
  rw [show okF ⟨k, f, t, n, v⟩ = (b1 && b2 && b3 && decide (f < t) && b5 && b6) by simp only [okF, e1, e2, e3, e5, e6]]
  have E1 := Lib.hid e1
  have E2 := Lib.hid e2
  have E3 := Lib.hid e3
  have E5 := Lib.hid e5
  have E6 := Lib.hid e6
  clear e1 e2 e3 e5 e6
  show Calls Tryd.prog 37 #[.agg #[.int .i64 k, .int .i64 f, .int .i64 t, .int .i64 n, .int .i64 v]] w (IsBo (b1 && b2 && b3 && decide (f < t) && b5 && b6) w)
  go_enter Tryd.func37, Tryd.ntmps37
  go_wp2_with fail
  refine (key_i _ _).mono ?_
  rintro e w' ⟨rfl, rfl⟩
  rw [E1.out]
  cases b1 with
  | false =>
    go_wp2
    go_ret
    exact ⟨rfl, by (repeat (first | exact Below.refl _ _ | apply BelowKit.bl_alloc | apply BelowKit.bl_drewN | apply BelowKit.bl_drew | (refine BelowKit.bl_set ?_ _ ?_; rotate_left; (first | omega | (simp; omega) | simp)) | (refine BelowKit.bl_trans ?_ (‹Hid (Below _ _ _)›).out)))⟩
  | true =>
  go_wp2_with fail
  refine (mend_i _ _).mono ?_
  rintro e w' ⟨rfl, rfl⟩
  rw [E2.out]
  cases b2 with
  | false =>
    go_wp2
    go_ret
    exact ⟨rfl, by (repeat (first | exact Below.refl _ _ | apply BelowKit.bl_alloc | apply BelowKit.bl_drewN | apply BelowKit.bl_drew | (refine BelowKit.bl_set ?_ _ ?_; rotate_left; (first | omega | (simp; omega) | simp)) | (refine BelowKit.bl_trans ?_ (‹Hid (Below _ _ _)›).out)))⟩
  | true =>
  go_wp2_with fail
  refine (mend_i _ _).mono ?_
  rintro e w' ⟨rfl, rfl⟩
  rw [E3.out]
  cases b3 with
  | false =>
    go_wp2
    go_ret
    exact ⟨rfl, by (repeat (first | exact Below.refl _ _ | apply BelowKit.bl_alloc | apply BelowKit.bl_drewN | apply BelowKit.bl_drew | (refine BelowKit.bl_set ?_ _ ?_; rotate_left; (first | omega | (simp; omega) | simp)) | (refine BelowKit.bl_trans ?_ (‹Hid (Below _ _ _)›).out)))⟩
  | true =>
  by_cases h4 : f < t
  case neg =>
    have HD := Lib.hid (decide_eq_false h4)
    go_wp2
    go_ret
    exact ⟨bo_eq (by rw [HD.out]; rfl), by (repeat (first | exact Below.refl _ _ | apply BelowKit.bl_alloc | apply BelowKit.bl_drewN | apply BelowKit.bl_drew | (refine BelowKit.bl_set ?_ _ ?_; rotate_left; (first | omega | (simp; omega) | simp)) | (refine BelowKit.bl_trans ?_ (‹Hid (Below _ _ _)›).out)))⟩
  case pos =>
  go_wp2_with fail
  refine (ok_i _ _).mono ?_
  rintro e w' ⟨rfl, rfl⟩
  rw [E5.out]
  cases b5 with
  | false =>
    go_wp2
    go_ret
    exact ⟨bo_eq (by simp), by (repeat (first | exact Below.refl _ _ | apply BelowKit.bl_alloc | apply BelowKit.bl_drewN | apply BelowKit.bl_drew | (refine BelowKit.bl_set ?_ _ ?_; rotate_left; (first | omega | (simp; omega) | simp)) | (refine BelowKit.bl_trans ?_ (‹Hid (Below _ _ _)›).out)))⟩
  | true =>
  go_wp2_with fail
  refine (win_i _ _ _ (by omega) (by omega)).mono ?_
  rintro e w' ⟨rfl, rfl⟩
  rw [E6.out]
  go_wp2
  go_ret
  exact ⟨bo_eq (by simp [h4]), by (repeat (first | exact Below.refl _ _ | apply BelowKit.bl_alloc | apply BelowKit.bl_drewN | apply BelowKit.bl_drew | (refine BelowKit.bl_set ?_ _ ?_; rotate_left; (first | omega | (simp; omega) | simp)) | (refine BelowKit.bl_trans ?_ (‹Hid (Below _ _ _)›).out)))⟩
end Go.Proofs.YtggnkjnpiagdpaaDoor.Fact

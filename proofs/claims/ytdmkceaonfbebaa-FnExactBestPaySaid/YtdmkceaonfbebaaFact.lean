/- Facts: five integers. Both sides' test of a fact answers okF; memory grows and nothing else. -/
import Derived.Test.YtdmkceaonfbebaaRows
import Derived.Test.YtdmkceaonfbebaaKit
import Derived.Test.YtdmkceaonfbebaaMon
import Derived.WalkKit
import Derived.Below
import Derived.WalkSmall
import Derived.Lib.Hide
namespace Go.Proofs.Ytdmkceaonfbebaa.Fact
open Go.RowKit RowN Mon

structure Fa where
  k : Int
  f : Int
  t : Int
  n : Int
  v : Int
def fc (x : Fa) : List Value := [.int .i64 x.k, .int .i64 x.f, .int .i64 x.t, .int .i64 x.n, .int .i64 x.v]
def fv (x : Fa) : Value := .agg #[.int .i64 x.k, .int .i64 x.f, .int .i64 x.t, .int .i64 x.n, .int .i64 x.v]
def f0 : Fa := ⟨0, 0, 0, 0, 0⟩
theorem fw : Wide fc 5 := ⟨fun _ => rfl, by rintro x v hv; simp only [fc, List.mem_cons, List.not_mem_nil, or_false] at hv; rcases hv with rfl | rfl | rfl | rfl | rfl <;> rfl, by omega⟩
theorem ft : ElT Try.prog 24 71 (fv f0) 5 40 := ⟨Try.underlying24, by kernel_rfl, by omega, rfl⟩

def Wf (x : Fa) : Prop := (Lit.int .i64 x.k).wf = true ∧ (Lit.int .i64 x.f).wf = true ∧ (Lit.int .i64 x.t).wf = true ∧ (Lit.int .i64 x.n).wf = true ∧ (Lit.int .i64 x.v).wf = true
open Shape in
theorem cov {w : World} {cs : List Value} (h : FitL w [.int .i64, .int .i64, .int .i64, .int .i64, .int .i64] cs) : ∃ x, cs = fc x ∧ Wf x := by
  obtain ⟨k, _, rfl, w0, h⟩ := fit_int h
  obtain ⟨f, _, rfl, w1, h⟩ := fit_int h
  obtain ⟨t, _, rfl, w2, h⟩ := fit_int h
  obtain ⟨n, _, rfl, w3, h⟩ := fit_int h
  obtain ⟨v, _, rfl, w4, h⟩ := fit_int h
  obtain rfl := fit_nil h
  exact ⟨⟨k, f, t, n, v⟩, rfl, w0, w1, w2, w3, w4⟩

def okF (x : Fa) : Bool := inB x.k 1 50 && inB x.f 0 3600 && inB x.t 0 3600 && decide (x.f < x.t) && inB x.n 0 3599 && inB x.v (-1000000000) 1000000000
theorem okF_no {x : Fa} (h : ¬ (1 ≤ x.k ∧ x.k ≤ 50 ∧ 0 ≤ x.f ∧ x.f < x.t ∧ x.t ≤ 3600 ∧ 0 ≤ x.n ∧ x.n ≤ 3599 ∧ -1000000000 ≤ x.v ∧ x.v ≤ 1000000000)) : okF x = false := by
  cases hb : okF x with
  | false => rfl
  | true =>
    simp only [okF, inB, Bool.and_eq_true, decide_eq_true_eq] at hb
    omega
theorem okF_yes {x : Fa} (h : 1 ≤ x.k ∧ x.k ≤ 50 ∧ 0 ≤ x.f ∧ x.f < x.t ∧ x.t ≤ 3600 ∧ 0 ≤ x.n ∧ x.n ≤ 3599 ∧ -1000000000 ≤ x.v ∧ x.v ≤ 1000000000) : okF x = true := by
  simp only [okF, inB, Bool.and_eq_true, decide_eq_true_eq]
  omega
theorem okF_of {x : Fa} (h : okF x = true) : 1 ≤ x.k ∧ x.k ≤ 50 ∧ 0 ≤ x.f ∧ x.f < x.t ∧ x.t ≤ 3600 ∧ 0 ≤ x.n ∧ x.n ≤ 3599 ∧ -1000000000 ≤ x.v ∧ x.v ≤ 1000000000 := by
  simp only [okF, inB, Bool.and_eq_true, decide_eq_true_eq] at h
  omega
def IsBo (b : Bool) (w : World) (e : Ending) (w' : World) : Prop := e = .returned (.bool b) ∧ Below w.heap.size w w'
theorem bo_eq {a b : Bool} (h : a = b) : Ending.returned (.bool a) = .returned (.bool b) := by rw [h]

theorem key_i (x : Int) (w : World) : Calls Try.prog 77 #[.int .i64 x] w (IsB (inB x 1 50) w) := by
  by_cases h1 : 1 ≤ x
  · by_cases h2 : x ≤ 50
    · rw [inB_yes h1 h2]
      go_enter Try.func77, Try.ntmps77
      go_wp2
      go_ret
      exact ⟨rfl, rfl⟩
    · rw [inB_hi h2]
      go_enter Try.func77, Try.ntmps77
      go_wp2
      go_ret
      exact ⟨rfl, rfl⟩
  · rw [inB_lo h1]
    go_enter Try.func77, Try.ntmps77
    go_wp2
    go_ret
    exact ⟨rfl, rfl⟩
theorem win_i (x l : Int) (w : World) (h0 : 0 ≤ l) (h1 : l ≤ 4000000000000000000) : Calls Try.prog 76 #[.int .i64 x, .int .i64 l] w (IsB (inB x (-l) l) w) := by
  by_cases h2 : -l ≤ x
  · by_cases h3 : x ≤ l
    · rw [inB_yes h2 h3]
      go_enter Try.func76, Try.ntmps76
      go_wp2
      go_ret
      exact ⟨rfl, rfl⟩
    · rw [inB_hi h3]
      go_enter Try.func76, Try.ntmps76
      go_wp2
      go_ret
      exact ⟨rfl, rfl⟩
  · rw [inB_lo h2]
    go_enter Try.func76, Try.ntmps76
    go_wp2
    go_ret
    exact ⟨rfl, rfl⟩
theorem mend_i (x : Int) (w : World) : Calls Try.prog 57 #[.int .i64 x] w (IsB (inB x 0 3600) w) := by
  by_cases h1 : 0 ≤ x
  · by_cases h2 : x ≤ 3600
    · rw [inB_yes h1 h2]
      go_enter Try.func57, Try.ntmps57
      go_wp2
      go_ret
      exact ⟨rfl, rfl⟩
    · rw [inB_hi h2]
      go_enter Try.func57, Try.ntmps57
      go_wp2
      go_ret
      exact ⟨rfl, rfl⟩
  · rw [inB_lo h1]
    go_enter Try.func57, Try.ntmps57
    go_wp2
    go_ret
    exact ⟨rfl, rfl⟩
set_option maxHeartbeats 1000000 in
theorem fact_i (x : Fa) (w : World) : Calls Try.prog 69 #[fv x] w (IsBo (okF x) w) := by
  obtain ⟨k, f, t, n, v⟩ := x
  obtain ⟨b1, e1⟩ : ∃ b, inB k 1 50 = b := ⟨_, rfl⟩
  obtain ⟨b2, e2⟩ : ∃ b, inB f 0 3600 = b := ⟨_, rfl⟩
  obtain ⟨b3, e3⟩ : ∃ b, inB t 0 3600 = b := ⟨_, rfl⟩
  obtain ⟨b5, e5⟩ : ∃ b, inB n 0 3599 = b := ⟨_, rfl⟩
  obtain ⟨b6, e6⟩ : ∃ b, inB v (-1000000000) 1000000000 = b := ⟨_, rfl⟩
  rw [show okF ⟨k, f, t, n, v⟩ = (b1 && b2 && b3 && decide (f < t) && b5 && b6) by simp only [okF, e1, e2, e3, e5, e6]]
  have E1 := Lib.hid e1
  have E2 := Lib.hid e2
  have E3 := Lib.hid e3
  have E5 := Lib.hid e5
  have E6 := Lib.hid e6
  clear e1 e2 e3 e5 e6
  show Calls Try.prog 69 #[.agg #[.int .i64 k, .int .i64 f, .int .i64 t, .int .i64 n, .int .i64 v]] w (IsBo (b1 && b2 && b3 && decide (f < t) && b5 && b6) w)
  go_enter Try.func69, Try.ntmps69
  go_wp2_with fail
  refine (key_i _ _).mono ?_
  rintro e w' ⟨rfl, rfl⟩
  rw [E1.out]
  cases b1 with
  | false =>
    go_wp2
    go_ret
    exact ⟨rfl, by (repeat (first | exact Below.refl _ _ | apply BelowKit.bl_alloc | apply BelowKit.bl_drewN | apply BelowKit.bl_drew | (refine BelowKit.bl_set ?_ _ ?_; rotate_left; (first | omega | (simp; omega) | simp)) | (refine BelowKit.bl_trans ?_ (‹Hid (Below _ _ _)›).out)))⟩
  | true =>
  go_wp2_with fail
  refine (mend_i _ _).mono ?_
  rintro e w' ⟨rfl, rfl⟩
  rw [E2.out]
  cases b2 with
  | false =>
    go_wp2
    go_ret
    exact ⟨rfl, by (repeat (first | exact Below.refl _ _ | apply BelowKit.bl_alloc | apply BelowKit.bl_drewN | apply BelowKit.bl_drew | (refine BelowKit.bl_set ?_ _ ?_; rotate_left; (first | omega | (simp; omega) | simp)) | (refine BelowKit.bl_trans ?_ (‹Hid (Below _ _ _)›).out)))⟩
  | true =>
  go_wp2_with fail
  refine (mend_i _ _).mono ?_
  rintro e w' ⟨rfl, rfl⟩
  rw [E3.out]
  cases b3 with
  | false =>
    go_wp2
    go_ret
    exact ⟨rfl, by (repeat (first | exact Below.refl _ _ | apply BelowKit.bl_alloc | apply BelowKit.bl_drewN | apply BelowKit.bl_drew | (refine BelowKit.bl_set ?_ _ ?_; rotate_left; (first | omega | (simp; omega) | simp)) | (refine BelowKit.bl_trans ?_ (‹Hid (Below _ _ _)›).out)))⟩
  | true =>
  by_cases h4 : f < t
  case neg =>
    have HD := Lib.hid (decide_eq_false h4)
    go_wp2
    go_ret
    exact ⟨bo_eq (by rw [HD.out]; rfl), by (repeat (first | exact Below.refl _ _ | apply BelowKit.bl_alloc | apply BelowKit.bl_drewN | apply BelowKit.bl_drew | (refine BelowKit.bl_set ?_ _ ?_; rotate_left; (first | omega | (simp; omega) | simp)) | (refine BelowKit.bl_trans ?_ (‹Hid (Below _ _ _)›).out)))⟩
  case pos =>
  go_wp2_with fail
  refine (ok_i _ _).mono ?_
  rintro e w' ⟨rfl, rfl⟩
  rw [E5.out]
  cases b5 with
  | false =>
    go_wp2
    go_ret
    exact ⟨bo_eq (by simp), by (repeat (first | exact Below.refl _ _ | apply BelowKit.bl_alloc | apply BelowKit.bl_drewN | apply BelowKit.bl_drew | (refine BelowKit.bl_set ?_ _ ?_; rotate_left; (first | omega | (simp; omega) | simp)) | (refine BelowKit.bl_trans ?_ (‹Hid (Below _ _ _)›).out)))⟩
  | true =>
  go_wp2_with fail
  refine (win_i _ _ _ (by omega) (by omega)).mono ?_
  rintro e w' ⟨rfl, rfl⟩
  rw [E6.out]
  go_wp2
  go_ret
  exact ⟨bo_eq (by simp [h4]), by (repeat (first | exact Below.refl _ _ | apply BelowKit.bl_alloc | apply BelowKit.bl_drewN | apply BelowKit.bl_drew | (refine BelowKit.bl_set ?_ _ ?_; rotate_left; (first | omega | (simp; omega) | simp)) | (refine BelowKit.bl_trans ?_ (‹Hid (Below _ _ _)›).out)))⟩
set_option maxHeartbeats 1000000 in
theorem fact_s (x : Fa) (w : World) : Calls Try.prog 63 #[fv x] w (IsBo (okF x) w) := by
  obtain ⟨b0, e0⟩ : ∃ b, okF x = b := ⟨_, rfl⟩
  obtain ⟨k, f, t, n, v⟩ := x
  have hno := fun h => okF_no (x := ⟨k, f, t, n, v⟩) h
  have hyes := fun h => okF_yes (x := ⟨k, f, t, n, v⟩) h
  simp only [] at hno hyes
  rw [e0] at hno hyes ⊢
  obtain ⟨b1, e1⟩ : ∃ b, inB k 1 50 = b := ⟨_, rfl⟩
  obtain ⟨b5, e5⟩ : ∃ b, inB n 0 3599 = b := ⟨_, rfl⟩
  obtain ⟨b6, e6⟩ : ∃ b, inB v (-1000000000) 1000000000 = b := ⟨_, rfl⟩
  have E1 := Lib.hid e1
  have E5 := Lib.hid e5
  have E6 := Lib.hid e6
  have HN := Lib.hid hno
  have HY := Lib.hid hyes
  clear e0 e1 e5 e6 hno hyes
  show Calls Try.prog 63 #[.agg #[.int .i64 k, .int .i64 f, .int .i64 t, .int .i64 n, .int .i64 v]] w (IsBo b0 w)
  go_enter Try.func63, Try.ntmps63
  go_wp2_with fail
  refine (in_c _ _ _ _).mono ?_
  rintro e w' ⟨rfl, rfl⟩
  rw [E1.out]
  cases b1 with
  | false =>
    have h1 := inB_not E1.out
    go_wp2
    go_ret
    exact ⟨bo_eq (HN.out (by omega)).symm, by (repeat (first | exact Below.refl _ _ | apply BelowKit.bl_alloc | apply BelowKit.bl_drewN | apply BelowKit.bl_drew | (refine BelowKit.bl_set ?_ _ ?_; rotate_left; (first | omega | (simp; omega) | simp)) | (refine BelowKit.bl_trans ?_ (‹Hid (Below _ _ _)›).out)))⟩
  | true =>
  have h1 := inB_of E1.out
  by_cases h2 : 0 ≤ f
  case neg =>
    go_wp2
    go_ret
    exact ⟨bo_eq (HN.out (by omega)).symm, by (repeat (first | exact Below.refl _ _ | apply BelowKit.bl_alloc | apply BelowKit.bl_drewN | apply BelowKit.bl_drew | (refine BelowKit.bl_set ?_ _ ?_; rotate_left; (first | omega | (simp; omega) | simp)) | (refine BelowKit.bl_trans ?_ (‹Hid (Below _ _ _)›).out)))⟩
  case pos =>
  by_cases h3 : f < t
  case neg =>
    go_wp2
    go_ret
    exact ⟨bo_eq (HN.out (by omega)).symm, by (repeat (first | exact Below.refl _ _ | apply BelowKit.bl_alloc | apply BelowKit.bl_drewN | apply BelowKit.bl_drew | (refine BelowKit.bl_set ?_ _ ?_; rotate_left; (first | omega | (simp; omega) | simp)) | (refine BelowKit.bl_trans ?_ (‹Hid (Below _ _ _)›).out)))⟩
  case pos =>
  by_cases h4 : t ≤ 3600
  case neg =>
    go_wp2
    go_ret
    exact ⟨bo_eq (HN.out (by omega)).symm, by (repeat (first | exact Below.refl _ _ | apply BelowKit.bl_alloc | apply BelowKit.bl_drewN | apply BelowKit.bl_drew | (refine BelowKit.bl_set ?_ _ ?_; rotate_left; (first | omega | (simp; omega) | simp)) | (refine BelowKit.bl_trans ?_ (‹Hid (Below _ _ _)›).out)))⟩
  case pos =>
  go_wp2_with fail
  refine (ok_s _ _).mono ?_
  rintro e w' ⟨rfl, rfl⟩
  rw [E5.out]
  cases b5 with
  | false =>
    have h5 := inB_not E5.out
    go_wp2
    go_ret
    exact ⟨bo_eq (HN.out (by omega)).symm, by (repeat (first | exact Below.refl _ _ | apply BelowKit.bl_alloc | apply BelowKit.bl_drewN | apply BelowKit.bl_drew | (refine BelowKit.bl_set ?_ _ ?_; rotate_left; (first | omega | (simp; omega) | simp)) | (refine BelowKit.bl_trans ?_ (‹Hid (Below _ _ _)›).out)))⟩
  | true =>
  have h5 := inB_of E5.out
  go_wp2_with fail
  refine (in_c _ _ _ _).mono ?_
  rintro e w' ⟨rfl, rfl⟩
  rw [E6.out]
  cases b6 with
  | false =>
    have h6 := inB_not E6.out
    go_wp2
    go_ret
    exact ⟨bo_eq (HN.out (by omega)).symm, by (repeat (first | exact Below.refl _ _ | apply BelowKit.bl_alloc | apply BelowKit.bl_drewN | apply BelowKit.bl_drew | (refine BelowKit.bl_set ?_ _ ?_; rotate_left; (first | omega | (simp; omega) | simp)) | (refine BelowKit.bl_trans ?_ (‹Hid (Below _ _ _)›).out)))⟩
  | true =>
  have h6 := inB_of E6.out
  go_wp2
  go_ret
  exact ⟨bo_eq (HY.out (by omega)).symm, by (repeat (first | exact Below.refl _ _ | apply BelowKit.bl_alloc | apply BelowKit.bl_drewN | apply BelowKit.bl_drew | (refine BelowKit.bl_set ?_ _ ?_; rotate_left; (first | omega | (simp; omega) | simp)) | (refine BelowKit.bl_trans ?_ (‹Hid (Below _ _ _)›).out)))⟩
def IsFa (x : Fa) (w : World) (e : Ending) (w' : World) : Prop := e = .returned (fv x) ∧ Below w.heap.size w w'
set_option maxHeartbeats 1000000 in
theorem to_c (x : Fa) (w : World) : Calls Try.prog 64 #[fv x] w (IsFa x w) := by
  obtain ⟨k, f, t, n, v⟩ := x
  show Calls Try.prog 64 #[.agg #[.int .i64 k, .int .i64 f, .int .i64 t, .int .i64 n, .int .i64 v]] w (IsFa ⟨k, f, t, n, v⟩ w)
  go_enter Try.func64, Try.ntmps64
  go_wp2
  refine bodyPost_ret (v := .agg #[.int .i64 k, .int .i64 f, .int .i64 t, .int .i64 n, .int .i64 v]) (by simp [results, Try.results64, go_sem]) rfl ⟨rfl, ?_⟩
  (repeat (first | exact Below.refl _ _ | apply BelowKit.bl_alloc | apply BelowKit.bl_drewN | apply BelowKit.bl_drew | (refine BelowKit.bl_set ?_ _ ?_; rotate_left; (first | omega | (simp; omega) | simp)) | (refine BelowKit.bl_trans ?_ (‹Hid (Below _ _ _)›).out)))
end Go.Proofs.Ytdmkceaonfbebaa.Fact

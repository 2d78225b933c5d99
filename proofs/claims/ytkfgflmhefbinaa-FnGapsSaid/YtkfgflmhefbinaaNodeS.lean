/- Contracts of the model's l08Two, l08At, NodeOk, FormulaOk, l08Vars. Written by gen_nods.py. -/
import Derived.Test.YtkfgflmhefbinaaRows
import Derived.Test.YtkfgflmhefbinaaNodeMath
import Derived.Test.YtkfgflmhefbinaaFracEq
import Derived.Test.YtkfgflmhefbinaaFracC
import Derived.Test.YtkfgflmhefbinaaMon
import Derived.Test.YtkfgflmhefbinaaKit
namespace Go.Proofs.Ytkfgflmhefbinaa.NodeS
open Go.RowKit RowN TNode NodeMath FracMath Mon Box
theorem not_in {m lo hi : Int} (h : Mon.inB m lo hi = false) : ¬ (lo ≤ m ∧ m ≤ hi) := fun e => by rw [Mon.inB_yes e.1 e.2] at h; cases h
def atB (x k : Int) : Bool := decide (0 ≤ x ∧ x < k)
theorem atB_of {x k : Int} (h : atB x k = true) : 0 ≤ x ∧ x < k := of_decide_eq_true h
theorem atB_not {x k : Int} (h : atB x k = false) : ¬ (0 ≤ x ∧ x < k) := of_decide_eq_false h
def IsB (b : Bool) (w : World) (e : Ending) (w' : World) : Prop := e = .returned (.bool b) ∧ w = w'
theorem two_s (k : Int) (w : World) : Calls Try.prog 125 #[.int .i64 k] w (IsB (Mon.inB k 3 8) w) := by
  go_enter Try.func125, Try.ntmps125
  go_wp2_with fail
  refine (in_c _ _ _ _).mono ?_
  rintro e w' ⟨rfl, rfl⟩
  go_wp2
  go_ret
  exact ⟨rfl, rfl⟩
theorem at_s (x k : Int) (w : World) : Calls Try.prog 126 #[.int .i64 x, .int .i64 k] w (IsB (atB x k) w) := by
  by_cases h1 : 0 ≤ x
  · by_cases h2 : x < k
    · rw [show atB x k = true from decide_eq_true ⟨h1, h2⟩]
      have d1 : decide (0 ≤ x) = true := decide_eq_true h1
      have d2 : decide (x < k) = true := decide_eq_true h2
      clear h1 h2
      go_enter Try.func126, Try.ntmps126
      go_wp2
      go_ret
      exact ⟨rfl, rfl⟩
    · rw [show atB x k = false from decide_eq_false (fun e => h2 e.2)]
      have d1 : decide (0 ≤ x) = true := decide_eq_true h1
      have d2 : decide (x < k) = false := decide_eq_false h2
      clear h1 h2
      go_enter Try.func126, Try.ntmps126
      go_wp2
      go_ret
      exact ⟨rfl, rfl⟩
  · rw [show atB x k = false from decide_eq_false (fun e => h1 e.1)]
    have d1 : decide (0 ≤ x) = false := decide_eq_false h1
    clear h1
    go_enter Try.func126, Try.ntmps126
    go_wp2
    go_ret
    exact ⟨rfl, rfl⟩
theorem at_v (x k : Int) (b : Bool) (w : World) (h : atB x k = b) : Calls Try.prog 126 #[.int .i64 x, .int .i64 k] w (IsB b w) := h ▸ at_s x k w
theorem in_v (x lo hi : Int) (b : Bool) (w : World) (h : Mon.inB x lo hi = b) : Calls Try.prog 64 #[.int .i64 x, .int .i64 lo, .int .i64 hi] w (IsB b w) := h ▸ in_c x lo hi w
theorem two_v (k : Int) (b : Bool) (w : World) (h : Mon.inB k 3 8 = b) : Calls Try.prog 125 #[.int .i64 k] w (IsB b w) := h ▸ two_s k w
set_option maxHeartbeats 16000000 in
theorem node_s (w : World) (n : El) (at_ : Int) : Calls Try.prog 107 #[fv n, .int .i64 at_] w (IsBo (okN n at_) w) := by
  obtain ⟨k, a, b, c, u, v⟩ := n
  show Calls Try.prog 107 #[.agg #[.int .i64 k, .int .i64 a, .int .i64 b, .int .i64 c, .int .i64 u, .int .i64 v], .int .i64 at_] w (IsBo (okN ⟨k, a, b, c, u, v⟩ at_) w)
  obtain ⟨R, hR⟩ : ∃ R, okN ⟨k, a, b, c, u, v⟩ at_ = R := ⟨_, rfl⟩
  have HY : Hid (OkN ⟨k, a, b, c, u, v⟩ at_ → R = true) := Lib.hid (fun h => hR.symm.trans (okN_yes h))
  have HN : Hid (¬ OkN ⟨k, a, b, c, u, v⟩ at_ → R = false) := Lib.hid (fun h => hR.symm.trans (okN_no h))
  rw [hR]
  clear hR
  have hneq := FracEq.neq u v 0 0
  have hgrd := fun x y => FracEq.guard .neq x y #[.int .i64 u, .int .i64 v] #[.int .i64 0, .int .i64 0]
  go_enter Try.func107, Try.ntmps107
  by_cases h1 : k = 1
  · have dk : (k == 1) = true := by rw [h1]; rfl
    by_cases ha : a = 0
    case neg =>
      have da : (a == 0) = false := beq_eq_false_iff_ne.2 ha
      have E := Lib.hid (HN.out (by unfold OkN; simp only []; omega))
      clear HY HN h1 ha
      go_wp2
      go_ret
      rw [E.out]
      exact ⟨rfl, by (repeat (first | exact Below.refl _ _ | apply BelowKit.bl_alloc | apply BelowKit.bl_drewN | apply BelowKit.bl_drew | (refine BelowKit.bl_set ?_ _ ?_; rotate_left; (first | omega | (simp; omega) | simp)) | (refine BelowKit.bl_trans ?_ (‹Hid (Below _ _ _)›).out)))⟩
    case pos =>
    have da : (a == 0) = true := by rw [ha]; rfl
    by_cases hb : b = 0
    case neg =>
      have db : (b == 0) = false := beq_eq_false_iff_ne.2 hb
      have E := Lib.hid (HN.out (by unfold OkN; simp only []; omega))
      clear HY HN h1 ha hb
      go_wp2
      go_ret
      rw [E.out]
      exact ⟨rfl, by (repeat (first | exact Below.refl _ _ | apply BelowKit.bl_alloc | apply BelowKit.bl_drewN | apply BelowKit.bl_drew | (refine BelowKit.bl_set ?_ _ ?_; rotate_left; (first | omega | (simp; omega) | simp)) | (refine BelowKit.bl_trans ?_ (‹Hid (Below _ _ _)›).out)))⟩
    case pos =>
    have db : (b == 0) = true := by rw [hb]; rfl
    by_cases hc : c = 0
    case neg =>
      have dc : (c == 0) = false := beq_eq_false_iff_ne.2 hc
      have E := Lib.hid (HN.out (by unfold OkN; simp only []; omega))
      clear HY HN h1 ha hb hc
      go_wp2
      go_ret
      rw [E.out]
      exact ⟨rfl, by (repeat (first | exact Below.refl _ _ | apply BelowKit.bl_alloc | apply BelowKit.bl_drewN | apply BelowKit.bl_drew | (refine BelowKit.bl_set ?_ _ ?_; rotate_left; (first | omega | (simp; omega) | simp)) | (refine BelowKit.bl_trans ?_ (‹Hid (Below _ _ _)›).out)))⟩
    case pos =>
    have dc : (c == 0) = true := by rw [hc]; rfl
    obtain ⟨q, hq⟩ : ∃ q, okB u v = q := ⟨_, rfl⟩
    have HQ := Lib.hid hq
    have E : Hid (R = q) := Lib.hid (by
      cases q with
      | true => exact HY.out (.inl ⟨h1, ha, hb, hc, hq⟩)
      | false => exact HN.out (by unfold OkN; simp only []; rw [hq]; simp; omega))
    clear HY HN h1 ha hb hc hq
    go_wp2_with fail
    refine (FracValid.ok_s u v _).mono ?_
    rintro e w' ⟨rfl, hb'⟩
    rw [HQ.out]
    have HB := Lib.hid hb'
    clear hb'
    go_wp2
    go_ret
    rw [E.out]
    exact ⟨rfl, by (repeat (first | exact Below.refl _ _ | apply BelowKit.bl_alloc | apply BelowKit.bl_drewN | apply BelowKit.bl_drew | (refine BelowKit.bl_set ?_ _ ?_; rotate_left; (first | omega | (simp; omega) | simp)) | (refine BelowKit.bl_trans ?_ (‹Hid (Below _ _ _)›).out)))⟩
  have dk1 : (k == 1) = false := beq_eq_false_iff_ne.2 h1
  by_cases hz : u = 0 ∧ v = 0
  case neg =>
    have dz : (u == 0 && v == 0) = false := by simpa [Bool.and_eq_false_iff] using fun h1 h2 => hz ⟨h1, h2⟩
    have E := Lib.hid (HN.out (by unfold OkN; simp only []; omega))
    clear HY HN hz h1
    simp only [dz] at hneq
    go_wp2
    go_ret
    rw [E.out]
    exact ⟨rfl, by (repeat (first | exact Below.refl _ _ | apply BelowKit.bl_alloc | apply BelowKit.bl_drewN | apply BelowKit.bl_drew | (refine BelowKit.bl_set ?_ _ ?_; rotate_left; (first | omega | (simp; omega) | simp)) | (refine BelowKit.bl_trans ?_ (‹Hid (Below _ _ _)›).out)))⟩
  case pos =>
  have dz : (u == 0 && v == 0) = true := by simp [hz]
  simp only [dz] at hneq
  by_cases h2 : k = 2
  · have dk2 : (k == 2) = true := by rw [h2]; rfl
    obtain ⟨q, hq⟩ : ∃ q, Mon.inB a 0 7 = q := ⟨_, rfl⟩
    have HQ := Lib.hid hq
    cases q with
    | false =>
      have E := Lib.hid (HN.out (by have := not_in hq; unfold OkN; simp only []; omega))
      clear HY HN h1 h2 hz hq
      go_wp2_with fail
      refine (in_v _ _ _ _ _ HQ.out).mono ?_
      rintro e w' ⟨rfl, rfl⟩
      go_wp2
      go_ret
      rw [E.out]
      exact ⟨rfl, by (repeat (first | exact Below.refl _ _ | apply BelowKit.bl_alloc | apply BelowKit.bl_drewN | apply BelowKit.bl_drew | (refine BelowKit.bl_set ?_ _ ?_; rotate_left; (first | omega | (simp; omega) | simp)) | (refine BelowKit.bl_trans ?_ (‹Hid (Below _ _ _)›).out)))⟩
    | true =>
    by_cases hb : b = 0
    case neg =>
      have db : (b == 0) = false := beq_eq_false_iff_ne.2 hb
      have E := Lib.hid (HN.out (by unfold OkN; simp only []; omega))
      clear HY HN h1 h2 hz hq hb
      go_wp2_with fail
      refine (in_v _ _ _ _ _ HQ.out).mono ?_
      rintro e w' ⟨rfl, rfl⟩
      go_wp2
      go_ret
      rw [E.out]
      exact ⟨rfl, by (repeat (first | exact Below.refl _ _ | apply BelowKit.bl_alloc | apply BelowKit.bl_drewN | apply BelowKit.bl_drew | (refine BelowKit.bl_set ?_ _ ?_; rotate_left; (first | omega | (simp; omega) | simp)) | (refine BelowKit.bl_trans ?_ (‹Hid (Below _ _ _)›).out)))⟩
    case pos =>
    have db : (b == 0) = true := by rw [hb]; rfl
    by_cases hc : c = 0
    case neg =>
      have dc : (c == 0) = false := beq_eq_false_iff_ne.2 hc
      have E := Lib.hid (HN.out (by unfold OkN; simp only []; omega))
      clear HY HN h1 h2 hz hq hb hc
      go_wp2_with fail
      refine (in_v _ _ _ _ _ HQ.out).mono ?_
      rintro e w' ⟨rfl, rfl⟩
      go_wp2
      go_ret
      rw [E.out]
      exact ⟨rfl, by (repeat (first | exact Below.refl _ _ | apply BelowKit.bl_alloc | apply BelowKit.bl_drewN | apply BelowKit.bl_drew | (refine BelowKit.bl_set ?_ _ ?_; rotate_left; (first | omega | (simp; omega) | simp)) | (refine BelowKit.bl_trans ?_ (‹Hid (Below _ _ _)›).out)))⟩
    case pos =>
    have dc : (c == 0) = true := by rw [hc]; rfl
    have E := Lib.hid (HY.out (.inr ⟨hz.1, hz.2, .inl ⟨h2, Mon.inB_of hq, hb, hc⟩⟩))
    clear HY HN h1 h2 hz hq hb hc
    go_wp2_with fail
    refine (in_v _ _ _ _ _ HQ.out).mono ?_
    rintro e w' ⟨rfl, rfl⟩
    go_wp2
    go_ret
    rw [E.out]
    exact ⟨rfl, by (repeat (first | exact Below.refl _ _ | apply BelowKit.bl_alloc | apply BelowKit.bl_drewN | apply BelowKit.bl_drew | (refine BelowKit.bl_set ?_ _ ?_; rotate_left; (first | omega | (simp; omega) | simp)) | (refine BelowKit.bl_trans ?_ (‹Hid (Below _ _ _)›).out)))⟩
  have dk2 : (k == 2) = false := beq_eq_false_iff_ne.2 h2
  obtain ⟨t, ht⟩ : ∃ t, Mon.inB k 3 8 = t := ⟨_, rfl⟩
  have HT := Lib.hid ht
  obtain ⟨qa, hqa⟩ : ∃ q, atB a at_ = q := ⟨_, rfl⟩
  obtain ⟨qb, hqb⟩ : ∃ q, atB b at_ = q := ⟨_, rfl⟩
  obtain ⟨qc, hqc⟩ : ∃ q, atB c at_ = q := ⟨_, rfl⟩
  have HA := Lib.hid hqa
  have HB := Lib.hid hqb
  have HC := Lib.hid hqc
  cases t with
  | true =>
    have ht' := Mon.inB_of ht
    cases qa with
    | false =>
      have E := Lib.hid (HN.out (by have := atB_not hqa; unfold OkN; simp only []; omega))
      clear HY HN ht' h1 h2 hz ht hqa hqb hqc
      go_wp2_with fail
      refine (two_v _ _ _ HT.out).mono ?_
      rintro e w' ⟨rfl, rfl⟩
      go_wp2_with fail
      refine (at_v _ _ _ _ HA.out).mono ?_
      rintro e w' ⟨rfl, rfl⟩
      go_wp2
      go_ret
      rw [E.out]
      exact ⟨rfl, by (repeat (first | exact Below.refl _ _ | apply BelowKit.bl_alloc | apply BelowKit.bl_drewN | apply BelowKit.bl_drew | (refine BelowKit.bl_set ?_ _ ?_; rotate_left; (first | omega | (simp; omega) | simp)) | (refine BelowKit.bl_trans ?_ (‹Hid (Below _ _ _)›).out)))⟩
    | true =>
    cases qb with
    | false =>
      have E := Lib.hid (HN.out (by have := atB_not hqb; unfold OkN; simp only []; omega))
      clear HY HN ht' h1 h2 hz ht hqa hqb hqc
      go_wp2_with fail
      refine (two_v _ _ _ HT.out).mono ?_
      rintro e w' ⟨rfl, rfl⟩
      go_wp2_with fail
      refine (at_v _ _ _ _ HA.out).mono ?_
      rintro e w' ⟨rfl, rfl⟩
      go_wp2_with fail
      refine (at_v _ _ _ _ HB.out).mono ?_
      rintro e w' ⟨rfl, rfl⟩
      go_wp2
      go_ret
      rw [E.out]
      exact ⟨rfl, by (repeat (first | exact Below.refl _ _ | apply BelowKit.bl_alloc | apply BelowKit.bl_drewN | apply BelowKit.bl_drew | (refine BelowKit.bl_set ?_ _ ?_; rotate_left; (first | omega | (simp; omega) | simp)) | (refine BelowKit.bl_trans ?_ (‹Hid (Below _ _ _)›).out)))⟩
    | true =>
    by_cases hc : c = 0
    case neg =>
      have dc : (c == 0) = false := beq_eq_false_iff_ne.2 hc
      have E := Lib.hid (HN.out (by unfold OkN; simp only []; omega))
      clear HY HN ht' hc h1 h2 hz ht hqa hqb hqc
      go_wp2_with fail
      refine (two_v _ _ _ HT.out).mono ?_
      rintro e w' ⟨rfl, rfl⟩
      go_wp2_with fail
      refine (at_v _ _ _ _ HA.out).mono ?_
      rintro e w' ⟨rfl, rfl⟩
      go_wp2_with fail
      refine (at_v _ _ _ _ HB.out).mono ?_
      rintro e w' ⟨rfl, rfl⟩
      go_wp2
      go_ret
      rw [E.out]
      exact ⟨rfl, by (repeat (first | exact Below.refl _ _ | apply BelowKit.bl_alloc | apply BelowKit.bl_drewN | apply BelowKit.bl_drew | (refine BelowKit.bl_set ?_ _ ?_; rotate_left; (first | omega | (simp; omega) | simp)) | (refine BelowKit.bl_trans ?_ (‹Hid (Below _ _ _)›).out)))⟩
    case pos =>
    have dc : (c == 0) = true := by rw [hc]; rfl
    have E := Lib.hid (HY.out (.inr ⟨hz.1, hz.2, .inr (.inl ⟨ht', atB_of hqa, atB_of hqb, hc⟩)⟩))
    clear HY HN ht' hc h1 h2 hz ht hqa hqb hqc
    go_wp2_with fail
    refine (two_v _ _ _ HT.out).mono ?_
    rintro e w' ⟨rfl, rfl⟩
    go_wp2_with fail
    refine (at_v _ _ _ _ HA.out).mono ?_
    rintro e w' ⟨rfl, rfl⟩
    go_wp2_with fail
    refine (at_v _ _ _ _ HB.out).mono ?_
    rintro e w' ⟨rfl, rfl⟩
    go_wp2
    go_ret
    rw [E.out]
    exact ⟨rfl, by (repeat (first | exact Below.refl _ _ | apply BelowKit.bl_alloc | apply BelowKit.bl_drewN | apply BelowKit.bl_drew | (refine BelowKit.bl_set ?_ _ ?_; rotate_left; (first | omega | (simp; omega) | simp)) | (refine BelowKit.bl_trans ?_ (‹Hid (Below _ _ _)›).out)))⟩
  | false =>
  have ht' := not_in ht
  by_cases h9 : k = 9
  case neg =>
    have d9 : (k == 9) = false := beq_eq_false_iff_ne.2 h9
    have E := Lib.hid (HN.out (by unfold OkN; simp only []; omega))
    clear HY HN ht' h9 h1 h2 hz ht hqa hqb hqc
    go_wp2_with fail
    refine (two_v _ _ _ HT.out).mono ?_
    rintro e w' ⟨rfl, rfl⟩
    go_wp2
    go_ret
    rw [E.out]
    exact ⟨rfl, by (repeat (first | exact Below.refl _ _ | apply BelowKit.bl_alloc | apply BelowKit.bl_drewN | apply BelowKit.bl_drew | (refine BelowKit.bl_set ?_ _ ?_; rotate_left; (first | omega | (simp; omega) | simp)) | (refine BelowKit.bl_trans ?_ (‹Hid (Below _ _ _)›).out)))⟩
  case pos =>
  have d9 : (k == 9) = true := by rw [h9]; rfl
  cases qa with
  | false =>
    have E := Lib.hid (HN.out (by have := atB_not hqa; unfold OkN; simp only []; omega))
    clear HY HN ht' h9 h1 h2 hz ht hqa hqb hqc
    go_wp2_with fail
    refine (two_v _ _ _ HT.out).mono ?_
    rintro e w' ⟨rfl, rfl⟩
    go_wp2_with fail
    refine (at_v _ _ _ _ HA.out).mono ?_
    rintro e w' ⟨rfl, rfl⟩
    go_wp2
    go_ret
    rw [E.out]
    exact ⟨rfl, by (repeat (first | exact Below.refl _ _ | apply BelowKit.bl_alloc | apply BelowKit.bl_drewN | apply BelowKit.bl_drew | (refine BelowKit.bl_set ?_ _ ?_; rotate_left; (first | omega | (simp; omega) | simp)) | (refine BelowKit.bl_trans ?_ (‹Hid (Below _ _ _)›).out)))⟩
  | true =>
  cases qb with
  | false =>
    have E := Lib.hid (HN.out (by have := atB_not hqb; unfold OkN; simp only []; omega))
    clear HY HN ht' h9 h1 h2 hz ht hqa hqb hqc
    go_wp2_with fail
    refine (two_v _ _ _ HT.out).mono ?_
    rintro e w' ⟨rfl, rfl⟩
    go_wp2_with fail
    refine (at_v _ _ _ _ HA.out).mono ?_
    rintro e w' ⟨rfl, rfl⟩
    go_wp2_with fail
    refine (at_v _ _ _ _ HB.out).mono ?_
    rintro e w' ⟨rfl, rfl⟩
    go_wp2
    go_ret
    rw [E.out]
    exact ⟨rfl, by (repeat (first | exact Below.refl _ _ | apply BelowKit.bl_alloc | apply BelowKit.bl_drewN | apply BelowKit.bl_drew | (refine BelowKit.bl_set ?_ _ ?_; rotate_left; (first | omega | (simp; omega) | simp)) | (refine BelowKit.bl_trans ?_ (‹Hid (Below _ _ _)›).out)))⟩
  | true =>
  cases qc with
  | false =>
    have E := Lib.hid (HN.out (by have := atB_not hqc; unfold OkN; simp only []; omega))
    clear HY HN ht' h9 h1 h2 hz ht hqa hqb hqc
    go_wp2_with fail
    refine (two_v _ _ _ HT.out).mono ?_
    rintro e w' ⟨rfl, rfl⟩
    go_wp2_with fail
    refine (at_v _ _ _ _ HA.out).mono ?_
    rintro e w' ⟨rfl, rfl⟩
    go_wp2_with fail
    refine (at_v _ _ _ _ HB.out).mono ?_
    rintro e w' ⟨rfl, rfl⟩
    go_wp2_with fail
    refine (at_v _ _ _ _ HC.out).mono ?_
    rintro e w' ⟨rfl, rfl⟩
    go_wp2
    go_ret
    rw [E.out]
    exact ⟨rfl, by (repeat (first | exact Below.refl _ _ | apply BelowKit.bl_alloc | apply BelowKit.bl_drewN | apply BelowKit.bl_drew | (refine BelowKit.bl_set ?_ _ ?_; rotate_left; (first | omega | (simp; omega) | simp)) | (refine BelowKit.bl_trans ?_ (‹Hid (Below _ _ _)›).out)))⟩
  | true =>
  have E := Lib.hid (HY.out (.inr ⟨hz.1, hz.2, .inr (.inr ⟨h9, atB_of hqa, atB_of hqb, atB_of hqc⟩)⟩))
  clear HY HN ht' h9 h1 h2 hz ht hqa hqb hqc
  go_wp2_with fail
  refine (two_v _ _ _ HT.out).mono ?_
  rintro e w' ⟨rfl, rfl⟩
  go_wp2_with fail
  refine (at_v _ _ _ _ HA.out).mono ?_
  rintro e w' ⟨rfl, rfl⟩
  go_wp2_with fail
  refine (at_v _ _ _ _ HB.out).mono ?_
  rintro e w' ⟨rfl, rfl⟩
  go_wp2_with fail
  refine (at_v _ _ _ _ HC.out).mono ?_
  rintro e w' ⟨rfl, rfl⟩
  go_wp2
  go_ret
  rw [E.out]
  exact ⟨rfl, by (repeat (first | exact Below.refl _ _ | apply BelowKit.bl_alloc | apply BelowKit.bl_drewN | apply BelowKit.bl_drew | (refine BelowKit.bl_set ?_ _ ?_; rotate_left; (first | omega | (simp; omega) | simp)) | (refine BelowKit.bl_trans ?_ (‹Hid (Below _ _ _)›).out)))⟩
end Go.Proofs.Ytkfgflmhefbinaa.NodeS

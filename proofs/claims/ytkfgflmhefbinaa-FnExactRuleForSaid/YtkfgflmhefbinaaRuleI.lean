/- Contracts of the program's RuleOk and isTiedWith. Written by gen_rulei.py. -/
import Derived.Test.YtkfgflmhefbinaaRows
import Derived.Test.YtkfgflmhefbinaaTRule
import Derived.Test.YtkfgflmhefbinaaBookMath
import Derived.Test.YtkfgflmhefbinaaFormI
namespace Go.Proofs.Ytkfgflmhefbinaa.RuleI
open Go.RowKit RowN TRule BookMath Mon
set_option maxHeartbeats 4000000 in
theorem rule_i (x : El) (w : World) (hs : x.r.Nodes.length ≤ 1099511627776) (h : Reads TNode.fc 6 w x.p x.r.Nodes) : Calls Try.prog 31 #[fv x] w (IsBo (ruleB x.r) w) := by
  obtain ⟨⟨x0, x1, x2, x3, x4, x5, l⟩, p, c⟩ := x
  have KK := Lib.hid (show Reads TNode.fc 6 w p l from h)
  clear h
  obtain ⟨m, hm⟩ : ∃ m, l.length = m := ⟨_, rfl⟩
  have HM := Lib.hid hm
  have hs' : m ≤ 1099511627776 := by rw [← hm]; exact hs
  obtain ⟨R, hR⟩ : ∃ R, ruleB ⟨x0, x1, x2, x3, x4, x5, l⟩ = R := ⟨_, rfl⟩
  show Calls Try.prog 31 #[.agg #[.int .i64 x0, .int .i64 x1, .int .i64 x2, .int .i64 x3, .int .i64 x4, .int .i64 x5, .slice p l.length c]] w (IsBo (ruleB ⟨x0, x1, x2, x3, x4, x5, l⟩) w)
  have HN : Hid (¬ RuleP ⟨x0, x1, x2, x3, x4, x5, l⟩ → R = false) := Lib.hid (fun e => by rw [← hR]; exact ruleB_no e)
  have HY : Hid (1 ≤ x0 ∧ x0 ≤ 20 → 0 ≤ x1 ∧ x1 < x2 ∧ x2 ≤ 3600 → 1 ≤ x3 ∧ x3 ≤ 3600 → 0 ≤ x4 ∧ x4 ≤ 9 → 1 ≤ x5 ∧ x5 ≤ 4 → R = NodeMath.okF l) := Lib.hid (fun h1 h2 h3 h4 h5 => by
    rw [← hR]
    cases e : NodeMath.okF l with
    | true => exact ruleB_yes ⟨h1, h2, h3, h4, h5, e⟩
    | false => exact ruleB_no (fun q => by rw [q.nodes] at e; cases e))
  rw [hm, hR]
  clear hs hm hR
  go_enter Try.func31, Try.ntmps31
  by_cases h0 : 1 ≤ x0
  case neg =>
    have E := Lib.hid (HN.out (fun e => by have := e.name; simp only [] at this; omega))
    have d0 : decide (1 ≤ x0) = false := decide_eq_false h0
    clear h0
    clear HY HN KK HM
    go_wp2
    go_ret
    rw [E.out]
    exact ⟨rfl, by (repeat (first | exact Below.refl _ _ | apply BelowKit.bl_alloc | apply BelowKit.bl_drewN | apply BelowKit.bl_drew | (refine BelowKit.bl_set ?_ _ ?_; rotate_left; (first | omega | (simp; omega) | simp)) | (refine BelowKit.bl_trans ?_ (‹Hid (Below _ _ _)›).out)))⟩
  case pos =>
  have d0 : decide (1 ≤ x0) = true := decide_eq_true h0
  have H0 := Lib.hid h0
  clear h0
  by_cases h1 : x0 ≤ 20
  case neg =>
    have E := Lib.hid (HN.out (fun e => by have := e.name; simp only [] at this; omega))
    have d1 : decide (x0 ≤ 20) = false := decide_eq_false h1
    clear h1
    clear HY HN KK HM
    go_wp2
    go_ret
    rw [E.out]
    exact ⟨rfl, by (repeat (first | exact Below.refl _ _ | apply BelowKit.bl_alloc | apply BelowKit.bl_drewN | apply BelowKit.bl_drew | (refine BelowKit.bl_set ?_ _ ?_; rotate_left; (first | omega | (simp; omega) | simp)) | (refine BelowKit.bl_trans ?_ (‹Hid (Below _ _ _)›).out)))⟩
  case pos =>
  have d1 : decide (x0 ≤ 20) = true := decide_eq_true h1
  have H1 := Lib.hid h1
  clear h1
  obtain ⟨b2, hb2⟩ : ∃ b, inB x1 0 3600 = b := ⟨_, rfl⟩
  have B2 := Lib.hid hb2
  clear hb2
  go_wp2_with fail
  refine (Mon.end_i _ _).mono ?_
  rintro e w' ⟨rfl, rfl⟩
  rw [B2.out]
  cases b2 with
  | false =>
    have E := Lib.hid (HN.out (fun e => by have := e.months; have q := inB_not B2.out; simp only [] at this; omega))
    clear HY HN KK HM
    go_wp2
    go_ret
    rw [E.out]
    exact ⟨rfl, by (repeat (first | exact Below.refl _ _ | apply BelowKit.bl_alloc | apply BelowKit.bl_drewN | apply BelowKit.bl_drew | (refine BelowKit.bl_set ?_ _ ?_; rotate_left; (first | omega | (simp; omega) | simp)) | (refine BelowKit.bl_trans ?_ (‹Hid (Below _ _ _)›).out)))⟩
  | true =>
  have H2 := Lib.hid (inB_of B2.out)
  clear B2
  obtain ⟨b3, hb3⟩ : ∃ b, inB x2 0 3600 = b := ⟨_, rfl⟩
  have B3 := Lib.hid hb3
  clear hb3
  go_wp2_with fail
  refine (Mon.end_i _ _).mono ?_
  rintro e w' ⟨rfl, rfl⟩
  rw [B3.out]
  cases b3 with
  | false =>
    have E := Lib.hid (HN.out (fun e => by have := e.months; have q := inB_not B3.out; simp only [] at this; omega))
    clear HY HN KK HM
    go_wp2
    go_ret
    rw [E.out]
    exact ⟨rfl, by (repeat (first | exact Below.refl _ _ | apply BelowKit.bl_alloc | apply BelowKit.bl_drewN | apply BelowKit.bl_drew | (refine BelowKit.bl_set ?_ _ ?_; rotate_left; (first | omega | (simp; omega) | simp)) | (refine BelowKit.bl_trans ?_ (‹Hid (Below _ _ _)›).out)))⟩
  | true =>
  have H3 := Lib.hid (inB_of B3.out)
  clear B3
  by_cases h4 : x1 < x2
  case neg =>
    have E := Lib.hid (HN.out (fun e => by have := e.months; simp only [] at this; omega))
    have d4 : decide (x1 < x2) = false := decide_eq_false h4
    clear h4
    clear HY HN KK HM
    go_wp2
    go_ret
    rw [E.out]
    exact ⟨rfl, by (repeat (first | exact Below.refl _ _ | apply BelowKit.bl_alloc | apply BelowKit.bl_drewN | apply BelowKit.bl_drew | (refine BelowKit.bl_set ?_ _ ?_; rotate_left; (first | omega | (simp; omega) | simp)) | (refine BelowKit.bl_trans ?_ (‹Hid (Below _ _ _)›).out)))⟩
  case pos =>
  have d4 : decide (x1 < x2) = true := decide_eq_true h4
  have H4 := Lib.hid h4
  clear h4
  by_cases h5 : 1 ≤ x3
  case neg =>
    have E := Lib.hid (HN.out (fun e => by have := e.joined; simp only [] at this; omega))
    have d5 : decide (1 ≤ x3) = false := decide_eq_false h5
    clear h5
    clear HY HN KK HM
    go_wp2
    go_ret
    rw [E.out]
    exact ⟨rfl, by (repeat (first | exact Below.refl _ _ | apply BelowKit.bl_alloc | apply BelowKit.bl_drewN | apply BelowKit.bl_drew | (refine BelowKit.bl_set ?_ _ ?_; rotate_left; (first | omega | (simp; omega) | simp)) | (refine BelowKit.bl_trans ?_ (‹Hid (Below _ _ _)›).out)))⟩
  case pos =>
  have d5 : decide (1 ≤ x3) = true := decide_eq_true h5
  have H5 := Lib.hid h5
  clear h5
  obtain ⟨b6, hb6⟩ : ∃ b, inB x3 0 3600 = b := ⟨_, rfl⟩
  have B6 := Lib.hid hb6
  clear hb6
  go_wp2_with fail
  refine (Mon.end_i _ _).mono ?_
  rintro e w' ⟨rfl, rfl⟩
  rw [B6.out]
  cases b6 with
  | false =>
    have E := Lib.hid (HN.out (fun e => by have := e.joined; have q := inB_not B6.out; simp only [] at this; omega))
    clear HY HN KK HM
    go_wp2
    go_ret
    rw [E.out]
    exact ⟨rfl, by (repeat (first | exact Below.refl _ _ | apply BelowKit.bl_alloc | apply BelowKit.bl_drewN | apply BelowKit.bl_drew | (refine BelowKit.bl_set ?_ _ ?_; rotate_left; (first | omega | (simp; omega) | simp)) | (refine BelowKit.bl_trans ?_ (‹Hid (Below _ _ _)›).out)))⟩
  | true =>
  have H6 := Lib.hid (inB_of B6.out)
  clear B6
  by_cases h7 : 0 ≤ x4
  case neg =>
    have E := Lib.hid (HN.out (fun e => by have := e.rank; simp only [] at this; omega))
    have d7 : decide (0 ≤ x4) = false := decide_eq_false h7
    clear h7
    clear HY HN KK HM
    go_wp2
    go_ret
    rw [E.out]
    exact ⟨rfl, by (repeat (first | exact Below.refl _ _ | apply BelowKit.bl_alloc | apply BelowKit.bl_drewN | apply BelowKit.bl_drew | (refine BelowKit.bl_set ?_ _ ?_; rotate_left; (first | omega | (simp; omega) | simp)) | (refine BelowKit.bl_trans ?_ (‹Hid (Below _ _ _)›).out)))⟩
  case pos =>
  have d7 : decide (0 ≤ x4) = true := decide_eq_true h7
  have H7 := Lib.hid h7
  clear h7
  by_cases h8 : x4 ≤ 9
  case neg =>
    have E := Lib.hid (HN.out (fun e => by have := e.rank; simp only [] at this; omega))
    have d8 : decide (x4 ≤ 9) = false := decide_eq_false h8
    clear h8
    clear HY HN KK HM
    go_wp2
    go_ret
    rw [E.out]
    exact ⟨rfl, by (repeat (first | exact Below.refl _ _ | apply BelowKit.bl_alloc | apply BelowKit.bl_drewN | apply BelowKit.bl_drew | (refine BelowKit.bl_set ?_ _ ?_; rotate_left; (first | omega | (simp; omega) | simp)) | (refine BelowKit.bl_trans ?_ (‹Hid (Below _ _ _)›).out)))⟩
  case pos =>
  have d8 : decide (x4 ≤ 9) = true := decide_eq_true h8
  have H8 := Lib.hid h8
  clear h8
  by_cases h9 : 1 ≤ x5
  case neg =>
    have E := Lib.hid (HN.out (fun e => by have := e.mode; simp only [] at this; omega))
    have d9 : decide (1 ≤ x5) = false := decide_eq_false h9
    clear h9
    clear HY HN KK HM
    go_wp2
    go_ret
    rw [E.out]
    exact ⟨rfl, by (repeat (first | exact Below.refl _ _ | apply BelowKit.bl_alloc | apply BelowKit.bl_drewN | apply BelowKit.bl_drew | (refine BelowKit.bl_set ?_ _ ?_; rotate_left; (first | omega | (simp; omega) | simp)) | (refine BelowKit.bl_trans ?_ (‹Hid (Below _ _ _)›).out)))⟩
  case pos =>
  have d9 : decide (1 ≤ x5) = true := decide_eq_true h9
  have H9 := Lib.hid h9
  clear h9
  by_cases h10 : x5 ≤ 4
  case neg =>
    have E := Lib.hid (HN.out (fun e => by have := e.mode; simp only [] at this; omega))
    have d10 : decide (x5 ≤ 4) = false := decide_eq_false h10
    clear h10
    clear HY HN KK HM
    go_wp2
    go_ret
    rw [E.out]
    exact ⟨rfl, by (repeat (first | exact Below.refl _ _ | apply BelowKit.bl_alloc | apply BelowKit.bl_drewN | apply BelowKit.bl_drew | (refine BelowKit.bl_set ?_ _ ?_; rotate_left; (first | omega | (simp; omega) | simp)) | (refine BelowKit.bl_trans ?_ (‹Hid (Below _ _ _)›).out)))⟩
  case pos =>
  have d10 : decide (x5 ≤ 4) = true := decide_eq_true h10
  have H10 := Lib.hid h10
  clear h10
  go_wp2_with fail
  refine (FormI.form_i _ p m c l HM.out hs' (KK.out.on (by (repeat (first | exact Below.refl _ _ | apply BelowKit.bl_alloc | apply BelowKit.bl_drewN | apply BelowKit.bl_drew | (refine BelowKit.bl_set ?_ _ ?_; rotate_left; (first | omega | (simp; omega) | simp)) | (refine BelowKit.bl_trans ?_ (‹Hid (Below _ _ _)›).out)))))).mono ?_
  rintro e w2 ⟨rfl, hb⟩
  have E := Lib.hid (HY.out ⟨H0.out, H1.out⟩ ⟨H2.out.1, H4.out, H3.out.2⟩ ⟨H5.out, H6.out.2⟩ ⟨H7.out, H8.out⟩ ⟨H9.out, H10.out⟩)
  have HB := Lib.hid (show Below w.heap.size w w2 from BelowKit.bl_trans (by (repeat (first | exact Below.refl _ _ | apply BelowKit.bl_alloc | apply BelowKit.bl_drewN | apply BelowKit.bl_drew | (refine BelowKit.bl_set ?_ _ ?_; rotate_left; (first | omega | (simp; omega) | simp)) | (refine BelowKit.bl_trans ?_ (‹Hid (Below _ _ _)›).out)))) hb)
  obtain ⟨b, hb2⟩ : ∃ b, NodeMath.okF l = b := ⟨_, rfl⟩
  rw [hb2] at E ⊢
  clear hb hb2 HY HN
  cases b with
  | true =>
    go_wp2
    go_ret
    rw [E.out]
    exact ⟨rfl, by (repeat (first | exact Below.refl _ _ | apply BelowKit.bl_alloc | apply BelowKit.bl_drewN | apply BelowKit.bl_drew | (refine BelowKit.bl_set ?_ _ ?_; rotate_left; (first | omega | (simp; omega) | simp)) | (refine BelowKit.bl_trans ?_ (‹Hid (Below _ _ _)›).out)))⟩
  | false =>
    go_wp2
    go_ret
    rw [E.out]
    exact ⟨rfl, by (repeat (first | exact Below.refl _ _ | apply BelowKit.bl_alloc | apply BelowKit.bl_drewN | apply BelowKit.bl_drew | (refine BelowKit.bl_set ?_ _ ?_; rotate_left; (first | omega | (simp; omega) | simp)) | (refine BelowKit.bl_trans ?_ (‹Hid (Below _ _ _)›).out)))⟩
set_option maxHeartbeats 2000000 in
theorem tied_i (x y : El) (w : World) : Calls Try.prog 56 #[fv x, fv y] w (IsBo (clash x.r y.r) w) := by
  obtain ⟨⟨x0, x1, x2, x3, x4, x5, xl⟩, p, c⟩ := x
  obtain ⟨⟨y0, y1, y2, y3, y4, y5, yl⟩, q, d⟩ := y
  obtain ⟨m, hm⟩ : ∃ m, xl.length = m := ⟨_, rfl⟩
  obtain ⟨n, hn⟩ : ∃ m, yl.length = m := ⟨_, rfl⟩
  obtain ⟨R, hR⟩ : ∃ R, clash ⟨x0, x1, x2, x3, x4, x5, xl⟩ ⟨y0, y1, y2, y3, y4, y5, yl⟩ = R := ⟨_, rfl⟩
  show Calls Try.prog 56 #[.agg #[.int .i64 x0, .int .i64 x1, .int .i64 x2, .int .i64 x3, .int .i64 x4, .int .i64 x5, .slice p xl.length c], .agg #[.int .i64 y0, .int .i64 y1, .int .i64 y2, .int .i64 y3, .int .i64 y4, .int .i64 y5, .slice q yl.length d]] w (IsBo (clash ⟨x0, x1, x2, x3, x4, x5, xl⟩ ⟨y0, y1, y2, y3, y4, y5, yl⟩) w)
  have HN : Hid (¬ (x0 = y0 ∧ x4 = y4 ∧ 0 < common x1 x2 y1 y2) → R = false) := Lib.hid (fun e => by rw [← hR]; exact clash_no e)
  have HY : Hid (x0 = y0 → x4 = y4 → 0 < common x1 x2 y1 y2 → R = true) := Lib.hid (fun h1 h2 h3 => by rw [← hR]; exact clash_yes h1 h2 h3)
  rw [hm, hn, hR]
  clear hm hn hR
  go_enter Try.func56, Try.ntmps56
  by_cases h1 : x0 = y0
  case neg =>
    have E := Lib.hid (HN.out (fun e => h1 e.1))
    have d1 : (x0 == y0) = false := beq_eq_false_iff_ne.2 h1
    have d2 : decide (x0 = y0) = false := decide_eq_false h1
    clear h1 HN HY
    go_wp2
    go_ret
    rw [E.out]
    exact ⟨rfl, by (repeat (first | exact Below.refl _ _ | apply BelowKit.bl_alloc | apply BelowKit.bl_drewN | apply BelowKit.bl_drew | (refine BelowKit.bl_set ?_ _ ?_; rotate_left; (first | omega | (simp; omega) | simp)) | (refine BelowKit.bl_trans ?_ (‹Hid (Below _ _ _)›).out)))⟩
  case pos =>
  have H1 := Lib.hid h1
  have d1 : (x0 == y0) = true := beq_iff_eq.2 h1
  clear h1
  by_cases h2 : x4 = y4
  case neg =>
    have E := Lib.hid (HN.out (fun e => h2 e.2.1))
    have d3 : (x4 == y4) = false := beq_eq_false_iff_ne.2 h2
    have d4 : decide (x4 = y4) = false := decide_eq_false h2
    clear h2 HN HY
    go_wp2
    go_ret
    rw [E.out]
    exact ⟨rfl, by (repeat (first | exact Below.refl _ _ | apply BelowKit.bl_alloc | apply BelowKit.bl_drewN | apply BelowKit.bl_drew | (refine BelowKit.bl_set ?_ _ ?_; rotate_left; (first | omega | (simp; omega) | simp)) | (refine BelowKit.bl_trans ?_ (‹Hid (Below _ _ _)›).out)))⟩
  case pos =>
  have H2 := Lib.hid h2
  have d3 : (x4 == y4) = true := beq_iff_eq.2 h2
  clear h2
  obtain ⟨cm, hcm⟩ : ∃ c, common x1 x2 y1 y2 = c := ⟨_, rfl⟩
  rw [hcm] at HN HY
  have HCM := Lib.hid hcm
  clear hcm
  go_wp2_with fail
  refine (common_i _ _ _ _ _).mono ?_
  rintro e w2 ⟨rfl, rfl⟩
  rw [HCM.out]
  by_cases h3 : 0 < cm
  case neg =>
    have E := Lib.hid (HN.out (fun e => h3 e.2.2))
    have d5 : decide (0 < cm) = false := decide_eq_false h3
    clear h3 HN HY HCM
    go_wp2
    go_ret
    rw [E.out]
    exact ⟨rfl, by (repeat (first | exact Below.refl _ _ | apply BelowKit.bl_alloc | apply BelowKit.bl_drewN | apply BelowKit.bl_drew | (refine BelowKit.bl_set ?_ _ ?_; rotate_left; (first | omega | (simp; omega) | simp)) | (refine BelowKit.bl_trans ?_ (‹Hid (Below _ _ _)›).out)))⟩
  case pos =>
    have E := Lib.hid (HY.out H1.out H2.out h3)
    have d5 : decide (0 < cm) = true := decide_eq_true h3
    clear h3 HN HY HCM
    go_wp2
    go_ret
    rw [E.out]
    exact ⟨rfl, by (repeat (first | exact Below.refl _ _ | apply BelowKit.bl_alloc | apply BelowKit.bl_drewN | apply BelowKit.bl_drew | (refine BelowKit.bl_set ?_ _ ?_; rotate_left; (first | omega | (simp; omega) | simp)) | (refine BelowKit.bl_trans ?_ (‹Hid (Below _ _ _)›).out)))⟩
end Go.Proofs.Ytkfgflmhefbinaa.RuleI

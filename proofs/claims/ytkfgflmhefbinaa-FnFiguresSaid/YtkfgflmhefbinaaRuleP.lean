/- My kit: texts that lean on no dump, in one file. -/
import Derived.Test.YtkfgflmhefbinaaRows
import Derived.Test.YtkfgflmhefbinaaTRule
import Derived.Test.YtkfgflmhefbinaaRuleC
import Derived.Test.YtkfgflmhefbinaaFormI
import Derived.Test.YtkfgflmhefbinaaKit
/- Contracts of the program's RuleOk and isTiedWith. Written by gen_rulei.py. -/
namespace Go.Proofs.Ytkfgflmhefbinaa.RuleI
open Go.RowKit RowN TRule BookMath Mon
set_option maxHeartbeats 4000000 in
theorem rule_i (x : El) (w : World) (hs : x.r.Nodes.length ≤ 1099511627776) (h : Reads TNode.fc 6 w x.p x.r.Nodes) : Calls Try.prog 31 #[fv x] w (IsBo (ruleB x.r) w) := by
  obtain ⟨⟨x0, x1, x2, x3, x4, x5, l⟩, p, c⟩ := x
  have KK := Lib.hid (show Reads TNode.fc 6 w p l from h)
  clear h
  obtain ⟨m, hm⟩ : ∃ m, l.length = m := ⟨_, rfl⟩
  have HM := Lib.hid hm
  have hs' : m ≤ 1099511627776 := by rw [← hm]; exact hs
  obtain ⟨R, hR⟩ : ∃ R, ruleB ⟨x0, x1, x2, x3, x4, x5, l⟩ = R := ⟨_, rfl⟩
  show Calls Try.prog 31 #[.agg #[.int .i64 x0, .int .i64 x1, .int .i64 x2, .int .i64 x3, .int .i64 x4, .int .i64 x5, .slice p l.length c]] w (IsBo (ruleB ⟨x0, x1, x2, x3, x4, x5, l⟩) w)
  have HN : Hid (¬ RuleP ⟨x0, x1, x2, x3, x4, x5, l⟩ → R = false) := Lib.hid (fun e => by rw [← hR]; exact ruleB_no e)
  have HY : Hid (1 ≤ x0 ∧ x0 ≤ 20 → 0 ≤ x1 ∧ x1 < x2 ∧ x2 ≤ 3600 → 1 ≤ x3 ∧ x3 ≤ 3600 → 0 ≤ x4 ∧ x4 ≤ 9 → 1 ≤ x5 ∧ x5 ≤ 4 → R = NodeMath.okF l) := Lib.hid (fun h1 h2 h3 h4 h5 => by
    rw [← hR]
    cases e : NodeMath.okF l with
    | true => exact ruleB_yes ⟨h1, h2, h3, h4, h5, e⟩
    | false => exact ruleB_no (fun q => by rw [q.nodes] at e; cases e))
  rw [hm, hR]
  clear hs hm hR
  go_enter Try.func31, Try.ntmps31
  by_cases h0 : 1 ≤ x0
  case neg =>
    have E := Lib.hid (HN.out (fun e => by have := e.name; simp only [] at this; omega))
    have d0 : decide (1 ≤ x0) = false := decide_eq_false h0
    clear h0
    clear HY HN KK HM
    go_wp2
    go_ret
    rw [E.out]
    exact ⟨rfl, by (repeat (first | exact Below.refl _ _ | apply BelowKit.bl_alloc | apply BelowKit.bl_drewN | apply BelowKit.bl_drew | (refine BelowKit.bl_set ?_ _ ?_; rotate_left; (first | omega | (simp; omega) | simp)) | (refine BelowKit.bl_trans ?_ (‹Hid (Below _ _ _)›).out)))⟩
  case pos =>
  have d0 : decide (1 ≤ x0) = true := decide_eq_true h0
  have H0 := Lib.hid h0
  clear h0
  by_cases h1 : x0 ≤ 20
  case neg =>
    have E := Lib.hid (HN.out (fun e => by have := e.name; simp only [] at this; omega))
    have d1 : decide (x0 ≤ 20) = false := decide_eq_false h1
    clear h1
    clear HY HN KK HM
    go_wp2
    go_ret
    rw [E.out]
    exact ⟨rfl, by (repeat (first | exact Below.refl _ _ | apply BelowKit.bl_alloc | apply BelowKit.bl_drewN | apply BelowKit.bl_drew | (refine BelowKit.bl_set ?_ _ ?_; rotate_left; (first | omega | (simp; omega) | simp)) | (refine BelowKit.bl_trans ?_ (‹Hid (Below _ _ _)›).out)))⟩
  case pos =>
  have d1 : decide (x0 ≤ 20) = true := decide_eq_true h1
  have H1 := Lib.hid h1
  clear h1
  obtain ⟨b2, hb2⟩ : ∃ b, inB x1 0 3600 = b := ⟨_, rfl⟩
  have B2 := Lib.hid hb2
  clear hb2
  go_wp2_with fail
  refine (Mon.end_i _ _).mono ?_
  rintro e w' ⟨rfl, rfl⟩
  rw [B2.out]
  cases b2 with
  | false =>
    have E := Lib.hid (HN.out (fun e => by have := e.months; have q := inB_not B2.out; simp only [] at this; omega))
    clear HY HN KK HM
    go_wp2
    go_ret
    rw [E.out]
    exact ⟨rfl, by (repeat (first | exact Below.refl _ _ | apply BelowKit.bl_alloc | apply BelowKit.bl_drewN | apply BelowKit.bl_drew | (refine BelowKit.bl_set ?_ _ ?_; rotate_left; (first | omega | (simp; omega) | simp)) | (refine BelowKit.bl_trans ?_ (‹Hid (Below _ _ _)›).out)))⟩
  | true =>
  have H2 := Lib.hid (inB_of B2.out)
  clear B2
  obtain ⟨b3, hb3⟩ : ∃ b, inB x2 0 3600 = b := ⟨_, rfl⟩
  have B3 := Lib.hid hb3
  clear hb3
  go_wp2_with fail
  refine (Mon.end_i _ _).mono ?_
  rintro e w' ⟨rfl, rfl⟩
  rw [B3.out]
  cases b3 with
  | false =>
    have E := Lib.hid (HN.out (fun e => by have := e.months; have q := inB_not B3.out; simp only [] at this; omega))
    clear HY HN KK HM
    go_wp2
    go_ret
    rw [E.out]
    exact ⟨rfl, by (repeat (first | exact Below.refl _ _ | apply BelowKit.bl_alloc | apply BelowKit.bl_drewN | apply BelowKit.bl_drew | (refine BelowKit.bl_set ?_ _ ?_; rotate_left; (first | omega | (simp; omega) | simp)) | (refine BelowKit.bl_trans ?_ (‹Hid (Below _ _ _)›).out)))⟩
  | true =>
  have H3 := Lib.hid (inB_of B3.out)
  clear B3
  by_cases h4 : x1 < x2
  case neg =>
    have E := Lib.hid (HN.out (fun e => by have := e.months; simp only [] at this; omega))
    have d4 : decide (x1 < x2) = false := decide_eq_false h4
    clear h4
    clear HY HN KK HM
    go_wp2
    go_ret
    rw [E.out]
    exact ⟨rfl, by (repeat (first | exact Below.refl _ _ | apply BelowKit.bl_alloc | apply BelowKit.bl_drewN | apply BelowKit.bl_drew | (refine BelowKit.bl_set ?_ _ ?_; rotate_left; (first | omega | (simp; omega) | simp)) | (refine BelowKit.bl_trans ?_ (‹Hid (Below _ _ _)›).out)))⟩
  case pos =>
  have d4 : decide (x1 < x2) = true := decide_eq_true h4
  have H4 := Lib.hid h4
  clear h4
  by_cases h5 : 1 ≤ x3
  case neg =>
    have E := Lib.hid (HN.out (fun e => by have := e.joined; simp only [] at this; omega))
    have d5 : decide (1 ≤ x3) = false := decide_eq_false h5
    clear h5
    clear HY HN KK HM
    go_wp2
    go_ret
    rw [E.out]
    exact ⟨rfl, by (repeat (first | exact Below.refl _ _ | apply BelowKit.bl_alloc | apply BelowKit.bl_drewN | apply BelowKit.bl_drew | (refine BelowKit.bl_set ?_ _ ?_; rotate_left; (first | omega | (simp; omega) | simp)) | (refine BelowKit.bl_trans ?_ (‹Hid (Below _ _ _)›).out)))⟩
  case pos =>
  have d5 : decide (1 ≤ x3) = true := decide_eq_true h5
  have H5 := Lib.hid h5
  clear h5
  obtain ⟨b6, hb6⟩ : ∃ b, inB x3 0 3600 = b := ⟨_, rfl⟩
  have B6 := Lib.hid hb6
  clear hb6
  go_wp2_with fail
  refine (Mon.end_i _ _).mono ?_
  rintro e w' ⟨rfl, rfl⟩
  rw [B6.out]
  cases b6 with
  | false =>
    have E := Lib.hid (HN.out (fun e => by have := e.joined; have q := inB_not B6.out; simp only [] at this; omega))
    clear HY HN KK HM
    go_wp2
    go_ret
    rw [E.out]
    exact ⟨rfl, by (repeat (first | exact Below.refl _ _ | apply BelowKit.bl_alloc | apply BelowKit.bl_drewN | apply BelowKit.bl_drew | (refine BelowKit.bl_set ?_ _ ?_; rotate_left; (first | omega | (simp; omega) | simp)) | (refine BelowKit.bl_trans ?_ (‹Hid (Below _ _ _)›).out)))⟩
  | true =>
  have H6 := Lib.hid (inB_of B6.out)
  clear B6
  by_cases h7 : 0 ≤ x4
  case neg =>
    have E := Lib.hid (HN.out (fun e => by have := e.rank; simp only [] at this; omega))
    have d7 : decide (0 ≤ x4) = false := decide_eq_false h7
    clear h7
    clear HY HN KK HM
    go_wp2
    go_ret
    rw [E.out]
    exact ⟨rfl, by (repeat (first | exact Below.refl _ _ | apply BelowKit.bl_alloc | apply BelowKit.bl_drewN | apply BelowKit.bl_drew | (refine BelowKit.bl_set ?_ _ ?_; rotate_left; (first | omega | (simp; omega) | simp)) | (refine BelowKit.bl_trans ?_ (‹Hid (Below _ _ _)›).out)))⟩
  case pos =>
  have d7 : decide (0 ≤ x4) = true := decide_eq_true h7
  have H7 := Lib.hid h7
  clear h7
  by_cases h8 : x4 ≤ 9
  case neg =>
    have E := Lib.hid (HN.out (fun e => by have := e.rank; simp only [] at this; omega))
    have d8 : decide (x4 ≤ 9) = false := decide_eq_false h8
    clear h8
    clear HY HN KK HM
    go_wp2
    go_ret
    rw [E.out]
    exact ⟨rfl, by (repeat (first | exact Below.refl _ _ | apply BelowKit.bl_alloc | apply BelowKit.bl_drewN | apply BelowKit.bl_drew | (refine BelowKit.bl_set ?_ _ ?_; rotate_left; (first | omega | (simp; omega) | simp)) | (refine BelowKit.bl_trans ?_ (‹Hid (Below _ _ _)›).out)))⟩
  case pos =>
  have d8 : decide (x4 ≤ 9) = true := decide_eq_true h8
  have H8 := Lib.hid h8
  clear h8
  by_cases h9 : 1 ≤ x5
  case neg =>
    have E := Lib.hid (HN.out (fun e => by have := e.mode; simp only [] at this; omega))
    have d9 : decide (1 ≤ x5) = false := decide_eq_false h9
    clear h9
    clear HY HN KK HM
    go_wp2
    go_ret
    rw [E.out]
    exact ⟨rfl, by (repeat (first | exact Below.refl _ _ | apply BelowKit.bl_alloc | apply BelowKit.bl_drewN | apply BelowKit.bl_drew | (refine BelowKit.bl_set ?_ _ ?_; rotate_left; (first | omega | (simp; omega) | simp)) | (refine BelowKit.bl_trans ?_ (‹Hid (Below _ _ _)›).out)))⟩
  case pos =>
  have d9 : decide (1 ≤ x5) = true := decide_eq_true h9
  have H9 := Lib.hid h9
  clear h9
  by_cases h10 : x5 ≤ 4
  case neg =>
    have E := Lib.hid (HN.out (fun e => by have := e.mode; simp only [] at this; omega))
    have d10 : decide (x5 ≤ 4) = false := decide_eq_false h10
    clear h10
    clear HY HN KK HM
    go_wp2
    go_ret
    rw [E.out]
    exact ⟨rfl, by (repeat (first | exact Below.refl _ _ | apply BelowKit.bl_alloc | apply BelowKit.bl_drewN | apply BelowKit.bl_drew | (refine BelowKit.bl_set ?_ _ ?_; rotate_left; (first | omega | (simp; omega) | simp)) | (refine BelowKit.bl_trans ?_ (‹Hid (Below _ _ _)›).out)))⟩
  case pos =>
  have d10 : decide (x5 ≤ 4) = true := decide_eq_true h10
  have H10 := Lib.hid h10
  clear h10
  go_wp2_with fail
  refine (FormI.form_i _ p m c l HM.out hs' (KK.out.on (by (repeat (first | exact Below.refl _ _ | apply BelowKit.bl_alloc | apply BelowKit.bl_drewN | apply BelowKit.bl_drew | (refine BelowKit.bl_set ?_ _ ?_; rotate_left; (first | omega | (simp; omega) | simp)) | (refine BelowKit.bl_trans ?_ (‹Hid (Below _ _ _)›).out)))))).mono ?_
  rintro e w2 ⟨rfl, hb⟩
  have E := Lib.hid (HY.out ⟨H0.out, H1.out⟩ ⟨H2.out.1, H4.out, H3.out.2⟩ ⟨H5.out, H6.out.2⟩ ⟨H7.out, H8.out⟩ ⟨H9.out, H10.out⟩)
  have HB := Lib.hid (show Below w.heap.size w w2 from BelowKit.bl_trans (by (repeat (first | exact Below.refl _ _ | apply BelowKit.bl_alloc | apply BelowKit.bl_drewN | apply BelowKit.bl_drew | (refine BelowKit.bl_set ?_ _ ?_; rotate_left; (first | omega | (simp; omega) | simp)) | (refine BelowKit.bl_trans ?_ (‹Hid (Below _ _ _)›).out)))) hb)
  obtain ⟨b, hb2⟩ : ∃ b, NodeMath.okF l = b := ⟨_, rfl⟩
  rw [hb2] at E ⊢
  clear hb hb2 HY HN
  cases b with
  | true =>
    go_wp2
    go_ret
    rw [E.out]
    exact ⟨rfl, by (repeat (first | exact Below.refl _ _ | apply BelowKit.bl_alloc | apply BelowKit.bl_drewN | apply BelowKit.bl_drew | (refine BelowKit.bl_set ?_ _ ?_; rotate_left; (first | omega | (simp; omega) | simp)) | (refine BelowKit.bl_trans ?_ (‹Hid (Below _ _ _)›).out)))⟩
  | false =>
    go_wp2
    go_ret
    rw [E.out]
    exact ⟨rfl, by (repeat (first | exact Below.refl _ _ | apply BelowKit.bl_alloc | apply BelowKit.bl_drewN | apply BelowKit.bl_drew | (refine BelowKit.bl_set ?_ _ ?_; rotate_left; (first | omega | (simp; omega) | simp)) | (refine BelowKit.bl_trans ?_ (‹Hid (Below _ _ _)›).out)))⟩
set_option maxHeartbeats 2000000 in
theorem tied_i (x y : El) (w : World) : Calls Try.prog 56 #[fv x, fv y] w (IsBo (clash x.r y.r) w) := by
  obtain ⟨⟨x0, x1, x2, x3, x4, x5, xl⟩, p, c⟩ := x
  obtain ⟨⟨y0, y1, y2, y3, y4, y5, yl⟩, q, d⟩ := y
  obtain ⟨m, hm⟩ : ∃ m, xl.length = m := ⟨_, rfl⟩
  obtain ⟨n, hn⟩ : ∃ m, yl.length = m := ⟨_, rfl⟩
  obtain ⟨R, hR⟩ : ∃ R, clash ⟨x0, x1, x2, x3, x4, x5, xl⟩ ⟨y0, y1, y2, y3, y4, y5, yl⟩ = R := ⟨_, rfl⟩
  show Calls Try.prog 56 #[.agg #[.int .i64 x0, .int .i64 x1, .int .i64 x2, .int .i64 x3, .int .i64 x4, .int .i64 x5, .slice p xl.length c], .agg #[.int .i64 y0, .int .i64 y1, .int .i64 y2, .int .i64 y3, .int .i64 y4, .int .i64 y5, .slice q yl.length d]] w (IsBo (clash ⟨x0, x1, x2, x3, x4, x5, xl⟩ ⟨y0, y1, y2, y3, y4, y5, yl⟩) w)
  have HN : Hid (¬ (x0 = y0 ∧ x4 = y4 ∧ 0 < common x1 x2 y1 y2) → R = false) := Lib.hid (fun e => by rw [← hR]; exact clash_no e)
  have HY : Hid (x0 = y0 → x4 = y4 → 0 < common x1 x2 y1 y2 → R = true) := Lib.hid (fun h1 h2 h3 => by rw [← hR]; exact clash_yes h1 h2 h3)
  rw [hm, hn, hR]
  clear hm hn hR
  go_enter Try.func56, Try.ntmps56
  by_cases h1 : x0 = y0
  case neg =>
    have E := Lib.hid (HN.out (fun e => h1 e.1))
    have d1 : (x0 == y0) = false := beq_eq_false_iff_ne.2 h1
    have d2 : decide (x0 = y0) = false := decide_eq_false h1
    clear h1 HN HY
    go_wp2
    go_ret
    rw [E.out]
    exact ⟨rfl, by (repeat (first | exact Below.refl _ _ | apply BelowKit.bl_alloc | apply BelowKit.bl_drewN | apply BelowKit.bl_drew | (refine BelowKit.bl_set ?_ _ ?_; rotate_left; (first | omega | (simp; omega) | simp)) | (refine BelowKit.bl_trans ?_ (‹Hid (Below _ _ _)›).out)))⟩
  case pos =>
  have H1 := Lib.hid h1
  have d1 : (x0 == y0) = true := beq_iff_eq.2 h1
  clear h1
  by_cases h2 : x4 = y4
  case neg =>
    have E := Lib.hid (HN.out (fun e => h2 e.2.1))
    have d3 : (x4 == y4) = false := beq_eq_false_iff_ne.2 h2
    have d4 : decide (x4 = y4) = false := decide_eq_false h2
    clear h2 HN HY
    go_wp2
    go_ret
    rw [E.out]
    exact ⟨rfl, by (repeat (first | exact Below.refl _ _ | apply BelowKit.bl_alloc | apply BelowKit.bl_drewN | apply BelowKit.bl_drew | (refine BelowKit.bl_set ?_ _ ?_; rotate_left; (first | omega | (simp; omega) | simp)) | (refine BelowKit.bl_trans ?_ (‹Hid (Below _ _ _)›).out)))⟩
  case pos =>
  have H2 := Lib.hid h2
  have d3 : (x4 == y4) = true := beq_iff_eq.2 h2
  clear h2
  obtain ⟨cm, hcm⟩ : ∃ c, common x1 x2 y1 y2 = c := ⟨_, rfl⟩
  rw [hcm] at HN HY
  have HCM := Lib.hid hcm
  clear hcm
  go_wp2_with fail
  refine (common_i _ _ _ _ _).mono ?_
  rintro e w2 ⟨rfl, rfl⟩
  rw [HCM.out]
  by_cases h3 : 0 < cm
  case neg =>
    have E := Lib.hid (HN.out (fun e => h3 e.2.2))
    have d5 : decide (0 < cm) = false := decide_eq_false h3
    clear h3 HN HY HCM
    go_wp2
    go_ret
    rw [E.out]
    exact ⟨rfl, by (repeat (first | exact Below.refl _ _ | apply BelowKit.bl_alloc | apply BelowKit.bl_drewN | apply BelowKit.bl_drew | (refine BelowKit.bl_set ?_ _ ?_; rotate_left; (first | omega | (simp; omega) | simp)) | (refine BelowKit.bl_trans ?_ (‹Hid (Below _ _ _)›).out)))⟩
  case pos =>
    have E := Lib.hid (HY.out H1.out H2.out h3)
    have d5 : decide (0 < cm) = true := decide_eq_true h3
    clear h3 HN HY HCM
    go_wp2
    go_ret
    rw [E.out]
    exact ⟨rfl, by (repeat (first | exact Below.refl _ _ | apply BelowKit.bl_alloc | apply BelowKit.bl_drewN | apply BelowKit.bl_drew | (refine BelowKit.bl_set ?_ _ ?_; rotate_left; (first | omega | (simp; omega) | simp)) | (refine BelowKit.bl_trans ?_ (‹Hid (Below _ _ _)›).out)))⟩
end Go.Proofs.Ytkfgflmhefbinaa.RuleI

/- Contracts of slices.ContainsFunc over rules and of the program's BookOk. -/
namespace Go.Proofs.Ytkfgflmhefbinaa.BookI
open Go.RowKit RowN TRule BookMath Mon Box TBook
/-- What an index function answers: b says that nothing was found. -/
def Fd (b : Bool) (r : Int) : Prop := (0 ≤ r ∧ b = false) ∨ (r = -1 ∧ b = true)
def IsFd (b : Bool) (w : World) (e : Ending) (w' : World) : Prop := ∃ r : Int, e = .returned (.int .i64 r) ∧ Fd b r ∧ Below w.heap.size w w'
theorem freeTo_stop {rs : List Ru} {r : Ru} {k n : Nat} (h : k < rs.length) (hc : clash r rs[k] = true) (hn : k < n) : freeTo rs r n = false := freeTo_no h (by rw [clash_comm]; exact hc) hn
theorem freeTo_on {rs : List Ru} {r : Ru} {k : Nat} (hf : freeTo rs r k = true) (h : k < rs.length) (hc : clash r rs[k] = false) : freeTo rs r (k + 1) = true := freeTo_go hf h (by rw [clash_comm]; exact hc)
set_option maxHeartbeats 2000000 in
theorem find_i (w : World) (a : Option Addr) (m cap : Nat) (xs : List El) (y : El) (hm : m ≤ xs.length) (hs : m ≤ 1048576) (h : Reads fc 7 w a xs) :
    Calls Try.prog 90 #[.slice a m cap, .func (.func 56) #[fv y] #[]] w (IsFd (freeTo (xs.map (·.r)) y.r m) w) := by
  have KK := Lib.hid h
  have HM := Lib.hid hm
  obtain ⟨Y, hY⟩ : ∃ Y, fv y = Y := ⟨_, rfl⟩
  have HYV := Lib.hid hY
  rw [hY]
  clear h hm hY
  go_enter Try.func90, Try.ntmps90
  go_wp2
  go_loopw [8] (fun i wr => ∃ j : Nat, j ≤ m ∧ i = .int .i64 (j : Int) ∧ Hid (freeTo (xs.map (·.r)) y.r j = true) ∧ Hid (Below w.heap.size w wr)) (fun i _ => m - (intOf i).toNat)
  case atStart => exact ⟨0, Nat.zero_le _, rfl, Lib.hid (freeTo_zero _ _), Lib.hid (Below.refl _ _)⟩
  case round =>
    obtain ⟨j, hj, rfl, HP, HB⟩ := hrel
    by_cases hlt : j < m
    · have HLT := Lib.hid (show j < xs.length by have := HM.out; omega)
      obtain ⟨g, o, rfl, hgl, q0, q1, q2, q3, q4, q5, q6⟩ := read (KK.out.on HB.out) j HLT.out
      have b1 : (0 : Int) ≤ (j : Int) := by omega
      have b2 : (j : Int) < (m : Int) := by omega
      have HJR : Hid (j < (xs.map (·.r)).length) := Lib.hid (by rw [List.length_map]; exact HLT.out)
      have HE : Hid ((xs.map (·.r))[j]'HJR.out = (xs[j]'HLT.out).r) := Lib.hid (by simp)
      have HX : Hid (clash y.r (xs[j]'HLT.out).r = true → freeTo (xs.map (·.r)) y.r m = false) := Lib.hid (fun e => freeTo_stop HJR.out (by rw [HE.out]; exact e) hlt)
      have HZ : Hid (clash y.r (xs[j]'HLT.out).r = false → freeTo (xs.map (·.r)) y.r (j + 1) = true) := Lib.hid (fun e => freeTo_on HP.out HJR.out (by rw [HE.out]; exact e))
      clear HP HE HJR
      generalize (xs[j]'HLT.out) = x at q0 q1 q2 q3 q4 q5 q6 HX HZ
      obtain ⟨d, hd⟩ : ∃ d, clash y.r x.r = d := ⟨_, rfl⟩
      have HD := Lib.hid hd
      clear hd
      go_wp2_with fail
      have HT := RuleI.tied_i y x wr
      rw [HYV.out] at HT
      unfold fv at HT
      refine HT.mono ?_
      rintro e w1 ⟨rfl, hb⟩
      rw [HD.out]
      have HB1 := Lib.hid (BelowKit.bl_trans HB.out hb)
      clear hb HT q0 q1 q2 q3 q4 q5 q6
      cases d with
      | true =>
        have E := Lib.hid (HX.out HD.out)
        clear HX HZ HD
        go_wp2
        go_ret
        exact ⟨(j : Int), rfl, .inl ⟨b1, E.out⟩, HB1.out⟩
      | false =>
        have E := Lib.hid (HZ.out HD.out)
        clear HX HZ HD
        go_wp2
        go_roundw
        case rel => exact ⟨j + 1, by omega, by go_num, E, HB1⟩
        case measure => simp [intOf]; omega
    · obtain rfl : j = m := by omega
      go_wp2
      go_ret
      exact ⟨-1, rfl, .inr ⟨rfl, HP.out⟩, HB.out⟩
theorem has_i (w : World) (a : Option Addr) (m cap : Nat) (xs : List El) (y : El) (hm : m ≤ xs.length) (hs : m ≤ 1048576) (h : Reads fc 7 w a xs) :
    Calls Try.prog 55 #[.slice a m cap, .func (.func 56) #[fv y] #[]] w (IsBo (!(freeTo (xs.map (·.r)) y.r m)) w) := by
  have KK := Lib.hid h
  have HM := Lib.hid hm
  have HF := Lib.hid (find_i w a m cap xs y hm hs h)
  obtain ⟨Y, hY⟩ : ∃ Y, fv y = Y := ⟨_, rfl⟩
  obtain ⟨R, hR⟩ : ∃ R, freeTo (xs.map (·.r)) y.r m = R := ⟨_, rfl⟩
  rw [hY, hR] at HF ⊢
  clear h hm hY hR
  go_enter Try.func55, Try.ntmps55
  go_wp2_with fail
  refine HF.out.mono ?_
  rintro e w1 ⟨r, rfl, hf, hb⟩
  have HB := Lib.hid hb
  clear hb HF
  rcases hf with ⟨h1, rfl⟩ | ⟨h1, rfl⟩
  · have d1 : decide (0 ≤ r) = true := decide_eq_true h1
    clear h1
    go_wp2
    go_ret
    exact ⟨rfl, HB.out⟩
  · subst h1
    go_wp2
    go_ret
    exact ⟨rfl, HB.out⟩
theorem has_g (a : Option Addr) (m cap : Nat) (xs : List El) (x0 x1 x2 x3 x4 x5 : Int) (p : Option Addr) (n c : Nat) (l : List TNode.El) (hn : l.length = n) (b : Bool) {w0 : World} (X : Grown.G w0) (hm : m ≤ xs.length) (hs : m ≤ 1048576) (h : Reads fc 7 w0 a xs) (hb : freeTo (xs.map (·.r)) ⟨x0, x1, x2, x3, x4, x5, l⟩ m = b) :
    Calls Try.prog 55 #[.slice a m cap, .func (.func 56) #[.agg #[.int .i64 x0, .int .i64 x1, .int .i64 x2, .int .i64 x3, .int .i64 x4, .int .i64 x5, .slice p n c]] #[]] X.w (fun e w'' => e = .returned (.bool (!b)) ∧ ∃ Y : Grown.G w0, w'' = Y.w) := by
  subst hn hb
  exact Grown.grown_of (has_i X.w a m cap xs ⟨⟨x0, x1, x2, x3, x4, x5, l⟩, p, c⟩ hm hs (h.on X.bel))
theorem rule_g (x0 x1 x2 x3 x4 x5 : Int) (p : Option Addr) (n c : Nat) (l : List TNode.El) (hn : l.length = n) (b : Bool) {w0 : World} (X : Grown.G w0) (hs : l.length ≤ 1099511627776) (h : Reads TNode.fc 6 w0 p l) (hb : ruleB ⟨x0, x1, x2, x3, x4, x5, l⟩ = b) :
    Calls Try.prog 31 #[.agg #[.int .i64 x0, .int .i64 x1, .int .i64 x2, .int .i64 x3, .int .i64 x4, .int .i64 x5, .slice p n c]] X.w (fun e w'' => e = .returned (.bool b) ∧ ∃ Y : Grown.G w0, w'' = Y.w) := by
  subst hn hb
  exact Grown.grown_of (RuleI.rule_i ⟨⟨x0, x1, x2, x3, x4, x5, l⟩, p, c⟩ X.w hs (h.on X.bel))
set_option maxHeartbeats 8000000 in
theorem book_i (w : World) (a : Option Addr) (m cap : Nat) (rs : List Ru) (hm : rs.length = m) (hcap : m ≤ cap) (hs : m ≤ 1099511627776) (hn : Few rs) (h : RdD w a rs) :
    Calls Try.prog 21 #[.agg #[.slice a m cap]] w (IsBo (bookB rs) w) := by
  obtain ⟨R, hR⟩ : ∃ R, bookB rs = R := ⟨_, rfl⟩
  have HR := Lib.hid hR
  rw [hR]
  by_cases hbig : 20 < m
  · have E := Lib.hid (show R = false from hR.symm.trans (bookB_len (by omega)))
    have d0 : decide ((20 : Int) < (m : Int)) = true := decide_eq_true (by omega)
    clear h hm hR HR hn hcap
    go_enter Try.func21, Try.ntmps21
    go_wp2
    go_ret
    rw [E.out]
    exact ⟨rfl, by (repeat (first | exact Below.refl _ _ | apply BelowKit.bl_alloc | apply BelowKit.bl_drewN | apply BelowKit.bl_drew | (refine BelowKit.bl_set ?_ _ ?_; rotate_left; (first | omega | (simp; omega) | simp)) | (refine BelowKit.bl_trans ?_ (‹Hid (Below _ _ _)›).out)))⟩
  have d0 : decide ((20 : Int) < (m : Int)) = false := decide_eq_false (by omega)
  obtain ⟨xs, ex, h0⟩ := h
  have KK := Lib.hid h0
  have HX := Lib.hid ex
  have HXL := Lib.hid (show xs.length = m by rw [← hm, ← ex, List.length_map])
  have HM := Lib.hid hm
  have HM2 := Lib.hid (show m ≤ 20 by omega)
  have HN := Lib.hid hn
  have HCAP := Lib.hid hcap
  clear h0 ex hm hR hbig hn hcap
  go_enter Try.func21, Try.ntmps21
  go_wp2
  go_loopw [12] (fun i wr => ∃ j : Nat, j ≤ m ∧ i = .int .i64 (j : Int) ∧ Hid (OkTo rs j) ∧ Hid (Below (boxed w (.slice a m cap) 26).heap.size (boxed w (.slice a m cap) 26) wr)) (fun i _ => m - (intOf i).toNat)
  case atStart => exact ⟨0, Nat.zero_le _, rfl, Lib.hid (OkTo.zero rs), Lib.hid (Below.refl _ _)⟩
  case round =>
    obtain ⟨j, hj, rfl, HP, HB⟩ := hrel
    have hc := box_cell HB.out
    have hz := box_size HB.out
    by_cases hlt : j < m
    · have HLT := Lib.hid (show j < rs.length by rw [HM.out]; exact hlt)
      have hjx : j < xs.length := by rw [HXL.out]; exact hlt
      have hxr : xs[j].r = rs[j]'HLT.out := by have := HX.out; subst this; simp
      have HK2 := Lib.hid (KK.out.on (box_below HB.out))
      obtain ⟨g, o, rfl, hgl, q0, q1, q2, q3, q4, q5, q6⟩ := read HK2.out.out j hjx
      have HI := Lib.hid (HK2.out.inn j hjx)
      have b1 : (0 : Int) ≤ (j : Int) := by omega
      have b2 : (j : Int) < (m : Int) := by omega
      have b3 : (j : Int) ≤ (cap : Int) := by have := HCAP.out; omega
      have b4 : j ≤ cap := by have := HCAP.out; omega
      have HXR := Lib.hid hxr
      have HL := Lib.hid (show xs[j].r.Nodes.length ≤ 1099511627776 by rw [hxr]; exact HN.out j HLT.out)
      obtain ⟨⟨⟨x0, x1, x2, x3, x4, x5, xl⟩, xp, xc⟩, hx⟩ : ∃ x, xs[j]'hjx = x := ⟨_, rfl⟩
      rw [hx] at q0 q1 q2 q3 q4 q5 q6 HI HXR HL
      simp only [] at q0 q1 q2 q3 q4 q5 q6 HXR HL HI
      obtain ⟨xn, hxn⟩ : ∃ n, xl.length = n := ⟨_, rfl⟩
      have HXN := Lib.hid hxn
      rw [hxn] at q6
      have HX1 : Hid (ruleB ⟨x0, x1, x2, x3, x4, x5, xl⟩ = false → R = false) := Lib.hid (fun e => by rw [← HR.out]; exact bookB_rule HLT.out (fun h => by have := ruleB_yes h; rw [← HXR.out] at this; rw [e] at this; cases this))
      have HX2 : Hid (freeTo rs ⟨x0, x1, x2, x3, x4, x5, xl⟩ j = false → R = false) := Lib.hid (fun e => by
        rw [← HR.out]
        refine bookB_no fun hb => ?_
        have : freeTo rs (rs[j]'HLT.out) j = true := by
          unfold freeTo
          refine List.all_eq_true.2 fun o ho => ?_
          obtain ⟨k, hk, rfl⟩ := List.mem_take_iff_getElem.1 ho
          rw [hb.apart j k HLT.out (by omega)]
          rfl
        rw [← HXR.out, e] at this
        cases this)
      have HY : Hid (ruleB ⟨x0, x1, x2, x3, x4, x5, xl⟩ = true → freeTo rs ⟨x0, x1, x2, x3, x4, x5, xl⟩ j = true → OkTo rs (j + 1)) := Lib.hid (fun e1 e2 => HP.out.succ HLT.out (by rw [← HXR.out]; exact ruleB_of e1) (by rw [← HXR.out]; exact e2))
      have HBA := Lib.hid (BelowKit.bl_alloc (o := .cells #[.int .i64 x0, .int .i64 x1, .int .i64 x2, .int .i64 x3, .int .i64 x4, .int .i64 x5, .slice xp xn xc] 34) HB.out)
      obtain ⟨V, hV⟩ : ∃ V, V = wr.alloc (.cells #[.int .i64 x0, .int .i64 x1, .int .i64 x2, .int .i64 x3, .int .i64 x4, .int .i64 x5, .slice xp xn xc] 34) := ⟨_, rfl⟩
      have hbv : Below wr.heap.size wr V := by rw [hV]; exact BelowKit.bl_alloc (Below.refl wr.heap.size wr)
      have N0 := Lib.hid (show V.cell? ⟨wr.heap.size, 0, none⟩ = some (.int .i64 x0) by rw [hV]; simp [go_sem])
      have N1 := Lib.hid (show V.cell? ⟨wr.heap.size, 1, none⟩ = some (.int .i64 x1) by rw [hV]; simp [go_sem])
      have N2 := Lib.hid (show V.cell? ⟨wr.heap.size, 2, none⟩ = some (.int .i64 x2) by rw [hV]; simp [go_sem])
      have N3 := Lib.hid (show V.cell? ⟨wr.heap.size, 3, none⟩ = some (.int .i64 x3) by rw [hV]; simp [go_sem])
      have N4 := Lib.hid (show V.cell? ⟨wr.heap.size, 4, none⟩ = some (.int .i64 x4) by rw [hV]; simp [go_sem])
      have N5 := Lib.hid (show V.cell? ⟨wr.heap.size, 5, none⟩ = some (.int .i64 x5) by rw [hV]; simp [go_sem])
      have N6 := Lib.hid (show V.cell? ⟨wr.heap.size, 6, none⟩ = some (.slice xp xn xc) by rw [hV]; simp [go_sem])
      have N7 := Lib.hid (show V.cell? ⟨w.heap.size, 0, none⟩ = some (.slice (some ⟨g, o, none⟩) m cap) from ((BelowKit.bcell hbv).1 _ _ hz).trans hc)
      have HWS := Lib.hid (show wr.heap.size < V.heap.size by rw [hV]; simp)
      have HWZ := Lib.hid (show w.heap.size < V.heap.size by rw [hV]; simp; omega)
      have HIV := Lib.hid (HI.out.on hbv)
      have HKV := Lib.hid (HK2.out.out.on hbv)
      rw [← hV] at HBA
      have HXE : Hid (xs.map (·.r) = rs) := HX
      clear HP hx hxr hjx
      obtain ⟨rb, hrb⟩ : ∃ b, ruleB ⟨x0, x1, x2, x3, x4, x5, xl⟩ = b := ⟨_, rfl⟩
      have HRB := Lib.hid hrb
      obtain ⟨fb, hfb⟩ : ∃ b, freeTo rs ⟨x0, x1, x2, x3, x4, x5, xl⟩ j = b := ⟨_, rfl⟩
      have HFB := Lib.hid (show freeTo (xs.map (·.r)) ⟨x0, x1, x2, x3, x4, x5, xl⟩ j = fb by rw [HXE.out]; exact hfb)
      go_wp2_with fail
      rw [← hV]
      clear q0 q1 q2 q3 q4 q5 q6 hc hbv HI HK2
      have g0 := Grown.G.keep N0.out HWS.out
      have g1 := Grown.G.keep N1.out HWS.out
      have g2 := Grown.G.keep N2.out HWS.out
      have g3 := Grown.G.keep N3.out HWS.out
      have g4 := Grown.G.keep N4.out HWS.out
      have g5 := Grown.G.keep N5.out HWS.out
      have g6 := Grown.G.keep N6.out HWS.out
      have g7 := Grown.G.keep N7.out HWZ.out
      clear hV
      refine Grown.wp_region_grown (by kernel_rfl) (by kernel_rfl) ?_
      cases rb with
      | false =>
        have E := Lib.hid (HX1.out hrb)
        clear HX1 HX2 HY hrb hfb
        repeat (go_big_quiet_step ((go_at_call 31; with_reducible exact rule_g x0 x1 x2 x3 x4 x5 xp xn xc xl HXN.out false _ HL.out HIV.out HRB.out)))
        refine wpQuiet_nil ?_
        rintro w4 ⟨X, rfl⟩
        clear g0 g1 g2 g3 g4 g5 g6 g7
        go_wp2
        go_ret
        rw [E.out]
        exact ⟨rfl, box_below (BelowKit.bl_trans HBA.out X.bel)⟩
      | true =>
        have HXF : Hid (fb = false → R = false) := Lib.hid (fun e => HX2.out (hfb.trans e))
        have HYF : Hid (fb = true → OkTo rs (j + 1)) := Lib.hid (fun e => HY.out hrb (hfb.trans e))
        have HXS := Lib.hid (show j ≤ xs.length by rw [HXL.out]; exact hj)
        have HS20 := Lib.hid (show j ≤ 1048576 by have := HM2.out; omega)
        clear HX1 HX2 HY hrb hfb
        repeat (go_big_quiet_step (first
          | (go_at_call 31; with_reducible exact rule_g x0 x1 x2 x3 x4 x5 xp xn xc xl HXN.out true _ HL.out HIV.out HRB.out)
          | (go_at_call 55; with_reducible exact has_g (some ⟨g, o, none⟩) j cap xs x0 x1 x2 x3 x4 x5 xp xn xc xl HXN.out fb _ HXS.out HS20.out HKV.out HFB.out)))
        refine wpQuiet_nil ?_
        rintro w4 ⟨X, rfl⟩
        clear g0 g1 g2 g3 g4 g5 g6 g7
        cases fb with
        | false =>
          have E := Lib.hid (HXF.out rfl)
          go_wp2
          go_ret
          rw [E.out]
          exact ⟨rfl, box_below (BelowKit.bl_trans HBA.out X.bel)⟩
        | true =>
          have E := Lib.hid (HYF.out rfl)
          go_wp2
          go_roundw
          case rel => exact ⟨j + 1, by omega, by go_num, E, Lib.hid (BelowKit.bl_trans HBA.out X.bel)⟩
          case measure => simp [intOf]; omega
    · obtain rfl : j = m := by omega
      have E := Lib.hid (show R = true by
        have h1 := HP.out
        have h2 := HM2.out
        rw [← HM.out] at h1 h2
        rw [← HR.out]
        exact bookB_yes (book_of h1 h2))
      go_wp2
      go_ret
      rw [E.out]
      exact ⟨rfl, box_below HB.out⟩
end Go.Proofs.Ytkfgflmhefbinaa.BookI

/- Contracts of the program's indexOfGreatest, Book.ruleFor and RuleFor. -/
namespace Go.Proofs.Ytkfgflmhefbinaa.BestI
open Go.RowKit RowN TRule BookMath Mon Box TBook
def IsIn (i : Int) (w : World) (e : Ending) (w' : World) : Prop := e = .returned (.int .i64 i) ∧ Below w.heap.size w w'
set_option maxHeartbeats 2000000 in
theorem appl_i (x : El) (nm mo jo : Int) (b1 b2 b3 : Nat) (w : World) (h1 : w.cell? ⟨b1, 0, none⟩ = some (.int .i64 nm)) (h2 : w.cell? ⟨b2, 0, none⟩ = some (.int .i64 mo)) (h3 : w.cell? ⟨b3, 0, none⟩ = some (.int .i64 jo)) (z1 : b1 < w.heap.size) (z2 : b2 < w.heap.size) (z3 : b3 < w.heap.size) :
    Calls Try.prog 87 #[fv x, .pointer (some ⟨b1, 0, none⟩), .pointer (some ⟨b2, 0, none⟩), .pointer (some ⟨b3, 0, none⟩)] w (IsBo (appl nm mo jo x.r) w) := by
  obtain ⟨⟨x0, x1, x2, x3, x4, x5, l⟩, p, c⟩ := x
  obtain ⟨n, hn⟩ : ∃ m, l.length = m := ⟨_, rfl⟩
  obtain ⟨R, hR⟩ : ∃ R, appl nm mo jo ⟨x0, x1, x2, x3, x4, x5, l⟩ = R := ⟨_, rfl⟩
  show Calls Try.prog 87 #[.agg #[.int .i64 x0, .int .i64 x1, .int .i64 x2, .int .i64 x3, .int .i64 x4, .int .i64 x5, .slice p l.length c], .pointer (some ⟨b1, 0, none⟩), .pointer (some ⟨b2, 0, none⟩), .pointer (some ⟨b3, 0, none⟩)] w (IsBo (appl nm mo jo ⟨x0, x1, x2, x3, x4, x5, l⟩) w)
  have HN : Hid (¬ (x0 = nm ∧ x1 ≤ mo ∧ mo < x2 ∧ jo < x3) → R = false) := Lib.hid (fun e => by rw [← hR]; exact appl_no e)
  have HY : Hid (x0 = nm → x1 ≤ mo → mo < x2 → jo < x3 → R = true) := Lib.hid (fun a b c d => by rw [← hR]; exact appl_iff.2 ⟨a, b, c, d⟩)
  rw [hn, hR]
  clear hn hR
  go_enter Try.func87, Try.ntmps87
  by_cases k1 : x0 = nm
  case neg =>
    have E := Lib.hid (HN.out (fun e => k1 e.1))
    have d1 : (x0 == nm) = false := beq_eq_false_iff_ne.2 k1
    have d2 : decide (x0 = nm) = false := decide_eq_false k1
    clear k1 HN HY
    go_wp2
    go_ret
    rw [E.out]
    exact ⟨rfl, by (repeat (first | exact Below.refl _ _ | apply BelowKit.bl_alloc | apply BelowKit.bl_drewN | apply BelowKit.bl_drew | (refine BelowKit.bl_set ?_ _ ?_; rotate_left; (first | omega | (simp; omega) | simp)) | (refine BelowKit.bl_trans ?_ (‹Hid (Below _ _ _)›).out)))⟩
  case pos =>
  have K1 := Lib.hid k1
  have d1 : (x0 == nm) = true := beq_iff_eq.2 k1
  clear k1
  by_cases k2 : x1 ≤ mo
  case neg =>
    have E := Lib.hid (HN.out (fun e => k2 e.2.1))
    have d3 : decide (x1 ≤ mo) = false := decide_eq_false k2
    clear k2 HN HY
    go_wp2
    go_ret
    rw [E.out]
    exact ⟨rfl, by (repeat (first | exact Below.refl _ _ | apply BelowKit.bl_alloc | apply BelowKit.bl_drewN | apply BelowKit.bl_drew | (refine BelowKit.bl_set ?_ _ ?_; rotate_left; (first | omega | (simp; omega) | simp)) | (refine BelowKit.bl_trans ?_ (‹Hid (Below _ _ _)›).out)))⟩
  case pos =>
  have K2 := Lib.hid k2
  have d3 : decide (x1 ≤ mo) = true := decide_eq_true k2
  clear k2
  by_cases k3 : mo < x2
  case neg =>
    have E := Lib.hid (HN.out (fun e => k3 e.2.2.1))
    have d4 : decide (mo < x2) = false := decide_eq_false k3
    clear k3 HN HY
    go_wp2
    go_ret
    rw [E.out]
    exact ⟨rfl, by (repeat (first | exact Below.refl _ _ | apply BelowKit.bl_alloc | apply BelowKit.bl_drewN | apply BelowKit.bl_drew | (refine BelowKit.bl_set ?_ _ ?_; rotate_left; (first | omega | (simp; omega) | simp)) | (refine BelowKit.bl_trans ?_ (‹Hid (Below _ _ _)›).out)))⟩
  case pos =>
  have K3 := Lib.hid k3
  have d4 : decide (mo < x2) = true := decide_eq_true k3
  clear k3
  by_cases k4 : jo < x3
  case neg =>
    have E := Lib.hid (HN.out (fun e => k4 e.2.2.2))
    have d5 : decide (jo < x3) = false := decide_eq_false k4
    clear k4 HN HY
    go_wp2
    go_ret
    rw [E.out]
    exact ⟨rfl, by (repeat (first | exact Below.refl _ _ | apply BelowKit.bl_alloc | apply BelowKit.bl_drewN | apply BelowKit.bl_drew | (refine BelowKit.bl_set ?_ _ ?_; rotate_left; (first | omega | (simp; omega) | simp)) | (refine BelowKit.bl_trans ?_ (‹Hid (Below _ _ _)›).out)))⟩
  case pos =>
    have E := Lib.hid (HY.out K1.out K2.out K3.out k4)
    have d5 : decide (jo < x3) = true := decide_eq_true k4
    clear k4 HN HY
    go_wp2
    go_ret
    rw [E.out]
    exact ⟨rfl, by (repeat (first | exact Below.refl _ _ | apply BelowKit.bl_alloc | apply BelowKit.bl_drewN | apply BelowKit.bl_drew | (refine BelowKit.bl_set ?_ _ ?_; rotate_left; (first | omega | (simp; omega) | simp)) | (refine BelowKit.bl_trans ?_ (‹Hid (Below _ _ _)›).out)))⟩
theorem appl_g (x0 x1 x2 x3 x4 x5 : Int) (p : Option Addr) (n c : Nat) (l : List TNode.El) (hn : l.length = n) (nm mo jo : Int) (b1 b2 b3 : Nat) (b : Bool) {w0 : World} (X : Grown.G w0) (h1 : ∀ X : Grown.G w0, X.w.cell? ⟨b1, 0, none⟩ = some (.int .i64 nm)) (h2 : ∀ X : Grown.G w0, X.w.cell? ⟨b2, 0, none⟩ = some (.int .i64 mo)) (h3 : ∀ X : Grown.G w0, X.w.cell? ⟨b3, 0, none⟩ = some (.int .i64 jo)) (z1 : b1 < w0.heap.size) (z2 : b2 < w0.heap.size) (z3 : b3 < w0.heap.size) (hb : appl nm mo jo ⟨x0, x1, x2, x3, x4, x5, l⟩ = b) :
    Calls Try.prog 87 #[.agg #[.int .i64 x0, .int .i64 x1, .int .i64 x2, .int .i64 x3, .int .i64 x4, .int .i64 x5, .slice p n c], .pointer (some ⟨b1, 0, none⟩), .pointer (some ⟨b2, 0, none⟩), .pointer (some ⟨b3, 0, none⟩)] X.w (fun e w'' => e = .returned (.bool b) ∧ ∃ Y : Grown.G w0, w'' = Y.w) := by
  subst hn hb
  have hX := X.bel.size
  exact Grown.grown_of (appl_i ⟨⟨x0, x1, x2, x3, x4, x5, l⟩, p, c⟩ nm mo jo b1 b2 b3 X.w (h1 X) (h2 X) (h3 X) (by omega) (by omega) (by omega))
theorem rank_i (x : El) (w : World) : Calls Try.prog 89 #[fv x] w (IsIn x.r.Rank w) := by
  unfold fv
  go_enter Try.func89, Try.ntmps89
  go_wp2
  go_ret
  exact ⟨rfl, by (repeat (first | exact Below.refl _ _ | apply BelowKit.bl_alloc | apply BelowKit.bl_drewN | apply BelowKit.bl_drew | (refine BelowKit.bl_set ?_ _ ?_; rotate_left; (first | omega | (simp; omega) | simp)) | (refine BelowKit.bl_trans ?_ (‹Hid (Below _ _ _)›).out)))⟩
theorem rank_g (x0 x1 x2 x3 x4 x5 : Int) (p : Option Addr) (n c : Nat) {w0 : World} (X : Grown.G w0) :
    Calls Try.prog 89 #[.agg #[.int .i64 x0, .int .i64 x1, .int .i64 x2, .int .i64 x3, .int .i64 x4, .int .i64 x5, .slice p n c]] X.w (fun e w'' => e = .returned (.int .i64 x4) ∧ ∃ Y : Grown.G w0, w'' = Y.w) := by
  refine Grown.grown_of ?_
  go_enter Try.func89, Try.ntmps89
  go_wp2
  go_ret
  exact ⟨rfl, by (repeat (first | exact Below.refl _ _ | apply BelowKit.bl_alloc | apply BelowKit.bl_drewN | apply BelowKit.bl_drew | (refine BelowKit.bl_set ?_ _ ?_; rotate_left; (first | omega | (simp; omega) | simp)) | (refine BelowKit.bl_trans ?_ (‹Hid (Below _ _ _)›).out)))⟩
set_option maxHeartbeats 8000000 in
theorem best_i (w : World) (a : Option Addr) (m cap : Nat) (rs : List Ru) (nm mo jo : Int) (c1 c2 c3 : Nat) (hm : rs.length = m) (hs : m ≤ 1048576) (h : RdD w a rs) (h1 : w.cell? ⟨c1, 0, none⟩ = some (.int .i64 nm)) (h2 : w.cell? ⟨c2, 0, none⟩ = some (.int .i64 mo)) (h3 : w.cell? ⟨c3, 0, none⟩ = some (.int .i64 jo)) (z1 : c1 < w.heap.size) (z2 : c2 < w.heap.size) (z3 : c3 < w.heap.size) :
    Calls Try.prog 88 #[.slice a m cap, .func (.func 87) #[] #[.pointer (some ⟨c1, 0, none⟩), .pointer (some ⟨c2, 0, none⟩), .pointer (some ⟨c3, 0, none⟩)], .func (.func 89) #[] #[]] w (IsIn (forB rs nm mo jo) w) := by
  obtain ⟨xs, ex, h0⟩ := h
  have KK := Lib.hid h0.out
  have HX := Lib.hid ex
  have HM := Lib.hid hm
  have HXL := Lib.hid (show xs.length = m by rw [← hm, ← ex, List.length_map])
  have G1 := Lib.hid h1
  have G2 := Lib.hid h2
  have G3 := Lib.hid h3
  have Z1 := Lib.hid z1
  have Z2 := Lib.hid z2
  have Z3 := Lib.hid z3
  clear h0 ex hm h1 h2 h3 z1 z2 z3
  go_enter Try.func88, Try.ntmps88
  go_wp2
  go_loopw [7, 12] (fun q i wr => ∃ j : Nat, j ≤ m ∧ i = .int .i64 (j : Int) ∧ (∃ bv : Int, q = .int .i64 bv ∧ Hid (forTo rs nm mo jo j = bv)) ∧ Hid (Below w.heap.size w wr)) (fun _ i _ => m - (intOf i).toNat)
  case atStart => exact ⟨0, Nat.zero_le _, rfl, ⟨-1, rfl, Lib.hid rfl⟩, Lib.hid (Below.refl _ _)⟩
  case round =>
    obtain ⟨j, hj, rfl, ⟨bv, rfl, HBV⟩, HB⟩ := hrel
    by_cases hlt : j < m
    · have HLT := Lib.hid (show j < rs.length by rw [HM.out]; exact hlt)
      have hjx : j < xs.length := by rw [HXL.out]; exact hlt
      have hxr : xs[j].r = rs[j]'HLT.out := by have := HX.out; subst this; simp
      have HK2 := Lib.hid (KK.out.on HB.out)
      obtain ⟨g, o, rfl, hgl, q0, q1, q2, q3, q4, q5, q6⟩ := read HK2.out j hjx
      have b1 : (0 : Int) ≤ (j : Int) := by omega
      have b2 : (j : Int) < (m : Int) := by omega
      have HXR := Lib.hid hxr
      obtain ⟨⟨⟨x0, x1, x2, x3, x4, x5, xl⟩, xp, xc⟩, hx⟩ : ∃ x, xs[j]'hjx = x := ⟨_, rfl⟩
      rw [hx] at q0 q1 q2 q3 q4 q5 q6 HXR
      simp only [] at q0 q1 q2 q3 q4 q5 q6 HXR
      obtain ⟨xn, hxn⟩ : ∃ n, xl.length = n := ⟨_, rfl⟩
      have HXN := Lib.hid hxn
      rw [hxn] at q6
      have HBA := Lib.hid (BelowKit.bl_alloc (o := .cells #[.int .i64 x0, .int .i64 x1, .int .i64 x2, .int .i64 x3, .int .i64 x4, .int .i64 x5, .slice xp xn xc] 34) HB.out)
      obtain ⟨V, hV⟩ : ∃ V, V = wr.alloc (.cells #[.int .i64 x0, .int .i64 x1, .int .i64 x2, .int .i64 x3, .int .i64 x4, .int .i64 x5, .slice xp xn xc] 34) := ⟨_, rfl⟩
      have hbv : Below wr.heap.size wr V := by rw [hV]; exact BelowKit.bl_alloc (Below.refl wr.heap.size wr)
      have N0 := Lib.hid (show V.cell? ⟨wr.heap.size, 0, none⟩ = some (.int .i64 x0) by rw [hV]; simp [go_sem])
      have N1 := Lib.hid (show V.cell? ⟨wr.heap.size, 1, none⟩ = some (.int .i64 x1) by rw [hV]; simp [go_sem])
      have N2 := Lib.hid (show V.cell? ⟨wr.heap.size, 2, none⟩ = some (.int .i64 x2) by rw [hV]; simp [go_sem])
      have N3 := Lib.hid (show V.cell? ⟨wr.heap.size, 3, none⟩ = some (.int .i64 x3) by rw [hV]; simp [go_sem])
      have N4 := Lib.hid (show V.cell? ⟨wr.heap.size, 4, none⟩ = some (.int .i64 x4) by rw [hV]; simp [go_sem])
      have N5 := Lib.hid (show V.cell? ⟨wr.heap.size, 5, none⟩ = some (.int .i64 x5) by rw [hV]; simp [go_sem])
      have N6 := Lib.hid (show V.cell? ⟨wr.heap.size, 6, none⟩ = some (.slice xp xn xc) by rw [hV]; simp [go_sem])
      have HWS := Lib.hid (show wr.heap.size < V.heap.size by rw [hV]; simp)
      have HKV := Lib.hid (HK2.out.on hbv)
      have hbwv : Below w.heap.size w V := by rw [hV]; exact HBA.out
      have M1 := Lib.hid (((BelowKit.bcell hbwv).1 c1 0 Z1.out).trans G1.out)
      have M2 := Lib.hid (((BelowKit.bcell hbwv).1 c2 0 Z2.out).trans G2.out)
      have M3 := Lib.hid (((BelowKit.bcell hbwv).1 c3 0 Z3.out).trans G3.out)
      have Y1 := Lib.hid (Nat.lt_of_lt_of_le Z1.out hbwv.size)
      have Y2 := Lib.hid (Nat.lt_of_lt_of_le Z2.out hbwv.size)
      have Y3 := Lib.hid (Nat.lt_of_lt_of_le Z3.out hbwv.size)
      rw [← hV] at HBA
      clear hx hxr hxn hjx hbwv
      obtain ⟨ab, hab⟩ : ∃ b, appl nm mo jo ⟨x0, x1, x2, x3, x4, x5, xl⟩ = b := ⟨_, rfl⟩
      have HAB := Lib.hid hab
      clear hab
      go_wp2_with fail
      rw [← hV]
      clear q0 q1 q2 q3 q4 q5 q6 hbv HK2
      have g0 := Grown.G.keep N0.out HWS.out
      have g1 := Grown.G.keep N1.out HWS.out
      have g2 := Grown.G.keep N2.out HWS.out
      have g3 := Grown.G.keep N3.out HWS.out
      have g4 := Grown.G.keep N4.out HWS.out
      have g5 := Grown.G.keep N5.out HWS.out
      have g6 := Grown.G.keep N6.out HWS.out
      have gc1 := Lib.hid (Grown.G.keep M1.out Y1.out)
      have gc2 := Lib.hid (Grown.G.keep M2.out Y2.out)
      have gc3 := Lib.hid (Grown.G.keep M3.out Y3.out)
      clear hV
      refine Grown.wp_region_grown (by kernel_rfl) (by kernel_rfl) ?_
      cases ab with
      | false =>
        have HC := Lib.hid (show forTo rs nm mo jo (j + 1) = bv by rw [forTo_no HLT.out (by rw [← HXR.out]; exact HAB.out), HBV.out])
        repeat (go_big_quiet_step ((go_at_call 87; with_reducible exact appl_g x0 x1 x2 x3 x4 x5 xp xn xc xl HXN.out nm mo jo c1 c2 c3 false _ gc1.out gc2.out gc3.out Y1.out Y2.out Y3.out HAB.out)))
        refine wpQuiet_nil ?_
        rintro w4 ⟨X, rfl⟩
        clear g0 g1 g2 g3 g4 g5 g6 gc1 gc2 gc3
        go_wp2
        go_roundw
        case rel => exact ⟨j + 1, by omega, by go_num, ⟨bv, rfl, HC⟩, Lib.hid (BelowKit.bl_trans HBA.out X.bel)⟩
        case measure => simp [intOf]; omega
      | true =>
        have HA := Lib.hid (show appl nm mo jo (rs[j]'HLT.out) = true by rw [← HXR.out]; exact HAB.out)
        have HBT := Lib.hid (best_to rs nm mo jo j (by have := HLT.out; omega))
        rcases HBT.out with ⟨hb, _⟩ | ⟨jb, hb, hjb, hjl, _⟩
        · rw [HBV.out] at hb
          subst hb
          have HC := Lib.hid (forTo_first HLT.out HA.out HBV.out)
          have dj : decide ((-1 : Int) < 0) = true := by decide
          clear HBT
          repeat (go_big_quiet_step ((go_at_call 87; with_reducible exact appl_g x0 x1 x2 x3 x4 x5 xp xn xc xl HXN.out nm mo jo c1 c2 c3 true _ gc1.out gc2.out gc3.out Y1.out Y2.out Y3.out HAB.out)))
          refine wpQuiet_nil ?_
          rintro w4 ⟨X, rfl⟩
          clear g0 g1 g2 g3 g4 g5 g6 gc1 gc2 gc3
          go_wp2
          go_roundw
          case rel => exact ⟨j + 1, by omega, by go_num, ⟨_, rfl, HC⟩, Lib.hid (BelowKit.bl_trans HBA.out X.bel)⟩
          case measure => simp [intOf]; omega
        · rw [HBV.out] at hb
          subst hb
          have hjbx : jb < xs.length := by rw [HXL.out]; omega
          have hyr : xs[jb].r = rs[jb]'hjl := by have := HX.out; subst this; simp
          obtain ⟨g', o', e', hgl', p0, p1, p2, p3, p4, p5, p6⟩ := read HKV.out jb hjbx
          cases e'
          have HYR := Lib.hid hyr
          obtain ⟨⟨⟨y0, y1, y2, y3, y4, y5, yl⟩, yp, yc⟩, hy⟩ : ∃ y, xs[jb]'hjbx = y := ⟨_, rfl⟩
          rw [hy] at p0 p1 p2 p3 p4 p5 p6 HYR
          simp only [] at p0 p1 p2 p3 p4 p5 p6 HYR
          obtain ⟨yn, hyn⟩ : ∃ n, yl.length = n := ⟨_, rfl⟩
          rw [hyn] at p6
          have HJL := Lib.hid hjl
          have HY4 := Lib.hid (show (rs[jb]'hjl).Rank = y4 by rw [← HYR.out])
          have t1 : (0 : Int) ≤ (jb : Int) := by omega
          have t2 : (jb : Int) < (m : Int) := by omega
          have dj : decide ((jb : Int) < 0) = false := decide_eq_false (by omega)
          have e0 := Grown.G.keep p0 hgl'
          have e1 := Grown.G.keep p1 hgl'
          have e2 := Grown.G.keep p2 hgl'
          have e3 := Grown.G.keep p3 hgl'
          have e4 := Grown.G.keep p4 hgl'
          have e5 := Grown.G.keep p5 hgl'
          have e6 := Grown.G.keep p6 hgl'
          clear HBT hyr hy hyn hjbx p0 p1 p2 p3 p4 p5 p6
          obtain ⟨db, hdb⟩ : ∃ b, decide (y4 < x4) = b := ⟨_, rfl⟩
          have HDB := Lib.hid hdb
          have d5 := hdb
          clear hdb
          cases db with
          | true =>
            have HC := Lib.hid (forTo_more HLT.out HA.out HBV.out HJL.out (by rw [HY4.out, ← HXR.out]; exact of_decide_eq_true (p := y4 < x4) HDB.out))
            repeat (go_big_quiet_step (first
              | (go_at_call 87; with_reducible exact appl_g x0 x1 x2 x3 x4 x5 xp xn xc xl HXN.out nm mo jo c1 c2 c3 true _ gc1.out gc2.out gc3.out Y1.out Y2.out Y3.out HAB.out)
              | (go_at_call 89; with_reducible exact rank_g _ _ _ _ _ _ _ _ _ _)))
            refine wpQuiet_nil ?_
            rintro w4 ⟨X, rfl⟩
            clear g0 g1 g2 g3 g4 g5 g6 gc1 gc2 gc3 e0 e1 e2 e3 e4 e5 e6
            go_wp2
            go_roundw
            case rel => exact ⟨j + 1, by omega, by go_num, ⟨_, rfl, HC⟩, Lib.hid (BelowKit.bl_trans HBA.out X.bel)⟩
            case measure => simp [intOf]; omega
          | false =>
            have HC := Lib.hid (forTo_less HLT.out HBV.out HJL.out (by rw [HY4.out, ← HXR.out]; exact of_decide_eq_false (p := y4 < x4) HDB.out))
            repeat (go_big_quiet_step (first
              | (go_at_call 87; with_reducible exact appl_g x0 x1 x2 x3 x4 x5 xp xn xc xl HXN.out nm mo jo c1 c2 c3 true _ gc1.out gc2.out gc3.out Y1.out Y2.out Y3.out HAB.out)
              | (go_at_call 89; with_reducible exact rank_g _ _ _ _ _ _ _ _ _ _)))
            refine wpQuiet_nil ?_
            rintro w4 ⟨X, rfl⟩
            clear g0 g1 g2 g3 g4 g5 g6 gc1 gc2 gc3 e0 e1 e2 e3 e4 e5 e6
            go_wp2
            go_roundw
            case rel => exact ⟨j + 1, by omega, by go_num, ⟨_, rfl, HC⟩, Lib.hid (BelowKit.bl_trans HBA.out X.bel)⟩
            case measure => simp [intOf]; omega
    · obtain rfl : j = m := by omega
      have E := Lib.hid (show forB rs nm mo jo = bv by unfold forB; rw [HM.out]; exact HBV.out)
      go_wp2
      go_ret
      rw [E.out]
      exact ⟨rfl, HB.out⟩
set_option maxHeartbeats 2000000 in
theorem for_i (w : World) (a : Option Addr) (m cap : Nat) (rs : List Ru) (nm mo jo : Int) (hm : rs.length = m) (hs : m ≤ 1048576) (h : RdD w a rs) :
    Calls Try.prog 53 #[.agg #[.slice a m cap], .int .i64 nm, .int .i64 mo, .int .i64 jo] w (IsIn (forB rs nm mo jo) w) := by
  have KK := Lib.hid h
  have HM := Lib.hid hm
  clear h hm
  go_enter Try.func53, Try.ntmps53
  go_wp2_with fail
  refine (best_i _ a m cap rs nm mo jo (w.heap.size + 1) (w.heap.size + 1 + 1) (w.heap.size + 1 + 1 + 1) HM.out hs (KK.out.on (by (repeat (first | exact Below.refl _ _ | apply BelowKit.bl_alloc | apply BelowKit.bl_drewN | apply BelowKit.bl_drew | (refine BelowKit.bl_set ?_ _ ?_; rotate_left; (first | omega | (simp; omega) | simp)) | (refine BelowKit.bl_trans ?_ (‹Hid (Below _ _ _)›).out))))) (by simp [go_sem]) (by simp [go_sem]) (by simp [go_sem]) (by simp) (by simp) (by simp)).mono ?_
  rintro e w1 ⟨rfl, hb⟩
  have HB := Lib.hid (show Below w.heap.size w w1 from BelowKit.bl_trans (by (repeat (first | exact Below.refl _ _ | apply BelowKit.bl_alloc | apply BelowKit.bl_drewN | apply BelowKit.bl_drew | (refine BelowKit.bl_set ?_ _ ?_; rotate_left; (first | omega | (simp; omega) | simp)) | (refine BelowKit.bl_trans ?_ (‹Hid (Below _ _ _)›).out)))) hb)
  clear hb
  go_wp2
  go_ret
  exact ⟨rfl, HB.out⟩
set_option maxHeartbeats 2000000 in
theorem ruleFor_i (w : World) (a : Option Addr) (m cap : Nat) (rs : List Ru) (nm mo jo : Int) (hm : rs.length = m) (hcap : m ≤ cap) (hs : m ≤ 1048576) (hn : Few rs) (h : RdD w a rs) :
    Calls Try.prog 18 #[.agg #[.slice a m cap], .int .i64 nm, .int .i64 mo, .int .i64 jo] w (IsIn (ruleFor rs nm mo jo) w) := by
  have KK := Lib.hid h
  have HM := Lib.hid hm
  have HN := Lib.hid hn
  obtain ⟨b, hb⟩ : ∃ b, bookB rs = b := ⟨_, rfl⟩
  have HBK := Lib.hid hb
  clear h hm hn hb
  go_enter Try.func18, Try.ntmps18
  go_wp2_with fail
  refine (BookI.book_i _ a m cap rs HM.out hcap (by omega) HN.out (KK.out.on (by (repeat (first | exact Below.refl _ _ | apply BelowKit.bl_alloc | apply BelowKit.bl_drewN | apply BelowKit.bl_drew | (refine BelowKit.bl_set ?_ _ ?_; rotate_left; (first | omega | (simp; omega) | simp)) | (refine BelowKit.bl_trans ?_ (‹Hid (Below _ _ _)›).out)))))).mono ?_
  rintro e w1 ⟨rfl, hb⟩
  rw [HBK.out]
  have hcb : w1.cell? ⟨w.heap.size, 0, none⟩ = some (.slice a m cap) := ((BelowKit.bcell hb).1 _ _ (by simp)).trans (by simp [go_sem])
  have hzb : w.heap.size < w1.heap.size := by have := hb.size; simp at this; omega
  have HB1 := Lib.hid (show Below w.heap.size w w1 from BelowKit.bl_trans (by (repeat (first | exact Below.refl _ _ | apply BelowKit.bl_alloc | apply BelowKit.bl_drewN | apply BelowKit.bl_drew | (refine BelowKit.bl_set ?_ _ ?_; rotate_left; (first | omega | (simp; omega) | simp)) | (refine BelowKit.bl_trans ?_ (‹Hid (Below _ _ _)›).out)))) hb)
  clear hb
  cases b with
  | false =>
    have E := Lib.hid (ruleFor_no (name := nm) (m := mo) (joined := jo) HBK.out)
    clear HBK
    go_wp2
    go_ret
    rw [E.out]
    exact ⟨rfl, HB1.out⟩
  | true =>
    have E := Lib.hid (ruleFor_yes (name := nm) (m := mo) (joined := jo) HBK.out)
    clear HBK
    go_wp2_with fail
    refine (for_i _ a m cap rs nm mo jo HM.out hs (KK.out.on HB1.out)).mono ?_
    rintro e w2 ⟨rfl, hb⟩
    have HB2 := Lib.hid (show Below w.heap.size w w2 from BelowKit.bl_trans HB1.out hb)
    clear hb
    go_wp2
    go_ret
    rw [E.out]
    exact ⟨rfl, HB2.out⟩
end Go.Proofs.Ytkfgflmhefbinaa.BestI

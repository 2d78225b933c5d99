/- Contract of the model's RuleOk. -/
import Derived.Test.YtkfgflmhefbinaaRows
import Derived.Test.YtkfgflmhefbinaaTRule
import Derived.Test.YtkfgflmhefbinaaRuleC
import Derived.Test.YtkfgflmhefbinaaFormS
namespace Go.Proofs.Ytkfgflmhefbinaa.RuleS
open Go.RowKit RowN TRule BookMath Mon
set_option maxHeartbeats 4000000 in
theorem rule_s (x : El) (w : World) (hs : x.r.Nodes.length ≤ 1099511627776) (h : Reads TNode.fc 6 w x.p x.r.Nodes) : Calls Try.prog 29 #[fv x] w (IsBo (ruleB x.r) w) := by
  obtain ⟨⟨x0, x1, x2, x3, x4, x5, l⟩, p, c⟩ := x
  have KK := Lib.hid (show Reads TNode.fc 6 w p l from h)
  clear h
  obtain ⟨m, hm⟩ : ∃ m, l.length = m := ⟨_, rfl⟩
  have HM := Lib.hid hm
  have hs' : m ≤ 1099511627776 := by rw [← hm]; exact hs
  obtain ⟨R, hR⟩ : ∃ R, ruleB ⟨x0, x1, x2, x3, x4, x5, l⟩ = R := ⟨_, rfl⟩
  have HR := Lib.hid hR
  show Calls Try.prog 29 #[.agg #[.int .i64 x0, .int .i64 x1, .int .i64 x2, .int .i64 x3, .int .i64 x4, .int .i64 x5, .slice p l.length c]] w (IsBo (ruleB ⟨x0, x1, x2, x3, x4, x5, l⟩) w)
  rw [hm, hR]
  clear hs hm hR
  have no : ∀ {b : Bool}, b = R → b = false → R = false := fun h1 h2 => h1 ▸ h2
  go_enter Try.func29, Try.ntmps29
  go_wp2_with fail
  refine (in_c _ _ _ _).mono ?_
  rintro e w1 ⟨rfl, rfl⟩
  cases e1 : inB x0 1 20 with
  | false =>
    have E := Lib.hid (no HR.out (by simp [ruleB, e1]))
    clear e1
    go_wp2
    go_ret
    rw [E.out]
    exact ⟨rfl, by (repeat (first | exact Below.refl _ _ | apply BelowKit.bl_alloc | apply BelowKit.bl_drewN | apply BelowKit.bl_drew | (refine BelowKit.bl_set ?_ _ ?_; rotate_left; (first | omega | (simp; omega) | simp)) | (refine BelowKit.bl_trans ?_ (‹Hid (Below _ _ _)›).out)))⟩
  | true =>
  by_cases nc1 : x1 < 0
  · have E := Lib.hid (no HR.out (by simp [ruleB, show ¬ 0 ≤ x1 by omega]))
    clear e1
    go_wp2
    go_ret
    rw [E.out]
    exact ⟨rfl, by (repeat (first | exact Below.refl _ _ | apply BelowKit.bl_alloc | apply BelowKit.bl_drewN | apply BelowKit.bl_drew | (refine BelowKit.bl_set ?_ _ ?_; rotate_left; (first | omega | (simp; omega) | simp)) | (refine BelowKit.bl_trans ?_ (‹Hid (Below _ _ _)›).out)))⟩
  have c1 : 0 ≤ x1 := by omega
  clear nc1
  by_cases nc2 : x2 ≤ x1
  · have E := Lib.hid (no HR.out (by simp [ruleB, show ¬ x1 < x2 by omega]))
    clear e1
    go_wp2
    go_ret
    rw [E.out]
    exact ⟨rfl, by (repeat (first | exact Below.refl _ _ | apply BelowKit.bl_alloc | apply BelowKit.bl_drewN | apply BelowKit.bl_drew | (refine BelowKit.bl_set ?_ _ ?_; rotate_left; (first | omega | (simp; omega) | simp)) | (refine BelowKit.bl_trans ?_ (‹Hid (Below _ _ _)›).out)))⟩
  have c2 : x1 < x2 := by omega
  clear nc2
  by_cases nc3 : 3600 < x2
  · have E := Lib.hid (no HR.out (by simp [ruleB, show ¬ x2 ≤ 3600 by omega]))
    clear e1
    go_wp2
    go_ret
    rw [E.out]
    exact ⟨rfl, by (repeat (first | exact Below.refl _ _ | apply BelowKit.bl_alloc | apply BelowKit.bl_drewN | apply BelowKit.bl_drew | (refine BelowKit.bl_set ?_ _ ?_; rotate_left; (first | omega | (simp; omega) | simp)) | (refine BelowKit.bl_trans ?_ (‹Hid (Below _ _ _)›).out)))⟩
  have c3 : x2 ≤ 3600 := by omega
  clear nc3
  have E1 := Lib.hid e1
  have C1 := Lib.hid c1
  have C2 := Lib.hid c2
  have C3 := Lib.hid c3
  clear e1
  go_wp2_with fail
  refine (in_c _ _ _ _).mono ?_
  rintro e w1 ⟨rfl, rfl⟩
  cases e5 : inB x3 1 3600 with
  | false =>
    have E := Lib.hid (no HR.out (by simp [ruleB, e5]))
    clear e5
    go_wp2
    go_ret
    rw [E.out]
    exact ⟨rfl, by (repeat (first | exact Below.refl _ _ | apply BelowKit.bl_alloc | apply BelowKit.bl_drewN | apply BelowKit.bl_drew | (refine BelowKit.bl_set ?_ _ ?_; rotate_left; (first | omega | (simp; omega) | simp)) | (refine BelowKit.bl_trans ?_ (‹Hid (Below _ _ _)›).out)))⟩
  | true =>
  have E5 := Lib.hid e5
  clear e5
  go_wp2_with fail
  refine (in_c _ _ _ _).mono ?_
  rintro e w1 ⟨rfl, rfl⟩
  cases e6 : inB x4 0 9 with
  | false =>
    have E := Lib.hid (no HR.out (by simp [ruleB, e6]))
    clear e6
    go_wp2
    go_ret
    rw [E.out]
    exact ⟨rfl, by (repeat (first | exact Below.refl _ _ | apply BelowKit.bl_alloc | apply BelowKit.bl_drewN | apply BelowKit.bl_drew | (refine BelowKit.bl_set ?_ _ ?_; rotate_left; (first | omega | (simp; omega) | simp)) | (refine BelowKit.bl_trans ?_ (‹Hid (Below _ _ _)›).out)))⟩
  | true =>
  have E6 := Lib.hid e6
  clear e6
  go_wp2_with fail
  refine (in_c _ _ _ _).mono ?_
  rintro e w1 ⟨rfl, rfl⟩
  cases e7 : inB x5 1 4 with
  | false =>
    have E := Lib.hid (no HR.out (by simp [ruleB, e7]))
    clear e7
    go_wp2
    go_ret
    rw [E.out]
    exact ⟨rfl, by (repeat (first | exact Below.refl _ _ | apply BelowKit.bl_alloc | apply BelowKit.bl_drewN | apply BelowKit.bl_drew | (refine BelowKit.bl_set ?_ _ ?_; rotate_left; (first | omega | (simp; omega) | simp)) | (refine BelowKit.bl_trans ?_ (‹Hid (Below _ _ _)›).out)))⟩
  | true =>
  have E7 := Lib.hid e7
  clear e7
  go_wp2_with fail
  refine (FormS.form_s _ p m c l HM.out hs' (KK.out.on (by (repeat (first | exact Below.refl _ _ | apply BelowKit.bl_alloc | apply BelowKit.bl_drewN | apply BelowKit.bl_drew | (refine BelowKit.bl_set ?_ _ ?_; rotate_left; (first | omega | (simp; omega) | simp)) | (refine BelowKit.bl_trans ?_ (‹Hid (Below _ _ _)›).out)))))).mono ?_
  rintro e w2 ⟨rfl, hb⟩
  have E := Lib.hid (show R = NodeMath.okF l by rw [← HR.out]; simp [ruleB, E1.out, C1.out, C2.out, C3.out, E5.out, E6.out, E7.out])
  have HB := Lib.hid (show Below w.heap.size w w2 from BelowKit.bl_trans (by (repeat (first | exact Below.refl _ _ | apply BelowKit.bl_alloc | apply BelowKit.bl_drewN | apply BelowKit.bl_drew | (refine BelowKit.bl_set ?_ _ ?_; rotate_left; (first | omega | (simp; omega) | simp)) | (refine BelowKit.bl_trans ?_ (‹Hid (Below _ _ _)›).out)))) hb)
  obtain ⟨b, hb2⟩ : ∃ b, NodeMath.okF l = b := ⟨_, rfl⟩
  rw [hb2] at E ⊢
  clear hb hb2
  go_wp2
  go_ret
  rw [E.out]
  exact ⟨rfl, by (repeat (first | exact Below.refl _ _ | apply BelowKit.bl_alloc | apply BelowKit.bl_drewN | apply BelowKit.bl_drew | (refine BelowKit.bl_set ?_ _ ?_; rotate_left; (first | omega | (simp; omega) | simp)) | (refine BelowKit.bl_trans ?_ (‹Hid (Below _ _ _)›).out)))⟩
end Go.Proofs.Ytkfgflmhefbinaa.RuleS

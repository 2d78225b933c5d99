/- Contracts of the model's BookOk, l10For and RuleFor. -/
import Derived.Test.YtkfgflmhefbinaaRows
import Derived.Test.YtkfgflmhefbinaaRuleC
import Derived.Test.YtkfgflmhefbinaaRuleS
import Derived.Test.YtkfgflmhefbinaaKit
namespace Go.Proofs.Ytkfgflmhefbinaa.BookS
open Go.RowKit RowN TRule BookMath Mon Box TBook
set_option maxHeartbeats 8000000 in
theorem book_s (w : World) (a : Option Addr) (m cap : Nat) (rs : List Ru) (hm : rs.length = m) (hs : m ≤ 1099511627776) (hn : Few rs) (h : RdD w a rs) :
    Calls Try.prog 34 #[.agg #[.slice a m cap]] w (IsBo (bookB rs) w) := by
  obtain ⟨xs, ex, h0⟩ := h
  have KK := Lib.hid h0
  have HX := Lib.hid ex
  have HM := Lib.hid hm
  have HN := Lib.hid hn
  obtain ⟨R, hR⟩ : ∃ R, bookB rs = R := ⟨_, rfl⟩
  have HR := Lib.hid hR
  rw [hR]
  clear h0 ex hm hn hR
  go_enter Try.func34, Try.ntmps34
  go_wp2
  go_loopw [3] (fun i wr => ∃ j : Nat, j ≤ m ∧ i = .int .i64 (j : Int) ∧ Hid (OkTo rs j) ∧ Hid (Below (boxed w (.slice a m cap) 26).heap.size (boxed w (.slice a m cap) 26) wr)) (fun i _ => m - (intOf i).toNat)
  case atStart => exact ⟨0, Nat.zero_le _, rfl, Lib.hid (OkTo.zero rs), Lib.hid (Below.refl _ _)⟩
  case round =>
    obtain ⟨j, hj, rfl, HP, HB⟩ := hrel
    have hc := box_cell HB.out
    have hz := box_size HB.out
    by_cases hlt : j < m
    · have HLT := Lib.hid (show j < rs.length by rw [HM.out]; exact hlt)
      have hjx : j < xs.length := by have := congrArg List.length HX.out; rw [List.length_map] at this; have := HLT.out; omega
      have hxr : xs[j].r = rs[j]'HLT.out := by have := HX.out; subst this; simp
      have R1 := KK.out.on (box_below HB.out)
      obtain ⟨g, o, rfl, hgl, q0, q1, q2, q3, q4, q5, q6⟩ := read R1.out j hjx
      have HI := Lib.hid (R1.inn j hjx)
      have b1 : (0 : Int) ≤ (j : Int) := by omega
      have b2 : (j : Int) < (m : Int) := by omega
      have HXR := Lib.hid hxr
      have HL := Lib.hid (show xs[j].r.Nodes.length ≤ 1099511627776 by rw [hxr]; exact HN.out j HLT.out)
      obtain ⟨⟨⟨x0, x1, x2, x3, x4, x5, xl⟩, xp, xc⟩, hx⟩ : ∃ x, xs[j]'hjx = x := ⟨_, rfl⟩
      rw [hx] at q0 q1 q2 q3 q4 q5 q6 HI HXR HL
      simp only [] at q0 q1 q2 q3 q4 q5 q6
      obtain ⟨xn, hxn⟩ : ∃ n, xl.length = n := ⟨_, rfl⟩
      have HXN := Lib.hid hxn
      rw [hxn] at q6
      clear R1 hx hxr hxn
      go_wp2_with fail
      have HRS := RuleS.rule_s ⟨⟨x0, x1, x2, x3, x4, x5, xl⟩, xp, xc⟩ (wr.alloc (.cells #[.int .i64 x0, .int .i64 x1, .int .i64 x2, .int .i64 x3, .int .i64 x4, .int .i64 x5, .slice xp xn xc] 34)) HL.out (HI.out.on (by (repeat (first | exact Below.refl _ _ | apply BelowKit.bl_alloc | apply BelowKit.bl_drewN | apply BelowKit.bl_drew | (refine BelowKit.bl_set ?_ _ ?_; rotate_left; (first | omega | (simp; omega) | simp)) | (refine BelowKit.bl_trans ?_ (‹Hid (Below _ _ _)›).out)))))
      unfold fv at HRS
      simp only [] at HRS
      rw [HXN.out] at HRS
      refine HRS.mono ?_
      rintro e w1 ⟨rfl, hb⟩
      have c0 : w1.cell? ⟨wr.heap.size, 0, none⟩ = some (.int .i64 x0) := ((BelowKit.bcell hb).1 _ _ (by simp)).trans (by simp [go_sem])
      have c1 : w1.cell? ⟨wr.heap.size, 1, none⟩ = some (.int .i64 x1) := ((BelowKit.bcell hb).1 _ _ (by simp)).trans (by simp [go_sem])
      have c2 : w1.cell? ⟨wr.heap.size, 2, none⟩ = some (.int .i64 x2) := ((BelowKit.bcell hb).1 _ _ (by simp)).trans (by simp [go_sem])
      have c4 : w1.cell? ⟨wr.heap.size, 4, none⟩ = some (.int .i64 x4) := ((BelowKit.bcell hb).1 _ _ (by simp)).trans (by simp [go_sem])
      have hz1 : wr.heap.size < w1.heap.size := by have := hb.size; simp at this; omega
      have HB1 := Lib.hid (BelowKit.bl_trans HB.out (BelowKit.bl_trans (BelowKit.bl_alloc (Below.refl _ _)) hb))
      have hc1 := box_cell HB1.out
      have hz01 := box_size HB1.out
      obtain ⟨gr, hgr⟩ : ∃ g, wr.heap.size = g := ⟨_, rfl⟩
      rw [hgr] at c0 c1 c2 c4 hz1 ⊢
      clear hb HRS HB hc hz hgl q0 q1 q2 q3 q4 q5 q6 hgr HI
      obtain ⟨br, hbr⟩ : ∃ b, ruleB ⟨x0, x1, x2, x3, x4, x5, xl⟩ = b := ⟨_, rfl⟩
      rw [hbr]
      cases br with
      | false =>
        have E := Lib.hid (show R = false by rw [← HR.out]; exact bookB_rule HLT.out (fun h => by have := ruleB_yes h; rw [← HXR.out] at this; rw [hbr] at this; cases this))
        clear hbr
        go_wp2
        go_ret
        rw [E.out]
        exact ⟨rfl, box_below HB1.out⟩
      | true =>
      have HRP := Lib.hid (show RuleP (rs[j]'HLT.out) by rw [← HXR.out]; exact ruleB_of hbr)
      clear hbr
      go_wp2
      go_loopw [5] (fun i wq => ∃ k : Nat, k ≤ j ∧ i = .int .i64 (k : Int) ∧ Hid (freeTo rs (rs[j]'HLT.out) k = true) ∧ Hid (Below w1.heap.size w1 wq)) (fun i _ => j - (intOf i).toNat)
      case atStart => exact ⟨0, Nat.zero_le _, rfl, Lib.hid (freeTo_zero _ _), Lib.hid (Below.refl _ _)⟩
      case round =>
        obtain ⟨k, hk, rfl, HF, HQ⟩ := hrel
        by_cases hlk : k < j
        · have hkx : k < xs.length := by omega
          have HKR := Lib.hid (show k < rs.length by have := HLT.out; omega)
          have hyr : xs[k].r = rs[k]'HKR.out := by have := HX.out; subst this; simp
          have hbq := BelowKit.bl_trans HB1.out HQ.out
          obtain ⟨g', o', e', hgl', p0, p1, p2, p3, p4, p5, p6⟩ := read (KK.out.on (box_below hbq)).out k hkx
          cases e'
          have HYR := Lib.hid hyr
          obtain ⟨⟨⟨y0, y1, y2, y3, y4, y5, yl⟩, yp, yc⟩, hy⟩ : ∃ y, xs[k]'hkx = y := ⟨_, rfl⟩
          rw [hy] at p0 p1 p2 p3 p4 p5 p6 HYR
          simp only [] at p0 p1 p2 p3 p4 p5 p6
          obtain ⟨yn, hyn⟩ : ∃ n, yl.length = n := ⟨_, rfl⟩
          rw [hyn] at p6
          have hcq := box_cell hbq
          have hzq := box_size hbq
          have d0 := ((BelowKit.bcell HQ.out).1 _ _ hz1).trans c0
          have d1 := ((BelowKit.bcell HQ.out).1 _ _ hz1).trans c1
          have d2 := ((BelowKit.bcell HQ.out).1 _ _ hz1).trans c2
          have d4 := ((BelowKit.bcell HQ.out).1 _ _ hz1).trans c4
          have hgq : gr < wr.heap.size := Nat.lt_of_lt_of_le hz1 HQ.out.size
          have HQA := Lib.hid (BelowKit.bl_alloc (o := .cells #[.int .i64 y0, .int .i64 y1, .int .i64 y2, .int .i64 y3, .int .i64 y4, .int .i64 y5, .slice yp yn yc] 34) HQ.out)
          have t1 : (0 : Int) ≤ (k : Int) := by omega
          have t2 : (k : Int) < (m : Int) := by omega
          have t3 : (k : Int) < (j : Int) := by omega
          clear hy hyr hyn hbq c0 c1 c2 c4 hz1 hc1 hz01
          by_cases hname : y0 = x0
          case neg =>
            have HC := Lib.hid (freeTo_go HF.out HKR.out (by rw [← HYR.out, ← HXR.out]; exact clash_no (fun h => hname h.1)))
            have n1 : (y0 == x0) = false := beq_eq_false_iff_ne.2 hname
            have n2 : decide (y0 = x0) = false := decide_eq_false hname
            go_wp2
            go_roundw
            case rel => exact ⟨k + 1, by omega, by go_num, HC, HQA⟩
            case measure => simp [intOf]; omega
          case pos =>
          by_cases hrank : y4 = x4
          case neg =>
            have HC := Lib.hid (freeTo_go HF.out HKR.out (by rw [← HYR.out, ← HXR.out]; exact clash_no (fun h => hrank h.2.1)))
            have n1 : (y4 == x4) = false := beq_eq_false_iff_ne.2 hrank
            have n2 : decide (y4 = x4) = false := decide_eq_false hrank
            subst hname
            go_wp2
            go_roundw
            case rel => exact ⟨k + 1, by omega, by go_num, HC, HQA⟩
            case measure => simp [intOf]; omega
          case pos =>
          subst hname
          subst hrank
          obtain ⟨cm, hcm⟩ : ∃ c, common y1 y2 x1 x2 = c := ⟨_, rfl⟩
          have HCM := Lib.hid hcm
          clear hcm
          by_cases hpos : 0 < cm
          case pos =>
            have E := Lib.hid (show R = false by rw [← HR.out]; exact bookB_clash HLT.out hlk (by rw [← HYR.out, ← HXR.out]; exact clash_yes rfl rfl (by simp only []; rw [HCM.out]; exact hpos)))
            go_wp2_with fail
            refine (common_s _ _ _ _ _).mono ?_
            rintro e w2 ⟨rfl, rfl⟩
            rw [HCM.out]
            go_wp2
            go_ret
            rw [E.out]
            exact ⟨rfl, box_below (BelowKit.bl_trans HB1.out HQA.out)⟩
          case neg =>
            have HC := Lib.hid (freeTo_go HF.out HKR.out (by rw [← HYR.out, ← HXR.out]; exact clash_no (fun h => by have := h.2.2; simp only [] at this; rw [HCM.out] at this; exact hpos this)))
            have n1 : decide (0 < cm) = false := decide_eq_false hpos
            go_wp2_with fail
            refine (common_s _ _ _ _ _).mono ?_
            rintro e w2 ⟨rfl, rfl⟩
            rw [HCM.out]
            go_wp2
            go_roundw
            case rel => exact ⟨k + 1, by omega, by go_num, HC, HQA⟩
            case measure => simp [intOf]; omega
        · obtain rfl : k = j := by omega
          have HO := Lib.hid (HP.out.succ HLT.out HRP.out HF.out)
          have HBN := Lib.hid (BelowKit.bl_trans HB1.out HQ.out)
          go_wp2
          go_roundw
          case rel => exact ⟨k + 1, by omega, by go_num, HO, HBN⟩
          case measure => simp [intOf]; omega
    · obtain rfl : j = m := by omega
      have E := Lib.hid (show R = decide ((j : Int) ≤ 20) by
        have h1 := HP.out
        rw [← HM.out] at h1
        rw [← HR.out, bookB_len_is h1, HM.out]
        exact decide_eq_decide.2 (by omega))
      go_wp2
      go_ret
      rw [E.out]
      exact ⟨rfl, box_below HB.out⟩
set_option maxHeartbeats 8000000 in
theorem for_s (w : World) (a : Option Addr) (m cap : Nat) (rs : List Ru) (nm mo jo : Int) (hm : rs.length = m) (hs : m ≤ 1099511627776) (h : RdD w a rs) :
    Calls Try.prog 61 #[.agg #[.slice a m cap], .int .i64 nm, .int .i64 mo, .int .i64 jo] w (fun e w' => e = .returned (.int .i64 (forB rs nm mo jo)) ∧ Below w.heap.size w w') := by
  obtain ⟨xs, ex, h0⟩ := h
  have KK := Lib.hid h0.out
  have HX := Lib.hid ex
  have HM := Lib.hid hm
  clear h0 ex hm
  go_enter Try.func61, Try.ntmps61
  go_wp2
  go_loopw [9, 10] (fun q i wr => ∃ j : Nat, j ≤ m ∧ i = .int .i64 (j : Int) ∧ (∃ bv : Int, q = .int .i64 bv ∧ Hid (forTo rs nm mo jo j = bv)) ∧ Hid (Below (boxed w (.slice a m cap) 26).heap.size (boxed w (.slice a m cap) 26) wr)) (fun _ i _ => m - (intOf i).toNat)
  case atStart => exact ⟨0, Nat.zero_le _, rfl, ⟨-1, rfl, Lib.hid rfl⟩, Lib.hid (Below.refl _ _)⟩
  case round =>
    obtain ⟨j, hj, rfl, ⟨bv, rfl, HBV⟩, HB⟩ := hrel
    have hc := box_cell HB.out
    have hz := box_size HB.out
    by_cases hlt : j < m
    · have HLT := Lib.hid (show j < rs.length by rw [HM.out]; exact hlt)
      have HXL := Lib.hid (show xs.length = m by have := congrArg List.length HX.out; rw [List.length_map, HM.out] at this; exact this)
      have hjx : j < xs.length := by rw [HXL.out]; exact hlt
      have hxr : xs[j].r = rs[j]'HLT.out := by have := HX.out; subst this; simp
      have R1 := KK.out.on (box_below HB.out)
      obtain ⟨g, o, rfl, hgl, q0, q1, q2, q3, q4, q5, q6⟩ := read R1 j hjx
      have HR1 := Lib.hid R1
      have b1 : (0 : Int) ≤ (j : Int) := by omega
      have b2 : (j : Int) < (m : Int) := by omega
      have HXR := Lib.hid hxr
      obtain ⟨⟨⟨x0, x1, x2, x3, x4, x5, xl⟩, xp, xc⟩, hx⟩ : ∃ x, xs[j]'hjx = x := ⟨_, rfl⟩
      rw [hx] at q0 q1 q2 q3 q4 q5 q6 HXR
      simp only [] at q0 q1 q2 q3 q4 q5 q6
      obtain ⟨xn, hxn⟩ : ∃ n, xl.length = n := ⟨_, rfl⟩
      rw [hxn] at q6
      have HBA := Lib.hid (BelowKit.bl_alloc (o := .cells #[.int .i64 x0, .int .i64 x1, .int .i64 x2, .int .i64 x3, .int .i64 x4, .int .i64 x5, .slice xp xn xc] 34) HB.out)
      clear R1 hx hxr hxn hjx
      by_cases hname : x0 = nm
      case neg =>
        have HC := Lib.hid (show forTo rs nm mo jo (j + 1) = bv by rw [forTo_no HLT.out (by rw [← HXR.out]; exact appl_no (fun h => hname h.1)), HBV.out])
        have n1 : (x0 == nm) = false := beq_eq_false_iff_ne.2 hname
        have n2 : decide (x0 = nm) = false := decide_eq_false hname
        go_wp2
        go_quiet (fail)
        go_wp2
        go_roundw
        case rel => exact ⟨j + 1, by omega, by go_num, ⟨bv, rfl, HC⟩, Lib.hid (below_drewN HBA.out _)⟩
        case measure => simp [intOf]; omega
      case pos =>
      have n1 : (x0 == nm) = true := beq_iff_eq.2 hname
      have n2 : decide (x0 = nm) = true := decide_eq_true hname
      have HNM := Lib.hid hname
      clear hname
      by_cases h1 : x1 ≤ mo
      case neg =>
        have dh1 : decide (x1 ≤ mo) = false := decide_eq_false h1
        have HC := Lib.hid (show forTo rs nm mo jo (j + 1) = bv by rw [forTo_no HLT.out (by rw [← HXR.out]; exact appl_no (fun h => h1 h.2.1)), HBV.out])
        go_wp2
        go_quiet (fail)
        go_wp2
        go_roundw
        case rel => exact ⟨j + 1, by omega, by go_num, ⟨bv, rfl, HC⟩, Lib.hid (below_drewN HBA.out _)⟩
        case measure => simp [intOf]; omega
      case pos =>
      have dh1 : decide (x1 ≤ mo) = true := decide_eq_true h1
      by_cases h2 : mo < x2
      case neg =>
        have dh2 : decide (mo < x2) = false := decide_eq_false h2
        have HC := Lib.hid (show forTo rs nm mo jo (j + 1) = bv by rw [forTo_no HLT.out (by rw [← HXR.out]; exact appl_no (fun h => h2 h.2.2.1)), HBV.out])
        go_wp2
        go_quiet (fail)
        go_wp2
        go_roundw
        case rel => exact ⟨j + 1, by omega, by go_num, ⟨bv, rfl, HC⟩, Lib.hid (below_drewN HBA.out _)⟩
        case measure => simp [intOf]; omega
      case pos =>
      have dh2 : decide (mo < x2) = true := decide_eq_true h2
      by_cases h3 : jo < x3
      case neg =>
        have dh3 : decide (jo < x3) = false := decide_eq_false h3
        have HC := Lib.hid (show forTo rs nm mo jo (j + 1) = bv by rw [forTo_no HLT.out (by rw [← HXR.out]; exact appl_no (fun h => h3 h.2.2.2)), HBV.out])
        go_wp2
        go_quiet (fail)
        go_wp2
        go_roundw
        case rel => exact ⟨j + 1, by omega, by go_num, ⟨bv, rfl, HC⟩, Lib.hid (below_drewN HBA.out _)⟩
        case measure => simp [intOf]; omega
      case pos =>
      have dh3 : decide (jo < x3) = true := decide_eq_true h3
      have HA := Lib.hid (show appl nm mo jo (rs[j]'HLT.out) = true by rw [← HXR.out]; exact appl_iff.2 ⟨HNM.out, h1, h2, h3⟩)
      have HBT := Lib.hid (best_to rs nm mo jo j (by have := HLT.out; omega))
      rcases HBT.out with ⟨hb, _⟩ | ⟨jb, hb, hjb, hjl, _⟩
      · rw [HBV.out] at hb
        subst hb
        have HC := Lib.hid (forTo_first HLT.out HA.out HBV.out)
        have dj : decide ((-1 : Int) < 0) = true := by decide
        clear HBT
        go_wp2
        go_quiet (fail)
        go_wp2
        go_roundw
        case rel => exact ⟨j + 1, by omega, by go_num, ⟨_, rfl, HC⟩, Lib.hid (below_drewN HBA.out _)⟩
        case measure => simp [intOf]; omega
      · rw [HBV.out] at hb
        subst hb
        have hjbx : jb < xs.length := by rw [HXL.out]; omega
        have hyr : xs[jb].r = rs[jb]'hjl := by have := HX.out; subst this; simp
        obtain ⟨g', o', e', hgl', p0, p1, p2, p3, p4, p5, p6⟩ := read HR1.out jb hjbx
        cases e'
        rw [hyr] at p4
        have HJL := Lib.hid hjl
        obtain ⟨y4, hy4⟩ : ∃ y, (rs[jb]'hjl).Rank = y := ⟨_, rfl⟩
        rw [hy4] at p4
        have HY4 := Lib.hid hy4
        have t1 : (0 : Int) ≤ (jb : Int) := by omega
        have t2 : (jb : Int) < (m : Int) := by omega
        clear HBT hyr hy4 p0 p1 p2 p3 p5 p6
        by_cases hr : y4 < x4
        · have dr : decide (y4 < x4) = true := decide_eq_true hr
          have dj : decide ((jb : Int) < 0) = false := decide_eq_false (by omega)
          have HC := Lib.hid (forTo_more HLT.out HA.out HBV.out HJL.out (by rw [HY4.out, ← HXR.out]; exact hr))
          go_wp2
          go_quiet (fail)
          go_wp2
          go_roundw
          case rel => exact ⟨j + 1, by omega, by go_num, ⟨_, rfl, HC⟩, Lib.hid (below_drewN HBA.out _)⟩
          case measure => simp [intOf]; omega
        · have dr : decide (y4 < x4) = false := decide_eq_false hr
          have dj : decide ((jb : Int) < 0) = false := decide_eq_false (by omega)
          have HC := Lib.hid (forTo_less HLT.out HBV.out HJL.out (by rw [HY4.out, ← HXR.out]; exact hr))
          go_wp2
          go_quiet (fail)
          go_wp2
          go_roundw
          case rel => exact ⟨j + 1, by omega, by go_num, ⟨_, rfl, HC⟩, Lib.hid (below_drewN HBA.out _)⟩
          case measure => simp [intOf]; omega
    · obtain rfl : j = m := by omega
      have E := Lib.hid (show forB rs nm mo jo = bv by unfold forB; rw [HM.out]; exact HBV.out)
      go_wp2
      go_ret
      rw [E.out]
      exact ⟨rfl, box_below HB.out⟩
set_option maxHeartbeats 2000000 in
theorem ruleFor_s (w : World) (a : Option Addr) (m cap : Nat) (rs : List Ru) (nm mo jo : Int) (hm : rs.length = m) (hs : m ≤ 1099511627776) (hn : Few rs) (h : RdD w a rs) :
    Calls Try.prog 24 #[.agg #[.slice a m cap], .int .i64 nm, .int .i64 mo, .int .i64 jo] w (fun e w' => e = .returned (.int .i64 (ruleFor rs nm mo jo)) ∧ Below w.heap.size w w') := by
  have KK := Lib.hid h
  have HM := Lib.hid hm
  have HN := Lib.hid hn
  obtain ⟨b, hb⟩ : ∃ b, bookB rs = b := ⟨_, rfl⟩
  have HBK := Lib.hid hb
  clear h hm hn hb
  go_enter Try.func24, Try.ntmps24
  go_wp2_with fail
  refine (book_s _ a m cap rs HM.out hs HN.out (KK.out.on (by (repeat (first | exact Below.refl _ _ | apply BelowKit.bl_alloc | apply BelowKit.bl_drewN | apply BelowKit.bl_drew | (refine BelowKit.bl_set ?_ _ ?_; rotate_left; (first | omega | (simp; omega) | simp)) | (refine BelowKit.bl_trans ?_ (‹Hid (Below _ _ _)›).out)))))).mono ?_
  rintro e w1 ⟨rfl, hb⟩
  rw [HBK.out]
  have hcb : w1.cell? ⟨w.heap.size, 0, none⟩ = some (.slice a m cap) := ((BelowKit.bcell hb).1 _ _ (by simp)).trans (by simp [go_sem])
  have hzb : w.heap.size < w1.heap.size := by have := hb.size; simp at this; omega
  have HB1 := Lib.hid (show Below w.heap.size w w1 from BelowKit.bl_trans (by (repeat (first | exact Below.refl _ _ | apply BelowKit.bl_alloc | apply BelowKit.bl_drewN | apply BelowKit.bl_drew | (refine BelowKit.bl_set ?_ _ ?_; rotate_left; (first | omega | (simp; omega) | simp)) | (refine BelowKit.bl_trans ?_ (‹Hid (Below _ _ _)›).out)))) hb)
  clear hb
  cases b with
  | false =>
    have E := Lib.hid (ruleFor_no (name := nm) (m := mo) (joined := jo) HBK.out)
    clear HBK
    go_wp2
    go_ret
    rw [E.out]
    exact ⟨rfl, HB1.out⟩
  | true =>
    have E := Lib.hid (ruleFor_yes (name := nm) (m := mo) (joined := jo) HBK.out)
    clear HBK
    go_wp2_with fail
    refine (for_s _ a m cap rs nm mo jo HM.out hs (KK.out.on HB1.out)).mono ?_
    rintro e w2 ⟨rfl, hb⟩
    have HB2 := Lib.hid (show Below w.heap.size w w2 from BelowKit.bl_trans HB1.out hb)
    clear hb
    go_wp2
    go_ret
    rw [E.out]
    exact ⟨rfl, HB2.out⟩
end Go.Proofs.Ytkfgflmhefbinaa.BookS

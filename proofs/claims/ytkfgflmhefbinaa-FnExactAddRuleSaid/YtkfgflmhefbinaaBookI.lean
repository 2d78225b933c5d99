/- Contracts of slices.ContainsFunc over rules and of the program's BookOk. -/
import Derived.Test.YtkfgflmhefbinaaRows
import Derived.Test.YtkfgflmhefbinaaTBook
import Derived.Test.YtkfgflmhefbinaaRuleI
import Derived.Test.YtkfgflmhefbinaaKit
namespace Go.Proofs.Ytkfgflmhefbinaa.BookI
open Go.RowKit RowN TRule BookMath Mon Box TBook
/-- What an index function answers: b says that nothing was found. -/
def Fd (b : Bool) (r : Int) : Prop := (0 ≤ r ∧ b = false) ∨ (r = -1 ∧ b = true)
def IsFd (b : Bool) (w : World) (e : Ending) (w' : World) : Prop := ∃ r : Int, e = .returned (.int .i64 r) ∧ Fd b r ∧ Below w.heap.size w w'
theorem freeTo_stop {rs : List Ru} {r : Ru} {k n : Nat} (h : k < rs.length) (hc : clash r rs[k] = true) (hn : k < n) : freeTo rs r n = false := freeTo_no h (by rw [clash_comm]; exact hc) hn
theorem freeTo_on {rs : List Ru} {r : Ru} {k : Nat} (hf : freeTo rs r k = true) (h : k < rs.length) (hc : clash r rs[k] = false) : freeTo rs r (k + 1) = true := freeTo_go hf h (by rw [clash_comm]; exact hc)
set_option maxHeartbeats 2000000 in
theorem find_i (w : World) (a : Option Addr) (m cap : Nat) (xs : List El) (y : El) (hm : m ≤ xs.length) (hs : m ≤ 1048576) (h : Reads fc 7 w a xs) :
    Calls Try.prog 90 #[.slice a m cap, .func (.func 56) #[fv y] #[]] w (IsFd (freeTo (xs.map (·.r)) y.r m) w) := by
  have KK := Lib.hid h
  have HM := Lib.hid hm
  obtain ⟨Y, hY⟩ : ∃ Y, fv y = Y := ⟨_, rfl⟩
  have HYV := Lib.hid hY
  rw [hY]
  clear h hm hY
  go_enter Try.func90, Try.ntmps90
  go_wp2
  go_loopw [8] (fun i wr => ∃ j : Nat, j ≤ m ∧ i = .int .i64 (j : Int) ∧ Hid (freeTo (xs.map (·.r)) y.r j = true) ∧ Hid (Below w.heap.size w wr)) (fun i _ => m - (intOf i).toNat)
  case atStart => exact ⟨0, Nat.zero_le _, rfl, Lib.hid (freeTo_zero _ _), Lib.hid (Below.refl _ _)⟩
  case round =>
    obtain ⟨j, hj, rfl, HP, HB⟩ := hrel
    by_cases hlt : j < m
    · have HLT := Lib.hid (show j < xs.length by have := HM.out; omega)
      obtain ⟨g, o, rfl, hgl, q0, q1, q2, q3, q4, q5, q6⟩ := read (KK.out.on HB.out) j HLT.out
      have b1 : (0 : Int) ≤ (j : Int) := by omega
      have b2 : (j : Int) < (m : Int) := by omega
      have HJR : Hid (j < (xs.map (·.r)).length) := Lib.hid (by rw [List.length_map]; exact HLT.out)
      have HE : Hid ((xs.map (·.r))[j]'HJR.out = (xs[j]'HLT.out).r) := Lib.hid (by simp)
      have HX : Hid (clash y.r (xs[j]'HLT.out).r = true → freeTo (xs.map (·.r)) y.r m = false) := Lib.hid (fun e => freeTo_stop HJR.out (by rw [HE.out]; exact e) hlt)
      have HZ : Hid (clash y.r (xs[j]'HLT.out).r = false → freeTo (xs.map (·.r)) y.r (j + 1) = true) := Lib.hid (fun e => freeTo_on HP.out HJR.out (by rw [HE.out]; exact e))
      clear HP HE HJR
      generalize (xs[j]'HLT.out) = x at q0 q1 q2 q3 q4 q5 q6 HX HZ
      obtain ⟨d, hd⟩ : ∃ d, clash y.r x.r = d := ⟨_, rfl⟩
      have HD := Lib.hid hd
      clear hd
      go_wp2_with fail
      have HT := RuleI.tied_i y x wr
      rw [HYV.out] at HT
      unfold fv at HT
      refine HT.mono ?_
      rintro e w1 ⟨rfl, hb⟩
      rw [HD.out]
      have HB1 := Lib.hid (BelowKit.bl_trans HB.out hb)
      clear hb HT q0 q1 q2 q3 q4 q5 q6
      cases d with
      | true =>
        have E := Lib.hid (HX.out HD.out)
        clear HX HZ HD
        go_wp2
        go_ret
        exact ⟨(j : Int), rfl, .inl ⟨b1, E.out⟩, HB1.out⟩
      | false =>
        have E := Lib.hid (HZ.out HD.out)
        clear HX HZ HD
        go_wp2
        go_roundw
        case rel => exact ⟨j + 1, by omega, by go_num, E, HB1⟩
        case measure => simp [intOf]; omega
    · obtain rfl : j = m := by omega
      go_wp2
      go_ret
      exact ⟨-1, rfl, .inr ⟨rfl, HP.out⟩, HB.out⟩
theorem has_i (w : World) (a : Option Addr) (m cap : Nat) (xs : List El) (y : El) (hm : m ≤ xs.length) (hs : m ≤ 1048576) (h : Reads fc 7 w a xs) :
    Calls Try.prog 55 #[.slice a m cap, .func (.func 56) #[fv y] #[]] w (IsBo (!(freeTo (xs.map (·.r)) y.r m)) w) := by
  have KK := Lib.hid h
  have HM := Lib.hid hm
  have HF := Lib.hid (find_i w a m cap xs y hm hs h)
  obtain ⟨Y, hY⟩ : ∃ Y, fv y = Y := ⟨_, rfl⟩
  obtain ⟨R, hR⟩ : ∃ R, freeTo (xs.map (·.r)) y.r m = R := ⟨_, rfl⟩
  rw [hY, hR] at HF ⊢
  clear h hm hY hR
  go_enter Try.func55, Try.ntmps55
  go_wp2_with fail
  refine HF.out.mono ?_
  rintro e w1 ⟨r, rfl, hf, hb⟩
  have HB := Lib.hid hb
  clear hb HF
  rcases hf with ⟨h1, rfl⟩ | ⟨h1, rfl⟩
  · have d1 : decide (0 ≤ r) = true := decide_eq_true h1
    clear h1
    go_wp2
    go_ret
    exact ⟨rfl, HB.out⟩
  · subst h1
    go_wp2
    go_ret
    exact ⟨rfl, HB.out⟩
theorem has_g (a : Option Addr) (m cap : Nat) (xs : List El) (x0 x1 x2 x3 x4 x5 : Int) (p : Option Addr) (n c : Nat) (l : List TNode.El) (hn : l.length = n) (b : Bool) {w0 : World} (X : Grown.G w0) (hm : m ≤ xs.length) (hs : m ≤ 1048576) (h : Reads fc 7 w0 a xs) (hb : freeTo (xs.map (·.r)) ⟨x0, x1, x2, x3, x4, x5, l⟩ m = b) :
    Calls Try.prog 55 #[.slice a m cap, .func (.func 56) #[.agg #[.int .i64 x0, .int .i64 x1, .int .i64 x2, .int .i64 x3, .int .i64 x4, .int .i64 x5, .slice p n c]] #[]] X.w (fun e w'' => e = .returned (.bool (!b)) ∧ ∃ Y : Grown.G w0, w'' = Y.w) := by
  subst hn hb
  exact Grown.grown_of (has_i X.w a m cap xs ⟨⟨x0, x1, x2, x3, x4, x5, l⟩, p, c⟩ hm hs (h.on X.bel))
theorem rule_g (x0 x1 x2 x3 x4 x5 : Int) (p : Option Addr) (n c : Nat) (l : List TNode.El) (hn : l.length = n) (b : Bool) {w0 : World} (X : Grown.G w0) (hs : l.length ≤ 1099511627776) (h : Reads TNode.fc 6 w0 p l) (hb : ruleB ⟨x0, x1, x2, x3, x4, x5, l⟩ = b) :
    Calls Try.prog 31 #[.agg #[.int .i64 x0, .int .i64 x1, .int .i64 x2, .int .i64 x3, .int .i64 x4, .int .i64 x5, .slice p n c]] X.w (fun e w'' => e = .returned (.bool b) ∧ ∃ Y : Grown.G w0, w'' = Y.w) := by
  subst hn hb
  exact Grown.grown_of (RuleI.rule_i ⟨⟨x0, x1, x2, x3, x4, x5, l⟩, p, c⟩ X.w hs (h.on X.bel))
set_option maxHeartbeats 8000000 in
theorem book_i (w : World) (a : Option Addr) (m cap : Nat) (rs : List Ru) (hm : rs.length = m) (hcap : m ≤ cap) (hs : m ≤ 1099511627776) (hn : Few rs) (h : RdD w a rs) :
    Calls Try.prog 21 #[.agg #[.slice a m cap]] w (IsBo (bookB rs) w) := by
  obtain ⟨R, hR⟩ : ∃ R, bookB rs = R := ⟨_, rfl⟩
  have HR := Lib.hid hR
  rw [hR]
  by_cases hbig : 20 < m
  · have E := Lib.hid (show R = false from hR.symm.trans (bookB_len (by omega)))
    have d0 : decide ((20 : Int) < (m : Int)) = true := decide_eq_true (by omega)
    clear h hm hR HR hn hcap
    go_enter Try.func21, Try.ntmps21
    go_wp2
    go_ret
    rw [E.out]
    exact ⟨rfl, by (repeat (first | exact Below.refl _ _ | apply BelowKit.bl_alloc | apply BelowKit.bl_drewN | apply BelowKit.bl_drew | (refine BelowKit.bl_set ?_ _ ?_; rotate_left; (first | omega | (simp; omega) | simp)) | (refine BelowKit.bl_trans ?_ (‹Hid (Below _ _ _)›).out)))⟩
  have d0 : decide ((20 : Int) < (m : Int)) = false := decide_eq_false (by omega)
  obtain ⟨xs, ex, h0⟩ := h
  have KK := Lib.hid h0
  have HX := Lib.hid ex
  have HXL := Lib.hid (show xs.length = m by rw [← hm, ← ex, List.length_map])
  have HM := Lib.hid hm
  have HM2 := Lib.hid (show m ≤ 20 by omega)
  have HN := Lib.hid hn
  have HCAP := Lib.hid hcap
  clear h0 ex hm hR hbig hn hcap
  go_enter Try.func21, Try.ntmps21
  go_wp2
  go_loopw [12] (fun i wr => ∃ j : Nat, j ≤ m ∧ i = .int .i64 (j : Int) ∧ Hid (OkTo rs j) ∧ Hid (Below (boxed w (.slice a m cap) 26).heap.size (boxed w (.slice a m cap) 26) wr)) (fun i _ => m - (intOf i).toNat)
  case atStart => exact ⟨0, Nat.zero_le _, rfl, Lib.hid (OkTo.zero rs), Lib.hid (Below.refl _ _)⟩
  case round =>
    obtain ⟨j, hj, rfl, HP, HB⟩ := hrel
    have hc := box_cell HB.out
    have hz := box_size HB.out
    by_cases hlt : j < m
    · have HLT := Lib.hid (show j < rs.length by rw [HM.out]; exact hlt)
      have hjx : j < xs.length := by rw [HXL.out]; exact hlt
      have hxr : xs[j].r = rs[j]'HLT.out := by have := HX.out; subst this; simp
      have HK2 := Lib.hid (KK.out.on (box_below HB.out))
      obtain ⟨g, o, rfl, hgl, q0, q1, q2, q3, q4, q5, q6⟩ := read HK2.out.out j hjx
      have HI := Lib.hid (HK2.out.inn j hjx)
      have b1 : (0 : Int) ≤ (j : Int) := by omega
      have b2 : (j : Int) < (m : Int) := by omega
      have b3 : (j : Int) ≤ (cap : Int) := by have := HCAP.out; omega
      have b4 : j ≤ cap := by have := HCAP.out; omega
      have HXR := Lib.hid hxr
      have HL := Lib.hid (show xs[j].r.Nodes.length ≤ 1099511627776 by rw [hxr]; exact HN.out j HLT.out)
      obtain ⟨⟨⟨x0, x1, x2, x3, x4, x5, xl⟩, xp, xc⟩, hx⟩ : ∃ x, xs[j]'hjx = x := ⟨_, rfl⟩
      rw [hx] at q0 q1 q2 q3 q4 q5 q6 HI HXR HL
      simp only [] at q0 q1 q2 q3 q4 q5 q6 HXR HL HI
      obtain ⟨xn, hxn⟩ : ∃ n, xl.length = n := ⟨_, rfl⟩
      have HXN := Lib.hid hxn
      rw [hxn] at q6
      have HX1 : Hid (ruleB ⟨x0, x1, x2, x3, x4, x5, xl⟩ = false → R = false) := Lib.hid (fun e => by rw [← HR.out]; exact bookB_rule HLT.out (fun h => by have := ruleB_yes h; rw [← HXR.out] at this; rw [e] at this; cases this))
      have HX2 : Hid (freeTo rs ⟨x0, x1, x2, x3, x4, x5, xl⟩ j = false → R = false) := Lib.hid (fun e => by
        rw [← HR.out]
        refine bookB_no fun hb => ?_
        have : freeTo rs (rs[j]'HLT.out) j = true := by
          unfold freeTo
          refine List.all_eq_true.2 fun o ho => ?_
          obtain ⟨k, hk, rfl⟩ := List.mem_take_iff_getElem.1 ho
          rw [hb.apart j k HLT.out (by omega)]
          rfl
        rw [← HXR.out, e] at this
        cases this)
      have HY : Hid (ruleB ⟨x0, x1, x2, x3, x4, x5, xl⟩ = true → freeTo rs ⟨x0, x1, x2, x3, x4, x5, xl⟩ j = true → OkTo rs (j + 1)) := Lib.hid (fun e1 e2 => HP.out.succ HLT.out (by rw [← HXR.out]; exact ruleB_of e1) (by rw [← HXR.out]; exact e2))
      have HBA := Lib.hid (BelowKit.bl_alloc (o := .cells #[.int .i64 x0, .int .i64 x1, .int .i64 x2, .int .i64 x3, .int .i64 x4, .int .i64 x5, .slice xp xn xc] 34) HB.out)
      obtain ⟨V, hV⟩ : ∃ V, V = wr.alloc (.cells #[.int .i64 x0, .int .i64 x1, .int .i64 x2, .int .i64 x3, .int .i64 x4, .int .i64 x5, .slice xp xn xc] 34) := ⟨_, rfl⟩
      have hbv : Below wr.heap.size wr V := by rw [hV]; exact BelowKit.bl_alloc (Below.refl wr.heap.size wr)
      have N0 := Lib.hid (show V.cell? ⟨wr.heap.size, 0, none⟩ = some (.int .i64 x0) by rw [hV]; simp [go_sem])
      have N1 := Lib.hid (show V.cell? ⟨wr.heap.size, 1, none⟩ = some (.int .i64 x1) by rw [hV]; simp [go_sem])
      have N2 := Lib.hid (show V.cell? ⟨wr.heap.size, 2, none⟩ = some (.int .i64 x2) by rw [hV]; simp [go_sem])
      have N3 := Lib.hid (show V.cell? ⟨wr.heap.size, 3, none⟩ = some (.int .i64 x3) by rw [hV]; simp [go_sem])
      have N4 := Lib.hid (show V.cell? ⟨wr.heap.size, 4, none⟩ = some (.int .i64 x4) by rw [hV]; simp [go_sem])
      have N5 := Lib.hid (show V.cell? ⟨wr.heap.size, 5, none⟩ = some (.int .i64 x5) by rw [hV]; simp [go_sem])
      have N6 := Lib.hid (show V.cell? ⟨wr.heap.size, 6, none⟩ = some (.slice xp xn xc) by rw [hV]; simp [go_sem])
      have N7 := Lib.hid (show V.cell? ⟨w.heap.size, 0, none⟩ = some (.slice (some ⟨g, o, none⟩) m cap) from ((BelowKit.bcell hbv).1 _ _ hz).trans hc)
      have HWS := Lib.hid (show wr.heap.size < V.heap.size by rw [hV]; simp)
      have HWZ := Lib.hid (show w.heap.size < V.heap.size by rw [hV]; simp; omega)
      have HIV := Lib.hid (HI.out.on hbv)
      have HKV := Lib.hid (HK2.out.out.on hbv)
      rw [← hV] at HBA
      have HXE : Hid (xs.map (·.r) = rs) := HX
      clear HP hx hxr hjx
      obtain ⟨rb, hrb⟩ : ∃ b, ruleB ⟨x0, x1, x2, x3, x4, x5, xl⟩ = b := ⟨_, rfl⟩
      have HRB := Lib.hid hrb
      obtain ⟨fb, hfb⟩ : ∃ b, freeTo rs ⟨x0, x1, x2, x3, x4, x5, xl⟩ j = b := ⟨_, rfl⟩
      have HFB := Lib.hid (show freeTo (xs.map (·.r)) ⟨x0, x1, x2, x3, x4, x5, xl⟩ j = fb by rw [HXE.out]; exact hfb)
      go_wp2_with fail
      rw [← hV]
      clear q0 q1 q2 q3 q4 q5 q6 hc hbv HI HK2
      have g0 := Grown.G.keep N0.out HWS.out
      have g1 := Grown.G.keep N1.out HWS.out
      have g2 := Grown.G.keep N2.out HWS.out
      have g3 := Grown.G.keep N3.out HWS.out
      have g4 := Grown.G.keep N4.out HWS.out
      have g5 := Grown.G.keep N5.out HWS.out
      have g6 := Grown.G.keep N6.out HWS.out
      have g7 := Grown.G.keep N7.out HWZ.out
      clear hV
      refine Grown.wp_region_grown (by kernel_rfl) (by kernel_rfl) ?_
      cases rb with
      | false =>
        have E := Lib.hid (HX1.out hrb)
        clear HX1 HX2 HY hrb hfb
        repeat (go_big_quiet_step ((go_at_call 31; with_reducible exact rule_g x0 x1 x2 x3 x4 x5 xp xn xc xl HXN.out false _ HL.out HIV.out HRB.out)))
        refine wpQuiet_nil ?_
        rintro w4 ⟨X, rfl⟩
        clear g0 g1 g2 g3 g4 g5 g6 g7
        go_wp2
        go_ret
        rw [E.out]
        exact ⟨rfl, box_below (BelowKit.bl_trans HBA.out X.bel)⟩
      | true =>
        have HXF : Hid (fb = false → R = false) := Lib.hid (fun e => HX2.out (hfb.trans e))
        have HYF : Hid (fb = true → OkTo rs (j + 1)) := Lib.hid (fun e => HY.out hrb (hfb.trans e))
        have HXS := Lib.hid (show j ≤ xs.length by rw [HXL.out]; exact hj)
        have HS20 := Lib.hid (show j ≤ 1048576 by have := HM2.out; omega)
        clear HX1 HX2 HY hrb hfb
        repeat (go_big_quiet_step (first
          | (go_at_call 31; with_reducible exact rule_g x0 x1 x2 x3 x4 x5 xp xn xc xl HXN.out true _ HL.out HIV.out HRB.out)
          | (go_at_call 55; with_reducible exact has_g (some ⟨g, o, none⟩) j cap xs x0 x1 x2 x3 x4 x5 xp xn xc xl HXN.out fb _ HXS.out HS20.out HKV.out HFB.out)))
        refine wpQuiet_nil ?_
        rintro w4 ⟨X, rfl⟩
        clear g0 g1 g2 g3 g4 g5 g6 g7
        cases fb with
        | false =>
          have E := Lib.hid (HXF.out rfl)
          go_wp2
          go_ret
          rw [E.out]
          exact ⟨rfl, box_below (BelowKit.bl_trans HBA.out X.bel)⟩
        | true =>
          have E := Lib.hid (HYF.out rfl)
          go_wp2
          go_roundw
          case rel => exact ⟨j + 1, by omega, by go_num, E, Lib.hid (BelowKit.bl_trans HBA.out X.bel)⟩
          case measure => simp [intOf]; omega
    · obtain rfl : j = m := by omega
      have E := Lib.hid (show R = true by
        have h1 := HP.out
        have h2 := HM2.out
        rw [← HM.out] at h1 h2
        rw [← HR.out]
        exact bookB_yes (book_of h1 h2))
      go_wp2
      go_ret
      rw [E.out]
      exact ⟨rfl, box_below HB.out⟩
end Go.Proofs.Ytkfgflmhefbinaa.BookI

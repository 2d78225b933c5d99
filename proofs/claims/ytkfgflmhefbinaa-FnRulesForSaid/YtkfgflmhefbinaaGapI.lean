/- Contracts of the program's GapsIn, IsProtected and Figure. Written by gen_gaps.py. -/
import Derived.Test.YtkfgflmhefbinaaRows
import Derived.Test.YtkfgflmhefbinaaRuleP
import Derived.Test.YtkfgflmhefbinaaEvalI
import Derived.Test.YtkfgflmhefbinaaRoundC
import Derived.Test.YtkfgflmhefbinaaRuleC
import Derived.Test.YtkfgflmhefbinaaTInt
import Derived.Test.YtkfgflmhefbinaaMon
import Derived.Test.YtkfgflmhefbinaaKit
namespace Go.Proofs.Ytkfgflmhefbinaa.GapI
open Go.RowKit RowN TRule BookMath BookLaws Mon Box TBook
theorem new1 (w : World) (x : Int) (g : Nat) (hg : w.heap.size = g) : ∀ j u, ([x].flatMap TInt.fc)[j]? = some u →
    (w.alloc (.cells #[.int .i64 x] 3)).cell? ((⟨g, 0, none⟩ : Addr).add j) = some u := by
  subst hg
  exact news_block (T := 3) (heap_alloc_new w _)
theorem gaps_yes {rs : List Ru} {nm jo f t : Int} (h1 : bookB rs = true) (h2 : inB f 0 3600 = true) (h3 : inB t 0 3600 = true) : gaps rs nm jo f t = gapsTo rs nm jo f (t - f).toNat := if_pos ⟨h1, h2, h3⟩
theorem gaps_no1 {rs : List Ru} {nm jo f t : Int} (h : bookB rs = false) : gaps rs nm jo f t = [] := if_neg (fun e => by rw [h] at e; cases e.1)
theorem gaps_no2 {rs : List Ru} {nm jo f t : Int} (h : inB f 0 3600 = false) : gaps rs nm jo f t = [] := if_neg (fun e => by rw [h] at e; cases e.2.1)
theorem gaps_no3 {rs : List Ru} {nm jo f t : Int} (h : inB t 0 3600 = false) : gaps rs nm jo f t = [] := if_neg (fun e => by rw [h] at e; cases e.2.2)
set_option maxHeartbeats 8000000 in
theorem gaps_i (w : World) (a : Option Addr) (m cap : Nat) (rs : List Ru) (nm jo f t : Int) (hm : rs.length = m) (hcap : m ≤ cap) (hs : m ≤ 1048576) (hn : Few rs) (h : RdD w a rs) :
    Calls Try.prog 19 #[.agg #[.slice a m cap], .int .i64 nm, .int .i64 jo, .int .i64 f, .int .i64 t] w (TInt.IsRow (gaps rs nm jo f t) w) := by
  have KK := Lib.hid h
  have HM := Lib.hid hm
  have HN := Lib.hid hn
  have HCAP := Lib.hid hcap
  have HO0 : Hid (Owns TInt.fc 1 (boxed w (.slice a m cap) 26) (w.heap.size + 1) 3 (.slice none 0 0) []) := Lib.hid Owns.nil _ _ _
  have HBW : Hid (Below (boxed w (.slice a m cap) 26).heap.size (boxed w (.slice a m cap) 26) (boxed w (.slice a m cap) 26)) := Lib.hid (by (repeat (first | exact Below.refl _ _ | apply BelowKit.bl_alloc | apply BelowKit.bl_drewN | apply BelowKit.bl_drew | (refine BelowKit.bl_set ?_ _ ?_; rotate_left; (first | omega | (simp; omega) | simp)) | (refine BelowKit.bl_trans ?_ (‹Hid (Below _ _ _)›).out))))
  obtain ⟨b, hb⟩ : ∃ b, bookB rs = b := ⟨_, rfl⟩
  have HBK := Lib.hid hb
  obtain ⟨b2, hb2⟩ : ∃ b, inB f 0 3600 = b := ⟨_, rfl⟩
  have HB2 := Lib.hid hb2
  obtain ⟨b3, hb3⟩ : ∃ b, inB t 0 3600 = b := ⟨_, rfl⟩
  have HB3 := Lib.hid hb3
  clear h hm hn hb hb2 hb3 hcap
  go_enter Try.func19, Try.ntmps19
  go_wp2_with fail
  refine (BookI.book_i _ a m cap rs HM.out HCAP.out (by omega) HN.out (KK.out.on (box_below HBW.out))).mono ?_
  rintro e w1 ⟨rfl, hb⟩
  rw [HBK.out]
  have HBX := Lib.hid (BelowKit.bl_trans HBW.out hb)
  have hcb := box_cell HBX.out
  have hzb := box_size HBX.out
  have HB1 := Lib.hid (box_below HBX.out)
  have HO1 := Lib.hid (HO0.out.on hb)
  clear hb HO0 HBW
  cases b with
  | false =>
    have E := Lib.hid (gaps_no1 (rs := rs) (nm := nm) (jo := jo) (f := f) (t := t) HBK.out)
    go_wp2
    go_ret
    rw [E.out]
    exact ⟨none, 0, rfl, Owns.nil _ _ _, HB1.out⟩
  | true =>
  go_wp2_with fail
  refine (Mon.end_i _ _).mono ?_
  rintro e w' ⟨rfl, rfl⟩
  rw [HB2.out]
  cases b2 with
  | false =>
    have E := Lib.hid (gaps_no2 (rs := rs) (nm := nm) (jo := jo) (f := f) (t := t) HB2.out)
    go_wp2
    go_ret
    rw [E.out]
    exact ⟨none, 0, rfl, Owns.nil _ _ _, HB1.out⟩
  | true =>
  go_wp2_with fail
  refine (Mon.end_i _ _).mono ?_
  rintro e w' ⟨rfl, rfl⟩
  rw [HB3.out]
  cases b3 with
  | false =>
    have E := Lib.hid (gaps_no3 (rs := rs) (nm := nm) (jo := jo) (f := f) (t := t) HB3.out)
    go_wp2
    go_ret
    rw [E.out]
    exact ⟨none, 0, rfl, Owns.nil _ _ _, HB1.out⟩
  | true =>
  have HG := Lib.hid (gaps_yes (nm := nm) (jo := jo) HBK.out HB2.out HB3.out)
  have hf := inB_of HB2.out
  have ht := inB_of HB3.out
  obtain ⟨N, hN⟩ : ∃ N, (t - f).toNat = N := ⟨_, rfl⟩
  rw [hN] at HG
  have HNN := Lib.hid hN
  clear hN
  go_wp2
  go_loopw [11, 12] (fun v i wr => ∃ (k : Nat) (y : Int), i = .int .i64 y ∧ (0 ≤ y ∧ y ≤ 3600) ∧ Hid (y = f + (k : Int) ∧ k ≤ N) ∧ Hid (Owns TInt.fc 1 wr (w.heap.size + 1) 3 v (gapsTo rs nm jo f k)) ∧ Hid (Below (boxed w (.slice a m cap) 26).heap.size (boxed w (.slice a m cap) 26) wr)) (fun _ i _ => (t - intOf i).toNat)
  case atStart => exact ⟨0, f, rfl, hf, Lib.hid ⟨by omega, Nat.zero_le _⟩, HO1, HBX⟩
  case round =>
    obtain ⟨k, y, rfl, hy, HK, HO, HB⟩ := hrel
    have hc := box_cell HB.out
    have hz := box_size HB.out
    by_cases hlt : y < t
    · have HKN := Lib.hid (show k + 1 ≤ N by have := HK.out; have := HNN.out; omega)
      have HS := Lib.hid (gapsTo_succ rs nm jo f k)
      have hyf := HK.out.1
      rw [← hyf] at HS
      have HYF := Lib.hid hyf
      have HLen := Lib.hid (Nat.le_trans (gapsTo_len rs nm jo f k) (show k ≤ 3600 by have := HK.out; have := HNN.out; omega))
      generalize gapsTo rs nm jo f k = l at HO HS HLen
      clear hyf HK
      go_wp2_with fail
      refine (BestI.for_i _ a m cap rs nm y jo HM.out hs (KK.out.on (box_below HB.out))).mono ?_
      rintro e w2 ⟨rfl, hb⟩
      have HQ := Lib.hid (BelowKit.bl_trans HB.out hb)
      have HO2 := Lib.hid (HO.out.on hb)
      have hc := box_cell HQ.out
      have hz := box_size HQ.out
      clear hb HO
      obtain ⟨r, hr⟩ : ∃ r, forB rs nm y jo = r := ⟨_, rfl⟩
      rw [hr] at HS ⊢
      clear hr
      by_cases hneg : r < 0
      · have HS2 := HS.out
        rw [if_pos hneg] at HS2
        have HS3 := Lib.hid HS2
        have dn : decide (r < 0) = true := decide_eq_true hneg
        clear HS HS2
        go_wp2_with (at_builtin; refine wpList_appendN TInt.ft TInt.fw _ (o := ⟨some 41, _, _, _, _, _⟩) rfl (.tmp 38) (.tmp 40) rfl (w.heap.size + 1) _ l rfl (HO2.out.alloc _) ⟨w2.heap.size, 0, none⟩ 1 1 [y] rfl rfl (new1 _ y _ rfl) ?_ ?_ ?_; (have := HLen.out; simp; omega); (simp; omega); intro v' w' hown' hg' _; have HQ' := Lib.hid ((BelowKit.bl_alloc (o := .cells #[.int .i64 y] 3) HQ.out).grown hg' (by simp; omega) (fun k hk => by have := HO2.out.low k hk; simp; omega)); have HO' := Lib.hid hown'; clear hown' hg')
        go_roundw
        case rel => exact ⟨k + 1, y + 1, by go_num, by omega, Lib.hid ⟨by have := HYF.out; omega, HKN.out⟩, by rw [HS3.out]; exact HO', HQ'⟩
        case measure => simp [intOf]; omega
      · have HS2 := HS.out
        rw [if_neg hneg, List.append_nil] at HS2
        have HS3 := Lib.hid HS2
        have dn : decide (r < 0) = false := decide_eq_false hneg
        clear HS HS2
        go_wp2
        go_roundw
        case rel => exact ⟨k + 1, y + 1, by go_num, by omega, Lib.hid ⟨by have := HYF.out; omega, HKN.out⟩, by rw [HS3.out]; exact HO2, HQ⟩
        case measure => simp [intOf]; omega
    · have hk := show k = N by have := HK.out; have := HNN.out; omega
      have hO := HO.out
      rw [hk, ← HG.out] at hO
      obtain ⟨a', c', rfl, _⟩ := hO.form TInt.fw
      have HO2 := Lib.hid hO
      clear hO HO hk
      go_wp2
      go_ret
      exact ⟨a', c', rfl, HO2.out.base (by omega), box_below HB.out⟩
set_option maxHeartbeats 4000000 in
theorem prot_i (w : World) (a : Option Addr) (m cap : Nat) (rs : List Ru) (nm mo jo : Int) (hm : rs.length = m) (hcap : m ≤ cap) (hs : m ≤ 1048576) (hn : Few rs) (h : RdD w a rs) :
    Calls Try.prog 20 #[.agg #[.slice a m cap], .int .i64 nm, .int .i64 mo, .int .i64 jo] w (IsBo (prot rs nm mo jo) w) := by
  have KK := Lib.hid h
  have HM := Lib.hid hm
  have HN := Lib.hid hn
  have HCAP := Lib.hid hcap
  obtain ⟨i, hi⟩ : ∃ i, ruleFor rs nm mo jo = i := ⟨_, rfl⟩
  have HI := Lib.hid hi
  obtain ⟨k, hk⟩ : ∃ k, ruleFor rs nm mo 3599 = k := ⟨_, rfl⟩
  have HK := Lib.hid hk
  obtain ⟨R, hR⟩ : ∃ R, prot rs nm mo jo = R := ⟨_, rfl⟩
  have HR := Lib.hid hR
  rw [hR]
  clear h hm hn hi hk hR hcap
  go_enter Try.func20, Try.ntmps20
  go_wp2_with fail
  refine (BestI.ruleFor_i _ a m cap rs nm mo jo HM.out HCAP.out hs HN.out (KK.out.on (by (repeat (first | exact Below.refl _ _ | apply BelowKit.bl_alloc | apply BelowKit.bl_drewN | apply BelowKit.bl_drew | (refine BelowKit.bl_set ?_ _ ?_; rotate_left; (first | omega | (simp; omega) | simp)) | (refine BelowKit.bl_trans ?_ (‹Hid (Below _ _ _)›).out)))))).mono ?_
  rintro e w1 ⟨rfl, hb⟩
  rw [HI.out]
  have hcb : w1.cell? ⟨w.heap.size, 0, none⟩ = some (.slice a m cap) := ((BelowKit.bcell hb).1 _ _ (by simp)).trans (by simp [go_sem])
  have HB1 := Lib.hid (show Below w.heap.size w w1 from BelowKit.bl_trans (by (repeat (first | exact Below.refl _ _ | apply BelowKit.bl_alloc | apply BelowKit.bl_drewN | apply BelowKit.bl_drew | (refine BelowKit.bl_set ?_ _ ?_; rotate_left; (first | omega | (simp; omega) | simp)) | (refine BelowKit.bl_trans ?_ (‹Hid (Below _ _ _)›).out)))) hb)
  clear hb
  by_cases h0 : i < 0
  · have E := Lib.hid (show R = false by rw [← HR.out]; exact prot_neg (by rw [HI.out]; exact h0))
    have d1 : decide (0 ≤ i) = false := decide_eq_false (by omega)
    clear HR
    go_wp2
    go_ret
    rw [E.out]
    exact ⟨rfl, HB1.out⟩
  · have h1 : 0 ≤ i := by omega
    have E := Lib.hid (show R = (i != k) by rw [← HR.out]; exact prot_pos HI.out HK.out h1)
    have d1 : decide (0 ≤ i) = true := decide_eq_true h1
    clear HR
    go_wp2_with fail
    refine (BestI.ruleFor_i _ a m cap rs nm mo 3599 HM.out HCAP.out hs HN.out (KK.out.on HB1.out)).mono ?_
    rintro e w2 ⟨rfl, hb⟩
    rw [HK.out]
    have HB2 := Lib.hid (BelowKit.bl_trans HB1.out hb)
    clear hb
    go_wp2
    go_ret
    rw [E.out]
    exact ⟨rfl, HB2.out⟩
def IsFig (r : Int × Int × Bool) (w : World) (e : Ending) (w' : World) : Prop := e = .returned (.tuple #[.int .i64 r.1, .int .i64 r.2.1, .bool r.2.2]) ∧ Below w.heap.size w w'
theorem round_g (n d mo : Int) {w0 : World} (X : Grown.G w0) {r : Int × Bool} (h : RoundF.rndR n d mo = r) :
    Calls Try.prog 60 #[.agg #[.int .i64 n, .int .i64 d], .int .i64 mo] X.w (fun e w'' => e = .returned (.tuple #[.int .i64 r.1, .bool r.2]) ∧ ∃ Y : Grown.G w0, w'' = Y.w) := by
  subst h
  exact Grown.grown_of (RoundF.round_i n d mo X.w)
set_option maxHeartbeats 8000000 in
theorem fig_i (w : World) (a : Option Addr) (m cap : Nat) (rs : List Ru) (nm mo jo : Int) (q : Option Addr) (m8 cap8 : Nat) (vs : List TFrac.El) (hm : rs.length = m) (hcap : m ≤ cap) (hs : m ≤ 1048576) (hn : ∀ j (h : j < rs.length), rs[j].Nodes.length ≤ 1048576) (h : RdD w a rs) (hm8 : vs.length = m8) (hs8 : m8 ≤ 1048576) (h8 : Reads TFrac.fc 2 w q vs) :
    Calls Try.prog 23 #[.agg #[.slice a m cap], .int .i64 nm, .int .i64 mo, .int .i64 jo, .slice q m8 cap8] w (IsFig (fig rs nm mo jo vs) w) := by
  have KK := Lib.hid h
  have K8 := Lib.hid h8
  have HM := Lib.hid hm
  have HM8 := Lib.hid hm8
  have HN := Lib.hid hn
  have HF := Lib.hid (show Few rs from fun j h => by have := hn j h; omega)
  have HCAP := Lib.hid hcap
  have HRI := Lib.hid (ruleFor_is rs nm mo jo)
  obtain ⟨i, hi⟩ : ∃ i, ruleFor rs nm mo jo = i := ⟨_, rfl⟩
  have HI := Lib.hid hi
  have HR : Hid (fig rs nm mo jo vs = figAt rs i vs) := Lib.hid (by unfold fig; rw [hi])
  rw [HR.out]
  clear h h8 hm hm8 hn hi HR hcap
  go_enter Try.func23, Try.ntmps23
  go_wp2_with fail
  refine (BestI.ruleFor_i _ a m cap rs nm mo jo HM.out HCAP.out hs HF.out (KK.out.on (by (repeat (first | exact Below.refl _ _ | apply BelowKit.bl_alloc | apply BelowKit.bl_drewN | apply BelowKit.bl_drew | (refine BelowKit.bl_set ?_ _ ?_; rotate_left; (first | omega | (simp; omega) | simp)) | (refine BelowKit.bl_trans ?_ (‹Hid (Below _ _ _)›).out)))))).mono ?_
  rintro e w1 ⟨rfl, hb⟩
  rw [HI.out]
  have hcb : w1.cell? ⟨w.heap.size, 0, none⟩ = some (.slice a m cap) := ((BelowKit.bcell hb).1 _ _ (by simp)).trans (by simp [go_sem])
  have hzb : w.heap.size < w1.heap.size := by have := hb.size; simp at this; omega
  have HB1 := Lib.hid (show Below w.heap.size w w1 from BelowKit.bl_trans (by (repeat (first | exact Below.refl _ _ | apply BelowKit.bl_alloc | apply BelowKit.bl_drewN | apply BelowKit.bl_drew | (refine BelowKit.bl_set ?_ _ ?_; rotate_left; (first | omega | (simp; omega) | simp)) | (refine BelowKit.bl_trans ?_ (‹Hid (Below _ _ _)›).out)))) hb)
  clear hb
  rcases HRI.out with h1 | ⟨j, hj, h1, _⟩
  · rw [HI.out] at h1
    subst h1
    have E := Lib.hid (figAt_neg (rs := rs) (i := -1) (vs := vs) (by omega))
    go_wp2
    refine bodyPost_ret (v := .tuple #[.int .i64 0, .int .i64 0, .bool false]) (by simp [results, Try.results23, go_sem]) rfl ⟨by rw [E.out], HB1.out⟩
  · rw [HI.out] at h1
    subst h1
    obtain ⟨xs, ex, h0⟩ := KK.out.on HB1.out
    have HXL : xs.length = m := by have := HM.out; rw [← ex, List.length_map] at this; exact this
    have hjm : j < m := by rw [← HM.out]; exact hj
    have hjx : j < xs.length := by rw [HXL]; exact hjm
    have hxr : xs[j].r = rs[j]'hj := by subst ex; simp
    obtain ⟨g, o, rfl, hgl, q0, q1, q2, q3, q4, q5, q6⟩ := read h0.out j hjx
    have hinn := h0.inn j hjx
    rw [hxr] at q5 q6 hinn
    have HLN := Lib.hid (HN.out j hj)
    have HE1 := Lib.hid (figAt_yes (vs := vs) hj)
    have HE2 := Lib.hid (figAt_no (vs := vs) hj)
    generalize (rs[j]'hj) = r at q5 q6 hinn HLN HE1 HE2
    obtain ⟨y0, y1, y2, y3, y4, y5, yl⟩ := r
    simp only [] at q5 q6 hinn HLN HE1 HE2
    have HIN := Lib.hid hinn
    obtain ⟨yn, hyn⟩ : ∃ n, yl.length = n := ⟨_, rfl⟩
    have HYN := Lib.hid hyn
    rw [hyn] at q6 HLN
    generalize xs[j].p = yp at q6 HIN
    generalize xs[j].c = yc at q6
    obtain ⟨ev, hev⟩ : ∃ e, NodeMath.evalL yl vs = e := ⟨_, rfl⟩
    have HEV := Lib.hid hev
    rw [hev] at HE1 HE2
    obtain ⟨u, v, ok⟩ := ev
    simp only [] at HE1 HE2
    have b1 : (0 : Int) ≤ (j : Int) := by omega
    have b2 : (j : Int) < (m : Int) := by omega
    have dj : decide ((j : Int) < 0) = false := decide_eq_false (by omega)
    clear h0 hinn hyn hev q0 q1 q2 q3 q4 hxr HRI ex hjx HXL
    have HQ5 := Lib.hid q5
    clear q5
    go_wp2_with fail
    refine (EvalI.last_i _ yp yn yc yl q m8 cap8 vs HYN.out HLN.out HIN.out HM8.out hs8 (K8.out.on HB1.out)).mono ?_
    rintro e w2 ⟨rfl, hb⟩
    rw [HEV.out]
    have hc2 := ((BelowKit.bcell hb).1 _ _ hzb).trans hcb
    have q5 := ((BelowKit.bcell hb).1 _ _ hgl).trans HQ5.out
    have hz2 : w.heap.size < w2.heap.size := Nat.lt_of_lt_of_le hzb hb.size
    have hg2 : g < w2.heap.size := Nat.lt_of_lt_of_le hgl hb.size
    have HB2 := Lib.hid (BelowKit.bl_trans HB1.out hb)
    clear hb hcb hzb hgl q6 HIN HQ5
    cases ok with
    | false =>
      have E := Lib.hid (HE2.out rfl)
      clear HE1 HE2
      go_wp2
      refine bodyPost_ret (v := .tuple #[.int .i64 0, .int .i64 0, .bool false]) (by simp [results, Try.results23, go_sem]) rfl ⟨by rw [E.out], by (repeat (first | exact Below.refl _ _ | apply BelowKit.bl_alloc | apply BelowKit.bl_drewN | apply BelowKit.bl_drew | (refine BelowKit.bl_set ?_ _ ?_; rotate_left; (first | omega | (simp; omega) | simp)) | (refine BelowKit.bl_trans ?_ (‹Hid (Below _ _ _)›).out)))⟩
    | true =>
      have E := Lib.hid (HE1.out rfl)
      clear HE1 HE2
      obtain ⟨rr, hrr⟩ : ∃ r, RoundF.rndR u v y5 = r := ⟨_, rfl⟩
      have HRR := Lib.hid hrr
      rw [hrr] at E
      obtain ⟨rn, rb⟩ := rr
      clear hrr
      obtain ⟨V, hV⟩ : ∃ V, V = w2.alloc (.cells #[.int .i64 u, .int .i64 v] 44) := ⟨_, rfl⟩
      have hbv : Below w2.heap.size w2 V := by rw [hV]; exact BelowKit.bl_alloc (Below.refl w2.heap.size w2)
      have n0 : V.cell? ⟨w2.heap.size, 0, none⟩ = some (.int .i64 u) := by rw [hV]; simp [go_sem]
      have n1 : V.cell? ⟨w2.heap.size, 1, none⟩ = some (.int .i64 v) := by rw [hV]; simp [go_sem]
      have n2 := ((BelowKit.bcell hbv).1 _ _ hz2).trans hc2
      have n3 := ((BelowKit.bcell hbv).1 _ _ hg2).trans q5
      have z0 : w2.heap.size < V.heap.size := by rw [hV]; simp
      have z1 : w.heap.size < V.heap.size := Nat.lt_of_lt_of_le hz2 hbv.size
      have z2 : g < V.heap.size := Nat.lt_of_lt_of_le hg2 hbv.size
      have HBV := Lib.hid (BelowKit.bl_trans HB2.out hbv)
      go_wp2_with fail
      rw [← hV]
      have g0 := Grown.G.keep n0 z0
      have g1 := Grown.G.keep n1 z0
      have g2 := Grown.G.keep n2 z1
      have g3 := Grown.G.keep n3 z2
      clear hV n0 n1 n2 n3 q5 hc2 hbv
      refine Grown.wp_region_grown (by kernel_rfl) (by kernel_rfl) ?_
      repeat (go_big_quiet_step ((go_at_call 60; with_reducible exact round_g u v y5 _ HRR.out)))
      refine wpQuiet_nil ?_
      rintro w4 ⟨X, rfl⟩
      clear g0 g1 g2 g3
      go_wp2
      refine bodyPost_ret (v := .tuple #[.int .i64 rn, .int .i64 (j : Int), .bool true]) (by simp [results, Try.results23, go_sem]) rfl ⟨by rw [E.out], BelowKit.bl_trans HBV.out X.bel⟩
end Go.Proofs.Ytkfgflmhefbinaa.GapI

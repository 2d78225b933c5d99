/- Contracts of the program's functions on spells. -/
import Derived.Test.YtkoeodmneedjcaaRows
import Derived.Test.YtkoeodmneedjcaaSpellMath
import Derived.Test.YtkoeodmneedjcaaSpClI
import Derived.Test.YtkoeodmneedjcaaSpellLaws
import Derived.Test.YtkoeodmneedjcaaKit
import Derived.Deep.RegionHeld3
namespace Go.Proofs.Ytkoeodmneedjcaa.SpellI
open Go.RowKit RowN TSpell SpellMath SpellLaws Mon Box SpClI
def IsInt (n : Int) (w : World) (e : Ending) (w' : World) : Prop := e = .returned (.int .i64 n) ∧ Below w.heap.size w w'
theorem com_s' (a b c d v : Int) (w : World) (h : common a b c d = v) : Calls Try.prog 36 #[.int .i64 a, .int .i64 b, .int .i64 c, .int .i64 d] w (fun e w' => e = .returned (.int .i64 v) ∧ w = w') := h ▸ common_i a b c d w
set_option maxHeartbeats 8000000 in
theorem ok_i (w : World) (p : Option Addr) (m cap : Nat) (l : List El) (hm : l.length = m) (hs : m ≤ 1099511627776) (h : Reads fc 4 w p l) :
    Calls Try.prog 16 #[.slice p m cap] w (IsBo (okB l) w) := by
  have KK := Lib.hid h
  have HM := Lib.hid hm
  obtain ⟨R, hR⟩ : ∃ R, okB l = R := ⟨_, rfl⟩
  have HR := Lib.hid hR
  rw [hR]
  by_cases hbig : 30 < m
  · have E := Lib.hid (show R = false from hR.symm.trans (okB_len (by omega)))
    have d0 : decide ((30 : Int) < (m : Int)) = true := decide_eq_true (by omega)
    clear h hm hR HR
    go_enter Try.func16, Try.ntmps16
    go_wp2
    go_ret
    rw [E.out]
    exact ⟨rfl, by (repeat (first | exact Below.refl _ _ | apply BelowKit.bl_alloc | apply BelowKit.bl_drewN | apply BelowKit.bl_drew | (refine BelowKit.bl_set ?_ _ ?_; rotate_left; (first | omega | (simp; omega) | simp)) | (refine BelowKit.bl_trans ?_ (‹Hid (Below _ _ _)›).out)))⟩
  have d0 : decide ((30 : Int) < (m : Int)) = false := decide_eq_false (by omega)
  have HM2 := Lib.hid (show m ≤ 30 by omega)
  clear h hm hR hbig
  go_enter Try.func16, Try.ntmps16
  go_wp2
  go_loopw [10] (fun i wr => ∃ j : Nat, j ≤ m ∧ i = .int .i64 (j : Int) ∧ Hid (OkTo l j) ∧ Hid (Below w.heap.size w wr)) (fun i _ => m - (intOf i).toNat)
  case atStart => exact ⟨0, Nat.zero_le _, rfl, Lib.hid (OkTo.zero l), Lib.hid (Below.refl _ _)⟩
  case round =>
    obtain ⟨j, hj, rfl, HP, HB⟩ := hrel
    by_cases hlt : j < m
    · have HLT := Lib.hid (show j < l.length by rw [HM.out]; exact hlt)
      obtain ⟨g, o, rfl, hgl, q0, q1, q2, q3⟩ := read (KK.out.on HB.out) j HLT.out
      have HX : Hid (okPB (l[j]'HLT.out) = false → R = false) := Lib.hid (fun e => HR.out.symm.trans (okB_each HLT.out (okPB_no e)))
      have HY : Hid (∀ i (hi : j = i + 1), (l[j]'HLT.out).From < (l[i]'(by have := HLT.out; omega)).To → R = false) := Lib.hid (fun i hi e => HR.out.symm.trans (by
        subst hi
        exact okB_next HLT.out (by omega)))
      have HZ : Hid (okPB (l[j]'HLT.out) = true → (∀ i (hi : j = i + 1), ¬ (l[j]'HLT.out).From < (l[i]'(by have := HLT.out; omega)).To) → OkTo l (j + 1)) := Lib.hid (fun e1 e2 => HP.out.succ HLT.out (okPB_of e1) (fun i hi _ => by have := e2 i hi; omega))
      have b1 : (0 : Int) ≤ (j : Int) := by omega
      have b2 : (j : Int) < (m : Int) := by omega
      generalize (l[j]'HLT.out) = x at q0 q1 q2 q3 HX HY HZ
      obtain ⟨f, t, c, v⟩ := x
      simp only [] at q0 q1 q2 q3 HX HY HZ
      have HBA := Lib.hid (BelowKit.bl_alloc (o := .cells #[.int .i64 f, .int .i64 t, .int .i64 c, .bool v] 34) HB.out)
      have hbase := BelowKit.bcell (BelowKit.bl_alloc (o := .cells #[.int .i64 f, .int .i64 t, .int .i64 c, .bool v] 34) (Below.refl wr.heap.size wr))
      have HBS := Lib.hid hbase.1
      have N0 := Lib.hid (show (wr.alloc (.cells #[.int .i64 f, .int .i64 t, .int .i64 c, .bool v] 34)).cell? ⟨wr.heap.size, 0, none⟩ = some (.int .i64 f) by simp [go_sem])
      have N1 := Lib.hid (show (wr.alloc (.cells #[.int .i64 f, .int .i64 t, .int .i64 c, .bool v] 34)).cell? ⟨wr.heap.size, 1, none⟩ = some (.int .i64 t) by simp [go_sem])
      have N2 := Lib.hid (show (wr.alloc (.cells #[.int .i64 f, .int .i64 t, .int .i64 c, .bool v] 34)).cell? ⟨wr.heap.size, 2, none⟩ = some (.int .i64 c) by simp [go_sem])
      have N3 := Lib.hid (show (wr.alloc (.cells #[.int .i64 f, .int .i64 t, .int .i64 c, .bool v] 34)).cell? ⟨wr.heap.size, 3, none⟩ = some (.bool v) by simp [go_sem])
      have HWS := Lib.hid (show wr.heap.size < (wr.alloc (.cells #[.int .i64 f, .int .i64 t, .int .i64 c, .bool v] 34)).heap.size by simp)
      clear hbase HP
      have HQ := Lib.hid (fun W => neq f t c (clF f) (clT f t) (clC c) v v W)
      rw [same_cl] at HQ
      obtain ⟨b, hb⟩ : ∃ b, okPB ⟨f, t, c, v⟩ = b := ⟨_, rfl⟩
      rw [hb] at HQ
      cases b with
      | false =>
        have E := Lib.hid (HX.out hb)
        clear HX HY HZ hb
        go_wp2_with fail
        clear q0 q1 q2 q3
        have hq := HQ.out
        simp only [Bool.not_false] at hq
        have g0 := Grown.G.keep N0.out HWS.out
        have g1 := Grown.G.keep N1.out HWS.out
        have g2 := Grown.G.keep N2.out HWS.out
        have g3 := Grown.G.keep N3.out HWS.out
        refine Grown.wp_region_grown (by kernel_rfl) (by kernel_rfl) ?_
        repeat (go_big_quiet_step ((go_at_call 37; with_reducible exact clp_g f t c v _)))
        refine wpQuiet_nil ?_
        rintro w4 ⟨X, rfl⟩
        clear g0 g1 g2 g3 hq
        go_wp2
        go_ret
        rw [E.out]
        exact ⟨rfl, BelowKit.bl_trans HBA.out X.bel⟩
      | true =>
      have HZ := Lib.hid (HZ.out hb)
      clear HX hb
      by_cases hz0 : j = 0
      case pos =>
        have E := Lib.hid (HZ.out (fun i hi => by omega))
        have d1 : decide ((0 : Int) < (j : Int)) = false := decide_eq_false (by omega)
        have d1' : decide (0 < j) = false := decide_eq_false (by omega)
        clear hz0 HY HZ
        go_wp2_with fail
        clear q0 q1 q2 q3
        have hq := HQ.out
        simp only [Bool.not_true] at hq
        have g0 := Grown.G.keep N0.out HWS.out
        have g1 := Grown.G.keep N1.out HWS.out
        have g2 := Grown.G.keep N2.out HWS.out
        have g3 := Grown.G.keep N3.out HWS.out
        refine Grown.wp_region_grown (by kernel_rfl) (by kernel_rfl) ?_
        repeat (go_big_quiet_step ((go_at_call 37; with_reducible exact clp_g f t c v _)))
        refine wpQuiet_nil ?_
        rintro w4 ⟨X, rfl⟩
        clear g0 g1 g2 g3 hq
        go_wp2
        go_roundw
        case rel => exact ⟨j + 1, by omega, by go_num, E, Lib.hid (BelowKit.bl_trans HBA.out X.bel)⟩
        case measure => simp [intOf]; omega
      case neg =>
      obtain ⟨i, hi⟩ : ∃ i, j = i + 1 := ⟨j - 1, by omega⟩
      obtain ⟨g', o', e', y1, y0, r1, y2, y3⟩ := read (KK.out.on HB.out) i (by rw [HM.out]; omega)
      clear y0 y1 y2 y3
      cases e'
      have HY := Lib.hid (HY.out i hi)
      have HZ : Hid (¬ f < (l[i]'(by rw [HM.out]; omega)).To → OkTo l (j + 1)) := Lib.hid (fun e => HZ.out (fun k hk => by
        have hk' : k = i := by omega
        subst hk'
        exact e))
      generalize (l[i]'(by rw [HM.out]; omega)).To = s at r1 HY HZ
      have r1 := (HBS.out g _ hgl).trans r1
      have W1 : IntKind.i64.wrap ((j : Int) - 1) = (i : Int) := by rw [IntWalk.i64_in _ (by omega)]; omega
      have d1 : decide ((0 : Int) < (j : Int)) = true := decide_eq_true (by omega)
      have d1' : decide (0 < j) = true := decide_eq_true (by omega)
      have b3 : (0 : Int) ≤ (i : Int) := by omega
      have b4 : (i : Int) < (m : Int) := by omega
      have hgl' : g < (wr.alloc (.cells #[.int .i64 f, .int .i64 t, .int .i64 c, .bool v] 34)).heap.size := by simp; omega
      clear hz0 hi
      by_cases hks : f < s
      case pos =>
        have E := Lib.hid (HY.out hks)
        have d2 : decide (f < s) = true := decide_eq_true hks
        clear HY HZ hks
        go_wp2_with fail
        clear q0 q1 q2 q3
        have hq := HQ.out
        simp only [Bool.not_true] at hq
        have g0 := Grown.G.keep N0.out HWS.out
        have g1 := Grown.G.keep N1.out HWS.out
        have g2 := Grown.G.keep N2.out HWS.out
        have g3 := Grown.G.keep N3.out HWS.out
        have g4 := Grown.G.keep r1 hgl'
        refine Grown.wp_region_grown (by kernel_rfl) (by kernel_rfl) ?_
        repeat (go_big_quiet_step ((go_at_call 37; with_reducible exact clp_g f t c v _)))
        refine wpQuiet_nil ?_
        rintro w4 ⟨X, rfl⟩
        clear g0 g1 g2 g3 g4 r1 W1 hq
        go_wp2
        go_ret
        rw [E.out]
        exact ⟨rfl, BelowKit.bl_trans HBA.out X.bel⟩
      case neg =>
        have E := Lib.hid (HZ.out hks)
        have d2 : decide (f < s) = false := decide_eq_false hks
        clear HY HZ hks
        go_wp2_with fail
        clear q0 q1 q2 q3
        have hq := HQ.out
        simp only [Bool.not_true] at hq
        have g0 := Grown.G.keep N0.out HWS.out
        have g1 := Grown.G.keep N1.out HWS.out
        have g2 := Grown.G.keep N2.out HWS.out
        have g3 := Grown.G.keep N3.out HWS.out
        have g4 := Grown.G.keep r1 hgl'
        refine Grown.wp_region_grown (by kernel_rfl) (by kernel_rfl) ?_
        repeat (go_big_quiet_step ((go_at_call 37; with_reducible exact clp_g f t c v _)))
        refine wpQuiet_nil ?_
        rintro w4 ⟨X, rfl⟩
        clear g0 g1 g2 g3 g4 r1 W1 hq
        go_wp2
        go_roundw
        case rel => exact ⟨j + 1, by omega, by go_num, E, Lib.hid (BelowKit.bl_trans HBA.out X.bel)⟩
        case measure => simp [intOf]; omega
    · obtain rfl : j = m := by omega
      have E := Lib.hid (show R = true by rw [← HR.out]; exact okB_yes (ok_of (by rw [HM.out]; exact HP.out) (by rw [HM.out]; exact HM2.out)))
      clear HP HR
      go_wp2
      go_ret
      rw [E.out]
      exact ⟨rfl, HB.out⟩
set_option maxHeartbeats 4000000 in
theorem svc_i (w : World) (p : Option Addr) (m cap : Nat) (l : List El) (lo hi : Int) (hm : l.length = m) (hs : m ≤ 1099511627776) (h : Reads fc 4 w p l) :
    Calls Try.prog 15 #[.slice p m cap, .int .i64 lo, .int .i64 hi] w (IsInt (svc l lo hi) w) := by
  have KK := Lib.hid h
  have HM := Lib.hid hm
  obtain ⟨R, hR⟩ : ∃ R, svc l lo hi = R := ⟨_, rfl⟩
  have HR := Lib.hid hR
  rw [hR]
  clear h hm hR
  go_enter Try.func15, Try.ntmps15
  go_wp2_with fail
  refine (ok_i _ p m cap l HM.out hs (KK.out.on (by (repeat (first | exact Below.refl _ _ | apply BelowKit.bl_alloc | apply BelowKit.bl_drewN | apply BelowKit.bl_drew | (refine BelowKit.bl_set ?_ _ ?_; rotate_left; (first | omega | (simp; omega) | simp)) | (refine BelowKit.bl_trans ?_ (‹Hid (Below _ _ _)›).out)))))).mono ?_
  rintro e w1 ⟨rfl, hb⟩
  have HB1 := Lib.hid (show Below w.heap.size w w1 from hb)
  clear hb
  obtain ⟨b, hb⟩ : ∃ b, okB l = b := ⟨_, rfl⟩
  rw [hb]
  cases b with
  | false =>
    have E := Lib.hid (show R = 0 by rw [← HR.out]; exact svc_no hb)
    clear hb
    go_wp2
    go_ret
    rw [E.out]
    exact ⟨rfl, HB1.out⟩
  | true =>
  have HOK := Lib.hid (okB_of hb)
  have HEND := Lib.hid (show R = svcTo l lo hi l.length by rw [← HR.out]; exact svc_yes hb)
  clear hb
  go_wp2
  go_loopw [7, 15] (fun n i wr => ∃ j : Nat, ∃ s : Int, j ≤ m ∧ i = .int .i64 (j : Int) ∧ n = .int .i64 s ∧ Hid (s = svcTo l lo hi j) ∧ Hid (Below w.heap.size w wr)) (fun _ i _ => m - (intOf i).toNat)
  case atStart => exact ⟨0, 0, Nat.zero_le _, rfl, rfl, Lib.hid (svcTo_zero l lo hi).symm, HB1⟩
  case round =>
    obtain ⟨j, s, hj, rfl, rfl, HS, HB⟩ := hrel
    by_cases hlt : j < m
    · have b1 : (0 : Int) ≤ (j : Int) := by omega
      have b2 : (j : Int) < (m : Int) := by omega
      have HLT := Lib.hid (show j < l.length by rw [HM.out]; exact hlt)
      have s1 := svcTo_bd (l := l) (f := lo) (t := hi) HOK.out.each j (by have := HLT.out; omega)
      have hl30 := HOK.out.len
      have hxp := HOK.out.each j HLT.out
      have hnext := svcTo_succ l lo hi j HLT.out
      rw [← HS.out] at s1 hnext
      obtain ⟨g, o, rfl, hgl, q0, q1, q2, q3⟩ := read (KK.out.on HB.out) j HLT.out
      obtain ⟨⟨f, t, c, v⟩, hx⟩ : ∃ x, l[j]'HLT.out = x := ⟨_, rfl⟩
      rw [hx] at q0 q1 q2 q3 hnext hxp
      simp only [] at q0 q1 q2 q3
      obtain ⟨h0, h1, h2, h3⟩ := (show 0 ≤ f ∧ f < t ∧ t ≤ 3600 ∧ 1 ≤ c ∧ c ≤ 100 from hxp)
      have hl2 := HLT.out
      have HN : Hid (svcTo l lo hi (j + 1) = s + (if v = true then 0 else c * common f t lo hi)) := Lib.hid hnext
      have HE := Lib.hid (show s ≤ 360000 * 30 ∧ 0 ≤ s by omega)
      have HBA := Lib.hid (BelowKit.bl_alloc (o := .cells #[.int .i64 f, .int .i64 t, .int .i64 c, .bool v] 34) HB.out)
      clear hx hnext hxp hl2 s1 hl30
      cases v with
      | true =>
        have HF := Lib.hid (show s = svcTo l lo hi (j + 1) by have := HN.out; simpa using this.symm)
        clear HN h0 h1 h2 h3
        go_wp2
        go_roundw
        case rel => exact ⟨j + 1, s, by omega, by go_num, rfl, HF, HBA⟩
        case measure => simp [intOf]; omega
      | false =>
        obtain ⟨cm, hc⟩ : ∃ x, common f t lo hi = x := ⟨_, rfl⟩
        have HC := Lib.hid hc
        have c0 := common_bd f t lo hi
        rw [hc] at c0
        have e1 : 0 ≤ c * cm := Int.mul_nonneg (by omega) c0.1
        have e2 : c * cm ≤ 100 * 3600 := Int.mul_le_mul h3.2 c0.2 c0.1 (by omega)
        obtain ⟨M, hM⟩ : ∃ M, c * cm = M := ⟨_, rfl⟩
        rw [hM] at e1 e2
        have W1 : IntKind.i64.wrap (c * cm) = M := by rw [hM]; exact IntWalk.i64_in _ (by omega)
        have W2 : IntKind.i64.wrap (s + M) = s + M := IntWalk.i64_in _ (by have := HE.out; omega)
        have HF := Lib.hid (show s + M = svcTo l lo hi (j + 1) by have := HN.out; rw [hc, hM] at this; simpa using this.symm)
        clear HN hc hM c0 e1 e2 h0 h1 h2 h3
        go_wp2_with fail
        go_quiet ((go_at_call 36; with_reducible exact Quiet.left (com_s' _ _ _ _ _ _ HC.out)))
        clear W1 W2
        go_wp2
        go_roundw
        case rel => exact ⟨j + 1, s + M, by omega, by go_num, rfl, HF, Lib.hid (below_drewN HBA.out _)⟩
        case measure => simp [intOf]; omega
    · obtain rfl : j = m := by omega
      have E := Lib.hid (show R = s by rw [HEND.out, HS.out, HM.out])
      go_wp2
      go_ret
      rw [E.out]
      exact ⟨rfl, HB.out⟩
theorem sum_zero {l : List El} {F : El → Int} (h : ∀ x, F x = 0) : (l.map F).sum = 0 := by
  induction l with
  | nil => rfl
  | cons x r ih => rw [List.map_cons, List.sum_cons, ih, h]; rfl
/-- The service of one month is the percent of that month. -/
theorem svc_one (l : List El) (mo : Int) : svc l mo (IntKind.i64.wrap (mo + 1)) = pct l mo := by
  cases hb : okB l with
  | false => rw [svc_no hb, pct_no hb]
  | true =>
    have hok := okB_of hb
    by_cases hin : 0 ≤ mo ∧ mo + 1 ≤ 3600
    · rw [IntWalk.i64_in _ (by omega), svc_succ hok hin.1 (Int.le_refl _) hin.2, svc_empty (Int.le_refl _), Int.zero_add]
    · rw [pct_yes hb, find_none (fun i hi => inS_no (fun e => by
        have := hok.each i hi
        unfold OkP at this
        omega)), svc, if_pos hb]
      refine sum_zero fun x => ?_
      unfold one
      split
      · rfl
      · have : common x.From x.To mo (IntKind.i64.wrap (mo + 1)) = 0 := by
          unfold common
          refine if_neg fun e => ?_
          have h1 := inB_of e.2.2.1
          have h2 := inB_of e.2.2.2
          have h3 : mo = 3600 := by omega
          rw [IntWalk.i64_in _ (by omega)] at h2
          omega
        rw [this, Int.mul_zero]
set_option maxHeartbeats 1000000 in
theorem pct_i (w : World) (p : Option Addr) (m cap : Nat) (l : List El) (mo : Int) (hm : l.length = m) (hs : m ≤ 1099511627776) (h : Reads fc 4 w p l) :
    Calls Try.prog 14 #[.slice p m cap, .int .i64 mo] w (IsInt (pct l mo) w) := by
  have HS := Lib.hid (svc_i w p m cap l mo (IntKind.i64.wrap (mo + 1)) hm hs h)
  rw [svc_one] at HS
  obtain ⟨q, W1⟩ : ∃ q, IntKind.i64.wrap (mo + 1) = q := ⟨_, rfl⟩
  rw [W1] at HS
  clear h hm
  go_enter Try.func14, Try.ntmps14
  go_wp2_with fail
  refine HS.out.mono ?_
  rintro e w1 ⟨rfl, hb⟩
  have HB := Lib.hid hb
  clear hb HS
  go_wp2
  go_ret
  exact ⟨rfl, HB.out⟩
theorem brk_end {l : List El} {k : Nat} (hb : okB l = true) (h1 : ¬ k + 1 < l.length) (h2 : k + 1 ≤ l.length ∨ k = 0) : breaks l = breaksTo l k := by
  rw [breaks_yes hb]
  rcases h2 with h2 | h2
  · rw [show l.length - 1 = k by omega]
  · subst h2
    rw [show l.length - 1 = 0 by omega]
/-- One new segment, laid in the newest block. -/
theorem newS (w : World) (x : TSegment.El) (g : Nat) (hg : w.heap.size = g) : ∀ j u, ([x].flatMap TSegment.fc)[j]? = some u →
    (w.alloc (.cells #[.int .i64 x.From, .int .i64 x.To, .int .i64 x.Value] 36)).cell? ((⟨g, 0, none⟩ : Addr).add j) = some u := by
  subst hg
  exact news_block (T := 36) (heap_alloc_new w _)
set_option maxRecDepth 100000 in
set_option maxHeartbeats 4000000 in
theorem brk_i (w : World) (p : Option Addr) (m cap : Nat) (l : List El) (hm : l.length = m) (hs : m ≤ 1099511627776) (h : Reads fc 4 w p l) :
    Calls Try.prog 17 #[.slice p m cap] w (TSegment.IsRow (breaks l) w) := by
  have KK := Lib.hid h
  have HM := Lib.hid hm
  obtain ⟨R, hR⟩ : ∃ R, breaks l = R := ⟨_, rfl⟩
  have HR := Lib.hid hR
  rw [hR]
  clear h hm hR
  go_enter Try.func17, Try.ntmps17
  go_wp2_with fail
  refine (ok_i _ p m cap l HM.out hs (KK.out.on (by (repeat (first | exact Below.refl _ _ | apply BelowKit.bl_alloc | apply BelowKit.bl_drewN | apply BelowKit.bl_drew | (refine BelowKit.bl_set ?_ _ ?_; rotate_left; (first | omega | (simp; omega) | simp)) | (refine BelowKit.bl_trans ?_ (‹Hid (Below _ _ _)›).out)))))).mono ?_
  rintro e w1 ⟨rfl, hb⟩
  have HB1 := Lib.hid (show Below w.heap.size w w1 from hb)
  clear hb
  obtain ⟨b, hb⟩ : ∃ b, okB l = b := ⟨_, rfl⟩
  rw [hb]
  cases b with
  | false =>
    have E := Lib.hid (show R = [] by rw [← HR.out]; exact breaks_no hb)
    clear hb
    go_wp2
    go_ret
    rw [E.out]
    exact ⟨none, 0, rfl, Owns.nil _ _ _, HB1.out⟩
  | true =>
  have HOK := Lib.hid hb
  clear hb
  go_wp2
  go_loopw [3, 4] (fun s i wr => ∃ j : Nat, 1 ≤ j ∧ (j ≤ m ∨ j = 1) ∧ i = .int .i64 (j : Int) ∧ Hid (Owns TSegment.fc 3 wr w.heap.size TSegment.T s (breaksTo l (j - 1))) ∧ Hid (Below w.heap.size w wr)) (fun _ i _ => m - (intOf i).toNat)
  case atStart => exact ⟨1, Nat.le_refl _, Or.inr rfl, rfl, Lib.hid (Owns.nil _ _ _), HB1⟩
  case round =>
    obtain ⟨j, hj1, hjm, rfl, HS, HB⟩ := hrel
    by_cases hlt : j < m
    · have b1 : (0 : Int) ≤ (j : Int) := by omega
      have b2 : (j : Int) < (m : Int) := by omega
      clear hjm
      have hok := okB_of HOK.out
      obtain ⟨i, hi⟩ : ∃ i, j = i + 1 := ⟨j - 1, by omega⟩
      have HLT := Lib.hid (show j < l.length by rw [HM.out]; exact hlt)
      have HIL := Lib.hid (show i < l.length by have := HLT.out; omega)
      have hl2 : i + 1 < l.length := by have := HLT.out; omega
      have hxp := hok.each j HLT.out
      have hyp := hok.each i HIL.out
      have hnx := breaksTo_succ l i hl2
      rw [show j - 1 = i by omega] at HS
      obtain ⟨g, o, rfl, hgw, _⟩ := read KK.out j HLT.out
      obtain ⟨g', o', e', _, q0, q1, q2, q3⟩ := read (KK.out.on HB.out) j HLT.out
      cases e'
      obtain ⟨g', o', e', _, r0, r1, r2, r3⟩ := read (KK.out.on HB.out) i HIL.out
      cases e'
      obtain ⟨x, hx⟩ : ∃ x, l[j]'HLT.out = x := ⟨_, rfl⟩
      obtain ⟨y, hy⟩ : ∃ y, l[i]'HIL.out = y := ⟨_, rfl⟩
      have hx1 : l[i + 1] = x := by rw [← hx]; simp only [hi]
      rw [hy, hx1] at hnx
      rw [hx] at q0 q1 q2 q3 hxp
      rw [hy] at r0 r1 r2 r3 hyp
      obtain ⟨f, t, c, v⟩ := x
      obtain ⟨f', t', c', v'⟩ := y
      simp only [] at q0 q1 q2 q3 r0 r1 r2 r3
      obtain ⟨u0, u1, u2, u3⟩ := (show 0 ≤ f ∧ f < t ∧ t ≤ 3600 ∧ 1 ≤ c ∧ c ≤ 100 from hxp)
      obtain ⟨v0, v1, v2, v3⟩ := (show 0 ≤ f' ∧ f' < t' ∧ t' ≤ 3600 ∧ 1 ≤ c' ∧ c' ≤ 100 from hyp)
      have W1 : IntKind.i64.wrap ((j : Int) - 1) = (i : Int) := by rw [IntWalk.i64_in _ (by omega)]; omega
      have W2 : IntKind.i64.wrap (f - t') = f - t' := IntWalk.i64_in _ (by omega)
      have b3 : (0 : Int) ≤ (i : Int) := by omega
      have b4 : (i : Int) < (m : Int) := by omega
      have HLEN := Lib.hid (breaksTo_len l i)
      have HIB := Lib.hid (show i ≤ 1099511627776 by omega)
      have HNX : Hid (breaksTo l (j + 1 - 1) = breaksTo l i ++ gap ⟨f', t', c', v'⟩ ⟨f, t, c, v⟩) := Lib.hid (by rw [← hnx, show j + 1 - 1 = i + 1 by omega])
      clear hok hxp hyp hnx hx hy hx1 hl2 hi u0 u1 u2 u3 v0 v1 v2 v3 q1 q2 q3 r0 r2 r3
      by_cases hg : t' < f
      case neg =>
        have d1 : decide (t' < f) = false := decide_eq_false hg
        have E := Lib.hid (show breaksTo l (j + 1 - 1) = breaksTo l i by rw [HNX.out, gap, if_neg hg, List.append_nil])
        clear HNX hg
        go_wp2_with fail
        go_quiet (fail)
        clear W1 W2
        go_wp2
        go_roundw
        case rel => exact ⟨j + 1, by omega, by omega, by go_num, by rw [E.out]; exact HS.out.drewN _ |> Lib.hid, Lib.hid (below_drewN HB.out _)⟩
        case measure => simp [intOf]; omega
      case pos =>
        have d1 : decide (t' < f) = true := decide_eq_true hg
        have E := Lib.hid (show breaksTo l (j + 1 - 1) = breaksTo l i ++ [⟨t', f, f - t'⟩] by rw [HNX.out, gap, if_pos hg])
        generalize breaksTo l i = r at HS E HLEN
        obtain ⟨a, ca, rfl, _⟩ := HS.out.form TSegment.fw
        clear HNX hg
        go_wp2_with fail
        go_quiet (fail)
        generalize hw2 : wr.drewN _ = w2
        have HB2 := Lib.hid (show Below w.heap.size w w2 by rw [← hw2]; exact below_drewN HB.out _)
        have HS2 := Lib.hid (show Owns TSegment.fc 3 w2 w.heap.size TSegment.T (.slice a r.length ca) r by rw [← hw2]; exact HS.out.drewN _)
        clear hw2 HB HS q0 r1 W1
        go_wp2_with (at_builtin; refine Fresh.pause ?_)
        refine ⟨?_⟩
        refine wpList_appendN TSegment.ft TSegment.fw _ rfl (.tmp 30) (.tmp 37) rfl w.heap.size _ r rfl (HS2.out.alloc _) ⟨w2.heap.size, 0, none⟩ 1 1 [⟨t', f, f - t'⟩] rfl rfl (newS w2 _ _ rfl) (by have := HLEN.out; have := HIB.out; simp; omega) (by have := HB2.out.size; simp; omega) ?_
        intro v5 w5 hown5 hg5 _
        obtain ⟨p9, c9, rfl, _⟩ := hown5.form TSegment.fw
        have hlen : (r ++ [(⟨t', f, f - t'⟩ : Seg)]).length = r.length + 1 := by simp
        rw [hlen] at hown5
        have HS5 := Lib.hid (show Owns TSegment.fc 3 w5 w.heap.size TSegment.T (.slice p9 (r.length + 1) c9) (breaksTo l (j + 1 - 1)) by rw [E.out]; exact hown5)
        have HB5 := Lib.hid ((BelowKit.bl_alloc HB2.out).grown hg5 (by have := HB2.out.size; simp; omega) HS2.out.low)
        clear hown5 hg5 W2 HB2 HS2 hlen
        go_wp2
        go_roundw
        case rel => exact ⟨j + 1, by omega, by omega, by go_num, HS5, HB5⟩
        case measure => simp [intOf]; omega
    · have E := Lib.hid (show R = breaksTo l (j - 1) by rw [← HR.out]; exact brk_end HOK.out (by rw [HM.out]; omega) (by rw [HM.out]; omega))
      obtain ⟨a, ca, rfl, _⟩ := HS.out.form TSegment.fw
      go_wp2
      go_ret
      rw [E.out]
      exact ⟨_, _, rfl, HS.out, HB.out⟩
end Go.Proofs.Ytkoeodmneedjcaa.SpellI

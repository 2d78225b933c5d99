/- Contract of the model's TimelineOf. -/
import Derived.Test.YtggnkjnpiagdpaaRows
import Derived.Test.YtggnkjnpiagdpaaLineMath
import Derived.Test.YtggnkjnpiagdpaaFactRow
import Derived.Test.YtggnkjnpiagdpaaStoreOk
import Derived.Test.YtggnkjnpiagdpaaValueAt
import Derived.Test.YtggnkjnpiagdpaaBox
import Derived.Test.YtggnkjnpiagdpaaFresh
import Derived.Test.YtggnkjnpiagdpaaQuiet
namespace Go.Proofs.Ytggnkjnpiagdpaa.LineS
open Go.RowKit RowN Mon
open Fact (Fa)
open FactRow (ReadsF)
open FactMath (okS val)
open TSegment SegMath LineMath
/-- One new segment, laid in the newest block. -/
theorem new1 (w : World) (x : El) (g : Nat) (hg : w.heap.size = g) : ∀ j u, ([x].flatMap fc)[j]? = some u →
    (w.alloc (.cells #[.int .i64 x.From, .int .i64 x.To, .int .i64 x.Value] 51)).cell? ((⟨g, 0, none⟩ : Addr).add j) = some u := by
  subst hg
  exact news_block (T := 51) (heap_alloc_new w _)
set_option maxRecDepth 100000 in
set_option maxHeartbeats 8000000 in
theorem line_s (w : World) (p : Option Addr) (m cap : Nat) (l : List Fa) (key kn f t : Int) (hm : l.length = m) (hs : m ≤ 1048576) (h : ReadsF w p l) :
    Calls Try.prog 8 #[.agg #[.slice p m cap], .int .i64 key, .int .i64 kn, .int .i64 f, .int .i64 t] w (IsRow (line l key kn f t) w) := by
  have KK := Lib.hid h
  have HM := Lib.hid hm
  obtain ⟨R, hR⟩ : ∃ R, line l key kn f t = R := ⟨_, rfl⟩
  rw [hR]
  have HNO : Hid (¬ (okS l = true ∧ inB kn 0 3599 = true ∧ inB f 0 3600 = true ∧ inB t 0 3600 = true) → R = []) := Lib.hid fun h => by rw [← hR]; exact line_no h
  have HYES : Hid (okS l = true → inB kn 0 3599 = true → inB f 0 3600 = true → inB t 0 3600 = true → R = lineTo key kn f l (t - f).toNat) := Lib.hid fun h0 h1 h2 h3 => by rw [← hR]; exact line_yes h0 h1 h2 h3
  clear h hm hR
  obtain ⟨b0, h0⟩ : ∃ b, okS l = b := ⟨_, rfl⟩
  obtain ⟨b1, h1⟩ : ∃ b, inB kn 0 3599 = b := ⟨_, rfl⟩
  obtain ⟨b2, h2⟩ : ∃ b, inB f 0 3600 = b := ⟨_, rfl⟩
  obtain ⟨b3, h3⟩ : ∃ b, inB t 0 3600 = b := ⟨_, rfl⟩
  have H0 := Lib.hid h0
  have H1 := Lib.hid h1
  have H2 := Lib.hid h2
  have H3 := Lib.hid h3
  clear h0 h1 h2 h3
  go_enter Try.func8, Try.ntmps8
  go_wp2_with fail
  refine (StoreOk.ok_s _ p m cap l HM.out (by omega) (KK.out.on (by (repeat (first | exact Below.refl _ _ | apply BelowKit.bl_alloc | apply BelowKit.bl_drewN | apply BelowKit.bl_drew | (refine BelowKit.bl_set ?_ _ ?_; rotate_left; (first | omega | (simp; omega) | simp)) | (refine BelowKit.bl_trans ?_ (‹Hid (Below _ _ _)›).out)))))).mono ?_
  rintro e w1 ⟨rfl, hb1⟩
  rw [H0.out]
  obtain ⟨hc, hf⟩ := BelowKit.bcell hb1
  have c0 : w1.cell? ⟨w.heap.size, 0, none⟩ = some (.slice p m cap) := (hc _ _ (by first | omega | (simp; done) | (simp; omega))).trans (by simp [go_sem])
  have z0 : w.heap.size + 1 < w1.heap.size := by have := hb1.size; simp at this; omega
  have HB1 := Lib.hid (show Below w.heap.size w w1 from BelowKit.bl_trans (by (repeat (first | exact Below.refl _ _ | apply BelowKit.bl_alloc | apply BelowKit.bl_drewN | apply BelowKit.bl_drew | (refine BelowKit.bl_set ?_ _ ?_; rotate_left; (first | omega | (simp; omega) | simp)) | (refine BelowKit.bl_trans ?_ (‹Hid (Below _ _ _)›).out)))) hb1)
  have OW0 := Lib.hid (show Owns fc 3 w1 (w.heap.size + 1) T (.slice (some ⟨w.heap.size + 1, 0, none⟩) 0 0) [] by simpa using (Owns.made (f := fc) (c := 3) (w.alloc (.cells #[.slice p m cap] 30)) (w.heap.size + 1) T (by simp)).on hb1)
  clear hc hf hb1
  cases b0 with
  | false =>
    have E := Lib.hid (HNO.out (by rw [H0.out]; simp))
    go_wp2
    go_ret
    rw [E.out]
    exact ⟨some ⟨w.heap.size + 1, 0, none⟩, 0, rfl, (OW0.out.base (by omega)), HB1.out⟩
  | true =>
  go_wp2_with fail
  refine (Mon.ok_s _ _).mono ?_
  rintro e w' ⟨rfl, rfl⟩
  rw [H1.out]
  cases b1 with
  | false =>
    have E := Lib.hid (HNO.out (by rw [H1.out]; simp))
    go_wp2
    go_ret
    rw [E.out]
    exact ⟨some ⟨w.heap.size + 1, 0, none⟩, 0, rfl, (OW0.out.base (by omega)), HB1.out⟩
  | true =>
  go_wp2_with fail
  refine (end_s _ _).mono ?_
  rintro e w' ⟨rfl, rfl⟩
  rw [H2.out]
  cases b2 with
  | false =>
    have E := Lib.hid (HNO.out (by rw [H2.out]; simp))
    go_wp2
    go_ret
    rw [E.out]
    exact ⟨some ⟨w.heap.size + 1, 0, none⟩, 0, rfl, (OW0.out.base (by omega)), HB1.out⟩
  | true =>
  go_wp2_with fail
  refine (end_s _ _).mono ?_
  rintro e w' ⟨rfl, rfl⟩
  rw [H3.out]
  cases b3 with
  | false =>
    have E := Lib.hid (HNO.out (by rw [H3.out]; simp))
    go_wp2
    go_ret
    rw [E.out]
    exact ⟨some ⟨w.heap.size + 1, 0, none⟩, 0, rfl, (OW0.out.base (by omega)), HB1.out⟩
  | true =>
  obtain ⟨f0, f1⟩ := inB_of H2.out
  obtain ⟨t0, t1⟩ := inB_of H3.out
  have E := Lib.hid (HYES.out H0.out H1.out H2.out H3.out)
  clear HNO HYES
  go_wp2
  go_loopw [11, 12] (fun s i wr => ∃ j : Nat, j ≤ (t - f).toNat ∧ i = .int .i64 (f + (j : Int)) ∧ wr.cell? ⟨w.heap.size, 0, none⟩ = some (.slice p m cap) ∧ w.heap.size + 1 < wr.heap.size ∧ Hid (Owns fc 3 wr (w.heap.size + 1) T s (lineTo key kn f l j)) ∧ Hid (Below w.heap.size w wr)) (fun _ i _ => (t - intOf i).toNat)
  case atStart => exact ⟨0, by omega, by simp, c0, z0, OW0, HB1⟩
  case round =>
    obtain ⟨j, hj, rfl, hc0, hz0, HO, HB⟩ := hrel
    obtain ⟨mo, hmo⟩ : ∃ mo, f + (j : Int) = mo := ⟨_, rfl⟩
    have HMO := Lib.hid hmo
    have HK : Hid (lineTo key kn f l (j + 1) = addM (lineTo key kn f l j) mo (val key mo kn l)) := Lib.hid (by rw [← hmo]; rfl)
    have HL := lineTo_len key kn f l j
    rw [hmo]
    have bb1 : (0 : Int) ≤ mo := by omega
    have bb3 : mo ≤ 3600 + 3600 := by omega
    by_cases hlt : mo < t
    · have hjn := Lib.hid (show j + 1 ≤ (t - f).toNat by omega)
      clear hmo
      generalize lineTo key kn f l j = r at HO HK HL
      obtain ⟨⟨v, o⟩, hv⟩ : ∃ V, val key mo kn l = V := ⟨_, rfl⟩
      have HV := Lib.hid hv
      rw [hv] at HK
      clear hv
      go_wp2_with fail
      refine (ValueAt.val_s _ p m cap l key mo kn HM.out (by omega) (KK.out.on HB.out)).mono ?_
      rintro e w2 ⟨rfl, hb2⟩
      rw [HV.out]
      obtain ⟨hc, hf⟩ := BelowKit.bcell hb2
      have c2 := (hc _ 0 (by omega)).trans hc0
      have z2 : w.heap.size + 1 < w2.heap.size := Nat.lt_of_lt_of_le hz0 hb2.size
      have HO2 := Lib.hid (HO.out.on hb2)
      have HB2 := Lib.hid (BelowKit.bl_trans HB.out hb2)
      clear hc hf hb2 hc0 hz0 HO HB HV
      obtain ⟨a, ca, rfl, _⟩ := HO2.out.form fw
      obtain ⟨n, hn⟩ : ∃ n, r.length = n := ⟨_, rfl⟩
      have HN := Lib.hid hn
      rw [hn] at HO2 HL ⊢
      clear hn
      cases o with
      | false =>
        have EK := Lib.hid (HK.out.trans (addM_no r mo v))
        clear HK
        go_wp2
        go_roundw
        case rel => exact ⟨j + 1, hjn.out, congrArg (Value.int .i64) (by have := HMO.out; omega), c2, z2, by rw [EK.out]; exact HO2, HB2⟩
        case measure => simp [intOf]; omega
      | true =>
      have step : ∀ v' (w5 : World), Owns fc 3 w5 (w.heap.size + 1) T v' (r ++ [⟨mo, mo + 1, v⟩]) → (w2.alloc (.cells #[.int .i64 mo, .int .i64 (mo + 1), .int .i64 v] 51)).grownBy w5 ((Value.slice a n ca).ownBlock) → w5.cell? ⟨w.heap.size, 0, none⟩ = some (.slice p m cap) ∧ w.heap.size + 1 < w5.heap.size ∧ Below w.heap.size w w5 := fun v' w5 _ hg => by
        have hlow := HO2.out.low
        have h35 : Below (w.heap.size + 1) w2 w5 := ((Below.refl _ _).alloc (by omega) _).grown hg (by first | omega | (simp; done) | (simp; omega)) hlow
        exact ⟨(h35.cell (p := ⟨w.heap.size, 0, none⟩) (by show w.heap.size < _; omega)).trans c2, Nat.lt_of_lt_of_le z2 h35.size, HB2.out.trans (h35.mono (by omega))⟩
      have STEP := Lib.hid step
      clear step
      by_cases hz : n = 0
      case pos =>
        have EK := Lib.hid (HK.out.trans (addM_nil (HN.out.trans hz) mo v))
        have d0 : decide ((0 : Int) < (n : Int)) = false := decide_eq_false (by omega)
        have d0' : decide (0 < n) = false := decide_eq_false (by omega)
        clear HK hz
        go_wp2_with (at_builtin; refine Fresh.pause ?_)
        refine ⟨?_⟩
        refine wpList_appendN ft fw _ rfl (.tmp 52) (.tmp 58) rfl (w.heap.size + 1) _ r rfl (HO2.out.alloc _) ⟨w2.heap.size, 0, none⟩ 1 1 [⟨mo, mo + 1, v⟩] rfl rfl (new1 w2 _ _ rfl) (by simp [HN.out]; omega) (by simp; omega) ?_
        intro v' w5 hown5 hg5 _
        obtain ⟨c5, z5, hb5⟩ := STEP.out _ _ hown5 hg5
        have HO5 := Lib.hid hown5
        have HB5 := Lib.hid hb5
        clear hown5 hg5 hb5
        go_wp2
        go_roundw
        case rel => exact ⟨j + 1, hjn.out, congrArg (Value.int .i64) (by have := HMO.out; omega), c5, z5, by rw [EK.out]; exact HO5, HB5⟩
        case measure => simp [intOf]; omega
      case neg =>
      obtain ⟨i, hi⟩ : ∃ i, n = i + 1 := ⟨n - 1, by omega⟩
      have HI := Lib.hid (HN.out.trans hi)
      obtain ⟨g, rfl, hBg, hgl, q0, q1, q2, y0, y1, y2⟩ := own HO2.out i (by rw [HI.out]; omega)
      have W1 : IntKind.i64.wrap ((n : Int) - 1) = (i : Int) := by rw [IntWalk.i64_in _ (by omega)]; omega
      have d0 : decide ((0 : Int) < (n : Int)) = true := decide_eq_true (by omega)
      have d0' : decide (0 < n) = true := decide_eq_true (by omega)
      have b3 : (0 : Int) ≤ (i : Int) := by omega
      have b4 : (i : Int) < (n : Int) := by omega
      have HSET := Lib.hid (fun h1 h2 => HK.out.trans (addM_set (v := v) (m := mo) HI.out h1 h2))
      have HADD := Lib.hid (fun h1 => HK.out.trans (addM_add (v := v) (m := mo) HI.out h1))
      have HST := Lib.hid (fun (u : Int) => HO2.out.stored fw i (by rw [HI.out]; omega) 1 (by omega) (.int .i64 u) ⟨(r[i]'(by rw [HI.out]; omega)).From, u, (r[i]'(by rw [HI.out]; omega)).Value⟩ rfl)
      clear hz hi HK
      obtain ⟨y, hy⟩ : ∃ y, r[i]'(by rw [HI.out]; omega) = y := ⟨_, rfl⟩
      simp only [hy] at q0 q1 q2 HSET HADD HST
      clear hy
      obtain ⟨yf, yt, yv⟩ := y
      simp only [] at q0 q1 q2 HSET HADD HST
      by_cases h1 : yt = mo
      case neg =>
        have EK := Lib.hid (HADD.out (fun e => h1 e.1))
        have d1 : (yt == mo) = false := beq_eq_false_iff_ne.2 h1
        clear HSET HADD HST
        go_wp2_with (at_builtin; refine Fresh.pause ?_)
        refine ⟨?_⟩
        refine wpList_appendN ft fw _ rfl (.tmp 52) (.tmp 58) rfl (w.heap.size + 1) _ r rfl (HO2.out.alloc _) ⟨w2.heap.size, 0, none⟩ 1 1 [⟨mo, mo + 1, v⟩] rfl rfl (new1 w2 _ _ rfl) (by simp [HN.out]; omega) (by simp; omega) ?_
        intro v' w5 hown5 hg5 _
        obtain ⟨c5, z5, hb5⟩ := STEP.out _ _ hown5 hg5
        have HO5 := Lib.hid hown5
        have HB5 := Lib.hid hb5
        clear hown5 hg5 hb5 W1 q0 q1 q2 y0 y1 y2
        go_wp2
        go_roundw
        case rel => exact ⟨j + 1, hjn.out, congrArg (Value.int .i64) (by have := HMO.out; omega), c5, z5, by rw [EK.out]; exact HO5, HB5⟩
        case measure => simp [intOf]; omega
      case pos =>
      have d1 : (yt == mo) = true := by rw [h1]; exact beq_self_eq_true mo
      by_cases h2 : yv = v
      case neg =>
        have EK := Lib.hid (HADD.out (fun e => h2 e.2))
        have d2 : (yv == v) = false := beq_eq_false_iff_ne.2 h2
        clear HSET HADD HST h1
        go_wp2_with (at_builtin; refine Fresh.pause ?_)
        refine ⟨?_⟩
        refine wpList_appendN ft fw _ rfl (.tmp 52) (.tmp 58) rfl (w.heap.size + 1) _ r rfl (HO2.out.alloc _) ⟨w2.heap.size, 0, none⟩ 1 1 [⟨mo, mo + 1, v⟩] rfl rfl (new1 w2 _ _ rfl) (by simp [HN.out]; omega) (by simp; omega) ?_
        intro v' w5 hown5 hg5 _
        obtain ⟨c5, z5, hb5⟩ := STEP.out _ _ hown5 hg5
        have HO5 := Lib.hid hown5
        have HB5 := Lib.hid hb5
        clear hown5 hg5 hb5 W1 q0 q1 q2 y0 y1 y2
        go_wp2
        go_roundw
        case rel => exact ⟨j + 1, hjn.out, congrArg (Value.int .i64) (by have := HMO.out; omega), c5, z5, by rw [EK.out]; exact HO5, HB5⟩
        case measure => simp [intOf]; omega
      case pos =>
      have d2 : (yv == v) = true := by rw [h2]; exact beq_self_eq_true v
      have EK := Lib.hid (HSET.out h1 h2)
      have HST' := Lib.hid (HST.out (mo + 1))
      have hne : ¬ w.heap.size = g := by omega
      clear HSET HADD HST STEP h1 h2
      go_wp2
      go_roundw
      case rel =>
        refine ⟨j + 1, hjn.out, congrArg (Value.int .i64) (by have := HMO.out; omega), ?_, by simpa using z2, ?_, Lib.hid (HB2.out.setCell (p := ⟨g, i * 3 + 1, none⟩) (by show w.heap.size ≤ g; omega) _)⟩
        · rw [World.cell?_of_block (w := w2) (Below.heap_setCell _ _ _ _ hne)]; exact c2
        · rw [EK.out]; exact HST'
      case measure => simp [intOf]; omega
    · have E2 := Lib.hid (show lineTo key kn f l j = R by rw [E.out, show (t - f).toNat = j by omega])
      clear hmo HK HL
      go_wp2
      go_ret
      have R2 := HO.out
      rw [E2.out] at R2
      obtain ⟨a, ca, e2, _⟩ := R2.form fw
      subst e2
      exact ⟨a, ca, rfl, R2.base (by omega), HB.out⟩
end Go.Proofs.Ytggnkjnpiagdpaa.LineS

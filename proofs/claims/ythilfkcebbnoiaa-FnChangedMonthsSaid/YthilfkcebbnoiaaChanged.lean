/- Contracts of both sides' ChangedMonths. -/
import Derived.Test.YthilfkcebbnoiaaRows
import Derived.Test.YthilfkcebbnoiaaFactRow
import Derived.Test.YthilfkcebbnoiaaFactMath
import Derived.Test.YthilfkcebbnoiaaStoreOk
import Derived.Test.YthilfkcebbnoiaaValueAt
import Derived.Test.YthilfkcebbnoiaaBox
import Derived.Test.YthilfkcebbnoiaaIntRow
import Derived.Test.YthilfkcebbnoiaaTInt
import Derived.Test.YthilfkcebbnoiaaFresh
namespace Go.Proofs.Ythilfkcebbnoiaa.Changed
open Go.RowKit RowN Fact FactRow FactMath Box Mon
theorem changed_no {l : List Fa} {key a b : Int} (h : ¬ (okS l = true ∧ inB key 1 50 = true ∧ inB a 0 3599 = true ∧ inB b 0 3599 = true)) : changed l key a b = [] := if_neg h
theorem changed_yes {l : List Fa} {key a b : Int} (h0 : okS l = true) (h1 : inB key 1 50 = true) (h2 : inB a 0 3599 = true) (h3 : inB b 0 3599 = true) : changed l key a b = monthsTo key a b l 3600 := if_pos ⟨h0, h1, h2, h3⟩
theorem eq_xy {x y : Int} (h : x = y) : (!(x == y)) = false := by simp [h]

set_option maxRecDepth 100000 in
set_option maxHeartbeats 4000000 in
theorem ch_i (w : World) (p : Option Addr) (m cap : Nat) (l : List Fa) (key a b : Int) (hm : l.length = m) (hs : m ≤ 1048576) (h : ReadsF w p l) :
    Calls Try.prog 20 #[.agg #[.slice p m cap], .int .i64 key, .int .i64 a, .int .i64 b] w (IntRow.IsList (changed l key a b) w) := by
  have KK := Lib.hid h
  have HM := Lib.hid hm
  obtain ⟨R, hR⟩ : ∃ R, changed l key a b = R := ⟨_, rfl⟩
  rw [hR]
  have hno : ¬ (okS l = true ∧ inB key 1 50 = true ∧ inB a 0 3599 = true ∧ inB b 0 3599 = true) → R = [] := fun h => by rw [← hR]; exact changed_no h
  have HNO := Lib.hid hno
  have HYES : Hid (okS l = true → inB key 1 50 = true → inB a 0 3599 = true → inB b 0 3599 = true → R = monthsTo key a b l 3600) := Lib.hid fun h0 h1 h2 h3 => by rw [← hR]; exact changed_yes h0 h1 h2 h3
  clear h hm hR hno
  obtain ⟨b0, h0⟩ : ∃ b, okS l = b := ⟨_, rfl⟩
  obtain ⟨b1, h1⟩ : ∃ b, inB key 1 50 = b := ⟨_, rfl⟩
  obtain ⟨b2, h2⟩ : ∃ b, inB a 0 3599 = b := ⟨_, rfl⟩
  obtain ⟨b3, h3⟩ : ∃ b', inB b 0 3599 = b' := ⟨_, rfl⟩
  have H0 := Lib.hid h0
  have H1 := Lib.hid h1
  have H2 := Lib.hid h2
  have H3 := Lib.hid h3
  clear h0 h1 h2 h3
  go_enter Try.func20, Try.ntmps20
  go_wp2_with fail
  refine (StoreOk.ok_i _ p m cap l HM.out (by omega) (KK.out.on (by (repeat (first | exact Below.refl _ _ | apply BelowKit.bl_alloc | apply BelowKit.bl_drewN | apply BelowKit.bl_drew | (refine BelowKit.bl_set ?_ _ ?_; rotate_left; (first | omega | (simp; omega) | simp)) | (refine BelowKit.bl_trans ?_ (‹Hid (Below _ _ _)›).out)))))).mono ?_
  rintro e w1 ⟨rfl, hb1⟩
  rw [H0.out]
  obtain ⟨hc, hf⟩ := BelowKit.bcell hb1
  have c0 : w1.cell? ⟨w.heap.size, 0, none⟩ = some (.slice p m cap) := (hc _ _ (by first | omega | (simp; done) | (simp; omega))).trans (by simp [go_sem])
  have z0 : w.heap.size < w1.heap.size := by have := hb1.size; simp at this; omega
  have HB1 := Lib.hid (show Below w.heap.size w w1 from BelowKit.bl_trans (by (repeat (first | exact Below.refl _ _ | apply BelowKit.bl_alloc | apply BelowKit.bl_drewN | apply BelowKit.bl_drew | (refine BelowKit.bl_set ?_ _ ?_; rotate_left; (first | omega | (simp; omega) | simp)) | (refine BelowKit.bl_trans ?_ (‹Hid (Below _ _ _)›).out)))) hb1)
  clear hc hf hb1
  cases b0 with
  | false =>
    have E := Lib.hid (HNO.out (by rw [H0.out]; simp))
    go_wp2
    go_ret
    rw [E.out]
    exact IntRow.IsList.nil _ _ HB1.out
  | true =>
  go_wp2_with fail
  refine (key_i _ _).mono ?_
  rintro e w' ⟨rfl, rfl⟩
  rw [H1.out]
  cases b1 with
  | false =>
    have E := Lib.hid (HNO.out (by rw [H1.out]; simp))
    go_wp2
    go_ret
    rw [E.out]
    exact IntRow.IsList.nil _ _ HB1.out
  | true =>
  go_wp2_with fail
  refine (ok_i _ _).mono ?_
  rintro e w' ⟨rfl, rfl⟩
  rw [H2.out]
  cases b2 with
  | false =>
    have E := Lib.hid (HNO.out (by rw [H2.out]; simp))
    go_wp2
    go_ret
    rw [E.out]
    exact IntRow.IsList.nil _ _ HB1.out
  | true =>
  go_wp2_with fail
  refine (ok_i _ _).mono ?_
  rintro e w' ⟨rfl, rfl⟩
  rw [H3.out]
  cases b3 with
  | false =>
    have E := Lib.hid (HNO.out (by rw [H3.out]; simp))
    go_wp2
    go_ret
    rw [E.out]
    exact IntRow.IsList.nil _ _ HB1.out
  | true =>
  have E := Lib.hid (HYES.out H0.out H1.out H2.out H3.out)
  clear HNO HYES
  go_wp2
  go_loopw [9, 33] (fun s i wr => ∃ j : Nat, j ≤ 3600 ∧ i = .int .i64 (j : Int) ∧ wr.cell? ⟨w.heap.size, 0, none⟩ = some (.slice p m cap) ∧ w.heap.size < wr.heap.size ∧ Hid (Row1.Owns IntRow.fI wr (w.heap.size + 1) 3 s (monthsTo key a b l j)) ∧ Hid (Below w.heap.size w wr)) (fun _ i _ => 3600 - (intOf i).toNat)
  case atStart => exact ⟨0, by omega, rfl, c0, z0, Lib.hid (by rw [monthsTo_zero]; exact Row1.Owns.nil _ _ _), HB1⟩
  case round =>
    obtain ⟨j, hj, rfl, hc0, hz0, HO, HB⟩ := hrel
    by_cases hlt : j < 3600
    · have HK := Lib.hid (monthsTo_succ key a b l j)
      have HL := monthsTo_len key a b l j
      generalize monthsTo key a b l j = r at HO HK HL
      have bb1 : (0 : Int) ≤ (j : Int) := by omega
      have bb2 : (j : Int) < 3600 := by omega
      obtain ⟨⟨x, o1⟩, hx⟩ : ∃ V, val key (j : Int) a l = V := ⟨_, rfl⟩
      obtain ⟨⟨y, o2⟩, hy⟩ : ∃ V, val key (j : Int) b l = V := ⟨_, rfl⟩
      have HX := Lib.hid hx
      have HY := Lib.hid hy
      have HD : Hid (FactMath.differ key a b l (j : Int) = decide ((x, o1) ≠ (y, o2))) := Lib.hid (by unfold FactMath.differ; rw [hx, hy])
      clear hx hy
      go_wp2_with fail
      refine (ValueAt.val_i _ p m cap l key (j : Int) a HM.out (by omega) (KK.out.on HB.out)).mono ?_
      rintro e w2 ⟨rfl, hb2⟩
      rw [HX.out]
      obtain ⟨hc, hf⟩ := BelowKit.bcell hb2
      have c2 := (hc _ 0 (by omega)).trans hc0
      have z2 : w.heap.size < w2.heap.size := Nat.lt_of_lt_of_le hz0 hb2.size
      have HO2 := Lib.hid (HO.out.on hb2)
      have HB2 := Lib.hid (BelowKit.bl_trans HB.out hb2)
      clear hc hf hb2 hc0 hz0 HO HB
      go_wp2_with fail
      refine (ValueAt.val_i _ p m cap l key (j : Int) b HM.out (by omega) (KK.out.on HB2.out)).mono ?_
      rintro e w3 ⟨rfl, hb3⟩
      rw [HY.out]
      obtain ⟨hc, hf⟩ := BelowKit.bcell hb3
      have c3 := (hc _ 0 (by omega)).trans c2
      have z3 : w.heap.size < w3.heap.size := Nat.lt_of_lt_of_le z2 hb3.size
      have HO3 := Lib.hid (HO2.out.on hb3)
      have HB3 := Lib.hid (BelowKit.bl_trans HB2.out hb3)
      clear hc hf hb3 c2 z2 HO2 HB2
      by_cases hsame : (x, o1) = (y, o2)
      · have EK := Lib.hid (show monthsTo key a b l (j + 1) = r by rw [HK.out, HD.out, decide_eq_false (by simp [hsame])]; simp)
        simp only [Prod.mk.injEq] at hsame
        obtain ⟨rfl, rfl⟩ := hsame
        clear HX HY HD HK
        cases o1 <;> (
          go_wp2
          go_roundw
          case rel => exact ⟨j + 1, by omega, by go_num, c3, z3, by rw [EK.out]; exact HO3, HB3⟩
          case measure => simp [intOf]; omega)
      · have EK := Lib.hid (show monthsTo key a b l (j + 1) = r ++ [(j : Int)] by rw [HK.out, HD.out, decide_eq_true hsame]; simp)
        clear HX HY HD HK
        have hcase : (!(x == y)) = true ∨ (x = y ∧ o1 = !o2) := by
          by_cases hxy : x = y
          · right
            refine ⟨hxy, ?_⟩
            cases o1 <;> cases o2 <;> simp_all
          · left; simp [hxy]
        clear hsame
        have step : ∀ v' (w5 : World), Row1.Owns IntRow.fI w5 (w.heap.size + 1) 3 v' (r ++ [(j : Int)]) → (w3.alloc (.cells #[.int .i64 (j : Int)] 3)).grownBy w5 (u9.ownBlock) → w5.cell? ⟨w.heap.size, 0, none⟩ = some (.slice p m cap) ∧ w.heap.size < w5.heap.size ∧ Below w.heap.size w w5 := fun v' w5 _ hg => by
          have hlow := HO3.out.low
          have h35 : Below (w.heap.size + 1) w3 w5 := ((Below.refl _ _).alloc (by omega) _).grown hg (by first | omega | (simp; done) | (simp; omega)) hlow
          exact ⟨(h35.cell (p := ⟨w.heap.size, 0, none⟩) (by show w.heap.size < _; omega)).trans c3, Nat.lt_of_lt_of_le z3 h35.size, HB3.out.trans (h35.mono (by omega))⟩
        have STEP := Lib.hid step
        clear step
        rcases hcase with hxy | ⟨rfl, rfl⟩
        · have hxy' : ¬ x = y := by simpa using hxy
          go_wp2_with (at_builtin; refine Fresh.pause ?_)
          refine ⟨?_⟩
          refine Row1.wpList_append1 IntRow.it (Row1.one_int _) _ rfl (.tmp 60) (.tmp 62) rfl (w.heap.size + 1) _ r rfl (HO3.out.alloc _) w3.heap.size 1 1 [(j : Int)] rfl rfl (heap_alloc_new w3 _) (by simp; omega) (by simp; omega) ?_
          intro v' w5 hown5 hg5
          obtain ⟨c5, z5, hb5⟩ := STEP.out _ _ hown5 hg5
          have HO5 := Lib.hid hown5
          have HB5 := Lib.hid hb5
          clear hown5 hg5 hb5
          go_wp2
          go_roundw
          case rel => exact ⟨j + 1, by omega, by go_num, c5, z5, by rw [EK.out]; exact HO5, HB5⟩
          case measure => simp [intOf]; omega
        · cases o2 with
          | false =>
            go_wp2_with (at_builtin; refine Fresh.pause ?_)
            refine ⟨?_⟩
            refine Row1.wpList_append1 IntRow.it (Row1.one_int _) _ rfl (.tmp 60) (.tmp 62) rfl (w.heap.size + 1) _ r rfl (HO3.out.alloc _) w3.heap.size 1 1 [(j : Int)] rfl rfl (heap_alloc_new w3 _) (by simp; omega) (by simp; omega) ?_
            intro v' w5 hown5 hg5
            obtain ⟨c5, z5, hb5⟩ := STEP.out _ _ hown5 hg5
            have HO5 := Lib.hid hown5
            have HB5 := Lib.hid hb5
            clear hown5 hg5 hb5
            go_wp2
            go_roundw
            case rel => exact ⟨j + 1, by omega, by go_num, c5, z5, by rw [EK.out]; exact HO5, HB5⟩
            case measure => simp [intOf]; omega
          | true =>
            go_wp2_with (at_builtin; refine Fresh.pause ?_)
            refine ⟨?_⟩
            refine Row1.wpList_append1 IntRow.it (Row1.one_int _) _ rfl (.tmp 60) (.tmp 62) rfl (w.heap.size + 1) _ r rfl (HO3.out.alloc _) w3.heap.size 1 1 [(j : Int)] rfl rfl (heap_alloc_new w3 _) (by simp; omega) (by simp; omega) ?_
            intro v' w5 hown5 hg5
            obtain ⟨c5, z5, hb5⟩ := STEP.out _ _ hown5 hg5
            have HO5 := Lib.hid hown5
            have HB5 := Lib.hid hb5
            clear hown5 hg5 hb5
            go_wp2
            go_roundw
            case rel => exact ⟨j + 1, by omega, by go_num, c5, z5, by rw [EK.out]; exact HO5, HB5⟩
            case measure => simp [intOf]; omega
    · obtain rfl : j = 3600 := by omega
      obtain ⟨p5, c5, hform, _⟩ := HO.out.form
      subst hform
      go_wp2
      go_ret
      rw [E.out]
      exact ⟨p5, c5, rfl, HO.out.base (by omega), HB.out⟩

set_option maxRecDepth 100000 in
set_option maxHeartbeats 4000000 in
theorem ch_s (w : World) (p : Option Addr) (m cap : Nat) (l : List Fa) (key a b : Int) (hm : l.length = m) (hs : m ≤ 1048576) (h : ReadsF w p l) :
    Calls Try.prog 32 #[.agg #[.slice p m cap], .int .i64 key, .int .i64 a, .int .i64 b] w (IntRow.IsList (changed l key a b) w) := by
  have KK := Lib.hid h
  have HM := Lib.hid hm
  obtain ⟨R, hR⟩ : ∃ R, changed l key a b = R := ⟨_, rfl⟩
  rw [hR]
  have hno : ¬ (okS l = true ∧ inB key 1 50 = true ∧ inB a 0 3599 = true ∧ inB b 0 3599 = true) → R = [] := fun h => by rw [← hR]; exact changed_no h
  have HNO := Lib.hid hno
  have HYES : Hid (okS l = true → inB key 1 50 = true → inB a 0 3599 = true → inB b 0 3599 = true → R = monthsTo key a b l 3600) := Lib.hid fun h0 h1 h2 h3 => by rw [← hR]; exact changed_yes h0 h1 h2 h3
  clear h hm hR hno
  obtain ⟨b0, h0⟩ : ∃ b, okS l = b := ⟨_, rfl⟩
  obtain ⟨b1, h1⟩ : ∃ b, inB key 1 50 = b := ⟨_, rfl⟩
  obtain ⟨b2, h2⟩ : ∃ b, inB a 0 3599 = b := ⟨_, rfl⟩
  obtain ⟨b3, h3⟩ : ∃ b', inB b 0 3599 = b' := ⟨_, rfl⟩
  have H0 := Lib.hid h0
  have H1 := Lib.hid h1
  have H2 := Lib.hid h2
  have H3 := Lib.hid h3
  clear h0 h1 h2 h3
  go_enter Try.func32, Try.ntmps32
  go_wp2_with fail
  refine (StoreOk.ok_s _ p m cap l HM.out (by omega) (KK.out.on (by (repeat (first | exact Below.refl _ _ | apply BelowKit.bl_alloc | apply BelowKit.bl_drewN | apply BelowKit.bl_drew | (refine BelowKit.bl_set ?_ _ ?_; rotate_left; (first | omega | (simp; omega) | simp)) | (refine BelowKit.bl_trans ?_ (‹Hid (Below _ _ _)›).out)))))).mono ?_
  rintro e w1 ⟨rfl, hb1⟩
  rw [H0.out]
  obtain ⟨hc, hf⟩ := BelowKit.bcell hb1
  have c0 : w1.cell? ⟨w.heap.size, 0, none⟩ = some (.slice p m cap) := (hc _ _ (by first | omega | (simp; done) | (simp; omega))).trans (by simp [go_sem])
  have z0 : w.heap.size + 1 < w1.heap.size := by have := hb1.size; simp at this; omega
  have HB1 := Lib.hid (show Below w.heap.size w w1 from BelowKit.bl_trans (by (repeat (first | exact Below.refl _ _ | apply BelowKit.bl_alloc | apply BelowKit.bl_drewN | apply BelowKit.bl_drew | (refine BelowKit.bl_set ?_ _ ?_; rotate_left; (first | omega | (simp; omega) | simp)) | (refine BelowKit.bl_trans ?_ (‹Hid (Below _ _ _)›).out)))) hb1)
  have OW0 := Lib.hid (show Row1.Owns IntRow.fI w1 (w.heap.size + 1) 3 (.slice (some ⟨w.heap.size + 1, 0, none⟩) 0 0) [] by simpa using (Row1.Owns.made (f := IntRow.fI) (w.alloc (.cells #[.slice p m cap] 26)) (w.heap.size + 1) 3 (by simp)).on hb1)
  clear hc hf hb1
  cases b0 with
  | false =>
    have E := Lib.hid (HNO.out (by rw [H0.out]; simp))
    go_wp2
    go_ret
    rw [E.out]
    exact ⟨some ⟨w.heap.size + 1, 0, none⟩, 0, rfl, (OW0.out.base (by omega)), HB1.out⟩
  | true =>
  go_wp2_with fail
  refine (in_c _ _ _ _).mono ?_
  rintro e w' ⟨rfl, rfl⟩
  rw [H1.out]
  cases b1 with
  | false =>
    have E := Lib.hid (HNO.out (by rw [H1.out]; simp))
    go_wp2
    go_ret
    rw [E.out]
    exact ⟨some ⟨w.heap.size + 1, 0, none⟩, 0, rfl, (OW0.out.base (by omega)), HB1.out⟩
  | true =>
  go_wp2_with fail
  refine (ok_s _ _).mono ?_
  rintro e w' ⟨rfl, rfl⟩
  rw [H2.out]
  cases b2 with
  | false =>
    have E := Lib.hid (HNO.out (by rw [H2.out]; simp))
    go_wp2
    go_ret
    rw [E.out]
    exact ⟨some ⟨w.heap.size + 1, 0, none⟩, 0, rfl, (OW0.out.base (by omega)), HB1.out⟩
  | true =>
  go_wp2_with fail
  refine (ok_s _ _).mono ?_
  rintro e w' ⟨rfl, rfl⟩
  rw [H3.out]
  cases b3 with
  | false =>
    have E := Lib.hid (HNO.out (by rw [H3.out]; simp))
    go_wp2
    go_ret
    rw [E.out]
    exact ⟨some ⟨w.heap.size + 1, 0, none⟩, 0, rfl, (OW0.out.base (by omega)), HB1.out⟩
  | true =>
  have E := Lib.hid (HYES.out H0.out H1.out H2.out H3.out)
  clear HNO HYES
  go_wp2
  go_loopw [9, 10] (fun s i wr => ∃ j : Nat, j ≤ 3600 ∧ i = .int .i64 (j : Int) ∧ wr.cell? ⟨w.heap.size, 0, none⟩ = some (.slice p m cap) ∧ w.heap.size + 1 < wr.heap.size ∧ Hid (Row1.Owns IntRow.fI wr (w.heap.size + 1) 3 s (monthsTo key a b l j)) ∧ Hid (Below w.heap.size w wr)) (fun _ i _ => 3600 - (intOf i).toNat)
  case atStart => exact ⟨0, by omega, rfl, c0, z0, Lib.hid (by rw [monthsTo_zero]; exact OW0.out), HB1⟩
  case round =>
    obtain ⟨j, hj, rfl, hc0, hz0, HO, HB⟩ := hrel
    by_cases hlt : j < 3600
    · have HK := Lib.hid (monthsTo_succ key a b l j)
      have HL := monthsTo_len key a b l j
      generalize monthsTo key a b l j = r at HO HK HL
      have bb1 : (0 : Int) ≤ (j : Int) := by omega
      have bb2 : (j : Int) < 3600 := by omega
      obtain ⟨⟨x, o1⟩, hx⟩ : ∃ V, val key (j : Int) a l = V := ⟨_, rfl⟩
      obtain ⟨⟨y, o2⟩, hy⟩ : ∃ V, val key (j : Int) b l = V := ⟨_, rfl⟩
      have HX := Lib.hid hx
      have HY := Lib.hid hy
      have HD : Hid (FactMath.differ key a b l (j : Int) = decide ((x, o1) ≠ (y, o2))) := Lib.hid (by unfold FactMath.differ; rw [hx, hy])
      clear hx hy
      go_wp2_with fail
      refine (ValueAt.val_s _ p m cap l key (j : Int) a HM.out (by omega) (KK.out.on HB.out)).mono ?_
      rintro e w2 ⟨rfl, hb2⟩
      rw [HX.out]
      obtain ⟨hc, hf⟩ := BelowKit.bcell hb2
      have c2 := (hc _ 0 (by omega)).trans hc0
      have z2 : w.heap.size + 1 < w2.heap.size := Nat.lt_of_lt_of_le hz0 hb2.size
      have HO2 := Lib.hid (HO.out.on hb2)
      have HB2 := Lib.hid (BelowKit.bl_trans HB.out hb2)
      clear hc hf hb2 hc0 hz0 HO HB
      go_wp2_with fail
      refine (ValueAt.val_s _ p m cap l key (j : Int) b HM.out (by omega) (KK.out.on HB2.out)).mono ?_
      rintro e w3 ⟨rfl, hb3⟩
      rw [HY.out]
      obtain ⟨hc, hf⟩ := BelowKit.bcell hb3
      have c3 := (hc _ 0 (by omega)).trans c2
      have z3 : w.heap.size + 1 < w3.heap.size := Nat.lt_of_lt_of_le z2 hb3.size
      have HO3 := Lib.hid (HO2.out.on hb3)
      have HB3 := Lib.hid (BelowKit.bl_trans HB2.out hb3)
      clear hc hf hb3 c2 z2 HO2 HB2
      by_cases hsame : (x, o1) = (y, o2)
      · have EK := Lib.hid (show monthsTo key a b l (j + 1) = r by rw [HK.out, HD.out, decide_eq_false (by simp [hsame])]; simp)
        simp only [Prod.mk.injEq] at hsame
        obtain ⟨rfl, rfl⟩ := hsame
        clear HX HY HD HK
        cases o1 <;> (
          go_wp2
          go_roundw
          case rel => exact ⟨j + 1, by omega, by go_num, c3, z3, by rw [EK.out]; exact HO3, HB3⟩
          case measure => simp [intOf]; omega)
      · have EK := Lib.hid (show monthsTo key a b l (j + 1) = r ++ [(j : Int)] by rw [HK.out, HD.out, decide_eq_true hsame]; simp)
        clear HX HY HD HK
        have hcase : (!(x == y)) = true ∨ (x = y ∧ o1 = !o2) := by
          by_cases hxy : x = y
          · right
            refine ⟨hxy, ?_⟩
            cases o1 <;> cases o2 <;> simp_all
          · left; simp [hxy]
        clear hsame
        have step : ∀ v' (w5 : World), Row1.Owns IntRow.fI w5 (w.heap.size + 1) 3 v' (r ++ [(j : Int)]) → (w3.alloc (.cells #[.int .i64 (j : Int)] 3)).grownBy w5 (u9.ownBlock) → w5.cell? ⟨w.heap.size, 0, none⟩ = some (.slice p m cap) ∧ w.heap.size + 1 < w5.heap.size ∧ Below w.heap.size w w5 := fun v' w5 _ hg => by
          have hlow := HO3.out.low
          have h35 : Below (w.heap.size + 1) w3 w5 := ((Below.refl _ _).alloc (by omega) _).grown hg (by first | omega | (simp; done) | (simp; omega)) hlow
          exact ⟨(h35.cell (p := ⟨w.heap.size, 0, none⟩) (by show w.heap.size < _; omega)).trans c3, Nat.lt_of_lt_of_le z3 h35.size, HB3.out.trans (h35.mono (by omega))⟩
        have STEP := Lib.hid step
        clear step
        rcases hcase with hxy | ⟨rfl, rfl⟩
        · have hxy' : ¬ x = y := by simpa using hxy
          go_wp2_with (at_builtin; refine Fresh.pause ?_)
          refine ⟨?_⟩
          refine Row1.wpList_append1 IntRow.it (Row1.one_int _) _ rfl (.tmp 63) (.tmp 65) rfl (w.heap.size + 1) _ r rfl (HO3.out.alloc _) w3.heap.size 1 1 [(j : Int)] rfl rfl (heap_alloc_new w3 _) (by simp; omega) (by simp; omega) ?_
          intro v' w5 hown5 hg5
          obtain ⟨c5, z5, hb5⟩ := STEP.out _ _ hown5 hg5
          have HO5 := Lib.hid hown5
          have HB5 := Lib.hid hb5
          clear hown5 hg5 hb5
          go_wp2
          go_roundw
          case rel => exact ⟨j + 1, by omega, by go_num, c5, z5, by rw [EK.out]; exact HO5, HB5⟩
          case measure => simp [intOf]; omega
        · cases o2 with
          | false =>
            go_wp2_with (at_builtin; refine Fresh.pause ?_)
            refine ⟨?_⟩
            refine Row1.wpList_append1 IntRow.it (Row1.one_int _) _ rfl (.tmp 63) (.tmp 65) rfl (w.heap.size + 1) _ r rfl (HO3.out.alloc _) w3.heap.size 1 1 [(j : Int)] rfl rfl (heap_alloc_new w3 _) (by simp; omega) (by simp; omega) ?_
            intro v' w5 hown5 hg5
            obtain ⟨c5, z5, hb5⟩ := STEP.out _ _ hown5 hg5
            have HO5 := Lib.hid hown5
            have HB5 := Lib.hid hb5
            clear hown5 hg5 hb5
            go_wp2
            go_roundw
            case rel => exact ⟨j + 1, by omega, by go_num, c5, z5, by rw [EK.out]; exact HO5, HB5⟩
            case measure => simp [intOf]; omega
          | true =>
            go_wp2_with (at_builtin; refine Fresh.pause ?_)
            refine ⟨?_⟩
            refine Row1.wpList_append1 IntRow.it (Row1.one_int _) _ rfl (.tmp 63) (.tmp 65) rfl (w.heap.size + 1) _ r rfl (HO3.out.alloc _) w3.heap.size 1 1 [(j : Int)] rfl rfl (heap_alloc_new w3 _) (by simp; omega) (by simp; omega) ?_
            intro v' w5 hown5 hg5
            obtain ⟨c5, z5, hb5⟩ := STEP.out _ _ hown5 hg5
            have HO5 := Lib.hid hown5
            have HB5 := Lib.hid hb5
            clear hown5 hg5 hb5
            go_wp2
            go_roundw
            case rel => exact ⟨j + 1, by omega, by go_num, c5, z5, by rw [EK.out]; exact HO5, HB5⟩
            case measure => simp [intOf]; omega
    · obtain rfl : j = 3600 := by omega
      obtain ⟨p5, c5, hform, _⟩ := HO.out.form
      subst hform
      go_wp2
      go_ret
      rw [E.out]
      exact ⟨p5, c5, rfl, HO.out.base (by omega), HB.out⟩
theorem ch_ri (w : World) (p : Option Addr) (m cap : Nat) (l : List Fa) (key a b : Int) (hm : l.length = m) (hs : m ≤ 1048576) (h : ReadsF w p l) :
    Calls Try.prog 20 #[.agg #[.slice p m cap], .int .i64 key, .int .i64 a, .int .i64 b] w (TInt.IsRow (changed l key a b) w) :=
  (ch_i w p m cap l key a b hm hs h).mono fun _ _ h => TInt.row_of h
theorem ch_rs (w : World) (p : Option Addr) (m cap : Nat) (l : List Fa) (key a b : Int) (hm : l.length = m) (hs : m ≤ 1048576) (h : ReadsF w p l) :
    Calls Try.prog 32 #[.agg #[.slice p m cap], .int .i64 key, .int .i64 a, .int .i64 b] w (TInt.IsRow (changed l key a b) w) :=
  (ch_s w p m cap l key a b hm hs h).mono fun _ _ h => TInt.row_of h
end Go.Proofs.Ythilfkcebbnoiaa.Changed

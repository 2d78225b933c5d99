/- Contract of the program's IndexRatio: the quotient of two indexes. -/
import Derived.Test.YtpgcdelmfbegpaaRows
import Derived.Test.YtpgcdelmfbegpaaIdxI
import Derived.Test.YtpgcdelmfbegpaaRatioMath
import Derived.Test.YtpgcdelmfbegpaaFracI
namespace Go.Proofs.Ytpgcdelmfbegpaa.RatioI
open Go.RowKit RowN TPoint PointMath Box IdxS IdxI RatioMath FracMath FracMake
set_option maxHeartbeats 4000000 in
theorem ratio_i (w : World) (p : Option Addr) (m cap : Nat) (l : List El) (a b kn : Int) (hm : l.length = m) (hs : m ≤ 1099511627776) (h : Reads fc 3 w p l) :
    Calls Try.prog 19 #[.agg #[.slice p m cap], .int .i64 a, .int .i64 b, .int .i64 kn] w (IsFrac (ratio a b kn l) w) := by
  have KK := Lib.hid h
  have HM := Lib.hid hm
  obtain ⟨R, hR⟩ : ∃ R, ratio a b kn l = R := ⟨_, rfl⟩
  rw [hR]
  unfold ratio at hR
  obtain ⟨⟨x, o1⟩, e1⟩ : ∃ r, idx a kn l = r := ⟨_, rfl⟩
  obtain ⟨⟨y, o2⟩, e2⟩ : ∃ r, idx b kn l = r := ⟨_, rfl⟩
  rw [e1, e2] at hR
  have HR := Lib.hid hR
  have E1 := Lib.hid e1
  have E2 := Lib.hid e2
  clear h hm hR e1 e2
  go_enter Try.func19, Try.ntmps19
  go_wp2_with fail
  obtain ⟨W, hW⟩ : ∃ W, W = (w.alloc (.cells #[.slice p m cap] 26)).alloc (.cells #[.int .i64 0, .int .i64 0] 44) := ⟨_, rfl⟩
  rw [← hW]
  have hbW : Below w.heap.size w W := by rw [hW]; (repeat (first | exact Below.refl _ _ | apply BelowKit.bl_alloc | apply BelowKit.bl_drewN | apply BelowKit.bl_drew | (refine BelowKit.bl_set ?_ _ ?_; rotate_left; (first | omega | (simp; omega) | simp)) | (refine BelowKit.bl_trans ?_ (‹Hid (Below _ _ _)›).out)))
  have hzW : W.heap.size = w.heap.size + 1 + 1 := by rw [hW]; simp
  have c0 : W.cell? ⟨w.heap.size, 0, none⟩ = some (.slice p m cap) := by rw [hW]; simp [go_sem]
  have d0 : W.cell? ⟨w.heap.size + 1, 0, none⟩ = some (.int .i64 0) := by rw [hW]; simp [go_sem]
  have d1 : W.cell? ⟨w.heap.size + 1, 1, none⟩ = some (.int .i64 0) := by rw [hW]; simp [go_sem]
  have f0 : W.frozen? ⟨w.heap.size + 1, 0, none⟩ = false := by rw [hW]; simp [go_sem]
  have f1 : W.frozen? ⟨w.heap.size + 1, 1, none⟩ = false := by rw [hW]; simp [go_sem]
  have HBW := Lib.hid hbW
  clear hW hbW
  refine (idx_i _ p m cap l a kn HM.out hs (KK.out.on HBW.out)).mono ?_
  rintro e w1 ⟨rfl, hb⟩
  rw [E1.out]
  obtain ⟨hc, hf⟩ := BelowKit.bcell hb
  have z1 := hb.size
  have c0' := (hc w.heap.size 0 (by omega)).trans c0
  have d0' := (hc (w.heap.size + 1) 0 (by omega)).trans d0
  have d1' := (hc (w.heap.size + 1) 1 (by omega)).trans d1
  have f0' := (hf (w.heap.size + 1) 0 (by omega)).trans f0
  have f1' := (hf (w.heap.size + 1) 1 (by omega)).trans f1
  have HB1 := Lib.hid (BelowKit.bl_trans HBW.out hb)
  have zz1 : w.heap.size + 1 < w1.heap.size := by omega
  clear hb hc hf c0 d0 d1 f0 f1 z1
  go_wp2_with fail
  refine (idx_i _ p m cap l b kn HM.out hs (KK.out.on HB1.out)).mono ?_
  rintro e w2 ⟨rfl, hb⟩
  rw [E2.out]
  obtain ⟨hc, hf⟩ := BelowKit.bcell hb
  have z1 := hb.size
  have d0 := (hc (w.heap.size + 1) 0 (by omega)).trans d0'
  have d1 := (hc (w.heap.size + 1) 1 (by omega)).trans d1'
  have f0 := (hf (w.heap.size + 1) 0 (by omega)).trans f0'
  have f1 := (hf (w.heap.size + 1) 1 (by omega)).trans f1'
  have HB2 := Lib.hid (BelowKit.bl_trans HB1.out hb)
  have zz2 : w.heap.size + 1 < w2.heap.size := by omega
  clear hb hc hf c0' d0' d1' f0' f1' z1 zz1 hzW
  by_cases ho : o1 = true ∧ o2 = true
  case neg =>
    have E := Lib.hid (HR.out.symm.trans (if_neg ho))
    have hcase : o1 = false ∨ (o1 = true ∧ o2 = false) := by cases o1 <;> cases o2 <;> simp_all
    clear ho HR
    rcases hcase with rfl | ⟨rfl, rfl⟩
    all_goals
      go_wp2
      refine bodyPost_ret (v := .tuple #[.agg #[.int .i64 0, .int .i64 0], .bool false]) (by simp [results, Try.results19, go_sem, d0, d1]) rfl ?_
      rw [E.out]
      exact ⟨rfl, by (repeat (first | exact Below.refl _ _ | apply BelowKit.bl_alloc | apply BelowKit.bl_drewN | apply BelowKit.bl_drew | (refine BelowKit.bl_set ?_ _ ?_; rotate_left; (first | omega | (simp; omega) | simp)) | (refine BelowKit.bl_trans ?_ (‹Hid (Below _ _ _)›).out)))⟩
  case pos =>
    obtain ⟨rfl, rfl⟩ := ho
    have hE := HR.out.symm.trans (if_pos ⟨rfl, rfl⟩)
    obtain ⟨⟨u, v, q⟩, hr⟩ : ∃ r, newR y x = r := ⟨_, rfl⟩
    have E := Lib.hid (hE.trans hr)
    have HRR := Lib.hid hr
    clear hE hr HR
    go_wp2_with fail
    refine (FracI.new_i y x _).mono ?_
    rintro e w3 ⟨rfl, hb⟩
    rw [HRR.out]
    obtain ⟨hc, hf⟩ := BelowKit.bcell hb
    have z1 := hb.size
    have d0' := (hc (w.heap.size + 1) 0 (by omega)).trans d0
    have d1' := (hc (w.heap.size + 1) 1 (by omega)).trans d1
    have f0' := (hf (w.heap.size + 1) 0 (by omega)).trans f0
    have f1' := (hf (w.heap.size + 1) 1 (by omega)).trans f1
    have HB3 := Lib.hid (BelowKit.bl_trans HB2.out hb)
    have zz3 : w.heap.size + 1 < w3.heap.size := by omega
    clear hb hc hf d0 d1 f0 f1 z1 zz2 HB2 HB1 HBW
    go_wp2
    refine bodyPost_ret (v := .tuple #[.agg #[.int .i64 u, .int .i64 v], .bool q]) (by simp [results, Try.results19, go_sem, d0', d1']) rfl ?_
    rw [E.out]
    exact ⟨rfl, by (repeat (first | exact Below.refl _ _ | apply BelowKit.bl_alloc | apply BelowKit.bl_drewN | apply BelowKit.bl_drew | (refine BelowKit.bl_set ?_ _ ?_; rotate_left; (first | omega | (simp; omega) | simp)) | (refine BelowKit.bl_trans ?_ (‹Hid (Below _ _ _)›).out)))⟩
end Go.Proofs.Ytpgcdelmfbegpaa.RatioI

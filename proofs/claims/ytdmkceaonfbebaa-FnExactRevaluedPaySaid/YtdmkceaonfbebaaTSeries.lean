/- Contracts of the laws' helpers on Series (a struct of one slice of Point). Written by gen_box.py. -/
import Derived.Test.YtdmkceaonfbebaaRows
import Derived.Test.YtdmkceaonfbebaaTPoint
import Derived.Test.YtdmkceaonfbebaaKit
namespace Go.Proofs.Ytdmkceaonfbebaa.TSeries
open Go.RowKit RowN TPoint

/-- The answer is a Series with the elements l in new memory. -/
def IsSto (l : List El) (w : World) (e : Ending) (w' : World) : Prop := ∃ p c, e = .returned (.agg #[.slice p l.length c]) ∧ Owns fc 3 w' w.heap.size T (.slice p l.length c) l ∧ Below w.heap.size w w'
set_option maxHeartbeats 1000000 in
theorem to_c (w : World) (a : Option Addr) (m cap : Nat) (l : List El) (hm : l.length = m) (hs : m ≤ 1099511627776) (h : Reads fc 3 w a l) :
    Calls Try.prog 30 #[.agg #[.slice a m cap]] w (IsSto l w) := by
  have KK := Lib.hid h
  have HM := Lib.hid hm
  clear h hm
  go_enter Try.func30, Try.ntmps30
  go_wp2_with fail
  refine (TPoint.to_c _ a m cap l HM.out hs (KK.out.on (by (repeat (first | exact Below.refl _ _ | apply BelowKit.bl_alloc | apply BelowKit.bl_drewN | apply BelowKit.bl_drew | (refine BelowKit.bl_set ?_ _ ?_; rotate_left; (first | omega | (simp; omega) | simp)) | (refine BelowKit.bl_trans ?_ (‹Hid (Below _ _ _)›).out)))))).mono ?_
  rintro e w1 ⟨p, cc, rfl, ho, hb⟩
  rw [HM.out] at ho ⊢
  obtain ⟨hc, hf⟩ := BelowKit.bcell hb
  have hz := hb.size
  simp at hz
  have HB := Lib.hid hb
  have HO := Lib.hid (ho.base (B' := w.heap.size) (by simp; omega))
  have HW := Lib.hid ho.low
  have q0 : w1.cell? ⟨w.heap.size + 1, 0, none⟩ = some (.slice none 0 0) := (hc (w.heap.size + 1) 0 (by simp)).trans (by simp [go_sem])
  clear hb ho
  go_wp2
  refine bodyPost_ret (v := .agg #[.slice p m cc]) (by simp [results, Try.results30, q0, go_sem]) rfl ⟨p, cc, ?_, ?_, ?_⟩
  · rw [HM.out]
  · rw [HM.out]
    refine (HO.out.beside (fun e => ?_) _).beside (fun e => ?_) _
    · have := HW.out _ e; simp at this; omega
    · have := HW.out _ e; simp at this; omega
  · (repeat (first | exact Below.refl _ _ | apply BelowKit.bl_alloc | apply BelowKit.bl_drewN | apply BelowKit.bl_drew | (refine BelowKit.bl_set ?_ _ ?_; rotate_left; (first | omega | (simp; omega) | simp)) | (refine BelowKit.bl_trans ?_ (‹Hid (Below _ _ _)›).out)))
set_option maxHeartbeats 1000000 in
theorem eq_c (w : World) (m c1 c2 : Nat) (a1 a2 : Option Addr) (l : List El) (hm : l.length = m) (hs : m ≤ 1099511627776) (h1 : Reads fc 3 w a1 l) (h2 : Reads fc 3 w a2 l) :
    Calls Try.prog 31 #[.agg #[.slice a1 m c1], .agg #[.slice a2 m c2]] w (IsBo true w) := by
  have K1 := Lib.hid h1
  have K2 := Lib.hid h2
  have HM := Lib.hid hm
  clear h1 h2 hm
  go_enter Try.func31, Try.ntmps31
  go_wp2_with fail
  refine (TPoint.eq_c _ m c1 c2 a1 a2 l HM.out hs (K1.out.on (by (repeat (first | exact Below.refl _ _ | apply BelowKit.bl_alloc | apply BelowKit.bl_drewN | apply BelowKit.bl_drew | (refine BelowKit.bl_set ?_ _ ?_; rotate_left; (first | omega | (simp; omega) | simp)) | (refine BelowKit.bl_trans ?_ (‹Hid (Below _ _ _)›).out))))) (K2.out.on (by (repeat (first | exact Below.refl _ _ | apply BelowKit.bl_alloc | apply BelowKit.bl_drewN | apply BelowKit.bl_drew | (refine BelowKit.bl_set ?_ _ ?_; rotate_left; (first | omega | (simp; omega) | simp)) | (refine BelowKit.bl_trans ?_ (‹Hid (Below _ _ _)›).out)))))).mono ?_
  rintro e w1 ⟨rfl, hb⟩
  have HB := Lib.hid hb
  clear hb
  go_wp2
  go_ret
  exact ⟨rfl, by (repeat (first | exact Below.refl _ _ | apply BelowKit.bl_alloc | apply BelowKit.bl_drewN | apply BelowKit.bl_drew | (refine BelowKit.bl_set ?_ _ ?_; rotate_left; (first | omega | (simp; omega) | simp)) | (refine BelowKit.bl_trans ?_ (‹Hid (Below _ _ _)›).out)))⟩
theorem sz_c (w : World) (a : Option Addr) (m cap : Nat) (k : Int) (hs : m ≤ 9223372036854775807) (hk0 : 0 ≤ k) (hk1 : k ≤ 1099511627776) :
    Calls Try.prog 28 #[.agg #[.slice a m cap], .int .i64 k] w (fun e w' => e = .returned (.int .i64 (if k < (m : Int) then -1 else k - (m : Int))) ∧ Below w.heap.size w w') := by
  by_cases hb : k < (m : Int)
  · rw [if_pos hb]
    have HB := Lib.hid hb
    go_enter Try.func28, Try.ntmps28
    go_wp2_with fail
    refine (TPoint.sz_c _ a m cap k hs hk0 hk1).mono ?_
    rintro e w1 ⟨rfl, hb1⟩
    have HB1 := Lib.hid hb1
    clear hb1
    rw [if_pos HB.out]
    go_wp2
    go_ret
    exact ⟨rfl, by (repeat (first | exact Below.refl _ _ | apply BelowKit.bl_alloc | apply BelowKit.bl_drewN | apply BelowKit.bl_drew | (refine BelowKit.bl_set ?_ _ ?_; rotate_left; (first | omega | (simp; omega) | simp)) | (refine BelowKit.bl_trans ?_ (‹Hid (Below _ _ _)›).out)))⟩
  · rw [if_neg hb]
    have HB := Lib.hid hb
    go_enter Try.func28, Try.ntmps28
    go_wp2_with fail
    refine (TPoint.sz_c _ a m cap k hs hk0 hk1).mono ?_
    rintro e w1 ⟨rfl, hb1⟩
    have HB1 := Lib.hid hb1
    clear hb1
    rw [if_neg (by have := HB.out; omega)]
    go_wp2
    go_ret
    exact ⟨rfl, by (repeat (first | exact Below.refl _ _ | apply BelowKit.bl_alloc | apply BelowKit.bl_drewN | apply BelowKit.bl_drew | (refine BelowKit.bl_set ?_ _ ?_; rotate_left; (first | omega | (simp; omega) | simp)) | (refine BelowKit.bl_trans ?_ (‹Hid (Below _ _ _)›).out)))⟩
end Go.Proofs.Ytdmkceaonfbebaa.TSeries

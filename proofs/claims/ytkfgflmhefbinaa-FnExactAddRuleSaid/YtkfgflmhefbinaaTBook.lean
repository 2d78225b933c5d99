/- Contracts of the laws' helpers on Book (a struct of one slice of Rule, the nodes behind). -/
import Derived.Test.YtkfgflmhefbinaaRows
import Derived.Test.YtkfgflmhefbinaaTRule
import Derived.Test.YtkfgflmhefbinaaKit
namespace Go.Proofs.Ytkfgflmhefbinaa.TBook
open Go.RowKit RowN TRule
/-- All of a book's rules have few nodes. -/
def Few (rs : List Ru) : Prop := ∀ j (h : j < rs.length), rs[j].Nodes.length ≤ 1099511627776
/-- The answer is a book with the rules rs in new memory. -/
def IsSto (rs : List Ru) (w : World) (e : Ending) (w' : World) : Prop := ∃ p c, e = .returned (.agg #[.slice p rs.length c]) ∧ OwD w' w.heap.size w'.heap.size (.slice p rs.length c) rs ∧ Below w.heap.size w w'
theorem rows_c (w : World) (a : Option Addr) (m cap : Nat) (rs : List Ru) (hm : rs.length = m) (hs : m ≤ 1099511627776) (hn : Few rs) (h : RdD w a rs) :
    Calls Try.prog 75 #[.slice a m cap] w (TRule.IsRow rs w) := by
  obtain ⟨xs, rfl, h0⟩ := h
  exact TRule.to_c w a m cap xs (by simpa using hm) hs (fun j hj => by have := hn j (by simpa using hj); simpa using this) h0
set_option maxHeartbeats 1000000 in
theorem to_c (w : World) (a : Option Addr) (m cap : Nat) (rs : List Ru) (hm : rs.length = m) (hs : m ≤ 1099511627776) (hn : Few rs) (h : RdD w a rs) :
    Calls Try.prog 35 #[.agg #[.slice a m cap]] w (IsSto rs w) := by
  have KK := Lib.hid h
  have HM := Lib.hid hm
  have HN := Lib.hid hn
  clear h hm hn
  go_enter Try.func35, Try.ntmps35
  go_wp2_with fail
  refine (rows_c _ a m cap rs HM.out hs HN.out (KK.out.on (by (repeat (first | exact Below.refl _ _ | apply BelowKit.bl_alloc | apply BelowKit.bl_drewN | apply BelowKit.bl_drew | (refine BelowKit.bl_set ?_ _ ?_; rotate_left; (first | omega | (simp; omega) | simp)) | (refine BelowKit.bl_trans ?_ (‹Hid (Below _ _ _)›).out)))))).mono ?_
  rintro e w1 ⟨p, cc, rfl, ho, hb⟩
  rw [HM.out] at ho ⊢
  obtain ⟨hc, hf⟩ := BelowKit.bcell hb
  have hz := hb.size
  simp at hz
  have HB := Lib.hid (show Below w.heap.size w w1 from BelowKit.bl_trans (by (repeat (first | exact Below.refl _ _ | apply BelowKit.bl_alloc | apply BelowKit.bl_drewN | apply BelowKit.bl_drew | (refine BelowKit.bl_set ?_ _ ?_; rotate_left; (first | omega | (simp; omega) | simp)) | (refine BelowKit.bl_trans ?_ (‹Hid (Below _ _ _)›).out)))) hb)
  have HO := Lib.hid ho
  have q0 : w1.cell? ⟨w.heap.size + 1, 0, none⟩ = some (.slice none 0 0) := (hc (w.heap.size + 1) 0 (by simp)).trans (by simp [go_sem])
  have r0 : w1.frozen? ⟨w.heap.size + 1, 0, none⟩ = false := (hf (w.heap.size + 1) 0 (by simp)).trans (by simp [go_sem])
  have q1 : w1.cell? ⟨w.heap.size + 1 + 1, 0, none⟩ = some (.slice none 0 0) := (hc (w.heap.size + 1 + 1) 0 (by simp)).trans (by simp [go_sem])
  have r1 : w1.frozen? ⟨w.heap.size + 1 + 1, 0, none⟩ = false := (hf (w.heap.size + 1 + 1) 0 (by simp)).trans (by simp [go_sem])
  clear hb ho hc hf
  go_wp2
  refine bodyPost_ret (v := .agg #[.slice p m cc]) (by simp [results, Try.results35, q0, go_sem]) rfl ⟨p, cc, ?_, ?_, ?_⟩
  · rw [HM.out]
  · rw [HM.out]
    refine (OwD.base ((HO.out.box (.inl (by simp)) _).box (.inl (by simp)) _) (by simp; omega)).up ?_ ?_
    · simp
    · simp
  · (repeat (first | exact Below.refl _ _ | apply BelowKit.bl_alloc | apply BelowKit.bl_drewN | apply BelowKit.bl_drew | (refine BelowKit.bl_set ?_ _ ?_; rotate_left; (first | omega | (simp; omega) | simp)) | (refine BelowKit.bl_trans ?_ (‹Hid (Below _ _ _)›).out)))
set_option maxHeartbeats 1000000 in
theorem eq_c (w : World) (m c1 c2 : Nat) (a1 a2 : Option Addr) (rs : List Ru) (hm : rs.length = m) (hs : m ≤ 1099511627776) (hn : Few rs) (h1 : RdD w a1 rs) (h2 : RdD w a2 rs) :
    Calls Try.prog 36 #[.agg #[.slice a1 m c1], .agg #[.slice a2 m c2]] w (IsBo true w) := by
  have K1 := Lib.hid h1
  have K2 := Lib.hid h2
  have HM := Lib.hid hm
  have HN := Lib.hid hn
  clear h1 h2 hm hn
  go_enter Try.func36, Try.ntmps36
  go_wp2_with fail
  refine (TRule.eq_c _ m c1 c2 a1 a2 rs HM.out hs HN.out (K1.out.on (by (repeat (first | exact Below.refl _ _ | apply BelowKit.bl_alloc | apply BelowKit.bl_drewN | apply BelowKit.bl_drew | (refine BelowKit.bl_set ?_ _ ?_; rotate_left; (first | omega | (simp; omega) | simp)) | (refine BelowKit.bl_trans ?_ (‹Hid (Below _ _ _)›).out))))) (K2.out.on (by (repeat (first | exact Below.refl _ _ | apply BelowKit.bl_alloc | apply BelowKit.bl_drewN | apply BelowKit.bl_drew | (refine BelowKit.bl_set ?_ _ ?_; rotate_left; (first | omega | (simp; omega) | simp)) | (refine BelowKit.bl_trans ?_ (‹Hid (Below _ _ _)›).out)))))).mono ?_
  rintro e w1 ⟨rfl, hb⟩
  have HB := Lib.hid hb
  clear hb
  go_wp2
  go_ret
  exact ⟨rfl, by (repeat (first | exact Below.refl _ _ | apply BelowKit.bl_alloc | apply BelowKit.bl_drewN | apply BelowKit.bl_drew | (refine BelowKit.bl_set ?_ _ ?_; rotate_left; (first | omega | (simp; omega) | simp)) | (refine BelowKit.bl_trans ?_ (‹Hid (Below _ _ _)›).out)))⟩
set_option maxHeartbeats 1000000 in
theorem mark_m (w : World) (lo hi : Nat) (a : Option Addr) (m cap : Nat) (rs : List Ru) (k : Int) (hm : rs.length = m) (hs : m ≤ 1099511627776) (hn : Few rs) (hk0 : 0 ≤ k) (hk1 : k + tot rs ≤ 1099511627776) (h : OwD w lo hi (.slice a m cap) rs) (hlo : lo ≤ w.heap.size) :
    Calls Try.prog 38 #[.agg #[.slice a m cap], .int .i64 k] w (Marked lo hi (.slice a m cap) (marks k rs) (k + tot rs) w) := by
  have KK := Lib.hid h
  have HM := Lib.hid hm
  have HN := Lib.hid hn
  have HLO := Lib.hid hlo
  have HK1 := Lib.hid hk1
  clear h hm hn hlo hk1
  go_enter Try.func38, Try.ntmps38
  go_wp2_with fail
  refine (TRule.mark_c _ lo hi a m cap rs k HM.out hs HN.out hk0 HK1.out (KK.out.on (by (repeat (first | exact Below.refl _ _ | apply BelowKit.bl_alloc | apply BelowKit.bl_drewN | apply BelowKit.bl_drew | (refine BelowKit.bl_set ?_ _ ?_; rotate_left; (first | omega | (simp; omega) | simp)) | (refine BelowKit.bl_trans ?_ (‹Hid (Below _ _ _)›).out))))) (Nat.le_trans HLO.out (by simp))).mono ?_
  rintro e w1 ⟨rfl, ho, hg⟩
  have HO := Lib.hid ho
  have HG := Lib.hid hg
  clear ho hg
  go_wp2
  go_ret
  exact ⟨rfl, HO.out, (Own.Mid.of_below (by (repeat (first | exact Below.refl _ _ | apply BelowKit.bl_alloc | apply BelowKit.bl_drewN | apply BelowKit.bl_drew | (refine BelowKit.bl_set ?_ _ ?_; rotate_left; (first | omega | (simp; omega) | simp)) | (refine BelowKit.bl_trans ?_ (‹Hid (Below _ _ _)›).out)))) HLO.out).trans HG.out⟩
set_option maxHeartbeats 1000000 in
theorem held_c (w : World) (a : Option Addr) (m cap : Nat) (rs : List Ru) (k : Int) (hm : rs.length = m) (hs : m ≤ 1099511627776) (hn : Few rs) (hk0 : 0 ≤ k) (hk1 : k + tot rs ≤ 1099511627776) (h : RdD w a (marks k rs)) :
    Calls Try.prog 40 #[.agg #[.slice a m cap], .int .i64 k] w (fun e w' => e = .returned (.int .i64 (k + tot rs)) ∧ Below w.heap.size w w') := by
  have KK := Lib.hid h
  have HM := Lib.hid hm
  have HN := Lib.hid hn
  have HK1 := Lib.hid hk1
  have hp : 0 ≤ k + tot rs := by have := tot_pos rs; omega
  clear h hm hn hk1
  go_enter Try.func40, Try.ntmps40
  go_wp2_with fail
  refine (TRule.held_c _ a m cap rs k HM.out hs HN.out hk0 HK1.out (KK.out.on (by (repeat (first | exact Below.refl _ _ | apply BelowKit.bl_alloc | apply BelowKit.bl_drewN | apply BelowKit.bl_drew | (refine BelowKit.bl_set ?_ _ ?_; rotate_left; (first | omega | (simp; omega) | simp)) | (refine BelowKit.bl_trans ?_ (‹Hid (Below _ _ _)›).out)))))).mono ?_
  rintro e w1 ⟨rfl, hb⟩
  have HB := Lib.hid hb
  obtain ⟨z, hz⟩ : ∃ z, k + tot rs = z := ⟨_, rfl⟩
  rw [hz] at hp ⊢
  have HZ := Lib.hid hz
  clear hb hz
  go_wp2
  go_ret
  exact ⟨by rw [HZ.out]; rfl, by (repeat (first | exact Below.refl _ _ | apply BelowKit.bl_alloc | apply BelowKit.bl_drewN | apply BelowKit.bl_drew | (refine BelowKit.bl_set ?_ _ ?_; rotate_left; (first | omega | (simp; omega) | simp)) | (refine BelowKit.bl_trans ?_ (‹Hid (Below _ _ _)›).out)))⟩
theorem sz_c (w : World) (a : Option Addr) (m cap : Nat) (k : Int) (rs : List Ru) (hm : rs.length = m) (hs : m ≤ 9223372036854775807) (hn : ∀ j (h : j < rs.length), rs[j].Nodes.length ≤ 9223372036854775807) (hk0 : 0 ≤ k) (hk1 : k ≤ 1099511627776) (h : RdD w a rs) :
    Calls Try.prog 33 #[.agg #[.slice a m cap], .int .i64 k] w (fun e w' => e = .returned (.int .i64 (if k < szT rs then -1 else k - szT rs)) ∧ Below w.heap.size w w') := by
  have KK := Lib.hid h
  have HM := Lib.hid hm
  have HN := Lib.hid hn
  obtain ⟨z, hz⟩ : ∃ z, szT rs = z := ⟨_, rfl⟩
  have HZ := Lib.hid hz
  rw [hz]
  clear h hm hn hz
  by_cases hb : k < z
  · rw [if_pos hb]
    have HB := Lib.hid hb
    go_enter Try.func33, Try.ntmps33
    go_wp2_with fail
    refine (TRule.sz_c _ a m cap k rs HM.out hs HN.out hk0 hk1 (KK.out.on (by (repeat (first | exact Below.refl _ _ | apply BelowKit.bl_alloc | apply BelowKit.bl_drewN | apply BelowKit.bl_drew | (refine BelowKit.bl_set ?_ _ ?_; rotate_left; (first | omega | (simp; omega) | simp)) | (refine BelowKit.bl_trans ?_ (‹Hid (Below _ _ _)›).out)))))).mono ?_
    rintro e w1 ⟨rfl, hb1⟩
    have HB1 := Lib.hid hb1
    clear hb1
    rw [HZ.out, if_pos HB.out]
    go_wp2
    go_ret
    exact ⟨rfl, by (repeat (first | exact Below.refl _ _ | apply BelowKit.bl_alloc | apply BelowKit.bl_drewN | apply BelowKit.bl_drew | (refine BelowKit.bl_set ?_ _ ?_; rotate_left; (first | omega | (simp; omega) | simp)) | (refine BelowKit.bl_trans ?_ (‹Hid (Below _ _ _)›).out)))⟩
  · rw [if_neg hb]
    have HB := Lib.hid hb
    go_enter Try.func33, Try.ntmps33
    go_wp2_with fail
    refine (TRule.sz_c _ a m cap k rs HM.out hs HN.out hk0 hk1 (KK.out.on (by (repeat (first | exact Below.refl _ _ | apply BelowKit.bl_alloc | apply BelowKit.bl_drewN | apply BelowKit.bl_drew | (refine BelowKit.bl_set ?_ _ ?_; rotate_left; (first | omega | (simp; omega) | simp)) | (refine BelowKit.bl_trans ?_ (‹Hid (Below _ _ _)›).out)))))).mono ?_
    rintro e w1 ⟨rfl, hb1⟩
    have HB1 := Lib.hid hb1
    clear hb1
    rw [HZ.out, if_neg (by have := HB.out; omega)]
    obtain ⟨v, hv⟩ : ∃ v, k - z = v := ⟨_, rfl⟩
    have hv0 : 0 ≤ v := by have := HB.out; omega
    rw [hv]
    have HV := Lib.hid hv
    clear hv
    go_wp2
    go_ret
    exact ⟨by rw [HV.out]; rfl, by (repeat (first | exact Below.refl _ _ | apply BelowKit.bl_alloc | apply BelowKit.bl_drewN | apply BelowKit.bl_drew | (refine BelowKit.bl_set ?_ _ ?_; rotate_left; (first | omega | (simp; omega) | simp)) | (refine BelowKit.bl_trans ?_ (‹Hid (Below _ _ _)›).out)))⟩
end Go.Proofs.Ytkfgflmhefbinaa.TBook

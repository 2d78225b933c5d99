/- Contracts of the program's helpers on pay. -/
import Derived.Test.YtdmkceaonfbebaaRows
import Derived.Test.YtdmkceaonfbebaaPayLine
import Derived.Test.YtdmkceaonfbebaaPayS
import Derived.Test.YtdmkceaonfbebaaLineI
import Derived.Test.YtdmkceaonfbebaaStoreOk
import Derived.Test.YtdmkceaonfbebaaValueAt
import Derived.Test.YtdmkceaonfbebaaSerI
import Derived.Test.YtdmkceaonfbebaaIdxI
import Derived.Test.YtdmkceaonfbebaaFracC
import Derived.Test.YtdmkceaonfbebaaKit
namespace Go.Proofs.Ytdmkceaonfbebaa.PayT
open Go.RowKit RowN PayMath PayLine Mon Box PayS
open FracMath (red)
def IsTt (b : Tt) (w : World) (e : Ending) (w' : World) : Prop := e = .returned (.agg #[.int .i64 b.s, .int .i64 b.m, .int .i64 b.p]) ∧ Below w.heap.size w w'
/-- A box of a total. -/
structure Bt (wr : World) (b : Nat) (x y z : Int) : Prop where
  c0 : wr.cell? ⟨b, 0, none⟩ = some (.int .i64 x)
  c1 : wr.cell? ⟨b, 1, none⟩ = some (.int .i64 y)
  c2 : wr.cell? ⟨b, 2, none⟩ = some (.int .i64 z)
  f0 : wr.frozen? ⟨b, 0, none⟩ = false
  f1 : wr.frozen? ⟨b, 1, none⟩ = false
  f2 : wr.frozen? ⟨b, 2, none⟩ = false
  lt : b < wr.heap.size
theorem Bt.on {wr w' : World} {b : Nat} {x y z : Int} (h : Bt wr b x y z) (hb : Below wr.heap.size wr w') : Bt w' b x y z := by
  have h1 := h.lt
  obtain ⟨kc, kf⟩ := BelowKit.bcell hb
  exact ⟨(kc _ 0 h1).trans h.c0, (kc _ 1 h1).trans h.c1, (kc _ 2 h1).trans h.c2, (kf _ 0 h1).trans h.f0, (kf _ 1 h1).trans h.f1, (kf _ 2 h1).trans h.f2, Nat.lt_of_lt_of_le h1 hb.size⟩
theorem Bt.new (w : World) (x y z : Int) : Bt (w.alloc (.cells #[.int .i64 x, .int .i64 y, .int .i64 z] 75)) w.heap.size x y z :=
  ⟨by simp [go_sem], by simp [go_sem], by simp [go_sem], by simp [go_sem], by simp [go_sem], by simp [go_sem], by simp⟩
theorem Bt.put {wr : World} {b : Nat} {x y z : Int} (h : Bt wr b x y z) (x' y' : Int) : Bt ((wr.setCell ⟨b, 0, none⟩ (.int .i64 x')).setCell ⟨b, 1, none⟩ (.int .i64 y')) b x' y' z := by
  obtain ⟨c0, c1, c2, f0, f1, f2, hl⟩ := h
  exact ⟨by simp [go_sem, c0], by simp [go_sem, c1], by simp [go_sem, c2], by simp [go_sem, f0], by simp [go_sem, f1], by simp [go_sem, f2], by simpa using hl⟩
theorem Bt.put3 {wr : World} {b : Nat} {x y z : Int} (h : Bt wr b x y z) (x' y' z' : Int) : Bt (((wr.setCell ⟨b, 0, none⟩ (.int .i64 x')).setCell ⟨b, 1, none⟩ (.int .i64 y')).setCell ⟨b, 2, none⟩ (.int .i64 z')) b x' y' z' := by
  obtain ⟨c0, c1, c2, f0, f1, f2, hl⟩ := h
  exact ⟨by simp [go_sem, c0], by simp [go_sem, c1], by simp [go_sem, c2], by simp [go_sem, f0], by simp [go_sem, f1], by simp [go_sem, f2], by simpa using hl⟩
theorem Bt.two {wr : World} {b g : Nat} {x y z : Int} (h : Bt wr b x y z) (hne : b ≠ g) (u v : Value) : Bt ((wr.setCell ⟨g, 0, none⟩ u).setCell ⟨g, 1, none⟩ v) b x y z := by
  obtain ⟨c0, c1, c2, f0, f1, f2, hl⟩ := h
  exact ⟨by simp [go_sem, c0], by simp [go_sem, c1], by simp [go_sem, c2], by simp [go_sem, f0], by simp [go_sem, f1], by simp [go_sem, f2], by simpa using hl⟩
set_option maxHeartbeats 2000000 in
theorem total_i (w : World) (p : Option Addr) (m cap : Nat) (L : List TSegment.El) (f t a b : Int) (hm : L.length = m) (hs : m ≤ 3600) (h : Reads TSegment.fc 3 w p L) (hL : ∀ x ∈ L, Lies f t x) (h0 : 0 ≤ f) (h1 : t ≤ 3600) (h5 : 0 ≤ a) (h6 : a ≤ 3600) (h7 : 0 ≤ b) (h8 : b ≤ 3600) :
    Calls Try.prog 81 #[.slice p m cap, .int .i64 a, .int .i64 b] w (IsTt ⟨spans (sumF a b) L, spans (cntF a b) L, a⟩ w) := by
  have KK := Lib.hid h
  have HM := Lib.hid hm
  have HL := Lib.hid hL
  clear h hm hL
  go_enter Try.func81, Try.ntmps81
  go_wp2
  go_loopw [15] (fun i wr => ∃ j : Nat, j ≤ m ∧ i = .int .i64 (j : Int) ∧ Hid (Bt wr w.heap.size 0 0 0) ∧ Hid (Bt wr (w.heap.size + 1) (spans (sumF a b) (L.take j)) (spans (cntF a b) (L.take j)) a) ∧ Hid (Below w.heap.size w wr)) (fun i _ => m - (intOf i).toNat)
  case atStart => exact ⟨0, Nat.zero_le _, rfl, Lib.hid ((Bt.new w 0 0 0).on (BelowKit.bl_alloc (Below.refl _ _))), Lib.hid (by have := Bt.new (w.alloc (.cells #[.int .i64 0, .int .i64 0, .int .i64 0] 75)) 0 0 a; simpa [spans] using this), Lib.hid (by (repeat (first | exact Below.refl _ _ | apply BelowKit.bl_alloc | apply BelowKit.bl_drewN | apply BelowKit.bl_drew | (refine BelowKit.bl_set ?_ _ ?_; rotate_left; (first | omega | (simp; omega) | simp)) | (refine BelowKit.bl_trans ?_ (‹Hid (Below _ _ _)›).out))))⟩
  case round =>
    obtain ⟨j, hj, rfl, HA, HX, HB⟩ := hrel
    by_cases hlt : j < m
    · have hjl : j < L.length := by rw [HM.out]; exact hlt
      obtain ⟨g, o, rfl, hgl, q0, q1, q2⟩ := TSegment.read (KK.out.on HB.out) j hjl
      have hy := HL.out L[j] (List.getElem_mem hjl)
      obtain ⟨s0, s1, s2, s3⟩ := sums_bd HL.out h0 h1 h5 h6 h7 h8 j (by omega)
      have e1 := spans_take (F := sumF a b) hjl
      have e2 := spans_take (F := cntF a b) hjl
      rw [show segF (sumF a b) L[j] = L[j].Value * common L[j].From L[j].To a b from seg_in _ hy h0 h1 h5 h6 h7 h8] at e1
      rw [show segF (cntF a b) L[j] = 1 * common L[j].From L[j].To a b from seg_in _ hy h0 h1 h5 h6 h7 h8, Int.one_mul] at e2
      have v0 := hy.v0
      have v1 := hy.v1
      obtain ⟨S, hS⟩ : ∃ S, spans (sumF a b) (L.take j) = S := ⟨_, rfl⟩
      obtain ⟨C, hC⟩ : ∃ C, spans (cntF a b) (L.take j) = C := ⟨_, rfl⟩
      rw [hS] at s0 s1 e1 HX
      rw [hC] at s2 s3 e2 HX
      generalize L[j] = x at q0 q1 q2 e1 e2 v0 v1
      obtain ⟨xf, xt, v⟩ := x
      simp only [] at q0 q1 q2 e1 e2 v0 v1
      have E1 := Lib.hid e1
      have E2 := Lib.hid e2
      clear e1 e2 hS hC hy
      have b1 : (0 : Int) ≤ (j : Int) := by omega
      have b2 : (j : Int) < (m : Int) := by omega
      have z0 := HX.out.c0
      have z1 := HX.out.c1
      have g0 := HX.out.f0
      have g1 := HX.out.f1
      have hl := HX.out.lt
      go_wp2_with fail
      refine (common_i _ _ _ _ _).mono ?_
      rintro e w' ⟨rfl, rfl⟩
      obtain ⟨c, hc⟩ : ∃ c, common xf xt a b = c := ⟨_, rfl⟩
      have c0 := SegMath.common_lo xf xt a b
      have c1 := SegMath.common_hi xf xt a b
      rw [hc] at E1 E2 c0 c1 ⊢
      obtain ⟨d0, d1⟩ := SegMath.part_bd v0 v1 c0 c1
      obtain ⟨M, hM⟩ : ∃ M, v * c = M := ⟨_, rfl⟩
      have W1 : IntKind.i64.wrap (v * c) = M := by rw [hM] at d0 d1 ⊢; exact IntWalk.i64_in _ (by omega)
      rw [hM] at E1 d0 d1
      have W2 : IntKind.i64.wrap (S + M) = S + M := IntWalk.i64_in _ (by omega)
      have W3 : IntKind.i64.wrap (C + c) = C + c := IntWalk.i64_in _ (by omega)
      clear hc hM
      go_wp2
      go_roundw
      case rel =>
        refine ⟨j + 1, by omega, by go_num, Lib.hid ((HA.out.two (by omega) _ _).on (BelowKit.bl_alloc (Below.refl _ _))), Lib.hid ?_, Lib.hid (BelowKit.bl_alloc (two_set HB.out (by omega)))⟩
        rw [E1.out, E2.out]
        exact (HX.out.put _ _).on (BelowKit.bl_alloc (Below.refl _ _))
      case measure => simp [intOf]; omega
    · obtain rfl : j = m := by omega
      have z0 := HX.out.c0
      have z1 := HX.out.c1
      have z2 := HX.out.c2
      have y0 := HA.out.c0
      have y1 := HA.out.c1
      have y2 := HA.out.c2
      have g0 := HA.out.f0
      have g1 := HA.out.f1
      have g2 := HA.out.f2
      have hl := HX.out.lt
      rw [List.take_of_length_le (by rw [HM.out]; exact Nat.le_refl _)] at z0 z1
      go_wp2
      refine bodyPost_ret (v := .agg #[.int .i64 (spans (sumF a b) L), .int .i64 (spans (cntF a b) L), .int .i64 a]) (by simp [results, Try.results81, y0, y1, y2, go_sem]) rfl ⟨rfl, ?_⟩
      exact BelowKit.bl_set (two_set HB.out (Nat.le_refl _)) (a := ⟨w.heap.size, 2, none⟩) _ (Nat.le_refl _)
set_option maxHeartbeats 1000000 in
theorem exceeds_i (w : World) (a b : Tt) (ha : Sm a) (hb : Sm b) :
    Calls Try.prog 83 #[.agg #[.int .i64 a.s, .int .i64 a.m, .int .i64 a.p], .agg #[.int .i64 b.s, .int .i64 b.m, .int .i64 b.p]] w (IsNo (exc a b) w) := by
  obtain ⟨s1, m1, p1⟩ := a
  obtain ⟨s2, m2, p2⟩ := b
  obtain ⟨a0, a1, a2, a3⟩ := ha
  obtain ⟨b0, b1, b2, b3⟩ := hb
  simp only [] at a0 a1 a2 a3 b0 b1 b2 b3
  have HE : Hid (exc ⟨s1, m1, p1⟩ ⟨s2, m2, p2⟩ = if m2 = 0 then decide (0 < m1) else decide (s2 * m1 < s1 * m2)) := Lib.hid rfl
  obtain ⟨R, hR⟩ : ∃ R, exc ⟨s1, m1, p1⟩ ⟨s2, m2, p2⟩ = R := ⟨_, rfl⟩
  rw [hR] at HE ⊢
  clear hR
  obtain ⟨d0, d1⟩ := FracMath.mul_bd (x := s1) (y := m2) a0 a1 b2 b3 (by omega)
  obtain ⟨d2, d3⟩ := FracMath.mul_bd (x := s2) (y := m1) b0 b1 a2 a3 (by omega)
  obtain ⟨x, hx⟩ : ∃ x, s1 * m2 = x := ⟨_, rfl⟩
  obtain ⟨y, hy⟩ : ∃ y, s2 * m1 = y := ⟨_, rfl⟩
  have W1 : IntKind.i64.wrap (s1 * m2) = x := by rw [hx] at d0 d1 ⊢; exact IntWalk.i64_in _ (by omega)
  have W2 : IntKind.i64.wrap (s2 * m1) = y := by rw [hy] at d2 d3 ⊢; exact IntWalk.i64_in _ (by omega)
  rw [hx, hy] at HE
  clear hx hy d0 d1 d2 d3
  go_enter Try.func83, Try.ntmps83
  by_cases h : m2 = 0
  · subst h
    have E := Lib.hid (HE.out.trans (if_pos rfl))
    clear HE
    go_wp2
    go_ret
    exact ⟨by rw [E.out]; rfl, by (repeat (first | exact Below.refl _ _ | apply BelowKit.bl_alloc | apply BelowKit.bl_drewN | apply BelowKit.bl_drew | (refine BelowKit.bl_set ?_ _ ?_; rotate_left; (first | omega | (simp; omega) | simp)) | (refine BelowKit.bl_trans ?_ (‹Hid (Below _ _ _)›).out)))⟩
  · have E := Lib.hid (HE.out.trans (if_neg h))
    have dz : decide (m2 = 0) = false := decide_eq_false h
    clear HE
    go_wp2
    go_ret
    exact ⟨by rw [E.out]; rfl, by (repeat (first | exact Below.refl _ _ | apply BelowKit.bl_alloc | apply BelowKit.bl_drewN | apply BelowKit.bl_drew | (refine BelowKit.bl_set ?_ _ ?_; rotate_left; (first | omega | (simp; omega) | simp)) | (refine BelowKit.bl_trans ?_ (‹Hid (Below _ _ _)›).out)))⟩
set_option maxHeartbeats 1000000 in
theorem mean_i (w : World) (s m p : Int) (h0 : -4000000000000000000 ≤ s) (h1 : s ≤ 4000000000000000000) (h2 : -4000000000000000000 ≤ m) (h3 : m ≤ 4000000000000000000) :
    Calls Try.prog 37 #[.agg #[.int .i64 s, .int .i64 m, .int .i64 p]] w (IsFr (red s m) w) := by
  go_enter Try.func37, Try.ntmps37
  go_wp2_with fail
  refine (FracMake.reduced_i s m _ h0 h1 h2 h3).mono ?_
  rintro e w1 ⟨rfl, hb⟩
  obtain ⟨⟨n, d, o⟩, hr⟩ : ∃ r, red s m = r := ⟨_, rfl⟩
  rw [hr]
  have HR := Lib.hid hr
  clear hr
  have z := hb.size
  simp at z
  have hl : w.heap.size + 1 < w1.heap.size := by omega
  obtain ⟨kc, kf⟩ := BelowKit.bcell hb
  have c0 : w1.cell? ⟨w.heap.size + 1, 0, none⟩ = some (.int .i64 0) := (kc _ 0 (by first | omega | (simp; done) | (simp; omega))).trans (by simp [go_sem])
  have c1 : w1.cell? ⟨w.heap.size + 1, 1, none⟩ = some (.int .i64 0) := (kc _ 1 (by first | omega | (simp; done) | (simp; omega))).trans (by simp [go_sem])
  have f0 : w1.frozen? ⟨w.heap.size + 1, 0, none⟩ = false := (kf _ 0 (by first | omega | (simp; done) | (simp; omega))).trans (by simp [go_sem])
  have f1 : w1.frozen? ⟨w.heap.size + 1, 1, none⟩ = false := (kf _ 1 (by first | omega | (simp; done) | (simp; omega))).trans (by simp [go_sem])
  have HB := Lib.hid (show Below w.heap.size w w1 from BelowKit.bl_trans (by (repeat (first | exact Below.refl _ _ | apply BelowKit.bl_alloc | apply BelowKit.bl_drewN | apply BelowKit.bl_drew | (refine BelowKit.bl_set ?_ _ ?_; rotate_left; (first | omega | (simp; omega) | simp)) | (refine BelowKit.bl_trans ?_ (‹Hid (Below _ _ _)›).out)))) hb)
  clear hb kc kf z
  go_wp2
  refine bodyPost_ret (v := .tuple #[.agg #[.int .i64 n, .int .i64 d], .bool o]) (by simp [results, Try.results37, c0, c1, go_sem]) rfl ⟨by rw [HR.out], ?_⟩
  exact two_set HB.out (by omega)
def IsWays (w : World) (e : Ending) (w' : World) : Prop := e = .returned (.slice (some ⟨w.heap.size, 0, none⟩) 4 4) ∧ w'.cell? ⟨w.heap.size, 0, none⟩ = some (.func (.func 71) #[] #[]) ∧ w'.cell? ⟨w.heap.size, 1, none⟩ = some (.func (.func 72) #[] #[]) ∧ w'.cell? ⟨w.heap.size, 2, none⟩ = some (.func (.func 73) #[] #[]) ∧ w'.cell? ⟨w.heap.size, 3, none⟩ = some (.func (.func 74) #[] #[]) ∧ w.heap.size < w'.heap.size ∧ Below w.heap.size w w'
theorem ways_i (w : World) : Calls Try.prog 58 #[] w (IsWays w) := by
  go_enter Try.func58, Try.ntmps58
  go_wp2
  go_ret
  exact ⟨rfl, by simp [go_sem], by simp [go_sem], by simp [go_sem], by simp [go_sem], by simp, by (repeat (first | exact Below.refl _ _ | apply BelowKit.bl_alloc | apply BelowKit.bl_drewN | apply BelowKit.bl_drew | (refine BelowKit.bl_set ?_ _ ?_; rotate_left; (first | omega | (simp; omega) | simp)) | (refine BelowKit.bl_trans ?_ (‹Hid (Below _ _ _)›).out)))⟩
set_option maxHeartbeats 1000000 in
theorem hist_i (w : World) (p : Option Addr) (m cap : Nat) (l : List Fact.Fa) (kn f t len : Int) (q : Option Addr) (n cap' : Nat) (hm : l.length = m) (hs : m ≤ 1048576) (h : FactRow.ReadsF w p l) :
    Calls Try.prog 82 #[.agg #[.slice p m cap, .int .i64 kn, .int .i64 f, .int .i64 t, .int .i64 len, .slice q n cap']] w (TSegment.IsRow (hist l kn f t) w) := by
  have KK := Lib.hid h
  have HM := Lib.hid hm
  clear h hm
  go_enter Try.func82, Try.ntmps82
  by_cases hk : kn ≤ 3599
  · have HH := Lib.hid (show hist l kn f t = LineMath.line l 1 kn f t by unfold hist; rw [Int.min_eq_left hk])
    go_wp2_with fail
    refine (LineI.line_i _ p m cap l 1 kn f t HM.out hs (KK.out.on (by (repeat (first | exact Below.refl _ _ | apply BelowKit.bl_alloc | apply BelowKit.bl_drewN | apply BelowKit.bl_drew | (refine BelowKit.bl_set ?_ _ ?_; rotate_left; (first | omega | (simp; omega) | simp)) | (refine BelowKit.bl_trans ?_ (‹Hid (Below _ _ _)›).out)))))).mono ?_
    rintro e w1 ⟨a, c, rfl, ho, hb⟩
    have HO := Lib.hid ho
    have HB := Lib.hid (show Below w.heap.size w w1 from BelowKit.bl_trans (by (repeat (first | exact Below.refl _ _ | apply BelowKit.bl_alloc | apply BelowKit.bl_drewN | apply BelowKit.bl_drew | (refine BelowKit.bl_set ?_ _ ?_; rotate_left; (first | omega | (simp; omega) | simp)) | (refine BelowKit.bl_trans ?_ (‹Hid (Below _ _ _)›).out)))) hb)
    clear ho hb
    go_wp2
    go_ret
    have HO' := HO.out.base (show w.heap.size ≤ _ by simp)
    rw [HH.out]
    exact ⟨a, c, rfl, HO', HB.out⟩
  · have HH := Lib.hid (show hist l kn f t = LineMath.line l 1 3599 f t by unfold hist; rw [Int.min_eq_right (by omega)])
    go_wp2_with fail
    refine (LineI.line_i _ p m cap l 1 3599 f t HM.out hs (KK.out.on (by (repeat (first | exact Below.refl _ _ | apply BelowKit.bl_alloc | apply BelowKit.bl_drewN | apply BelowKit.bl_drew | (refine BelowKit.bl_set ?_ _ ?_; rotate_left; (first | omega | (simp; omega) | simp)) | (refine BelowKit.bl_trans ?_ (‹Hid (Below _ _ _)›).out)))))).mono ?_
    rintro e w1 ⟨a, c, rfl, ho, hb⟩
    have HO := Lib.hid ho
    have HB := Lib.hid (show Below w.heap.size w w1 from BelowKit.bl_trans (by (repeat (first | exact Below.refl _ _ | apply BelowKit.bl_alloc | apply BelowKit.bl_drewN | apply BelowKit.bl_drew | (refine BelowKit.bl_set ?_ _ ?_; rotate_left; (first | omega | (simp; omega) | simp)) | (refine BelowKit.bl_trans ?_ (‹Hid (Below _ _ _)›).out)))) hb)
    clear ho hb
    go_wp2
    go_ret
    have HO' := HO.out.base (show w.heap.size ≤ _ by simp)
    rw [HH.out]
    exact ⟨a, c, rfl, HO', HB.out⟩
end Go.Proofs.Ytdmkceaonfbebaa.PayT

/- Rows of Spell (4 cells an element): what came in, what the call owns; the laws' helpers on them. Written by gen_row.py. -/
import Derived.Test.YtkoeodmneedjcaaRows
import Derived.Test.YtkoeodmneedjcaaKit
import Derived.WalkKit
import Derived.Below
import Derived.WalkSmall
import Derived.Lib.Hide
import Derived.BigQuiet
import Derived.Deep.QuietTactic
import Derived.OpenShut
namespace Go.Proofs.Ytkoeodmneedjcaa.TSpell
open Go.RowKit RowN
set_option linter.unusedVariables false

structure El where
  From : Int
  To : Int
  Percent : Int
  Leave : Bool
def fc (x : El) : List Value := [.int .i64 x.From, .int .i64 x.To, .int .i64 x.Percent, .bool x.Leave]
def fv (x : El) : Value := .agg #[.int .i64 x.From, .int .i64 x.To, .int .i64 x.Percent, .bool x.Leave]
def e0 : El := ⟨0, 0, 0, false⟩
theorem fw : Wide fc 4 := ⟨fun _ => rfl, by rintro x v hv; simp only [fc, List.mem_cons, List.not_mem_nil, or_false] at hv; rcases hv with rfl | rfl | rfl | rfl <;> rfl, by omega⟩
abbrev T : Nat := 34
theorem ft : ElT Try.prog 24 34 (fv e0) 4 32 := ⟨Try.underlying24, by kernel_rfl, by omega, rfl⟩
def Wf (x : El) : Prop := (Lit.int .i64 x.From).wf = true ∧ (Lit.int .i64 x.To).wf = true ∧ (Lit.int .i64 x.Percent).wf = true
open Shape in
theorem cov {w : World} {cs : List Value} (h : FitL w [.int .i64, .int .i64, .int .i64, .bool] cs) : ∃ x, cs = fc x ∧ Wf x := by
  obtain ⟨x0, _, rfl, w0, h0⟩ := fit_int h
  obtain ⟨x1, _, rfl, w1, h1⟩ := fit_int h0
  obtain ⟨x2, _, rfl, w2, h2⟩ := fit_int h1
  obtain ⟨x3, _, rfl, h3⟩ := fit_bool h2
  obtain rfl := fit_nil h3
  exact ⟨⟨x0, x1, x2, x3⟩, rfl, w0, w1, w2⟩
theorem read {w : World} {a : Option Addr} {l : List El} (h : Reads fc 4 w a l) (j : Nat) (hj : j < l.length) : ∃ blk off, a = some ⟨blk, off, none⟩ ∧ blk < w.heap.size ∧ w.cell? ⟨blk, off + j * 4, none⟩ = some (.int .i64 l[j].From) ∧ w.cell? ⟨blk, off + j * 4 + 1, none⟩ = some (.int .i64 l[j].To) ∧ w.cell? ⟨blk, off + j * 4 + 2, none⟩ = some (.int .i64 l[j].Percent) ∧ w.cell? ⟨blk, off + j * 4 + 3, none⟩ = some (.bool l[j].Leave) := by
  obtain ⟨blk, off, e, hlt, hc⟩ := h j hj
  exact ⟨blk, off, e, hlt, hc 0 (by omega), hc 1 (by omega), hc 2 (by omega), hc 3 (by omega)⟩
theorem own {w : World} {B n cap : Nat} {a : Option Addr} {l : List El} (h : Owns fc 4 w B T (.slice a n cap) l) (j : Nat) (hj : j < l.length) : ∃ g, a = some ⟨g, 0, none⟩ ∧ B ≤ g ∧ g < w.heap.size ∧ w.cell? ⟨g, j * 4, none⟩ = some (.int .i64 l[j].From) ∧ w.cell? ⟨g, j * 4 + 1, none⟩ = some (.int .i64 l[j].To) ∧ w.cell? ⟨g, j * 4 + 2, none⟩ = some (.int .i64 l[j].Percent) ∧ w.cell? ⟨g, j * 4 + 3, none⟩ = some (.bool l[j].Leave) ∧ w.frozen? ⟨g, j * 4, none⟩ = false ∧ w.frozen? ⟨g, j * 4 + 1, none⟩ = false ∧ w.frozen? ⟨g, j * 4 + 2, none⟩ = false ∧ w.frozen? ⟨g, j * 4 + 3, none⟩ = false := by
  obtain ⟨g, e, hb, hlt, hc⟩ := h.at fw j hj
  exact ⟨g, e, hb, hlt, (hc 0 (by omega)).1, (hc 1 (by omega)).1, (hc 2 (by omega)).1, (hc 3 (by omega)).1, (hc 0 (by omega)).2, (hc 1 (by omega)).2, (hc 2 (by omega)).2, (hc 3 (by omega)).2⟩
theorem stored {w : World} {B g cap n : Nat} {l : List El} (h : Owns fc 4 w B T (.slice (some ⟨g, 0, none⟩) n cap) l) (j : Nat) (hj : j < l.length) (x : El) :
    Owns fc 4 ((((w.setCell ⟨g, j * 4, none⟩ (.int .i64 x.From)).setCell ⟨g, j * 4 + 1, none⟩ (.int .i64 x.To)).setCell ⟨g, j * 4 + 2, none⟩ (.int .i64 x.Percent)).setCell ⟨g, j * 4 + 3, none⟩ (.bool x.Leave)) B T (.slice (some ⟨g, 0, none⟩) n cap) (l.set j x) := by
  have s0 := h.stored fw j hj 0 (by omega) (.int .i64 x.From) ⟨x.From, l[j].To, l[j].Percent, l[j].Leave⟩ rfl
  have s1 := s0.stored fw j (by simpa using hj) 1 (by omega) (.int .i64 x.To) ⟨x.From, x.To, l[j].Percent, l[j].Leave⟩ (by rw [List.getElem_set_self]; rfl)
  have s2 := s1.stored fw j (by simpa using hj) 2 (by omega) (.int .i64 x.Percent) ⟨x.From, x.To, x.Percent, l[j].Leave⟩ (by rw [List.getElem_set_self]; rfl)
  have s3 := s2.stored fw j (by simpa using hj) 3 (by omega) (.bool x.Leave) x (by rw [List.getElem_set_self]; rfl)
  simpa only [List.set_set, Nat.add_zero] using s3
theorem below {w0 w : World} {B g o : Nat} {y0 y1 y2 y3 : Value} (h : Below B w0 w) (hB : B ≤ g) : Below B w0 ((((w.setCell ⟨g, o, none⟩ y0).setCell ⟨g, o + 1, none⟩ y1).setCell ⟨g, o + 2, none⟩ y2).setCell ⟨g, o + 3, none⟩ y3) :=
  ((((h.setCell (p := ⟨g, o, none⟩) hB _).setCell (p := ⟨g, o + 1, none⟩) hB _).setCell (p := ⟨g, o + 2, none⟩) hB _).setCell (p := ⟨g, o + 3, none⟩) hB _)
def IsRow (l : List El) (w : World) (e : Ending) (w' : World) : Prop := ∃ p c, e = .returned (.slice p l.length c) ∧ Owns fc 4 w' w.heap.size T (.slice p l.length c) l ∧ Below w.heap.size w w'
def IsEl (x : El) (w : World) (e : Ending) (w' : World) : Prop := e = .returned (fv x) ∧ Below w.heap.size w w'
def IsBo (b : Bool) (w : World) (e : Ending) (w' : World) : Prop := e = .returned (.bool b) ∧ Below w.heap.size w w'
set_option maxHeartbeats 1000000 in
theorem to1 (x : El) (w : World) : Calls Try.prog 25 #[fv x] w (IsEl x w) := by
  obtain ⟨x0, x1, x2, x3⟩ := x
  show Calls Try.prog 25 #[.agg #[.int .i64 x0, .int .i64 x1, .int .i64 x2, .bool x3]] w (IsEl ⟨x0, x1, x2, x3⟩ w)
  go_enter Try.func25, Try.ntmps25
  go_wp2
  refine bodyPost_ret (v := .agg #[.int .i64 x0, .int .i64 x1, .int .i64 x2, .bool x3]) (by simp [results, Try.results25, go_sem]) rfl ⟨rfl, ?_⟩
  (repeat (first | exact Below.refl _ _ | apply BelowKit.bl_alloc | apply BelowKit.bl_drewN | apply BelowKit.bl_drew | (refine BelowKit.bl_set ?_ _ ?_; rotate_left; (first | omega | (simp; omega) | simp)) | (refine BelowKit.bl_trans ?_ (‹Hid (Below _ _ _)›).out)))
theorem copy_set (l : List El) (j : Nat) (h : j < l.length) : (l.take j ++ List.replicate (l.length - j) e0).set j l[j] = l.take (j + 1) ++ List.replicate (l.length - (j + 1)) e0 := by
  have e : (l.take j).length = j := by simp; omega
  rw [List.set_append_right _ _ (by omega), e, Nat.sub_self, show l.length - j = (l.length - (j + 1)) + 1 by omega, List.replicate_succ, List.set_cons_zero, List.take_succ_eq_append_getElem h, List.append_assoc]
  rfl
set_option maxHeartbeats 2000000 in
theorem to_c (w : World) (a : Option Addr) (m cap : Nat) (l : List El) (hm : l.length = m) (hs : m ≤ 1099511627776) (h : Reads fc 4 w a l) :
    Calls Try.prog 22 #[.slice a m cap] w (IsRow l w) := by
  have KK := Lib.hid h
  have HM := Lib.hid hm
  clear h hm
  go_enter Try.func22, Try.ntmps22
  go_wp2_with (at_make; refine wpList_makeN ft fw (z0 := e0) rfl _ rfl _ _ rfl w.heap.size .i64 .i64 _ _ m rfl rfl rfl rfl hs (Nat.le_refl _) ?_; intro w1 hown1 hg1)
  have HO1 := Lib.hid hown1
  have hb1 : Below w.heap.size w w1 := (Below.refl _ _).grown hg1 (Nat.le_refl _) (by simp)
  have K1 := Lib.hid (KK.out.on hb1)
  have HB1 := Lib.hid hb1
  clear hown1 hg1 hb1
  go_loopw [4] (fun i wr => ∃ j : Nat, j ≤ m ∧ i = .int .i64 j ∧ Hid (Owns fc 4 wr w.heap.size T (.slice (some ⟨w.heap.size, 0, none⟩) m m) (l.take j ++ List.replicate (m - j) e0)) ∧ Below w.heap.size w wr) (fun i _ => m - (intOf i).toNat)
  case atStart => exact ⟨0, Nat.zero_le _, rfl, by simpa using HO1, HB1.out⟩
  case round =>
    obtain ⟨j, hj, rfl, hown, hbel⟩ := hrel
    by_cases hlt : j < m
    · have hr := KK.out.on hbel
      obtain ⟨g, o, rfl, hgl, q0, q1, q2, q3⟩ := read hr j (by rw [HM.out]; exact hlt)
      have HL : (l.take j ++ List.replicate (m - j) e0).length = m := by simp [HM.out]; omega
      obtain ⟨x, hx⟩ : ∃ x, l[j]'(by rw [HM.out]; exact hlt) = x := ⟨_, rfl⟩
      rw [hx] at q0 q1 q2 q3
      have HX := Lib.hid hx
      have b1 : (0 : Int) ≤ (j : Int) := by omega
      have b2 : (j : Int) < (m : Int) := by omega
      have HB := Lib.hid hbel
      clear hr hx hbel
      go_wp2_with fail
      refine (to1 x _).mono ?_
      rintro e w2 ⟨rfl, hb2⟩
      have hown2 := hown.out.on hb2
      have HB2 := Lib.hid (HB.out.trans (hb2.mono HB.out.size))
      obtain ⟨g', e', _, hlt', p0, p1, p2, p3, z0, z1, z2, z3⟩ := own hown2 j (by rw [HL]; exact hlt)
      cases e'
      generalize ((l.take j ++ List.replicate (m - j) e0)[j]'(by rw [HL]; exact hlt)) = y at p0 p1 p2 p3
      have HO2 := Lib.hid hown2
      clear hown hown2 hb2 HB q0 q1 q2 q3
      unfold fv
      go_wp2
      go_roundw
      case rel =>
        refine ⟨j + 1, by omega, by go_num, ?_, below HB2.out (Nat.le_refl _)⟩
        have R := stored HO2.out j (by rw [HL]; exact hlt) x
        have E := copy_set l j (by rw [HM.out]; exact hlt)
        rw [HX.out, HM.out] at E
        rw [E] at R
        exact Lib.hid R
      case measure => simp [intOf]; omega
    · obtain rfl : j = m := by omega
      go_wp2
      go_ret
      refine ⟨some ⟨w.heap.size, 0, none⟩, l.length, ?_, ?_, hbel⟩
      · rw [HM.out]; rfl
      · have R := hown.out
        rw [Nat.sub_self, List.take_of_length_le (by rw [HM.out]; exact Nat.le_refl _)] at R
        simpa [HM.out] using R
set_option maxHeartbeats 1000000 in
theorem eq1 (x : El) (w : World) : Calls Try.prog 44 #[.agg #[.int .i64 x.From, .int .i64 x.To, .int .i64 x.Percent, .bool x.Leave], .agg #[.int .i64 x.From, .int .i64 x.To, .int .i64 x.Percent, .bool x.Leave]] w (IsBo true w) := by
  obtain ⟨x0, x1, x2, x3⟩ := x
  go_enter Try.func44, Try.ntmps44
  go_wp2
  go_ret
  exact ⟨rfl, by (repeat (first | exact Below.refl _ _ | apply BelowKit.bl_alloc | apply BelowKit.bl_drewN | apply BelowKit.bl_drew | (refine BelowKit.bl_set ?_ _ ?_; rotate_left; (first | omega | (simp; omega) | simp)) | (refine BelowKit.bl_trans ?_ (‹Hid (Below _ _ _)›).out)))⟩
set_option maxHeartbeats 2000000 in
theorem eq_c (w : World) (m c1 c2 : Nat) (a1 a2 : Option Addr) (l : List El) (hm : l.length = m) (hs : m ≤ 1099511627776) (h1 : Reads fc 4 w a1 l) (h2 : Reads fc 4 w a2 l) :
    Calls Try.prog 23 #[.slice a1 m c1, .slice a2 m c2] w (IsBo true w) := by
  have K1 := Lib.hid h1
  have K2 := Lib.hid h2
  have HM := Lib.hid hm
  clear h1 h2 hm
  go_enter Try.func23, Try.ntmps23
  go_wp2
  go_loopw [5] (fun i wr => ∃ k : Nat, k ≤ m ∧ i = .int .i64 k ∧ Below w.heap.size w wr) (fun i _ => m - (intOf i).toNat)
  case atStart => exact ⟨0, Nat.zero_le _, rfl, Below.refl _ _⟩
  case round =>
    obtain ⟨k, hk, rfl, hbel⟩ := hrel
    by_cases hlt : k < m
    · obtain ⟨g1, o1, rfl, hg1, q0, q1, q2, q3⟩ := read (K1.out.on hbel) k (by rw [HM.out]; exact hlt)
      obtain ⟨g2, o2, rfl, hg2, p0, p1, p2, p3⟩ := read (K2.out.on hbel) k (by rw [HM.out]; exact hlt)
      generalize (l[k]'(by rw [HM.out]; exact hlt)) = x at q0 q1 q2 q3 p0 p1 p2 p3
      have b0 : (0 : Int) ≤ (k : Int) := by omega
      have b1 : (k : Int) < (m : Int) := by omega
      have HB := Lib.hid hbel
      clear hbel
      go_wp2_with fail
      go_region_with (go_at_call 44; (with_reducible refine (eq1 x _).mono ?_); rintro e w4 ⟨rfl, hb4⟩; have HB4 := Lib.hid hb4; clear hb4)
      all_goals
        go_wp2
        go_roundw
        · exact ⟨k + 1, by omega, by go_num, HB.out.trans (((below_drewN (Below.refl wr.heap.size wr) 1).trans HB4.out).mono HB.out.size)⟩
        · simp [intOf]; omega
    · go_wp2
      go_ret
      exact ⟨rfl, hbel⟩

/-- The marks k, k + 1, .., 4 to an element. -/
def mk (k : Int) : El := ⟨k, k + 1, k + 1 + 1, ((k + 1 + 1 + 1) % 3 == 0)⟩
def marks (k : Int) (n : Nat) : List El := (List.range n).map fun (i : Nat) => mk (k + 4 * (i : Int))
theorem marks_len (k : Int) (n : Nat) : (marks k n).length = n := by simp [marks]
theorem marks_get (k : Int) (n j : Nat) (h : j < (marks k n).length) : (marks k n)[j] = mk (k + 4 * (j : Int)) := by simp [marks]
def markTo (l : List El) (k : Int) (j : Nat) : List El := marks k j ++ l.drop j
theorem markTo_zero (l : List El) (k : Int) : markTo l k 0 = l := by simp [markTo, marks]
theorem markTo_len (l : List El) (k : Int) (j : Nat) (h : j ≤ l.length) : (markTo l k j).length = l.length := by simp [markTo, marks_len]; omega
theorem markTo_all (l : List El) (k : Int) : markTo l k l.length = marks k l.length := by simp [markTo]
theorem markTo_set (l : List El) (k : Int) (j : Nat) (h : j < l.length) : (markTo l k j).set j (mk (k + 4 * (j : Int))) = markTo l k (j + 1) := by
  unfold markTo
  have e1 : (marks k j).length = j := marks_len k j
  rw [List.set_append_right _ _ (by omega), e1, Nat.sub_self, List.drop_eq_getElem_cons h, List.set_cons_zero]
  have e2 : marks k (j + 1) = marks k j ++ [mk (k + 4 * (j : Int))] := by simp [marks, List.range_succ]
  rw [e2, List.append_assoc]
  rfl
theorem gb_set {w w' : World} {g o : Nat} {row : Option Nat} (h : w.grownBy w' row) (hr : row = some g) (v : Value) : w.grownBy (w'.setCell ⟨g, o, none⟩ v) row :=
  h.trans ⟨rfl, rfl, rfl, by simp [World.setCell], fun i _ hne => Below.heap_setCell _ _ _ _ (fun e => hne (by rw [hr]; exact congrArg some e))⟩
def MarkedO (B : Nat) (v : Value) (l : List El) (x : Int) (w : World) (e : Ending) (w' : World) : Prop := e = .returned (.int .i64 x) ∧ Owns fc 4 w' B T v l ∧ w.grownBy w' v.ownBlock
set_option maxHeartbeats 2000000 in
theorem mark_o (w : World) (B : Nat) (a : Option Addr) (m cap : Nat) (l : List El) (k : Int) (hm : l.length = m) (hs : m ≤ 1099511627776) (hk0 : 0 ≤ k) (hk1 : k ≤ 1099511627776) (h : Owns fc 4 w B T (.slice a m cap) l) :
    Calls Try.prog 26 #[.slice a m cap, .int .i64 k] w (MarkedO B (.slice a m cap) (marks k m) (k + 4 * (m : Int)) w) := by
  have H0 := Lib.hid h
  have HM := Lib.hid hm
  clear hm h
  go_enter Try.func26, Try.ntmps26
  go_wp2
  go_loopw [1, 5] (fun q i wr => ∃ j : Nat, j ≤ m ∧ i = .int .i64 j ∧ q = .int .i64 (k + 4 * (j : Int)) ∧ Hid (Owns fc 4 wr B T (.slice a m cap) (markTo l k j)) ∧ w.grownBy wr (Value.slice a m cap).ownBlock) (fun _ i _ => m - (intOf i).toNat)
  case atStart => exact ⟨0, Nat.zero_le _, rfl, by simp, by rw [markTo_zero]; exact H0, World.grownBy.refl _ _⟩
  case round =>
    obtain ⟨j, hj, rfl, rfl, hown, hbel⟩ := hrel
    by_cases hlt : j < m
    · have HL : (markTo l k j).length = m := by rw [markTo_len _ _ _ (by rw [HM.out]; omega), HM.out]
      obtain ⟨g, rfl, hBg, hgl, q0, q1, q2, q3, z0, z1, z2, z3⟩ := own hown.out j (by rw [HL]; exact hlt)
      generalize ((markTo l k j)[j]'(by rw [HL]; exact hlt)) = y at q0 q1 q2 q3
      have b1 : (0 : Int) ≤ (j : Int) := by omega
      have b2 : (j : Int) < (m : Int) := by omega
      have HG := Lib.hid hbel
      have HL' := Lib.hid HL
      clear hbel HL
      obtain ⟨k0, hk0'⟩ : ∃ k0, k + 4 * (j : Int) = k0 := ⟨_, rfl⟩
      have K0 : 0 ≤ k0 ∧ k0 ≤ 90000000000000 := by omega
      rw [hk0']
      have HK := Lib.hid hk0'
      clear hk0'
      go_wp2
      go_roundw
      case rel =>
        refine ⟨j + 1, by omega, by go_num, congrArg (Value.int .i64) (by have := HK.out; omega), ?_, ?_⟩
        · have R := stored hown.out j (by rw [HL'.out]; exact hlt) (mk (k + 4 * (j : Int)))
          rw [markTo_set _ _ _ (by rw [HM.out]; exact hlt)] at R
          rw [HK.out] at R
          exact Lib.hid R
        · exact (gb_set (gb_set (gb_set (gb_set HG.out rfl _) rfl _) rfl _) rfl _)
      case measure => simp [intOf]; omega
    · obtain rfl : j = m := by omega
      go_wp2
      go_ret
      refine ⟨rfl, ?_, hbel⟩
      have e := markTo_all l k
      rw [HM.out] at e
      have R := hown.out
      rw [e] at R
      exact R
def Marked (lo hi : Nat) (v : Value) (l : List El) (x : Int) (w : World) (e : Ending) (w' : World) : Prop := e = .returned (.int .i64 x) ∧ Own.Ow fc 4 T w' lo hi v l ∧ Own.Mid lo hi w w'
theorem mark_c (w : World) (lo hi : Nat) (a : Option Addr) (m cap : Nat) (l : List El) (k : Int) (hm : l.length = m) (hs : m ≤ 1099511627776) (hk0 : 0 ≤ k) (hk1 : k ≤ 1099511627776) (h : Own.Ow fc 4 T w lo hi (.slice a m cap) l) (hlo : lo ≤ w.heap.size) :
    Calls Try.prog 26 #[.slice a m cap, .int .i64 k] w (Marked lo hi (.slice a m cap) (marks k m) (k + 4 * (m : Int)) w) :=
  (mark_o w lo a m cap l k hm hs hk0 hk1 h.own).mono fun e w' ⟨he, ho, hg⟩ => ⟨he, ⟨ho, h.top, Nat.le_trans h.lim hg.size⟩, Own.Mid.of_grown hg (fun k hk => ⟨h.own.low k hk, h.top k hk⟩) hlo⟩
set_option maxHeartbeats 2000000 in
theorem held_c (w : World) (a : Option Addr) (m cap : Nat) (k : Int) (hs : m ≤ 1099511627776) (hk0 : 0 ≤ k) (hk1 : k ≤ 1099511627776) (h : Reads fc 4 w a (marks k m)) :
    Calls Try.prog 27 #[.slice a m cap, .int .i64 k] w (fun e w' => e = .returned (.int .i64 (k + 4 * (m : Int))) ∧ Below w.heap.size w w') := by
  have KK := Lib.hid h
  clear h
  go_enter Try.func27, Try.ntmps27
  go_wp2
  go_loopw [1, 5] (fun q i wr => ∃ j n : Nat, j ≤ m ∧ i = .int .i64 j ∧ q = .int .i64 (k + 4 * (j : Int)) ∧ wr = w.drewN n) (fun _ i _ => m - (intOf i).toNat)
  case atStart => exact ⟨0, 0, Nat.zero_le _, rfl, by simp, rfl⟩
  case round =>
    obtain ⟨j, n, hj, rfl, rfl, rfl⟩ := hrel
    by_cases hlt : j < m
    · obtain ⟨g, o, rfl, hgl, q0, q1, q2, q3⟩ := read KK.out j (by rw [marks_len]; exact hlt)
      rw [marks_get] at q0 q1 q2 q3
      simp only [mk] at q0 q1 q2 q3
      have b0 : (0 : Int) ≤ (j : Int) := by omega
      have b1 : (j : Int) < (m : Int) := by omega
      obtain ⟨k0, hk0'⟩ : ∃ k0, k + 4 * (j : Int) = k0 := ⟨_, rfl⟩
      have K0 : 0 ≤ k0 ∧ k0 ≤ 90000000000000 := by omega
      rw [hk0'] at q0 q1 q2 q3 ⊢
      have HK := Lib.hid hk0'
      clear hk0'
      go_wp2
      go_roundw
      case rel => exact ⟨j + 1, _, by omega, by go_num, congrArg (Value.int .i64) (by have := HK.out; omega), rfl⟩
      case measure => simp [intOf]; omega
    · obtain rfl : j = m := by omega
      go_wp2
      go_ret
      exact ⟨rfl, below_drewN (Below.refl _ _) _⟩
theorem sz_c (w : World) (a : Option Addr) (m cap : Nat) (k : Int) (hs : m ≤ 9223372036854775807) (hk0 : 0 ≤ k) (hk1 : k ≤ 1099511627776) :
    Calls Try.prog 20 #[.slice a m cap, .int .i64 k] w (fun e w' => e = .returned (.int .i64 (if k < (m : Int) then -1 else k - (m : Int))) ∧ Below w.heap.size w w') := by
  by_cases hb : k < (m : Int)
  · rw [if_pos hb]
    go_enter Try.func20, Try.ntmps20
    go_wp2
    go_ret
    exact ⟨rfl, Below.refl _ _⟩
  · rw [if_neg hb]
    go_enter Try.func20, Try.ntmps20
    go_wp2
    go_ret
    exact ⟨rfl, Below.refl _ _⟩
end Go.Proofs.Ytkoeodmneedjcaa.TSpell

/- Rows of Point (3 cells an element): what came in, what the call owns; the laws' helpers on them. Written by gen_row.py. -/
import Derived.Test.YtdmkceaonfbebaaRows
import Derived.Test.YtdmkceaonfbebaaKit
import Derived.WalkKit
import Derived.Below
import Derived.WalkSmall
import Derived.Lib.Hide
import Derived.BigQuiet
import Derived.Deep.QuietTactic
import Derived.OpenShut
namespace Go.Proofs.Ytdmkceaonfbebaa.TPoint
open Go.RowKit RowN
set_option linter.unusedVariables false

structure El where
  Month : Int
  Known : Int
  Value : Int
def fc (x : El) : List Value := [.int .i64 x.Month, .int .i64 x.Known, .int .i64 x.Value]
def fv (x : El) : Value := .agg #[.int .i64 x.Month, .int .i64 x.Known, .int .i64 x.Value]
def e0 : El := ⟨0, 0, 0⟩
theorem fw : Wide fc 3 := ⟨fun _ => rfl, by rintro x v hv; simp only [fc, List.mem_cons, List.not_mem_nil, or_false] at hv; rcases hv with rfl | rfl | rfl <;> rfl, by omega⟩
abbrev T : Nat := 43
theorem ft : ElT Try.prog 27 43 (fv e0) 3 24 := ⟨Try.underlying27, by kernel_rfl, by omega, rfl⟩
def Wf (x : El) : Prop := (Lit.int .i64 x.Month).wf = true ∧ (Lit.int .i64 x.Known).wf = true ∧ (Lit.int .i64 x.Value).wf = true
open Shape in
theorem cov {w : World} {cs : List Value} (h : FitL w [.int .i64, .int .i64, .int .i64] cs) : ∃ x, cs = fc x ∧ Wf x := by
  obtain ⟨x0, _, rfl, w0, h⟩ := fit_int h
  obtain ⟨x1, _, rfl, w1, h⟩ := fit_int h
  obtain ⟨x2, _, rfl, w2, h⟩ := fit_int h
  obtain rfl := fit_nil h
  exact ⟨⟨x0, x1, x2⟩, rfl, w0, w1, w2⟩
theorem read {w : World} {a : Option Addr} {l : List El} (h : Reads fc 3 w a l) (j : Nat) (hj : j < l.length) : ∃ blk off, a = some ⟨blk, off, none⟩ ∧ blk < w.heap.size ∧ w.cell? ⟨blk, off + j * 3, none⟩ = some (.int .i64 l[j].Month) ∧ w.cell? ⟨blk, off + j * 3 + 1, none⟩ = some (.int .i64 l[j].Known) ∧ w.cell? ⟨blk, off + j * 3 + 2, none⟩ = some (.int .i64 l[j].Value) := by
  obtain ⟨blk, off, e, hlt, hc⟩ := h j hj
  exact ⟨blk, off, e, hlt, hc 0 (by omega), hc 1 (by omega), hc 2 (by omega)⟩
theorem own {w : World} {B n cap : Nat} {a : Option Addr} {l : List El} (h : Owns fc 3 w B T (.slice a n cap) l) (j : Nat) (hj : j < l.length) : ∃ g, a = some ⟨g, 0, none⟩ ∧ B ≤ g ∧ g < w.heap.size ∧ w.cell? ⟨g, j * 3, none⟩ = some (.int .i64 l[j].Month) ∧ w.cell? ⟨g, j * 3 + 1, none⟩ = some (.int .i64 l[j].Known) ∧ w.cell? ⟨g, j * 3 + 2, none⟩ = some (.int .i64 l[j].Value) ∧ w.frozen? ⟨g, j * 3, none⟩ = false ∧ w.frozen? ⟨g, j * 3 + 1, none⟩ = false ∧ w.frozen? ⟨g, j * 3 + 2, none⟩ = false := by
  obtain ⟨g, e, hb, hlt, hc⟩ := h.at fw j hj
  exact ⟨g, e, hb, hlt, (hc 0 (by omega)).1, (hc 1 (by omega)).1, (hc 2 (by omega)).1, (hc 0 (by omega)).2, (hc 1 (by omega)).2, (hc 2 (by omega)).2⟩
theorem stored {w : World} {B g cap n : Nat} {l : List El} (h : Owns fc 3 w B T (.slice (some ⟨g, 0, none⟩) n cap) l) (j : Nat) (hj : j < l.length) (x : El) :
    Owns fc 3 (((w.setCell ⟨g, j * 3, none⟩ (.int .i64 x.Month)).setCell ⟨g, j * 3 + 1, none⟩ (.int .i64 x.Known)).setCell ⟨g, j * 3 + 2, none⟩ (.int .i64 x.Value)) B T (.slice (some ⟨g, 0, none⟩) n cap) (l.set j x) := by
  have s0 := h.stored fw j hj 0 (by omega) (.int .i64 x.Month) ⟨x.Month, l[j].Known, l[j].Value⟩ rfl
  have s1 := s0.stored fw j (by simpa using hj) 1 (by omega) (.int .i64 x.Known) ⟨x.Month, x.Known, l[j].Value⟩ (by rw [List.getElem_set_self]; rfl)
  have s2 := s1.stored fw j (by simpa using hj) 2 (by omega) (.int .i64 x.Value) x (by rw [List.getElem_set_self]; rfl)
  simpa only [List.set_set, Nat.add_zero] using s2
theorem below {w0 w : World} {B g o : Nat} {y0 y1 y2 : Value} (h : Below B w0 w) (hB : B ≤ g) : Below B w0 (((w.setCell ⟨g, o, none⟩ y0).setCell ⟨g, o + 1, none⟩ y1).setCell ⟨g, o + 2, none⟩ y2) :=
  (((h.setCell (p := ⟨g, o, none⟩) hB _).setCell (p := ⟨g, o + 1, none⟩) hB _).setCell (p := ⟨g, o + 2, none⟩) hB _)
def IsRow (l : List El) (w : World) (e : Ending) (w' : World) : Prop := ∃ p c, e = .returned (.slice p l.length c) ∧ Owns fc 3 w' w.heap.size T (.slice p l.length c) l ∧ Below w.heap.size w w'
def IsEl (x : El) (w : World) (e : Ending) (w' : World) : Prop := e = .returned (fv x) ∧ Below w.heap.size w w'
def IsBo (b : Bool) (w : World) (e : Ending) (w' : World) : Prop := e = .returned (.bool b) ∧ Below w.heap.size w w'
set_option maxHeartbeats 1000000 in
theorem to1 (x : El) (w : World) : Calls Try.prog 67 #[fv x] w (IsEl x w) := by
  obtain ⟨x0, x1, x2⟩ := x
  show Calls Try.prog 67 #[.agg #[.int .i64 x0, .int .i64 x1, .int .i64 x2]] w (IsEl ⟨x0, x1, x2⟩ w)
  go_enter Try.func67, Try.ntmps67
  go_wp2
  refine bodyPost_ret (v := .agg #[.int .i64 x0, .int .i64 x1, .int .i64 x2]) (by simp [results, Try.results67, go_sem]) rfl ⟨rfl, ?_⟩
  (repeat (first | exact Below.refl _ _ | apply BelowKit.bl_alloc | apply BelowKit.bl_drewN | apply BelowKit.bl_drew | (refine BelowKit.bl_set ?_ _ ?_; rotate_left; (first | omega | (simp; omega) | simp)) | (refine BelowKit.bl_trans ?_ (‹Hid (Below _ _ _)›).out)))
theorem copy_set (l : List El) (j : Nat) (h : j < l.length) : (l.take j ++ List.replicate (l.length - j) e0).set j l[j] = l.take (j + 1) ++ List.replicate (l.length - (j + 1)) e0 := by
  have e : (l.take j).length = j := by simp; omega
  rw [List.set_append_right _ _ (by omega), e, Nat.sub_self, show l.length - j = (l.length - (j + 1)) + 1 by omega, List.replicate_succ, List.set_cons_zero, List.take_succ_eq_append_getElem h, List.append_assoc]
  rfl
set_option maxHeartbeats 2000000 in
theorem to_c (w : World) (a : Option Addr) (m cap : Nat) (l : List El) (hm : l.length = m) (hs : m ≤ 1099511627776) (h : Reads fc 3 w a l) :
    Calls Try.prog 51 #[.slice a m cap] w (IsRow l w) := by
  have KK := Lib.hid h
  have HM := Lib.hid hm
  clear h hm
  go_enter Try.func51, Try.ntmps51
  go_wp2_with (at_make; refine wpList_makeN ft fw (z0 := e0) rfl _ rfl _ _ rfl w.heap.size .i64 .i64 _ _ m rfl rfl rfl rfl hs (Nat.le_refl _) ?_; intro w1 hown1 hg1)
  have HO1 := Lib.hid hown1
  have hb1 : Below w.heap.size w w1 := (Below.refl _ _).grown hg1 (Nat.le_refl _) (by simp)
  have K1 := Lib.hid (KK.out.on hb1)
  have HB1 := Lib.hid hb1
  clear hown1 hg1 hb1
  go_loopw [4] (fun i wr => ∃ j : Nat, j ≤ m ∧ i = .int .i64 j ∧ Hid (Owns fc 3 wr w.heap.size T (.slice (some ⟨w.heap.size, 0, none⟩) m m) (l.take j ++ List.replicate (m - j) e0)) ∧ Below w.heap.size w wr) (fun i _ => m - (intOf i).toNat)
  case atStart => exact ⟨0, Nat.zero_le _, rfl, by simpa using HO1, HB1.out⟩
  case round =>
    obtain ⟨j, hj, rfl, hown, hbel⟩ := hrel
    by_cases hlt : j < m
    · have hr := KK.out.on hbel
      obtain ⟨g, o, rfl, hgl, q0, q1, q2⟩ := read hr j (by rw [HM.out]; exact hlt)
      have HL : (l.take j ++ List.replicate (m - j) e0).length = m := by simp [HM.out]; omega
      obtain ⟨x, hx⟩ : ∃ x, l[j]'(by rw [HM.out]; exact hlt) = x := ⟨_, rfl⟩
      rw [hx] at q0 q1 q2
      have HX := Lib.hid hx
      have b1 : (0 : Int) ≤ (j : Int) := by omega
      have b2 : (j : Int) < (m : Int) := by omega
      have HB := Lib.hid hbel
      clear hr hx hbel
      go_wp2_with fail
      refine (to1 x _).mono ?_
      rintro e w2 ⟨rfl, hb2⟩
      have hown2 := hown.out.on hb2
      have HB2 := Lib.hid (HB.out.trans (hb2.mono HB.out.size))
      obtain ⟨g', e', _, hlt', p0, p1, p2, z0, z1, z2⟩ := own hown2 j (by rw [HL]; exact hlt)
      cases e'
      generalize ((l.take j ++ List.replicate (m - j) e0)[j]'(by rw [HL]; exact hlt)) = y at p0 p1 p2
      have HO2 := Lib.hid hown2
      clear hown hown2 hb2 HB q0 q1 q2
      unfold fv
      go_wp2
      go_roundw
      case rel =>
        refine ⟨j + 1, by omega, by go_num, ?_, below HB2.out (Nat.le_refl _)⟩
        have R := stored HO2.out j (by rw [HL]; exact hlt) x
        have E := copy_set l j (by rw [HM.out]; exact hlt)
        rw [HX.out, HM.out] at E
        rw [E] at R
        exact Lib.hid R
      case measure => simp [intOf]; omega
    · obtain rfl : j = m := by omega
      go_wp2
      go_ret
      refine ⟨some ⟨w.heap.size, 0, none⟩, l.length, ?_, ?_, hbel⟩
      · rw [HM.out]; rfl
      · have R := hown.out
        rw [Nat.sub_self, List.take_of_length_le (by rw [HM.out]; exact Nat.le_refl _)] at R
        simpa [HM.out] using R
set_option maxHeartbeats 1000000 in
theorem eq1 (x : El) (w : World) : Calls Try.prog 68 #[.agg #[.int .i64 x.Month, .int .i64 x.Known, .int .i64 x.Value], .agg #[.int .i64 x.Month, .int .i64 x.Known, .int .i64 x.Value]] w (IsBo true w) := by
  obtain ⟨x0, x1, x2⟩ := x
  go_enter Try.func68, Try.ntmps68
  go_wp2
  go_ret
  exact ⟨rfl, by (repeat (first | exact Below.refl _ _ | apply BelowKit.bl_alloc | apply BelowKit.bl_drewN | apply BelowKit.bl_drew | (refine BelowKit.bl_set ?_ _ ?_; rotate_left; (first | omega | (simp; omega) | simp)) | (refine BelowKit.bl_trans ?_ (‹Hid (Below _ _ _)›).out)))⟩
set_option maxHeartbeats 2000000 in
theorem eq_c (w : World) (m c1 c2 : Nat) (a1 a2 : Option Addr) (l : List El) (hm : l.length = m) (hs : m ≤ 1099511627776) (h1 : Reads fc 3 w a1 l) (h2 : Reads fc 3 w a2 l) :
    Calls Try.prog 52 #[.slice a1 m c1, .slice a2 m c2] w (IsBo true w) := by
  have K1 := Lib.hid h1
  have K2 := Lib.hid h2
  have HM := Lib.hid hm
  clear h1 h2 hm
  go_enter Try.func52, Try.ntmps52
  go_wp2
  go_loopw [5] (fun i wr => ∃ k : Nat, k ≤ m ∧ i = .int .i64 k ∧ Below w.heap.size w wr) (fun i _ => m - (intOf i).toNat)
  case atStart => exact ⟨0, Nat.zero_le _, rfl, Below.refl _ _⟩
  case round =>
    obtain ⟨k, hk, rfl, hbel⟩ := hrel
    by_cases hlt : k < m
    · obtain ⟨g1, o1, rfl, hg1, q0, q1, q2⟩ := read (K1.out.on hbel) k (by rw [HM.out]; exact hlt)
      obtain ⟨g2, o2, rfl, hg2, p0, p1, p2⟩ := read (K2.out.on hbel) k (by rw [HM.out]; exact hlt)
      generalize (l[k]'(by rw [HM.out]; exact hlt)) = x at q0 q1 q2 p0 p1 p2
      have b0 : (0 : Int) ≤ (k : Int) := by omega
      have b1 : (k : Int) < (m : Int) := by omega
      have HB := Lib.hid hbel
      clear hbel
      go_wp2_with fail
      go_region_with (go_at_call 68; (with_reducible refine (eq1 x _).mono ?_); rintro e w4 ⟨rfl, hb4⟩; have HB4 := Lib.hid hb4; clear hb4)
      all_goals
        go_wp2
        go_roundw
        · exact ⟨k + 1, by omega, by go_num, HB.out.trans (((below_drewN (Below.refl wr.heap.size wr) 1).trans HB4.out).mono HB.out.size)⟩
        · simp [intOf]; omega
    · go_wp2
      go_ret
      exact ⟨rfl, hbel⟩

/-- The marks k, k + 1, .., 3 to an element. -/
def mk (k : Int) : El := ⟨k, k + 1, k + 1 + 1⟩
def marks (k : Int) (n : Nat) : List El := (List.range n).map fun (i : Nat) => mk (k + 3 * (i : Int))
theorem marks_len (k : Int) (n : Nat) : (marks k n).length = n := by simp [marks]
theorem marks_get (k : Int) (n j : Nat) (h : j < (marks k n).length) : (marks k n)[j] = mk (k + 3 * (j : Int)) := by simp [marks]
def markTo (l : List El) (k : Int) (j : Nat) : List El := marks k j ++ l.drop j
theorem markTo_zero (l : List El) (k : Int) : markTo l k 0 = l := by simp [markTo, marks]
theorem markTo_len (l : List El) (k : Int) (j : Nat) (h : j ≤ l.length) : (markTo l k j).length = l.length := by simp [markTo, marks_len]; omega
theorem markTo_all (l : List El) (k : Int) : markTo l k l.length = marks k l.length := by simp [markTo]
theorem markTo_set (l : List El) (k : Int) (j : Nat) (h : j < l.length) : (markTo l k j).set j (mk (k + 3 * (j : Int))) = markTo l k (j + 1) := by
  unfold markTo
  have e1 : (marks k j).length = j := marks_len k j
  rw [List.set_append_right _ _ (by omega), e1, Nat.sub_self, List.drop_eq_getElem_cons h, List.set_cons_zero]
  have e2 : marks k (j + 1) = marks k j ++ [mk (k + 3 * (j : Int))] := by simp [marks, List.range_succ]
  rw [e2, List.append_assoc]
  rfl
theorem gb_set {w w' : World} {g o : Nat} {row : Option Nat} (h : w.grownBy w' row) (hr : row = some g) (v : Value) : w.grownBy (w'.setCell ⟨g, o, none⟩ v) row :=
  h.trans ⟨rfl, rfl, rfl, by simp [World.setCell], fun i _ hne => Below.heap_setCell _ _ _ _ (fun e => hne (by rw [hr]; exact congrArg some e))⟩
theorem sz_c (w : World) (a : Option Addr) (m cap : Nat) (k : Int) (hs : m ≤ 9223372036854775807) (hk0 : 0 ≤ k) (hk1 : k ≤ 1099511627776) :
    Calls Try.prog 48 #[.slice a m cap, .int .i64 k] w (fun e w' => e = .returned (.int .i64 (if k < (m : Int) then -1 else k - (m : Int))) ∧ Below w.heap.size w w') := by
  by_cases hb : k < (m : Int)
  · rw [if_pos hb]
    go_enter Try.func48, Try.ntmps48
    go_wp2
    go_ret
    exact ⟨rfl, Below.refl _ _⟩
  · rw [if_neg hb]
    go_enter Try.func48, Try.ntmps48
    go_wp2
    go_ret
    exact ⟨rfl, Below.refl _ _⟩
end Go.Proofs.Ytdmkceaonfbebaa.TPoint

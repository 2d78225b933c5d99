/- Contracts of the laws' helpers on slices of facts and on stores: copied, compared, marked and found again. -/
import Derived.Test.YtdmkceaonfbebaaRows
import Derived.Test.YtdmkceaonfbebaaKit
import Derived.Test.YtdmkceaonfbebaaFact
import Derived.WalkKit
import Derived.Below
import Derived.WalkSmall
import Derived.Lib.Hide
import Derived.BigQuiet
import Derived.Deep.QuietTactic
import Derived.OpenShut
namespace Go.Proofs.Ytdmkceaonfbebaa.FactRow
open Go.RowKit RowN Fact

abbrev FT : Nat := 71
abbrev OwnsF (w : World) (B : Nat) (v : Value) (l : List Fa) : Prop := Owns fc 5 w B FT v l
abbrev ReadsF (w : World) (a : Option Addr) (l : List Fa) : Prop := Reads fc 5 w a l

theorem read5 {w : World} {a : Option Addr} {l : List Fa} (h : ReadsF w a l) (j : Nat) (hj : j < l.length) : ∃ blk off, a = some ⟨blk, off, none⟩ ∧ blk < w.heap.size ∧
    w.cell? ⟨blk, off + j * 5, none⟩ = some (.int .i64 l[j].k) ∧ w.cell? ⟨blk, off + j * 5 + 1, none⟩ = some (.int .i64 l[j].f) ∧ w.cell? ⟨blk, off + j * 5 + 2, none⟩ = some (.int .i64 l[j].t) ∧
    w.cell? ⟨blk, off + j * 5 + 3, none⟩ = some (.int .i64 l[j].n) ∧ w.cell? ⟨blk, off + j * 5 + 4, none⟩ = some (.int .i64 l[j].v) := by
  obtain ⟨blk, off, e, hlt, hc⟩ := h j hj
  exact ⟨blk, off, e, hlt, hc 0 (by omega), hc 1 (by omega), hc 2 (by omega), hc 3 (by omega), hc 4 (by omega)⟩
theorem own5 {w : World} {B n cap : Nat} {a : Option Addr} {l : List Fa} (h : OwnsF w B (.slice a n cap) l) (j : Nat) (hj : j < l.length) : ∃ g, a = some ⟨g, 0, none⟩ ∧ B ≤ g ∧ g < w.heap.size ∧
    w.cell? ⟨g, j * 5, none⟩ = some (.int .i64 l[j].k) ∧ w.cell? ⟨g, j * 5 + 1, none⟩ = some (.int .i64 l[j].f) ∧ w.cell? ⟨g, j * 5 + 2, none⟩ = some (.int .i64 l[j].t) ∧
    w.cell? ⟨g, j * 5 + 3, none⟩ = some (.int .i64 l[j].n) ∧ w.cell? ⟨g, j * 5 + 4, none⟩ = some (.int .i64 l[j].v) ∧
    w.frozen? ⟨g, j * 5, none⟩ = false ∧ w.frozen? ⟨g, j * 5 + 1, none⟩ = false ∧ w.frozen? ⟨g, j * 5 + 2, none⟩ = false ∧ w.frozen? ⟨g, j * 5 + 3, none⟩ = false ∧ w.frozen? ⟨g, j * 5 + 4, none⟩ = false := by
  obtain ⟨g, e, hb, hlt, hc⟩ := h.at fw j hj
  exact ⟨g, e, hb, hlt, (hc 0 (by omega)).1, (hc 1 (by omega)).1, (hc 2 (by omega)).1, (hc 3 (by omega)).1, (hc 4 (by omega)).1, (hc 0 (by omega)).2, (hc 1 (by omega)).2, (hc 2 (by omega)).2, (hc 3 (by omega)).2, (hc 4 (by omega)).2⟩
/-- A whole element stored, field by field. -/
theorem stored5 {w : World} {B g cap n : Nat} {l : List Fa} (h : OwnsF w B (.slice (some ⟨g, 0, none⟩) n cap) l) (j : Nat) (hj : j < l.length) (x : Fa) :
    OwnsF (((((w.setCell ⟨g, j * 5, none⟩ (.int .i64 x.k)).setCell ⟨g, j * 5 + 1, none⟩ (.int .i64 x.f)).setCell ⟨g, j * 5 + 2, none⟩ (.int .i64 x.t)).setCell ⟨g, j * 5 + 3, none⟩ (.int .i64 x.n)).setCell ⟨g, j * 5 + 4, none⟩ (.int .i64 x.v)) B
      (.slice (some ⟨g, 0, none⟩) n cap) (l.set j x) := by
  have s0 := h.stored fw j hj 0 (by omega) (.int .i64 x.k) ⟨x.k, l[j].f, l[j].t, l[j].n, l[j].v⟩ rfl
  have s1 := s0.stored fw j (by simpa using hj) 1 (by omega) (.int .i64 x.f) ⟨x.k, x.f, l[j].t, l[j].n, l[j].v⟩ (by rw [List.getElem_set_self]; rfl)
  have s2 := s1.stored fw j (by simpa using hj) 2 (by omega) (.int .i64 x.t) ⟨x.k, x.f, x.t, l[j].n, l[j].v⟩ (by rw [List.getElem_set_self]; rfl)
  have s3 := s2.stored fw j (by simpa using hj) 3 (by omega) (.int .i64 x.n) ⟨x.k, x.f, x.t, x.n, l[j].v⟩ (by rw [List.getElem_set_self]; rfl)
  have s4 := s3.stored fw j (by simpa using hj) 4 (by omega) (.int .i64 x.v) x (by rw [List.getElem_set_self]; rfl)
  simpa only [List.set_set, Nat.add_zero] using s4
theorem below5 {w0 w : World} {B g o : Nat} {u0 u1 u2 u3 u4 : Value} (h : Below B w0 w) (hB : B ≤ g) :
    Below B w0 (((((w.setCell ⟨g, o, none⟩ u0).setCell ⟨g, o + 1, none⟩ u1).setCell ⟨g, o + 2, none⟩ u2).setCell ⟨g, o + 3, none⟩ u3).setCell ⟨g, o + 4, none⟩ u4) :=
  ((((h.setCell (p := ⟨g, o, none⟩) hB _).setCell (p := ⟨g, o + 1, none⟩) hB _).setCell (p := ⟨g, o + 2, none⟩) hB _).setCell (p := ⟨g, o + 3, none⟩) hB _).setCell (p := ⟨g, o + 4, none⟩) hB _

def IsCopy (l : List Fa) (w : World) (e : Ending) (w' : World) : Prop := ∃ g : Nat, e = .returned (.slice (some ⟨g, 0, none⟩) l.length l.length) ∧ w.heap.size ≤ g ∧ OwnsF w' w.heap.size (.slice (some ⟨g, 0, none⟩) l.length l.length) l ∧ Below w.heap.size w w'
theorem copy_set (l : List Fa) (j : Nat) (h : j < l.length) : (l.take j ++ List.replicate (l.length - j) f0).set j l[j] = l.take (j + 1) ++ List.replicate (l.length - (j + 1)) f0 := by
  have e : (l.take j).length = j := by simp; omega
  rw [List.set_append_right _ _ (by omega), e, Nat.sub_self, show l.length - j = (l.length - (j + 1)) + 1 by omega, List.replicate_succ, List.set_cons_zero, List.take_succ_eq_append_getElem h, List.append_assoc]
  rfl
set_option maxHeartbeats 1000000 in
theorem copy_c (w : World) (a : Option Addr) (m cap : Nat) (l : List Fa) (hm : l.length = m) (hs : m ≤ 1099511627776) (h : ReadsF w a l) :
    Calls Try.prog 43 #[.slice a m cap] w (IsCopy l w) := by
  have KK := Lib.hid h
  have HM := Lib.hid hm
  clear h hm
  go_enter Try.func43, Try.ntmps43
  go_wp2_with (at_make; refine wpList_makeN ft fw (z0 := f0) rfl _ rfl _ _ rfl w.heap.size .i64 .i64 _ _ m rfl rfl rfl rfl hs (Nat.le_refl _) ?_; intro w1 hown1 hg1)
  have HO1 := Lib.hid hown1
  have hb1 : Below w.heap.size w w1 := (Below.refl _ _).grown hg1 (Nat.le_refl _) (by simp)
  have K1 := Lib.hid (KK.out.on hb1)
  have HB1 := Lib.hid hb1
  clear hown1 hg1 hb1
  go_loopw [4] (fun i wr => ∃ j : Nat, j ≤ m ∧ i = .int .i64 j ∧ Hid (OwnsF wr w.heap.size (.slice (some ⟨w.heap.size, 0, none⟩) m m) (l.take j ++ List.replicate (m - j) f0)) ∧ Below w.heap.size w wr) (fun i _ => m - (intOf i).toNat)
  case atStart => exact ⟨0, Nat.zero_le _, rfl, by simpa using HO1, HB1.out⟩
  case round =>
    obtain ⟨j, hj, rfl, hown, hbel⟩ := hrel
    by_cases hlt : j < m
    · have hr := KK.out.on hbel
      obtain ⟨g, o, rfl, hgl, q0, q1, q2, q3, q4⟩ := read5 hr j (by rw [HM.out]; exact hlt)
      have HL : (l.take j ++ List.replicate (m - j) f0).length = m := by simp [HM.out]; omega
      obtain ⟨x, hx⟩ : ∃ x, l[j]'(by rw [HM.out]; exact hlt) = x := ⟨_, rfl⟩
      rw [hx] at q0 q1 q2 q3 q4
      have HX := Lib.hid hx
      have b1 : (0 : Int) ≤ (j : Int) := by omega
      have b2 : (j : Int) < (m : Int) := by omega
      have HB := Lib.hid hbel
      clear hr hx hbel
      go_wp2_with fail
      refine (to_c x _).mono ?_
      rintro e w2 ⟨rfl, hb2⟩
      have hown2 := hown.out.on hb2
      have HB2 := Lib.hid (HB.out.trans (hb2.mono HB.out.size))
      obtain ⟨g', e', _, hlt', p0, p1, p2, p3, p4, z0, z1, z2, z3, z4⟩ := own5 hown2 j (by rw [HL]; exact hlt)
      cases e'
      generalize ((l.take j ++ List.replicate (m - j) f0)[j]'(by rw [HL]; exact hlt)) = y at p0 p1 p2 p3 p4
      have HO2 := Lib.hid hown2
      clear hown hown2 hb2 HB q0 q1 q2 q3 q4
      unfold fv
      go_wp2
      go_roundw
      case rel =>
        refine ⟨j + 1, by omega, by go_num, ?_, below5 HB2.out (Nat.le_refl _)⟩
        have R := stored5 HO2.out j (by rw [HL]; exact hlt) x
        have E := copy_set l j (by rw [HM.out]; exact hlt)
        rw [HX.out, HM.out] at E
        rw [E] at R
        exact Lib.hid R
      case measure => simp [intOf]; omega
    · obtain rfl : j = m := by omega
      go_wp2
      go_ret
      refine ⟨w.heap.size, ?_, Nat.le_refl _, ?_, hbel⟩
      · rw [HM.out]; rfl
      · have R := hown.out
        rw [Nat.sub_self, List.take_of_length_le (by rw [HM.out]; exact Nat.le_refl _)] at R
        simpa [HM.out] using R

set_option maxHeartbeats 1000000 in
theorem eq1_c (x : Fa) (w : World) : Calls Try.prog 65 #[.agg #[.int .i64 x.k, .int .i64 x.f, .int .i64 x.t, .int .i64 x.n, .int .i64 x.v], .agg #[.int .i64 x.k, .int .i64 x.f, .int .i64 x.t, .int .i64 x.n, .int .i64 x.v]] w (IsBo true w) := by
  obtain ⟨k, f, t, n, v⟩ := x
  go_enter Try.func65, Try.ntmps65
  go_wp2
  go_ret
  exact ⟨rfl, by (repeat (first | exact Below.refl _ _ | apply BelowKit.bl_alloc | apply BelowKit.bl_drewN | apply BelowKit.bl_drew | (refine BelowKit.bl_set ?_ _ ?_; rotate_left; (first | omega | (simp; omega) | simp)) | (refine BelowKit.bl_trans ?_ (‹Hid (Below _ _ _)›).out)))⟩
set_option maxHeartbeats 1000000 in
theorem eq_c (w : World) (m c1 c2 : Nat) (a1 a2 : Option Addr) (l : List Fa) (hm : l.length = m) (hs : m ≤ 1099511627776) (h1 : ReadsF w a1 l) (h2 : ReadsF w a2 l) :
    Calls Try.prog 44 #[.slice a1 m c1, .slice a2 m c2] w (IsBo true w) := by
  have K1 := Lib.hid h1
  have K2 := Lib.hid h2
  have HM := Lib.hid hm
  clear h1 h2 hm
  go_enter Try.func44, Try.ntmps44
  go_wp2
  go_loopw [5] (fun i wr => ∃ k : Nat, k ≤ m ∧ i = .int .i64 k ∧ Below w.heap.size w wr) (fun i _ => m - (intOf i).toNat)
  case atStart => exact ⟨0, Nat.zero_le _, rfl, Below.refl _ _⟩
  case round =>
    obtain ⟨k, hk, rfl, hbel⟩ := hrel
    by_cases hlt : k < m
    · obtain ⟨g1, o1, rfl, hg1, q0, q1, q2, q3, q4⟩ := read5 (K1.out.on hbel) k (by rw [HM.out]; exact hlt)
      obtain ⟨g2, o2, rfl, hg2, p0, p1, p2, p3, p4⟩ := read5 (K2.out.on hbel) k (by rw [HM.out]; exact hlt)
      generalize (l[k]'(by rw [HM.out]; exact hlt)) = x at q0 q1 q2 q3 q4 p0 p1 p2 p3 p4
      have b0 : (0 : Int) ≤ (k : Int) := by omega
      have b1 : (k : Int) < (m : Int) := by omega
      have HB := Lib.hid hbel
      clear hbel
      go_wp2_with fail
      go_region_with (go_at_call 65; (with_reducible refine (eq1_c x _).mono ?_); rintro e w4 ⟨rfl, hb4⟩; have HB4 := Lib.hid hb4; clear hb4)
      all_goals
        go_wp2
        go_roundw
        · exact ⟨k + 1, by omega, by go_num, HB.out.trans (((below_drewN (Below.refl wr.heap.size wr) 1).trans HB4.out).mono HB.out.size)⟩
        · simp [intOf]; omega
    · go_wp2
      go_ret
      exact ⟨rfl, hbel⟩

/-- The marks k, k + 1, .., five to a fact. -/
def mk5 (k : Int) : Fa := ⟨k, k + 1, k + 1 + 1, k + 1 + 1 + 1, k + 1 + 1 + 1 + 1⟩
def marks (k : Int) (n : Nat) : List Fa := (List.range n).map fun (i : Nat) => mk5 (k + 5 * (i : Int))
theorem marks_len (k : Int) (n : Nat) : (marks k n).length = n := by simp [marks]
theorem marks_get (k : Int) (n j : Nat) (h : j < (marks k n).length) : (marks k n)[j] = mk5 (k + 5 * (j : Int)) := by simp [marks]
def markTo (l : List Fa) (k : Int) (j : Nat) : List Fa := marks k j ++ l.drop j
theorem markTo_zero (l : List Fa) (k : Int) : markTo l k 0 = l := by simp [markTo, marks]
theorem markTo_len (l : List Fa) (k : Int) (j : Nat) (h : j ≤ l.length) : (markTo l k j).length = l.length := by simp [markTo, marks_len]; omega
theorem markTo_all (l : List Fa) (k : Int) : markTo l k l.length = marks k l.length := by simp [markTo]
theorem markTo_set (l : List Fa) (k : Int) (j : Nat) (h : j < l.length) : (markTo l k j).set j (mk5 (k + 5 * (j : Int))) = markTo l k (j + 1) := by
  unfold markTo
  have e1 : (marks k j).length = j := marks_len k j
  rw [List.set_append_right _ _ (by omega), e1, Nat.sub_self, List.drop_eq_getElem_cons h, List.set_cons_zero]
  have e2 : marks k (j + 1) = marks k j ++ [mk5 (k + 5 * (j : Int))] := by simp [marks, List.range_succ]
  rw [e2, List.append_assoc]
  rfl
theorem gb_set {w w' : World} {g o : Nat} {row : Option Nat} (h : w.grownBy w' row) (hr : row = some g) (v : Value) : w.grownBy (w'.setCell ⟨g, o, none⟩ v) row :=
  h.trans ⟨rfl, rfl, rfl, by simp [World.setCell], fun i _ hne => Below.heap_setCell _ _ _ _ (fun e => hne (by rw [hr]; exact congrArg some e))⟩

def Marked (B : Nat) (v : Value) (l : List Fa) (x : Int) (w : World) (e : Ending) (w' : World) : Prop := e = .returned (.int .i64 x) ∧ OwnsF w' B v l ∧ w.grownBy w' v.ownBlock

theorem sz_c (w : World) (a : Option Addr) (m cap : Nat) (k : Int) (hs : m ≤ 9223372036854775807) (hk0 : 0 ≤ k) (hk1 : k ≤ 1099511627776) :
    Calls Try.prog 40 #[.slice a m cap, .int .i64 k] w (fun e w' => e = .returned (.int .i64 (if k < (m : Int) then -1 else k - (m : Int))) ∧ w = w') := by
  by_cases hb : k < (m : Int)
  · rw [if_pos hb]
    go_enter Try.func40, Try.ntmps40
    go_wp2
    go_ret
    exact ⟨rfl, rfl⟩
  · rw [if_neg hb]
    go_enter Try.func40, Try.ntmps40
    go_wp2
    go_ret
    exact ⟨rfl, rfl⟩
end Go.Proofs.Ytdmkceaonfbebaa.FactRow

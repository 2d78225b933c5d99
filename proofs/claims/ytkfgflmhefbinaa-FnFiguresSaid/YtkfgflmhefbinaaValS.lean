/- Contract of the model's l08Value: the value of a node. Written by gen_vals.py. -/
import Derived.Test.YtkfgflmhefbinaaRows
import Derived.Test.YtkfgflmhefbinaaNodeMath
import Derived.Test.YtkfgflmhefbinaaFracC
import Derived.Test.YtkfgflmhefbinaaFracSMul
import Derived.Test.YtkfgflmhefbinaaFracSCmp
import Derived.Test.YtkfgflmhefbinaaMon
namespace Go.Proofs.Ytkfgflmhefbinaa.ValS
open Go.RowKit RowN TNode NodeMath FracMath FracMake
theorem at0_get {v : List Fr} {i : Nat} (h : i < v.length) : at0 v (i : Int) = v[i] := by simp [at0, h]
theorem nat_of {a k : Int} (h : 0 ≤ a ∧ a < k) : ∃ i : Nat, a = (i : Int) ∧ (i : Int) < k := ⟨a.toNat, by omega, by omega⟩
set_option maxHeartbeats 16000000 in
theorem val_s (n : El) (w : World) (p q : Option Addr) (m cap m8 cap8 : Nat) (v vs : List Fr) (hn : OkN n (m : Int)) (hm : v.length = m) (hm8 : vs.length = 8) (h8 : m8 = 8) (h : Reads TFrac.fc 2 w p v) (h2 : Reads TFrac.fc 2 w q vs) :
    Calls Try.prog 101 #[fv n, .slice p m cap, .slice q m8 cap8] w (IsFrac (valN n v vs) w) := by
  subst h8
  obtain ⟨k, a, b, c, u, d⟩ := n
  show Calls Try.prog 101 #[.agg #[.int .i64 k, .int .i64 a, .int .i64 b, .int .i64 c, .int .i64 u, .int .i64 d], .slice p m cap, .slice q 8 cap8] w (IsFrac (valN ⟨k, a, b, c, u, d⟩ v vs) w)
  obtain ⟨R, hR⟩ : ∃ R, valN ⟨k, a, b, c, u, d⟩ v vs = R := ⟨_, rfl⟩
  have HR := Lib.hid hR
  have KV := Lib.hid h
  have KW := Lib.hid h2
  have HM := Lib.hid hm
  have HM8 := Lib.hid hm8
  rw [hR]
  clear h h2 hm hm8 hR
  have hn' : (k = 1 ∧ True) ∨ (k = 2 ∧ (0 ≤ a ∧ a < 8)) ∨ ((3 ≤ k ∧ k ≤ 8) ∧ (0 ≤ a ∧ a < (m : Int)) ∧ (0 ≤ b ∧ b < (m : Int))) ∨ (k = 9 ∧ (0 ≤ a ∧ a < (m : Int)) ∧ (0 ≤ b ∧ b < (m : Int)) ∧ (0 ≤ c ∧ c < (m : Int))) := by
    rcases hn with h | ⟨_, _, h | h | h⟩
    · exact .inl ⟨h.1, trivial⟩
    · exact .inr (.inl ⟨h.1, h.2.1.1, by have := h.2.1.2; simp only [] at this; omega⟩)
    · exact .inr (.inr (.inl ⟨h.1, h.2.1, h.2.2.1⟩))
    · exact .inr (.inr (.inr h))
  clear hn
  rcases hn' with ⟨rfl, _⟩ | ⟨rfl, ha⟩ | ⟨hk, ha, hb⟩ | ⟨rfl, ha, hb, hc⟩
  · have E := Lib.hid (show R = (u, d, true) by rw [← HR.out]; unfold valN; simp)
    clear HR
    go_enter Try.func101, Try.ntmps101
    go_wp2
    refine bodyPost_ret (v := .tuple #[.agg #[.int .i64 u, .int .i64 d], .bool true]) (by simp [results, Try.results101, go_sem]) rfl ?_
    rw [E.out]
    exact ⟨rfl, by (repeat (first | exact Below.refl _ _ | apply BelowKit.bl_alloc | apply BelowKit.bl_drewN | apply BelowKit.bl_drew | (refine BelowKit.bl_set ?_ _ ?_; rotate_left; (first | omega | (simp; omega) | simp)) | (refine BelowKit.bl_trans ?_ (‹Hid (Below _ _ _)›).out)))⟩
  · obtain ⟨ia, rfl, hia⟩ := nat_of ha
    have hlt : ia < vs.length := by rw [HM8.out]; omega
    obtain ⟨g, o, rfl, hgl, q0, q1⟩ := TFrac.read KW.out ia hlt
    have hx := at0_get hlt
    generalize vs[ia] = x at q0 q1 hx
    have E := Lib.hid (show R = (x.Num, x.Den, true) by rw [← HR.out]; unfold valN; simp [hx])
    have b1 : (0 : Int) ≤ (ia : Int) := by omega
    have b2 : (ia : Int) < 8 := hia
    clear HR hx ha hlt
    go_enter Try.func101, Try.ntmps101
    go_wp2
    refine bodyPost_ret (v := .tuple #[.agg #[.int .i64 x.Num, .int .i64 x.Den], .bool true]) (by simp [results, Try.results101, go_sem]) rfl ?_
    rw [E.out]
    exact ⟨rfl, by (repeat (first | exact Below.refl _ _ | apply BelowKit.bl_alloc | apply BelowKit.bl_drewN | apply BelowKit.bl_drew | (refine BelowKit.bl_set ?_ _ ?_; rotate_left; (first | omega | (simp; omega) | simp)) | (refine BelowKit.bl_trans ?_ (‹Hid (Below _ _ _)›).out)))⟩
  · have hk7 : k = 3 ∨ k = 4 ∨ k = 5 ∨ k = 6 ∨ k = 7 ∨ k = 8 := by omega
    clear hk
    obtain ⟨ia, rfl, hia⟩ := nat_of ha
    obtain ⟨ib, rfl, hib⟩ := nat_of hb
    have hla : ia < v.length := by rw [HM.out]; omega
    have hlb : ib < v.length := by rw [HM.out]; omega
    obtain ⟨g, o, rfl, hgl, q0, q1⟩ := TFrac.read KV.out ia hla
    obtain ⟨g', o', e', _, p0, p1⟩ := TFrac.read KV.out ib hlb
    cases e'
    have hx := at0_get hla
    have hy := at0_get hlb
    generalize v[ia] = x at q0 q1 hx
    generalize v[ib] = y at p0 p1 hy
    have b1 : (0 : Int) ≤ (ia : Int) := by omega
    have b2 : (ia : Int) < (m : Int) := hia
    have hg1 : g < w.heap.size + 1 := by omega
    have hg2 : g < w.heap.size + 1 + 1 := by omega
    have hg3 : g < w.heap.size + 1 + 1 + 1 := by omega
    have b3 : (0 : Int) ≤ (ib : Int) := by omega
    have b4 : (ib : Int) < (m : Int) := hib
    rcases hk7 with rfl | rfl | rfl | rfl | rfl | rfl
    · skip
      obtain ⟨⟨r1, r2, r3⟩, hr⟩ : ∃ r, sumR x.Num x.Den y.Num y.Den = r := ⟨_, rfl⟩
      have HRR := Lib.hid hr
      have E := Lib.hid (show R = (r1, r2, r3) by rw [← HR.out]; unfold valN; simp [hx, hy, hr])
      clear HR hx hy hr
      go_enter Try.func101, Try.ntmps101
      go_wp2_with fail
      refine (FracS.add_s x.Num x.Den y.Num y.Den _).mono ?_
      rintro e w1 ⟨rfl, hb⟩
      rw [HRR.out]
      have s0 : w1.cell? ⟨w.heap.size + 1, 0, none⟩ = some (.int .i64 0) := ((BelowKit.bcell hb).1 _ _ (by simp)).trans (by simp [go_sem])
      have s1 : w1.cell? ⟨w.heap.size + 1, 1, none⟩ = some (.int .i64 0) := ((BelowKit.bcell hb).1 _ _ (by simp)).trans (by simp [go_sem])
      have f0 : w1.frozen? ⟨w.heap.size + 1, 0, none⟩ = false := ((BelowKit.bcell hb).2 _ _ (by simp)).trans (by simp [go_sem])
      have f1 : w1.frozen? ⟨w.heap.size + 1, 1, none⟩ = false := ((BelowKit.bcell hb).2 _ _ (by simp)).trans (by simp [go_sem])
      have zz : w.heap.size + 1 < w1.heap.size := by have := hb.size; simp at this; omega
      have HB := Lib.hid (show Below w.heap.size w w1 from BelowKit.bl_trans (by (repeat (first | exact Below.refl _ _ | apply BelowKit.bl_alloc | apply BelowKit.bl_drewN | apply BelowKit.bl_drew | (refine BelowKit.bl_set ?_ _ ?_; rotate_left; (first | omega | (simp; omega) | simp)) | (refine BelowKit.bl_trans ?_ (‹Hid (Below _ _ _)›).out)))) hb)
      clear hb q0 q1 p0 p1
      go_wp2
      refine bodyPost_ret (v := .tuple #[.agg #[.int .i64 r1, .int .i64 r2], .bool r3]) (by simp [results, Try.results101, go_sem, s0, s1]) rfl ?_
      rw [E.out]
      exact ⟨rfl, BelowKit.bl_set (BelowKit.bl_set HB.out (a := ⟨w.heap.size + 1, 0, none⟩) _ (by simp)) (a := ⟨w.heap.size + 1, 1, none⟩) _ (by simp)⟩
    · skip
      obtain ⟨⟨r1, r2, r3⟩, hr⟩ : ∃ r, subR x.Num x.Den y.Num y.Den = r := ⟨_, rfl⟩
      have HRR := Lib.hid hr
      have E := Lib.hid (show R = (r1, r2, r3) by rw [← HR.out]; unfold valN; simp [hx, hy, hr])
      clear HR hx hy hr
      go_enter Try.func101, Try.ntmps101
      go_wp2_with fail
      refine (FracS.sub_s x.Num x.Den y.Num y.Den _).mono ?_
      rintro e w1 ⟨rfl, hb⟩
      rw [HRR.out]
      have s0 : w1.cell? ⟨w.heap.size + 1, 0, none⟩ = some (.int .i64 0) := ((BelowKit.bcell hb).1 _ _ (by simp)).trans (by simp [go_sem])
      have s1 : w1.cell? ⟨w.heap.size + 1, 1, none⟩ = some (.int .i64 0) := ((BelowKit.bcell hb).1 _ _ (by simp)).trans (by simp [go_sem])
      have f0 : w1.frozen? ⟨w.heap.size + 1, 0, none⟩ = false := ((BelowKit.bcell hb).2 _ _ (by simp)).trans (by simp [go_sem])
      have f1 : w1.frozen? ⟨w.heap.size + 1, 1, none⟩ = false := ((BelowKit.bcell hb).2 _ _ (by simp)).trans (by simp [go_sem])
      have zz : w.heap.size + 1 < w1.heap.size := by have := hb.size; simp at this; omega
      have HB := Lib.hid (show Below w.heap.size w w1 from BelowKit.bl_trans (by (repeat (first | exact Below.refl _ _ | apply BelowKit.bl_alloc | apply BelowKit.bl_drewN | apply BelowKit.bl_drew | (refine BelowKit.bl_set ?_ _ ?_; rotate_left; (first | omega | (simp; omega) | simp)) | (refine BelowKit.bl_trans ?_ (‹Hid (Below _ _ _)›).out)))) hb)
      clear hb q0 q1 p0 p1
      go_wp2
      refine bodyPost_ret (v := .tuple #[.agg #[.int .i64 r1, .int .i64 r2], .bool r3]) (by simp [results, Try.results101, go_sem, s0, s1]) rfl ?_
      rw [E.out]
      exact ⟨rfl, BelowKit.bl_set (BelowKit.bl_set HB.out (a := ⟨w.heap.size + 1, 0, none⟩) _ (by simp)) (a := ⟨w.heap.size + 1, 1, none⟩) _ (by simp)⟩
    · skip
      obtain ⟨⟨r1, r2, r3⟩, hr⟩ : ∃ r, mulR x.Num x.Den y.Num y.Den = r := ⟨_, rfl⟩
      have HRR := Lib.hid hr
      have E := Lib.hid (show R = (r1, r2, r3) by rw [← HR.out]; unfold valN; simp [hx, hy, hr])
      clear HR hx hy hr
      go_enter Try.func101, Try.ntmps101
      go_wp2_with fail
      refine (FracSMul.mul_s x.Num x.Den y.Num y.Den _).mono ?_
      rintro e w1 ⟨rfl, hb⟩
      rw [HRR.out]
      have s0 : w1.cell? ⟨w.heap.size + 1, 0, none⟩ = some (.int .i64 0) := ((BelowKit.bcell hb).1 _ _ (by simp)).trans (by simp [go_sem])
      have s1 : w1.cell? ⟨w.heap.size + 1, 1, none⟩ = some (.int .i64 0) := ((BelowKit.bcell hb).1 _ _ (by simp)).trans (by simp [go_sem])
      have f0 : w1.frozen? ⟨w.heap.size + 1, 0, none⟩ = false := ((BelowKit.bcell hb).2 _ _ (by simp)).trans (by simp [go_sem])
      have f1 : w1.frozen? ⟨w.heap.size + 1, 1, none⟩ = false := ((BelowKit.bcell hb).2 _ _ (by simp)).trans (by simp [go_sem])
      have zz : w.heap.size + 1 < w1.heap.size := by have := hb.size; simp at this; omega
      have HB := Lib.hid (show Below w.heap.size w w1 from BelowKit.bl_trans (by (repeat (first | exact Below.refl _ _ | apply BelowKit.bl_alloc | apply BelowKit.bl_drewN | apply BelowKit.bl_drew | (refine BelowKit.bl_set ?_ _ ?_; rotate_left; (first | omega | (simp; omega) | simp)) | (refine BelowKit.bl_trans ?_ (‹Hid (Below _ _ _)›).out)))) hb)
      clear hb q0 q1 p0 p1
      go_wp2
      refine bodyPost_ret (v := .tuple #[.agg #[.int .i64 r1, .int .i64 r2], .bool r3]) (by simp [results, Try.results101, go_sem, s0, s1]) rfl ?_
      rw [E.out]
      exact ⟨rfl, BelowKit.bl_set (BelowKit.bl_set HB.out (a := ⟨w.heap.size + 1, 0, none⟩) _ (by simp)) (a := ⟨w.heap.size + 1, 1, none⟩) _ (by simp)⟩
    · skip
      obtain ⟨⟨r1, r2, r3⟩, hr⟩ : ∃ r, divR x.Num x.Den y.Num y.Den = r := ⟨_, rfl⟩
      have HRR := Lib.hid hr
      have E := Lib.hid (show R = (r1, r2, r3) by rw [← HR.out]; unfold valN; simp [hx, hy, hr])
      clear HR hx hy hr
      go_enter Try.func101, Try.ntmps101
      go_wp2_with fail
      refine (FracSMul.div_s x.Num x.Den y.Num y.Den _).mono ?_
      rintro e w1 ⟨rfl, hb⟩
      rw [HRR.out]
      have s0 : w1.cell? ⟨w.heap.size + 1, 0, none⟩ = some (.int .i64 0) := ((BelowKit.bcell hb).1 _ _ (by simp)).trans (by simp [go_sem])
      have s1 : w1.cell? ⟨w.heap.size + 1, 1, none⟩ = some (.int .i64 0) := ((BelowKit.bcell hb).1 _ _ (by simp)).trans (by simp [go_sem])
      have f0 : w1.frozen? ⟨w.heap.size + 1, 0, none⟩ = false := ((BelowKit.bcell hb).2 _ _ (by simp)).trans (by simp [go_sem])
      have f1 : w1.frozen? ⟨w.heap.size + 1, 1, none⟩ = false := ((BelowKit.bcell hb).2 _ _ (by simp)).trans (by simp [go_sem])
      have zz : w.heap.size + 1 < w1.heap.size := by have := hb.size; simp at this; omega
      have HB := Lib.hid (show Below w.heap.size w w1 from BelowKit.bl_trans (by (repeat (first | exact Below.refl _ _ | apply BelowKit.bl_alloc | apply BelowKit.bl_drewN | apply BelowKit.bl_drew | (refine BelowKit.bl_set ?_ _ ?_; rotate_left; (first | omega | (simp; omega) | simp)) | (refine BelowKit.bl_trans ?_ (‹Hid (Below _ _ _)›).out)))) hb)
      clear hb q0 q1 p0 p1
      go_wp2
      refine bodyPost_ret (v := .tuple #[.agg #[.int .i64 r1, .int .i64 r2], .bool r3]) (by simp [results, Try.results101, go_sem, s0, s1]) rfl ?_
      rw [E.out]
      exact ⟨rfl, BelowKit.bl_set (BelowKit.bl_set HB.out (a := ⟨w.heap.size + 1, 0, none⟩) _ (by simp)) (a := ⟨w.heap.size + 1, 1, none⟩) _ (by simp)⟩
    · skip
      obtain ⟨r, hr⟩ : ∃ r, cmpI y.Num y.Den x.Num x.Den = r := ⟨_, rfl⟩
      have HRR := Lib.hid hr
      have EY : Hid (r < 0 → R = (y.Num, y.Den, true)) := Lib.hid (fun e => by rw [← HR.out]; unfold valN; simp [hx, hy, hr, e])
      have EN : Hid (¬ (r < 0) → R = (x.Num, x.Den, true)) := Lib.hid (fun e => by rw [← HR.out]; unfold valN; simp [hx, hy, hr, e])
      clear HR hx hy hr
      go_enter Try.func101, Try.ntmps101
      go_wp2_with fail
      refine (FracSCmp.cmp_s y.Num y.Den x.Num x.Den _).mono ?_
      rintro e w1 ⟨rfl, hb⟩
      rw [HRR.out]
      have s0 : w1.cell? ⟨w.heap.size + 1, 0, none⟩ = some (.int .i64 0) := ((BelowKit.bcell hb).1 _ _ (by simp)).trans (by simp [go_sem])
      have s1 : w1.cell? ⟨w.heap.size + 1, 1, none⟩ = some (.int .i64 0) := ((BelowKit.bcell hb).1 _ _ (by simp)).trans (by simp [go_sem])
      have f0 : w1.frozen? ⟨w.heap.size + 1, 0, none⟩ = false := ((BelowKit.bcell hb).2 _ _ (by simp)).trans (by simp [go_sem])
      have f1 : w1.frozen? ⟨w.heap.size + 1, 1, none⟩ = false := ((BelowKit.bcell hb).2 _ _ (by simp)).trans (by simp [go_sem])
      have xa : w1.cell? ⟨w.heap.size + 1 + 1, 0, none⟩ = some (.int .i64 x.Num) := ((BelowKit.bcell hb).1 _ _ (by simp)).trans (by simp [go_sem])
      have xb : w1.cell? ⟨w.heap.size + 1 + 1, 1, none⟩ = some (.int .i64 x.Den) := ((BelowKit.bcell hb).1 _ _ (by simp)).trans (by simp [go_sem])
      have ya : w1.cell? ⟨w.heap.size + 1 + 1 + 1, 0, none⟩ = some (.int .i64 y.Num) := ((BelowKit.bcell hb).1 _ _ (by simp)).trans (by simp [go_sem])
      have yb : w1.cell? ⟨w.heap.size + 1 + 1 + 1, 1, none⟩ = some (.int .i64 y.Den) := ((BelowKit.bcell hb).1 _ _ (by simp)).trans (by simp [go_sem])
      have zz : w.heap.size + 1 + 1 + 1 < w1.heap.size := by have := hb.size; simp at this; omega
      have zz1 : w.heap.size + 1 < w1.heap.size := by omega
      have zz2 : w.heap.size + 1 + 1 < w1.heap.size := by omega
      have HB := Lib.hid (show Below w.heap.size w w1 from BelowKit.bl_trans (by (repeat (first | exact Below.refl _ _ | apply BelowKit.bl_alloc | apply BelowKit.bl_drewN | apply BelowKit.bl_drew | (refine BelowKit.bl_set ?_ _ ?_; rotate_left; (first | omega | (simp; omega) | simp)) | (refine BelowKit.bl_trans ?_ (‹Hid (Below _ _ _)›).out)))) hb)
      clear hb q0 q1 p0 p1
      by_cases hh : r < 0
      case pos =>
        have dd : decide (r < 0) = true := decide_eq_true hh
        have E := Lib.hid (EY.out (by omega))
        clear EY EN hh
        go_wp2
        refine bodyPost_ret (v := .tuple #[.agg #[.int .i64 y.Num, .int .i64 y.Den], .bool true]) (by simp [results, Try.results101, go_sem, s0, s1]) rfl ?_
        rw [E.out]
        exact ⟨rfl, BelowKit.bl_set (BelowKit.bl_set HB.out (a := ⟨w.heap.size + 1, 0, none⟩) _ (by simp)) (a := ⟨w.heap.size + 1, 1, none⟩) _ (by simp)⟩
      case neg =>
        have dd : decide (r < 0) = false := decide_eq_false hh
        have E := Lib.hid (EN.out (by omega))
        clear EY EN hh
        go_wp2
        refine bodyPost_ret (v := .tuple #[.agg #[.int .i64 x.Num, .int .i64 x.Den], .bool true]) (by simp [results, Try.results101, go_sem, s0, s1]) rfl ?_
        rw [E.out]
        exact ⟨rfl, BelowKit.bl_set (BelowKit.bl_set HB.out (a := ⟨w.heap.size + 1, 0, none⟩) _ (by simp)) (a := ⟨w.heap.size + 1, 1, none⟩) _ (by simp)⟩
    · skip
      obtain ⟨r, hr⟩ : ∃ r, cmpI y.Num y.Den x.Num x.Den = r := ⟨_, rfl⟩
      have HRR := Lib.hid hr
      have EY : Hid (0 < r → R = (y.Num, y.Den, true)) := Lib.hid (fun e => by rw [← HR.out]; unfold valN; simp [hx, hy, hr, e])
      have EN : Hid (¬ (0 < r) → R = (x.Num, x.Den, true)) := Lib.hid (fun e => by rw [← HR.out]; unfold valN; simp [hx, hy, hr, e])
      clear HR hx hy hr
      go_enter Try.func101, Try.ntmps101
      go_wp2_with fail
      refine (FracSCmp.cmp_s y.Num y.Den x.Num x.Den _).mono ?_
      rintro e w1 ⟨rfl, hb⟩
      rw [HRR.out]
      have s0 : w1.cell? ⟨w.heap.size + 1, 0, none⟩ = some (.int .i64 0) := ((BelowKit.bcell hb).1 _ _ (by simp)).trans (by simp [go_sem])
      have s1 : w1.cell? ⟨w.heap.size + 1, 1, none⟩ = some (.int .i64 0) := ((BelowKit.bcell hb).1 _ _ (by simp)).trans (by simp [go_sem])
      have f0 : w1.frozen? ⟨w.heap.size + 1, 0, none⟩ = false := ((BelowKit.bcell hb).2 _ _ (by simp)).trans (by simp [go_sem])
      have f1 : w1.frozen? ⟨w.heap.size + 1, 1, none⟩ = false := ((BelowKit.bcell hb).2 _ _ (by simp)).trans (by simp [go_sem])
      have xa : w1.cell? ⟨w.heap.size + 1 + 1, 0, none⟩ = some (.int .i64 x.Num) := ((BelowKit.bcell hb).1 _ _ (by simp)).trans (by simp [go_sem])
      have xb : w1.cell? ⟨w.heap.size + 1 + 1, 1, none⟩ = some (.int .i64 x.Den) := ((BelowKit.bcell hb).1 _ _ (by simp)).trans (by simp [go_sem])
      have ya : w1.cell? ⟨w.heap.size + 1 + 1 + 1, 0, none⟩ = some (.int .i64 y.Num) := ((BelowKit.bcell hb).1 _ _ (by simp)).trans (by simp [go_sem])
      have yb : w1.cell? ⟨w.heap.size + 1 + 1 + 1, 1, none⟩ = some (.int .i64 y.Den) := ((BelowKit.bcell hb).1 _ _ (by simp)).trans (by simp [go_sem])
      have zz : w.heap.size + 1 + 1 + 1 < w1.heap.size := by have := hb.size; simp at this; omega
      have zz1 : w.heap.size + 1 < w1.heap.size := by omega
      have zz2 : w.heap.size + 1 + 1 < w1.heap.size := by omega
      have HB := Lib.hid (show Below w.heap.size w w1 from BelowKit.bl_trans (by (repeat (first | exact Below.refl _ _ | apply BelowKit.bl_alloc | apply BelowKit.bl_drewN | apply BelowKit.bl_drew | (refine BelowKit.bl_set ?_ _ ?_; rotate_left; (first | omega | (simp; omega) | simp)) | (refine BelowKit.bl_trans ?_ (‹Hid (Below _ _ _)›).out)))) hb)
      clear hb q0 q1 p0 p1
      by_cases hh : 0 < r
      case pos =>
        have dd : decide (0 < r) = true := decide_eq_true hh
        have E := Lib.hid (EY.out (by omega))
        clear EY EN hh
        go_wp2
        refine bodyPost_ret (v := .tuple #[.agg #[.int .i64 y.Num, .int .i64 y.Den], .bool true]) (by simp [results, Try.results101, go_sem, s0, s1]) rfl ?_
        rw [E.out]
        exact ⟨rfl, BelowKit.bl_set (BelowKit.bl_set HB.out (a := ⟨w.heap.size + 1, 0, none⟩) _ (by simp)) (a := ⟨w.heap.size + 1, 1, none⟩) _ (by simp)⟩
      case neg =>
        have dd : decide (0 < r) = false := decide_eq_false hh
        have E := Lib.hid (EN.out (by omega))
        clear EY EN hh
        go_wp2
        refine bodyPost_ret (v := .tuple #[.agg #[.int .i64 x.Num, .int .i64 x.Den], .bool true]) (by simp [results, Try.results101, go_sem, s0, s1]) rfl ?_
        rw [E.out]
        exact ⟨rfl, BelowKit.bl_set (BelowKit.bl_set HB.out (a := ⟨w.heap.size + 1, 0, none⟩) _ (by simp)) (a := ⟨w.heap.size + 1, 1, none⟩) _ (by simp)⟩
  · skip
    obtain ⟨ia, rfl, hia⟩ := nat_of ha
    obtain ⟨ib, rfl, hib⟩ := nat_of hb
    have hla : ia < v.length := by rw [HM.out]; omega
    have hlb : ib < v.length := by rw [HM.out]; omega
    obtain ⟨g, o, rfl, hgl, q0, q1⟩ := TFrac.read KV.out ia hla
    obtain ⟨g', o', e', _, p0, p1⟩ := TFrac.read KV.out ib hlb
    cases e'
    have hx := at0_get hla
    have hy := at0_get hlb
    generalize v[ia] = x at q0 q1 hx
    generalize v[ib] = y at p0 p1 hy
    have b1 : (0 : Int) ≤ (ia : Int) := by omega
    have b2 : (ia : Int) < (m : Int) := hia
    have hg1 : g < w.heap.size + 1 := by omega
    have hg2 : g < w.heap.size + 1 + 1 := by omega
    have hg3 : g < w.heap.size + 1 + 1 + 1 := by omega
    have b3 : (0 : Int) ≤ (ib : Int) := by omega
    have b4 : (ib : Int) < (m : Int) := hib
    obtain ⟨ic, rfl, hic⟩ := nat_of hc
    have hlc : ic < v.length := by rw [HM.out]; omega
    obtain ⟨g', o', e', _, t0, t1⟩ := TFrac.read KV.out ic hlc
    cases e'
    have hz := at0_get hlc
    generalize v[ic] = z at t0 t1 hz
    have b5 : (0 : Int) ≤ (ic : Int) := by omega
    have b6 : (ic : Int) < (m : Int) := hic
    by_cases hh : 0 < x.Num
    case pos =>
      have dd : decide (0 < x.Num) = true := decide_eq_true hh
      have E := Lib.hid (show R = (y.Num, y.Den, true) by rw [← HR.out]; unfold valN; simp [hx, hy, hh])
      clear HR hx hy hz hh
      go_enter Try.func101, Try.ntmps101
      go_wp2
      refine bodyPost_ret (v := .tuple #[.agg #[.int .i64 y.Num, .int .i64 y.Den], .bool true]) (by simp [results, Try.results101, go_sem]) rfl ?_
      rw [E.out]
      exact ⟨rfl, by (repeat (first | exact Below.refl _ _ | apply BelowKit.bl_alloc | apply BelowKit.bl_drewN | apply BelowKit.bl_drew | (refine BelowKit.bl_set ?_ _ ?_; rotate_left; (first | omega | (simp; omega) | simp)) | (refine BelowKit.bl_trans ?_ (‹Hid (Below _ _ _)›).out)))⟩
    case neg =>
      have dd : decide (0 < x.Num) = false := decide_eq_false hh
      have E := Lib.hid (show R = (z.Num, z.Den, true) by rw [← HR.out]; unfold valN; simp [hx, hz, hh])
      clear HR hx hy hz hh
      go_enter Try.func101, Try.ntmps101
      go_wp2
      refine bodyPost_ret (v := .tuple #[.agg #[.int .i64 z.Num, .int .i64 z.Den], .bool true]) (by simp [results, Try.results101, go_sem]) rfl ?_
      rw [E.out]
      exact ⟨rfl, by (repeat (first | exact Below.refl _ _ | apply BelowKit.bl_alloc | apply BelowKit.bl_drewN | apply BelowKit.bl_drew | (refine BelowKit.bl_set ?_ _ ?_; rotate_left; (first | omega | (simp; omega) | simp)) | (refine BelowKit.bl_trans ?_ (‹Hid (Below _ _ _)›).out)))⟩
end Go.Proofs.Ytkfgflmhefbinaa.ValS

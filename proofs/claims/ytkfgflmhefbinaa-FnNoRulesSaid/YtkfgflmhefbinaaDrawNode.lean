/- Contracts of the drawn nodes and formulas. Written by gen_drawnode.py. -/
import Derived.Test.YtkfgflmhefbinaaRows
import Derived.Test.YtkfgflmhefbinaaDrawForm
import Derived.Deep.DeepCutAuto
namespace Go.Proofs.Ytkfgflmhefbinaa.DrawNode
open Go.RowKit CurKit CurByte Cur RowN TNode NodeMath BelowKit DrawCur FracMath FracMake DrawForm
/-- The result's block: zeros that may be written. -/
def Z (g : Nat) (w : World) : Prop := (∀ i, i < 6 → w.cell? ⟨g, i, none⟩ = some (.int .i64 0) ∧ w.frozen? ⟨g, i, none⟩ = false) ∧ g < w.heap.size
theorem Z.new (w : World) : Z w.heap.size (w.alloc (.cells #[.int .i64 0, .int .i64 0, .int .i64 0, .int .i64 0, .int .i64 0, .int .i64 0] 50)) := by
  refine ⟨fun i hi => ?_, by simp⟩
  have : i = 0 ∨ i = 1 ∨ i = 2 ∨ i = 3 ∨ i = 4 ∨ i = 5 := by omega
  rcases this with rfl | rfl | rfl | rfl | rfl | rfl <;> exact ⟨by simp [go_sem], by simp [go_sem]⟩
theorem Z.only {g b : Nat} {w w' : World} (h : Z g w) (hb : OnlyB b w w') (hne : g ≠ b) : Z g w' :=
  ⟨fun i hi => ⟨(cur_far hb h.2 hne).1.trans (h.1 i hi).1, (cur_far hb h.2 hne).2.trans (h.1 i hi).2⟩, Nat.lt_of_lt_of_le h.2 hb.size⟩
theorem Z.on {g : Nat} {w w' : World} (h : Z g w) (hb : Below w.heap.size w w') : Z g w' :=
  ⟨fun i hi => ⟨((bcell hb).1 g i h.2).trans (h.1 i hi).1, ((bcell hb).2 g i h.2).trans (h.1 i hi).2⟩, Nat.lt_of_lt_of_le h.2 hb.size⟩
theorem set6 {w0 w w' : World} {b len cap : Nat} {a : Option Addr} {v0 v1 v2 v3 v4 v5 : Value} (h : Goes w0 w b a len cap w') (hb : b < w.heap.size) : Goes w0 w b a len cap ((((((w'.setCell ⟨w.heap.size, 0, none⟩ v0).setCell ⟨w.heap.size, 1, none⟩ v1).setCell ⟨w.heap.size, 2, none⟩ v2).setCell ⟨w.heap.size, 3, none⟩ v3).setCell ⟨w.heap.size, 4, none⟩ v4).setCell ⟨w.heap.size, 5, none⟩ v5) := by
  have h0 : w0.heap.size ≤ w.heap.size := by have := h.1.low; omega
  exact goes_set (goes_set (goes_set (goes_set (goes_set (goes_set h (Nat.le_refl _) hb h0 _) (Nat.le_refl _) hb h0 _) (Nat.le_refl _) hb h0 _) (Nat.le_refl _) hb h0 _) (Nat.le_refl _) hb h0 _) (Nat.le_refl _) hb h0 _
def SomeNode (at_ : Int) (R : World → Prop) (e : Ending) (w' : World) : Prop := ∃ x : El, OkN x at_ ∧ e = .returned (fv x) ∧ R w'
set_option maxHeartbeats 64000000 in
theorem node_c (w0 w : World) (b : Nat) (a : Option Addr) (len cap : Nat) (at_ : Int) (ha0 : 0 ≤ at_) (ha1 : at_ ≤ 1000) (hc : CurIn 111 w0 w b a len cap) :
    Calls Try.prog 92 #[.pointer (some ⟨b, 0, none⟩), .int .i64 at_] w (SomeNode at_ (Goes w0 w b a len cap)) := by
  have HC := Lib.hid hc
  have hbl := hc.lt
  clear hc
  have HNE := Lib.hid (show w.heap.size ≠ b by omega)
  go_enter Try.func92, Try.ntmps92
  go_wp2_with fail
  refine (below_c w0 _ b a len cap 12 (HC.out.alloc _) (by omega)).mono ?_
  rintro e w1 ⟨x1, hx1, rfl, h1⟩
  have i1 := lt_of_max hx1 (by decide)
  have HZ1 := Lib.hid ((Z.new w).only h1.2 HNE.out)
  have HG1 := Lib.hid (show Goes w0 w b a len cap w1 from goes_trans ((OnlyB.refl b w).alloc _) h1)
  clear h1 hx1
  by_cases hat : at_ = 0
  case pos =>
    subst hat
    rcases (show x1 = 0 ∨ x1 = 1 ∨ x1 = 2 ∨ x1 = 3 ∨ x1 = 4 ∨ x1 = 5 ∨ x1 = 6 ∨ x1 = 7 ∨ x1 = 8 ∨ x1 = 9 ∨ x1 = 10 ∨ x1 = 11 from by omega) with rfl | rfl | rfl | rfl | rfl | rfl | rfl | rfl | rfl | rfl | rfl | rfl
    · skip
      go_wp2_with fail
      refine (below_c w0 _ b a len cap 8 HG1.out.1 (by omega)).mono ?_
      rintro e w2 ⟨u1, hx, rfl, h1⟩
      have ju1 := lt_of_max hx (by decide)
      have HZ2 := Lib.hid (HZ1.out.only h1.2 HNE.out)
      have HG2 := Lib.hid (goes_trans HG1.out.2 h1)
      clear h1 hx HZ1 HG1
      have HZ := HZ2.out
      have HG := HG2
      clear HZ2
      obtain ⟨c0, f0⟩ := HZ.1 0 (by omega)
      obtain ⟨c1, f1⟩ := HZ.1 1 (by omega)
      obtain ⟨c2, f2⟩ := HZ.1 2 (by omega)
      obtain ⟨c3, f3⟩ := HZ.1 3 (by omega)
      obtain ⟨c4, f4⟩ := HZ.1 4 (by omega)
      obtain ⟨c5, f5⟩ := HZ.1 5 (by omega)
      have zz := HZ.2
      clear HZ
      go_wp2
      refine bodyPost_ret (v := .agg #[.int .i64 2, .int .i64 (u1 : Int), .int .i64 0, .int .i64 0, .int .i64 0, .int .i64 0]) (by simp [results, Try.results92, go_sem, c0, c1, c2, c3, c4, c5]) rfl ⟨⟨2, (u1 : Int), 0, 0, 0, 0⟩, .inr ⟨rfl, rfl, .inl ⟨rfl, ⟨by simp, by simp; omega⟩, rfl, rfl⟩⟩, rfl, ?_⟩
      exact set6 HG.out hbl
    · skip
      go_wp2_with fail
      refine (below_c w0 _ b a len cap 41 HG1.out.1 (by omega)).mono ?_
      rintro e w2 ⟨u1, hx, rfl, h1⟩
      have ju1 := lt_of_max hx (by decide)
      have HZ2 := Lib.hid (HZ1.out.only h1.2 HNE.out)
      have HG2 := Lib.hid (goes_trans HG1.out.2 h1)
      clear h1 hx HZ1 HG1
      go_wp2_with fail
      refine (below_c w0 _ b a len cap 6 HG2.out.1 (by omega)).mono ?_
      rintro e w3 ⟨u2, hx, rfl, h1⟩
      have ju2 := lt_of_max hx (by decide)
      have HZ3 := Lib.hid (HZ2.out.only h1.2 HNE.out)
      have HG3 := Lib.hid (goes_trans HG2.out.2 h1)
      clear h1 hx HZ2 HG2
      go_wp2_with fail
      obtain ⟨u, d, hn, hok⟩ := new_ok (n := (u1 : Int) - 10) (d := 1 + (u2 : Int)) (by omega) (by omega) (by omega) (by omega)
      refine (FracS.new_s ((u1 : Int) - 10) (1 + (u2 : Int)) _).mono ?_
      rintro e w9 ⟨rfl, hb⟩
      rw [hn]
      have HZ := HZ3.out.on hb
      have HG := Lib.hid (goes_below HG3.out hb)
      have HOK := Lib.hid hok
      clear hb hn hok HZ3 HG3
      go_upto_region 9 with fail
      obtain ⟨W9, hW9⟩ : ∃ W, W = w9.alloc (.cells #[.int .i64 u, .int .i64 d] 44) := ⟨_, rfl⟩
      rw [← hW9]
      have hb9 : Below w9.heap.size w9 W9 := by rw [hW9]; (repeat (first | exact Below.refl _ _ | apply BelowKit.bl_alloc | apply BelowKit.bl_drewN | apply BelowKit.bl_drew | (refine BelowKit.bl_set ?_ _ ?_; rotate_left; (first | omega | (simp; omega) | simp)) | (refine BelowKit.bl_trans ?_ (‹Hid (Below _ _ _)›).out)))
      have a0 : W9.cell? ⟨w9.heap.size, 0, none⟩ = some (.int .i64 u) := by rw [hW9]; simp [go_sem]
      have a1 : W9.cell? ⟨w9.heap.size, 1, none⟩ = some (.int .i64 d) := by rw [hW9]; simp [go_sem]
      have az : w9.heap.size < W9.heap.size := by rw [hW9]; simp
      have HZ9 := HZ.on hb9
      have HG9 := Lib.hid (goes_below HG.out hb9)
      clear hW9 hb9 HG HZ
      obtain ⟨c0, f0⟩ := HZ9.1 0 (by omega)
      obtain ⟨c1, f1⟩ := HZ9.1 1 (by omega)
      obtain ⟨c2, f2⟩ := HZ9.1 2 (by omega)
      obtain ⟨c3, f3⟩ := HZ9.1 3 (by omega)
      obtain ⟨c4, f4⟩ := HZ9.1 4 (by omega)
      obtain ⟨c5, f5⟩ := HZ9.1 5 (by omega)
      have zz := HZ9.2
      clear HZ9
      have HG := HG9
      go_wp2
      refine bodyPost_ret (v := .agg #[.int .i64 1, .int .i64 0, .int .i64 0, .int .i64 0, .int .i64 u, .int .i64 d]) (by simp [results, Try.results92, go_sem, c0, c1, c2, c3, c4, c5]) rfl ⟨⟨1, 0, 0, 0, u, d⟩, .inl ⟨rfl, rfl, rfl, rfl, HOK.out⟩, rfl, ?_⟩
      exact set6 HG.out hbl
    · skip
      go_wp2_with fail
      refine (below_c w0 _ b a len cap 8 HG1.out.1 (by omega)).mono ?_
      rintro e w2 ⟨u1, hx, rfl, h1⟩
      have ju1 := lt_of_max hx (by decide)
      have HZ2 := Lib.hid (HZ1.out.only h1.2 HNE.out)
      have HG2 := Lib.hid (goes_trans HG1.out.2 h1)
      clear h1 hx HZ1 HG1
      have HZ := HZ2.out
      have HG := HG2
      clear HZ2
      obtain ⟨c0, f0⟩ := HZ.1 0 (by omega)
      obtain ⟨c1, f1⟩ := HZ.1 1 (by omega)
      obtain ⟨c2, f2⟩ := HZ.1 2 (by omega)
      obtain ⟨c3, f3⟩ := HZ.1 3 (by omega)
      obtain ⟨c4, f4⟩ := HZ.1 4 (by omega)
      obtain ⟨c5, f5⟩ := HZ.1 5 (by omega)
      have zz := HZ.2
      clear HZ
      go_wp2
      refine bodyPost_ret (v := .agg #[.int .i64 2, .int .i64 (u1 : Int), .int .i64 0, .int .i64 0, .int .i64 0, .int .i64 0]) (by simp [results, Try.results92, go_sem, c0, c1, c2, c3, c4, c5]) rfl ⟨⟨2, (u1 : Int), 0, 0, 0, 0⟩, .inr ⟨rfl, rfl, .inl ⟨rfl, ⟨by simp, by simp; omega⟩, rfl, rfl⟩⟩, rfl, ?_⟩
      exact set6 HG.out hbl
    · skip
      go_wp2_with fail
      refine (below_c w0 _ b a len cap 41 HG1.out.1 (by omega)).mono ?_
      rintro e w2 ⟨u1, hx, rfl, h1⟩
      have ju1 := lt_of_max hx (by decide)
      have HZ2 := Lib.hid (HZ1.out.only h1.2 HNE.out)
      have HG2 := Lib.hid (goes_trans HG1.out.2 h1)
      clear h1 hx HZ1 HG1
      go_wp2_with fail
      refine (below_c w0 _ b a len cap 6 HG2.out.1 (by omega)).mono ?_
      rintro e w3 ⟨u2, hx, rfl, h1⟩
      have ju2 := lt_of_max hx (by decide)
      have HZ3 := Lib.hid (HZ2.out.only h1.2 HNE.out)
      have HG3 := Lib.hid (goes_trans HG2.out.2 h1)
      clear h1 hx HZ2 HG2
      go_wp2_with fail
      obtain ⟨u, d, hn, hok⟩ := new_ok (n := (u1 : Int) - 10) (d := 1 + (u2 : Int)) (by omega) (by omega) (by omega) (by omega)
      refine (FracS.new_s ((u1 : Int) - 10) (1 + (u2 : Int)) _).mono ?_
      rintro e w9 ⟨rfl, hb⟩
      rw [hn]
      have HZ := HZ3.out.on hb
      have HG := Lib.hid (goes_below HG3.out hb)
      have HOK := Lib.hid hok
      clear hb hn hok HZ3 HG3
      go_upto_region 9 with fail
      obtain ⟨W9, hW9⟩ : ∃ W, W = w9.alloc (.cells #[.int .i64 u, .int .i64 d] 44) := ⟨_, rfl⟩
      rw [← hW9]
      have hb9 : Below w9.heap.size w9 W9 := by rw [hW9]; (repeat (first | exact Below.refl _ _ | apply BelowKit.bl_alloc | apply BelowKit.bl_drewN | apply BelowKit.bl_drew | (refine BelowKit.bl_set ?_ _ ?_; rotate_left; (first | omega | (simp; omega) | simp)) | (refine BelowKit.bl_trans ?_ (‹Hid (Below _ _ _)›).out)))
      have a0 : W9.cell? ⟨w9.heap.size, 0, none⟩ = some (.int .i64 u) := by rw [hW9]; simp [go_sem]
      have a1 : W9.cell? ⟨w9.heap.size, 1, none⟩ = some (.int .i64 d) := by rw [hW9]; simp [go_sem]
      have az : w9.heap.size < W9.heap.size := by rw [hW9]; simp
      have HZ9 := HZ.on hb9
      have HG9 := Lib.hid (goes_below HG.out hb9)
      clear hW9 hb9 HG HZ
      obtain ⟨c0, f0⟩ := HZ9.1 0 (by omega)
      obtain ⟨c1, f1⟩ := HZ9.1 1 (by omega)
      obtain ⟨c2, f2⟩ := HZ9.1 2 (by omega)
      obtain ⟨c3, f3⟩ := HZ9.1 3 (by omega)
      obtain ⟨c4, f4⟩ := HZ9.1 4 (by omega)
      obtain ⟨c5, f5⟩ := HZ9.1 5 (by omega)
      have zz := HZ9.2
      clear HZ9
      have HG := HG9
      go_wp2
      refine bodyPost_ret (v := .agg #[.int .i64 1, .int .i64 0, .int .i64 0, .int .i64 0, .int .i64 u, .int .i64 d]) (by simp [results, Try.results92, go_sem, c0, c1, c2, c3, c4, c5]) rfl ⟨⟨1, 0, 0, 0, u, d⟩, .inl ⟨rfl, rfl, rfl, rfl, HOK.out⟩, rfl, ?_⟩
      exact set6 HG.out hbl
    · skip
      go_wp2_with fail
      refine (below_c w0 _ b a len cap 8 HG1.out.1 (by omega)).mono ?_
      rintro e w2 ⟨u1, hx, rfl, h1⟩
      have ju1 := lt_of_max hx (by decide)
      have HZ2 := Lib.hid (HZ1.out.only h1.2 HNE.out)
      have HG2 := Lib.hid (goes_trans HG1.out.2 h1)
      clear h1 hx HZ1 HG1
      have HZ := HZ2.out
      have HG := HG2
      clear HZ2
      obtain ⟨c0, f0⟩ := HZ.1 0 (by omega)
      obtain ⟨c1, f1⟩ := HZ.1 1 (by omega)
      obtain ⟨c2, f2⟩ := HZ.1 2 (by omega)
      obtain ⟨c3, f3⟩ := HZ.1 3 (by omega)
      obtain ⟨c4, f4⟩ := HZ.1 4 (by omega)
      obtain ⟨c5, f5⟩ := HZ.1 5 (by omega)
      have zz := HZ.2
      clear HZ
      go_wp2
      refine bodyPost_ret (v := .agg #[.int .i64 2, .int .i64 (u1 : Int), .int .i64 0, .int .i64 0, .int .i64 0, .int .i64 0]) (by simp [results, Try.results92, go_sem, c0, c1, c2, c3, c4, c5]) rfl ⟨⟨2, (u1 : Int), 0, 0, 0, 0⟩, .inr ⟨rfl, rfl, .inl ⟨rfl, ⟨by simp, by simp; omega⟩, rfl, rfl⟩⟩, rfl, ?_⟩
      exact set6 HG.out hbl
    · skip
      go_wp2_with fail
      refine (below_c w0 _ b a len cap 41 HG1.out.1 (by omega)).mono ?_
      rintro e w2 ⟨u1, hx, rfl, h1⟩
      have ju1 := lt_of_max hx (by decide)
      have HZ2 := Lib.hid (HZ1.out.only h1.2 HNE.out)
      have HG2 := Lib.hid (goes_trans HG1.out.2 h1)
      clear h1 hx HZ1 HG1
      go_wp2_with fail
      refine (below_c w0 _ b a len cap 6 HG2.out.1 (by omega)).mono ?_
      rintro e w3 ⟨u2, hx, rfl, h1⟩
      have ju2 := lt_of_max hx (by decide)
      have HZ3 := Lib.hid (HZ2.out.only h1.2 HNE.out)
      have HG3 := Lib.hid (goes_trans HG2.out.2 h1)
      clear h1 hx HZ2 HG2
      go_wp2_with fail
      obtain ⟨u, d, hn, hok⟩ := new_ok (n := (u1 : Int) - 10) (d := 1 + (u2 : Int)) (by omega) (by omega) (by omega) (by omega)
      refine (FracS.new_s ((u1 : Int) - 10) (1 + (u2 : Int)) _).mono ?_
      rintro e w9 ⟨rfl, hb⟩
      rw [hn]
      have HZ := HZ3.out.on hb
      have HG := Lib.hid (goes_below HG3.out hb)
      have HOK := Lib.hid hok
      clear hb hn hok HZ3 HG3
      go_upto_region 9 with fail
      obtain ⟨W9, hW9⟩ : ∃ W, W = w9.alloc (.cells #[.int .i64 u, .int .i64 d] 44) := ⟨_, rfl⟩
      rw [← hW9]
      have hb9 : Below w9.heap.size w9 W9 := by rw [hW9]; (repeat (first | exact Below.refl _ _ | apply BelowKit.bl_alloc | apply BelowKit.bl_drewN | apply BelowKit.bl_drew | (refine BelowKit.bl_set ?_ _ ?_; rotate_left; (first | omega | (simp; omega) | simp)) | (refine BelowKit.bl_trans ?_ (‹Hid (Below _ _ _)›).out)))
      have a0 : W9.cell? ⟨w9.heap.size, 0, none⟩ = some (.int .i64 u) := by rw [hW9]; simp [go_sem]
      have a1 : W9.cell? ⟨w9.heap.size, 1, none⟩ = some (.int .i64 d) := by rw [hW9]; simp [go_sem]
      have az : w9.heap.size < W9.heap.size := by rw [hW9]; simp
      have HZ9 := HZ.on hb9
      have HG9 := Lib.hid (goes_below HG.out hb9)
      clear hW9 hb9 HG HZ
      obtain ⟨c0, f0⟩ := HZ9.1 0 (by omega)
      obtain ⟨c1, f1⟩ := HZ9.1 1 (by omega)
      obtain ⟨c2, f2⟩ := HZ9.1 2 (by omega)
      obtain ⟨c3, f3⟩ := HZ9.1 3 (by omega)
      obtain ⟨c4, f4⟩ := HZ9.1 4 (by omega)
      obtain ⟨c5, f5⟩ := HZ9.1 5 (by omega)
      have zz := HZ9.2
      clear HZ9
      have HG := HG9
      go_wp2
      refine bodyPost_ret (v := .agg #[.int .i64 1, .int .i64 0, .int .i64 0, .int .i64 0, .int .i64 u, .int .i64 d]) (by simp [results, Try.results92, go_sem, c0, c1, c2, c3, c4, c5]) rfl ⟨⟨1, 0, 0, 0, u, d⟩, .inl ⟨rfl, rfl, rfl, rfl, HOK.out⟩, rfl, ?_⟩
      exact set6 HG.out hbl
    · skip
      go_wp2_with fail
      refine (below_c w0 _ b a len cap 8 HG1.out.1 (by omega)).mono ?_
      rintro e w2 ⟨u1, hx, rfl, h1⟩
      have ju1 := lt_of_max hx (by decide)
      have HZ2 := Lib.hid (HZ1.out.only h1.2 HNE.out)
      have HG2 := Lib.hid (goes_trans HG1.out.2 h1)
      clear h1 hx HZ1 HG1
      have HZ := HZ2.out
      have HG := HG2
      clear HZ2
      obtain ⟨c0, f0⟩ := HZ.1 0 (by omega)
      obtain ⟨c1, f1⟩ := HZ.1 1 (by omega)
      obtain ⟨c2, f2⟩ := HZ.1 2 (by omega)
      obtain ⟨c3, f3⟩ := HZ.1 3 (by omega)
      obtain ⟨c4, f4⟩ := HZ.1 4 (by omega)
      obtain ⟨c5, f5⟩ := HZ.1 5 (by omega)
      have zz := HZ.2
      clear HZ
      go_wp2
      refine bodyPost_ret (v := .agg #[.int .i64 2, .int .i64 (u1 : Int), .int .i64 0, .int .i64 0, .int .i64 0, .int .i64 0]) (by simp [results, Try.results92, go_sem, c0, c1, c2, c3, c4, c5]) rfl ⟨⟨2, (u1 : Int), 0, 0, 0, 0⟩, .inr ⟨rfl, rfl, .inl ⟨rfl, ⟨by simp, by simp; omega⟩, rfl, rfl⟩⟩, rfl, ?_⟩
      exact set6 HG.out hbl
    · skip
      go_wp2_with fail
      refine (below_c w0 _ b a len cap 41 HG1.out.1 (by omega)).mono ?_
      rintro e w2 ⟨u1, hx, rfl, h1⟩
      have ju1 := lt_of_max hx (by decide)
      have HZ2 := Lib.hid (HZ1.out.only h1.2 HNE.out)
      have HG2 := Lib.hid (goes_trans HG1.out.2 h1)
      clear h1 hx HZ1 HG1
      go_wp2_with fail
      refine (below_c w0 _ b a len cap 6 HG2.out.1 (by omega)).mono ?_
      rintro e w3 ⟨u2, hx, rfl, h1⟩
      have ju2 := lt_of_max hx (by decide)
      have HZ3 := Lib.hid (HZ2.out.only h1.2 HNE.out)
      have HG3 := Lib.hid (goes_trans HG2.out.2 h1)
      clear h1 hx HZ2 HG2
      go_wp2_with fail
      obtain ⟨u, d, hn, hok⟩ := new_ok (n := (u1 : Int) - 10) (d := 1 + (u2 : Int)) (by omega) (by omega) (by omega) (by omega)
      refine (FracS.new_s ((u1 : Int) - 10) (1 + (u2 : Int)) _).mono ?_
      rintro e w9 ⟨rfl, hb⟩
      rw [hn]
      have HZ := HZ3.out.on hb
      have HG := Lib.hid (goes_below HG3.out hb)
      have HOK := Lib.hid hok
      clear hb hn hok HZ3 HG3
      go_upto_region 9 with fail
      obtain ⟨W9, hW9⟩ : ∃ W, W = w9.alloc (.cells #[.int .i64 u, .int .i64 d] 44) := ⟨_, rfl⟩
      rw [← hW9]
      have hb9 : Below w9.heap.size w9 W9 := by rw [hW9]; (repeat (first | exact Below.refl _ _ | apply BelowKit.bl_alloc | apply BelowKit.bl_drewN | apply BelowKit.bl_drew | (refine BelowKit.bl_set ?_ _ ?_; rotate_left; (first | omega | (simp; omega) | simp)) | (refine BelowKit.bl_trans ?_ (‹Hid (Below _ _ _)›).out)))
      have a0 : W9.cell? ⟨w9.heap.size, 0, none⟩ = some (.int .i64 u) := by rw [hW9]; simp [go_sem]
      have a1 : W9.cell? ⟨w9.heap.size, 1, none⟩ = some (.int .i64 d) := by rw [hW9]; simp [go_sem]
      have az : w9.heap.size < W9.heap.size := by rw [hW9]; simp
      have HZ9 := HZ.on hb9
      have HG9 := Lib.hid (goes_below HG.out hb9)
      clear hW9 hb9 HG HZ
      obtain ⟨c0, f0⟩ := HZ9.1 0 (by omega)
      obtain ⟨c1, f1⟩ := HZ9.1 1 (by omega)
      obtain ⟨c2, f2⟩ := HZ9.1 2 (by omega)
      obtain ⟨c3, f3⟩ := HZ9.1 3 (by omega)
      obtain ⟨c4, f4⟩ := HZ9.1 4 (by omega)
      obtain ⟨c5, f5⟩ := HZ9.1 5 (by omega)
      have zz := HZ9.2
      clear HZ9
      have HG := HG9
      go_wp2
      refine bodyPost_ret (v := .agg #[.int .i64 1, .int .i64 0, .int .i64 0, .int .i64 0, .int .i64 u, .int .i64 d]) (by simp [results, Try.results92, go_sem, c0, c1, c2, c3, c4, c5]) rfl ⟨⟨1, 0, 0, 0, u, d⟩, .inl ⟨rfl, rfl, rfl, rfl, HOK.out⟩, rfl, ?_⟩
      exact set6 HG.out hbl
    · skip
      go_wp2_with fail
      refine (below_c w0 _ b a len cap 8 HG1.out.1 (by omega)).mono ?_
      rintro e w2 ⟨u1, hx, rfl, h1⟩
      have ju1 := lt_of_max hx (by decide)
      have HZ2 := Lib.hid (HZ1.out.only h1.2 HNE.out)
      have HG2 := Lib.hid (goes_trans HG1.out.2 h1)
      clear h1 hx HZ1 HG1
      have HZ := HZ2.out
      have HG := HG2
      clear HZ2
      obtain ⟨c0, f0⟩ := HZ.1 0 (by omega)
      obtain ⟨c1, f1⟩ := HZ.1 1 (by omega)
      obtain ⟨c2, f2⟩ := HZ.1 2 (by omega)
      obtain ⟨c3, f3⟩ := HZ.1 3 (by omega)
      obtain ⟨c4, f4⟩ := HZ.1 4 (by omega)
      obtain ⟨c5, f5⟩ := HZ.1 5 (by omega)
      have zz := HZ.2
      clear HZ
      go_wp2
      refine bodyPost_ret (v := .agg #[.int .i64 2, .int .i64 (u1 : Int), .int .i64 0, .int .i64 0, .int .i64 0, .int .i64 0]) (by simp [results, Try.results92, go_sem, c0, c1, c2, c3, c4, c5]) rfl ⟨⟨2, (u1 : Int), 0, 0, 0, 0⟩, .inr ⟨rfl, rfl, .inl ⟨rfl, ⟨by simp, by simp; omega⟩, rfl, rfl⟩⟩, rfl, ?_⟩
      exact set6 HG.out hbl
    · skip
      go_wp2_with fail
      refine (below_c w0 _ b a len cap 8 HG1.out.1 (by omega)).mono ?_
      rintro e w2 ⟨u1, hx, rfl, h1⟩
      have ju1 := lt_of_max hx (by decide)
      have HZ2 := Lib.hid (HZ1.out.only h1.2 HNE.out)
      have HG2 := Lib.hid (goes_trans HG1.out.2 h1)
      clear h1 hx HZ1 HG1
      have HZ := HZ2.out
      have HG := HG2
      clear HZ2
      obtain ⟨c0, f0⟩ := HZ.1 0 (by omega)
      obtain ⟨c1, f1⟩ := HZ.1 1 (by omega)
      obtain ⟨c2, f2⟩ := HZ.1 2 (by omega)
      obtain ⟨c3, f3⟩ := HZ.1 3 (by omega)
      obtain ⟨c4, f4⟩ := HZ.1 4 (by omega)
      obtain ⟨c5, f5⟩ := HZ.1 5 (by omega)
      have zz := HZ.2
      clear HZ
      go_wp2
      refine bodyPost_ret (v := .agg #[.int .i64 2, .int .i64 (u1 : Int), .int .i64 0, .int .i64 0, .int .i64 0, .int .i64 0]) (by simp [results, Try.results92, go_sem, c0, c1, c2, c3, c4, c5]) rfl ⟨⟨2, (u1 : Int), 0, 0, 0, 0⟩, .inr ⟨rfl, rfl, .inl ⟨rfl, ⟨by simp, by simp; omega⟩, rfl, rfl⟩⟩, rfl, ?_⟩
      exact set6 HG.out hbl
    · skip
      go_wp2_with fail
      refine (below_c w0 _ b a len cap 41 HG1.out.1 (by omega)).mono ?_
      rintro e w2 ⟨u1, hx, rfl, h1⟩
      have ju1 := lt_of_max hx (by decide)
      have HZ2 := Lib.hid (HZ1.out.only h1.2 HNE.out)
      have HG2 := Lib.hid (goes_trans HG1.out.2 h1)
      clear h1 hx HZ1 HG1
      go_wp2_with fail
      refine (below_c w0 _ b a len cap 6 HG2.out.1 (by omega)).mono ?_
      rintro e w3 ⟨u2, hx, rfl, h1⟩
      have ju2 := lt_of_max hx (by decide)
      have HZ3 := Lib.hid (HZ2.out.only h1.2 HNE.out)
      have HG3 := Lib.hid (goes_trans HG2.out.2 h1)
      clear h1 hx HZ2 HG2
      go_wp2_with fail
      obtain ⟨u, d, hn, hok⟩ := new_ok (n := (u1 : Int) - 10) (d := 1 + (u2 : Int)) (by omega) (by omega) (by omega) (by omega)
      refine (FracS.new_s ((u1 : Int) - 10) (1 + (u2 : Int)) _).mono ?_
      rintro e w9 ⟨rfl, hb⟩
      rw [hn]
      have HZ := HZ3.out.on hb
      have HG := Lib.hid (goes_below HG3.out hb)
      have HOK := Lib.hid hok
      clear hb hn hok HZ3 HG3
      go_upto_region 9 with fail
      obtain ⟨W9, hW9⟩ : ∃ W, W = w9.alloc (.cells #[.int .i64 u, .int .i64 d] 44) := ⟨_, rfl⟩
      rw [← hW9]
      have hb9 : Below w9.heap.size w9 W9 := by rw [hW9]; (repeat (first | exact Below.refl _ _ | apply BelowKit.bl_alloc | apply BelowKit.bl_drewN | apply BelowKit.bl_drew | (refine BelowKit.bl_set ?_ _ ?_; rotate_left; (first | omega | (simp; omega) | simp)) | (refine BelowKit.bl_trans ?_ (‹Hid (Below _ _ _)›).out)))
      have a0 : W9.cell? ⟨w9.heap.size, 0, none⟩ = some (.int .i64 u) := by rw [hW9]; simp [go_sem]
      have a1 : W9.cell? ⟨w9.heap.size, 1, none⟩ = some (.int .i64 d) := by rw [hW9]; simp [go_sem]
      have az : w9.heap.size < W9.heap.size := by rw [hW9]; simp
      have HZ9 := HZ.on hb9
      have HG9 := Lib.hid (goes_below HG.out hb9)
      clear hW9 hb9 HG HZ
      obtain ⟨c0, f0⟩ := HZ9.1 0 (by omega)
      obtain ⟨c1, f1⟩ := HZ9.1 1 (by omega)
      obtain ⟨c2, f2⟩ := HZ9.1 2 (by omega)
      obtain ⟨c3, f3⟩ := HZ9.1 3 (by omega)
      obtain ⟨c4, f4⟩ := HZ9.1 4 (by omega)
      obtain ⟨c5, f5⟩ := HZ9.1 5 (by omega)
      have zz := HZ9.2
      clear HZ9
      have HG := HG9
      go_wp2
      refine bodyPost_ret (v := .agg #[.int .i64 1, .int .i64 0, .int .i64 0, .int .i64 0, .int .i64 u, .int .i64 d]) (by simp [results, Try.results92, go_sem, c0, c1, c2, c3, c4, c5]) rfl ⟨⟨1, 0, 0, 0, u, d⟩, .inl ⟨rfl, rfl, rfl, rfl, HOK.out⟩, rfl, ?_⟩
      exact set6 HG.out hbl
    · skip
      go_wp2_with fail
      refine (below_c w0 _ b a len cap 8 HG1.out.1 (by omega)).mono ?_
      rintro e w2 ⟨u1, hx, rfl, h1⟩
      have ju1 := lt_of_max hx (by decide)
      have HZ2 := Lib.hid (HZ1.out.only h1.2 HNE.out)
      have HG2 := Lib.hid (goes_trans HG1.out.2 h1)
      clear h1 hx HZ1 HG1
      have HZ := HZ2.out
      have HG := HG2
      clear HZ2
      obtain ⟨c0, f0⟩ := HZ.1 0 (by omega)
      obtain ⟨c1, f1⟩ := HZ.1 1 (by omega)
      obtain ⟨c2, f2⟩ := HZ.1 2 (by omega)
      obtain ⟨c3, f3⟩ := HZ.1 3 (by omega)
      obtain ⟨c4, f4⟩ := HZ.1 4 (by omega)
      obtain ⟨c5, f5⟩ := HZ.1 5 (by omega)
      have zz := HZ.2
      clear HZ
      go_wp2
      refine bodyPost_ret (v := .agg #[.int .i64 2, .int .i64 (u1 : Int), .int .i64 0, .int .i64 0, .int .i64 0, .int .i64 0]) (by simp [results, Try.results92, go_sem, c0, c1, c2, c3, c4, c5]) rfl ⟨⟨2, (u1 : Int), 0, 0, 0, 0⟩, .inr ⟨rfl, rfl, .inl ⟨rfl, ⟨by simp, by simp; omega⟩, rfl, rfl⟩⟩, rfl, ?_⟩
      exact set6 HG.out hbl
  case neg =>
  have dat : (at_ == 0) = false := beq_eq_false_iff_ne.2 hat
  have ha2 : 1 ≤ at_ := by omega
  rcases (show x1 = 0 ∨ x1 = 1 ∨ x1 = 2 ∨ x1 = 3 ∨ x1 = 4 ∨ x1 = 5 ∨ x1 = 6 ∨ x1 = 7 ∨ x1 = 8 ∨ x1 = 9 ∨ x1 = 10 ∨ x1 = 11 from by omega) with rfl | rfl | rfl | rfl | rfl | rfl | rfl | rfl | rfl | rfl | rfl | rfl
  · skip
    go_wp2_with fail
    refine (below_c w0 _ b a len cap 41 HG1.out.1 (by omega)).mono ?_
    rintro e w2 ⟨u1, hx, rfl, h1⟩
    have ju1 := lt_of_max hx (by decide)
    have HZ2 := Lib.hid (HZ1.out.only h1.2 HNE.out)
    have HG2 := Lib.hid (goes_trans HG1.out.2 h1)
    clear h1 hx HZ1 HG1
    go_wp2_with fail
    refine (below_c w0 _ b a len cap 6 HG2.out.1 (by omega)).mono ?_
    rintro e w3 ⟨u2, hx, rfl, h1⟩
    have ju2 := lt_of_max hx (by decide)
    have HZ3 := Lib.hid (HZ2.out.only h1.2 HNE.out)
    have HG3 := Lib.hid (goes_trans HG2.out.2 h1)
    clear h1 hx HZ2 HG2
    go_wp2_with fail
    obtain ⟨u, d, hn, hok⟩ := new_ok (n := (u1 : Int) - 10) (d := 1 + (u2 : Int)) (by omega) (by omega) (by omega) (by omega)
    refine (FracS.new_s ((u1 : Int) - 10) (1 + (u2 : Int)) _).mono ?_
    rintro e w9 ⟨rfl, hb⟩
    rw [hn]
    have HZ := HZ3.out.on hb
    have HG := Lib.hid (goes_below HG3.out hb)
    have HOK := Lib.hid hok
    clear hb hn hok HZ3 HG3
    go_upto_region 9 with fail
    obtain ⟨W9, hW9⟩ : ∃ W, W = w9.alloc (.cells #[.int .i64 u, .int .i64 d] 44) := ⟨_, rfl⟩
    rw [← hW9]
    have hb9 : Below w9.heap.size w9 W9 := by rw [hW9]; (repeat (first | exact Below.refl _ _ | apply BelowKit.bl_alloc | apply BelowKit.bl_drewN | apply BelowKit.bl_drew | (refine BelowKit.bl_set ?_ _ ?_; rotate_left; (first | omega | (simp; omega) | simp)) | (refine BelowKit.bl_trans ?_ (‹Hid (Below _ _ _)›).out)))
    have a0 : W9.cell? ⟨w9.heap.size, 0, none⟩ = some (.int .i64 u) := by rw [hW9]; simp [go_sem]
    have a1 : W9.cell? ⟨w9.heap.size, 1, none⟩ = some (.int .i64 d) := by rw [hW9]; simp [go_sem]
    have az : w9.heap.size < W9.heap.size := by rw [hW9]; simp
    have HZ9 := HZ.on hb9
    have HG9 := Lib.hid (goes_below HG.out hb9)
    clear hW9 hb9 HG HZ
    obtain ⟨c0, f0⟩ := HZ9.1 0 (by omega)
    obtain ⟨c1, f1⟩ := HZ9.1 1 (by omega)
    obtain ⟨c2, f2⟩ := HZ9.1 2 (by omega)
    obtain ⟨c3, f3⟩ := HZ9.1 3 (by omega)
    obtain ⟨c4, f4⟩ := HZ9.1 4 (by omega)
    obtain ⟨c5, f5⟩ := HZ9.1 5 (by omega)
    have zz := HZ9.2
    clear HZ9
    have HG := HG9
    go_wp2
    refine bodyPost_ret (v := .agg #[.int .i64 1, .int .i64 0, .int .i64 0, .int .i64 0, .int .i64 u, .int .i64 d]) (by simp [results, Try.results92, go_sem, c0, c1, c2, c3, c4, c5]) rfl ⟨⟨1, 0, 0, 0, u, d⟩, .inl ⟨rfl, rfl, rfl, rfl, HOK.out⟩, rfl, ?_⟩
    exact set6 HG.out hbl
  · skip
    go_wp2_with fail
    refine (below_c w0 _ b a len cap 8 HG1.out.1 (by omega)).mono ?_
    rintro e w2 ⟨u1, hx, rfl, h1⟩
    have ju1 := lt_of_max hx (by decide)
    have HZ2 := Lib.hid (HZ1.out.only h1.2 HNE.out)
    have HG2 := Lib.hid (goes_trans HG1.out.2 h1)
    clear h1 hx HZ1 HG1
    have HZ := HZ2.out
    have HG := HG2
    clear HZ2
    obtain ⟨c0, f0⟩ := HZ.1 0 (by omega)
    obtain ⟨c1, f1⟩ := HZ.1 1 (by omega)
    obtain ⟨c2, f2⟩ := HZ.1 2 (by omega)
    obtain ⟨c3, f3⟩ := HZ.1 3 (by omega)
    obtain ⟨c4, f4⟩ := HZ.1 4 (by omega)
    obtain ⟨c5, f5⟩ := HZ.1 5 (by omega)
    have zz := HZ.2
    clear HZ
    go_wp2
    refine bodyPost_ret (v := .agg #[.int .i64 2, .int .i64 (u1 : Int), .int .i64 0, .int .i64 0, .int .i64 0, .int .i64 0]) (by simp [results, Try.results92, go_sem, c0, c1, c2, c3, c4, c5]) rfl ⟨⟨2, (u1 : Int), 0, 0, 0, 0⟩, .inr ⟨rfl, rfl, .inl ⟨rfl, ⟨by simp, by simp; omega⟩, rfl, rfl⟩⟩, rfl, ?_⟩
    exact set6 HG.out hbl
  · skip
    go_wp2_with fail
    refine (below_c w0 _ b a len cap at_ HG1.out.1 (by omega)).mono ?_
    rintro e w2 ⟨u1, hx, rfl, h1⟩
    have ju1 := lt_of_max hx ha2
    have HZ2 := Lib.hid (HZ1.out.only h1.2 HNE.out)
    have HG2 := Lib.hid (goes_trans HG1.out.2 h1)
    clear h1 hx HZ1 HG1
    go_wp2_with fail
    refine (below_c w0 _ b a len cap at_ HG2.out.1 (by omega)).mono ?_
    rintro e w3 ⟨u2, hx, rfl, h1⟩
    have ju2 := lt_of_max hx ha2
    have HZ3 := Lib.hid (HZ2.out.only h1.2 HNE.out)
    have HG3 := Lib.hid (goes_trans HG2.out.2 h1)
    clear h1 hx HZ2 HG2
    have HZ := HZ3.out
    have HG := HG3
    clear HZ3
    obtain ⟨c0, f0⟩ := HZ.1 0 (by omega)
    obtain ⟨c1, f1⟩ := HZ.1 1 (by omega)
    obtain ⟨c2, f2⟩ := HZ.1 2 (by omega)
    obtain ⟨c3, f3⟩ := HZ.1 3 (by omega)
    obtain ⟨c4, f4⟩ := HZ.1 4 (by omega)
    obtain ⟨c5, f5⟩ := HZ.1 5 (by omega)
    have zz := HZ.2
    clear HZ
    go_wp2
    refine bodyPost_ret (v := .agg #[.int .i64 3, .int .i64 (u1 : Int), .int .i64 (u2 : Int), .int .i64 0, .int .i64 0, .int .i64 0]) (by simp [results, Try.results92, go_sem, c0, c1, c2, c3, c4, c5]) rfl ⟨⟨3, (u1 : Int), (u2 : Int), 0, 0, 0⟩, .inr ⟨rfl, rfl, .inr (.inl ⟨⟨by simp, by simp⟩, ⟨by simp, ju1⟩, ⟨by simp, ju2⟩, rfl⟩)⟩, rfl, ?_⟩
    exact set6 HG.out hbl
  · skip
    go_wp2_with fail
    refine (below_c w0 _ b a len cap at_ HG1.out.1 (by omega)).mono ?_
    rintro e w2 ⟨u1, hx, rfl, h1⟩
    have ju1 := lt_of_max hx ha2
    have HZ2 := Lib.hid (HZ1.out.only h1.2 HNE.out)
    have HG2 := Lib.hid (goes_trans HG1.out.2 h1)
    clear h1 hx HZ1 HG1
    go_wp2_with fail
    refine (below_c w0 _ b a len cap at_ HG2.out.1 (by omega)).mono ?_
    rintro e w3 ⟨u2, hx, rfl, h1⟩
    have ju2 := lt_of_max hx ha2
    have HZ3 := Lib.hid (HZ2.out.only h1.2 HNE.out)
    have HG3 := Lib.hid (goes_trans HG2.out.2 h1)
    clear h1 hx HZ2 HG2
    have HZ := HZ3.out
    have HG := HG3
    clear HZ3
    obtain ⟨c0, f0⟩ := HZ.1 0 (by omega)
    obtain ⟨c1, f1⟩ := HZ.1 1 (by omega)
    obtain ⟨c2, f2⟩ := HZ.1 2 (by omega)
    obtain ⟨c3, f3⟩ := HZ.1 3 (by omega)
    obtain ⟨c4, f4⟩ := HZ.1 4 (by omega)
    obtain ⟨c5, f5⟩ := HZ.1 5 (by omega)
    have zz := HZ.2
    clear HZ
    go_wp2
    refine bodyPost_ret (v := .agg #[.int .i64 4, .int .i64 (u1 : Int), .int .i64 (u2 : Int), .int .i64 0, .int .i64 0, .int .i64 0]) (by simp [results, Try.results92, go_sem, c0, c1, c2, c3, c4, c5]) rfl ⟨⟨4, (u1 : Int), (u2 : Int), 0, 0, 0⟩, .inr ⟨rfl, rfl, .inr (.inl ⟨⟨by simp, by simp⟩, ⟨by simp, ju1⟩, ⟨by simp, ju2⟩, rfl⟩)⟩, rfl, ?_⟩
    exact set6 HG.out hbl
  · skip
    go_wp2_with fail
    refine (below_c w0 _ b a len cap at_ HG1.out.1 (by omega)).mono ?_
    rintro e w2 ⟨u1, hx, rfl, h1⟩
    have ju1 := lt_of_max hx ha2
    have HZ2 := Lib.hid (HZ1.out.only h1.2 HNE.out)
    have HG2 := Lib.hid (goes_trans HG1.out.2 h1)
    clear h1 hx HZ1 HG1
    go_wp2_with fail
    refine (below_c w0 _ b a len cap at_ HG2.out.1 (by omega)).mono ?_
    rintro e w3 ⟨u2, hx, rfl, h1⟩
    have ju2 := lt_of_max hx ha2
    have HZ3 := Lib.hid (HZ2.out.only h1.2 HNE.out)
    have HG3 := Lib.hid (goes_trans HG2.out.2 h1)
    clear h1 hx HZ2 HG2
    have HZ := HZ3.out
    have HG := HG3
    clear HZ3
    obtain ⟨c0, f0⟩ := HZ.1 0 (by omega)
    obtain ⟨c1, f1⟩ := HZ.1 1 (by omega)
    obtain ⟨c2, f2⟩ := HZ.1 2 (by omega)
    obtain ⟨c3, f3⟩ := HZ.1 3 (by omega)
    obtain ⟨c4, f4⟩ := HZ.1 4 (by omega)
    obtain ⟨c5, f5⟩ := HZ.1 5 (by omega)
    have zz := HZ.2
    clear HZ
    go_wp2
    refine bodyPost_ret (v := .agg #[.int .i64 5, .int .i64 (u1 : Int), .int .i64 (u2 : Int), .int .i64 0, .int .i64 0, .int .i64 0]) (by simp [results, Try.results92, go_sem, c0, c1, c2, c3, c4, c5]) rfl ⟨⟨5, (u1 : Int), (u2 : Int), 0, 0, 0⟩, .inr ⟨rfl, rfl, .inr (.inl ⟨⟨by simp, by simp⟩, ⟨by simp, ju1⟩, ⟨by simp, ju2⟩, rfl⟩)⟩, rfl, ?_⟩
    exact set6 HG.out hbl
  · skip
    go_wp2_with fail
    refine (below_c w0 _ b a len cap at_ HG1.out.1 (by omega)).mono ?_
    rintro e w2 ⟨u1, hx, rfl, h1⟩
    have ju1 := lt_of_max hx ha2
    have HZ2 := Lib.hid (HZ1.out.only h1.2 HNE.out)
    have HG2 := Lib.hid (goes_trans HG1.out.2 h1)
    clear h1 hx HZ1 HG1
    go_wp2_with fail
    refine (below_c w0 _ b a len cap at_ HG2.out.1 (by omega)).mono ?_
    rintro e w3 ⟨u2, hx, rfl, h1⟩
    have ju2 := lt_of_max hx ha2
    have HZ3 := Lib.hid (HZ2.out.only h1.2 HNE.out)
    have HG3 := Lib.hid (goes_trans HG2.out.2 h1)
    clear h1 hx HZ2 HG2
    have HZ := HZ3.out
    have HG := HG3
    clear HZ3
    obtain ⟨c0, f0⟩ := HZ.1 0 (by omega)
    obtain ⟨c1, f1⟩ := HZ.1 1 (by omega)
    obtain ⟨c2, f2⟩ := HZ.1 2 (by omega)
    obtain ⟨c3, f3⟩ := HZ.1 3 (by omega)
    obtain ⟨c4, f4⟩ := HZ.1 4 (by omega)
    obtain ⟨c5, f5⟩ := HZ.1 5 (by omega)
    have zz := HZ.2
    clear HZ
    go_wp2
    refine bodyPost_ret (v := .agg #[.int .i64 6, .int .i64 (u1 : Int), .int .i64 (u2 : Int), .int .i64 0, .int .i64 0, .int .i64 0]) (by simp [results, Try.results92, go_sem, c0, c1, c2, c3, c4, c5]) rfl ⟨⟨6, (u1 : Int), (u2 : Int), 0, 0, 0⟩, .inr ⟨rfl, rfl, .inr (.inl ⟨⟨by simp, by simp⟩, ⟨by simp, ju1⟩, ⟨by simp, ju2⟩, rfl⟩)⟩, rfl, ?_⟩
    exact set6 HG.out hbl
  · skip
    go_wp2_with fail
    refine (below_c w0 _ b a len cap at_ HG1.out.1 (by omega)).mono ?_
    rintro e w2 ⟨u1, hx, rfl, h1⟩
    have ju1 := lt_of_max hx ha2
    have HZ2 := Lib.hid (HZ1.out.only h1.2 HNE.out)
    have HG2 := Lib.hid (goes_trans HG1.out.2 h1)
    clear h1 hx HZ1 HG1
    go_wp2_with fail
    refine (below_c w0 _ b a len cap at_ HG2.out.1 (by omega)).mono ?_
    rintro e w3 ⟨u2, hx, rfl, h1⟩
    have ju2 := lt_of_max hx ha2
    have HZ3 := Lib.hid (HZ2.out.only h1.2 HNE.out)
    have HG3 := Lib.hid (goes_trans HG2.out.2 h1)
    clear h1 hx HZ2 HG2
    have HZ := HZ3.out
    have HG := HG3
    clear HZ3
    obtain ⟨c0, f0⟩ := HZ.1 0 (by omega)
    obtain ⟨c1, f1⟩ := HZ.1 1 (by omega)
    obtain ⟨c2, f2⟩ := HZ.1 2 (by omega)
    obtain ⟨c3, f3⟩ := HZ.1 3 (by omega)
    obtain ⟨c4, f4⟩ := HZ.1 4 (by omega)
    obtain ⟨c5, f5⟩ := HZ.1 5 (by omega)
    have zz := HZ.2
    clear HZ
    go_wp2
    refine bodyPost_ret (v := .agg #[.int .i64 7, .int .i64 (u1 : Int), .int .i64 (u2 : Int), .int .i64 0, .int .i64 0, .int .i64 0]) (by simp [results, Try.results92, go_sem, c0, c1, c2, c3, c4, c5]) rfl ⟨⟨7, (u1 : Int), (u2 : Int), 0, 0, 0⟩, .inr ⟨rfl, rfl, .inr (.inl ⟨⟨by simp, by simp⟩, ⟨by simp, ju1⟩, ⟨by simp, ju2⟩, rfl⟩)⟩, rfl, ?_⟩
    exact set6 HG.out hbl
  · skip
    go_wp2_with fail
    refine (below_c w0 _ b a len cap at_ HG1.out.1 (by omega)).mono ?_
    rintro e w2 ⟨u1, hx, rfl, h1⟩
    have ju1 := lt_of_max hx ha2
    have HZ2 := Lib.hid (HZ1.out.only h1.2 HNE.out)
    have HG2 := Lib.hid (goes_trans HG1.out.2 h1)
    clear h1 hx HZ1 HG1
    go_wp2_with fail
    refine (below_c w0 _ b a len cap at_ HG2.out.1 (by omega)).mono ?_
    rintro e w3 ⟨u2, hx, rfl, h1⟩
    have ju2 := lt_of_max hx ha2
    have HZ3 := Lib.hid (HZ2.out.only h1.2 HNE.out)
    have HG3 := Lib.hid (goes_trans HG2.out.2 h1)
    clear h1 hx HZ2 HG2
    have HZ := HZ3.out
    have HG := HG3
    clear HZ3
    obtain ⟨c0, f0⟩ := HZ.1 0 (by omega)
    obtain ⟨c1, f1⟩ := HZ.1 1 (by omega)
    obtain ⟨c2, f2⟩ := HZ.1 2 (by omega)
    obtain ⟨c3, f3⟩ := HZ.1 3 (by omega)
    obtain ⟨c4, f4⟩ := HZ.1 4 (by omega)
    obtain ⟨c5, f5⟩ := HZ.1 5 (by omega)
    have zz := HZ.2
    clear HZ
    go_wp2
    refine bodyPost_ret (v := .agg #[.int .i64 8, .int .i64 (u1 : Int), .int .i64 (u2 : Int), .int .i64 0, .int .i64 0, .int .i64 0]) (by simp [results, Try.results92, go_sem, c0, c1, c2, c3, c4, c5]) rfl ⟨⟨8, (u1 : Int), (u2 : Int), 0, 0, 0⟩, .inr ⟨rfl, rfl, .inr (.inl ⟨⟨by simp, by simp⟩, ⟨by simp, ju1⟩, ⟨by simp, ju2⟩, rfl⟩)⟩, rfl, ?_⟩
    exact set6 HG.out hbl
  · skip
    go_wp2_with fail
    refine (below_c w0 _ b a len cap at_ HG1.out.1 (by omega)).mono ?_
    rintro e w2 ⟨u1, hx, rfl, h1⟩
    have ju1 := lt_of_max hx ha2
    have HZ2 := Lib.hid (HZ1.out.only h1.2 HNE.out)
    have HG2 := Lib.hid (goes_trans HG1.out.2 h1)
    clear h1 hx HZ1 HG1
    go_wp2_with fail
    refine (below_c w0 _ b a len cap at_ HG2.out.1 (by omega)).mono ?_
    rintro e w3 ⟨u2, hx, rfl, h1⟩
    have ju2 := lt_of_max hx ha2
    have HZ3 := Lib.hid (HZ2.out.only h1.2 HNE.out)
    have HG3 := Lib.hid (goes_trans HG2.out.2 h1)
    clear h1 hx HZ2 HG2
    go_wp2_with fail
    refine (below_c w0 _ b a len cap at_ HG3.out.1 (by omega)).mono ?_
    rintro e w4 ⟨u3, hx, rfl, h1⟩
    have ju3 := lt_of_max hx ha2
    have HZ4 := Lib.hid (HZ3.out.only h1.2 HNE.out)
    have HG4 := Lib.hid (goes_trans HG3.out.2 h1)
    clear h1 hx HZ3 HG3
    have HZ := HZ4.out
    have HG := HG4
    clear HZ4
    obtain ⟨c0, f0⟩ := HZ.1 0 (by omega)
    obtain ⟨c1, f1⟩ := HZ.1 1 (by omega)
    obtain ⟨c2, f2⟩ := HZ.1 2 (by omega)
    obtain ⟨c3, f3⟩ := HZ.1 3 (by omega)
    obtain ⟨c4, f4⟩ := HZ.1 4 (by omega)
    obtain ⟨c5, f5⟩ := HZ.1 5 (by omega)
    have zz := HZ.2
    clear HZ
    go_wp2
    refine bodyPost_ret (v := .agg #[.int .i64 9, .int .i64 (u1 : Int), .int .i64 (u2 : Int), .int .i64 (u3 : Int), .int .i64 0, .int .i64 0]) (by simp [results, Try.results92, go_sem, c0, c1, c2, c3, c4, c5]) rfl ⟨⟨9, (u1 : Int), (u2 : Int), (u3 : Int), 0, 0⟩, .inr ⟨rfl, rfl, .inr (.inr ⟨rfl, ⟨by simp, ju1⟩, ⟨by simp, ju2⟩, ⟨by simp, ju3⟩⟩)⟩, rfl, ?_⟩
    exact set6 HG.out hbl
  · skip
    go_wp2_with fail
    refine (below_c w0 _ b a len cap at_ HG1.out.1 (by omega)).mono ?_
    rintro e w2 ⟨u1, hx, rfl, h1⟩
    have ju1 := lt_of_max hx ha2
    have HZ2 := Lib.hid (HZ1.out.only h1.2 HNE.out)
    have HG2 := Lib.hid (goes_trans HG1.out.2 h1)
    clear h1 hx HZ1 HG1
    go_wp2_with fail
    refine (below_c w0 _ b a len cap at_ HG2.out.1 (by omega)).mono ?_
    rintro e w3 ⟨u2, hx, rfl, h1⟩
    have ju2 := lt_of_max hx ha2
    have HZ3 := Lib.hid (HZ2.out.only h1.2 HNE.out)
    have HG3 := Lib.hid (goes_trans HG2.out.2 h1)
    clear h1 hx HZ2 HG2
    have HZ := HZ3.out
    have HG := HG3
    clear HZ3
    obtain ⟨c0, f0⟩ := HZ.1 0 (by omega)
    obtain ⟨c1, f1⟩ := HZ.1 1 (by omega)
    obtain ⟨c2, f2⟩ := HZ.1 2 (by omega)
    obtain ⟨c3, f3⟩ := HZ.1 3 (by omega)
    obtain ⟨c4, f4⟩ := HZ.1 4 (by omega)
    obtain ⟨c5, f5⟩ := HZ.1 5 (by omega)
    have zz := HZ.2
    clear HZ
    go_wp2
    refine bodyPost_ret (v := .agg #[.int .i64 3, .int .i64 (u1 : Int), .int .i64 (u2 : Int), .int .i64 0, .int .i64 0, .int .i64 0]) (by simp [results, Try.results92, go_sem, c0, c1, c2, c3, c4, c5]) rfl ⟨⟨3, (u1 : Int), (u2 : Int), 0, 0, 0⟩, .inr ⟨rfl, rfl, .inr (.inl ⟨⟨by simp, by simp⟩, ⟨by simp, ju1⟩, ⟨by simp, ju2⟩, rfl⟩)⟩, rfl, ?_⟩
    exact set6 HG.out hbl
  · skip
    go_wp2_with fail
    refine (below_c w0 _ b a len cap at_ HG1.out.1 (by omega)).mono ?_
    rintro e w2 ⟨u1, hx, rfl, h1⟩
    have ju1 := lt_of_max hx ha2
    have HZ2 := Lib.hid (HZ1.out.only h1.2 HNE.out)
    have HG2 := Lib.hid (goes_trans HG1.out.2 h1)
    clear h1 hx HZ1 HG1
    go_wp2_with fail
    refine (below_c w0 _ b a len cap at_ HG2.out.1 (by omega)).mono ?_
    rintro e w3 ⟨u2, hx, rfl, h1⟩
    have ju2 := lt_of_max hx ha2
    have HZ3 := Lib.hid (HZ2.out.only h1.2 HNE.out)
    have HG3 := Lib.hid (goes_trans HG2.out.2 h1)
    clear h1 hx HZ2 HG2
    have HZ := HZ3.out
    have HG := HG3
    clear HZ3
    obtain ⟨c0, f0⟩ := HZ.1 0 (by omega)
    obtain ⟨c1, f1⟩ := HZ.1 1 (by omega)
    obtain ⟨c2, f2⟩ := HZ.1 2 (by omega)
    obtain ⟨c3, f3⟩ := HZ.1 3 (by omega)
    obtain ⟨c4, f4⟩ := HZ.1 4 (by omega)
    obtain ⟨c5, f5⟩ := HZ.1 5 (by omega)
    have zz := HZ.2
    clear HZ
    go_wp2
    refine bodyPost_ret (v := .agg #[.int .i64 4, .int .i64 (u1 : Int), .int .i64 (u2 : Int), .int .i64 0, .int .i64 0, .int .i64 0]) (by simp [results, Try.results92, go_sem, c0, c1, c2, c3, c4, c5]) rfl ⟨⟨4, (u1 : Int), (u2 : Int), 0, 0, 0⟩, .inr ⟨rfl, rfl, .inr (.inl ⟨⟨by simp, by simp⟩, ⟨by simp, ju1⟩, ⟨by simp, ju2⟩, rfl⟩)⟩, rfl, ?_⟩
    exact set6 HG.out hbl
  · skip
    go_wp2_with fail
    refine (below_c w0 _ b a len cap at_ HG1.out.1 (by omega)).mono ?_
    rintro e w2 ⟨u1, hx, rfl, h1⟩
    have ju1 := lt_of_max hx ha2
    have HZ2 := Lib.hid (HZ1.out.only h1.2 HNE.out)
    have HG2 := Lib.hid (goes_trans HG1.out.2 h1)
    clear h1 hx HZ1 HG1
    go_wp2_with fail
    refine (below_c w0 _ b a len cap at_ HG2.out.1 (by omega)).mono ?_
    rintro e w3 ⟨u2, hx, rfl, h1⟩
    have ju2 := lt_of_max hx ha2
    have HZ3 := Lib.hid (HZ2.out.only h1.2 HNE.out)
    have HG3 := Lib.hid (goes_trans HG2.out.2 h1)
    clear h1 hx HZ2 HG2
    have HZ := HZ3.out
    have HG := HG3
    clear HZ3
    obtain ⟨c0, f0⟩ := HZ.1 0 (by omega)
    obtain ⟨c1, f1⟩ := HZ.1 1 (by omega)
    obtain ⟨c2, f2⟩ := HZ.1 2 (by omega)
    obtain ⟨c3, f3⟩ := HZ.1 3 (by omega)
    obtain ⟨c4, f4⟩ := HZ.1 4 (by omega)
    obtain ⟨c5, f5⟩ := HZ.1 5 (by omega)
    have zz := HZ.2
    clear HZ
    go_wp2
    refine bodyPost_ret (v := .agg #[.int .i64 5, .int .i64 (u1 : Int), .int .i64 (u2 : Int), .int .i64 0, .int .i64 0, .int .i64 0]) (by simp [results, Try.results92, go_sem, c0, c1, c2, c3, c4, c5]) rfl ⟨⟨5, (u1 : Int), (u2 : Int), 0, 0, 0⟩, .inr ⟨rfl, rfl, .inr (.inl ⟨⟨by simp, by simp⟩, ⟨by simp, ju1⟩, ⟨by simp, ju2⟩, rfl⟩)⟩, rfl, ?_⟩
    exact set6 HG.out hbl
end Go.Proofs.Ytkfgflmhefbinaa.DrawNode

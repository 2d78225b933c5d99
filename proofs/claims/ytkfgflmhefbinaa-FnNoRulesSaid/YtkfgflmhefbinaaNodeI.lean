/- Contract of the program's NodeOk. Written by gen_nodi.py. -/
import Derived.Test.YtkfgflmhefbinaaRows
import Derived.Test.YtkfgflmhefbinaaTestI
import Derived.Test.YtkfgflmhefbinaaNodeEq
import Derived.Test.YtkfgflmhefbinaaKit
namespace Go.Proofs.Ytkfgflmhefbinaa.NodeI
open Go.RowKit RowN TNode NodeMath FracMath StepI TestI
theorem not_nil (W : World) (t : TypeId) (v : Value) : (binOp .eql 139 (.iface t v) .nilIface).run Try.prog W = .ok (.bool false) W := by kernel_rfl
theorem is_nil (W : World) : (binOp .eql 139 .nilIface .nilIface).run Try.prog W = .ok (.bool true) W := by kernel_rfl
theorem nodeG {w0 : World} {X : Grown.G w0} {f : FuncId} {args : Array Value} {v : Value} (h : Calls Try.prog f args X.w (IsV v X.w)) : Calls Try.prog f args X.w (fun e w'' => e = .returned v ∧ ∃ Y : Grown.G w0, w'' = Y.w) :=
  Grown.grown_of h
theorem methC (d : Nat) (u v : Int) (W : World) : (method (d + 1) 147 (.agg #[.int .i64 u, .int .i64 v]) "loop.example/g00980/impl.node").run Try.prog W = .ok (163, .agg #[.int .i64 u, .int .i64 v]) W := by kernel_rfl
theorem methV (d : Nat) (a : Int) (W : World) : (method (d + 1) 149 (.agg #[.int .i64 a]) "loop.example/g00980/impl.node").run Try.prog W = .ok (164, .agg #[.int .i64 a]) W := by kernel_rfl
theorem methP (d : Nat) (k a b : Int) (W : World) : (method (d + 1) 154 (.agg #[.int .i64 k, .int .i64 a, .int .i64 b]) "loop.example/g00980/impl.node").run Try.prog W = .ok (165, .agg #[.int .i64 k, .int .i64 a, .int .i64 b]) W := by kernel_rfl
theorem methK (d : Nat) (a b c : Int) (W : World) : (method (d + 1) 157 (.agg #[.int .i64 a, .int .i64 b, .int .i64 c]) "loop.example/g00980/impl.node").run Try.prog W = .ok (166, .agg #[.int .i64 a, .int .i64 b, .int .i64 c]) W := by kernel_rfl
set_option maxHeartbeats 8000000 in
theorem node_const (w : World) (a b c u v at_ : Int) : Calls Try.prog 109 #[.agg #[.int .i64 1, .int .i64 a, .int .i64 b, .int .i64 c, .int .i64 u, .int .i64 v], .int .i64 at_] w (IsBo (okN ⟨1, a, b, c, u, v⟩ at_) w) := by
  obtain ⟨R, hR⟩ : ∃ R, okN ⟨1, a, b, c, u, v⟩ at_ = R := ⟨_, rfl⟩
  have HY : Hid (OkN ⟨1, a, b, c, u, v⟩ at_ → R = true) := Lib.hid (fun h => hR.symm.trans (okN_yes h))
  have HN : Hid (¬ OkN ⟨1, a, b, c, u, v⟩ at_ → R = false) := Lib.hid (fun h => hR.symm.trans (okN_no h))
  rw [hR]
  clear hR
  have hS : stepV ⟨1, a, b, c, u, v⟩ = vC u v := rfl
  by_cases hz : a = 0 ∧ b = 0 ∧ c = 0
  case neg =>
    have E := Lib.hid (HN.out (by unfold OkN; simp only []; omega))
    clear HY HN
    have hq := fun W => NodeEq.neq 1 a b c u v 1 0 0 0 u v W
    have dz : ((1 : Int) == 1 && (a : Int) == 0 && (b : Int) == 0 && (c : Int) == 0 && (u == u && v == v)) = false := by simp; try omega
    simp only [dz, Bool.not_false] at hq
    have hme := methC
    have hnil := not_nil
    have hgrd := fun W x y p q r s t o p' q' r' s' t' o' => NodeEq.guard .neq x y #[.int .i64 p, .int .i64 q, .int .i64 r, .int .i64 s, .int .i64 t, .int .i64 o] #[.int .i64 p', .int .i64 q', .int .i64 r', .int .i64 s', .int .i64 t', .int .i64 o'] W
    clear hz dz
    go_enter Try.func109, Try.ntmps109
    go_wp2_with fail
    refine (step_i _ ⟨1, a, b, c, u, v⟩).mono ?_
    rintro e w1 ⟨rfl, hb⟩
    rw [hS]
    clear hS
    obtain ⟨hc, _⟩ := BelowKit.bcell hb
    have c0 : w1.cell? ⟨w.heap.size, 0, none⟩ = some (.int .i64 1) := (hc _ _ (by simp)).trans (by simp [go_sem])
    have c1 : w1.cell? ⟨w.heap.size, 1, none⟩ = some (.int .i64 a) := (hc _ _ (by simp)).trans (by simp [go_sem])
    have c2 : w1.cell? ⟨w.heap.size, 2, none⟩ = some (.int .i64 b) := (hc _ _ (by simp)).trans (by simp [go_sem])
    have c3 : w1.cell? ⟨w.heap.size, 3, none⟩ = some (.int .i64 c) := (hc _ _ (by simp)).trans (by simp [go_sem])
    have c4 : w1.cell? ⟨w.heap.size, 4, none⟩ = some (.int .i64 u) := (hc _ _ (by simp)).trans (by simp [go_sem])
    have c5 : w1.cell? ⟨w.heap.size, 5, none⟩ = some (.int .i64 v) := (hc _ _ (by simp)).trans (by simp [go_sem])
    have z0 : w.heap.size < w1.heap.size := by have := hb.size; simp at this; omega
    have HB := Lib.hid (BelowKit.bl_trans (BelowKit.bl_alloc (Below.refl _ _)) hb)
    clear hc hb
    go_wp2_with fail
    have g0 := Grown.G.keep c0 z0
    have g1 := Grown.G.keep c1 z0
    have g2 := Grown.G.keep c2 z0
    have g3 := Grown.G.keep c3 z0
    have g4 := Grown.G.keep c4 z0
    have g5 := Grown.G.keep c5 z0
    clear c0 c1 c2 c3 c4 c5
    refine Grown.wp_region_grown (by kernel_rfl) (by kernel_rfl) ?_
    repeat (go_big_quiet_step ((go_at_call 163; with_reducible exact nodeG (node_c _ u v))))
    refine wpQuiet_nil ?_
    rintro w4 ⟨X, rfl⟩
    have HX := Lib.hid (BelowKit.bl_trans HB.out X.bel)
    obtain ⟨W, hW⟩ : ∃ W, X.w = W := ⟨_, rfl⟩
    rw [hW] at HX ⊢
    clear g0 g1 g2 g3 g4 g5 hW HB X hme hq hgrd hnil
    go_wp2
    go_ret
    rw [E.out]
    exact ⟨rfl, HX.out⟩
  case pos =>
    obtain ⟨q, hqq⟩ : ∃ q, okB u v = q := ⟨_, rfl⟩
    have HQ := Lib.hid hqq
    have E : Hid (R = q) := Lib.hid (by
      cases q with
      | true => exact HY.out (.inl ⟨rfl, hz.1, hz.2.1, hz.2.2, hqq⟩)
      | false => exact HN.out (by unfold OkN; simp only []; rw [hqq]; simp))
    clear HY HN hqq
    have t1 := is_yes 147 (.agg #[.int .i64 u, .int .i64 v]) (by simp)
    have hq := fun W => NodeEq.neq 1 a b c u v 1 0 0 0 u v W
    have dz : ((1 : Int) == 1 && (a : Int) == 0 && (b : Int) == 0 && (c : Int) == 0 && (u == u && v == v)) = true := by simp; try omega
    simp only [dz, Bool.not_true] at hq
    have hme := methC
    have hnil := not_nil
    have hgrd := fun W x y p q r s t o p' q' r' s' t' o' => NodeEq.guard .neq x y #[.int .i64 p, .int .i64 q, .int .i64 r, .int .i64 s, .int .i64 t, .int .i64 o] #[.int .i64 p', .int .i64 q', .int .i64 r', .int .i64 s', .int .i64 t', .int .i64 o'] W
    clear hz dz
    go_enter Try.func109, Try.ntmps109
    go_wp2_with fail
    refine (step_i _ ⟨1, a, b, c, u, v⟩).mono ?_
    rintro e w1 ⟨rfl, hb⟩
    rw [hS]
    clear hS
    obtain ⟨hc, _⟩ := BelowKit.bcell hb
    have c0 : w1.cell? ⟨w.heap.size, 0, none⟩ = some (.int .i64 1) := (hc _ _ (by simp)).trans (by simp [go_sem])
    have c1 : w1.cell? ⟨w.heap.size, 1, none⟩ = some (.int .i64 a) := (hc _ _ (by simp)).trans (by simp [go_sem])
    have c2 : w1.cell? ⟨w.heap.size, 2, none⟩ = some (.int .i64 b) := (hc _ _ (by simp)).trans (by simp [go_sem])
    have c3 : w1.cell? ⟨w.heap.size, 3, none⟩ = some (.int .i64 c) := (hc _ _ (by simp)).trans (by simp [go_sem])
    have c4 : w1.cell? ⟨w.heap.size, 4, none⟩ = some (.int .i64 u) := (hc _ _ (by simp)).trans (by simp [go_sem])
    have c5 : w1.cell? ⟨w.heap.size, 5, none⟩ = some (.int .i64 v) := (hc _ _ (by simp)).trans (by simp [go_sem])
    have z0 : w.heap.size < w1.heap.size := by have := hb.size; simp at this; omega
    have HB := Lib.hid (BelowKit.bl_trans (BelowKit.bl_alloc (Below.refl _ _)) hb)
    clear hc hb
    go_wp2_with fail
    have g0 := Grown.G.keep c0 z0
    have g1 := Grown.G.keep c1 z0
    have g2 := Grown.G.keep c2 z0
    have g3 := Grown.G.keep c3 z0
    have g4 := Grown.G.keep c4 z0
    have g5 := Grown.G.keep c5 z0
    clear c0 c1 c2 c3 c4 c5
    refine Grown.wp_region_grown (by kernel_rfl) (by kernel_rfl) ?_
    repeat (go_big_quiet_step ((go_at_call 163; with_reducible exact nodeG (node_c _ u v))))
    refine wpQuiet_nil ?_
    rintro w4 ⟨X, rfl⟩
    have HX := Lib.hid (BelowKit.bl_trans HB.out X.bel)
    obtain ⟨W, hW⟩ : ∃ W, X.w = W := ⟨_, rfl⟩
    rw [hW] at HX ⊢
    clear g0 g1 g2 g3 g4 g5 hW HB X hme hq hgrd hnil
    go_wp2_with fail
    refine (FracValid.valid_i u v _).mono ?_
    rintro e w5 ⟨rfl, hb5⟩
    rw [HQ.out]
    have HY := Lib.hid (BelowKit.bl_trans (BelowKit.bl_alloc HX.out) hb5)
    clear hb5
    go_wp2
    go_ret
    rw [E.out]
    exact ⟨rfl, HY.out⟩
set_option maxHeartbeats 8000000 in
theorem node_var (w : World) (a b c u v at_ : Int) : Calls Try.prog 109 #[.agg #[.int .i64 2, .int .i64 a, .int .i64 b, .int .i64 c, .int .i64 u, .int .i64 v], .int .i64 at_] w (IsBo (okN ⟨2, a, b, c, u, v⟩ at_) w) := by
  obtain ⟨R, hR⟩ : ∃ R, okN ⟨2, a, b, c, u, v⟩ at_ = R := ⟨_, rfl⟩
  have HY : Hid (OkN ⟨2, a, b, c, u, v⟩ at_ → R = true) := Lib.hid (fun h => hR.symm.trans (okN_yes h))
  have HN : Hid (¬ OkN ⟨2, a, b, c, u, v⟩ at_ → R = false) := Lib.hid (fun h => hR.symm.trans (okN_no h))
  rw [hR]
  clear hR
  have hS : stepV ⟨2, a, b, c, u, v⟩ = vV a := rfl
  by_cases hz : b = 0 ∧ c = 0 ∧ u = 0 ∧ v = 0
  case neg =>
    have E := Lib.hid (HN.out (by unfold OkN; simp only []; omega))
    clear HY HN
    have hq := fun W => NodeEq.neq 2 a b c u v 2 a 0 0 0 0 W
    have dz : ((2 : Int) == 2 && (a : Int) == a && (b : Int) == 0 && (c : Int) == 0 && (u == 0 && v == 0)) = false := by simp; try omega
    simp only [dz, Bool.not_false] at hq
    have hme := methV
    have hnil := not_nil
    have hgrd := fun W x y p q r s t o p' q' r' s' t' o' => NodeEq.guard .neq x y #[.int .i64 p, .int .i64 q, .int .i64 r, .int .i64 s, .int .i64 t, .int .i64 o] #[.int .i64 p', .int .i64 q', .int .i64 r', .int .i64 s', .int .i64 t', .int .i64 o'] W
    clear hz dz
    go_enter Try.func109, Try.ntmps109
    go_wp2_with fail
    refine (step_i _ ⟨2, a, b, c, u, v⟩).mono ?_
    rintro e w1 ⟨rfl, hb⟩
    rw [hS]
    clear hS
    obtain ⟨hc, _⟩ := BelowKit.bcell hb
    have c0 : w1.cell? ⟨w.heap.size, 0, none⟩ = some (.int .i64 2) := (hc _ _ (by simp)).trans (by simp [go_sem])
    have c1 : w1.cell? ⟨w.heap.size, 1, none⟩ = some (.int .i64 a) := (hc _ _ (by simp)).trans (by simp [go_sem])
    have c2 : w1.cell? ⟨w.heap.size, 2, none⟩ = some (.int .i64 b) := (hc _ _ (by simp)).trans (by simp [go_sem])
    have c3 : w1.cell? ⟨w.heap.size, 3, none⟩ = some (.int .i64 c) := (hc _ _ (by simp)).trans (by simp [go_sem])
    have c4 : w1.cell? ⟨w.heap.size, 4, none⟩ = some (.int .i64 u) := (hc _ _ (by simp)).trans (by simp [go_sem])
    have c5 : w1.cell? ⟨w.heap.size, 5, none⟩ = some (.int .i64 v) := (hc _ _ (by simp)).trans (by simp [go_sem])
    have z0 : w.heap.size < w1.heap.size := by have := hb.size; simp at this; omega
    have HB := Lib.hid (BelowKit.bl_trans (BelowKit.bl_alloc (Below.refl _ _)) hb)
    clear hc hb
    go_wp2_with fail
    have g0 := Grown.G.keep c0 z0
    have g1 := Grown.G.keep c1 z0
    have g2 := Grown.G.keep c2 z0
    have g3 := Grown.G.keep c3 z0
    have g4 := Grown.G.keep c4 z0
    have g5 := Grown.G.keep c5 z0
    clear c0 c1 c2 c3 c4 c5
    refine Grown.wp_region_grown (by kernel_rfl) (by kernel_rfl) ?_
    repeat (go_big_quiet_step ((go_at_call 164; with_reducible exact nodeG (node_v _ a))))
    refine wpQuiet_nil ?_
    rintro w4 ⟨X, rfl⟩
    have HX := Lib.hid (BelowKit.bl_trans HB.out X.bel)
    obtain ⟨W, hW⟩ : ∃ W, X.w = W := ⟨_, rfl⟩
    rw [hW] at HX ⊢
    clear g0 g1 g2 g3 g4 g5 hW HB X hme hq hgrd hnil
    go_wp2
    go_ret
    rw [E.out]
    exact ⟨rfl, HX.out⟩
  case pos =>
    have t1 := noC 149 (.agg #[.int .i64 a]) (by decide)
    have t2 := is_yes 149 (.agg #[.int .i64 a]) (by simp)
    by_cases ha : 0 ≤ a
    case neg =>
      have E := Lib.hid (HN.out (by unfold OkN; simp only []; omega))
      have d1 : decide (0 ≤ a) = false := decide_eq_false ha
      clear HY HN ha
      have hq := fun W => NodeEq.neq 2 a b c u v 2 a 0 0 0 0 W
      have dz : ((2 : Int) == 2 && (a : Int) == a && (b : Int) == 0 && (c : Int) == 0 && (u == 0 && v == 0)) = true := by simp; try omega
      simp only [dz, Bool.not_true] at hq
      have hme := methV
      have hnil := not_nil
      have hgrd := fun W x y p q r s t o p' q' r' s' t' o' => NodeEq.guard .neq x y #[.int .i64 p, .int .i64 q, .int .i64 r, .int .i64 s, .int .i64 t, .int .i64 o] #[.int .i64 p', .int .i64 q', .int .i64 r', .int .i64 s', .int .i64 t', .int .i64 o'] W
      clear hz dz
      go_enter Try.func109, Try.ntmps109
      go_wp2_with fail
      refine (step_i _ ⟨2, a, b, c, u, v⟩).mono ?_
      rintro e w1 ⟨rfl, hb⟩
      rw [hS]
      clear hS
      obtain ⟨hc, _⟩ := BelowKit.bcell hb
      have c0 : w1.cell? ⟨w.heap.size, 0, none⟩ = some (.int .i64 2) := (hc _ _ (by simp)).trans (by simp [go_sem])
      have c1 : w1.cell? ⟨w.heap.size, 1, none⟩ = some (.int .i64 a) := (hc _ _ (by simp)).trans (by simp [go_sem])
      have c2 : w1.cell? ⟨w.heap.size, 2, none⟩ = some (.int .i64 b) := (hc _ _ (by simp)).trans (by simp [go_sem])
      have c3 : w1.cell? ⟨w.heap.size, 3, none⟩ = some (.int .i64 c) := (hc _ _ (by simp)).trans (by simp [go_sem])
      have c4 : w1.cell? ⟨w.heap.size, 4, none⟩ = some (.int .i64 u) := (hc _ _ (by simp)).trans (by simp [go_sem])
      have c5 : w1.cell? ⟨w.heap.size, 5, none⟩ = some (.int .i64 v) := (hc _ _ (by simp)).trans (by simp [go_sem])
      have z0 : w.heap.size < w1.heap.size := by have := hb.size; simp at this; omega
      have HB := Lib.hid (BelowKit.bl_trans (BelowKit.bl_alloc (Below.refl _ _)) hb)
      clear hc hb
      go_wp2_with fail
      have g0 := Grown.G.keep c0 z0
      have g1 := Grown.G.keep c1 z0
      have g2 := Grown.G.keep c2 z0
      have g3 := Grown.G.keep c3 z0
      have g4 := Grown.G.keep c4 z0
      have g5 := Grown.G.keep c5 z0
      clear c0 c1 c2 c3 c4 c5
      refine Grown.wp_region_grown (by kernel_rfl) (by kernel_rfl) ?_
      repeat (go_big_quiet_step ((go_at_call 164; with_reducible exact nodeG (node_v _ a))))
      refine wpQuiet_nil ?_
      rintro w4 ⟨X, rfl⟩
      have HX := Lib.hid (BelowKit.bl_trans HB.out X.bel)
      obtain ⟨W, hW⟩ : ∃ W, X.w = W := ⟨_, rfl⟩
      rw [hW] at HX ⊢
      clear g0 g1 g2 g3 g4 g5 hW HB X hme hq hgrd hnil
      go_wp2
      go_ret
      rw [E.out]
      exact ⟨rfl, by first | exact HX.out | exact BelowKit.bl_alloc HX.out⟩
    case pos =>
    by_cases ha2 : a < 8
    case neg =>
      have E := Lib.hid (HN.out (by unfold OkN; simp only []; omega))
      have d1 : decide (0 ≤ a) = true := decide_eq_true ha
      have d2 : decide (a < 8) = false := decide_eq_false ha2
      clear HY HN ha ha2
      have hq := fun W => NodeEq.neq 2 a b c u v 2 a 0 0 0 0 W
      have dz : ((2 : Int) == 2 && (a : Int) == a && (b : Int) == 0 && (c : Int) == 0 && (u == 0 && v == 0)) = true := by simp; try omega
      simp only [dz, Bool.not_true] at hq
      have hme := methV
      have hnil := not_nil
      have hgrd := fun W x y p q r s t o p' q' r' s' t' o' => NodeEq.guard .neq x y #[.int .i64 p, .int .i64 q, .int .i64 r, .int .i64 s, .int .i64 t, .int .i64 o] #[.int .i64 p', .int .i64 q', .int .i64 r', .int .i64 s', .int .i64 t', .int .i64 o'] W
      clear hz dz
      go_enter Try.func109, Try.ntmps109
      go_wp2_with fail
      refine (step_i _ ⟨2, a, b, c, u, v⟩).mono ?_
      rintro e w1 ⟨rfl, hb⟩
      rw [hS]
      clear hS
      obtain ⟨hc, _⟩ := BelowKit.bcell hb
      have c0 : w1.cell? ⟨w.heap.size, 0, none⟩ = some (.int .i64 2) := (hc _ _ (by simp)).trans (by simp [go_sem])
      have c1 : w1.cell? ⟨w.heap.size, 1, none⟩ = some (.int .i64 a) := (hc _ _ (by simp)).trans (by simp [go_sem])
      have c2 : w1.cell? ⟨w.heap.size, 2, none⟩ = some (.int .i64 b) := (hc _ _ (by simp)).trans (by simp [go_sem])
      have c3 : w1.cell? ⟨w.heap.size, 3, none⟩ = some (.int .i64 c) := (hc _ _ (by simp)).trans (by simp [go_sem])
      have c4 : w1.cell? ⟨w.heap.size, 4, none⟩ = some (.int .i64 u) := (hc _ _ (by simp)).trans (by simp [go_sem])
      have c5 : w1.cell? ⟨w.heap.size, 5, none⟩ = some (.int .i64 v) := (hc _ _ (by simp)).trans (by simp [go_sem])
      have z0 : w.heap.size < w1.heap.size := by have := hb.size; simp at this; omega
      have HB := Lib.hid (BelowKit.bl_trans (BelowKit.bl_alloc (Below.refl _ _)) hb)
      clear hc hb
      go_wp2_with fail
      have g0 := Grown.G.keep c0 z0
      have g1 := Grown.G.keep c1 z0
      have g2 := Grown.G.keep c2 z0
      have g3 := Grown.G.keep c3 z0
      have g4 := Grown.G.keep c4 z0
      have g5 := Grown.G.keep c5 z0
      clear c0 c1 c2 c3 c4 c5
      refine Grown.wp_region_grown (by kernel_rfl) (by kernel_rfl) ?_
      repeat (go_big_quiet_step ((go_at_call 164; with_reducible exact nodeG (node_v _ a))))
      refine wpQuiet_nil ?_
      rintro w4 ⟨X, rfl⟩
      have HX := Lib.hid (BelowKit.bl_trans HB.out X.bel)
      obtain ⟨W, hW⟩ : ∃ W, X.w = W := ⟨_, rfl⟩
      rw [hW] at HX ⊢
      clear g0 g1 g2 g3 g4 g5 hW HB X hme hq hgrd hnil
      go_wp2
      go_ret
      rw [E.out]
      exact ⟨rfl, by first | exact HX.out | exact BelowKit.bl_alloc HX.out⟩
    case pos =>
      have E := Lib.hid (HY.out (.inr ⟨hz.2.2.1, hz.2.2.2, .inl ⟨rfl, ⟨ha, by simp only []; omega⟩, hz.1, hz.2.1⟩⟩))
      have d1 : decide (0 ≤ a) = true := decide_eq_true ha
      have d2 : decide (a < 8) = true := decide_eq_true ha2
      clear HY HN ha ha2
      have hq := fun W => NodeEq.neq 2 a b c u v 2 a 0 0 0 0 W
      have dz : ((2 : Int) == 2 && (a : Int) == a && (b : Int) == 0 && (c : Int) == 0 && (u == 0 && v == 0)) = true := by simp; try omega
      simp only [dz, Bool.not_true] at hq
      have hme := methV
      have hnil := not_nil
      have hgrd := fun W x y p q r s t o p' q' r' s' t' o' => NodeEq.guard .neq x y #[.int .i64 p, .int .i64 q, .int .i64 r, .int .i64 s, .int .i64 t, .int .i64 o] #[.int .i64 p', .int .i64 q', .int .i64 r', .int .i64 s', .int .i64 t', .int .i64 o'] W
      clear hz dz
      go_enter Try.func109, Try.ntmps109
      go_wp2_with fail
      refine (step_i _ ⟨2, a, b, c, u, v⟩).mono ?_
      rintro e w1 ⟨rfl, hb⟩
      rw [hS]
      clear hS
      obtain ⟨hc, _⟩ := BelowKit.bcell hb
      have c0 : w1.cell? ⟨w.heap.size, 0, none⟩ = some (.int .i64 2) := (hc _ _ (by simp)).trans (by simp [go_sem])
      have c1 : w1.cell? ⟨w.heap.size, 1, none⟩ = some (.int .i64 a) := (hc _ _ (by simp)).trans (by simp [go_sem])
      have c2 : w1.cell? ⟨w.heap.size, 2, none⟩ = some (.int .i64 b) := (hc _ _ (by simp)).trans (by simp [go_sem])
      have c3 : w1.cell? ⟨w.heap.size, 3, none⟩ = some (.int .i64 c) := (hc _ _ (by simp)).trans (by simp [go_sem])
      have c4 : w1.cell? ⟨w.heap.size, 4, none⟩ = some (.int .i64 u) := (hc _ _ (by simp)).trans (by simp [go_sem])
      have c5 : w1.cell? ⟨w.heap.size, 5, none⟩ = some (.int .i64 v) := (hc _ _ (by simp)).trans (by simp [go_sem])
      have z0 : w.heap.size < w1.heap.size := by have := hb.size; simp at this; omega
      have HB := Lib.hid (BelowKit.bl_trans (BelowKit.bl_alloc (Below.refl _ _)) hb)
      clear hc hb
      go_wp2_with fail
      have g0 := Grown.G.keep c0 z0
      have g1 := Grown.G.keep c1 z0
      have g2 := Grown.G.keep c2 z0
      have g3 := Grown.G.keep c3 z0
      have g4 := Grown.G.keep c4 z0
      have g5 := Grown.G.keep c5 z0
      clear c0 c1 c2 c3 c4 c5
      refine Grown.wp_region_grown (by kernel_rfl) (by kernel_rfl) ?_
      repeat (go_big_quiet_step ((go_at_call 164; with_reducible exact nodeG (node_v _ a))))
      refine wpQuiet_nil ?_
      rintro w4 ⟨X, rfl⟩
      have HX := Lib.hid (BelowKit.bl_trans HB.out X.bel)
      obtain ⟨W, hW⟩ : ∃ W, X.w = W := ⟨_, rfl⟩
      rw [hW] at HX ⊢
      clear g0 g1 g2 g3 g4 g5 hW HB X hme hq hgrd hnil
      go_wp2
      go_ret
      rw [E.out]
      exact ⟨rfl, by first | exact HX.out | exact BelowKit.bl_alloc HX.out⟩
set_option maxHeartbeats 8000000 in
theorem node_pair (w : World) (k a b c u v at_ : Int) (h1 : 3 ≤ k ∧ k ≤ 8) : Calls Try.prog 109 #[.agg #[.int .i64 k, .int .i64 a, .int .i64 b, .int .i64 c, .int .i64 u, .int .i64 v], .int .i64 at_] w (IsBo (okN ⟨k, a, b, c, u, v⟩ at_) w) := by
  obtain ⟨R, hR⟩ : ∃ R, okN ⟨k, a, b, c, u, v⟩ at_ = R := ⟨_, rfl⟩
  have HY : Hid (OkN ⟨k, a, b, c, u, v⟩ at_ → R = true) := Lib.hid (fun h => hR.symm.trans (okN_yes h))
  have HN : Hid (¬ OkN ⟨k, a, b, c, u, v⟩ at_ → R = false) := Lib.hid (fun h => hR.symm.trans (okN_no h))
  rw [hR]
  clear hR
  have hS : stepV ⟨k, a, b, c, u, v⟩ = vP k a b := by unfold stepV; simp only []; rw [if_neg (by omega), if_neg (by omega), if_pos h1]
  by_cases hz : c = 0 ∧ u = 0 ∧ v = 0
  case neg =>
    have E := Lib.hid (HN.out (by unfold OkN; simp only []; omega))
    clear HY HN h1
    have hq := fun W => NodeEq.neq k a b c u v k a b 0 0 0 W
    have dz : ((k : Int) == k && (a : Int) == a && (b : Int) == b && (c : Int) == 0 && (u == 0 && v == 0)) = false := by simp; try omega
    simp only [dz, Bool.not_false] at hq
    have hme := methP
    have hnil := not_nil
    have hgrd := fun W x y p q r s t o p' q' r' s' t' o' => NodeEq.guard .neq x y #[.int .i64 p, .int .i64 q, .int .i64 r, .int .i64 s, .int .i64 t, .int .i64 o] #[.int .i64 p', .int .i64 q', .int .i64 r', .int .i64 s', .int .i64 t', .int .i64 o'] W
    clear hz dz
    go_enter Try.func109, Try.ntmps109
    go_wp2_with fail
    refine (step_i _ ⟨k, a, b, c, u, v⟩).mono ?_
    rintro e w1 ⟨rfl, hb⟩
    rw [hS]
    clear hS
    obtain ⟨hc, _⟩ := BelowKit.bcell hb
    have c0 : w1.cell? ⟨w.heap.size, 0, none⟩ = some (.int .i64 k) := (hc _ _ (by simp)).trans (by simp [go_sem])
    have c1 : w1.cell? ⟨w.heap.size, 1, none⟩ = some (.int .i64 a) := (hc _ _ (by simp)).trans (by simp [go_sem])
    have c2 : w1.cell? ⟨w.heap.size, 2, none⟩ = some (.int .i64 b) := (hc _ _ (by simp)).trans (by simp [go_sem])
    have c3 : w1.cell? ⟨w.heap.size, 3, none⟩ = some (.int .i64 c) := (hc _ _ (by simp)).trans (by simp [go_sem])
    have c4 : w1.cell? ⟨w.heap.size, 4, none⟩ = some (.int .i64 u) := (hc _ _ (by simp)).trans (by simp [go_sem])
    have c5 : w1.cell? ⟨w.heap.size, 5, none⟩ = some (.int .i64 v) := (hc _ _ (by simp)).trans (by simp [go_sem])
    have z0 : w.heap.size < w1.heap.size := by have := hb.size; simp at this; omega
    have HB := Lib.hid (BelowKit.bl_trans (BelowKit.bl_alloc (Below.refl _ _)) hb)
    clear hc hb
    go_wp2_with fail
    have g0 := Grown.G.keep c0 z0
    have g1 := Grown.G.keep c1 z0
    have g2 := Grown.G.keep c2 z0
    have g3 := Grown.G.keep c3 z0
    have g4 := Grown.G.keep c4 z0
    have g5 := Grown.G.keep c5 z0
    clear c0 c1 c2 c3 c4 c5
    refine Grown.wp_region_grown (by kernel_rfl) (by kernel_rfl) ?_
    repeat (go_big_quiet_step ((go_at_call 165; with_reducible exact nodeG (node_p _ k a b))))
    refine wpQuiet_nil ?_
    rintro w4 ⟨X, rfl⟩
    have HX := Lib.hid (BelowKit.bl_trans HB.out X.bel)
    obtain ⟨W, hW⟩ : ∃ W, X.w = W := ⟨_, rfl⟩
    rw [hW] at HX ⊢
    clear g0 g1 g2 g3 g4 g5 hW HB X hme hq hgrd hnil
    go_wp2
    go_ret
    rw [E.out]
    exact ⟨rfl, HX.out⟩
  case pos =>
    obtain ⟨q, hqq⟩ : ∃ q, befB [a, b] at_ = q := ⟨_, rfl⟩
    have HQ := Lib.hid hqq
    have E : Hid (R = q) := Lib.hid (by
      cases q with
      | true => exact HY.out (have hh := of_decide_eq_true hqq; .inr ⟨hz.2.1, hz.2.2, .inr (.inl ⟨h1, hh a (by simp), hh b (by simp), hz.1⟩)⟩)
      | false => exact HN.out (fun e => of_decide_eq_false hqq (by unfold OkN at e; simp only [] at e; intro x hx; simp only [List.mem_cons, List.not_mem_nil, or_false] at hx; rcases hx with rfl | rfl <;> omega)))
    clear HY HN hqq h1
    have t1 := noC 154 (.agg #[.int .i64 k, .int .i64 a, .int .i64 b]) (by decide)
    have t2 := noV 154 (.agg #[.int .i64 k, .int .i64 a, .int .i64 b]) (by decide)
    have hq := fun W => NodeEq.neq k a b c u v k a b 0 0 0 W
    have dz : ((k : Int) == k && (a : Int) == a && (b : Int) == b && (c : Int) == 0 && (u == 0 && v == 0)) = true := by simp; try omega
    simp only [dz, Bool.not_true] at hq
    have hme := methP
    have hnil := not_nil
    have hgrd := fun W x y p q r s t o p' q' r' s' t' o' => NodeEq.guard .neq x y #[.int .i64 p, .int .i64 q, .int .i64 r, .int .i64 s, .int .i64 t, .int .i64 o] #[.int .i64 p', .int .i64 q', .int .i64 r', .int .i64 s', .int .i64 t', .int .i64 o'] W
    clear hz dz
    go_enter Try.func109, Try.ntmps109
    go_wp2_with fail
    refine (step_i _ ⟨k, a, b, c, u, v⟩).mono ?_
    rintro e w1 ⟨rfl, hb⟩
    rw [hS]
    clear hS
    obtain ⟨hc, _⟩ := BelowKit.bcell hb
    have c0 : w1.cell? ⟨w.heap.size, 0, none⟩ = some (.int .i64 k) := (hc _ _ (by simp)).trans (by simp [go_sem])
    have c1 : w1.cell? ⟨w.heap.size, 1, none⟩ = some (.int .i64 a) := (hc _ _ (by simp)).trans (by simp [go_sem])
    have c2 : w1.cell? ⟨w.heap.size, 2, none⟩ = some (.int .i64 b) := (hc _ _ (by simp)).trans (by simp [go_sem])
    have c3 : w1.cell? ⟨w.heap.size, 3, none⟩ = some (.int .i64 c) := (hc _ _ (by simp)).trans (by simp [go_sem])
    have c4 : w1.cell? ⟨w.heap.size, 4, none⟩ = some (.int .i64 u) := (hc _ _ (by simp)).trans (by simp [go_sem])
    have c5 : w1.cell? ⟨w.heap.size, 5, none⟩ = some (.int .i64 v) := (hc _ _ (by simp)).trans (by simp [go_sem])
    have z0 : w.heap.size < w1.heap.size := by have := hb.size; simp at this; omega
    have HB := Lib.hid (BelowKit.bl_trans (BelowKit.bl_alloc (Below.refl _ _)) hb)
    clear hc hb
    go_wp2_with fail
    have g0 := Grown.G.keep c0 z0
    have g1 := Grown.G.keep c1 z0
    have g2 := Grown.G.keep c2 z0
    have g3 := Grown.G.keep c3 z0
    have g4 := Grown.G.keep c4 z0
    have g5 := Grown.G.keep c5 z0
    clear c0 c1 c2 c3 c4 c5
    refine Grown.wp_region_grown (by kernel_rfl) (by kernel_rfl) ?_
    repeat (go_big_quiet_step ((go_at_call 165; with_reducible exact nodeG (node_p _ k a b))))
    refine wpQuiet_nil ?_
    rintro w4 ⟨X, rfl⟩
    have HX := Lib.hid (BelowKit.bl_trans HB.out X.bel)
    obtain ⟨W, hW⟩ : ∃ W, X.w = W := ⟨_, rfl⟩
    rw [hW] at HX ⊢
    clear g0 g1 g2 g3 g4 g5 hW HB X hme hq hgrd hnil
    go_wp2_with fail
    refine (ops_p _ k a b).mono ?_
    rintro e w5 ⟨p5, rfl, hr5, hb5⟩
    have HR := Lib.hid hr5
    have HY := Lib.hid (BelowKit.bl_trans HX.out hb5)
    clear hb5 hr5
    simp only [List.length_cons, List.length_nil, Nat.zero_add, Nat.reduceAdd]
    go_wp2_with fail
    refine (before_i _ p5 2 2 [a, b] at_ rfl (by omega) HR.out).mono ?_
    rintro e w6 ⟨rfl, hb6⟩
    rw [HQ.out]
    have HZ := Lib.hid (BelowKit.bl_trans HY.out hb6)
    clear hb6
    go_wp2
    go_ret
    rw [E.out]
    exact ⟨rfl, HZ.out⟩
set_option maxHeartbeats 8000000 in
theorem node_pick (w : World) (a b c u v at_ : Int) : Calls Try.prog 109 #[.agg #[.int .i64 9, .int .i64 a, .int .i64 b, .int .i64 c, .int .i64 u, .int .i64 v], .int .i64 at_] w (IsBo (okN ⟨9, a, b, c, u, v⟩ at_) w) := by
  obtain ⟨R, hR⟩ : ∃ R, okN ⟨9, a, b, c, u, v⟩ at_ = R := ⟨_, rfl⟩
  have HY : Hid (OkN ⟨9, a, b, c, u, v⟩ at_ → R = true) := Lib.hid (fun h => hR.symm.trans (okN_yes h))
  have HN : Hid (¬ OkN ⟨9, a, b, c, u, v⟩ at_ → R = false) := Lib.hid (fun h => hR.symm.trans (okN_no h))
  rw [hR]
  clear hR
  have hS : stepV ⟨9, a, b, c, u, v⟩ = vK a b c := rfl
  by_cases hz : u = 0 ∧ v = 0
  case neg =>
    have E := Lib.hid (HN.out (by unfold OkN; simp only []; omega))
    clear HY HN
    have hq := fun W => NodeEq.neq 9 a b c u v 9 a b c 0 0 W
    have dz : ((9 : Int) == 9 && (a : Int) == a && (b : Int) == b && (c : Int) == c && (u == 0 && v == 0)) = false := by simp; try omega
    simp only [dz, Bool.not_false] at hq
    have hme := methK
    have hnil := not_nil
    have hgrd := fun W x y p q r s t o p' q' r' s' t' o' => NodeEq.guard .neq x y #[.int .i64 p, .int .i64 q, .int .i64 r, .int .i64 s, .int .i64 t, .int .i64 o] #[.int .i64 p', .int .i64 q', .int .i64 r', .int .i64 s', .int .i64 t', .int .i64 o'] W
    clear hz dz
    go_enter Try.func109, Try.ntmps109
    go_wp2_with fail
    refine (step_i _ ⟨9, a, b, c, u, v⟩).mono ?_
    rintro e w1 ⟨rfl, hb⟩
    rw [hS]
    clear hS
    obtain ⟨hc, _⟩ := BelowKit.bcell hb
    have c0 : w1.cell? ⟨w.heap.size, 0, none⟩ = some (.int .i64 9) := (hc _ _ (by simp)).trans (by simp [go_sem])
    have c1 : w1.cell? ⟨w.heap.size, 1, none⟩ = some (.int .i64 a) := (hc _ _ (by simp)).trans (by simp [go_sem])
    have c2 : w1.cell? ⟨w.heap.size, 2, none⟩ = some (.int .i64 b) := (hc _ _ (by simp)).trans (by simp [go_sem])
    have c3 : w1.cell? ⟨w.heap.size, 3, none⟩ = some (.int .i64 c) := (hc _ _ (by simp)).trans (by simp [go_sem])
    have c4 : w1.cell? ⟨w.heap.size, 4, none⟩ = some (.int .i64 u) := (hc _ _ (by simp)).trans (by simp [go_sem])
    have c5 : w1.cell? ⟨w.heap.size, 5, none⟩ = some (.int .i64 v) := (hc _ _ (by simp)).trans (by simp [go_sem])
    have z0 : w.heap.size < w1.heap.size := by have := hb.size; simp at this; omega
    have HB := Lib.hid (BelowKit.bl_trans (BelowKit.bl_alloc (Below.refl _ _)) hb)
    clear hc hb
    go_wp2_with fail
    have g0 := Grown.G.keep c0 z0
    have g1 := Grown.G.keep c1 z0
    have g2 := Grown.G.keep c2 z0
    have g3 := Grown.G.keep c3 z0
    have g4 := Grown.G.keep c4 z0
    have g5 := Grown.G.keep c5 z0
    clear c0 c1 c2 c3 c4 c5
    refine Grown.wp_region_grown (by kernel_rfl) (by kernel_rfl) ?_
    repeat (go_big_quiet_step ((go_at_call 166; with_reducible exact nodeG (node_k _ a b c))))
    refine wpQuiet_nil ?_
    rintro w4 ⟨X, rfl⟩
    have HX := Lib.hid (BelowKit.bl_trans HB.out X.bel)
    obtain ⟨W, hW⟩ : ∃ W, X.w = W := ⟨_, rfl⟩
    rw [hW] at HX ⊢
    clear g0 g1 g2 g3 g4 g5 hW HB X hme hq hgrd hnil
    go_wp2
    go_ret
    rw [E.out]
    exact ⟨rfl, HX.out⟩
  case pos =>
    obtain ⟨q, hqq⟩ : ∃ q, befB [a, b, c] at_ = q := ⟨_, rfl⟩
    have HQ := Lib.hid hqq
    have E : Hid (R = q) := Lib.hid (by
      cases q with
      | true => exact HY.out (have hh := of_decide_eq_true hqq; .inr ⟨hz.1, hz.2, .inr (.inr ⟨rfl, hh a (by simp), hh b (by simp), hh c (by simp)⟩)⟩)
      | false => exact HN.out (fun e => of_decide_eq_false hqq (by unfold OkN at e; simp only [] at e; intro x hx; simp only [List.mem_cons, List.not_mem_nil, or_false] at hx; rcases hx with rfl | rfl | rfl <;> omega)))
    clear HY HN hqq
    have t1 := noC 157 (.agg #[.int .i64 a, .int .i64 b, .int .i64 c]) (by decide)
    have t2 := noV 157 (.agg #[.int .i64 a, .int .i64 b, .int .i64 c]) (by decide)
    have hq := fun W => NodeEq.neq 9 a b c u v 9 a b c 0 0 W
    have dz : ((9 : Int) == 9 && (a : Int) == a && (b : Int) == b && (c : Int) == c && (u == 0 && v == 0)) = true := by simp; try omega
    simp only [dz, Bool.not_true] at hq
    have hme := methK
    have hnil := not_nil
    have hgrd := fun W x y p q r s t o p' q' r' s' t' o' => NodeEq.guard .neq x y #[.int .i64 p, .int .i64 q, .int .i64 r, .int .i64 s, .int .i64 t, .int .i64 o] #[.int .i64 p', .int .i64 q', .int .i64 r', .int .i64 s', .int .i64 t', .int .i64 o'] W
    clear hz dz
    go_enter Try.func109, Try.ntmps109
    go_wp2_with fail
    refine (step_i _ ⟨9, a, b, c, u, v⟩).mono ?_
    rintro e w1 ⟨rfl, hb⟩
    rw [hS]
    clear hS
    obtain ⟨hc, _⟩ := BelowKit.bcell hb
    have c0 : w1.cell? ⟨w.heap.size, 0, none⟩ = some (.int .i64 9) := (hc _ _ (by simp)).trans (by simp [go_sem])
    have c1 : w1.cell? ⟨w.heap.size, 1, none⟩ = some (.int .i64 a) := (hc _ _ (by simp)).trans (by simp [go_sem])
    have c2 : w1.cell? ⟨w.heap.size, 2, none⟩ = some (.int .i64 b) := (hc _ _ (by simp)).trans (by simp [go_sem])
    have c3 : w1.cell? ⟨w.heap.size, 3, none⟩ = some (.int .i64 c) := (hc _ _ (by simp)).trans (by simp [go_sem])
    have c4 : w1.cell? ⟨w.heap.size, 4, none⟩ = some (.int .i64 u) := (hc _ _ (by simp)).trans (by simp [go_sem])
    have c5 : w1.cell? ⟨w.heap.size, 5, none⟩ = some (.int .i64 v) := (hc _ _ (by simp)).trans (by simp [go_sem])
    have z0 : w.heap.size < w1.heap.size := by have := hb.size; simp at this; omega
    have HB := Lib.hid (BelowKit.bl_trans (BelowKit.bl_alloc (Below.refl _ _)) hb)
    clear hc hb
    go_wp2_with fail
    have g0 := Grown.G.keep c0 z0
    have g1 := Grown.G.keep c1 z0
    have g2 := Grown.G.keep c2 z0
    have g3 := Grown.G.keep c3 z0
    have g4 := Grown.G.keep c4 z0
    have g5 := Grown.G.keep c5 z0
    clear c0 c1 c2 c3 c4 c5
    refine Grown.wp_region_grown (by kernel_rfl) (by kernel_rfl) ?_
    repeat (go_big_quiet_step ((go_at_call 166; with_reducible exact nodeG (node_k _ a b c))))
    refine wpQuiet_nil ?_
    rintro w4 ⟨X, rfl⟩
    have HX := Lib.hid (BelowKit.bl_trans HB.out X.bel)
    obtain ⟨W, hW⟩ : ∃ W, X.w = W := ⟨_, rfl⟩
    rw [hW] at HX ⊢
    clear g0 g1 g2 g3 g4 g5 hW HB X hme hq hgrd hnil
    go_wp2_with fail
    refine (ops_k _ a b c).mono ?_
    rintro e w5 ⟨p5, rfl, hr5, hb5⟩
    have HR := Lib.hid hr5
    have HY := Lib.hid (BelowKit.bl_trans HX.out hb5)
    clear hb5 hr5
    simp only [List.length_cons, List.length_nil, Nat.zero_add, Nat.reduceAdd]
    go_wp2_with fail
    refine (before_i _ p5 3 3 [a, b, c] at_ rfl (by omega) HR.out).mono ?_
    rintro e w6 ⟨rfl, hb6⟩
    rw [HQ.out]
    have HZ := Lib.hid (BelowKit.bl_trans HY.out hb6)
    clear hb6
    go_wp2
    go_ret
    rw [E.out]
    exact ⟨rfl, HZ.out⟩
set_option maxHeartbeats 8000000 in
theorem node_none (w : World) (k a b c u v at_ : Int) (h1 : k < 1 ∨ 9 < k) : Calls Try.prog 109 #[.agg #[.int .i64 k, .int .i64 a, .int .i64 b, .int .i64 c, .int .i64 u, .int .i64 v], .int .i64 at_] w (IsBo (okN ⟨k, a, b, c, u, v⟩ at_) w) := by
  have E := Lib.hid (okN_no (n := ⟨k, a, b, c, u, v⟩) (at_ := at_) (by unfold OkN; simp only []; omega))
  rw [E.out]
  have hS : stepV ⟨k, a, b, c, u, v⟩ = .nilIface := by unfold stepV; simp only []; rw [if_neg (by omega), if_neg (by omega), if_neg (by omega), if_neg (by omega)]
  have hisn := is_nil
  clear h1 E
  go_enter Try.func109, Try.ntmps109
  go_wp2_with fail
  refine (step_i _ ⟨k, a, b, c, u, v⟩).mono ?_
  rintro e w1 ⟨rfl, hb⟩
  rw [hS]
  clear hS
  have HB := Lib.hid (BelowKit.bl_trans (BelowKit.bl_alloc (Below.refl _ _)) hb)
  clear hb
  go_wp2_with fail
  refine Grown.wp_region_grown (by kernel_rfl) (by kernel_rfl) ?_
  repeat (go_big_quiet_step (fail))
  refine wpQuiet_nil ?_
  rintro w4 ⟨X, rfl⟩
  have HX := Lib.hid (BelowKit.bl_trans HB.out X.bel)
  go_wp2
  go_ret
  exact ⟨rfl, HX.out⟩
theorem node_i (w : World) (n : El) (at_ : Int) : Calls Try.prog 109 #[fv n, .int .i64 at_] w (IsBo (okN n at_) w) := by
  obtain ⟨k, a, b, c, u, v⟩ := n
  by_cases h1 : k = 1
  · subst h1; exact node_const w a b c u v at_
  by_cases h2 : k = 2
  · subst h2; exact node_var w a b c u v at_
  by_cases h3 : 3 ≤ k ∧ k ≤ 8
  · exact node_pair w k a b c u v at_ h3
  by_cases h9 : k = 9
  · subst h9; exact node_pick w a b c u v at_
  exact node_none w k a b c u v at_ (by omega)
end Go.Proofs.Ytkfgflmhefbinaa.NodeI

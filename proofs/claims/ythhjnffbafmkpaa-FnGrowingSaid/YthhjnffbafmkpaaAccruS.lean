/- Contracts of the model's functions on accrual. Written by gen_accrus.py. -/
import Derived.Test.YthhjnffbafmkpaaRows
import Derived.Test.YthhjnffbafmkpaaAccruMath
import Derived.Test.YthhjnffbafmkpaaFracC
import Derived.Test.YthhjnffbafmkpaaFracSMul
import Derived.Test.YthhjnffbafmkpaaRoundS
import Derived.Deep.DeepCutAuto
import Derived.BigQuiet
namespace Go.Proofs.Ythhjnffbafmkpaa.AccruS
open Go.RowKit Mon AccruMath
open FracMath (red okB mulR newR facB)
open RoundI (flo)
open FracMake (IsFrac)
open FracOps (IsInt)
def IsNo (b : Bool) (w : World) (e : Ending) (w' : World) : Prop := e = .returned (.bool b) ∧ Below w.heap.size w w'
def IsPen (r : Int × Bool) (w : World) (e : Ending) (w' : World) : Prop := e = .returned (.tuple #[.int .i64 r.1, .bool r.2]) ∧ Below w.heap.size w w'
def IsFra (r : Int × Int) (w : World) (e : Ending) (w' : World) : Prop := e = .returned (.agg #[.int .i64 r.1, .int .i64 r.2]) ∧ Below w.heap.size w w'
/-- The box of a design, and that of a fraction. -/
structure Dk (W : World) (A : Nat) (K R C : Int) : Prop where
  c0 : W.cell? ⟨A, 0, none⟩ = some (.int .i64 K)
  c1 : W.cell? ⟨A, 1, none⟩ = some (.int .i64 R)
  c2 : W.cell? ⟨A, 2, none⟩ = some (.int .i64 C)
  lt : A < W.heap.size
theorem Dk.on {W w' : World} {A : Nat} {K R C : Int} (h : Dk W A K R C) (hb : Below W.heap.size W w') : Dk w' A K R C := by
  have h1 := h.lt
  obtain ⟨kc, kf⟩ := BelowKit.bcell hb
  exact ⟨(kc _ 0 h1).trans h.c0, (kc _ 1 h1).trans h.c1, (kc _ 2 h1).trans h.c2, Nat.lt_of_lt_of_le h1 hb.size⟩
theorem Dk.new (w : World) (K R C : Int) (T : TypeId) : Dk (w.alloc (.cells #[.int .i64 K, .int .i64 R, .int .i64 C] T)) w.heap.size K R C :=
  ⟨by simp [go_sem], by simp [go_sem], by simp [go_sem], by simp⟩
structure Fk (W : World) (A : Nat) (n d : Int) : Prop where
  c0 : W.cell? ⟨A, 0, none⟩ = some (.int .i64 n)
  c1 : W.cell? ⟨A, 1, none⟩ = some (.int .i64 d)
  f0 : W.frozen? ⟨A, 0, none⟩ = false
  f1 : W.frozen? ⟨A, 1, none⟩ = false
  lt : A < W.heap.size
theorem Fk.on {W w' : World} {A : Nat} {n d : Int} (h : Fk W A n d) (hb : Below W.heap.size W w') : Fk w' A n d := by
  have h1 := h.lt
  obtain ⟨kc, kf⟩ := BelowKit.bcell hb
  exact ⟨(kc _ 0 h1).trans h.c0, (kc _ 1 h1).trans h.c1, (kf _ 0 h1).trans h.f0, (kf _ 1 h1).trans h.f1, Nat.lt_of_lt_of_le h1 hb.size⟩
theorem Fk.new (w : World) (n d : Int) (T : TypeId) : Fk (w.alloc (.cells #[.int .i64 n, .int .i64 d] T)) w.heap.size n d :=
  ⟨by simp [go_sem], by simp [go_sem], by simp [go_sem], by simp [go_sem], by simp⟩
theorem Fk.put {W : World} {A : Nat} {n d : Int} (h : Fk W A n d) (x y : Int) : Fk ((W.setCell ⟨A, 0, none⟩ (.int .i64 x)).setCell ⟨A, 1, none⟩ (.int .i64 y)) A x y := by
  obtain ⟨c0, c1, f0, f1, hl⟩ := h
  exact ⟨by simp [go_sem, c0], by simp [go_sem, c1], by simp [go_sem, f0], by simp [go_sem, f1], by simpa using hl⟩
theorem set2 {w w' : World} {g : Nat} {u v : Value} (h : Below w.heap.size w w') (hg : w.heap.size ≤ g) : Below w.heap.size w ((w'.setCell ⟨g, 0, none⟩ u).setCell ⟨g, 1, none⟩ v) :=
  BelowKit.bl_set (BelowKit.bl_set h (a := ⟨g, 0, none⟩) _ hg) (a := ⟨g, 1, none⟩) _ hg
theorem one_on {W w' : World} (o : Obj) (hb : Below (W.alloc o).heap.size (W.alloc o) w') : Below W.heap.size W w' := BelowKit.bl_trans (BelowKit.bl_alloc (Below.refl _ _)) hb
set_option maxHeartbeats 1000000 in
theorem design_s (w : World) (K R C : Int) : Calls Try.prog 19 #[.agg #[.int .i64 K, .int .i64 R, .int .i64 C]] w (IsNo (okD K R C) w) := by
  obtain ⟨b, hb⟩ : ∃ b, okD K R C = b := ⟨_, rfl⟩
  have HB := Lib.hid hb
  rw [hb]
  clear hb
  go_enter Try.func19, Try.ntmps19
  go_wp2_with fail
  refine (in_c K 1 4 _).mono ?_
  rintro e w1 ⟨rfl, rfl⟩
  cases h1 : inB K 1 4 with
  | false =>
    have E := Lib.hid (show b = false by rw [← HB.out, okD, h1]; rfl)
    clear h1
    go_wp2
    go_ret
    exact ⟨by rw [E.out]; rfl, by (repeat (first | exact Below.refl _ _ | apply BelowKit.bl_alloc | apply BelowKit.bl_drewN | apply BelowKit.bl_drew | (refine BelowKit.bl_set ?_ _ ?_; rotate_left; (first | omega | (simp; omega) | simp)) | (refine BelowKit.bl_trans ?_ (‹Hid (Below _ _ _)›).out)))⟩
  | true =>
  go_wp2_with fail
  refine (in_c R 1 1000 _).mono ?_
  rintro e w1 ⟨rfl, rfl⟩
  cases h2 : inB R 1 1000 with
  | false =>
    have E := Lib.hid (show b = false by rw [← HB.out, okD, h1, h2]; rfl)
    clear h1 h2
    go_wp2
    go_ret
    exact ⟨by rw [E.out]; rfl, by (repeat (first | exact Below.refl _ _ | apply BelowKit.bl_alloc | apply BelowKit.bl_drewN | apply BelowKit.bl_drew | (refine BelowKit.bl_set ?_ _ ?_; rotate_left; (first | omega | (simp; omega) | simp)) | (refine BelowKit.bl_trans ?_ (‹Hid (Below _ _ _)›).out)))⟩
  | true =>
  by_cases hk : K ≤ 2
  · have E := Lib.hid (show inB C 1 60 = b by rw [← HB.out, okD, h1, h2, if_pos hk]; rfl)
    have dK : decide (K ≤ 2) = true := decide_eq_true hk
    clear h1 h2
    go_wp2_with fail
    refine (in_c C 1 60 _).mono ?_
    rintro e w1 ⟨rfl, rfl⟩
    go_wp2
    go_ret
    exact ⟨by rw [← E.out]; rfl, by (repeat (first | exact Below.refl _ _ | apply BelowKit.bl_alloc | apply BelowKit.bl_drewN | apply BelowKit.bl_drew | (refine BelowKit.bl_set ?_ _ ?_; rotate_left; (first | omega | (simp; omega) | simp)) | (refine BelowKit.bl_trans ?_ (‹Hid (Below _ _ _)›).out)))⟩
  · have dK : decide (K ≤ 2) = false := decide_eq_false hk
    by_cases hc : C = 0
    · have E := Lib.hid (show b = true by rw [← HB.out, okD, h1, h2, if_neg hk, hc]; rfl)
      clear h1 h2
      subst hc
      go_wp2
      go_ret
      exact ⟨by rw [E.out]; rfl, by (repeat (first | exact Below.refl _ _ | apply BelowKit.bl_alloc | apply BelowKit.bl_drewN | apply BelowKit.bl_drew | (refine BelowKit.bl_set ?_ _ ?_; rotate_left; (first | omega | (simp; omega) | simp)) | (refine BelowKit.bl_trans ?_ (‹Hid (Below _ _ _)›).out)))⟩
    · have E := Lib.hid (show b = false by rw [← HB.out, okD, h1, h2, if_neg hk, decide_eq_false hc]; rfl)
      have hc2 : (C == 0) = false := beq_eq_false_iff_ne.2 hc
      clear h1 h2
      go_wp2
      go_ret
      exact ⟨by rw [E.out]; rfl, by (repeat (first | exact Below.refl _ _ | apply BelowKit.bl_alloc | apply BelowKit.bl_drewN | apply BelowKit.bl_drew | (refine BelowKit.bl_set ?_ _ ?_; rotate_left; (first | omega | (simp; omega) | simp)) | (refine BelowKit.bl_trans ?_ (‹Hid (Below _ _ _)›).out)))⟩
set_option maxHeartbeats 1000000 in
theorem units_s (w : World) (c p : Int) : Calls Try.prog 24 #[.int .i64 c, .int .i64 p] w (IsFra (units c p) w) := by
  go_enter Try.func24, Try.ntmps24
  go_upto_region 1 with fail
  generalize hW : w.alloc _ = W
  have HB := Lib.hid (show Below w.heap.size w W by rw [← hW]; (repeat (first | exact Below.refl _ _ | apply BelowKit.bl_alloc | apply BelowKit.bl_drewN | apply BelowKit.bl_drew | (refine BelowKit.bl_set ?_ _ ?_; rotate_left; (first | omega | (simp; omega) | simp)) | (refine BelowKit.bl_trans ?_ (‹Hid (Below _ _ _)›).out))))
  have HZ := Lib.hid (show Fk W w.heap.size 0 0 by rw [← hW]; exact Fk.new ..)
  obtain ⟨z0, z1, g0, g1, zl⟩ := HZ.out
  clear hW
  go_wp2_with fail
  refine (in_c c 0 1000000000 _).mono ?_
  rintro e w1 ⟨rfl, rfl⟩
  cases h1 : inB c 0 1000000000 with
  | false =>
    have E := Lib.hid (units_no (c := c) (p := p) (fun e => by rw [h1] at e; cases e.1))
    clear h1
    go_wp2
    refine bodyPost_ret (v := .agg #[.int .i64 0, .int .i64 0]) (by simp [results, Try.results24, z0, z1, go_sem]) rfl ⟨by rw [E.out], ?_⟩
    exact set2 HB.out (Nat.le_refl _)
  | true =>
  go_wp2_with fail
  refine (in_c p 1 100000 _).mono ?_
  rintro e w1 ⟨rfl, rfl⟩
  cases h2 : inB p 1 100000 with
  | false =>
    have E := Lib.hid (units_no (c := c) (p := p) (fun e => by rw [h2] at e; cases e.2))
    clear h1 h2
    go_wp2
    refine bodyPost_ret (v := .agg #[.int .i64 0, .int .i64 0]) (by simp [results, Try.results24, z0, z1, go_sem]) rfl ⟨by rw [E.out], ?_⟩
    exact set2 HB.out (Nat.le_refl _)
  | true =>
  have E := Lib.hid (units_yes h1 h2)
  clear h1 h2 z0 z1 g0 g1 zl
  go_wp2_with fail
  refine (FracS.new_s c p _).mono ?_
  rintro e w1 ⟨rfl, hb⟩
  have HZ1 := Lib.hid (HZ.out.on hb)
  have HB1 := Lib.hid (BelowKit.bl_trans HB.out hb)
  obtain ⟨⟨x, y, o⟩, hv⟩ : ∃ v, newR c p = v := ⟨_, rfl⟩
  rw [hv] at E ⊢
  simp only [] at E ⊢
  clear hb hv HZ HB
  obtain ⟨z0, z1, g0, g1, zl⟩ := HZ1.out
  have hr := (HZ1.out.put x y).on (BelowKit.bl_alloc (o := .cells #[.int .i64 x, .int .i64 y] 29) (Below.refl _ _))
  go_wp2
  refine bodyPost_ret (v := .agg #[.int .i64 x, .int .i64 y]) (by simp [results, Try.results24, hr.c0, hr.c1, go_sem]) rfl ⟨by rw [E.out], ?_⟩
  exact BelowKit.bl_alloc (set2 HB1.out (Nat.le_refl _))
set_option maxHeartbeats 2000000 in
theorem grow_s (w : World) (K R C b c e : Int) : Calls Try.prog 26 #[.agg #[.int .i64 K, .int .i64 R, .int .i64 C], .int .i64 b, .int .i64 c, .int .i64 e] w (IsInt (grow K R C b c e) w) := by
  obtain ⟨G, hG⟩ : ∃ G, grow K R C b c e = G := ⟨_, rfl⟩
  have HY := Lib.hid (fun h : askG K R C b c e = true => hG.symm.trans (grow_yes h))
  have HN := Lib.hid (fun h : askG K R C b c e = false => hG.symm.trans (grow_no h))
  rw [hG]
  clear hG
  go_enter Try.func26, Try.ntmps26
  go_upto_region 1 with fail
  generalize hW : w.alloc _ = W
  have HB := Lib.hid (show Below w.heap.size w W by rw [← hW]; (repeat (first | exact Below.refl _ _ | apply BelowKit.bl_alloc | apply BelowKit.bl_drewN | apply BelowKit.bl_drew | (refine BelowKit.bl_set ?_ _ ?_; rotate_left; (first | omega | (simp; omega) | simp)) | (refine BelowKit.bl_trans ?_ (‹Hid (Below _ _ _)›).out))))
  have HD := Lib.hid (show Dk W w.heap.size K R C by rw [← hW]; exact Dk.new ..)
  obtain ⟨k0, k1, k2, kl⟩ := HD.out
  clear hW
  go_wp2_with fail
  refine (design_s _ K R C).mono ?_
  rintro e1 w1 ⟨rfl, hb⟩
  have HD1 := Lib.hid (HD.out.on hb)
  have HB1 := Lib.hid (BelowKit.bl_trans HB.out hb)
  clear hb k0 k1 k2 kl HD HB
  obtain ⟨k0, k1, k2, kl⟩ := HD1.out
  cases h0 : okD K R C with
  | false =>
    have E := Lib.hid (HN.out (by rw [askG, h0]; rfl))
    clear h0
    go_wp2
    go_ret
    exact ⟨by rw [E.out]; rfl, HB1.out⟩
  | true =>
  by_cases hk : K = 4
  rotate_left
  · have E := Lib.hid (HN.out (by rw [askG, h0, decide_eq_false hk]; rfl))
    have dK : (K == 4) = false := beq_eq_false_iff_ne.2 hk
    clear h0
    go_wp2
    go_ret
    exact ⟨by rw [E.out]; rfl, HB1.out⟩
  subst hk
  go_wp2_with fail
  refine (in_c b 0 1000000000 _).mono ?_
  rintro e1 w2 ⟨rfl, rfl⟩
  cases h1 : inB b 0 1000000000 with
  | false =>
    have E := Lib.hid (HN.out (by simp [askG, h0, h1]))
    clear h0 h1
    go_wp2
    go_ret
    exact ⟨by rw [E.out]; rfl, HB1.out⟩
  | true =>
  go_wp2_with fail
  refine (in_c c 0 1000000000 _).mono ?_
  rintro e1 w2 ⟨rfl, rfl⟩
  cases h2 : inB c 0 1000000000 with
  | false =>
    have E := Lib.hid (HN.out (by simp [askG, h0, h1, h2]))
    clear h0 h1 h2
    go_wp2
    go_ret
    exact ⟨by rw [E.out]; rfl, HB1.out⟩
  | true =>
  go_wp2_with fail
  refine (in_c e (-10000) 10000 _).mono ?_
  rintro e1 w2 ⟨rfl, rfl⟩
  cases h3 : inB e (-10000) 10000 with
  | false =>
    have E := Lib.hid (HN.out (by simp [askG, h0, h1, h2, h3]))
    clear h0 h1 h2 h3
    go_wp2
    go_ret
    exact ⟨by rw [E.out]; rfl, HB1.out⟩
  | true =>
  have E := HY.out (by simp [askG, h0, h1, h2, h3])
  have q0 := (okD_of h0).2.1
  have q1 := inB_of h1
  have q2 := inB_of h2
  have q3 := inB_of h3
  clear h0 h1 h2 h3
  have hm : 1 ≤ max e R ∧ max e R ≤ 10000 := by omega
  obtain ⟨M, hM⟩ : ∃ M, max e R = M := ⟨_, rfl⟩
  rw [hM] at E hm
  have p0 : 0 ≤ b * M := Int.mul_nonneg q1.1 (by omega)
  have p1 : b * M ≤ 1000000000 * 10000 := Int.mul_le_mul q1.2 hm.2 (by omega) (by omega)
  obtain ⟨x, hx⟩ : ∃ x, b * M = x := ⟨_, rfl⟩
  have W1 : IntKind.i64.wrap (b * M) = x := by rw [hx] at p0 p1 ⊢; exact IntWalk.i64_in _ (by omega)
  rw [hx] at E p0 p1
  rw [Int.tdiv_eq_ediv_of_nonneg p0] at E
  obtain ⟨y, hy⟩ : ∃ y, x / 10000 = y := ⟨_, rfl⟩
  have W2 : IntKind.i64.wrap (x.tdiv 10000) = y := by rw [Int.tdiv_eq_ediv_of_nonneg p0, hy]; exact IntWalk.i64_in _ (by omega)
  rw [hy] at E
  have W3 : IntKind.i64.wrap (b + y) = b + y := IntWalk.i64_in _ (by omega)
  have W4 : IntKind.i64.wrap (b + y + c) = b + y + c := IntWalk.i64_in _ (by omega)
  have E := Lib.hid E
  by_cases he : e < R
  · obtain rfl : R = M := by omega
    clear hx hy p0 p1 q0 q1 q2 q3 hM hm
    go_wp2
    go_ret
    exact ⟨by rw [E.out]; rfl, HB1.out⟩
  · obtain rfl : e = M := by omega
    clear hx hy p0 p1 q0 q1 q2 q3 hM hm
    go_wp2
    go_ret
    exact ⟨by rw [E.out]; rfl, HB1.out⟩
set_option maxHeartbeats 2000000 in
theorem pen_s (w : World) (K R C n d : Int) : Calls Try.prog 25 #[.agg #[.int .i64 K, .int .i64 R, .int .i64 C], .agg #[.int .i64 n, .int .i64 d]] w (IsPen (upen K R C n d) w) := by
  obtain ⟨G, hG⟩ : ∃ G, upen K R C n d = G := ⟨_, rfl⟩
  have HY := Lib.hid (fun h : askU K R C n d = true => hG.symm.trans (upen_yes h))
  have HN := Lib.hid (fun h : askU K R C n d = false => hG.symm.trans (upen_no h))
  rw [hG]
  clear hG
  go_enter Try.func25, Try.ntmps25
  go_upto_region 1 with fail
  generalize hW : (w.alloc _).alloc _ = W
  have HB := Lib.hid (show Below w.heap.size w W by rw [← hW]; (repeat (first | exact Below.refl _ _ | apply BelowKit.bl_alloc | apply BelowKit.bl_drewN | apply BelowKit.bl_drew | (refine BelowKit.bl_set ?_ _ ?_; rotate_left; (first | omega | (simp; omega) | simp)) | (refine BelowKit.bl_trans ?_ (‹Hid (Below _ _ _)›).out))))
  have HD := Lib.hid (show Dk W w.heap.size K R C by rw [← hW]; exact (Dk.new ..).on (BelowKit.bl_alloc (Below.refl _ _)))
  have HF := Lib.hid (show Fk W (w.heap.size + 1) n d by rw [← hW]; simpa using Fk.new (w.alloc _) n d _)
  obtain ⟨k0, k1, k2, kl⟩ := HD.out
  clear hW
  go_wp2_with fail
  refine (design_s _ K R C).mono ?_
  rintro e1 w1 ⟨rfl, hb⟩
  have HD1 := Lib.hid (HD.out.on hb)
  have HF1 := Lib.hid (HF.out.on hb)
  have HB1 := Lib.hid (BelowKit.bl_trans HB.out hb)
  clear hb k0 k1 k2 kl HD HB HF
  obtain ⟨k0, k1, k2, kl⟩ := HD1.out
  obtain ⟨n0, n1, _, _, nl⟩ := HF1.out
  cases h0 : okD K R C with
  | false =>
    have E := Lib.hid (HN.out (by rw [askU, h0]; rfl))
    clear h0
    go_wp2
    refine bodyPost_ret (v := .tuple #[.int .i64 0, .bool false]) (by simp [results, Try.results25]) rfl ⟨by rw [E.out], HB1.out⟩
  | true =>
  by_cases hk : K = 3
  rotate_left
  · have E := Lib.hid (HN.out (by rw [askU, h0, decide_eq_false hk]; rfl))
    have dK : (K == 3) = false := beq_eq_false_iff_ne.2 hk
    clear h0
    go_wp2
    refine bodyPost_ret (v := .tuple #[.int .i64 0, .bool false]) (by simp [results, Try.results25]) rfl ⟨by rw [E.out], HB1.out⟩
  subst hk
  go_wp2_with fail
  refine (FracValid.ok_s n d _).mono ?_
  rintro e1 w2 ⟨rfl, hb⟩
  have HD2 := Lib.hid (HD1.out.on hb)
  have HF2 := Lib.hid (HF1.out.on hb)
  have HB2 := Lib.hid (BelowKit.bl_trans HB1.out hb)
  clear hb k0 k1 k2 kl n0 n1 nl HD1 HB1 HF1
  obtain ⟨k0, k1, k2, kl⟩ := HD2.out
  obtain ⟨n0, n1, _, _, nl⟩ := HF2.out
  cases h1 : okB n d with
  | false =>
    have E := Lib.hid (HN.out (by simp [askU, h0, h1]))
    clear h0 h1
    go_wp2
    refine bodyPost_ret (v := .tuple #[.int .i64 0, .bool false]) (by simp [results, Try.results25]) rfl ⟨by rw [E.out], HB2.out⟩
  | true =>
  by_cases h2 : 0 ≤ n
  rotate_left
  · have E := Lib.hid (HN.out (by simp [askU, h0, h1]; omega))
    have dn : decide (n < 0) = true := decide_eq_true (by omega)
    clear h0 h1
    go_wp2
    refine bodyPost_ret (v := .tuple #[.int .i64 0, .bool false]) (by simp [results, Try.results25]) rfl ⟨by rw [E.out], HB2.out⟩
  have E := HY.out (by simp [askU, h0, h1, h2])
  have dn : decide (n < 0) = false := decide_eq_false (by omega)
  clear h0 h1
  go_wp2_with fail
  refine (FracSMul.mul_s n d R 1 _).mono ?_
  rintro e1 w3 ⟨rfl, hb⟩
  obtain ⟨⟨x, y, o⟩, hv⟩ : ∃ v, mulR n d R 1 = v := ⟨_, rfl⟩
  rw [hv] at E ⊢
  simp only [] at E ⊢
  have HB3 := Lib.hid (BelowKit.bl_trans HB2.out hb)
  have E := Lib.hid E
  clear hb hv k0 k1 k2 kl n0 n1 nl HD2 HF2 HB2
  go_wp2_with fail
  refine (RoundS.floorfrac_s x y _).mono ?_
  rintro e1 w4 ⟨rfl, hb⟩
  have HB4 := Lib.hid (BelowKit.bl_trans HB3.out (one_on _ hb))
  clear hb
  go_wp2
  refine bodyPost_ret (v := .tuple #[.int .i64 (flo x y), .bool o]) (by simp [results, Try.results25]) rfl ⟨by rw [E.out], HB4.out⟩
set_option maxHeartbeats 4000000 in
theorem accr_s (w : World) (K R C s n d : Int) : Calls Try.prog 21 #[.agg #[.int .i64 K, .int .i64 R, .int .i64 C], .int .i64 s, .agg #[.int .i64 n, .int .i64 d]] w (IsFrac (accr K R C s n d) w) := by
  obtain ⟨G, hG⟩ : ∃ G, accr K R C s n d = G := ⟨_, rfl⟩
  have HY := Lib.hid (fun h : askA K R C s n d = true => hG.symm.trans (accr_yes h))
  have HN := Lib.hid (fun h : askA K R C s n d = false => hG.symm.trans (accr_no h))
  rw [hG]
  clear hG
  go_enter Try.func21, Try.ntmps21
  go_upto_region 1 with fail
  generalize hW : ((w.alloc _).alloc _).alloc _ = W
  have HB := Lib.hid (show Below w.heap.size w W by rw [← hW]; (repeat (first | exact Below.refl _ _ | apply BelowKit.bl_alloc | apply BelowKit.bl_drewN | apply BelowKit.bl_drew | (refine BelowKit.bl_set ?_ _ ?_; rotate_left; (first | omega | (simp; omega) | simp)) | (refine BelowKit.bl_trans ?_ (‹Hid (Below _ _ _)›).out))))
  have HD := Lib.hid (show Dk W w.heap.size K R C by rw [← hW]; exact ((Dk.new ..).on (BelowKit.bl_alloc (Below.refl _ _))).on (BelowKit.bl_alloc (Below.refl _ _)))
  have HF := Lib.hid (show Fk W (w.heap.size + 1) n d by rw [← hW]; exact (show Fk _ (w.heap.size + 1) n d by simpa using Fk.new (w.alloc _) n d _).on (BelowKit.bl_alloc (Below.refl _ _)))
  have HZ := Lib.hid (show Fk W (w.heap.size + 1 + 1) 0 0 by rw [← hW]; simpa using Fk.new ((w.alloc _).alloc _) 0 0 _)
  obtain ⟨k0, k1, k2, kl⟩ := HD.out
  obtain ⟨n0, n1, _, _, nl⟩ := HF.out
  obtain ⟨z0, z1, g0, g1, zl⟩ := HZ.out
  clear hW
  go_wp2_with fail
  refine (design_s _ K R C).mono ?_
  rintro e1 w1 ⟨rfl, hb⟩
  have HD1 := Lib.hid (HD.out.on hb)
  have HF1 := Lib.hid (HF.out.on hb)
  have HZ1 := Lib.hid (HZ.out.on hb)
  have HB1 := Lib.hid (BelowKit.bl_trans HB.out hb)
  clear hb k0 k1 k2 kl n0 n1 nl z0 z1 g0 g1 zl HD HB HF HZ
  obtain ⟨k0, k1, k2, kl⟩ := HD1.out
  obtain ⟨n0, n1, _, _, nl⟩ := HF1.out
  obtain ⟨z0, z1, g0, g1, zl⟩ := HZ1.out
  cases h0 : okD K R C with
  | false =>
    have E := Lib.hid (HN.out (by rw [askA, h0]; rfl))
    clear h0
    go_wp2
    refine bodyPost_ret (v := .tuple #[.agg #[.int .i64 0, .int .i64 0], .bool false]) (by simp [results, Try.results21, z0, z1, go_sem]) rfl ⟨by rw [E.out], ?_⟩
    exact set2 HB1.out (by omega)
  | true =>
  by_cases hk : K ≤ 2
  rotate_left
  · have E := Lib.hid (HN.out (by rw [askA, h0, decide_eq_false hk]; rfl))
    have dK : decide (2 < K) = true := decide_eq_true (by omega)
    clear h0
    go_wp2
    refine bodyPost_ret (v := .tuple #[.agg #[.int .i64 0, .int .i64 0], .bool false]) (by simp [results, Try.results21, z0, z1, go_sem]) rfl ⟨by rw [E.out], ?_⟩
    exact set2 HB1.out (by omega)
  have dK : decide (2 < K) = false := decide_eq_false (by omega)
  have HKD := Lib.hid (okD_of h0)
  go_wp2_with fail
  refine (in_c s 0 72000 _).mono ?_
  rintro e1 w2 ⟨rfl, rfl⟩
  cases h1 : inB s 0 72000 with
  | false =>
    have E := Lib.hid (HN.out (by simp [askA, h0, h1]))
    clear h0 h1
    go_wp2
    refine bodyPost_ret (v := .tuple #[.agg #[.int .i64 0, .int .i64 0], .bool false]) (by simp [results, Try.results21, z0, z1, go_sem]) rfl ⟨by rw [E.out], ?_⟩
    exact set2 HB1.out (by omega)
  | true =>
  go_wp2_with fail
  refine (FracValid.ok_s n d _).mono ?_
  rintro e1 w2 ⟨rfl, hb⟩
  have HD2 := Lib.hid (HD1.out.on hb)
  have HF2 := Lib.hid (HF1.out.on hb)
  have HZ2 := Lib.hid (HZ1.out.on hb)
  have HB2 := Lib.hid (BelowKit.bl_trans HB1.out hb)
  clear hb k0 k1 k2 kl n0 n1 nl z0 z1 g0 g1 zl HD1 HB1 HF1 HZ1
  obtain ⟨k0, k1, k2, kl⟩ := HD2.out
  obtain ⟨n0, n1, _, _, nl⟩ := HF2.out
  obtain ⟨z0, z1, g0, g1, zl⟩ := HZ2.out
  cases h2 : okB n d with
  | false =>
    have E := Lib.hid (HN.out (by simp [askA, h0, h1, h2]))
    clear h0 h1 h2
    go_wp2
    refine bodyPost_ret (v := .tuple #[.agg #[.int .i64 0, .int .i64 0], .bool false]) (by simp [results, Try.results21, z0, z1, go_sem]) rfl ⟨by rw [E.out], ?_⟩
    exact set2 HB2.out (by omega)
  | true =>
  by_cases h3 : 0 ≤ n
  rotate_left
  · have E := Lib.hid (HN.out (by simp [askA, h0, h1, h2]; omega))
    have dn : decide (n < 0) = true := decide_eq_true (by omega)
    clear h0 h1 h2
    go_wp2
    refine bodyPost_ret (v := .tuple #[.agg #[.int .i64 0, .int .i64 0], .bool false]) (by simp [results, Try.results21, z0, z1, go_sem]) rfl ⟨by rw [E.out], ?_⟩
    exact set2 HB2.out (by omega)
  have E := HY.out (by simp [askA, h0, h1, h2, h3, hk])
  have dn : decide (n < 0) = false := decide_eq_false (by omega)
  have HS := Lib.hid (inB_of h1)
  have s0 := (inB_of h1).1
  have s1 := (inB_of h1).2
  have q1 := HKD.out.2.2.1 hk
  clear h0 h1 h2
  obtain ⟨⟨ra, rb, ro⟩, hr⟩ : ∃ v, newR R 10000 = v := ⟨_, rfl⟩
  obtain ⟨m, hm⟩ : ∃ m, min s (C * 1200) = m := ⟨_, rfl⟩
  obtain ⟨⟨ya, yb, yo⟩, hy⟩ : ∃ v, newR m 1200 = v := ⟨_, rfl⟩
  obtain ⟨⟨xa, xb, xo⟩, hx⟩ : ∃ v, mulR n d ra rb = v := ⟨_, rfl⟩
  obtain ⟨⟨pa, pb, po⟩, hp⟩ : ∃ v, mulR xa xb ya yb = v := ⟨_, rfl⟩
  have E1 := Lib.hid (show G = if xo = true then (pa, pb, po) else (0, 0, false) by rw [E]; simp only [prods, rte, yrs, hm, hr, hy, hx, hp])
  have HRR := Lib.hid hr
  have HYY := Lib.hid hy
  have HXX := Lib.hid hx
  have HPP := Lib.hid hp
  have W1 : IntKind.i64.wrap (C * 1200) = C * 1200 := IntWalk.i64_in _ (by omega)
  have hcase : (s ≤ C * 1200 ∧ m = s) ∨ (¬ s ≤ C * 1200 ∧ m = C * 1200) := by omega
  clear E hr hm hy hx hp
  go_wp2_with fail
  refine (FracS.new_s R 10000 _).mono ?_
  rintro e1 w3 ⟨rfl, hb⟩
  rw [HRR.out]
  have HD3 := Lib.hid (HD2.out.on hb)
  have HF3 := Lib.hid (HF2.out.on hb)
  have HZ3 := Lib.hid (HZ2.out.on hb)
  have HB3 := Lib.hid (BelowKit.bl_trans HB2.out hb)
  clear hb k0 k1 k2 kl n0 n1 nl z0 z1 g0 g1 zl HD2 HB2 HF2 HZ2
  obtain ⟨k0, k1, k2, kl⟩ := HD3.out
  obtain ⟨n0, n1, _, _, nl⟩ := HF3.out
  obtain ⟨z0, z1, g0, g1, zl⟩ := HZ3.out
  have HR3 := Lib.hid (Fk.new w3 ra rb 29)
  rcases hcase with ⟨hs9, rfl⟩ | ⟨hs9, rfl⟩
  all_goals
    go_wp2_with fail
    refine (FracS.new_s _ 1200 _).mono ?_
    rintro e1 w4 ⟨rfl, hb⟩
    rw [HYY.out]
    have hb' := one_on _ hb
    have HF4 := Lib.hid (HF3.out.on hb')
    have HZ4 := Lib.hid (HZ3.out.on hb')
    have HR4 := Lib.hid (HR3.out.on hb)
    have HB4 := Lib.hid (BelowKit.bl_trans HB3.out hb')
    have HY4 := Lib.hid (Fk.new w4 ya yb 29)
    clear hb hb' k0 k1 k2 kl n0 n1 nl z0 z1 g0 g1 zl HD3 HF3 HZ3 HR3 HB3 W1
    obtain ⟨n0, n1, _, _, nl⟩ := HF4.out
    obtain ⟨r0, r1, _, _, rl⟩ := HR4.out
    go_wp2_with fail
    refine (FracSMul.mul_s n d ra rb _).mono ?_
    rintro e1 w5 ⟨rfl, hb⟩
    rw [HXX.out]
    have hb' := one_on _ hb
    have HZ5 := Lib.hid (HZ4.out.on hb')
    have HY5 := Lib.hid (HY4.out.on hb)
    have HB5 := Lib.hid (BelowKit.bl_trans HB4.out hb')
    have HX5 := Lib.hid (Fk.new w5 xa xb 29)
    clear hb hb' n0 n1 nl r0 r1 rl HF4 HZ4 HR4 HB4 HY4
    obtain ⟨z0, z1, g0, g1, zl⟩ := HZ5.out
    cases xo with
    | false =>
      have E := Lib.hid (show G = (0, 0, false) from E1.out)
      have hr := (HZ5.out.put 0 0).on (BelowKit.bl_alloc (o := .cells #[.int .i64 xa, .int .i64 xb] 29) (Below.refl _ _))
      go_wp2
      refine bodyPost_ret (v := .tuple #[.agg #[.int .i64 0, .int .i64 0], .bool false]) (by simp [results, Try.results21, hr.c0, hr.c1, go_sem]) rfl ⟨by rw [E.out], ?_⟩
      exact BelowKit.bl_alloc (set2 HB5.out (by omega))
    | true =>
      have E := Lib.hid (show G = (pa, pb, po) from E1.out)
      obtain ⟨y0, y1, _, _, yl⟩ := HY5.out
      go_wp2_with fail
      refine (FracSMul.mul_s xa xb ya yb _).mono ?_
      rintro e1 w6 ⟨rfl, hb⟩
      rw [HPP.out]
      have hb' := one_on _ hb
      have HZ6 := Lib.hid (HZ5.out.on hb')
      have HB6 := Lib.hid (BelowKit.bl_trans HB5.out hb')
      clear hb hb' z0 z1 g0 g1 zl y0 y1 yl HZ5 HB5 HY5
      obtain ⟨z0, z1, g0, g1, zl⟩ := HZ6.out
      go_wp2
      refine bodyPost_ret (v := .tuple #[.agg #[.int .i64 pa, .int .i64 pb], .bool po]) (by simp [results, Try.results21, z0, z1, go_sem]) rfl ⟨by rw [E.out], ?_⟩
      exact set2 HB6.out (by omega)
end Go.Proofs.Ythhjnffbafmkpaa.AccruS

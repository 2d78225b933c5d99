/- Contracts of the program's functions on accrual: a design as one of three types behind an interface. Written by gen_accrui.py. -/
import Derived.Test.YthhjnffbafmkpaaRows
import Derived.Test.YthhjnffbafmkpaaAccruMath
import Derived.Test.YthhjnffbafmkpaaAccruS
import Derived.Test.YthhjnffbafmkpaaFracI
import Derived.Test.YthhjnffbafmkpaaRoundC
import Derived.Test.YthhjnffbafmkpaaClamp
import Derived.Test.YthhjnffbafmkpaaKit
import Derived.Test.YthhjnffbafmkpaaDesEq
import Derived.Deep.DeepCutAuto
import Derived.BigQuiet
namespace Go.Proofs.Ythhjnffbafmkpaa.AccruI
open Go.RowKit Mon AccruMath AccruS Clamp
open FracMath (red okB mulR newR facB)
open RoundI (flo)
open FracMake (IsFrac)
open FracOps (IsInt)
def IsB (b : Bool) (w : World) (e : Ending) (w' : World) : Prop := e = .returned (.bool b) ∧ w = w'
def IsV (v : Value) (w : World) (e : Ending) (w' : World) : Prop := e = .returned v ∧ Below w.heap.size w w'
theorem upto_i (x hi : Int) (w : World) : Calls Try.prog 30 #[.int .i64 x, .int .i64 hi] w (IsB (inB x 0 hi) w) := by
  by_cases h1 : 0 ≤ x
  · by_cases h2 : x ≤ hi
    · rw [inB_yes h1 h2]
      go_enter Try.func30, Try.ntmps30
      go_wp2
      go_ret
      exact ⟨rfl, rfl⟩
    · rw [inB_hi h2]
      go_enter Try.func30, Try.ntmps30
      go_wp2
      go_ret
      exact ⟨rfl, rfl⟩
  · rw [inB_lo h1]
    go_enter Try.func30, Try.ntmps30
    go_wp2
    go_ret
    exact ⟨rfl, rfl⟩
abbrev vS (K R C : Int) : Value := .iface 52 (.agg #[.int .i64 K, .int .i64 R, .int .i64 C])
abbrev vU (R : Int) : Value := .iface 66 (.agg #[.int .i64 R])
abbrev vA (R : Int) : Value := .iface 61 (.agg #[.int .i64 R])
def desV (K R C : Int) : Value := .agg #[.int .i64 K, .int .i64 R, .int .i64 C]
/-- The design as one of the three types; and only where it is valid. -/
def nearV (K R C : Int) : Value := if K = 1 ∨ K = 2 then vS K (clampN R 1 1000) (clampN C 1 60) else if K = 3 then vU (clampN R 1 1000) else if K = 4 then vA (clampN R 1 1000) else .nilIface
def schV (K R C : Int) : Value := if okD K R C = true then (if K ≤ 2 then vS K R C else if K = 3 then vU R else vA R) else .nilIface
theorem clamp_same {n lo hi : Int} (h : lo ≤ hi) : (n == clampN n lo hi) = inB n lo hi := by
  by_cases h1 : lo ≤ n
  · by_cases h2 : n ≤ hi
    · rw [inB_yes h1 h2, clampN, if_neg (by omega), if_neg (by omega)]; simp
    · rw [inB_hi h2, clampN, if_neg (by omega), if_pos (by omega)]; exact beq_eq_false_iff_ne.2 (by omega)
  · rw [inB_lo h1, clampN, if_pos (by omega)]; exact beq_eq_false_iff_ne.2 (by omega)
theorem clamp_in {n lo hi : Int} (h : inB n lo hi = true) : clampN n lo hi = n := by
  have := inB_of h
  rw [clampN, if_neg (by omega), if_neg (by omega)]
theorem clamp_is {n lo hi v : Int} (w : World) (h : clampN n lo hi = v) : Calls Try.prog 52 #[.int .i64 n, .int .i64 lo, .int .i64 hi] w fun e w' => e = .returned (.int .i64 v) ∧ w = w' := by
  subst h
  exact implClamp n lo hi w
theorem clamp_bd (n : Int) {lo hi : Int} (h : lo ≤ hi) : lo ≤ clampN n lo hi ∧ clampN n lo hi ≤ hi := by
  unfold clampN
  split
  · omega
  · split <;> omega
theorem no_nil (W : World) (t : TypeId) (v : Value) : (binOp .eql 55 (.iface t v) .nilIface).run Try.prog W = .ok (.bool false) W := by kernel_rfl
theorem nil_nil (W : World) : (binOp .eql 55 .nilIface .nilIface).run Try.prog W = .ok (.bool true) W := by kernel_rfl
theorem ne_nil (W : World) (t : TypeId) (v : Value) : (binOp .neq 55 (.iface t v) .nilIface).run Try.prog W = .ok (.bool true) W := by kernel_rfl
theorem nil_ne (W : World) : (binOp .neq 55 .nilIface .nilIface).run Try.prog W = .ok (.bool false) W := by kernel_rfl
theorem methS (d : Nat) (K R C : Int) (W : World) : (method (d + 1) 52 (.agg #[.int .i64 K, .int .i64 R, .int .i64 C]) "loop.example/g00980/impl.design").run Try.prog W = .ok (77, .agg #[.int .i64 K, .int .i64 R, .int .i64 C]) W := by kernel_rfl
theorem methU (d : Nat) (R : Int) (W : World) : (method (d + 1) 66 (.agg #[.int .i64 R]) "loop.example/g00980/impl.design").run Try.prog W = .ok (79, .agg #[.int .i64 R]) W := by kernel_rfl
theorem methA (d : Nat) (R : Int) (W : World) : (method (d + 1) 61 (.agg #[.int .i64 R]) "loop.example/g00980/impl.design").run Try.prog W = .ok (78, .agg #[.int .i64 R]) W := by kernel_rfl
/-! Type assertions: 'x, ok := s.(T)'. -/
theorem is_yes (t : TypeId) (v : Value) (h : t = 52 ∨ t = 66 ∨ t = 61) (w : World) : (Instr.typeAssert (.iface t v) 55 t true).run Try.prog w = .ok (.tuple #[v, .bool true]) w := by
  rcases h with rfl | rfl | rfl <;> kernel_rfl
theorem zS (w : World) : (do pure (Value.tuple #[← zeroValue 52, .bool false]) : Sem Value).run Try.prog w = .ok (.tuple #[.agg #[.int .i64 0, .int .i64 0, .int .i64 0], .bool false]) w := by kernel_rfl
theorem noS (t : TypeId) (v : Value) (h : t ≠ 52) (w : World) : (Instr.typeAssert (.iface t v) 55 52 true).run Try.prog w = .ok (.tuple #[.agg #[.int .i64 0, .int .i64 0, .int .i64 0], .bool false]) w := by
  have e : (Instr.typeAssert (.iface t v) 55 52 true).run Try.prog w = (if t = 52 then (pure (Value.tuple #[v, .bool true]) : Sem Value) else (do pure (Value.tuple #[← zeroValue 52, .bool false]))).run Try.prog w := by kernel_rfl
  rw [e, if_neg h, zS]
theorem nilS (w : World) : (Instr.typeAssert .nilIface 55 52 true).run Try.prog w = .ok (.tuple #[.agg #[.int .i64 0, .int .i64 0, .int .i64 0], .bool false]) w := by kernel_rfl
theorem zU (w : World) : (do pure (Value.tuple #[← zeroValue 66, .bool false]) : Sem Value).run Try.prog w = .ok (.tuple #[.agg #[.int .i64 0], .bool false]) w := by kernel_rfl
theorem noU (t : TypeId) (v : Value) (h : t ≠ 66) (w : World) : (Instr.typeAssert (.iface t v) 55 66 true).run Try.prog w = .ok (.tuple #[.agg #[.int .i64 0], .bool false]) w := by
  have e : (Instr.typeAssert (.iface t v) 55 66 true).run Try.prog w = (if t = 66 then (pure (Value.tuple #[v, .bool true]) : Sem Value) else (do pure (Value.tuple #[← zeroValue 66, .bool false]))).run Try.prog w := by kernel_rfl
  rw [e, if_neg h, zU]
theorem nilU (w : World) : (Instr.typeAssert .nilIface 55 66 true).run Try.prog w = .ok (.tuple #[.agg #[.int .i64 0], .bool false]) w := by kernel_rfl
theorem zA (w : World) : (do pure (Value.tuple #[← zeroValue 61, .bool false]) : Sem Value).run Try.prog w = .ok (.tuple #[.agg #[.int .i64 0], .bool false]) w := by kernel_rfl
theorem noA (t : TypeId) (v : Value) (h : t ≠ 61) (w : World) : (Instr.typeAssert (.iface t v) 55 61 true).run Try.prog w = .ok (.tuple #[.agg #[.int .i64 0], .bool false]) w := by
  have e : (Instr.typeAssert (.iface t v) 55 61 true).run Try.prog w = (if t = 61 then (pure (Value.tuple #[v, .bool true]) : Sem Value) else (do pure (Value.tuple #[← zeroValue 61, .bool false]))).run Try.prog w := by kernel_rfl
  rw [e, if_neg h, zA]
theorem nilA (w : World) : (Instr.typeAssert .nilIface 55 61 true).run Try.prog w = .ok (.tuple #[.agg #[.int .i64 0], .bool false]) w := by kernel_rfl

theorem des_s (w : World) (K R C : Int) : Calls Try.prog 77 #[.agg #[.int .i64 K, .int .i64 R, .int .i64 C]] w (IsV (.agg #[.int .i64 K, .int .i64 R, .int .i64 C]) w) := by
  go_enter Try.func77, Try.ntmps77
  go_wp2
  refine bodyPost_ret (v := .agg #[.int .i64 K, .int .i64 R, .int .i64 C]) (by simp [results, Try.results77, go_sem]) rfl ⟨rfl, ?_⟩
  (repeat (first | exact Below.refl _ _ | apply BelowKit.bl_alloc | apply BelowKit.bl_drewN | apply BelowKit.bl_drew | (refine BelowKit.bl_set ?_ _ ?_; rotate_left; (first | omega | (simp; omega) | simp)) | (refine BelowKit.bl_trans ?_ (‹Hid (Below _ _ _)›).out)))
theorem des_u (w : World) (R : Int) : Calls Try.prog 79 #[.agg #[.int .i64 R]] w (IsV (.agg #[.int .i64 3, .int .i64 R, .int .i64 0]) w) := by
  go_enter Try.func79, Try.ntmps79
  go_wp2
  refine bodyPost_ret (v := .agg #[.int .i64 3, .int .i64 R, .int .i64 0]) (by simp [results, Try.results79, go_sem]) rfl ⟨rfl, ?_⟩
  (repeat (first | exact Below.refl _ _ | apply BelowKit.bl_alloc | apply BelowKit.bl_drewN | apply BelowKit.bl_drew | (refine BelowKit.bl_set ?_ _ ?_; rotate_left; (first | omega | (simp; omega) | simp)) | (refine BelowKit.bl_trans ?_ (‹Hid (Below _ _ _)›).out)))
theorem des_a (w : World) (R : Int) : Calls Try.prog 78 #[.agg #[.int .i64 R]] w (IsV (.agg #[.int .i64 4, .int .i64 R, .int .i64 0]) w) := by
  go_enter Try.func78, Try.ntmps78
  go_wp2
  refine bodyPost_ret (v := .agg #[.int .i64 4, .int .i64 R, .int .i64 0]) (by simp [results, Try.results78, go_sem]) rfl ⟨rfl, ?_⟩
  (repeat (first | exact Below.refl _ _ | apply BelowKit.bl_alloc | apply BelowKit.bl_drewN | apply BelowKit.bl_drew | (refine BelowKit.bl_set ?_ _ ?_; rotate_left; (first | omega | (simp; omega) | simp)) | (refine BelowKit.bl_trans ?_ (‹Hid (Below _ _ _)›).out)))
set_option maxHeartbeats 2000000 in
theorem near_i (w : World) (K R C : Int) : Calls Try.prog 44 #[.agg #[.int .i64 K, .int .i64 R, .int .i64 C]] w (IsV (nearV K R C) w) := by
  obtain ⟨r, hr⟩ : ∃ r, clampN R 1 1000 = r := ⟨_, rfl⟩
  obtain ⟨c, hc⟩ : ∃ c, clampN C 1 60 = c := ⟨_, rfl⟩
  obtain ⟨V, hV⟩ : ∃ V, nearV K R C = V := ⟨_, rfl⟩
  have HV := Lib.hid (show V = (if K = 1 ∨ K = 2 then vS K r c else if K = 3 then vU r else if K = 4 then vA r else .nilIface) by rw [← hV, nearV, hr, hc])
  have HR := Lib.hid hr
  have HC := Lib.hid hc
  rw [hV]
  clear hV hr hc
  go_enter Try.func44, Try.ntmps44
  go_upto_region 1 with fail
  generalize hW : w.alloc _ = W
  have HB := Lib.hid (show Below w.heap.size w W by rw [← hW]; (repeat (first | exact Below.refl _ _ | apply BelowKit.bl_alloc | apply BelowKit.bl_drewN | apply BelowKit.bl_drew | (refine BelowKit.bl_set ?_ _ ?_; rotate_left; (first | omega | (simp; omega) | simp)) | (refine BelowKit.bl_trans ?_ (‹Hid (Below _ _ _)›).out))))
  have HD := Lib.hid (show Dk W w.heap.size K R C by rw [← hW]; exact Dk.new ..)
  obtain ⟨k0, k1, k2, kl⟩ := HD.out
  clear hW
  go_wp2_with fail
  refine (implClamp R 1 1000 _).mono ?_
  rintro e w1 ⟨rfl, rfl⟩
  rw [HR.out]
  by_cases h1 : K = 1
  · subst h1
    have E : Hid (V = vS 1 r c) := Lib.hid (by rw [HV.out]; rfl)
    clear HV
    go_wp2
    go_quiet ((go_at_call 52; with_reducible exact Quiet.left (clamp_is _ HC.out)))
    go_wp2
    go_ret
    exact ⟨by rw [E.out]; rfl, by (repeat (first | exact Below.refl _ _ | apply BelowKit.bl_alloc | apply BelowKit.bl_drewN | apply BelowKit.bl_drew | (refine BelowKit.bl_set ?_ _ ?_; rotate_left; (first | omega | (simp; omega) | simp)) | (refine BelowKit.bl_trans ?_ (‹Hid (Below _ _ _)›).out)))⟩
  by_cases h2 : K = 2
  · subst h2
    have E : Hid (V = vS 2 r c) := Lib.hid (by rw [HV.out]; rfl)
    clear HV
    go_wp2
    go_quiet ((go_at_call 52; with_reducible exact Quiet.left (clamp_is _ HC.out)))
    go_wp2
    go_ret
    exact ⟨by rw [E.out]; rfl, by (repeat (first | exact Below.refl _ _ | apply BelowKit.bl_alloc | apply BelowKit.bl_drewN | apply BelowKit.bl_drew | (refine BelowKit.bl_set ?_ _ ?_; rotate_left; (first | omega | (simp; omega) | simp)) | (refine BelowKit.bl_trans ?_ (‹Hid (Below _ _ _)›).out)))⟩
  by_cases h3 : K = 3
  · subst h3
    have E : Hid (V = vU r) := Lib.hid (by rw [HV.out]; rfl)
    clear HV
    go_wp2
    go_ret
    exact ⟨by rw [E.out]; rfl, by (repeat (first | exact Below.refl _ _ | apply BelowKit.bl_alloc | apply BelowKit.bl_drewN | apply BelowKit.bl_drew | (refine BelowKit.bl_set ?_ _ ?_; rotate_left; (first | omega | (simp; omega) | simp)) | (refine BelowKit.bl_trans ?_ (‹Hid (Below _ _ _)›).out)))⟩
  by_cases h4 : K = 4
  · subst h4
    have E : Hid (V = vA r) := Lib.hid (by rw [HV.out]; rfl)
    clear HV
    go_wp2
    go_ret
    exact ⟨by rw [E.out]; rfl, by (repeat (first | exact Below.refl _ _ | apply BelowKit.bl_alloc | apply BelowKit.bl_drewN | apply BelowKit.bl_drew | (refine BelowKit.bl_set ?_ _ ?_; rotate_left; (first | omega | (simp; omega) | simp)) | (refine BelowKit.bl_trans ?_ (‹Hid (Below _ _ _)›).out)))⟩
  have E : Hid (V = .nilIface) := Lib.hid (by rw [HV.out, if_neg (by omega), if_neg h3, if_neg h4])
  have d1 : (K == 1) = false := beq_eq_false_iff_ne.2 h1
  have d2 : (K == 2) = false := beq_eq_false_iff_ne.2 h2
  have d3 : (K == 3) = false := beq_eq_false_iff_ne.2 h3
  have d4 : (K == 4) = false := beq_eq_false_iff_ne.2 h4
  clear HV h1 h2 h3 h4
  go_wp2
  go_ret
  exact ⟨by rw [E.out]; rfl, by (repeat (first | exact Below.refl _ _ | apply BelowKit.bl_alloc | apply BelowKit.bl_drewN | apply BelowKit.bl_drew | (refine BelowKit.bl_set ?_ _ ?_; rotate_left; (first | omega | (simp; omega) | simp)) | (refine BelowKit.bl_trans ?_ (‹Hid (Below _ _ _)›).out)))⟩
set_option maxHeartbeats 4000000 in
theorem sch_s (w : World) (K R C : Int) (hk : 1 ≤ K ∧ K ≤ 2) : Calls Try.prog 29 #[.agg #[.int .i64 K, .int .i64 R, .int .i64 C]] w (IsV (schV K R C) w) := by
  have hN := near_i
  obtain ⟨r, hr⟩ : ∃ r, clampN R 1 1000 = r := ⟨_, rfl⟩
  obtain ⟨c, hc⟩ : ∃ c, clampN C 1 60 = c := ⟨_, rfl⟩
  obtain ⟨q, hq⟩ : ∃ q, ((K : Int) == K && R == r && C == c) = q := ⟨_, rfl⟩
  have hok : okD K R C = q := by rw [← hq, ← hr, ← hc]; rw [clamp_same (by decide), clamp_same (by decide), okD, inB_yes (by omega) (by omega), if_pos hk.2]; simp
  have HE := Lib.hid (show q = true → R = r ∧ C = c by rw [← hq]; intro h; simpa using h)
  have HV := Lib.hid (show schV K R C = if q = true then vS K R C else .nilIface by rw [schV, hok]; rw [if_pos hk.2])
  have hnv : nearV K R C = vS K r c := by rw [nearV, if_pos (by omega), hr, hc]
  obtain ⟨V, hV⟩ : ∃ V, schV K R C = V := ⟨_, rfl⟩
  rw [hV] at HV ⊢
  have HNV := Lib.hid hnv
  have heq := fun W => DesEq.neq K R C K r c W
  rw [hq] at heq
  have hme := methS
  have hnil := no_nil
  have hgrd := fun W x y p a b p' a' b' => DesEq.guard .neq x y #[.int .i64 p, .int .i64 a, .int .i64 b] #[.int .i64 p', .int .i64 a', .int .i64 b'] W
  clear hN hr hc hk hq hok hnv hV
  go_enter Try.func29, Try.ntmps29
  go_upto_region 1 with fail
  generalize hW : w.alloc _ = W
  have HB := Lib.hid (show Below w.heap.size w W by rw [← hW]; (repeat (first | exact Below.refl _ _ | apply BelowKit.bl_alloc | apply BelowKit.bl_drewN | apply BelowKit.bl_drew | (refine BelowKit.bl_set ?_ _ ?_; rotate_left; (first | omega | (simp; omega) | simp)) | (refine BelowKit.bl_trans ?_ (‹Hid (Below _ _ _)›).out))))
  have HD := Lib.hid (show Dk W w.heap.size K R C by rw [← hW]; exact Dk.new ..)
  obtain ⟨k0, k1, k2, kl⟩ := HD.out
  clear hW
  go_wp2_with fail
  refine (near_i _ K R C).mono ?_
  rintro e w1 ⟨rfl, hb⟩
  rw [HNV.out]
  have HD1 := Lib.hid (HD.out.on hb)
  have HB1 := Lib.hid (BelowKit.bl_trans HB.out hb)
  clear hb k0 k1 k2 kl HD HB HNV
  obtain ⟨k0, k1, k2, kl⟩ := HD1.out
  go_wp2_with fail
  have g0 := Grown.G.keep k0 kl
  have g1 := Grown.G.keep k1 kl
  have g2 := Grown.G.keep k2 kl
  clear k0 k1 k2 HD1
  refine Grown.wp_region_grown (by kernel_rfl) (by kernel_rfl) ?_
  repeat (go_big_quiet_step ((go_at_call 77; with_reducible exact Grown.grown_of (des_s _ _ _ _))))
  refine wpQuiet_nil ?_
  rintro w4 ⟨X, rfl⟩
  have HX := Lib.hid (BelowKit.bl_trans HB1.out X.bel)
  obtain ⟨W, hW⟩ : ∃ W, X.w = W := ⟨_, rfl⟩
  rw [hW] at HX ⊢
  clear g0 g1 g2 hW HB1 X hme heq hgrd hnil
  cases q with
  | true =>
    obtain ⟨rfl, rfl⟩ := HE.out rfl
    have E := Lib.hid (show V = vS K R C by rw [HV.out]; rfl)
    clear HV HE
    go_wp2
    go_ret
    exact ⟨by rw [E.out]; rfl, HX.out⟩
  | false =>
    have E := Lib.hid (show V = .nilIface by rw [HV.out]; rfl)
    clear HV HE
    go_wp2
    go_ret
    exact ⟨by rw [E.out]; rfl, HX.out⟩
set_option maxHeartbeats 4000000 in
theorem sch_u (w : World) (R C : Int) : Calls Try.prog 29 #[.agg #[.int .i64 3, .int .i64 R, .int .i64 C]] w (IsV (schV 3 R C) w) := by
  have hN := near_i
  obtain ⟨r, hr⟩ : ∃ r, clampN R 1 1000 = r := ⟨_, rfl⟩
  obtain ⟨q, hq⟩ : ∃ q, ((3 : Int) == 3 && R == r && C == 0) = q := ⟨_, rfl⟩
  have hok : okD 3 R C = q := by rw [← hq, ← hr]; rw [clamp_same (by decide), okD, inB_yes (by decide) (by decide), if_neg (by decide)]; simp; rfl
  have HE := Lib.hid (show q = true → R = r ∧ C = 0 by rw [← hq]; intro h; simpa using h)
  have HV := Lib.hid (show schV 3 R C = if q = true then vU R else .nilIface by rw [schV, hok]; rfl)
  have hnv : nearV 3 R C = vU r := by rw [← hr]; rfl
  obtain ⟨V, hV⟩ : ∃ V, schV 3 R C = V := ⟨_, rfl⟩
  rw [hV] at HV ⊢
  have HNV := Lib.hid hnv
  have heq := fun W => DesEq.neq 3 R C 3 r 0 W
  rw [hq] at heq
  have hme := methU
  have hnil := no_nil
  have hgrd := fun W x y p a b p' a' b' => DesEq.guard .neq x y #[.int .i64 p, .int .i64 a, .int .i64 b] #[.int .i64 p', .int .i64 a', .int .i64 b'] W
  clear hN hr hq hok hnv hV
  go_enter Try.func29, Try.ntmps29
  go_upto_region 1 with fail
  generalize hW : w.alloc _ = W
  have HB := Lib.hid (show Below w.heap.size w W by rw [← hW]; (repeat (first | exact Below.refl _ _ | apply BelowKit.bl_alloc | apply BelowKit.bl_drewN | apply BelowKit.bl_drew | (refine BelowKit.bl_set ?_ _ ?_; rotate_left; (first | omega | (simp; omega) | simp)) | (refine BelowKit.bl_trans ?_ (‹Hid (Below _ _ _)›).out))))
  have HD := Lib.hid (show Dk W w.heap.size 3 R C by rw [← hW]; exact Dk.new ..)
  obtain ⟨k0, k1, k2, kl⟩ := HD.out
  clear hW
  go_wp2_with fail
  refine (near_i _ 3 R C).mono ?_
  rintro e w1 ⟨rfl, hb⟩
  rw [HNV.out]
  have HD1 := Lib.hid (HD.out.on hb)
  have HB1 := Lib.hid (BelowKit.bl_trans HB.out hb)
  clear hb k0 k1 k2 kl HD HB HNV
  obtain ⟨k0, k1, k2, kl⟩ := HD1.out
  go_wp2_with fail
  have g0 := Grown.G.keep k0 kl
  have g1 := Grown.G.keep k1 kl
  have g2 := Grown.G.keep k2 kl
  clear k0 k1 k2 HD1
  refine Grown.wp_region_grown (by kernel_rfl) (by kernel_rfl) ?_
  repeat (go_big_quiet_step ((go_at_call 79; with_reducible exact Grown.grown_of (des_u _ _))))
  refine wpQuiet_nil ?_
  rintro w4 ⟨X, rfl⟩
  have HX := Lib.hid (BelowKit.bl_trans HB1.out X.bel)
  obtain ⟨W, hW⟩ : ∃ W, X.w = W := ⟨_, rfl⟩
  rw [hW] at HX ⊢
  clear g0 g1 g2 hW HB1 X hme heq hgrd hnil
  cases q with
  | true =>
    obtain ⟨rfl, _⟩ := HE.out rfl
    have E := Lib.hid (show V = vU R by rw [HV.out]; rfl)
    clear HV HE
    go_wp2
    go_ret
    exact ⟨by rw [E.out]; rfl, HX.out⟩
  | false =>
    have E := Lib.hid (show V = .nilIface by rw [HV.out]; rfl)
    clear HV HE
    go_wp2
    go_ret
    exact ⟨by rw [E.out]; rfl, HX.out⟩
set_option maxHeartbeats 4000000 in
theorem sch_a (w : World) (R C : Int) : Calls Try.prog 29 #[.agg #[.int .i64 4, .int .i64 R, .int .i64 C]] w (IsV (schV 4 R C) w) := by
  have hN := near_i
  obtain ⟨r, hr⟩ : ∃ r, clampN R 1 1000 = r := ⟨_, rfl⟩
  obtain ⟨q, hq⟩ : ∃ q, ((4 : Int) == 4 && R == r && C == 0) = q := ⟨_, rfl⟩
  have hok : okD 4 R C = q := by rw [← hq, ← hr]; rw [clamp_same (by decide), okD, inB_yes (by decide) (by decide), if_neg (by decide)]; simp; rfl
  have HE := Lib.hid (show q = true → R = r ∧ C = 0 by rw [← hq]; intro h; simpa using h)
  have HV := Lib.hid (show schV 4 R C = if q = true then vA R else .nilIface by rw [schV, hok]; rfl)
  have hnv : nearV 4 R C = vA r := by rw [← hr]; rfl
  obtain ⟨V, hV⟩ : ∃ V, schV 4 R C = V := ⟨_, rfl⟩
  rw [hV] at HV ⊢
  have HNV := Lib.hid hnv
  have heq := fun W => DesEq.neq 4 R C 4 r 0 W
  rw [hq] at heq
  have hme := methA
  have hnil := no_nil
  have hgrd := fun W x y p a b p' a' b' => DesEq.guard .neq x y #[.int .i64 p, .int .i64 a, .int .i64 b] #[.int .i64 p', .int .i64 a', .int .i64 b'] W
  clear hN hr hq hok hnv hV
  go_enter Try.func29, Try.ntmps29
  go_upto_region 1 with fail
  generalize hW : w.alloc _ = W
  have HB := Lib.hid (show Below w.heap.size w W by rw [← hW]; (repeat (first | exact Below.refl _ _ | apply BelowKit.bl_alloc | apply BelowKit.bl_drewN | apply BelowKit.bl_drew | (refine BelowKit.bl_set ?_ _ ?_; rotate_left; (first | omega | (simp; omega) | simp)) | (refine BelowKit.bl_trans ?_ (‹Hid (Below _ _ _)›).out))))
  have HD := Lib.hid (show Dk W w.heap.size 4 R C by rw [← hW]; exact Dk.new ..)
  obtain ⟨k0, k1, k2, kl⟩ := HD.out
  clear hW
  go_wp2_with fail
  refine (near_i _ 4 R C).mono ?_
  rintro e w1 ⟨rfl, hb⟩
  rw [HNV.out]
  have HD1 := Lib.hid (HD.out.on hb)
  have HB1 := Lib.hid (BelowKit.bl_trans HB.out hb)
  clear hb k0 k1 k2 kl HD HB HNV
  obtain ⟨k0, k1, k2, kl⟩ := HD1.out
  go_wp2_with fail
  have g0 := Grown.G.keep k0 kl
  have g1 := Grown.G.keep k1 kl
  have g2 := Grown.G.keep k2 kl
  clear k0 k1 k2 HD1
  refine Grown.wp_region_grown (by kernel_rfl) (by kernel_rfl) ?_
  repeat (go_big_quiet_step ((go_at_call 78; with_reducible exact Grown.grown_of (des_a _ _))))
  refine wpQuiet_nil ?_
  rintro w4 ⟨X, rfl⟩
  have HX := Lib.hid (BelowKit.bl_trans HB1.out X.bel)
  obtain ⟨W, hW⟩ : ∃ W, X.w = W := ⟨_, rfl⟩
  rw [hW] at HX ⊢
  clear g0 g1 g2 hW HB1 X hme heq hgrd hnil
  cases q with
  | true =>
    obtain ⟨rfl, _⟩ := HE.out rfl
    have E := Lib.hid (show V = vA R by rw [HV.out]; rfl)
    clear HV HE
    go_wp2
    go_ret
    exact ⟨by rw [E.out]; rfl, HX.out⟩
  | false =>
    have E := Lib.hid (show V = .nilIface by rw [HV.out]; rfl)
    clear HV HE
    go_wp2
    go_ret
    exact ⟨by rw [E.out]; rfl, HX.out⟩
set_option maxHeartbeats 1000000 in
theorem sch_n (w : World) (K R C : Int) (hk : ¬ (1 ≤ K ∧ K ≤ 4)) : Calls Try.prog 29 #[.agg #[.int .i64 K, .int .i64 R, .int .i64 C]] w (IsV (schV K R C) w) := by
  have hnv : nearV K R C = .nilIface := by rw [nearV, if_neg (by omega), if_neg (by omega), if_neg (by omega)]
  have hok : okD K R C = false := by
    have h4 : inB K 1 4 = false := by
      by_cases h : 1 ≤ K
      · exact inB_hi (by omega)
      · exact inB_lo h
    rw [okD, h4]
    rfl
  rw [show schV K R C = .nilIface by rw [schV, hok]; rfl]
  have HNV := Lib.hid hnv
  have hnil := nil_nil
  clear hnv hok hk
  go_enter Try.func29, Try.ntmps29
  go_wp2_with fail
  refine (near_i _ K R C).mono ?_
  rintro e w1 ⟨rfl, hb⟩
  rw [HNV.out]
  have HB1 := Lib.hid (BelowKit.bl_trans (BelowKit.bl_alloc (Below.refl _ _)) hb)
  clear hb
  go_wp2
  go_quiet (fail)
  go_wp2
  go_ret
  exact ⟨rfl, by (repeat (first | exact Below.refl _ _ | apply BelowKit.bl_alloc | apply BelowKit.bl_drewN | apply BelowKit.bl_drew | (refine BelowKit.bl_set ?_ _ ?_; rotate_left; (first | omega | (simp; omega) | simp)) | (refine BelowKit.bl_trans ?_ (‹Hid (Below _ _ _)›).out)))⟩
theorem sch_i (w : World) (K R C : Int) : Calls Try.prog 29 #[.agg #[.int .i64 K, .int .i64 R, .int .i64 C]] w (IsV (schV K R C) w) := by
  by_cases h1 : 1 ≤ K ∧ K ≤ 2
  · exact sch_s w K R C h1
  by_cases h3 : K = 3
  · subst h3; exact sch_u w R C
  by_cases h4 : K = 4
  · subst h4; exact sch_a w R C
  exact sch_n w K R C (by omega)
theorem sch_low {K R C : Int} (h : okD K R C = true) (hk : K ≤ 2) : schV K R C = vS K R C := by rw [schV, if_pos h, if_pos hk]
theorem sch_three {R C : Int} (h : okD 3 R C = true) : schV 3 R C = vU R := by rw [schV, if_pos h]; rfl
theorem sch_four {R C : Int} (h : okD 4 R C = true) : schV 4 R C = vA R := by rw [schV, if_pos h]; rfl
theorem sch_no {K R C : Int} (h : okD K R C = false) : schV K R C = .nilIface := by rw [schV, h]; rfl
set_option maxHeartbeats 1000000 in
theorem design_i (w : World) (K R C : Int) : Calls Try.prog 16 #[.agg #[.int .i64 K, .int .i64 R, .int .i64 C]] w (IsNo (okD K R C) w) := by
  have h1 := ne_nil
  have h2 := nil_ne
  cases hok : okD K R C with
  | false =>
    have HV := Lib.hid (sch_no hok)
    clear hok
    go_enter Try.func16, Try.ntmps16
    go_wp2_with fail
    refine (sch_i _ K R C).mono ?_
    rintro e w1 ⟨rfl, hb⟩
    rw [HV.out]
    have HB := Lib.hid hb
    clear hb
    go_wp2
    go_ret
    exact ⟨rfl, by (repeat (first | exact Below.refl _ _ | apply BelowKit.bl_alloc | apply BelowKit.bl_drewN | apply BelowKit.bl_drew | (refine BelowKit.bl_set ?_ _ ?_; rotate_left; (first | omega | (simp; omega) | simp)) | (refine BelowKit.bl_trans ?_ (‹Hid (Below _ _ _)›).out)))⟩
  | true =>
    obtain ⟨t, v, hv⟩ : ∃ t v, schV K R C = .iface t v := by
      unfold schV
      rw [if_pos hok]
      split
      · exact ⟨_, _, rfl⟩
      · split <;> exact ⟨_, _, rfl⟩
    have HV := Lib.hid hv
    clear hok hv
    go_enter Try.func16, Try.ntmps16
    go_wp2_with fail
    refine (sch_i _ K R C).mono ?_
    rintro e w1 ⟨rfl, hb⟩
    rw [HV.out]
    have HB := Lib.hid hb
    clear hb
    go_wp2
    go_ret
    exact ⟨rfl, by (repeat (first | exact Below.refl _ _ | apply BelowKit.bl_alloc | apply BelowKit.bl_drewN | apply BelowKit.bl_drew | (refine BelowKit.bl_set ?_ _ ?_; rotate_left; (first | omega | (simp; omega) | simp)) | (refine BelowKit.bl_trans ?_ (‹Hid (Below _ _ _)›).out)))⟩
/-! What the numbers come to. -/
theorem red_bad {n d : Int} (h : (red n d).2.2 = false) : red n d = (0, 0, false) := by
  unfold red at h ⊢
  split
  · rename_i k; rw [if_pos k] at h; cases h
  · rfl
theorem mul_bad {a b c d : Int} (h : (mulR a b c d).2.2 = false) : mulR a b c d = (0, 0, false) := by
  unfold mulR at h ⊢
  split
  · rename_i k; rw [if_pos k] at h; exact red_bad h
  · rfl
theorem mul_no {a b c d : Int} (h : okB a b = false) : mulR a b c d = (0, 0, false) := by
  rw [mulR, if_neg]
  rintro ⟨k, _⟩
  simp [facB, h] at k
theorem mul_zero (c d : Int) : mulR 0 0 c d = (0, 0, false) := mul_no (by decide)
theorem mul_ok {a b c d : Int} (h : (mulR a b c d).2.2 = true) : okB (mulR a b c d).1 (mulR a b c d).2.1 = true := by
  unfold mulR at h ⊢
  split
  · rename_i k; rw [if_pos k] at h; exact FracMath.red_okB h
  · rename_i k; rw [if_neg k] at h; cases h
theorem new_zero (c : Int) : newR c 0 = (0, 0, false) := by
  unfold newR
  split
  · exact FracMath.red_zero c
  · rfl
theorem upen_is {R C n d : Int} (h : okD 3 R C = true) (hn : 0 ≤ n) : upen 3 R C n d = RoundF.rndR (mulR n d R 1).1 (mulR n d R 1).2.1 1 := by
  cases hv : okB n d with
  | false => rw [upen_no (by simp [askU, h, hv]), mul_no hv]; rfl
  | true =>
    rw [upen_yes (by simp [askU, h, hv, hn])]
    cases ho : (mulR n d R 1).2.2 with
    | false => rw [mul_bad ho]; rfl
    | true => rw [RoundF.rndR_yes (mul_ok ho) (by decide) (by decide), flo, if_pos (mul_ok ho)]; rfl
theorem accr_is {K R C s n d : Int} (h : okD K R C = true) (hk : K ≤ 2) (hs : inB s 0 72000 = true) (hn : 0 ≤ n) : accr K R C s n d = mulR (mulR n d (rte R).1 (rte R).2.1).1 (mulR n d (rte R).1 (rte R).2.1).2.1 (yrs C s).1 (yrs C s).2.1 := by
  cases hv : okB n d with
  | false => rw [accr_no (by simp [askA, h, hv]), mul_no hv, mul_zero]
  | true =>
    rw [accr_yes (by simp [askA, h, hv, hn, hk, hs]), prods]
    cases ho : (mulR n d (rte R).1 (rte R).2.1).2.2 with
    | false => rw [mul_bad ho, mul_zero]; rfl
    | true => rw [if_pos rfl]
/-- The box of a scheme with one field. -/
structure Ok1 (W : World) (A : Nat) (x : Int) : Prop where
  c0 : W.cell? ⟨A, 0, none⟩ = some (.int .i64 x)
  lt : A < W.heap.size
theorem Ok1.on {W w' : World} {A : Nat} {x : Int} (h : Ok1 W A x) (hb : Below W.heap.size W w') : Ok1 w' A x := by
  have h1 := h.lt
  obtain ⟨kc, kf⟩ := BelowKit.bcell hb
  exact ⟨(kc _ 0 h1).trans h.c0, Nat.lt_of_lt_of_le h1 hb.size⟩
theorem Ok1.new (w : World) (x : Int) (T : TypeId) : Ok1 (w.alloc (.cells #[.int .i64 x] T)) w.heap.size x := ⟨by simp [go_sem], by simp⟩
/-! 'x, ok := schemeOf(d).(T)'. -/
def isS (K R C : Int) : Bool := okD K R C && decide (K ≤ 2)
def isU (K R C : Int) : Bool := okD K R C && decide (K = 3)
def isA (K R C : Int) : Bool := okD K R C && decide (K = 4)
def un (b : Bool) (x : Int) : Int := if b = true then x else 0
theorem kinds {K R C : Int} (h : okD K R C = true) (h1 : ¬ K ≤ 2) (h2 : ¬ K = 3) : K = 4 := by have := okD_of h; omega
theorem as_s (K R C : Int) (W : World) : (Instr.typeAssert (schV K R C) 55 52 true).run Try.prog W = .ok (.tuple #[.agg #[.int .i64 (un (isS K R C) K), .int .i64 (un (isS K R C) R), .int .i64 (un (isS K R C) C)], .bool (isS K R C)]) W := by
  cases h : okD K R C with
  | false => rw [sch_no h, show isS K R C = false by simp [isS, h]]; exact nilS W
  | true =>
    rw [schV, if_pos h]
    by_cases h1 : K ≤ 2
    · rw [if_pos h1, show isS K R C = true by simp [isS, h, h1]]; exact is_yes _ _ (.inl rfl) W
    · rw [if_neg h1, show isS K R C = false by simp [isS, h1]]
      split <;> exact noS _ _ (by decide) W
theorem as_u (K R C : Int) (W : World) : (Instr.typeAssert (schV K R C) 55 66 true).run Try.prog W = .ok (.tuple #[.agg #[.int .i64 (un (isU K R C) R)], .bool (isU K R C)]) W := by
  cases h : okD K R C with
  | false => rw [sch_no h, show isU K R C = false by simp [isU, h]]; exact nilU W
  | true =>
    rw [schV, if_pos h]
    by_cases h1 : K ≤ 2
    · rw [if_pos h1, show isU K R C = false by simp [isU]; omega]; exact noU _ _ (by decide) W
    · rw [if_neg h1]
      by_cases h2 : K = 3
      · rw [if_pos h2, show isU K R C = true by rw [isU, h, decide_eq_true h2]; rfl]; exact is_yes _ _ (.inr (.inl rfl)) W
      · rw [if_neg h2, show isU K R C = false by simp [isU, h2]]; exact noU _ _ (by decide) W
theorem as_a (K R C : Int) (W : World) : (Instr.typeAssert (schV K R C) 55 61 true).run Try.prog W = .ok (.tuple #[.agg #[.int .i64 (un (isA K R C) R)], .bool (isA K R C)]) W := by
  cases h : okD K R C with
  | false => rw [sch_no h, show isA K R C = false by simp [isA, h]]; exact nilA W
  | true =>
    rw [schV, if_pos h]
    by_cases h1 : K ≤ 2
    · rw [if_pos h1, show isA K R C = false by simp [isA]; omega]; exact noA _ _ (by decide) W
    · rw [if_neg h1]
      by_cases h2 : K = 3
      · rw [if_pos h2, show isA K R C = false by simp [isA]; omega]; exact noA _ _ (by decide) W
      · rw [if_neg h2, show isA K R C = true by rw [isA, h, decide_eq_true (kinds h h1 h2)]; rfl]; exact is_yes _ _ (.inr (.inr rfl)) W
set_option maxHeartbeats 1000000 in
theorem units_i (w : World) (c p : Int) : Calls Try.prog 17 #[.int .i64 c, .int .i64 p] w (IsFra (units c p) w) := by
  go_enter Try.func17, Try.ntmps17
  go_upto_region 1 with fail
  generalize hW : w.alloc _ = W
  have HB := Lib.hid (show Below w.heap.size w W by rw [← hW]; (repeat (first | exact Below.refl _ _ | apply BelowKit.bl_alloc | apply BelowKit.bl_drewN | apply BelowKit.bl_drew | (refine BelowKit.bl_set ?_ _ ?_; rotate_left; (first | omega | (simp; omega) | simp)) | (refine BelowKit.bl_trans ?_ (‹Hid (Below _ _ _)›).out))))
  have HZ := Lib.hid (show Fk W w.heap.size 0 0 by rw [← hW]; exact Fk.new ..)
  obtain ⟨z0, z1, g0, g1, zl⟩ := HZ.out
  clear hW
  go_wp2_with fail
  refine (upto_i c 1000000000 _).mono ?_
  rintro e w1 ⟨rfl, rfl⟩
  cases h1 : inB c 0 1000000000 with
  | false =>
    have E := Lib.hid (units_no (c := c) (p := p) (fun e => by rw [h1] at e; cases e.1))
    clear h1
    go_wp2
    refine bodyPost_ret (v := .agg #[.int .i64 0, .int .i64 0]) (by simp [results, Try.results17, z0, z1, go_sem]) rfl ⟨by rw [E.out], ?_⟩
    exact set2 HB.out (Nat.le_refl _)
  | true =>
  go_wp2_with fail
  refine (upto_i p 100000 _).mono ?_
  rintro e w1 ⟨rfl, rfl⟩
  cases h2 : inB p 0 100000 with
  | false =>
    have E := Lib.hid (units_no (c := c) (p := p) (fun e => by have := inB_of e.2; rw [inB_yes (by omega) (by omega)] at h2; cases h2))
    clear h1 h2
    go_wp2
    refine bodyPost_ret (v := .agg #[.int .i64 0, .int .i64 0]) (by simp [results, Try.results17, z0, z1, go_sem]) rfl ⟨by rw [E.out], ?_⟩
    exact set2 HB.out (Nat.le_refl _)
  | true =>
  have E := Lib.hid (show units c p = ((newR c p).1, (newR c p).2.1) by
    have := inB_of h2
    by_cases h0 : p = 0
    · subst h0
      rw [units_no (fun e => by have := inB_of e.2; omega), new_zero]
    · exact units_yes h1 (inB_yes (by omega) (by omega)))
  clear h1 h2 z0 z1 g0 g1 zl
  go_wp2_with fail
  refine (FracI.new_i c p _).mono ?_
  rintro e w1 ⟨rfl, hb⟩
  have HZ1 := Lib.hid (HZ.out.on hb)
  have HB1 := Lib.hid (BelowKit.bl_trans HB.out hb)
  obtain ⟨⟨x, y, o⟩, hv⟩ : ∃ v, newR c p = v := ⟨_, rfl⟩
  rw [hv] at E ⊢
  simp only [] at E ⊢
  clear hb hv HZ HB
  obtain ⟨z0, z1, g0, g1, zl⟩ := HZ1.out
  have hr := (HZ1.out.put x y).on (BelowKit.bl_alloc (o := .cells #[.int .i64 x, .int .i64 y] 29) (Below.refl _ _))
  go_wp2
  refine bodyPost_ret (v := .agg #[.int .i64 x, .int .i64 y]) (by simp [results, Try.results17, hr.c0, hr.c1, go_sem]) rfl ⟨by rw [E.out], ?_⟩
  exact BelowKit.bl_alloc (set2 HB1.out (Nat.le_refl _))
set_option maxHeartbeats 1000000 in
theorem int_i (w : World) (R b e M y : Int) (hM : max e R = M) (hm : 1 ≤ M ∧ M ≤ 10000) (hb : 0 ≤ b ∧ b ≤ 1000000000) (hy : (b * M).tdiv 10000 = y) : Calls Try.prog 35 #[.agg #[.int .i64 R], .int .i64 b, .int .i64 e] w (IsInt y w) := by
  have p0 : 0 ≤ b * M := Int.mul_nonneg hb.1 (by omega)
  have p1 : b * M ≤ 1000000000 * 10000 := Int.mul_le_mul hb.2 hm.2 (by omega) (by omega)
  obtain ⟨x, hx⟩ : ∃ x, b * M = x := ⟨_, rfl⟩
  rw [hx] at hy p0 p1
  have W1 : IntKind.i64.wrap (b * M) = x := by rw [hx]; exact IntWalk.i64_in _ (by omega)
  have W2 : IntKind.i64.wrap (x.tdiv 10000) = y := by rw [← hy, Int.tdiv_eq_ediv_of_nonneg p0]; exact IntWalk.i64_in _ (by omega)
  by_cases he : e < R
  · obtain rfl : R = M := by omega
    clear hx hy p0 p1 hM hm hb
    go_enter Try.func35, Try.ntmps35
    go_wp2
    go_ret
    exact ⟨rfl, by (repeat (first | exact Below.refl _ _ | apply BelowKit.bl_alloc | apply BelowKit.bl_drewN | apply BelowKit.bl_drew | (refine BelowKit.bl_set ?_ _ ?_; rotate_left; (first | omega | (simp; omega) | simp)) | (refine BelowKit.bl_trans ?_ (‹Hid (Below _ _ _)›).out)))⟩
  · obtain rfl : e = M := by omega
    clear hx hy p0 p1 hM hm hb
    go_enter Try.func35, Try.ntmps35
    go_wp2
    go_ret
    exact ⟨rfl, by (repeat (first | exact Below.refl _ _ | apply BelowKit.bl_alloc | apply BelowKit.bl_drewN | apply BelowKit.bl_drew | (refine BelowKit.bl_set ?_ _ ?_; rotate_left; (first | omega | (simp; omega) | simp)) | (refine BelowKit.bl_trans ?_ (‹Hid (Below _ _ _)›).out)))⟩
set_option maxHeartbeats 2000000 in
theorem grow_i (w : World) (K R C b c e : Int) : Calls Try.prog 15 #[.agg #[.int .i64 K, .int .i64 R, .int .i64 C], .int .i64 b, .int .i64 c, .int .i64 e] w (IsInt (grow K R C b c e) w) := by
  obtain ⟨G, hG⟩ : ∃ G, grow K R C b c e = G := ⟨_, rfl⟩
  have HY := Lib.hid (fun h : askG K R C b c e = true => hG.symm.trans (grow_yes h))
  have HN := Lib.hid (fun h : askG K R C b c e = false => hG.symm.trans (grow_no h))
  rw [hG]
  clear hG
  have hta := as_a K R C
  obtain ⟨q, hq⟩ : ∃ q, isA K R C = q := ⟨_, rfl⟩
  obtain ⟨x, hx⟩ : ∃ x, un (isA K R C) R = x := ⟨_, rfl⟩
  obtain ⟨V, hV⟩ : ∃ V, schV K R C = V := ⟨_, rfl⟩
  have HV := Lib.hid hV
  have HX := Lib.hid hx
  have HQ := Lib.hid hq
  rw [hx, hq, hV] at hta
  clear hx hq hV
  go_enter Try.func15, Try.ntmps15
  go_wp2_with fail
  refine (sch_i _ K R C).mono ?_
  rintro e1 w1 ⟨rfl, hb⟩
  rw [HV.out]
  have HB1 := Lib.hid (BelowKit.bl_trans (BelowKit.bl_alloc (Below.refl _ _)) hb)
  have HK := Lib.hid (Ok1.new w1 x 61)
  clear hb HV
  cases q with
  | false =>
    have E := Lib.hid (HN.out (by have := HQ.out; unfold isA at this; unfold askG; rw [← Bool.and_assoc, this]; rfl))
    clear HQ HX HK HY HN
    go_wp2
    go_ret
    exact ⟨by rw [E.out]; rfl, by (repeat (first | exact Below.refl _ _ | apply BelowKit.bl_alloc | apply BelowKit.bl_drewN | apply BelowKit.bl_drew | (refine BelowKit.bl_set ?_ _ ?_; rotate_left; (first | omega | (simp; omega) | simp)) | (refine BelowKit.bl_trans ?_ (‹Hid (Below _ _ _)›).out)))⟩
  | true =>
  have h0 : okD K R C = true ∧ K = 4 := by have := HQ.out; simpa [isA] using this
  obtain ⟨h0, rfl⟩ := h0
  obtain rfl : x = R := by rw [← HX.out, HQ.out]; rfl
  have q0 := Lib.hid (okD_of h0).2.1
  have H0 := Lib.hid h0
  clear HX HQ h0
  go_wp2_with fail
  refine (upto_i b 1000000000 _).mono ?_
  rintro e1 w2 ⟨rfl, rfl⟩
  cases h1 : inB b 0 1000000000 with
  | false =>
    have E := Lib.hid (HN.out (by simp [askG, h1]))
    clear h1
    go_wp2
    go_ret
    exact ⟨by rw [E.out]; rfl, by (repeat (first | exact Below.refl _ _ | apply BelowKit.bl_alloc | apply BelowKit.bl_drewN | apply BelowKit.bl_drew | (refine BelowKit.bl_set ?_ _ ?_; rotate_left; (first | omega | (simp; omega) | simp)) | (refine BelowKit.bl_trans ?_ (‹Hid (Below _ _ _)›).out)))⟩
  | true =>
  have H1 := Lib.hid h1
  clear h1
  go_wp2_with fail
  refine (upto_i c 1000000000 _).mono ?_
  rintro e1 w2 ⟨rfl, rfl⟩
  cases h2 : inB c 0 1000000000 with
  | false =>
    have E := Lib.hid (HN.out (by simp [askG, h2]))
    clear h2
    go_wp2
    go_ret
    exact ⟨by rw [E.out]; rfl, by (repeat (first | exact Below.refl _ _ | apply BelowKit.bl_alloc | apply BelowKit.bl_drewN | apply BelowKit.bl_drew | (refine BelowKit.bl_set ?_ _ ?_; rotate_left; (first | omega | (simp; omega) | simp)) | (refine BelowKit.bl_trans ?_ (‹Hid (Below _ _ _)›).out)))⟩
  | true =>
  have H2 := Lib.hid h2
  clear h2
  go_wp2_with fail
  refine (FracGcd.within_i e 10000 _ (by decide) (by decide)).mono ?_
  rintro e1 w2 ⟨rfl, rfl⟩
  rw [show FracMath.inB e (-10000) 10000 = inB e (-10000) 10000 by simp [FracMath.inB, inB]]
  cases h3 : inB e (-10000) 10000 with
  | false =>
    have E := Lib.hid (HN.out (by simp [askG, h3]))
    clear h3
    go_wp2
    go_ret
    exact ⟨by rw [E.out]; rfl, by (repeat (first | exact Below.refl _ _ | apply BelowKit.bl_alloc | apply BelowKit.bl_drewN | apply BelowKit.bl_drew | (refine BelowKit.bl_set ?_ _ ?_; rotate_left; (first | omega | (simp; omega) | simp)) | (refine BelowKit.bl_trans ?_ (‹Hid (Below _ _ _)›).out)))⟩
  | true =>
  have E := HY.out (by simp [askG, H0.out, H1.out, H2.out, h3])
  have q1 := inB_of H1.out
  have q2 := inB_of H2.out
  have q3 := inB_of h3
  have q0' := q0.out
  clear h3 HY HN
  have hm : 1 ≤ max e x ∧ max e x ≤ 10000 := by omega
  obtain ⟨M, hM⟩ : ∃ M, max e x = M := ⟨_, rfl⟩
  rw [hM] at E hm
  obtain ⟨y, hy⟩ : ∃ y, (b * M).tdiv 10000 = y := ⟨_, rfl⟩
  rw [hy] at E
  have hyb : 0 ≤ y ∧ y ≤ 1000000000 := by
    have p0 : 0 ≤ b * M := Int.mul_nonneg q1.1 (by omega)
    have p1 : b * M ≤ 1000000000 * 10000 := Int.mul_le_mul q1.2 hm.2 (by omega) (by omega)
    rw [← hy, Int.tdiv_eq_ediv_of_nonneg p0]
    omega
  have W3 : IntKind.i64.wrap (b + y) = b + y := IntWalk.i64_in _ (by omega)
  have W4 : IntKind.i64.wrap (b + y + c) = b + y + c := IntWalk.i64_in _ (by omega)
  have E := Lib.hid E
  have HC := Lib.hid (And.intro hM (And.intro hm (And.intro q1 hy)))
  obtain ⟨k0, kl⟩ := HK.out
  clear hM hm hy hyb q0' q1 q2 q3 H0 H1 H2 q0
  go_wp2_with fail
  refine (int_i _ x b e M y HC.out.1 HC.out.2.1 HC.out.2.2.1 HC.out.2.2.2).mono ?_
  rintro e1 w3 ⟨rfl, hb⟩
  have HB3 := Lib.hid hb
  clear hb HC HK k0 kl
  go_wp2
  go_ret
  exact ⟨by rw [E.out]; rfl, by (repeat (first | exact Below.refl _ _ | apply BelowKit.bl_alloc | apply BelowKit.bl_drewN | apply BelowKit.bl_drew | (refine BelowKit.bl_set ?_ _ ?_; rotate_left; (first | omega | (simp; omega) | simp)) | (refine BelowKit.bl_trans ?_ (‹Hid (Below _ _ _)›).out)))⟩
set_option maxHeartbeats 2000000 in
theorem upe_i (w : World) (R n d : Int) : Calls Try.prog 37 #[.agg #[.int .i64 R], .agg #[.int .i64 n, .int .i64 d]] w (IsPen (RoundF.rndR (mulR n d R 1).1 (mulR n d R 1).2.1 1) w) := by
  obtain ⟨⟨x, y, o⟩, hv⟩ : ∃ v, mulR n d R 1 = v := ⟨_, rfl⟩
  rw [hv]
  simp only []
  obtain ⟨⟨g, b⟩, hg⟩ : ∃ v, RoundF.rndR x y 1 = v := ⟨_, rfl⟩
  rw [hg]
  have HV := Lib.hid hv
  have HG := Lib.hid hg
  clear hv hg
  go_enter Try.func37, Try.ntmps37
  go_wp2_with fail
  refine (FracI.mul_i n d R 1 _).mono ?_
  rintro e1 w3 ⟨rfl, hb⟩
  rw [HV.out]
  have HB3 := Lib.hid (BelowKit.bl_trans (one_on _ (one_on _ (Below.refl _ _))) hb)
  clear hb
  go_wp2_with fail
  refine (RoundF.round_i x y 1 _).mono ?_
  rintro e1 w4 ⟨rfl, hb⟩
  have HB4 := Lib.hid (BelowKit.bl_trans HB3.out (one_on _ hb))
  clear hb
  rw [HG.out]
  go_wp2
  refine bodyPost_ret (v := .tuple #[.int .i64 g, .bool b]) (by simp [results, Try.results37]) rfl ⟨rfl, HB4.out⟩
set_option maxHeartbeats 2000000 in
theorem pen_i (w : World) (K R C n d : Int) : Calls Try.prog 18 #[.agg #[.int .i64 K, .int .i64 R, .int .i64 C], .agg #[.int .i64 n, .int .i64 d]] w (IsPen (upen K R C n d) w) := by
  obtain ⟨G, hG⟩ : ∃ G, upen K R C n d = G := ⟨_, rfl⟩
  have HG := Lib.hid hG
  have HN := Lib.hid (fun h : askU K R C n d = false => hG.symm.trans (upen_no h))
  rw [hG]
  clear hG
  have hta := as_u K R C
  obtain ⟨q, hq⟩ : ∃ q, isU K R C = q := ⟨_, rfl⟩
  obtain ⟨x, hx⟩ : ∃ x, un (isU K R C) R = x := ⟨_, rfl⟩
  obtain ⟨V, hV⟩ : ∃ V, schV K R C = V := ⟨_, rfl⟩
  have HV := Lib.hid hV
  have HX := Lib.hid hx
  have HQ := Lib.hid hq
  rw [hx, hq, hV] at hta
  clear hx hq hV
  go_enter Try.func18, Try.ntmps18
  go_upto_region 1 with fail
  generalize hW : (w.alloc _).alloc _ = W
  have HB := Lib.hid (show Below w.heap.size w W by rw [← hW]; (repeat (first | exact Below.refl _ _ | apply BelowKit.bl_alloc | apply BelowKit.bl_drewN | apply BelowKit.bl_drew | (refine BelowKit.bl_set ?_ _ ?_; rotate_left; (first | omega | (simp; omega) | simp)) | (refine BelowKit.bl_trans ?_ (‹Hid (Below _ _ _)›).out))))
  have HD := Lib.hid (show Dk W w.heap.size K R C by rw [← hW]; exact (Dk.new ..).on (BelowKit.bl_alloc (Below.refl _ _)))
  have HF := Lib.hid (show Fk W (w.heap.size + 1) n d by rw [← hW]; simpa using Fk.new (w.alloc _) n d _)
  obtain ⟨k0, k1, k2, kl⟩ := HD.out
  clear hW
  go_wp2_with fail
  refine (sch_i _ K R C).mono ?_
  rintro e1 w1 ⟨rfl, hb⟩
  rw [HV.out]
  have HF1 := Lib.hid (HF.out.on hb)
  have HB1 := Lib.hid (BelowKit.bl_trans HB.out hb)
  have HK1 := Lib.hid (Ok1.new w1 x 66)
  clear hb k0 k1 k2 kl HD HB HF HV
  obtain ⟨n0, n1, _, _, nl⟩ := HF1.out
  cases q with
  | false =>
    have E := Lib.hid (HN.out (by have := HQ.out; unfold isU at this; unfold askU; rw [← Bool.and_assoc, this]; rfl))
    clear HQ HX HK1 HN HG
    go_wp2
    refine bodyPost_ret (v := .tuple #[.int .i64 0, .bool false]) (by simp [results, Try.results18]) rfl ⟨by rw [E.out], ?_⟩
    (repeat (first | exact Below.refl _ _ | apply BelowKit.bl_alloc | apply BelowKit.bl_drewN | apply BelowKit.bl_drew | (refine BelowKit.bl_set ?_ _ ?_; rotate_left; (first | omega | (simp; omega) | simp)) | (refine BelowKit.bl_trans ?_ (‹Hid (Below _ _ _)›).out)))
  | true =>
  have h0 : okD K R C = true ∧ K = 3 := by have := HQ.out; simpa [isU] using this
  obtain ⟨h0, rfl⟩ := h0
  obtain rfl : x = R := by rw [← HX.out, HQ.out]; rfl
  have H0 := Lib.hid h0
  clear HX HQ h0
  go_wp2_with fail
  refine (FracOps.sign_i n d _).mono ?_
  rintro e1 w2 ⟨rfl, hb⟩
  have hb' := one_on _ hb
  have HF2 := Lib.hid (HF1.out.on hb')
  have HB2 := Lib.hid (BelowKit.bl_trans HB1.out hb')
  have HK2 := Lib.hid (HK1.out.on hb)
  clear hb hb' n0 n1 nl HF1 HB1 HK1
  obtain ⟨n0, n1, _, _, nl⟩ := HF2.out
  obtain ⟨k0, kl⟩ := HK2.out
  by_cases h2 : 0 ≤ n
  rotate_left
  · have E := Lib.hid (HN.out (by simp [askU]; omega))
    have hs : FracMath.sgnI n = -1 := by rw [FracMath.sgnI, if_pos (by omega)]
    rw [hs]
    clear hs h2
    go_wp2
    refine bodyPost_ret (v := .tuple #[.int .i64 0, .bool false]) (by simp [results, Try.results18]) rfl ⟨by rw [E.out], HB2.out⟩
  have E := HG.out.symm.trans (upen_is H0.out h2)
  obtain ⟨z, hz⟩ : ∃ z, FracMath.sgnI n = z := ⟨_, rfl⟩
  have dz : decide (z < 0) = false := decide_eq_false (by rw [← hz, FracMath.sgnI, if_neg (by omega)]; split <;> omega)
  rw [hz]
  obtain ⟨⟨g, b⟩, hg⟩ : ∃ v, RoundF.rndR (mulR n d x 1).1 (mulR n d x 1).2.1 1 = v := ⟨_, rfl⟩
  have HR := Lib.hid hg
  rw [hg] at E
  have E := Lib.hid E
  clear hg hz h2 H0
  go_wp2_with fail
  refine (upe_i _ x n d).mono ?_
  rintro e1 w3 ⟨rfl, hb⟩
  rw [HR.out]
  have HB3 := Lib.hid (BelowKit.bl_trans HB2.out hb)
  clear hb n0 n1 nl k0 kl HF2 HK2 HB2
  go_wp2
  refine bodyPost_ret (v := .tuple #[.int .i64 g, .bool b]) (by simp [results, Try.results18]) rfl ⟨by rw [E.out], HB3.out⟩
set_option maxHeartbeats 4000000 in
theorem acc_i (w : World) (K R C s n d m : Int) (hm : min s (C * 1200) = m) (hC : 0 ≤ C ∧ C ≤ 60) (_ : 0 ≤ s ∧ s ≤ 72000) : Calls Try.prog 32 #[.agg #[.int .i64 K, .int .i64 R, .int .i64 C], .int .i64 s, .agg #[.int .i64 n, .int .i64 d]] w (IsFrac (mulR (mulR n d (newR R 10000).1 (newR R 10000).2.1).1 (mulR n d (newR R 10000).1 (newR R 10000).2.1).2.1 (newR m 1200).1 (newR m 1200).2.1) w) := by
  obtain ⟨⟨ra, rb, ro⟩, hr⟩ : ∃ v, newR R 10000 = v := ⟨_, rfl⟩
  obtain ⟨⟨ya, yb, yo⟩, hy⟩ : ∃ v, newR m 1200 = v := ⟨_, rfl⟩
  obtain ⟨⟨xa, xb, xo⟩, hx⟩ : ∃ v, mulR n d ra rb = v := ⟨_, rfl⟩
  obtain ⟨⟨pa, pb, po⟩, hp⟩ : ∃ v, mulR xa xb ya yb = v := ⟨_, rfl⟩
  have HRR := Lib.hid hr
  have HYY := Lib.hid hy
  have HXX := Lib.hid hx
  have HPP := Lib.hid hp
  have W1 : IntKind.i64.wrap (C * 1200) = C * 1200 := IntWalk.i64_in _ (by omega)
  have hcase : (s ≤ C * 1200 ∧ m = s) ∨ (¬ s ≤ C * 1200 ∧ m = C * 1200) := by omega
  rw [hr, hy]
  simp only []
  rw [hx]
  simp only []
  rw [hp]
  clear hr hy hx hp hm hC
  go_enter Try.func32, Try.ntmps32
  go_upto_region 1 with fail
  generalize hW : ((w.alloc _).alloc _).alloc _ = W
  have HB := Lib.hid (show Below w.heap.size w W by rw [← hW]; (repeat (first | exact Below.refl _ _ | apply BelowKit.bl_alloc | apply BelowKit.bl_drewN | apply BelowKit.bl_drew | (refine BelowKit.bl_set ?_ _ ?_; rotate_left; (first | omega | (simp; omega) | simp)) | (refine BelowKit.bl_trans ?_ (‹Hid (Below _ _ _)›).out))))
  have HD := Lib.hid (show Dk W w.heap.size K R C by rw [← hW]; exact ((Dk.new ..).on (BelowKit.bl_alloc (Below.refl _ _))).on (BelowKit.bl_alloc (Below.refl _ _)))
  have HF := Lib.hid (show Fk W (w.heap.size + 1) n d by rw [← hW]; exact (show Fk _ (w.heap.size + 1) n d by simpa using Fk.new (w.alloc _) n d _).on (BelowKit.bl_alloc (Below.refl _ _)))
  have HZ := Lib.hid (show Fk W (w.heap.size + 1 + 1) 0 0 by rw [← hW]; simpa using Fk.new ((w.alloc _).alloc _) 0 0 _)
  obtain ⟨k0, k1, k2, kl⟩ := HD.out
  clear hW
  go_wp2_with fail
  refine (FracI.new_i R 10000 _).mono ?_
  rintro e1 w3 ⟨rfl, hb⟩
  rw [HRR.out]
  have HD3 := Lib.hid (HD.out.on hb)
  have HF3 := Lib.hid (HF.out.on hb)
  have HZ3 := Lib.hid (HZ.out.on hb)
  have HB3 := Lib.hid (BelowKit.bl_trans HB.out hb)
  have HR3 := Lib.hid (Fk.new w3 ra rb 29)
  clear hb k0 k1 k2 kl HD HB HF HZ
  obtain ⟨k0, k1, k2, kl⟩ := HD3.out
  rcases hcase with ⟨hs9, rfl⟩ | ⟨hs9, rfl⟩
  all_goals
    go_wp2_with fail
    refine (FracI.new_i _ 1200 _).mono ?_
    rintro e1 w4 ⟨rfl, hb⟩
    rw [HYY.out]
    have hb' := one_on _ hb
    have HF4 := Lib.hid (HF3.out.on hb')
    have HZ4 := Lib.hid (HZ3.out.on hb')
    have HR4 := Lib.hid (HR3.out.on hb)
    have HB4 := Lib.hid (BelowKit.bl_trans HB3.out hb')
    have HY4 := Lib.hid (Fk.new w4 ya yb 29)
    clear hb hb' k0 k1 k2 kl HD3 HF3 HZ3 HR3 HB3 W1
    obtain ⟨n0, n1, _, _, nl⟩ := HF4.out
    obtain ⟨r0, r1, _, _, rl⟩ := HR4.out
    go_wp2_with fail
    refine (FracI.mul_i n d ra rb _).mono ?_
    rintro e1 w5 ⟨rfl, hb⟩
    rw [HXX.out]
    have hb' := one_on _ hb
    have HZ5 := Lib.hid (HZ4.out.on hb')
    have HY5 := Lib.hid (HY4.out.on hb)
    have HB5 := Lib.hid (BelowKit.bl_trans HB4.out hb')
    have HX5 := Lib.hid (Fk.new w5 xa xb 29)
    clear hb hb' n0 n1 nl r0 r1 rl HF4 HZ4 HR4 HB4 HY4
    obtain ⟨y0, y1, _, _, yl⟩ := HY5.out
    go_wp2_with fail
    refine (FracI.mul_i xa xb ya yb _).mono ?_
    rintro e1 w6 ⟨rfl, hb⟩
    rw [HPP.out]
    have hb' := one_on _ hb
    have HZ6 := Lib.hid (HZ5.out.on hb')
    have HB6 := Lib.hid (BelowKit.bl_trans HB5.out hb')
    clear hb hb' y0 y1 yl HZ5 HB5 HY5 HX5
    obtain ⟨z0, z1, g0, g1, zl⟩ := HZ6.out
    go_wp2
    refine bodyPost_ret (v := .tuple #[.agg #[.int .i64 pa, .int .i64 pb], .bool po]) (by simp [results, Try.results32, z0, z1, go_sem]) rfl ⟨rfl, ?_⟩
    exact set2 HB6.out (by omega)
theorem sets3 {w w' : World} {g : Nat} {u v : Value} (h : Below w.heap.size w w') (hg : w.heap.size ≤ g) (o : Obj) : Below w.heap.size w (((w'.setCell ⟨g, 0, none⟩ u).setCell ⟨g, 1, none⟩ v).alloc o) := BelowKit.bl_alloc (set2 h hg)
set_option maxHeartbeats 4000000 in
theorem accr_i (w : World) (K R C s n d : Int) : Calls Try.prog 13 #[.agg #[.int .i64 K, .int .i64 R, .int .i64 C], .int .i64 s, .agg #[.int .i64 n, .int .i64 d]] w (IsFrac (accr K R C s n d) w) := by
  obtain ⟨G, hG⟩ : ∃ G, accr K R C s n d = G := ⟨_, rfl⟩
  have HG := Lib.hid hG
  have HN := Lib.hid (fun h : askA K R C s n d = false => hG.symm.trans (accr_no h))
  rw [hG]
  clear hG
  have hta := as_s K R C
  obtain ⟨q, hq⟩ : ∃ q, isS K R C = q := ⟨_, rfl⟩
  obtain ⟨u1, h1⟩ : ∃ x, un (isS K R C) K = x := ⟨_, rfl⟩
  obtain ⟨u2, h2⟩ : ∃ x, un (isS K R C) R = x := ⟨_, rfl⟩
  obtain ⟨u3, h3⟩ : ∃ x, un (isS K R C) C = x := ⟨_, rfl⟩
  obtain ⟨V, hV⟩ : ∃ V, schV K R C = V := ⟨_, rfl⟩
  have HV := Lib.hid hV
  have HX := Lib.hid (And.intro h1 (And.intro h2 h3))
  have HQ := Lib.hid hq
  rw [h1, h2, h3, hq, hV] at hta
  clear h1 h2 h3 hq hV
  go_enter Try.func13, Try.ntmps13
  go_upto_region 1 with fail
  generalize hW : ((w.alloc _).alloc _).alloc _ = W
  have HB := Lib.hid (show Below w.heap.size w W by rw [← hW]; (repeat (first | exact Below.refl _ _ | apply BelowKit.bl_alloc | apply BelowKit.bl_drewN | apply BelowKit.bl_drew | (refine BelowKit.bl_set ?_ _ ?_; rotate_left; (first | omega | (simp; omega) | simp)) | (refine BelowKit.bl_trans ?_ (‹Hid (Below _ _ _)›).out))))
  have HD := Lib.hid (show Dk W w.heap.size K R C by rw [← hW]; exact ((Dk.new ..).on (BelowKit.bl_alloc (Below.refl _ _))).on (BelowKit.bl_alloc (Below.refl _ _)))
  have HF := Lib.hid (show Fk W (w.heap.size + 1) n d by rw [← hW]; exact (show Fk _ (w.heap.size + 1) n d by simpa using Fk.new (w.alloc _) n d _).on (BelowKit.bl_alloc (Below.refl _ _)))
  have HZ := Lib.hid (show Fk W (w.heap.size + 1 + 1) 0 0 by rw [← hW]; simpa using Fk.new ((w.alloc _).alloc _) 0 0 _)
  obtain ⟨k0, k1, k2, kl⟩ := HD.out
  clear hW
  go_wp2_with fail
  refine (sch_i _ K R C).mono ?_
  rintro e1 w1 ⟨rfl, hb⟩
  rw [HV.out]
  have HF1 := Lib.hid (HF.out.on hb)
  have HZ1 := Lib.hid (HZ.out.on hb)
  have HB1 := Lib.hid (BelowKit.bl_trans HB.out hb)
  have HK1 := Lib.hid (Dk.new w1 u1 u2 u3 52)
  clear hb k0 k1 k2 kl HD HB HF HZ HV
  obtain ⟨n0, n1, _, _, nl⟩ := HF1.out
  obtain ⟨z0, z1, g0, g1, zl⟩ := HZ1.out
  cases q with
  | false =>
    have E := Lib.hid (HN.out (by have := HQ.out; unfold isS at this; unfold askA; rw [← Bool.and_assoc, this]; rfl))
    have hr := (HZ1.out.put 0 0).on (BelowKit.bl_alloc (o := .cells #[.int .i64 u1, .int .i64 u2, .int .i64 u3] 52) (Below.refl _ _))
    clear HQ HX HK1 HN HG
    go_wp2
    refine bodyPost_ret (v := .tuple #[.agg #[.int .i64 0, .int .i64 0], .bool false]) (by simp [results, Try.results13, hr.c0, hr.c1, go_sem]) rfl ⟨by rw [E.out], ?_⟩
    exact sets3 HB1.out (by omega) _
  | true =>
  have h0 : okD K R C = true ∧ K ≤ 2 := by have := HQ.out; simpa [isS] using this
  obtain ⟨h0, hk⟩ := h0
  obtain rfl : u1 = K := by rw [← HX.out.1, HQ.out]; rfl
  obtain rfl : u2 = R := by rw [← HX.out.2.1, HQ.out]; rfl
  obtain rfl : u3 = C := by rw [← HX.out.2.2, HQ.out]; rfl
  have H0 := Lib.hid (And.intro h0 hk)
  clear HX HQ h0 hk
  go_wp2_with fail
  refine (upto_i s 72000 _).mono ?_
  rintro e1 w2 ⟨rfl, rfl⟩
  cases h1 : inB s 0 72000 with
  | false =>
    have E := Lib.hid (HN.out (by simp [askA, h1]))
    have hr := (HZ1.out.put 0 0).on (BelowKit.bl_alloc (o := .cells #[.int .i64 u1, .int .i64 u2, .int .i64 u3] 52) (Below.refl _ _))
    clear h1 HK1 HN HG
    go_wp2
    refine bodyPost_ret (v := .tuple #[.agg #[.int .i64 0, .int .i64 0], .bool false]) (by simp [results, Try.results13, hr.c0, hr.c1, go_sem]) rfl ⟨by rw [E.out], ?_⟩
    exact sets3 HB1.out (by omega) _
  | true =>
  have H1 := Lib.hid h1
  clear h1
  go_wp2_with fail
  refine (FracOps.sign_i n d _).mono ?_
  rintro e1 w2 ⟨rfl, hb⟩
  have hb' := one_on _ hb
  have HF2 := Lib.hid (HF1.out.on hb')
  have HZ2 := Lib.hid (HZ1.out.on hb')
  have HB2 := Lib.hid (BelowKit.bl_trans HB1.out hb')
  have HK2 := Lib.hid (HK1.out.on hb)
  clear hb hb' n0 n1 nl z0 z1 g0 g1 zl HF1 HB1 HK1 HZ1
  obtain ⟨n0, n1, _, _, nl⟩ := HF2.out
  obtain ⟨z0, z1, g0, g1, zl⟩ := HZ2.out
  obtain ⟨k0, k1, k2, kl⟩ := HK2.out
  by_cases h2 : 0 ≤ n
  rotate_left
  · have E := Lib.hid (HN.out (by simp [askA]; omega))
    have hs : FracMath.sgnI n = -1 := by rw [FracMath.sgnI, if_pos (by omega)]
    rw [hs]
    clear hs h2
    go_wp2
    refine bodyPost_ret (v := .tuple #[.agg #[.int .i64 0, .int .i64 0], .bool false]) (by simp [results, Try.results13, z0, z1, go_sem]) rfl ⟨by rw [E.out], ?_⟩
    exact set2 HB2.out (by omega)
  have E := HG.out.symm.trans (accr_is H0.out.1 H0.out.2 H1.out h2)
  obtain ⟨z, hz⟩ : ∃ z, FracMath.sgnI n = z := ⟨_, rfl⟩
  have dz : decide (z < 0) = false := decide_eq_false (by rw [← hz, FracMath.sgnI, if_neg (by omega)]; split <;> omega)
  rw [hz]
  obtain ⟨m, hm⟩ : ∃ m, min s (u3 * 1200) = m := ⟨_, rfl⟩
  have HM := Lib.hid hm
  have HCC := Lib.hid (show 0 ≤ u3 ∧ u3 ≤ 60 by have := (okD_of H0.out.1).2.2.1 H0.out.2; omega)
  have HSS := Lib.hid (inB_of H1.out)
  rw [rte, yrs, hm] at E
  obtain ⟨⟨pa, pb, po⟩, hp⟩ : ∃ v, mulR (mulR n d (newR u2 10000).1 (newR u2 10000).2.1).1 (mulR n d (newR u2 10000).1 (newR u2 10000).2.1).2.1 (newR m 1200).1 (newR m 1200).2.1 = v := ⟨_, rfl⟩
  have HR := Lib.hid hp
  rw [hp] at E
  have E := Lib.hid E
  clear hp hz h2 H0 hm
  go_wp2_with fail
  refine (acc_i _ u1 u2 u3 s n d m HM.out HCC.out HSS.out).mono ?_
  rintro e1 w3 ⟨rfl, hb⟩
  rw [HR.out]
  have HB3 := Lib.hid (BelowKit.bl_trans HB2.out hb)
  have HZ3 := Lib.hid (HZ2.out.on hb)
  clear hb n0 n1 nl k0 k1 k2 kl z0 z1 g0 g1 zl HF2 HK2 HB2 HZ2
  obtain ⟨z0, z1, g0, g1, zl⟩ := HZ3.out
  go_wp2
  refine bodyPost_ret (v := .tuple #[.agg #[.int .i64 pa, .int .i64 pb], .bool po]) (by simp [results, Try.results13, z0, z1, go_sem]) rfl ⟨by rw [E.out], ?_⟩
  exact set2 HB3.out (by omega)
end Go.Proofs.Ythhjnffbafmkpaa.AccruI

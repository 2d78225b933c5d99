/- Spells compared as structs, and the program's clamped. -/
import Derived.Test.YtkoeodmneedjcaaRows
import Derived.Test.YtkoeodmneedjcaaSpellMath
import Derived.Test.YtkoeodmneedjcaaClamp
import Derived.Test.YtkoeodmneedjcaaKit
import Derived.Laws.StructEq
import Derived.StillTailTactics
namespace Go.Proofs.Ytkoeodmneedjcaa.SpClI
open Go.RowKit RowN TSpell SpellMath Mon Clamp
theorem ht : Try.prog.underlying 34 = some (.struct (Try.prog.fieldsOf 34)) := by kernel_rfl
theorem hp : Try.prog.stoodInHeld 34 = false := by kernel_rfl
theorem hi : Try.prog.underlying 3 = some (.int .i64) := by kernel_rfl
theorem hb : Try.prog.underlying 4 = some .bool := by kernel_rfl
theorem fields (d : Nat) (a b c a' b' c' : Int) (v v' : Bool) (W : World) : (Op.eqFields (d + 1) #[.int .i64 a, .int .i64 b, .int .i64 c, .bool v] #[.int .i64 a', .int .i64 b', .int .i64 c', .bool v'] (Try.prog.fieldsOf 34).toList).run Try.prog W = .ok (a == a' && b == b' && c == c' && v == v') W := by
  obtain ⟨fs, hfs⟩ : ∃ fs, (Try.prog.fieldsOf 34).toList = fs := ⟨_, rfl⟩
  have h2 : fs.map (fun f => (f.name, f.type, f.offset)) = [("From", 3, 0), ("To", 3, 1), ("Percent", 3, 2), ("Leave", 4, 3)] := by rw [← hfs]; kernel_rfl
  rw [hfs]
  clear hfs
  have hl : fs.length = 4 := by simpa using congrArg List.length h2
  obtain ⟨f0, f1, f2, f3, rfl⟩ : ∃ f0 f1 f2 f3, fs = [f0, f1, f2, f3] := by
    match fs, hl with
    | [f0, f1, f2, f3], _ => exact ⟨f0, f1, f2, f3, rfl⟩
  simp at h2
  obtain ⟨⟨n0, t0, o0⟩, ⟨n1, t1, o1⟩, ⟨n2, t2, o2⟩, n3, t3, o3⟩ := h2
  by_cases h0 : a = a'
  case neg => simp [go_sem, n0, t0, o0, beq_eq_false_iff_ne.2 h0]
  case pos =>
  subst h0
  by_cases h1 : b = b'
  case neg => simp [go_sem, n0, t0, o0, n1, t1, o1, beq_eq_false_iff_ne.2 h1]
  case pos =>
  subst h1
  by_cases h2 : c = c'
  case neg => simp [go_sem, n0, t0, o0, n1, t1, o1, n2, t2, o2, beq_eq_false_iff_ne.2 h2]
  case pos =>
  subst h2
  cases v <;> cases v' <;> simp [go_sem, n0, t0, o0, n1, t1, o1, n2, t2, o2, n3, t3, o3]
theorem neq (a b c a' b' c' : Int) (v v' : Bool) (W : World) : (binOp .neq 34 (.agg #[.int .i64 a, .int .i64 b, .int .i64 c, .bool v]) (.agg #[.int .i64 a', .int .i64 b', .int .i64 c', .bool v'])).run Try.prog W = .ok (.bool (!(a == a' && b == b' && c == c' && v == v'))) W := by
  rw [run_neq_struct, run_equalIn_agg W 9999 _ _ _ ht hp, fields]
  rfl
/-- A spell whose numbers are moved into their ranges. -/
def clF (f : Int) : Int := clampN f 0 3599
def clT (f t : Int) : Int := clampN t (IntKind.i64.wrap (f + 1)) 3600
def clC (c : Int) : Int := clampN c 1 100
theorem clampN_eq {n lo hi : Int} (h : lo ≤ hi) : (n = clampN n lo hi) ↔ lo ≤ n ∧ n ≤ hi := by
  unfold clampN
  split
  · omega
  · split <;> omega
open Classical in
noncomputable def okPB (x : El) : Bool := decide (OkP x)
theorem okPB_of {x : El} (h : okPB x = true) : OkP x := by simpa [okPB] using h
theorem okPB_no {x : El} (h : okPB x = false) : ¬ OkP x := by simpa [okPB] using h
theorem same_cl (f t c : Int) (v : Bool) : (f == clF f && t == clT f t && c == clC c && v == v) = okPB ⟨f, t, c, v⟩ := by
  have e : (f = clF f ∧ t = clT f t ∧ c = clC c) ↔ OkP ⟨f, t, c, v⟩ := by
    show _ ↔ (0 ≤ f ∧ f < t ∧ t ≤ 3600 ∧ 1 ≤ c ∧ c ≤ 100)
    rw [clF, clC, clampN_eq (by omega), clampN_eq (by omega)]
    constructor
    · rintro ⟨h1, h2, h3⟩
      rw [clT, IntWalk.i64_in _ (by omega), clampN_eq (by omega)] at h2
      omega
    · rintro h
      rw [clT, IntWalk.i64_in _ (by omega), clampN_eq (by omega)]
      omega
  by_cases h : OkP ⟨f, t, c, v⟩
  · obtain ⟨h1, h2, h3⟩ := e.2 h
    rw [← h1, ← h2, ← h3]
    simp [okPB, h]
  · have : okPB ⟨f, t, c, v⟩ = false := by simp [okPB, h]
    rw [this]
    by_cases h1 : f = clF f
    · by_cases h2 : t = clT f t
      · have h3 : ¬ c = clC c := fun h3 => h (e.1 ⟨h1, h2, h3⟩)
        simp [beq_eq_false_iff_ne.2 h3]
      · simp [beq_eq_false_iff_ne.2 h2]
    · simp [beq_eq_false_iff_ne.2 h1]
theorem clamp_still (n lo hi v : Int) (w : World) (h : clampN n lo hi = v) : Calls Try.prog 50 #[.int .i64 n, .int .i64 lo, .int .i64 hi] w fun e w' => e = .returned (.int .i64 v) ∧ w' = w := by
  subst h
  exact (implClamp n lo hi w).mono fun e w' h => ⟨h.1, h.2.symm⟩
set_option maxHeartbeats 2000000 in
theorem clp_i (f t c : Int) (v : Bool) (w : World) : Calls Try.prog 37 #[.agg #[.int .i64 f, .int .i64 t, .int .i64 c, .bool v]] w (fun e w' => e = .returned (.agg #[.int .i64 (clF f), .int .i64 (clT f t), .int .i64 (clC c), .bool v]) ∧ Below w.heap.size w w') := by
  go_enter Try.func37, Try.ntmps37
  go_wp2_with fail
  obtain ⟨W, hW⟩ : ∃ W, W = (w.alloc (.cells #[.int .i64 f, .int .i64 t, .int .i64 c, .bool v] 34)).alloc (.cells #[.int .i64 0, .int .i64 0, .int .i64 0, .bool false] 34) := ⟨_, rfl⟩
  rw [← hW]
  obtain ⟨V, hV⟩ : ∃ V, V = W.drew := ⟨_, rfl⟩
  have c0 : V.cell? ⟨w.heap.size, 0, none⟩ = some (.int .i64 f) := by rw [hV, hW]; simp [go_sem]
  have c1 : V.cell? ⟨w.heap.size, 1, none⟩ = some (.int .i64 t) := by rw [hV, hW]; simp [go_sem]
  have c2 : V.cell? ⟨w.heap.size, 2, none⟩ = some (.int .i64 c) := by rw [hV, hW]; simp [go_sem]
  have c3 : V.cell? ⟨w.heap.size, 3, none⟩ = some (.bool v) := by rw [hV, hW]; simp [go_sem]
  have d0 : V.cell? ⟨w.heap.size + 1, 0, none⟩ = some (.int .i64 0) := by rw [hV, hW]; simp [go_sem]
  have d1 : V.cell? ⟨w.heap.size + 1, 1, none⟩ = some (.int .i64 0) := by rw [hV, hW]; simp [go_sem]
  have d2 : V.cell? ⟨w.heap.size + 1, 2, none⟩ = some (.int .i64 0) := by rw [hV, hW]; simp [go_sem]
  have d3 : V.cell? ⟨w.heap.size + 1, 3, none⟩ = some (.bool false) := by rw [hV, hW]; simp [go_sem]
  have e0 : V.frozen? ⟨w.heap.size + 1, 0, none⟩ = false := by rw [hV, hW]; simp [go_sem]
  have e1 : V.frozen? ⟨w.heap.size + 1, 1, none⟩ = false := by rw [hV, hW]; simp [go_sem]
  have e2 : V.frozen? ⟨w.heap.size + 1, 2, none⟩ = false := by rw [hV, hW]; simp [go_sem]
  have e3 : V.frozen? ⟨w.heap.size + 1, 3, none⟩ = false := by rw [hV, hW]; simp [go_sem]
  have HB := Lib.hid (show Below w.heap.size w V by rw [hV, hW]; (repeat (first | exact Below.refl _ _ | apply BelowKit.bl_alloc | apply BelowKit.bl_drewN | apply BelowKit.bl_drew | (refine BelowKit.bl_set ?_ _ ?_; rotate_left; (first | omega | (simp; omega) | simp)) | (refine BelowKit.bl_trans ?_ (‹Hid (Below _ _ _)›).out))))
  refine wp_region_still_tail 15 (by kernel_rfl) (by kernel_rfl) ?_
  simp only [List.take_succ_cons, List.take_zero, List.drop_succ_cons, List.drop_zero]
  change wpStill _ _ W.drew (fun a' => wpList _ _ _ _ a' W.drew) _ _
  rw [← hV]
  clear hV hW
  still_step
  still_step
  still_call (clamp_still _ _ _ (clF f) _ rfl)
  still_step
  still_step
  still_step
  still_step
  still_step
  still_call (clamp_still _ _ _ (clT f t) _ rfl)
  still_step
  still_step
  still_call (clamp_still _ _ _ (clC c) _ rfl)
  still_step
  still_step
  still_step
  refine wpStill_nil ?_
  go_wp2
  refine bodyPost_ret (v := .agg #[.int .i64 (clF f), .int .i64 (clT f t), .int .i64 (clC c), .bool v]) (by simp [results, Try.results37, go_sem, d0, d1, d2, d3]) rfl ⟨rfl, ?_⟩
  exact TSpell.below (g := w.heap.size + 1) (o := 0) HB.out (Nat.le_succ _)
theorem clp_g (f t c : Int) (v : Bool) {w0 : World} (X : Grown.G w0) :
    Calls Try.prog 37 #[.agg #[.int .i64 f, .int .i64 t, .int .i64 c, .bool v]] X.w (fun e w'' => e = .returned (.agg #[.int .i64 (clF f), .int .i64 (clT f t), .int .i64 (clC c), .bool v]) ∧ ∃ Y : Grown.G w0, w'' = Y.w) :=
  Grown.grown_of (clp_i f t c v X.w)
end Go.Proofs.Ytkoeodmneedjcaa.SpClI

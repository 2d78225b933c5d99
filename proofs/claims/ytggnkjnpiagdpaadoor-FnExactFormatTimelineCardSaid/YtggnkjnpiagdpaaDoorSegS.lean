/- Contracts of the model's functions on segments. -/
import Derived.Test.YtggnkjnpiagdpaaDoorRows
import Derived.Test.YtggnkjnpiagdpaaDoorSegMath
import Derived.Test.YtggnkjnpiagdpaaDoorQuiet
namespace Go.Proofs.YtggnkjnpiagdpaaDoor.SegS
open Go.RowKit RowN TSegment SegMath Mon
def IsInt (n : Int) (w : World) (e : Ending) (w' : World) : Prop := e = .returned (.int .i64 n) ∧ Below w.heap.size w w'
set_option maxHeartbeats 4000000 in
theorem ok_s (w : World) (p : Option Addr) (m cap : Nat) (l : List El) (hm : l.length = m) (hs : m ≤ 1099511627776) (h : Reads fc 3 w p l) :
    Calls Tryd.prog 30 #[.slice p m cap] w (IsBo (okT l) w) := by
  have KK := Lib.hid h
  have HM := Lib.hid hm
  obtain ⟨V, hV⟩ : ∃ V, okL l = V := ⟨_, rfl⟩
  have HV := Lib.hid hV
  rw [show okT l = (V && decide (m ≤ 401)) by rw [okT, hV, hm]]
  clear h hm hV
  go_enter Tryd.func30, Tryd.ntmps30
  go_wp2
  go_loopw [3] (fun i wr => ∃ j : Nat, j ≤ m ∧ i = .int .i64 (j : Int) ∧ Hid (rest l j = V) ∧ Hid (Below w.heap.size w wr)) (fun i _ => m - (intOf i).toNat)
  case atStart => exact ⟨0, Nat.zero_le _, rfl, HV, Lib.hid (Below.refl _ _)⟩
  case round =>
    obtain ⟨j, hj, rfl, HJ, HB⟩ := hrel
    by_cases hlt : j < m
    · obtain ⟨g, o, rfl, hgl, q0, q1, q2⟩ := read (KK.out.on HB.out) j (by rw [HM.out]; exact hlt)
      have b1 : (0 : Int) ≤ (j : Int) := by omega
      have b2 : (j : Int) < (m : Int) := by omega
      by_cases hz : j = 0
      case pos =>
        have E : (okX (l[j]'(by rw [HM.out]; exact hlt)) && rest l (j + 1)) = V := by
          have := HJ.out
          subst hz
          exact (rest_one (by rw [HM.out]; exact hlt)).symm.trans this
        have d0 : decide ((0 : Int) < (j : Int)) = false := decide_eq_false (by omega)
        have d0' : decide (0 < j) = false := decide_eq_false (by omega)
        clear hz
        generalize (l[j]'(by rw [HM.out]; exact hlt)) = x at q0 q1 q2 E
        obtain ⟨f, t, v⟩ := x
        simp only [] at q0 q1 q2 E
        have HBA := Lib.hid (BelowKit.bl_alloc (o := .cells #[.int .i64 f, .int .i64 t, .int .i64 v] 36) HB.out)
        clear HJ
        by_cases hX : 0 ≤ f ∧ f < t ∧ t ≤ 3600
        case neg =>
          rw [okX_no hX, Bool.false_and] at E
          subst E
          by_cases h1 : 0 ≤ f
          case neg =>
            clear hX
            go_wp2
            go_ret
            exact ⟨rfl, HBA.out⟩
          case pos =>
          by_cases h2 : f < t
          case neg =>
            clear hX
            go_wp2
            go_ret
            exact ⟨rfl, HBA.out⟩
          case pos =>
          have h3 : ¬ t ≤ 3600 := fun e => hX ⟨h1, h2, e⟩
          clear hX
          go_wp2
          go_ret
          exact ⟨rfl, HBA.out⟩
        case pos =>
        rw [okX_yes hX, Bool.true_and] at E
        have HE := Lib.hid E
        obtain ⟨h1, h2, h3⟩ := hX
        clear E
        go_wp2_with fail
        go_quiet (fail)
        go_wp2
        go_roundw
        case rel => exact ⟨j + 1, by omega, by go_num, HE, Lib.hid (below_drewN HBA.out _)⟩
        case measure => simp [intOf]; omega
      case neg =>
        obtain ⟨i, hi⟩ : ∃ i, j = i + 1 := ⟨j - 1, by omega⟩
        obtain ⟨g', o', e', _, r0, r1, r2⟩ := read (KK.out.on HB.out) i (by rw [HM.out]; omega)
        cases e'
        have E : (okX (l[j]'(by rw [HM.out]; exact hlt)) && (okP (l[i]'(by rw [HM.out]; omega)) (l[j]'(by rw [HM.out]; exact hlt)) && rest l (j + 1))) = V := by
          have := HJ.out
          subst hi
          exact (rest_next (by rw [HM.out]; exact hlt)).symm.trans this
        have W1 : IntKind.i64.wrap ((j : Int) - 1) = (i : Int) := by rw [IntWalk.i64_in _ (by omega)]; omega
        have d0 : decide ((0 : Int) < (j : Int)) = true := decide_eq_true (by omega)
        have d0' : decide (0 < j) = true := decide_eq_true (by omega)
        have b3 : (0 : Int) ≤ (i : Int) := by omega
        have b4 : (i : Int) < (m : Int) := by omega
        generalize (l[j]'(by rw [HM.out]; exact hlt)) = x at q0 q1 q2 E
        generalize (l[i]'(by rw [HM.out]; omega)) = y at r0 r1 r2 E
        clear hz hi
        obtain ⟨f, t, v⟩ := x
        obtain ⟨f', t', v'⟩ := y
        simp only [] at q0 q1 q2 r0 r1 r2 E
        have HBA := Lib.hid (BelowKit.bl_alloc (o := .cells #[.int .i64 f, .int .i64 t, .int .i64 v] 36) HB.out)
        clear HJ
        by_cases hX : 0 ≤ f ∧ f < t ∧ t ≤ 3600
        case neg =>
          rw [okX_no hX, Bool.false_and] at E
          subst E
          by_cases h1 : 0 ≤ f
          case neg =>
            clear hX
            go_wp2
            go_ret
            exact ⟨rfl, HBA.out⟩
          case pos =>
          by_cases h2 : f < t
          case neg =>
            clear hX
            go_wp2
            go_ret
            exact ⟨rfl, HBA.out⟩
          case pos =>
          have h3 : ¬ t ≤ 3600 := fun e => hX ⟨h1, h2, e⟩
          clear hX
          go_wp2
          go_ret
          exact ⟨rfl, HBA.out⟩
        case pos =>
        rw [okX_yes hX, Bool.true_and] at E
        obtain ⟨h1, h2, h3⟩ := hX
        by_cases hP1 : t' ≤ f
        case neg =>
          rw [okP_no (fun e => hP1 e.1), Bool.false_and] at E
          subst E
          have d1 : decide (f < t') = true := decide_eq_true (by omega)
          go_wp2_with fail
          go_quiet (fail)
          go_wp2
          go_ret
          exact ⟨rfl, below_drewN HBA.out _⟩
        case pos =>
        have d1 : decide (f < t') = false := decide_eq_false (by omega)
        by_cases hP2 : t' = f
        case neg =>
          rw [okP_yes ⟨hP1, fun e => hP2 e.1⟩, Bool.true_and] at E
          have HE := Lib.hid E
          have d2 : (t' == f) = false := beq_eq_false_iff_ne.2 hP2
          clear E
          go_wp2_with fail
          go_quiet (fail)
          go_wp2
          go_roundw
          case rel => exact ⟨j + 1, by omega, by go_num, HE, Lib.hid (below_drewN HBA.out _)⟩
          case measure => simp [intOf]; omega
        case pos =>
        have d2 : (t' == f) = true := by rw [hP2]; exact beq_self_eq_true f
        by_cases hP3 : v' = v
        · rw [okP_no (fun e => e.2 ⟨hP2, hP3⟩), Bool.false_and] at E
          subst E
          have d3 : (v' == v) = true := by rw [hP3]; exact beq_self_eq_true v
          go_wp2_with fail
          go_quiet (fail)
          go_wp2
          go_ret
          exact ⟨rfl, below_drewN HBA.out _⟩
        · rw [okP_yes ⟨hP1, fun e => hP3 e.2⟩, Bool.true_and] at E
          have HE := Lib.hid E
          have d3 : (v' == v) = false := beq_eq_false_iff_ne.2 hP3
          clear E
          go_wp2_with fail
          go_quiet (fail)
          go_wp2
          go_roundw
          case rel => exact ⟨j + 1, by omega, by go_num, HE, Lib.hid (below_drewN HBA.out _)⟩
          case measure => simp [intOf]; omega
    · obtain rfl : j = m := by omega
      have E := HJ.out
      rw [show rest l j = true by have := rest_end l; rw [HM.out] at this; exact this] at E
      subst E
      rw [Bool.true_and]
      have e9 : decide ((j : Int) ≤ 401) = decide (j ≤ 401) := decide_eq_decide.2 (by omega)
      have HE := Lib.hid e9
      clear e9
      go_wp2
      go_ret
      exact ⟨congrArg (fun b => Ending.returned (.bool b)) HE.out, HB.out⟩
end Go.Proofs.YtggnkjnpiagdpaaDoor.SegS

/- Contracts of the two validity tests of fractions: both answer okB; memory grows and nothing else. -/
import Derived.Test.YtkfgflmhefbinaaRows
import Derived.Test.YtkfgflmhefbinaaKit
import Derived.Test.YtkfgflmhefbinaaFracGcd
import Derived.WalkKit
import Derived.Below
import Derived.WalkSmall
import Derived.Lib.Hide
import Derived.BigQuiet
namespace Go.Proofs.Ytkfgflmhefbinaa.FracValid
open Go.RowKit FracMath FracGcd

/-- The bool x, in new memory. -/
def IsBool (x : Bool) (w : World) (e : Ending) (w' : World) : Prop := e = .returned (.bool x) ∧ Below w.heap.size w w'

set_option maxHeartbeats 1000000 in
theorem valid_i (n d : Int) (w : World) :
    Calls Try.prog 95 #[.agg #[.int .i64 n, .int .i64 d]] w (IsBool (okB n d) w) := by
  by_cases h1 : 1 ≤ d
  · by_cases h2 : d ≤ 1000000
    · by_cases h3 : -1000000000000 ≤ n ∧ n ≤ 1000000000000
      · obtain ⟨h3, h4⟩ := h3
        have EI := Lib.hid (inB_yes h3 h4)
        by_cases h5 : (Int.gcd n d : Int) = 1
        · rw [okB_yes h1 h2 h3 h4 h5]
          have HG := Lib.hid h5
          clear h5
          go_enter Try.func95, Try.ntmps95
          go_wp2_with fail
          refine (within_i _ _ _ (by omega) (by omega)).mono ?_
          rintro e w' ⟨rfl, rfl⟩
          rw [EI.out]
          go_wp2_with fail
          refine (gcd_i n d _ (by omega) (by omega) (by omega) (by omega)).mono ?_
          rintro e w' ⟨rfl, k, rfl⟩
          rw [HG.out]
          go_wp2
          go_ret
          exact ⟨rfl, below_drewN ((Below.refl _ _).alloc (Nat.le_refl _) _) _⟩
        · rw [okB_no (fun h => h5 h.2.2)]
          obtain ⟨g, hg⟩ : ∃ g : Int, (Int.gcd n d : Int) = g := ⟨_, rfl⟩
          rw [hg] at h5
          have hb : (g == 1) = false := by simpa using h5
          have HG := Lib.hid hg
          clear h5 hg
          go_enter Try.func95, Try.ntmps95
          go_wp2_with fail
          refine (within_i _ _ _ (by omega) (by omega)).mono ?_
          rintro e w' ⟨rfl, rfl⟩
          rw [EI.out]
          go_wp2_with fail
          refine (gcd_i n d _ (by omega) (by omega) (by omega) (by omega)).mono ?_
          rintro e w' ⟨rfl, k, rfl⟩
          rw [HG.out]
          go_wp2
          go_ret
          exact ⟨rfl, below_drewN ((Below.refl _ _).alloc (Nat.le_refl _) _) _⟩
      · rw [okB_no (fun h => h3 h.2.1)]
        have EI := Lib.hid (show inB n (-1000000000000) 1000000000000 = false by simp only [inB, decide_eq_false_iff_not]; exact h3)
        clear h3
        go_enter Try.func95, Try.ntmps95
        go_wp2_with fail
        refine (within_i _ _ _ (by omega) (by omega)).mono ?_
        rintro e w' ⟨rfl, rfl⟩
        rw [EI.out]
        go_wp2
        go_ret
        exact ⟨rfl, (Below.refl _ _).alloc (Nat.le_refl _) _⟩
    · rw [okB_no (fun h => h2 h.1.2)]
      go_enter Try.func95, Try.ntmps95
      go_wp2
      go_ret
      exact ⟨rfl, (Below.refl _ _).alloc (Nat.le_refl _) _⟩
  · rw [okB_no (fun h => h1 h.1.1)]
    go_enter Try.func95, Try.ntmps95
    go_wp2
    go_ret
    exact ⟨rfl, (Below.refl _ _).alloc (Nat.le_refl _) _⟩


set_option maxHeartbeats 1000000 in
theorem ok_s (n d : Int) (w : World) :
    Calls Try.prog 63 #[.agg #[.int .i64 n, .int .i64 d]] w (IsBool (okB n d) w) := by
  by_cases h1 : 1 ≤ d ∧ d ≤ 1000000
  · have ED := Lib.hid (inB_yes h1.1 h1.2)
    obtain ⟨h1, h2⟩ := h1
    by_cases h3 : -1000000000000 ≤ n ∧ n ≤ 1000000000000
    · obtain ⟨h3, h4⟩ := h3
      have EI := Lib.hid (inB_yes h3 h4)
      have hE : Int.gcd (n.natAbs : Int) d = Int.gcd n d := by simp [Int.gcd]
      obtain ⟨g, hg⟩ : ∃ g : Int, (Int.gcd n d : Int) = g := ⟨_, rfl⟩
      rw [← hE] at hg
      have HG := Lib.hid hg
      have E : okB n d = decide (g = 1) := by
        by_cases h5 : g = 1
        · rw [okB_yes h1 h2 h3 h4 (by rw [← hE, hg, h5])]; simp [h5]
        · rw [okB_no (fun h => h5 (by rw [← hg, hE]; exact h.2.2))]; simp [h5]
      rw [E]
      clear hE hg E
      have hb : ∃ b, decide (g = 1) = b ∧ (g == 1) = b := ⟨_, rfl, by rw [Bool.eq_iff_iff]; simp⟩
      obtain ⟨b, hb1, hb2⟩ := hb
      rw [hb1]
      clear hb1
      go_enter Try.func63, Try.ntmps63
      go_wp2
      go_quiet ((first
        | (go_at_call 64; with_reducible exact Quiet.left (in_s' d _ _ _ _ ED.out))
        | (go_at_call 64; with_reducible exact Quiet.left (in_s' n _ _ _ _ EI.out))
        | (go_at_call 103; with_reducible exact Quiet.left (abs_s n _ (by omega) (by omega)))
        | (go_at_call 102; with_reducible exact Quiet.left (gcd_s' _ _ g _ HG.out (by omega) (by omega) (by omega) (by omega)))))
      go_wp2
      go_ret
      exact ⟨rfl, below_drewN ((Below.refl _ _).alloc (Nat.le_refl _) _) _⟩
    · rw [okB_no (fun h => h3 h.2.1)]
      have EI := Lib.hid (show inB n (-1000000000000) 1000000000000 = false by simp only [inB, decide_eq_false_iff_not]; exact h3)
      clear h3
      go_enter Try.func63, Try.ntmps63
      go_wp2
      go_quiet ((first
        | (go_at_call 64; with_reducible exact Quiet.left (in_s' d _ _ _ _ ED.out))
        | (go_at_call 64; with_reducible exact Quiet.left (in_s' n _ _ _ _ EI.out))))
      go_wp2
      go_ret
      exact ⟨rfl, below_drewN ((Below.refl _ _).alloc (Nat.le_refl _) _) _⟩
  · rw [okB_no (fun h => h1 h.1)]
    have ED := Lib.hid (show inB d 1 1000000 = false by simp only [inB, decide_eq_false_iff_not]; exact h1)
    clear h1
    go_enter Try.func63, Try.ntmps63
    go_wp2
    go_quiet ((go_at_call 64; with_reducible exact Quiet.left (in_s' d _ _ _ _ ED.out)))
    go_wp2
    go_ret
    exact ⟨rfl, below_drewN ((Below.refl _ _).alloc (Nat.le_refl _) _) _⟩
end Go.Proofs.Ytkfgflmhefbinaa.FracValid

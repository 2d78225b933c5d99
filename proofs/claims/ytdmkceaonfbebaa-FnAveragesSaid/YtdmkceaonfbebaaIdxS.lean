/- Contracts of the model's IndexAt. Written by gen_idxs.py. -/
import Derived.Test.YtdmkceaonfbebaaRows
import Derived.Test.YtdmkceaonfbebaaPointMath
import Derived.Test.YtdmkceaonfbebaaKit
namespace Go.Proofs.Ytdmkceaonfbebaa.IdxS
open Go.RowKit RowN TPoint PointMath Mon Box
def IsVal (r : Int × Bool) (w : World) (e : Ending) (w' : World) : Prop := e = .returned (.tuple #[.int .i64 r.1, .bool r.2]) ∧ Below w.heap.size w w'
/-- The index of the best of the first j points, or -1. -/
def At (M kn : Int) (l : List El) (j : Nat) (b : Int) : Prop := (b = -1 ∧ bestOf M kn (l.take j) = none) ∨ ∃ (i : Nat) (h : i < l.length), b = (i : Int) ∧ bestOf M kn (l.take j) = some l[i]
theorem At.zero (M kn : Int) (l : List El) : At M kn l 0 (-1) := .inl ⟨rfl, rfl⟩
theorem At.skip {M kn : Int} {l : List El} {j : Nat} {b : Int} (h : At M kn l j b) (hj : j < l.length) (hn : ¬ (l[j].Month ≤ M ∧ l[j].Known ≤ kn ∧ ∀ y, bestOf M kn (l.take j) = some y → y.Month ≤ l[j].Month)) : At M kn l (j + 1) b := by
  unfold At at *
  rw [best_take M kn l j hj, better_no hn]
  exact h
theorem At.take {M kn : Int} {l : List El} {j : Nat} (hj : j < l.length) (h1 : l[j].Month ≤ M) (h2 : l[j].Known ≤ kn) (h3 : ∀ y, bestOf M kn (l.take j) = some y → y.Month ≤ l[j].Month) : At M kn l (j + 1) (j : Int) :=
  .inr ⟨j, hj, rfl, by rw [best_take M kn l j hj, better_yes h1 h2 h3]⟩
set_option maxHeartbeats 8000000 in
theorem idx_s (w : World) (p : Option Addr) (m cap : Nat) (l : List El) (M kn : Int) (hm : l.length = m) (hs : m ≤ 1099511627776) (h : Reads fc 3 w p l) :
    Calls Try.prog 50 #[.agg #[.slice p m cap], .int .i64 M, .int .i64 kn] w (IsVal (idx M kn l) w) := by
  have KK := Lib.hid h
  have HM := Lib.hid hm
  obtain ⟨R, hR⟩ : ∃ R, idx M kn l = R := ⟨_, rfl⟩
  have HR := Lib.hid hR
  rw [hR]
  clear h hm hR
  go_enter Try.func50, Try.ntmps50
  go_wp2
  go_loopw [8, 9] (fun bv i wr => ∃ (j : Nat) (b : Int), j ≤ m ∧ i = .int .i64 (j : Int) ∧ bv = .int .i64 b ∧ Hid (At M kn l j b) ∧ Hid (Below (boxed w (.slice p m cap) 29).heap.size (boxed w (.slice p m cap) 29) wr)) (fun _ i _ => m - (intOf i).toNat)
  case atStart => exact ⟨0, -1, Nat.zero_le _, rfl, rfl, Lib.hid (At.zero _ _ _), Lib.hid (Below.refl _ _)⟩
  case round =>
    obtain ⟨j, b, hj, rfl, rfl, HA, HB⟩ := hrel
    have hc := box_cell HB.out
    have hz := box_size HB.out
    by_cases hlt : j < m
    · have HLT := Lib.hid (show j < l.length by rw [HM.out]; exact hlt)
      obtain ⟨g, o, rfl, hgl, q0, q1, q2⟩ := read (KK.out.on (box_below HB.out)) j HLT.out
      have HS : Hid (¬ ((l[j]'HLT.out).Month ≤ M ∧ (l[j]'HLT.out).Known ≤ kn ∧ ∀ y, bestOf M kn (l.take j) = some y → y.Month ≤ (l[j]'HLT.out).Month) → At M kn l (j + 1) b) := Lib.hid (HA.out.skip HLT.out)
      have HT : Hid ((l[j]'HLT.out).Month ≤ M → (l[j]'HLT.out).Known ≤ kn → (∀ y, bestOf M kn (l.take j) = some y → y.Month ≤ (l[j]'HLT.out).Month) → At M kn l (j + 1) (j : Int)) := Lib.hid (At.take HLT.out)
      have b1 : (0 : Int) ≤ (j : Int) := by omega
      have b2 : (j : Int) < (m : Int) := by omega
      generalize (l[j]'HLT.out) = x at q0 q1 q2 HS HT
      obtain ⟨mo, k, v⟩ := x
      simp only [] at q0 q1 q2 HS HT
      have HBA := Lib.hid (BelowKit.bl_alloc (o := .cells #[.int .i64 mo, .int .i64 k, .int .i64 v] 43) HB.out)
      by_cases h1 : mo ≤ M
      case neg =>
        have E := Lib.hid (HS.out (fun e => h1 e.1))
        have d1 : decide (mo ≤ M) = false := decide_eq_false h1
        clear HS HT HA h1
        go_wp2_with fail
        go_quiet (fail)
        go_wp2
        go_roundw
        case rel => exact ⟨j + 1, b, by omega, by go_num, rfl, E, Lib.hid (below_drewN HBA.out _)⟩
        case measure => simp [intOf]; omega
      case pos =>
      have d1 : decide (mo ≤ M) = true := decide_eq_true h1
      by_cases h2 : k ≤ kn
      case neg =>
        have E := Lib.hid (HS.out (fun e => h2 e.2.1))
        have d2 : decide (k ≤ kn) = false := decide_eq_false h2
        clear HS HT HA h1 h2
        go_wp2_with fail
        go_quiet (fail)
        go_wp2
        go_roundw
        case rel => exact ⟨j + 1, b, by omega, by go_num, rfl, E, Lib.hid (below_drewN HBA.out _)⟩
        case measure => simp [intOf]; omega
      case pos =>
      have d2 : decide (k ≤ kn) = true := decide_eq_true h2
      have HT := Lib.hid (HT.out h1 h2)
      rcases HA.out with ⟨hb, hn⟩ | ⟨i, hi, hb, hn⟩
      · have E := Lib.hid (HT.out (fun y e => by rw [hn] at e; cases e))
        subst hb
        clear HS HT HA h1 h2 hn
        go_wp2_with fail
        go_quiet (fail)
        go_wp2
        go_roundw
        case rel => exact ⟨j + 1, j, by omega, by go_num, rfl, E, Lib.hid (below_drewN HBA.out _)⟩
        case measure => simp [intOf]; omega
      · obtain ⟨g', o', e', y1, r0, y2, y3⟩ := read (KK.out.on (box_below HB.out)) i hi
        clear y1 y2 y3
        cases e'
        have HIM := Lib.hid (show i < m by rw [← HM.out]; exact hi)
        have HS : Hid (¬ (l[i].Month ≤ mo) → At M kn l (j + 1) b) := Lib.hid (fun e => HS.out (fun e2 => e (e2.2.2 _ hn)))
        have HT : Hid (l[i].Month ≤ mo → At M kn l (j + 1) (j : Int)) := Lib.hid (fun e => HT.out (fun y e2 => by rw [hn] at e2; cases e2; exact e))
        generalize l[i].Month = s at r0 HS HT
        subst hb
        clear hi hn HA h1 h2
        have b3 : (0 : Int) ≤ (i : Int) := by omega
        have b4 : (i : Int) < (m : Int) := by have := HIM.out; omega
        have d3 : decide ((i : Int) < 0) = false := decide_eq_false (by omega)
        by_cases h3 : s ≤ mo
        · have E := Lib.hid (HT.out h3)
          have d4 : decide (s ≤ mo) = true := decide_eq_true h3
          clear HS HT h3
          go_wp2_with fail
          go_quiet (fail)
          go_wp2
          go_roundw
          case rel => exact ⟨j + 1, j, by omega, by go_num, rfl, E, Lib.hid (below_drewN HBA.out _)⟩
          case measure => simp [intOf]; omega
        · have E := Lib.hid (HS.out h3)
          have d4 : decide (s ≤ mo) = false := decide_eq_false h3
          clear HS HT h3
          go_wp2_with fail
          go_quiet (fail)
          go_wp2
          go_roundw
          case rel => exact ⟨j + 1, i, by omega, by go_num, rfl, E, Lib.hid (below_drewN HBA.out _)⟩
          case measure => simp [intOf]; omega
    · obtain rfl : j = m := by omega
      have HAE : Hid ((b = -1 ∧ bestOf M kn l = none) ∨ ∃ (i : Nat) (h : i < l.length), b = (i : Int) ∧ bestOf M kn l = some l[i]) := Lib.hid (by have := HA.out; unfold At at this; rw [List.take_of_length_le (by rw [HM.out]; exact Nat.le_refl _)] at this; exact this)
      rcases HAE.out with ⟨hb, hn⟩ | ⟨i, hi, hb, hn⟩
      · have E := Lib.hid (show R = (0, false) by rw [← HR.out, idx, hn]; rfl)
        subst hb
        clear HA HAE hn HR
        go_wp2
        refine bodyPost_ret (v := .tuple #[.int .i64 0, .bool false]) (by simp [results, Try.results50, go_sem]) rfl ?_
        rw [E.out]
        exact ⟨rfl, box_below HB.out⟩
      · have E := Lib.hid (show R = (l[i].Value, true) by rw [← HR.out, idx, hn]; rfl)
        obtain ⟨g, o, rfl, hgl, y1, y2, r2⟩ := read (KK.out.on (box_below HB.out)) i hi
        generalize l[i].Value = s at r2 E
        have HIM := Lib.hid (show i < j by rw [← HM.out]; exact hi)
        subst hb
        clear y1 y2 hi hn HA HAE HR
        have b3 : (0 : Int) ≤ (i : Int) := by omega
        have b4 : (i : Int) < (j : Int) := by have := HIM.out; omega
        go_wp2
        refine bodyPost_ret (v := .tuple #[.int .i64 s, .bool true]) (by simp [results, Try.results50, go_sem]) rfl ?_
        rw [E.out]
        exact ⟨rfl, box_below HB.out⟩
end Go.Proofs.Ytdmkceaonfbebaa.IdxS

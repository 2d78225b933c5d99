/- Contracts of both sides' ValueAt: the value of a month as it was known. -/
import Derived.Test.YtdmkceaonfbebaaRows
import Derived.Test.YtdmkceaonfbebaaFactRow
import Derived.Test.YtdmkceaonfbebaaFactMath
import Derived.Test.YtdmkceaonfbebaaKit
namespace Go.Proofs.Ytdmkceaonfbebaa.ValueAt
open Go.RowKit RowN Fact FactRow FactMath Box
def IsVal (r : Int × Bool) (w : World) (e : Ending) (w' : World) : Prop := e = .returned (.tuple #[.int .i64 r.1, .bool r.2]) ∧ Below w.heap.size w w'

set_option maxHeartbeats 2000000 in
theorem val_i (w : World) (p : Option Addr) (m cap : Nat) (l : List Fa) (key mo kn : Int) (hm : l.length = m) (hs : m ≤ 1099511627776) (h : ReadsF w p l) :
    Calls Try.prog 80 #[.agg #[.slice p m cap], .int .i64 key, .int .i64 mo, .int .i64 kn] w (IsVal (val key mo kn l) w) := by
  have KK := Lib.hid h
  have HM := Lib.hid hm
  obtain ⟨V, hV⟩ : ∃ V, val key mo kn l = V := ⟨_, rfl⟩
  have HV := Lib.hid hV
  rw [hV]
  clear h hm hV
  go_enter Try.func80, Try.ntmps80
  go_wp2
  go_loopw [10] (fun i wr => ∃ j : Nat, j ≤ m ∧ i = .int .i64 ((j : Int) - 1) ∧ Hid (val key mo kn (l.take j) = V) ∧ Hid (Below (boxed w (.slice p m cap) 26).heap.size (boxed w (.slice p m cap) 26) wr)) (fun i _ => (intOf i + 1).toNat)
  case atStart => exact ⟨m, Nat.le_refl _, rfl, by rw [List.take_of_length_le (by rw [HM.out]; exact Nat.le_refl _)]; exact HV, Lib.hid (Below.refl _ _)⟩
  case round =>
    obtain ⟨j, hj, rfl, HJ, HB⟩ := hrel
    have hc := box_cell HB.out
    have hz := box_size HB.out
    cases j with
    | zero =>
      have e := HJ.out
      rw [List.take_zero, val_nil] at e
      go_wp2
      refine bodyPost_ret (v := .tuple #[.int .i64 0, .bool false]) (by simp [results, Try.results80, go_sem]) rfl ?_
      rw [← e]
      exact ⟨rfl, box_below HB.out⟩
    | succ j =>
      obtain ⟨g, o, rfl, hgl, q0, q1, q2, q3, q4⟩ := read5 ((KK.out.on (box_below HB.out))) j (by rw [HM.out]; omega)
      have HT := val_take key mo kn l j (by rw [HM.out]; omega)
      rw [HJ.out] at HT
      generalize (l[j]'(by rw [HM.out]; omega)) = x at q0 q1 q2 q3 q4 HT
      obtain ⟨k, f, t, n, v⟩ := x
      simp only [] at q0 q1 q2 q3 q4 HT
      rw [show ((j + 1 : Nat) : Int) - 1 = (j : Int) by omega]
      have HT := Lib.hid HT
      have b1 : (0 : Int) ≤ (j : Int) := by omega
      have b2 : (j : Int) < (m : Int) := by omega
      clear HJ
      by_cases h1 : k = key
      case neg =>
        have E := HT.out
        rw [if_neg (by rw [hit_no (fun e => h1 e.1)]; exact Bool.false_ne_true)] at E
        have HE := Lib.hid E.symm
        clear E HT
        go_wp2
        go_roundw
        case rel => exact ⟨j, by omega, rfl, HE, Lib.hid (by have HB' := HB.out; exact BelowKit.bl_alloc HB')⟩
        case measure => simp [intOf]
      case pos =>
      subst h1
      by_cases h2 : f ≤ mo
      case neg =>
        have E := HT.out
        rw [if_neg (by rw [hit_no (fun e => h2 e.2.1)]; exact Bool.false_ne_true)] at E
        have HE := Lib.hid E.symm
        clear E HT
        go_wp2
        go_roundw
        case rel => exact ⟨j, by omega, rfl, HE, Lib.hid (by have HB' := HB.out; exact BelowKit.bl_alloc HB')⟩
        case measure => simp [intOf]
      case pos =>
      by_cases h3 : mo < t
      case neg =>
        have E := HT.out
        rw [if_neg (by rw [hit_no (fun e => h3 e.2.2.1)]; exact Bool.false_ne_true)] at E
        have HE := Lib.hid E.symm
        clear E HT
        go_wp2
        go_roundw
        case rel => exact ⟨j, by omega, rfl, HE, Lib.hid (by have HB' := HB.out; exact BelowKit.bl_alloc HB')⟩
        case measure => simp [intOf]
      case pos =>
      by_cases h4 : n ≤ kn
      case neg =>
        have E := HT.out
        rw [if_neg (by rw [hit_no (fun e => h4 e.2.2.2)]; exact Bool.false_ne_true)] at E
        have HE := Lib.hid E.symm
        clear E HT
        go_wp2
        go_roundw
        case rel => exact ⟨j, by omega, rfl, HE, Lib.hid (by have HB' := HB.out; exact BelowKit.bl_alloc HB')⟩
        case measure => simp [intOf]
      case pos =>
      have E := HT.out
      have hh : hit k mo kn ⟨k, f, t, n, v⟩ = true := hit_yes ⟨rfl, h2, h3, h4⟩
      rw [if_pos hh] at E
      clear HT hh
      go_wp2
      refine bodyPost_ret (v := .tuple #[.int .i64 v, .bool true]) (by simp [results, Try.results80, go_sem]) rfl ?_
      rw [E]
      exact ⟨rfl, BelowKit.bl_alloc (box_below HB.out)⟩

set_option maxHeartbeats 2000000 in
theorem val_s (w : World) (p : Option Addr) (m cap : Nat) (l : List Fa) (key mo kn : Int) (hm : l.length = m) (hs : m ≤ 1099511627776) (h : ReadsF w p l) :
    Calls Try.prog 16 #[.agg #[.slice p m cap], .int .i64 key, .int .i64 mo, .int .i64 kn] w (IsVal (val key mo kn l) w) := by
  have KK := Lib.hid h
  have HM := Lib.hid hm
  obtain ⟨V, hV⟩ : ∃ V, val key mo kn l = V := ⟨_, rfl⟩
  have HV := Lib.hid hV
  rw [hV]
  clear h hm hV
  go_enter Try.func16, Try.ntmps16
  go_wp2
  go_loopw [10] (fun i wr => ∃ j : Nat, j ≤ m ∧ i = .int .i64 ((j : Int) - 1) ∧ Hid (val key mo kn (l.take j) = V) ∧ Hid (Below (boxed w (.slice p m cap) 26).heap.size (boxed w (.slice p m cap) 26) wr)) (fun i _ => (intOf i + 1).toNat)
  case atStart => exact ⟨m, Nat.le_refl _, rfl, by rw [List.take_of_length_le (by rw [HM.out]; exact Nat.le_refl _)]; exact HV, Lib.hid (Below.refl _ _)⟩
  case round =>
    obtain ⟨j, hj, rfl, HJ, HB⟩ := hrel
    have hc := box_cell HB.out
    have hz := box_size HB.out
    cases j with
    | zero =>
      have e := HJ.out
      rw [List.take_zero, val_nil] at e
      go_wp2
      refine bodyPost_ret (v := .tuple #[.int .i64 0, .bool false]) (by simp [results, Try.results16, go_sem]) rfl ?_
      rw [← e]
      exact ⟨rfl, box_below HB.out⟩
    | succ j =>
      obtain ⟨g, o, rfl, hgl, q0, q1, q2, q3, q4⟩ := read5 ((KK.out.on (box_below HB.out))) j (by rw [HM.out]; omega)
      have HT := val_take key mo kn l j (by rw [HM.out]; omega)
      rw [HJ.out] at HT
      generalize (l[j]'(by rw [HM.out]; omega)) = x at q0 q1 q2 q3 q4 HT
      obtain ⟨k, f, t, n, v⟩ := x
      simp only [] at q0 q1 q2 q3 q4 HT
      rw [show ((j + 1 : Nat) : Int) - 1 = (j : Int) by omega]
      have HT := Lib.hid HT
      have b1 : (0 : Int) ≤ (j : Int) := by omega
      have b2 : (j : Int) < (m : Int) := by omega
      clear HJ
      by_cases h1 : k = key
      case neg =>
        have E := HT.out
        rw [if_neg (by rw [hit_no (fun e => h1 e.1)]; exact Bool.false_ne_true)] at E
        have HE := Lib.hid E.symm
        clear E HT
        go_wp2
        go_roundw
        case rel => exact ⟨j, by omega, rfl, HE, Lib.hid (by have HB' := HB.out; exact BelowKit.bl_alloc HB')⟩
        case measure => simp [intOf]
      case pos =>
      subst h1
      by_cases h2 : f ≤ mo
      case neg =>
        have E := HT.out
        rw [if_neg (by rw [hit_no (fun e => h2 e.2.1)]; exact Bool.false_ne_true)] at E
        have HE := Lib.hid E.symm
        clear E HT
        go_wp2
        go_roundw
        case rel => exact ⟨j, by omega, rfl, HE, Lib.hid (by have HB' := HB.out; exact BelowKit.bl_alloc HB')⟩
        case measure => simp [intOf]
      case pos =>
      by_cases h3 : mo < t
      case neg =>
        have E := HT.out
        rw [if_neg (by rw [hit_no (fun e => h3 e.2.2.1)]; exact Bool.false_ne_true)] at E
        have HE := Lib.hid E.symm
        clear E HT
        go_wp2
        go_roundw
        case rel => exact ⟨j, by omega, rfl, HE, Lib.hid (by have HB' := HB.out; exact BelowKit.bl_alloc HB')⟩
        case measure => simp [intOf]
      case pos =>
      by_cases h4 : n ≤ kn
      case neg =>
        have E := HT.out
        rw [if_neg (by rw [hit_no (fun e => h4 e.2.2.2)]; exact Bool.false_ne_true)] at E
        have HE := Lib.hid E.symm
        clear E HT
        go_wp2
        go_roundw
        case rel => exact ⟨j, by omega, rfl, HE, Lib.hid (by have HB' := HB.out; exact BelowKit.bl_alloc HB')⟩
        case measure => simp [intOf]
      case pos =>
      have E := HT.out
      have hh : hit k mo kn ⟨k, f, t, n, v⟩ = true := hit_yes ⟨rfl, h2, h3, h4⟩
      rw [if_pos hh] at E
      clear HT hh
      go_wp2
      refine bodyPost_ret (v := .tuple #[.int .i64 v, .bool true]) (by simp [results, Try.results16, go_sem]) rfl ?_
      rw [E]
      exact ⟨rfl, BelowKit.bl_alloc (box_below HB.out)⟩
end Go.Proofs.Ytdmkceaonfbebaa.ValueAt

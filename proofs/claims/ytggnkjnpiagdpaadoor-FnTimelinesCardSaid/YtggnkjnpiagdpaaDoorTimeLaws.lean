/- What the law on timelines asks, of a valid store: the line is valid, shows the value of every month, sums to the sum of the months' values, and has a text exactly where it has a segment. -/
import Derived.Test.YtggnkjnpiagdpaaDoorLineLaws
import Derived.Test.YtggnkjnpiagdpaaDoorLineTx
namespace Go.Proofs.YtggnkjnpiagdpaaDoor.TimeLaws
open TSegment SegMath Mon Fact FactMath LineMath LineLaws LineTx

theorem line_to {l : List Fa} {key kn t : Int} (h : okS l = true) (hk : inB kn 0 3599 = true) (h0 : 0 ≤ t) (h1 : t ≤ 3600) : line l key kn 0 t = lineTo key kn 0 l t.toNat := by
  unfold line
  rw [if_pos ⟨h, hk, inB_yes (by omega) (by omega), inB_yes h0 h1⟩]
  simp
section
variable {l : List Fa} {key kn : Int} {n : Nat} (h : okS l = true) (hn : n ≤ 400)
include hn in
theorem line_ok : okT (lineTo key kn 0 l n) = true := by
  have h1 := is_line key kn 0 l (Int.le_refl _) n (by omega)
  have h2 := lineTo_len key kn 0 l n
  unfold okT
  rw [h1.ok, decide_eq_true (by omega)]
  rfl
include hn in
theorem line_seen (j : Nat) (hj : j < n) : LineLaws.seen (lineTo key kn 0 l n) (j : Int) = if (val key (j : Int) kn l).2 = true then some (val key (j : Int) kn l).1 else none :=
  (is_line key kn 0 l (Int.le_refl _) n (by omega)).val (j : Int) (by omega) (by omega)
include h hn in
theorem line_sum {a b : Int} (h5 : 0 ≤ a) (h6 : a ≤ 3600) (h7 : 0 ≤ b) (h8 : b ≤ 3600) : sumO (lineTo key kn 0 l n) a b = tot (fun m => val key m kn l) a b 0 n := by
  unfold sumO
  rw [if_pos ⟨line_ok hn, inB_yes h5 h6, inB_yes h7 h8⟩, sumT_part a b _ (vals_line key kn 0 l (fun m => val_bd key m kn l h) n) 0, Int.zero_add, part_line key kn 0 a b l (Int.le_refl _) h5 h6 h7 h8 n (by omega)]
theorem tot_step (a b : Int) (j : Nat) : tot (fun m => val key m kn l) a b 0 (j + 1) = tot (fun m => val key m kn l) a b 0 j + if a ≤ (j : Int) ∧ (j : Int) < b then (val key (j : Int) kn l).1 else 0 := by
  simp only [tot, Int.zero_add]
  cases ho : (val key (j : Int) kn l).2 with
  | true => simp
  | false => simp [val_none key (j : Int) kn l ho]
include h in
theorem val_in (m : Int) : -1000000000 ≤ (val key m kn l).1 ∧ (val key m kn l).1 ≤ 1000000000 := by
  cases ho : (val key m kn l).2 with
  | true => exact inB_of (val_bd key m kn l h ho)
  | false => rw [val_none key m kn l ho]; omega
include h in
theorem tot_in (a b : Int) (j : Nat) : -1000000000 * (j : Int) ≤ tot (fun m => val key m kn l) a b 0 j ∧ tot (fun m => val key m kn l) a b 0 j ≤ 1000000000 * (j : Int) := by
  induction j with
  | zero => exact ⟨by simp [tot], by simp [tot]⟩
  | succ j ih =>
    rw [tot_step]
    have := val_in (key := key) (kn := kn) h (j : Int)
    split <;> omega
include h in
theorem line_vals : ∀ x ∈ lineTo key kn 0 l n, InV x := fun x hx => by
  obtain ⟨h1, h2⟩ := inB_of (vals_line key kn 0 l (fun m => val_bd key m kn l h) n x hx)
  exact ⟨by omega, by omega⟩
end
theorem text_nil : lineTx [] = ⟨#[]⟩ := by
  unfold lineTx
  split <;> rfl
theorem text_ne {L : List El} (h : okT L = true) (h0 : 0 < L.length) : (lineTx L).size ≠ 0 := by
  unfold lineTx
  rw [if_pos h]
  obtain ⟨k, hk⟩ : ∃ k, L.length = k + 1 := ⟨L.length - 1, by omega⟩
  have hs : ∀ x : El, 0 < (segB x).length := fun x => by
    have e : (segB x).length = (segTx x).size := by simp [segB]
    have e1 : dots.size = 2 := rfl
    rw [e, segTx]
    simp only [ByteArray.size_append]
    omega
  have e : ((⟨(acc L L.length).toArray⟩ : ByteArray)).size = (acc L L.length).length := by simp [ByteArray.size]
  rw [e, hk]
  rcases Nat.eq_zero_or_pos k with rfl | hp
  · rw [acc_one h0]; have := hs L[0]; omega
  · rw [acc_next hp (by omega)]
    simp only [List.length_append, List.length_singleton]
    omega
/-- Where the months' values are shown, the segment's index is right. -/
theorem at_none {L : List El} {m : Int} (h : LineLaws.seen L m = none) : segT m L 0 = -1 := segT_none m L 0 h
theorem at_some {L : List El} {m v : Int} (h : LineLaws.seen L m = some v) : ∃ (i : Nat) (hi : i < L.length), segT m L 0 = (i : Int) ∧ L[i].Value = v := by
  obtain ⟨i, hi, e1, e2⟩ := segT_some m L 0 v h
  exact ⟨i, hi, by rw [e1]; omega, e2⟩
end Go.Proofs.YtggnkjnpiagdpaaDoor.TimeLaws

/- The drawn pay: a first fact for the months 0 to 59, and what became known later. -/
import Derived.Test.YtdmkceaonfbebaaPayMath
import Derived.Test.YtdmkceaonfbebaaFactLaws
namespace Go.Proofs.Ytdmkceaonfbebaa.PayLaws
open Fact FactMath PayMath Mon
def Good (x : Fa) : Prop := x.k = 1 ∧ 0 ≤ x.f ∧ x.f < x.t ∧ x.t ≤ 60 ∧ 0 ≤ x.n ∧ x.n ≤ 99 ∧ 100000 ≤ x.v ∧ x.v ≤ 199900
structure Paid (l : List Fa) : Prop where
  first : ∃ x r, l = x :: r ∧ x.k = 1 ∧ x.f = 0 ∧ x.t = 60 ∧ x.n = 0
  each : ∀ x ∈ l, Good x
  ok : OkS l
theorem good_ok {x : Fa} (h : Good x) : okF x = true := by
  unfold Good at h
  simp only [okF, inB, Bool.and_eq_true, decide_eq_true_eq]
  omega
theorem ok_one {x : Fa} (h : Good x) : OkS [x] := ⟨by simp, fun i hi => by
  obtain rfl : i = 0 := by simp at hi; omega
  exact good_ok h, fun i hi => by simp at hi⟩
theorem Paid.one {v : Int} (h1 : 100000 ≤ v) (h2 : v ≤ 199900) : Paid [⟨1, 0, 60, 0, v⟩] := by
  have hg : Good ⟨1, 0, 60, 0, v⟩ := ⟨rfl, by simp, by simp, by simp, by simp, by simp, h1, h2⟩
  exact ⟨⟨_, _, rfl, rfl, rfl, rfl, rfl⟩, fun x hx => by
    obtain rfl : x = ⟨1, 0, 60, 0, v⟩ := by simpa using hx
    exact hg, ok_one hg⟩
theorem first_added {v : Int} (h1 : 100000 ≤ v) (h2 : v ≤ 199900) : FactMath.added [] ⟨1, 0, 60, 0, v⟩ = ([⟨1, 0, 60, 0, v⟩], true) :=
  FactMath.added_yes (okS_yes (Paid.one h1 h2).ok)
theorem Paid.added {l : List Fa} {x : Fa} (h : Paid l) (hx : Good x) : Paid (FactMath.added l x).1 := by
  unfold FactMath.added
  split
  next e =>
    obtain ⟨⟨y, r, rfl, h3⟩, h5, _⟩ := h
    refine ⟨⟨y, r ++ [x], rfl, h3⟩, fun z hz => ?_, okS_of e⟩
    rcases List.mem_append.1 (show z ∈ (y :: r) ++ [x] from hz) with hz | hz
    · exact h5 z hz
    · obtain rfl : z = x := by simpa using hz
      exact hx
  next => exact h
theorem fold_in (m kn : Int) : ∀ (l : List Fa) (r : Int × Bool), r.2 = true → (∀ x ∈ l, Good x) → 100000 ≤ r.1 → r.1 ≤ 199900 →
    ∃ v, l.foldl (fun r x => if hit 1 m kn x = true then (x.v, true) else r) r = (v, true) ∧ 100000 ≤ v ∧ v ≤ 199900
  | [], r, hr, _, h1, h2 => ⟨r.1, by rw [List.foldl_nil, ← hr], h1, h2⟩
  | y :: t, r, hr, hl, h1, h2 => by
    rw [List.foldl_cons]
    have hy := hl y List.mem_cons_self
    have ht : ∀ x ∈ t, Good x := fun x hx => hl x (List.mem_cons_of_mem _ hx)
    split
    · exact fold_in m kn t (y.v, true) rfl ht hy.2.2.2.2.2.2.1 hy.2.2.2.2.2.2.2
    · exact fold_in m kn t r hr ht h1 h2
theorem Paid.pv {l : List Fa} (h : Paid l) {m kn : Int} (h1 : 0 ≤ m) (h2 : m < 60) (h3 : 0 ≤ kn) : ∃ v, pv l kn m = (v, true) ∧ 100000 ≤ v ∧ v ≤ 199900 := by
  obtain ⟨⟨x, r, rfl, ek, ef, et, en⟩, h5, _⟩ := h
  have hx := h5 x List.mem_cons_self
  unfold PayMath.pv val
  rw [List.foldl_cons, if_pos (hit_yes ⟨ek, by omega, by omega, by omega⟩)]
  exact fold_in m kn r (x.v, true) rfl (fun y hy => h5 y (List.mem_cons_of_mem _ hy)) hx.2.2.2.2.2.2.1 hx.2.2.2.2.2.2.2
theorem Paid.far {l : List Fa} (h : Paid l) {m kn : Int} (h1 : 60 ≤ m) : PayMath.pv l kn m = (0, false) :=
  FactLaws.val_far 1 m kn l fun x hx => by
    have := (h.each x hx).2.2.2.1
    omega
/-- In the months 0 to 59 every month counts. -/
theorem Paid.cnt {l : List Fa} (h : Paid l) {kn f : Int} (h3 : 0 ≤ kn) (hf : 0 ≤ f) : ∀ n : Nat, f + (n : Int) ≤ 60 → cntTo l kn f n = (n : Int)
  | 0, _ => rfl
  | n + 1, hn => by
    obtain ⟨v, e, _⟩ := h.pv (m := f + (n : Int)) (by omega) (by omega) h3
    rw [cnt_succ, Paid.cnt h h3 hf n (by omega), e]
    simp [PayMath.one]
theorem Paid.sum_bd {l : List Fa} (h : Paid l) {kn f : Int} (h3 : 0 ≤ kn) (hf : 0 ≤ f) : ∀ n : Nat, f + (n : Int) ≤ 60 → 100000 * (n : Int) ≤ sumTo l kn f n ∧ sumTo l kn f n ≤ 199900 * (n : Int)
  | 0, _ => by rw [sum_zero]; omega
  | n + 1, hn => by
    have ih := Paid.sum_bd h h3 hf n (by omega)
    obtain ⟨v, e, h1, h2⟩ := h.pv (m := f + (n : Int)) (by omega) (by omega) h3
    rw [sum_succ, e]
    simp only [amt, if_true]
    omega
end Go.Proofs.Ytdmkceaonfbebaa.PayLaws

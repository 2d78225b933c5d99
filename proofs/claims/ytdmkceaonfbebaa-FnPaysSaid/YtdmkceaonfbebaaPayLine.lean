/- Pay out of a timeline: plain mathematics. -/
import Derived.Test.YtdmkceaonfbebaaPayMath
import Derived.Test.YtdmkceaonfbebaaLineLaws
namespace Go.Proofs.Ytdmkceaonfbebaa.PayLine
open Fact FactMath PayMath LineMath LineLaws SegMath TSegment Mon
open FracMath (red cmpI sgnI okB)
/-- What the first n months from a on add up to, where a month m with the value v counts F m v. -/
def upTo (F : Int → Int → Int) (v a : Int) : Nat → Int
  | 0 => 0
  | n + 1 => upTo F v a n + F (a + (n : Int)) v
theorem up_succ (F : Int → Int → Int) (v a : Int) (n : Nat) : upTo F v a (n + 1) = upTo F v a n + F (a + (n : Int)) v := rfl
def segF (F : Int → Int → Int) (x : El) : Int := upTo F x.Value x.From (x.To - x.From).toNat
def spans (F : Int → Int → Int) : List El → Int
  | [] => 0
  | x :: r => segF F x + spans F r
theorem spans_append (F : Int → Int → Int) (L R : List El) : spans F (L ++ R) = spans F L + spans F R := by
  induction L with
  | nil => simp [spans]
  | cons x r ih => rw [List.cons_append]; simp only [spans]; rw [ih]; omega
theorem spans_one (F : Int → Int → Int) (x : El) : spans F [x] = segF F x := by simp [spans]
theorem spans_take {F : Int → Int → Int} {L : List El} {j : Nat} (h : j < L.length) : spans F (L.take (j + 1)) = spans F (L.take j) + segF F L[j] := by
  rw [List.take_succ_eq_append_getElem h, spans_append, spans_one]
/-- The same, month by month. -/
def monthly (F : Int → Int → Int) (g : Int → Int × Bool) (f : Int) : Nat → Int
  | 0 => 0
  | n + 1 => monthly F g f n + if (g (f + (n : Int))).2 = true then F (f + (n : Int)) (g (f + (n : Int))).1 else 0
theorem spans_line (F : Int → Int → Int) (key kn f : Int) (l : List Fa) (h0 : 0 ≤ f) (n : Nat) (h1 : f + (n : Int) ≤ 3600) :
    spans F (lineTo key kn f l n) = monthly F (fun m => val key m kn l) f n := by
  induction n with
  | zero => rfl
  | succ n ih =>
    have ih := ih (by omega)
    have hL := is_line key kn f l h0 n (by omega)
    simp only [lineTo, monthly]
    rw [← ih]
    obtain ⟨⟨v, o⟩, hg⟩ : ∃ r, val key (f + (n : Int)) kn l = r := ⟨_, rfl⟩
    rw [hg]
    cases o with
    | false => rw [addM_no]; simp
    | true =>
      rw [if_pos rfl]
      rcases addM_two (lineTo key kn f l n) (f + (n : Int)) v with ⟨L0, y, e, e3, e4, e2⟩ | e2
      · rw [e2, e, spans_append, spans_append, spans_one, spans_one]
        have hy := hL.lie y (by rw [e]; simp)
        unfold segF
        simp only []
        rw [show (f + (n : Int) + 1 - y.From).toNat = (y.To - y.From).toNat + 1 by omega, up_succ, e4]
        rw [show y.From + (((y.To - y.From).toNat : Nat) : Int) = f + (n : Int) by omega]
        omega
      · rw [e2, spans_append, spans_one]
        unfold segF
        simp only []
        rw [show (f + (n : Int) + 1 - (f + (n : Int))).toNat = 0 + 1 by omega, up_succ]
        simp [upTo]
theorem mon_same (F : Int → Int → Int) (g k : Int → Int × Bool) (f : Int) (n : Nat) (h : ∀ m, g m = k m) : monthly F g f n = monthly F k f n := by
  have : g = k := funext h
  rw [this]
theorem mon_none (F : Int → Int → Int) (g : Int → Int × Bool) (f : Int) (h : ∀ m, (g m).2 = false) : ∀ n, monthly F g f n = 0
  | 0 => rfl
  | n + 1 => by simp only [monthly]; rw [mon_none F g f h n, h]; simp
theorem hit_min {l : List Fa} (h : OkS l) {kn mo : Int} {x : Fa} (hx : x ∈ l) : hit 1 mo (min kn 3599) x = hit 1 mo kn x := by
  obtain ⟨i, hi, rfl⟩ := List.mem_iff_getElem.1 hx
  have := h.2.1 i hi
  simp only [okF, inB, Bool.and_eq_true, decide_eq_true_eq] at this
  simp only [hit]
  congr 1
  simp only [eq_iff_iff]
  omega
theorem fold_same {l : List Fa} {p q : Fa → Bool} (h : ∀ x ∈ l, p x = q x) : ∀ r : Int × Bool, l.foldl (fun r x => if p x = true then (x.v, true) else r) r = l.foldl (fun r x => if q x = true then (x.v, true) else r) r := by
  induction l with
  | nil => intro r; rfl
  | cons y t ih =>
    intro r
    rw [List.foldl_cons, List.foldl_cons, h y List.mem_cons_self]
    exact ih (fun x hx => h x (List.mem_cons_of_mem _ hx)) _
theorem val_min {l : List Fa} (h : OkS l) (kn mo : Int) : val 1 mo (min kn 3599) l = val 1 mo kn l := fold_same (fun _ hx => hit_min h hx) _
theorem fold_no {l : List Fa} {p : Fa → Bool} (h : ∀ x ∈ l, p x = false) : ∀ r : Int × Bool, l.foldl (fun r x => if p x = true then (x.v, true) else r) r = r := by
  induction l with
  | nil => intro r; rfl
  | cons y t ih =>
    intro r
    rw [List.foldl_cons, h y List.mem_cons_self]
    exact ih (fun x hx => h x (List.mem_cons_of_mem _ hx)) _
theorem fold_yes {l : List Fa} {p : Fa → Bool} (h : ∃ x ∈ l, p x = true) : ∀ r : Int × Bool, (l.foldl (fun r x => if p x = true then (x.v, true) else r) r).2 = true := by
  induction l with
  | nil => obtain ⟨x, hx, _⟩ := h; cases hx
  | cons y t ih =>
    intro r
    rw [List.foldl_cons]
    by_cases ht : ∃ x ∈ t, p x = true
    · exact ih ht _
    · rw [fold_no (p := p) (fun x hx => by cases e : p x with | false => rfl | true => exact absurd ⟨x, hx, e⟩ ht)]
      obtain ⟨x, hx, e⟩ := h
      rcases List.mem_cons.1 hx with rfl | hx
      · rw [e]; rfl
      · exact absurd ⟨x, hx, e⟩ ht
theorem val_early {l : List Fa} (h : OkS l) {kn : Int} (hk : kn < 0) (mo : Int) : val 1 mo kn l = (0, false) := by
  refine fold_no (fun x hx => ?_) _
  obtain ⟨i, hi, rfl⟩ := List.mem_iff_getElem.1 hx
  have := h.2.1 i hi
  simp only [okF, inB, Bool.and_eq_true, decide_eq_true_eq] at this
  exact hit_no (by omega)
/-- The history of pay, as the program asks for it. -/
noncomputable def hist (l : List Fa) (kn f t : Int) : List El := line l 1 (min kn 3599) f t
theorem hist_len (l : List Fa) (kn f t : Int) : (hist l kn f t).length ≤ 3600 := line_len ..
theorem hist_is {l : List Fa} (h : OkS l) {kn f t : Int} (hf0 : 0 ≤ f) (hf1 : f ≤ 3600) (ht0 : 0 ≤ t) (ht1 : t ≤ 3600) : hist l kn f t = [] ∨ hist l kn f t = lineTo 1 (min kn 3599) f l (t - f).toNat := by
  unfold hist
  by_cases hk : 0 ≤ min kn 3599
  · exact .inr (line_yes (okS_yes h) (inB_yes hk (by omega)) (inB_yes hf0 hf1) (inB_yes ht0 ht1))
  · exact .inl (line_no fun e => by have := inB_of e.2.1; omega)
theorem hist_spans {l : List Fa} (h : OkS l) {kn f t : Int} (hf0 : 0 ≤ f) (hf1 : f ≤ 3600) (ht0 : 0 ≤ t) (ht1 : t ≤ 3600) (F : Int → Int → Int) : spans F (hist l kn f t) = monthly F (fun m => pv l kn m) f (t - f).toNat := by
  unfold hist
  by_cases hk : 0 ≤ min kn 3599
  · rw [line_yes (okS_yes h) (inB_yes hk (by omega)) (inB_yes hf0 hf1) (inB_yes ht0 ht1)]
    by_cases hft : f ≤ t
    · rw [spans_line F 1 _ f l hf0 _ (by omega)]
      exact mon_same _ _ _ _ _ (fun m => val_min h kn m)
    · rw [show (t - f).toNat = 0 by omega]; rfl
  · rw [line_no fun e => by have := inB_of e.2.1; omega]
    rw [mon_none F _ f (fun m => by show (val 1 m kn l).2 = false; rw [val_early h (by omega)])]
    rfl
structure Lies (f t : Int) (x : El) : Prop where
  lo : f ≤ x.From
  lt : x.From < x.To
  hi : x.To ≤ t
  v0 : -1000000000 ≤ x.Value
  v1 : x.Value ≤ 1000000000
theorem hist_lies {l : List Fa} (h : OkS l) {kn f t : Int} (hf0 : 0 ≤ f) (hf1 : f ≤ 3600) (ht0 : 0 ≤ t) (ht1 : t ≤ 3600) {x : El} (hx : x ∈ hist l kn f t) : Lies f t x := by
  rcases hist_is h (kn := kn) hf0 hf1 ht0 ht1 with e | e
  · rw [e] at hx; cases hx
  · rw [e] at hx
    by_cases hft : f ≤ t
    · have h1 := (is_line 1 (min kn 3599) f l hf0 (t - f).toNat (by omega)).lie x hx
      have h2 := vals_line 1 (min kn 3599) f l (fun m hm => val_bd 1 m _ l (okS_yes h) hm) _ x hx
      simp only [inB, Bool.and_eq_true, decide_eq_true_eq] at h2
      exact ⟨h1.1, h1.2.1, by omega, h2.1, h2.2⟩
    · rw [show (t - f).toNat = 0 by omega] at hx; cases hx
/-- Only the months a to b - 1 count. -/
def secs (hv : Int → Int) (a b : Int) : Int → Int → Int := fun m v => if a ≤ m ∧ m < b then hv v else 0
theorem up_in (hv : Int → Int) (a b v A : Int) : ∀ n : Nat, upTo (secs hv a b) v A n = hv v * max 0 (min (A + (n : Int)) b - max A a)
  | 0 => by rw [show max 0 (min (A + ((0 : Nat) : Int)) b - max A a) = 0 by omega, Int.mul_zero]; rfl
  | n + 1 => by
    rw [up_succ, up_in hv a b v A n]
    unfold secs
    by_cases h : a ≤ A + (n : Int) ∧ A + (n : Int) < b
    · rw [if_pos h, show max 0 (min (A + ((n + 1 : Nat) : Int)) b - max A a) = max 0 (min (A + (n : Int)) b - max A a) + 1 by omega, Int.mul_add, Int.mul_one]
    · rw [if_neg h, show max 0 (min (A + ((n + 1 : Nat) : Int)) b - max A a) = max 0 (min (A + (n : Int)) b - max A a) by omega, Int.add_zero]
theorem seg_in (hv : Int → Int) {a b f t : Int} {x : El} (hx : Lies f t x) (h0 : 0 ≤ f) (h1 : t ≤ 3600) (h5 : 0 ≤ a) (h6 : a ≤ 3600) (h7 : 0 ≤ b) (h8 : b ≤ 3600) : segF (secs hv a b) x = hv x.Value * common x.From x.To a b := by
  have := hx.lo; have := hx.lt; have := hx.hi
  rw [segF, up_in, common_in (by omega) (by omega) (by omega) (by omega) h5 h6 h7 h8, show x.From + (((x.To - x.From).toNat : Nat) : Int) = x.To by omega]
def sumF (a b : Int) : Int → Int → Int := secs (fun v => v) a b
def cntF (a b : Int) : Int → Int → Int := secs (fun _ => 1) a b
theorem mon_sum {l : List Fa} {kn f a b : Int} (h : f ≤ a) : ∀ n : Nat, monthly (sumF a b) (fun m => pv l kn m) f n = sumTo l kn a (min b (f + (n : Int)) - a).toNat
  | 0 => by rw [show (min b (f + ((0 : Nat) : Int)) - a).toNat = 0 by omega]; rfl
  | n + 1 => by
    simp only [monthly]
    rw [mon_sum h n]
    unfold sumF secs
    by_cases hm : a ≤ f + (n : Int) ∧ f + (n : Int) < b
    · rw [show (min b (f + ((n + 1 : Nat) : Int)) - a).toNat = (min b (f + (n : Int)) - a).toNat + 1 by omega, sum_succ]
      rw [show a + (((min b (f + (n : Int)) - a).toNat : Nat) : Int) = f + (n : Int) by omega, if_pos hm]
      rfl
    · rw [show (min b (f + ((n + 1 : Nat) : Int)) - a).toNat = (min b (f + (n : Int)) - a).toNat by omega, if_neg hm]
      simp
theorem mon_cnt {l : List Fa} {kn f a b : Int} (h : f ≤ a) : ∀ n : Nat, monthly (cntF a b) (fun m => pv l kn m) f n = cntTo l kn a (min b (f + (n : Int)) - a).toNat
  | 0 => by rw [show (min b (f + ((0 : Nat) : Int)) - a).toNat = 0 by omega]; rfl
  | n + 1 => by
    simp only [monthly]
    rw [mon_cnt h n]
    unfold cntF secs
    by_cases hm : a ≤ f + (n : Int) ∧ f + (n : Int) < b
    · rw [show (min b (f + ((n + 1 : Nat) : Int)) - a).toNat = (min b (f + (n : Int)) - a).toNat + 1 by omega, cnt_succ]
      rw [show a + (((min b (f + (n : Int)) - a).toNat : Nat) : Int) = f + (n : Int) by omega, if_pos hm]
      rfl
    · rw [show (min b (f + ((n + 1 : Nat) : Int)) - a).toNat = (min b (f + (n : Int)) - a).toNat by omega, if_neg hm]
      simp
theorem hist_sum {l : List Fa} (h : OkS l) {kn f t a b : Int} (hf0 : 0 ≤ f) (hf1 : f ≤ 3600) (ht0 : 0 ≤ t) (ht1 : t ≤ 3600) (ha : f ≤ a) (hb : b ≤ t) : spans (sumF a b) (hist l kn f t) = sumTo l kn a (b - a).toNat := by
  rw [hist_spans h hf0 hf1 ht0 ht1, mon_sum ha]
  congr 1
  omega
theorem hist_cnt {l : List Fa} (h : OkS l) {kn f t a b : Int} (hf0 : 0 ≤ f) (hf1 : f ≤ 3600) (ht0 : 0 ≤ t) (ht1 : t ≤ 3600) (ha : f ≤ a) (hb : b ≤ t) : spans (cntF a b) (hist l kn f t) = cntTo l kn a (b - a).toNat := by
  rw [hist_spans h hf0 hf1 ht0 ht1, mon_cnt ha]
  congr 1
  omega
/-- The partial sums stay small. -/
theorem sums_bd {L : List El} {f t a b : Int} (hL : ∀ x ∈ L, Lies f t x) (h0 : 0 ≤ f) (h1 : t ≤ 3600) (h5 : 0 ≤ a) (h6 : a ≤ 3600) (h7 : 0 ≤ b) (h8 : b ≤ 3600) : ∀ j, j ≤ L.length → -3600000000000 * (j : Int) ≤ spans (sumF a b) (L.take j) ∧ spans (sumF a b) (L.take j) ≤ 3600000000000 * (j : Int) ∧ 0 ≤ spans (cntF a b) (L.take j) ∧ spans (cntF a b) (L.take j) ≤ 3600 * (j : Int)
  | 0, _ => by simp [spans]
  | j + 1, hj => by
    obtain ⟨i1, i2, i3, i4⟩ := sums_bd hL h0 h1 h5 h6 h7 h8 j (by omega)
    have hx := hL L[j] (List.getElem_mem _)
    rw [spans_take (F := sumF a b) (by omega), spans_take (F := cntF a b) (by omega)]
    unfold sumF cntF at *
    rw [seg_in _ hx h0 h1 h5 h6 h7 h8, seg_in _ hx h0 h1 h5 h6 h7 h8]
    have c0 := common_lo L[j].From L[j].To a b
    have c1 := common_hi L[j].From L[j].To a b
    have := part_bd hx.v0 hx.v1 c0 c1
    simp only [Int.one_mul]
    omega
/-! The last month with pay. -/
def reach (kn t : Int) (x : Fa) : Bool := decide (x.k = 1 ∧ x.n ≤ kn ∧ 0 < common x.f x.t 0 t)
def lastF (kn t : Int) : List Fa → Int → Int
  | [], r => r
  | x :: s, r => lastF kn t s (if reach kn t x = true then max r (min x.t t - 1) else r)
theorem last_end {kn t : Int} {l : List Fa} {j : Nat} (r : Int) (h : l.length ≤ j) : lastF kn t (l.drop j) r = r := by rw [List.drop_eq_nil_of_le h]; rfl
theorem last_yes {kn t : Int} {l : List Fa} {j : Nat} {r : Int} (h : j < l.length) (e : reach kn t l[j] = true) : lastF kn t (l.drop j) r = lastF kn t (l.drop (j + 1)) (max r (min l[j].t t - 1)) := by
  rw [List.drop_eq_getElem_cons h, lastF, if_pos e]
theorem last_no {kn t : Int} {l : List Fa} {j : Nat} {r : Int} (h : j < l.length) (e : reach kn t l[j] = false) : lastF kn t (l.drop j) r = lastF kn t (l.drop (j + 1)) r := by
  rw [List.drop_eq_getElem_cons h, lastF, if_neg (by rw [e]; simp)]
theorem last_all {kn t : Int} : ∀ (l : List Fa) (r : Int), r ≤ lastF kn t l r ∧ (∀ x ∈ l, reach kn t x = true → min x.t t - 1 ≤ lastF kn t l r) ∧ (lastF kn t l r = r ∨ ∃ x ∈ l, reach kn t x = true ∧ lastF kn t l r = min x.t t - 1)
  | [], r => ⟨Int.le_refl _, fun x hx => (by cases hx), .inl rfl⟩
  | x :: s, r => by
    rw [lastF]
    cases e : reach kn t x with
    | false =>
      rw [if_neg (by simp)]
      obtain ⟨h1, h2, h3⟩ := last_all s r
      refine ⟨h1, fun y hy hc => ?_, ?_⟩
      · rcases List.mem_cons.1 hy with rfl | hy
        · rw [e] at hc; cases hc
        · exact h2 y hy hc
      · rcases h3 with h3 | ⟨y, hy, hc, h3⟩
        · exact .inl h3
        · exact .inr ⟨y, List.mem_cons_of_mem _ hy, hc, h3⟩
    | true =>
      rw [if_pos rfl]
      obtain ⟨h1, h2, h3⟩ := last_all s (max r (min x.t t - 1))
      refine ⟨Int.le_trans (Int.le_max_left _ _) h1, fun y hy hc => ?_, ?_⟩
      · rcases List.mem_cons.1 hy with rfl | hy
        · exact Int.le_trans (Int.le_max_right _ _) h1
        · exact h2 y hy hc
      · rcases h3 with h3 | ⟨y, hy, hc, h3⟩
        · by_cases hr : min x.t t - 1 ≤ r
          · exact .inl (by omega)
          · exact .inr ⟨x, List.mem_cons_self, e, by omega⟩
        · exact .inr ⟨y, List.mem_cons_of_mem _ hy, hc, h3⟩
theorem pv_yes {l : List Fa} {kn mo : Int} (h : ∃ x ∈ l, hit 1 mo kn x = true) : (pv l kn mo).2 = true := fold_yes h _
theorem pv_no {l : List Fa} {kn mo : Int} (h : ∀ x ∈ l, hit 1 mo kn x = false) : pv l kn mo = (0, false) := fold_no h _
theorem fin_up {l : List Fa} {kn R : Int} : ∀ k : Nat, (∀ mo, R < mo → mo < (k : Int) → (pv l kn mo).2 = false) → (R < 0 → finTo l kn k = (0, false)) ∧ (0 ≤ R → R < (k : Int) → (pv l kn R).2 = true → finTo l kn k = pv l kn R)
  | 0, _ => ⟨fun _ => rfl, fun h1 h2 => by omega⟩
  | k + 1, h => by
    obtain ⟨i1, i2⟩ := fin_up k (fun mo h1 h2 => h mo h1 (by omega))
    refine ⟨fun h1 => ?_, fun h1 h2 h3 => ?_⟩
    · rw [finTo, if_neg (by rw [h (k : Int) (by omega) (by omega)]; simp)]
      exact i1 h1
    · by_cases e : R = (k : Int)
      · subst e; rw [finTo, if_pos h3]
      · rw [finTo, if_neg (by rw [h (k : Int) (by omega) (by omega)]; simp)]
        exact i2 h1 (by omega) h3
theorem reach_of {l : List Fa} (h : OkS l) {kn t : Int} (ht0 : 0 ≤ t) (ht1 : t ≤ 3600) {x : Fa} (hx : x ∈ l) : (reach kn t x = true ↔ x.k = 1 ∧ x.n ≤ kn ∧ x.f < min x.t t) ∧ 0 ≤ x.f ∧ x.f < x.t ∧ x.t ≤ 3600 := by
  obtain ⟨i, hi, rfl⟩ := List.mem_iff_getElem.1 hx
  have := h.2.1 i hi
  simp only [okF, inB, Bool.and_eq_true, decide_eq_true_eq] at this
  refine ⟨?_, by omega⟩
  rw [reach, common_in (by omega) (by omega) (by omega) (by omega) (by omega) (by omega) ht0 ht1, decide_eq_true_eq]
  omega
/-- The value at the last month that a fact reaches is the final pay. -/
theorem fin_last {l : List Fa} (h : OkS l) {kn t : Int} (ht0 : 0 ≤ t) (ht1 : t ≤ 3600) : val 1 (lastF kn t l (-1)) kn l = finTo l kn t.toNat := by
  obtain ⟨h1, h2, h3⟩ := last_all (kn := kn) (t := t) l (-1)
  obtain ⟨R, hR⟩ : ∃ R, lastF kn t l (-1) = R := ⟨_, rfl⟩
  rw [hR] at h1 h2 h3 ⊢
  obtain ⟨a, b⟩ := fin_up (l := l) (kn := kn) (R := R) t.toNat (fun mo m1 m2 => by
    rw [pv_no (fun x hx => ?_)]
    cases e : hit 1 mo kn x with
    | false => rfl
    | true =>
      obtain ⟨q, q0, q1, q2⟩ := reach_of h (kn := kn) ht0 ht1 hx
      have hh := hit_of e
      have := h2 x hx (q.2 ⟨hh.1, hh.2.2.2, by omega⟩)
      omega)
  rcases h3 with h3 | ⟨x, hx, hc, h3⟩
  · rw [a (by omega)]
    refine pv_no (mo := R) (fun x hx => hit_no ?_)
    obtain ⟨_, q0, _⟩ := reach_of h (kn := kn) ht0 ht1 hx
    omega
  · obtain ⟨q, q0, q1, q2⟩ := reach_of h (kn := kn) ht0 ht1 hx
    have hc := q.1 hc
    exact (b (by omega) (by omega) (pv_yes ⟨x, hx, hit_yes ⟨hc.1, by omega, by omega, hc.2.1⟩⟩)).symm
theorem last_bd {t : Int} (ht1 : t ≤ 3600) {r : Int} (h0 : -1 ≤ r) (h1 : r ≤ 3599) (x : Fa) : -1 ≤ max r (min x.t t - 1) ∧ max r (min x.t t - 1) ≤ 3599 := by omega
/-! The best range. -/
structure Tt where
  s : Int
  m : Int
  p : Int
def exc (a b : Tt) : Bool := if b.m = 0 then decide (0 < a.m) else decide (b.s * a.m < a.s * b.m)
def tot (l : List Fa) (kn f len : Int) (k : Nat) : Tt := ⟨sumTo l kn (f + (k : Int)) len.toNat, cntTo l kn (f + (k : Int)) len.toNat, f + (k : Int)⟩
def bt (l : List Fa) (kn f len : Int) : Nat → Tt
  | 0 => ⟨0, 0, 0⟩
  | k + 1 => if exc (tot l kn f len k) (bt l kn f len k) = true then tot l kn f len k else bt l kn f len k
theorem bt_yes {l : List Fa} {kn f len : Int} {k : Nat} (h : exc (tot l kn f len k) (bt l kn f len k) = true) : bt l kn f len (k + 1) = tot l kn f len k := if_pos h
theorem bt_no {l : List Fa} {kn f len : Int} {k : Nat} (h : exc (tot l kn f len k) (bt l kn f len k) = false) : bt l kn f len (k + 1) = bt l kn f len k := if_neg (by rw [h]; simp)
structure Sm (b : Tt) : Prop where
  s0 : -60000000000 ≤ b.s
  s1 : b.s ≤ 60000000000
  m0 : 0 ≤ b.m
  m1 : b.m ≤ 60
theorem tot_sm {l : List Fa} (h : OkS l) {kn f len : Int} (h0 : 0 ≤ len) (h1 : len ≤ 60) (k : Nat) : Sm (tot l kn f len k) := by
  have := sum_bd h kn (f + (k : Int)) len.toNat
  have := cnt_bd l kn (f + (k : Int)) len.toNat
  exact ⟨by show _ ≤ sumTo _ _ _ _; omega, by show sumTo _ _ _ _ ≤ _; omega, by show 0 ≤ cntTo _ _ _ _; omega, by show cntTo _ _ _ _ ≤ _; omega⟩
theorem bt_sm {l : List Fa} (h : OkS l) {kn f len : Int} (h0 : 0 ≤ len) (h1 : len ≤ 60) : ∀ k : Nat, Sm (bt l kn f len k)
  | 0 => ⟨show (-60000000000 : Int) ≤ 0 by omega, show (0 : Int) ≤ 60000000000 by omega, Int.le_refl 0, show (0 : Int) ≤ 60 by omega⟩
  | k + 1 => by
    cases e : exc (tot l kn f len k) (bt l kn f len k) with
    | true => rw [bt_yes e]; exact tot_sm h h0 h1 k
    | false => rw [bt_no e]; exact bt_sm h h0 h1 k
theorem bt_none {l : List Fa} {kn f len : Int} : ∀ k : Nat, (bt l kn f len k).m = 0 → bt l kn f len k = ⟨0, 0, 0⟩
  | 0, _ => rfl
  | k + 1, h => by
    cases e : exc (tot l kn f len k) (bt l kn f len k) with
    | true =>
      rw [bt_yes e] at h
      exfalso
      unfold exc at e
      have hz : cntTo l kn (f + (k : Int)) len.toNat = 0 := h
      have hs : ∀ n, cntTo l kn (f + (k : Int)) n = 0 → sumTo l kn (f + (k : Int)) n = 0 := by
        intro n
        induction n with
        | zero => intro _; rfl
        | succ n ih =>
          intro hn
          rw [cnt_succ] at hn
          have hc := (cnt_bd l kn (f + (k : Int)) n).1
          rw [sum_succ]
          unfold PayMath.one at hn
          unfold amt
          by_cases hp : (pv l kn (f + (k : Int) + (n : Int))).2 = true
          · rw [if_pos hp] at hn; omega
          · rw [if_neg hp] at hn ⊢
            rw [ih (by omega)]; rfl
      split at e
      · have e := of_decide_eq_true e
        change 0 < cntTo _ _ _ _ at e
        omega
      · have e := of_decide_eq_true e
        change _ * cntTo _ _ _ _ < sumTo _ _ _ _ * _ at e
        rw [hz, hs _ hz] at e
        simp at e
    | false => rw [bt_no e] at h ⊢; exact bt_none k h
/-- A small sum of at least one month has a mean. -/
theorem mean_ok {b : Tt} (h : Sm b) (hm : b.m ≠ 0) : (red b.s b.m).2.2 = true := by
  have h0 := h.s0; have h1 := h.s1; have h2 := h.m0; have h3 := h.m1
  obtain ⟨b1, b2⟩ := FracMath.low_le (n := b.s) (d := b.m) (by omega) 60000000000 (by omega) h1
  rw [FracMath.red_yes hm (by unfold FracMath.fitB; simp; omega)]
def fromT (b : Tt) : Bst := if b.m = 0 then bst0 else ⟨(red b.s b.m).1, (red b.s b.m).2.1, b.p, true⟩
theorem sgn_pos (x : Int) : (0 < sgnI x) ↔ 0 < x := by unfold sgnI; repeat (first | split | omega)
theorem exc_cmp {a b : Tt} (ha : Sm a) (hb : Sm b) (h1 : a.m ≠ 0) (h2 : b.m ≠ 0) : decide (0 < cmpI (red a.s a.m).1 (red a.s a.m).2.1 (red b.s b.m).1 (red b.s b.m).2.1) = decide (b.s * a.m < a.s * b.m) := by
  have oa := mean_ok ha h1
  have ob := mean_ok hb h2
  have ka := FracMath.red_okB oa
  have kb := FracMath.red_okB ob
  have ca := FracMath.red_cross oa
  have cb := FracMath.red_cross ob
  have da := FracMath.ok_bd ka
  have db := FracMath.ok_bd kb
  have := ha.m0
  have := hb.m0
  rw [cmpI, if_pos ⟨ka, kb⟩]
  generalize (red a.s a.m).1 = n1 at *
  generalize (red a.s a.m).2.1 = d1 at *
  generalize (red b.s b.m).1 = n2 at *
  generalize (red b.s b.m).2.1 = d2 at *
  congr 1
  rw [eq_iff_iff, sgn_pos]
  have pm : 0 < a.m * b.m := Int.mul_pos (by omega) (by omega)
  have pd : 0 < d1 * d2 := Int.mul_pos (by omega) (by omega)
  have key : (n1 * d2 + -n2 * d1) * (a.m * b.m) = (a.s * b.m - b.s * a.m) * (d1 * d2) := by
    have e1 : n1 * d2 * (a.m * b.m) = a.s * b.m * (d1 * d2) := by
      rw [show n1 * d2 * (a.m * b.m) = n1 * a.m * (d2 * b.m) by simp only [Int.mul_left_comm, Int.mul_comm], ca]
      simp only [Int.mul_left_comm, Int.mul_comm]
    have e2 : n2 * d1 * (a.m * b.m) = b.s * a.m * (d1 * d2) := by
      rw [show n2 * d1 * (a.m * b.m) = n2 * b.m * (d1 * a.m) by simp only [Int.mul_left_comm, Int.mul_comm], cb]
      simp only [Int.mul_left_comm, Int.mul_comm]
    rw [Int.add_mul, Int.sub_mul, e1, Int.neg_mul, Int.neg_mul, e2]
    omega
  constructor
  · intro h
    have h3 := Int.mul_pos h pm
    rw [key] at h3
    have := Int.pos_of_mul_pos_left h3 pd
    omega
  · intro h
    have h3 : 0 < (a.s * b.m - b.s * a.m) * (d1 * d2) := Int.mul_pos (by omega) pd
    rw [← key] at h3
    exact Int.pos_of_mul_pos_left h3 pm
theorem avg_tot (l : List Fa) (kn f len : Int) (k : Nat) : avg l (f + (k : Int)) (f + (k : Int) + len) kn = if (tot l kn f len k).m = 0 then (0, 0, false) else red (tot l kn f len k).s (tot l kn f len k).m := by
  unfold avg tot
  rw [show f + (k : Int) + len - (f + (k : Int)) = len by omega]
theorem bst_from {l : List Fa} (h : OkS l) {kn f len : Int} (h0 : 0 ≤ len) (h1 : len ≤ 60) : ∀ k : Nat, bestTo l kn f len k = fromT (bt l kn f len k)
  | 0 => rfl
  | k + 1 => by
    rw [best_succ, bst_from h h0 h1 k, avg_tot]
    have ht := tot_sm h (kn := kn) (f := f) h0 h1 k
    have hb := bt_sm h (kn := kn) (f := f) h0 h1 k
    have hs : ∀ (q : Bool), taken (fromT (bt l kn f len k)) (if (tot l kn f len k).m = 0 then (0, 0, false) else red (tot l kn f len k).s (tot l kn f len k).m) = q → exc (tot l kn f len k) (bt l kn f len k) = q → (tot l kn f len k).m ≠ 0 ∨ q = false → better (fromT (bt l kn f len k)) (if (tot l kn f len k).m = 0 then (0, 0, false) else red (tot l kn f len k).s (tot l kn f len k).m) (f + (k : Int)) = fromT (bt l kn f len (k + 1)) := by
      intro q hq hx hm
      cases q with
      | false => rw [better_no hq, bt_no hx]
      | true =>
        rw [better_yes hq, bt_yes hx]
        have hm : (tot l kn f len k).m ≠ 0 := hm.resolve_right (by simp)
        rw [if_neg hm, fromT, if_neg hm]
        rfl
    by_cases hm : (tot l kn f len k).m = 0
    · have hz : (tot l kn f len k).s * (bt l kn f len k).m = (bt l kn f len k).s * (tot l kn f len k).m ∨ (bt l kn f len k).m = 0 := by
        refine .inl ?_
        rw [hm, Int.mul_zero]
        have : ∀ n, cntTo l kn (f + (k : Int)) n = 0 → sumTo l kn (f + (k : Int)) n = 0 := by
          intro n
          induction n with
          | zero => intro _; rfl
          | succ n ih =>
            intro hn
            rw [cnt_succ] at hn
            have hc := (cnt_bd l kn (f + (k : Int)) n).1
            rw [sum_succ]
            unfold PayMath.one at hn
            unfold amt
            by_cases hp : (pv l kn (f + (k : Int) + (n : Int))).2 = true
            · rw [if_pos hp] at hn; omega
            · rw [if_neg hp] at hn ⊢
              rw [ih (by omega)]; rfl
        rw [show (tot l kn f len k).s = 0 from this _ hm, Int.zero_mul]
      refine hs false ?_ ?_ (.inr rfl)
      · rw [if_pos hm]; rfl
      · unfold exc
        by_cases hb0 : (bt l kn f len k).m = 0
        · rw [if_pos hb0, hm]; rfl
        · rw [if_neg hb0]
          refine decide_eq_false ?_
          rcases hz with hz | hz
          · omega
          · exact absurd hz hb0
    · have hok := mean_ok ht hm
      have hd : ∀ q, taken (fromT (bt l kn f len k)) (if (tot l kn f len k).m = 0 then (0, 0, false) else red (tot l kn f len k).s (tot l kn f len k).m) = q → exc (tot l kn f len k) (bt l kn f len k) = q := by
        intro q hq
        rw [← hq, if_neg hm, taken, hok, exc]
        by_cases hb0 : (bt l kn f len k).m = 0
        · rw [if_pos hb0, fromT, if_pos hb0]
          have := ht.m0
          simp [bst0]
          omega
        · rw [if_neg hb0, fromT, if_neg hb0]
          simp only [Bool.not_true, Bool.false_or, Bool.true_and]
          exact (exc_cmp ht hb hm hb0).symm
      exact hs _ rfl (hd _ rfl) (.inl hm)
/-- What the mean of the best total says. -/
theorem best_mean {l : List Fa} (h : OkS l) {kn f len : Int} (h0 : 0 ≤ len) (h1 : len ≤ 60) (k : Nat) : bestTo l kn f len k = ⟨(red (bt l kn f len k).s (bt l kn f len k).m).1, (red (bt l kn f len k).s (bt l kn f len k).m).2.1, (bt l kn f len k).p, (red (bt l kn f len k).s (bt l kn f len k).m).2.2⟩ := by
  rw [bst_from h h0 h1]
  by_cases hm : (bt l kn f len k).m = 0
  · rw [bt_none k hm, fromT, if_pos rfl, FracMath.red_zero]; rfl
  · rw [fromT, if_neg hm, mean_ok (bt_sm h h0 h1 k) hm]
/-! The revalued pay. -/
def revF (x : List TPoint.El) (kn last : Int) : Int → Int → Int := fun m v => if (PointMath.idx m kn x).2 = true ∧ 0 < v then (v * last).tdiv (PointMath.idx m kn x).1 else 0
theorem mon_rev (l : List Fa) (x : List TPoint.El) (kn f last : Int) : ∀ n, monthly (revF x kn last) (fun m => pv l kn m) f n = revTo l x kn f last n
  | 0 => rfl
  | n + 1 => by
    simp only [monthly]
    rw [mon_rev l x kn f last n, rev_succ]
    unfold revF rev1
    by_cases hp : (pv l kn (f + (n : Int))).2 = true
    · rw [if_pos hp]; simp [hp]
    · rw [if_neg hp, if_neg (fun e => hp e.1)]
theorem idx_less {x : List TPoint.El} {m kn m' : Int} (h : (PointMath.idx m kn x).2 = true) (hm : m ≤ m') : (PointMath.idx m' kn x).2 = true := by
  unfold PointMath.idx at *
  cases e : PointMath.bestOf m kn x with
  | none => rw [e] at h; cases h
  | some y =>
    obtain ⟨hy, h1, h2⟩ := PointLaws.best_of e
    obtain ⟨a, b, rfl⟩ := List.append_of_mem hy
    have : (PointMath.bestOf m' kn (a ++ y :: b)).isSome = true := by
      unfold PointMath.bestOf
      rw [List.foldl_append, List.foldl_cons]
      refine PointLaws.best_keeps ?_
      generalize a.foldl (PointMath.better m' kn) none = q
      by_cases hq : ∀ z, q = some z → z.Month ≤ y.Month
      · rw [PointMath.better_yes (by omega) h2 hq]; rfl
      · refine PointLaws.better_some ?_
        cases q with
        | none => exact absurd (fun z e => by cases e) hq
        | some z => rfl
    cases e' : PointMath.bestOf m' kn (a ++ y :: b) with
    | none => rw [e'] at this; cases this
    | some z => rfl
theorem rev_nothing {l : List Fa} {x : List TPoint.El} {kn f t last : Int} (h : (PointMath.idx (t - 1) kn x).2 = false) : ∀ n : Nat, f + (n : Int) ≤ t → revTo l x kn f last n = 0
  | 0, _ => rfl
  | n + 1, hn => by
    rw [rev_succ, rev_nothing h n (by omega)]
    unfold rev1
    rw [if_neg, Int.add_zero]
    intro e
    have := idx_less e.2.1 (show f + (n : Int) ≤ t - 1 by omega)
    rw [h] at this
    cases this
/-- The sum over the history is the revalued pay. -/
theorem hist_rev {l : List Fa} (h : OkS l) {x : List TPoint.El} (hx : PointMath.okS x = true) {kn f t : Int} (hf0 : 0 ≤ f) (hf1 : f ≤ 3600) (ht0 : 0 ≤ t) (ht1 : t ≤ 3600) : spans (revF x kn (PointMath.idx (t - 1) kn x).1) (hist l kn f t) = rev l x f t kn := by
  rw [hist_spans h hf0 hf1 ht0 ht1, mon_rev]
  have hr : rangeB l f t = true := by rw [rangeB, okS_yes h, inB_yes hf0 hf1, inB_yes ht0 ht1]; rfl
  cases e : (PointMath.idx (t - 1) kn x).2 with
  | true => rw [rev_yes hr hx e]
  | false =>
    rw [rev_no3 e]
    by_cases hft : f ≤ t
    · exact rev_nothing e _ (by omega)
    · rw [show (t - f).toNat = 0 by omega]; rfl
theorem last_pos {x : List TPoint.El} (hx : PointMath.okS x = true) (kn m : Int) : 0 ≤ (PointMath.idx m kn x).1 ∧ (PointMath.idx m kn x).1 ≤ 1000000 := by
  cases e : (PointMath.idx m kn x).2 with
  | true => have := idx_bd hx e; omega
  | false =>
    unfold PointMath.idx at e ⊢
    cases e' : PointMath.bestOf m kn x with
    | none => simp [PointMath.valOf]
    | some y => rw [e'] at e; cases e
theorem revF_bd {x : List TPoint.El} (hx : PointMath.okS x = true) {kn last m v : Int} (h0 : 0 ≤ last) (h1 : last ≤ 1000000) (hv : v ≤ 1000000000) : 0 ≤ revF x kn last m v ∧ revF x kn last m v ≤ 1000000000000000 := by
  unfold revF
  split
  next h =>
    have hb := idx_bd hx h.1
    have e1 : 0 ≤ v * last := Int.mul_nonneg (by omega) h0
    have e2 : v * last ≤ 1000000000 * 1000000 := Int.mul_le_mul hv h1 h0 (by omega)
    rw [Int.tdiv_eq_ediv_of_nonneg e1]
    exact ⟨Int.ediv_nonneg e1 (by omega), Int.le_trans (Int.ediv_le_self _ e1) (by omega)⟩
  next => omega
theorem up_bd {F : Int → Int → Int} {v a : Int} (hF : ∀ m, 0 ≤ F m v ∧ F m v ≤ 1000000000000000) : ∀ n : Nat, 0 ≤ upTo F v a n ∧ upTo F v a n ≤ 1000000000000000 * (n : Int)
  | 0 => by simp [upTo]
  | n + 1 => by
    have ih := up_bd (a := a) hF n
    have := hF (a + (n : Int))
    rw [up_succ]
    omega
theorem up_le {F : Int → Int → Int} {v a : Int} (hF : ∀ m, 0 ≤ F m v) : ∀ (n k : Nat), n ≤ k → upTo F v a n ≤ upTo F v a k
  | n, 0, h => by obtain rfl : n = 0 := by omega
                  exact Int.le_refl _
  | n, k + 1, h => by
    by_cases e : n = k + 1
    · subst e; exact Int.le_refl _
    · have ih := up_le (a := a) hF n k (by omega)
      have := hF (a + (k : Int))
      rw [up_succ]
      omega
theorem spans_pos {F : Int → Int → Int} : ∀ {L : List El}, (∀ x ∈ L, ∀ m, 0 ≤ F m x.Value) → 0 ≤ spans F L
  | [], _ => Int.le_refl _
  | x :: r, h => by
    have h1 := up_le (a := x.From) (h x List.mem_cons_self) 0 (x.To - x.From).toNat (by omega)
    have h2 := spans_pos (L := r) (fun y hy => h y (List.mem_cons_of_mem _ hy))
    change 0 ≤ upTo _ _ _ _ at h1
    simp only [spans, segF]
    omega
theorem spans_part {F : Int → Int → Int} {L : List El} (h : ∀ x ∈ L, ∀ m, 0 ≤ F m x.Value) (j : Nat) : 0 ≤ spans F (L.take j) ∧ spans F (L.take j) ≤ spans F L := by
  have h1 := spans_pos (F := F) (L := L.take j) (fun x hx => h x (List.mem_of_mem_take hx))
  have h2 := spans_pos (F := F) (L := L.drop j) (fun x hx => h x (List.mem_of_mem_drop hx))
  have h3 := spans_append F (L.take j) (L.drop j)
  rw [List.take_append_drop] at h3
  omega
/-- Every sum on the way is at most 3600 times the greatest part. -/
theorem rev_part {l : List Fa} (h : OkS l) {x : List TPoint.El} (hx : PointMath.okS x = true) {kn f t last : Int} (h0 : 0 ≤ last) (h1 : last ≤ 1000000) (hf0 : 0 ≤ f) (hf1 : f ≤ 3600) (ht0 : 0 ≤ t) (ht1 : t ≤ 3600) {j : Nat} (hj : j < (hist l kn f t).length) (n : Nat) (hn : (n : Int) ≤ (hist l kn f t)[j].To - (hist l kn f t)[j].From) :
    0 ≤ spans (revF x kn last) ((hist l kn f t).take j) + upTo (revF x kn last) (hist l kn f t)[j].Value (hist l kn f t)[j].From n ∧ spans (revF x kn last) ((hist l kn f t).take j) + upTo (revF x kn last) (hist l kn f t)[j].Value (hist l kn f t)[j].From n ≤ 3600000000000000000 := by
  have hp : ∀ y ∈ hist l kn f t, ∀ m, 0 ≤ revF x kn last m y.Value := fun y hy m => (revF_bd hx h0 h1 (hist_lies h hf0 hf1 ht0 ht1 hy).v1).1
  have a1 := (spans_part hp j).1
  have a2 := (spans_part hp (j + 1)).2
  rw [spans_take hj] at a2
  have hy := hp _ (List.getElem_mem hj)
  have a3 := up_le (a := (hist l kn f t)[j].From) hy 0 n (by omega)
  have a4 := up_le (a := (hist l kn f t)[j].From) hy n ((hist l kn f t)[j].To - (hist l kn f t)[j].From).toNat (by omega)
  change 0 ≤ upTo _ _ _ _ at a3
  unfold segF at a2
  have a5 : spans (revF x kn last) (hist l kn f t) ≤ 3600000000000000000 := by
    rw [hist_spans h hf0 hf1 ht0 ht1]
    have : ∀ n : Nat, monthly (revF x kn last) (fun m => pv l kn m) f n ≤ 1000000000000000 * (n : Int) := by
      intro n
      induction n with
      | zero => exact Int.le_refl _
      | succ n ih =>
        simp only [monthly]
        split
        · have := (revF_bd hx (kn := kn) (m := f + (n : Int)) h0 h1 (pv_bd h kn (f + (n : Int))).2).2
          omega
        · omega
    have := this (t - f).toNat
    omega
  omega
end Go.Proofs.Ytdmkceaonfbebaa.PayLine

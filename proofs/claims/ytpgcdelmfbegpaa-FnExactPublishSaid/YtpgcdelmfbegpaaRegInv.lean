/- Regions that draw their order, by an invariant: what holds of the frame and the world, given which operations have come up; each operation is met once, in whatever order. Imports nothing of the dump. -/
import Derived.WalkKit
import Derived.StillTail
import Derived.Deep.Quiet
import Derived.Test.YtpgcdelmfbegpaaFresh
namespace Go.Proofs.Ytpgcdelmfbegpaa.RegInv
open Go Go.RowKit
variable {P : Program} {ops : Array Oper} {md : Region.Mode}

/-- The next operation i has come up, too. -/
def set (L : Nat → Bool) (i : Nat) : Nat → Bool := fun j => if j = i then true else L j
def seen (listed : Array Bool) : Nat → Bool := fun j => listed.getD j false
theorem seen_set {listed : Array Bool} {i : Nat} (h : i < listed.size) : seen (listed.setIfInBounds i true) = set (seen listed) i := by
  funext j
  unfold seen set
  by_cases e : j = i
  · subst e
    rw [if_pos rfl]
    simp [Array.getD, h]
  · rw [if_neg e, getD_set_ne false (fun h => e h.symm)]
/-- How many have not come up. -/
def left (ops : Array Oper) (listed : Array Bool) : Nat := (List.range ops.size).countP fun j => !(listed.getD j false)
theorem left_set {listed : Array Bool} {i : Nat} (hi : i < ops.size) (h : listed.getD i false = false) (hs : listed.size = ops.size) : left ops (listed.setIfInBounds i true) + 1 ≤ left ops listed := by
  unfold left
  have e1 : (listed.setIfInBounds i true).getD i false = true := by
    simp [Array.getD, hs, hi]
  have hsub : ∀ (l : List Nat), l.Nodup → i ∈ l → (l.countP fun j => !((listed.setIfInBounds i true).getD j false)) + 1 ≤ l.countP fun j => !(listed.getD j false) := by
    intro l
    induction l with
    | nil => intro _ h; cases h
    | cons x t ih =>
      intro hn hx
      have hn' := List.nodup_cons.1 hn
      rw [List.countP_cons, List.countP_cons]
      by_cases e : x = i
      · subst e
        have h3 : (t.countP fun j => !((listed.setIfInBounds x true).getD j false)) = t.countP fun j => !(listed.getD j false) := by
          refine List.countP_congr fun y hy => ?_
          rw [getD_set_ne false (fun h => hn'.1 (by rw [h]; exact hy))]
        rw [h3, e1, h]
        simp
      · have h4 := ih hn'.2 (by rcases List.mem_cons.1 hx with h | h; exact absurd h.symm e; exact h)
        rw [getD_set_ne false (fun h => e h.symm)]
        omega
  exact hsub _ List.nodup_range (List.mem_range.2 hi)
theorem left_zero {listed : Array Bool} (h : left ops listed = 0) : Region.ready md ops listed = [] := by
  cases hr : Region.ready md ops listed with
  | nil => rfl
  | cons i t =>
    have hi : i ∈ Region.ready md ops listed := by rw [hr]; exact List.mem_cons_self
    obtain ⟨h1, o, ho, _⟩ := mem_ready.1 hi
    have hlt : i < ops.size := (Array.getElem?_eq_some_iff.1 ho).1
    unfold left at h
    rw [List.countP_eq_zero] at h
    have h2 := h i (List.mem_range.2 hlt)
    have h3 : listed.getD i false = false := by
      unfold Array.getD at h1 ⊢
      split at h1
      next hl => rw [dif_pos hl]; exact h1
      next hl => cases h1
    rw [h3] at h2
    exact absurd rfl h2

/-- A region that draws its order, by an invariant. -/
theorem wp_region_inv {id : Nat} {Q : Exit → Act → World → Prop} {a : Act} {w : World} {l : List Oper} (Inv : (Nat → Bool) → Act → World → Prop) (hm : P.follows .mixedOrders = true)
    (hback : (List.range l.toArray.size).all (fun i => match l.toArray[i]? with | some o => o.after.all fun e => !Region.binds .any e || decide (e.on < i) | none => true) = true)
    (h0 : Inv (fun _ => false) a { w with drawn := w.drawn + 1 })
    (hstep : ∀ (L : Nat → Bool) (i : Nat) (o : Oper) (a : Act) (w : World), l.toArray[i]? = some o → L i = false → (∀ e ∈ o.after, Region.binds .any e = true → L e.on = true) → Inv L a w → wpOp P l.toArray Q i (fun a' w' => Inv (set L i) a' w') a w)
    (hend : ∀ (L : Nat → Bool) (a : Act) (w : World), (∀ j, j < l.toArray.size → L j = true) → Inv L a w → Q .normal a w) : (Code.region id l.toArray true).wp P Q a w := by
  have back : ∀ (i : Nat) (o : Oper), l.toArray[i]? = some o → ∀ e ∈ o.after, Region.binds .any e = true → e.on < i := fun i o hi e he hb => by
    have h1 := List.all_eq_true.1 hback i (List.mem_range.2 (Array.getElem?_eq_some_iff.1 hi).1)
    simp only [hi] at h1
    have h2 := Array.all_eq_true'.1 h1 e he
    simpa [hb] using h2
  have fin : ∀ (listed : Array Bool), listed.size = l.toArray.size → Region.ready .any l.toArray listed = [] → ∀ j, j < l.toArray.size → seen listed j = true := by
    intro listed hs hr j
    induction j using Nat.strongRecOn with
    | _ j ih =>
      intro hj
      cases hl : seen listed j with
      | true => rfl
      | false =>
        have : j ∈ Region.ready .any l.toArray listed := mem_ready.2 ⟨getD_in (by omega) hl, l.toArray[j], Array.getElem?_eq_getElem hj, fun e he hb => by
          have := back j l.toArray[j] (Array.getElem?_eq_getElem hj) e he hb
          exact ih e.on this (by omega)⟩
        rw [hr] at this
        cases this
  refine wp_region_any hm ?_
  suffices H : ∀ (fuel : Nat) (listed : Array Bool) (a : Act) (w : World), listed.size = l.toArray.size → left l.toArray listed ≤ fuel → Inv (seen listed) a w → wpAny P .any l.toArray Q fuel listed a w by
    refine H _ _ _ _ (by simp) ?_ ?_
    · exact Nat.le_trans (List.countP_le_length) (by simp)
    · have : seen (Array.replicate l.toArray.size false) = fun _ => false := by funext j; exact getD_replicate_false _ _
      rw [this]
      exact h0
  intro fuel
  induction fuel with
  | zero =>
    intro listed a w hs hl hi
    have hr := left_zero (md := .any) (Nat.le_zero.1 hl)
    exact ⟨hr, hend _ a w (fin listed hs hr) hi⟩
  | succ fuel ih =>
    intro listed a w hs hl hi
    refine ⟨fun hr => hend _ a w (fin listed hs hr) hi, fun i hr => ?_⟩
    obtain ⟨h1, o, ho, hall⟩ := mem_ready.1 hr
    have hlt : i < l.toArray.size := (Array.getElem?_eq_some_iff.1 ho).1
    have h2 : listed.getD i false = false := by
      unfold Array.getD at h1 ⊢
      rw [dif_pos (by omega)] at h1 ⊢
      exact h1
    have h3 := hstep (seen listed) i o a w ho h2 hall hi
    refine wpOp_mono (fun a' w' hi' => ih _ a' w' (by simp [hs]) ?_ ?_) h3
    · have := left_set hlt h2 hs
      omega
    · rw [seen_set (by omega)]
      exact hi'
/-- .. and what has come up is closed: with an operation what it waits for. -/
theorem wp_region_inv2 {id : Nat} {Q : Exit → Act → World → Prop} {a : Act} {w : World} {l : List Oper} (Inv : (Nat → Bool) → Act → World → Prop) (hm : P.follows .mixedOrders = true)
    (hback : (List.range l.toArray.size).all (fun i => match l.toArray[i]? with | some o => o.after.all fun e => !Region.binds .any e || decide (e.on < i) | none => true) = true)
    (h0 : Inv (fun _ => false) a { w with drawn := w.drawn + 1 })
    (hstep : ∀ (L : Nat → Bool) (i : Nat) (o : Oper) (a : Act) (w : World), l.toArray[i]? = some o → L i = false → (∀ e ∈ o.after, Region.binds .any e = true → L e.on = true) → (∀ (j : Nat) (p : Oper), L j = true → l.toArray[j]? = some p → ∀ e ∈ p.after, Region.binds .any e = true → L e.on = true) → Inv L a w → wpOp P l.toArray Q i (fun a' w' => Inv (set L i) a' w') a w)
    (hend : ∀ (L : Nat → Bool) (a : Act) (w : World), (∀ j, j < l.toArray.size → L j = true) → Inv L a w → Q .normal a w) : (Code.region id l.toArray true).wp P Q a w := by
  have back : ∀ (i : Nat) (o : Oper), l.toArray[i]? = some o → ∀ e ∈ o.after, Region.binds .any e = true → e.on < i := fun i o hi e he hb => by
    have h1 := List.all_eq_true.1 hback i (List.mem_range.2 (Array.getElem?_eq_some_iff.1 hi).1)
    simp only [hi] at h1
    have h2 := Array.all_eq_true'.1 h1 e he
    simpa [hb] using h2
  have fin : ∀ (listed : Array Bool), listed.size = l.toArray.size → Region.ready .any l.toArray listed = [] → ∀ j, j < l.toArray.size → seen listed j = true := by
    intro listed hs hr j
    induction j using Nat.strongRecOn with
    | _ j ih =>
      intro hj
      cases hl : seen listed j with
      | true => rfl
      | false =>
        have : j ∈ Region.ready .any l.toArray listed := mem_ready.2 ⟨getD_in (by omega) hl, l.toArray[j], Array.getElem?_eq_getElem hj, fun e he hb => by
          have := back j l.toArray[j] (Array.getElem?_eq_getElem hj) e he hb
          exact ih e.on this (by omega)⟩
        rw [hr] at this
        cases this
  refine wp_region_any hm ?_
  suffices H : ∀ (fuel : Nat) (listed : Array Bool) (a : Act) (w : World), listed.size = l.toArray.size → left l.toArray listed ≤ fuel → (∀ (j : Nat) (p : Oper), seen listed j = true → l.toArray[j]? = some p → ∀ e ∈ p.after, Region.binds .any e = true → seen listed e.on = true) → Inv (seen listed) a w → wpAny P .any l.toArray Q fuel listed a w by
    refine H _ _ _ _ (by simp) ?_ ?_ ?_
    · exact Nat.le_trans (List.countP_le_length) (by simp)
    · intro j p hj
      exact absurd (hj.symm.trans (getD_replicate_false _ _)) (by decide)
    · have : seen (Array.replicate l.toArray.size false) = fun _ => false := by funext j; exact getD_replicate_false _ _
      rw [this]
      exact h0
  intro fuel
  induction fuel with
  | zero =>
    intro listed a w hs hl hcl hi
    have hr := left_zero (md := .any) (Nat.le_zero.1 hl)
    exact ⟨hr, hend _ a w (fin listed hs hr) hi⟩
  | succ fuel ih =>
    intro listed a w hs hl hcl hi
    refine ⟨fun hr => hend _ a w (fin listed hs hr) hi, fun i hr => ?_⟩
    obtain ⟨h1, o, ho, hall⟩ := mem_ready.1 hr
    have hlt : i < l.toArray.size := (Array.getElem?_eq_some_iff.1 ho).1
    have h2 : listed.getD i false = false := by
      unfold Array.getD at h1 ⊢
      rw [dif_pos (by omega)] at h1 ⊢
      exact h1
    have h3 := hstep (seen listed) i o a w ho h2 hall hcl hi
    refine wpOp_mono (fun a' w' hi' => ih _ a' w' (by simp [hs]) ?_ ?_ ?_) h3
    · have := left_set hlt h2 hs
      omega
    · intro j p hj hp e he hb
      rw [seen_set (by omega)] at hj ⊢
      unfold set at hj ⊢
      by_cases e1 : e.on = i
      · rw [if_pos e1]
      · rw [if_neg e1]
        by_cases e2 : j = i
        · subst e2
          obtain rfl := Option.some.inj (ho.symm.trans hp)
          exact hall e he hb
        · rw [if_neg e2] at hj
          exact hcl j p hj hp e he hb
    · rw [seen_set (by omega)]
      exact hi'
/-- An operation that yields a value. -/
theorem step_run {Q : Exit → Act → World → Prop} {i : Nat} {o : Oper} {a : Act} {w : World} {K : Act → World → Prop} (hi : ops[i]? = some o) (hg : o.guard = none)
    (h : ∃ v w', (execOp a.eval o).run P w = .ok (.value v) w' ∧ K (a.put o.dst v) w') : wpOp P ops Q i K a w := by
  obtain ⟨v, w', hr, hk⟩ := h
  unfold wpOp
  rw [hi]
  have hw : Region.wanted o (yielded ops a.tmps) = true := by simp [Region.wanted, hg]
  simp only [hw, if_true]
  left
  unfold Oper.wp
  rw [hr]
  exact hk
/-- A store. -/
theorem step_skip {Q : Exit → Act → World → Prop} {i : Nat} {o : Oper} {a : Act} {w : World} {K : Act → World → Prop} (hi : ops[i]? = some o) (hg : o.guard = none)
    (h : ∃ w', (execOp a.eval o).run P w = .ok .skip w' ∧ K (a.put o.dst undef) w') : wpOp P ops Q i K a w := by
  obtain ⟨w', hr, hk⟩ := h
  unfold wpOp
  rw [hi]
  have hw : Region.wanted o (yielded ops a.tmps) = true := by simp [Region.wanted, hg]
  simp only [hw, if_true]
  left
  unfold Oper.wp
  rw [hr]
  exact hk
/-- The call of a function of the text. -/
theorem step_fn {Q : Exit → Act → World → Prop} {i : Nat} {a : Act} {w : World} {K : Act → World → Prop} {d : Tmp} {l : List Operand} {ts : Array TypeId} {ty : TypeId} {pos : String} {af : Array Edge} {f : FuncId} {fn : Func} (args : Array Value)
    (hi : ops[i]? = some ⟨some d, .call { callee := .value (.func f), args := l.toArray, argTypes := ts }, ty, pos, af, none⟩)
    (hf : P.funcs[f]? = some fn) (hn : (fn.name == "runtime.NumGoroutine") = false) (hb : fn.body.isNone = false) (hargs : (l.map a.eval).toArray = args) (hc : Calls P f args w fun e w' => ∃ v, e = .returned v ∧ K (a.put (some d) v) w') : wpOp P ops Q i K a w := by
  unfold wpOp
  rw [hi]
  have hw : Region.wanted (⟨some d, .call { callee := .value (.func f), args := l.toArray, argTypes := ts }, ty, pos, af, none⟩ : Oper) (yielded ops a.tmps) = true := by simp [Region.wanted]
  simp only [hw, if_true]
  left
  unfold Oper.wp
  rw [Fresh.run_call a.eval rfl hf hn hb rfl, hargs]
  exact hc.mono fun e w' ⟨v, he, hk⟩ => by subst he; exact hk
end Go.Proofs.Ytpgcdelmfbegpaa.RegInv

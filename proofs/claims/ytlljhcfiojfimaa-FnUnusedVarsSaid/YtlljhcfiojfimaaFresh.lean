/- Regions that draw their order, whose calls make memory: walked once, in the order of the text. What an operation yields may depend on the world in which it comes up (the address of a new block): it is spoken of by a property that later growth keeps. One store into new memory may close the region. Imports nothing of the dump. -/
import Derived.WalkKit
import Derived.BigQuiet
import Derived.Deep.Quiet
import Derived.StillTail
import Derived.Test.YtlljhcfiojfimaaBelowKit
import Derived.Test.YtlljhcfiojfimaaGrown
namespace Go.Proofs.Ytlljhcfiojfimaa.Fresh
open Go Go.RowKit

/-- A walk stops here. -/
structure Pause (p : Prop) : Prop where
  out : p
theorem pause {p : Prop} (h : Pause p) : p := h.out

inductive Kd where
  | quiet
  | grow
  | write
  deriving DecidableEq

/-- Operations that hand a value on, or stop: no callee is entered. -/
def plain : Op → Bool
  | .move _ | .assign _ | .pick .. | .load .. | .binOp .. | .unOp .. | .convert .. | .slice .. | .fieldAddr .. | .field .. | .indexAddr .. | .index .. | .extract .. | .build .. => true
  | _ => false
theorem run_value {P : Program} {s : Sem Value} {w w' : World} {n : Next} (h : (do pure (.value (← s)) : Sem Next).run P w = .ok n w') : ∃ u, n = .value u := by
  simp only [Sem.run_bind] at h
  cases hr : s.run P w with
  | ok u w1 => rw [hr] at h; simp only [Result.andThen_ok, Sem.run_pure] at h; cases h; exact ⟨u, rfl⟩
  | halt x w1 => rw [hr] at h; cases h
theorem plain_run {P : Program} {ρ : Operand → Value} {o : Oper} {w w' : World} {n : Next} (hp : plain o.op = true) (h : (execOp ρ o).run P w = .ok n w') : ∃ u, n = .value u := by
  unfold execOp at h
  cases ho : o.op <;> rw [ho] at h hp <;> simp only [plain, Bool.false_eq_true] at hp
  all_goals first
    | exact run_value h
    | (cases h; exact ⟨_, rfl⟩)
    | skip
  case pick c a b =>
    simp only [Sem.run_bind] at h
    cases hr : (asBool (ρ c)).run P w with
    | ok u w1 => rw [hr] at h; simp only [Result.andThen_ok, Sem.run_pure] at h; cases h; exact ⟨_, rfl⟩
    | halt x w1 => rw [hr] at h; cases h

section
variable {P : Program} {ops : Array Oper} {md : Region.Mode} {C : World → Prop} {G : World → World → Prop} {Ψ : Nat → Value → Nat → Nat → World → Prop} {pu : Nat → Value → Prop} {kd : Nat → Kd}

def slotOf (ops : Array Oper) (a : Act) (j : Nat) : Value :=
  match (ops[j]?).bind (·.dst) with
  | some d => a.eval (.tmp d)
  | none => undef
/-- What the operations for which this one waits have left. -/
def Deps (ops : Array Oper) (md : Region.Mode) (Ψ : Nat → Value → Nat → Nat → World → Prop) (kd : Nat → Kd) (a : Act) (o : Oper) (w : World) : Prop :=
  ∀ e ∈ o.after, Region.binds md e = true → kd e.on = .grow → ∃ s t, Ψ e.on (slotOf ops a e.on) s t w
def Grows (P : Program) (G : World → World → Prop) (R : Value → World → Prop) (w : World) : Result Next → Prop
  | .ok (.value v) w' => G w w' ∧ R v w'
  | .ok .skip w' => G w w' ∧ R undef w'
  | .ok (.enter f args) w' => Calls P f args w' fun e w'' => ∃ v, e = .returned v ∧ G w w'' ∧ R v w''
  | _ => False
def Writes (C : World → Prop) : Result Next → Prop
  | .ok .skip w' => C w'
  | _ => False
def Up (P : Program) (C : World → Prop) (G : World → World → Prop) (Ψ : Nat → Value → Nat → Nat → World → Prop) (pu : Nat → Value → Prop) (kd : Nat → Kd) (j : Nat) (w : World) (r : Result Next) : Prop :=
  match kd j with
  | .quiet => False
  | .grow => Grows P G (fun v w' => pu j v ∧ Ψ j v w.heap.size w'.heap.size w') w r
  | .write => Writes C r ∧ pu j undef
def Ob (P : Program) (ops : Array Oper) (md : Region.Mode) (C : World → Prop) (G : World → World → Prop) (Ψ : Nat → Value → Nat → Nat → World → Prop) (pu : Nat → Value → Prop) (kd : Nat → Kd) (j : Nat) (o : Oper) (a : Act) : Prop :=
  Region.wanted o (yielded ops a.tmps) = true ∧ (∀ w, C w → Deps ops md Ψ kd a o w → Up P C G Ψ pu kd j w ((execOp a.eval o).run P w)) ∧ ∃ v, pu j v
def gOp (P : Program) (ops : Array Oper) (md : Region.Mode) (C : World → Prop) (G : World → World → Prop) (Ψ : Nat → Value → Nat → Nat → World → Prop) (pu : Nat → Value → Prop) (kd : Nat → Kd) (j : Nat) (K : Act → Prop) (a : Act) : Prop :=
  match ops[j]? with
  | none => K a
  | some o =>
    if kd j = .quiet then (if Region.wanted o (yielded ops a.tmps) then o.quiet P a C K else K (a.put o.dst undef))
    else Ob P ops md C G Ψ pu kd j o a ∧ ∀ v, pu j v → K (a.put o.dst v)


theorem gOp_mono {j : Nat} {K K' : Act → Prop} {a : Act} (h : ∀ a, K a → K' a) (hh : gOp P ops md C G Ψ pu kd j K a) : gOp P ops md C G Ψ pu kd j K' a := by
  unfold gOp at *
  split
  · exact h _ (by simpa [*] using hh)
  · rename_i o ho
    simp only [ho] at hh
    split
    · rename_i hk
      rw [if_pos hk] at hh
      split
      · rename_i hw; rw [if_pos hw] at hh; exact Oper.quiet_mono h hh
      · rename_i hw; rw [if_neg hw] at hh; exact h _ hh
    · rename_i hk
      rw [if_neg hk] at hh
      exact ⟨hh.1, fun v hv => h _ (hh.2 v hv)⟩

def wpAnyG (P : Program) (ops : Array Oper) (md : Region.Mode) (C : World → Prop) (G : World → World → Prop) (Ψ : Nat → Value → Nat → Nat → World → Prop) (pu : Nat → Value → Prop) (kd : Nat → Kd) (Q : Act → Prop) : Nat → Array Bool → Act → Prop
  | 0, listed, a => Region.ready md ops listed = [] ∧ Q a
  | fuel + 1, listed, a =>
    (Region.ready md ops listed = [] → Q a) ∧
    ∀ i ∈ Region.ready md ops listed, gOp P ops md C G Ψ pu kd i (wpAnyG P ops md C G Ψ pu kd Q fuel (listed.setIfInBounds i true)) a

/-- Operation i may be carried out in the state a, and may yield just the values S. -/
def Pend (P : Program) (ops : Array Oper) (md : Region.Mode) (C : World → Prop) (G : World → World → Prop) (Ψ : Nat → Value → Nat → Nat → World → Prop) (pu : Nat → Value → Prop) (kd : Nat → Kd) (i : Nat) (o : Oper) (S : Value → Prop) (a : Act) : Prop :=
  (kd i = .quiet ∧ ∃ v, YieldsIn P ops C o v a ∧ S = (· = v)) ∨ (kd i ≠ .quiet ∧ Ob P ops md C G Ψ pu kd i o a ∧ S = pu i)

theorem Pend.gOp {i : Nat} {o : Oper} {S : Value → Prop} {a : Act} (hi : ops[i]? = some o) (h : Pend P ops md C G Ψ pu kd i o S a) {K : Act → Prop} (hK : ∀ v, S v → K (a.put o.dst v)) : gOp P ops md C G Ψ pu kd i K a := by
  unfold Fresh.gOp
  simp only [hi]
  rcases h with ⟨hk, v, hy, rfl⟩ | ⟨hk, hob, rfl⟩
  · rw [if_pos hk]
    rcases hy with ⟨hw, hv⟩ | ⟨hw, rfl⟩
    · rw [if_pos hw]; exact ⟨v, hv, hK v rfl⟩
    · rw [if_neg (by rw [hw]; exact Bool.false_ne_true)]; exact hK _ rfl
  · rw [if_neg hk]
    exact ⟨hob, hK⟩
theorem pend_of_gOp {i : Nat} {o : Oper} {a : Act} {K : Act → Prop} (hi : ops[i]? = some o) (h : gOp P ops md C G Ψ pu kd i K a) : ∃ S, Pend P ops md C G Ψ pu kd i o S a ∧ (∃ v, S v) ∧ ∀ v, S v → K (a.put o.dst v) := by
  unfold gOp at h
  simp only [hi] at h
  by_cases hk : kd i = .quiet
  · rw [if_pos hk] at h
    by_cases hw : Region.wanted o (yielded ops a.tmps) = true
    · rw [if_pos hw] at h
      obtain ⟨v, h1, h2⟩ := h
      exact ⟨(· = v), .inl ⟨hk, v, .inl ⟨hw, h1⟩, rfl⟩, ⟨v, rfl⟩, fun u hu => by subst hu; exact h2⟩
    · rw [if_neg hw] at h
      exact ⟨(· = undef), .inl ⟨hk, undef, .inr ⟨by simpa using hw, rfl⟩, rfl⟩, ⟨undef, rfl⟩, fun u hu => by subst hu; exact h⟩
  · rw [if_neg hk] at h
    exact ⟨pu i, .inr ⟨hk, h.1, rfl⟩, h.1.2.2, h.2⟩

/-- The Bool: no two operations write one slot; edges lead backward; those that are quiet enter no callee. -/
def okB (md : Region.Mode) (ops : Array Oper) (kd : Nat → Kd) : Bool :=
  (List.range ops.size).all fun i => (List.range ops.size).all (fun j => i == j || match (ops[i]?).bind (·.dst), (ops[j]?).bind (·.dst) with
    | some d, some e => d != e
    | _, _ => true) &&
  match ops[i]? with
  | some o => (kd i != .quiet || plain o.op) && (o.after.all fun e => !Region.binds md e || decide (e.on < i))
  | none => true
structure OkR (md : Region.Mode) (ops : Array Oper) (kd : Nat → Kd) : Prop where
  dst : ∀ (i j : Nat) (oi oj : Oper) (d : Tmp), ops[i]? = some oi → ops[j]? = some oj → i ≠ j → oi.dst = some d → oj.dst ≠ some d
  plain : ∀ (i : Nat) (o : Oper), ops[i]? = some o → kd i = .quiet → plain o.op = true
  back : ∀ (i : Nat) (o : Oper), ops[i]? = some o → ∀ e ∈ o.after, Region.binds md e = true → e.on < i
theorem okB_spec {md : Region.Mode} {ops : Array Oper} {kd : Nat → Kd} (h : okB md ops kd = true) : OkR md ops kd := by
  unfold okB at h
  have key : ∀ (i : Nat) (o : Oper), ops[i]? = some o → i < ops.size := fun i o hi => (Array.getElem?_eq_some_iff.1 hi).1
  refine ⟨fun i j oi oj d hi hj hne hd he => ?_, fun i o hi hk => ?_, fun i o hi e he hb => ?_⟩
  · have h1 := List.all_eq_true.1 h i (List.mem_range.2 (key _ _ hi))
    rw [Bool.and_eq_true] at h1
    have h2 := List.all_eq_true.1 h1.1 j (List.mem_range.2 (key _ _ hj))
    simp [hi, hj, hd, he, hne] at h2
  · have h1 := List.all_eq_true.1 h i (List.mem_range.2 (key _ _ hi))
    rw [Bool.and_eq_true] at h1
    have h2 := h1.2
    simp only [hi, Bool.and_eq_true] at h2
    have h3 := h2.1
    simpa [hk] using h3
  · have h1 := List.all_eq_true.1 h i (List.mem_range.2 (key _ _ hi))
    rw [Bool.and_eq_true] at h1
    have h2 := h1.2
    simp only [hi, Bool.and_eq_true] at h2
    have h3 := Array.all_eq_true'.1 h2.2 e he
    simpa [hb] using h3

theorem slotOf_put (hok : OkR md ops kd) {i j : Nat} {oi : Oper} (hi : ops[i]? = some oi) (hne : i ≠ j) (a : Act) (v : Value) : slotOf ops (a.put oi.dst v) j = slotOf ops a j := by
  unfold slotOf
  cases hd : (ops[j]?).bind (·.dst) with
  | none => rfl
  | some d =>
    obtain ⟨oj, hj, hjd⟩ := Option.bind_eq_some_iff.1 hd
    exact Act.eval_put fun d' hd' e => hok.dst i j oi oj d' hi hj hne hd' (by cases e; exact hjd)
theorem deps_put (hok : OkR md ops kd) {i : Nat} {oi o : Oper} (hi : ops[i]? = some oi) (hno : ∀ e ∈ o.after, Region.binds md e = true → e.on ≠ i) (a : Act) (v : Value) (w : World) :
    Deps ops md Ψ kd (a.put oi.dst v) o w ↔ Deps ops md Ψ kd a o w := by
  unfold Deps
  constructor
  · intro h e he hb hk
    have := h e he hb hk
    rwa [slotOf_put hok hi (Ne.symm (hno e he hb))] at this
  · intro h e he hb hk
    rw [slotOf_put hok hi (Ne.symm (hno e he hb))]
    exact h e he hb hk

/-- One operation oj, apart from oi: it may come first. -/
theorem gOp_put (hok : OkR md ops kd) (hC : ∃ w, C w) {i j : Nat} {oi oj : Oper} {S : Value → Prop} (hi : ops[i]? = some oi) (hj : ops[j]? = some oj) (hap : oi.apart ops oj = true)
    (hsi : ∀ cs b, oi.op ≠ .select cs b) (hsj : ∀ cs b, oj.op ≠ .select cs b) (hnj : ∀ e ∈ oj.after, Region.binds md e = true → e.on ≠ i) (hni : ∀ e ∈ oi.after, Region.binds md e = true → e.on ≠ j)
    {K : Act → Prop} {a : Act} (hy : Pend P ops md C G Ψ pu kd i oi S a) (hS : ∃ v, S v) (h : ∀ v, S v → gOp P ops md C G Ψ pu kd j K (a.put oi.dst v)) :
    gOp P ops md C G Ψ pu kd j (fun a' => Pend P ops md C G Ψ pu kd i oi S a' ∧ ∀ v, S v → K (a'.put oi.dst v)) a := by
  obtain ⟨h1, h2, h3⟩ := Oper.apart_spec hap
  have keep : ∀ (a : Act), Pend P ops md C G Ψ pu kd i oi S a → ∀ u, Pend P ops md C G Ψ pu kd i oi S (a.put oj.dst u) := fun a hy u => by
    rcases hy with ⟨hk, v, hy1, rfl⟩ | ⟨hk, ⟨hw, hob, hv⟩, rfl⟩
    · exact .inl ⟨hk, v, hy1.of_same (execOp_put oi hsi a oj.dst u h3) (wanted_put oi a oj.dst u h3), rfl⟩
    · refine .inr ⟨hk, ⟨by rw [wanted_put oi a oj.dst u h3]; exact hw, fun w hc hd => ?_, hv⟩, rfl⟩
      rw [execOp_put oi hsi a oj.dst u h3]
      exact hob w hc ((deps_put hok hj hni a u w).1 hd)
  obtain ⟨v0, hv0⟩ := hS
  by_cases hk : kd j = .quiet
  · have hall : ∀ v, S v → if Region.wanted oj (yielded ops a.tmps) then oj.quiet P (a.put oi.dst v) C K else K ((a.put oi.dst v).put oj.dst undef) := fun v hv => by
      have := h v hv
      unfold gOp at this
      simp only [hj, if_pos hk] at this
      rwa [wanted_put oj a oi.dst v h1] at this
    unfold gOp
    simp only [hj, if_pos hk]
    by_cases hw : Region.wanted oj (yielded ops a.tmps) = true
    · rw [if_pos hw]
      obtain ⟨w1, hw1⟩ := hC
      have q0 := hall v0 hv0
      rw [if_pos hw] at q0
      obtain ⟨u, hu, _⟩ := q0
      have hu' : ∀ w, C w → oj.quietAt P a C w u := fun w hc => by
        have := hu w hc
        unfold Oper.quietAt at *
        rwa [execOp_put oj hsj a oi.dst v0 h1] at this
      refine ⟨u, hu', keep a hy u, fun v hv => ?_⟩
      have q1 := hall v hv
      rw [if_pos hw] at q1
      obtain ⟨u2, hu2, hk2⟩ := q1
      have e1 := hu' w1 hw1
      have e2 := hu2 w1 hw1
      unfold Oper.quietAt at e1 e2
      rw [execOp_put oj hsj a oi.dst v h1] at e2
      have hpl := hok.plain j oj hj hk
      have : u2 = u := by
        cases hr : (execOp a.eval oj).run P w1 with
        | halt x w' => rw [hr] at e1; exact absurd e1 (by simp [Oper.quietUpon])
        | ok n w' =>
          obtain ⟨x, rfl⟩ := plain_run hpl hr
          rw [hr] at e1 e2
          simp only [Oper.quietUpon] at e1 e2
          rw [← e1.2, ← e2.2]
      subst this
      rw [← Act.put_comm a v u2 h2]
      exact hk2
    · rw [if_neg hw]
      refine ⟨keep a hy undef, fun v hv => ?_⟩
      have := hall v hv
      rw [if_neg hw] at this
      rw [← Act.put_comm a v undef h2]
      exact this
  · have hall : ∀ v, S v → Ob P ops md C G Ψ pu kd j oj (a.put oi.dst v) ∧ ∀ u, pu j u → K ((a.put oi.dst v).put oj.dst u) := fun v hv => by
      have := h v hv
      unfold gOp at this
      simpa only [hj, if_neg hk] using this
    unfold gOp
    simp only [hj, if_neg hk]
    obtain ⟨⟨hw, hob, hex⟩, _⟩ := hall v0 hv0
    refine ⟨⟨by rwa [wanted_put oj a oi.dst v0 h1] at hw, fun w hc hd => ?_, hex⟩, fun u hu => ⟨keep a hy u, fun v hv => ?_⟩⟩
    · have := hob w hc ((deps_put hok hi hnj a v0 w).2 hd)
      rwa [execOp_put oj hsj a oi.dst v0 h1] at this
    · rw [← Act.put_comm a v u h2]
      exact (hall v hv).2 u hu

theorem wpAnyG_first (hok : OkR md ops kd) (hC : ∃ w, C w) {Q : Act → Prop} {i : Nat} {oi : Oper} {S : Value → Prop} (hi : ops[i]? = some oi) (hsel : ∀ (j : Nat) (o : Oper) cs b, ops[j]? = some o → o.op ≠ .select cs b) (hS : ∃ v, S v) :
    ∀ (fuel : Nat) (listed : Array Bool) (a : Act),
      (∀ j oj, ops[j]? = some oj → j ≠ i → listed.getD j true = false → (∀ e ∈ oj.after, Region.binds md e = true → e.on ≠ i) → oi.apart ops oj = true) →
      i ∈ Region.ready md ops listed → Pend P ops md C G Ψ pu kd i oi S a →
      (∀ v, S v → wpAnyG P ops md C G Ψ pu kd Q fuel (listed.setIfInBounds i true) (a.put oi.dst v)) → wpAnyG P ops md C G Ψ pu kd Q (fuel + 1) listed a := by
  intro fuel
  induction fuel with
  | zero =>
    intro listed a _ hr hy H
    refine ⟨fun h => (by rw [h] at hr; cases hr), fun j hj => ?_⟩
    by_cases hji : j = i
    · subst hji; exact hy.gOp hi H
    · have := ready_mono hj hji
      obtain ⟨v, hv⟩ := hS
      rw [(H v hv).1] at this
      cases this
  | succ fuel ih =>
    intro listed a hfree hr hy H
    refine ⟨fun h => (by rw [h] at hr; cases hr), fun j hj => ?_⟩
    by_cases hji : j = i
    · subst hji; exact hy.gOp hi H
    · obtain ⟨hjun, oj, hoj, hall⟩ := mem_ready.1 hj
      obtain ⟨hiun, oi', hoi', halli⟩ := mem_ready.1 hr
      have : oi' = oi := Option.some.inj (hoi'.symm.trans hi)
      subst this
      have hnot : ∀ e ∈ oj.after, Region.binds md e = true → e.on ≠ i := fun e he hb heq => by
        have h1 := hall e he hb
        rw [heq] at h1
        rw [getD_both hiun] at h1
        cases h1
      have hnoti : ∀ e ∈ oi'.after, Region.binds md e = true → e.on ≠ j := fun e he hb heq => by
        have h1 := halli e he hb
        rw [heq] at h1
        rw [getD_both hjun] at h1
        cases h1
      have h2 := gOp_put hok hC hi hoj (hfree j oj hoj hji hjun hnot) (fun cs b => hsel i oi' cs b hi) (fun cs b => hsel j oj cs b hoj) hnot hnoti hy hS fun v hv => (H v hv).2 j (ready_mono hj hji)
      have hfree' : ∀ k ok, ops[k]? = some ok → k ≠ i → (listed.setIfInBounds j true).getD k true = false →
          (∀ e ∈ ok.after, Region.binds md e = true → e.on ≠ i) → oi'.apart ops ok = true := fun k ok hk hki hun hno => by
        refine hfree k ok hk hki ?_ hno
        by_cases hjk : j = k
        · subst hjk; exact hjun
        · rw [getD_set_ne true hjk] at hun; exact hun
      refine gOp_mono (fun a' h3 => ih (listed.setIfInBounds j true) a' hfree' (ready_mono hr (Ne.symm hji)) h3.1 fun v hv => ?_) h2
      rw [Array.setIfInBounds_comm _ _ hji]
      exact h3.2 v hv

/-- The lexical walk. -/
def wpG (P : Program) (ops : Array Oper) (md : Region.Mode) (C : World → Prop) (G : World → World → Prop) (Ψ : Nat → Value → Nat → Nat → World → Prop) (pu : Nat → Value → Prop) (kd : Nat → Kd) (Q : Act → Prop) : Nat → List Oper → Act → Prop
  | _, [], a => Q a
  | k, o :: rest, a =>
    if kd k = .quiet then (if Region.wanted o (yielded ops a.tmps) then o.quiet P a C (wpG P ops md C G Ψ pu kd Q (k + 1) rest) else wpG P ops md C G Ψ pu kd Q (k + 1) rest (a.put o.dst undef))
    else Ob P ops md C G Ψ pu kd k o a ∧ ∀ v, pu k v → wpG P ops md C G Ψ pu kd Q (k + 1) rest (a.put o.dst v)

theorem wpAnyG_lex (hok : OkR md ops kd) (hC : ∃ w, C w) {Q : Act → Prop} (hs : Region.noSelect ops = true) : ∀ (l : List Oper) (k : Nat) (listed : Array Bool) (a : Act), (∀ j, l[j]? = ops[k + j]?) →
    Region.lexFrom md ops l.length k listed = true → wpG P ops md C G Ψ pu kd Q k l a → wpAnyG P ops md C G Ψ pu kd Q l.length listed a
  | [], _, _, _, _, hB, h => ⟨by simpa [Region.lexFrom] using hB, h⟩
  | o :: l, k, listed, a, hl, hB, h => by
    have h0 : ops[k]? = some o := by simpa using (hl 0).symm
    simp only [List.length_cons, Region.lexFrom, Bool.and_eq_true] at hB
    obtain ⟨⟨hr, hf⟩, hB'⟩ := hB
    have hst : gOp P ops md C G Ψ pu kd k (wpG P ops md C G Ψ pu kd Q (k + 1) l) a := by unfold gOp; simp only [h0]; exact h
    obtain ⟨S, hy, hS, hK⟩ := pend_of_gOp h0 hst
    exact wpAnyG_first hok hC h0 (Region.noSelect_spec hs) hS l.length listed a (Region.free_spec h0 hf) (by simpa using hr) hy fun v hv =>
      wpAnyG_lex hok hC hs l (k + 1) _ _ (fun j => by have := hl (j + 1); simpa [Nat.add_assoc, Nat.add_comm 1 j] using this) hB' (hK v hv)

/-! ### The worlds -/
/-- The Bool: what the store N waits for (L), and what the others do not touch; n: how many slots there are. -/
def ancOf (md : Region.Mode) (ops : Array Oper) (N : Nat) : List Nat := (List.range N).reverse.foldl (fun L j => if (N :: L).any (fun i => Region.waitsFor md ops i j) then j :: L else L) []
def tailB (md : Region.Mode) (ops : Array Oper) (kd : Nat → Kd) (n : Nat) (N : Nat) (L : List Nat) : Bool :=
  (List.range ops.size).all (fun j => match ops[j]? with
    | none => true
    | some o => match kd j with
      | .grow => (match o.dst with | some d => decide (d < n) | none => false) && (decide (ops.size ≤ N) || L.contains j)
      | .write => j == N && o.dst == none
      | .quiet => decide (ops.size ≤ N) || L.contains j || (match ops[N]?, o.dst with | some oN, some d => !(oN.looksAt ops).contains d | _, _ => true)) &&
  (L.all fun j => (N :: L).any fun i => decide (j < i) && Region.waitsFor md ops i j)
structure TailR (md : Region.Mode) (ops : Array Oper) (kd : Nat → Kd) (n : Nat) (N : Nat) (L : List Nat) : Prop where
  grow : ∀ (j : Nat) (o : Oper), ops[j]? = some o → kd j = .grow → (∃ d, o.dst = some d ∧ d < n) ∧ (N < ops.size → j ∈ L)
  write : ∀ (j : Nat) (o : Oper), ops[j]? = some o → kd j = .write → j = N ∧ o.dst = none
  quiet : ∀ (j : Nat) (o : Oper), ops[j]? = some o → kd j = .quiet → N < ops.size → j ∈ L ∨ ∀ oN, ops[N]? = some oN → ∀ d, o.dst = some d → d ∉ oN.looksAt ops
  anc : ∀ j ∈ L, ∃ i, (i = N ∨ i ∈ L) ∧ j < i ∧ Region.waitsFor md ops i j = true
theorem tailB_spec {md : Region.Mode} {ops : Array Oper} {kd : Nat → Kd} {n N : Nat} {L : List Nat} (h : tailB md ops kd n N L = true) : TailR md ops kd n N L := by
  unfold tailB at h
  rw [Bool.and_eq_true] at h
  have key : ∀ (i : Nat) (o : Oper), ops[i]? = some o → i < ops.size := fun i o hi => (Array.getElem?_eq_some_iff.1 hi).1
  refine ⟨fun j o hj hk => ?_, fun j o hj hk => ?_, fun j o hj hk hN => ?_, fun j hj => ?_⟩
  · have h1 := List.all_eq_true.1 h.1 j (List.mem_range.2 (key _ _ hj))
    simp only [hj, hk, Bool.and_eq_true, Bool.or_eq_true, decide_eq_true_eq, List.contains_iff_mem] at h1
    refine ⟨?_, fun hN => h1.2.resolve_left (by omega)⟩
    cases hd : o.dst with
    | none => rw [hd] at h1; simp at h1
    | some d => rw [hd] at h1; exact ⟨d, rfl, by simpa using h1.1⟩
  · have h1 := List.all_eq_true.1 h.1 j (List.mem_range.2 (key _ _ hj))
    simp only [hj, hk, Bool.and_eq_true, beq_iff_eq] at h1
    exact h1
  · have h1 := List.all_eq_true.1 h.1 j (List.mem_range.2 (key _ _ hj))
    simp only [hj, hk, Bool.or_eq_true, decide_eq_true_eq, List.contains_iff_mem] at h1
    rcases h1 with (h1 | h1) | h1
    · omega
    · exact .inl h1
    · refine .inr fun oN hoN d hd => ?_
      rw [hoN, hd] at h1
      simpa using h1
  · have h1 := List.all_eq_true.1 h.2 j hj
    obtain ⟨i, hi, hh⟩ := List.any_eq_true.1 h1
    simp only [Bool.and_eq_true, decide_eq_true_eq] at hh
    exact ⟨i, by simpa using hi, hh.1, hh.2⟩

def Closed (md : Region.Mode) (ops : Array Oper) (listed : Array Bool) : Prop :=
  ∀ (j : Nat) (oj : Oper), ops[j]? = some oj → listed.getD j false = true → ∀ e ∈ oj.after, Region.binds md e = true → listed.getD e.on false = true
theorem Closed.set {i : Nat} {listed : Array Bool} (h : Closed md ops listed) (hi : i ∈ Region.ready md ops listed) : Closed md ops (listed.setIfInBounds i true) := by
  obtain ⟨_, oi, hoi, hall⟩ := mem_ready.1 hi
  intro j oj hj hl e he hb
  by_cases hij : i = j
  · subst hij
    have : oj = oi := Option.some.inj (hj.symm.trans hoi)
    subst this
    exact getD_set_true (hall e he hb)
  · rw [getD_set_ne false hij] at hl
    exact getD_set_true (h j oj hj hl e he hb)
theorem anc_listed {n N : Nat} {L : List Nat} {listed : Array Bool} (ht : TailR md ops kd n N L) (hc : Closed md ops listed) (hN : ∀ oN, ops[N]? = some oN → ∀ e ∈ oN.after, Region.binds md e = true → listed.getD e.on false = true) :
    ∀ (d j : Nat), N - j ≤ d → j ∈ L → listed.getD j false = true := by
  intro d
  induction d with
  | zero =>
    intro j hd hj
    obtain ⟨i, hi, hlt, hw⟩ := ht.anc j hj
    obtain ⟨oi, hoi, e, he, hb, hon⟩ := Region.waitsFor_spec hw
    rcases hi with rfl | hi
    · omega
    · exfalso
      -- an element of L lies below N
      have key : ∀ (m j : Nat), (∀ x ∈ L, x < j + m) → j ∈ L → j < N := by
        intro m
        induction m with
        | zero => intro j hx hj; exact absurd (hx j hj) (by omega)
        | succ m ih =>
          intro j hx hj
          obtain ⟨i, hi, hlt, _⟩ := ht.anc j hj
          rcases hi with rfl | hi
          · exact hlt
          · exact Nat.lt_trans hlt (ih i (fun x hx' => by have := hx x hx'; omega) hi)
      have bound : ∃ m, ∀ x ∈ L, x < m := ⟨L.foldr max 0 + 1, fun x hx => Nat.lt_succ_of_le (by
        clear key ht hd hj hi hlt hw hoi he hb hon
        induction L with
        | nil => cases hx
        | cons y ys ih =>
          rcases List.mem_cons.1 hx with rfl | h
          · exact Nat.le_max_left ..
          · exact Nat.le_trans (ih h) (Nat.le_max_right ..))⟩
      obtain ⟨m, hm⟩ := bound
      have := key m j (fun x hx => by have := hm x hx; omega) hj
      omega
  | succ d ih =>
    intro j hd hj
    obtain ⟨i, hi, hlt, hw⟩ := ht.anc j hj
    obtain ⟨oi, hoi, e, he, hb, hon⟩ := Region.waitsFor_spec hw
    rw [← hon]
    rcases hi with rfl | hi
    · exact hN oi hoi e he hb
    · exact hc i oi hoi (ih i (by omega) hi) e he hb
theorem all_listed (hok : OkR md ops kd) {listed : Array Bool} (hs : listed.size = ops.size) (hr : Region.ready md ops listed = []) : ∀ j, j < ops.size → listed.getD j false = true := by
  intro j
  induction j using Nat.strongRecOn with
  | _ j ih =>
    intro hj
    cases hl : listed.getD j false with
    | true => rfl
    | false =>
      have : j ∈ Region.ready md ops listed := mem_ready.2 ⟨getD_in (by omega) hl, ops[j], by simp [hj], fun e he hb => by
        have := hok.back j ops[j] (by simp [hj]) e he hb
        exact ih e.on this (by omega)⟩
      rw [hr] at this
      cases this

/-- What the operations J have left, each in blocks of its own. -/
def Kept (ops : Array Oper) (Ψ : Nat → Value → Nat → Nat → World → Prop) (kd : Nat → Kd) (J : Nat → Prop) (a : Act) (w : World) (s t : Nat → Nat) : Prop :=
  (∀ j, J j → kd j = .grow → Ψ j (slotOf ops a j) (s j) (t j) w ∧ s j ≤ t j ∧ t j ≤ w.heap.size) ∧ ∀ j k, J j → J k → kd j = .grow → kd k = .grow → j ≠ k → t j ≤ s k ∨ t k ≤ s j
structure Inv (P : Program) (ops : Array Oper) (md : Region.Mode) (C : World → Prop) (Ψ : Nat → Value → Nat → Nat → World → Prop) (kd : Nat → Kd) (n N : Nat) (listed : Array Bool) (a : Act) (w : World) : Prop where
  size : listed.size = ops.size
  slots : a.tmps.size = n
  closed : Closed md ops listed
  cls : C w
  ahead : (listed.getD N false = false ∧ ∃ s t, Kept ops Ψ kd (fun j => listed.getD j false = true) a w s t) ∨
    (listed.getD N false = true ∧ ∃ oN w1 s t, ops[N]? = some oN ∧ C w1 ∧ Kept ops Ψ kd (fun j => j < ops.size) a w1 s t ∧ (execOp a.eval oN).run P w1 = .ok .skip w)
theorem put_size (a : Act) (d : Option Tmp) (v : Value) : (a.put d v).tmps.size = a.tmps.size := by cases d <;> simp [Act.put]

theorem wpAny_of_G (hok : OkR md ops kd) {n N : Nat} {L : List Nat} (ht : TailR md ops kd n N L) (hs : Region.noSelect ops = true) (hG : ∀ w w', C w → G w w' → C w') (hΨ : ∀ j v s t w w', Ψ j v s t w → G w w' → Ψ j v s t w') (hGs : ∀ w w', G w w' → w.heap.size ≤ w'.heap.size)
    (hkN : N < ops.size → kd N = .write) {Q : Act → Prop} {Q' : Exit → Act → World → Prop}
    (hQ1 : ops.size ≤ N → ∀ a w s t, Q a → C w → Kept ops Ψ kd (fun j => j < ops.size) a w s t → Q' .normal a w)
    (hQ2 : ∀ oN, ops[N]? = some oN → ∀ a w1 w s t, Q a → C w1 → Kept ops Ψ kd (fun j => j < ops.size) a w1 s t → (execOp a.eval oN).run P w1 = .ok .skip w → C w → Q' .normal a w) :
    ∀ (fuel : Nat) (listed : Array Bool) (a : Act) (w : World), Inv P ops md C Ψ kd n N listed a w → wpAnyG P ops md C G Ψ pu kd Q fuel listed a → wpAny P md ops Q' fuel listed a w := by
  have fin : ∀ (listed : Array Bool) (a : Act) (w : World), Inv P ops md C Ψ kd n N listed a w → Region.ready md ops listed = [] → Q a → Q' .normal a w := fun listed a w inv hr hq => by
    have hall := all_listed hok inv.size hr
    rcases inv.ahead with ⟨hn, s, t, hΨs⟩ | ⟨hn, oN, w1, s, t, hoN, hc1, hk1, hrun⟩
    · refine hQ1 ?_ a w s t hq inv.cls ⟨fun j hj hk => hΨs.1 j (hall j hj) hk, fun j k hj hk => hΨs.2 j k (hall j hj) (hall k hk)⟩
      rcases Nat.lt_or_ge N ops.size with h | h
      · rw [hall N h] at hn; cases hn
      · exact h
    · exact hQ2 oN hoN a w1 w s t hq hc1 hk1 hrun inv.cls
  intro fuel
  induction fuel with
  | zero => exact fun listed a w inv h => ⟨h.1, fin listed a w inv h.1 h.2⟩
  | succ fuel ih =>
    intro listed a w inv h
    refine ⟨fun hr => fin listed a w inv hr (h.1 hr), fun i hi => ?_⟩
    have hg := h.2 i hi
    obtain ⟨hiun, o, ho, hall⟩ := mem_ready.1 hi
    have hilt : i < ops.size := (Array.getElem?_eq_some_iff.1 ho).1
    have hsel := Region.noSelect_spec hs
    have hset : ∀ j, (listed.setIfInBounds i true).getD j false = true → j = i ∨ listed.getD j false = true := fun j hj => by
      by_cases e : i = j
      · exact .inl e.symm
      · rw [getD_set_ne false e] at hj; exact .inr hj
    have hsz : (listed.setIfInBounds i true).size = ops.size := by simp [inv.size]
    unfold gOp at hg
    unfold wpOp
    simp only [ho] at hg ⊢
    -- what a quiet operation leaves
    have quietInv : kd i = .quiet → ∀ u, Inv P ops md C Ψ kd n N (listed.setIfInBounds i true) (a.put o.dst u) w := fun hk u => by
      refine ⟨hsz, by rw [put_size, inv.slots], inv.closed.set hi, inv.cls, ?_⟩
      have hiN : i ≠ N := fun e => by have := hkN (e ▸ hilt); rw [← e, hk] at this; cases this
      rcases inv.ahead with ⟨hn, s, t, hΨs⟩ | ⟨hn, oN, w1, s, t, hoN, hc1, hk1, hrun⟩
      · have old : ∀ j, (listed.setIfInBounds i true).getD j false = true → kd j = .grow → listed.getD j false = true := fun j hj hkj => by
          rcases hset j hj with rfl | hj'
          · rw [hk] at hkj; cases hkj
          · exact hj'
        refine .inl ⟨by rw [getD_set_ne false hiN]; exact hn, s, t, fun j hj hkj => ?_, fun j k hj hk' hkj hkk => hΨs.2 j k (old j hj hkj) (old k hk' hkk) hkj hkk⟩
        have hne : i ≠ j := fun e => by subst e; rw [hk] at hkj; cases hkj
        rw [slotOf_put hok ho hne]
        exact hΨs.1 j (old j hj hkj) hkj
      · refine .inr ⟨by rw [getD_set_ne false hiN]; exact hn, oN, w1, s, t, hoN, hc1, ⟨fun j hj hkj => ?_, hk1.2⟩, ?_⟩
        · have hne : i ≠ j := fun e => by subst e; rw [hk] at hkj; cases hkj
          rw [slotOf_put hok ho hne]
          exact hk1.1 j hj hkj
        · rcases ht.quiet i o ho hk (Array.getElem?_eq_some_iff.1 hoN).1 with hL | hno
          · have := anc_listed ht inv.closed (fun oN' hoN' e he hb => inv.closed N oN' hoN' hn e he hb) N i (by omega) hL
            rw [getD_both hiun] at this
            cases this
          · rw [execOp_put oN (fun cs b => hsel N oN cs b hoN) a o.dst u (fun d hd => hno oN hoN d hd)]
            exact hrun
    by_cases hk : kd i = .quiet
    · rw [if_pos hk] at hg
      split
      · rename_i hw
        rw [if_pos hw] at hg
        refine .inl ?_
        obtain ⟨v, hv, hn⟩ := hg
        have h3 := hv w inv.cls
        unfold Oper.quietAt at h3
        unfold Oper.wp
        cases hr : (execOp a.eval o).run P w with
        | halt x w' => rw [hr] at h3; simp only [Oper.quietUpon] at h3
        | ok nx w' =>
          obtain ⟨x, rfl⟩ := plain_run (hok.plain i o ho hk) hr
          rw [hr] at h3
          simp only [Oper.quietUpon] at h3
          obtain ⟨rfl, rfl⟩ := h3
          simp only [Oper.upon]
          exact ih _ _ _ (quietInv hk x) hn
      · rename_i hw
        rw [if_neg hw] at hg
        exact ih _ _ _ (quietInv hk undef) hg
    · rw [if_neg hk] at hg
      obtain ⟨⟨hw, hob, _⟩, hnext⟩ := hg
      rw [if_pos hw]
      refine .inl ?_
      rcases inv.ahead with ⟨hn, s, t, hΨs⟩ | ⟨hn, oN, w1, s, t, hoN, hc1, hk1, hrun⟩
      case inr =>
        exfalso
        have hNlt := (Array.getElem?_eq_some_iff.1 hoN).1
        cases hkk : kd i with
        | quiet => exact hk hkk
        | grow =>
          have := anc_listed ht inv.closed (fun oN' hoN' e he hb => inv.closed N oN' hoN' hn e he hb) N i (by omega) ((ht.grow i o ho hkk).2 hNlt)
          rw [getD_both hiun] at this
          cases this
        | write =>
          rw [(ht.write i o ho hkk).1] at hiun
          rw [getD_both hiun] at hn
          cases hn
      case inl =>
        have hup := hob w inv.cls (fun e he hb hke => ⟨_, _, (hΨs.1 e.on (hall e he hb) hke).1⟩)
        unfold Up at hup
        cases hkk : kd i with
        | quiet => exact absurd hkk hk
        | grow =>
          rw [hkk] at hup
          simp only [] at hup
          have hiN : i ≠ N := fun e => by have := hkN (e ▸ hilt); rw [← e, hkk] at this; cases this
          obtain ⟨⟨d, hd, hdn⟩, _⟩ := ht.grow i o ho hkk
          have growInv : ∀ v w', G w w' → Ψ i v w.heap.size w'.heap.size w' → Inv P ops md C Ψ kd n N (listed.setIfInBounds i true) (a.put o.dst v) w' := fun v w' hg hv => by
            refine ⟨hsz, by rw [put_size, inv.slots], inv.closed.set hi, hG w w' inv.cls hg, .inl ⟨by rw [getD_set_ne false hiN]; exact hn, fun j => if j = i then w.heap.size else s j, fun j => if j = i then w'.heap.size else t j, fun j hj hkj => ?_, fun j k hj hk' hkj hkk hjk => ?_⟩⟩
            · by_cases hji : j = i
              · subst hji
                have : slotOf ops (a.put o.dst v) j = v := by
                  unfold slotOf
                  simp only [ho, Option.bind_some, hd]
                  simp [Act.put, Act.eval, inv.slots, hdn]
                dsimp only
                rw [this, if_pos rfl, if_pos rfl]
                exact ⟨hv, hGs w w' hg, Nat.le_refl _⟩
              · have hj' := (hset j hj).resolve_left hji
                dsimp only
                rw [slotOf_put hok ho (Ne.symm hji), if_neg hji, if_neg hji]
                exact ⟨hΨ j _ _ _ w w' (hΨs.1 j hj' hkj).1 hg, (hΨs.1 j hj' hkj).2.1, Nat.le_trans (hΨs.1 j hj' hkj).2.2 (hGs w w' hg)⟩
            · dsimp only
              by_cases hji : j = i
              · by_cases hki : k = i
                · exact absurd (hji.trans hki.symm) hjk
                · right
                  rw [if_pos hji, if_neg hki]
                  exact (hΨs.1 k ((hset k hk').resolve_left hki) hkk).2.2
              · by_cases hki : k = i
                · left
                  rw [if_pos hki, if_neg hji]
                  exact (hΨs.1 j ((hset j hj).resolve_left hji) hkj).2.2
                · rw [if_neg hji, if_neg hji, if_neg hki, if_neg hki]
                  exact hΨs.2 j k ((hset j hj).resolve_left hji) ((hset k hk').resolve_left hki) hkj hkk hjk
          unfold Oper.wp
          generalize (execOp a.eval o).run P w = r at hup ⊢
          cases r with
          | halt x w' => simp only [Grows] at hup
          | ok nx w' =>
            cases nx <;> simp only [Grows] at hup <;> simp only [Oper.upon]
            case value v => exact ih _ _ _ (growInv v w' hup.1 hup.2.2) (hnext v hup.2.1)
            case skip => exact ih _ _ _ (growInv undef w' hup.1 hup.2.2) (hnext undef hup.2.1)
            case enter f args => exact hup.mono fun e w'' ⟨v, he, h1, h2, h3⟩ => by subst he; exact ih _ _ _ (growInv v w'' h1 h3) (hnext v h2)
        | write =>
          rw [hkk] at hup
          simp only [] at hup
          obtain ⟨rfl, hdst⟩ := ht.write i o ho hkk
          unfold Oper.wp
          cases hr : (execOp a.eval o).run P w with
          | halt x w' => rw [hr] at hup; simp only [Writes, false_and] at hup
          | ok nx w' =>
            rw [hr] at hup
            cases nx <;> simp only [Writes, false_and] at hup
            simp only [Oper.upon]
            refine ih _ _ _ ?_ (hnext undef hup.2)
            have allL : ∀ j, j < ops.size → kd j = .grow → listed.getD j false = true := fun j hj hkj => by
              have hL := (ht.grow j _ (Array.getElem?_eq_getElem hj) hkj).2 hilt
              exact anc_listed ht inv.closed (fun oN' hoN' e he hb => by
                have : oN' = o := Option.some.inj (hoN'.symm.trans ho)
                subst this
                exact hall e he hb) i j (by omega) hL
            refine ⟨hsz, by rw [put_size, inv.slots], inv.closed.set hi, hup.1, .inr ⟨?_, o, w, s, t, ho, inv.cls, ⟨fun j hj hkj => ?_, fun j k hj hk' hkj hkk => hΨs.2 j k (allL j hj hkj) (allL k hk' hkk) hkj hkk⟩, ?_⟩⟩
            · simp [inv.size, hilt]
            · have hne : i ≠ j := fun e => by subst e; rw [hkk] at hkj; cases hkj
              rw [slotOf_put hok ho hne]
              exact hΨs.1 j (allL j hj hkj) hkj
            · rw [hdst]
              exact hr
end

/-! ### At the class of the worlds that grew out of w -/
section
variable {P : Program} {w : World} {R : Nat → Value → Nat → World → Prop} {pu : Nat → Value → Prop} {kd : Nat → Kd}
/-- The class, and growth. -/
def CC (w : World) (w' : World) : Prop := ∃ X : Grown.G w, w' = X.w
def GG (w w' : World) : Prop := Below w.heap.size w w'
/-- What an operation left, and what has grown since. -/
def Since (R : Nat → Value → Nat → World → Prop) (j : Nat) (v : Value) (s t : Nat) (w : World) : Prop := ∃ w1, R j v s w1 ∧ w1.heap.size = t ∧ Below w1.heap.size w1 w
theorem since_stays : ∀ j v s t w w', Since R j v s t w → GG w w' → Since R j v s t w' := fun _ _ _ _ _ _ ⟨w1, h1, hs, h2⟩ hg => ⟨w1, h1, hs, BelowKit.bl_trans h2 hg⟩
/-- What the operations of a region have left. -/
abbrev Left (R : Nat → Value → Nat → World → Prop) (kd : Nat → Kd) (ops : Array Oper) (a : Act) (w : World) (s t : Nat → Nat) : Prop := Kept ops (Since R) kd (fun j => j < ops.size) a w s t
theorem CC.grow {w1 w2 : World} (h : CC w w1) (hg : GG w1 w2) : CC w w2 := by
  obtain ⟨X, rfl⟩ := h
  exact ⟨⟨w2, BelowKit.bl_trans X.bel hg⟩, rfl⟩

theorem wp_region_grow {id : Nat} {Q : Exit → Act → World → Prop} {a : Act} {l : List Oper} (kd : Nat → Kd) (pu : Nat → Value → Prop) (R : Nat → Value → Nat → World → Prop) (hm : P.follows .mixedOrders = true) (hB : Region.lexB .any l.toArray = true) (hk : okB .any l.toArray kd = true)
    (ht : tailB .any l.toArray kd a.tmps.size l.toArray.size [] = true)
    (h : wpG P l.toArray .any (CC w) GG (Since R) pu kd (fun a' => ∀ (X : Grown.G w) (s t : Nat → Nat), Left R kd l.toArray a' X.w s t → Q .normal a' X.w) 0 l a) : (Code.region id l.toArray true).wp P Q a w := by
  have hB' := hB
  simp only [Region.lexB, Bool.and_eq_true] at hB'
  have hC0 : CC w { w with drawn := w.drawn + 1 } := ⟨⟨_, below_drewN (Below.refl w.heap.size w) 1⟩, rfl⟩
  refine wp_region_any hm (wpAny_of_G (C := CC w) (G := GG) (Ψ := Since R) (pu := pu) (Q := (fun a' => ∀ (X : Grown.G w) (s t : Nat → Nat), Left R kd l.toArray a' X.w s t → Q .normal a' X.w)) (okB_spec hk) (tailB_spec ht) hB'.1 (fun _ _ => CC.grow) since_stays (fun _ _ h => h.size) (fun hN => absurd hN (Nat.lt_irrefl _))
    (fun _ a' w' s t hq hc hkn => ?_) (fun oN hoN => absurd ((Array.getElem?_eq_some_iff.1 hoN).1) (Nat.lt_irrefl _)) _ _ _ _ ⟨by simp, rfl, fun j oj _ hl => ?_, hC0, .inl ⟨?_, fun _ => 0, fun _ => 0, fun j hl => ?_, fun j k hl => ?_⟩⟩ ?_)
  · obtain ⟨X, rfl⟩ := hc
    exact hq X s t hkn
  · rw [getD_replicate_false] at hl; cases hl
  · exact getD_replicate_false _ _
  · dsimp only at hl; rw [getD_replicate_false] at hl; cases hl
  · dsimp only at hl; rw [getD_replicate_false] at hl; cases hl
  · have := wpAnyG_lex (P := P) (md := .any) (C := CC w) (G := GG) (Ψ := Since R) (pu := pu) (kd := kd) (okB_spec hk) ⟨_, hC0⟩ hB'.1 l 0 (Array.replicate l.toArray.size false) a (by simp) (by simpa using hB'.2) h
    simpa using this

theorem wp_region_store {id : Nat} {Q : Exit → Act → World → Prop} {a : Act} {l : List Oper} (kd : Nat → Kd) (pu : Nat → Value → Prop) (R : Nat → Value → Nat → World → Prop) (N : Nat) (hm : P.follows .mixedOrders = true) (hB : Region.lexB .any l.toArray = true) (hk : okB .any l.toArray kd = true)
    (hkN : kd N = .write) (hN : N < l.toArray.size) (ht : tailB .any l.toArray kd a.tmps.size N (ancOf .any l.toArray N) = true)
    (h : wpG P l.toArray .any (CC w) GG (Since R) pu kd (fun a' => ∀ (X1 X : Grown.G w) (s t : Nat → Nat), Left R kd l.toArray a' X1.w s t → (execOp a'.eval l.toArray[N]).run P X1.w = .ok .skip X.w → Q .normal a' X.w) 0 l a) : (Code.region id l.toArray true).wp P Q a w := by
  have hB' := hB
  simp only [Region.lexB, Bool.and_eq_true] at hB'
  have hC0 : CC w { w with drawn := w.drawn + 1 } := ⟨⟨_, below_drewN (Below.refl w.heap.size w) 1⟩, rfl⟩
  refine wp_region_any hm (wpAny_of_G (C := CC w) (G := GG) (Ψ := Since R) (pu := pu) (Q := (fun a' => ∀ (X1 X : Grown.G w) (s t : Nat → Nat), Left R kd l.toArray a' X1.w s t → (execOp a'.eval l.toArray[N]).run P X1.w = .ok .skip X.w → Q .normal a' X.w)) (okB_spec hk) (tailB_spec ht) hB'.1 (fun _ _ => CC.grow) since_stays (fun _ _ h => h.size) (fun _ => hkN)
    (fun hNn => absurd hN (by omega)) (fun oN hoN a' w1 w' s t hq hc1 hkn hrun hc => ?_) _ _ _ _ ⟨by simp, rfl, fun j oj _ hl => ?_, hC0, .inl ⟨?_, fun _ => 0, fun _ => 0, fun j hl => ?_, fun j k hl => ?_⟩⟩ ?_)
  · obtain ⟨X1, rfl⟩ := hc1
    obtain ⟨X, rfl⟩ := hc
    refine hq X1 X s t hkn ?_
    have : oN = l.toArray[N] := by rw [Array.getElem?_eq_getElem hN] at hoN; exact (Option.some.inj hoN).symm
    rw [← this]
    exact hrun
  · rw [getD_replicate_false] at hl; cases hl
  · exact getD_replicate_false _ _
  · dsimp only at hl; rw [getD_replicate_false] at hl; cases hl
  · dsimp only at hl; rw [getD_replicate_false] at hl; cases hl
  · have := wpAnyG_lex (P := P) (md := .any) (C := CC w) (G := GG) (Ψ := Since R) (pu := pu) (kd := kd) (okB_spec hk) ⟨_, hC0⟩ hB'.1 l 0 (Array.replicate l.toArray.size false) a (by simp) (by simpa using hB'.2) h
    simpa using this

/-! ### The steps of the walk -/
variable {ops : Array Oper} {md : Region.Mode} {Q : Act → Prop} {a : Act} {k : Nat}
/-- The next operation is quiet: the library's step. -/
theorem wpG_q {o : Oper} {rest : List Oper} (hk : kd k = .quiet)
    (h : wpQuiet P ops (fun w' => ∃ X : Grown.G w, w' = X.w) (fun a' => wpG P ops md (CC w) GG (Since R) pu kd Q (k + 1) rest a') [o] a) : wpG P ops md (CC w) GG (Since R) pu kd Q k (o :: rest) a := by
  rw [wpG, if_pos hk]
  simp only [wpQuiet] at h
  exact h
theorem wpG_nil (h : Q a) : wpG P ops md (CC w) GG (Since R) pu kd Q k [] a := by rw [wpG]; exact h
theorem put_of {K : Act → Prop} {d : Option Tmp} {v : Value} {ty : TypeId} {pos : String} (hC : ∃ w', CC w w') (h : wpQuiet P ops (fun w' => ∃ X : Grown.G w, w' = X.w) K [⟨d, .assign (.const v), ty, pos, #[], none⟩] a) : K (a.put d v) := by
  rw [wpQuiet, if_pos (by simp [Region.wanted])] at h
  obtain ⟨u, hu, hk⟩ := h
  obtain ⟨w1, hw1⟩ := hC
  have := hu w1 hw1
  unfold Oper.quietAt at this
  rw [BigFrame.run_assign (.const v) rfl] at this
  obtain ⟨_, rfl⟩ := this
  exact hk
theorem cc_self : ∃ w', CC w w' := ⟨w, ⟨w, Below.refl _ _⟩, rfl⟩
/-- The call of a function of the text. -/
theorem run_call {o : Oper} {l : List Operand} {ts : Array TypeId} {f : FuncId} {fn : Func} (ρ : Operand → Value) (ho : o.op = .call { callee := .value (.func f), args := l.toArray, argTypes := ts }) (hf : P.funcs[f]? = some fn) (hn : (fn.name == "runtime.NumGoroutine") = false) (hb : fn.body.isNone = false) (hρ : ρ (.func f) = .func (.func f) #[] #[]) (w1 : World) :
    (execOp ρ o).run P w1 = .ok (.enter f (l.map ρ).toArray) w1 := by
  have hn' : fn.name ≠ "runtime.NumGoroutine" := by simpa using hn
  have hb' : fn.body ≠ none := by intro e; rw [e] at hb; cases hb
  unfold execOp
  simp only [ho]
  simp [resolve, hρ, Deferred.ofValue, invoke, callFunc, hf, hn', hb']
theorem wpG_call {d : Tmp} {l : List Operand} {ts : Array TypeId} {ty : TypeId} {pos : String} {af : Array Edge} {rest : List Oper} {f : FuncId} {fn : Func} (args : Array Value) (hk : kd k = .grow) (hf : P.funcs[f]? = some fn) (hn : (fn.name == "runtime.NumGoroutine") = false) (hb : fn.body.isNone = false)
    (hargs : (l.map a.eval).toArray = args) (hv : ∃ v, pu k v)
    (hc : ∀ X : Grown.G w, Deps ops md (Since R) kd a ⟨some d, .call { callee := .value (.func f), args := l.toArray, argTypes := ts }, ty, pos, af, none⟩ X.w → Calls P f args X.w fun e w' => ∃ v, e = .returned v ∧ Below X.w.heap.size X.w w' ∧ pu k v ∧ R k v X.w.heap.size w')
    (h : ∀ v, pu k v → wpQuiet P ops (fun w' => ∃ X : Grown.G w, w' = X.w) (fun a' => wpG P ops md (CC w) GG (Since R) pu kd Q (k + 1) rest a') [⟨some d, .assign (.const v), ty, pos, #[], none⟩] a) :
    wpG P ops md (CC w) GG (Since R) pu kd Q k (⟨some d, .call { callee := .value (.func f), args := l.toArray, argTypes := ts }, ty, pos, af, none⟩ :: rest) a := by
  rw [wpG, if_neg (by rw [hk]; decide)]
  refine ⟨⟨by simp [Region.wanted], fun w1 hw1 hd => ?_, hv⟩, fun v hpv => put_of cc_self (h v hpv)⟩
  obtain ⟨X, rfl⟩ := hw1
  unfold Up
  rw [hk, run_call a.eval rfl hf hn hb rfl, hargs]
  exact (hc X hd).mono fun e w' ⟨v, h1, h2, h3, h4⟩ => ⟨v, h1, h2, h3, w', h4, rfl, Below.refl _ _⟩
/-- An operation of the text's own that makes memory. -/
theorem wpG_own {d : Tmp} {op : Op} {ty : TypeId} {pos : String} {af : Array Edge} {rest : List Oper} (hk : kd k = .grow) (hv : ∃ v, pu k v)
    (hc : ∀ X : Grown.G w, Deps ops md (Since R) kd a ⟨some d, op, ty, pos, af, none⟩ X.w → ∃ v w', (execOp a.eval ⟨some d, op, ty, pos, af, none⟩).run P X.w = .ok (.value v) w' ∧ Below X.w.heap.size X.w w' ∧ pu k v ∧ R k v X.w.heap.size w')
    (h : ∀ v, pu k v → wpQuiet P ops (fun w' => ∃ X : Grown.G w, w' = X.w) (fun a' => wpG P ops md (CC w) GG (Since R) pu kd Q (k + 1) rest a') [⟨some d, .assign (.const v), ty, pos, #[], none⟩] a) :
    wpG P ops md (CC w) GG (Since R) pu kd Q k (⟨some d, op, ty, pos, af, none⟩ :: rest) a := by
  rw [wpG, if_neg (by rw [hk]; decide)]
  refine ⟨⟨by simp [Region.wanted], fun w1 hw1 hd => ?_, hv⟩, fun v hpv => put_of cc_self (h v hpv)⟩
  obtain ⟨X, rfl⟩ := hw1
  obtain ⟨v, w', hr, h1, h2, h3⟩ := hc X hd
  unfold Up
  rw [hk, hr]
  exact ⟨h1, h2, w', h3, rfl, Below.refl _ _⟩
/-- The store that closes the region. -/
theorem wpG_store {op : Op} {ty : TypeId} {pos : String} {af : Array Edge} {rest : List Oper} (hk : kd k = .write) (hv : pu k undef)
    (hc : ∀ X : Grown.G w, Deps ops md (Since R) kd a ⟨none, op, ty, pos, af, none⟩ X.w → ∃ Y : Grown.G w, (execOp a.eval ⟨none, op, ty, pos, af, none⟩).run P X.w = .ok .skip Y.w)
    (h : wpG P ops md (CC w) GG (Since R) pu kd Q (k + 1) rest a) : wpG P ops md (CC w) GG (Since R) pu kd Q k (⟨none, op, ty, pos, af, none⟩ :: rest) a := by
  rw [wpG, if_neg (by rw [hk]; decide)]
  refine ⟨⟨by simp [Region.wanted], fun w1 hw1 hd => ?_, undef, hv⟩, fun v hpv => h⟩
  obtain ⟨X, rfl⟩ := hw1
  obtain ⟨Y, hr⟩ := hc X hd
  unfold Up
  rw [hk, hr]
  exact ⟨⟨Y, rfl⟩, hv⟩
/-- The call of a function of the text, at a step of a walk through all orders. -/
theorem step_call {ops : Array Oper} {a : Act} {K : Act → World → Prop} {Q : Exit → Act → World → Prop} {E : Prop} {d : Tmp} {l : List Operand} {ts : Array TypeId} {ty : TypeId} {pos : String} {af : Array Edge} {f : FuncId} {fn : Func} {w : World} (args : Array Value)
    (hf : P.funcs[f]? = some fn) (hn : (fn.name == "runtime.NumGoroutine") = false) (hb : fn.body.isNone = false) (hargs : (l.map a.eval).toArray = args) (hc : Calls P f args w fun e w' => ∃ v, e = .returned v ∧ K (a.put (some d) v) w') :
    if Region.wanted (⟨some d, .call { callee := .value (.func f), args := l.toArray, argTypes := ts }, ty, pos, af, none⟩ : Oper) (yielded ops a.tmps) = true then Oper.wp P ⟨some d, .call { callee := .value (.func f), args := l.toArray, argTypes := ts }, ty, pos, af, none⟩ a w K Q else E := by
  rw [if_pos (by simp [Region.wanted])]
  unfold Oper.wp
  rw [run_call a.eval rfl hf hn hb rfl, hargs]
  exact hc.mono fun e w' ⟨v, he, hk⟩ => by subst he; exact hk
/-- append, of which the run is known. -/
theorem run_appended {o : Oper} {s x : Operand} {t : TypeId} (ρ : Operand → Value) {v v' : Value} {w w' : World} {vx : Value} (ho : o.op = .call { callee := .builtin .append, args := #[s, x], argTypes := #[t, t] }) (hs : ρ s = v) (hx : ρ x = vx)
    (hr : (Builtin.append_ #[t, t] o.type #[v, vx]).run P w = .ok v' w') : (execOp ρ o).run P w = .ok (.value v') w' := by
  simp [execOp, ho, resolve, invoke, builtin, hs, hx, hr, Result.andThen]
end
end Go.Proofs.Ytlljhcfiojfimaa.Fresh

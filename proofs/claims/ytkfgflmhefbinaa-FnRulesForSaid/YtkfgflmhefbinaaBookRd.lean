/- Rules read one by one; what RuleFor and GapsIn say of a drawn book: for the drawn laws of chapter 10. -/
import Derived.Test.YtkfgflmhefbinaaRows
import Derived.Test.YtkfgflmhefbinaaDrawBook
import Derived.Test.YtkfgflmhefbinaaRuleC
import Derived.Test.YtkfgflmhefbinaaRuleP
import Derived.Test.YtkfgflmhefbinaaKit
namespace Go.Proofs.Ytkfgflmhefbinaa.BookRd
open Go.RowKit RowN TRule TBook BookMath BookLaws DrawBook DrawRule
set_option linter.unusedVariables false
theorem rd_at {w : World} {a : Option Addr} {rs : List Ru} (h : RdD w a rs) (i : Nat) (hi : i < rs.length) : ∃ (g o : Nat) (p : Option Addr) (c : Nat), a = some ⟨g, o, none⟩ ∧ g < w.heap.size ∧ w.cell? ⟨g, o + i * 7, none⟩ = some (.int .i64 rs[i].Name) ∧ w.cell? ⟨g, o + i * 7 + 1, none⟩ = some (.int .i64 rs[i].From) ∧ w.cell? ⟨g, o + i * 7 + 2, none⟩ = some (.int .i64 rs[i].To) ∧ w.cell? ⟨g, o + i * 7 + 3, none⟩ = some (.int .i64 rs[i].Joined) ∧ w.cell? ⟨g, o + i * 7 + 4, none⟩ = some (.int .i64 rs[i].Rank) ∧ w.cell? ⟨g, o + i * 7 + 5, none⟩ = some (.int .i64 rs[i].Mode) ∧ w.cell? ⟨g, o + i * 7 + 6, none⟩ = some (.slice p rs[i].Nodes.length c) ∧ Reads TNode.fc 6 w p rs[i].Nodes := by
  obtain ⟨xs, rfl, h0⟩ := h
  have hx : i < xs.length := by simpa using hi
  obtain ⟨g, o, e, hl, q0, q1, q2, q3, q4, q5, q6⟩ := read h0.out i hx
  have e2 : (xs.map (·.r))[i] = xs[i].r := by simp
  refine ⟨g, o, xs[i].p, xs[i].c, e, hl, ?_, ?_, ?_, ?_, ?_, ?_, ?_, ?_⟩
  all_goals (rw [e2]; first | assumption | exact h0.inn i hx)
/-- What the laws use of a drawn book. -/
structure BK (rs : List Ru) (n : Nat) (m nm : Int) : Prop where
  book : BookP rs
  yes : bookB rs = true
  len : rs.length = n
  pos : 1 ≤ n ∧ n ≤ 6
  mon : 0 ≤ m ∧ m ≤ 167
  name : 1 ≤ nm ∧ nm ≤ 3
  few : Few rs
  few20 : ∀ j (h : j < rs.length), rs[j].Nodes.length ≤ 1048576
  rank : ∀ j (h : j < rs.length), rs[j].Rank ≤ 3
  appl : ∃ (i : Nat) (h : i < rs.length), appl nm m 0 rs[i] = true
theorem bk_of {rs : List Ru} {n : Nat} {m nm : Int} (h : ∃ j, j ≤ 6 ∧ 1 ≤ j ∧ Got j rs) (hn : rs.length = n) (ha : ∃ (i : Nat) (h : i < rs.length), rs[i].Name = nm ∧ rs[i].From ≤ m ∧ m < rs[i].To) : BK rs n m nm := by
  obtain ⟨j, h6, h1, hg⟩ := h
  obtain ⟨i, hi, e, h2, h3⟩ := ha
  have hd := hg.all _ (List.getElem_mem hi)
  have a1 := hd.name
  have a2 := hd.from_
  have a3 := hd.upto
  have a4 := hd.joined
  refine ⟨hg.book, bookB_yes hg.book, hn, ?_, by omega, by omega, hg.few, fun j hj => ?_, fun j hj => (hg.all _ (List.getElem_mem hj)).rank.2, i, hi, ?_⟩
  · have := hg.len; have := hg.pos; omega
  · have := (hg.all _ (List.getElem_mem hj)).few; omega
  · exact appl_iff.2 ⟨e, h2, h3, by omega⟩
theorem BK.for_ {rs : List Ru} {n : Nat} {m nm : Int} (h : BK rs n m nm) (k jo : Int) : ruleFor rs nm k jo = forB rs nm k jo := ruleFor_yes h.yes
theorem BK.first {rs : List Ru} {n : Nat} {m nm : Int} (h : BK rs n m nm) : ∃ (j : Nat) (hj : j < rs.length), ruleFor rs nm m 0 = (j : Int) := by
  rw [h.for_]
  rcases best rs nm m 0 with ⟨_, hno⟩ | ⟨j, e, _, hj, _⟩
  · obtain ⟨i, hi, ha⟩ := h.appl
    rw [hno i hi hi] at ha; cases ha
  · exact ⟨j, hj, e⟩
theorem BK.nogap {rs : List Ru} {n : Nat} {m nm : Int} (h : BK rs n m nm) : gaps rs nm 0 m (m + 1) = [] := by
  obtain ⟨j, hj, e⟩ := h.first
  rw [h.for_] at e
  unfold gaps
  rw [if_pos ⟨h.yes, Mon.inB_yes h.mon.1 (by have := h.mon; omega), Mon.inB_yes (by have := h.mon; omega) (by have := h.mon; omega)⟩]
  rw [show (m + 1 - m).toNat = 1 by omega]
  rw [gapsTo_succ, gapsTo_zero]
  rw [show m + ((0 : Nat) : Int) = m by omega, e, if_neg (by omega)]
  rfl
/-- No rule is better than the one that RuleFor returns. -/
theorem no_better {rs : List Ru} {nm m jo : Int} {i : Nat} (hi : i < rs.length) (ha : appl nm m jo rs[i] = true) : ∃ (j : Nat) (hj : j < rs.length), forB rs nm m jo = (j : Int) ∧ rs[i].Rank ≤ rs[j].Rank := by
  rcases best rs nm m jo with ⟨_, hno⟩ | ⟨j, e, _, hj, _, hge, _⟩
  · rw [hno i hi hi] at ha; cases ha
  · exact ⟨j, hj, e, hge i hi hi ha⟩
/-- The new rule of the law FnNoRules. -/
def newR (nm : Int) : Ru := ⟨nm, 10, 40, 3600, 9, 1, [⟨1, 0, 0, 0, 7, 1⟩]⟩
theorem new_ok {nm : Int} (h1 : 1 ≤ nm) (h2 : nm ≤ 3) : RuleP (newR nm) := by
  have e : (newR nm).Nodes = [⟨1, 0, 0, 0, 7, 1⟩] := rfl
  have hf : NodeMath.OkF (newR nm).Nodes := by
    rw [e]
    refine ⟨⟨by simp, by simp⟩, fun i hi => ?_⟩
    obtain rfl : i = 0 := by simpa using hi
    exact NodeMath.okN_yes (.inl ⟨rfl, rfl, rfl, rfl, by simp [FracMath.okB]⟩)
  exact ⟨⟨h1, by show nm ≤ 20; omega⟩, ⟨by simp [newR], by simp [newR], by simp [newR]⟩, ⟨by simp [newR], by simp [newR]⟩, ⟨by simp [newR], by simp [newR]⟩, ⟨by simp [newR], by simp [newR]⟩, NodeMath.okF_yes hf⟩
theorem BK.more {rs : List Ru} {n : Nat} {m nm : Int} (h : BK rs n m nm) : BookP (rs ++ [newR nm]) := by
  refine book_snoc h.book (new_ok h.name.1 h.name.2) (by have := h.pos; have := h.len; omega) fun k hk => clash_no fun e => ?_
  have h1 := h.rank k hk
  have h2 : rs[k].Rank = 9 := e.2.1
  omega
theorem BK.added {rs : List Ru} {n : Nat} {m nm : Int} (h : BK rs n m nm) : added rs (newR nm) = (rs ++ [newR nm], true) := added_yes (bookB_yes h.more)
theorem BK.in_ {rs : List Ru} {n : Nat} {m nm : Int} (h : BK rs n m nm) {k jo : Int} (h1 : 10 ≤ k) (h2 : k < 40) (h3 : jo < 3600) : ruleFor (rs ++ [newR nm]) nm k jo = (n : Int) := by
  rw [ruleFor_yes (bookB_yes h.more), ← h.len]
  exact for_more_yes h.more (appl_iff.2 ⟨rfl, h1, h2, h3⟩) (fun i hi => by have := h.rank i hi; show _ ≤ (9 : Int); omega)
theorem BK.out {rs : List Ru} {n : Nat} {m nm : Int} (h : BK rs n m nm) {k jo : Int} (h1 : ¬ (10 ≤ k ∧ k < 40)) : ruleFor (rs ++ [newR nm]) nm k jo = ruleFor rs nm k jo := by
  rw [ruleFor_yes (bookB_yes h.more), h.for_]
  exact for_more_no (appl_no fun e => h1 ⟨e.2.1, e.2.2.1⟩)
theorem fig_empty {rs : List Ru} {nm k jo : Int} : fig rs nm k jo [] = (0, 0, false) := by
  unfold fig figAt
  split
  · rw [if_neg]
    intro e
    have h2 := e.2
    unfold NodeMath.evalL at h2
    rw [NodeMath.evalAll_no (fun q => by have := (NodeMath.okVs_of q.2).1; simp at this)] at h2
    simp at h2
  · rfl
theorem gaps_180 {rs : List Ru} {nm jo : Int} (h : bookB rs = true) : gaps rs nm jo 0 180 = gapsTo rs nm jo 0 180 := by
  unfold gaps
  rw [if_pos ⟨h, Mon.inB_yes (by omega) (by omega), Mon.inB_yes (by omega) (by omega)⟩]
  rfl
theorem gaps_len_yes {rs : List Ru} {nm jo : Int} {j : Nat} (h : forB rs nm (j : Int) jo < 0) : (gapsTo rs nm jo 0 (j + 1)).length = (gapsTo rs nm jo 0 j).length + 1 := by
  rw [gapsTo_succ, Int.zero_add, if_pos h]
  simp
theorem gaps_len_no {rs : List Ru} {nm jo : Int} {j : Nat} (h : ¬ forB rs nm (j : Int) jo < 0) : (gapsTo rs nm jo 0 (j + 1)).length = (gapsTo rs nm jo 0 j).length := by
  rw [gapsTo_succ, Int.zero_add, if_neg h]
  simp
theorem gaps_at {rs : List Ru} {nm jo : Int} {j N : Nat} (hj : j < N) (h : forB rs nm (j : Int) jo < 0) : ∃ hl : (gapsTo rs nm jo 0 j).length < (gapsTo rs nm jo 0 N).length, (gapsTo rs nm jo 0 N)[(gapsTo rs nm jo 0 j).length] = (j : Int) := by
  induction N with
  | zero => omega
  | succ N ih =>
    by_cases e : j = N
    · subst e
      have e2 : gapsTo rs nm jo 0 (j + 1) = gapsTo rs nm jo 0 j ++ [(j : Int)] := by rw [gapsTo_succ, Int.zero_add, if_pos h]
      refine ⟨by rw [e2]; simp, ?_⟩
      simp only [e2]
      simp
    · obtain ⟨hl, hat⟩ := ih (by omega)
      have e2 := gapsTo_succ rs nm jo 0 N
      refine ⟨by rw [e2]; simp; omega, ?_⟩
      simp only [e2]
      rw [List.getElem_append_left hl]
      exact hat
theorem few20_snoc {rs : List Ru} {r : Ru} (h : ∀ j (h : j < rs.length), rs[j].Nodes.length ≤ 1048576) (hr : r.Nodes.length ≤ 1048576) : ∀ j (h : j < (rs ++ [r]).length), (rs ++ [r])[j].Nodes.length ≤ 1048576 := fun j hj => by
  by_cases e : j < rs.length
  · rw [List.getElem_append_left e]; exact h j e
  · obtain rfl : j = rs.length := by simp at hj; omega
    simpa using hr
theorem node_one (w : World) (B : Nat) (x : TNode.El) (h : w.heap[B]? = some (.cells #[.int .i64 x.Kind, .int .i64 x.A, .int .i64 x.B, .int .i64 x.C, .int .i64 x.Value_Num, .int .i64 x.Value_Den] 50 (0, 0))) : Reads TNode.fc 6 w (some ⟨B, 0, none⟩) [x] := fun j hj => by
  obtain rfl : j = 0 := by simpa using hj
  refine ⟨B, 0, rfl, (Array.getElem?_eq_some_iff.1 h).1, fun i hi => ?_⟩
  simp only [List.getElem_cons_zero, Nat.zero_mul, Nat.zero_add, World.cell?, h]
  rcases (show i = 0 ∨ i = 1 ∨ i = 2 ∨ i = 3 ∨ i = 4 ∨ i = 5 by omega) with rfl | rfl | rfl | rfl | rfl | rfl <;> rfl
theorem for_gi (a : Option Addr) (m cap : Nat) (rs : List Ru) (nm mo jo : Int) (hm : rs.length = m) (hcap : m ≤ cap) (hs : m ≤ 1048576) (hn : Few rs) {w0 : World} (X : Grown.G w0) (h : RdD w0 a rs) {r : Int} (e : ruleFor rs nm mo jo = r) :
    Calls Try.prog 18 #[.agg #[.slice a m cap], .int .i64 nm, .int .i64 mo, .int .i64 jo] X.w (fun e w'' => e = .returned (.int .i64 r) ∧ ∃ Y : Grown.G w0, w'' = Y.w) := by
  subst e
  exact Grown.grown_of (BestI.ruleFor_i X.w a m cap rs nm mo jo hm hcap hs hn (h.on X.bel))
theorem for_gs (a : Option Addr) (m cap : Nat) (rs : List Ru) (nm mo jo : Int) (hm : rs.length = m) (hs : m ≤ 1099511627776) (hn : Few rs) {w0 : World} (X : Grown.G w0) (h : RdD w0 a rs) {r : Int} (e : ruleFor rs nm mo jo = r) :
    Calls Try.prog 24 #[.agg #[.slice a m cap], .int .i64 nm, .int .i64 mo, .int .i64 jo] X.w (fun e w'' => e = .returned (.int .i64 r) ∧ ∃ Y : Grown.G w0, w'' = Y.w) := by
  subst e
  exact Grown.grown_of (BookS.ruleFor_s X.w a m cap rs nm mo jo hm hs hn (h.on X.bel))
/-- make([]T, 0) behind a draw. -/
theorem run_make0 {P : Program} {t T : TypeId} {z : Value} {c cb : Nat} (st : ElT P t T z c cb) (w : World) :
    ∃ w', (Instr.makeSlice t (.int .i64 0) (.int .i64 0)).run P w.drew = .ok (.slice (some ⟨w.heap.size, 0, none⟩) 0 0) w' ∧ Below w.heap.size w w' := by
  obtain ⟨i0, hi, hz, hz1, hz2⟩ := info_parts st.hi
  obtain ⟨w', hrun, _, r2⟩ := run_make_full (P := P) w.drew w.heap.size t T i0 z c st.ht hi hz hz1 .i64 .i64 0 (by omega) (by unfold maxLen; omega) (Nat.le_refl _)
  exact ⟨w', hrun, BelowKit.bl_trans (BelowKit.bl_drewN (n := 1) (Below.refl _ _)) ((Below.refl w.drew.heap.size w.drew).grown r2 (Nat.le_refl _) (fun k hk => by cases hk))⟩
end Go.Proofs.Ytkfgflmhefbinaa.BookRd

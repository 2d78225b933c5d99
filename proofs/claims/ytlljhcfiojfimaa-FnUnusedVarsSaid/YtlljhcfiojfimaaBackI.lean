/- The library's slices.Backward over nodes, as an iterator: from the last element down. -/
import Derived.Test.YtlljhcfiojfimaaRows
import Derived.Test.YtlljhcfiojfimaaVarsFold
import Derived.Test.YtlljhcfiojfimaaRowN
import Derived.Test.YtlljhcfiojfimaaBelowKit
import Derived.RangeFuncNested
import Derived.RangeFuncBound
import Derived.RangeFuncCalls
import Derived.RangeFuncLeaves
import Derived.Shelf.Abstract
import Derived.Shelf.RegionOpen
import Derived.WalkKit
import Derived.OwnWalkIn
import Derived.TacticsInMore
import Derived.LoopNIn
import Derived.LoopIn
import Derived.Lib.Hide
namespace Go.Proofs.Ytlljhcfiojfimaa.BackI
open Go.RowKit Go.Shelf RowN TNode NodeMath VarsMath VarsFold
attribute [local go_sem] Oper.semAt_some
/-- What a round keeps: what lay below lo, and block b. -/
structure Kp (lo b : Nat) (W W' : World) : Prop where
  size : W.heap.size ≤ W'.heap.size
  same : ∀ k, k < lo ∨ k = b → W'.heap[k]? = W.heap[k]?
theorem Kp.refl (lo b : Nat) (W : World) : Kp lo b W W := ⟨Nat.le_refl _, fun _ _ => rfl⟩
theorem Kp.trans {lo b : Nat} {A B C : World} (h : Kp lo b A B) (k : Kp lo b B C) : Kp lo b A C := ⟨Nat.le_trans h.size k.size, fun i h1 => (k.same i h1).trans (h.same i h1)⟩
theorem Kp.of_below {lo b : Nat} {A B : World} (h : Below A.heap.size A B) (hA : lo ≤ A.heap.size) (hb : b < A.heap.size) : Kp lo b A B := ⟨h.size, fun k h1 => h.block k (by omega)⟩
theorem kp_b {lo b : Nat} {w : World} (hh : lo ≤ w.heap.size) (hb : b < w.heap.size) (W : World) (l : Nat) (o o' : Obj) (hl : w.heap.size ≤ l) (h : W.heap[l]? = some o) (_ : o.isCells = false) (_ : o.isWalk = false) : Kp lo b W (W.putObj l o') :=
  ⟨(grownBy_putObj' W l o').size, fun k h1 => (grownBy_putObj' W l o').block k (by have := (Array.getElem?_eq_some_iff.1 h).1; omega) (fun e => by cases e; omega)⟩
theorem reads_kp {w0 B : World} {a : Option Addr} {l : List El} (h : Reads fc 6 w0 a l) (hs : w0.heap.size ≤ B.heap.size) (hk : ∀ k, k < w0.heap.size → B.heap[k]? = w0.heap[k]?) : Reads fc 6 B a l := fun j hj => by
  obtain ⟨blk, off, e, hlt, hc⟩ := h j hj
  exact ⟨blk, off, e, Nat.lt_of_lt_of_le hlt hs, fun i hi => (World.cell?_of_block (hk blk hlt)).trans (hc i hi)⟩
def encs (l : List El) (k : Fin l.length) : Array Value := #[.int .i64 (k.1 : Int), fv l[k.1]]
def IsSeq (p : Option Addr) (m cap : Nat) (w : World) (e : Ending) (w' : World) : Prop :=
  e = .returned (.func (.func 70) #[] #[.pointer (some ⟨w.heap.size, 0, none⟩)]) ∧ Boxed w' w.heap.size 24 (.slice p m cap) ∧ w'.heap.size = w.heap.size + 1 ∧ Below w.heap.size w w'
theorem back_i (w : World) (p : Option Addr) (m cap : Nat) : Calls Try.prog 48 #[.slice p m cap] w (IsSeq p m cap w) := by
  go_enter Try.func48, Try.ntmps48
  go_wp2
  go_ret
  exact ⟨rfl, Boxed.new w _ _, by simp, by (repeat (first | exact Below.refl _ _ | apply BelowKit.bl_alloc | apply BelowKit.bl_drewN | apply BelowKit.bl_drew | (refine BelowKit.bl_set ?_ _ ?_; rotate_left; (first | omega | (simp; omega) | simp)) | (refine BelowKit.bl_trans ?_ (‹Hid (Below _ _ _)›).out)))⟩
set_option maxRecDepth 100000 in
set_option maxHeartbeats 4000000 in
theorem iter_i (n b : Nat) (w0 w : World) (p : Option Addr) (m cap : Nat) (l : List El) (hm : l.length = m) (hs : m ≤ 1048576) (h : Reads fc 6 w0 p l) (h0b : w0.heap.size ≤ b) (hw : Below w0.heap.size w0 w) (hx : Boxed w b 24 (.slice p m cap)) (hn : 1 ≤ n) :
    SeqStopsK Fence.wide n Try.prog 70 #[.pointer (some ⟨b, 0, none⟩)] (encs l) (Kp w0.heap.size b) (fun ys => ys = down l m) (fun _ => True) m w := fun lp J Jx W hW hJ hJx hY h0 => by
  have HM := Lib.hid hm
  have hbw : b < w.heap.size := hx.lt
  have hbW : b < W.heap.size := Nat.lt_of_lt_of_le hbw hW.size
  have HX : Hid (∀ wr, Kp w0.heap.size b W wr → wr.cell? ⟨b, 0, none⟩ = some (.slice p m cap)) := Lib.hid (fun wr hk => Boxed.cell (t := 24) (show wr.heap[b]? = _ from (hk.same b (.inr rfl)).trans ((hW.block b hbw).trans hx)))
  have HR : Hid (∀ wr, Kp w0.heap.size b W wr → Reads fc 6 wr p l) := Lib.hid (fun wr hk => reads_kp h (Nat.le_trans (Nat.le_trans hw.size hW.size) hk.size) (fun k hlt => by
    rw [hk.same k (.inl hlt), hW.block k (by have := hw.size; omega), hw.block k hlt]))
  have HJ := Lib.hid hJ
  have HY := Lib.hid hY
  have H0 := Lib.hid h0
  clear hm h hx hW hw hJ hJx hY h0 hbw
  refine callsIn_of_wp Try.func70 rfl trivial ?_ rfl
  simp only [Try.ntmps70, List.size_toArray, List.length_cons, List.length_nil, Nat.reduceAdd, Nat.reduceSub, Array.replicate_succ, Array.replicate_zero, List.push_toArray, List.append_toArray, List.nil_append, List.cons_append]
  have c0 := HX.out W (Kp.refl _ _ _)
  have W1 : IntKind.i64.wrap ((m : Int) - 1) = (m : Int) - 1 := IntWalk.i64_in _ (by omega)
  gi_wp2
  clear c0 W1
  gi_loopw [3] (fun i wr => ∃ (j : Nat) (ii : Int), j ≤ m ∧ i = .int .i64 ii ∧ ii = (m : Int) - 1 - (j : Int) ∧ Hid (Kp w0.heap.size b W wr) ∧ Hid (J (down l j) wr)) (fun i _ => (intOf i + 1).toNat)
  case atStart => exact ⟨0, (m : Int) - 1, Nat.zero_le _, rfl, by omega, Lib.hid (Kp.refl _ _ _), H0⟩
  case round =>
    obtain ⟨j, ii, hj, rfl, hii, HB, HJJ⟩ := hrel
    by_cases hlt : j < m
    · obtain ⟨k, hk⟩ : ∃ k : Nat, ii = (k : Int) := ⟨ii.toNat, by omega⟩
      subst hk
      have HLT := Lib.hid (show k < l.length by rw [HM.out]; omega)
      obtain ⟨g, o, rfl, hgl, q0, q1, q2, q3, q4, q5⟩ := read (HR.out _ HB.out) k HLT.out
      have c0 := HX.out _ HB.out
      have zb : b < wr.heap.size := Nat.lt_of_lt_of_le hbW HB.out.size
      have HD := Lib.hid (down_succ (j := j) HLT.out (by rw [HM.out]; omega))
      have HYY := Lib.hid (HY.out (down l j) ⟨k, HLT.out⟩ wr HJJ.out (by rw [down_len l j (by rw [HM.out]; omega)]; exact hlt))
      obtain ⟨fn, tmps, assign, body, hy, hR⟩ := HYY.out
      clear HYY
      simp only [encs, fv] at hy
      have b1 : (0 : Int) ≤ (k : Int) := by omega
      have b2 : (k : Int) < (m : Int) := by omega
      have HII := Lib.hid hii
      clear hii
      generalize l[k]'HLT.out = x at q0 q1 q2 q3 q4 q5 hy
      gi_wp2
      refine hR.mono ?_
      rintro e w3 (⟨rfl, hJ3, hk3⟩ | ⟨rfl, hJx3⟩)
      · have HJ3 := Lib.hid hJ3
        have HB3 := Lib.hid (HB.out.trans hk3)
        clear hJ3 hk3 hR hy q0 q1 q2 q3 q4 q5
        gi_wp2
        go_roundw
        case rel => exact ⟨j + 1, (k : Int) - 1, by omega, by go_num, by have := HII.out; omega, HB3, by rw [HD.out]; exact HJ3⟩
        case measure => first | (simp [intOf]; done) | (simp [intOf]; omega)
      · have HJ3 := Lib.hid hJx3
        clear hJx3 hR hy q0 q1 q2 q3 q4 q5
        gi_wp2
        refine bodyPost_ret (results_none rfl _ _ _) rfl ?_
        exact ⟨⟨_, rfl⟩, .inr ⟨_, trivial, HJ3.out⟩⟩
    · obtain rfl : j = m := by omega
      have hi : ii = -1 := by omega
      subst hi
      gi_wp2
      go_end0
      exact ⟨⟨_, rfl⟩, .inl ⟨_, rfl, HJJ.out⟩⟩
end Go.Proofs.Ytlljhcfiojfimaa.BackI

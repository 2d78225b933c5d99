/- Contract of the program's TimelineOf: a loop over an iterator of its own that goes from one change to the next one. -/
import Derived.Test.YtdmkceaonfbebaaRows
import Derived.Test.YtdmkceaonfbebaaLineEdge
import Derived.Test.YtdmkceaonfbebaaKit
import Derived.Test.YtdmkceaonfbebaaFactRow
import Derived.Test.YtdmkceaonfbebaaStoreOk
import Derived.Test.YtdmkceaonfbebaaValueAt
import Derived.RangeFuncNested
import Derived.RangeFuncBound
import Derived.RangeFuncCalls
import Derived.RangeFuncLeaves
import Derived.Shelf.Abstract
import Derived.Shelf.RegionOpen
import Derived.WalkKit
import Derived.OwnWalkIn
import Derived.TacticsInMore
import Derived.LoopNIn
import Derived.LoopIn
namespace Go.Proofs.Ytdmkceaonfbebaa.LineI
open Go.RowKit Go.Shelf RowN Mon
open Fact (Fa)
open FactRow (ReadsF)
open FactMath (okS val)
open TSegment SegMath LineMath LineEdge
attribute [local go_sem] Oper.semAt_some

def IsNextI (key kn : Int) (l : List Fa) (m t : Int) (w : World) (e : Ending) (w' : World) : Prop := ∃ x : Int, e = .returned (.int .i64 x) ∧ IsNext key kn l m t x ∧ Below w.heap.size w w'
theorem next_end {key kn : Int} {l : List Fa} {m t : Int} (h1 : m < t) (h2 : ∀ n, m < n → n < t → val key n kn l = val key m kn l) : IsNext key kn l m t t := ⟨h1, Int.le_refl _, h2, fun h => absurd h (by omega)⟩
theorem next_at {key kn : Int} {l : List Fa} {m t n : Int} (h1 : m < n) (h0 : n < t) (h2 : ∀ i, m < i → i < n → val key i kn l = val key m kn l) (h3 : val key n kn l ≠ val key m kn l) : IsNext key kn l m t n := ⟨h1, by omega, h2, fun _ => h3⟩
set_option maxHeartbeats 2000000 in
theorem change_i (w : World) (p : Option Addr) (m cap : Nat) (l : List Fa) (key kn mo t : Int) (hm : l.length = m) (hs : m ≤ 1048576) (h : ReadsF w p l) (h1 : 0 ≤ mo) (h2 : mo < t) (h3 : t ≤ 3600) :
    Calls Try.prog 89 #[.agg #[.slice p m cap], .int .i64 key, .int .i64 kn, .int .i64 mo, .int .i64 t] w (IsNextI key kn l mo t w) := by
  have KK := Lib.hid h
  have HM := Lib.hid hm
  obtain ⟨⟨v, o⟩, hv⟩ : ∃ V, val key mo kn l = V := ⟨_, rfl⟩
  have HV := Lib.hid hv
  clear h hm hv
  go_enter Try.func89, Try.ntmps89
  go_wp2_with fail
  refine (ValueAt.val_i _ p m cap l key mo kn HM.out (by omega) (KK.out.on (by (repeat (first | exact Below.refl _ _ | apply BelowKit.bl_alloc | apply BelowKit.bl_drewN | apply BelowKit.bl_drew | (refine BelowKit.bl_set ?_ _ ?_; rotate_left; (first | omega | (simp; omega) | simp)) | (refine BelowKit.bl_trans ?_ (‹Hid (Below _ _ _)›).out)))))).mono ?_
  rintro e w1 ⟨rfl, hb1⟩
  rw [HV.out]
  have c0 : w1.cell? ⟨w.heap.size, 0, none⟩ = some (.slice p m cap) := ((BelowKit.bcell hb1).1 _ _ (by first | omega | (simp; done) | (simp; omega))).trans (by simp [go_sem])
  have z0 : w.heap.size < w1.heap.size := by have := hb1.size; simp at this; omega
  have HB1 := Lib.hid (show Below w.heap.size w w1 from BelowKit.bl_trans (by (repeat (first | exact Below.refl _ _ | apply BelowKit.bl_alloc | apply BelowKit.bl_drewN | apply BelowKit.bl_drew | (refine BelowKit.bl_set ?_ _ ?_; rotate_left; (first | omega | (simp; omega) | simp)) | (refine BelowKit.bl_trans ?_ (‹Hid (Below _ _ _)›).out)))) hb1)
  clear hb1
  go_wp2
  go_loopw [13] (fun i wr => ∃ n : Int, i = .int .i64 n ∧ mo < n ∧ n ≤ t ∧ Hid (∀ k, mo < k → k < n → val key k kn l = val key mo kn l) ∧ wr.cell? ⟨w.heap.size, 0, none⟩ = some (.slice p m cap) ∧ w.heap.size < wr.heap.size ∧ Hid (Below w.heap.size w wr)) (fun i _ => (t - intOf i).toNat)
  case atStart => exact ⟨mo + 1, rfl, by omega, by omega, Lib.hid (fun k a b => by omega), c0, z0, HB1⟩
  case round =>
    obtain ⟨n, rfl, hn1, hn2, HA, hc0, hz0, HB⟩ := hrel
    have bb0 : 0 ≤ n := by omega
    have bb1 : n ≤ 3600 := by omega
    by_cases hlt : n < t
    · obtain ⟨⟨v', o'⟩, hv'⟩ : ∃ V, val key n kn l = V := ⟨_, rfl⟩
      have HV' := Lib.hid hv'
      clear hv'
      go_wp2_with fail
      refine (ValueAt.val_i _ p m cap l key n kn HM.out (by omega) (KK.out.on HB.out)).mono ?_
      rintro e w2 ⟨rfl, hb2⟩
      rw [HV'.out]
      have c2 : w2.cell? ⟨w.heap.size, 0, none⟩ = some (.slice p m cap) := ((BelowKit.bcell hb2).1 _ _ hz0).trans hc0
      have z2 : w.heap.size < w2.heap.size := Nat.lt_of_lt_of_le hz0 hb2.size
      have HB2 := Lib.hid (BelowKit.bl_trans HB.out hb2)
      clear hb2 hc0 hz0 HB
      by_cases hq : v' = v
      case neg =>
        have d1 : (v' == v) = false := beq_eq_false_iff_ne.2 hq
        have d2 : (v' != v) = true := by simp [bne, d1]
        have E := Lib.hid (next_at (t := t) hn1 hlt HA.out (by rw [HV'.out, HV.out]; intro e; exact hq (congrArg Prod.fst e)))
        clear hq HA
        go_wp2
        go_ret
        exact ⟨n, rfl, E.out, HB2.out⟩
      case pos =>
      subst hq
      have d1 : (v' == v') = true := beq_self_eq_true v'
      have d2 : (v' != v') = false := by simp
      by_cases ho : o' = o
      case neg =>
        have E := Lib.hid (next_at (t := t) hn1 hlt HA.out (by rw [HV'.out, HV.out]; intro e; exact ho (congrArg Prod.snd e)))
        have d3 : (o' != o) = true := by cases o <;> cases o' <;> simp_all
        have d4 : (o' == o) = false := by cases o <;> cases o' <;> simp_all
        clear ho HA
        go_wp2
        go_ret
        exact ⟨n, rfl, E.out, HB2.out⟩
      case pos =>
      subst ho
      have d3 : (o' != o') = false := by simp
      have d4 : (o' == o') = true := by simp
      have E : Hid (∀ k, mo < k → k < n + 1 → val key k kn l = val key mo kn l) := Lib.hid (fun k a b => by
        by_cases e : k = n
        · rw [e, HV'.out, HV.out]
        · exact HA.out k a (by omega))
      clear HA
      go_wp2
      go_roundw
      case rel => exact ⟨n + 1, rfl, by omega, by omega, E, c2, z2, HB2⟩
      case measure => simp [intOf]; omega
    · obtain rfl : n = t := by omega
      have E := Lib.hid (next_end hn1 HA.out)
      clear HA
      go_wp2
      go_ret
      exact ⟨n, rfl, E.out, HB.out⟩
/-- What the iterator captures: five boxes. -/
structure Boxes (W : World) (b : Nat) (p : Option Addr) (m cap : Nat) (key kn f t : Int) : Prop where
  s : Boxed W b 26 (.slice p m cap)
  key : Boxed W (b + 1) 3 (.int .i64 key)
  kn : Boxed W (b + 1 + 1) 3 (.int .i64 kn)
  f : Boxed W (b + 1 + 1 + 1) 3 (.int .i64 f)
  t : Boxed W (b + 1 + 1 + 1 + 1) 3 (.int .i64 t)
abbrev caps (b : Nat) : Array Value := #[.pointer (some ⟨b + 1 + 1 + 1, 0, none⟩), .pointer (some ⟨b + 1 + 1 + 1 + 1, 0, none⟩), .pointer (some ⟨b, 0, none⟩), .pointer (some ⟨b + 1, 0, none⟩), .pointer (some ⟨b + 1 + 1, 0, none⟩)]
def IsSeq (p : Option Addr) (m cap : Nat) (key kn f t : Int) (w : World) (e : Ending) (w' : World) : Prop :=
  e = .returned (.func (.func 88) #[] (caps w.heap.size)) ∧ Boxes w' w.heap.size p m cap key kn f t ∧ w'.heap.size = w.heap.size + 5 ∧ Below w.heap.size w w'
set_option maxHeartbeats 1000000 in
theorem segs_i (w : World) (p : Option Addr) (m cap : Nat) (key kn f t : Int) :
    Calls Try.prog 87 #[.agg #[.slice p m cap], .int .i64 key, .int .i64 kn, .int .i64 f, .int .i64 t] w (IsSeq p m cap key kn f t w) := by
  go_enter Try.func87, Try.ntmps87
  go_wp2
  go_ret
  refine ⟨rfl, ⟨((((Boxed.new w _ _).alloc _).alloc _).alloc _).alloc _, ?_, ?_, ?_, ?_⟩, by simp, by (repeat (first | exact Below.refl _ _ | apply BelowKit.bl_alloc | apply BelowKit.bl_drewN | apply BelowKit.bl_drew | (refine BelowKit.bl_set ?_ _ ?_; rotate_left; (first | omega | (simp; omega) | simp)) | (refine BelowKit.bl_trans ?_ (‹Hid (Below _ _ _)›).out)))⟩
  · have := (((Boxed.new (w.alloc (.cells #[.slice p m cap] 26)) 3 (.int .i64 key)).alloc (.cells #[.int .i64 kn] 3)).alloc (.cells #[.int .i64 f] 3)).alloc (.cells #[.int .i64 t] 3)
    simpa using this
  · have := ((Boxed.new ((w.alloc (.cells #[.slice p m cap] 26)).alloc (.cells #[.int .i64 key] 3)) 3 (.int .i64 kn)).alloc (.cells #[.int .i64 f] 3)).alloc (.cells #[.int .i64 t] 3)
    simpa using this
  · have := (Boxed.new (((w.alloc (.cells #[.slice p m cap] 26)).alloc (.cells #[.int .i64 key] 3)).alloc (.cells #[.int .i64 kn] 3)) 3 (.int .i64 f)).alloc (.cells #[.int .i64 t] 3)
    simpa using this
  · have := Boxed.new ((((w.alloc (.cells #[.slice p m cap] 26)).alloc (.cells #[.int .i64 key] 3)).alloc (.cells #[.int .i64 kn] 3)).alloc (.cells #[.int .i64 f] 3)) 3 (.int .i64 t)
    simpa using this
/-- What a round keeps: below hi nothing turns but block L. -/
structure But (L hi : Nat) (W W' : World) : Prop where
  size : W.heap.size ≤ W'.heap.size
  same : ∀ k, k < hi → k ≠ L → W'.heap[k]? = W.heap[k]?
theorem But.refl (L hi : Nat) (W : World) : But L hi W W := ⟨Nat.le_refl _, fun _ _ _ => rfl⟩
theorem But.trans {L hi : Nat} {A B C : World} (h : But L hi A B) (k : But L hi B C) : But L hi A C := ⟨Nat.le_trans h.size k.size, fun i h1 h2 => (k.same i h1 h2).trans (h.same i h1 h2)⟩
theorem But.of_below {L hi : Nat} {A B : World} (h : Below A.heap.size A B) (hA : hi ≤ A.heap.size) : But L hi A B := ⟨h.size, fun k h1 _ => h.block k (by omega)⟩
theorem But.box {L hi : Nat} {A B : World} {b : Nat} {T : TypeId} {v : Value} (h : But L hi A B) (hb : b < hi) (hL : b ≠ L) (hB : Boxed A b T v) : Boxed B b T v := (h.same b hb hL).trans hB
theorem but_b {L hi : Nat} {w : World} (hh : hi ≤ w.heap.size) (W : World) (l : Nat) (o o' : Obj) (hl : w.heap.size ≤ l) (h : W.heap[l]? = some o) (_ : o.isCells = false) (_ : o.isWalk = false) : But L hi W (W.putObj l o') :=
  ⟨(grownBy_putObj' W l o').size, fun k h1 _ => (grownBy_putObj' W l o').block k (by have := (Array.getElem?_eq_some_iff.1 h).1; omega) (fun e => by cases e; omega)⟩
theorem Boxes.but {L hi b : Nat} {A B : World} {p : Option Addr} {m cap : Nat} {key kn f t : Int} (h : Boxes A b p m cap key kn f t) (k : But L hi A B) (hb : b + 5 ≤ hi) (hL : L < b) : Boxes B b p m cap key kn f t :=
  ⟨k.box (by omega) (by omega) h.s, k.box (by omega) (by omega) h.key, k.box (by omega) (by omega) h.kn, k.box (by omega) (by omega) h.f, k.box (by omega) (by omega) h.t⟩
theorem reads_but {A B : World} {a : Option Addr} {l : List Fa} (h : ReadsF A a l) (hs : A.heap.size ≤ B.heap.size) (hk : ∀ k, k < A.heap.size → B.heap[k]? = A.heap[k]?) : ReadsF B a l := fun j hj => by
  obtain ⟨blk, off, e, hlt, hc⟩ := h j hj
  exact ⟨blk, off, e, Nat.lt_of_lt_of_le hlt hs, fun i hi => (World.cell?_of_block (hk blk hlt)).trans (hc i hi)⟩
theorem abides {J : List El → World → Prop} {B : Nat} (hJ : AbidesFrom B J) {s : List El} {A C : World} (h : J s A) (hb : Below A.heap.size A C) : J s C :=
  hJ s A C none h ⟨hb.os, hb.tape, hb.output, hb.size, fun k hk _ => hb.block k hk⟩ (fun r e => by cases e)
set_option maxRecDepth 100000 in
set_option maxHeartbeats 4000000 in
theorem iter_i (n b L : Nat) (w0 w : World) (p : Option Addr) (m cap : Nat) (l : List Fa) (key kn f t : Int) (hm : l.length = m) (hs : m ≤ 1048576) (h : ReadsF w0 p l) (h0L : w0.heap.size ≤ L) (hLb : L < b) (hb : b + 5 ≤ w.heap.size) (hw : Below w0.heap.size w0 w)
    (hx : Boxes w b p m cap key kn f t) (f0 : 0 ≤ f) (f1 : f ≤ 3600) (t1 : t ≤ 3600) (hn : 1 ≤ n) :
    SeqStopsK Fence.wide n Try.prog 88 (caps b) (fun x : El => #[fv x]) (But L (b + 5)) (fun ys => ys = lineTo key kn f l (t - f).toNat) (fun _ => True) 3600 w := fun lp J Jx W hW hJ hJx hY h0 => by
  have HM := Lib.hid hm
  have hbW : b + 5 ≤ W.heap.size := Nat.le_trans hb hW.size
  have HX : Hid (Boxes W b p m cap key kn f t) := Lib.hid (hx.but (But.of_below (L := L) hW (Nat.le_refl _)) hb hLb)
  have HR : Hid (∀ wr, But L (b + 5) W wr → ReadsF wr p l) := Lib.hid (fun wr hk => reads_but h (Nat.le_trans (Nat.le_trans hw.size hW.size) hk.size) (fun k hlt => by
    rw [hk.same k (by omega) (by omega), hW.block k (by have := hw.size; omega), hw.block k hlt]))
  have HJ := Lib.hid hJ
  have HY := Lib.hid hY
  have H0 := Lib.hid h0
  clear hm h hx hW hw hJ hJx hY h0
  refine callsIn_of_wp Try.func88 rfl trivial ?_ rfl
  simp only [Try.ntmps88, caps, List.size_toArray, List.length_cons, List.length_nil, Nat.reduceAdd, Nat.reduceSub, Array.replicate_succ, Array.replicate_zero, List.push_toArray, List.append_toArray, List.nil_append, List.cons_append]
  have c3 := HX.out.f.cell
  gi_wp2
  gi_loopw [7] (fun i wr => ∃ j : Nat, i = .int .i64 (f + (j : Int)) ∧ j ≤ (t - f).toNat ∧ Hid (f + (j : Int) < t → LineEdge.Edge (lineTo key kn f l j) (f + (j : Int)) (val key (f + (j : Int)) kn l)) ∧ Hid (But L (b + 5) W wr) ∧ Hid (J (lineTo key kn f l j) wr)) (fun i _ => (t - intOf i).toNat)
  case atStart => exact ⟨0, by simp, by omega, Lib.hid (fun _ => LineEdge.Edge.nil _ _), Lib.hid (But.refl _ _ _), H0⟩
  case round =>
    obtain ⟨j, rfl, hj, HE, HB, HJJ⟩ := hrel
    obtain ⟨mo, hmo⟩ : ∃ mo, f + (j : Int) = mo := ⟨_, rfl⟩
    have HMO := Lib.hid hmo
    rw [hmo] at HE ⊢
    have hX := HX.out.but HB.out (Nat.le_refl _) hLb
    have k0 := hX.s.cell
    have k1 := hX.key.cell
    have k2 := hX.kn.cell
    have k4 := hX.t.cell
    have z0 := hX.t.lt
    have bb0 : 0 ≤ mo := by omega
    have bb1 : mo ≤ 7200 := by omega
    clear hX hmo
    by_cases hlt : mo < t
    · have bb2 : mo < 3600 := by omega
      obtain ⟨r, hr⟩ : ∃ r, lineTo key kn f l j = r := ⟨_, rfl⟩
      have HRR := Lib.hid hr
      have hjt : j < 3600 := by have := HMO.out; omega
      have hrl : r.length < 3600 := by have := lineTo_len key kn f l j; rw [hr] at this; omega
      rw [hr] at HE HJJ
      have HED := Lib.hid (HE.out hlt)
      clear hr HE c3
      obtain ⟨⟨v, o⟩, hv⟩ : ∃ V, val key mo kn l = V := ⟨_, rfl⟩
      have HV := Lib.hid hv
      rw [hv] at HED
      clear hv
      gi_wp2_with fail
      refine ⟨trivial, (callsIn_wide.2 (ValueAt.val_i wr p m cap l key mo kn HM.out (by omega) (HR.out wr HB.out))).mono ?_⟩
      rintro e w1 ⟨rfl, hb1⟩
      rw [HV.out]
      have hX1 := HX.out.but (HB.out.trans (But.of_below hb1 (by omega))) (Nat.le_refl _) hLb
      have HB1 := Lib.hid (HB.out.trans (But.of_below (L := L) (hi := b + 5) hb1 (by omega)))
      have HJ1 := Lib.hid (abides HJ.out HJJ.out hb1)
      have z1 : b + 5 ≤ w1.heap.size := by have := hb1.size; omega
      have k0 := hX1.s.cell
      have k1 := hX1.key.cell
      have k2 := hX1.kn.cell
      have k4 := hX1.t.cell
      clear hX1 hb1 HB HJJ
      gi_wp2_with fail
      refine ⟨trivial, (callsIn_wide.2 (change_i w1 p m cap l key kn mo t HM.out hs (HR.out w1 HB1.out) bb0 hlt t1)).mono ?_⟩
      rintro e w2 ⟨x, rfl, hnext, hb2⟩
      have hX2 := HX.out.but (HB1.out.trans (But.of_below hb2 (by omega))) (Nat.le_refl _) hLb
      have HB2 := Lib.hid (HB1.out.trans (But.of_below (L := L) (hi := b + 5) hb2 (by omega)))
      have HJ2 := Lib.hid (abides HJ.out HJ1.out hb2)
      have z2 : b + 5 ≤ w2.heap.size := by have := hb2.size; omega
      have HN := Lib.hid hnext
      have x0 : mo < x := hnext.1
      have x1 : x ≤ t := hnext.2.1
      clear hX2 hb2 HB1 HJ1 k0 k1 k2 k4 hnext
      cases o with
      | false =>
        have EN := Lib.hid (by
          have := next_none (key := key) (kn := kn) (f := f) (l := l) (j := j) (t := t) (e := x) (v := v) (by rw [HMO.out]; exact HN.out) (by rw [HMO.out]; exact HV.out) (fun y hy => by rw [HMO.out]; rw [HRR.out] at hy; exact (HED.out y hy).1)
          rw [HRR.out] at this
          exact this)
        clear HN HED
        gi_wp2
        refine ⟨fun _ h => (by cases h), ?_⟩
        gi_wp2
        go_roundw
        case rel =>
          obtain ⟨i, e1, e2, e3, e4⟩ := EN.out
          exact ⟨i, congrArg (Value.int .i64) e1, by omega, by rw [← e1]; exact Lib.hid e4, HB2, by rw [e3]; exact HJ2⟩
        case measure => simp [intOf]; omega
      | true =>
        have EN := Lib.hid (by
          have := next_run (key := key) (kn := kn) (f := f) (l := l) (j := j) (t := t) (e := x) (v := v) (by rw [HMO.out]; exact HN.out) (by rw [HMO.out]; exact HV.out) (by rw [HMO.out, HRR.out]; exact HED.out)
          rw [HRR.out, HMO.out] at this
          exact this)
        clear HN HED
        have HYY := Lib.hid (HY.out r ⟨mo, x, v⟩ w2 HJ2.out hrl)
        obtain ⟨fn, tmps, assign, body, hy, hR⟩ := HYY.out
        clear HYY
        simp only [fv] at hy
        gi_wp2
        refine hR.mono ?_
        rintro e w3 (⟨rfl, hJ3, hk3⟩ | ⟨rfl, hJx3⟩)
        · have HJ3 := Lib.hid hJ3
          have HB3 := Lib.hid (HB2.out.trans hk3)
          clear hJ3 hk3 hR hy
          gi_wp2
          go_roundw
          case rel =>
            obtain ⟨i, e1, e2, e3, e4⟩ := EN.out
            exact ⟨i, congrArg (Value.int .i64) e1, by omega, by rw [← e1]; exact Lib.hid e4, HB3, by rw [e3]; exact HJ3⟩
          case measure => simp [intOf]; omega
        · have HJ3 := Lib.hid hJx3
          clear hJx3 hR hy
          gi_wp2
          refine bodyPost_ret (results_none rfl _ _ _) rfl ?_
          exact ⟨⟨_, rfl⟩, .inr ⟨r ++ [⟨mo, x, v⟩], trivial, HJ3.out⟩⟩
    · have E2 : j = (t - f).toNat := by have := HMO.out; omega
      subst E2
      clear c3 HE
      gi_wp2
      go_end0
      exact ⟨⟨_, rfl⟩, .inl HJJ.out⟩
set_option maxRecDepth 100000 in
set_option maxHeartbeats 8000000 in
theorem line_i (w : World) (p : Option Addr) (m cap : Nat) (l : List Fa) (key kn f t : Int) (hm : l.length = m) (hs : m ≤ 1048576) (h : ReadsF w p l) :
    Calls Try.prog 85 #[.agg #[.slice p m cap], .int .i64 key, .int .i64 kn, .int .i64 f, .int .i64 t] w (IsRow (line l key kn f t) w) := by
  have KK := Lib.hid h
  have HM := Lib.hid hm
  obtain ⟨R, hR⟩ : ∃ R, line l key kn f t = R := ⟨_, rfl⟩
  rw [hR]
  have HNO : Hid (¬ (okS l = true ∧ inB kn 0 3599 = true ∧ inB f 0 3600 = true ∧ inB t 0 3600 = true) → R = []) := Lib.hid fun h => by rw [← hR]; exact line_no h
  have HYES : Hid (okS l = true → inB kn 0 3599 = true → inB f 0 3600 = true → inB t 0 3600 = true → R = lineTo key kn f l (t - f).toNat) := Lib.hid fun h0 h1 h2 h3 => by rw [← hR]; exact line_yes h0 h1 h2 h3
  clear h hm hR
  obtain ⟨b0, h0⟩ : ∃ b, okS l = b := ⟨_, rfl⟩
  obtain ⟨b1, h1⟩ : ∃ b, inB kn 0 3599 = b := ⟨_, rfl⟩
  obtain ⟨b2, h2⟩ : ∃ b, inB f 0 3600 = b := ⟨_, rfl⟩
  obtain ⟨b3, h3⟩ : ∃ b, inB t 0 3600 = b := ⟨_, rfl⟩
  have H0 := Lib.hid h0
  have H1 := Lib.hid h1
  have H2 := Lib.hid h2
  have H3 := Lib.hid h3
  clear h0 h1 h2 h3
  refine (callsIn_wide (n := 8)).1 ?_
  refine callsIn_of_wp_marks Try.func85 rfl trivial ?_ rfl
  simp only [Try.ntmps85, List.size_toArray, List.length_cons, List.length_nil, Nat.reduceAdd, Nat.reduceSub, Array.replicate_succ, Array.replicate_zero, List.push_toArray, List.append_toArray, List.nil_append, List.cons_append]
  gi_wp2_with fail
  refine ⟨trivial, (callsIn_wide.2 (StoreOk.ok_i _ p m cap l HM.out (by omega) (KK.out.on (by (repeat (first | exact Below.refl _ _ | apply BelowKit.bl_alloc | apply BelowKit.bl_drewN | apply BelowKit.bl_drew | (refine BelowKit.bl_set ?_ _ ?_; rotate_left; (first | omega | (simp; omega) | simp)) | (refine BelowKit.bl_trans ?_ (‹Hid (Below _ _ _)›).out))))))).mono ?_⟩
  rintro e w1 ⟨rfl, hb1⟩
  rw [H0.out]
  have c0 : w1.cell? ⟨w.heap.size, 0, none⟩ = some (.slice p m cap) := ((BelowKit.bcell hb1).1 _ _ (by first | omega | (simp; done) | (simp; omega))).trans (by simp [go_sem])
  have z0 : w.heap.size < w1.heap.size := by have := hb1.size; simp at this; omega
  have HB1 := Lib.hid (show Below w.heap.size w w1 from BelowKit.bl_trans (by (repeat (first | exact Below.refl _ _ | apply BelowKit.bl_alloc | apply BelowKit.bl_drewN | apply BelowKit.bl_drew | (refine BelowKit.bl_set ?_ _ ?_; rotate_left; (first | omega | (simp; omega) | simp)) | (refine BelowKit.bl_trans ?_ (‹Hid (Below _ _ _)›).out)))) hb1)
  clear hb1
  cases b0 with
  | false =>
    have E := Lib.hid (HNO.out (by rw [H0.out]; simp))
    gi_wp2
    repeat (refine ⟨trivial, ?_⟩; gi_wp2)
    refine ⟨_, results_tmp rfl _ _ _, ?_⟩
    rw [E.out]
    exact ⟨none, 0, rfl, Owns.nil _ _ _, HB1.out⟩
  | true =>
  gi_wp2_with fail
  refine ⟨trivial, (callsIn_wide.2 (Mon.ok_i _ _)).mono ?_⟩
  rintro e w' ⟨rfl, rfl⟩
  rw [H1.out]
  cases b1 with
  | false =>
    have E := Lib.hid (HNO.out (by rw [H1.out]; simp))
    gi_wp2
    repeat (refine ⟨trivial, ?_⟩; gi_wp2)
    refine ⟨_, results_tmp rfl _ _ _, ?_⟩
    rw [E.out]
    exact ⟨none, 0, rfl, Owns.nil _ _ _, HB1.out⟩
  | true =>
  gi_wp2_with fail
  refine ⟨trivial, (callsIn_wide.2 (Mon.end_i _ _)).mono ?_⟩
  rintro e w' ⟨rfl, rfl⟩
  rw [H2.out]
  cases b2 with
  | false =>
    have E := Lib.hid (HNO.out (by rw [H2.out]; simp))
    gi_wp2
    repeat (refine ⟨trivial, ?_⟩; gi_wp2)
    refine ⟨_, results_tmp rfl _ _ _, ?_⟩
    rw [E.out]
    exact ⟨none, 0, rfl, Owns.nil _ _ _, HB1.out⟩
  | true =>
  gi_wp2_with fail
  refine ⟨trivial, (callsIn_wide.2 (Mon.end_i _ _)).mono ?_⟩
  rintro e w' ⟨rfl, rfl⟩
  rw [H3.out]
  cases b3 with
  | false =>
    have E := Lib.hid (HNO.out (by rw [H3.out]; simp))
    gi_wp2
    repeat (refine ⟨trivial, ?_⟩; gi_wp2)
    refine ⟨_, results_tmp rfl _ _ _, ?_⟩
    rw [E.out]
    exact ⟨none, 0, rfl, Owns.nil _ _ _, HB1.out⟩
  | true =>
  obtain ⟨f0, f1⟩ := inB_of H2.out
  obtain ⟨t0, t1⟩ := inB_of H3.out
  have E := Lib.hid (HYES.out H0.out H1.out H2.out H3.out)
  clear HNO HYES
  gi_wp2_with fail
  refine ⟨trivial, (callsIn_wide.2 (segs_i _ p m cap key kn f t)).mono ?_⟩
  rintro e w3 ⟨rfl, hbx, hz3, hb3⟩
  gi_wp2_with fail
  have hL := (Boxed.new w1 118 (.slice none 0 0)).kept (row := none) ⟨hb3.os, hb3.tape, hb3.output, hb3.size, fun k hk _ => hb3.block k hk⟩ (by simp)
  have hB3 : Below w.heap.size w w3 := BelowKit.bl_trans (BelowKit.bl_alloc HB1.out) hb3
  simp only [World.size_alloc] at hbx hz3
  have hs1 := HB1.out.size
  obtain ⟨L, hLe⟩ : ∃ L, w1.heap.size = L := ⟨_, rfl⟩
  rw [hLe] at hbx hz3 hL hs1 ⊢
  have hLw : w.heap.size < L := by rw [← hLe]; exact z0
  clear hb3 c0 z0 HB1 hLe
  refine wpIn_rangeFunc_ownH rfl (by omega) (gf := 88) (lb := caps (L + 1)) rfl trivial (enters_of Try.func88 (by kernel_rfl) rfl)
    (iter_i (8 - 1) (L + 1) L w w3 p m cap l key kn f t HM.out hs KK.out hs1 (by omega) (by omega) hB3 hbx f0 f1 t1 (by omega)) (fun h k => But.trans h k) (but_b (by omega)) (Below.refl _ _) (fun _ => rfl)
    (fun (pre : List El) (W : World) => (∃ v, Boxed W L 118 v ∧ W.ownsRow (L + 6) T 3 v pre.length (pre.flatMap fc) ∧ True) ∧ (Below w.heap.size w W ∧ L + 6 ≤ W.heap.size))
    (fun _ _ _ => False)
    (OwnFrom.and (Own.from (holdsRow_own (L + 6) L 118 T 3 (fun (pre : List El) => pre.length) (fun (pre : List El) => pre.flatMap fc) (fun _ _ => True)) _) (OwnFrom.and (ownFrom_below (Nat.le_refl _) (by omega)) (fun s W W' row hs hg hr => Nat.le_trans hs hg.size)))
    (fun _ _ _ _ _ hs _ _ => hs)
    ⟨⟨_, hL, World.ownsRow_nil _ _ _ _, trivial⟩, hB3, by omega⟩
    (fun (x : El) (a' : Act) (W : World) => ∃ Bx, W.heap[Bx]? = some (.cells #[.int .i64 x.From, .int .i64 x.To, .int .i64 x.Value] 122 (0, 0)) ∧ a' = { tmps := #[.agg #[.slice p m cap], .int .i64 key, .int .i64 kn, .int .i64 f, .int .i64 t, .pointer (some ⟨w.heap.size, 0, none⟩),
          undef, undef, undef, undef, .slice none 0 0, .pointer (some ⟨L, 0, none⟩), .pointer (some ⟨Bx, 0, none⟩), .agg #[.slice p m cap], .bool true, .bool false, .bool false,
          .int .i64 kn, .bool true, .bool false, .bool false, .bool false, .int .i64 f, .bool true, .bool false, .bool false, .bool false, .int .i64 t, .bool true, .bool false, .bool false,
          .agg #[.slice p m cap], .int .i64 key, .int .i64 kn, .int .i64 f, .int .i64 t, .func (.func 88) #[] (caps (L + 1)), .agg #[.int .i64 x.From, .int .i64 x.To, .int .i64 x.Value], undef, undef, undef, undef, undef], defers := [] })
    (fun x a' _ X Y row hs hg hr => by
      obtain ⟨Bx, h1, h3⟩ := hs
      refine ⟨Bx, (hg.block Bx (Array.getElem?_eq_some_iff.1 h1).1 (fun e => ?_)).trans h1, h3⟩
      obtain ⟨_, o, ho, hc⟩ := hr Bx e.symm
      rw [h1] at ho; cases ho; cases hc)
    ?assign ?body ?done ?stop
  case assign =>
    rintro lp pre x W K ⟨⟨v, hv, hrow, _⟩, hB, hz⟩ hK
    unfold fv
    gi_wp2
    exact hK _ _ ((KeepsOthers.alloc _ _).from _) ⟨by simp, fun k h1 _ => Below.heap_alloc _ _ _ (by omega)⟩ ⟨⟨v, hv.alloc _, hrow.alloc _, trivial⟩, hB.alloc hB.size _, by simp; omega⟩ ⟨W.heap.size, World.alloc_heap_new W _, rfl⟩
  case body =>
    rintro lp pre x a' W hl ⟨r, hr⟩ ⟨⟨v, hv, hrow, _⟩, hB, hz⟩ ⟨Bx, hBx, rfl⟩ hlt
    have hown : Owns fc 3 W (L + 6) T v pre := hrow
    have hc := hv.cell
    have hx0 : W.cell? ⟨Bx, 0, none⟩ = some (.int .i64 x.From) := by simp [World.cell?, hBx]
    have hx1 : W.cell? ⟨Bx, 1, none⟩ = some (.int .i64 x.To) := by simp [World.cell?, hBx]
    have hx2 : W.cell? ⟨Bx, 2, none⟩ = some (.int .i64 x.Value) := by simp [World.cell?, hBx]
    have HO := Lib.hid hown
    have HV := Lib.hid hv
    clear hr hrow hown hBx hv
    gi_wp2_with (gi_at_builtin; refine Fresh.pause ?_)
    refine ⟨?_⟩
    refine RowNIn.wpListIn_appendN ft fw _ rfl (.tmp 38) (.tmp 40) rfl (L + 6) _ pre rfl (HO.out.alloc _) ⟨W.heap.size, 0, none⟩ 1 1 [x] rfl rfl (news_block (T := 122) (World.alloc_heap_new W _)) (by simp; omega) (by simp; omega) ?_
    intro v' w5 hown5 hg5 _
    obtain ⟨b1, b2, b3, b4, b5, b6⟩ := RowNIn.collected (n0 := w.heap.size) HV.out (by decide) HO.out (by omega) (by omega) hz hown5 hg5
    obtain ⟨a5, c5, hv5, _⟩ := hown5.form fw
    rw [show (pre ++ [x]).length = pre.length + 1 by simp] at hv5
    subst hv5
    have hc5 := b1.cell
    have hf5 := b1.frozen
    have HFIN := Lib.hid (show KeepsFrom w3.heap.size W (w5.setCell ⟨L, 0, none⟩ (.slice a5 (pre.length + 1) c5)) ∧ But L (L + 1 + 5) W (w5.setCell ⟨L, 0, none⟩ (.slice a5 (pre.length + 1) c5)) ∧ (∃ v, Boxed (w5.setCell ⟨L, 0, none⟩ (.slice a5 (pre.length + 1) c5)) L 118 v ∧ (w5.setCell ⟨L, 0, none⟩ (.slice a5 (pre.length + 1) c5)).ownsRow (L + 6) T 3 v (pre ++ [x]).length ((pre ++ [x]).flatMap fc) ∧ True) ∧ (Below w.heap.size w (w5.setCell ⟨L, 0, none⟩ (.slice a5 (pre.length + 1) c5)) ∧ L + 6 ≤ (w5.setCell ⟨L, 0, none⟩ (.slice a5 (pre.length + 1) c5)).heap.size) from
      ⟨b4.from _, ⟨b4.size, fun k h1 h2 => b6 k (by omega) h2⟩, ⟨_, b2, b3, trivial⟩, hB.trans b5, Nat.le_trans hz b4.size⟩)
    clear b1 b2 b3 b4 b5 b6 hown5 hg5
    gi_wp2
    exact HFIN.out
  case done =>
    rintro D ys W hD rfl ⟨⟨v, hv, hrow, _⟩, hB, hz⟩ hK
    have hc := hv.cell
    gi_wp2
    refine ⟨by simp, .inl ⟨_, _, rfl, run_takeDeferred hK, ?_⟩⟩
    have hB5 : Below w.heap.size w (W.putObj D (.deferred none)) := hB.trans (belowK_b (w := w) (Nat.le_refl _) W D _ _ (by have := hB3.size; omega) hK rfl rfl)
    have hown : Owns fc 3 (W.putObj D (.deferred none)) (L + 6) T v (lineTo key kn f l (t - f).toNat) := ownsRow_putObj hrow _ hK rfl
    rw [← E.out] at hown
    obtain ⟨a5, c5, hv5, _⟩ := hown.form fw
    subst hv5
    exact ⟨_, results_tmp rfl _ _ _, a5, c5, rfl, hown.base (by omega), hB5⟩
  case stop =>
    rintro D c pre W _ _ h _
    exact h.elim
end Go.Proofs.Ytdmkceaonfbebaa.LineI

/- Contract of the model's AddSpell. -/
import Derived.Test.YtkoeodmneedjcaaRows
import Derived.Test.YtkoeodmneedjcaaSpellS
import Derived.Test.YtkoeodmneedjcaaKit
namespace Go.Proofs.Ytkoeodmneedjcaa.SpAddS
open Go.RowKit RowN TSpell SpellMath Mon Box
/-- The rows that are put behind one another: what is still to come makes the insertion whole. -/
def InsTo (l : List El) (x : El) (j : Nat) (b : Bool) (ys : List El) : Prop := ins l x = ys ++ (if b = true then l.drop j else ins (l.drop j) x) ∧ ys.length = j + (if b = true then 1 else 0)
theorem insTo_zero (l : List El) (x : El) : InsTo l x 0 false [] := ⟨rfl, rfl⟩
theorem insTo_put {l : List El} {x : El} {j : Nat} {ys : List El} (h : InsTo l x j false ys) (hj : j < l.length) (hx : x.From < l[j].From) : InsTo l x (j + 1) true (ys ++ [x] ++ [l[j]]) := by
  refine ⟨?_, by have := h.2; simp at this ⊢; omega⟩
  rw [h.1, if_neg (by simp), if_pos rfl, List.drop_eq_getElem_cons hj, ins, if_pos hx]
  simp
theorem insTo_on {l : List El} {x : El} {j : Nat} {ys : List El} (h : InsTo l x j false ys) (hj : j < l.length) (hx : ¬ x.From < l[j].From) : InsTo l x (j + 1) false (ys ++ [l[j]]) := by
  refine ⟨?_, by have := h.2; simp at this ⊢; omega⟩
  rw [h.1, if_neg (by simp), if_neg (by simp), List.drop_eq_getElem_cons hj, ins, if_neg hx]
  simp
theorem insTo_behind {l : List El} {x : El} {j : Nat} {ys : List El} (h : InsTo l x j true ys) (hj : j < l.length) : InsTo l x (j + 1) true (ys ++ [l[j]]) := by
  refine ⟨?_, by have := h.2; simp at this ⊢; omega⟩
  rw [h.1, if_pos rfl, if_pos rfl, List.drop_eq_getElem_cons hj]
  simp
theorem insTo_end {l : List El} {x : El} {j : Nat} {ys : List El} (h : InsTo l x j true ys) (hj : j = l.length) : ys = ins l x := by
  subst hj
  rw [h.1, if_pos rfl, List.drop_length, List.append_nil]
theorem insTo_last {l : List El} {x : El} {j : Nat} {ys : List El} (h : InsTo l x j false ys) (hj : j = l.length) : ys ++ [x] = ins l x := by
  subst hj
  rw [h.1, if_neg (by simp), List.drop_length]
  rfl
def IsAdd (l : List El) (b : Bool) (w : World) (e : Ending) (w' : World) : Prop := ∃ p c, e = .returned (.tuple #[.slice p l.length c, .bool b]) ∧ Owns fc 4 w' w.heap.size T (.slice p l.length c) l ∧ Below w.heap.size w w'
/-- One new spell, laid in the newest block. -/
theorem newP (w : World) (x : El) (g : Nat) (hg : w.heap.size = g) : ∀ j u, ([x].flatMap fc)[j]? = some u →
    (w.alloc (.cells #[.int .i64 x.From, .int .i64 x.To, .int .i64 x.Percent, .bool x.Leave] 34)).cell? ((⟨g, 0, none⟩ : Addr).add j) = some u := by
  subst hg
  exact news_block (T := 34) (heap_alloc_new w _)
/-- The box of x, the row that grows beside it. -/
structure Lay (w : World) (x : El) (wr : World) (s : Value) (ys : List El) : Prop where
  c0 : wr.cell? ⟨w.heap.size, 0, none⟩ = some (.int .i64 x.From)
  c1 : wr.cell? ⟨w.heap.size, 1, none⟩ = some (.int .i64 x.To)
  c2 : wr.cell? ⟨w.heap.size, 2, none⟩ = some (.int .i64 x.Percent)
  c3 : wr.cell? ⟨w.heap.size, 3, none⟩ = some (.bool x.Leave)
  lt : w.heap.size + 1 < wr.heap.size
  own : Owns fc 4 wr (w.heap.size + 1) T s ys
  bel : Below w.heap.size w wr
theorem Lay.grow {w wr w5 : World} {x : El} {s v' : Value} {ys ys' : List El} (h : Lay w x wr s ys) (ob : Obj) (h5 : Owns fc 4 w5 (w.heap.size + 1) T v' ys') (hg : (wr.alloc ob).grownBy w5 s.ownBlock) : Lay w x w5 v' ys' := by
  have hlow := h.own.low
  have hlt := h.lt
  have hb : Below (w.heap.size + 1) wr w5 := ((Below.refl _ _).alloc (by omega) _).grown hg (by show _ ≤ (wr.heap.push _).size; simp; omega) hlow
  exact ⟨(hb.cell (p := ⟨w.heap.size, 0, none⟩) (by show w.heap.size < _; omega)).trans h.c0, (hb.cell (p := ⟨w.heap.size, 1, none⟩) (by show w.heap.size < _; omega)).trans h.c1, (hb.cell (p := ⟨w.heap.size, 2, none⟩) (by show w.heap.size < _; omega)).trans h.c2, (hb.cell (p := ⟨w.heap.size, 3, none⟩) (by show w.heap.size < _; omega)).trans h.c3, Nat.lt_of_lt_of_le hlt hb.size, h5, h.bel.trans (hb.mono (by omega))⟩
theorem Lay.on {w wr w5 : World} {x : El} {s : Value} {ys : List El} (h : Lay w x wr s ys) (hb : Below wr.heap.size wr w5) : Lay w x w5 s ys := by
  have hlt := h.lt
  exact ⟨(hb.cell (p := ⟨w.heap.size, 0, none⟩) (by show w.heap.size < _; omega)).trans h.c0, (hb.cell (p := ⟨w.heap.size, 1, none⟩) (by show w.heap.size < _; omega)).trans h.c1, (hb.cell (p := ⟨w.heap.size, 2, none⟩) (by show w.heap.size < _; omega)).trans h.c2, (hb.cell (p := ⟨w.heap.size, 3, none⟩) (by show w.heap.size < _; omega)).trans h.c3, Nat.lt_of_lt_of_le hlt hb.size, h.own.on hb, BelowKit.bl_trans h.bel hb⟩
set_option maxRecDepth 100000 in
set_option maxHeartbeats 8000000 in
theorem add_s (w : World) (p : Option Addr) (m cap : Nat) (l : List El) (x : El) (hm : l.length = m) (hs : m ≤ 1048576) (h : Reads fc 4 w p l) :
    Calls Try.prog 24 #[.slice p m cap, fv x] w (IsAdd (added l x).1 (added l x).2 w) := by
  have KK := Lib.hid h
  have HM := Lib.hid hm
  obtain ⟨R, hR⟩ : ∃ R, added l x = R := ⟨_, rfl⟩
  have HR := Lib.hid hR
  rw [hR]
  clear h hm hR
  show Calls Try.prog 24 #[.slice p m cap, .agg #[.int .i64 x.From, .int .i64 x.To, .int .i64 x.Percent, .bool x.Leave]] w (IsAdd R.1 R.2 w)
  go_enter Try.func24, Try.ntmps24
  go_wp2
  go_loopw [6, 7, 8] (fun s b i wr => ∃ j : Nat, ∃ bb : Bool, ∃ ys : List El, j ≤ m ∧ i = .int .i64 (j : Int) ∧ b = .bool bb ∧ Hid (InsTo l x j bb ys) ∧ Hid (Lay w x wr s ys)) (fun _ _ i _ => m - (intOf i).toNat)
  case atStart =>
    refine ⟨0, false, [], Nat.zero_le _, rfl, rfl, Lib.hid (insTo_zero l x), Lib.hid ⟨by simp [go_sem], by simp [go_sem], by simp [go_sem], by simp [go_sem], by simp, ?_, by (repeat (first | exact Below.refl _ _ | apply BelowKit.bl_alloc | apply BelowKit.bl_drewN | apply BelowKit.bl_drew | (refine BelowKit.bl_set ?_ _ ?_; rotate_left; (first | omega | (simp; omega) | simp)) | (refine BelowKit.bl_trans ?_ (‹Hid (Below _ _ _)›).out)))⟩⟩
    simpa using Owns.made (f := fc) (c := 4) (w.alloc (.cells #[.int .i64 x.From, .int .i64 x.To, .int .i64 x.Percent, .bool x.Leave] 34)) (w.heap.size + 1) T (by simp)
  case round =>
    obtain ⟨j, bb, ys, hj, rfl, rfl, HI, HL⟩ := hrel
    obtain ⟨a, ca, rfl, _⟩ := HL.out.own.form fw
    obtain ⟨c0, c1, c2, c3, hlt0, _, _⟩ := HL.out
    by_cases hlt : j < m
    · have HLT := Lib.hid (show j < l.length by rw [HM.out]; exact hlt)
      have b1 : (0 : Int) ≤ (j : Int) := by omega
      have b2 : (j : Int) < (m : Int) := by omega
      have HJM := Lib.hid (show ys.length ≤ j + 1 ∧ j + 2 ≤ 1048576 + 2 by have := HI.out.2; refine ⟨?_, by omega⟩; rw [this]; split <;> omega)
      obtain ⟨g, o, rfl, hgw, _⟩ := read KK.out j HLT.out
      obtain ⟨g', o', e', hgl, q0, q1, q2, q3⟩ := read (KK.out.on HL.out.bel) j HLT.out
      cases e'
      obtain ⟨y, hy⟩ : ∃ y, l[j]'HLT.out = y := ⟨_, rfl⟩
      rw [hy] at q0 q1 q2 q3
      have HY := Lib.hid hy
      clear hy
      cases bb with
      | true =>
        have HI2 := Lib.hid (show InsTo l x (j + 1) true (ys ++ [y]) by have := insTo_behind HI.out HLT.out; rwa [HY.out] at this)
        go_wp2_with fail
        go_quiet (fail)
        generalize hw2 : wr.drewN _ = w2
        have HL2 := Lib.hid (show Lay w x w2 (.slice a ys.length ca) ys by rw [← hw2]; exact HL.out.on (below_drewN (Below.refl _ _) _))
        have s0 : w2.cell? ⟨g, o + j * 4, none⟩ = some (.int .i64 y.From) := by rw [← hw2]; exact q0
        have s1 : w2.cell? ⟨g, o + j * 4 + 1, none⟩ = some (.int .i64 y.To) := by rw [← hw2]; exact q1
        have s2 : w2.cell? ⟨g, o + j * 4 + 2, none⟩ = some (.int .i64 y.Percent) := by rw [← hw2]; exact q2
        have s3 : w2.cell? ⟨g, o + j * 4 + 3, none⟩ = some (.bool y.Leave) := by rw [← hw2]; exact q3
        clear hw2 HL q0 q1 q2 q3 c0 c1 c2 c3 hlt0
        go_wp2_with (at_builtin; refine Fresh.pause ?_)
        refine ⟨?_⟩
        refine wpList_appendN ft fw _ rfl (.tmp 32) (.tmp 37) rfl (w.heap.size + 1) _ ys rfl (HL2.out.own.alloc _) ⟨w2.heap.size, 0, none⟩ 1 1 [y] rfl rfl (newP w2 y _ rfl) (by have := HJM.out; simp; omega) (by have := HL2.out.lt; simp; omega) ?_
        intro v5 w5 hown5 hg5 _
        obtain ⟨p5, k5, rfl, _⟩ := hown5.form fw
        have hlen5 : (ys ++ [y]).length = ys.length + 1 := by simp
        rw [hlen5] at hown5
        have HL5 := Lib.hid (HL2.out.grow _ hown5 hg5)
        clear hown5 hg5 hlen5 HL2
        go_wp2
        go_roundw
        case rel => exact ⟨j + 1, true, _, by omega, by go_num, rfl, HI2, HL5⟩
        case measure => simp [intOf]; omega
      | false =>
        by_cases hx : x.From < y.From
        case neg =>
          have HI2 := Lib.hid (show InsTo l x (j + 1) false (ys ++ [y]) by have := insTo_on HI.out HLT.out (by rw [HY.out]; exact hx); rwa [HY.out] at this)
          have d1 : decide (x.From < y.From) = false := decide_eq_false hx
          go_wp2_with fail
          go_quiet (fail)
          generalize hw2 : wr.drewN _ = w2
          have HL2 := Lib.hid (show Lay w x w2 (.slice a ys.length ca) ys by rw [← hw2]; exact HL.out.on (below_drewN (Below.refl _ _) _))
          have s0 : w2.cell? ⟨g, o + j * 4, none⟩ = some (.int .i64 y.From) := by rw [← hw2]; exact q0
          have s1 : w2.cell? ⟨g, o + j * 4 + 1, none⟩ = some (.int .i64 y.To) := by rw [← hw2]; exact q1
          have s2 : w2.cell? ⟨g, o + j * 4 + 2, none⟩ = some (.int .i64 y.Percent) := by rw [← hw2]; exact q2
          have s3 : w2.cell? ⟨g, o + j * 4 + 3, none⟩ = some (.bool y.Leave) := by rw [← hw2]; exact q3
          clear hw2 HL q0 q1 q2 q3 c0 c1 c2 c3 hlt0
          clear d1
          go_wp2_with (at_builtin; refine Fresh.pause ?_)
          refine ⟨?_⟩
          refine wpList_appendN ft fw _ rfl (.tmp 32) (.tmp 37) rfl (w.heap.size + 1) _ ys rfl (HL2.out.own.alloc _) ⟨w2.heap.size, 0, none⟩ 1 1 [y] rfl rfl (newP w2 y _ rfl) (by have := HJM.out; simp; omega) (by have := HL2.out.lt; simp; omega) ?_
          intro v5 w5 hown5 hg5 _
          obtain ⟨p5, k5, rfl, _⟩ := hown5.form fw
          have hlen5 : (ys ++ [y]).length = ys.length + 1 := by simp
          rw [hlen5] at hown5
          have HL5 := Lib.hid (HL2.out.grow _ hown5 hg5)
          clear hown5 hg5 hlen5 HL2
          go_wp2
          go_roundw
          case rel => exact ⟨j + 1, false, _, by omega, by go_num, rfl, HI2, HL5⟩
          case measure => simp [intOf]; omega
        case pos =>
          have HI2 := Lib.hid (show InsTo l x (j + 1) true (ys ++ [x] ++ [y]) by have := insTo_put HI.out HLT.out (by rw [HY.out]; exact hx); rwa [HY.out] at this)
          have d1 : decide (x.From < y.From) = true := decide_eq_true hx
          go_wp2_with fail
          go_quiet (fail)
          generalize hw2 : wr.drewN _ = w2
          have HL2 := Lib.hid (show Lay w x w2 (.slice a ys.length ca) ys by rw [← hw2]; exact HL.out.on (below_drewN (Below.refl _ _) _))
          have s0 : w2.cell? ⟨g, o + j * 4, none⟩ = some (.int .i64 y.From) := by rw [← hw2]; exact q0
          have s1 : w2.cell? ⟨g, o + j * 4 + 1, none⟩ = some (.int .i64 y.To) := by rw [← hw2]; exact q1
          have s2 : w2.cell? ⟨g, o + j * 4 + 2, none⟩ = some (.int .i64 y.Percent) := by rw [← hw2]; exact q2
          have s3 : w2.cell? ⟨g, o + j * 4 + 3, none⟩ = some (.bool y.Leave) := by rw [← hw2]; exact q3
          clear hw2 HL q0 q1 q2 q3 c0 c1 c2 c3 hlt0
          clear d1
          obtain ⟨c0, c1, c2, c3, hlt0, _, _⟩ := HL2.out
          go_wp2_with (at_builtin; refine Fresh.pause ?_)
          refine ⟨?_⟩
          refine wpList_appendN ft fw _ rfl (.tmp 28) (.tmp 30) rfl (w.heap.size + 1) _ ys rfl (HL2.out.own.alloc _) ⟨w2.heap.size, 0, none⟩ 1 1 [x] rfl rfl (newP w2 x _ rfl) (by have := HJM.out; simp; omega) (by have := HL2.out.lt; simp; omega) ?_
          intro v4 w4 hown4 hg4 _
          obtain ⟨p4, k4, rfl, _⟩ := hown4.form fw
          have hlen4 : (ys ++ [x]).length = ys.length + 1 := by simp
          rw [hlen4] at hown4
          have HL4 := Lib.hid (HL2.out.grow _ hown4 hg4)
          have hgw' := hgw
          have HQ := Lib.hid (show Below (w.heap.size + 1) w2 w4 from ((Below.refl _ _).alloc (by omega) _).grown hg4 (by show _ ≤ (w2.heap.push _).size; simp; omega) (fun k hk => HL2.out.own.low k hk))
          have s0 := (HQ.out.cell (p := ⟨g, _, none⟩) (by show g < _; omega)).trans s0
          have s1 := (HQ.out.cell (p := ⟨g, _, none⟩) (by show g < _; omega)).trans s1
          have s2 := (HQ.out.cell (p := ⟨g, _, none⟩) (by show g < _; omega)).trans s2
          have s3 := (HQ.out.cell (p := ⟨g, _, none⟩) (by show g < _; omega)).trans s3
          clear c0 c1 c2 c3 hlt0 HQ
          clear hown4 hg4 hlen4 HL2
          go_wp2_with (at_builtin; refine Fresh.pause ?_)
          refine ⟨?_⟩
          refine wpList_appendN ft fw _ rfl (.tmp 32) (.tmp 37) rfl (w.heap.size + 1) _ (ys ++ [x]) rfl (HL4.out.own.alloc _) ⟨w4.heap.size, 0, none⟩ 1 1 [y] rfl rfl (newP w4 y _ rfl) (by have := HJM.out; simp; omega) (by have := HL4.out.lt; simp; omega) ?_
          intro v5 w5 hown5 hg5 _
          obtain ⟨p5, k5, rfl, _⟩ := hown5.form fw
          have hlen5 : ((ys ++ [x]) ++ [y]).length = ys.length + 1 + 1 := by simp
          rw [hlen5] at hown5
          have HL5 := Lib.hid (HL4.out.grow _ hown5 hg5)
          clear hown5 hg5 hlen5 HL4
          go_wp2
          go_roundw
          case rel => exact ⟨j + 1, true, _, by omega, by go_num, rfl, HI2, HL5⟩
          case measure => simp [intOf]; omega
    · obtain rfl : j = m := by omega
      have HJM := Lib.hid (show ys.length ≤ j + 1 ∧ j + 2 ≤ 1048576 + 2 by have := HI.out.2; refine ⟨?_, by omega⟩; rw [this]; split <;> omega)
      cases bb with
      | true =>
        have HNL := Lib.hid (show (ins l x).length = ys.length by rw [← insTo_end HI.out HM.out.symm])
        have HL9 := Lib.hid (show Lay w x wr (.slice a ys.length ca) (ins l x) by have := HL.out; rwa [insTo_end HI.out HM.out.symm] at this ⊢)
        clear HI HL HJM
        go_wp2_with fail
        refine (SpellS.ok_s _ p j cap l HM.out (by omega) (KK.out.on HL9.out.bel)).mono ?_
        rintro e w6 ⟨rfl, hb⟩
        have HL6 := Lib.hid (HL9.out.on hb)
        clear hb HL9
        obtain ⟨e1, he1⟩ : ∃ b, okB l = b := ⟨_, rfl⟩
        rw [he1]
        cases e1 with
        | false =>
          have E := Lib.hid (show R = (l, false) by rw [← HR.out]; exact added_no1 he1)
          clear he1
          go_wp2_with (at_builtin; refine Fresh.pause ?_)
          refine ⟨?_⟩
          refine wpList_append_readsN ft fw _ rfl (.tmp 53) (.tmp 54) rfl w6.heap.size (.slice (some ⟨w6.heap.size, 0, none⟩) 0 0) [] rfl (Owns.made w6 _ _ (Nat.le_refl _)) p cap j l HM.out rfl (KK.out.on (BelowKit.bl_alloc HL6.out.bel)) (by simp; omega) (by simp) ?_
          intro v8 w8 hown8 hg8 _
          obtain ⟨p8, k8, rfl, _⟩ := hown8.form fw
          have HB8 := Lib.hid (show Below w.heap.size w w8 from (BelowKit.bl_alloc HL6.out.bel).grown hg8 (by have := HL6.out.bel.size; simp; omega) (by have := HL6.out.bel.size; simp [Value.ownBlock]; omega))
          rw [List.nil_append] at hown8
          have HO8 := Lib.hid (hown8.base (B' := w.heap.size) HL6.out.bel.size)
          clear hown8 hg8 HL6
          go_wp2
          refine bodyPost_ret (v := .tuple #[.slice p8 l.length k8, .bool false]) (by simp [results, Try.results24, go_sem]) rfl ?_
          rw [E.out]
          exact ⟨_, _, rfl, HO8.out, HB8.out⟩
        | true =>
        have HE1 := Lib.hid he1
        clear he1
        go_wp2_with fail
        refine (SpellS.ok_s _ _ _ _ (ins l x) HNL.out (by have := ins_len l x; have := HM.out; have := HNL.out; omega) (reads_own fw HL6.out.own)).mono ?_
        rintro e w7 ⟨rfl, hb⟩
        have HL7 := Lib.hid (HL6.out.on hb)
        clear hb HL6
        obtain ⟨e2, he2⟩ : ∃ b, okB (ins l x) = b := ⟨_, rfl⟩
        rw [he2]
        cases e2 with
        | false =>
          have E := Lib.hid (show R = (l, false) by rw [← HR.out]; exact added_no2 he2)
          clear he2
          go_wp2_with (at_builtin; refine Fresh.pause ?_)
          refine ⟨?_⟩
          refine wpList_append_readsN ft fw _ rfl (.tmp 53) (.tmp 54) rfl w7.heap.size (.slice (some ⟨w7.heap.size, 0, none⟩) 0 0) [] rfl (Owns.made w7 _ _ (Nat.le_refl _)) p cap j l HM.out rfl (KK.out.on (BelowKit.bl_alloc HL7.out.bel)) (by simp; omega) (by simp) ?_
          intro v8 w8 hown8 hg8 _
          obtain ⟨p8, k8, rfl, _⟩ := hown8.form fw
          have HB8 := Lib.hid (show Below w.heap.size w w8 from (BelowKit.bl_alloc HL7.out.bel).grown hg8 (by have := HL7.out.bel.size; simp; omega) (by have := HL7.out.bel.size; simp [Value.ownBlock]; omega))
          rw [List.nil_append] at hown8
          have HO8 := Lib.hid (hown8.base (B' := w.heap.size) HL7.out.bel.size)
          clear hown8 hg8 HL7
          go_wp2
          refine bodyPost_ret (v := .tuple #[.slice p8 l.length k8, .bool false]) (by simp [results, Try.results24, go_sem]) rfl ?_
          rw [E.out]
          exact ⟨_, _, rfl, HO8.out, HB8.out⟩
        | true =>
          have E := Lib.hid (show R = (ins l x, true) by rw [← HR.out]; exact added_yes HE1.out he2)
          clear he2
          go_wp2
          refine bodyPost_ret (v := .tuple #[.slice a ys.length ca, .bool true]) (by simp [results, Try.results24, go_sem]) rfl ?_
          rw [E.out]
          exact ⟨_, _, by rw [HNL.out], by rw [HNL.out]; exact HL7.out.own.base (by omega), HL7.out.bel⟩
      | false =>
        go_wp2_with (at_builtin; refine Fresh.pause ?_)
        refine ⟨?_⟩
        refine wpList_appendN ft fw _ rfl (.tmp 41) (.tmp 43) rfl (w.heap.size + 1) _ ys rfl (HL.out.own.alloc _) ⟨wr.heap.size, 0, none⟩ 1 1 [x] rfl rfl (newP wr x _ rfl) (by have := HJM.out; simp; omega) (by have := HL.out.lt; simp; omega) ?_
        intro v9 w9 hown9 hg9 _
        obtain ⟨p9, k9, rfl, _⟩ := hown9.form fw
        have hlen9 : (ys ++ [x]).length = ys.length + 1 := by simp
        rw [hlen9] at hown9
        have HLX := Lib.hid (HL.out.grow _ hown9 hg9)
        clear hown9 hg9 hlen9 HL
        have HNL := Lib.hid (show (ins l x).length = ys.length + 1 by rw [← insTo_last HI.out HM.out.symm]; simp)
        have HL9 := Lib.hid (show Lay w x w9 (.slice p9 (ys.length + 1) k9) (ins l x) by have := HLX.out; rwa [insTo_last HI.out HM.out.symm] at this)
        clear HI HLX HJM
        go_wp2_with fail
        refine (SpellS.ok_s _ p j cap l HM.out (by omega) (KK.out.on HL9.out.bel)).mono ?_
        rintro e w6 ⟨rfl, hb⟩
        have HL6 := Lib.hid (HL9.out.on hb)
        clear hb HL9
        obtain ⟨e1, he1⟩ : ∃ b, okB l = b := ⟨_, rfl⟩
        rw [he1]
        cases e1 with
        | false =>
          have E := Lib.hid (show R = (l, false) by rw [← HR.out]; exact added_no1 he1)
          clear he1
          go_wp2_with (at_builtin; refine Fresh.pause ?_)
          refine ⟨?_⟩
          refine wpList_append_readsN ft fw _ rfl (.tmp 53) (.tmp 54) rfl w6.heap.size (.slice (some ⟨w6.heap.size, 0, none⟩) 0 0) [] rfl (Owns.made w6 _ _ (Nat.le_refl _)) p cap j l HM.out rfl (KK.out.on (BelowKit.bl_alloc HL6.out.bel)) (by simp; omega) (by simp) ?_
          intro v8 w8 hown8 hg8 _
          obtain ⟨p8, k8, rfl, _⟩ := hown8.form fw
          have HB8 := Lib.hid (show Below w.heap.size w w8 from (BelowKit.bl_alloc HL6.out.bel).grown hg8 (by have := HL6.out.bel.size; simp; omega) (by have := HL6.out.bel.size; simp [Value.ownBlock]; omega))
          rw [List.nil_append] at hown8
          have HO8 := Lib.hid (hown8.base (B' := w.heap.size) HL6.out.bel.size)
          clear hown8 hg8 HL6
          go_wp2
          refine bodyPost_ret (v := .tuple #[.slice p8 l.length k8, .bool false]) (by simp [results, Try.results24, go_sem]) rfl ?_
          rw [E.out]
          exact ⟨_, _, rfl, HO8.out, HB8.out⟩
        | true =>
        have HE1 := Lib.hid he1
        clear he1
        go_wp2_with fail
        refine (SpellS.ok_s _ _ _ _ (ins l x) HNL.out (by have := ins_len l x; have := HM.out; have := HNL.out; omega) (reads_own fw HL6.out.own)).mono ?_
        rintro e w7 ⟨rfl, hb⟩
        have HL7 := Lib.hid (HL6.out.on hb)
        clear hb HL6
        obtain ⟨e2, he2⟩ : ∃ b, okB (ins l x) = b := ⟨_, rfl⟩
        rw [he2]
        cases e2 with
        | false =>
          have E := Lib.hid (show R = (l, false) by rw [← HR.out]; exact added_no2 he2)
          clear he2
          go_wp2_with (at_builtin; refine Fresh.pause ?_)
          refine ⟨?_⟩
          refine wpList_append_readsN ft fw _ rfl (.tmp 53) (.tmp 54) rfl w7.heap.size (.slice (some ⟨w7.heap.size, 0, none⟩) 0 0) [] rfl (Owns.made w7 _ _ (Nat.le_refl _)) p cap j l HM.out rfl (KK.out.on (BelowKit.bl_alloc HL7.out.bel)) (by simp; omega) (by simp) ?_
          intro v8 w8 hown8 hg8 _
          obtain ⟨p8, k8, rfl, _⟩ := hown8.form fw
          have HB8 := Lib.hid (show Below w.heap.size w w8 from (BelowKit.bl_alloc HL7.out.bel).grown hg8 (by have := HL7.out.bel.size; simp; omega) (by have := HL7.out.bel.size; simp [Value.ownBlock]; omega))
          rw [List.nil_append] at hown8
          have HO8 := Lib.hid (hown8.base (B' := w.heap.size) HL7.out.bel.size)
          clear hown8 hg8 HL7
          go_wp2
          refine bodyPost_ret (v := .tuple #[.slice p8 l.length k8, .bool false]) (by simp [results, Try.results24, go_sem]) rfl ?_
          rw [E.out]
          exact ⟨_, _, rfl, HO8.out, HB8.out⟩
        | true =>
          have E := Lib.hid (show R = (ins l x, true) by rw [← HR.out]; exact added_yes HE1.out he2)
          clear he2
          go_wp2
          refine bodyPost_ret (v := .tuple #[.slice p9 (ys.length + 1) k9, .bool true]) (by simp [results, Try.results24, go_sem]) rfl ?_
          rw [E.out]
          exact ⟨_, _, by rw [HNL.out], by rw [HNL.out]; exact HL7.out.own.base (by omega), HL7.out.bel⟩
end Go.Proofs.Ytkoeodmneedjcaa.SpAddS

/- Contracts of the model's l10Rule, l10Copy and AddRule. -/
import Derived.Test.YtkfgflmhefbinaaRows
import Derived.Test.YtkfgflmhefbinaaRuleC
import Derived.Test.YtkfgflmhefbinaaBookS
import Derived.Test.YtkfgflmhefbinaaKit
namespace Go.Proofs.Ytkfgflmhefbinaa.AddS
open Go.RowKit RowN TRule BookMath BookLaws RuleRow Box TBook
set_option maxHeartbeats 8000000 in
theorem one_s (x : El) (w : World) (hs : x.r.Nodes.length ≤ 1099511627776) (h : Reads TNode.fc 6 w x.p x.r.Nodes) : Calls Try.prog 78 #[fv x] w (IsRule x.r w) := by
  obtain ⟨⟨x0, x1, x2, x3, x4, x5, l⟩, p, c⟩ := x
  have h1 : Reads TNode.fc 6 w p l := h
  have KK := Lib.hid h1
  clear h h1
  obtain ⟨m, hm⟩ : ∃ m, l.length = m := ⟨_, rfl⟩
  have HM := Lib.hid hm
  have hs' : m ≤ 1099511627776 := by rw [← hm]; exact hs
  show Calls Try.prog 78 #[.agg #[.int .i64 x0, .int .i64 x1, .int .i64 x2, .int .i64 x3, .int .i64 x4, .int .i64 x5, .slice p l.length c]] w (IsRule ⟨x0, x1, x2, x3, x4, x5, l⟩ w)
  rw [hm]
  clear hs hm
  go_enter Try.func78, Try.ntmps78
  obtain ⟨B0, hB0⟩ : ∃ B, w.heap.size = B := ⟨_, rfl⟩
  have HB0 := Lib.hid hB0
  obtain ⟨W, hW⟩ : ∃ W, W = ((w.alloc (.cells #[.int .i64 x0, .int .i64 x1, .int .i64 x2, .int .i64 x3, .int .i64 x4, .int .i64 x5, .slice p m c] 34)).alloc (.cells #[.int .i64 0, .int .i64 0, .int .i64 0, .int .i64 0, .int .i64 0, .int .i64 0, .slice none 0 0] 34)).alloc (.cells #[] 50) := ⟨_, rfl⟩
  have hbW : Below w.heap.size w W := by rw [hW]; (repeat (first | exact Below.refl _ _ | apply BelowKit.bl_alloc | apply BelowKit.bl_drewN | apply BelowKit.bl_drew | (refine BelowKit.bl_set ?_ _ ?_; rotate_left; (first | omega | (simp; omega) | simp)) | (refine BelowKit.bl_trans ?_ (‹Hid (Below _ _ _)›).out)))
  have hzW : W.heap.size = w.heap.size + 1 + 1 + 1 := by rw [hW]; simp
  have HOW := Lib.hid (show Owns TNode.fc 6 W (w.heap.size + 1 + 1) TNode.T (.slice (some ⟨w.heap.size + 1 + 1, 0, none⟩) 0 0) [] by
    rw [hW]
    have := Owns.made (f := TNode.fc) (c := 6) ((w.alloc (.cells #[.int .i64 x0, .int .i64 x1, .int .i64 x2, .int .i64 x3, .int .i64 x4, .int .i64 x5, .slice p m c] 34)).alloc (.cells #[.int .i64 0, .int .i64 0, .int .i64 0, .int .i64 0, .int .i64 0, .int .i64 0, .slice none 0 0] 34)) (w.heap.size + 1 + 1) TNode.T (by simp)
    simpa using this)
  have HC := Lib.hid (show ∀ W2 : World, Below (w.heap.size + 1 + 1) W W2 → ((W2.cell? ⟨w.heap.size, 0, none⟩ = some (.int .i64 x0) ∧ W2.cell? ⟨w.heap.size, 1, none⟩ = some (.int .i64 x1) ∧ W2.cell? ⟨w.heap.size, 2, none⟩ = some (.int .i64 x2) ∧ W2.cell? ⟨w.heap.size, 3, none⟩ = some (.int .i64 x3) ∧ W2.cell? ⟨w.heap.size, 4, none⟩ = some (.int .i64 x4) ∧ W2.cell? ⟨w.heap.size, 5, none⟩ = some (.int .i64 x5) ∧ W2.cell? ⟨w.heap.size, 6, none⟩ = some (.slice p m c) ∧ W2.frozen? ⟨w.heap.size, 6, none⟩ = false)) from fun W2 hb => by
    have k : ∀ o, W2.cell? ⟨w.heap.size, o, none⟩ = W.cell? ⟨w.heap.size, o, none⟩ := fun o => hb.cell (p := ⟨w.heap.size, o, none⟩) (by show w.heap.size < w.heap.size + 1 + 1; omega)
    have k2 : ∀ o, W2.frozen? ⟨w.heap.size, o, none⟩ = W.frozen? ⟨w.heap.size, o, none⟩ := fun o => hb.frozen (p := ⟨w.heap.size, o, none⟩) (by show w.heap.size < w.heap.size + 1 + 1; omega)
    refine ⟨(k 0).trans ?_, (k 1).trans ?_, (k 2).trans ?_, (k 3).trans ?_, (k 4).trans ?_, (k 5).trans ?_, (k 6).trans ?_, (k2 6).trans ?_⟩ <;> (rw [hW]; simp [go_sem]))
  have HD := Lib.hid (show ∀ W2 : World, Below (w.heap.size + 1 + 1) W W2 → ∀ o, o < 7 → (∃ v, W2.cell? ⟨w.heap.size + 1, o, none⟩ = some v ∧ v.oneCell' = true) ∧ W2.frozen? ⟨w.heap.size + 1, o, none⟩ = false from fun W2 hb o ho => by
    have k : W2.cell? ⟨w.heap.size + 1, o, none⟩ = W.cell? ⟨w.heap.size + 1, o, none⟩ := hb.cell (p := ⟨w.heap.size + 1, o, none⟩) (by show w.heap.size + 1 < w.heap.size + 1 + 1; omega)
    have k2 : W2.frozen? ⟨w.heap.size + 1, o, none⟩ = W.frozen? ⟨w.heap.size + 1, o, none⟩ := hb.frozen (p := ⟨w.heap.size + 1, o, none⟩) (by show w.heap.size + 1 < w.heap.size + 1 + 1; omega)
    rw [k, k2, hW]
    rcases (show o = 0 ∨ o = 1 ∨ o = 2 ∨ o = 3 ∨ o = 4 ∨ o = 5 ∨ o = 6 by omega) with rfl | rfl | rfl | rfl | rfl | rfl | rfl <;> exact ⟨⟨_, by simp [go_sem]; rfl, rfl⟩, by simp [go_sem]⟩)
  clear hB0
  go_wp2_with (at_builtin; refine Fresh.pause ?_)
  refine ⟨?_⟩
  rw [← hW]
  refine wpList_append_readsN TNode.ft TNode.fw _ (o := ⟨some 6, _, _, _, _, _⟩) rfl (.tmp 3) (.tmp 5) rfl (w.heap.size + 1 + 1) _ [] rfl HOW.out p c m l HM.out rfl (KK.out.on hbW) (by simp; omega) (by omega) ?_
  intro v' w1 hown hg _
  obtain ⟨p', c', rfl, _⟩ := hown.form TNode.fw
  rw [show ([] ++ l : List TNode.El) = l from rfl] at hown ⊢
  have hb1 : Below (w.heap.size + 1 + 1) W w1 := (Below.refl _ _).grown hg (by omega) (fun k hk => HOW.out.low k hk)
  obtain ⟨q0, q1, q2, q3, q4, q5, q6, r6⟩ := HC.out w1 hb1
  obtain ⟨⟨v0, s0, o0⟩, f0⟩ := HD.out w1 hb1 0 (by omega)
  obtain ⟨⟨v1, s1, o1⟩, f1⟩ := HD.out w1 hb1 1 (by omega)
  obtain ⟨⟨v2, s2, o2⟩, f2⟩ := HD.out w1 hb1 2 (by omega)
  obtain ⟨⟨v3, s3, o3⟩, f3⟩ := HD.out w1 hb1 3 (by omega)
  obtain ⟨⟨v4, s4, o4⟩, f4⟩ := HD.out w1 hb1 4 (by omega)
  obtain ⟨⟨v5, s5, o5⟩, f5⟩ := HD.out w1 hb1 5 (by omega)
  obtain ⟨⟨v6, s6, o6⟩, f6⟩ := HD.out w1 hb1 6 (by omega)
  have zz := hb1.size
  have z1 : w.heap.size + 1 < w1.heap.size := by omega
  have z2 : w.heap.size < w1.heap.size := by omega
  have HB := Lib.hid (show Below w.heap.size w w1 from hbW.trans (hb1.mono (by omega)))
  have HN1 := Lib.hid (show w.heap.size ≤ w.heap.size + 1 by omega)
  have HN2 := Lib.hid (Nat.le_refl w.heap.size)
  have HO := Lib.hid (hown.base (B' := w.heap.size) (by omega))
  have HO1 := Lib.hid (show (Value.slice p' l.length c').ownBlock ≠ some (w.heap.size + 1) from fun e => by have := hown.low _ e; omega)
  have HO2 := Lib.hid (show (Value.slice p' l.length c').ownBlock ≠ some w.heap.size from fun e => by have := hown.low _ e; omega)
  rw [HM.out] at HO HO1 HO2 ⊢
  have n1 : w.heap.size ≠ w.heap.size + 1 := by omega
  have n2 := n1.symm
  obtain ⟨B1, hB1⟩ : ∃ B, w.heap.size + 1 = B := ⟨_, rfl⟩
  rw [hB1] at s0 f0 s1 f1 s2 f2 s3 f3 s4 f4 s5 f5 s6 f6 z1 HN1 n1 n2 HO1 ⊢
  clear hown hg hb1 hbW hzW hW HC HD HOW zz hB1
  go_wp2
  refine bodyPost_ret (v := .agg #[.int .i64 x0, .int .i64 x1, .int .i64 x2, .int .i64 x3, .int .i64 x4, .int .i64 x5, .slice p' m c']) (by simp [results, Try.results78, go_sem, s0, s1, s2, s3, s4, s5, s6]) rfl ⟨p', c', ?_, ?_, ?_⟩
  · rw [← HM.out]; rfl
  · refine Own.ow_of ?_
    show Owns TNode.fc 6 _ _ _ (.slice p' l.length c') l
    rw [HM.out]
    exact (((((((HO.out.beside HO2.out _).beside HO1.out _).beside HO1.out _).beside HO1.out _).beside HO1.out _).beside HO1.out _).beside HO1.out _).beside HO1.out _
  · exact BelowKit.bl_set (BelowKit.bl_set (BelowKit.bl_set (BelowKit.bl_set (BelowKit.bl_set (BelowKit.bl_set (BelowKit.bl_set (BelowKit.bl_set (HB.out) (a := ⟨w.heap.size, 6, none⟩) _ HN2.out) (a := ⟨B1, 0, none⟩) _ HN1.out) (a := ⟨B1, 1, none⟩) _ HN1.out) (a := ⟨B1, 2, none⟩) _ HN1.out) (a := ⟨B1, 3, none⟩) _ HN1.out) (a := ⟨B1, 4, none⟩) _ HN1.out) (a := ⟨B1, 5, none⟩) _ HN1.out) (a := ⟨B1, 6, none⟩) _ HN1.out
theorem one_l (x0 x1 x2 x3 x4 x5 : Int) (p : Option Addr) (n c : Nat) (l : List TNode.El) (hn : l.length = n) (w : World) (hs : l.length ≤ 1099511627776) (h : Reads TNode.fc 6 w p l) :
    Calls Try.prog 78 #[.agg #[.int .i64 x0, .int .i64 x1, .int .i64 x2, .int .i64 x3, .int .i64 x4, .int .i64 x5, .slice p n c]] w (fun e w' => ∃ p' c', e = .returned (.agg #[.int .i64 x0, .int .i64 x1, .int .i64 x2, .int .i64 x3, .int .i64 x4, .int .i64 x5, .slice p' n c']) ∧ Own.Ow TNode.fc 6 TNode.T w' w.heap.size w'.heap.size (.slice p' n c') l ∧ Below w.heap.size w w') := by
  subst hn
  exact (one_s ⟨⟨x0, x1, x2, x3, x4, x5, l⟩, p, c⟩ w hs h).mono (fun _ _ ⟨p', c', e, ho, hb⟩ => ⟨p', c', e, ho, hb⟩)
abbrev boxed2 (w : World) (v u : Value) (T U : TypeId) : World := (w.alloc (.cells #[v] T)).alloc (.cells #[u] U)
theorem box2_cells {w wr : World} {v u : Value} {T U : TypeId} (hb : Below (boxed2 w v u T U).heap.size (boxed2 w v u T U) wr) :
    wr.cell? ⟨w.heap.size, 0, none⟩ = some v ∧ wr.cell? ⟨w.heap.size + 1, 0, none⟩ = some u ∧ w.heap.size + 1 + 1 ≤ wr.heap.size ∧ Below w.heap.size w wr ∧ wr.frozen? ⟨w.heap.size + 1, 0, none⟩ = false := by
  refine ⟨(hb.cell (p := ⟨w.heap.size, 0, none⟩) (by simp; omega)).trans (by simp [go_sem]), (hb.cell (p := ⟨w.heap.size + 1, 0, none⟩) (by simp)).trans (by simp [go_sem]), by have := hb.size; simpa using this,
    BelowKit.bl_trans (BelowKit.bl_alloc (BelowKit.bl_alloc (Below.refl _ _))) hb, (hb.frozen (p := ⟨w.heap.size + 1, 0, none⟩) (by simp)).trans (by simp [go_sem])⟩
theorem nest_nil (w : World) (lo : Nat) : Nest w lo w.heap.size (.slice none 0 0) [] :=
  ⟨Own.ow_of (Owns.nil _ _ _), fun j hj => by simp at hj, fun j hj => by simp at hj, fun i j hi => by simp at hi⟩
theorem map_snoc {rs : List Ru} {ys : List El} {j : Nat} {x : El} (h : ys.map (·.r) = rs.take j) (hj : j < rs.length) (hx : x.r = rs[j]) : (ys ++ [x]).map (·.r) = rs.take (j + 1) := by
  rw [List.map_append, h, List.take_succ_eq_append_getElem hj, ← hx]
  rfl
set_option maxHeartbeats 8000000 in
set_option maxRecDepth 100000 in
theorem copy_s (w : World) (a : Option Addr) (m cap : Nat) (rs : List Ru) (hm : rs.length = m) (hs : m ≤ 1099511627775) (hn : Few rs) (h : RdD w a rs) :
    Calls Try.prog 77 #[.agg #[.slice a m cap]] w (IsSto rs w) := by
  obtain ⟨xs, ex, h0⟩ := h
  have KK := Lib.hid h0
  have HX := Lib.hid ex
  have HXL := Lib.hid (show xs.length = m by rw [← hm, ← ex, List.length_map])
  have HM := Lib.hid hm
  have HN := Lib.hid hn
  clear h0 ex hm hn
  go_enter Try.func77, Try.ntmps77
  go_wp2
  go_loopw [4] (fun i wr => ∃ (j : Nat) (s : Value) (ys : List El), j ≤ m ∧ i = .int .i64 (j : Int) ∧ wr.cell? ⟨w.heap.size + 1 + 1, 0, none⟩ = some s ∧ wr.frozen? ⟨w.heap.size + 1 + 1, 0, none⟩ = false ∧ w.heap.size + 1 + 1 < wr.heap.size ∧
      Hid (ys.map (·.r) = rs.take j ∧ ys.length = j) ∧ Hid (Nest wr (w.heap.size + 1 + 1 + 1) wr.heap.size s ys) ∧ Hid (Below (boxed2 w (.slice a m cap) (.slice none 0 0) 26 26).heap.size (boxed2 w (.slice a m cap) (.slice none 0 0) 26 26) wr)) (fun i _ => m - (intOf i).toNat)
  case atStart =>
    exact ⟨0, .slice none 0 0, [], Nat.zero_le _, rfl, by simp [go_sem], by simp [go_sem], by simp, Lib.hid ⟨rfl, rfl⟩, Lib.hid (nest_nil _ _), Lib.hid ((Below.refl _ _).alloc (Nat.le_refl _) _)⟩
  case round =>
    obtain ⟨j, s, ys, hj, rfl, hsc, hsf, hsz, HY, HP, HB⟩ := hrel
    obtain ⟨hc0, hc1, hz, hbw, hf1⟩ := box2_cells HB.out
    by_cases hlt : j < m
    · have hjx : j < xs.length := by rw [HXL.out]; exact hlt
      have HJR := Lib.hid (show j < rs.length by rw [HM.out]; exact hlt)
      have hxr : xs[j].r = rs[j]'HJR.out := by have := HX.out; subst this; simp
      have HK2 := Lib.hid (KK.out.on hbw)
      obtain ⟨g, o, rfl, hgl, q0, q1, q2, q3, q4, q5, q6⟩ := read HK2.out.out j hjx
      have HI := Lib.hid (HK2.out.inn j hjx)
      have b1 : (0 : Int) ≤ (j : Int) := by omega
      have b2 : (j : Int) < (m : Int) := by omega
      have HXR := Lib.hid hxr
      have HL := Lib.hid (show xs[j].r.Nodes.length ≤ 1099511627776 by rw [hxr]; exact HN.out j HJR.out)
      obtain ⟨⟨⟨x0, x1, x2, x3, x4, x5, xl⟩, xp, xc⟩, hx⟩ : ∃ x, xs[j]'hjx = x := ⟨_, rfl⟩
      rw [hx] at q0 q1 q2 q3 q4 q5 q6 HI HXR HL
      simp only [] at q0 q1 q2 q3 q4 q5 q6 HXR HL HI
      have HYL := Lib.hid HY.out.2
      have HMS := Lib.hid (fun (p' : Option Addr) (c' : Nat) => map_snoc (x := ⟨⟨x0, x1, x2, x3, x4, x5, xl⟩, p', c'⟩) HY.out.1 HJR.out HXR.out)
      obtain ⟨xn, hxn⟩ : ∃ n, xl.length = n := ⟨_, rfl⟩
      have HXN := Lib.hid hxn
      rw [hxn] at q6
      have HONE := Lib.hid (one_l x0 x1 x2 x3 x4 x5 xp xn xc xl hxn wr.drew HL.out HI.out)
      have HF : Hid (∀ (p' : Option Addr) (c' : Nat) (w4 : World), Below wr.drew.heap.size wr.drew w4 → Own.Ow TNode.fc 6 TNode.T w4 wr.drew.heap.size w4.heap.size (.slice p' xn c') xl →
          w4.cell? ⟨w.heap.size + 1 + 1, 0, none⟩ = some s ∧ w.heap.size + 1 + 1 < w4.heap.size ∧ Owns fc 7 w4 (w.heap.size + 1 + 1 + 1) T s ys ∧
          ∀ (v' : Value) (w5 : World) (ob : Obj), Owns fc 7 w5 (w.heap.size + 1 + 1 + 1) T v' (ys ++ [⟨⟨x0, x1, x2, x3, x4, x5, xl⟩, p', c'⟩]) → (w4.alloc ob).grownBy w5 s.ownBlock → At (w4.alloc ob) s v' →
            w5.cell? ⟨w.heap.size + 1 + 1, 0, none⟩ = some s ∧ w5.frozen? ⟨w.heap.size + 1 + 1, 0, none⟩ = false ∧ w.heap.size + 1 + 1 < w5.heap.size ∧ Below (w.heap.size + 1 + 1) wr w5 ∧ Nest w5 (w.heap.size + 1 + 1 + 1) w5.heap.size v' (ys ++ [⟨⟨x0, x1, x2, x3, x4, x5, xl⟩, p', c'⟩])) := by
        refine Lib.hid fun p' c' w4 hb ho => ?_
        rw [← HXN.out] at ho
        have hb4 : Below wr.heap.size wr w4 := (below_drewN (Below.refl wr.heap.size wr) 1).trans hb
        have c4 := ((BelowKit.bcell hb4).1 _ 0 hsz).trans hsc
        have f4 := ((BelowKit.bcell hb4).2 _ 0 hsz).trans hsf
        have z4 := Nat.lt_of_lt_of_le hsz hb4.size
        have hN := HP.out.on hb4
        refine ⟨c4, z4, hN.out.own, fun v' w5 ob h5 hg ha => ?_⟩
        obtain ⟨hn5, hb5⟩ := grow_step (x := ⟨⟨x0, x1, x2, x3, x4, x5, xl⟩, p', c'⟩) hN (by omega) ho h5 ob hg ha
        refine ⟨(hb5.cell (p := ⟨w.heap.size + 1 + 1, 0, none⟩) (by show w.heap.size + 1 + 1 < _; omega)).trans c4, (hb5.frozen (p := ⟨w.heap.size + 1 + 1, 0, none⟩) (by show w.heap.size + 1 + 1 < _; omega)).trans f4, Nat.lt_of_lt_of_le z4 hb5.size, (hb4.mono (by omega)).trans (hb5.mono (by omega)), hn5⟩
      clear hx hxr hxn hjx hbw HK2 HI HP HY hf1 hc1
      go_wp2_with fail
      go_region_law (first
        | ((refine Fresh.step_call #[.agg #[.int .i64 x0, .int .i64 x1, .int .i64 x2, .int .i64 x3, .int .i64 x4, .int .i64 x5, .slice xp xn xc]] Try.func78 (by kernel_rfl) (by kernel_rfl) rfl ?_; refine HONE.out.mono ?_; rintro e w4 ⟨p', c', rfl, ho, hb⟩; refine ⟨_, rfl, ?_⟩; obtain ⟨v2, v3, HO4, h5⟩ := HF.out p' c' w4 hb ho; have H5 := Lib.hid h5; have HO4' := Lib.hid HO4; clear h5 HO4 ho hb))
        | ((refine step_appendN ft fw _ (o := ⟨some 22, _, _, _, _, _⟩) rfl (.tmp 14) (.tmp 21) rfl (w.heap.size + 1 + 1 + 1) s ys rfl (HO4'.out.alloc _) ⟨w4.heap.size, 0, none⟩ 1 1 [⟨⟨x0, x1, x2, x3, x4, x5, xl⟩, p', c'⟩] rfl rfl (newL w4 x0 x1 x2 x3 x4 x5 p' xn c' xl HXN.out _ rfl) ?_ ?_ ?_; (rw [HYL.out]; simp; omega); (simp; omega); intro v' w5 hown5 hg5 ha5; obtain ⟨p9, c9, rfl, _⟩ := hown5.form fw; obtain ⟨s2, s3, s4, s5, s6⟩ := H5.out _ _ _ hown5 hg5 ha5)))
      all_goals
        have hlen : (ys ++ [(⟨⟨x0, x1, x2, x3, x4, x5, xl⟩, p', c'⟩ : El)]).length = ys.length + 1 := by simp
        rw [hlen] at s6
        have HP' := Lib.hid (s6.box (b := w.heap.size + 1 + 1) (o := 0) (.inl (by omega)) (.slice p9 (ys.length + 1) c9))
        have HB' := Lib.hid ((HB.out.trans (s5.mono (by simp))).setCell (p := ⟨w.heap.size + 1 + 1, 0, none⟩) (by simp) (.slice p9 (ys.length + 1) c9))
        have e1 : (w5.setCell ⟨w.heap.size + 1 + 1, 0, none⟩ (.slice p9 (ys.length + 1) c9)).cell? ⟨w.heap.size + 1 + 1, 0, none⟩ = some (.slice p9 (ys.length + 1) c9) := by simp [go_sem, s2]
        have e2 : (w5.setCell ⟨w.heap.size + 1 + 1, 0, none⟩ (.slice p9 (ys.length + 1) c9)).frozen? ⟨w.heap.size + 1 + 1, 0, none⟩ = false := by simp [go_sem, s3]
        have e3 : w.heap.size + 1 + 1 < (w5.setCell ⟨w.heap.size + 1 + 1, 0, none⟩ (.slice p9 (ys.length + 1) c9)).heap.size := by simp; omega
        have HY' := Lib.hid (And.intro (HMS.out p' c') (hlen.trans (congrArg (· + 1) HYL.out)))
        clear hown5 hg5 ha5 H5 HF HONE s2 s3 s4 s5 s6 hlen
        go_wp2
        go_roundw
        case rel => exact ⟨j + 1, _, _, by omega, by go_num, e1, e2, e3, HY', by simpa using HP', HB'⟩
        case measure => simp [intOf]; omega
    · obtain rfl : j = m := by omega
      have hO := HP.out.out.own
      obtain ⟨a', c', rfl, _⟩ := hO.form fw
      have HOD := Lib.hid (show OwD wr (w.heap.size + 1 + 1 + 1) wr.heap.size (.slice a' ys.length c') rs from ⟨ys, by rw [HY.out.1, List.take_of_length_le (by rw [HM.out]; exact Nat.le_refl _)], HP.out⟩)
      rw [HY.out.2] at HOD hsc
      have HBW := Lib.hid hbw
      clear hO HP hbw
      go_wp2
      refine bodyPost_ret (v := .agg #[.slice a' j c']) (by simp [results, Try.results77, hc1, go_sem]) rfl ⟨a', c', by rw [HM.out], ?_, ?_⟩
      · rw [HM.out]
        have e : ∀ (W : World) (a : Addr) (u : Value), (W.setCell a u).heap.size = W.heap.size := fun W a u => by simp
        rw [e]
        exact (HOD.out.box (b := w.heap.size + 1) (o := 0) (.inl (by omega)) _).base (by omega)
      · exact HBW.out.setCell (p := ⟨w.heap.size + 1, 0, none⟩) (by simp) _
set_option maxHeartbeats 16000000 in
set_option maxRecDepth 100000 in
theorem add_s (w : World) (a : Option Addr) (m cap : Nat) (rs : List Ru) (x : El) (hm : rs.length = m) (hs : m ≤ 1048576) (hn : Few rs) (hx : x.r.Nodes.length ≤ 1099511627776) (h : RdD w a rs) (hr : Reads TNode.fc 6 w x.p x.r.Nodes) :
    Calls Try.prog 37 #[.agg #[.slice a m cap], fv x] w (IsAdd (added rs x.r).1 (added rs x.r).2 w) := by
  obtain ⟨⟨x0, x1, x2, x3, x4, x5, xl⟩, xp, xc⟩ := x
  have KK := Lib.hid h
  have KY := Lib.hid (show Reads TNode.fc 6 w xp xl from hr)
  have HM := Lib.hid hm
  have HN := Lib.hid hn
  have HXB := Lib.hid (show xl.length ≤ 1099511627776 from hx)
  obtain ⟨R, hR⟩ : ∃ R : Ru, ⟨x0, x1, x2, x3, x4, x5, xl⟩ = R := ⟨_, rfl⟩
  have HRR := Lib.hid hR
  have HN2 := Lib.hid (show Few (rs ++ [R]) by rw [← hR]; exact few_snoc hn hx)
  have HL := Lib.hid (show (rs ++ [R]).length = m + 1 by have := hm; simp; omega)
  obtain ⟨b0, hb0⟩ : ∃ b, bookB rs = b := ⟨_, rfl⟩
  have HB0 := Lib.hid hb0
  obtain ⟨b, hb⟩ : ∃ b, bookB (rs ++ [R]) = b := ⟨_, rfl⟩
  have HBK := Lib.hid hb
  have HY1 := Lib.hid (fun e => added_yes (rs := rs) (r := R) e)
  have HY2 := Lib.hid (fun e => added_no (rs := rs) (r := R) e)
  have HY3 := Lib.hid (fun e => added_no1 (rs := rs) (r := R) e)
  obtain ⟨xn, hxn⟩ : ∃ n, xl.length = n := ⟨_, rfl⟩
  have HXN := Lib.hid hxn
  obtain ⟨A, hA⟩ : ∃ A, added rs R = A := ⟨_, rfl⟩
  have HA := Lib.hid hA
  show Calls Try.prog 37 #[.agg #[.slice a m cap], .agg #[.int .i64 x0, .int .i64 x1, .int .i64 x2, .int .i64 x3, .int .i64 x4, .int .i64 x5, .slice xp xl.length xc]] w (IsAdd (added rs ⟨x0, x1, x2, x3, x4, x5, xl⟩).1 (added rs ⟨x0, x1, x2, x3, x4, x5, xl⟩).2 w)
  rw [hR, hA, hxn]
  clear h hr hm hn hx hb hb0 hxn hA hR
  go_enter Try.func37, Try.ntmps37
  go_wp2_with fail
  refine (copy_s _ a m cap rs HM.out (by omega) HN.out (KK.out.on (by (repeat (first | exact Below.refl _ _ | apply BelowKit.bl_alloc | apply BelowKit.bl_drewN | apply BelowKit.bl_drew | (refine BelowKit.bl_set ?_ _ ?_; rotate_left; (first | omega | (simp; omega) | simp)) | (refine BelowKit.bl_trans ?_ (‹Hid (Below _ _ _)›).out)))))).mono ?_
  rintro e w1 ⟨p, c, rfl, ho, hb⟩
  rw [HM.out] at ho ⊢
  obtain ⟨ys, ey, hne⟩ := ho
  have HYS := Lib.hid ey
  have HYL := Lib.hid (show ys.length = m by rw [← HM.out, ← ey, List.length_map])
  have hw3 : ((((w.alloc (.cells #[.slice a m cap] 26)).alloc (.cells #[.int .i64 x0, .int .i64 x1, .int .i64 x2, .int .i64 x3, .int .i64 x4, .int .i64 x5, .slice xp xn xc] 34)).alloc (.cells #[.slice none 0 0] 26)).heap.size) = w.heap.size + 1 + 1 + 1 := by simp
  rw [hw3] at hne
  have c0 : w1.cell? ⟨w.heap.size, 0, none⟩ = some (.slice a m cap) := ((BelowKit.bcell hb).1 _ _ (by simp; omega)).trans (by simp [go_sem])
  have k0 : w1.cell? ⟨w.heap.size + 1, 0, none⟩ = some (.int .i64 x0) := ((BelowKit.bcell hb).1 _ _ (by simp)).trans (by simp [go_sem])
  have k1 : w1.cell? ⟨w.heap.size + 1, 1, none⟩ = some (.int .i64 x1) := ((BelowKit.bcell hb).1 _ _ (by simp)).trans (by simp [go_sem])
  have k2 : w1.cell? ⟨w.heap.size + 1, 2, none⟩ = some (.int .i64 x2) := ((BelowKit.bcell hb).1 _ _ (by simp)).trans (by simp [go_sem])
  have k3 : w1.cell? ⟨w.heap.size + 1, 3, none⟩ = some (.int .i64 x3) := ((BelowKit.bcell hb).1 _ _ (by simp)).trans (by simp [go_sem])
  have k4 : w1.cell? ⟨w.heap.size + 1, 4, none⟩ = some (.int .i64 x4) := ((BelowKit.bcell hb).1 _ _ (by simp)).trans (by simp [go_sem])
  have k5 : w1.cell? ⟨w.heap.size + 1, 5, none⟩ = some (.int .i64 x5) := ((BelowKit.bcell hb).1 _ _ (by simp)).trans (by simp [go_sem])
  have k6 : w1.cell? ⟨w.heap.size + 1, 6, none⟩ = some (.slice xp xn xc) := ((BelowKit.bcell hb).1 _ _ (by simp)).trans (by simp [go_sem])
  have c2 : w1.cell? ⟨w.heap.size + 1 + 1, 0, none⟩ = some (.slice none 0 0) := ((BelowKit.bcell hb).1 _ _ (by simp)).trans (by simp [go_sem])
  have f2 : w1.frozen? ⟨w.heap.size + 1 + 1, 0, none⟩ = false := ((BelowKit.bcell hb).2 _ _ (by simp)).trans (by simp [go_sem])
  have z1 : w.heap.size + 1 + 1 < w1.heap.size := by have := hb.size; simp at this; omega
  have HBW := Lib.hid (show Below w.heap.size w w1 from BelowKit.bl_trans (by (repeat (first | exact Below.refl _ _ | apply BelowKit.bl_alloc | apply BelowKit.bl_drewN | apply BelowKit.bl_drew | (refine BelowKit.bl_set ?_ _ ?_; rotate_left; (first | omega | (simp; omega) | simp)) | (refine BelowKit.bl_trans ?_ (‹Hid (Below _ _ _)›).out)))) hb)
  obtain ⟨V, hV⟩ : ∃ V, V = w1.alloc (.cells #[.slice p m c] 26) := ⟨_, rfl⟩
  have hbV : Below w1.heap.size w1 V := by rw [hV]; exact BelowKit.bl_alloc (Below.refl _ _)
  have HVN := Lib.hid (hne.on hbV)
  have g0 : V.cell? ⟨w1.heap.size, 0, none⟩ = some (.slice p m c) := by rw [hV]; simp [go_sem]
  have g1 : V.frozen? ⟨w1.heap.size, 0, none⟩ = false := by rw [hV]; simp [go_sem]
  have zV : V.heap.size = w1.heap.size + 1 := by rw [hV]; simp
  have kk : ∀ o b, b < w1.heap.size → V.cell? ⟨b, o, none⟩ = w1.cell? ⟨b, o, none⟩ := fun o b h => (BelowKit.bcell hbV).1 _ _ h
  have y0 := (kk 0 (w.heap.size + 1) (by omega)).trans k0
  have y1 := (kk 1 (w.heap.size + 1) (by omega)).trans k1
  have y2 := (kk 2 (w.heap.size + 1) (by omega)).trans k2
  have y3 := (kk 3 (w.heap.size + 1) (by omega)).trans k3
  have y4 := (kk 4 (w.heap.size + 1) (by omega)).trans k4
  have y5 := (kk 5 (w.heap.size + 1) (by omega)).trans k5
  have y6 := (kk 6 (w.heap.size + 1) (by omega)).trans k6
  have HC0 := Lib.hid (show V.cell? ⟨w.heap.size, 0, none⟩ = some (.slice a m cap) ∧ V.cell? ⟨w.heap.size + 1 + 1, 0, none⟩ = some (.slice none 0 0) ∧ V.frozen? ⟨w.heap.size + 1 + 1, 0, none⟩ = false from
    ⟨(kk 0 w.heap.size (by omega)).trans c0, (kk 0 (w.heap.size + 1 + 1) (by omega)).trans c2, ((BelowKit.bcell hbV).2 _ _ z1).trans f2⟩)
  have HBV := Lib.hid (BelowKit.bl_trans HBW.out hbV)
  have HONE := Lib.hid (one_l x0 x1 x2 x3 x4 x5 xp xn xc xl HXN.out V.drew HXB.out (KY.out.on (below_drewN HBV.out 1)))
  have zz1 : w.heap.size + 1 + 1 < V.heap.size := by omega
  have zz2 : w1.heap.size < V.heap.size := by omega
  have zz3 : w.heap.size + 1 < V.heap.size := by omega
  have HF : Hid (∀ (p' : Option Addr) (c' : Nat) (w4 : World), Below V.drew.heap.size V.drew w4 → Own.Ow TNode.fc 6 TNode.T w4 V.drew.heap.size w4.heap.size (.slice p' xn c') xl →
      w4.cell? ⟨w1.heap.size, 0, none⟩ = some (.slice p m c) ∧ w1.heap.size < w4.heap.size ∧ Owns fc 7 w4 (w.heap.size + 1 + 1 + 1) T (.slice p m c) ys ∧
      ∀ (v' : Value) (w5 : World) (ob : Obj), Owns fc 7 w5 (w.heap.size + 1 + 1 + 1) T v' (ys ++ [⟨⟨x0, x1, x2, x3, x4, x5, xl⟩, p', c'⟩]) → (w4.alloc ob).grownBy w5 (Value.slice p m c).ownBlock → At (w4.alloc ob) (.slice p m c) v' →
        w5.cell? ⟨w1.heap.size, 0, none⟩ = some (.slice p m c) ∧ w5.frozen? ⟨w1.heap.size, 0, none⟩ = false ∧ w1.heap.size < w5.heap.size ∧ Below (w.heap.size + 1 + 1 + 1) V w5 ∧ Nest w5 (w.heap.size + 1 + 1 + 1) w5.heap.size v' (ys ++ [⟨⟨x0, x1, x2, x3, x4, x5, xl⟩, p', c'⟩]) ∧ (∀ k, v'.ownBlock = some k → k ≠ w1.heap.size) ∧ (∀ i (h : i < (ys ++ [(⟨⟨x0, x1, x2, x3, x4, x5, xl⟩, p', c'⟩ : El)]).length) k, (sl (ys ++ [(⟨⟨x0, x1, x2, x3, x4, x5, xl⟩, p', c'⟩ : El)])[i]).ownBlock = some k → k ≠ w1.heap.size)) := by
    refine Lib.hid fun p' c' w4 hb ho => ?_
    rw [← HXN.out] at ho
    have hb4 : Below V.heap.size V w4 := (below_drewN (Below.refl V.heap.size V) 1).trans hb
    have c4 := ((BelowKit.bcell hb4).1 _ 0 zz2).trans g0
    have f4 := ((BelowKit.bcell hb4).2 _ 0 zz2).trans g1
    have z4 := Nat.lt_of_lt_of_le zz2 hb4.size
    have hN := HVN.out.on hb4
    have hN' := hN.up (hi' := V.heap.size) (by omega) hb4.size
    refine ⟨c4, z4, hN.out.own, fun v' w5 ob h5 hg ha => ?_⟩
    obtain ⟨hn5, hb5⟩ := grow_step (x := ⟨⟨x0, x1, x2, x3, x4, x5, xl⟩, p', c'⟩) hN' (by omega) ho h5 ob hg ha
    have e5 : w5.heap[w1.heap.size]? = w4.heap[w1.heap.size]? := by
      have q1 : (w4.alloc ob).heap[w1.heap.size]? = w4.heap[w1.heap.size]? := (BelowKit.bl_alloc (o := ob) (Below.refl w4.heap.size w4)).block _ z4
      rw [← q1]
      exact hg.block _ (by simp; omega) (fun e => by have := hN.out.top _ e.symm; omega)
    refine ⟨(World.cell?_of_block e5).trans c4, (World.frozen?_of_block e5).trans f4, Nat.lt_of_lt_of_le z4 hb5.size, (hb4.mono (by omega)).trans hb5, hn5, fun k hk e => ?_, fun i hi k hk e => ?_⟩
    · rcases ha k hk with q | q
      · have := hN.out.top k q; omega
      · simp at q; omega
    · by_cases h9 : i < ys.length
      · rw [List.getElem_append_left h9] at hk
        have := (hN.inn i h9).top k hk
        omega
      · obtain rfl : i = ys.length := by simp at hi; omega
        simp at hk
        have := ho.own.low k hk
        have e9 : V.drew.heap.size = V.heap.size := rfl
        omega
  clear hb hne hbV c0 k0 k1 k2 k3 k4 k5 k6 c2 f2 kk ey hw3
  go_wp2_with fail
  rw [← hV]
  clear hV
  go_region_law (first
    | ((refine Fresh.step_call #[.agg #[.int .i64 x0, .int .i64 x1, .int .i64 x2, .int .i64 x3, .int .i64 x4, .int .i64 x5, .slice xp xn xc]] Try.func78 (by kernel_rfl) (by kernel_rfl) rfl ?_; refine HONE.out.mono ?_; rintro e w4 ⟨p', c', rfl, ho, hb⟩; refine ⟨_, rfl, ?_⟩; obtain ⟨v2, v3, HO4, h5⟩ := HF.out p' c' w4 hb ho; have H5 := Lib.hid h5; have HO4' := Lib.hid HO4; clear h5 HO4 ho hb))
    | ((refine step_appendN ft fw _ (o := ⟨some 14, _, _, _, _, _⟩) rfl (.tmp 10) (.tmp 13) rfl (w.heap.size + 1 + 1 + 1) (.slice p m c) ys rfl (HO4'.out.alloc _) ⟨w4.heap.size, 0, none⟩ 1 1 [⟨⟨x0, x1, x2, x3, x4, x5, xl⟩, p', c'⟩] rfl rfl (newL w4 x0 x1 x2 x3 x4 x5 p' xn c' xl HXN.out _ rfl) ?_ ?_ ?_; (rw [HYL.out]; simp; omega); (simp; omega); intro v' w5 hown5 hg5 ha5; obtain ⟨p9, c9, rfl, _⟩ := hown5.form fw; obtain ⟨s2, s3, s4, s5, s6, s7, s8⟩ := H5.out _ _ _ hown5 hg5 ha5)))
  all_goals
    have hlen : (ys ++ [(⟨⟨x0, x1, x2, x3, x4, x5, xl⟩, p', c'⟩ : El)]).length = ys.length + 1 := by simp
    rw [hlen] at s6 s7
    rw [HYL.out] at s6 s7 ⊢
    obtain ⟨W, hW⟩ : ∃ W, W = w5.setCell ⟨w1.heap.size, 0, none⟩ (.slice p9 (m + 1) c9) := ⟨_, rfl⟩
    rw [← hW]
    have t0 : W.cell? ⟨w1.heap.size, 0, none⟩ = some (.slice p9 (m + 1) c9) := by rw [hW]; simp [go_sem, s2]
    have hbW5 : Below (w.heap.size + 1 + 1 + 1) V W := by rw [hW]; exact s5.setCell (p := ⟨w1.heap.size, 0, none⟩) (by show _ ≤ w1.heap.size; omega) _
    have t1 := (hbW5.cell (p := ⟨w.heap.size, 0, none⟩) (by show w.heap.size < _; omega)).trans HC0.out.1
    have t2 := (hbW5.cell (p := ⟨w.heap.size + 1 + 1, 0, none⟩) (by show w.heap.size + 1 + 1 < _; omega)).trans HC0.out.2.1
    have t3 := (hbW5.frozen (p := ⟨w.heap.size + 1 + 1, 0, none⟩) (by show w.heap.size + 1 + 1 < _; omega)).trans HC0.out.2.2
    have hWz : W.heap.size = w5.heap.size := by rw [hW]; simp
    have t4 : w1.heap.size < W.heap.size := by omega
    have t5 : w.heap.size + 1 + 1 < W.heap.size := by omega
    have HP' := Lib.hid (show OwD W (w.heap.size + 1 + 1 + 1) W.heap.size (.slice p9 (m + 1) c9) (rs ++ [R]) from ⟨ys ++ [⟨⟨x0, x1, x2, x3, x4, x5, xl⟩, p', c'⟩], by rw [List.map_append, HYS.out, ← HRR.out]; rfl, by
      rw [hWz, hW]
      exact Nest.beside s6 (fun e => s7 _ e rfl) (fun i hi e => s8 i hi _ e rfl) _⟩)
    have HBW' := Lib.hid (show Below w.heap.size w W from HBV.out.trans (hbW5.mono (by omega)))
    clear hown5 hg5 ha5 H5 HF HONE s2 s3 s4 s5 s6 s7 s8 hlen hbW5 HC0 hW hWz g0 g1 y0 y1 y2 y3 y4 y5 y6 v2 v3 HO4' zz1 zz2 zz3 zV z1
    go_wp2_with fail
    refine (BookS.book_s _ a m cap rs HM.out (by omega) HN.out (KK.out.on HBW'.out)).mono ?_
    rintro e wa ⟨rfl, hb⟩
    rw [HB0.out]
    have t0' := ((BelowKit.bcell hb).1 _ 0 t4).trans t0
    have t1' := ((BelowKit.bcell hb).1 _ 0 (show w.heap.size < W.heap.size by omega)).trans t1
    have t2' := ((BelowKit.bcell hb).1 _ 0 t5).trans t2
    have t3' := ((BelowKit.bcell hb).2 _ 0 t5).trans t3
    have t4' := Nat.lt_of_lt_of_le t4 hb.size
    have t5' := Nat.lt_of_lt_of_le t5 hb.size
    have HPa := Lib.hid ((HP'.out.on hb).up hb.size (Nat.le_refl _))
    have HBa := Lib.hid (BelowKit.bl_trans HBW'.out hb)
    clear hb t0 t1 t2 t3 t4 t5 HP' HBW'
    cases b0 with
    | false =>
      have E := Lib.hid (show A = (rs, false) by rw [← HA.out]; exact HY3.out HB0.out)
      clear HY1 HY2 HY3
      go_wp2_with fail
      refine (copy_s _ a m cap rs HM.out (by omega) HN.out (KK.out.on HBa.out)).mono ?_
      rintro e wb ⟨p5, c5, rfl, ho, hb⟩
      rw [HM.out] at ho ⊢
      have u2 := ((BelowKit.bcell hb).1 _ 0 t5').trans t2'
      have u3 := ((BelowKit.bcell hb).2 _ 0 t5').trans t3'
      have u5 := Nat.lt_of_lt_of_le t5' hb.size
      have HBb := Lib.hid (BelowKit.bl_trans HBa.out hb)
      have HO := Lib.hid (OwD.base (ho.box (b := w.heap.size + 1 + 1) (o := 0) (.inl (by omega)) (.slice p5 m c5)) (show w.heap.size ≤ wa.heap.size by omega))
      clear hb ho
      go_wp2
      refine bodyPost_ret (v := .tuple #[.agg #[.slice p5 m c5], .bool false]) (by simp [results, Try.results37, go_sem, u2]) rfl ⟨p5, c5, ?_, ?_, ?_⟩
      · rw [E.out, HM.out]
      · rw [E.out]
        simp only [HM.out]
        have e : ∀ (W : World) (a : Addr) (u : Value), (W.setCell a u).heap.size = W.heap.size := fun W a u => by simp
        rw [e]
        exact HO.out
      · exact HBb.out.setCell (p := ⟨w.heap.size + 1 + 1, 0, none⟩) (by show w.heap.size ≤ w.heap.size + 1 + 1; omega) _
    | true =>
    go_wp2_with fail
    refine (BookS.book_s _ p9 (m + 1) c9 (rs ++ [R]) HL.out (by omega) HN2.out HPa.out.reads).mono ?_
    rintro e wb ⟨rfl, hb⟩
    rw [HBK.out]
    have t0 := ((BelowKit.bcell hb).1 _ 0 t4').trans t0'
    have t1 := ((BelowKit.bcell hb).1 _ 0 (show w.heap.size < wa.heap.size by omega)).trans t1'
    have t2 := ((BelowKit.bcell hb).1 _ 0 t5').trans t2'
    have t3 := ((BelowKit.bcell hb).2 _ 0 t5').trans t3'
    have t4 := Nat.lt_of_lt_of_le t4' hb.size
    have t5 := Nat.lt_of_lt_of_le t5' hb.size
    have HPb := Lib.hid ((HPa.out.on hb).up hb.size (Nat.le_refl _))
    have HBb := Lib.hid (BelowKit.bl_trans HBa.out hb)
    clear hb t0' t1' t2' t3' t4' t5' HPa HBa
    cases b with
    | false =>
      have E := Lib.hid (show A = (rs, false) by rw [← HA.out]; exact HY2.out HBK.out)
      clear HY1 HY2 HY3
      go_wp2_with fail
      refine (copy_s _ a m cap rs HM.out (by omega) HN.out (KK.out.on HBb.out)).mono ?_
      rintro e wc ⟨p5, c5, rfl, ho, hb⟩
      rw [HM.out] at ho ⊢
      have u2 := ((BelowKit.bcell hb).1 _ 0 t5).trans t2
      have u3 := ((BelowKit.bcell hb).2 _ 0 t5).trans t3
      have u5 := Nat.lt_of_lt_of_le t5 hb.size
      have HBc := Lib.hid (BelowKit.bl_trans HBb.out hb)
      have HO := Lib.hid (OwD.base (ho.box (b := w.heap.size + 1 + 1) (o := 0) (.inl (by omega)) (.slice p5 m c5)) (show w.heap.size ≤ wb.heap.size by omega))
      clear hb ho
      go_wp2
      refine bodyPost_ret (v := .tuple #[.agg #[.slice p5 m c5], .bool false]) (by simp [results, Try.results37, go_sem, u2]) rfl ⟨p5, c5, ?_, ?_, ?_⟩
      · rw [E.out, HM.out]
      · rw [E.out]
        simp only [HM.out]
        have e : ∀ (W : World) (a : Addr) (u : Value), (W.setCell a u).heap.size = W.heap.size := fun W a u => by simp
        rw [e]
        exact HO.out
      · exact HBc.out.setCell (p := ⟨w.heap.size + 1 + 1, 0, none⟩) (by show w.heap.size ≤ w.heap.size + 1 + 1; omega) _
    | true =>
      have E := Lib.hid (show A = (rs ++ [R], true) by rw [← HA.out]; exact HY1.out HBK.out)
      clear HY1 HY2 HY3
      go_wp2
      refine bodyPost_ret (v := .tuple #[.agg #[.slice p9 (m + 1) c9], .bool true]) (by simp [results, Try.results37, go_sem, t2]) rfl ⟨p9, c9, ?_, ?_, ?_⟩
      · rw [E.out, HL.out]
      · rw [E.out]
        simp only [HL.out]
        have e : ∀ (W : World) (a : Addr) (u : Value), (W.setCell a u).heap.size = W.heap.size := fun W a u => by simp
        rw [e]
        exact (HPb.out.box (b := w.heap.size + 1 + 1) (o := 0) (.inl (by omega)) _).base (by omega)
      · exact HBb.out.setCell (p := ⟨w.heap.size + 1 + 1, 0, none⟩) (by show w.heap.size ≤ w.heap.size + 1 + 1; omega) _
theorem add_l (w : World) (a : Option Addr) (m cap : Nat) (rs : List Ru) (x0 x1 x2 x3 x4 x5 : Int) (p : Option Addr) (n c : Nat) (l : List TNode.El) (hm : rs.length = m) (hs : m ≤ 1048576) (hn : Few rs) (hl : l.length = n) (hs2 : n ≤ 1099511627776) (h : RdD w a rs) (h2 : Reads TNode.fc 6 w p l) :
    Calls Try.prog 37 #[.agg #[.slice a m cap], .agg #[.int .i64 x0, .int .i64 x1, .int .i64 x2, .int .i64 x3, .int .i64 x4, .int .i64 x5, .slice p n c]] w (IsAdd (added rs ⟨x0, x1, x2, x3, x4, x5, l⟩).1 (added rs ⟨x0, x1, x2, x3, x4, x5, l⟩).2 w) := by
  subst hl
  exact add_s w a m cap rs ⟨⟨x0, x1, x2, x3, x4, x5, l⟩, p, c⟩ hm hs hn hs2 h h2
end Go.Proofs.Ytkfgflmhefbinaa.AddS

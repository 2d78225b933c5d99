/- Contracts of slices.Clone on rules and on nodes, of slices.Grow and slices.Concat on rules, and of the program's copyBook. -/
import Derived.Test.YtkfgflmhefbinaaRows
import Derived.Test.YtkfgflmhefbinaaRuleC
import Derived.Test.YtkfgflmhefbinaaKit
import Derived.WalkSpells
namespace Go.Proofs.Ytkfgflmhefbinaa.CopyI
open Go.RowKit RowN TRule RuleRow Box TBook
def IsCl {α : Type} (f : α → List Value) (c T : Nat) (l : List α) (w : World) (e : Ending) (w' : World) : Prop := ∃ p k, e = .returned (.slice p l.length k) ∧ Owns f c w' w.heap.size T (.slice p l.length k) l ∧ Below w.heap.size w w'
set_option maxHeartbeats 1000000 in
set_option maxRecDepth 100000 in
theorem cloneRule_i (w : World) (a : Option Addr) (m cap : Nat) (l : List TRule.El) (hm : l.length = m) (hs : m ≤ 1099511627776) (h : Reads TRule.fc 7 w a l) :
    Calls Try.prog 105 #[.slice a m cap] w (IsCl TRule.fc 7 TRule.T l w) := by
  have KK := Lib.hid h
  have HM := Lib.hid hm
  have hq : ∀ W : World, (binOp .eql 24 (.slice a m cap) (.slice none 0 0)).run Try.prog W = .ok (.bool a.isNone) W := fun W => Lib.run_eql_slice_nil W _ _ a m cap 0 0 Try.underlying24
  clear h hm
  cases a with
  | none =>
    have hl : l = [] := by
      cases l with
      | nil => rfl
      | cons x r => obtain ⟨_, _, e, _⟩ := KK.out 0 (by simp); cases e
    have HL := Lib.hid hl
    clear hl
    go_enter Try.func105, Try.ntmps105
    go_wp2
    go_ret
    exact ⟨none, 0, by rw [HL.out]; rfl, by rw [HL.out]; exact Owns.nil _ _ _, by (repeat (first | exact Below.refl _ _ | apply BelowKit.bl_alloc | apply BelowKit.bl_drewN | apply BelowKit.bl_drew | (refine BelowKit.bl_set ?_ _ ?_; rotate_left; (first | omega | (simp; omega) | simp)) | (refine BelowKit.bl_trans ?_ (‹Hid (Below _ _ _)›).out)))⟩
  | some ad =>
    go_enter Try.func105, Try.ntmps105
    go_wp2_with (
      at_builtin
      refine wpList_append_readsN TRule.ft TRule.fw _ rfl (.tmp 5) (.tmp 6) rfl w.heap.size (.slice (some ⟨w.heap.size, 0, none⟩) 0 0) [] rfl ?c1 (some ad) cap m l HM.out rfl ?c2 ?c3 ?c4 ?_
      rotate_left 4
      intro v' w' hown' hg' hat'
      obtain ⟨p', c', rfl, _⟩ := hown'.form TRule.fw
      have HB := Lib.hid ((BelowKit.bl_alloc (Below.refl w.heap.size w)).grown hg' (by first | omega | (simp; done) | (simp; omega)) (by first | (simp [Value.ownBlock]; done) | (simp [Value.ownBlock]; omega)))
      have HO := Lib.hid hown'
      clear hown' hg' hat')
    case c1 => simpa using Owns.made (f := TRule.fc) (c := 7) w w.heap.size TRule.T (Nat.le_refl _)
    case c2 => exact KK.out.on (by (repeat (first | exact Below.refl _ _ | apply BelowKit.bl_alloc | apply BelowKit.bl_drewN | apply BelowKit.bl_drew | (refine BelowKit.bl_set ?_ _ ?_; rotate_left; (first | omega | (simp; omega) | simp)) | (refine BelowKit.bl_trans ?_ (‹Hid (Below _ _ _)›).out))))
    case c3 => simp; omega
    case c4 => simp
    go_ret
    exact ⟨p', c', rfl, HO.out, HB.out⟩
set_option maxHeartbeats 1000000 in
set_option maxRecDepth 100000 in
theorem cloneNode_i (w : World) (a : Option Addr) (m cap : Nat) (l : List TNode.El) (hm : l.length = m) (hs : m ≤ 1099511627776) (h : Reads TNode.fc 6 w a l) :
    Calls Try.prog 106 #[.slice a m cap] w (IsCl TNode.fc 6 TNode.T l w) := by
  have KK := Lib.hid h
  have HM := Lib.hid hm
  have hq : ∀ W : World, (binOp .eql 32 (.slice a m cap) (.slice none 0 0)).run Try.prog W = .ok (.bool a.isNone) W := fun W => Lib.run_eql_slice_nil W _ _ a m cap 0 0 Try.underlying32
  clear h hm
  cases a with
  | none =>
    have hl : l = [] := by
      cases l with
      | nil => rfl
      | cons x r => obtain ⟨_, _, e, _⟩ := KK.out 0 (by simp); cases e
    have HL := Lib.hid hl
    clear hl
    go_enter Try.func106, Try.ntmps106
    go_wp2
    go_ret
    exact ⟨none, 0, by rw [HL.out]; rfl, by rw [HL.out]; exact Owns.nil _ _ _, by (repeat (first | exact Below.refl _ _ | apply BelowKit.bl_alloc | apply BelowKit.bl_drewN | apply BelowKit.bl_drew | (refine BelowKit.bl_set ?_ _ ?_; rotate_left; (first | omega | (simp; omega) | simp)) | (refine BelowKit.bl_trans ?_ (‹Hid (Below _ _ _)›).out)))⟩
  | some ad =>
    go_enter Try.func106, Try.ntmps106
    go_wp2_with (
      at_builtin
      refine wpList_append_readsN TNode.ft TNode.fw _ rfl (.tmp 5) (.tmp 6) rfl w.heap.size (.slice (some ⟨w.heap.size, 0, none⟩) 0 0) [] rfl ?c1 (some ad) cap m l HM.out rfl ?c2 ?c3 ?c4 ?_
      rotate_left 4
      intro v' w' hown' hg' hat'
      obtain ⟨p', c', rfl, _⟩ := hown'.form TNode.fw
      have HB := Lib.hid ((BelowKit.bl_alloc (Below.refl w.heap.size w)).grown hg' (by first | omega | (simp; done) | (simp; omega)) (by first | (simp [Value.ownBlock]; done) | (simp [Value.ownBlock]; omega)))
      have HO := Lib.hid hown'
      clear hown' hg' hat')
    case c1 => simpa using Owns.made (f := TNode.fc) (c := 6) w w.heap.size TNode.T (Nat.le_refl _)
    case c2 => exact KK.out.on (by (repeat (first | exact Below.refl _ _ | apply BelowKit.bl_alloc | apply BelowKit.bl_drewN | apply BelowKit.bl_drew | (refine BelowKit.bl_set ?_ _ ?_; rotate_left; (first | omega | (simp; omega) | simp)) | (refine BelowKit.bl_trans ?_ (‹Hid (Below _ _ _)›).out))))
    case c3 => simp; omega
    case c4 => simp
    go_ret
    exact ⟨p', c', rfl, HO.out, HB.out⟩
theorem of_cl {l : List TNode.El} {p : Option Addr} {k n : Nat} {w' : World} {B : Nat} (hn : l.length = n) (h : Owns TNode.fc 6 w' B TNode.T (.slice p l.length k) l) : Owns TNode.fc 6 w' B TNode.T (.slice p n k) l := hn ▸ h
set_option maxHeartbeats 4000000 in
theorem copy_i (w : World) (a : Option Addr) (m cap : Nat) (rs : List Ru) (hm : rs.length = m) (hs : m ≤ 1099511627776) (hn : Few rs) (h : RdD w a rs) :
    Calls Try.prog 67 #[.agg #[.slice a m cap]] w (IsSto rs w) := by
  obtain ⟨xs, ex, h0⟩ := h
  have KK := Lib.hid h0
  have HX := Lib.hid ex
  have HXL := Lib.hid (show xs.length = m by rw [← hm, ← ex, List.length_map])
  have HM := Lib.hid hm
  have HN := Lib.hid hn
  clear h0 ex hm hn
  go_enter Try.func67, Try.ntmps67
  go_wp2_with fail
  refine (cloneRule_i _ a m cap xs HXL.out hs (KK.out.out.on (by (repeat (first | exact Below.refl _ _ | apply BelowKit.bl_alloc | apply BelowKit.bl_drewN | apply BelowKit.bl_drew | (refine BelowKit.bl_set ?_ _ ?_; rotate_left; (first | omega | (simp; omega) | simp)) | (refine BelowKit.bl_trans ?_ (‹Hid (Below _ _ _)›).out)))))).mono ?_
  rintro e w1 ⟨p, c, rfl, ho, hb⟩
  rw [HXL.out] at ho ⊢
  have c1 : w1.cell? ⟨w.heap.size + 1, 0, none⟩ = some (.slice none 0 0) := ((BelowKit.bcell hb).1 _ _ (by simp)).trans (by simp [go_sem])
  have f1 : w1.frozen? ⟨w.heap.size + 1, 0, none⟩ = false := ((BelowKit.bcell hb).2 _ _ (by simp)).trans (by simp [go_sem])
  have z1 : w.heap.size + 1 + 1 ≤ w1.heap.size := by have := hb.size; simp at this; omega
  have HB1 := Lib.hid (show Below (w.heap.size + 1 + 1) ((w.alloc (.cells #[.slice a m cap] 26)).alloc (.cells #[.slice none 0 0] 26)) w1 from hb.mono (by simp))
  have HBW := Lib.hid (show Below w.heap.size w w1 from BelowKit.bl_trans (by (repeat (first | exact Below.refl _ _ | apply BelowKit.bl_alloc | apply BelowKit.bl_drewN | apply BelowKit.bl_drew | (refine BelowKit.bl_set ?_ _ ?_; rotate_left; (first | omega | (simp; omega) | simp)) | (refine BelowKit.bl_trans ?_ (‹Hid (Below _ _ _)›).out)))) hb)
  have HP0 := Lib.hid (Part.start (Own.ow_of (ho.base (B' := w.heap.size + 1 + 1) (by simp))))
  clear hb ho
  go_wp2
  go_loopw [10] (fun i wr => ∃ (j : Nat) (ys : List El), j ≤ m ∧ i = .int .i64 (j : Int) ∧ Hid (ys.map (·.r) = rs ∧ ys.length = m ∧ ∀ k (h : k < ys.length) (h' : k < xs.length), j ≤ k → ys[k] = xs[k]) ∧ Hid (Part wr (w.heap.size + 1 + 1) wr.heap.size (.slice p m c) j ys) ∧
    Hid (Below (w.heap.size + 1 + 1) w1 wr)) (fun i _ => m - (intOf i).toNat)
  case atStart => exact ⟨0, xs, Nat.zero_le _, rfl, Lib.hid ⟨HX.out, HXL.out, fun _ _ _ _ => rfl⟩, HP0, Lib.hid (Below.refl _ _)⟩
  case round =>
    obtain ⟨j, ys, hj, rfl, HY, HP, HB⟩ := hrel
    by_cases hlt : j < m
    · have hjy : j < ys.length := by rw [HY.out.2.1]; exact hlt
      have hjx : j < xs.length := by rw [HXL.out]; exact hlt
      have hyx := HY.out.2.2 j hjy hjx (Nat.le_refl _)
      obtain ⟨g, e, hg, hgl, q0, q1, q2, q3, q4, q5, q6, r0, r1, r2, r3, r4, r5, r6⟩ := own HP.out.out.own j hjy
      subst e
      have hbw : Below w.heap.size w wr := HBW.out.trans (HB.out.mono (by omega))
      have HIN := Lib.hid ((KK.out.inn j hjx).on hbw)
      have HPut := Lib.hid (fun (w2 : World) (hb : Below wr.heap.size wr w2) (p' : Option Addr) (c' : Nat) (ho : Owns TNode.fc 6 w2 wr.heap.size TNode.T (.slice p' ys[j].r.Nodes.length c') ys[j].r.Nodes) =>
        ((HP.out.on hb).up hb.size (Nat.le_refl _)).put hjy p' c' (Own.ow_of (ho.base (by omega)))
          (fun k hk e => by have := ho.low k hk; have := HP.out.out.top g rfl; omega)
          (fun k hk i hi hij e => by have := ho.low k hk; have := (HP.out.inn i hi hij).top k e; omega))
      have HRN := Lib.hid (show (ys[j]'hjy).r.Nodes.length ≤ 1099511627776 by
        have := HN.out j (by rw [HM.out]; exact hlt)
        have e : (ys[j]'hjy).r = rs[j]'(by rw [HM.out]; exact hlt) := by have := HY.out.1; subst this; simp
        rw [e]; exact this)
      have HSET := Lib.hid (show ∀ (p' : Option Addr) (c' : Nat), (ys.set j ⟨(ys[j]'hjy).r, p', c'⟩).map (·.r) = rs ∧ (ys.set j ⟨(ys[j]'hjy).r, p', c'⟩).length = m ∧ ∀ k (h : k < (ys.set j ⟨(ys[j]'hjy).r, p', c'⟩).length) (h' : k < xs.length), j + 1 ≤ k → (ys.set j ⟨(ys[j]'hjy).r, p', c'⟩)[k] = xs[k] from fun p' c' => by
        refine ⟨?_, by rw [List.length_set]; exact HY.out.2.1, fun k h h' hk => ?_⟩
        · rw [List.map_set, HY.out.1]
          have e : (ys[j]'hjy).r = rs[j]'(by rw [HM.out]; exact hlt) := by have := HY.out.1; subst this; simp
          rw [e]
          exact List.set_getElem_self _
        · rw [List.getElem_set_ne (by omega)]
          exact HY.out.2.2 k (by simpa using h) h' (by omega))
      rw [← hyx] at HIN
      generalize (ys[j]'hjy) = y at q0 q1 q2 q3 q4 q5 q6 HIN HPut HRN HSET
      obtain ⟨n, hn⟩ : ∃ n, y.r.Nodes.length = n := ⟨_, rfl⟩
      have HNN := Lib.hid hn
      rw [hn] at q6
      have b1 : (0 : Int) ≤ (j : Int) := by omega
      have b2 : (j : Int) < (m : Int) := by omega
      have HR6 := Lib.hid r6
      have HBW2 := Lib.hid hbw
      clear HP HY hyx hjy hjx hn hbw q0 q1 q2 q3 q4 q5 r0 r1 r2 r3 r4 r5 r6
      go_wp2_with fail
      refine (cloneNode_i _ y.p n y.c y.r.Nodes HNN.out (by have := HNN.out; have := HRN.out; omega) HIN.out).mono ?_
      rintro e w2 ⟨p', c', rfl, ho, hb⟩
      have HQ := Lib.hid (HPut.out w2 hb p' c' ho)
      rw [HNN.out] at HQ ⊢
      have t6 := ((BelowKit.bcell hb).1 _ (j * 7 + 6) hgl).trans q6
      have u6 := ((BelowKit.bcell hb).2 _ (j * 7 + 6) hgl).trans HR6.out
      have HB2 := Lib.hid ((HB.out.trans (hb.mono (by have := HB.out.size; omega))).setCell (p := ⟨g, j * 7 + 6, none⟩) hg (.slice p' n c'))
      have hg2 : g < w2.heap.size := Nat.lt_of_lt_of_le hgl hb.size
      clear HPut ho hb q6 HIN HR6
      go_wp2
      go_roundw
      case rel =>
        refine ⟨j + 1, _, by omega, by go_num, Lib.hid (HSET.out p' c'), ?_, HB2⟩
        have hsz : ∀ (W : World) (a : Addr) (u : Value), (W.setCell a u).heap.size = W.heap.size := fun W a u => by simp
        rw [hsz]
        exact HQ
      case measure => simp [intOf]; omega
    · obtain rfl : j = m := by omega
      have c2 := (HB.out.cell (p := ⟨w.heap.size + 1, 0, none⟩) (by show w.heap.size + 1 < _; omega)).trans c1
      have f2 := (HB.out.frozen (p := ⟨w.heap.size + 1, 0, none⟩) (by show w.heap.size + 1 < _; omega)).trans f1
      have HNE := Lib.hid (HP.out.nest (by rw [HY.out.2.1]; exact Nat.le_refl _))
      have zz := HB.out.size
      have z2 : w.heap.size + 1 < wr.heap.size := by omega
      have HBF := Lib.hid (HBW.out.trans (HB.out.mono (by omega)))
      clear HP zz
      go_wp2
      refine bodyPost_ret (v := .agg #[.slice p j c]) (by simp [results, Try.results67, go_sem, c2]) rfl ⟨p, c, by rw [HM.out], ?_, ?_⟩
      · rw [HM.out]
        have e : ∀ (W : World) (a : Addr) (u : Value), (W.setCell a u).heap.size = W.heap.size := fun W a u => by simp
        rw [e]
        exact ⟨ys, HY.out.1, (HNE.out.box (.inl (by omega)) _).base (by omega)⟩
      · exact HBF.out.setCell (p := ⟨w.heap.size + 1, 0, none⟩) (by show w.heap.size ≤ w.heap.size + 1; omega) _
end Go.Proofs.Ytkfgflmhefbinaa.CopyI

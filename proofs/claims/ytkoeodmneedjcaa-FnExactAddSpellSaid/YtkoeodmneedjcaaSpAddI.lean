/- Contracts of slices.IndexFunc on spells and of the program's AddSpell. -/
import Derived.Test.YtkoeodmneedjcaaRows
import Derived.Test.YtkoeodmneedjcaaSpellI
import Derived.Test.YtkoeodmneedjcaaSlSpell
import Derived.Test.YtkoeodmneedjcaaKit
namespace Go.Proofs.Ytkoeodmneedjcaa.SpAddI
open Go.RowKit RowN RowRoom TSpell SpellMath Mon Box SlSpell
/-- Before the k-th spell the new one is put. -/
structure At (l : List El) (xf : Int) (k : Nat) : Prop where
  le : k ≤ l.length
  low : ∀ i (h : i < l.length), i < k → l[i].From ≤ xf
  high : ∀ (h : k < l.length), xf < l[k].From
theorem At.ins {l : List El} {x : El} {k : Nat} (h : At l x.From k) : ins l x = l.take k ++ x :: l.drop k := ins_at h.le h.low h.high
/-- That list is valid only if the list without the new spell is. -/
theorem ok_less {l : List El} {x : El} {k : Nat} (hk : k ≤ l.length) (h : Ok (l.take k ++ x :: l.drop k)) : Ok l := by
  have hlen : (l.take k ++ x :: l.drop k).length = l.length + 1 := by simp; omega
  have lo : ∀ i (hi : i < l.length) (hik : i < k), (l.take k ++ x :: l.drop k)[i]'(by omega) = l[i] := fun i hi hik => by
    rw [List.getElem_append_left (by simp; omega)]
    simp
  have hi' : ∀ i (hi : i < l.length) (hik : k ≤ i), (l.take k ++ x :: l.drop k)[i + 1]'(by omega) = l[i] := fun i hi hik => by
    rw [List.getElem_append_right (by simp; omega)]
    have e : i + 1 - (l.take k).length = (i - k) + 1 := by simp; omega
    simp only [e, List.getElem_cons_succ, List.getElem_drop]
    congr 1
    omega
  have hx : (l.take k ++ x :: l.drop k)[k]'(by omega) = x := by
    rw [List.getElem_append_right (by simp; omega)]
    have e : k - (l.take k).length = 0 := by simp; omega
    simp only [e, List.getElem_cons_zero]
  refine ⟨by have := h.len; omega, fun i hi => ?_, fun i hi => ?_⟩
  · by_cases hik : i < k
    · rw [← lo i hi hik]; exact h.each _ _
    · rw [← hi' i hi (by omega)]; exact h.each _ _
  · by_cases h1 : i + 1 < k
    · have := h.next i (by omega)
      rw [lo i (by omega) (by omega), lo (i + 1) hi h1] at this
      exact this
    · by_cases h2 : i + 1 = k
      · have n1 := h.next i (by omega)
        have n2 := h.next (i + 1) (by omega)
        have ex := h.each k (by omega)
        subst h2
        rw [lo i (by omega) (by omega), hx] at n1
        rw [hx, hi' (i + 1) hi (Nat.le_refl _)] at n2
        rw [hx] at ex
        unfold OkP at ex
        omega
      · have := h.next (i + 1) (by omega)
        rw [hi' i (by omega) (by omega), hi' (i + 1) hi (by omega)] at this
        exact this
/-- So one test serves. -/
theorem added_one {l : List El} {x : El} {k : Nat} (h : At l x.From k) : added l x = if okB (l.take k ++ x :: l.drop k) = true then (l.take k ++ x :: l.drop k, true) else (l, false) := by
  cases e : okB (l.take k ++ x :: l.drop k) with
  | false =>
    rw [if_neg (by simp)]
    exact added_no2 (by rw [h.ins]; exact e)
  | true =>
    rw [if_pos rfl, added_yes (okB_yes (ok_less h.le (okB_of e))) (by rw [h.ins]; exact e), h.ins]
def IsAdd (l : List El) (b : Bool) (w : World) (e : Ending) (w' : World) : Prop := ∃ p c, e = .returned (.tuple #[.slice p l.length c, .bool b]) ∧ Owns fc 4 w' w.heap.size T (.slice p l.length c) l ∧ Below w.heap.size w w'
set_option maxHeartbeats 1000000 in
theorem later_i (f t c : Int) (v : Bool) (xf : Int) (g : Nat) (w : World) (h : w.cell? ⟨g, 0, none⟩ = some (.int .i64 xf)) (hg : g < w.heap.size) :
    Calls Try.prog 39 #[.agg #[.int .i64 f, .int .i64 t, .int .i64 c, .bool v], .pointer (some ⟨g, 0, none⟩)] w (IsBo (decide (xf < f)) w) := by
  go_enter Try.func39, Try.ntmps39
  go_wp2
  go_ret
  exact ⟨rfl, by (repeat (first | exact Below.refl _ _ | apply BelowKit.bl_alloc | apply BelowKit.bl_drewN | apply BelowKit.bl_drew | (refine BelowKit.bl_set ?_ _ ?_; rotate_left; (first | omega | (simp; omega) | simp)) | (refine BelowKit.bl_trans ?_ (‹Hid (Below _ _ _)›).out)))⟩
def IsFd (l : List El) (xf : Int) (w : World) (e : Ending) (w' : World) : Prop := ∃ k : Nat, At l xf k ∧ ((k < l.length ∧ e = .returned (.int .i64 (k : Int))) ∨ (k = l.length ∧ e = .returned (.int .i64 (-1)))) ∧ Below w.heap.size w w'
set_option maxHeartbeats 2000000 in
theorem find_i (w : World) (a : Option Addr) (m cap : Nat) (l : List El) (xf : Int) (g : Nat) (hm : l.length = m) (hs : m ≤ 1099511627776) (h : Reads fc 4 w a l) (hx : w.cell? ⟨g, 0, none⟩ = some (.int .i64 xf)) (hg : g < w.heap.size) :
    Calls Try.prog 38 #[.slice a m cap, .func (.func 39) #[] #[.pointer (some ⟨g, 0, none⟩)]] w (IsFd l xf w) := by
  have KK := Lib.hid h
  have HM := Lib.hid hm
  have HX := Lib.hid hx
  have HG := Lib.hid hg
  clear h hm hx hg
  go_enter Try.func38, Try.ntmps38
  go_wp2
  go_loopw [8] (fun i wr => ∃ j : Nat, j ≤ m ∧ i = .int .i64 (j : Int) ∧ Hid (∀ i (h : i < l.length), i < j → l[i].From ≤ xf) ∧ Hid (Below w.heap.size w wr)) (fun i _ => m - (intOf i).toNat)
  case atStart => exact ⟨0, Nat.zero_le _, rfl, Lib.hid (fun _ _ h => by omega), Lib.hid (Below.refl _ _)⟩
  case round =>
    obtain ⟨j, hj, rfl, HP, HB⟩ := hrel
    by_cases hlt : j < m
    · have HLT := Lib.hid (show j < l.length by rw [HM.out]; exact hlt)
      obtain ⟨g', o, rfl, hgl, q0, q1, q2, q3⟩ := read (KK.out.on HB.out) j HLT.out
      have b1 : (0 : Int) ≤ (j : Int) := by omega
      have b2 : (j : Int) < (m : Int) := by omega
      have HA : Hid (xf < (l[j]'HLT.out).From → At l xf j) := Lib.hid (fun e => ⟨by rw [HM.out]; exact hj, HP.out, fun _ => e⟩)
      have HN : Hid (¬ xf < (l[j]'HLT.out).From → ∀ i (h : i < l.length), i < j + 1 → l[i].From ≤ xf) := Lib.hid (fun e i hi hij => by
        by_cases hq : i = j
        · subst hq; omega
        · exact HP.out i hi (by omega))
      clear HP
      generalize (l[j]'HLT.out) = x at q0 q1 q2 q3 HA HN
      obtain ⟨f, t, c, v⟩ := x
      simp only [] at q0 q1 q2 q3 HA HN
      obtain ⟨b, hb⟩ : ∃ b, decide (xf < f) = b := ⟨_, rfl⟩
      have HD := Lib.hid hb
      have hxr := ((BelowKit.bcell HB.out).1 _ 0 HG.out).trans HX.out
      have hgr : g < wr.heap.size := Nat.lt_of_lt_of_le HG.out HB.out.size
      have HT := Lib.hid (later_i f t c v xf g wr hxr hgr)
      rw [hb] at HT
      clear hb hxr hgr
      go_wp2_with fail
      refine HT.out.mono ?_
      rintro e w1 ⟨rfl, hb⟩
      have HB1 := Lib.hid (BelowKit.bl_trans HB.out hb)
      clear hb HT q0 q1 q2 q3
      cases b with
      | true =>
        have E := Lib.hid (HA.out (of_decide_eq_true HD.out))
        clear HA HN HD
        go_wp2
        go_ret
        exact ⟨j, E.out, .inl ⟨HLT.out, rfl⟩, HB1.out⟩
      | false =>
        have E := Lib.hid (HN.out (by have := of_decide_eq_false HD.out; omega))
        clear HA HN HD
        go_wp2
        go_roundw
        case rel => exact ⟨j + 1, by omega, by go_num, E, HB1⟩
        case measure => simp [intOf]; omega
    · obtain rfl : j = m := by omega
      go_wp2
      go_ret
      exact ⟨j, ⟨by rw [HM.out]; exact Nat.le_refl _, HP.out, fun h => by have := HM.out; omega⟩, .inr ⟨HM.out.symm, rfl⟩, HB.out⟩
/-- The row of one new spell. -/
def One (x : El) (w : World) (v : Value) (g : Nat) : Prop := v = .slice (some ⟨g, 0, none⟩) 1 1 ∧ g < w.heap.size ∧ w.heap[g]? = some (.cells #[.int .i64 x.From, .int .i64 x.To, .int .i64 x.Percent, .bool x.Leave] 34 (0, 0))
theorem One.reads {x : El} {w : World} {v : Value} {g : Nat} (h : One x w v g) : Reads fc 4 w (some ⟨g, 0, none⟩) [x] := by
  intro j hj
  obtain rfl : j = 0 := by simpa using hj
  refine ⟨g, 0, rfl, h.2.1, fun k hk => ?_⟩
  have := news_block (f := fc) (news := [x]) (T := 34) (g := g) h.2.2 k ((fc x)[k]'(by simpa [fc] using hk)) (by simp)
  simp only [List.getElem_singleton]
  rw [List.getElem?_eq_getElem (show k < (fc x).length by simpa [fc] using hk)]
  have e : (⟨g, 0, none⟩ : Addr).add k = ⟨g, k, none⟩ := by unfold Addr.add; split <;> simp_all
  rw [e] at this
  simpa using this
theorem One.on {x : El} {w w' : World} {v : Value} {g : Nat} (h : One x w v g) (hb : Below w.heap.size w w') : One x w' v g := ⟨h.1, Nat.lt_of_lt_of_le h.2.1 hb.size, (hb.block g h.2.1).trans h.2.2⟩
/-- The block that holds the three slices, and the new spell's own. -/
def Three (x : El) (p : Option Addr) (k cap : Nat) (q : Option Addr) (m : Nat) (w : World) (v : Value) : Prop := ∃ g h : Nat, v = .slice (some ⟨g, 0, none⟩) 3 3 ∧ g < w.heap.size ∧ w.heap[g]? = some (.cells #[.slice p k cap, .slice (some ⟨h, 0, none⟩) 1 1, .slice q (m - k) (cap - k)] 24 (0, 0)) ∧ One x w (.slice (some ⟨h, 0, none⟩) 1 1) h
theorem Three.on {x : El} {p q : Option Addr} {k cap m : Nat} {w w' : World} {v : Value} (h : Three x p k cap q m w v) (hb : Below w.heap.size w w') : Three x p k cap q m w' v := by
  obtain ⟨g, i, e, hg, hc, ho⟩ := h
  exact ⟨g, i, e, Nat.lt_of_lt_of_le hg hb.size, (hb.block g hg).trans hc, ho.on hb⟩
/-- The three put behind one another. -/
theorem three_c {x : El} {p q : Option Addr} {k cap m : Nat} {l : List El} {w : World} {g : Nat} (h : Three x p k cap q m w (.slice (some ⟨g, 0, none⟩) 3 3)) (hm : l.length = m) (hk : k ≤ m) (hs : m ≤ 1048576) (h1 : Reads fc 4 w p l) (h2 : Reads fc 4 w q (l.drop k)) :
    Calls Try.prog 40 #[.slice (some ⟨g, 0, none⟩) 3 3] w (IsCl (l.take k ++ x :: l.drop k) w) := by
  obtain ⟨g', i, e, hg, hc, ho⟩ := h
  cases e
  have hcell := news_block (f := fun v : Value => [v]) (news := [.slice p k cap, .slice (some ⟨i, 0, none⟩) 1 1, .slice q (m - k) (cap - k)]) (T := 24) (g := g) hc
  have e1 : (l.take k).length = k := by simp; omega
  have e2 : (l.drop k).length = m - k := by simp; omega
  have hfl : [l.take k, [x], l.drop k].flatten = l.take k ++ x :: l.drop k := by simp
  have := concat_i w g 3 [l.take k, [x], l.drop k] (fun j => match j with | 0 => p | 1 => some ⟨i, 0, none⟩ | _ => q) (fun j => match j with | 0 => cap | 1 => 1 | _ => cap - k) rfl (by omega) (by rw [hfl]; simp; omega) hg
    (fun j hj => by
      rcases (show j = 0 ∨ j = 1 ∨ j = 2 from by simp at hj; omega) with rfl | rfl | rfl
      · show w.cell? ⟨g, 0, none⟩ = some (.slice p (l.take k).length cap)
        rw [e1]; simpa [Addr.add] using hcell 0 _ rfl
      · show w.cell? ⟨g, 1, none⟩ = some (.slice (some ⟨i, 0, none⟩) 1 1)
        simpa [Addr.add] using hcell 1 _ rfl
      · show w.cell? ⟨g, 2, none⟩ = some (.slice q (l.drop k).length (cap - k))
        rw [e2]; simpa [Addr.add] using hcell 2 _ rfl)
    (fun j hj => by
      rcases (show j = 0 ∨ j = 1 ∨ j = 2 from by simp at hj; omega) with rfl | rfl | rfl
      · exact reads_take h1 k
      · exact ho.reads
      · exact h2)
  rw [hfl] at this
  exact this
set_option maxRecDepth 100000 in
set_option maxHeartbeats 8000000 in
theorem add_i (w : World) (p : Option Addr) (m cap : Nat) (l : List El) (x : El) (hm : l.length = m) (hs : m ≤ 1048576) (hcap : m ≤ cap) (h : Reads fc 4 w p l) :
    Calls Try.prog 18 #[.slice p m cap, fv x] w (IsAdd (added l x).1 (added l x).2 w) := by
  have KK := Lib.hid h
  have HM := Lib.hid hm
  have HCAP := Lib.hid hcap
  obtain ⟨R, hR⟩ : ∃ R, added l x = R := ⟨_, rfl⟩
  have HR := Lib.hid hR
  rw [hR]
  clear h hm hR hcap
  show Calls Try.prog 18 #[.slice p m cap, .agg #[.int .i64 x.From, .int .i64 x.To, .int .i64 x.Percent, .bool x.Leave]] w (IsAdd R.1 R.2 w)
  go_enter Try.func18, Try.ntmps18
  go_wp2_with fail
  refine (find_i _ p m cap l x.From w.heap.size HM.out (by omega) (KK.out.on (by (repeat (first | exact Below.refl _ _ | apply BelowKit.bl_alloc | apply BelowKit.bl_drewN | apply BelowKit.bl_drew | (refine BelowKit.bl_set ?_ _ ?_; rotate_left; (first | omega | (simp; omega) | simp)) | (refine BelowKit.bl_trans ?_ (‹Hid (Below _ _ _)›).out))))) (by simp [go_sem]) (by simp)).mono ?_
  rintro e w1 ⟨k, hAt, hk, hb⟩
  have c0 : w1.cell? ⟨w.heap.size, 0, none⟩ = some (.int .i64 x.From) := ((BelowKit.bcell hb).1 _ _ (by simp)).trans (by simp [go_sem])
  have c1 : w1.cell? ⟨w.heap.size, 1, none⟩ = some (.int .i64 x.To) := ((BelowKit.bcell hb).1 _ _ (by simp)).trans (by simp [go_sem])
  have c2 : w1.cell? ⟨w.heap.size, 2, none⟩ = some (.int .i64 x.Percent) := ((BelowKit.bcell hb).1 _ _ (by simp)).trans (by simp [go_sem])
  have c3 : w1.cell? ⟨w.heap.size, 3, none⟩ = some (.bool x.Leave) := ((BelowKit.bcell hb).1 _ _ (by simp)).trans (by simp [go_sem])
  have z1 : w.heap.size < w1.heap.size := by have := hb.size; simp at this; omega
  have HB1 := Lib.hid (show Below w.heap.size w w1 from BelowKit.bl_trans (by (repeat (first | exact Below.refl _ _ | apply BelowKit.bl_alloc | apply BelowKit.bl_drewN | apply BelowKit.bl_drew | (refine BelowKit.bl_set ?_ _ ?_; rotate_left; (first | omega | (simp; omega) | simp)) | (refine BelowKit.bl_trans ?_ (‹Hid (Below _ _ _)›).out)))) hb)
  have HAT := Lib.hid hAt
  have HKM := Lib.hid (show k ≤ m by rw [← HM.out]; exact hAt.le)
  clear hb hAt
  obtain ⟨q, hq⟩ : ∃ q, (if cap = k then p else Option.map (fun x : Addr => x.add (k * 4)) p) = q := ⟨_, rfl⟩
  have HD := Lib.hid (reads_drop (KK.out.on HB1.out) (by rw [HM.out]; exact HCAP.out) hq)
  have HLEN := Lib.hid (show (l.take k ++ x :: l.drop k).length = m + 1 by have := HM.out; have := HKM.out; simp; omega)
  rcases hk with ⟨hk, rfl⟩ | ⟨hk, rfl⟩
  case' inl =>
    have d1 : decide ((k : Int) < 0) = false := decide_eq_false (by omega)
    clear hk
    go_wp2_with fail
    clear d1
  case' inr =>
    have hmk : (m : Int) = (k : Int) := by have := HM.out; omega
    clear hk
    go_wp2_with fail
    clear hmk
  all_goals
    have g0 := Grown.G.keep c0 z1
    have g1 := Grown.G.keep c1 z1
    have g2 := Grown.G.keep c2 z1
    have g3 := Grown.G.keep c3 z1
    have b1 : (0 : Int) ≤ (k : Int) := by omega
    have b2 : (k : Int) ≤ (m : Int) := by have := HKM.out; omega
    have b3 : (k : Int) ≤ (cap : Int) := by have := HKM.out; have := HCAP.out; omega
    have b4 : k ≤ m := HKM.out
    have b5 : k ≤ cap := Nat.le_trans b4 HCAP.out
    have b6 : m ≤ cap := HCAP.out
    refine Fresh.wp_region_grow (fun j => match j with | 4 => .grow | 8 => .grow | 9 => .grow | _ => .quiet)
      (fun j v => match j with
        | 4 => ∃ g : Nat, v = .slice (some ⟨g, 0, none⟩) 1 1
        | 8 => ∃ g : Nat, v = .slice (some ⟨g, 0, none⟩) 3 3
        | 9 => ∃ a c, v = .slice a (m + 1) c
        | _ => v = undef)
      (fun j v s w2 => match j with
        | 4 => ∃ g, One x w2 v g
        | 8 => Three x p k cap q m w2 v
        | 9 => Owns fc 4 w2 w1.heap.size T v (l.take k ++ x :: l.drop k)
        | _ => True)
      (by kernel_rfl) (by kernel_rfl) (by kernel_rfl) (by kernel_rfl) ?_
    repeat (refine Fresh.wpG_q rfl ?_; go_big_quiet_step (fail); refine wpQuiet_nil ?_)
    refine Fresh.wpG_own rfl ⟨_, 0, rfl⟩ (fun X _ => ?_) ?_
    · go_simp
      exact ⟨_, _, ⟨rfl, rfl⟩, by (repeat (first | exact Below.refl _ _ | apply BelowKit.bl_alloc | apply BelowKit.bl_drewN | apply BelowKit.bl_drew | (refine BelowKit.bl_set ?_ _ ?_; rotate_left; (first | omega | (simp; omega) | simp)) | (refine BelowKit.bl_trans ?_ (‹Hid (Below _ _ _)›).out))), ⟨_, rfl⟩, _, rfl, by simp, heap_alloc_new _ _⟩
    rintro v ⟨gn, rfl⟩
    go_big_quiet_step (fail)
    refine wpQuiet_nil ?_
    repeat (refine Fresh.wpG_q rfl ?_; go_big_quiet_step (fail); refine wpQuiet_nil ?_)
    refine Fresh.wpG_own rfl ⟨_, 0, rfl⟩ (fun X hd => ?_) ?_
    · obtain ⟨_, _, w2, ⟨g4, ho⟩, _, hb2⟩ := hd ⟨4, .data⟩ (by simp) rfl rfl
      have eg : (.slice (some ⟨gn, 0, none⟩) 1 1 : Value) = .slice (some ⟨g4, 0, none⟩) 1 1 := ho.1
      cases eg
      have HO4 := Lib.hid (One.on (v := .slice (some ⟨gn, 0, none⟩) 1 1) ho (hb2.trans (BelowKit.bl_alloc (o := .cells #[.slice p k cap, .slice (some ⟨gn, 0, none⟩) 1 1, .slice q (m - k) (cap - k)] 24) (Below.refl _ _) |>.mono hb2.size)))
      clear ho hb2 hd g0 g1 g2 g3 c0 c1 c2 c3
      go_simp
      exact ⟨_, _, ⟨rfl, rfl⟩, by (repeat (first | exact Below.refl _ _ | apply BelowKit.bl_alloc | apply BelowKit.bl_drewN | apply BelowKit.bl_drew | (refine BelowKit.bl_set ?_ _ ?_; rotate_left; (first | omega | (simp; omega) | simp)) | (refine BelowKit.bl_trans ?_ (‹Hid (Below _ _ _)›).out))), ⟨_, rfl⟩, _, gn, rfl, by simp, heap_alloc_new _ _, HO4.out⟩
    rintro v ⟨g8, rfl⟩
    go_big_quiet_step (fail)
    refine wpQuiet_nil ?_
    refine Fresh.wpG_call #[.slice (some ⟨g8, 0, none⟩) 3 3] rfl Try.func40 (by kernel_rfl) (by kernel_rfl) rfl ⟨_, none, 0, rfl⟩ (fun X hd => ?_) ?_
    · obtain ⟨_, _, w2, ho, _, hb2⟩ := hd ⟨8, .data⟩ (by simp) rfl rfl
      have ho' : Three x p k cap q m w2 (.slice (some ⟨g8, 0, none⟩) 3 3) := ho
      refine (three_c (ho'.on hb2) HM.out HKM.out hs (KK.out.on (BelowKit.bl_trans HB1.out X.bel)) (HD.out.on X.bel)).mono ?_
      rintro e w8 ⟨a9, c9, rfl, ho9, hb9⟩
      refine ⟨_, rfl, hb9, ⟨a9, c9, by rw [HLEN.out]⟩, ho9.base X.bel.size⟩
    rintro v ⟨a9, c9, rfl⟩
    go_big_quiet_step (fail)
    refine wpQuiet_nil ?_
    repeat (refine Fresh.wpG_q rfl ?_; go_big_quiet_step (fail); refine wpQuiet_nil ?_)
    refine Fresh.wpG_nil fun X sN tN hk => ?_
    obtain ⟨⟨w4, ho9, ht, hb4⟩, _, _⟩ := hk.1 9 (by decide) rfl
    have ho : Owns fc 4 w4 w1.heap.size T (.slice a9 (m + 1) c9) (l.take k ++ x :: l.drop k) := ho9
    have hbX := X.bel
    replace ho := ho.on hb4
    obtain ⟨W, hU⟩ : ∃ U : World, U = X.w := ⟨_, rfl⟩
    rw [← hU] at hbX ho ⊢
    have HO := Lib.hid (ho.base (B' := w.heap.size) HB1.out.size)
    have HBW := Lib.hid (BelowKit.bl_trans HB1.out hbX)
    clear hk hU g0 g1 g2 g3 c0 c1 c2 c3 hb4 ho ho9 ht hbX b1 b2 b3 b4 b5 b6 hq HD
    go_wp2_with fail
    refine (SpellI.ok_i _ a9 (m + 1) c9 (l.take k ++ x :: l.drop k) HLEN.out (by omega) (reads_own fw HO.out)).mono ?_
    rintro e w5 ⟨rfl, hb5⟩
    have HO5 := Lib.hid (HO.out.on hb5)
    have HB5 := Lib.hid (BelowKit.bl_trans HBW.out hb5)
    clear hb5 HO HBW
    obtain ⟨b, hb⟩ : ∃ b, okB (l.take k ++ x :: l.drop k) = b := ⟨_, rfl⟩
    rw [hb]
    have hadd := added_one (x := x) HAT.out
    rw [hb, HR.out] at hadd
    cases b with
    | true =>
      have E := Lib.hid (show R = (l.take k ++ x :: l.drop k, true) from hadd)
      clear hadd hb
      go_wp2
      refine bodyPost_ret (v := .tuple #[.slice a9 (m + 1) c9, .bool true]) (by simp [results, Try.results18, go_sem]) rfl ?_
      rw [E.out]
      exact ⟨_, _, by rw [HLEN.out], by rw [HLEN.out]; exact HO5.out, HB5.out⟩
    | false =>
      have E := Lib.hid (show R = (l, false) from hadd)
      clear hadd hb
      go_wp2_with fail
      refine (clone_i _ p m cap l HM.out (by omega) (KK.out.on HB5.out)).mono ?_
      rintro e w6 ⟨p6, c6, rfl, ho6, hb6⟩
      have HB6 := Lib.hid (BelowKit.bl_trans HB5.out hb6)
      have HO6 := Lib.hid (ho6.base (B' := w.heap.size) HB5.out.size)
      clear ho6 hb6
      go_wp2
      refine bodyPost_ret (v := .tuple #[.slice p6 l.length c6, .bool false]) (by simp [results, Try.results18, go_sem]) rfl ?_
      rw [E.out]
      exact ⟨_, _, rfl, HO6.out, HB6.out⟩
end Go.Proofs.Ytkoeodmneedjcaa.SpAddI

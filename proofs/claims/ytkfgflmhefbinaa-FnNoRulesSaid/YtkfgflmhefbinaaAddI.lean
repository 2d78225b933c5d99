/- Contracts of slices.Grow and slices.Concat on rules, and of the program's AddRule. -/
import Derived.Test.YtkfgflmhefbinaaRows
import Derived.Test.YtkfgflmhefbinaaCopyI
import Derived.Test.YtkfgflmhefbinaaRuleP
import Derived.Test.YtkfgflmhefbinaaRuleC
namespace Go.Proofs.Ytkfgflmhefbinaa.AddI
open Go.RowKit RowN TRule BookMath BookLaws RuleRow Box TBook CopyI
def IsRoom (w : World) (e : Ending) (w' : World) : Prop := ∃ (g c : Nat), e = .returned (.slice (some ⟨g, 0, none⟩) 0 c) ∧ Owns fc 7 w' w.heap.size T (.slice (some ⟨g, 0, none⟩) 0 c) [] ∧ Below w.heap.size w w'
set_option maxHeartbeats 1000000 in
theorem grow_i (w : World) (n : Nat) (h0 : 0 < n) (hn : n ≤ 1099511627776) :
    Calls Try.prog 104 #[.slice none 0 0, .int .i64 (n : Int)] w (IsRoom w) := by
  have hrz := fun ty => run_zerosN (P := Try.prog) ft (by omega) .i64 Try.underlying3 w ty n h0 hn
  have hown := Lib.hid (owns_room (f := fc) (c := 7) (P := Try.prog) ft w w.heap.size n (Nat.le_refl _) hn)
  have hb : Below w.heap.size w (w.drew.alloc (.cells (Builtin.zeroCells (fv e0).cells n ++ Builtin.zeroCells (fv e0).cells (grownCap w n 0 T - n)) T)) := BelowKit.bl_alloc (BelowKit.bl_drew (Below.refl _ _))
  have HB := Lib.hid hb
  have d1 : decide ((n : Int) < 0) = false := decide_eq_false (by omega)
  have d2 : decide ((0 : Int) < (n : Int)) = true := decide_eq_true (by omega)
  have d3 : decide (0 < n) = true := decide_eq_true h0
  have hcn := grownCap_ge w n 0 T
  obtain ⟨G, hG⟩ : ∃ G, grownCap w n 0 T = G := ⟨_, rfl⟩
  rw [hG] at hrz hown HB hcn
  obtain ⟨W, hW⟩ : ∃ W, w.drew.alloc (.cells (Builtin.zeroCells (fv e0).cells n ++ Builtin.zeroCells (fv e0).cells (G - n)) T) = W := ⟨_, rfl⟩
  rw [hW] at hown HB
  simp only [hW] at hrz
  clear hb hG hW
  go_enter Try.func104, Try.ntmps104
  go_wp2_with (at_builtin; refine Lib.wpList_append_run _ rfl _ _ _ _ rfl _ _ rfl rfl _ _ (hrz _) ?_)
  all_goals (go_ret; exact ⟨w.heap.size, G, rfl, hown.out, HB.out⟩)
/-- The answer is the row of the elements l in new memory. -/
def IsLi (l : List El) (w : World) (e : Ending) (w' : World) : Prop := IsCl fc 7 T l w e w'
def sizeAt (m : Nat) : Nat → Nat
  | 0 => 0
  | 1 => m
  | _ => m + 1
def rowAt (xs : List El) (y : El) : Nat → List El
  | 0 => []
  | 1 => xs
  | _ => xs ++ [y]
set_option maxHeartbeats 4000000 in
theorem concat_i (w : World) (g : Nat) (a : Option Addr) (m cap : Nat) (q : Option Addr) (k : Nat) (xs : List El) (y : El) (hm : xs.length = m) (hs : m ≤ 1048576) (h0 : w.cell? ⟨g, 0, none⟩ = some (.slice a m cap)) (h1 : w.cell? ⟨g, 1, none⟩ = some (.slice q 1 k)) (hg : g < w.heap.size)
    (h : Reads fc 7 w a xs) (hy : Reads fc 7 w q [y]) :
    Calls Try.prog 66 #[.slice (some ⟨g, 0, none⟩) 2 2] w (IsLi (xs ++ [y]) w) := by
  have KK := Lib.hid h
  have KY := Lib.hid hy
  have HM := Lib.hid hm
  have H0 := Lib.hid h0
  have H1 := Lib.hid h1
  have HG := Lib.hid hg
  clear h hy hm
  go_enter Try.func66, Try.ntmps66
  go_wp2
  go_loopw [3, 11] (fun s i wr => ∃ k : Nat, k ≤ 2 ∧ i = .int .i64 (k : Int) ∧ s = .int .i64 (sizeAt m k : Int) ∧ w = wr) (fun _ i _ => 2 - (intOf i).toNat)
  case atStart => exact ⟨0, by omega, rfl, rfl, rfl⟩
  case round =>
    obtain ⟨k, hk, rfl, rfl, rfl⟩ := hrel
    rcases (show k = 0 ∨ k = 1 ∨ k = 2 by omega) with rfl | rfl | rfl
    · have e0 : sizeAt m 0 = 0 := rfl
      rw [e0]
      clear h1
      have d1 : decide ((m : Int) < 0) = false := decide_eq_false (by omega)
      go_wp2
      go_roundw
      case rel => exact ⟨1, by omega, rfl, rfl, trivial⟩
      case measure => simp [intOf]
    · have e0 : sizeAt m 1 = m := rfl
      rw [e0]
      clear h0
      have d1 : decide ((m : Int) + 1 < 0) = false := decide_eq_false (by omega)
      go_wp2
      go_roundw
      case rel => exact ⟨2, by omega, rfl, by simp [sizeAt], trivial⟩
      case measure => simp [intOf]
    · have e0 : sizeAt m 2 = m + 1 := rfl
      rw [e0]
      clear h0 h1
      obtain ⟨N, hN⟩ : ∃ N, m + 1 = N := ⟨_, rfl⟩
      have hN0 : 0 < N := by omega
      have hN1 : N ≤ 1099511627776 := by omega
      rw [hN]
      clear hN e0
      go_wp2_with fail
      refine (grow_i _ N hN0 hN1).mono ?_
      rintro e w1 ⟨g', c', rfl, ho, hb⟩
      have c0 := ((BelowKit.bcell hb).1 _ 0 HG.out).trans H0.out
      have c1 := ((BelowKit.bcell hb).1 _ 1 HG.out).trans H1.out
      have HB0 := Lib.hid hb
      have HO0 := Lib.hid ho
      have hz1 := hb.size
      clear hb ho
      go_wp2
      go_loopw [6, 27] (fun v i wr => ∃ k : Nat, k ≤ 2 ∧ i = .int .i64 (k : Int) ∧ Hid (Owns fc 7 wr w.heap.size T v (rowAt xs y k)) ∧ Hid (Below w.heap.size w wr)) (fun _ i _ => 2 - (intOf i).toNat)
      case atStart => exact ⟨0, by omega, rfl, HO0, HB0⟩
      case round =>
        obtain ⟨k, hk, rfl, HO, HB⟩ := hrel
        clear c0 c1 hz1
        rcases (show k = 0 ∨ k = 1 ∨ k = 2 by omega) with rfl | rfl | rfl
        · have c0 := ((BelowKit.bcell HB.out).1 _ 0 HG.out).trans H0.out
          have hz := HB.out.size
          go_wp2_with (at_builtin; refine wpList_append_readsN ft fw _ (o := ⟨some 33, _, _, _, _, _⟩) rfl (.tmp 31) (.tmp 32) rfl w.heap.size _ [] rfl HO.out a cap m xs HM.out rfl (KK.out.on HB.out) ?_ ?_ ?_; (simp; omega); (omega); intro v' w' hown' hg' _; have HB' := Lib.hid (HB.out.grown hg' hz (fun k hk => HO.out.low k hk)); have HO' := Lib.hid hown'; clear hown' hg')
          go_roundw
          case rel => exact ⟨1, by omega, rfl, HO', HB'⟩
          case measure => simp [intOf]
        · have c1 := ((BelowKit.bcell HB.out).1 _ 1 HG.out).trans H1.out
          have hz := HB.out.size
          go_wp2_with (at_builtin; refine wpList_append_readsN ft fw _ (o := ⟨some 33, _, _, _, _, _⟩) rfl (.tmp 31) (.tmp 32) rfl w.heap.size _ xs rfl HO.out q _ 1 [y] rfl rfl (KY.out.on HB.out) ?_ ?_ ?_; (have := HM.out; omega); (omega); intro v' w' hown' hg' _; have HB' := Lib.hid (HB.out.grown hg' hz (fun k hk => HO.out.low k hk)); have HO' := Lib.hid hown'; clear hown' hg')
          go_roundw
          case rel => exact ⟨2, by omega, rfl, HO', HB'⟩
          case measure => simp [intOf]
        · have hO : Owns fc 7 _ w.heap.size T _ (xs ++ [y]) := HO.out
          obtain ⟨a', c', rfl, _⟩ := hO.form fw
          have HO2 := Lib.hid hO
          obtain ⟨n, hn⟩ : ∃ n, (xs ++ [y]).length = n := ⟨_, rfl⟩
          have HNN := Lib.hid hn
          rw [hn] at HO2 ⊢
          clear hO hn HO
          go_wp2
          go_ret
          exact ⟨a', c', by rw [HNN.out]; rfl, by rw [HNN.out]; exact HO2.out, HB.out⟩
set_option maxHeartbeats 8000000 in
theorem add_i (w : World) (a : Option Addr) (m cap : Nat) (rs : List Ru) (x : El) (hm : rs.length = m) (hs : m ≤ 1048576) (hn : Few rs) (hx : x.r.Nodes.length ≤ 1099511627776) (h : RdD w a rs) (hr : Reads TNode.fc 6 w x.p x.r.Nodes) :
    Calls Try.prog 27 #[.agg #[.slice a m cap], fv x] w (IsAdd (added rs x.r).1 (added rs x.r).2 w) := by
  obtain ⟨xs, ex, h0⟩ := h
  have KK := Lib.hid h0
  have KD := Lib.hid (show RdD w a rs from ⟨xs, ex, h0⟩)
  have KY := Lib.hid hr
  have HX := Lib.hid ex
  have HXL := Lib.hid (show xs.length = m by rw [← hm, ← ex, List.length_map])
  have HM := Lib.hid hm
  have HN := Lib.hid hn
  have HN2 := Lib.hid (few_snoc hn hx)
  have HMAP := Lib.hid (show (xs ++ [x]).map (·.r) = rs ++ [x.r] by rw [List.map_append, ex]; rfl)
  obtain ⟨b, hb⟩ : ∃ b, bookB (rs ++ [x.r]) = b := ⟨_, rfl⟩
  have HBK := Lib.hid hb
  have HY1 := Lib.hid (fun e => added_yes (rs := rs) (r := x.r) e)
  have HY2 := Lib.hid (fun e => added_no (rs := rs) (r := x.r) e)
  obtain ⟨xn, hxn⟩ : ∃ n, x.r.Nodes.length = n := ⟨_, rfl⟩
  have HXN := Lib.hid hxn
  have HRD := Lib.hid (newD · x)
  obtain ⟨A, hA⟩ : ∃ A, added rs x.r = A := ⟨_, rfl⟩
  have HA := Lib.hid hA
  rw [hA]
  unfold fv
  rw [hxn] at HRD ⊢
  clear h0 hr ex hm hn hx hb hxn hA
  go_enter Try.func27, Try.ntmps27
  go_wp2_with fail
  refine (concat_i _ (w.heap.size + 1 + 1 + 1 + 1) a m cap (some ⟨w.heap.size + 1 + 1 + 1, 0, none⟩) 1 xs x HXL.out hs (by simp [go_sem]) (by simp [go_sem]) (by simp) (KK.out.out.on (by (repeat (first | exact Below.refl _ _ | apply BelowKit.bl_alloc | apply BelowKit.bl_drewN | apply BelowKit.bl_drew | (refine BelowKit.bl_set ?_ _ ?_; rotate_left; (first | omega | (simp; omega) | simp)) | (refine BelowKit.bl_trans ?_ (‹Hid (Below _ _ _)›).out))))) ?_).mono ?_
  · exact (HRD.out _ _ (by simp)).on (BelowKit.bl_alloc (Below.refl _ _))
  rintro e w1 ⟨p, c, rfl, ho, hb⟩
  have hlen : (xs ++ [x]).length = m + 1 := by have := HXL.out; simp; omega
  rw [hlen] at ho ⊢
  have c0 : w1.cell? ⟨w.heap.size, 0, none⟩ = some (.slice a m cap) := ((BelowKit.bcell hb).1 _ _ (by simp; omega)).trans (by simp [go_sem])
  have c2 : w1.cell? ⟨w.heap.size + 1 + 1, 0, none⟩ = some (.slice none 0 0) := ((BelowKit.bcell hb).1 _ _ (by simp)).trans (by simp [go_sem])
  have f2 : w1.frozen? ⟨w.heap.size + 1 + 1, 0, none⟩ = false := ((BelowKit.bcell hb).2 _ _ (by simp)).trans (by simp [go_sem])
  have z1 : w.heap.size + 1 + 1 < w1.heap.size := by have := hb.size; simp at this; omega
  have hbw : Below w.heap.size w w1 := BelowKit.bl_trans (by (repeat (first | exact Below.refl _ _ | apply BelowKit.bl_alloc | apply BelowKit.bl_drewN | apply BelowKit.bl_drew | (refine BelowKit.bl_set ?_ _ ?_; rotate_left; (first | omega | (simp; omega) | simp)) | (refine BelowKit.bl_trans ?_ (‹Hid (Below _ _ _)›).out)))) hb
  have HBW := Lib.hid hbw
  have HRL := Lib.hid (show RdD w1 p (rs ++ [x.r]) from ⟨xs ++ [x], HMAP.out, reads_snoc ho (fun j hj => (KK.out.inn j hj).on hbw) (KY.out.on hbw)⟩)
  have HL := Lib.hid (show (rs ++ [x.r]).length = m + 1 by have := HM.out; simp; omega)
  have HCAP := Lib.hid (own_cap ho)
  clear hb ho hlen hbw KK KY HRD
  go_wp2_with fail
  refine (BookI.book_i _ p (m + 1) c (rs ++ [x.r]) HL.out HCAP.out (by omega) HN2.out (HRL.out.on (by (repeat (first | exact Below.refl _ _ | apply BelowKit.bl_alloc | apply BelowKit.bl_drewN | apply BelowKit.bl_drew | (refine BelowKit.bl_set ?_ _ ?_; rotate_left; (first | omega | (simp; omega) | simp)) | (refine BelowKit.bl_trans ?_ (‹Hid (Below _ _ _)›).out)))))).mono ?_
  rintro e w2 ⟨rfl, hb⟩
  rw [HBK.out]
  have n0 : w2.cell? ⟨w1.heap.size, 0, none⟩ = some (.slice p (m + 1) c) := ((BelowKit.bcell hb).1 _ _ (by simp)).trans (by simp [go_sem])
  have hb1 : Below w1.heap.size w1 w2 := BelowKit.bl_trans (BelowKit.bl_alloc (Below.refl _ _)) hb
  have d0 := ((BelowKit.bcell hb1).1 _ 0 (show w.heap.size < w1.heap.size by omega)).trans c0
  have d2 := ((BelowKit.bcell hb1).1 _ 0 z1).trans c2
  have e2 := ((BelowKit.bcell hb1).2 _ 0 z1).trans f2
  have z2 : w.heap.size + 1 + 1 < w2.heap.size := Nat.lt_of_lt_of_le z1 hb1.size
  have z3 : w1.heap.size < w2.heap.size := by have := hb.size; simp at this; omega
  have HB2 := Lib.hid (BelowKit.bl_trans HBW.out hb1)
  have HRL2 := Lib.hid (HRL.out.on hb1)
  clear hb hb1 c0 c2 f2 HRL
  cases b with
  | false =>
    have E := Lib.hid (show A = (rs, false) by rw [← HA.out]; exact HY2.out HBK.out)
    clear HY1 HY2
    go_wp2_with fail
    refine (copy_i _ a m cap rs HM.out (by omega) HN.out (KD.out.on HB2.out)).mono ?_
    rintro e w3 ⟨p3, c3, rfl, ho, hb⟩
    rw [HM.out] at ho ⊢
    have g2 := ((BelowKit.bcell hb).1 _ 0 z2).trans d2
    have h2 := ((BelowKit.bcell hb).2 _ 0 z2).trans e2
    have z4 : w.heap.size + 1 + 1 < w3.heap.size := Nat.lt_of_lt_of_le z2 hb.size
    have HB3 := Lib.hid (BelowKit.bl_trans HB2.out hb)
    have HO := Lib.hid (OwD.base (ho.box (b := w.heap.size + 1 + 1) (o := 0) (.inl (by omega)) (.slice p3 m c3)) (show w.heap.size ≤ w2.heap.size by omega))
    clear hb ho
    go_wp2
    refine bodyPost_ret (v := .tuple #[.agg #[.slice p3 m c3], .bool false]) (by simp [results, Try.results27, go_sem, g2]) rfl ⟨p3, c3, ?_, ?_, ?_⟩
    · rw [E.out, HM.out]
    · rw [E.out]
      simp only [HM.out]
      have e : ∀ (W : World) (a : Addr) (u : Value), (W.setCell a u).heap.size = W.heap.size := fun W a u => by simp
      rw [e]
      exact HO.out
    · exact HB3.out.setCell (p := ⟨w.heap.size + 1 + 1, 0, none⟩) (by show w.heap.size ≤ w.heap.size + 1 + 1; omega) _
  | true =>
    have E := Lib.hid (show A = (rs ++ [x.r], true) by rw [← HA.out]; exact HY1.out HBK.out)
    clear HY1 HY2
    go_wp2_with fail
    refine (copy_i _ p (m + 1) c (rs ++ [x.r]) HL.out (by omega) HN2.out HRL2.out).mono ?_
    rintro e w3 ⟨p3, c3, rfl, ho, hb⟩
    rw [HL.out] at ho ⊢
    have g2 := ((BelowKit.bcell hb).1 _ 0 z2).trans d2
    have h2 := ((BelowKit.bcell hb).2 _ 0 z2).trans e2
    have z4 : w.heap.size + 1 + 1 < w3.heap.size := Nat.lt_of_lt_of_le z2 hb.size
    have HB3 := Lib.hid (BelowKit.bl_trans HB2.out hb)
    have HO := Lib.hid (OwD.base (ho.box (b := w.heap.size + 1 + 1) (o := 0) (.inl (by omega)) (.slice p3 (m + 1) c3)) (show w.heap.size ≤ w2.heap.size by omega))
    clear hb ho
    go_wp2
    refine bodyPost_ret (v := .tuple #[.agg #[.slice p3 (m + 1) c3], .bool true]) (by simp [results, Try.results27, go_sem, g2]) rfl ⟨p3, c3, ?_, ?_, ?_⟩
    · rw [E.out, HL.out]
    · rw [E.out]
      simp only [HL.out]
      have e : ∀ (W : World) (a : Addr) (u : Value), (W.setCell a u).heap.size = W.heap.size := fun W a u => by simp
      rw [e]
      exact HO.out
    · exact HB3.out.setCell (p := ⟨w.heap.size + 1 + 1, 0, none⟩) (by show w.heap.size ≤ w.heap.size + 1 + 1; omega) _
end Go.Proofs.Ytkfgflmhefbinaa.AddI

/- Contracts of the drawn formulas. -/
import Derived.Test.YtkfgflmhefbinaaRows
import Derived.Test.YtkfgflmhefbinaaDrawNode
namespace Go.Proofs.Ytkfgflmhefbinaa.DrawFm
open Go.RowKit CurKit CurByte Cur RowN TNode NodeMath BelowKit DrawCur FracMath FracMake DrawForm DrawNode
theorem newN (w : World) (x : El) (g : Nat) (hg : w.heap.size = g) : ∀ j u, ([x].flatMap fc)[j]? = some u →
    (w.alloc (.cells #[.int .i64 x.Kind, .int .i64 x.A, .int .i64 x.B, .int .i64 x.C, .int .i64 x.Value_Num, .int .i64 x.Value_Den] 50)).cell? ((⟨g, 0, none⟩ : Addr).add j) = some u := by
  subst hg
  exact news_block (T := 50) (heap_alloc_new w _)
/-- A drawn formula: one to nine nodes, each valid at its index. -/
def SomeForm (R : World → World → Prop) (w : World) (e : Ending) (w' : World) : Prop := ∃ (l : List El) (p : Option Addr) (c : Nat), OkF l ∧ l.length ≤ 9 ∧ e = .returned (.slice p l.length c) ∧ Owns fc 6 w' w.heap.size T (.slice p l.length c) l ∧ R w w'
theorem okN_up {l : List El} {x : El} (h : ∀ i (h : i < l.length), okN l[i] (i : Int) = true) (hx : OkN x (l.length : Int)) : ∀ i (h : i < (l ++ [x]).length), okN (l ++ [x])[i] (i : Int) = true := by
  intro i hi
  by_cases h1 : i < l.length
  · rw [List.getElem_append_left h1]; exact h i h1
  · have : i = l.length := by simp at hi; omega
    subst this
    simpa using okN_yes hx
set_option maxHeartbeats 4000000 in
theorem formula_c (w0 w : World) (b : Nat) (a : Option Addr) (len cap : Nat) (hc : CurIn 111 w0 w b a len cap) :
    Calls Try.prog 57 #[.pointer (some ⟨b, 0, none⟩)] w (SomeForm (fun w w' => Goes w0 w b a len cap w') w) := by
  have HC := Lib.hid hc
  have hbl := hc.lt
  clear hc
  go_enter Try.func57, Try.ntmps57
  go_wp2
  go_loopw [3, 4] (fun v i wr => ∃ (j : Nat) (l : List El), j ≤ 9 ∧ i = .int .i64 (j : Int) ∧ Hid (l.length = j ∧ ∀ i (h : i < l.length), okN l[i] (i : Int) = true) ∧ Hid (Owns fc 6 wr w.heap.size T v l) ∧ Hid (Goes w0 w b a len cap wr)) (fun _ i _ => 9 - (intOf i).toNat)
  case atStart => exact ⟨0, [], by omega, rfl, Lib.hid ⟨rfl, fun i hi => by simp at hi⟩, Lib.hid (Owns.made w _ _ (Nat.le_refl _)), Lib.hid (goes_below ⟨HC.out, OnlyB.refl _ _⟩ (by (repeat (first | exact Below.refl _ _ | apply BelowKit.bl_alloc | apply BelowKit.bl_drewN | apply BelowKit.bl_drew | (refine BelowKit.bl_set ?_ _ ?_; rotate_left; (first | omega | (simp; omega) | simp)) | (refine BelowKit.bl_trans ?_ (‹Hid (Below _ _ _)›).out)))))⟩
  case round =>
    obtain ⟨j, l, hj, rfl, HL, HO, HG⟩ := hrel
    go_wp2_with fail
    refine (below_c w0 _ b a len cap 9 HG.out.1 (by omega)).mono ?_
    rintro e w1 ⟨x1, hx1, rfl, h1⟩
    have i1 := lt_of_max hx1 (by decide)
    have HO1 := Lib.hid (own_only HO.out hbl h1)
    have HG1 := Lib.hid (goes_trans HG.out.2 h1)
    clear h1 hx1 HO HG
    by_cases hlt : (j : Int) < 1 + (x1 : Int)
    · have dK : decide ((j : Int) < 1 + (x1 : Int)) = true := decide_eq_true hlt
      go_wp2_with fail
      refine (node_c w0 _ b a len cap (j : Int) (by omega) (by omega) HG1.out.1).mono ?_
      rintro e w2 ⟨x, hx, rfl, h2⟩
      have HX := Lib.hid hx
      have HO2 := Lib.hid (own_only HO1.out hbl h2)
      have HG2 := Lib.hid (goes_trans HG1.out.2 h2)
      have hsz : w.heap.size ≤ w2.heap.size := HG2.out.2.size
      have hj8 : j ≤ 8 := by omega
      clear h2 hx HO1 HG1
      unfold fv
      go_wp2_with (at_builtin; refine wpList_appendN ft fw _ (o := ⟨some 18, _, _, _, _, _⟩) rfl (.tmp 13) (.tmp 17) rfl w.heap.size _ l rfl (HO2.out.alloc _) ⟨w2.heap.size, 0, none⟩ 1 1 [x] (by simp) rfl (newN _ x _ rfl) ?_ ?_ ?_; (have := HL.out.1; simp; omega); (simp; omega); intro v' w' hown' hg' _; have HG' := Lib.hid (goes_grown (goes_below HG2.out (by (repeat (first | exact Below.refl _ _ | apply BelowKit.bl_alloc | apply BelowKit.bl_drewN | apply BelowKit.bl_drew | (refine BelowKit.bl_set ?_ _ ?_; rotate_left; (first | omega | (simp; omega) | simp)) | (refine BelowKit.bl_trans ?_ (‹Hid (Below _ _ _)›).out))))) hg' (fun k hk => HO2.out.low k hk) hbl); have HO' := Lib.hid hown'; clear hown' hg')
      go_roundw
      case rel => exact ⟨j + 1, l ++ [x], by omega, by go_num, Lib.hid ⟨by simp [HL.out.1], okN_up HL.out.2 (by rw [HL.out.1]; exact HX.out)⟩, HO', HG'⟩
      case measure => simp [intOf]; omega
    · have dK : decide ((j : Int) < 1 + (x1 : Int)) = false := decide_eq_false hlt
      have hj1 : 1 ≤ j := by omega
      obtain ⟨a', c', rfl, _⟩ := HO1.out.form fw
      go_wp2
      go_ret
      exact ⟨l, a', c', ⟨⟨by rw [HL.out.1]; exact hj1, by rw [HL.out.1]; omega⟩, HL.out.2⟩, by rw [HL.out.1]; exact hj, rfl, HO1.out, HG1.out⟩
/-- A drawn formula and its variables. -/
def SomeBoth (w : World) (e : Ending) (w' : World) : Prop := ∃ (l : List El) (p : Option Addr) (c : Nat) (vs : List Fr) (q : Option Addr) (d : Nat), OkF l ∧ l.length ≤ 9 ∧ OkVs vs ∧ e = .returned (.tuple #[.slice p l.length c, .slice q 8 d]) ∧ Owns fc 6 w' w.heap.size T (.slice p l.length c) l ∧ Owns TFrac.fc 2 w' w.heap.size TFrac.T (.slice q 8 d) vs ∧ Below w.heap.size w w'
set_option maxHeartbeats 1000000 in
theorem draw_c (w : World) (a : Option Addr) (len cap : Nat) (hcode : CodeAt w a len) (hs : len ≤ maxLen) :
    Calls Try.prog 22 #[.slice a len cap] w (SomeBoth w) := by
  have HK := Lib.hid hcode
  have HS := Lib.hid hs
  clear hcode hs
  go_enter Try.func22, Try.ntmps22
  go_wp2_with fail
  refine (new_c _ a len cap HK.out HS.out).mono ?_
  rintro e w1 ⟨rfl, h1⟩
  have H1 := Lib.hid h1
  have hz1 := h1.lt
  obtain ⟨b, hb⟩ : ∃ b, w.heap.size = b := ⟨_, rfl⟩
  have HB := Lib.hid hb
  rw [hb] at H1 hz1 ⊢
  clear h1 hb
  go_wp2_with fail
  refine (formula_c _ w1 b a len cap H1.out).mono ?_
  rintro e w2 ⟨l, p, c, hl, hl9, rfl, ho, hg⟩
  have HL := Lib.hid hl
  have HL9 := Lib.hid hl9
  have HO := Lib.hid ho
  have HG := Lib.hid hg
  clear hl hl9 ho hg
  go_wp2_with fail
  refine (given_c _ w2 b a len cap HG.out.1).mono ?_
  rintro e w3 ⟨vs, q, d, hv, rfl, hov, hgv⟩
  have HV := Lib.hid hv
  have HO2 := Lib.hid (own_only HO.out hz1 hgv)
  have HOV := Lib.hid hov
  have HG3 := Lib.hid (goes_trans HG.out.2 hgv)
  clear hv hov hgv HO
  go_wp2
  refine bodyPost_ret (v := .tuple #[.slice p l.length c, .slice q 8 d]) (by simp [results, Try.results22, go_sem]) rfl ⟨l, p, c, vs, q, d, HL.out, HL9.out, HV.out, rfl, ?_, ?_, ?_⟩
  · exact HO2.out.base (by have := HB.out; omega)
  · exact HOV.out.base (by have := HG.out.2.size; have := HB.out; omega)
  · exact HG3.out.1.bel
end Go.Proofs.Ytkfgflmhefbinaa.DrawFm

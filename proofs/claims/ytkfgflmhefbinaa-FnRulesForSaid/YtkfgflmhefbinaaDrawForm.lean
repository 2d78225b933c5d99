/- Contracts of the drawn formulas and variables. -/
import Derived.Test.YtkfgflmhefbinaaRows
import Derived.Test.YtkfgflmhefbinaaNodeMath
import Derived.Test.YtkfgflmhefbinaaCurC
import Derived.Test.YtkfgflmhefbinaaFracC
import Derived.Test.YtkfgflmhefbinaaKit
import Derived.Lib.Hide
namespace Go.Proofs.Ytkfgflmhefbinaa.DrawForm
open Go.RowKit CurKit CurByte Cur RowN TNode NodeMath BelowKit DrawCur FracMath FracMake
theorem lt_of_max {y n : Int} (h : y < max n 1) (h0 : 1 ≤ n) : y < n := by
  rw [Int.max_eq_left (by omega)] at h
  exact h
theorem goes_below {w0 w w1 w2 : World} {b len cap : Nat} {a : Option Addr} (h : Goes w0 w b a len cap w1) (hb : Below w1.heap.size w1 w2) : Goes w0 w b a len cap w2 :=
  ⟨h.1.below hb h.1.lt, h.2.trans ⟨hb.os, hb.tape, hb.output, hb.size, fun k hk _ => hb.block k hk⟩⟩
theorem goes_grown {w0 w w1 w2 : World} {b len cap : Nat} {a : Option Addr} {row : Option Nat} (h : Goes w0 w b a len cap w1) (hg : w1.grownBy w2 row) (hr : ∀ k, row = some k → w.heap.size ≤ k) (hb : b < w.heap.size) : Goes w0 w b a len cap w2 :=
  ⟨h.1.keep hg (fun e => by have := hr b e.symm; omega) (fun k hk => by have := hr k hk; have := h.1.low; omega),
   hg.os.trans h.2.os, hg.tape.trans h.2.tape, hg.output.trans h.2.output, Nat.le_trans h.2.size hg.size, fun k hk hne => (hg.block k (Nat.lt_of_lt_of_le hk h.2.size) (fun e => by have := hr k e.symm; omega)).trans (h.2.block k hk hne)⟩
theorem own_only {α : Type} {f : α → List Value} {c b B T len cap : Nat} {w0 w1 w2 : World} {a : Option Addr} {v : Value} {l : List α} (h : Owns f c w1 B T v l) (hB : b < B) (g : Goes w0 w1 b a len cap w2) : Owns f c w2 B T v l := h.kept g.2 (.inr (fun e => by have := h.low b e; omega))
theorem new_ok {n d : Int} (h1 : -1000 ≤ n) (h2 : n ≤ 1000) (h3 : 1 ≤ d) (h4 : d ≤ 60) : ∃ x y, newR n d = (x, y, true) ∧ okB x y = true := by
  obtain ⟨x, y, h, _⟩ := new_small h1 h2 h3 h4
  refine ⟨x, y, h, ?_⟩
  have hr : newR n d = red n d := by rw [newR, if_pos ⟨⟨by omega, by omega⟩, by omega, by omega⟩]
  rw [hr] at h
  have := red_okB (n := n) (d := d) (by rw [h])
  rw [h] at this
  exact this
theorem newF (w : World) (x : Fr) (g : Nat) (hg : w.heap.size = g) : ∀ j u, ([x].flatMap TFrac.fc)[j]? = some u →
    (w.alloc (.cells #[.int .i64 x.Num, .int .i64 x.Den] 44)).cell? ((⟨g, 0, none⟩ : Addr).add j) = some u := by
  subst hg
  exact news_block (T := 44) (heap_alloc_new w _)
def SomeGiven (R : World → World → Prop) (w : World) (e : Ending) (w' : World) : Prop := ∃ (vs : List Fr) (p : Option Addr) (c : Nat), OkVs vs ∧ e = .returned (.slice p 8 c) ∧ Owns TFrac.fc 2 w' w.heap.size TFrac.T (.slice p 8 c) vs ∧ R w w'
set_option maxHeartbeats 4000000 in
theorem given_c (w0 w : World) (b : Nat) (a : Option Addr) (len cap : Nat) (hc : CurIn 111 w0 w b a len cap) :
    Calls Try.prog 58 #[.pointer (some ⟨b, 0, none⟩)] w (SomeGiven (fun w w' => Goes w0 w b a len cap w') w) := by
  have HC := Lib.hid hc
  have hbl := hc.lt
  clear hc
  go_enter Try.func58, Try.ntmps58
  go_wp2
  go_loopw [3, 4] (fun v i wr => ∃ (j : Nat) (l : List Fr), j ≤ 8 ∧ i = .int .i64 (j : Int) ∧ Hid (l.length = j ∧ ∀ x ∈ l, okV x = true) ∧ Hid (Owns TFrac.fc 2 wr w.heap.size TFrac.T v l) ∧ Hid (Goes w0 w b a len cap wr)) (fun _ i _ => 8 - (intOf i).toNat)
  case atStart => exact ⟨0, [], by omega, rfl, Lib.hid ⟨rfl, fun x hx => by cases hx⟩, Lib.hid (Owns.made w _ _ (Nat.le_refl _)), Lib.hid (goes_below ⟨HC.out, OnlyB.refl _ _⟩ (by (repeat (first | exact Below.refl _ _ | apply BelowKit.bl_alloc | apply BelowKit.bl_drewN | apply BelowKit.bl_drew | (refine BelowKit.bl_set ?_ _ ?_; rotate_left; (first | omega | (simp; omega) | simp)) | (refine BelowKit.bl_trans ?_ (‹Hid (Below _ _ _)›).out)))))⟩
  case round =>
    obtain ⟨j, l, hj, rfl, HL, HO, HG⟩ := hrel
    by_cases hlt : j < 8
    · go_wp2_with fail
      refine (below_c w0 _ b a len cap 60 HG.out.1 (by omega)).mono ?_
      rintro e w1 ⟨x1, hx1, rfl, h1⟩
      have i1 := lt_of_max hx1 (by decide)
      have HO1 := Lib.hid (own_only HO.out hbl h1)
      have HG1 := Lib.hid (goes_trans HG.out.2 h1)
      clear h1 hx1 HO HG
      go_wp2_with fail
      refine (below_c w0 _ b a len cap 4 HG1.out.1 (by omega)).mono ?_
      rintro e w2 ⟨x2, hx2, rfl, h2⟩
      have i2 := lt_of_max hx2 (by decide)
      have HO2 := Lib.hid (own_only HO1.out hbl h2)
      have HG2 := Lib.hid (goes_trans HG1.out.2 h2)
      clear h2 hx2 HO1 HG1
      go_wp2_with fail
      obtain ⟨u, d, hn, hok⟩ := new_ok (n := (x1 : Int) - 10) (d := 1 + (x2 : Int)) (by omega) (by omega) (by omega) (by omega)
      refine (FracS.new_s ((x1 : Int) - 10) (1 + (x2 : Int)) _).mono ?_
      rintro e w3 ⟨rfl, hb⟩
      rw [hn]
      have HO3 := Lib.hid (HO2.out.on hb)
      have HG3 := Lib.hid (goes_below HG2.out hb)
      have HOK := Lib.hid hok
      have hsz : w.heap.size ≤ w3.heap.size := HG3.out.2.size
      clear hb hn hok HO2 HG2
      go_wp2_with (at_builtin; refine wpList_appendN TFrac.ft TFrac.fw _ (o := ⟨some 25, _, _, _, _, _⟩) rfl (.tmp 22) (.tmp 24) rfl w.heap.size _ l rfl ((HO3.out.alloc _).alloc _) ⟨w3.heap.size + 1, 0, none⟩ 1 1 [⟨u, d⟩] (by simp) rfl (newF _ ⟨u, d⟩ _ (by simp)) ?_ ?_ ?_; (have := HL.out.1; simp; omega); (simp; omega); intro v' w' hown' hg' _; have HG' := Lib.hid (goes_grown (goes_below HG3.out (by (repeat (first | exact Below.refl _ _ | apply BelowKit.bl_alloc | apply BelowKit.bl_drewN | apply BelowKit.bl_drew | (refine BelowKit.bl_set ?_ _ ?_; rotate_left; (first | omega | (simp; omega) | simp)) | (refine BelowKit.bl_trans ?_ (‹Hid (Below _ _ _)›).out))))) hg' (fun k hk => HO3.out.low k hk) hbl); have HO' := Lib.hid hown'; clear hown' hg')
      go_roundw
      case rel => exact ⟨j + 1, l ++ [⟨u, d⟩], by omega, by go_num, Lib.hid ⟨by simp [HL.out.1], fun x hx => by
        rcases List.mem_append.1 hx with hx | hx
        · exact HL.out.2 x hx
        · obtain rfl : x = ⟨u, d⟩ := by simpa using hx
          exact HOK.out⟩, HO', HG'⟩
      case measure => simp [intOf]; omega
    · obtain rfl : j = 8 := by omega
      obtain ⟨a', c', rfl, _⟩ := HO.out.form TFrac.fw
      have hl8 := HL.out.1
      rw [hl8] at HO ⊢
      clear hl8
      go_wp2
      go_ret
      exact ⟨l, a', c', ⟨HL.out.1, fun i hi => HL.out.2 _ (List.getElem_mem hi)⟩, rfl, HO.out, HG.out⟩
end Go.Proofs.Ytkfgflmhefbinaa.DrawForm

/- Contracts of the drawn rule and the drawn book. -/
import Derived.Test.YtkfgflmhefbinaaRows
import Derived.Test.YtkfgflmhefbinaaDrawFm
import Derived.Test.YtkfgflmhefbinaaAddS
namespace Go.Proofs.Ytkfgflmhefbinaa.DrawRule
open Go.RowKit CurKit CurByte Cur RowN TRule BookMath BookLaws RuleRow BelowKit DrawCur DrawForm DrawFm
/-- What a drawn rule is. -/
structure Drawn (r : Ru) : Prop where
  name : 1 ≤ r.Name ∧ r.Name ≤ 3
  from_ : 0 ≤ r.From ∧ r.From ≤ 79
  upto : r.From + 10 ≤ r.To ∧ r.To ≤ r.From + 89
  joined : r.Joined = 3600 ∨ (1 ≤ r.Joined ∧ r.Joined ≤ 60)
  rank : 0 ≤ r.Rank ∧ r.Rank ≤ 3
  mode : 1 ≤ r.Mode ∧ r.Mode ≤ 4
  nodes : NodeMath.OkF r.Nodes
  few : r.Nodes.length ≤ 9
theorem Drawn.ok {r : Ru} (h : Drawn r) : RuleP r :=
  ⟨by have := h.name; omega, by have := h.from_; have := h.upto; omega, by have := h.joined; omega, by have := h.rank; omega, h.mode, NodeMath.okF_yes h.nodes⟩
theorem blk7 {w : World} {g : Nat} {x0 x1 x2 x3 x4 x5 x6 : Value} {T : TypeId} (h : w.heap[g]? = some (.cells #[x0, x1, x2, x3, x4, x5, x6] T (0, 0))) :
    (w.cell? ⟨g, 0, none⟩ = some x0 ∧ w.cell? ⟨g, 1, none⟩ = some x1 ∧ w.cell? ⟨g, 2, none⟩ = some x2 ∧ w.cell? ⟨g, 3, none⟩ = some x3 ∧ w.cell? ⟨g, 4, none⟩ = some x4 ∧ w.cell? ⟨g, 5, none⟩ = some x5 ∧ w.cell? ⟨g, 6, none⟩ = some x6) ∧
    ∀ o, w.frozen? ⟨g, o, none⟩ = false := by
  refine ⟨⟨?_, ?_, ?_, ?_, ?_, ?_, ?_⟩, fun o => ?_⟩
  all_goals simp [World.cell?, World.frozen?, h]
theorem lt_blk {w : World} {g : Nat} {x : Obj} (h : w.heap[g]? = some x) : g < w.heap.size := (Array.getElem?_eq_some_iff.1 h).1
theorem keep_blk {w w' : World} {b g : Nat} {x : Obj} (h : w.heap[g]? = some x) (k : OnlyB b w w') (hne : g ≠ b) : w'.heap[g]? = some x := (k.block g (lt_blk h) (fun e => hne (Option.some.inj e))).trans h
def SomeRule (R : World → World → Prop) (w : World) (e : Ending) (w' : World) : Prop := ∃ (x0 x1 x2 x3 x4 x5 : Int) (l : List TNode.El) (p : Option Addr) (n c : Nat), Drawn ⟨x0, x1, x2, x3, x4, x5, l⟩ ∧ l.length = n ∧ e = .returned (.agg #[.int .i64 x0, .int .i64 x1, .int .i64 x2, .int .i64 x3, .int .i64 x4, .int .i64 x5, .slice p n c]) ∧ Own.Ow TNode.fc 6 TNode.T w' w.heap.size w'.heap.size (.slice p n c) l ∧ R w w'
set_option maxHeartbeats 8000000 in
theorem one_c (w0 w : World) (b : Nat) (a : Option Addr) (len cap : Nat) (hc : CurIn 111 w0 w b a len cap) :
    Calls Try.prog 85 #[.pointer (some ⟨b, 0, none⟩)] w (SomeRule (fun w w' => Goes w0 w b a len cap w') w) := by
  have HC := Lib.hid hc
  have hbl := hc.lt
  have hlo := hc.low
  obtain ⟨B, hB⟩ : ∃ B, w.heap.size = B := ⟨_, rfl⟩
  have HBB := Lib.hid hB
  have HNE := Lib.hid (show B ≠ b by omega)
  have h0 : (w.alloc (.cells #[.int .i64 0, .int .i64 0, .int .i64 0, .int .i64 0, .int .i64 0, .int .i64 0, .slice none 0 0] 34)).heap[B]? = some (.cells #[.int .i64 0, .int .i64 0, .int .i64 0, .int .i64 0, .int .i64 0, .int .i64 0, .slice none 0 0] 34 (0, 0)) := by
    rw [← hB]; exact heap_alloc_new w _
  have HG0 := Lib.hid (show Goes w0 w b a len cap (w.alloc (.cells #[.int .i64 0, .int .i64 0, .int .i64 0, .int .i64 0, .int .i64 0, .int .i64 0, .slice none 0 0] 34)) from goes_below ⟨HC.out, OnlyB.refl _ _⟩ (by (repeat (first | exact Below.refl _ _ | apply BelowKit.bl_alloc | apply BelowKit.bl_drewN | apply BelowKit.bl_drew | (refine BelowKit.bl_set ?_ _ ?_; rotate_left; (first | omega | (simp; omega) | simp)) | (refine BelowKit.bl_trans ?_ (‹Hid (Below _ _ _)›).out)))))
  have H0 := Lib.hid h0
  clear hc h0
  go_enter Try.func85, Try.ntmps85
  go_wp2_with fail
  refine (below_c w0 _ b a len cap 80 HG0.out.1 (by omega)).mono ?_
  rintro e w1 ⟨x1, hx1, rfl, h1⟩
  have i1 := lt_of_max hx1 (by decide)
  have H1 := Lib.hid (keep_blk H0.out h1.2 HNE.out)
  have HG1 := Lib.hid (goes_trans HG0.out.2 h1)
  clear h1 hx1 H0 HG0
  go_wp2_with fail
  refine (below_c w0 _ b a len cap 3 HG1.out.1 (by omega)).mono ?_
  rintro e w2 ⟨x2, hx2, rfl, h2⟩
  have i2 := lt_of_max hx2 (by decide)
  have H2 := Lib.hid (keep_blk H1.out h2.2 HNE.out)
  have HG2 := Lib.hid (goes_trans HG1.out.2 h2)
  clear h2 hx2 H1 HG1
  go_wp2_with fail
  refine (below_c w0 _ b a len cap 80 HG2.out.1 (by omega)).mono ?_
  rintro e w3 ⟨x3, hx3, rfl, h3⟩
  have i3 := lt_of_max hx3 (by decide)
  have H3 := Lib.hid (keep_blk H2.out h3.2 HNE.out)
  have HG3 := Lib.hid (goes_trans HG2.out.2 h3)
  clear h3 hx3 H2 HG2
  go_wp2_with fail
  refine (below_c w0 _ b a len cap 4 HG3.out.1 (by omega)).mono ?_
  rintro e w4 ⟨x4, hx4, rfl, h4⟩
  have i4 := lt_of_max hx4 (by decide)
  have H4 := Lib.hid (keep_blk H3.out h4.2 HNE.out)
  have HG4 := Lib.hid (goes_trans HG3.out.2 h4)
  clear h4 hx4 H3 HG3
  go_wp2_with fail
  refine (below_c w0 _ b a len cap 4 HG4.out.1 (by omega)).mono ?_
  rintro e w5 ⟨x5, hx5, rfl, h5⟩
  have i5 := lt_of_max hx5 (by decide)
  have H5 := Lib.hid (keep_blk H4.out h5.2 HNE.out)
  have HG5 := Lib.hid (goes_trans HG4.out.2 h5)
  clear h5 hx5 H4 HG4
  go_wp2_with fail
  refine (formula_c w0 _ b a len cap HG5.out.1).mono ?_
  rintro e w6 ⟨l, p, c, hl, hl9, rfl, ho, h6⟩
  have H6 := Lib.hid (keep_blk H5.out h6.2 HNE.out)
  have HG6 := Lib.hid (goes_trans HG5.out.2 h6)
  have HLO := Lib.hid (show B + 1 ≤ w5.heap.size by have := lt_blk H5.out; omega)
  have HO6 := Lib.hid (ho.base (B' := B + 1) HLO.out)
  have HL := Lib.hid hl
  have HL9 := Lib.hid hl9
  obtain ⟨n, hn⟩ : ∃ n, l.length = n := ⟨_, rfl⟩
  have HN := Lib.hid hn
  rw [hn] at HO6 ⊢
  clear h6 H5 HG5 ho hl hl9 hn
  have hbB : b < B + 1 := by omega
  obtain ⟨V, hV⟩ : ∃ V, V = w6.alloc (.cells #[.int .i64 (1 + (x2 : Int)), .int .i64 (x1 : Int), .int .i64 ((x1 : Int) + 10 + (x3 : Int)), .int .i64 3600, .int .i64 (x4 : Int), .int .i64 (1 + (x5 : Int)), .slice p n c] 34) := ⟨_, rfl⟩
  have hbV : Below w6.heap.size w6 V := by rw [hV]; exact bl_alloc (Below.refl _ _)
  have G7 := Lib.hid (show V.heap[w6.heap.size]? = some (.cells #[.int .i64 (1 + (x2 : Int)), .int .i64 (x1 : Int), .int .i64 ((x1 : Int) + 10 + (x3 : Int)), .int .i64 3600, .int .i64 (x4 : Int), .int .i64 (1 + (x5 : Int)), .slice p n c] 34 (0, 0)) by rw [hV]; exact heap_alloc_new w6 _)
  have H7 := Lib.hid ((hbV.block B (lt_blk H6.out)).trans H6.out)
  have HG7 := Lib.hid (goes_below HG6.out hbV)
  have HO7 := Lib.hid (HO6.out.on hbV)
  have HL7 := Lib.hid (show ∀ k, (Value.slice p n c).ownBlock = some k → k < w6.heap.size from HO6.out.lt)
  have hlt6 := lt_blk H6.out
  have HNE6 := Lib.hid (show w6.heap.size ≠ b by have := HG6.out.1.lt; omega)
  clear hbV H6 HG6 HO6
  go_wp2_with fail
  rw [← hV]
  clear hV
  refine (once_c w0 _ b a len cap 3 HG7.out.1 (by omega)).mono ?_
  rintro e w8 ⟨bb, rfl, h8⟩
  have H8 := Lib.hid (keep_blk H7.out h8.2 HNE.out)
  have G8 := Lib.hid (keep_blk G7.out h8.2 HNE6.out)
  have HG8 := Lib.hid (goes_trans HG7.out.2 h8)
  have HO8 := Lib.hid (own_only HO7.out hbB h8)
  clear h8 H7 G7 HG7 HO7
  cases bb with
  | false =>
    obtain ⟨⟨t0, t1, t2, t3, t4, t5, t6⟩, tf⟩ := blk7 G8.out
    obtain ⟨⟨s0, s1, s2, s3, s4, s5, s6⟩, sf⟩ := blk7 H8.out
    have f0 := sf 0; have f1 := sf 1; have f2 := sf 2; have f3 := sf 3; have f4 := sf 4; have f5 := sf 5; have f6 := sf 6
    have zB := lt_blk H8.out
    have zG := lt_blk G8.out
    have hne : w6.heap.size ≠ B := by omega
    have HBW := Lib.hid (show w.heap.size ≤ B by rw [HBB.out]; exact Nat.le_refl _)
    have HB0 := Lib.hid (show w0.heap.size ≤ B by omega)
    have HBL := Lib.hid (show b < w.heap.size from hbl)
    have HOB := Lib.hid (show (Value.slice p n c).ownBlock ≠ some B from fun e => by have := HO8.out.low _ e; omega)
    clear sf tf
    go_wp2
    refine bodyPost_ret (v := .agg #[.int .i64 (1 + (x2 : Int)), .int .i64 (x1 : Int), .int .i64 ((x1 : Int) + 10 + (x3 : Int)), .int .i64 3600, .int .i64 (x4 : Int), .int .i64 (1 + (x5 : Int)), .slice p n c]) (by simp [results, Try.results85, go_sem, s0, s1, s2, s3, s4, s5, s6]) rfl ⟨_, _, _, _, _, _, l, p, n, c, ?_, HN.out, rfl, ?_, ?_⟩
    · exact ⟨by simp only []; omega, by simp only []; omega, by simp only []; omega, .inl rfl, by simp only []; omega, by simp only []; omega, HL.out, HL9.out⟩
    · exact Own.ow_of (((((((((HO8.out.beside HOB.out _).beside HOB.out _).beside HOB.out _).beside HOB.out _).beside HOB.out _).beside HOB.out _).beside HOB.out _)).base (by have := HBB.out; omega))
    · exact goes_set (goes_set (goes_set (goes_set (goes_set (goes_set (goes_set HG8.out HBW.out HBL.out HB0.out _) HBW.out HBL.out HB0.out _) HBW.out HBL.out HB0.out _) HBW.out HBL.out HB0.out _) HBW.out HBL.out HB0.out _) HBW.out HBL.out HB0.out _) HBW.out HBL.out HB0.out _
  | true =>
    go_wp2_with fail
    refine (below_c w0 _ b a len cap 60 HG8.out.1 (by omega)).mono ?_
    rintro e w9 ⟨x9, hx9, rfl, h9⟩
    have i9 := lt_of_max hx9 (by decide)
    have H9 := Lib.hid (keep_blk H8.out h9.2 HNE.out)
    have G9 := Lib.hid (keep_blk G8.out h9.2 HNE6.out)
    have HG9 := Lib.hid (goes_trans HG8.out.2 h9)
    have HO9 := Lib.hid (own_only HO8.out hbB h9)
    clear h9 hx9 H8 G8 HG8 HO8
    obtain ⟨⟨t0, t1, t2, t3, t4, t5, t6⟩, tf⟩ := blk7 G9.out
    obtain ⟨⟨s0, s1, s2, s3, s4, s5, s6⟩, sf⟩ := blk7 H9.out
    have f0 := sf 0; have f1 := sf 1; have f2 := sf 2; have f3 := sf 3; have f4 := sf 4; have f5 := sf 5; have f6 := sf 6
    have k3 := tf 3
    have zB := lt_blk H9.out
    have zG := lt_blk G9.out
    have hne : w6.heap.size ≠ B := by omega
    have hne' : B ≠ w6.heap.size := hne.symm
    have HBW := Lib.hid (show w.heap.size ≤ B by rw [HBB.out]; exact Nat.le_refl _)
    have HB0 := Lib.hid (show w0.heap.size ≤ B by omega)
    have HBL := Lib.hid (show b < w.heap.size from hbl)
    have HGW := Lib.hid (show w.heap.size ≤ w6.heap.size by rw [HBB.out]; omega)
    have HG0 := Lib.hid (show w0.heap.size ≤ w6.heap.size by omega)
    have HOB := Lib.hid (show (Value.slice p n c).ownBlock ≠ some B from fun e => by have := HO9.out.low _ e; omega)
    have HOG := Lib.hid (show (Value.slice p n c).ownBlock ≠ some w6.heap.size from fun e => by have := HL7.out _ e; omega)
    clear sf tf
    go_wp2
    refine bodyPost_ret (v := .agg #[.int .i64 (1 + (x2 : Int)), .int .i64 (x1 : Int), .int .i64 ((x1 : Int) + 10 + (x3 : Int)), .int .i64 (1 + (x9 : Int)), .int .i64 (x4 : Int), .int .i64 (1 + (x5 : Int)), .slice p n c]) (by simp [results, Try.results85, go_sem, s0, s1, s2, s3, s4, s5, s6]) rfl ⟨_, _, _, _, _, _, l, p, n, c, ?_, HN.out, rfl, ?_, ?_⟩
    · exact ⟨by simp only []; omega, by simp only []; omega, by simp only []; omega, .inr (by simp only []; omega), by simp only []; omega, by simp only []; omega, HL.out, HL9.out⟩
    · exact Own.ow_of (((((((((HO9.out.beside HOG.out _).beside HOB.out _).beside HOB.out _).beside HOB.out _).beside HOB.out _).beside HOB.out _).beside HOB.out _).beside HOB.out _).base (by have := HBB.out; omega))
    · exact goes_set (goes_set (goes_set (goes_set (goes_set (goes_set (goes_set (goes_set HG9.out HGW.out HBL.out HG0.out _) HBW.out HBL.out HB0.out _) HBW.out HBL.out HB0.out _) HBW.out HBL.out HB0.out _) HBW.out HBL.out HB0.out _) HBW.out HBL.out HB0.out _) HBW.out HBL.out HB0.out _) HBW.out HBL.out HB0.out _
end Go.Proofs.Ytkfgflmhefbinaa.DrawRule

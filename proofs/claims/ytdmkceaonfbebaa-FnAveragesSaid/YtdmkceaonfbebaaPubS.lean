/- Contract of the model's Publish. -/
import Derived.Test.YtdmkceaonfbebaaRows
import Derived.Test.YtdmkceaonfbebaaPub
import Derived.Test.YtdmkceaonfbebaaSerS
namespace Go.Proofs.Ytdmkceaonfbebaa.PubS
open Go.RowKit RowN TPoint PointMath Box Pub
theorem Row.grown0 {w w' : World} {B g0 : Nat} {x : El} {v : Value} (h : Row w B x v) (h0 : w.heap[g0]? = some (.cells #[] T (0, 0))) (hg : w.grownBy w' (some g0)) : Row w' B x v := by
  obtain ⟨g, rfl, h1, h2, h3⟩ := h
  refine ⟨g, rfl, h1, Nat.lt_of_lt_of_le h2 hg.size, (hg.block g h2 (fun e => ?_)).trans h3⟩
  have e' := Option.some.inj e
  subst e'
  rw [h0] at h3
  simp [fc] at h3
/-- What holds when the operations of L have come up: 0 made a row, 3 filled it with the points, 4 read the new point, 5 laid it, 6 appended it, 8 laid the series' block, 9 stored it there. -/
structure InvS (W : World) (l : List El) (x : El) (p : Option Addr) (m cap b : Nat) (L : Nat → Bool) (v7 v13 v14 v15 v16 v17 v18 v19 v20 : Value) (w : World) : Prop where
  bel : Below W.heap.size W w
  h0 : L 0 = true → L 3 = false → ∃ g, v13 = .slice (some ⟨g, 0, none⟩) 0 0 ∧ w.heap[g]? = some (.cells #[] T (0, 0)) ∧ Owns fc 3 w W.heap.size T (.slice (some ⟨g, 0, none⟩) 0 0) []
  h1 : L 1 = true → v14 = .pointer (some ⟨b, 0, none⟩)
  h2 : L 2 = true → v15 = .slice p m cap
  h3 : L 3 = true → L 6 = false → Owns fc 3 w W.heap.size T v16 l
  h4 : L 4 = true → v17 = fv x
  h5 : L 5 = true → L 6 = false → Row w W.heap.size x v18
  h6 : L 6 = true → Owns fc 3 w W.heap.size T v19 (l ++ [x])
  h7 : L 7 = true → v20 = .agg #[v19]
  h8 : L 8 = true → L 9 = false → Blk w W.heap.size (.slice none 0 0) v7
  h9 : L 9 = true → Blk w W.heap.size v19 v7
  c6 : L 6 = true → L 3 = true
  c7 : L 7 = true → L 6 = true
  c9 : L 9 = true → L 7 = true ∧ L 8 = true
theorem made_on {w w' : World} {B : Nat} {v : Value} (h : ∃ g, v = .slice (some ⟨g, 0, none⟩) 0 0 ∧ w.heap[g]? = some (.cells #[] T (0, 0)) ∧ Owns fc 3 w B T (.slice (some ⟨g, 0, none⟩) 0 0) []) (hb : Below w.heap.size w w') :
    ∃ g, v = .slice (some ⟨g, 0, none⟩) 0 0 ∧ w'.heap[g]? = some (.cells #[] T (0, 0)) ∧ Owns fc 3 w' B T (.slice (some ⟨g, 0, none⟩) 0 0) [] := by
  obtain ⟨g, rfl, h1, h2⟩ := h
  exact ⟨g, rfl, (hb.block g (lt_of_block h1)).trans h1, h2.on hb⟩
set_option maxHeartbeats 8000000 in
theorem pub_s (w : World) (p : Option Addr) (m cap : Nat) (l : List El) (x : El) (hm : l.length = m) (hs : m ≤ 1048576) (h : Reads fc 3 w p l) :
    Calls Try.prog 35 #[.agg #[.slice p m cap], .agg #[.int .i64 x.Month, .int .i64 x.Known, .int .i64 x.Value]] w (IsPub (added l x).1 (added l x).2 w) := by
  have KK := Lib.hid h
  have HM := Lib.hid hm
  clear h hm
  go_enter Try.func35, Try.ntmps35
  go_wp2_with (
    at_builtin
    refine wpList_append_readsN ft fw _ rfl (.tmp 8) (.tmp 10) rfl (w.heap.size + 1 + 1 + 1) (.slice (some ⟨w.heap.size + 1 + 1 + 1, 0, none⟩) 0 0) [] rfl ?c1 p cap m l HM.out rfl ?c2 ?c3 ?c4 ?_
    rotate_left 4
    intro v' w' hown' hg' hat'
    obtain ⟨p', c', rfl, _⟩ := hown'.form fw
    have HB := Lib.hid ((BelowKit.bl_alloc (BelowKit.bl_alloc (BelowKit.bl_alloc (BelowKit.bl_alloc (Below.refl w.heap.size w))))).grown hg' (by first | omega | (simp; done) | (simp; omega)) (by first | (simp [Value.ownBlock]; done) | (simp [Value.ownBlock]; omega)))
    have c0 : w'.cell? ⟨w.heap.size, 0, none⟩ = some (.slice p m cap) := (hg'.cell_far ⟨w.heap.size, 0, none⟩ (by first | omega | (simp; done) | (simp; omega)) (by first | (simp [Value.ownBlock]; done) | (simp [Value.ownBlock]; omega))).trans (by simp [go_sem])
    have d0 : w'.cell? ⟨w.heap.size + 1, 0, none⟩ = some (.int .i64 x.Month) := (hg'.cell_far ⟨w.heap.size + 1, 0, none⟩ (by first | omega | (simp; done) | (simp; omega)) (by simp [Value.ownBlock])).trans (by simp [go_sem])
    have d1 : w'.cell? ⟨w.heap.size + 1, 1, none⟩ = some (.int .i64 x.Known) := (hg'.cell_far ⟨w.heap.size + 1, 1, none⟩ (by first | omega | (simp; done) | (simp; omega)) (by simp [Value.ownBlock])).trans (by simp [go_sem])
    have d2 : w'.cell? ⟨w.heap.size + 1, 2, none⟩ = some (.int .i64 x.Value) := (hg'.cell_far ⟨w.heap.size + 1, 2, none⟩ (by first | omega | (simp; done) | (simp; omega)) (by simp [Value.ownBlock])).trans (by simp [go_sem])
    have y1 : w'.cell? ⟨w.heap.size + 1 + 1, 0, none⟩ = some (.slice none 0 0) := (hg'.cell_far ⟨w.heap.size + 1 + 1, 0, none⟩ (by first | omega | (simp; done) | (simp; omega)) (by simp [Value.ownBlock])).trans (by simp [go_sem])
    have y2 : w'.frozen? ⟨w.heap.size + 1 + 1, 0, none⟩ = false := (hg'.frozen_far ⟨w.heap.size + 1 + 1, 0, none⟩ (by first | omega | (simp; done) | (simp; omega)) (by simp [Value.ownBlock])).trans (by simp [go_sem])
    have zz : w.heap.size + 1 + 1 + 1 < w'.heap.size := by have := hg'.size; simp at this; omega
    have HO := Lib.hid hown'
    clear hown' hg' hat')
  case c1 =>
    have h1 : w.heap.size + 1 + 1 + 1 ≤ (((w.alloc (.cells #[.slice p m cap] 29)).alloc (.cells #[.int .i64 x.Month, .int .i64 x.Known, .int .i64 x.Value] 43)).alloc (.cells #[.slice none 0 0] 29)).heap.size := (by first | omega | (simp; done) | (simp; omega))
    simpa using Owns.made (f := fc) (c := 3) _ _ T h1
  case c2 => exact KK.out.on (by (repeat (first | exact Below.refl _ _ | apply BelowKit.bl_alloc | apply BelowKit.bl_drewN | apply BelowKit.bl_drew | (refine BelowKit.bl_set ?_ _ ?_; rotate_left; (first | omega | (simp; omega) | simp)) | (refine BelowKit.bl_trans ?_ (‹Hid (Below _ _ _)›).out))))
  case c3 => simp; omega
  case c4 => simp
  have hm0 : ([] ++ l).length = m := by simpa using HM.out
  have HO := Lib.hid (show Owns fc 3 w' (w.heap.size + 1 + 1 + 1) T (.slice p' m c') l by have := HO.out; rwa [hm0, List.nil_append] at this)
  simp only [HM.out]
  obtain ⟨W, hW⟩ : ∃ W, W = w'.alloc (.cells #[.slice p' m c'] 29) := ⟨_, rfl⟩
  rw [← hW]
  have hbase := BelowKit.bl_alloc (o := .cells #[.slice p' m c'] 29) (Below.refl w'.heap.size w')
  have hgO : W.cell? ⟨w'.heap.size, 0, none⟩ = some (.slice p' m c') := by rw [hW]; simp [go_sem]
  rw [← hW] at hbase
  obtain ⟨hc, hf⟩ := BelowKit.bcell hbase
  have hbW : Below w.heap.size w W := BelowKit.bl_trans HB.out hbase
  have hzW : w'.heap.size < W.heap.size := by rw [hW]; simp
  have c0 := (hc w.heap.size 0 (by omega)).trans c0
  have d0 := (hc (w.heap.size + 1) 0 (by omega)).trans d0
  have d1 := (hc (w.heap.size + 1) 1 (by omega)).trans d1
  have d2 := (hc (w.heap.size + 1) 2 (by omega)).trans d2
  have y1 := (hc (w.heap.size + 1 + 1) 0 (by omega)).trans y1
  have y2 := (hf (w.heap.size + 1 + 1) 0 (by omega)).trans y2
  have HOW := Lib.hid (HO.out.on hbase)
  clear hW hc hf hbase HO hm0
  refine RegInv.wp_region_inv (fun L a w'' => ∃ v7 v13 v14 v15 v16 v17 v18 v19 v20, a = ⟨#[.agg #[.slice p m cap], .agg #[.int .i64 x.Month, .int .i64 x.Known, .int .i64 x.Value], .pointer (some ⟨w.heap.size, 0, none⟩), .pointer (some ⟨w.heap.size + 1, 0, none⟩), .pointer (some ⟨w.heap.size + 1 + 1, 0, none⟩), .bool false, .pointer (some ⟨w'.heap.size, 0, none⟩), v7, .slice (some ⟨w.heap.size + 1 + 1 + 1, 0, none⟩) 0 0, .pointer (some ⟨w.heap.size, 0, none⟩), .slice p m cap, .slice p' m c', .agg #[.slice p' m c'], v13, v14, v15, v16, v17, v18, v19, v20, undef, undef, undef, undef, undef, undef, undef, undef, undef, undef], []⟩ ∧ InvS W l x p m cap w.heap.size L v7 v13 v14 v15 v16 v17 v18 v19 v20 w'') (by kernel_rfl) (by kernel_rfl) ?_ ?_ ?_
  · exact ⟨_, _, _, _, _, _, _, _, _, rfl, ⟨below_drewN (Below.refl _ _) 1, nofun, nofun, nofun, nofun, nofun, nofun, nofun, nofun, nofun, nofun, nofun, nofun, nofun⟩⟩
  · rintro L i o a w1 hi hL hd ⟨v7, v13, v14, v15, v16, v17, v18, v19, v20, rfl, hI⟩
    have hi9 : i < 10 := (Array.getElem?_eq_some_iff.1 hi).1
    have hz1 := hI.bel.size
    obtain ⟨hc, hf⟩ := BelowKit.bcell hI.bel
    rcases (show i = 0 ∨ i = 1 ∨ i = 2 ∨ i = 3 ∨ i = 4 ∨ i = 5 ∨ i = 6 ∨ i = 7 ∨ i = 8 ∨ i = 9 from by omega) with rfl | rfl | rfl | rfl | rfl | rfl | rfl | rfl | rfl | rfl
    · obtain rfl := Option.some.inj hi
      clear hc hf
      have hb := BelowKit.bl_alloc (o := .cells #[] 43) (Below.refl w1.heap.size w1)
      refine RegInv.step_run rfl rfl ?_
      go_simp
      exact ⟨_, _, ⟨rfl, rfl⟩, _, _, _, _, _, _, _, _, _, ⟨rfl, rfl, rfl, rfl, rfl, rfl, rfl, rfl, rfl⟩, ⟨BelowKit.bl_trans hI.bel hb, fun _ _ => ⟨_, rfl, heap_alloc_new _ _, Owns.made _ _ _ hz1⟩, hI.h1, hI.h2, fun a b => (hI.h3 a b).on hb, hI.h4, fun a b => (hI.h5 a b).below hb, fun a => (hI.h6 a).on hb, hI.h7, fun a b => (hI.h8 a b).below hb, fun a => (hI.h9 a).below hb, hI.c6, hI.c7, hI.c9⟩⟩
    · obtain rfl := Option.some.inj hi
      clear hc hf
      refine RegInv.step_run rfl rfl ?_
      go_simp
      exact ⟨_, _, ⟨rfl, rfl⟩, _, _, _, _, _, _, _, _, _, ⟨rfl, rfl, rfl, rfl, rfl, rfl, rfl, rfl, rfl⟩, ⟨hI.bel, hI.h0, fun _ => rfl, hI.h2, hI.h3, hI.h4, hI.h5, hI.h6, hI.h7, hI.h8, hI.h9, hI.c6, hI.c7, hI.c9⟩⟩
    · obtain rfl := Option.some.inj hi
      have e1 := hI.h1 (hd ⟨1, .data⟩ (by simp) rfl)
      subst e1
      have c0' := (hc w.heap.size 0 (by omega)).trans c0
      clear hc hf
      refine RegInv.step_run rfl rfl ?_
      go_simp
      exact ⟨_, _, ⟨rfl, rfl⟩, _, _, _, _, _, _, _, _, _, ⟨rfl, rfl, rfl, rfl, rfl, rfl, rfl, rfl, rfl⟩, ⟨hI.bel, hI.h0, hI.h1, fun _ => rfl, hI.h3, hI.h4, hI.h5, hI.h6, hI.h7, hI.h8, hI.h9, hI.c6, hI.c7, hI.c9⟩⟩
    · obtain rfl := Option.some.inj hi
      have e2 := hI.h2 (hd ⟨2, .data⟩ (by simp) rfl)
      subst e2
      obtain ⟨g, rfl, hg1, ho⟩ := hI.h0 (hd ⟨0, .data⟩ (by simp) rfl) hL
      obtain ⟨v', w2, hr, ho2, hgw, _⟩ := run_append_readsN ft fw w1 27 W.heap.size _ [] ho p cap l (KK.out.on (BelowKit.bl_trans hbW hI.bel)) (by have := HM.out; simp; omega) hz1
      rw [HM.out] at hr
      refine RegInv.step_run rfl rfl ⟨v', w2, Fresh.run_appended _ rfl rfl rfl hr, ?_⟩
      have h6 : L 6 = true → False := fun e => by have := hI.c6 e; rw [hL] at this; cases this
      exact ⟨_, _, _, _, _, _, _, _, _, rfl, ⟨hI.bel.grown hgw hz1 ho.low, fun _ b => absurd (show true = false from b) (by decide), hI.h1, hI.h2, fun _ _ => ho2, hI.h4, fun a b => Row.grown0 (hI.h5 a b) hg1 hgw, fun a => (h6 a).elim, hI.h7, fun a b => (hI.h8 a b).grown ho hgw, fun a => (hI.h9 a).grown ho hgw, fun _ => rfl, hI.c7, hI.c9⟩⟩
    · obtain rfl := Option.some.inj hi
      have d0' := (hc (w.heap.size + 1) 0 (by omega)).trans d0
      have d1' := (hc (w.heap.size + 1) 1 (by omega)).trans d1
      have d2' := (hc (w.heap.size + 1) 2 (by omega)).trans d2
      clear hc hf
      refine RegInv.step_run rfl rfl ?_
      go_simp
      exact ⟨_, _, ⟨rfl, rfl⟩, _, _, _, _, _, _, _, _, _, ⟨rfl, rfl, rfl, rfl, rfl, rfl, rfl, rfl, rfl⟩, ⟨hI.bel, hI.h0, hI.h1, hI.h2, hI.h3, fun _ => rfl, hI.h5, hI.h6, hI.h7, hI.h8, hI.h9, hI.c6, hI.c7, hI.c9⟩⟩
    · obtain rfl := Option.some.inj hi
      have e4 := hI.h4 (hd ⟨4, .data⟩ (by simp) rfl)
      subst e4
      clear hc hf
      have hb := BelowKit.bl_alloc (o := .cells #[.int .i64 x.Month, .int .i64 x.Known, .int .i64 x.Value] 43) (Below.refl w1.heap.size w1)
      refine RegInv.step_run rfl rfl ?_
      unfold fv
      go_simp
      exact ⟨_, _, ⟨rfl, rfl⟩, _, _, _, _, _, _, _, _, _, ⟨rfl, rfl, rfl, rfl, rfl, rfl, rfl, rfl, rfl⟩, ⟨BelowKit.bl_trans hI.bel hb, fun a b => made_on (hI.h0 a b) hb, hI.h1, hI.h2, fun a b => (hI.h3 a b).on hb, hI.h4, fun _ _ => Row.new _ _ _ hz1, fun a => (hI.h6 a).on hb, hI.h7, fun a b => (hI.h8 a b).below hb, fun a => (hI.h9 a).below hb, hI.c6, hI.c7, hI.c9⟩⟩
    · obtain rfl := Option.some.inj hi
      have h3 := hd ⟨3, .data⟩ (by simp) rfl
      have ho := hI.h3 h3 hL
      obtain ⟨g4, rfl, hg1, hg2, hg3⟩ := hI.h5 (hd ⟨5, .data⟩ (by simp) rfl) hL
      have h7 : L 7 = true → False := fun e => by have := hI.c7 e; rw [hL] at this; cases this
      have h9 : L 9 = true → False := fun e => h7 (hI.c9 e).1
      obtain ⟨v', w2, hr, ho2, hgw, _⟩ := run_appendN ft fw w1 27 W.heap.size v16 l ho ⟨g4, 0, none⟩ 1 [x] (news_block hg3) (by have := HM.out; simp; omega) hz1
      refine RegInv.step_run rfl rfl ⟨v', w2, Fresh.run_appended _ rfl rfl rfl hr, ?_⟩
      exact ⟨_, _, _, _, _, _, _, _, _, rfl, ⟨hI.bel.grown hgw hz1 ho.low, fun _ b => absurd (show true = false from h3.symm.trans b) (by decide), hI.h1, hI.h2, fun _ b => absurd (show true = false from b) (by decide), hI.h4, fun _ b => absurd (show true = false from b) (by decide), fun _ => ho2, fun a => (h7 a).elim, fun a b => (hI.h8 a b).grown ho hgw, fun a => (h9 a).elim, fun _ => h3, fun _ => rfl, hI.c9⟩⟩
    · obtain rfl := Option.some.inj hi
      have h6 := hd ⟨6, .data⟩ (by simp) rfl
      obtain ⟨p2, c2, e19, _⟩ := (hI.h6 h6).form fw
      rw [show (l ++ [x]).length = l.length + 1 by simp] at e19
      subst e19
      clear hc hf
      refine RegInv.step_run rfl rfl ?_
      go_simp
      exact ⟨_, _, ⟨rfl, rfl⟩, _, _, _, _, _, _, _, _, _, ⟨rfl, rfl, rfl, rfl, rfl, rfl, rfl, rfl, rfl⟩, ⟨hI.bel, hI.h0, hI.h1, hI.h2, hI.h3, hI.h4, hI.h5, hI.h6, fun _ => rfl, hI.h8, hI.h9, hI.c6, fun _ => h6, fun a => ⟨rfl, (hI.c9 a).2⟩⟩⟩
    · obtain rfl := Option.some.inj hi
      have h9 : L 9 = true → False := fun e => by have := (hI.c9 e).2; rw [hL] at this; cases this
      have hb := BelowKit.bl_alloc (o := .cells #[.slice none 0 0] 29) (Below.refl w1.heap.size w1)
      clear hc hf
      refine RegInv.step_run rfl rfl ?_
      go_simp
      exact ⟨_, _, ⟨rfl, rfl⟩, _, _, _, _, _, _, _, _, _, ⟨rfl, rfl, rfl, rfl, rfl, rfl, rfl, rfl, rfl⟩, ⟨BelowKit.bl_trans hI.bel hb, fun a b => made_on (hI.h0 a b) hb, hI.h1, hI.h2, fun a b => (hI.h3 a b).on hb, hI.h4, fun a b => (hI.h5 a b).below hb, fun a => (hI.h6 a).on hb, hI.h7, fun _ _ => Blk.new _ _ _ hz1, fun a => (h9 a).elim, hI.c6, hI.c7, fun a => (h9 a).elim⟩⟩
    · obtain rfl := Option.some.inj hi
      have h7 := hd ⟨7, .data⟩ (by simp) rfl
      have h8 := hd ⟨8, .data⟩ (by simp) rfl
      have h6 := hI.c7 h7
      have ho := hI.h6 h6
      have e7 := hI.h7 h7
      have hB := hI.h8 h8 hL
      obtain ⟨p2, c2, e19, _⟩ := ho.form fw
      rw [show (l ++ [x]).length = l.length + 1 by simp] at e19
      subst e19
      obtain ⟨g, rfl, hg1, hg2, hg3⟩ := hB
      subst e7
      have q1 := cell_of_one hg3
      have q2 := free_of_one hg3
      clear hc hf
      refine RegInv.step_skip rfl rfl ?_
      go_simp
      exact ⟨_, _, _, _, _, _, _, _, _, ⟨rfl, rfl, rfl, rfl, rfl, rfl, rfl, rfl, rfl⟩, ⟨hI.bel.setCell (p := ⟨g, 0, none⟩) hg1 _, fun _ b => absurd (show true = false from (hI.c6 h6).symm.trans b) (by decide), hI.h1, hI.h2, fun _ b => absurd (show true = false from h6.symm.trans b) (by decide), hI.h4, fun _ b => absurd (show true = false from h6.symm.trans b) (by decide), fun _ => ho.beside (apart ho hg3) _, hI.h7, fun _ b => absurd (show true = false from b) (by decide), fun _ => Blk.set ⟨g, rfl, hg1, hg2, hg3⟩, hI.c6, hI.c7, fun _ => ⟨h7, h8⟩⟩⟩
  · rintro L a w1 hL ⟨v7, v13, v14, v15, v16, v17, v18, v19, v20, rfl, hI⟩
    have ho := hI.h6 (hL 6 (by decide))
    have hB := hI.h9 (hL 9 (by decide))
    have hbel := hI.bel
    obtain ⟨hc, hf⟩ := BelowKit.bcell hbel
    obtain ⟨p2, c2, rfl, _⟩ := ho.form fw
    obtain ⟨g, rfl, hg1, hg2, hg3⟩ := hB
    have hl1 : (l ++ [x]).length = m + 1 := by have := HM.out; simp; omega
    rw [hl1] at hg3 ho
    have q0 := cell_of_one hg3
    have c0' := (hc w.heap.size 0 (by omega)).trans c0
    have y1' := (hc (w.heap.size + 1 + 1) 0 (by omega)).trans y1
    have y2' := (hf (w.heap.size + 1 + 1) 0 (by omega)).trans y2
    have o1' := (hc w'.heap.size 0 hzW).trans hgO
    have hzz := hbel.size
    have z0 : w.heap.size < w1.heap.size := by omega
    have zG : w.heap.size + 1 + 1 < w1.heap.size := by omega
    have zO : w'.heap.size < w1.heap.size := by omega
    have HO := Lib.hid (ho.base (B' := w.heap.size) (by omega))
    have HLO := Lib.hid (show ∀ k, (Value.slice p2 (m + 1) c2).ownBlock = some k → w.heap.size + 1 + 1 < k from fun k hk => by have := ho.low k hk; omega)
    have HLW := Lib.hid (show ∀ k, (Value.slice p' m c').ownBlock = some k → w.heap.size + 1 + 1 < k from fun k hk => by have := HOW.out.low k hk; omega)
    have HOW := Lib.hid ((HOW.out.on hbel).base (B' := w.heap.size) (by omega))
    have HB1 := Lib.hid (BelowKit.bl_trans hbW hbel)
    clear hL hI ho hbel hc hf hg1 hg3 hzz c0 d0 d1 d2 y1 y2 hbW hzW hgO
    go_wp2_with fail
    refine (SerS.ok_s _ p m cap l HM.out (by omega) (KK.out.on HB1.out)).mono ?_
    rintro e w2 ⟨rfl, hb2⟩
    obtain ⟨hc, hf⟩ := BelowKit.bcell hb2
    have r0 := (hc g 0 hg2).trans q0
    have o1 := (hc _ 0 zO).trans o1'
    have y1 := (hc _ 0 zG).trans y1'
    have y2 := (hf _ 0 zG).trans y2'
    have zG' : w.heap.size + 1 + 1 < w2.heap.size := Nat.lt_of_lt_of_le zG hb2.size
    have zO' : w'.heap.size < w2.heap.size := Nat.lt_of_lt_of_le zO hb2.size
    have hg2' : g < w2.heap.size := Nat.lt_of_lt_of_le hg2 hb2.size
    have HO2 := Lib.hid (HO.out.on hb2)
    have HOW2 := Lib.hid (HOW.out.on hb2)
    have HB2 := Lib.hid (BelowKit.bl_trans HB1.out hb2)
    clear hb2 hc hf q0 c0' y1' y2' o1' z0 zG zO hg2 HO HOW HB1
    by_cases hl : okS l = true
    · rw [hl]
      clear hl
      go_wp2_with fail
      refine (SerS.ok_s _ p2 (m + 1) c2 (l ++ [x]) (by simp [HM.out]) (by omega) (reads_own fw HO2.out)).mono ?_
      rintro e w3 ⟨rfl, hb3⟩
      obtain ⟨hc, hf⟩ := BelowKit.bcell hb3
      have q0 := (hc g 0 hg2').trans r0
      have o1' := (hc _ 0 zO').trans o1
      have y1' := (hc _ 0 zG').trans y1
      have y2' := (hf _ 0 zG').trans y2
      have HO3 := Lib.hid (HO2.out.on hb3)
      have HOW3 := Lib.hid (HOW2.out.on hb3)
      have HB3 := Lib.hid (BelowKit.bl_trans HB2.out hb3)
      clear hb3 hc hf r0 o1 y1 y2 HO2 HOW2 HB2
      by_cases hok : okS (l ++ [x]) = true
      · have E := Lib.hid (added_yes hok)
        rw [hok]
        clear hok
        go_wp2
        refine bodyPost_ret (v := .tuple #[.agg #[.slice p2 (m + 1) c2], .bool true]) (by simp [results, Try.results35, go_sem, y1']) rfl ⟨p2, c2, ?_, ?_, BelowKit.bl_set HB3.out (a := ⟨w.heap.size + 1 + 1, 0, none⟩) _ (by simp; omega)⟩
        · rw [E.out]; simp [HM.out]
        · rw [E.out]
          have := HO3.out.beside (g := w.heap.size + 1 + 1) (o := 0) (fun e => by have := HLO.out _ e; omega) (.slice p2 (m + 1) c2)
          simpa [HM.out] using this
      · have hok' : okS (l ++ [x]) = false := by simpa using hok
        have E := Lib.hid (added_no hok')
        rw [hok']
        clear hok hok'
        go_wp2
        refine bodyPost_ret (v := .tuple #[.agg #[.slice p' m c'], .bool false]) (by simp [results, Try.results35, go_sem, y1']) rfl ⟨p', c', ?_, ?_, BelowKit.bl_set HB3.out (a := ⟨w.heap.size + 1 + 1, 0, none⟩) _ (by simp; omega)⟩
        · rw [E.out]; simp [HM.out]
        · rw [E.out]
          have := HOW3.out.beside (g := w.heap.size + 1 + 1) (o := 0) (fun e => by have := HLW.out _ e; omega) (.slice p' m c')
          simpa [HM.out] using this
    · have hl' : okS l = false := by simpa using hl
      have E := Lib.hid (added_no (okS_no fun h => hl (okS_yes h.left)) : added l x = (l, false))
      rw [hl']
      clear hl hl'
      go_wp2
      refine bodyPost_ret (v := .tuple #[.agg #[.slice p' m c'], .bool false]) (by simp [results, Try.results35, go_sem, y1]) rfl ⟨p', c', ?_, ?_, BelowKit.bl_set HB2.out (a := ⟨w.heap.size + 1 + 1, 0, none⟩) _ (by simp; omega)⟩
      · rw [E.out]; simp [HM.out]
      · rw [E.out]
        have := HOW2.out.beside (g := w.heap.size + 1 + 1) (o := 0) (fun e => by have := HLW.out _ e; omega) (.slice p' m c')
        simpa [HM.out] using this
end Go.Proofs.Ytdmkceaonfbebaa.PubS

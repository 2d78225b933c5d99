/- Contracts of the drawn books. -/
import Derived.Test.YtkfgflmhefbinaaRows
import Derived.Test.YtkfgflmhefbinaaDrawRule
namespace Go.Proofs.Ytkfgflmhefbinaa.DrawBook
open Go.RowKit CurKit CurByte Cur RowN TRule TBook BookMath BookLaws RuleRow BelowKit DrawCur DrawForm DrawFm DrawRule
/-- What the drawn rules of a book are after j draws. -/
structure Got (j : Nat) (rs : List Ru) : Prop where
  book : BookP rs
  all : ∀ r ∈ rs, Drawn r
  len : rs.length ≤ j
  pos : j = 0 ∨ 1 ≤ rs.length
theorem Got.nil : Got 0 [] := ⟨⟨by simp, fun i hi => by simp at hi, fun i k hi => by simp at hi⟩, fun r hr => by simp at hr, Nat.le_refl _, .inl rfl⟩
theorem Got.step {j : Nat} {rs : List Ru} {r : Ru} (h : Got j rs) (hr : Drawn r) : Got (j + 1) (added rs r).1 := by
  cases e : bookB (rs ++ [r]) with
  | true =>
    rw [added_yes e]
    refine ⟨bookB_of e, fun x hx => ?_, by have := h.len; simp; omega, .inr (by simp)⟩
    rcases List.mem_append.1 hx with hx | hx
    · exact h.all x hx
    · obtain rfl : x = r := by simpa using hx
      exact hr
  | false =>
    rw [added_no e]
    refine ⟨h.book, h.all, by have := h.len; simp only []; omega, .inr ?_⟩
    cases rs with
    | cons x t => simp
    | nil =>
      have hb : BookP ([] ++ [r]) := book_snoc Got.nil.book hr.ok (by simp) (fun k hk => by simp at hk)
      rw [bookB_yes hb] at e
      cases e
theorem Got.few {j : Nat} {rs : List Ru} (h : Got j rs) : Few rs := fun i hi => by have := (h.all _ (List.getElem_mem hi)).few; omega
theorem od_cur {w0 w1 w2 : World} {b lo hi len cap : Nat} {a : Option Addr} {v : Value} {rs : List Ru} (h : OwD w1 lo hi v rs) (hB : b < lo) (hl : b ≤ w1.heap.size) (g : Goes w0 w1 b a len cap w2) : OwD w2 lo hi v rs :=
  h.mid (Own.Mid.of_grown (lo := b) (hi := b + 1) g.2 (fun k hk => by cases hk; exact ⟨Nat.le_refl _, Nat.lt_succ_self _⟩) hl) (.inr hB)
def SomeBook (R : World → World → Prop) (w : World) (e : Ending) (w' : World) : Prop := ∃ (rs : List Ru) (p : Option Addr) (n c : Nat), (∃ j, j ≤ 6 ∧ 1 ≤ j ∧ Got j rs) ∧ rs.length = n ∧ e = .returned (.agg #[.slice p n c]) ∧ OwD w' w.heap.size w'.heap.size (.slice p n c) rs ∧ R w w'
set_option maxHeartbeats 8000000 in
set_option maxRecDepth 100000 in
theorem book_c (w0 w : World) (b : Nat) (a : Option Addr) (len cap : Nat) (hc : CurIn 111 w0 w b a len cap) :
    Calls Try.prog 51 #[.pointer (some ⟨b, 0, none⟩)] w (SomeBook (fun w w' => Goes w0 w b a len cap w') w) := by
  have HC := Lib.hid hc
  have hbl := hc.lt
  have hlo := hc.low
  clear hc
  go_enter Try.func51, Try.ntmps51
  go_wp2
  go_loopw [4] (fun i wr => ∃ (j : Nat) (rs : List Ru) (p : Option Addr) (n c : Nat), j ≤ 6 ∧ i = .int .i64 (j : Int) ∧ Hid (Got j rs) ∧ Hid (rs.length = n) ∧
      wr.cell? ⟨w.heap.size, 0, none⟩ = some (.slice none 0 0) ∧ wr.frozen? ⟨w.heap.size, 0, none⟩ = false ∧ wr.cell? ⟨w.heap.size + 1, 0, none⟩ = some (.slice p n c) ∧ wr.frozen? ⟨w.heap.size + 1, 0, none⟩ = false ∧ w.heap.size + 1 < wr.heap.size ∧
      Hid (OwD wr (w.heap.size + 1 + 1) wr.heap.size (.slice p n c) rs) ∧ Hid (Goes w0 w b a len cap wr)) (fun i _ => 6 - (intOf i).toNat)
  case atStart => exact ⟨0, [], none, 0, 0, by omega, rfl, Lib.hid Got.nil, Lib.hid rfl, by simp [go_sem], by simp [go_sem], by simp [go_sem], by simp [go_sem], by simp, Lib.hid ⟨[], rfl, AddS.nest_nil _ _⟩, Lib.hid ⟨(HC.out.alloc _).alloc _, (World.grownBy_alloc w _ _).trans (World.grownBy_alloc _ _ _)⟩⟩
  case round =>
    obtain ⟨j, rs, p, n, c, hj, rfl, HD, HN, q1, r1, q2, r2, z1, HO, HG⟩ := hrel
    go_wp2_with fail
    refine (below_c w0 _ b a len cap 6 HG.out.1 (by omega)).mono ?_
    rintro e w2 ⟨x2, hx2, rfl, h2⟩
    have p1 := (cur_far (o := 0) h2.2 (show w.heap.size < wr.heap.size by omega) (by omega)).1.trans q1
    have p2 := (cur_far (o := 0) h2.2 (show w.heap.size + 1 < wr.heap.size by omega) (by omega)).1.trans q2
    have t1 := (cur_far (o := 0) h2.2 (show w.heap.size < wr.heap.size by omega) (by omega)).2.trans r1
    have t2 := (cur_far (o := 0) h2.2 (show w.heap.size + 1 < wr.heap.size by omega) (by omega)).2.trans r2
    have z2 : w.heap.size + 1 < w2.heap.size := Nat.lt_of_lt_of_le z1 h2.2.size
    have HO2 := Lib.hid ((od_cur HO.out (show b < w.heap.size + 1 + 1 by omega) (by omega) h2).up (hi' := w2.heap.size) h2.2.size (Nat.le_refl _))
    have HG2 := Lib.hid (goes_trans HG.out.2 h2)
    have y2 := lt_of_max hx2 (by decide)
    clear h2 hx2 q1 q2 r1 r2 z1 HO HG
    by_cases hlt : (j : Int) < 1 + (x2 : Int)
    · have dK : decide ((j : Int) < 1 + (x2 : Int)) = true := decide_eq_true hlt
      have hj5 : j ≤ 5 := by omega
      go_wp2_with fail
      have HF : Hid (∀ (w4 : World), Goes w0 w2.drew b a len cap w4 → w4.cell? ⟨w.heap.size + 1, 0, none⟩ = some (.slice p n c) ∧ w.heap.size + 1 < w4.heap.size ∧ OwD w4 (w.heap.size + 1 + 1) w4.heap.size (.slice p n c) rs ∧ Goes w0 w b a len cap w4 ∧
          ∀ (w5 : World), Below w4.heap.size w4 w5 →
            (w5.cell? ⟨w.heap.size, 0, none⟩ = some (.slice none 0 0) ∧ w5.frozen? ⟨w.heap.size, 0, none⟩ = false) ∧ w5.cell? ⟨w.heap.size + 1, 0, none⟩ = some (.slice p n c) ∧ w5.frozen? ⟨w.heap.size + 1, 0, none⟩ = false ∧ w.heap.size + 1 < w5.heap.size ∧ Goes w0 w b a len cap w5) := by
        refine Lib.hid fun w4 h4 => ?_
        have hz4 : w2.heap.size ≤ w4.heap.size := h4.2.size
        have z4 : w.heap.size + 1 < w4.heap.size := Nat.lt_of_lt_of_le z2 hz4
        have HO4 : OwD w4 (w.heap.size + 1 + 1) w4.heap.size (.slice p n c) rs := (od_cur (w1 := w2.drew) (HO2.out.on (below_drewN (Below.refl _ _) 1)) (show b < w.heap.size + 1 + 1 by omega) (show b ≤ w2.heap.size by omega) h4).up hz4 (Nat.le_refl _)
        have a1 := (cur_far (o := 0) h4.2 (show w.heap.size < w2.drew.heap.size from (by show w.heap.size < w2.heap.size; omega)) (by omega)).1.trans p1
        have a2 := (cur_far (o := 0) h4.2 (show w.heap.size + 1 < w2.drew.heap.size from z2) (by omega)).1.trans p2
        have a3 := (cur_far (o := 0) h4.2 (show w.heap.size < w2.drew.heap.size from (by show w.heap.size < w2.heap.size; omega)) (by omega)).2.trans t1
        have a4 := (cur_far (o := 0) h4.2 (show w.heap.size + 1 < w2.drew.heap.size from z2) (by omega)).2.trans t2
        have G4 : Goes w0 w b a len cap w4 := goes_trans (HG2.out.2.drewN 1) h4
        refine ⟨a2, z4, HO4, G4, fun w5 hb => ?_⟩
        obtain ⟨k1, k2⟩ := bcell hb
        exact ⟨⟨(k1 _ _ (by omega)).trans a1, (k2 _ _ (by omega)).trans a3⟩, (k1 _ _ z4).trans a2, (k2 _ _ z4).trans a4, Nat.lt_of_lt_of_le z4 hb.size, goes_below G4 hb⟩
      go_region_law (first
        | ((refine Fresh.step_call #[.pointer (some ⟨b, 0, none⟩)] Try.func85 (by kernel_rfl) (by kernel_rfl) rfl ?_; refine (one_c w0 _ b a len cap (cur_drew HG2.out.1)).mono ?_; rintro e w4 ⟨x0, x1, x3, x4, x5, x6, l, p', n', c', hd, hln, rfl, ho, h4⟩; refine ⟨_, rfl, ?_⟩; obtain ⟨v2, v3, HO4, HG4, h5⟩ := HF.out w4 h4; have HDR := Lib.hid hd; have HLN := Lib.hid hln; have HOL := Lib.hid ho; have HO4' := Lib.hid HO4; have HG4' := Lib.hid HG4; have H5 := Lib.hid h5; clear hd hln ho HO4 HG4 h5 h4))
        | ((refine Fresh.step_call #[.agg #[.slice p n c], .agg #[.int .i64 x0, .int .i64 x1, .int .i64 x3, .int .i64 x4, .int .i64 x5, .int .i64 x6, .slice p' n' c']] Try.func37 (by kernel_rfl) (by kernel_rfl) rfl ?_; refine (AddS.add_l w4 p n c rs x0 x1 x3 x4 x5 x6 p' n' c' l HN.out (by have := HD.out.len; have := HN.out; omega) HD.out.few HLN.out (by have h1 : l.length ≤ 9 := HDR.out.few; have h2 := HLN.out; omega) HO4'.out.reads (Own.Ow.reads (T := TNode.T) TNode.fw HOL.out)).mono ?_; rintro e w5 ⟨p5, c5, rfl, hod, hb5⟩; refine ⟨_, rfl, ?_⟩; obtain ⟨⟨s1, s1f⟩, s2, s3, s4, s5⟩ := H5.out w5 hb5; have HOD := Lib.hid hod; have HS5 := Lib.hid s5; clear hod hb5 s5)))
      all_goals
        have HGS := Lib.hid (HD.out.step HDR.out)
        have HZ4 := Lib.hid (show w.heap.size + 1 + 1 ≤ w4.heap.size by omega)
        generalize (added rs ⟨x0, x1, x3, x4, x5, x6, l⟩).1 = L at HGS HOD ⊢
        generalize (added rs ⟨x0, x1, x3, x4, x5, x6, l⟩).2 = okb
        obtain ⟨m, hm⟩ : ∃ m, L.length = m := ⟨_, rfl⟩
        have HMM := Lib.hid hm
        rw [hm] at HOD ⊢
        clear hm
        have HO' := Lib.hid ((HOD.out.base (lo' := w.heap.size + 1 + 1) HZ4.out).box (b := w.heap.size + 1) (o := 0) (.inl (by omega)) (.slice p5 m c5))
        have HG' := Lib.hid (goes_set (o := 0) HS5.out (show w.heap.size ≤ w.heap.size + 1 by omega) hbl (by omega) (.slice p5 m c5))
        have e1 : (w5.setCell ⟨w.heap.size + 1, 0, none⟩ (.slice p5 m c5)).cell? ⟨w.heap.size + 1, 0, none⟩ = some (.slice p5 m c5) := by simp [go_sem, s2]
        have e2 : (w5.setCell ⟨w.heap.size + 1, 0, none⟩ (.slice p5 m c5)).frozen? ⟨w.heap.size + 1, 0, none⟩ = false := by simp [go_sem, s3]
        have e3 : w.heap.size + 1 < (w5.setCell ⟨w.heap.size + 1, 0, none⟩ (.slice p5 m c5)).heap.size := by simp; omega
        have e4 : (w5.setCell ⟨w.heap.size + 1, 0, none⟩ (.slice p5 m c5)).cell? ⟨w.heap.size, 0, none⟩ = some (.slice none 0 0) := by simp [go_sem, s1]
        have e5 : (w5.setCell ⟨w.heap.size + 1, 0, none⟩ (.slice p5 m c5)).frozen? ⟨w.heap.size, 0, none⟩ = false := by simp [go_sem, s1f]
        clear H5 HF s1 s1f s2 s3 s4 HOD HS5
        go_wp2
        go_roundw
        case rel => exact ⟨j + 1, L, p5, m, c5, by omega, by go_num, HGS, HMM, e4, e5, e1, e2, e3, by simpa using HO', HG'⟩
        case measure => simp [intOf]; omega
    · have dK : decide ((j : Int) < 1 + (x2 : Int)) = false := decide_eq_false hlt
      have hj1 : 1 ≤ j := by omega
      go_wp2
      refine bodyPost_ret (v := .agg #[.slice p n c]) (by simp [results, Try.results51, go_sem, p1]) rfl ⟨rs, p, n, c, ⟨j, hj, hj1, HD.out⟩, HN.out, rfl, ?_, ?_⟩
      · have e : ∀ (W : World) (a : Addr) (u : Value), (W.setCell a u).heap.size = W.heap.size := fun W a u => by simp
        rw [e]
        exact (HO2.out.box (b := w.heap.size) (o := 0) (.inl (by omega)) _).base (by omega)
      · exact goes_set (o := 0) HG2.out (Nat.le_refl _) hbl (by omega) _
/-- The value of some element. -/
def Elt (rs : List Ru) (v : Value) : Prop := ∃ (i : Nat) (h : i < rs.length) (x : El), x.r = rs[i] ∧ v = fv x
/-- A new block of zeros for a rule. -/
def Zed (V : World) (v : Value) (W : World) : Prop := ∃ g7 : Nat, v = .pointer (some ⟨g7, 0, none⟩) ∧ V.heap.size ≤ g7 ∧ W.heap[g7]? = some (.cells #[.int .i64 0, .int .i64 0, .int .i64 0, .int .i64 0, .int .i64 0, .int .i64 0, .slice none 0 0] 34 (0, 0))
/-- A new block that holds one of the rules. -/
def Lie (V : World) (rs : List Ru) (v : Value) (W : World) : Prop := ∃ (i : Nat) (h : i < rs.length) (x : El) (g7 : Nat), x.r = rs[i] ∧ v = .pointer (some ⟨g7, 0, none⟩) ∧ V.heap.size ≤ g7 ∧ g7 < W.heap.size ∧ W.cell? ⟨g7, 0, none⟩ = some (.int .i64 x.r.Name) ∧ W.cell? ⟨g7, 1, none⟩ = some (.int .i64 x.r.From) ∧ W.cell? ⟨g7, 2, none⟩ = some (.int .i64 x.r.To)
theorem Zed.cur {V W W' W0 : World} {b len cap : Nat} {a : Option Addr} {v : Value} (h : Zed V v W) (g : Goes W0 W b a len cap W') (hb : b < V.heap.size) : Zed V v W' := by
  obtain ⟨g7, e, h1, h2⟩ := h
  exact ⟨g7, e, h1, keep_blk h2 g.2 (by omega)⟩
theorem Lie.cur {V W W' W0 : World} {rs : List Ru} {b len cap : Nat} {a : Option Addr} {v : Value} (h : Lie V rs v W) (g : Goes W0 W b a len cap W') (hb : b < V.heap.size) : Lie V rs v W' := by
  obtain ⟨i, hi, x, g7, hx, e, h1, h2, k0, k1, k2⟩ := h
  exact ⟨i, hi, x, g7, hx, e, h1, Nat.lt_of_lt_of_le h2 g.2.size, (cur_far g.2 h2 (by omega)).1.trans k0, (cur_far g.2 h2 (by omega)).1.trans k1, (cur_far g.2 h2 (by omega)).1.trans k2⟩
theorem Lie.on {V W W' : World} {rs : List Ru} {v : Value} (h : Lie V rs v W) (hb : Below W.heap.size W W') : Lie V rs v W' := by
  obtain ⟨i, hi, x, g7, hx, e, h1, h2, k0, k1, k2⟩ := h
  exact ⟨i, hi, x, g7, hx, e, h1, Nat.lt_of_lt_of_le h2 hb.size, ((bcell hb).1 _ _ h2).trans k0, ((bcell hb).1 _ _ h2).trans k1, ((bcell hb).1 _ _ h2).trans k2⟩
structure Inv3 (V W0 : World) (b : Nat) (a : Option Addr) (len cap : Nat) (g6 g n c : Nat) (rs : List Ru) (L : Nat → Bool) (v12 v13 v14 v15 v16 v17 v18 v19 v20 v7 : Value) (W : World) : Prop where
  h0 : (L 0 = true → v12 = .pointer (some ⟨g6, 0, none⟩))
  h1 : (L 1 = true → v13 = .slice (some ⟨g, 0, none⟩) n c)
  h2 : (L 2 = true → v14 = .pointer (some ⟨b, 0, none⟩))
  h3 : (L 3 = true → v15 = .pointer (some ⟨g6, 0, none⟩))
  h4 : (L 4 = true → v16 = .slice (some ⟨g, 0, none⟩) n c)
  h5 : (L 5 = true → v17 = .int .i64 (n : Int))
  h6 : (L 6 = true → ∃ u : Nat, u < n ∧ v18 = .int .i64 (u : Int))
  h7 : (L 7 = true → ∃ u7 : Nat, u7 < n ∧ v19 = .pointer (some ⟨g, u7 * 7, none⟩))
  h8 : (L 8 = true → Elt rs v20)
  h9 : (L 9 = true → L 10 = false → Zed V v7 W)
  hP : (Goes W0 V b a len cap W)
  hQ : (L 10 = true → Lie V rs v7 W)
/-- A drawn book, a month and a name for which one of its rules applies to members who joined at first. -/
def SomeDraw (w : World) (e : Ending) (w' : World) : Prop := ∃ (rs : List Ru) (p : Option Addr) (n c : Nat) (m nm : Int), (∃ j, j ≤ 6 ∧ 1 ≤ j ∧ Got j rs) ∧ rs.length = n ∧ (∃ (i : Nat) (h : i < rs.length), rs[i].Name = nm ∧ rs[i].From ≤ m ∧ m < rs[i].To) ∧ e = .returned (.tuple #[.agg #[.slice p n c], .int .i64 m, .int .i64 nm]) ∧ OwD w' w.heap.size w'.heap.size (.slice p n c) rs ∧ Below w.heap.size w w'
set_option maxHeartbeats 16000000 in
set_option maxRecDepth 100000 in
theorem draw_c (w : World) (a : Option Addr) (len cap : Nat) (hcode : CodeAt w a len) (hs : len ≤ maxLen) :
    Calls Try.prog 16 #[.slice a len cap] w (SomeDraw w) := by
  have HK := Lib.hid hcode
  have HS := Lib.hid hs
  clear hcode hs
  go_enter Try.func16, Try.ntmps16
  go_wp2_with fail
  refine (new_c _ a len cap (fun j hj => by obtain ⟨blk, off, n, e, h1, h2, h3⟩ := HK.out j hj; exact ⟨blk, off, n, e, by simp; omega, ((bcell (bl_alloc (Below.refl _ _))).1 _ _ h1).trans h2, h3⟩) HS.out).mono ?_
  rintro e w1 ⟨rfl, h1⟩
  have hs1 : (w.alloc (.cells #[.slice none 0 0] 26)).heap.size = w.heap.size + 1 := by simp
  have c0 : (w.alloc (.cells #[.slice none 0 0] 26)).cell? ⟨w.heap.size, 0, none⟩ = some (.slice none 0 0) := by simp [go_sem]
  have d0 : (w.alloc (.cells #[.slice none 0 0] 26)).frozen? ⟨w.heap.size, 0, none⟩ = false := by simp [go_sem]
  have HBW := Lib.hid (show Below w.heap.size w (w.alloc (.cells #[.slice none 0 0] 26)) by (repeat (first | exact Below.refl _ _ | apply BelowKit.bl_alloc | apply BelowKit.bl_drewN | apply BelowKit.bl_drew | (refine BelowKit.bl_set ?_ _ ?_; rotate_left; (first | omega | (simp; omega) | simp)) | (refine BelowKit.bl_trans ?_ (‹Hid (Below _ _ _)›).out))))
  obtain ⟨W0, hW0⟩ : ∃ W, w.alloc (.cells #[.slice none 0 0] 26) = W := ⟨_, rfl⟩
  rw [hW0] at h1 hs1 c0 d0 HBW ⊢
  rw [hs1] at h1 ⊢
  have H1 := Lib.hid h1
  have hlt1 := h1.lt
  clear h1 hW0
  go_wp2_with fail
  refine (book_c W0 w1 (w.heap.size + 1) a len cap H1.out).mono ?_
  rintro e w2 ⟨rs, p, n, c, hg, hn, rfl, ho, h2⟩
  have c2 := ((bcell h2.1.bel).1 _ 0 (show w.heap.size < W0.heap.size by omega)).trans c0
  have d2 := ((bcell h2.1.bel).2 _ 0 (show w.heap.size < W0.heap.size by omega)).trans d0
  have hlt2 : w.heap.size + 1 < w2.heap.size := Nat.lt_of_lt_of_le hlt1 h2.2.size
  have HGT := Lib.hid hg
  have HN := Lib.hid hn
  have HO2 := Lib.hid ho
  have hn1 : 1 ≤ n := by obtain ⟨j, _, h1, hg⟩ := hg; have := hg.pos; omega
  have hn6 : n ≤ 6 := by obtain ⟨j, h6, _, hg⟩ := hg; have := hg.len; omega
  obtain ⟨V, hV⟩ : ∃ V, V = w2.alloc (.cells #[.slice p n c] 26) := ⟨_, rfl⟩
  have hbV : Below w2.heap.size w2 V := by rw [hV]; exact bl_alloc (Below.refl _ _)
  have v6 : V.cell? ⟨w2.heap.size, 0, none⟩ = some (.slice p n c) := by rw [hV]; simp [go_sem]
  have z6 : w2.heap.size < V.heap.size := by rw [hV]; simp
  have c3 := ((bcell hbV).1 _ 0 (show w.heap.size < w2.heap.size by omega)).trans c2
  have d3 := ((bcell hbV).2 _ 0 (show w.heap.size < w2.heap.size by omega)).trans d2
  have HGV := Lib.hid (goes_below h2 hbV)
  have HOV := Lib.hid (show OwD V (w.heap.size + 1 + 1) w2.heap.size (.slice p n c) rs from (ho.on hbV).base (by omega))
  obtain ⟨g, hpg⟩ : ∃ g, p = some ⟨g, 0, none⟩ := by
    obtain ⟨ys, ey, hne⟩ := HOV.out
    obtain ⟨g, eg, _⟩ := own hne.out.own 0 (by have := HN.out; rw [← ey, List.length_map] at this; omega)
    exact ⟨g, eg⟩
  subst hpg
  have hVz : w2.heap.size ≤ V.heap.size := hbV.size
  obtain ⟨b, hb⟩ : ∃ b, w.heap.size + 1 = b := ⟨_, rfl⟩
  rw [hb] at HGV HOV hlt2 H1
  obtain ⟨g6, hg6⟩ : ∃ g, w2.heap.size = g := ⟨_, rfl⟩
  rw [hg6] at v6 z6 HOV hlt2 hVz
  have HBL := Lib.hid (show b < V.heap.size by omega)
  have HWV := Lib.hid (show W0.heap.size ≤ V.heap.size by omega)
  have HGS := Lib.hid (show Goes W0 V b a len cap V from ⟨HGV.out.1, OnlyB.refl _ _⟩)
  have HPD := Lib.hid (show Goes W0 V b a len cap V.drew from ⟨cur_drew HGV.out.1, (OnlyB.refl b V).drewN 1⟩)
  have HA := Lib.hid (show ∀ W, Goes W0 V b a len cap W → W.cell? ⟨g6, 0, none⟩ = some (.slice (some ⟨g, 0, none⟩) n c) from fun W h => (cur_far (o := 0) h.2 z6 (by omega)).1.trans v6)
  have HE := Lib.hid (show ∀ W, Goes W0 V b a len cap W → ∀ u, u < n → ∃ (x : El) (i : Nat) (h : i < rs.length), x.r = rs[i] ∧ W.cell? ⟨g, u * 7, none⟩ = some (.int .i64 x.r.Name) ∧ W.cell? ⟨g, u * 7 + 1, none⟩ = some (.int .i64 x.r.From) ∧ W.cell? ⟨g, u * 7 + 2, none⟩ = some (.int .i64 x.r.To) ∧ W.cell? ⟨g, u * 7 + 3, none⟩ = some (.int .i64 x.r.Joined) ∧ W.cell? ⟨g, u * 7 + 4, none⟩ = some (.int .i64 x.r.Rank) ∧ W.cell? ⟨g, u * 7 + 5, none⟩ = some (.int .i64 x.r.Mode) ∧ W.cell? ⟨g, u * 7 + 6, none⟩ = some (.slice x.p x.r.Nodes.length x.c) from fun W h u hu => by
    obtain ⟨ys, ey, hne⟩ := od_cur HOV.out (by omega) (by omega) h
    have hur : u < rs.length := by have := HN.out; omega
    have huy : u < ys.length := by rw [← ey, List.length_map] at hur; exact hur
    obtain ⟨g', eg, _, _, k0, k1, k2, k3, k4, k5, k6, _⟩ := own hne.out.own u huy
    cases eg
    exact ⟨ys[u], u, hur, by subst ey; simp, k0, k1, k2, k3, k4, k5, k6⟩)
  have HZ := Lib.hid (show ∀ W, Goes W0 V b a len cap W → (W.cell? ⟨w.heap.size, 0, none⟩ = some (.slice none 0 0) ∧ W.frozen? ⟨w.heap.size, 0, none⟩ = false) ∧ OwD W (b + 1) g6 (.slice (some ⟨g, 0, none⟩) n c) rs from fun W h =>
    ⟨⟨(cur_far (o := 0) h.2 (show w.heap.size < V.heap.size by omega) (by omega)).1.trans c3, (cur_far (o := 0) h.2 (show w.heap.size < V.heap.size by omega) (by omega)).2.trans d3⟩, od_cur HOV.out (by omega) (by omega) h⟩)
  clear hbV c2 d2 c3 d3 ho hg hn c0 d0 hlt1 h2
  go_upto_region 3 with fail
  rw [← hV]
  clear hV
  have HBB := Lib.hid hb
  have HG6 := Lib.hid hg6
  have HS1 := Lib.hid hs1
  clear hb hg6 hs1
  refine RegInv.wp_region_inv2 (fun L A W => ∃ v12 v13 v14 v15 v16 v17 v18 v19 v20 v7, A = ⟨#[.slice a len cap, undef, .pointer (some ⟨w.heap.size, 0, none⟩), .int .i64 0, .int .i64 0, .pointer (some ⟨b, 0, none⟩), .pointer (some ⟨g6, 0, none⟩), v7, .slice a len cap, .pointer (some ⟨b, 0, none⟩), .pointer (some ⟨b, 0, none⟩), .agg #[.slice (some ⟨g, 0, none⟩) n c], v12, v13, v14, v15, v16, v17, v18, v19, v20, undef, undef, undef, undef, undef, undef, undef, undef, undef, undef, undef, undef, undef], []⟩ ∧ Inv3 V W0 b a len cap g6 g n c rs L v12 v13 v14 v15 v16 v17 v18 v19 v20 v7 W) (by kernel_rfl) (by kernel_rfl) ?_ ?_ ?_
  · exact ⟨_, _, _, _, _, _, _, _, _, _, rfl, ⟨nofun, nofun, nofun, nofun, nofun, nofun, nofun, nofun, nofun, nofun, HPD.out, nofun⟩⟩
  · rintro L i o A W hi hL hd hcl ⟨v12, v13, v14, v15, v16, v17, v18, v19, v20, v7, rfl, ⟨h0, h1, h2, h3, h4, h5, h6, h7, h8, h9, hP, hQ⟩⟩
    have hi9 : i < 11 := (Array.getElem?_eq_some_iff.1 hi).1
    rcases (show i = 0 ∨ i = 1 ∨ i = 2 ∨ i = 3 ∨ i = 4 ∨ i = 5 ∨ i = 6 ∨ i = 7 ∨ i = 8 ∨ i = 9 ∨ i = 10 from by omega) with rfl | rfl | rfl | rfl | rfl | rfl | rfl | rfl | rfl | rfl | rfl
    · obtain rfl := Option.some.inj hi
      refine RegInv.step_run rfl rfl ?_
      go_simp
      exact ⟨_, _, ⟨rfl, rfl⟩, _, _, _, _, _, _, _, _, _, _, ⟨rfl, rfl, rfl, rfl, rfl, rfl, rfl, rfl, rfl, rfl⟩, ⟨fun _ => rfl, h1, h2, h3, h4, h5, h6, h7, h8, h9, hP, hQ⟩⟩
    · obtain rfl := Option.some.inj hi
      have e0 := (h0 (hd ⟨0, .data⟩ (by simp) rfl))
      subst e0
      have q6 := HA.out W hP
      refine RegInv.step_run rfl rfl ?_
      go_simp
      exact ⟨_, _, ⟨rfl, rfl⟩, _, _, _, _, _, _, _, _, _, _, ⟨rfl, rfl, rfl, rfl, rfl, rfl, rfl, rfl, rfl, rfl⟩, ⟨h0, fun _ => rfl, h2, h3, h4, h5, h6, h7, h8, h9, hP, hQ⟩⟩
    · obtain rfl := Option.some.inj hi
      refine RegInv.step_run rfl rfl ?_
      go_simp
      exact ⟨_, _, ⟨rfl, rfl⟩, _, _, _, _, _, _, _, _, _, _, ⟨rfl, rfl, rfl, rfl, rfl, rfl, rfl, rfl, rfl, rfl⟩, ⟨h0, h1, fun _ => rfl, h3, h4, h5, h6, h7, h8, h9, hP, hQ⟩⟩
    · obtain rfl := Option.some.inj hi
      refine RegInv.step_run rfl rfl ?_
      go_simp
      exact ⟨_, _, ⟨rfl, rfl⟩, _, _, _, _, _, _, _, _, _, _, ⟨rfl, rfl, rfl, rfl, rfl, rfl, rfl, rfl, rfl, rfl⟩, ⟨h0, h1, h2, fun _ => rfl, h4, h5, h6, h7, h8, h9, hP, hQ⟩⟩
    · obtain rfl := Option.some.inj hi
      have e3 := (h3 (hd ⟨3, .data⟩ (by simp) rfl))
      subst e3
      have q6 := HA.out W hP
      refine RegInv.step_run rfl rfl ?_
      go_simp
      exact ⟨_, _, ⟨rfl, rfl⟩, _, _, _, _, _, _, _, _, _, _, ⟨rfl, rfl, rfl, rfl, rfl, rfl, rfl, rfl, rfl, rfl⟩, ⟨h0, h1, h2, h3, fun _ => rfl, h5, h6, h7, h8, h9, hP, hQ⟩⟩
    · obtain rfl := Option.some.inj hi
      have e4 := (h4 (hd ⟨4, .data⟩ (by simp) rfl))
      subst e4
      refine RegInv.step_run rfl rfl ?_
      go_simp
      exact ⟨_, _, ⟨rfl, rfl⟩, _, _, _, _, _, _, _, _, _, _, ⟨rfl, rfl, rfl, rfl, rfl, rfl, rfl, rfl, rfl, rfl⟩, ⟨h0, h1, h2, h3, h4, fun _ => rfl, h6, h7, h8, h9, hP, hQ⟩⟩
    · obtain rfl := Option.some.inj hi
      have e2 := (h2 (hd ⟨2, .data⟩ (by simp) rfl))
      subst e2
      have e5 := (h5 (hd ⟨5, .data⟩ (by simp) rfl))
      subst e5
      refine RegInv.step_fn #[.pointer (some ⟨b, 0, none⟩), .int .i64 (n : Int)] rfl Try.func52 (by kernel_rfl) (by kernel_rfl) rfl ((below_c W0 W b a len cap (n : Int) hP.1 (by omega)).mono ?_)
      rintro e W2 ⟨u, hu, rfl, hg2⟩
      have hu2 := lt_of_max hu (by omega)
      exact ⟨_, rfl, _, _, _, _, _, _, _, _, _, _, rfl, ⟨h0, h1, h2, h3, h4, h5, fun _ => ⟨u, by omega, rfl⟩, h7, h8, fun a b => ((h9 a b)).cur hg2 HBL.out, goes_trans (hP).2 hg2, fun g0 => ((hQ g0)).cur hg2 HBL.out⟩⟩
    · obtain rfl := Option.some.inj hi
      have e1 := (h1 (hd ⟨1, .data⟩ (by simp) rfl))
      subst e1
      obtain ⟨u, hx6, e6⟩ := (h6 (hd ⟨6, .data⟩ (by simp) rfl))
      subst e6
      have b7 : (0 : Int) ≤ (u : Int) := by omega
      have b8 : (u : Int) < (n : Int) := by omega
      refine RegInv.step_run rfl rfl ?_
      go_simp
      exact ⟨_, _, ⟨rfl, rfl⟩, _, _, _, _, _, _, _, _, _, _, ⟨rfl, rfl, rfl, rfl, rfl, rfl, rfl, rfl, rfl, rfl⟩, ⟨h0, h1, h2, h3, h4, h5, h6, fun _ => ⟨_, hx6, rfl⟩, h8, h9, hP, hQ⟩⟩
    · obtain rfl := Option.some.inj hi
      obtain ⟨u7, hx7, e7⟩ := (h7 (hd ⟨7, .data⟩ (by simp) rfl))
      subst e7
      obtain ⟨x8, i8, hi8, hx8, k0, k1, k2, k3, k4, k5, k6⟩ := HE.out W hP u7 hx7
      have HX8 := Lib.hid hx8
      clear hx8
      refine RegInv.step_run rfl rfl ?_
      go_simp
      exact ⟨_, _, ⟨rfl, rfl⟩, _, _, _, _, _, _, _, _, _, _, ⟨rfl, rfl, rfl, rfl, rfl, rfl, rfl, rfl, rfl, rfl⟩, ⟨h0, h1, h2, h3, h4, h5, h6, h7, fun _ => ⟨i8, hi8, x8, HX8.out, rfl⟩, h9, hP, hQ⟩⟩
    · obtain rfl := Option.some.inj hi
      have n10 : L 10 = false := by
        cases e10 : L 10 with
        | false => rfl
        | true =>
          have q9 := hcl 10 _ e10 rfl ⟨9, .data⟩ (by simp) rfl
          have q : L 9 = true := q9
          rw [hL] at q
          cases q
      refine RegInv.step_run rfl rfl ?_
      go_simp
      exact ⟨_, _, ⟨rfl, rfl⟩, _, _, _, _, _, _, _, _, _, _, ⟨rfl, rfl, rfl, rfl, rfl, rfl, rfl, rfl, rfl, rfl⟩, ⟨h0, h1, h2, h3, h4, h5, h6, h7, h8, fun _ _ => ⟨W.heap.size, rfl, hP.2.size, heap_alloc_new W _⟩, goes_below hP (bl_alloc (Below.refl _ _)), fun g0 => (by have q : L 10 = true := g0; rw [n10] at q; cases q)⟩⟩
    · obtain rfl := Option.some.inj hi
      obtain ⟨g7, e9, hg9, hz9⟩ := h9 (hd ⟨9, .data⟩ (by simp) rfl) hL
      subst e9
      obtain ⟨i8, hi8, x8, hx8, e8⟩ := h8 (hd ⟨8, .data⟩ (by simp) rfl)
      have HX8 := Lib.hid hx8
      clear hx8
      unfold fv at e8
      subst e8
      obtain ⟨⟨s0, s1, s2, s3, s4, s5, s6⟩, sf⟩ := blk7 hz9
      have z7 := lt_blk hz9
      have f0 := sf 0; have f1 := sf 1; have f2 := sf 2; have f3 := sf 3; have f4 := sf 4; have f5 := sf 5; have f6 := sf 6
      have hg9' : W0.heap.size ≤ g7 := by have := HWV.out; omega
      clear sf
      refine RegInv.step_skip rfl rfl ?_
      go_simp
      exact ⟨_, _, _, _, _, _, _, _, _, _, ⟨rfl, rfl, rfl, rfl, rfl, rfl, rfl, rfl, rfl, rfl⟩, ⟨h0, h1, h2, h3, h4, h5, h6, h7, h8, fun _ b => absurd (show true = false from b) (by decide), goes_set (goes_set (goes_set (goes_set (goes_set (goes_set (goes_set hP hg9 HBL.out hg9' _) hg9 HBL.out hg9' _) hg9 HBL.out hg9' _) hg9 HBL.out hg9' _) hg9 HBL.out hg9' _) hg9 HBL.out hg9' _) hg9 HBL.out hg9' _, fun _ => ⟨i8, hi8, x8, g7, HX8.out, rfl, hg9, by simp; omega, by simp [go_sem, s0], by simp [go_sem, s1], by simp [go_sem, s2]⟩⟩⟩
  · rintro L A W hL ⟨v12, v13, v14, v15, v16, v17, v18, v19, v20, v7, rfl, ⟨h0, h1, h2, h3, h4, h5, h6, h7, h8, h9, hP, hQ⟩⟩
    obtain ⟨i8, hi8, x8, g7, hx8, rfl, hg9, hz7, k0, k1, k2⟩ := hQ (hL 10 (by decide))
    have q6 := HA.out W hP
    obtain ⟨⟨t0, tf⟩, hod⟩ := HZ.out W hP
    have HOD := Lib.hid hod
    have hW := hP.2.size
    have HCU := Lib.hid hP.1
    have HHP := Lib.hid hP
    have hDR : Drawn (rs[i8]'hi8) := by obtain ⟨j, _, _, hg⟩ := HGT.out; exact hg.all _ (List.getElem_mem hi8)
    have HAP := Lib.hid (show ∀ m : Int, x8.r.From ≤ m → m < x8.r.To → ∃ (i : Nat) (h : i < rs.length), rs[i].Name = x8.r.Name ∧ rs[i].From ≤ m ∧ m < rs[i].To from fun m h1 h2 => ⟨i8, hi8, by rw [hx8], by rw [← hx8]; exact h1, by rw [← hx8]; exact h2⟩)
    rw [← hx8] at hDR
    have hf := hDR.from_
    have ht := hDR.upto
    have zB : b < W.heap.size := by omega
    have zw : w.heap.size < W.heap.size := by have := HBB.out; omega
    have n6 : g6 ≠ b := by omega
    have n7 : g7 ≠ b := by have := HBL.out; omega
    have n0 : w.heap.size ≠ b := by have := HBB.out; omega
    have n06 : g6 ≠ w.heap.size := by have := HBB.out; omega
    have n07 : g7 ≠ w.heap.size := by have := HBB.out; omega
    have n06' := n06.symm
    have n07' := n07.symm
    have HKP := Lib.hid (show ∀ W', OnlyB b W W' → (W'.cell? ⟨g6, 0, none⟩ = some (.slice (some ⟨g, 0, none⟩) n c) ∧ W'.cell? ⟨g7, 0, none⟩ = some (.int .i64 x8.r.Name) ∧ W'.cell? ⟨g7, 1, none⟩ = some (.int .i64 x8.r.From) ∧ W'.cell? ⟨g7, 2, none⟩ = some (.int .i64 x8.r.To)) ∧ W'.cell? ⟨w.heap.size, 0, none⟩ = some (.slice none 0 0) ∧ W'.frozen? ⟨w.heap.size, 0, none⟩ = false from fun W' h =>
      ⟨⟨(cur_far h (by omega) n6).1.trans q6, (cur_far h hz7 n7).1.trans k0, (cur_far h hz7 n7).1.trans k1, (cur_far h hz7 n7).1.trans k2⟩, (cur_far h zw n0).1.trans t0, (cur_far h zw n0).2.trans tf⟩)
    clear hP hQ hL h0 h1 h2 h3 h4 h5 h6 h7 h8 h9 hod hDR hx8
    generalize x8.r.Name = y0 at k0 HAP HKP
    generalize x8.r.From = y1 at k1 HAP HKP hf ht
    generalize x8.r.To = y2 at k2 HAP HKP ht
    have hw1 : IntKind.i64.wrap (y2 - y1) = y2 - y1 := IntWalk.i64_in _ (by omega)
    have HYY := Lib.hid (show 1 ≤ y2 - y1 ∧ y2 - y1 ≤ 2000000000 by omega)
    have HY1 := Lib.hid hf
    go_upto_region 4 with fail
    go_region_held3 (fun W => W.cell? ⟨g6, 0, none⟩ = some (.slice (some ⟨g, 0, none⟩) n c) ∧ W.cell? ⟨g7, 0, none⟩ = some (.int .i64 y0) ∧ W.cell? ⟨g7, 1, none⟩ = some (.int .i64 y1) ∧ W.cell? ⟨g7, 2, none⟩ = some (.int .i64 y2))
      (first | exact (HKP.out _ ((OnlyB.refl b W).drewN _)).1 | exact (HKP.out _ H4B.out).1 | go_keep)
      ((go_at_call 52; (with_reducible refine (below_c W0 _ b a len cap (y2 - y1) (cur_drew HCU.out) HYY.out.2).mono ?_); rintro e w4 ⟨u, hu, rfl, h4⟩; have iu := lt_of_max hu HYY.out.1; have H4B := Lib.hid (show OnlyB b W w4 from ((OnlyB.refl b W).drewN 1).trans h4.2); have H4G := Lib.hid h4; have hw2 : IntKind.i64.wrap (y1 + (u : Int)) = y1 + (u : Int) := (IntWalk.i64_in _ (by have := HY1.out; omega)); obtain ⟨_, s0, sf⟩ := HKP.out w4 H4B.out; clear h4 hu))
    all_goals
      go_wp2
      refine bodyPost_ret (v := .tuple #[.agg #[.slice (some ⟨g, 0, none⟩) n c], .int .i64 (y1 + (u : Int)), .int .i64 y0]) (by simp [results, Try.results16, go_sem, s0]) rfl ⟨rs, some ⟨g, 0, none⟩, n, c, _, _, HGT.out, HN.out, HAP.out _ (by omega) (by omega), rfl, ?_, ?_⟩
      · have e : ∀ (W : World) (a : Addr) (u : Value), (W.setCell a u).heap.size = W.heap.size := fun W a u => by simp
        rw [e]
        have hz4 : W.heap.size ≤ w4.heap.size := H4B.out.size
        refine (((od_cur (w1 := W.drew) (HOD.out.on (below_drewN (Below.refl _ _) 1)) (by omega) (show b ≤ W.heap.size by omega) H4G.out).box (b := w.heap.size) (o := 0) (.inl (by have := HBB.out; omega)) _).up (hi' := w4.heap.size) (by omega) ?_).base (by have := HBB.out; omega)
        rw [e]
        exact Nat.le_refl _
      · exact (HBW.out.trans (H4G.out.1.bel.mono (by have := HS1.out; omega))).setCell (p := ⟨w.heap.size, 0, none⟩) (Nat.le_refl _) _
end Go.Proofs.Ytkfgflmhefbinaa.DrawBook

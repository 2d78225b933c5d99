/- Contracts of the program's readNode and ParseFormula. -/
import Derived.Test.YtiogpiopgcbdbaaGreatDoorReadI
import Derived.Test.YtiogpiopgcbdbaaGreatDoorSplitI
namespace Go.Proofs.YtiogpiopgcbdbaaGreatDoor.ReadN
open Go.RowKit RowN TNode NodeMath FracMath SizeM ReadM WordM OpsM OpsI FracTxM FracTxS MapM KindsI StepI ReadI ParseM
/-- What a call leaves: below the reader all, besides all blocks but the reader and the row of nodes. -/
structure Fr (W W' : World) (b : Nat) (v v' : Value) : Prop where
  bel : Below b W W'
  same : ∀ k, k < W.heap.size → k ≠ b → v.ownBlock ≠ some k → W'.heap[k]? = W.heap[k]?
  row : At W v v'
theorem Fr.trans {A B' C : World} {b : Nat} {u v x : Value} (h : Fr A B' b u v) (k : Fr B' C b v x) : Fr A C b u x :=
  ⟨h.bel.trans k.bel, fun i h1 h2 h3 => (k.same i (Nat.lt_of_lt_of_le h1 h.bel.size) h2 (fun e => by rcases h.row i e with h | h; exact h3 h; omega)).trans (h.same i h1 h2 h3), fun i hi => by
    rcases k.row i hi with h1 | h1
    · exact h.row i h1
    · exact .inr (Nat.le_trans h.bel.size h1)⟩
theorem Fr.of_below {A C : World} {b : Nat} {v : Value} (h : Below A.heap.size A C) (hb : b ≤ A.heap.size) : Fr A C b v v := ⟨h.mono hb, fun k h1 _ _ => h.block k h1, fun _ h => .inl h⟩
theorem Fr.setN {W0 W : World} {b g i : Nat} {v v' : Value} (h : Fr W0 W b v v') (hg : W0.heap.size ≤ g) (hb : b ≤ g) (x : Value) : Fr W0 (W.setCell ⟨g, i, none⟩ x) b v v' :=
  ⟨h.bel.setCell (p := ⟨g, i, none⟩) hb x, fun k hk h1 h2 => (Below.heap_setCell _ _ _ _ (show k ≠ g by omega)).trans (h.same k hk h1 h2), h.row⟩
theorem setN {W : World} {b g i : Nat} {a : Option Addr} {n c kb nk : Nat} {D : DU} {v : Value} {ws : List ByteArray} {out : List El} (h : Rdr W b a n c kb nk D v ws out) (h1 : b < g) (h2 : v.ownBlock ≠ some g) (x : Value) : Rdr (W.setCell ⟨g, i, none⟩ x) b a n c kb nk D v ws out := by
  have hb : Below g W (W.setCell ⟨g, i, none⟩ x) := (Below.refl g W).setCell (p := ⟨g, i, none⟩) (Nat.le_refl _) _
  exact ⟨(hb.block b h1).trans h.blk, h.own.beside h2 x, h.ne, h.len, h.cap, reads_low h.wrd h.low (hb.mono (by omega)), h.low, own_on h.kown (hb.block kb (by have := h.klow; omega)), h.klow⟩
theorem push {W W2 w1 : World} {b : Nat} {a : Option Addr} {n c kb nk : Nat} {D : DU} {v v' : Value} {ws : List ByteArray} {out out' : List El} (h : Rdr W b a n c kb nk D v ws out) (hb2 : Below W.heap.size W W2) (hown : Owns fc 6 w1 b T v' out') (hg : W2.grownBy w1 v.ownBlock) (hat : At W2 v v') :
    Rdr (w1.setCell ⟨b, 2, none⟩ v') b a n c kb nk D v' ws out' ∧ Fr W (w1.setCell ⟨b, 2, none⟩ v') b v v' := by
  have hbl := h.lt
  have hne : v'.ownBlock ≠ some b := fun e => by
    rcases hat b e with h1 | h1
    · exact h.ne h1
    · have := hb2.size; omega
  have hblk : w1.heap[b]? = _ := (hg.block b (by have := hb2.size; omega) (fun e => h.ne e.symm)).trans ((hb2.block b hbl).trans h.blk)
  have hbel : Below b W (w1.setCell ⟨b, 2, none⟩ v') := ((hb2.mono (Nat.le_of_lt hbl)).grown hg (by have := hb2.size; omega) (fun k hk => h.own.low k hk)).setCell (p := ⟨b, 2, none⟩) (Nat.le_refl _) v'
  refine ⟨⟨Lib.heap_setCell_same hblk _, hown.beside hne _, hne, h.len, h.cap, reads_low h.wrd h.low hbel, h.low, own_on h.kown (hbel.block kb h.klow), h.klow⟩, hbel, ?_, ?_⟩
  · intro k hk h1 h2
    rw [Below.heap_setCell _ _ _ _ (fun e => h1 e), hg.block k (by have := hb2.size; omega) (fun e => h2 e.symm)]
    exact hb2.block k hk
  · intro k hk
    rcases hat k hk with h1 | h1
    · exact .inl h1
    · exact .inr (by have := hb2.size; omega)
theorem newN (w : World) (x : El) (g : Nat) (hg : w.heap.size = g) : ∀ j u, ([x].flatMap fc)[j]? = some u →
    (w.alloc (.cells #[.int .i64 x.Kind, .int .i64 x.A, .int .i64 x.B, .int .i64 x.C, .int .i64 x.Value_Num, .int .i64 x.Value_Den] 46)).cell? ((⟨g, 0, none⟩ : Addr).add j) = some u := by
  subst hg
  exact news_block (T := 46) (heap_alloc_new w _)
/-- Where the reading of the operands stands. -/
structure St (f : Nat) (x : El) (nn b g h kb nk : Nat) (D : DU) (w0 : World) (v0 : Value) (R : Option (List El × List SizeM.W)) (L0 : Nat) (j : Nat) (os : List El) (v : Value) (ws : List ByteArray) (A B C : Int) (wq : World) : Prop where
  rd : ∃ a n c, Rdr wq b a n c kb nk D v ws os
  fr : Fr w0 wq b v0 v
  blk : wq.heap[g]? = some (.cells #[.int .i64 x.Kind, .int .i64 A, .int .i64 B, .int .i64 C, .int .i64 x.Value_Num, .int .i64 x.Value_Den] 46 (0, 0))
  ptr : wq.heap[h]? = some (.cells #[.pointer (some ⟨g, 1, none⟩), .pointer (some ⟨g, 2, none⟩), .pointer (some ⟨g, 3, none⟩)] 90 (0, 0))
  g0 : w0.heap.size ≤ g
  h0 : w0.heap.size ≤ h
  gb : b < g
  hb : b < h
  gh : g ≠ h
  gv : v.ownBlock ≠ some g
  hv : v.ownBlock ≠ some h
  sm : ∀ s ∈ ws, s.size ≤ 600
  fuel : ws.length < f
  wl : ws.length < L0
  ol : os.length + ws.length ≤ 1000
  fin : aft x nn f j A B C os (dat ws) = R
theorem dat_len (ps : List ByteArray) : (dat ps).length = ps.length := by simp [dat]
theorem St.next {f : Nat} {x : El} {nn b g h kb nk : Nat} {D : DU} {w0 : World} {v0 : Value} {R : Option (List El × List SizeM.W)} {L0 j : Nat} {os : List El} {v : Value} {ws : List ByteArray} {A B C : Int} {wq : World}
    (S : St f x nn b g h kb nk D w0 v0 R L0 j os v ws A B C wq) (hj : j < nn) (hn : nn ≤ 3) {o2 : List El} {v2 : Value} {ws2 : List ByteArray} {w2 : World}
    (hrd : ∃ a n c, Rdr w2 b a n c kb nk D v2 ws2 o2) (hfr : Fr wq w2 b v v2) (hsm : ∀ s ∈ ws2, s.size ≤ 600) (hwl : ws2.length < ws.length) (hs : readT f (dat ws) os = some (o2, dat ws2)) :
    St f x nn b g h kb nk D w0 v0 R L0 (j + 1) o2 v2 ws2 (if j = 0 then (o2.length : Int) - 1 else A) (if j = 1 then (o2.length : Int) - 1 else B) (if 2 ≤ j then (o2.length : Int) - 1 else C) (w2.setCell ⟨g, j + 1, none⟩ (.int .i64 ((o2.length : Int) - 1))) := by
  have hgl : g < wq.heap.size := (Array.getElem?_eq_some_iff.1 S.blk).1
  have hhl : h < wq.heap.size := (Array.getElem?_eq_some_iff.1 S.ptr).1
  have hgv : v2.ownBlock ≠ some g := fun e => by
    rcases hfr.row g e with h1 | h1
    · exact S.gv h1
    · omega
  have hhv : v2.ownBlock ≠ some h := fun e => by
    rcases hfr.row h e with h1 | h1
    · exact S.hv h1
    · omega
  have hblk := (hfr.same g hgl (by have := S.gb; omega) S.gv).trans S.blk
  have hptr := (hfr.same h hhl (by have := S.hb; omega) S.hv).trans S.ptr
  obtain ⟨a', n', c', hr⟩ := hrd
  have hlen := ReadK.read_len _ _ _ _ _ hs
  rw [dat_len, dat_len] at hlen
  have hfu := S.fuel
  have hwl0 := S.wl
  have hol := S.ol
  refine ⟨⟨a', n', c', setN hr S.gb hgv _⟩, (S.fr.trans hfr).setN S.g0 (Nat.le_of_lt S.gb) _, ?_, ?_, S.g0, S.h0, S.gb, S.hb, S.gh, hgv, hhv, hsm, by omega, by omega, by omega, ?_⟩
  · have h3 : j = 0 ∨ j = 1 ∨ j = 2 := by omega
    rcases h3 with rfl | rfl | rfl <;> exact Lib.heap_setCell_same hblk _
  · rw [Below.heap_setCell _ _ _ _ (fun e => S.gh e.symm)]
    exact hptr
  · rw [← S.fin, aft_some hj hs]
theorem St.on {f : Nat} {x : El} {nn b g h kb nk : Nat} {D : DU} {w0 : World} {v0 : Value} {R : Option (List El × List SizeM.W)} {L0 j : Nat} {os : List El} {v : Value} {ws : List ByteArray} {A B C : Int} {wq w' : World}
    (S : St f x nn b g h kb nk D w0 v0 R L0 j os v ws A B C wq) (hb : Below wq.heap.size wq w') : St f x nn b g h kb nk D w0 v0 R L0 j os v ws A B C w' := by
  have hgl : g < wq.heap.size := (Array.getElem?_eq_some_iff.1 S.blk).1
  have hhl : h < wq.heap.size := (Array.getElem?_eq_some_iff.1 S.ptr).1
  obtain ⟨a', n', c', hr⟩ := S.rd
  exact ⟨⟨a', n', c', hr.on hb⟩, S.fr.trans (Fr.of_below hb (Nat.le_of_lt hr.lt)), (hb.block g hgl).trans S.blk, (hb.block h hhl).trans S.ptr, S.g0, S.h0, S.gb, S.hb, S.gh, S.gv, S.hv, S.sm, S.fuel, S.wl, S.ol, S.fin⟩
/-- What readNode answers. -/
def IsNode (b kb nk : Nat) (D : DU) (v : Value) (ws : List ByteArray) (R : Option (List El × List SizeM.W)) (W : World) (e : Ending) (W' : World) : Prop :=
  ∃ v' ws' o2, (∃ a n c, Rdr W' b a n c kb nk D v' ws' o2) ∧ Fr W W' b v v' ∧ (∀ s ∈ ws', s.size ≤ 600) ∧ ((R = none ∧ e = .returned (.bool false)) ∨ (R = some (o2, dat ws') ∧ ws'.length < ws.length ∧ e = .returned (.bool true)))
set_option maxRecDepth 100000 in
set_option maxHeartbeats 16000000 in
theorem node_c (b kb nk : Nat) (D : DU) (hK : KD D) : ∀ (f : Nat) (ws : List ByteArray) (out : List El) (W : World) (a : Option Addr) (n c : Nat) (v : Value), ws.length < f → Rdr W b a n c kb nk D v ws out → (∀ s ∈ ws, s.size ≤ 600) → out.length + ws.length ≤ 1000 → (∀ W', Below b W W' → ParseFI.Vars W') →
    Calls Tryz.prog 20 #[.pointer (some ⟨b, 0, none⟩)] W (IsNode b kb nk D v ws (readT f (dat ws) out) W) := by
  intro f
  induction f with
  | zero => intro ws out W a n c v h; omega
  | succ f IH =>
    intro ws out W a n c v hf hrd hsm hol hvb
    have HIH := Lib.hid IH
    have HRD := Lib.hid hrd
    have HVB := Lib.hid hvb
    have HSM := Lib.hid hsm
    have HWC := Lib.hid (word_c W b a n c kb nk D v ws out hK hrd hsm (by omega) (hvb W (Below.refl _ _)) hvb)
    have hbl := hrd.lt
    cases ws with
    | nil =>
      have E := Lib.hid (show readT (f + 1) (dat []) out = none from rfl)
      rw [E.out]
      clear IH hf hsm hvb
      go_enter Tryz.func20, Tryz.ntmps20
      go_wp2_with fail
      refine HWC.out.mono ?_
      rintro e w1 ⟨rfl, hb⟩
      have HB := Lib.hid hb
      clear hb
      simp only [fv, e0]
      go_wp2
      go_ret
      have hb2 := BelowKit.bl_alloc (o := .cells #[.int .i64 0, .int .i64 0, .int .i64 0, .int .i64 0, .int .i64 0, .int .i64 0] 46) HB.out
      exact ⟨v, [], out, ⟨a, n, c, HRD.out.on hb2⟩, Fr.of_below hb2 (Nat.le_of_lt hbl), HSM.out, .inl ⟨rfl, rfl⟩⟩
    | cons s r =>
      obtain ⟨⟨x, ok⟩, hx⟩ : ∃ y, readW s.data.toList = y := ⟨_, rfl⟩
      have hdat : dat (s :: r) = s.data.toList :: dat r := rfl
      obtain ⟨R, hR⟩ : ∃ R, readT (f + 1) (dat (s :: r)) out = R := ⟨_, rfl⟩
      rw [hR]
      have HX := Lib.hid hx
      have HRR := Lib.hid hR
      rw [List.length_cons] at hf hol
      clear IH hsm hvb hx hR
      go_enter Tryz.func20, Tryz.ntmps20
      go_wp2_with fail
      refine HWC.out.mono ?_
      rintro e w1 ⟨rfl, ⟨a1, hrd1⟩, hbel, hsz, hsame⟩
      rw [HX.out]
      have HRD1 := Lib.hid hrd1
      have HFR1 := Lib.hid (show Fr W w1 b v v from ⟨hbel, fun k h1 h2 _ => hsame k h1 h2, fun _ h => .inl h⟩)
      clear HWC hrd1 hbel hsame
      cases ok with
      | false =>
        have E := Lib.hid (show R = none from HRR.out.symm.trans (read_no (by rw [HX.out])))
        simp only [fv]
        go_wp2
        go_ret
        have hb2 : Below w1.heap.size w1 (w1.alloc (.cells #[.int .i64 x.Kind, .int .i64 x.A, .int .i64 x.B, .int .i64 x.C, .int .i64 x.Value_Num, .int .i64 x.Value_Den] 46)) := by (repeat (first | exact Below.refl _ _ | apply BelowKit.bl_alloc | apply BelowKit.bl_drewN | apply BelowKit.bl_drew | (refine BelowKit.bl_set ?_ _ ?_; rotate_left; (first | omega | (simp; omega) | simp)) | (refine BelowKit.bl_trans ?_ (‹Hid (Below _ _ _)›).out)))
        exact ⟨v, r, out, ⟨_, _, _, HRD1.out.on hb2⟩, HFR1.out.trans (Fr.of_below hb2 (by omega)), fun y hy => HSM.out y (List.mem_cons_of_mem _ hy), .inl ⟨E.out, rfl⟩⟩
      | true =>
        obtain ⟨ha, hk1, hk9⟩ := read_aft (f := f) (r := dat r) (out := out) HX.out
        rw [← hdat, HRR.out] at ha
        have HA := Lib.hid ha
        clear ha
        simp only [fv]
        go_upto_region 5 with fail
        have hbA : Below w1.heap.size w1 (w1.alloc (.cells #[.int .i64 x.Kind, .int .i64 x.A, .int .i64 x.B, .int .i64 x.C, .int .i64 x.Value_Num, .int .i64 x.Value_Den] 46)) := by (repeat (first | exact Below.refl _ _ | apply BelowKit.bl_alloc | apply BelowKit.bl_drewN | apply BelowKit.bl_drew | (refine BelowKit.bl_set ?_ _ ?_; rotate_left; (first | omega | (simp; omega) | simp)) | (refine BelowKit.bl_trans ?_ (‹Hid (Below _ _ _)›).out)))
        have hbB : Below (w1.alloc (.cells #[.int .i64 x.Kind, .int .i64 x.A, .int .i64 x.B, .int .i64 x.C, .int .i64 x.Value_Num, .int .i64 x.Value_Den] 46)).heap.size (w1.alloc (.cells #[.int .i64 x.Kind, .int .i64 x.A, .int .i64 x.B, .int .i64 x.C, .int .i64 x.Value_Num, .int .i64 x.Value_Den] 46)) ((w1.alloc (.cells #[.int .i64 x.Kind, .int .i64 x.A, .int .i64 x.B, .int .i64 x.C, .int .i64 x.Value_Num, .int .i64 x.Value_Den] 46)).alloc (.cells #[.pointer (some ⟨w1.heap.size, 1, none⟩), .pointer (some ⟨w1.heap.size, 2, none⟩), .pointer (some ⟨w1.heap.size, 3, none⟩)] 90)) := by (repeat (first | exact Below.refl _ _ | apply BelowKit.bl_alloc | apply BelowKit.bl_drewN | apply BelowKit.bl_drew | (refine BelowKit.bl_set ?_ _ ?_; rotate_left; (first | omega | (simp; omega) | simp)) | (refine BelowKit.bl_trans ?_ (‹Hid (Below _ _ _)›).out)))
        have hnode : ((w1.alloc (.cells #[.int .i64 x.Kind, .int .i64 x.A, .int .i64 x.B, .int .i64 x.C, .int .i64 x.Value_Num, .int .i64 x.Value_Den] 46)).alloc (.cells #[.pointer (some ⟨w1.heap.size, 1, none⟩), .pointer (some ⟨w1.heap.size, 2, none⟩), .pointer (some ⟨w1.heap.size, 3, none⟩)] 90)).heap[w1.heap.size]? = _ := (hbB.block w1.heap.size (by simp)).trans (heap_alloc_new w1 (.cells #[.int .i64 x.Kind, .int .i64 x.A, .int .i64 x.B, .int .i64 x.C, .int .i64 x.Value_Num, .int .i64 x.Value_Den] 46))
        have hptr := heap_alloc_new (w1.alloc (.cells #[.int .i64 x.Kind, .int .i64 x.A, .int .i64 x.B, .int .i64 x.C, .int .i64 x.Value_Num, .int .i64 x.Value_Den] 46)) (.cells #[.pointer (some ⟨w1.heap.size, 1, none⟩), .pointer (some ⟨w1.heap.size, 2, none⟩), .pointer (some ⟨w1.heap.size, 3, none⟩)] 90)
        have hz1 : (w1.alloc (.cells #[.int .i64 x.Kind, .int .i64 x.A, .int .i64 x.B, .int .i64 x.C, .int .i64 x.Value_Num, .int .i64 x.Value_Den] 46)).heap.size = w1.heap.size + 1 := by simp
        have hbW := BelowKit.bl_trans hbA hbB
        rw [hz1] at hptr
        obtain ⟨w3, hw3⟩ : ∃ w3, (w1.alloc (.cells #[.int .i64 x.Kind, .int .i64 x.A, .int .i64 x.B, .int .i64 x.C, .int .i64 x.Value_Num, .int .i64 x.Value_Den] 46)).alloc (.cells #[.pointer (some ⟨w1.heap.size, 1, none⟩), .pointer (some ⟨w1.heap.size, 2, none⟩), .pointer (some ⟨w1.heap.size, 3, none⟩)] 90) = w3 := ⟨_, rfl⟩
        rw [hw3] at hnode hptr hbW ⊢
        obtain ⟨g, hg⟩ : ∃ g, w1.heap.size = g := ⟨_, rfl⟩
        have HBW := Lib.hid hbW
        have HND := Lib.hid hnode
        have HPT := Lib.hid hptr
        have n0 : w3.cell? ⟨g, 0, none⟩ = some (.int .i64 x.Kind) := by rw [← hg]; simp [World.cell?, hnode]
        have n1 : w3.cell? ⟨g, 1, none⟩ = some (.int .i64 x.A) := by rw [← hg]; simp [World.cell?, hnode]
        have n2 : w3.cell? ⟨g, 2, none⟩ = some (.int .i64 x.B) := by rw [← hg]; simp [World.cell?, hnode]
        have n3 : w3.cell? ⟨g, 3, none⟩ = some (.int .i64 x.C) := by rw [← hg]; simp [World.cell?, hnode]
        have n4 : w3.cell? ⟨g, 4, none⟩ = some (.int .i64 x.Value_Num) := by rw [← hg]; simp [World.cell?, hnode]
        have n5 : w3.cell? ⟨g, 5, none⟩ = some (.int .i64 x.Value_Den) := by rw [← hg]; simp [World.cell?, hnode]
        rw [hg] at HND HPT ⊢
        clear hnode hptr hbA hbB hz1 hbW hw3
        go_wp2_with fail
        refine (step_i _ x).mono ?_
        rintro e w4 ⟨rfl, hb⟩
        have HB4 := Lib.hid (BelowKit.bl_trans HBW.out hb)
        have HB34 := Lib.hid hb
        clear hb n0 n1 n2 n3 n4 n5
        go_wp2_with fail
        refine (opsN_i _ x ⟨hk1, hk9⟩).mono ?_
        rintro e w5 ⟨q, rfl, _, hb, _⟩
        have hb35 : Below w3.heap.size w3 w5 := BelowKit.bl_trans HB34.out hb
        have HB5 := Lib.hid (BelowKit.bl_trans HB4.out hb)
        obtain ⟨nn, hnn⟩ : ∃ n, (opsL x).length = n := ⟨_, rfl⟩
        have hn3 : nn ≤ 3 := by rw [← hnn]; exact ops_len x
        rw [hnn] at HA ⊢
        have h3z : g + 1 < w3.heap.size := (Array.getElem?_eq_some_iff.1 HPT.out).1
        have hvl := HRD.out.own.lt
        have hS : St f x nn b g (g + 1) kb nk D W v R (r.length + 1) 0 out v r x.A x.B x.C w5 := ⟨⟨_, _, _, HRD1.out.on HB5.out⟩, HFR1.out.trans (Fr.of_below HB5.out (by omega)), (hb35.block g (by omega)).trans HND.out, (hb35.block (g + 1) h3z).trans HPT.out,
          by omega, by omega, by omega, by omega, by omega, fun e => by have := hvl g e; omega, fun e => by have := hvl (g + 1) e; omega, fun y hy => HSM.out y (List.mem_cons_of_mem _ hy), by omega, by omega, by omega, HA.out.symm⟩
        have HS := Lib.hid hS
        have hgb : b < g := by omega
        obtain ⟨h, hh⟩ : ∃ h, g + 1 = h := ⟨_, rfl⟩
        rw [hh] at HS ⊢
        clear hb hnn hb35 h3z hvl hS hg HND HPT HBW HB4 HB34 HB5 HA HRD1 HFR1 hh
        go_wp2
        go_loopw [22] (fun t wr => ∃ (j : Nat) (ji : Int) (os : List El) (v' : Value) (ws' : List ByteArray) (A B C : Int), j ≤ nn ∧ ji = (j : Int) ∧ t = .int .i64 ji ∧ Hid (St f x nn b g h kb nk D W v R (r.length + 1) j os v' ws' A B C wr)) (fun t _ => nn - (intOf t).toNat)
        case atStart => exact ⟨0, 0, out, v, r, x.A, x.B, x.C, Nat.zero_le _, rfl, rfl, HS⟩
        case round =>
          rename World => wq
          obtain ⟨j, ji, os, v6, ws6, A, B, C, hj, hji, rfl, S⟩ := hrel
          clear HS
          by_cases hjn : j < nn
          · have hj3 : (j = 0 ∧ ji = 0) ∨ (j = 1 ∧ ji = 1) ∨ (j = 2 ∧ ji = 2) := by omega
            obtain ⟨a6, n6, c6, hr6⟩ := S.out.rd
            have HC := Lib.hid (HIH.out ws6 os wq a6 n6 c6 v6 S.out.fuel hr6 S.out.sm S.out.ol (fun W' h => HVB.out W' (S.out.fr.bel.trans h)))
            have bj : ji < (nn : Int) := by omega
            clear hr6 hji
            rcases hj3 with ⟨rfl, rfl⟩ | ⟨rfl, rfl⟩ | ⟨rfl, rfl⟩
            all_goals
              go_wp2_with fail
              refine HC.out.mono ?_
              rintro e w7 ⟨v7, ws7, o7, hrd7, hfr7, hsm7, ⟨hn7, rfl⟩ | ⟨hs7, hwl7, rfl⟩⟩
              · have E := Lib.hid (show R = none from S.out.fin.symm.trans (aft_none hjn hn7))
                have HRE := Lib.hid hrd7
                have HFE := Lib.hid (S.out.fr.trans hfr7)
                clear hn7 hrd7 hfr7 HC S
                go_wp2
                go_ret
                exact ⟨v7, ws7, o7, HRE.out, HFE.out, hsm7, .inl ⟨E.out, rfl⟩⟩
              · have HNX := Lib.hid (S.out.next hjn hn3 hrd7 hfr7 hsm7 hwl7 hs7)
                obtain ⟨a7, n7, c7, hr7⟩ := hrd7
                have hgl := (Array.getElem?_eq_some_iff.1 S.out.blk).1
                have hhl := (Array.getElem?_eq_some_iff.1 S.out.ptr).1
                have hblk := (hfr7.same g hgl (by have := S.out.gb; omega) S.out.gv).trans S.out.blk
                have hptr := (hfr7.same h hhl (by have := S.out.hb; omega) S.out.hv).trans S.out.ptr
                have hq1 : w7.cell? ⟨g, 1, none⟩ = some (.int .i64 A) := by simp [World.cell?, hblk]
                have hq2 : w7.cell? ⟨g, 2, none⟩ = some (.int .i64 B) := by simp [World.cell?, hblk]
                have hq3 : w7.cell? ⟨g, 3, none⟩ = some (.int .i64 C) := by simp [World.cell?, hblk]
                have hf1 : w7.frozen? ⟨g, 1, none⟩ = false := frozen_of_row w7 g 1 _ _ hblk
                have hf2 : w7.frozen? ⟨g, 2, none⟩ = false := frozen_of_row w7 g 2 _ _ hblk
                have hf3 : w7.frozen? ⟨g, 3, none⟩ = false := frozen_of_row w7 g 3 _ _ hblk
                have hp0 : w7.cell? ⟨h, 0, none⟩ = some (.pointer (some ⟨g, 1, none⟩)) := by simp [World.cell?, hptr]
                have hp1 : w7.cell? ⟨h, 1, none⟩ = some (.pointer (some ⟨g, 2, none⟩)) := by simp [World.cell?, hptr]
                have hp2 : w7.cell? ⟨h, 2, none⟩ = some (.pointer (some ⟨g, 3, none⟩)) := by simp [World.cell?, hptr]
                have hol7 : o7.length ≤ 1000 := by
                  have h1 := ReadK.read_len _ _ _ _ _ hs7
                  rw [dat_len, dat_len] at h1
                  have := S.out.ol
                  omega
                obtain ⟨p7, k7, rfl, _⟩ := hr7.own.form fw
                have hb2 : w7.cell? ⟨b, 2, none⟩ = some (.slice p7 o7.length k7) := by simp [World.cell?, hr7.blk]
                obtain ⟨L7, hL7⟩ : ∃ L, o7.length = L := ⟨_, rfl⟩
                rw [hL7] at hb2 HNX hol7
                have W7 : IntKind.i64.wrap ((L7 : Int) - 1) = (L7 : Int) - 1 := IntWalk.i64_in _ (by omega)
                clear hblk hptr hgl hhl hr7 hfr7 hs7 hwl7 hsm7 HC S hL7 hol7
                go_wp2
                go_region
                go_wp2
                go_roundw
                case rel => exact ⟨_, _, o7, _, ws7, _, _, _, Nat.succ_le_of_lt hjn, rfl, rfl, Lib.hid (HNX.out.on (BelowKit.bl_drew (Below.refl _ _)))⟩
                case measure => simp [intOf]; omega
          · obtain rfl : j = nn := by omega
            subst hji
            have E := Lib.hid (S.out.fin.symm.trans (aft_end (Nat.lt_irrefl _)))
            have n0 : wq.cell? ⟨g, 0, none⟩ = some (.int .i64 x.Kind) := by simp [World.cell?, S.out.blk]
            have n1 : wq.cell? ⟨g, 1, none⟩ = some (.int .i64 A) := by simp [World.cell?, S.out.blk]
            have n2 : wq.cell? ⟨g, 2, none⟩ = some (.int .i64 B) := by simp [World.cell?, S.out.blk]
            have n3 : wq.cell? ⟨g, 3, none⟩ = some (.int .i64 C) := by simp [World.cell?, S.out.blk]
            have n4 : wq.cell? ⟨g, 4, none⟩ = some (.int .i64 x.Value_Num) := by simp [World.cell?, S.out.blk]
            have n5 : wq.cell? ⟨g, 5, none⟩ = some (.int .i64 x.Value_Den) := by simp [World.cell?, S.out.blk]
            have hgl : g < wq.heap.size := (Array.getElem?_eq_some_iff.1 S.out.blk).1
            obtain ⟨a9, n9, c9, hr9⟩ := S.out.rd
            have HR9 := Lib.hid hr9
            have HF9 := Lib.hid S.out.fr
            have HS9 := Lib.hid S.out.sm
            have HW9 := Lib.hid S.out.wl
            have hol := S.out.ol
            obtain ⟨p9, k9, rfl, _⟩ := hr9.own.form fw
            have hb2 : wq.cell? ⟨b, 2, none⟩ = some (.slice p9 os.length k9) := by simp [World.cell?, hr9.blk]
            have hbz := hr9.lt
            have hpush := Lib.hid (fun (W2 w1 : World) (v' : Value) (h2 : Below wq.heap.size wq W2) (ho : Owns fc 6 w1 b T v' (os ++ [⟨x.Kind, A, B, C, x.Value_Num, x.Value_Den⟩])) (hg : W2.grownBy w1 (Value.slice p9 os.length k9).ownBlock) (hat : At W2 (.slice p9 os.length k9) v') => push HR9.out h2 ho hg hat)
            have HBD := Lib.hid (show Below wq.heap.size wq ((wq.alloc (.cells #[.int .i64 x.Kind, .int .i64 A, .int .i64 B, .int .i64 C, .int .i64 x.Value_Num, .int .i64 x.Value_Den] 46)).drew) from BelowKit.bl_drew (BelowKit.bl_alloc (Below.refl _ _)))
            have HBZ := Lib.hid (Nat.lt_of_lt_of_le hbz HBD.out.size)
            clear S hr9 HIH
            go_wp2_with fail
            go_region_law ((refine step_appendN ft fw _ (o := ⟨some 47, _, _, _, _, _⟩) rfl (.tmp 44) (.tmp 46) rfl b _ os rfl (HR9.out.own.alloc _).drew ⟨wq.heap.size, 0, none⟩ 1 1 [⟨x.Kind, A, B, C, x.Value_Num, x.Value_Den⟩] rfl rfl (newN wq ⟨x.Kind, A, B, C, x.Value_Num, x.Value_Den⟩ _ rfl) ?_ ?_ ?_; (simp; omega); (exact Nat.le_of_lt HBZ.out); intro v' w3 hown3 hg3 hat3; obtain ⟨p8, k8, rfl, _⟩ := hown3.form fw; obtain ⟨hr3, hf3⟩ := hpush.out _ _ _ HBD.out hown3 hg3 hat3; have hbk : w3.heap[b]? = some (.cells #[.slice a9 n9 c9, .map (some kb), .slice p9 os.length k9] 56 (0, 0)) := (hg3.block b HBZ.out (fun e => HR9.out.ne e.symm)).trans ((HBD.out.block b hbz).trans HR9.out.blk); have e2 : w3.cell? ⟨b, 2, none⟩ = some (.slice p9 os.length k9) := cell_of_row w3 b 2 _ _ _ hbk; have e3 : w3.frozen? ⟨b, 2, none⟩ = false := frozen_of_row w3 b 2 _ _ hbk))
            all_goals
              simp only [List.length_append, List.length_cons, List.length_nil, Nat.zero_add] at hr3 hf3
              have HR3 := Lib.hid hr3
              have HF3 := Lib.hid (HF9.out.trans hf3)
              clear hr3 hf3 hown3 hg3 hat3 hbk n0 n1 n2 n3 n4 n5 e2 e3 hb2
              go_wp2
              go_ret
              exact ⟨_, ws6, _, ⟨_, _, _, HR3.out⟩, HF3.out, HS9.out, .inr ⟨E.out, HW9.out, rfl⟩⟩
end Go.Proofs.YtiogpiopgcbdbaaGreatDoor.ReadN

/- Contracts of the model's l09Read and ParseFormula. -/
import Derived.Test.YtiogpiopgcbdbaaDoorRows
import Derived.Test.YtiogpiopgcbdbaaDoorReadK
import Derived.Test.YtiogpiopgcbdbaaDoorParseM
import Derived.Test.YtiogpiopgcbdbaaDoorParseFS
import Derived.Test.YtiogpiopgcbdbaaDoorTextS
import Derived.Test.YtiogpiopgcbdbaaDoorFormS
import Derived.Test.YtiogpiopgcbdbaaDoorMon
import Derived.RangeFuncBox
import Derived.Deep.DeepCutAuto
import Derived.Lib.BufferMore
namespace Go.Proofs.YtiogpiopgcbdbaaDoor.ReadS
open Go.RowKit RowN TNode NodeMath FracMath FracTxM FracTxS FracMake SizeM ReadM ParseM
/-- What is left is an end of what was there. -/
theorem read_suffix : ∀ (f : Nat) (ws : List SizeM.W) (out o : List El) (r : List SizeM.W), readT f ws out = some (o, r) → r <:+ ws ∧ r.length < ws.length
  | 0, _, _, _, _, h => by rw [readT] at h; cases h
  | _ + 1, [], _, _, _, h => by rw [readT] at h; cases h
  | f + 1, w :: ws, out, o, r, h => by
    rw [readT] at h
    have one : ∀ {x : List SizeM.W}, x <:+ ws ∧ x.length ≤ ws.length → x <:+ w :: ws ∧ x.length < (w :: ws).length := fun {x} h => ⟨h.1.trans (List.suffix_cons w ws), by simp; omega⟩
    split at h
    · cases h; exact one ⟨List.suffix_refl _, Nat.le_refl _⟩
    · split at h
      · cases h; exact one ⟨List.suffix_refl _, Nat.le_refl _⟩
      · split at h
        · cases h
        · cases e1 : readT f ws out with
          | none => rw [e1] at h; cases h
          | some p1 =>
            obtain ⟨o1, r1⟩ := p1
            rw [e1] at h
            simp only [] at h
            obtain ⟨s1, l1⟩ := read_suffix f ws out o1 r1 e1
            cases e2 : readT f r1 o1 with
            | none => rw [e2] at h; cases h
            | some p2 =>
              obtain ⟨o2, r2⟩ := p2
              rw [e2] at h
              simp only [] at h
              obtain ⟨s2, l2⟩ := read_suffix f r1 o1 o2 r2 e2
              split at h
              · cases e3 : readT f r2 o2 with
                | none => rw [e3] at h; cases h
                | some p3 =>
                  obtain ⟨o3, r3⟩ := p3
                  rw [e3] at h
                  simp only [] at h
                  obtain ⟨s3, l3⟩ := read_suffix f r2 o2 o3 r3 e3
                  cases h
                  exact one ⟨s3.trans (s2.trans s1), by omega⟩
              · cases h
                exact one ⟨s2.trans s1, by omega⟩
/-- The box b holds the slice v of the nodes so far. -/
structure Rd (W : World) (b B : Nat) (v : Value) (out : List El) : Prop where
  box : Boxed W b 33 v
  own : Owns fc 6 W B T v out
  ne : v.ownBlock ≠ some b
  lt : B ≤ b
/-- What a call leaves: below B all, besides all blocks but the box and the row. -/
structure Fr (W W' : World) (b B : Nat) (v v' : Value) : Prop where
  bel : Below B W W'
  size : W.heap.size ≤ W'.heap.size
  same : ∀ k, k < W.heap.size → k ≠ b → v.ownBlock ≠ some k → W'.heap[k]? = W.heap[k]?
  row : ∀ k, v'.ownBlock = some k → v.ownBlock = some k ∨ W.heap.size ≤ k
theorem Fr.refl (W : World) (b B : Nat) (v : Value) : Fr W W b B v v := ⟨Below.refl _ _, Nat.le_refl _, fun _ _ _ _ => rfl, fun _ h => .inl h⟩
theorem Fr.trans {A B' C : World} {b B : Nat} {u v x : Value} (h : Fr A B' b B u v) (k : Fr B' C b B v x) : Fr A C b B u x :=
  ⟨h.bel.trans k.bel, Nat.le_trans h.size k.size, fun i h1 h2 h3 => (k.same i (Nat.lt_of_lt_of_le h1 h.size) h2 (fun e => by rcases h.row i e with h | h; exact h3 h; omega)).trans (h.same i h1 h2 h3), fun i hi => by
    rcases k.row i hi with h1 | h1
    · exact h.row i h1
    · exact .inr (Nat.le_trans h.size h1)⟩
theorem Fr.of_below {A C : World} {b B : Nat} {v : Value} (h : Below A.heap.size A C) (hB : B ≤ A.heap.size) : Fr A C b B v v := ⟨h.mono hB, h.size, fun k h1 _ _ => h.block k h1, fun _ h => .inl h⟩
theorem Rd.on {W W' : World} {b B : Nat} {v : Value} {out : List El} (h : Rd W b B v out) (hb : Below W.heap.size W W') : Rd W' b B v out := ⟨(hb.block b h.box.lt).trans h.box, h.own.on hb, h.ne, h.lt⟩
/-- A cell of another block. -/
theorem Fr.cell {W W' : World} {b B k o : Nat} {v v' x : Value} (h : Fr W W' b B v v') (hk : k < W.heap.size) (h1 : k ≠ b) (h2 : v.ownBlock ≠ some k) (hc : W.cell? ⟨k, o, none⟩ = some x) : W'.cell? ⟨k, o, none⟩ = some x :=
  (World.cell?_of_block (h.same k hk h1 h2)).trans hc
/-- One node more: 'append' has answered v', which is stored into the box. -/
theorem Rd.push {W W2 w1 : World} {b B : Nat} {v v' : Value} {out out' : List El} (h : Rd W b B v out) (hb2 : Below W.heap.size W W2) (hown : Owns fc 6 w1 B T v' out') (hg : W2.grownBy w1 v.ownBlock) (hat : At W2 v v') :
    Rd (w1.setCell ⟨b, 0, none⟩ v') b B v' out' ∧ Fr W (w1.setCell ⟨b, 0, none⟩ v') b B v v' := by
  have hbl := h.box.lt
  have hne : v'.ownBlock ≠ some b := fun e => by
    rcases hat b e with h1 | h1
    · exact h.ne h1
    · have := hb2.size; omega
  have hB2 : B ≤ W2.heap.size := by have := hb2.size; have := h.lt; omega
  have hbox2 : Boxed W2 b 33 v := (hb2.block b hbl).trans h.box
  have hbox1 : Boxed w1 b 33 v := hbox2.kept hg (fun e => h.ne e.symm)
  refine ⟨⟨hbox1.set v', hown.beside hne _, hne, h.lt⟩, ?_, ?_, ?_, ?_⟩
  · have : Below B W W2 := hb2.mono (by have := h.lt; omega)
    have := this.grown hg hB2 (fun k hk => h.own.low k hk)
    exact this.setCell (p := ⟨b, 0, none⟩) h.lt v'
  · have := hb2.size; have := hg.size; simp; omega
  · intro k hk h1 h2
    rw [Below.heap_setCell _ _ _ _ (fun e => h1 e), hg.block k (by have := hb2.size; omega) (fun e => h2 e.symm)]
    exact hb2.block k hk
  · intro k hk
    rcases hat k hk with h1 | h1
    · exact .inl h1
    · exact .inr (by have := hb2.size; omega)
theorem boxed_kept {W W2 w1 : World} {b B : Nat} {v : Value} {out : List El} (h : Rd W b B v out) (hb2 : Below W.heap.size W W2) (hg : W2.grownBy w1 v.ownBlock) : Boxed w1 b 33 v :=
  Boxed.kept (show Boxed W2 b 33 v from (hb2.block b h.box.lt).trans h.box) hg (fun e => h.ne e.symm)
theorem newN (w : World) (x : El) (g : Nat) (hg : w.heap.size = g) : ∀ j u, ([x].flatMap fc)[j]? = some u →
    (w.alloc (.cells #[.int .i64 x.Kind, .int .i64 x.A, .int .i64 x.B, .int .i64 x.C, .int .i64 x.Value_Num, .int .i64 x.Value_Den] 59)).cell? ((⟨g, 0, none⟩ : Addr).add j) = some u := by
  subst hg
  exact news_block (T := 59) (heap_alloc_new w _)
/-- The words that lie in memory. -/
def KW (W : World) (pw : Option Addr) (ps : List ByteArray) (B : Nat) : Prop := ∀ j (h : j < ps.length), ∃ g o, pw = some ⟨g, o, none⟩ ∧ g < B ∧ g < W.heap.size ∧ W.cell? ⟨g, o + j, none⟩ = some (.string ps[j])
theorem KW.on {W W' : World} {pw : Option Addr} {ps : List ByteArray} {B : Nat} (h : KW W pw ps B) (hb : Below B W W') (hs : W.heap.size ≤ W'.heap.size) : KW W' pw ps B := fun j hj => by
  obtain ⟨g, o, e, h1, h2, h3⟩ := h j hj
  exact ⟨g, o, e, h1, by omega, (World.cell?_of_block (hb.block g h1)).trans h3⟩
/-- What l09Read answers. -/
def IsRead (N : Nat) (r : Option (List El × List SizeM.W)) (W : World) (b B : Nat) (v : Value) (e : Ending) (W' : World) : Prop :=
  ∃ v' out', Rd W' b B v' out' ∧ Fr W W' b B v v' ∧ ((r = none ∧ e = .returned (.int .i64 (-1))) ∨ ∃ rest, r = some (out', rest) ∧ e = .returned (.int .i64 (((N - rest.length : Nat) : Int))))
theorem Rd.setN {W : World} {b B gn i : Nat} {v : Value} {out : List El} (h : Rd W b B v out) (h1 : gn ≠ b) (h2 : v.ownBlock ≠ some gn) (x : Value) : Rd (W.setCell ⟨gn, i, none⟩ x) b B v out :=
  ⟨(Below.heap_setCell _ _ _ _ (fun e => h1 e.symm)).trans h.box, h.own.beside h2 x, h.ne, h.lt⟩
theorem Fr.setN {W0 W : World} {b B gn i : Nat} {v v' : Value} (h : Fr W0 W b B v v') (hg : W0.heap.size ≤ gn) (hB : B ≤ W0.heap.size) (x : Value) : Fr W0 (W.setCell ⟨gn, i, none⟩ x) b B v v' :=
  ⟨h.bel.setCell (p := ⟨gn, i, none⟩) (Nat.le_trans hB hg) x, by have := h.size; simpa using this, fun k hk h1 h2 => (Below.heap_setCell _ _ _ _ (show k ≠ gn by omega)).trans (h.same k hk h1 h2), h.row⟩
/-- Where the reading of the operands stands: j operands are read, the words from p on are left; the node lies in block gn. -/
structure St (ps : List ByteArray) (N f : Nat) (K : Int) (b B gn : Nat) (w0 : World) (v : Value) (R : Option (List El × List SizeM.W)) (j p : Nat) (os : List El) (v1 : Value) (A D C : Int) (wr : World) : Prop where
  pN : p ≤ N
  fuel : N - p < f
  ol : os.length + (N - p) ≤ 1000
  rd : Rd wr b B v1 os
  fr : Fr w0 wr b B v v1
  blk : wr.heap[gn]? = some (.cells #[.int .i64 K, .int .i64 A, .int .i64 D, .int .i64 C, .int .i64 0, .int .i64 0] 59 (0, 0))
  g0 : w0.heap.size ≤ gn
  gb : gn ≠ b
  gv : v1.ownBlock ≠ some gn
  fin : R = ReadK.after K f j A D C os ((dat ps).drop p)
theorem St.glt {ps : List ByteArray} {N f : Nat} {K : Int} {b B gn : Nat} {w0 : World} {v : Value} {R : Option (List El × List SizeM.W)} {j p : Nat} {os : List El} {v1 : Value} {A D C : Int} {wr : World} (S : St ps N f K b B gn w0 v R j p os v1 A D C wr) : gn < wr.heap.size := (Array.getElem?_eq_some_iff.1 S.blk).1
theorem St.next {ps : List ByteArray} {N f : Nat} {K : Int} {b B gn : Nat} {w0 : World} {v : Value} {R : Option (List El × List SizeM.W)} {j p : Nat} {os : List El} {v1 : Value} {A D C : Int} {wr : World}
    (S : St ps N f K b B gn w0 v R j p os v1 A D C wr) (hB : B ≤ w0.heap.size) (hN : ps.length = N) (hj : j < 2 ∨ (j < 3 ∧ K = 9)) {o2 : List El} {v2 : Value} {r2 : List SizeM.W} {w2 : World}
    (hrd : Rd w2 b B v2 o2) (hfr : Fr wr w2 b B v1 v2) (hs : readT f ((dat ps).drop p) os = some (o2, r2)) :
    St ps N f K b B gn w0 v R (j + 1) (N - r2.length) o2 v2 (if j = 0 then (o2.length : Int) - 1 else A) (if j = 1 then (o2.length : Int) - 1 else D) (if 2 ≤ j then (o2.length : Int) - 1 else C) (w2.setCell ⟨gn, j + 1, none⟩ (.int .i64 ((o2.length : Int) - 1))) := by
  have hdl : (dat ps).length = N := by simp [dat, hN]
  have hpl : ((dat ps).drop p).length = N - p := by rw [List.length_drop, hdl]
  obtain ⟨s1, s2⟩ := read_suffix _ _ _ _ _ hs
  have s3 := ReadK.read_len _ _ _ _ _ hs
  have s4 := ReadK.drop_suffix s1
  rw [hdl] at s4
  rw [hpl] at s2 s3
  have hpN := S.pN
  have hfu := S.fuel
  have hol := S.ol
  have hgl := S.glt
  have hgv : v2.ownBlock ≠ some gn := fun e => by
    rcases hfr.row gn e with h1 | h1
    · exact S.gv h1
    · omega
  have hblk := (hfr.same gn hgl S.gb S.gv).trans S.blk
  refine ⟨Nat.sub_le _ _, by omega, by omega, hrd.setN S.gb hgv _, (S.fr.trans hfr).setN S.g0 hB _, ?_, S.g0, S.gb, hgv, ?_⟩
  · have h3 : j = 0 ∨ j = 1 ∨ j = 2 := by omega
    rcases h3 with rfl | rfl | rfl <;> exact Lib.heap_setCell_same hblk _
  · rw [S.fin, ReadK.after_some hj hs, ← s4]
set_option maxRecDepth 100000 in
set_option maxHeartbeats 16000000 in
theorem read_s (ps : List ByteArray) (pw : Option Addr) (N cw : Nat) (hN : ps.length = N) (hN24 : N ≤ 24) (hp : ∀ p ∈ ps, p.size ≤ 600) : ∀ (f at_ : Nat) (out : List El) (w : World) (b B : Nat) (v : Value), ((dat ps).drop at_).length < f → at_ ≤ N → Rd w b B v out → out.length + ((dat ps).drop at_).length ≤ 1000 → KW w pw ps B →
    Calls Tryd.prog 42 #[.slice pw N cw, .int .i64 (at_ : Int), .pointer (some ⟨b, 0, none⟩)] w (IsRead N (readT f ((dat ps).drop at_) out) w b B v) := by
  intro f
  induction f with
  | zero => intro at_ out w b B v h; omega
  | succ f IH =>
    intro at_ out w b B v hf hat hrd hol hkw
    have HIH := Lib.hid IH
    have HRD := Lib.hid hrd
    have KK := Lib.hid hkw
    by_cases hend : N ≤ at_
    · have E := Lib.hid (show readT (f + 1) ((dat ps).drop at_) out = none by rw [List.drop_of_length_le (by simp [dat]; omega)]; rfl)
      have d0 : decide ((N : Int) ≤ (at_ : Int)) = true := decide_eq_true (by omega)
      rw [E.out]
      clear IH hf hrd hkw
      go_enter Tryd.func42, Tryd.ntmps42
      go_wp2
      go_ret
      exact ⟨v, out, HRD.out, Fr.refl _ _ _ _, .inl ⟨rfl, rfl⟩⟩
    have d0 : decide ((N : Int) ≤ (at_ : Int)) = false := decide_eq_false (by omega)
    have hlt : at_ < ps.length := by omega
    obtain ⟨g, o, rfl, hgB, hgl, q0⟩ := hkw at_ hlt
    obtain ⟨s, hs⟩ : ∃ s, ps[at_]'hlt = s := ⟨_, rfl⟩
    rw [hs] at q0
    have hs600 : s.size ≤ 600 := by rw [← hs]; exact hp _ (List.getElem_mem hlt)
    obtain ⟨rest, hrest⟩ : ∃ r, (dat ps).drop (at_ + 1) = r := ⟨_, rfl⟩
    have hdr : (dat ps).drop at_ = s.data.toList :: rest := by
      rw [List.drop_eq_getElem_cons (by simp [dat]; omega), hrest]
      simp [dat, hs]
    have hrl : rest.length = N - (at_ + 1) := by rw [← hrest]; simp [dat]; omega
    rw [hdr] at hf hol ⊢
    rw [List.length_cons] at hol
    obtain ⟨⟨x1, x2, isf⟩, hpf⟩ : ∃ R, parseT s.data.toList = R := ⟨_, rfl⟩
    have HPF := Lib.hid hpf
    have b1 : (0 : Int) ≤ (at_ : Int) := by omega
    have b2 : (at_ : Int) < (N : Int) := by omega
    have HF := Lib.hid hf
    have HRL := Lib.hid hrl
    have HRS := Lib.hid hrest
    have hbl := hrd.box.lt
    have hbc := hrd.box.cell
    have hbf := hrd.box.frozen
    have hBw : B ≤ w.heap.size := by have := hrd.lt; omega
    obtain ⟨R, hR⟩ : ∃ R, readT (f + 1) (s.data.toList :: rest) out = R := ⟨_, rfl⟩
    rw [hR]
    have HRT := Lib.hid hR
    clear IH hrd hkw hs hdr hf hrl hrest hpf hR hend hgB
    go_enter Tryd.func42, Tryd.ntmps42
    go_wp2_with fail
    refine (ParseFS.parse_s s _ (by omega)).mono ?_
    rintro e w1 ⟨rfl, hb⟩
    rw [HPF.out]
    have HRD1 := Lib.hid (HRD.out.on hb)
    have HFR1 := Lib.hid (Fr.of_below (b := b) (v := v) hb hBw)
    clear hb hbc hbf q0 hgl
    cases isf with
    | true =>
      have E := Lib.hid (show R = some (out ++ [⟨1, 0, 0, 0, x1, x2⟩], rest) by rw [← HRT.out, readT, HPF.out, if_pos rfl])
      clear HRT HIH
      have HRD2 := Lib.hid (HRD1.out.on (BelowKit.bl_alloc (o := .cells #[.int .i64 x1, .int .i64 x2] 25) (Below.refl _ _)))
      have HFR2 := Lib.hid (HFR1.out.trans (Fr.of_below (b := b) (v := v) (BelowKit.bl_alloc (o := .cells #[.int .i64 x1, .int .i64 x2] 25) (Below.refl w1.heap.size w1)) (by have := HFR1.out.size; omega)))
      have hbc := HRD1.out.box.cell
      have hbf := HRD1.out.box.frozen
      have hbl1 := HRD1.out.box.lt
      obtain ⟨a', c', rfl, _⟩ := HRD1.out.own.form fw
      have cx0 : (w1.alloc (.cells #[.int .i64 x1, .int .i64 x2] 25)).cell? ⟨w1.heap.size, 0, none⟩ = some (.int .i64 x1) := by simp [go_sem]
      have cx1 : (w1.alloc (.cells #[.int .i64 x1, .int .i64 x2] 25)).cell? ⟨w1.heap.size, 1, none⟩ = some (.int .i64 x2) := by simp [go_sem]
      have zx : w1.heap.size < (w1.alloc (.cells #[.int .i64 x1, .int .i64 x2] 25)).heap.size := by simp
      clear hbc hbf hbl1 hbl
      have W1 : IntKind.i64.wrap ((at_ : Int) + 1) = (at_ : Int) + 1 := IntWalk.i64_in _ (by omega)
      go_wp2_with fail
      obtain ⟨W2, hW2⟩ : ∃ W, (w1.alloc (.cells #[.int .i64 x1, .int .i64 x2] 25)) = W := ⟨_, rfl⟩
      rw [hW2] at cx0 cx1 zx HRD2 HFR2 ⊢
      clear hW2 HRD1 HFR1
      have hbc := HRD2.out.box.cell
      have hbf := HRD2.out.box.frozen
      have hbl := HRD2.out.box.lt
      have hBW := HRD2.out.lt
      go_region_law ((refine step_appendN ft fw _ (o := ⟨some 35, _, _, _, _, _⟩) rfl (.tmp 31) (.tmp 34) rfl B _ out rfl (HRD2.out.own.alloc _).drew ⟨W2.heap.size, 0, none⟩ 1 1 [⟨1, 0, 0, 0, x1, x2⟩] rfl rfl (newN W2 ⟨1, 0, 0, 0, x1, x2⟩ _ rfl) ?_ ?_ ?_; (simp; omega); (simp; omega); intro v' w3 hown3 hg3 hat3; obtain ⟨p9, c9, rfl, _⟩ := hown3.form fw; obtain ⟨hr3, hf3⟩ := HRD2.out.push (by (repeat (first | exact Below.refl _ _ | apply BelowKit.bl_alloc | apply BelowKit.bl_drewN | apply BelowKit.bl_drew | (refine BelowKit.bl_set ?_ _ ?_; rotate_left; (first | omega | (simp; omega) | simp)) | (refine BelowKit.bl_trans ?_ (‹Hid (Below _ _ _)›).out)))) hown3 hg3 hat3; have hbx := boxed_kept HRD2.out (by (repeat (first | exact Below.refl _ _ | apply BelowKit.bl_alloc | apply BelowKit.bl_drewN | apply BelowKit.bl_drew | (refine BelowKit.bl_set ?_ _ ?_; rotate_left; (first | omega | (simp; omega) | simp)) | (refine BelowKit.bl_trans ?_ (‹Hid (Below _ _ _)›).out)))) hg3; have e0 := hbx.cell; have e1 := hbx.frozen; have e2 := hbx.lt))
      all_goals
        simp only [List.length_append, List.length_cons, List.length_nil, Nat.zero_add] at hr3 hf3
        have HR3 := Lib.hid hr3
        have HF3 := Lib.hid (HFR2.out.trans hf3)
        clear hr3 hf3 hown3 hg3 hat3 hbx cx0 cx1 zx hbc hbf hbl
        go_wp2
        go_ret
        refine ⟨_, _, HR3.out, HF3.out, .inr ⟨rest, E.out, ?_⟩⟩
        have := HRL.out
        exact congrArg (fun z : Int => Ending.returned (.int .i64 z)) (by omega)
    | false =>
    have HR0 := Lib.hid (show (if 0 ≤ varOf s.data.toList then some (out ++ [⟨2, varOf s.data.toList, 0, 0, 0, 0⟩], rest) else _) = R by rw [← HRT.out, readT, HPF.out]; rfl)
    have HRD2 := Lib.hid (HRD1.out.on (BelowKit.bl_alloc (o := .cells #[.int .i64 x1, .int .i64 x2] 25) (Below.refl _ _)))
    have HFR2 := Lib.hid (HFR1.out.trans (Fr.of_below (b := b) (v := v) (BelowKit.bl_alloc (o := .cells #[.int .i64 x1, .int .i64 x2] 25) (Below.refl w1.heap.size w1)) (by have := HFR1.out.size; omega)))
    have W1 : IntKind.i64.wrap ((at_ : Int) + 1) = (at_ : Int) + 1 := IntWalk.i64_in _ (by omega)
    clear hbl
    by_cases hvar : ∃ c : Nat, s.data.toList = [118, UInt8.ofNat c] ∧ 48 ≤ c ∧ c ≤ 55
    case pos =>
      obtain ⟨c, hc, c1, c2⟩ := hvar
      have hsz : s.size = 2 := by have := congrArg List.length hc; simpa using this
      have hcn : (UInt8.ofNat c).toNat = c := by simp [UInt8.toNat_ofNat']; omega
      have hv : varOf s.data.toList = (c : Int) - 48 := by rw [hc]; simp only [varOf, hcn]; rw [if_pos ⟨trivial, c1, c2⟩]
      have E := Lib.hid (show R = some (out ++ [⟨2, (c : Int) - 48, 0, 0, 0, 0⟩], rest) by rw [← HR0.out, hv, if_pos (by omega)])
      have hb0 : (s[0]'(by omega)).toNat = 118 := by
        have : s.data.toList[0]'(by simp; omega) = 118 := by simp only [hc]; rfl
        have e : s[0]'(by omega) = s.data.toList[0]'(by simp; omega) := rfl
        rw [e, this]; rfl
      have hb1 : (s[1]'(by omega)).toNat = c := by
        have : s.data.toList[1]'(by simp; omega) = UInt8.ofNat c := by simp only [hc]; rfl
        have e : s[1]'(by omega) = s.data.toList[1]'(by simp; omega) := rfl
        rw [e, this, hcn]
      have d2 : ((s.size : Int) == 2) = true := by rw [hsz]; rfl
      have w1c : IntKind.i64.wrap (c : Int) = (c : Int) := IntWalk.i64_in _ (by omega)
      have w2c : IntKind.i64.wrap ((c : Int) - 48) = (c : Int) - 48 := IntWalk.i64_in _ (by omega)
      have HIN := Lib.hid (fun W => Mon.in_c ((c : Int) - 48) 0 7 W)
      have HIB := Lib.hid (show Mon.inB ((c : Int) - 48) 0 7 = true from Mon.inB_yes (by omega) (by omega))
      obtain ⟨a', c', rfl, _⟩ := HRD1.out.own.form fw
      clear HR0 HRT HIH hv hc hcn
      go_wp2_with fail
      refine (HIN.out _).mono ?_
      rintro e w' ⟨rfl, rfl⟩
      rw [HIB.out]
      go_wp2_with fail
      obtain ⟨W2, hW2⟩ : ∃ W, (w1.alloc (.cells #[.int .i64 x1, .int .i64 x2] 25)) = W := ⟨_, rfl⟩
      rw [hW2] at HRD2 HFR2 ⊢
      clear hW2 HRD1 HFR1
      have hbc := HRD2.out.box.cell
      have hbf := HRD2.out.box.frozen
      have hbl := HRD2.out.box.lt
      have hBW := HRD2.out.lt
      go_region_law ((refine step_appendN ft fw _ (o := ⟨some 64, _, _, _, _, _⟩) rfl (.tmp 57) (.tmp 63) rfl B _ out rfl (HRD2.out.own.alloc _).drew ⟨W2.heap.size, 0, none⟩ 1 1 [⟨2, (c : Int) - 48, 0, 0, 0, 0⟩] rfl rfl (newN W2 ⟨2, (c : Int) - 48, 0, 0, 0, 0⟩ _ rfl) ?_ ?_ ?_; (simp; omega); (simp; omega); intro v' w3 hown3 hg3 hat3; obtain ⟨p9, c9, rfl, _⟩ := hown3.form fw; obtain ⟨hr3, hf3⟩ := HRD2.out.push (by (repeat (first | exact Below.refl _ _ | apply BelowKit.bl_alloc | apply BelowKit.bl_drewN | apply BelowKit.bl_drew | (refine BelowKit.bl_set ?_ _ ?_; rotate_left; (first | omega | (simp; omega) | simp)) | (refine BelowKit.bl_trans ?_ (‹Hid (Below _ _ _)›).out)))) hown3 hg3 hat3; have hbx := boxed_kept HRD2.out (by (repeat (first | exact Below.refl _ _ | apply BelowKit.bl_alloc | apply BelowKit.bl_drewN | apply BelowKit.bl_drew | (refine BelowKit.bl_set ?_ _ ?_; rotate_left; (first | omega | (simp; omega) | simp)) | (refine BelowKit.bl_trans ?_ (‹Hid (Below _ _ _)›).out)))) hg3; have e0 := hbx.cell; have e1 := hbx.frozen; have e2 := hbx.lt))
      all_goals
        simp only [List.length_append, List.length_cons, List.length_nil, Nat.zero_add] at hr3 hf3
        have HR3 := Lib.hid hr3
        have HF3 := Lib.hid (HFR2.out.trans hf3)
        clear hr3 hf3 hown3 hg3 hat3 hbx hbc hbf hbl
        go_wp2
        go_ret
        refine ⟨_, _, HR3.out, HF3.out, .inr ⟨rest, E.out, ?_⟩⟩
        have := HRL.out
        exact congrArg (fun z : Int => Ending.returned (.int .i64 z)) (by omega)
    case neg =>
      have HV := Lib.hid hvar
      have HK := Lib.hid (fun (h3 : kindOf s.data.toList ≠ 0) => (HRT.out.symm.trans (ReadK.read_after (by rw [HPF.out]) (ReadK.var_no hvar) h3) : R = ReadK.after (kindOf s.data.toList) f 0 0 0 0 out rest))
      have H0 := Lib.hid (fun (h3 : kindOf s.data.toList = 0) => (show R = none by rw [← HRT.out, readT, HPF.out, if_neg (by simp), if_neg (by have := ReadK.var_no hvar; omega), if_pos h3]))
      clear HR0 HRT hvar
      go_upto_region 8 with fail
      obtain ⟨W2, hW2⟩ : ∃ W, (w1.alloc (.cells #[.int .i64 x1, .int .i64 x2] 25)) = W := ⟨_, rfl⟩
      rw [hW2] at HRD2 HFR2 ⊢
      clear hW2 HRD1 HFR1
      go_cut [53] (fun x wx => x = .bool false ∧ Hid (Below W2.heap.size W2 wx))
      case first =>
        by_cases h2 : s.size = 2
        · have d2 : ((s.size : Int) == 2) = true := by rw [h2]; rfl
          obtain ⟨a, c, hs2, hb0, hb1⟩ := ReadK.two h2
          by_cases h118 : a = 118
          · subst h118
            obtain ⟨cn, hcn⟩ : ∃ n, c.toNat = n := ⟨_, rfl⟩
            have hc256 : cn < 256 := by rw [← hcn]; exact c.toNat_lt
            have hcc : c = UInt8.ofNat cn := by rw [← hcn]; simp
            have HIB := Lib.hid (show Mon.inB ((cn : Int) - 48) 0 7 = false by
              by_cases h48 : 48 ≤ cn
              · exact Mon.inB_hi (fun h => HV.out ⟨cn, by rw [hs2, hcc], h48, by omega⟩)
              · exact Mon.inB_lo (by omega))
            rw [hcn] at hb1
            have hb0' : (s[0]'(by omega)).toNat = 118 := hb0
            clear hb0 hs2 hcc hcn
            have w1c : IntKind.i64.wrap (cn : Int) = (cn : Int) := IntWalk.i64_in _ (by omega)
            have w2c : IntKind.i64.wrap ((cn : Int) - 48) = (cn : Int) - 48 := IntWalk.i64_in _ (by omega)
            have HIN := Lib.hid (fun W => Mon.in_c ((cn : Int) - 48) 0 7 W)
            go_wp2_with fail
            refine (HIN.out _).mono ?_
            rintro e w' ⟨rfl, rfl⟩
            rw [HIB.out]
            go_wp2
            go_meet
            case rel => exact ⟨rfl, Lib.hid (Below.refl _ _)⟩
          · have hne : a.toNat ≠ 118 := fun h => h118 (UInt8.toNat_inj.1 h)
            obtain ⟨an, han⟩ : ∃ n, a.toNat = n := ⟨_, rfl⟩
            rw [han] at hb0 hne
            have d3 : ((an : Int) == 118) = false := beq_eq_false_iff_ne.2 (by omega)
            clear hs2 han hb1
            go_wp2
            go_meet
            case rel => exact ⟨rfl, Lib.hid (Below.refl _ _)⟩
        · have d2 : ((s.size : Int) == 2) = false := beq_eq_false_iff_ne.2 (by omega)
          go_wp2
          go_meet
          case rel => exact ⟨rfl, Lib.hid (Below.refl _ _)⟩
      case rest =>
        obtain ⟨rfl, hB⟩ := hcut
        have HB0 := Lib.hid hB.out
        clear hB HV
        go_wp2
        go_loopw [10, 11] (fun kd k wr => ∃ i : Nat, 3 ≤ i ∧ i ≤ 10 ∧ k = .int .i64 (i : Int) ∧ kd = .int .i64 (ReadK.kindTo s.data.toList (i : Int)) ∧ Hid (Below W2.heap.size W2 wr)) (fun _ k _ => 10 - (intOf k).toNat)
        case atStart => exact ⟨3, by omega, by omega, rfl, by rw [show ((3 : Nat) : Int) = 3 from rfl, ReadK.kindTo_3], HB0⟩
        case round =>
          obtain ⟨i, h3, h10, rfl, rfl, HB⟩ := hrel
          clear HB0
          by_cases hlt : i ≤ 9
          · obtain ⟨t, ht⟩ : ∃ t, str (nameW (i : Int)) = t := ⟨_, rfl⟩
            have HT := Lib.hid ht
            have HY := Lib.hid (fun (h : nameW (i : Int) = s.data.toList) => ReadK.kindTo_yes (w := s.data.toList) (k := (i : Int)) (by omega) h)
            have HNO := Lib.hid (fun (h : nameW (i : Int) ≠ s.data.toList) => ReadK.kindTo_no (w := s.data.toList) (k := (i : Int)) (by omega) h)
            have HD := Lib.hid (show t.data.toList = nameW (i : Int) by rw [← ht]; simp [str])
            have d9 : decide ((i : Int) ≤ 9) = true := decide_eq_true (by omega)
            have HN := Lib.hid (fun W => TextS.name_s (i : Int) W (by omega))
            obtain ⟨kt, hkt⟩ : ∃ k, ReadK.kindTo s.data.toList (i : Int) = k := ⟨_, rfl⟩
            rw [hkt]
            have HKT := Lib.hid hkt
            clear ht hkt
            go_wp2_with fail
            refine (HN.out _).mono ?_
            rintro e w' ⟨rfl, hb⟩
            rw [HT.out]
            have HB' := Lib.hid (BelowKit.bl_trans HB.out hb)
            clear hb HB
            by_cases hc : (t.toList == s.toList) = true
            · have E := Lib.hid (show ReadK.kindTo s.data.toList ((i : Int) + 1) = (i : Int) from HY.out (by rw [beq_iff_eq, ByteArray.toList_eq, ByteArray.toList_eq, HD.out] at hc; exact hc))
              go_wp2
              go_roundw
              case rel => exact ⟨i + 1, by omega, by omega, by go_num, by rw [Int.natCast_add, Int.natCast_one, E.out], HB'⟩
              case measure => simp [intOf]; omega
            · have hc' : (t.toList == s.toList) = false := by simpa using hc
              have E := Lib.hid (show ReadK.kindTo s.data.toList ((i : Int) + 1) = kt from (HNO.out (by
                intro h
                rw [beq_eq_false_iff_ne, ByteArray.toList_eq, ByteArray.toList_eq, HD.out] at hc'
                exact hc' h)).trans HKT.out)
              clear hc
              go_wp2
              go_roundw
              case rel => exact ⟨i + 1, by omega, by omega, by go_num, by rw [Int.natCast_add, Int.natCast_one, E.out], HB'⟩
              case measure => simp [intOf]; omega
          · obtain rfl : i = 10 := by omega
            rw [show ((10 : Nat) : Int) = 10 from rfl, ReadK.kindTo_10]
            obtain ⟨K, hK⟩ : ∃ K, kindOf s.data.toList = K := ⟨_, rfl⟩
            have hKb := ReadK.kind_or s.data.toList
            rw [hK] at HK H0 hKb ⊢
            have HRD3 := Lib.hid (HRD2.out.on HB.out)
            have HFR3 := Lib.hid (HFR2.out.trans (Fr.of_below (b := b) (v := v) HB.out (by have := HFR2.out.size; omega)))
            clear HB HRD2 HFR2 hK h3 h10 hlt
            by_cases hk0 : K = 0
            · have d0k : (K == 0) = true := by rw [hk0]; rfl
              have E := Lib.hid (H0.out hk0)
              go_wp2
              go_ret
              exact ⟨v, out, HRD3.out, HFR3.out, .inl ⟨E.out, rfl⟩⟩
            have d0k : (K == 0) = false := beq_eq_false_iff_ne.2 hk0
            have E := Lib.hid (HK.out hk0)
            clear HK H0
            have HRD4 := Lib.hid (HRD3.out.on (BelowKit.bl_alloc (o := .cells #[.int .i64 K, .int .i64 0, .int .i64 0, .int .i64 0, .int .i64 0, .int .i64 0] 59) (Below.refl _ _)))
            have HFR4 := Lib.hid (HFR3.out.trans (Fr.of_below (b := b) (v := v) (BelowKit.bl_alloc (o := .cells #[.int .i64 K, .int .i64 0, .int .i64 0, .int .i64 0, .int .i64 0, .int .i64 0] 59) (Below.refl wr.heap.size wr)) (by have := HFR3.out.size; omega)))
            have hn0 := heap_alloc_new wr (.cells #[.int .i64 K, .int .i64 0, .int .i64 0, .int .i64 0, .int .i64 0, .int .i64 0] 59)
            have HS := Lib.hid (show St ps N f K b B wr.heap.size w v R 0 (at_ + 1) out v 0 0 0 (wr.alloc (.cells #[.int .i64 K, .int .i64 0, .int .i64 0, .int .i64 0, .int .i64 0, .int .i64 0] 59)) from
              ⟨by omega, by have h1 := HF.out; have h2 := HRL.out; rw [List.length_cons] at h1; omega, by have := HRL.out; omega, HRD4.out, HFR4.out, hn0, HFR3.out.size, by have := HRD3.out.box.lt; omega, fun e => by have := HRD3.out.own.lt _ e; omega, by rw [HRS.out]; exact E.out⟩)
            clear hn0 HRD4 HFR4 E
            obtain ⟨gn, hgn⟩ : ∃ g, wr.heap.size = g := ⟨_, rfl⟩
            rw [hgn] at HS
            go_wp2
            try rw [hgn]
            clear hgn HRD3 HFR3
            go_loopw [1, 13] (fun at1 i wr => ∃ (j p : Nat) (ji pi : Int) (os : List El) (v1 : Value) (A D C : Int), at1 = .int .i64 pi ∧ i = .int .i64 ji ∧ ji = (j : Int) ∧ pi = (p : Int) ∧ j ≤ 3 ∧ Hid (St ps N f K b B gn w v R j p os v1 A D C wr)) (fun _ i _ => 3 - (intOf i).toNat)
            case atStart => exact ⟨0, at_ + 1, 0, (at_ : Int) + 1, out, v, 0, 0, 0, rfl, rfl, rfl, by omega, by omega, HS⟩
            case round =>
              rename World => wq
              obtain ⟨j, p, ji, pi, os, v1, A, D, C, rfl, rfl, hji, rfl, hj3, S⟩ := hrel
              clear HS
              by_cases hmore : j < 2 ∨ (j < 3 ∧ K = 9)
              · have hj : (j = 0 ∧ ji = 0) ∨ (j = 1 ∧ ji = 1) ∨ (j = 2 ∧ ji = 2 ∧ K = 9) := by omega
                clear hmore hji
                rcases hj with ⟨rfl, rfl⟩ | ⟨rfl, rfl⟩ | ⟨rfl, rfl, rfl⟩
                all_goals
                  have HKW := Lib.hid (KK.out.on S.out.fr.bel S.out.fr.size)
                  go_wp2_with fail
                  refine (HIH.out p os wq b B v1 (by have := S.out.fuel; rw [List.length_drop]; simp only [dat, List.length_map]; omega) S.out.pN S.out.rd (by have := S.out.ol; rw [List.length_drop]; simp only [dat, List.length_map]; omega) HKW.out).mono ?_
                  rintro e w' ⟨v2, o2, hrd, hfr, ⟨hn, rfl⟩ | ⟨r2, hs2, rfl⟩⟩
                  · have E := Lib.hid (S.out.fin.trans (ReadK.after_none (by omega) hn))
                    have HR3 := Lib.hid hrd
                    have HF3 := Lib.hid (S.out.fr.trans hfr)
                    clear hn hrd hfr HKW S HIH KK
                    go_wp2
                    go_ret
                    exact ⟨v2, o2, HR3.out, HF3.out, .inl ⟨E.out, rfl⟩⟩
                  · have HX := Lib.hid (S.out.next hBw hN (by omega) hrd hfr hs2)
                    obtain ⟨p2, hp2⟩ : ∃ p2, N - r2.length = p2 := ⟨_, rfl⟩
                    rw [hp2] at HX ⊢
                    have dn : decide ((p2 : Int) < 0) = false := decide_eq_false (by omega)
                    have ho2 := HX.out.ol
                    have W2c : IntKind.i64.wrap ((o2.length : Int) - 1) = (o2.length : Int) - 1 := IntWalk.i64_in _ (by omega)
                    have hgl := S.out.glt
                    have hblk := (hfr.same gn hgl S.out.gb S.out.gv).trans S.out.blk
                    have hgl2 : gn < w'.heap.size := by have := hfr.size; omega
                    have hq1 : w'.cell? ⟨gn, 1, none⟩ = some (.int .i64 A) := by simp [World.cell?, hblk]
                    have hq2 : w'.cell? ⟨gn, 2, none⟩ = some (.int .i64 D) := by simp [World.cell?, hblk]
                    have hq3 : w'.cell? ⟨gn, 3, none⟩ = some (.int .i64 C) := by simp [World.cell?, hblk]
                    have hf1 : w'.frozen? ⟨gn, 1, none⟩ = false := frozen_of_row w' gn 1 _ _ hblk
                    have hf2 : w'.frozen? ⟨gn, 2, none⟩ = false := frozen_of_row w' gn 2 _ _ hblk
                    have hf3 : w'.frozen? ⟨gn, 3, none⟩ = false := frozen_of_row w' gn 3 _ _ hblk
                    obtain ⟨a', c', rfl, _⟩ := hrd.own.form fw
                    have hbc := hrd.box.cell
                    have hbf := hrd.box.frozen
                    have hbl := hrd.box.lt
                    clear hblk hgl hs2 hrd hfr HKW hp2 S ho2
                    go_wp2
                    go_roundw
                    case rel => exact ⟨_, p2, _, _, o2, _, _, _, _, rfl, rfl, by first | rfl | omega, rfl, by omega, HX⟩
                    case measure => simp [intOf]
              · have hj : (j = 2 ∧ K ≠ 9) ∨ j = 3 := by omega
                have E := Lib.hid (S.out.fin.trans (ReadK.after_end hmore))
                have hn0 : wq.cell? ⟨gn, 0, none⟩ = some (.int .i64 K) := by simp [World.cell?, S.out.blk]
                have hn1 : wq.cell? ⟨gn, 1, none⟩ = some (.int .i64 A) := by simp [World.cell?, S.out.blk]
                have hn2 : wq.cell? ⟨gn, 2, none⟩ = some (.int .i64 D) := by simp [World.cell?, S.out.blk]
                have hn3 : wq.cell? ⟨gn, 3, none⟩ = some (.int .i64 C) := by simp [World.cell?, S.out.blk]
                have hn4 : wq.cell? ⟨gn, 4, none⟩ = some (.int .i64 0) := by simp [World.cell?, S.out.blk]
                have hn5 : wq.cell? ⟨gn, 5, none⟩ = some (.int .i64 0) := by simp [World.cell?, S.out.blk]
                have hgl := S.out.glt
                have HRD5 := Lib.hid S.out.rd
                have HFR5 := Lib.hid S.out.fr
                have HPN := Lib.hid S.out.pN
                have hos := S.out.ol
                obtain ⟨a', c', rfl, _⟩ := S.out.rd.own.form fw
                have hbc := HRD5.out.box.cell
                have hbf := HRD5.out.box.frozen
                have hbl := HRD5.out.box.lt
                have hBW := HRD5.out.lt
                clear S HIH KK HRD
                rcases hj with ⟨rfl, hk9⟩ | rfl
                case inl =>
                  obtain rfl : ji = 2 := by omega
                  have d9k : (K == 9) = false := beq_eq_false_iff_ne.2 hk9
                  clear hji
                  go_wp2_with fail
                  go_region_law ((refine step_appendN ft fw _ (o := ⟨some 130, _, _, _, _, _⟩) rfl (.tmp 127) (.tmp 129) rfl B _ os rfl (HRD5.out.own.alloc _).drew ⟨wq.heap.size, 0, none⟩ 1 1 [⟨K, A, D, C, 0, 0⟩] rfl rfl (newN wq ⟨K, A, D, C, 0, 0⟩ _ rfl) ?_ ?_ ?_; (simp; omega); (simp; omega); intro v' w3 hown3 hg3 hat3; obtain ⟨p9, c9, rfl, _⟩ := hown3.form fw; obtain ⟨hr3, hf3⟩ := HRD5.out.push (by (repeat (first | exact Below.refl _ _ | apply BelowKit.bl_alloc | apply BelowKit.bl_drewN | apply BelowKit.bl_drew | (refine BelowKit.bl_set ?_ _ ?_; rotate_left; (first | omega | (simp; omega) | simp)) | (refine BelowKit.bl_trans ?_ (‹Hid (Below _ _ _)›).out)))) hown3 hg3 hat3; have hbx := boxed_kept HRD5.out (by (repeat (first | exact Below.refl _ _ | apply BelowKit.bl_alloc | apply BelowKit.bl_drewN | apply BelowKit.bl_drew | (refine BelowKit.bl_set ?_ _ ?_; rotate_left; (first | omega | (simp; omega) | simp)) | (refine BelowKit.bl_trans ?_ (‹Hid (Below _ _ _)›).out)))) hg3; have e0 := hbx.cell; have e1 := hbx.frozen; have e2 := hbx.lt))
                  all_goals
                    simp only [List.length_append, List.length_cons, List.length_nil, Nat.zero_add] at hr3 hf3
                    have HR3 := Lib.hid hr3
                    have HF3 := Lib.hid (HFR5.out.trans hf3)
                    clear hr3 hf3 hown3 hg3 hat3 hbx hn0 hn1 hn2 hn3 hn4 hn5 hbc hbf hbl
                    go_wp2
                    go_ret
                    refine ⟨_, _, HR3.out, HF3.out, .inr ⟨_, E.out, ?_⟩⟩
                    have := HPN.out
                    exact congrArg (fun z : Int => Ending.returned (.int .i64 z)) (by rw [List.length_drop]; simp only [dat, List.length_map]; omega)
                case inr =>
                  obtain rfl : ji = 3 := by omega
                  clear hji
                  go_wp2_with fail
                  go_region_law ((refine step_appendN ft fw _ (o := ⟨some 130, _, _, _, _, _⟩) rfl (.tmp 127) (.tmp 129) rfl B _ os rfl (HRD5.out.own.alloc _).drew ⟨wq.heap.size, 0, none⟩ 1 1 [⟨K, A, D, C, 0, 0⟩] rfl rfl (newN wq ⟨K, A, D, C, 0, 0⟩ _ rfl) ?_ ?_ ?_; (simp; omega); (simp; omega); intro v' w3 hown3 hg3 hat3; obtain ⟨p9, c9, rfl, _⟩ := hown3.form fw; obtain ⟨hr3, hf3⟩ := HRD5.out.push (by (repeat (first | exact Below.refl _ _ | apply BelowKit.bl_alloc | apply BelowKit.bl_drewN | apply BelowKit.bl_drew | (refine BelowKit.bl_set ?_ _ ?_; rotate_left; (first | omega | (simp; omega) | simp)) | (refine BelowKit.bl_trans ?_ (‹Hid (Below _ _ _)›).out)))) hown3 hg3 hat3; have hbx := boxed_kept HRD5.out (by (repeat (first | exact Below.refl _ _ | apply BelowKit.bl_alloc | apply BelowKit.bl_drewN | apply BelowKit.bl_drew | (refine BelowKit.bl_set ?_ _ ?_; rotate_left; (first | omega | (simp; omega) | simp)) | (refine BelowKit.bl_trans ?_ (‹Hid (Below _ _ _)›).out)))) hg3; have e0 := hbx.cell; have e1 := hbx.frozen; have e2 := hbx.lt))
                  all_goals
                    simp only [List.length_append, List.length_cons, List.length_nil, Nat.zero_add] at hr3 hf3
                    have HR3 := Lib.hid hr3
                    have HF3 := Lib.hid (HFR5.out.trans hf3)
                    clear hr3 hf3 hown3 hg3 hat3 hbx hn0 hn1 hn2 hn3 hn4 hn5 hbc hbf hbl
                    go_wp2
                    go_ret
                    refine ⟨_, _, HR3.out, HF3.out, .inr ⟨_, E.out, ?_⟩⟩
                    have := HPN.out
                    exact congrArg (fun z : Int => Ending.returned (.int .i64 z)) (by rw [List.length_drop]; simp only [dat, List.length_map]; omega)
end Go.Proofs.YtiogpiopgcbdbaaDoor.ReadS

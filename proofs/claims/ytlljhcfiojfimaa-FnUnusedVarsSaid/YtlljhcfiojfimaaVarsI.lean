/- Contract of the program's VarsOf: a loop over slices.Backward. -/
import Derived.Test.YtlljhcfiojfimaaRows
import Derived.Test.YtlljhcfiojfimaaBackI
import Derived.Test.YtlljhcfiojfimaaFormI
import Derived.Test.YtlljhcfiojfimaaTBool
import Derived.Test.YtlljhcfiojfimaaVarsMath
import Derived.Test.YtlljhcfiojfimaaVarsFold
import Derived.Test.YtlljhcfiojfimaaFresh
import Derived.Test.YtlljhcfiojfimaaRowMakeIn
import Derived.Test.YtlljhcfiojfimaaValS
namespace Go.Proofs.Ytlljhcfiojfimaa.VarsI
open Go.RowKit Go.Shelf RowN TNode NodeMath FracMath VarsMath VarsFold BackI
open StepI (step_i IsV vC vV vP vK is_yes noC noV noP noK fI)
attribute [local go_sem] Oper.semAt_some
theorem set_nat (s : List Bool) (i : Nat) : setB s (i : Int) = s.set i true := by simp [setB]
theorem ne_own {g h : Nat} {n c : Nat} (e : g ≠ h) : (Value.slice (some ⟨g, 0, none⟩) n c).ownBlock ≠ some h := by simpa [Value.ownBlock] using e
theorem keeps_below {A B : World} (h : Below A.heap.size A B) : KeepsOthers A B := ⟨h.size, fun k _ hk _ => (h.block k (Array.getElem?_eq_some_iff.1 hk).1).trans hk⟩
/-- Where the two rows lie: gO (the variables) behind box bO, gN (the nodes) behind box bN; b is the iterator's box. -/
structure Lay (lo gO bO gN bN b : Nat) : Prop where
  h1 : lo ≤ gO
  h2 : gO < bO
  h3 : bO < gN
  h4 : gN < bN
  h5 : bN < b
/-- The rows hold s; since the world W0 nothing else was turned; v0 is what they grew out of. -/
structure St (v0 W0 W : World) (gO bO gN bN b M : Nat) (s : List Bool × List Bool) : Prop where
  keep : KeepsOthers W0 W
  kp : Kp v0.heap.size b W0 W
  bo : Boxed W bO 40 (.slice (some ⟨gO, 0, none⟩) 8 8)
  bn : Boxed W bN 40 (.slice (some ⟨gN, 0, none⟩) M M)
  ro : Owns TBool.fc 1 W v0.heap.size TBool.T (.slice (some ⟨gO, 0, none⟩) 8 8) s.1
  rn : Owns TBool.fc 1 W v0.heap.size TBool.T (.slice (some ⟨gN, 0, none⟩) M M) s.2
  bel : Below v0.heap.size v0 W
  sz : b < W.heap.size
variable {v0 W0 W W' : World} {gO bO gN bN b M : Nat} {s : List Bool × List Bool}
theorem St.below (h : St v0 W0 W gO bO gN bN b M s) (hb : Below W.heap.size W W') : St v0 W0 W' gO bO gN bN b M s :=
  ⟨h.keep.trans (keeps_below hb), h.kp.trans (Kp.of_below hb h.bel.size h.sz), (hb.block _ h.bo.lt).trans h.bo, (hb.block _ h.bn.lt).trans h.bn, h.ro.on hb, h.rn.on hb, BelowKit.bl_trans h.bel hb, Nat.lt_of_lt_of_le h.sz hb.size⟩
theorem St.alloc (h : St v0 W0 W gO bO gN bN b M s) (o : Obj) : St v0 W0 (W.alloc o) gO bO gN bN b M s := h.below (BelowKit.bl_alloc (Below.refl _ _))
theorem St.rebase {b' : Nat} (h : St v0 W0 W gO bO gN bN b M s) (hb : b' < W.heap.size) : St v0 W W gO bO gN bN b' M s := ⟨KeepsOthers.refl _, Kp.refl _ _ _, h.bo, h.bn, h.ro, h.rn, h.bel, hb⟩
theorem kp_set {lo b g o : Nat} {A B : World} {x : Value} (h : Kp lo b A B) (hg : lo ≤ g) (hne : g ≠ b) : Kp lo b A (B.setCell ⟨g, o, none⟩ x) :=
  ⟨by have := h.size; simp; omega, fun k hk => (Below.heap_setCell _ _ _ _ (by simp; omega)).trans (h.same k hk)⟩
theorem St.setO (h : St v0 W0 W gO bO gN bN b M s) (L : Lay v0.heap.size gO bO gN bN b) {i : Nat} (hi : i < s.1.length) : St v0 W0 (W.setCell ⟨gO, i, none⟩ (.bool true)) gO bO gN bN b M (s.1.set i true, s.2) := by
  have h1 := L.h1; have h2 := L.h2; have h3 := L.h3; have h4 := L.h4; have h5 := L.h5
  refine ⟨h.keep.trans (KeepsOthers.setCell _ _ _), kp_set h.kp h1 (by omega), ?_, ?_, TBool.stored h.ro i hi true, h.rn.beside (ne_own (by omega)) _, BelowKit.bl_set h.bel _ h1, by have := h.sz; simpa using this⟩
  · exact (Below.heap_setCell _ _ _ _ (by simp; omega)).trans h.bo
  · exact (Below.heap_setCell _ _ _ _ (by simp; omega)).trans h.bn
theorem St.setN (h : St v0 W0 W gO bO gN bN b M s) (L : Lay v0.heap.size gO bO gN bN b) {i : Nat} (hi : i < s.2.length) : St v0 W0 (W.setCell ⟨gN, i, none⟩ (.bool true)) gO bO gN bN b M (s.1, s.2.set i true) := by
  have h1 := L.h1; have h2 := L.h2; have h3 := L.h3; have h4 := L.h4; have h5 := L.h5
  refine ⟨h.keep.trans (KeepsOthers.setCell _ _ _), kp_set h.kp (by omega) (by omega), ?_, ?_, h.ro.beside (ne_own (by omega)) _, TBool.stored h.rn i hi true, BelowKit.bl_set h.bel _ (by show v0.heap.size ≤ gN; omega), by have := h.sz; simpa using this⟩
  · exact (Below.heap_setCell _ _ _ _ (by simp; omega)).trans h.bo
  · exact (Below.heap_setCell _ _ _ _ (by simp; omega)).trans h.bn
/-- What a round may rely on, whatever its beginning. -/
abbrev Inv (v0 : World) (gO bO gN bN b M : Nat) (s : List Bool × List Bool) (W : World) : Prop :=
  (∃ v, Boxed W bO 40 v ∧ W.ownsRow v0.heap.size TBool.T 1 v s.1.length (s.1.flatMap TBool.fc) ∧ v = .slice (some ⟨gO, 0, none⟩) 8 8) ∧
  (∃ v, Boxed W bN 40 v ∧ W.ownsRow v0.heap.size TBool.T 1 v s.2.length (s.2.flatMap TBool.fc) ∧ v = .slice (some ⟨gN, 0, none⟩) M M) ∧ (Below v0.heap.size v0 W ∧ b < W.heap.size)
theorem Inv.st (h : Inv v0 gO bO gN bN b M s W) : St v0 W W gO bO gN bN b M s := by
  obtain ⟨⟨v, h1, h2, rfl⟩, ⟨u, h3, h4, rfl⟩, h5, h6⟩ := h
  exact ⟨KeepsOthers.refl _, Kp.refl _ _ _, h1, h3, h2, h4, h5, h6⟩
theorem St.inv (h : St v0 W0 W gO bO gN bN b M s) : Inv v0 gO bO gN bN b M s W := ⟨⟨_, h.bo, h.ro, rfl⟩, ⟨_, h.bn, h.rn, rfl⟩, h.bel, h.sz⟩
theorem inv_own {β : Type} (B : Nat) (f : β → List Bool × List Bool) (h0 : v0.heap.size ≤ B) : OwnFrom B (fun x W => Inv v0 gO bO gN bN b M (f x) W) :=
  OwnFrom.and (Own.from (holdsRow_own v0.heap.size bO 40 TBool.T 1 (fun x => (f x).1.length) (fun x => (f x).1.flatMap TBool.fc) (fun _ v => v = .slice (some ⟨gO, 0, none⟩) 8 8)) _)
    (OwnFrom.and (Own.from (holdsRow_own v0.heap.size bN 40 TBool.T 1 (fun x => (f x).2.length) (fun x => (f x).2.flatMap TBool.fc) (fun _ v => v = .slice (some ⟨gN, 0, none⟩) M M)) _)
      (OwnFrom.and (ownFrom_below (Nat.le_refl _) h0) (fun _ _ _ _ hs hg _ => Nat.lt_of_lt_of_le hs hg.size)))
/-- A slice of ints in new memory. -/
def IsOpsN (l : List Int) (w : World) (e : Ending) (w' : World) : Prop := ∃ p, e = .returned (.slice p l.length l.length) ∧ Reads fI 1 w' p l ∧ (∀ g o, p = some ⟨g, o, none⟩ → w.heap.size ≤ g) ∧ Below w.heap.size w w'
theorem reads_set {A : World} {p : Option Addr} {l : List Int} {g i : Nat} {x : Value} (h : Reads fI 1 A p l) (hp : ∀ b o, p = some ⟨b, o, none⟩ → g ≠ b) : Reads fI 1 (A.setCell ⟨g, i, none⟩ x) p l := fun j hj => by
  obtain ⟨blk, off, e, hlt, hc⟩ := h j hj
  exact ⟨blk, off, e, by simpa using hlt, fun t ht => (World.cell?_of_block (Below.heap_setCell _ _ _ _ (fun e2 => hp blk off e e2.symm))).trans (hc t ht)⟩
theorem opsN_c (w : World) (u v : Int) : Calls Try.prog 49 #[vC u v] w (IsOpsN [] w) := by
  have e1 := noP 88 (.agg #[.int .i64 u, .int .i64 v]) (by decide)
  have e2 := noK 88 (.agg #[.int .i64 u, .int .i64 v]) (by decide)
  go_enter Try.func49, Try.ntmps49
  go_wp2
  go_ret
  exact ⟨none, rfl, Reads.nil _ _, (fun _ _ e => by cases e), by (repeat (first | exact Below.refl _ _ | apply BelowKit.bl_alloc | apply BelowKit.bl_drewN | apply BelowKit.bl_drew | (refine BelowKit.bl_set ?_ _ ?_; rotate_left; (first | omega | (simp; omega) | simp)) | (refine BelowKit.bl_trans ?_ (‹Hid (Below _ _ _)›).out)))⟩
theorem opsN_v (w : World) (a : Int) : Calls Try.prog 49 #[vV a] w (IsOpsN [] w) := by
  have e1 := noP 79 (.agg #[.int .i64 a]) (by decide)
  have e2 := noK 79 (.agg #[.int .i64 a]) (by decide)
  go_enter Try.func49, Try.ntmps49
  go_wp2
  go_ret
  exact ⟨none, rfl, Reads.nil _ _, (fun _ _ e => by cases e), by (repeat (first | exact Below.refl _ _ | apply BelowKit.bl_alloc | apply BelowKit.bl_drewN | apply BelowKit.bl_drew | (refine BelowKit.bl_set ?_ _ ?_; rotate_left; (first | omega | (simp; omega) | simp)) | (refine BelowKit.bl_trans ?_ (‹Hid (Below _ _ _)›).out)))⟩
theorem opsN_p (w : World) (k a b : Int) : Calls Try.prog 49 #[vP k a b] w (IsOpsN [a, b] w) := by
  have e1 := is_yes 98 (.agg #[.int .i64 k, .int .i64 a, .int .i64 b]) (by simp)
  go_enter Try.func49, Try.ntmps49
  go_wp2
  go_ret
  refine ⟨_, rfl, ?_, (fun _ _ e => by cases e; simp), by (repeat (first | exact Below.refl _ _ | apply BelowKit.bl_alloc | apply BelowKit.bl_drewN | apply BelowKit.bl_drew | (refine BelowKit.bl_set ?_ _ ?_; rotate_left; (first | omega | (simp; omega) | simp)) | (refine BelowKit.bl_trans ?_ (‹Hid (Below _ _ _)›).out)))⟩
  intro j hj
  refine ⟨_, _, rfl, by simp, ?_⟩
  intro i hi
  obtain rfl : i = 0 := by omega
  match j, hj with
  | 0, _ => simp [go_sem, fI]
  | 1, _ => simp [go_sem, fI]
theorem opsN_k (w : World) (a b c : Int) : Calls Try.prog 49 #[vK a b c] w (IsOpsN [a, b, c] w) := by
  have e1 := noP 101 (.agg #[.int .i64 a, .int .i64 b, .int .i64 c]) (by decide)
  have e2 := is_yes 101 (.agg #[.int .i64 a, .int .i64 b, .int .i64 c]) (by simp)
  go_enter Try.func49, Try.ntmps49
  go_wp2
  go_ret
  refine ⟨_, rfl, ?_, (fun _ _ e => by cases e; simp), by (repeat (first | exact Below.refl _ _ | apply BelowKit.bl_alloc | apply BelowKit.bl_drewN | apply BelowKit.bl_drew | (refine BelowKit.bl_set ?_ _ ?_; rotate_left; (first | omega | (simp; omega) | simp)) | (refine BelowKit.bl_trans ?_ (‹Hid (Below _ _ _)›).out)))⟩
  intro j hj
  refine ⟨_, _, rfl, by simp, ?_⟩
  intro i hi
  obtain rfl : i = 0 := by omega
  match j, hj with
  | 0, _ => simp [go_sem, fI]
  | 1, _ => simp [go_sem, fI]
  | 2, _ => simp [go_sem, fI]
set_option maxRecDepth 100000 in
set_option maxHeartbeats 16000000 in
theorem vars_i (w : World) (p : Option Addr) (m cap : Nat) (l : List El) (hm : l.length = m) (hs : m ≤ 1048576) (h : Reads fc 6 w p l) :
    Calls Try.prog 18 #[.slice p m cap] w (TBool.IsRow (varsOf l) w) := by
  have KK := Lib.hid h
  have HM := Lib.hid hm
  obtain ⟨R, hR⟩ : ∃ R, varsOf l = R := ⟨_, rfl⟩
  have HR := Lib.hid hR
  rw [hR]
  obtain ⟨b1, e1⟩ : ∃ b, okF l = b := ⟨_, rfl⟩
  have E1 := Lib.hid e1
  clear h hm hR
  refine (callsIn_wide (n := 8)).1 ?_
  refine callsIn_of_wp_marks Try.func18 rfl trivial ?_ rfl
  simp only [Try.ntmps18, List.size_toArray, List.length_cons, List.length_nil, Nat.reduceAdd, Nat.reduceSub, Array.replicate_succ, Array.replicate_zero, List.push_toArray, List.append_toArray, List.nil_append, List.cons_append]
  gi_wp2_with fail
  refine ⟨trivial, (callsIn_wide.2 (FormI.form_i _ p m cap l HM.out (by omega) KK.out)).mono ?_⟩
  rintro e w1 ⟨rfl, hb⟩
  rw [E1.out]
  have HB1 := Lib.hid hb
  clear hb
  cases b1 with
  | false =>
    have E := Lib.hid (show R = [] by rw [← HR.out, varsOf, e1, if_neg Bool.false_ne_true])
    clear HR e1
    gi_wp2
    repeat (refine ⟨trivial, ?_⟩; gi_wp2)
    refine ⟨_, results_tmp rfl _ _ _, ?_⟩
    rw [E.out]
    exact ⟨none, 0, rfl, Owns.nil _ _ _, HB1.out⟩
  | true =>
  have HF := Lib.hid (okF_of e1)
  have E := Lib.hid (show R = (runV l m).1 by rw [← HR.out, varsOf, e1, if_pos rfl, HM.out])
  have hm1 : 1 ≤ m := by have := HF.out.1.1; have := HM.out; omega
  have hm30 : m ≤ 30 := by have := HF.out.1.2; have := HM.out; omega
  clear HR e1 E1
  have hbs := HB1.out.size
  gi_wp2_with (gi_at_make; refine RowMakeIn.wpListIn_makeN TBool.ft TBool.fw (z0 := false) rfl _ rfl _ _ rfl w.heap.size .i64 .i64 _ _ 8 rfl rfl rfl rfl (by omega) hbs ?_; intro w2 hown2 hg2; refine Fresh.pause ?_)
  refine ⟨?_⟩
  have HB2 := Lib.hid (HB1.out.grown hg2 hbs (by simp))
  have HO2 := Lib.hid hown2
  have z12 : w1.heap.size < w2.heap.size := hown2.lt _ rfl
  obtain ⟨gO, hgO⟩ : ∃ g, w1.heap.size = g := ⟨_, rfl⟩
  rw [hgO] at HO2 z12 hbs ⊢
  clear hown2 hg2 HB1
  have hbs3 : w.heap.size ≤ (w2.alloc (.cells #[.slice (some ⟨gO, 0, none⟩) 8 8] 40)).heap.size := by simp; omega
  gi_wp2_with (gi_at_make; refine RowMakeIn.wpListIn_makeN TBool.ft TBool.fw (z0 := false) rfl _ rfl _ _ rfl w.heap.size .i64 .i64 _ _ m rfl rfl rfl rfl (by omega) hbs3 ?_; intro w4 hown4 hg4; refine Fresh.pause ?_)
  refine ⟨?_⟩
  have HB4 := Lib.hid ((BelowKit.bl_alloc HB2.out).grown hg4 hbs3 (by simp))
  have hBO4 := (Boxed.new w2 40 (.slice (some ⟨gO, 0, none⟩) 8 8)).kept hg4 (by simp)
  have hO4 := (HO2.out.alloc (.cells #[.slice (some ⟨gO, 0, none⟩) 8 8] 40)).kept hg4 (.inr (by simp [Value.ownBlock]))
  have hN4 := hown4
  simp only [World.size_alloc] at hN4 ⊢
  have z24 : w2.heap.size + 1 < w4.heap.size := hN4.lt _ rfl
  obtain ⟨bO, hbO⟩ : ∃ g, w2.heap.size = g := ⟨_, rfl⟩
  rw [hbO] at hBO4 hN4 z12 z24 ⊢
  obtain ⟨gN, hgN⟩ : ∃ g, bO + 1 = g := ⟨_, rfl⟩
  rw [hgN] at hN4 z24 ⊢
  obtain ⟨k0, rfl⟩ : ∃ k, m = k + 1 := ⟨m - 1, by omega⟩
  obtain ⟨M, hMM⟩ : ∃ M, k0 + 1 = M := ⟨_, rfl⟩
  obtain ⟨_, e', _, _, c0, f0⟩ := TBool.own hN4 k0 (by simp)
  cases e'
  have R0 := TBool.stored hN4 k0 (by simp) true
  rw [hMM] at R0 hm1 hm30 HM E hs ⊢
  have W1 : IntKind.i64.wrap ((M : Int) - 1) = (k0 : Int) := by rw [IntWalk.i64_in _ (by omega)]; omega
  have b0 : (0 : Int) ≤ (k0 : Int) := by omega
  have b00 : (k0 : Int) < (M : Int) := by omega
  have L1 : w.heap.size ≤ gO := hbs
  have L2 : gO < bO := z12
  have L3 : bO < gN := by omega
  have L4 : gN < w4.heap.size := z24
  have hSt : St w ((w4.setCell ⟨gN, k0, none⟩ (.bool true)).alloc (.cells #[.slice (some ⟨gN, 0, none⟩) M M] 40)) ((w4.setCell ⟨gN, k0, none⟩ (.bool true)).alloc (.cells #[.slice (some ⟨gN, 0, none⟩) M M] 40)) gO bO gN w4.heap.size w4.heap.size M (runV l 0) :=
    ⟨KeepsOthers.refl _, Kp.refl _ _ _, Boxed.alloc ((Below.heap_setCell _ _ _ _ (by simp; omega)).trans hBO4) _, by simpa using Boxed.new (w4.setCell ⟨gN, k0, none⟩ (.bool true)) 40 (.slice (some ⟨gN, 0, none⟩) M M),
      (hO4.beside (ne_own (by omega)) _).alloc _, by
        have : (runV l 0).2 = (List.replicate M false).set k0 true := by rw [runV, HM.out, ← hMM]; simp
        rw [this]
        exact R0.alloc _, BelowKit.bl_alloc (BelowKit.bl_set HB4.out _ (by show w.heap.size ≤ gN; omega)), by simp⟩
  have HST := Lib.hid hSt
  clear hown4 hg4 R0 hSt hBO4 hO4 hN4 HB4 HO2 HB2 hbO hgN hgO hbs3 z24 z12 hbs
  gi_wp2_with fail
  refine ⟨trivial, (callsIn_wide.2 (back_i _ p M cap)).mono ?_⟩
  rintro e w6 ⟨rfl, hbx, hz6, hb6⟩
  have HST6 := Lib.hid ((HST.out.below hb6).rebase hbx.lt)
  simp only [World.size_alloc, World.size_setCell] at hbx hz6 ⊢
  clear hb6 HST c0 f0 W1 b0 b00
  obtain ⟨bN, hbN⟩ : ∃ g, w4.heap.size = g := ⟨_, rfl⟩
  simp only [World.size_alloc, World.size_setCell] at HST6
  rw [hbN] at HST6 hbx hz6 L4 ⊢
  obtain ⟨b, hb⟩ : ∃ g, bN + 1 = g := ⟨_, rfl⟩
  rw [hb] at HST6 hbx hz6 ⊢
  have HL := Lib.hid (show Lay w.heap.size gO bO gN bN b from ⟨L1, L2, L3, L4, by omega⟩)
  clear hbN
  gi_wp2_with fail
-- ROUNDS
  refine wpIn_rangeFunc_ownH rfl (by omega) (gf := 70) (lb := #[.pointer (some ⟨b, 0, none⟩)]) rfl trivial (enters_of Try.func70 (by kernel_rfl) rfl)
    (iter_i (8 - 1) b w w6 p M cap l HM.out hs KK.out (by omega) HST6.out.bel hbx (by omega)) (fun h k => Kp.trans h k) (kp_b HST6.out.bel.size HST6.out.sz) (Below.refl _ _) (fun _ => rfl)
    (fun (pre : List (Fin l.length)) (W : World) => Inv w gO bO gN bN b M (fold l pre) W)
    (fun _ _ _ => False)
    (inv_own w6.heap.size (fold l) HST6.out.bel.size)
    (fun _ _ _ _ _ hs _ _ => hs)
    HST6.out.inv
    (fun (k : Fin l.length) (a' : Act) (W : World) => ∃ Bx, W.heap[Bx]? = some (.cells #[.int .i64 (l[k.1]'k.2).Kind, .int .i64 (l[k.1]'k.2).A, .int .i64 (l[k.1]'k.2).B, .int .i64 (l[k.1]'k.2).C, .int .i64 (l[k.1]'k.2).Value_Num, .int .i64 (l[k.1]'k.2).Value_Den] 35 (0, 0)) ∧ a' =
      { tmps := #[.slice p M cap, undef, .slice none 0 0, .pointer (some ⟨bO, 0, none⟩), .pointer (some ⟨bN, 0, none⟩), .int .i64 (k.1 : Int), .pointer (some ⟨Bx, 0, none⟩), undef, undef, undef, undef, undef,
          .slice p M cap, .bool true, .bool false, .slice (some ⟨gO, 0, none⟩) 8 8, .slice p M cap, .int .i64 (M : Int), .slice (some ⟨gN, 0, none⟩) M M, .slice (some ⟨gN, 0, none⟩) M M, .slice p M cap, .int .i64 (M : Int), .int .i64 (k0 : Int), .pointer (some ⟨gN, k0, none⟩), .slice p M cap,
          .func (.func 70) #[] #[.pointer (some ⟨b, 0, none⟩)], .int .i64 (k.1 : Int), .agg #[.int .i64 (l[k.1]'k.2).Kind, .int .i64 (l[k.1]'k.2).A, .int .i64 (l[k.1]'k.2).B, .int .i64 (l[k.1]'k.2).C, .int .i64 (l[k.1]'k.2).Value_Num, .int .i64 (l[k.1]'k.2).Value_Den],
          undef, undef, undef, undef, undef, undef, undef, undef, undef, undef, undef, undef, undef, undef, undef, undef, undef, undef, undef, undef, undef, undef, undef, undef, undef, undef, undef, undef, undef], defers := [] })
    (fun k a' _ X Y row hs hg hr => by
      obtain ⟨Bx, h1, h3⟩ := hs
      refine ⟨Bx, (hg.block Bx (Array.getElem?_eq_some_iff.1 h1).1 (fun e => ?_)).trans h1, h3⟩
      obtain ⟨_, o, ho, hc⟩ := hr Bx e.symm
      rw [h1] at ho; cases ho; cases hc)
    ?assign ?body ?done ?stop
  case assign =>
    rintro lp pre k W K hI hK
    have hI' := (hI.st.alloc (.cells #[.int .i64 (l[k.1]'k.2).Kind, .int .i64 (l[k.1]'k.2).A, .int .i64 (l[k.1]'k.2).B, .int .i64 (l[k.1]'k.2).C, .int .i64 (l[k.1]'k.2).Value_Num, .int .i64 (l[k.1]'k.2).Value_Den] 35 (0, 0))).inv
    have hkp := (hI.st.alloc (.cells #[.int .i64 (l[k.1]'k.2).Kind, .int .i64 (l[k.1]'k.2).A, .int .i64 (l[k.1]'k.2).B, .int .i64 (l[k.1]'k.2).C, .int .i64 (l[k.1]'k.2).Value_Num, .int .i64 (l[k.1]'k.2).Value_Den] 35 (0, 0))).kp
    simp only [encs, fv]
    gi_wp2
    exact hK _ _ ((KeepsOthers.alloc _ _).from _) hkp hI' ⟨W.heap.size, World.alloc_heap_new W _, rfl⟩
  case body =>
    rintro lp pre k a' W hl ⟨r, hr⟩ hI ⟨Bx, hBx, rfl⟩ hlt
    clear hr hlt hl
    have HS := Lib.hid hI.st
    have HOK := Lib.hid (okN_of (HF.out.2 k.1 k.2))
    obtain ⟨ln1, ln2⟩ := fold_len l pre
    rw [HM.out] at ln2
    have HFD := Lib.hid (fold_snoc l pre k)
    have hkM : k.1 < M := by have h1 := k.2; have h2 := HM.out; omega
    obtain ⟨s, hs⟩ : ∃ s, fold l pre = s := ⟨_, rfl⟩
    rw [hs] at HS ln1 ln2 HFD
    have hkn : k.1 < s.2.length := by rw [ln2]; exact hkM
    obtain ⟨_, e', _, hgN', c0, f0⟩ := TBool.own HS.out.rn k.1 hkn
    cases e'
    have hd : s.2.getD k.1 false = s.2[k.1] := by simp [hkn]
    have cN := HS.out.bn.cell
    have zN := HS.out.bn.lt
    have hx0 : W.cell? ⟨Bx, 0, none⟩ = some (.int .i64 (l[k.1]'k.2).Kind) := by simp [World.cell?, hBx]
    have hx1 : W.cell? ⟨Bx, 1, none⟩ = some (.int .i64 (l[k.1]'k.2).A) := by simp [World.cell?, hBx]
    have hx2 : W.cell? ⟨Bx, 2, none⟩ = some (.int .i64 (l[k.1]'k.2).B) := by simp [World.cell?, hBx]
    have hx3 : W.cell? ⟨Bx, 3, none⟩ = some (.int .i64 (l[k.1]'k.2).C) := by simp [World.cell?, hBx]
    have hx4 : W.cell? ⟨Bx, 4, none⟩ = some (.int .i64 (l[k.1]'k.2).Value_Num) := by simp [World.cell?, hBx]
    have hx5 : W.cell? ⟨Bx, 5, none⟩ = some (.int .i64 (l[k.1]'k.2).Value_Den) := by simp [World.cell?, hBx]
    have hxz := (Array.getElem?_eq_some_iff.1 hBx).1
    obtain ⟨nb, hnb⟩ : ∃ b, s.2[k.1] = b := ⟨_, rfl⟩
    rw [hnb] at c0 hd
    have bb1 : (0 : Int) ≤ (k.1 : Int) := by omega
    have bb2 : (k.1 : Int) < (M : Int) := by omega
    have HSE := Lib.hid (step_eq (s := s) (i := k.1) HOK.out)
    have HD := Lib.hid hd
    have LN1 := Lib.hid ln1
    have LN2 := Lib.hid ln2
    clear hI hBx hs hd hnb ln1 ln2 hkn
    cases nb with
    | false =>
      have HE := Lib.hid (show fold l (pre ++ [k]) = s by rw [HFD.out, HSE.out, if_pos HD.out])
      clear HFD HSE HD
      gi_wp2
      exact ⟨HS.out.keep.from _, HS.out.kp, by show Inv w gO bO gN bN b M (fold l (pre ++ [k])) _; rw [HE.out]; exact HS.out.inv⟩
    | true =>
      have HE := Lib.hid (show fold l (pre ++ [k]) = (if (l[k.1]'k.2).Kind = 2 then setB s.1 (l[k.1]'k.2).A else s.1, (opsOf (l[k.1]'k.2)).foldl setB s.2) by rw [HFD.out, HSE.out, if_neg (by rw [HD.out]; decide)])
      clear HFD HSE HD
      generalize l[k.1]'k.2 = x at hx0 hx1 hx2 hx3 hx4 hx5 HOK HE ⊢
      gi_wp2_with fail
      refine ⟨trivial, (callsIn_wide.2 (step_i _ x)).mono ?_⟩
      rintro e w7 ⟨rfl, hb7⟩
      have HS7 := Lib.hid (HS.out.below hb7)
      clear hb7 hx0 hx1 hx2 hx3 hx4 hx5 hxz c0 f0 cN zN bb1 bb2 hgN' HS
      have cN := HS7.out.bn.cell
      have zN := HS7.out.bn.lt
      have cO := HS7.out.bo.cell
      have zO := HS7.out.bo.lt
      obtain ⟨kd, a, b_, c, u, d⟩ := x
      rcases HOK.out with h1 | ⟨_, _, h1 | h1 | h1⟩
      · obtain ⟨hk, _⟩ := h1
        simp only [] at hk
        subst hk
        have hS : StepI.stepV ⟨1, a, b_, c, u, d⟩ = vC u d := rfl
        rw [hS]
        replace HE := Lib.hid (show fold l (pre ++ [k]) = (s.1, s.2) by rw [HE.out]; rfl)
        have t1 := noV 88 (.agg #[.int .i64 u, .int .i64 d]) (by decide)
        have HS9 := Lib.hid (HS7.out.alloc (.cells #[.int .i64 0] 79))
        clear HS7 hS HOK
        gi_wp2_with fail
        refine ⟨trivial, (callsIn_wide.2 (opsN_c _ u d)).mono ?_⟩
        rintro e w8 ⟨p5, rfl, hr5, hnew, hb5⟩
        have HS8 := Lib.hid (HS9.out.below hb5)
        clear hb5 hr5 hnew HS9
        simp only [List.length_nil]
        gi_wp2
        gi_loopw [48] (fun i wr => i = .int .i64 0 ∧ wr = w8) (fun _ _ => 0)
        case atStart => exact ⟨rfl, rfl⟩
        case round =>
          obtain ⟨rfl, rfl⟩ := hrel
          gi_wp2
          exact ⟨HS8.out.keep.from _, HS8.out.kp, by show Inv w gO bO gN bN b M (fold l (pre ++ [k])) _; rw [HE.out]; exact HS8.out.inv⟩
      · obtain ⟨hk, ha, _⟩ := h1
        simp only [] at hk ha
        subst hk
        have hS : StepI.stepV ⟨2, a, b_, c, u, d⟩ = vV a := rfl
        rw [hS]
        obtain ⟨ia, rfl, hia⟩ := ValS.nat_of (a := a) (k := 8) (by omega)
        have hla : ia < s.1.length := by rw [LN1.out]; omega
        obtain ⟨_, e', _, hgO', t0, y0⟩ := TBool.own HS7.out.ro ia hla
        cases e'
        generalize s.1[ia] = zz at t0
        have b3 : (0 : Int) ≤ (ia : Int) := by omega
        have b4 : (ia : Int) < 8 := hia
        replace HE := Lib.hid (show fold l (pre ++ [k]) = (s.1.set ia true, s.2) by rw [HE.out]; simp [opsOf, set_nat])
        have t1 := is_yes 79 (.agg #[.int .i64 (ia : Int)]) (by simp)
        have HS9 := Lib.hid ((HS7.out.setO HL.out hla).alloc (.cells #[.int .i64 (ia : Int)] 79))
        clear HS7 hS HOK ha hla
        gi_wp2_with fail
        refine ⟨trivial, (callsIn_wide.2 (opsN_v _ (ia : Int))).mono ?_⟩
        rintro e w8 ⟨p5, rfl, hr5, hnew, hb5⟩
        have HS8 := Lib.hid (HS9.out.below hb5)
        clear hb5 hr5 hnew HS9
        simp only [List.length_nil]
        gi_wp2
        gi_loopw [48] (fun i wr => i = .int .i64 0 ∧ wr = w8) (fun _ _ => 0)
        case atStart => exact ⟨rfl, rfl⟩
        case round =>
          obtain ⟨rfl, rfl⟩ := hrel
          gi_wp2
          exact ⟨HS8.out.keep.from _, HS8.out.kp, by show Inv w gO bO gN bN b M (fold l (pre ++ [k])) _; rw [HE.out]; exact HS8.out.inv⟩
      · obtain ⟨hk, ha, hb, _⟩ := h1
        simp only [] at hk ha hb
        have hS : StepI.stepV ⟨kd, a, b_, c, u, d⟩ = vP kd a b_ := by unfold StepI.stepV; simp only []; rw [if_neg (by omega), if_neg (by omega), if_pos hk]
        rw [hS]
        replace HE := Lib.hid (show fold l (pre ++ [k]) = (s.1, ([a, b_] : List Int).foldl setB s.2) by rw [HE.out]; simp only [opsOf]; rw [if_neg (by omega), if_pos hk])
        have HOPS : Hid (∀ t (h : t < ([a, b_] : List Int).length), 0 ≤ ([a, b_] : List Int)[t] ∧ ([a, b_] : List Int)[t] < (k.1 : Int)) := Lib.hid (fun t h => by
          match t, h with
          | 0, _ => exact ha
          | 1, _ => exact hb)
        have t1 := noV 98 (.agg #[.int .i64 kd, .int .i64 a, .int .i64 b_]) (by decide)
        have HS9 := Lib.hid (HS7.out.alloc (.cells #[.int .i64 0] 79))
        clear HS7 hS HOK hk ha hb
        gi_wp2_with fail
        refine ⟨trivial, (callsIn_wide.2 (opsN_p _ kd a b_)).mono ?_⟩
        rintro e w8 ⟨p5, rfl, hr5, hnew, hb5⟩
        have HS8 := Lib.hid (HS9.out.below hb5)
        have HR5 := Lib.hid hr5
        have hp5 : ∀ g o, p5 = some ⟨g, o, none⟩ → gN ≠ g := fun g o e => by have := hnew g o e; have := HS9.out.bn.lt; have := HL.out.h4; omega
        clear hb5 hr5 hnew HS9
        simp only [List.length_cons, List.length_nil, Nat.zero_add, Nat.reduceAdd]
        gi_wp2
        gi_loopw [48] (fun i wr => ∃ t : Nat, t ≤ 2 ∧ i = .int .i64 (t : Int) ∧ Hid (St w W wr gO bO gN bN b M (s.1, (([a, b_]).take t).foldl setB s.2)) ∧ Hid (Reads fI 1 wr p5 [a, b_])) (fun i _ => 2 - (intOf i).toNat)
        case atStart => exact ⟨0, Nat.zero_le _, rfl, HS8, HR5⟩
        case round =>
          clear HS8 HR5
          obtain ⟨t, ht, rfl, HSr, HRr⟩ := hrel
          by_cases hlt : t < 2
          · obtain ⟨g, o, rfl, hgl, q⟩ := HRr.out t hlt
            have q0 := q 0 (by omega)
            simp only [fI, Nat.mul_one, Nat.add_zero, List.getElem?_cons_zero] at q0
            clear q
            have hv := HOPS.out t hlt
            have HT := Lib.hid (foldB_take [a, b_] s.2 t hlt)
            generalize ([a, b_] : List Int)[t]'hlt = v at q0 hv HT
            obtain ⟨iv, rfl, hiv⟩ := ValS.nat_of hv
            have hrow : iv < ((([a, b_]).take t).foldl setB s.2).length := by rw [foldB_len, LN2.out]; omega
            obtain ⟨_, e', _, hgN', c0, f0⟩ := TBool.own HSr.out.rn iv hrow
            cases e'
            have HSn := Lib.hid (HSr.out.setN HL.out hrow)
            rw [← set_nat, ← HT.out] at HSn
            have HRn := Lib.hid (reads_set (i := iv) (x := .bool true) HRr.out (fun g' o' e => hp5 g' o' e))
            generalize ((([a, b_]).take t).foldl setB s.2)[iv] = zz at c0
            have cN := HSr.out.bn.cell
            have zN := HSr.out.bn.lt
            have b3 : (0 : Int) ≤ (iv : Int) := by omega
            have b4 : (iv : Int) < (M : Int) := by omega
            have b5 : (0 : Int) ≤ (t : Int) := by omega
            have b6 : (t : Int) < 2 := by omega
            clear hrow HT hv HSr HRr
            gi_wp2
            go_roundw
            case rel => exact ⟨t + 1, by omega, by go_num, HSn, HRn⟩
            case measure => simp [intOf]; omega
          · obtain rfl : t = 2 := by omega
            gi_wp2
            exact ⟨HSr.out.keep.from _, HSr.out.kp, by show Inv w gO bO gN bN b M (fold l (pre ++ [k])) _; rw [HE.out]; exact HSr.out.inv⟩
      · obtain ⟨hk, ha, hb, hc⟩ := h1
        simp only [] at hk ha hb hc
        subst hk
        have hS : StepI.stepV ⟨9, a, b_, c, u, d⟩ = vK a b_ c := rfl
        rw [hS]
        replace HE := Lib.hid (show fold l (pre ++ [k]) = (s.1, ([a, b_, c] : List Int).foldl setB s.2) by rw [HE.out]; rfl)
        have HOPS : Hid (∀ t (h : t < ([a, b_, c] : List Int).length), 0 ≤ ([a, b_, c] : List Int)[t] ∧ ([a, b_, c] : List Int)[t] < (k.1 : Int)) := Lib.hid (fun t h => by
          match t, h with
          | 0, _ => exact ha
          | 1, _ => exact hb
          | 2, _ => exact hc)
        have t1 := noV 101 (.agg #[.int .i64 a, .int .i64 b_, .int .i64 c]) (by decide)
        have HS9 := Lib.hid (HS7.out.alloc (.cells #[.int .i64 0] 79))
        clear HS7 hS HOK ha hb hc
        gi_wp2_with fail
        refine ⟨trivial, (callsIn_wide.2 (opsN_k _ a b_ c)).mono ?_⟩
        rintro e w8 ⟨p5, rfl, hr5, hnew, hb5⟩
        have HS8 := Lib.hid (HS9.out.below hb5)
        have HR5 := Lib.hid hr5
        have hp5 : ∀ g o, p5 = some ⟨g, o, none⟩ → gN ≠ g := fun g o e => by have := hnew g o e; have := HS9.out.bn.lt; have := HL.out.h4; omega
        clear hb5 hr5 hnew HS9
        simp only [List.length_cons, List.length_nil, Nat.zero_add, Nat.reduceAdd]
        gi_wp2
        gi_loopw [48] (fun i wr => ∃ t : Nat, t ≤ 3 ∧ i = .int .i64 (t : Int) ∧ Hid (St w W wr gO bO gN bN b M (s.1, (([a, b_, c]).take t).foldl setB s.2)) ∧ Hid (Reads fI 1 wr p5 [a, b_, c])) (fun i _ => 3 - (intOf i).toNat)
        case atStart => exact ⟨0, Nat.zero_le _, rfl, HS8, HR5⟩
        case round =>
          clear HS8 HR5
          obtain ⟨t, ht, rfl, HSr, HRr⟩ := hrel
          by_cases hlt : t < 3
          · obtain ⟨g, o, rfl, hgl, q⟩ := HRr.out t hlt
            have q0 := q 0 (by omega)
            simp only [fI, Nat.mul_one, Nat.add_zero, List.getElem?_cons_zero] at q0
            clear q
            have hv := HOPS.out t hlt
            have HT := Lib.hid (foldB_take [a, b_, c] s.2 t hlt)
            generalize ([a, b_, c] : List Int)[t]'hlt = v at q0 hv HT
            obtain ⟨iv, rfl, hiv⟩ := ValS.nat_of hv
            have hrow : iv < ((([a, b_, c]).take t).foldl setB s.2).length := by rw [foldB_len, LN2.out]; omega
            obtain ⟨_, e', _, hgN', c0, f0⟩ := TBool.own HSr.out.rn iv hrow
            cases e'
            have HSn := Lib.hid (HSr.out.setN HL.out hrow)
            rw [← set_nat, ← HT.out] at HSn
            have HRn := Lib.hid (reads_set (i := iv) (x := .bool true) HRr.out (fun g' o' e => hp5 g' o' e))
            generalize ((([a, b_, c]).take t).foldl setB s.2)[iv] = zz at c0
            have cN := HSr.out.bn.cell
            have zN := HSr.out.bn.lt
            have b3 : (0 : Int) ≤ (iv : Int) := by omega
            have b4 : (iv : Int) < (M : Int) := by omega
            have b5 : (0 : Int) ≤ (t : Int) := by omega
            have b6 : (t : Int) < 3 := by omega
            clear hrow HT hv HSr HRr
            gi_wp2
            go_roundw
            case rel => exact ⟨t + 1, by omega, by go_num, HSn, HRn⟩
            case measure => simp [intOf]; omega
          · obtain rfl : t = 3 := by omega
            gi_wp2
            exact ⟨HSr.out.keep.from _, HSr.out.kp, by show Inv w gO bO gN bN b M (fold l (pre ++ [k])) _; rw [HE.out]; exact HSr.out.inv⟩
  case done =>
    rintro D ys W hD rfl hI hK
    have HS := Lib.hid hI.st
    have hc := HS.out.bo.cell
    have hzz := HS.out.bo.lt
    gi_wp2
    refine ⟨by simp, .inl ⟨_, _, rfl, run_takeDeferred hK, ?_⟩⟩
    have hB5 : Below w.heap.size w (W.putObj D (.deferred none)) := HS.out.bel.trans (belowK_b (w := w) (Nat.le_refl _) W D _ _ (by have := HST6.out.bel.size; omega) hK rfl rfl)
    have hown : Owns TBool.fc 1 (W.putObj D (.deferred none)) w.heap.size TBool.T (.slice (some ⟨gO, 0, none⟩) 8 8) (fold l (down l M)).1 := ownsRow_putObj HS.out.ro _ hK rfl
    have e1 : (fold l (down l M)).1 = R := by rw [fold_down, E.out]
    have e2 : R.length = 8 := by rw [E.out, (runV_len l M).1]
    rw [e1] at hown
    exact ⟨_, results_tmp rfl _ _ _, some ⟨gO, 0, none⟩, 8, by rw [e2]; rfl, by rw [e2]; exact hown, hB5⟩
  case stop =>
    rintro D c pre W _ _ h _
    exact h.elim
-- END
end Go.Proofs.Ytlljhcfiojfimaa.VarsI

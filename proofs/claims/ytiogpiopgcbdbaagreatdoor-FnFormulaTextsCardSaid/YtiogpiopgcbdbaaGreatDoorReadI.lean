/- Contracts of the program's formulaReader: readWord, readNode; ParseFormula. -/
import Derived.Test.YtiogpiopgcbdbaaGreatDoorRows
import Derived.Test.YtiogpiopgcbdbaaGreatDoorNine
import Derived.Test.YtiogpiopgcbdbaaGreatDoorKindsI
import Derived.Test.YtiogpiopgcbdbaaGreatDoorParseFI
import Derived.Test.YtiogpiopgcbdbaaGreatDoorOpsI
import Derived.Test.YtiogpiopgcbdbaaGreatDoorNumWalksI
import Derived.Deep.RegionLaw
import Derived.Deep.DeepCutAuto
namespace Go.Proofs.YtiogpiopgcbdbaaGreatDoor.ReadI
open Go.RowKit RowN TNode NodeMath FracMath SizeM ReadM WordM OpsM OpsI FracTxM FracTxS MapM KindsI StepI
def fB (s : ByteArray) : List Value := [.string s]
theorem fwB : Wide fB 1 := ⟨fun _ => rfl, by rintro x v hv; simp only [fB, List.mem_cons, List.not_mem_nil, or_false] at hv; subst hv; rfl, by omega⟩
/-- The reader in block b: the words that are left, the map of kinds, the nodes so far. -/
structure Rdr (W : World) (b : Nat) (a : Option Addr) (n c kb nk : Nat) (D : DU) (v : Value) (ws : List ByteArray) (out : List El) : Prop where
  blk : W.heap[b]? = some (.cells #[.slice a n c, .map (some kb), v] 56 (0, 0))
  own : Owns fc 6 W b T v out
  ne : v.ownBlock ≠ some b
  len : ws.length = n
  cap : n ≤ c
  wrd : Reads fB 1 W a ws
  low : ∀ g o, a = some ⟨g, o, none⟩ → g < b
  kown : OwnK W kb nk D
  klow : kb < b
theorem Rdr.lt {W : World} {b : Nat} {a : Option Addr} {n c kb nk : Nat} {D : DU} {v : Value} {ws : List ByteArray} {out : List El} (h : Rdr W b a n c kb nk D v ws out) : b < W.heap.size := (Array.getElem?_eq_some_iff.1 h.blk).1
theorem reads_low {W W' : World} {b : Nat} {a : Option Addr} {ws : List ByteArray} (h : Reads fB 1 W a ws) (hl : ∀ g o, a = some ⟨g, o, none⟩ → g < b) (hb : Below b W W') : Reads fB 1 W' a ws := by
  intro j hj
  obtain ⟨g, o, rfl, hg, q⟩ := h j hj
  refine ⟨g, o, rfl, Nat.lt_of_lt_of_le hg hb.size, fun i hi => ?_⟩
  rw [World.cell?_of_block (hb.block g (hl g o rfl))]
  exact q i hi
theorem Rdr.on {W W' : World} {b : Nat} {a : Option Addr} {n c kb nk : Nat} {D : DU} {v : Value} {ws : List ByteArray} {out : List El} (h : Rdr W b a n c kb nk D v ws out) (hb : Below W.heap.size W W') : Rdr W' b a n c kb nk D v ws out :=
  ⟨(hb.block b h.lt).trans h.blk, h.own.on hb, h.ne, h.len, h.cap, h.wrd.on hb, h.low, own_below h.kown hb, h.klow⟩
/-- The words' cell alone has turned. -/
theorem Rdr.setWords {W : World} {b : Nat} {a a' : Option Addr} {n c n' c' kb nk : Nat} {D : DU} {v : Value} {ws ws' : List ByteArray} {out : List El} (h : Rdr W b a n c kb nk D v ws out) (hlen : ws'.length = n') (hcap : n' ≤ c') (hr : Reads fB 1 W a' ws') (hl : ∀ g o, a' = some ⟨g, o, none⟩ → g < b) :
    Rdr (W.setCell ⟨b, 0, none⟩ (.slice a' n' c')) b a' n' c' kb nk D v ws' out := by
  have hb : Below b W (W.setCell ⟨b, 0, none⟩ (.slice a' n' c')) := (Below.refl b W).setCell (p := ⟨b, 0, none⟩) (Nat.le_refl _) _
  exact ⟨Lib.heap_setCell_same h.blk _, h.own.beside h.ne _, h.ne, hlen, hcap, reads_low hr hl hb, hl, own_on h.kown (hb.block kb h.klow), h.klow⟩
theorem lookK {w : World} {kb nk : Nat} {D : DU} (h : OwnK w kb nk D) (hK : KD D) (s : ByteArray) (l : List UInt8) (hs : s.data.toList = l) (hz : s.size ≤ 1048576) :
    (Instr.lookup 53 (.map (some kb)) (.string s) true).run Tryz.prog w = .ok (.tuple #[.int .i64 (kindOf l), .bool (decide (kindOf l ≠ 0))]) w := by
  obtain ⟨v, ps, hr, hv⟩ := World.ownsMap.look_ok h lawS Tryz.underlying53 (zeroI w) (plainElem_int Tryz.underlying3 (by decide)) (kSm s l hs hz)
  rw [hK.val] at hv
  rw [hK.here] at hr
  obtain ⟨k, rfl, hk, _⟩ := plainElem_int_inv Tryz.underlying3 hv
  simp only [Prod.mk.injEq, DataW.lit.injEq, Lit.int.injEq, true_and] at hk
  rw [← hk.1] at hr
  exact hr
theorem cutp_c (s : ByteArray) (w : World) (hm : s.size ≤ 1048576) : Calls Tryz.prog 45 #[.string s, .string ⟨#[118]⟩] w (fun e w' =>
    ((s.data.toList.head? = some 118 ∧ e = .returned (.tuple #[.string (str s.data.toList.tail), .bool true])) ∨ (s.data.toList.head? ≠ some 118 ∧ e = .returned (.tuple #[.string s, .bool false]))) ∧ w = w') := by
  have HH := Lib.hid (fun W => Tryz.stringslite_HasPrefix s ⟨#[118]⟩ W)
  have hp : Lib.hasPrefix s.data.toList [118] = decide (s.data.toList.head? = some 118) := by
    cases s.data.toList with
    | nil => rfl
    | cons a t =>
      simp only [Lib.hasPrefix, List.isPrefixOf, List.head?_cons, Option.some.injEq, Bool.and_true]
      by_cases e : a = 118
      · subst e; rfl
      · rw [decide_eq_false e]; exact beq_eq_false_iff_ne.2 (fun h => e h.symm)
  rw [show (⟨#[118]⟩ : ByteArray).data.toList = [118] from rfl, hp] at HH
  by_cases hd : s.data.toList.head? = some 118
  · have H1 := Lib.hid hd
    rw [decide_eq_true hd] at HH
    have hsz : 1 ≤ s.size := by
      have hl : s.data.toList.length = s.size := by simp
      cases hc : s.data.toList with
      | nil => rw [hc] at hd; cases hd
      | cons a t => rw [hc] at hl; simp at hl; omega
    have HX := Lib.hid (show s.extract 1 s.size = str s.data.toList.tail by
      apply ByteArray.ext
      apply Array.ext'
      rw [Lib.extract_to_end]
      simp [str])
    clear hd hp
    go_enter Tryz.func45, Tryz.ntmps45
    go_wp2_with (go_at_call 64; go_in)
    refine (HH.out _).mono ?_
    rintro e w1 ⟨rfl, rfl⟩
    go_wp2
    go_ret2
    exact ⟨.inl ⟨H1.out, by rw [← HX.out]; rfl⟩, rfl⟩
  · have H1 := Lib.hid hd
    rw [decide_eq_false hd] at HH
    clear hd hp
    go_enter Tryz.func45, Tryz.ntmps45
    go_wp2_with (go_at_call 64; go_in)
    refine (HH.out _).mono ?_
    rintro e w1 ⟨rfl, rfl⟩
    go_wp2
    go_ret2
    exact ⟨.inr ⟨H1.out, rfl⟩, rfl⟩
theorem Rdr.below {W W' : World} {b C : Nat} {a : Option Addr} {n c kb nk : Nat} {D : DU} {v : Value} {ws : List ByteArray} {out : List El} (h : Rdr W b a n c kb nk D v ws out) (hb : Below C W W') (hC : b < C) (hv : ∀ k, v.ownBlock = some k → k < C) : Rdr W' b a n c kb nk D v ws out :=
  ⟨(hb.block b hC).trans h.blk, h.own.below hb hv, h.ne, h.len, h.cap, reads_low h.wrd h.low (hb.mono (by omega)), h.low, own_on h.kown (hb.block kb (by have := h.klow; omega)), h.klow⟩
theorem set6 {C g : Nat} {A w : World} (h : Below C A w) (hg : C ≤ g) (x0 x1 x2 x3 x4 x5 : Value) :
    Below C A ((((((w.setCell ⟨g, 0, none⟩ x0).setCell ⟨g, 1, none⟩ x1).setCell ⟨g, 2, none⟩ x2).setCell ⟨g, 3, none⟩ x3).setCell ⟨g, 4, none⟩ x4).setCell ⟨g, 5, none⟩ x5) :=
  (((((h.setCell (p := ⟨g, 0, none⟩) hg x0).setCell (p := ⟨g, 1, none⟩) hg x1).setCell (p := ⟨g, 2, none⟩) hg x2).setCell (p := ⟨g, 3, none⟩) hg x3).setCell (p := ⟨g, 4, none⟩) hg x4).setCell (p := ⟨g, 5, none⟩) hg x5
theorem resN_eq (t : SizeM.W) : NumParse.resN (NumParse.pU t) = .tuple #[.int .i64 (numV t), .bool (WordM.okV t)] := by
  unfold NumParse.resN numV WordM.okV
  cases NumParse.pU t <;> rfl
/-- What readWord leaves. -/
def IsWord (b : Nat) (c kb nk : Nat) (D : DU) (v : Value) (ws : List ByteArray) (out : List El) (W : World) (e : Ending) (W' : World) : Prop :=
  match ws with
  | [] => e = .returned (.tuple #[fv e0, .bool false]) ∧ Below W.heap.size W W'
  | s :: r => e = .returned (.tuple #[fv (readW s.data.toList).1, .bool (readW s.data.toList).2]) ∧ (∃ a', Rdr W' b a' r.length (c - 1) kb nk D v r out) ∧ Below b W W' ∧ W.heap.size ≤ W'.heap.size ∧ ∀ k, k < W.heap.size → k ≠ b → W'.heap[k]? = W.heap[k]?
set_option maxRecDepth 100000 in
set_option maxHeartbeats 8000000 in
theorem word_c (W : World) (b : Nat) (a : Option Addr) (n c kb nk : Nat) (D : DU) (v : Value) (ws : List ByteArray) (out : List El) (hK : KD D) (h : Rdr W b a n c kb nk D v ws out) (hs : ∀ s ∈ ws, s.size ≤ 600) (hn : ws.length ≤ 1000) (hv : ParseFI.Vars W) (hvb : ∀ W', Below b W W' → ParseFI.Vars W') :
    Calls Tryz.prog 32 #[.pointer (some ⟨b, 0, none⟩)] W (IsWord b c kb nk D v ws out W) := by
  have b0 : W.cell? ⟨b, 0, none⟩ = some (.slice a n c) := by simp [World.cell?, h.blk]
  have b1 : W.cell? ⟨b, 1, none⟩ = some (.map (some kb)) := by simp [World.cell?, h.blk]
  have b2 : W.cell? ⟨b, 2, none⟩ = some v := by simp [World.cell?, h.blk]
  have bl := h.lt
  have f0 : W.frozen? ⟨b, 0, none⟩ = false := frozen_of_row W b 0 _ _ h.blk
  have HR := Lib.hid h
  have HKD := Lib.hid hK
  have HV := Lib.hid hv
  have HVB := Lib.hid hvb
  cases ws with
  | nil =>
    obtain rfl : n = 0 := h.len.symm
    clear h hK hv hs hn hvb
    go_enter Tryz.func32, Tryz.ntmps32
    go_wp2
    refine bodyPost_ret (v := .tuple #[fv e0, .bool false]) (by simp [results, Tryz.results32, fv, e0, go_sem]) rfl ⟨rfl, ?_⟩
    (repeat (first | exact Below.refl _ _ | apply BelowKit.bl_alloc | apply BelowKit.bl_drewN | apply BelowKit.bl_drew | (refine BelowKit.bl_set ?_ _ ?_; rotate_left; (first | omega | (simp; omega) | simp)) | (refine BelowKit.bl_trans ?_ (‹Hid (Below _ _ _)›).out)))
  | cons s r =>
    obtain ⟨g, o, rfl, hg, q⟩ := h.wrd 0 (by simp)
    have q0 := q 0 (by omega)
    simp only [fB, Nat.zero_mul, Nat.add_zero, List.getElem?_cons_zero, List.getElem_cons_zero] at q0
    have hs6 := hs s (by simp)
    have hl := h.len
    rw [List.length_cons] at hl hn
    have hcap := h.cap
    have hgb : g ≠ b := by have := h.low g o rfl; omega
    have HT := Lib.hid (show ∀ (W' : World), Reads fB 1 W' (some ⟨g, o, none⟩) (s :: r) → Reads fB 1 W' (some ⟨g, o + 1, none⟩) r from fun W' h' j hj => by
      obtain ⟨g', o', e, hg', q'⟩ := h' (j + 1) (by simpa using hj)
      cases e
      refine ⟨g, o + 1, rfl, hg', fun i hi => ?_⟩
      rw [show o + 1 + j * 1 + i = o + (j + 1) * 1 + i by omega]
      exact q' i hi)
    have c1 : (0 : Int) ≤ 0 := Int.le_refl _
    have c2 : (1 : Int) ≤ (n : Int) := by omega
    have c3 : (n : Int) ≤ (c : Int) := by omega
    have HL := Lib.hid hl
    have HS6 := Lib.hid hs6
    clear h hK hv hs hvb q hl
    go_enter Tryz.func32, Tryz.ntmps32
    have HS := Lib.hid (fun (A : Option Addr) (k : Nat) (hA : ∀ g o, A = some ⟨g, o, none⟩ → g < b) (hk : r.length ≤ k) (hr : Reads fB 1 W A r) => HR.out.setWords (n' := r.length) (c' := k) (ws' := r) rfl hk hr hA)
    have HSE := Lib.hid (fun (x : Value) => (show Below b W (W.setCell ⟨b, 0, none⟩ x) ∧ (∀ k, k ≠ b → (W.setCell ⟨b, 0, none⟩ x).heap[k]? = W.heap[k]?) ∧ (W.setCell ⟨b, 0, none⟩ x).heap.size = W.heap.size from
      ⟨(Below.refl b W).setCell (p := ⟨b, 0, none⟩) (Nat.le_refl _) _, fun k hk => Below.heap_setCell _ _ _ _ hk, by simp⟩))
    have hcc : c = 1 ∨ c ≠ 1 := by omega
    rcases hcc with rfl | hcc
    case' inl =>
      have HR0 := Lib.hid (show r = [] from List.eq_nil_of_length_eq_zero (by have := HL.out; omega))
      have hrd := HS.out (some ⟨g, o, none⟩) 0 (fun g' o' e => by cases e; have := HR.out.low g o rfl; exact this) (by rw [HR0.out]; exact Nat.le_refl _) (by rw [HR0.out]; exact Reads.nil _ _)
      rw [show r.length = 0 by rw [HR0.out]; rfl] at hrd
      have HRD := Lib.hid (show ∃ A, Rdr (W.setCell ⟨b, 0, none⟩ (.slice (some ⟨g, o, none⟩) 0 0)) b A r.length (1 - 1) kb nk D v r out from ⟨_, by rw [show r.length = 0 by rw [HR0.out]; rfl]; exact hrd⟩)
      have HSE1 := Lib.hid (HSE.out (.slice (some ⟨g, o, none⟩) 0 0))
      clear HS HT HSE hrd
      go_upto_region 5 with fail
      obtain ⟨V, hV⟩ : ∃ V, W.setCell ⟨b, 0, none⟩ (.slice (some ⟨g, o, none⟩) 0 0) = V := ⟨_, rfl⟩
    case' inr =>
      have HRD := Lib.hid (show ∃ A, Rdr (W.setCell ⟨b, 0, none⟩ (.slice (some ⟨g, o + 1, none⟩) (n - 1) (c - 1))) b A r.length (c - 1) kb nk D v r out from ⟨_, by
        have := HS.out (some ⟨g, o + 1, none⟩) (c - 1) (fun g' o' e => by cases e; have := HR.out.low g o rfl; exact this) (by have := HL.out; omega) (HT.out W HR.out.wrd)
        rw [show n - 1 = r.length by have := HL.out; omega]
        exact this⟩)
      have HSE1 := Lib.hid (HSE.out (.slice (some ⟨g, o + 1, none⟩) (n - 1) (c - 1)))
      clear HS HT HSE
      go_upto_region 5 with fail
      obtain ⟨V, hV⟩ : ∃ V, W.setCell ⟨b, 0, none⟩ (.slice (some ⟨g, o + 1, none⟩) (n - 1) (c - 1)) = V := ⟨_, rfl⟩
    all_goals
      rw [hV] at HRD HSE1 ⊢
      clear hV b0 b1 b2 f0 q0 c1 c2 c3 hg hgb hn hs6
      obtain ⟨A, hrd⟩ := HRD.out
      have hvz : V.heap.size = W.heap.size := HSE1.out.2.2
      have hbv : Below V.heap.size V (V.alloc (.cells #[.int .i64 0, .int .i64 0, .int .i64 0, .int .i64 0, .int .i64 0, .int .i64 0] 46)) := by (repeat (first | exact Below.refl _ _ | apply BelowKit.bl_alloc | apply BelowKit.bl_drewN | apply BelowKit.bl_drew | (refine BelowKit.bl_set ?_ _ ?_; rotate_left; (first | omega | (simp; omega) | simp)) | (refine BelowKit.bl_trans ?_ (‹Hid (Below _ _ _)›).out)))
      have HR1 := Lib.hid (hrd.on hbv)
      have r0 : (V.alloc (.cells #[.int .i64 0, .int .i64 0, .int .i64 0, .int .i64 0, .int .i64 0, .int .i64 0] 46)).heap[W.heap.size]? = some (.cells #[.int .i64 0, .int .i64 0, .int .i64 0, .int .i64 0, .int .i64 0, .int .i64 0] 46 (0, 0)) := by rw [← hvz]; exact heap_alloc_new V _
      have HB1 := Lib.hid (show Below b W (V.alloc (.cells #[.int .i64 0, .int .i64 0, .int .i64 0, .int .i64 0, .int .i64 0, .int .i64 0] 46)) ∧ (∀ k, k < W.heap.size → k ≠ b → (V.alloc (.cells #[.int .i64 0, .int .i64 0, .int .i64 0, .int .i64 0, .int .i64 0, .int .i64 0] 46)).heap[k]? = W.heap[k]?) from
        ⟨HSE1.out.1.trans (hbv.mono (by omega)), fun k hk hkb => (hbv.block k (by omega)).trans (HSE1.out.2.1 k hkb)⟩)
      obtain ⟨W1, hW1⟩ : ∃ W1, V.alloc (.cells #[.int .i64 0, .int .i64 0, .int .i64 0, .int .i64 0, .int .i64 0, .int .i64 0] 46) = W1 := ⟨_, rfl⟩
      have hz1 : W.heap.size < W1.heap.size := by rw [← hW1]; simp; omega
      rw [hW1] at HR1 HB1 r0 ⊢
      clear hW1 hbv hrd HRD HSE1
      have b1 : W1.cell? ⟨b, 1, none⟩ = some (.map (some kb)) := by simp [World.cell?, HR1.out.blk]
      obtain ⟨l, hl⟩ : ∃ l, s.data.toList = l := ⟨_, rfl⟩
      have hlk := lookK HR1.out.kown HKD.out s l hl (by have := HS6.out; omega)
      have HLL := Lib.hid hl
      have r_0 : W1.cell? ⟨W.heap.size, 0, none⟩ = some (.int .i64 0) := by simp [World.cell?, r0]
      have r_1 : W1.cell? ⟨W.heap.size, 1, none⟩ = some (.int .i64 0) := by simp [World.cell?, r0]
      have r_2 : W1.cell? ⟨W.heap.size, 2, none⟩ = some (.int .i64 0) := by simp [World.cell?, r0]
      have r_3 : W1.cell? ⟨W.heap.size, 3, none⟩ = some (.int .i64 0) := by simp [World.cell?, r0]
      have r_4 : W1.cell? ⟨W.heap.size, 4, none⟩ = some (.int .i64 0) := by simp [World.cell?, r0]
      have r_5 : W1.cell? ⟨W.heap.size, 5, none⟩ = some (.int .i64 0) := by simp [World.cell?, r0]
      have f_0 : W1.frozen? ⟨W.heap.size, 0, none⟩ = false := frozen_of_row W1 _ 0 _ _ r0
      have f_1 : W1.frozen? ⟨W.heap.size, 1, none⟩ = false := frozen_of_row W1 _ 1 _ _ r0
      have f_2 : W1.frozen? ⟨W.heap.size, 2, none⟩ = false := frozen_of_row W1 _ 2 _ _ r0
      have f_3 : W1.frozen? ⟨W.heap.size, 3, none⟩ = false := frozen_of_row W1 _ 3 _ _ r0
      have f_4 : W1.frozen? ⟨W.heap.size, 4, none⟩ = false := frozen_of_row W1 _ 4 _ _ r0
      have f_5 : W1.frozen? ⟨W.heap.size, 5, none⟩ = false := frozen_of_row W1 _ 5 _ _ r0
      have HVL := Lib.hid HR.out.own.lt
      have HEND := Lib.hid (fun (W2 : World) (h2 : Below W.heap.size W1 W2) => (show (∃ a', Rdr W2 b a' r.length _ kb nk D v r out) ∧ Below b W W2 ∧ W.heap.size ≤ W2.heap.size ∧ ∀ k, k < W.heap.size → k ≠ b → W2.heap[k]? = W.heap[k]? from
        ⟨⟨A, HR1.out.below h2 bl HVL.out⟩, HB1.out.1.trans (h2.mono (by omega)), by have := h2.size; omega, fun k hk hkb => (h2.block k hk).trans (HB1.out.2 k hk hkb)⟩))
      clear r0 hl hvz
      obtain ⟨K, hK⟩ : ∃ K, kindOf l = K := ⟨_, rfl⟩
      rw [hK] at hlk
      by_cases hk0 : K = 0
      case neg =>
        have E := Lib.hid (show readW l = (⟨K, 0, 0, 0, 0, 0⟩, true) by unfold readW; rw [hK, if_pos hk0])
        rw [decide_eq_true hk0] at hlk
        clear hk0 hK
        go_wp2
        refine bodyPost_ret (v := .tuple #[.agg #[.int .i64 K, .int .i64 0, .int .i64 0, .int .i64 0, .int .i64 0, .int .i64 0], .bool true]) (by simp [results, Tryz.results32, r_0, r_1, r_2, r_3, r_4, r_5, go_sem]) rfl ⟨?_, HEND.out _ (set6 (Below.refl _ _) (Nat.le_refl _) _ _ _ _ _ _)⟩
        rw [HLL.out, E.out]
        rfl
      case pos =>
        subst hk0
        rw [decide_eq_false (by simp)] at hlk
        have HCP := Lib.hid (fun W => cutp_c s W (by have := HS6.out; omega))
        rw [HLL.out] at HCP
        go_wp2_with fail
        refine (HCP.out _).mono ?_
        rintro e w2 ⟨hcase, rfl⟩
        clear HCP hlk b1
        rcases hcase with ⟨hh, rfl⟩ | ⟨hh, rfl⟩
        · obtain ⟨t, ht⟩ : ∃ t, l.tail = t := ⟨_, rfl⟩
          have htl : t.length ≤ 600 := by
            have h1 : s.data.toList.length = s.size := by simp
            rw [HLL.out] at h1
            rw [← ht, List.length_tail]
            have := HS6.out
            omega
          have HPU := Lib.hid (fun W => NumWalksI.impl_pu (str t) W (by rw [str_size]; omega))
          rw [ParseFI.str_list, resN_eq] at HPU
          obtain ⟨nv, hnv⟩ : ∃ n, numV t = n := ⟨_, rfl⟩
          obtain ⟨ov, hov⟩ : ∃ o, WordM.okV t = o := ⟨_, rfl⟩
          have E := Lib.hid (show readW l = (⟨2, nv, 0, 0, 0, 0⟩, ov && decide (nv < 8)) by unfold readW okW; rw [hK, if_neg (by simp), if_pos hh, ht, hnv, hov])
          rw [ht]
          rw [hnv, hov] at HPU
          clear hh ht hnv hov hK htl
          go_wp2_with fail
          refine (HPU.out _).mono ?_
          rintro e w3 ⟨rfl, rfl⟩
          clear HPU
          cases ov with
          | false =>
            go_wp2
            refine bodyPost_ret (v := .tuple #[.agg #[.int .i64 2, .int .i64 nv, .int .i64 0, .int .i64 0, .int .i64 0, .int .i64 0], .bool false]) (by simp [results, Tryz.results32, r_0, r_1, r_2, r_3, r_4, r_5, go_sem]) rfl ⟨?_, HEND.out _ (set6 (Below.refl _ _) (Nat.le_refl _) _ _ _ _ _ _)⟩
            rw [HLL.out, E.out]
            rfl
          | true =>
            obtain ⟨d, hd⟩ : ∃ d, decide (nv < 8) = d := ⟨_, rfl⟩
            rw [hd] at E
            cases d with
            | false =>
              go_wp2
              refine bodyPost_ret (v := .tuple #[.agg #[.int .i64 2, .int .i64 nv, .int .i64 0, .int .i64 0, .int .i64 0, .int .i64 0], .bool false]) (by simp [results, Tryz.results32, r_0, r_1, r_2, r_3, r_4, r_5, go_sem]) rfl ⟨?_, HEND.out _ (set6 (Below.refl _ _) (Nat.le_refl _) _ _ _ _ _ _)⟩
              rw [HLL.out, E.out]
              rfl
            | true =>
              go_wp2
              refine bodyPost_ret (v := .tuple #[.agg #[.int .i64 2, .int .i64 nv, .int .i64 0, .int .i64 0, .int .i64 0, .int .i64 0], .bool true]) (by simp [results, Tryz.results32, r_0, r_1, r_2, r_3, r_4, r_5, go_sem]) rfl ⟨?_, HEND.out _ (set6 (Below.refl _ _) (Nat.le_refl _) _ _ _ _ _ _)⟩
              rw [HLL.out, E.out]
              rfl
        · obtain ⟨⟨x1, x2, ok⟩, hx⟩ : ∃ x, FracTxM.parseT l = x := ⟨_, rfl⟩
          have E := Lib.hid (show readW l = (⟨1, 0, 0, 0, x1, x2⟩, ok) by unfold readW; rw [hK, if_neg (by simp), if_neg hh, hx])
          have HPF := Lib.hid (fun W hW => ParseFI.parse_i s W (by have := HS6.out; omega) hW)
          rw [HLL.out, hx] at HPF
          clear hh hx hK
          go_wp2_with fail
          refine (HPF.out _ (HVB.out _ HB1.out.1)).mono ?_
          rintro e w3 ⟨rfl, hb3⟩
          have q_0 := ((BelowKit.bcell hb3).1 _ _ hz1).trans r_0
          have q_1 := ((BelowKit.bcell hb3).1 _ _ hz1).trans r_1
          have q_2 := ((BelowKit.bcell hb3).1 _ _ hz1).trans r_2
          have q_3 := ((BelowKit.bcell hb3).1 _ _ hz1).trans r_3
          have q_4 := ((BelowKit.bcell hb3).1 _ _ hz1).trans r_4
          have q_5 := ((BelowKit.bcell hb3).1 _ _ hz1).trans r_5
          have g_0 := ((BelowKit.bcell hb3).2 _ _ hz1).trans f_0
          have g_1 := ((BelowKit.bcell hb3).2 _ _ hz1).trans f_1
          have g_2 := ((BelowKit.bcell hb3).2 _ _ hz1).trans f_2
          have g_3 := ((BelowKit.bcell hb3).2 _ _ hz1).trans f_3
          have g_4 := ((BelowKit.bcell hb3).2 _ _ hz1).trans f_4
          have g_5 := ((BelowKit.bcell hb3).2 _ _ hz1).trans f_5
          have hz3 := Nat.lt_of_lt_of_le hz1 hb3.size
          have HB3 := Lib.hid (hb3.mono (Nat.le_of_lt hz1))
          clear r_0 r_1 r_2 r_3 r_4 r_5 f_0 f_1 f_2 f_3 f_4 f_5 hb3 HPF hz1
          go_upto_region 13 with fail
          have hb4 : Below w3.heap.size w3 (w3.alloc (.cells #[.int .i64 x1, .int .i64 x2] 33)) := by (repeat (first | exact Below.refl _ _ | apply BelowKit.bl_alloc | apply BelowKit.bl_drewN | apply BelowKit.bl_drew | (refine BelowKit.bl_set ?_ _ ?_; rotate_left; (first | omega | (simp; omega) | simp)) | (refine BelowKit.bl_trans ?_ (‹Hid (Below _ _ _)›).out)))
          have n0 : (w3.alloc (.cells #[.int .i64 x1, .int .i64 x2] 33)).cell? ⟨w3.heap.size, 0, none⟩ = some (.int .i64 x1) := by simp [go_sem]
          have n1 : (w3.alloc (.cells #[.int .i64 x1, .int .i64 x2] 33)).cell? ⟨w3.heap.size, 1, none⟩ = some (.int .i64 x2) := by simp [go_sem]
          obtain ⟨w4, hw4⟩ : ∃ w4, w3.alloc (.cells #[.int .i64 x1, .int .i64 x2] 33) = w4 := ⟨_, rfl⟩
          rw [hw4] at hb4 n0 n1 ⊢
          have r_0 := ((BelowKit.bcell hb4).1 _ _ hz3).trans q_0
          have r_1 := ((BelowKit.bcell hb4).1 _ _ hz3).trans q_1
          have r_2 := ((BelowKit.bcell hb4).1 _ _ hz3).trans q_2
          have r_3 := ((BelowKit.bcell hb4).1 _ _ hz3).trans q_3
          have r_4 := ((BelowKit.bcell hb4).1 _ _ hz3).trans q_4
          have r_5 := ((BelowKit.bcell hb4).1 _ _ hz3).trans q_5
          have f_0 := ((BelowKit.bcell hb4).2 _ _ hz3).trans g_0
          have f_1 := ((BelowKit.bcell hb4).2 _ _ hz3).trans g_1
          have f_2 := ((BelowKit.bcell hb4).2 _ _ hz3).trans g_2
          have f_3 := ((BelowKit.bcell hb4).2 _ _ hz3).trans g_3
          have f_4 := ((BelowKit.bcell hb4).2 _ _ hz3).trans g_4
          have f_5 := ((BelowKit.bcell hb4).2 _ _ hz3).trans g_5
          have HB4 := Lib.hid (HB3.out.trans (hb4.mono (Nat.le_of_lt hz3)))
          obtain ⟨gx, hgx⟩ : ∃ g, w3.heap.size = g := ⟨_, rfl⟩
          rw [hgx] at n0 n1 hz3 ⊢
          clear hw4 hb4 hgx q_0 q_1 q_2 q_3 q_4 q_5 g_0 g_1 g_2 g_3 g_4 g_5
          go_wp2
          refine bodyPost_ret (v := .tuple #[.agg #[.int .i64 1, .int .i64 0, .int .i64 0, .int .i64 0, .int .i64 x1, .int .i64 x2], .bool ok]) (by simp [results, Tryz.results32, r_0, r_1, r_2, r_3, r_4, r_5, go_sem]) rfl ⟨?_, HEND.out _ (set6 HB4.out (Nat.le_refl _) _ _ _ _ _ _)⟩
          rw [HLL.out, E.out]
          rfl
end Go.Proofs.YtiogpiopgcbdbaaGreatDoor.ReadI
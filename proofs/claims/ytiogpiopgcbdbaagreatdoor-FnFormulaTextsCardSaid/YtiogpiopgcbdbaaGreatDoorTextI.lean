/- Contracts of the program's appendWords and FormatFormula. -/
import Derived.Test.YtiogpiopgcbdbaaGreatDoorRows
import Derived.Test.YtiogpiopgcbdbaaGreatDoorOpsI
import Derived.Test.YtiogpiopgcbdbaaGreatDoorWordI
import Derived.Test.YtiogpiopgcbdbaaGreatDoorSizeI
import Derived.Lib.Join
namespace Go.Proofs.YtiogpiopgcbdbaaGreatDoor.TextI
open Go.RowKit RowN TNode NodeMath SizeM OpsM OpsI FracTxM FracTxS StepI
def fS (x : W) : List Value := [.string (str x)]
theorem fwS : Wide fS 1 := ⟨fun _ => rfl, by rintro x v hv; simp only [fS, List.mem_cons, List.not_mem_nil, or_false] at hv; subst hv; rfl, by omega⟩
theorem ftS : ElT Tryz.prog 41 9 (.string ⟨#[]⟩) 1 16 := ⟨Tryz.underlying41, by kernel_rfl, by omega, rfl⟩
theorem newS (w : World) (x : W) (g : Nat) (hg : w.heap.size = g) : ∀ j u, ([x].flatMap fS)[j]? = some u → (w.alloc (.cells #[.string (str x)] 9)).cell? ((⟨g, 0, none⟩ : Addr).add j) = some u := by
  subst hg
  exact news_block (T := 9) (heap_alloc_new w _)
/-- The list's nodes lie below B, whatever happens from there on. -/
def Fix (B : Nat) (w : World) (p : Option Addr) (l : List El) : Prop := ∀ w', Below B w w' → Reads fc 6 w' p l
def IsApp (B : Nat) (v : Value) (ws : List W) (w : World) (e : Ending) (w' : World) : Prop := ∃ v', e = .returned v' ∧ Owns fS 1 w' B 9 v' ws ∧ Gr w w' v v'
theorem kind_A {l : List El} (hl : OkF l) {k : Nat} (h : k < l.length) : l[k].Kind = 2 → 0 ≤ l[k].A ∧ l[k].A ≤ 7 := by
  intro h2
  rcases okN_of (hl.2 k h) with h1 | ⟨_, _, h1 | h1 | h1⟩
  · have := h1.1; omega
  · have := h1.2; omega
  · have := h1.1; omega
  · have := h1.1; omega
theorem from_succ (l : List El) (os : List Int) (i : Nat) (h : i < os.length) : wordsFrom l (os.take (i + 1)) = wordsFrom l (os.take i) ++ words l os[i].toNat := by
  unfold wordsFrom
  rw [List.take_succ_eq_append_getElem h, List.flatMap_append]
  simp
theorem from_len (l : List El) (os : List Int) (i : Nat) (h : i < os.length) : (wordsFrom l (os.take i)).length + (words l os[i].toNat).length ≤ (wordsFrom l os).length := by
  have e : wordsFrom l os = wordsFrom l (os.take (i + 1)) ++ wordsFrom l (os.drop (i + 1)) := by
    unfold wordsFrom
    rw [← List.flatMap_append, List.take_append_drop]
  rw [e, from_succ l os i h]
  simp only [List.length_append]
  omega
theorem Fix.on {B : Nat} {w w' : World} {p : Option Addr} {l : List El} (h : Fix B w p l) (hb : Below B w w') : Fix B w' p l := fun w2 h2 => h w2 (hb.trans h2)
theorem tab_on {B : Nat} {w w' : World} (h : ItoaC.Tab w) (hb : Below B w w') (hB : 3 < B) : ItoaC.Tab w' := var?_below hb ItoaC.gTab hB h
set_option maxHeartbeats 8000000 in
set_option maxRecDepth 100000 in
theorem append_i (l : List El) (p : Option Addr) (m cap : Nat) (hl : OkF l) (hm : l.length = m) : ∀ (f k : Nat), k < f → k < m → ∀ (w : World) (B : Nat) (v : Value) (ws : List W), B ≤ w.heap.size → Owns fS 1 w B 9 v ws → ws.length + (words l k).length ≤ 1000000 → Fix B w p l → ItoaC.Tab w → 3 < B →
    Calls Tryz.prog 14 #[v, .slice p m cap, .int .i64 (k : Int)] w (IsApp B v (ws ++ words l k) w) := by
  intro f
  induction f with
  | zero => intro k h; omega
  | succ f ih =>
    intro k hf hk w B v ws hB ho hlen hfix htab htb
    have HIH := Lib.hid ih
    have HM := Lib.hid hm
    have HLK := Lib.hid (show k < l.length by rw [hm]; exact hk)
    have HW := Lib.hid (words_ops hl HLK.out)
    have HO := Lib.hid ho
    have HFX := Lib.hid hfix
    have HT := Lib.hid htab
    have HKD := Lib.hid (kind_at hl HLK.out)
    have HKA := Lib.hid (kind_A hl HLK.out)
    have HOP := Lib.hid (ok_ops hl HLK.out)
    obtain ⟨a', c', rfl, _⟩ := ho.form fwS
    obtain ⟨g, o, rfl, hgl, q0, q1, q2, q3, q4, q5⟩ := read (hfix w (Below.refl _ _)) k HLK.out
    have HLN := Lib.hid hlen
    have b1 : (0 : Int) ≤ (k : Int) := by omega
    have b2 : (k : Int) < (m : Int) := by omega
    rw [HW.out]
    generalize (l[k]'HLK.out) = x at q0 q1 q2 q3 q4 q5 HKD HKA HOP HW
    clear ih hm ho hfix htab hlen
    go_enter Tryz.func14, Tryz.ntmps14
    go_wp2_with fail
    refine (WordI.word_i _ x HKD.out HKA.out (ItoaC.tab_below HT.out (by (repeat (first | exact Below.refl _ _ | apply BelowKit.bl_alloc | apply BelowKit.bl_drewN | apply BelowKit.bl_drew | (refine BelowKit.bl_set ?_ _ ?_; rotate_left; (first | omega | (simp; omega) | simp)) | (refine BelowKit.bl_trans ?_ (‹Hid (Below _ _ _)›).out)))))).mono ?_
    rintro e w2 ⟨rfl, hb⟩
    have hbw : Below w.heap.size w w2 := BelowKit.bl_trans (by (repeat (first | exact Below.refl _ _ | apply BelowKit.bl_alloc | apply BelowKit.bl_drewN | apply BelowKit.bl_drew | (refine BelowKit.bl_set ?_ _ ?_; rotate_left; (first | omega | (simp; omega) | simp)) | (refine BelowKit.bl_trans ?_ (‹Hid (Below _ _ _)›).out)))) hb
    have n0 : w2.cell? ⟨w.heap.size, 0, none⟩ = some (.int .i64 x.Kind) := ((BelowKit.bcell hb).1 _ _ (by simp)).trans (by simp [go_sem])
    have n1 : w2.cell? ⟨w.heap.size, 1, none⟩ = some (.int .i64 x.A) := ((BelowKit.bcell hb).1 _ _ (by simp)).trans (by simp [go_sem])
    have n2 : w2.cell? ⟨w.heap.size, 2, none⟩ = some (.int .i64 x.B) := ((BelowKit.bcell hb).1 _ _ (by simp)).trans (by simp [go_sem])
    have n3 : w2.cell? ⟨w.heap.size, 3, none⟩ = some (.int .i64 x.C) := ((BelowKit.bcell hb).1 _ _ (by simp)).trans (by simp [go_sem])
    have n4 : w2.cell? ⟨w.heap.size, 4, none⟩ = some (.int .i64 x.Value_Num) := ((BelowKit.bcell hb).1 _ _ (by simp)).trans (by simp [go_sem])
    have n5 : w2.cell? ⟨w.heap.size, 5, none⟩ = some (.int .i64 x.Value_Den) := ((BelowKit.bcell hb).1 _ _ (by simp)).trans (by simp [go_sem])
    have nz : w.heap.size < w2.heap.size := by have := hb.size; simp at this; omega
    have HB2 := Lib.hid hbw
    have HO2 := Lib.hid (HO.out.on hbw)
    have HLT := Lib.hid HO.out.lt
    obtain ⟨wd, hwd⟩ : ∃ wd, wordW x = wd := ⟨_, rfl⟩
    rw [hwd] at HW ⊢
    have HWD := Lib.hid hwd
    obtain ⟨gb, hgb⟩ : ∃ gb, w.heap.size = gb := ⟨_, rfl⟩
    rw [hgb] at n0 n1 n2 n3 n4 n5 nz ⊢
    have hln := HLN.out
    rw [HW.out, List.length_cons] at hln
    have HLN := Lib.hid hln
    clear hb hbw q0 q1 q2 q3 q4 q5 hwd hln
    go_wp2_with (at_builtin; refine Fresh.pause ?_)
    refine ⟨?_⟩
    refine wpList_appendN ftS fwS _ (o := ⟨some 18, _, _, _, _, _⟩) rfl (.tmp 14) (.tmp 17) rfl B _ ws rfl (HO2.out.alloc _) ⟨w2.heap.size, 0, none⟩ 1 1 [wd] (by simp) rfl (newS _ _ _ rfl) ?_ ?_ ?_
    · have := HLN.out; simp; omega
    · have := HB2.out.size; simp; omega
    intro v1 w3 hown3 hg3 hat3
    have hbA : Below w2.heap.size w2 (w2.alloc (.cells #[.string (str wd)] 9)) := by (repeat (first | exact Below.refl _ _ | apply BelowKit.bl_alloc | apply BelowKit.bl_drewN | apply BelowKit.bl_drew | (refine BelowKit.bl_set ?_ _ ?_; rotate_left; (first | omega | (simp; omega) | simp)) | (refine BelowKit.bl_trans ?_ (‹Hid (Below _ _ _)›).out)))
    have hneB : ∀ k, (Value.slice a' ws.length c').ownBlock = some k → k < gb := fun k hk => by have := HLT.out k hk; omega
    have hrow : some gb ≠ (Value.slice a' ws.length c').ownBlock := fun e => by have := hneB gb e.symm; omega
    have c0 := hg3.cell (((BelowKit.bcell hbA).1 _ _ nz).trans n0) hrow
    have c1 := hg3.cell (((BelowKit.bcell hbA).1 _ _ nz).trans n1) hrow
    have c2 := hg3.cell (((BelowKit.bcell hbA).1 _ _ nz).trans n2) hrow
    have c3 := hg3.cell (((BelowKit.bcell hbA).1 _ _ nz).trans n3) hrow
    have c4 := hg3.cell (((BelowKit.bcell hbA).1 _ _ nz).trans n4) hrow
    have c5 := hg3.cell (((BelowKit.bcell hbA).1 _ _ nz).trans n5) hrow
    have cz : gb < w3.heap.size := by have := hg3.size; simp at this; omega
    have HG3 := Lib.hid (Gr.trans (Gr.of_below (.slice a' ws.length c') (BelowKit.bl_trans HB2.out hbA)) ⟨hg3, hat3⟩)
    have HO3 := Lib.hid hown3
    obtain ⟨a1, k1, rfl, _⟩ := hown3.form fwS
    rw [List.length_append, List.length_singleton] at HO3 HG3 ⊢
    clear hbA hneB hrow hg3 hat3 hown3 n0 n1 n2 n3 n4 n5 nz HO2 HB2
    go_wp2_with fail
    refine (step_i _ x).mono ?_
    rintro e w4 ⟨rfl, hb⟩
    have HB4 := Lib.hid hb
    clear hb c0 c1 c2 c3 c4 c5 cz
    go_wp2_with fail
    refine (opsN_i _ x HKD.out).mono ?_
    rintro e w5 ⟨q, rfl, hr, hb, hq⟩
    have hb35 : Below w3.heap.size w3 w5 := BelowKit.bl_trans HB4.out hb
    have HG5 := Lib.hid (HG3.out.trans (Gr.of_below _ hb35))
    have HO5 := Lib.hid (HO3.out.on hb35)
    have HQ := Lib.hid (fun g o (h : q = some ⟨g, o, none⟩) => (show (Value.slice a1 (ws.length + 1) k1).ownBlock ≠ some g from fun e => by have h1 := hq g o h; have h2 := HO3.out.lt g e; have h3 := HB4.out.size; omega))
    obtain ⟨os, hos⟩ : ∃ os, opsL x = os := ⟨_, rfl⟩
    rw [hos] at hr HOP HW HLN ⊢
    obtain ⟨nn, hnn⟩ : ∃ n, os.length = n := ⟨_, rfl⟩
    rw [hnn]
    have HN := Lib.hid hnn
    have hn3 : nn ≤ 3 := by rw [← hnn, ← hos]; exact ops_len x
    have HOS := Lib.hid hos
    have HR := Lib.hid hr
    clear hb hr hq hos hnn hb35 HG3 HO3 HB4
    go_wp2
    go_loopw [0, 23] (fun v t wr => ∃ (i : Nat), i ≤ nn ∧ t = .int .i64 (i : Int) ∧ Hid (Owns fS 1 wr B 9 v (ws ++ [wd] ++ wordsFrom l (os.take i))) ∧ Hid (Gr w5 wr (.slice a1 (ws.length + 1) k1) v)) (fun _ t _ => nn - (intOf t).toNat)
    case atStart => exact ⟨0, Nat.zero_le _, rfl, Lib.hid (by rw [List.take_zero]; show Owns fS 1 _ B _ _ (ws ++ [wd] ++ []); rw [List.append_nil]; exact HO5.out), Lib.hid (Gr.refl _ _)⟩
    case round =>
      obtain ⟨i, hi, rfl, HO6, HG6⟩ := hrel
      rename Value => v6
      have HR6 := Lib.hid (HG6.out.reads HR.out HQ.out)
      obtain ⟨a6, k6, rfl, _⟩ := HO6.out.form fwS
      obtain ⟨W6, hW6⟩ : ∃ W, ws ++ [wd] ++ wordsFrom l (os.take i) = W := ⟨_, rfl⟩
      rw [hW6] at HO6 HG6 ⊢
      obtain ⟨n6, hn6⟩ : ∃ n, W6.length = n := ⟨_, rfl⟩
      rw [hn6] at HO6 HG6 ⊢
      have HW6 := Lib.hid hW6
      have HN6 := Lib.hid (show n6 = ws.length + 1 + (wordsFrom l (os.take i)).length by rw [← hn6, ← hW6]; simp; omega)
      have HL6 := Lib.hid hn6
      clear hW6 hn6
      by_cases hin : i < nn
      · have HIN := Lib.hid (show i < os.length by rw [HN.out]; exact hin)
        obtain ⟨gq, oq, rfl, hgq, x0⟩ := ops_at HR6.out i HIN.out
        have ho := HOP.out _ (List.getElem_mem HIN.out)
        have HFS := Lib.hid (from_succ l os i HIN.out)
        have HFL := Lib.hid (from_len l os i HIN.out)
        generalize (os[i]'HIN.out) = ov at x0 ho HFS HFL
        obtain ⟨io, rfl⟩ : ∃ i : Nat, ov = (i : Int) := ⟨ov.toNat, by omega⟩
        rw [Int.toNat_natCast] at ho HFS HFL
        have b5 : (0 : Int) ≤ (i : Int) := by omega
        have b6 : (i : Int) < (nn : Int) := by omega
        have HGA := Lib.hid (HG5.out.trans HG6.out)
        have HBA := Lib.hid (HGA.out.below hB (fun k hk => HO.out.low k hk))
        have HC := Lib.hid (HIH.out io (by omega) (by omega) wr B _ _ (by have := HBA.out.size; omega) HO6.out (by have h1 := HLN.out; have h2 := HFL.out; have h3 := HN6.out; have h4 := HL6.out; omega) (HFX.out.on HBA.out) (tab_on HT.out HBA.out htb) htb)
        clear ho
        go_wp2_with fail
        refine HC.out.mono ?_
        rintro e w7 ⟨v7, rfl, ho7, hg7⟩
        have HO7 := Lib.hid ho7
        have HG7 := Lib.hid (HG6.out.trans hg7)
        rw [← HW6.out, List.append_assoc, ← HFS.out] at HO7
        clear ho7 hg7 HC
        go_wp2
        go_roundw
        case rel => exact ⟨i + 1, by omega, by go_num, HO7, HG7⟩
        case measure => simp [intOf]; omega
      · obtain rfl : i = nn := by omega
        have HOE := Lib.hid HO6.out
        rw [← HW6.out, List.take_of_length_le (by rw [HN.out]; exact Nat.le_refl _), List.append_assoc] at HOE
        go_wp2
        go_ret
        refine ⟨_, rfl, ?_, HG5.out.trans HG6.out⟩
        rw [HWD.out, HOS.out]
        exact HOE.out
theorem join_eq : ∀ ws : List W, Lib.join ws [32] = joinW ws
  | [] => rfl
  | [x] => Lib.join_one x [32]
  | x :: y :: r => by
    have ih := join_eq (y :: r)
    rw [Lib.join_cons] at ih ⊢
    have e : Lib.joinTail [32] (y :: r) = [32] ++ (y ++ Lib.joinTail [32] r) := by simp [Lib.joinTail]
    rw [e, ih]
    rfl
theorem map_str (ws : List W) : (ws.map str).map (fun s => s.data.toList) = ws := by
  rw [List.map_map]
  conv => rhs; rw [← List.map_id ws]
  apply List.map_congr_left
  intro x _
  simp [str]
theorem join_c (w : World) (B : Nat) (v : Value) (ws : List W) (ho : Owns fS 1 w B 9 v ws) (hne : ws ≠ []) (hl : ws.length ≤ 1000000) (hj : (joinW ws).length ≤ 140737488355328) :
    Calls Tryz.prog 13 #[v, .string ⟨#[32]⟩] w (IsStr (joinW ws) w) := by
  have hpos := List.length_pos_iff.2 hne
  rcases ho.2 with ⟨_, h0⟩ | ⟨g, cap, cur, rfl, hbg, hg, hnc, hcm, hcs, htake⟩
  · omega
  · have hm := map_str ws
    have hln : (ws.map str).length = ws.length := by simp
    have H := Tryz.strings_Join g 0 cap (ws.map str) ⟨#[32]⟩ w (fun j x hx => by
      obtain ⟨hj', rfl⟩ := List.getElem?_eq_some_iff.1 hx
      rw [List.length_map] at hj'
      have := (ho.cell fwS j hj' 0 (by omega)).1
      simp only [fS, Nat.mul_one, Nat.add_zero, List.getElem?_cons_zero] at this
      rw [Nat.zero_add, this, List.getElem_map]) (Array.getElem?_eq_some_iff.1 hg).1 (by rw [hln]; omega) (by rw [hln]; exact hnc) (by rw [hm, show (⟨#[32]⟩ : ByteArray).data.toList = [32] from rfl, join_eq]; exact hj)
    rw [hm, hln, show (⟨#[32]⟩ : ByteArray).data.toList = [32] from rfl, join_eq] at H
    exact H
set_option maxHeartbeats 2000000 in
set_option maxRecDepth 100000 in
theorem formula_i (w : World) (p : Option Addr) (m cap : Nat) (l : List El) (hm : l.length = m) (hs : m ≤ 1099511627776) (h : Reads fc 6 w p l) (htab : ItoaC.Tab w) :
    Calls Tryz.prog 6 #[.slice p m cap] w (IsStr (textF l) w) := by
  have KK := Lib.hid h
  have HM := Lib.hid hm
  have HT := Lib.hid htab
  obtain ⟨b1, e1⟩ : ∃ b, okF l = b := ⟨_, rfl⟩
  obtain ⟨z, hz⟩ : ∃ z, sizeF l = z := ⟨_, rfl⟩
  have HZ := Lib.hid hz
  clear h hm htab
  go_enter Tryz.func6, Tryz.ntmps6
  go_wp2_with fail
  refine (SizeI.size_i _ p m cap l HM.out hs KK.out).mono ?_
  rintro e w1 ⟨rfl, hb⟩
  rw [HZ.out]
  have HB1 := Lib.hid hb
  clear hb
  cases b1 with
  | false =>
    have E := Lib.hid (show textF l = [] by unfold textF; rw [if_neg (by rw [e1]; simp)])
    have h0 : z = 0 := by rw [← hz]; unfold sizeF; rw [e1, if_neg Bool.false_ne_true]
    subst h0
    clear e1 hz
    go_wp2
    go_ret
    rw [E.out]
    exact ⟨rfl, HB1.out⟩
  | true =>
  have HF := Lib.hid (okF_of e1)
  have hz' : z = sz l (m - 1) := by rw [← hz]; unfold sizeF; rw [e1, if_pos rfl, HM.out]
  have hm1 : 1 ≤ m := by have := HF.out.1.1; have := HM.out; omega
  have hp := words_pos (l := l) (k := m - 1) (by rw [HM.out]; omega)
  unfold sz at hz'
  have d0 : (z == 0) = false := beq_eq_false_iff_ne.2 (by omega)
  by_cases h24 : (words l (m - 1)).length ≤ 24
  case neg =>
    have E := Lib.hid (show textF l = [] by unfold textF; rw [HM.out, if_neg (fun h => h24 h.2)])
    have d1 : decide ((24 : Int) < z) = true := decide_eq_true (by omega)
    clear e1 hz hz' hp h24
    go_wp2
    go_ret
    rw [E.out]
    exact ⟨rfl, HB1.out⟩
  case pos =>
    have E := Lib.hid (show textF l = joinW (words l (m - 1)) by unfold textF; rw [HM.out, if_pos ⟨e1, h24⟩])
    have d1 : decide ((24 : Int) < z) = false := decide_eq_false (by omega)
    obtain ⟨k0, rfl⟩ : ∃ k, m = k + 1 := ⟨m - 1, by omega⟩
    rw [Nat.add_sub_cancel] at E h24 hp
    have htl : 3 < w1.heap.size := Nat.lt_of_lt_of_le (ItoaC.tab_lt HT.out) HB1.out.size
    have HC := Lib.hid (append_i l p (k0 + 1) cap HF.out HM.out (k0 + 1) k0 (by omega) (by omega) w1 w1.heap.size (.slice none 0 0) [] (Nat.le_refl _) (Owns.nil _ _ _) (by simp; omega) (fun w' hw => (KK.out.on HB1.out).on hw) (ItoaC.tab_below HT.out HB1.out) htl)
    rw [List.nil_append] at HC
    have HJ := Lib.hid (fun W B v (ho : Owns fS 1 W B 9 v (words l k0)) => join_c W B v (words l k0) ho (List.length_pos_iff.1 (by omega)) (by omega) (by have := text_len HF.out h24; omega))
    obtain ⟨M, hMM⟩ : ∃ M, k0 + 1 = M := ⟨_, rfl⟩
    rw [hMM] at HC ⊢
    have W1 : IntKind.i64.wrap ((M : Int) - 1) = (k0 : Int) := by rw [IntWalk.i64_in _ (by omega)]; omega
    clear e1 hz hz' hp h24 hMM hm1
    go_wp2_with fail
    refine HC.out.mono ?_
    rintro e w2 ⟨v2, rfl, ho2, hg2⟩
    have HB2 := Lib.hid (BelowKit.bl_trans HB1.out (hg2.below (Nat.le_refl _) (fun k hk => by cases hk)))
    have HO2 := Lib.hid ho2
    clear ho2 hg2
    go_wp2_with fail
    refine (HJ.out _ _ _ HO2.out).mono ?_
    rintro e w3 ⟨rfl, hb⟩
    have HB3 := Lib.hid (BelowKit.bl_trans HB2.out hb)
    clear hb
    go_wp2
    go_ret
    rw [E.out]
    exact ⟨rfl, HB3.out⟩
end Go.Proofs.YtiogpiopgcbdbaaGreatDoor.TextI

/- Contract of the model's VarsOf. -/
import Derived.Test.YtlljhcfiojfimaaRows
import Derived.Test.YtlljhcfiojfimaaFormS
import Derived.Test.YtlljhcfiojfimaaTBool
import Derived.Test.YtlljhcfiojfimaaVarsMath
import Derived.Test.YtlljhcfiojfimaaValS
import Derived.Test.YtlljhcfiojfimaaFresh
namespace Go.Proofs.Ytlljhcfiojfimaa.VarsS
open Go.RowKit RowN TNode NodeMath FracMath VarsMath ValS
theorem run_next {l : List El} {j k : Nat} (h : k < l.length) (hk : l.length - 1 - j = k) : runV l (j + 1) = stepV l[k] k (runV l j) := by
  subst hk
  rw [runV, dif_pos h]
theorem step_same {n : El} {i : Nat} {s : List Bool × List Bool} (h : s.2.getD i false = false ∨ n.Kind = 1) : stepV n i s = s := if_pos h
theorem step_var {n : El} {i : Nat} {s : List Bool × List Bool} (h : ¬ (s.2.getD i false = false ∨ n.Kind = 1)) (h2 : n.Kind = 2) : stepV n i s = (setB s.1 n.A, s.2) := by rw [stepV, if_neg h, if_pos h2]
theorem step_two {n : El} {i : Nat} {s : List Bool × List Bool} (h : ¬ (s.2.getD i false = false ∨ n.Kind = 1)) (h2 : ¬ n.Kind = 2) (h9 : ¬ n.Kind = 9) : stepV n i s = (s.1, setB (setB s.2 n.A) n.B) := by rw [stepV, if_neg h, if_neg h2, if_neg h9]
theorem step_pick {n : El} {i : Nat} {s : List Bool × List Bool} (h : ¬ (s.2.getD i false = false ∨ n.Kind = 1)) (h2 : n.Kind = 9) : stepV n i s = (s.1, setB (setB (setB s.2 n.A) n.B) n.C) := by rw [stepV, if_neg h, if_neg (by omega), if_pos h2]
theorem set_nat (s : List Bool) (i : Nat) : setB s (i : Int) = s.set i true := by simp [setB]
theorem ne_own {g h : Nat} {n c : Nat} (e : g ≠ h) : (Value.slice (some ⟨g, 0, none⟩) n c).ownBlock ≠ some h := by simpa [Value.ownBlock] using e
set_option maxHeartbeats 16000000 in
theorem vars_s (w : World) (p : Option Addr) (m cap : Nat) (l : List El) (hm : l.length = m) (hs : m ≤ 1048576) (h : Reads fc 6 w p l) :
    Calls Try.prog 34 #[.slice p m cap] w (TBool.IsRow (varsOf l) w) := by
  have KK := Lib.hid h
  have HM := Lib.hid hm
  obtain ⟨R, hR⟩ : ∃ R, varsOf l = R := ⟨_, rfl⟩
  have HR := Lib.hid hR
  rw [hR]
  obtain ⟨b1, e1⟩ : ∃ b, okF l = b := ⟨_, rfl⟩
  have E1 := Lib.hid e1
  clear h hm hR
  go_enter Try.func34, Try.ntmps34
  go_wp2_with fail
  refine (FormS.form_s _ p m cap l HM.out (by omega) KK.out).mono ?_
  rintro e w1 ⟨rfl, hb⟩
  rw [E1.out]
  have HB1 := Lib.hid hb
  clear hb
  cases b1 with
  | false =>
    have E := Lib.hid (show R = [] by rw [← HR.out, varsOf, e1, if_neg Bool.false_ne_true])
    clear HR e1
    go_wp2
    go_ret
    refine ⟨some ⟨w1.heap.size, 0, none⟩, 0, by rw [E.out]; rfl, ?_, BelowKit.bl_alloc HB1.out⟩
    rw [E.out]
    exact Owns.made w1 _ _ HB1.out.size
  | true =>
  have HF := Lib.hid (okF_of e1)
  have E := Lib.hid (show R = (runV l m).1 by rw [← HR.out, varsOf, e1, if_pos rfl, HM.out])
  have hm1 : 1 ≤ m := by have := HF.out.1.1; have := HM.out; omega
  have hm30 : m ≤ 30 := by have := HF.out.1.2; have := HM.out; omega
  clear HR e1 E1
  have hbs := HB1.out.size
  go_wp2_with (first
    | (at_make; refine wpList_makeN TBool.ft TBool.fw (z0 := false) rfl _ rfl _ _ rfl w.heap.size .i64 .i64 _ _ 8 rfl rfl rfl rfl (by omega) hbs ?_; intro w2 hown2 hg2; have HO2 := Lib.hid hown2; have hb2 : Below w.heap.size w w2 := HB1.out.grown hg2 hbs (by simp); have HB2 := Lib.hid hb2; have hbs2 := hb2.size; have z12 : w1.heap.size < w2.heap.size := hown2.lt _ rfl; clear hown2 hg2 hb2)
    | (at_make; refine wpList_makeN TBool.ft TBool.fw (z0 := false) rfl _ rfl _ _ rfl w.heap.size .i64 .i64 _ _ m rfl rfl rfl rfl (by omega) hbs2 ?_; intro w3 hown3 hg3; refine Fresh.pause ?_))
  refine ⟨?_⟩
  have HB3 := Lib.hid (HB2.out.grown hg3 hbs2 (by simp))
  have HO3 := Lib.hid (HO2.out.kept hg3 (.inr (by simp [Value.ownBlock])))
  have z23 : w2.heap.size < w3.heap.size := hown3.lt _ rfl
  obtain ⟨gO, hgO⟩ : ∃ g, w1.heap.size = g := ⟨_, rfl⟩
  obtain ⟨gN, hgN⟩ : ∃ g, w2.heap.size = g := ⟨_, rfl⟩
  rw [hgO] at HO3 z12 hbs ⊢
  rw [hgN] at hown3 z12 z23 hbs2 ⊢
  obtain ⟨k0, rfl⟩ : ∃ k, m = k + 1 := ⟨m - 1, by omega⟩
  obtain ⟨M, hMM⟩ : ∃ M, k0 + 1 = M := ⟨_, rfl⟩
  obtain ⟨_, e', _, _, c0, f0⟩ := TBool.own hown3 k0 (by simp)
  cases e'
  have R0 := TBool.stored hown3 k0 (by simp) true
  rw [hMM] at R0 hm1 hm30 HM E hs ⊢
  have W1 : IntKind.i64.wrap ((M : Int) - 1) = (k0 : Int) := by rw [IntWalk.i64_in _ (by omega)]; omega
  have b0 : (0 : Int) ≤ (k0 : Int) := by omega
  have b00 : (k0 : Int) < (M : Int) := by omega
  have HN4 := Lib.hid (show Owns TBool.fc 1 (w3.setCell ⟨gN, k0, none⟩ (.bool true)) w.heap.size TBool.T (.slice (some ⟨gN, 0, none⟩) M M) (runV l 0).2 by
    have : (runV l 0).2 = (List.replicate M false).set k0 true := by rw [runV, HM.out, ← hMM]; simp
    rw [this]; exact R0)
  have HO4 := Lib.hid (show Owns TBool.fc 1 (w3.setCell ⟨gN, k0, none⟩ (.bool true)) w.heap.size TBool.T (.slice (some ⟨gO, 0, none⟩) 8 8) (runV l 0).1 from HO3.out.beside (ne_own (by omega)) _)
  have HB4 := Lib.hid (HB3.out.setCell (p := ⟨gN, k0, none⟩) (by simp; omega) (.bool true))
  have HK0 := Lib.hid hMM
  clear hown3 hg3 R0 HO3 HO2 HB2 HB3 HB1
  clear hMM
  go_wp2
  clear c0 f0 W1
  go_loopw [5] (fun i wr => ∃ (j : Nat) (ii : Int), j ≤ M ∧ i = .int .i64 ii ∧ ii = (M : Int) - 1 - (j : Int) ∧ Hid (Owns TBool.fc 1 wr w.heap.size TBool.T (.slice (some ⟨gN, 0, none⟩) M M) (runV l j).2) ∧ Hid (Owns TBool.fc 1 wr w.heap.size TBool.T (.slice (some ⟨gO, 0, none⟩) 8 8) (runV l j).1) ∧ Hid (Below w.heap.size w wr)) (fun i _ => (intOf i + 1).toNat)
  case atStart => exact ⟨0, (k0 : Int), Nat.zero_le _, rfl, by have := HK0.out; omega, HN4, HO4, HB4⟩
  case round =>
    clear HN4 HO4 HB4
    obtain ⟨j, ii, hj, rfl, hii, HN, HO, HB⟩ := hrel
    by_cases hlt : j < M
    · obtain ⟨k, hk⟩ : ∃ k : Nat, ii = (k : Int) := ⟨ii.toNat, by omega⟩
      subst hk
      have HLT := Lib.hid (show k < l.length by rw [HM.out]; omega)
      obtain ⟨g, o, rfl, hgl, q0, q1, q2, q3, q4, q5⟩ := read (KK.out.on HB.out) k HLT.out
      have HOK := Lib.hid (okN_of (HF.out.2 k HLT.out))
      obtain ⟨ln1, ln2⟩ := runV_len l j
      have hkn : k < (runV l j).2.length := by rw [ln2]; exact HLT.out
      have hnx := run_next (j := j) HLT.out (by rw [HM.out]; omega)
      obtain ⟨_, e', _, hgN', c0, f0⟩ := TBool.own HN.out k hkn
      cases e'
      have hd : (runV l j).2.getD k false = (runV l j).2[k] := by simp [hkn]
      rw [HM.out] at ln2
      generalize runV l j = s at HN HO hnx ln1 ln2 hkn c0 hd
      generalize (l[k]'HLT.out) = x at q0 q1 q2 q3 q4 q5 HOK hnx
      obtain ⟨nb, hnb⟩ : ∃ b, s.2[k] = b := ⟨_, rfl⟩
      rw [hnb] at c0 hd
      have bb1 : (0 : Int) ≤ (k : Int) := by omega
      have bb2 : (k : Int) < (M : Int) := by omega
      have HII := Lib.hid hii
      have HNX := Lib.hid hnx
      have HD := Lib.hid hd
      have L1 := Lib.hid ln1
      have L2 := Lib.hid ln2
      have hgO' : gO < wr.heap.size := HO.out.lt _ rfl
      clear hii hnx hd ln1 ln2 hkn hnb
      obtain ⟨kd, a, b, c, u, d⟩ := x
      simp only [] at q0 q1 q2 q3 q4 q5
      cases nb with
      | false =>
        have E := Lib.hid (HNX.out.trans (step_same (.inl HD.out)))
        have HN5 := Lib.hid (show Owns TBool.fc 1 (wr.alloc (.cells #[.int .i64 kd, .int .i64 a, .int .i64 b, .int .i64 c, .int .i64 u, .int .i64 d] 35)) w.heap.size TBool.T (.slice (some ⟨gN, 0, none⟩) M M) (runV l (j + 1)).2 by rw [E.out]; exact HN.out.alloc _)
        have HO5 := Lib.hid (show Owns TBool.fc 1 (wr.alloc (.cells #[.int .i64 kd, .int .i64 a, .int .i64 b, .int .i64 c, .int .i64 u, .int .i64 d] 35)) w.heap.size TBool.T (.slice (some ⟨gO, 0, none⟩) 8 8) (runV l (j + 1)).1 by rw [E.out]; exact HO.out.alloc _)
        have HB5 := Lib.hid (BelowKit.bl_alloc (o := (.cells #[.int .i64 kd, .int .i64 a, .int .i64 b, .int .i64 c, .int .i64 u, .int .i64 d] 35)) HB.out)
        clear HNX HOK HD
        go_wp2
        go_roundw
        case rel => exact ⟨j + 1, (k : Int) - 1, by omega, by go_num, by have := HII.out; omega, HN5, HO5, HB5⟩
        case measure => first | (simp [intOf]; done) | (simp [intOf]; omega)
      | true =>
      have hnd : s.2.getD k false ≠ false := by rw [HD.out]; decide
      by_cases h1 : kd = 1
      case pos =>
        have E := Lib.hid (HNX.out.trans (step_same (.inr h1)))
        have HN5 := Lib.hid (show Owns TBool.fc 1 (wr.alloc (.cells #[.int .i64 kd, .int .i64 a, .int .i64 b, .int .i64 c, .int .i64 u, .int .i64 d] 35)) w.heap.size TBool.T (.slice (some ⟨gN, 0, none⟩) M M) (runV l (j + 1)).2 by rw [E.out]; exact HN.out.alloc _)
        have HO5 := Lib.hid (show Owns TBool.fc 1 (wr.alloc (.cells #[.int .i64 kd, .int .i64 a, .int .i64 b, .int .i64 c, .int .i64 u, .int .i64 d] 35)) w.heap.size TBool.T (.slice (some ⟨gO, 0, none⟩) 8 8) (runV l (j + 1)).1 by rw [E.out]; exact HO.out.alloc _)
        have HB5 := Lib.hid (BelowKit.bl_alloc (o := (.cells #[.int .i64 kd, .int .i64 a, .int .i64 b, .int .i64 c, .int .i64 u, .int .i64 d] 35)) HB.out)
        have d1 : (kd == 1) = true := by rw [h1]; rfl
        clear HNX HOK HD hnd h1
        go_wp2
        go_roundw
        case rel => exact ⟨j + 1, (k : Int) - 1, by omega, by go_num, by have := HII.out; omega, HN5, HO5, HB5⟩
        case measure => first | (simp [intOf]; done) | (simp [intOf]; omega)
      case neg =>
      have d1 : (kd == 1) = false := beq_eq_false_iff_ne.2 h1
      have hno : ¬ (s.2.getD k false = false ∨ (⟨kd, a, b, c, u, d⟩ : El).Kind = 1) := fun e => e.elim hnd h1
      have HNO := Lib.hid hno
      have HH1 := Lib.hid h1
      clear hno hnd
      by_cases h2 : kd = 2
      case pos =>
        have ha : 0 ≤ a ∧ a < 8 := by
          rcases HOK.out with h | ⟨_, _, h | h | h⟩
          · exact absurd h.1 h1
          · have := h.2.1; simp only [] at this; omega
          · have := h.1; simp only [] at this; omega
          · have := h.1; simp only [] at this; omega
        obtain ⟨ia, rfl, hia⟩ := nat_of ha
        have hla : ia < s.1.length := by rw [L1.out]; omega
        obtain ⟨_, e', _, _, t0, y0⟩ := TBool.own HO.out ia hla
        cases e'
        generalize s.1[ia] = zz at t0
        have E := Lib.hid (HNX.out.trans (step_var HNO.out h2))
        have d2 : (kd == 2) = true := by rw [h2]; rfl
        have b3 : (0 : Int) ≤ (ia : Int) := by omega
        have b4 : (ia : Int) < 8 := hia
        have R1 := TBool.stored HO.out ia hla true
        have HN5 := Lib.hid (show Owns TBool.fc 1 ((wr.setCell ⟨gO, ia, none⟩ (.bool true)).alloc (.cells #[.int .i64 kd, .int .i64 (ia : Int), .int .i64 b, .int .i64 c, .int .i64 u, .int .i64 d] 35)) w.heap.size TBool.T (.slice (some ⟨gN, 0, none⟩) M M) (runV l (j + 1)).2 by rw [E.out]; exact (HN.out.beside (ne_own (by omega)) _).alloc _)
        have HO5 := Lib.hid (show Owns TBool.fc 1 ((wr.setCell ⟨gO, ia, none⟩ (.bool true)).alloc (.cells #[.int .i64 kd, .int .i64 (ia : Int), .int .i64 b, .int .i64 c, .int .i64 u, .int .i64 d] 35)) w.heap.size TBool.T (.slice (some ⟨gO, 0, none⟩) 8 8) (runV l (j + 1)).1 by rw [E.out]; simp only [set_nat]; exact R1.alloc _)
        have HB5 := Lib.hid (BelowKit.bl_alloc (o := (.cells #[.int .i64 kd, .int .i64 (ia : Int), .int .i64 b, .int .i64 c, .int .i64 u, .int .i64 d] 35)) (BelowKit.bl_set HB.out (a := ⟨gO, ia, none⟩) (.bool true) hbs))
        clear HNX HOK HD HNO HH1 h1 h2 ha hla R1
        go_wp2
        go_roundw
        case rel => exact ⟨j + 1, (k : Int) - 1, by omega, by go_num, by have := HII.out; omega, HN5, HO5, HB5⟩
        case measure => first | (simp [intOf]; done) | (simp [intOf]; omega)
      case neg =>
      have d2 : (kd == 2) = false := beq_eq_false_iff_ne.2 h2
      have hab : (0 ≤ a ∧ a < (k : Int)) ∧ (0 ≤ b ∧ b < (k : Int)) := by
        rcases HOK.out with h | ⟨_, _, h | h | h⟩
        · exact absurd h.1 h1
        · exact absurd h.1 h2
        · exact ⟨h.2.1, h.2.2.1⟩
        · exact ⟨h.2.1, h.2.2.1⟩
      obtain ⟨ha, hb⟩ := hab
      obtain ⟨ia, rfl, hia⟩ := nat_of ha
      obtain ⟨ib, rfl, hib⟩ := nat_of hb
      have hla : ia < s.2.length := by rw [L2.out]; omega
      have hlb : ib < s.2.length := by rw [L2.out]; omega
      obtain ⟨_, e', _, _, t0, y0⟩ := TBool.own HN.out ia hla
      cases e'
      obtain ⟨_, e', _, _, t1, y1⟩ := TBool.own HN.out ib hlb
      cases e'
      generalize s.2[ia] = za at t0
      generalize s.2[ib] = zb at t1
      have b3 : (0 : Int) ≤ (ia : Int) := by omega
      have b4 : (ia : Int) < (M : Int) := by omega
      have b5 : (0 : Int) ≤ (ib : Int) := by omega
      have b6 : (ib : Int) < (M : Int) := by omega
      have R1 := TBool.stored (TBool.stored HN.out ia hla true) ib (by simpa using hlb) true
      have HO6 := Lib.hid ((HO.out.beside (g := gN) (o := ia) (ne_own (by omega)) (.bool true)).beside (g := gN) (o := ib) (ne_own (by omega)) (.bool true))
      have HB6 := Lib.hid (BelowKit.bl_set (BelowKit.bl_set HB.out (a := ⟨gN, ia, none⟩) (.bool true) hbs2) (a := ⟨gN, ib, none⟩) (.bool true) hbs2)
      by_cases e0 : ib = ia
      · obtain rfl : ia = ib := e0.symm
        clear t1 y1
        by_cases h9 : kd = 9
        case pos =>
          have hc : 0 ≤ c ∧ c < (k : Int) := by
            rcases HOK.out with h | ⟨_, _, h | h | h⟩
            · exact absurd h.1 h1
            · exact absurd h.1 h2
            · have := h.1; simp only [] at this; omega
            · exact h.2.2.2
          obtain ⟨ic, rfl, hic⟩ := nat_of hc
          have hlc : ic < s.2.length := by rw [L2.out]; omega
          obtain ⟨_, e', _, _, t2, y2⟩ := TBool.own HN.out ic hlc
          cases e'
          generalize s.2[ic] = zc at t2
          have b7 : (0 : Int) ≤ (ic : Int) := by omega
          have b8 : (ic : Int) < (M : Int) := by omega
          have E := Lib.hid (HNX.out.trans (step_pick HNO.out h9))
          have d9 : (kd == 9) = true := by rw [h9]; rfl
          have R2 := TBool.stored R1 ic (by simpa using hlc) true
          have HN5 := Lib.hid (show Owns TBool.fc 1 ((((wr.setCell ⟨gN, ia, none⟩ (.bool true)).setCell ⟨gN, ia, none⟩ (.bool true)).setCell ⟨gN, ic, none⟩ (.bool true)).alloc (.cells #[.int .i64 kd, .int .i64 (ia : Int), .int .i64 (ia : Int), .int .i64 (ic : Int), .int .i64 u, .int .i64 d] 35)) w.heap.size TBool.T (.slice (some ⟨gN, 0, none⟩) M M) (runV l (j + 1)).2 by rw [E.out]; simp only [set_nat]; exact R2.alloc _)
          have HO5 := Lib.hid (show Owns TBool.fc 1 ((((wr.setCell ⟨gN, ia, none⟩ (.bool true)).setCell ⟨gN, ia, none⟩ (.bool true)).setCell ⟨gN, ic, none⟩ (.bool true)).alloc (.cells #[.int .i64 kd, .int .i64 (ia : Int), .int .i64 (ia : Int), .int .i64 (ic : Int), .int .i64 u, .int .i64 d] 35)) w.heap.size TBool.T (.slice (some ⟨gO, 0, none⟩) 8 8) (runV l (j + 1)).1 by rw [E.out]; exact (HO6.out.beside (ne_own (by omega)) _).alloc _)
          have HB5 := Lib.hid (BelowKit.bl_alloc (o := (.cells #[.int .i64 kd, .int .i64 (ia : Int), .int .i64 (ia : Int), .int .i64 (ic : Int), .int .i64 u, .int .i64 d] 35)) (BelowKit.bl_set HB6.out (a := ⟨gN, ic, none⟩) (.bool true) hbs2))
          clear HNX HOK HD HNO HH1 h1 h2 h9 ha hb hc hla hlb hlc R1 R2 HO6 HB6
          by_cases e1 : ic = ia
          · subst e1
            clear t2 y2
            go_wp2
            go_roundw
            case rel => exact ⟨j + 1, (k : Int) - 1, by omega, by go_num, by have := HII.out; omega, HN5, HO5, HB5⟩
            case measure => first | (simp [intOf]; done) | (simp [intOf]; omega)
          have n1 : ia ≠ ic := fun e => e1 e.symm
          clear e1
          go_wp2
          go_roundw
          case rel => exact ⟨j + 1, (k : Int) - 1, by omega, by go_num, by have := HII.out; omega, HN5, HO5, HB5⟩
          case measure => first | (simp [intOf]; done) | (simp [intOf]; omega)
        case neg =>
          have E := Lib.hid (HNX.out.trans (step_two HNO.out h2 h9))
          have d9 : (kd == 9) = false := beq_eq_false_iff_ne.2 h9
          have HN5 := Lib.hid (show Owns TBool.fc 1 (((wr.setCell ⟨gN, ia, none⟩ (.bool true)).setCell ⟨gN, ia, none⟩ (.bool true)).alloc (.cells #[.int .i64 kd, .int .i64 (ia : Int), .int .i64 (ia : Int), .int .i64 c, .int .i64 u, .int .i64 d] 35)) w.heap.size TBool.T (.slice (some ⟨gN, 0, none⟩) M M) (runV l (j + 1)).2 by rw [E.out]; simp only [set_nat]; exact R1.alloc _)
          have HO5 := Lib.hid (show Owns TBool.fc 1 (((wr.setCell ⟨gN, ia, none⟩ (.bool true)).setCell ⟨gN, ia, none⟩ (.bool true)).alloc (.cells #[.int .i64 kd, .int .i64 (ia : Int), .int .i64 (ia : Int), .int .i64 c, .int .i64 u, .int .i64 d] 35)) w.heap.size TBool.T (.slice (some ⟨gO, 0, none⟩) 8 8) (runV l (j + 1)).1 by rw [E.out]; exact HO6.out.alloc _)
          have HB5 := Lib.hid (BelowKit.bl_alloc (o := (.cells #[.int .i64 kd, .int .i64 (ia : Int), .int .i64 (ia : Int), .int .i64 c, .int .i64 u, .int .i64 d] 35)) HB6.out)
          clear HNX HOK HD HNO HH1 h1 h2 h9 ha hb hla hlb R1 HO6 HB6
          go_wp2
          go_roundw
          case rel => exact ⟨j + 1, (k : Int) - 1, by omega, by go_num, by have := HII.out; omega, HN5, HO5, HB5⟩
          case measure => first | (simp [intOf]; done) | (simp [intOf]; omega)
      have n0 : ia ≠ ib := fun e => e0 e.symm
      clear e0
      by_cases h9 : kd = 9
      case pos =>
        have hc : 0 ≤ c ∧ c < (k : Int) := by
          rcases HOK.out with h | ⟨_, _, h | h | h⟩
          · exact absurd h.1 h1
          · exact absurd h.1 h2
          · have := h.1; simp only [] at this; omega
          · exact h.2.2.2
        obtain ⟨ic, rfl, hic⟩ := nat_of hc
        have hlc : ic < s.2.length := by rw [L2.out]; omega
        obtain ⟨_, e', _, _, t2, y2⟩ := TBool.own HN.out ic hlc
        cases e'
        generalize s.2[ic] = zc at t2
        have b7 : (0 : Int) ≤ (ic : Int) := by omega
        have b8 : (ic : Int) < (M : Int) := by omega
        have E := Lib.hid (HNX.out.trans (step_pick HNO.out h9))
        have d9 : (kd == 9) = true := by rw [h9]; rfl
        have R2 := TBool.stored R1 ic (by simpa using hlc) true
        have HN5 := Lib.hid (show Owns TBool.fc 1 ((((wr.setCell ⟨gN, ia, none⟩ (.bool true)).setCell ⟨gN, ib, none⟩ (.bool true)).setCell ⟨gN, ic, none⟩ (.bool true)).alloc (.cells #[.int .i64 kd, .int .i64 (ia : Int), .int .i64 (ib : Int), .int .i64 (ic : Int), .int .i64 u, .int .i64 d] 35)) w.heap.size TBool.T (.slice (some ⟨gN, 0, none⟩) M M) (runV l (j + 1)).2 by rw [E.out]; simp only [set_nat]; exact R2.alloc _)
        have HO5 := Lib.hid (show Owns TBool.fc 1 ((((wr.setCell ⟨gN, ia, none⟩ (.bool true)).setCell ⟨gN, ib, none⟩ (.bool true)).setCell ⟨gN, ic, none⟩ (.bool true)).alloc (.cells #[.int .i64 kd, .int .i64 (ia : Int), .int .i64 (ib : Int), .int .i64 (ic : Int), .int .i64 u, .int .i64 d] 35)) w.heap.size TBool.T (.slice (some ⟨gO, 0, none⟩) 8 8) (runV l (j + 1)).1 by rw [E.out]; exact (HO6.out.beside (ne_own (by omega)) _).alloc _)
        have HB5 := Lib.hid (BelowKit.bl_alloc (o := (.cells #[.int .i64 kd, .int .i64 (ia : Int), .int .i64 (ib : Int), .int .i64 (ic : Int), .int .i64 u, .int .i64 d] 35)) (BelowKit.bl_set HB6.out (a := ⟨gN, ic, none⟩) (.bool true) hbs2))
        clear HNX HOK HD HNO HH1 h1 h2 h9 ha hb hc hla hlb hlc R1 R2 HO6 HB6
        by_cases e1 : ic = ia
        · subst e1
          clear t2 y2
          go_wp2
          go_roundw
          case rel => exact ⟨j + 1, (k : Int) - 1, by omega, by go_num, by have := HII.out; omega, HN5, HO5, HB5⟩
          case measure => first | (simp [intOf]; done) | (simp [intOf]; omega)
        by_cases e2 : ic = ib
        · subst e2
          clear t2 y2
          go_wp2
          go_roundw
          case rel => exact ⟨j + 1, (k : Int) - 1, by omega, by go_num, by have := HII.out; omega, HN5, HO5, HB5⟩
          case measure => first | (simp [intOf]; done) | (simp [intOf]; omega)
        have n1 : ia ≠ ic := fun e => e1 e.symm
        have n2 : ib ≠ ic := fun e => e2 e.symm
        clear e1 e2
        go_wp2
        go_roundw
        case rel => exact ⟨j + 1, (k : Int) - 1, by omega, by go_num, by have := HII.out; omega, HN5, HO5, HB5⟩
        case measure => first | (simp [intOf]; done) | (simp [intOf]; omega)
      case neg =>
        have E := Lib.hid (HNX.out.trans (step_two HNO.out h2 h9))
        have d9 : (kd == 9) = false := beq_eq_false_iff_ne.2 h9
        have HN5 := Lib.hid (show Owns TBool.fc 1 (((wr.setCell ⟨gN, ia, none⟩ (.bool true)).setCell ⟨gN, ib, none⟩ (.bool true)).alloc (.cells #[.int .i64 kd, .int .i64 (ia : Int), .int .i64 (ib : Int), .int .i64 c, .int .i64 u, .int .i64 d] 35)) w.heap.size TBool.T (.slice (some ⟨gN, 0, none⟩) M M) (runV l (j + 1)).2 by rw [E.out]; simp only [set_nat]; exact R1.alloc _)
        have HO5 := Lib.hid (show Owns TBool.fc 1 (((wr.setCell ⟨gN, ia, none⟩ (.bool true)).setCell ⟨gN, ib, none⟩ (.bool true)).alloc (.cells #[.int .i64 kd, .int .i64 (ia : Int), .int .i64 (ib : Int), .int .i64 c, .int .i64 u, .int .i64 d] 35)) w.heap.size TBool.T (.slice (some ⟨gO, 0, none⟩) 8 8) (runV l (j + 1)).1 by rw [E.out]; exact HO6.out.alloc _)
        have HB5 := Lib.hid (BelowKit.bl_alloc (o := (.cells #[.int .i64 kd, .int .i64 (ia : Int), .int .i64 (ib : Int), .int .i64 c, .int .i64 u, .int .i64 d] 35)) HB6.out)
        clear HNX HOK HD HNO HH1 h1 h2 h9 ha hb hla hlb R1 HO6 HB6
        go_wp2
        go_roundw
        case rel => exact ⟨j + 1, (k : Int) - 1, by omega, by go_num, by have := HII.out; omega, HN5, HO5, HB5⟩
        case measure => first | (simp [intOf]; done) | (simp [intOf]; omega)
    · obtain rfl : j = M := by omega
      have hi : ii = -1 := by omega
      subst hi
      go_wp2
      go_ret
      refine ⟨some ⟨gO, 0, none⟩, 8, ?_, ?_, HB.out⟩
      · rw [E.out, (runV_len l j).1]
        rfl
      · rw [E.out, (runV_len l j).1]
        exact HO.out
end Go.Proofs.Ytlljhcfiojfimaa.VarsS

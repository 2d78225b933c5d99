/- Contracts of slices.Clone, slices.Grow and slices.Concat on rows of Spell. Written by gen_slices.py. -/
import Derived.Test.YtkoeodmneedjcaaRows
import Derived.Test.YtkoeodmneedjcaaTSpell
import Derived.Test.YtkoeodmneedjcaaRowRoom
import Derived.Test.YtkoeodmneedjcaaKit
import Derived.WalkSpells
namespace Go.Proofs.Ytkoeodmneedjcaa.SlSpell
open Go.RowKit RowN TSpell RowRoom
/-- The answer is the row l in new memory. -/
def IsCl (l : List El) (w : World) (e : Ending) (w' : World) : Prop := ∃ p c, e = .returned (.slice p l.length c) ∧ Owns fc 4 w' w.heap.size T (.slice p l.length c) l ∧ Below w.heap.size w w'
set_option maxHeartbeats 1000000 in
set_option maxRecDepth 100000 in
theorem clone_i (w : World) (a : Option Addr) (m cap : Nat) (l : List El) (hm : l.length = m) (hs : m ≤ 1099511627776) (h : Reads fc 4 w a l) :
    Calls Try.prog 41 #[.slice a m cap] w (IsCl l w) := by
  have KK := Lib.hid h
  have HM := Lib.hid hm
  have hq : ∀ W : World, (binOp .eql 24 (.slice a m cap) (.slice none 0 0)).run Try.prog W = .ok (.bool a.isNone) W := fun W => Lib.run_eql_slice_nil W _ _ a m cap 0 0 Try.underlying24
  clear h hm
  cases a with
  | none =>
    have hl : l = [] := by
      cases l with
      | nil => rfl
      | cons x r => obtain ⟨_, _, e, _⟩ := KK.out 0 (by simp); cases e
    have HL := Lib.hid hl
    clear hl
    go_enter Try.func41, Try.ntmps41
    go_wp2
    go_ret
    exact ⟨none, 0, by rw [HL.out]; rfl, by rw [HL.out]; exact Owns.nil _ _ _, by (repeat (first | exact Below.refl _ _ | apply BelowKit.bl_alloc | apply BelowKit.bl_drewN | apply BelowKit.bl_drew | (refine BelowKit.bl_set ?_ _ ?_; rotate_left; (first | omega | (simp; omega) | simp)) | (refine BelowKit.bl_trans ?_ (‹Hid (Below _ _ _)›).out)))⟩
  | some ad =>
    go_enter Try.func41, Try.ntmps41
    go_wp2_with (
      at_builtin
      refine wpList_append_readsN ft fw _ rfl (.tmp 5) (.tmp 6) rfl w.heap.size (.slice (some ⟨w.heap.size, 0, none⟩) 0 0) [] rfl ?c1 (some ad) cap m l HM.out rfl ?c2 ?c3 ?c4 ?_
      rotate_left 4
      intro v' w' hown' hg' hat'
      obtain ⟨p', c', rfl, _⟩ := hown'.form fw
      have HB := Lib.hid ((BelowKit.bl_alloc (Below.refl w.heap.size w)).grown hg' (by first | omega | (simp; done) | (simp; omega)) (by first | (simp [Value.ownBlock]; done) | (simp [Value.ownBlock]; omega)))
      have HO := Lib.hid hown'
      clear hown' hg' hat')
    case c1 => simpa using Owns.made (f := fc) (c := 4) w w.heap.size T (Nat.le_refl _)
    case c2 => exact KK.out.on (by (repeat (first | exact Below.refl _ _ | apply BelowKit.bl_alloc | apply BelowKit.bl_drewN | apply BelowKit.bl_drew | (refine BelowKit.bl_set ?_ _ ?_; rotate_left; (first | omega | (simp; omega) | simp)) | (refine BelowKit.bl_trans ?_ (‹Hid (Below _ _ _)›).out))))
    case c3 => simp; omega
    case c4 => simp
    go_ret
    exact ⟨p', c', rfl, HO.out, HB.out⟩
def IsRoom (w : World) (e : Ending) (w' : World) : Prop := ∃ (a : Option Addr) (c : Nat), e = .returned (.slice a 0 c) ∧ Owns fc 4 w' w.heap.size T (.slice a 0 c) [] ∧ Below w.heap.size w w'
set_option maxHeartbeats 1000000 in
theorem grow_i (w : World) (n : Nat) (hn : n ≤ 1099511627776) :
    Calls Try.prog 51 #[.slice none 0 0, .int .i64 (n : Int)] w (IsRoom w) := by
  have d1 : decide ((n : Int) < 0) = false := decide_eq_false (by omega)
  by_cases h0 : n = 0
  case pos =>
    have d2 : decide ((0 : Int) < (n : Int)) = false := decide_eq_false (by omega)
    have d3 : decide (0 < n) = false := decide_eq_false (by omega)
    clear h0
    go_enter Try.func51, Try.ntmps51
    go_wp2
    go_ret
    exact ⟨none, 0, rfl, Owns.nil _ _ _, by (repeat (first | exact Below.refl _ _ | apply BelowKit.bl_alloc | apply BelowKit.bl_drewN | apply BelowKit.bl_drew | (refine BelowKit.bl_set ?_ _ ?_; rotate_left; (first | omega | (simp; omega) | simp)) | (refine BelowKit.bl_trans ?_ (‹Hid (Below _ _ _)›).out)))⟩
  case neg =>
  have h0 : 0 < n := by omega
  have hrz := fun ty => run_zerosN (P := Try.prog) ft (by omega) .i64 Try.underlying3 w ty n h0 hn
  have hown := Lib.hid (owns_room (f := fc) (c := 4) (P := Try.prog) ft w w.heap.size n (Nat.le_refl _) hn)
  have hb : Below w.heap.size w (w.drew.alloc (.cells (Builtin.zeroCells (fv e0).cells n ++ Builtin.zeroCells (fv e0).cells (grownCap w n 0 T - n)) T)) := BelowKit.bl_alloc (BelowKit.bl_drew (Below.refl _ _))
  have HB := Lib.hid hb
  have d2 : decide ((0 : Int) < (n : Int)) = true := decide_eq_true (by omega)
  have d3 : decide (0 < n) = true := decide_eq_true h0
  have hcn := grownCap_ge w n 0 T
  obtain ⟨G, hG⟩ : ∃ G, grownCap w n 0 T = G := ⟨_, rfl⟩
  rw [hG] at hrz hown HB hcn
  obtain ⟨W, hW⟩ : ∃ W, w.drew.alloc (.cells (Builtin.zeroCells (fv e0).cells n ++ Builtin.zeroCells (fv e0).cells (G - n)) T) = W := ⟨_, rfl⟩
  rw [hW] at hown HB
  simp only [hW] at hrz
  clear hb hG hW
  go_enter Try.func51, Try.ntmps51
  go_wp2_with (at_builtin; refine Lib.wpList_append_run _ rfl _ _ _ _ rfl _ _ rfl rfl _ _ (hrz _) ?_)
  all_goals (go_ret; exact ⟨some ⟨w.heap.size, 0, none⟩, G, rfl, hown.out, HB.out⟩)
/-- The rows up to the k-th, one behind the other. -/
def upTo (rows : List (List El)) (k : Nat) : List El := (rows.take k).flatten
theorem upTo_zero (rows : List (List El)) : upTo rows 0 = [] := rfl
theorem upTo_succ (rows : List (List El)) {k : Nat} (h : k < rows.length) : upTo rows (k + 1) = upTo rows k ++ rows[k] := by
  unfold upTo
  rw [List.take_succ_eq_append_getElem h, List.flatten_append]
  simp
theorem upTo_all (rows : List (List El)) {k : Nat} (h : k = rows.length) : upTo rows k = rows.flatten := by
  subst h
  unfold upTo
  rw [List.take_length]
theorem upTo_le (rows : List (List El)) : ∀ (d k : Nat), k + d = rows.length → (upTo rows k).length ≤ rows.flatten.length
  | 0, k, h => by rw [upTo_all rows (by omega)]; exact Nat.le_refl _
  | d + 1, k, h => by
    refine Nat.le_trans ?_ (upTo_le rows d (k + 1) (by omega))
    rw [upTo_succ rows (by omega), List.length_append]
    omega
set_option maxHeartbeats 4000000 in
theorem concat_i (w : World) (g N : Nat) (rows : List (List El)) (P : Nat → Option Addr) (Cp : Nat → Nat) (hN : rows.length = N) (hN2 : N ≤ 1048576) (hs : rows.flatten.length ≤ 1099511627776) (hg : g < w.heap.size)
    (hc : ∀ k (h : k < rows.length), w.cell? ⟨g, k, none⟩ = some (.slice (P k) rows[k].length (Cp k))) (hr : ∀ k (h : k < rows.length), Reads fc 4 w (P k) rows[k]) :
    Calls Try.prog 40 #[.slice (some ⟨g, 0, none⟩) N N] w (IsCl rows.flatten w) := by
  have HN := Lib.hid hN
  have HS := Lib.hid hs
  have HG := Lib.hid hg
  have HC := Lib.hid hc
  have HR := Lib.hid hr
  obtain ⟨R, hR⟩ : ∃ R, rows.flatten = R := ⟨_, rfl⟩
  have HRR := Lib.hid hR
  rw [hR]
  clear hN hs hc hr hR hg
  go_enter Try.func40, Try.ntmps40
  go_wp2
  go_loopw [3, 11] (fun s i wr => ∃ k : Nat, k ≤ N ∧ i = .int .i64 (k : Int) ∧ s = .int .i64 ((upTo rows k).length : Int) ∧ w = wr) (fun _ i _ => N - (intOf i).toNat)
  case atStart => exact ⟨0, Nat.zero_le _, rfl, rfl, rfl⟩
  case round =>
    obtain ⟨k, hk, rfl, rfl, rfl⟩ := hrel
    by_cases hlt : k < N
    · have HLT := Lib.hid (show k < rows.length by rw [HN.out]; exact hlt)
      have c0 := HC.out k HLT.out
      have hup := congrArg List.length (upTo_succ rows HLT.out)
      rw [List.length_append] at hup
      have hle := upTo_le rows (N - (k + 1)) (k + 1) (by rw [HN.out]; omega)
      obtain ⟨n, hn⟩ : ∃ n, (rows[k]'HLT.out).length = n := ⟨_, rfl⟩
      rw [hn] at c0 hup
      obtain ⟨s, hs⟩ : ∃ s, (upTo rows k).length = s := ⟨_, rfl⟩
      rw [hs] at hup ⊢
      have hS := HS.out
      have b1 : (0 : Int) ≤ (k : Int) := by omega
      have b2 : (k : Int) < (N : Int) := by omega
      have W1 : IntKind.i64.wrap ((s : Int) + (n : Int)) = ((s + n : Nat) : Int) := by rw [IntWalk.i64_in _ (by omega)]; omega
      have d1 : decide (((s + n : Nat) : Int) < 0) = false := decide_eq_false (by omega)
      have d1' : decide ((s : Int) + (n : Int) < 0) = false := decide_eq_false (by omega)
      have HUP := Lib.hid hup
      clear hup hle hn hs hS
      go_wp2
      go_roundw
      case rel => exact ⟨k + 1, by omega, by go_num, by rw [HUP.out]; first | rfl | (congr 1; omega), trivial⟩
      case measure => simp [intOf]; omega
    · obtain rfl : N = k := by omega
      have e0 := upTo_all rows HN.out.symm
      rw [HRR.out] at e0
      rw [e0]
      obtain ⟨n, hn⟩ : ∃ n, R.length = n := ⟨_, rfl⟩
      have HNN := Lib.hid hn
      have HNS := Lib.hid (show n ≤ 1099511627776 by rw [← hn, ← HRR.out]; exact HS.out)
      rw [hn]
      clear hn e0
      go_wp2_with fail
      refine (grow_i _ n HNS.out).mono ?_
      rintro e w1 ⟨g', c', rfl, ho, hb⟩
      have HB0 := Lib.hid hb
      have HO0 := Lib.hid (show Owns fc 4 w1 w.heap.size T (.slice g' 0 c') (upTo rows 0) from ho)
      clear hb ho
      go_wp2
      go_loopw [6, 27] (fun v i wr => ∃ k : Nat, k ≤ N ∧ i = .int .i64 (k : Int) ∧ Hid (Owns fc 4 wr w.heap.size T v (upTo rows k)) ∧ Hid (Below w.heap.size w wr)) (fun _ i _ => N - (intOf i).toNat)
      case atStart => exact ⟨0, Nat.zero_le _, rfl, HO0, HB0⟩
      case round =>
        obtain ⟨k, hk, rfl, HO, HB⟩ := hrel
        by_cases hlt : k < N
        · have HLT := Lib.hid (show k < rows.length by rw [HN.out]; exact hlt)
          have c0 := ((BelowKit.bcell HB.out).1 _ k HG.out).trans (HC.out k HLT.out)
          have HRD := Lib.hid ((HR.out k HLT.out).on HB.out)
          have HE := Lib.hid (upTo_succ rows HLT.out)
          have hle := upTo_le rows (N - (k + 1)) (k + 1) (by rw [HN.out]; omega)
          have HLE := Lib.hid (show (upTo rows k).length + (rows[k]'HLT.out).length ≤ 1099511627776 by
            have := HS.out
            rw [HE.out, List.length_append] at hle
            omega)
          generalize (rows[k]'HLT.out) = xs at c0 HRD HE HLE
          generalize upTo rows k = ys at HO HE HLE
          obtain ⟨n, hn⟩ : ∃ n, xs.length = n := ⟨_, rfl⟩
          have HXN := Lib.hid hn
          rw [hn] at c0 HLE
          have b1 : (0 : Int) ≤ (k : Int) := by omega
          have b2 : (k : Int) < (N : Int) := by omega
          have hz := HB.out.size
          clear hle hn
          go_wp2_with (at_builtin; refine wpList_append_readsN ft fw _ (o := ⟨some 33, _, _, _, _, _⟩) rfl (.tmp 31) (.tmp 32) rfl w.heap.size _ ys rfl HO.out (P k) (Cp k) n xs HXN.out rfl HRD.out ?_ ?_ ?_; (have := HLE.out; omega); (omega); intro v' w' hown' hg' _; have HB' := Lib.hid (HB.out.grown hg' hz (fun k hk => HO.out.low k hk)); have HO' := Lib.hid hown'; clear hown' hg')
          go_roundw
          case rel => exact ⟨k + 1, by omega, by go_num, by rw [HE.out]; exact HO', HB'⟩
          case measure => simp [intOf]; omega
        · obtain rfl : N = k := by omega
          have hO := HO.out
          rw [upTo_all rows HN.out.symm, HRR.out] at hO
          obtain ⟨a', c', rfl, _⟩ := hO.form fw
          have HO2 := Lib.hid hO
          rw [HNN.out] at HO2 ⊢
          clear hO HO
          go_wp2
          go_ret
          exact ⟨a', c', by rw [HNN.out]; rfl, by rw [HNN.out]; exact HO2.out, HB.out⟩
end Go.Proofs.Ytkoeodmneedjcaa.SlSpell

/- The contracts of slices.stableCmpFunc and slices.SortStableFunc at []int of at most 40 elements: a permutation, sorted by the order with which the comparison agrees. -/
import Derived.Test.YtdmnagpnhphifaaRows
import Derived.Test.YtdmnagpnhphifaaStab
import Derived.Test.YtdmnagpnhphifaaStabKit
import Derived.Test.YtdmnagpnhphifaaStabIns
import Derived.Test.YtdmnagpnhphifaaStabSym
namespace Go.Proofs.Ytdmnagpnhphifaa.Stable
open Go.RowKit Row1 CurKit Stab StabKit StabIns StabSym

theorem ins_i (fn : FuncId) (cb : Array Value) (eg : ∀ args w, (callFunc fn args).run Try.prog w = .ok (.enter fn args) w) (R : Int → Int → Prop) (ht : Trans R) (ok : Int → Prop) (cf : Int → Int → Int)
    (w0 w : World) (g n : Nat) (hcmp : CmpAt Try.prog w0 g fn cb ok cf) (P X S : List Int) (A B : Int) (hok : ∀ x ∈ X, ok x) (hag : X.Pairwise (Agree R cf)) (hA : A = P.length) (hB : B = (P.length : Int) + X.length) (hn : n ≤ 1099511627776)
    (h : SW 3 w0 g n (P ++ (X ++ S)) w) :
    Calls Try.prog 52 #[.slice (some ⟨g, 0, none⟩) n n, .int .i64 A, .int .i64 B, .func (.func fn) #[] cb] w (Sorted 3 w0 g n R P X S) := by
  subst hA
  obtain rfl : B = ((P.length + X.length : Nat) : Int) := by omega
  exact ins_c fn cb eg R ht ok cf w0 w g n P.length (P.length + X.length) hcmp P X S hok hag rfl rfl hn h
def Done (T : Nat) (w0 : World) (g n : Nat) (R : Int → Int → Prop) (l : List Int) (e : Ending) (w' : World) : Prop :=
  e = .returned (.tuple #[]) ∧ ∃ Z : List Int, Z.Perm l ∧ Z.Pairwise R ∧ SW T w0 g n Z w'

set_option maxRecDepth 100000 in
set_option maxHeartbeats 4000000 in
theorem stable_c (fn : FuncId) (cb : Array Value) (eg : ∀ args w, (callFunc fn args).run Try.prog w = .ok (.enter fn args) w) (R : Int → Int → Prop) (ht : Trans R) (ok : Int → Prop) (cf : Int → Int → Int)
    (w0 w : World) (g n : Nat) (hcmp : CmpAt Try.prog w0 g fn cb ok cf) (l : List Int) (hok : ∀ x ∈ l, ok x) (hag : l.Pairwise (Agree R cf)) (hn : n ≤ 40) (h : SW 3 w0 g n l w) :
    Calls Try.prog 50 #[.slice (some ⟨g, 0, none⟩) n n, .int .i64 n, .func (.func fn) #[] cb] w (Done 3 w0 g n R l) := by
  have hl := h.len
  have hS := sym_c fn cb eg R ht ok cf w0 g n hcmp (by omega) n
  have HI := Lib.hid (fun (w : World) (P X S : List Int) (A B : Int) => fun h1 h2 h3 h4 => ins_i fn cb eg R ht ok cf w0 w g n hcmp P X S A B h1 h2 h3 h4 (by omega))
  have HS := Lib.hid hS
  have HOK := Lib.hid hok
  have HAG := Lib.hid hag
  have HW := Lib.hid h
  have HL := Lib.hid hl
  clear hS h hcmp hok hag hl
  by_cases h20 : n < 20
  · have hz : (n : Int) < 20 := by omega
    have hz2 : ¬ (20 : Int) ≤ (n : Int) := by omega
    go_enter Try.func50, Try.ntmps50
    go_wp2
    refine wp_loop_rounds 1 ?_
    rw [rounds_succ]
    go_wp2_with fail
    refine (HI.out _ [] l [] _ _ HOK.out HAG.out rfl (by rw [HL.out]; simp) (HW.out.cast (by simp))).mono ?_
    rintro e w1 ⟨rfl, Z, p1, s1, hw1⟩
    have HZ := Lib.hid (show ∃ Z : List Int, Z.Perm l ∧ Z.Pairwise R ∧ SW 3 w0 g n Z w1 from ⟨Z, p1, s1, hw1.cast (by simp)⟩)
    clear p1 s1 hw1
    go_wp2
    refine wp_loop_rounds 1 ?_
    rw [rounds_succ]
    go_wp2
    go_end0
    exact ⟨rfl, HZ.out⟩
  · have hz2 : (20 : Int) ≤ (n : Int) := by omega
    by_cases h20e : n = 20
    · have hz3 : ¬ (40 : Int) ≤ (n : Int) := by omega
      have hz4 : ¬ (20 : Int) < (n : Int) := by omega
      have HE := Lib.hid h20e
      clear h20 h20e
      go_enter Try.func50, Try.ntmps50
      go_wp2
      refine wp_loop_rounds 2 ?_
      rw [rounds_succ]
      go_wp2_with fail
      refine (HI.out _ [] l [] _ _ HOK.out HAG.out rfl (by rw [HL.out, HE.out]; simp) (HW.out.cast (by simp))).mono ?_
      rintro e w1 ⟨rfl, Z, p1, s1, hw1⟩
      have HZ := Lib.hid (show Z.Perm l ∧ Z.Pairwise R ∧ SW 3 w0 g n (Z ++ ([] ++ [])) w1 from ⟨p1, s1, hw1.cast (by simp)⟩)
      have HZL := Lib.hid (show Z.length = 20 by rw [p1.length_eq, HL.out, HE.out])
      clear p1 s1 hw1
      go_wp2
      rw [rounds_succ]
      go_wp2_with fail
      refine (HI.out _ Z [] [] _ _ (fun x hx => by cases hx) List.Pairwise.nil (by rw [HZL.out]; rfl) (by rw [HZL.out, HE.out]; rfl) HZ.out.2.2).mono ?_
      rintro e w2 ⟨rfl, Z2, p2, s2, hw2⟩
      have HF := Lib.hid (show ∃ Z : List Int, Z.Perm l ∧ Z.Pairwise R ∧ SW 3 w0 g n Z w2 from ⟨Z, HZ.out.1, HZ.out.2.1, hw2.cast (by rw [p2.eq_nil]; simp)⟩)
      clear p2 s2 hw2
      go_wp2
      refine wp_loop_rounds 1 ?_
      rw [rounds_succ]
      go_wp2
      go_end0
      exact ⟨rfl, HF.out⟩
    · have hz4 : (20 : Int) < (n : Int) := by omega
      have hla : (l.take 20).length = 20 := by have := HL.out; simp; omega
      have hlb : (l.drop 20).length = n - 20 := by have := HL.out; simp; omega
      have hsp : l.take 20 ++ l.drop 20 = l := List.take_append_drop 20 l
      obtain ⟨X, hX⟩ : ∃ X, l.take 20 = X := ⟨_, rfl⟩
      obtain ⟨Y, hY⟩ : ∃ Y, l.drop 20 = Y := ⟨_, rfl⟩
      rw [hX] at hla hsp
      rw [hY] at hlb hsp
      subst hsp
      obtain ⟨a1, a2, a3⟩ := List.pairwise_append.1 HAG.out
      have HXY := Lib.hid (show (X.length = 20 ∧ Y.length = n - 20) ∧ (X.Pairwise (Agree R cf) ∧ Y.Pairwise (Agree R cf) ∧ ∀ x ∈ X, ∀ y ∈ Y, Agree R cf x y) ∧ (∀ x ∈ X, ok x) ∧ (∀ y ∈ Y, ok y) from
        ⟨⟨hla, hlb⟩, ⟨a1, a2, a3⟩, fun x hx => HOK.out x (List.mem_append.2 (.inl hx)), fun x hx => HOK.out x (List.mem_append.2 (.inr hx))⟩)
      have HN := Lib.hid (show 20 < n ∧ n ≤ 40 by omega)
      clear hX hY hla hlb a1 a2 a3 h20 h20e
      by_cases h40 : n < 40
      · have hz5 : ¬ (40 : Int) ≤ (n : Int) := by omega
        have hz6 : ¬ (40 : Int) < (n : Int) := by omega
        clear h40
        go_enter Try.func50, Try.ntmps50
        go_wp2
        refine wp_loop_rounds 2 ?_
        rw [rounds_succ]
        go_wp2_with fail
        refine (HI.out _ [] X Y _ _ HXY.out.2.2.1 HXY.out.2.1.1 rfl (by rw [HXY.out.1.1]; rfl) HW.out).mono ?_
        rintro e w1 ⟨rfl, Z1, p1, s1, hw1⟩
        have H1 := Lib.hid (show Z1.Perm X ∧ Z1.Pairwise R ∧ Z1.length = 20 ∧ SW 3 w0 g n (Z1 ++ (Y ++ [])) w1 from ⟨p1, s1, by rw [p1.length_eq, HXY.out.1.1], hw1.cast (by simp)⟩)
        clear p1 s1 hw1
        go_wp2
        rw [rounds_succ]
        go_wp2_with fail
        refine (HI.out _ Z1 Y [] _ _ HXY.out.2.2.2 HXY.out.2.1.2.1 (by rw [H1.out.2.2.1]; rfl) (by rw [H1.out.2.2.1, HXY.out.1.2]; have := HN.out; omega) H1.out.2.2.2).mono ?_
        rintro e w2 ⟨rfl, Z2, p2, s2, hw2⟩
        have H2 := Lib.hid (show Z2.Perm Y ∧ Z2.Pairwise R ∧ Z2.length = n - 20 ∧ SW 3 w0 g n ([] ++ (Z1 ++ (Z2 ++ []))) w2 from ⟨p2, s2, by rw [p2.length_eq, HXY.out.1.2], hw2⟩)
        clear p2 s2 hw2
        go_wp2
        refine wp_loop_rounds 2 ?_
        rw [rounds_succ]
        go_wp2
        refine wp_loop_rounds 1 ?_
        rw [rounds_succ]
        go_wp2_with fail
        refine (HS.out _ [] Z1 Z2 [] _ _ _ (by rw [H1.out.2.2.1, H2.out.2.2.1]; have := HN.out; omega) rfl (by rw [H1.out.2.2.1]; rfl) (by rw [H1.out.2.2.1, H2.out.2.2.1]; simp; have := HN.out; omega) (by rw [H1.out.2.2.1]; omega) (by rw [H2.out.2.2.1]; have := HN.out; omega)
          (fun x hx => HXY.out.2.2.1 x (H1.out.1.mem_iff.1 hx)) (fun y hy => HXY.out.2.2.2 y (H2.out.1.mem_iff.1 hy)) H1.out.2.1 H2.out.2.1 (fun x hx y hy => HXY.out.2.1.2.2 x (H1.out.1.mem_iff.1 hx) y (H2.out.1.mem_iff.1 hy)) H2.out.2.2.2).mono ?_
        rintro e w3 ⟨rfl, Z3, p3, s3, hw3⟩
        have HF := Lib.hid (show ∃ Z : List Int, Z.Perm (X ++ Y) ∧ Z.Pairwise R ∧ SW 3 w0 g n Z w3 from ⟨Z3, p3.trans (H1.out.1.append H2.out.1), s3, hw3.cast (by simp)⟩)
        clear p3 s3 hw3
        go_wp2
        rw [rounds_succ]
        go_wp2
        go_end0
        exact ⟨rfl, HF.out⟩
      · have hz5 : (40 : Int) ≤ (n : Int) := by omega
        have hz6 : ¬ (40 : Int) < (n : Int) := by omega
        have hz7 : ¬ (60 : Int) ≤ (n : Int) := by omega
        have hz8 : ¬ (60 : Int) < (n : Int) := by omega
        have hz9 : ¬ (80 : Int) ≤ (n : Int) := by omega
        have HE := Lib.hid (show n = 40 by omega)
        clear h40
        go_enter Try.func50, Try.ntmps50
        go_wp2
        refine wp_loop_rounds 3 ?_
        rw [rounds_succ]
        go_wp2_with fail
        refine (HI.out _ [] X Y _ _ HXY.out.2.2.1 HXY.out.2.1.1 rfl (by rw [HXY.out.1.1]; rfl) HW.out).mono ?_
        rintro e w1 ⟨rfl, Z1, p1, s1, hw1⟩
        have H1 := Lib.hid (show Z1.Perm X ∧ Z1.Pairwise R ∧ Z1.length = 20 ∧ SW 3 w0 g n (Z1 ++ (Y ++ [])) w1 from ⟨p1, s1, by rw [p1.length_eq, HXY.out.1.1], hw1.cast (by simp)⟩)
        clear p1 s1 hw1
        go_wp2
        rw [rounds_succ]
        go_wp2_with fail
        refine (HI.out _ Z1 Y [] _ _ HXY.out.2.2.2 HXY.out.2.1.2.1 (by rw [H1.out.2.2.1]; rfl) (by rw [H1.out.2.2.1, HXY.out.1.2]; have := HE.out; omega) H1.out.2.2.2).mono ?_
        rintro e w2 ⟨rfl, Z2, p2, s2, hw2⟩
        have H2 := Lib.hid (show Z2.Perm Y ∧ Z2.Pairwise R ∧ Z2.length = n - 20 ∧ SW 3 w0 g n ((Z1 ++ Z2) ++ ([] ++ [])) w2 from ⟨p2, s2, by rw [p2.length_eq, HXY.out.1.2], hw2.cast (by simp)⟩)
        clear p2 s2 hw2
        go_wp2
        rw [rounds_succ]
        go_wp2_with fail
        refine (HI.out _ (Z1 ++ Z2) [] [] _ _ (fun x hx => by cases hx) List.Pairwise.nil (by rw [List.length_append, H1.out.2.2.1, H2.out.2.2.1, HE.out]; rfl) (by rw [List.length_append, H1.out.2.2.1, H2.out.2.2.1, HE.out]; rfl) H2.out.2.2.2).mono ?_
        rintro e w2' ⟨rfl, Z0, p0, s0, hw0⟩
        have H2' := Lib.hid (show Z2.Perm Y ∧ Z2.Pairwise R ∧ Z2.length = n - 20 ∧ SW 3 w0 g n ([] ++ (Z1 ++ (Z2 ++ []))) w2' from ⟨H2.out.1, H2.out.2.1, H2.out.2.2.1, hw0.cast (by rw [p0.eq_nil]; simp)⟩)
        clear p0 s0 hw0 H2
        have H2 := H2'
        clear H2'
        go_wp2
        refine wp_loop_rounds 2 ?_
        rw [rounds_succ]
        go_wp2
        refine wp_loop_rounds 2 ?_
        rw [rounds_succ]
        go_wp2_with fail
        refine (HS.out _ [] Z1 Z2 [] _ _ _ (by rw [H1.out.2.2.1, H2.out.2.2.1]; have := HN.out; omega) rfl (by rw [H1.out.2.2.1]; rfl) (by rw [H1.out.2.2.1, H2.out.2.2.1]; simp; have := HN.out; omega) (by rw [H1.out.2.2.1]; omega) (by rw [H2.out.2.2.1]; have := HN.out; omega)
          (fun x hx => HXY.out.2.2.1 x (H1.out.1.mem_iff.1 hx)) (fun y hy => HXY.out.2.2.2 y (H2.out.1.mem_iff.1 hy)) H1.out.2.1 H2.out.2.1 (fun x hx y hy => HXY.out.2.1.2.2 x (H1.out.1.mem_iff.1 hx) y (H2.out.1.mem_iff.1 hy)) H2.out.2.2.2).mono ?_
        rintro e w3 ⟨rfl, Z3, p3, s3, hw3⟩
        have HF := Lib.hid (show ∃ Z : List Int, Z.Perm (X ++ Y) ∧ Z.Pairwise R ∧ SW 3 w0 g n Z w3 from ⟨Z3, p3.trans (H1.out.1.append H2.out.1), s3, hw3.cast (by simp)⟩)
        clear p3 s3 hw3
        go_wp2
        rw [rounds_succ]
        go_wp2
        rw [rounds_succ]
        go_wp2
        go_end0
        exact ⟨rfl, HF.out⟩

def Ordered (T : Nat) (w0 : World) (g n : Nat) (R : Int → Int → Prop) (l : List Int) (e : Ending) (w' : World) : Prop := Done T w0 g n R l e w'
set_option maxHeartbeats 1000000 in
theorem sort_c (fn : FuncId) (cb : Array Value) (eg : ∀ args w, (callFunc fn args).run Try.prog w = .ok (.enter fn args) w) (R : Int → Int → Prop) (ht : Trans R) (ok : Int → Prop) (cf : Int → Int → Int)
    (w0 w : World) (g n : Nat) (hcmp : CmpAt Try.prog w0 g fn cb ok cf) (l : List Int) (hok : ∀ x ∈ l, ok x) (hag : l.Pairwise (Agree R cf)) (hn : n ≤ 40) (h : SW 3 w0 g n l w) :
    Calls Try.prog 44 #[.slice (some ⟨g, 0, none⟩) n n, .func (.func fn) #[] cb] w (Ordered 3 w0 g n R l) := by
  have HC := Lib.hid (stable_c fn cb eg R ht ok cf w0 w g n hcmp l hok hag hn h)
  clear hcmp hok hag h
  go_enter Try.func44, Try.ntmps44
  go_wp2_with fail
  refine HC.out.mono ?_
  rintro e w' ⟨rfl, hZ⟩
  have HZ := Lib.hid hZ
  clear hZ
  go_wp2
  go_end0
  exact ⟨rfl, HZ.out⟩
end Go.Proofs.Ytdmnagpnhphifaa.Stable

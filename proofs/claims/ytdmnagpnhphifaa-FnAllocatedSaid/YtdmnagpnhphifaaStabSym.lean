/- The contract of slices.symMergeCmpFunc: two sorted neighbouring blocks are merged, whatever their lengths. -/
import Derived.Test.YtdmnagpnhphifaaRows
import Derived.Test.YtdmnagpnhphifaaStab
import Derived.Test.YtdmnagpnhphifaaStabKit
import Derived.Test.YtdmnagpnhphifaaStabIns
import Derived.Test.YtdmnagpnhphifaaStabRot
import Derived.Test.YtdmnagpnhphifaaStabSym1
namespace Go.Proofs.Ytdmnagpnhphifaa.StabSym
open Go.RowKit Row1 CurKit Stab StabKit StabIns

/-- The merge of two blocks of together at most d elements, in any world of the sort. -/
def Merges (fn : FuncId) (cb : Array Value) (R : Int → Int → Prop) (ok : Int → Prop) (cf : Int → Int → Int) (w0 : World) (g n d : Nat) : Prop :=
  ∀ (w : World) (P X Y S : List Int) (A M B : Int), X.length + Y.length ≤ d → A = P.length → M = (P.length : Int) + X.length → B = (P.length : Int) + X.length + Y.length → 0 < X.length → 0 < Y.length →
    (∀ x ∈ X, ok x) → (∀ y ∈ Y, ok y) → X.Pairwise R → Y.Pairwise R → (∀ x ∈ X, ∀ y ∈ Y, Agree R cf x y) → SW 3 w0 g n (P ++ (X ++ (Y ++ S))) w →
    Calls Try.prog 53 #[.slice (some ⟨g, 0, none⟩) n n, .int .i64 A, .int .i64 M, .int .i64 B, .func (.func fn) #[] cb] w (Sorted 3 w0 g n R P (X ++ Y) S)

/-- What the search for the middle keeps: M the half of all, s and t where it stands. -/
structure Look (cf : Int → Int → Int) (X Y : List Int) (M s t : Nat) : Prop where
  lo : s = M - Y.length ∨ ¬ cf (Y.getD (M - s) 0) (X.getD (s - 1) 0) < 0
  hi : t = min M X.length ∨ cf (Y.getD (M - 1 - t) 0) (X.getD t 0) < 0
/-- The state behind the rotation. -/
def Turned (T : Nat) (w0 : World) (g n : Nat) (P X Y S : List Int) (s e : Nat) (w : World) : Prop := SW T w0 g n (P ++ (X.take s ++ (Y.take e ++ (X.drop s ++ (Y.drop e ++ S))))) w
/-- The state behind the first half's merge. -/
def Half1 (T : Nat) (w0 : World) (g n : Nat) (R : Int → Int → Prop) (P X Y S : List Int) (s e : Nat) (w : World) : Prop :=
  ∃ Z : List Int, Z.Perm (X.take s ++ Y.take e) ∧ Z.Pairwise R ∧ SW T w0 g n (P ++ (Z ++ (X.drop s ++ (Y.drop e ++ S)))) w
/-- The state behind the second half's merge. -/
def Half2 (T : Nat) (w0 : World) (g n : Nat) (R : Int → Int → Prop) (P X Y S : List Int) (s e : Nat) (w : World) : Prop :=
  ∃ Z1 Z2 : List Int, Z1.Perm (X.take s ++ Y.take e) ∧ Z1.Pairwise R ∧ Z2.Perm (X.drop s ++ Y.drop e) ∧ Z2.Pairwise R ∧ SW T w0 g n (P ++ (Z1 ++ (Z2 ++ S))) w
theorem Half2.all {T : Nat} {w0 w : World} {g n : Nat} {R : Int → Int → Prop} {cf : Int → Int → Int} {P X Y S : List Int} {s e M : Nat} (h : Half2 T w0 g n R P X Y S s e w) (ht : Trans R)
    (hX : X.Pairwise R) (hY : Y.Pairwise R) (hag : ∀ x ∈ X, ∀ y ∈ Y, Agree R cf x y) (hM : M = (X.length + Y.length) / 2) (hl : Look cf X Y M s s) (hs1 : M - Y.length ≤ s) (hs2 : s ≤ min M X.length) (he : e = M - s) :
    ∃ Z : List Int, Z.Perm (X ++ Y) ∧ Z.Pairwise R ∧ SW T w0 g n (P ++ (Z ++ S)) w := by
  obtain ⟨Z1, Z2, p1, s1, p2, s2, hw⟩ := h
  subst he
  have h := two_halves (cf := cf) ht X Y Z1 Z2 hX hY hag s (M - s) (by omega) (by omega) p1 p2 s1 s2
    (by
      rcases hl.lo with h | h
      · by_cases h0 : s = 0
        · exact .inl h0
        · exact .inr (.inl (by omega))
      · exact .inr (.inr h))
    (by
      rcases hl.hi with h | h
      · by_cases h0 : s = X.length
        · exact .inl h0
        · exact .inr (.inl (by omega))
      · refine .inr (.inr ?_)
        rw [show M - s - 1 = M - 1 - s by omega]
        exact h)
  exact ⟨Z1 ++ Z2, h.2, h.1, hw.cast (by rw [List.append_assoc])⟩
theorem turned_same {T : Nat} {w0 w : World} {g n : Nat} {P X Y S : List Int} {s e : Nat} (h : SW T w0 g n (P ++ (X ++ (Y ++ S))) w) (hs : s = X.length ∨ e = 0) : Turned T w0 g n P X Y S s e w := by
  refine h.cast ?_
  rcases hs with rfl | rfl
  · rw [List.take_of_length_le (Nat.le_refl _), List.drop_of_length_le (Nat.le_refl _), List.nil_append, ← List.append_assoc (Y.take e), List.take_append_drop]
  · rw [List.take_zero, List.drop_zero, List.nil_append, ← List.append_assoc (X.take s), List.take_append_drop]
theorem half1_same {T : Nat} {w0 w : World} {g n : Nat} {R : Int → Int → Prop} {P X Y S : List Int} {s e : Nat} (h : Turned T w0 g n P X Y S s e w) (hX : X.Pairwise R) (hY : Y.Pairwise R) (hs : s = 0 ∨ e = 0) :
    Half1 T w0 g n R P X Y S s e w := by
  rcases hs with rfl | rfl
  · exact ⟨Y.take e, List.Perm.refl _, hY.sublist (List.take_sublist _ _), h⟩
  · exact ⟨X.take s, by rw [List.take_zero, List.append_nil], hX.sublist (List.take_sublist _ _), h⟩
theorem half2_same {T : Nat} {w0 w : World} {g n : Nat} {R : Int → Int → Prop} {P X Y S : List Int} {s e : Nat} (h : Half1 T w0 g n R P X Y S s e w) (hX : X.Pairwise R) (hY : Y.Pairwise R) (hs : s = X.length ∨ e = Y.length) :
    Half2 T w0 g n R P X Y S s e w := by
  obtain ⟨Z, h1, h2, h3⟩ := h
  rcases hs with rfl | rfl
  · exact ⟨Z, Y.drop e, h1, h2, by rw [List.drop_of_length_le (Nat.le_refl _), List.nil_append], hY.sublist (List.drop_sublist _ _), h3.cast (by rw [List.drop_of_length_le (Nat.le_refl _), List.nil_append])⟩
  · exact ⟨Z, X.drop s, h1, h2, by rw [List.drop_of_length_le (Nat.le_refl _), List.append_nil], hX.sublist (List.drop_sublist _ _), h3.cast (by rw [List.drop_of_length_le (Nat.le_refl _), List.nil_append])⟩

theorem rot_turn (fn : FuncId) (cb : Array Value) (w0 w : World) (g n : Nat) (P X Y S : List Int) (s e : Nat) (A M B : Int) (hA : A = (P.length : Int) + s) (hM : M = (P.length : Int) + X.length) (hB : B = (P.length : Int) + X.length + e) (hs : s < X.length) (he0 : 0 < e) (he : e ≤ Y.length) (hn : n ≤ 1099511627776)
    (h : SW 3 w0 g n (P ++ (X ++ (Y ++ S))) w) :
    Calls Try.prog 54 #[.slice (some ⟨g, 0, none⟩) n n, .int .i64 A, .int .i64 M, .int .i64 B, .func (.func fn) #[] cb] w fun e' w' => e' = .returned (.tuple #[]) ∧ Turned 3 w0 g n P X Y S s e w' := by
  have l1 : (P ++ X.take s).length = P.length + s := by simp; omega
  have l2 : (X.drop s).length = X.length - s := by simp
  have l3 : (Y.take e).length = e := by simp; omega
  refine (StabRot.rot_i (.func (.func fn) #[] cb) w0 w g n A M B (P ++ X.take s) (X.drop s) (Y.take e) (Y.drop e ++ S) (by omega) (by omega) (by omega) (by omega) (by omega) hn (h.cast ?_)).mono ?_
  · rw [List.append_assoc P, ← List.append_assoc (X.take s), List.take_append_drop, ← List.append_assoc (Y.take e), List.take_append_drop]
  · rintro e' w' ⟨rfl, hs'⟩
    exact ⟨rfl, hs'.cast (by rw [List.append_assoc P])⟩
theorem first_c {fn : FuncId} {cb : Array Value} {R : Int → Int → Prop} {ok : Int → Prop} {cf : Int → Int → Int} {w0 w : World} {g n d : Nat} (ih : Merges fn cb R ok cf w0 g n d) (P X Y S : List Int) (s e : Nat) (A M B : Int) (hA : A = P.length) (hM : M = (P.length : Int) + s) (hB : B = (P.length : Int) + s + e)
    (hs0 : 0 < s) (hs : s ≤ X.length) (he0 : 0 < e) (he : e ≤ Y.length) (hd : s + e ≤ d) (hokX : ∀ x ∈ X, ok x) (hokY : ∀ y ∈ Y, ok y) (hX : X.Pairwise R) (hY : Y.Pairwise R) (hag : ∀ x ∈ X, ∀ y ∈ Y, Agree R cf x y) (h : Turned 3 w0 g n P X Y S s e w) :
    Calls Try.prog 53 #[.slice (some ⟨g, 0, none⟩) n n, .int .i64 A, .int .i64 M, .int .i64 B, .func (.func fn) #[] cb] w fun e' w' => e' = .returned (.tuple #[]) ∧ Half1 3 w0 g n R P X Y S s e w' := by
  have l1 : (X.take s).length = s := by simp; omega
  have l2 : (Y.take e).length = e := by simp; omega
  refine (ih w P (X.take s) (Y.take e) (X.drop s ++ (Y.drop e ++ S)) A M B (by omega) hA (by omega) (by omega) (by omega) (by omega) (fun x hx => hokX x (List.mem_of_mem_take hx)) (fun y hy => hokY y (List.mem_of_mem_take hy)) (hX.sublist (List.take_sublist _ _)) (hY.sublist (List.take_sublist _ _)) (fun x hx y hy => hag x (List.mem_of_mem_take hx) y (List.mem_of_mem_take hy)) h).mono ?_
  rintro e' w' ⟨rfl, h⟩
  exact ⟨rfl, h⟩
theorem second_c {fn : FuncId} {cb : Array Value} {R : Int → Int → Prop} {ok : Int → Prop} {cf : Int → Int → Int} {w0 w : World} {g n d : Nat} (ih : Merges fn cb R ok cf w0 g n d) (P X Y S : List Int) (s e : Nat) (A M B : Int) (hA : A = (P.length : Int) + s + e) (hM : M = (P.length : Int) + X.length + e) (hB : B = (P.length : Int) + X.length + Y.length)
    (hs : s < X.length) (he : e < Y.length) (hd : X.length - s + (Y.length - e) ≤ d) (hokX : ∀ x ∈ X, ok x) (hokY : ∀ y ∈ Y, ok y) (hX : X.Pairwise R) (hY : Y.Pairwise R) (hag : ∀ x ∈ X, ∀ y ∈ Y, Agree R cf x y) (h : Half1 3 w0 g n R P X Y S s e w) :
    Calls Try.prog 53 #[.slice (some ⟨g, 0, none⟩) n n, .int .i64 A, .int .i64 M, .int .i64 B, .func (.func fn) #[] cb] w fun e' w' => e' = .returned (.tuple #[]) ∧ Half2 3 w0 g n R P X Y S s e w' := by
  obtain ⟨Z, p1, s1, hw⟩ := h
  have l0 : Z.length = s + e := by rw [p1.length_eq]; simp; omega
  have l1 : (X.drop s).length = X.length - s := by simp
  have l2 : (Y.drop e).length = Y.length - e := by simp
  have l3 : (P ++ Z).length = P.length + (s + e) := by simp [l0]
  refine (ih w (P ++ Z) (X.drop s) (Y.drop e) S A M B (by omega) (by omega) (by omega) (by omega) (by omega) (by omega) (fun x hx => hokX x (List.mem_of_mem_drop hx)) (fun y hy => hokY y (List.mem_of_mem_drop hy)) (hX.sublist (List.drop_sublist _ _)) (hY.sublist (List.drop_sublist _ _)) (fun x hx y hy => hag x (List.mem_of_mem_drop hx) y (List.mem_of_mem_drop hy)) (hw.cast (by rw [List.append_assoc P]))).mono ?_
  rintro e' w' ⟨rfl, Z2, p2, s2, h⟩
  exact ⟨rfl, Z, Z2, p1, s1, p2, s2, h.cast (by rw [List.append_assoc P])⟩

set_option maxRecDepth 100000 in
set_option maxHeartbeats 16000000 in
theorem main_c (fn : FuncId) (cb : Array Value) (eg : ∀ args w, (callFunc fn args).run Try.prog w = .ok (.enter fn args) w) (R : Int → Int → Prop) (ht : Trans R) (ok : Int → Prop) (cf : Int → Int → Int)
    (w0 w : World) (g n a d : Nat) (hcmp : CmpAt Try.prog w0 g fn cb ok cf) (ih : Merges fn cb R ok cf w0 g n d) (P X Y S : List Int) (hd : X.length + Y.length ≤ d + 1) (hokX : ∀ x ∈ X, ok x) (hokY : ∀ y ∈ Y, ok y) (hX : X.Pairwise R) (hY : Y.Pairwise R)
    (hag : ∀ x ∈ X, ∀ y ∈ Y, Agree R cf x y) (hX2 : 2 ≤ X.length) (hY2 : 2 ≤ Y.length) (ha : a = P.length) (hn : n ≤ 1099511627776)
    (h : SW 3 w0 g n (P ++ (X ++ (Y ++ S))) w) (N K : Nat) (hN : X.length = N) (hK : Y.length = K) :
    Calls Try.prog 53 #[.slice (some ⟨g, 0, none⟩) n n, .int .i64 a, .int .i64 ((a : Int) + (N : Int)), .int .i64 ((a : Int) + (N : Int) + (K : Int)), .func (.func fn) #[] cb] w (Sorted 3 w0 g n R P (X ++ Y) S) := by
  have hlen := h.len
  have hbn : a + N + K ≤ n := by simp only [List.length_append] at hlen; omega
  obtain ⟨M, hM⟩ : ∃ M, (N + K) / 2 = M := ⟨_, rfl⟩
  obtain ⟨l, hl⟩ : ∃ l, P ++ (X ++ (Y ++ S)) = l := ⟨_, rfl⟩
  have hlx : ∀ t, t < N → l.getD (a + t) 0 = X.getD t 0 := fun t ht => by
    rw [← hl]
    exact getD_at P X (Y ++ S) t (by omega) _ (by omega)
  have hly : ∀ t, t < K → l.getD (a + N + t) 0 = Y.getD t 0 := fun t ht => by
    rw [← hl, ← List.append_assoc]
    exact getD_at (P ++ X) Y S t (by omega) _ (by simp; omega)
  rw [hl] at h
  have HS := Lib.hid h
  have HC := Lib.hid hcmp
  have HI := Lib.hid ih
  have HOX := Lib.hid hokX
  have HOY := Lib.hid hokY
  have HG := Lib.hid hag
  have HX := Lib.hid hX
  have HY := Lib.hid hY
  have HT := Lib.hid ht
  have HA := Lib.hid ha
  have HN := Lib.hid hN
  have HK := Lib.hid hK
  have HL := Lib.hid hl
  have HLX := Lib.hid hlx
  have HLY := Lib.hid hly
  have HM := Lib.hid hM
  have hN2 : 2 ≤ N := by omega
  have hK2 : 2 ≤ K := by omega
  have hNKd : N + K ≤ d + 1 := by omega
  have hM1 : 2 * M ≤ N + K := by omega
  have hM2 : N + K ≤ 2 * M + 1 := by omega
  have e1 : ((a : Int) + (N : Int) - (a : Int) == 1) = false := by rw [beq_eq_false_iff_ne]; omega
  have e2 : ((a : Int) + (N : Int) + (K : Int) - ((a : Int) + (N : Int)) == 1) = false := by rw [beq_eq_false_iff_ne]; omega
  have EM : ((a : Int) + ((a : Int) + (N : Int) + (K : Int))) / 2 = (a : Int) + (M : Int) := by omega
  obtain ⟨nn, hnn⟩ : ∃ nn : Int, (a : Int) + (M : Int) + ((a : Int) + (N : Int)) = nn := ⟨_, rfl⟩
  obtain ⟨pp, hpp⟩ : ∃ pp : Int, nn - 1 = pp := ⟨_, rfl⟩
  have HNP := Lib.hid (And.intro hnn hpp)
  clear hlen h hcmp ih hokX hokY hag hX hY ht ha hN hK hl hlx hly hM hX2 hY2 hd
  have hcase : (M < N ∧ nn - ((a : Int) + (N : Int) + (K : Int)) = (a : Int) + ((M - K : Nat) : Int)) ∨ (¬ M < N ∧ M - K = 0) := by omega
  rcases hcase with ⟨hMN, hst⟩ | ⟨hMN, hst⟩
  all_goals
    have hMNz : (if M < N then (a : Int) + (M : Int) < (a : Int) + (N : Int) else ¬ (a : Int) + (M : Int) < (a : Int) + (N : Int)) := by split <;> omega
    first | rw [if_pos hMN] at hMNz | rw [if_neg hMN] at hMNz
    go_enter Try.func53, Try.ntmps53
    go_wp2
    go_loopg [20, 21] (N + K) (fun g1 u v wr => ∃ s t : Nat, s ≤ t ∧ M ≤ s + K ∧ t ≤ M ∧ t ≤ N ∧ t - s ≤ g1 ∧ u = .int .i64 ((a : Int) + (s : Int)) ∧ v = .int .i64 ((a : Int) + (t : Int)) ∧ Hid (SW 3 w0 g n l wr) ∧ Hid (Look cf X Y M s t))
    case atStart =>
      first
        | exact ⟨M - K, M, by omega, by omega, by omega, by omega, by omega, rfl, rfl, HS, .inl (by rw [HK.out]), .inl (by rw [HN.out]; omega)⟩
        | exact ⟨0, N, by omega, by omega, by omega, by omega, by omega, by simp, rfl, HS, .inl (by rw [HK.out]; omega), .inl (by rw [HN.out]; omega)⟩
    case round =>
      clear HS
      obtain ⟨s, t, hst2, hs1, ht1, ht2, hg1, rfl, rfl, hsw, hlk⟩ := hrel
      by_cases hlt : s < t
      · have hltz : (a : Int) + (s : Int) < (a : Int) + (t : Int) := by omega
        obtain ⟨h, hh⟩ : ∃ h : Nat, (s + t) / 2 = h := ⟨_, rfl⟩
        have hh1 : s ≤ h := by omega
        have hh2 : h < t := by omega
        have EH : ((a : Int) + (s : Int) + ((a : Int) + (t : Int))) / 2 = (a : Int) + (h : Int) := by omega
        obtain ⟨u, hu⟩ : ∃ u : Nat, M - 1 - h = u := ⟨_, rfl⟩
        have hu2 : u < K := by omega
        obtain ⟨x, hx⟩ : ∃ x, X.getD h 0 = x := ⟨_, rfl⟩
        obtain ⟨y, hy⟩ : ∃ y, Y.getD u 0 = y := ⟨_, rfl⟩
        have hxX : x ∈ X := by rw [← hx]; exact getD_mem X h (by rw [HN.out]; omega)
        have hyY : y ∈ Y := by rw [← hy]; exact getD_mem Y u (by rw [HK.out]; omega)
        have c1 := hsw.out.c (a + h) (by omega)
        have c2 := hsw.out.c (a + N + u) (by omega)
        rw [HLX.out h (by omega), hx] at c1
        rw [HLY.out u (by omega), hy] at c2
        have hc := fun k => HC.out.on hsw.out y x (HOY.out y hyY) (HOX.out x hxX) k
        obtain ⟨i1, hi1⟩ : ∃ i1, a + h = i1 := ⟨_, rfl⟩
        obtain ⟨j1, hj1⟩ : ∃ j1, a + N + u = j1 := ⟨_, rfl⟩
        rw [hi1] at c1
        rw [hj1] at c2
        have ea : ((a : Int) + (h : Int)).toNat = i1 := by omega
        have pa : (0 : Int) ≤ (a : Int) + (h : Int) := by omega
        have ba : (a : Int) + (h : Int) < (n : Int) := by omega
        have hpu : pp - ((a : Int) + (h : Int)) = (a : Int) + (N : Int) + (u : Int) := by have := HNP.out; omega
        have rb : IntKind.i64.wrap (pp - ((a : Int) + (h : Int))) = (a : Int) + (N : Int) + (u : Int) := by rw [hpu]; exact IntWalk.i64_in _ (by omega)
        have eb : ((a : Int) + (N : Int) + (u : Int)).toNat = j1 := by omega
        have pb : (0 : Int) ≤ (a : Int) + (N : Int) + (u : Int) := by omega
        have bb : (a : Int) + (N : Int) + (u : Int) < (n : Int) := by omega
        have HXY := Lib.hid (And.intro hx (And.intro hy hu))
        clear hh hx hy hxX hyY hi1 hj1 hu hpu
        have han : a ≤ n := by omega
        have hsn : s ≤ n := by omega
        have htn : t ≤ n := by omega
        have HB := Lib.hid (show (M ≤ s + K ∧ t ≤ M ∧ t ≤ N ∧ t - s ≤ gk) ∧ (s ≤ h ∧ h < t) from ⟨⟨hs1, ht1, ht2, hg1⟩, hh1, hh2⟩)
        clear e1 e2 EM hst hMNz hs1 ht1 ht2 hg1 hM1 hM2 hNKd hN2 hK2 hMN hbn hu2 hst2 hh1 hh2 hlt
        by_cases hlt0 : cf y x < 0
        · have HV := Lib.hid (show Look cf X Y M s h from ⟨hlk.out.lo, .inr (by rw [HXY.out.2.2, HXY.out.1, HXY.out.2.1]; exact hlt0)⟩)
          obtain ⟨z, hz⟩ : ∃ z, cf y x = z := ⟨_, rfl⟩
          rw [hz] at hc hlt0
          have hcd2 : decide (z < 0) = true := decide_eq_true hlt0
          clear hz hlk
          go_wp2_with fail
          go_quiet ((go_at_fn fn; exact hc _))
          have HW2 := Lib.hid (hsw.out.drewN nq)
          clear hc c1 c2 hsw EH ea eb rb
          generalize wr.drewN nq = w2 at HW2 ⊢
          go_wp2
          obtain ⟨⟨hs1, ht1, ht2, hg1⟩, hh1, hh2⟩ := HB.out
          go_roundg (h - s)
          case measure => omega
          case rel => exact ⟨s, h, hh1, by omega, by omega, by omega, Nat.le_refl _, rfl, rfl, HW2, HV⟩
        · have HV := Lib.hid (show Look cf X Y M (h + 1) t from ⟨.inr (by rw [show M - (h + 1) = M - 1 - h by omega, HXY.out.2.2, Nat.add_sub_cancel, HXY.out.1, HXY.out.2.1]; exact hlt0), hlk.out.hi⟩)
          obtain ⟨z, hz⟩ : ∃ z, cf y x = z := ⟨_, rfl⟩
          rw [hz] at hc hlt0
          have hcd2 : decide (z < 0) = false := decide_eq_false hlt0
          clear hz hlk
          go_wp2_with fail
          go_quiet ((go_at_fn fn; exact hc _))
          have HW2 := Lib.hid (hsw.out.drewN nq)
          clear hc c1 c2 hsw EH ea eb rb
          generalize wr.drewN nq = w2 at HW2 ⊢
          go_wp2
          obtain ⟨⟨hs1, ht1, ht2, hg1⟩, hh1, hh2⟩ := HB.out
          go_roundg (t - (h + 1))
          case measure => omega
          case rel => exact ⟨h + 1, t, by omega, by omega, by omega, by omega, Nat.le_refl _, by go_num, rfl, HW2, HV⟩
      · obtain rfl : s = t := by omega
        have hge : ¬ (a : Int) + (s : Int) < (a : Int) + (s : Int) := by omega
        obtain ⟨e, he⟩ : ∃ e : Nat, M - s = e := ⟨_, rfl⟩
        have EE : nn - ((a : Int) + (s : Int)) = (a : Int) + (N : Int) + (e : Int) := by have := HNP.out; omega
        have hM3 : M = s + e := by omega
        have HLK := Lib.hid hlk.out
        have HSL := Lib.hid (hsw.out.cast HL.out.symm)
        have hcs : (s = N ∧ s < M) ∨ (s = N ∧ s = M) ∨ (s < N ∧ e = 0) ∨ (0 < s ∧ s < N ∧ 0 < e ∧ e < K) ∨ (0 < s ∧ s < N ∧ 0 < e ∧ e = K) ∨ (s = 0 ∧ 0 < e ∧ e < K) ∨ (s = 0 ∧ 0 < e ∧ e = K) := by omega
        clear hlk hsw he hst hMN e1 e2 EM hMNz hg1
        rcases hcs with ⟨k0, k1⟩ | ⟨k0, k1⟩ | ⟨k0, k1⟩ | ⟨k0, k1, k2, k3⟩ | ⟨k0, k1, k2, k3⟩ | ⟨k0, k1, k2⟩ | ⟨k0, k1, k2⟩
        · have f1 : decide ((a : Int) + (s : Int) < (a : Int) + (N : Int)) = false := decide_eq_false (by omega)
          have g1 : ¬ (a : Int) + (s : Int) < (a : Int) + (N : Int) := by omega
          have f3 : (a : Int) < (a : Int) + (s : Int) := by omega
          have f4 : (a : Int) + (s : Int) < (a : Int) + (M : Int) := by omega
          have f5 : decide ((a : Int) + (M : Int) < (a : Int) + (N : Int) + (e : Int)) = false := decide_eq_false (by omega)
          have g5 : ¬ (a : Int) + (M : Int) < (a : Int) + (N : Int) + (e : Int) := by omega
          have HB := Lib.hid (show (M ≤ s + K ∧ s ≤ M ∧ s ≤ N) ∧ M = s + e ∧ N + K ≤ d + 1 ∧ 2 ≤ N ∧ 2 ≤ K ∧ (2 * M ≤ N + K ∧ N + K ≤ 2 * M + 1) ∧ (s = N ∧ s < M) from by omega)
          have han : a ≤ n := by omega
          have hsn : s ≤ n := by omega
          have hNn : N ≤ n := by omega
          have hKn : K ≤ n := by omega
          have hen : e ≤ n := by omega
          have hMn : M ≤ n := by omega
          clear hs1 ht1 ht2 hM3 hNKd hN2 hK2 hM1 hM2 hbn hst2 hlt k0 k1
          have HT2 := Lib.hid (turned_same (s := s) (e := e) HSL.out (by rw [HN.out]; have := HB.out; omega))
          clear HSL
          go_wp2_with fail
          refine (first_c HI.out P X Y S s e _ _ _ (by rw [← HA.out]) (by rw [← HA.out]) (by rw [← HA.out]; have := HB.out; omega) (by have := HB.out; omega) (by rw [HN.out]; have := HB.out; omega) (by have := HB.out; omega) (by rw [HK.out]; have := HB.out; omega) (by have := HB.out; omega) HOX.out HOY.out HX.out HY.out HG.out HT2.out).mono ?_
          rintro e' w3 ⟨rfl, ht3⟩
          have HT3 := Lib.hid ht3
          clear ht3 HT2
          have HT4 := Lib.hid (half2_same HT3.out HX.out HY.out (by rw [HN.out, HK.out]; have := HB.out; omega))
          clear HT3
          have HF := Lib.hid (HT4.out.all HT.out HX.out HY.out HG.out (by rw [HN.out, HK.out, HM.out]) HLK.out (by rw [HK.out]; have := HB.out; omega) (by rw [HN.out]; have := HB.out; omega) (by have := HB.out; omega))
          clear HT4
          go_wp2
          go_end0
          exact ⟨rfl, HF.out⟩
        · have f1 : decide ((a : Int) + (s : Int) < (a : Int) + (N : Int)) = false := decide_eq_false (by omega)
          have g1 : ¬ (a : Int) + (s : Int) < (a : Int) + (N : Int) := by omega
          have f3 : (a : Int) < (a : Int) + (s : Int) := by omega
          have f4 : decide ((a : Int) + (s : Int) < (a : Int) + (M : Int)) = false := decide_eq_false (by omega)
          have g4 : ¬ (a : Int) + (s : Int) < (a : Int) + (M : Int) := by omega
          have f5 : decide ((a : Int) + (M : Int) < (a : Int) + (N : Int) + (e : Int)) = false := decide_eq_false (by omega)
          have g5 : ¬ (a : Int) + (M : Int) < (a : Int) + (N : Int) + (e : Int) := by omega
          have HB := Lib.hid (show (M ≤ s + K ∧ s ≤ M ∧ s ≤ N) ∧ M = s + e ∧ N + K ≤ d + 1 ∧ 2 ≤ N ∧ 2 ≤ K ∧ (2 * M ≤ N + K ∧ N + K ≤ 2 * M + 1) ∧ (s = N ∧ s = M) from by omega)
          have han : a ≤ n := by omega
          have hsn : s ≤ n := by omega
          have hNn : N ≤ n := by omega
          have hKn : K ≤ n := by omega
          have hen : e ≤ n := by omega
          have hMn : M ≤ n := by omega
          clear hs1 ht1 ht2 hM3 hNKd hN2 hK2 hM1 hM2 hbn hst2 hlt k0 k1
          have HT2 := Lib.hid (turned_same (s := s) (e := e) HSL.out (by rw [HN.out]; have := HB.out; omega))
          clear HSL
          have HT3 := Lib.hid (half1_same HT2.out HX.out HY.out (by have := HB.out; omega))
          clear HT2
          have HT4 := Lib.hid (half2_same HT3.out HX.out HY.out (by rw [HN.out, HK.out]; have := HB.out; omega))
          clear HT3
          have HF := Lib.hid (HT4.out.all HT.out HX.out HY.out HG.out (by rw [HN.out, HK.out, HM.out]) HLK.out (by rw [HK.out]; have := HB.out; omega) (by rw [HN.out]; have := HB.out; omega) (by have := HB.out; omega))
          clear HT4
          go_wp2
          go_end0
          exact ⟨rfl, HF.out⟩
        · have f1 : (a : Int) + (s : Int) < (a : Int) + (N : Int) := by omega
          have f2 : decide ((a : Int) + (N : Int) < (a : Int) + (N : Int) + (e : Int)) = false := decide_eq_false (by omega)
          have g2 : ¬ (a : Int) + (N : Int) < (a : Int) + (N : Int) + (e : Int) := by omega
          have f3 : (a : Int) < (a : Int) + (s : Int) := by omega
          have f4 : decide ((a : Int) + (s : Int) < (a : Int) + (M : Int)) = false := decide_eq_false (by omega)
          have g4 : ¬ (a : Int) + (s : Int) < (a : Int) + (M : Int) := by omega
          have f5 : (a : Int) + (M : Int) < (a : Int) + (N : Int) + (e : Int) := by omega
          have f6 : (a : Int) + (N : Int) + (e : Int) < (a : Int) + (N : Int) + (K : Int) := by omega
          have HB := Lib.hid (show (M ≤ s + K ∧ s ≤ M ∧ s ≤ N) ∧ M = s + e ∧ N + K ≤ d + 1 ∧ 2 ≤ N ∧ 2 ≤ K ∧ (2 * M ≤ N + K ∧ N + K ≤ 2 * M + 1) ∧ (s < N ∧ e = 0) from by omega)
          have han : a ≤ n := by omega
          have hsn : s ≤ n := by omega
          have hNn : N ≤ n := by omega
          have hKn : K ≤ n := by omega
          have hen : e ≤ n := by omega
          have hMn : M ≤ n := by omega
          clear hs1 ht1 ht2 hM3 hNKd hN2 hK2 hM1 hM2 hbn hst2 hlt k0 k1
          have HT2 := Lib.hid (turned_same (s := s) (e := e) HSL.out (by rw [HN.out]; have := HB.out; omega))
          clear HSL
          have HT3 := Lib.hid (half1_same HT2.out HX.out HY.out (by have := HB.out; omega))
          clear HT2
          go_wp2_with fail
          refine (second_c HI.out P X Y S s e _ _ _ (by rw [← HA.out]; have := HB.out; omega) (by rw [← HA.out, HN.out]) (by rw [← HA.out, HN.out, HK.out]) (by rw [HN.out]; have := HB.out; omega) (by rw [HK.out]; have := HB.out; omega) (by rw [HN.out, HK.out]; have := HB.out; omega) HOX.out HOY.out HX.out HY.out HG.out HT3.out).mono ?_
          rintro e' w4 ⟨rfl, ht4⟩
          have HT4 := Lib.hid ht4
          clear ht4 HT3
          have HF := Lib.hid (HT4.out.all HT.out HX.out HY.out HG.out (by rw [HN.out, HK.out, HM.out]) HLK.out (by rw [HK.out]; have := HB.out; omega) (by rw [HN.out]; have := HB.out; omega) (by have := HB.out; omega))
          clear HT4
          go_wp2
          go_end0
          exact ⟨rfl, HF.out⟩
        · have f1 : (a : Int) + (s : Int) < (a : Int) + (N : Int) := by omega
          have f2 : (a : Int) + (N : Int) < (a : Int) + (N : Int) + (e : Int) := by omega
          have f3 : (a : Int) < (a : Int) + (s : Int) := by omega
          have f4 : (a : Int) + (s : Int) < (a : Int) + (M : Int) := by omega
          have f5 : (a : Int) + (M : Int) < (a : Int) + (N : Int) + (e : Int) := by omega
          have f6 : (a : Int) + (N : Int) + (e : Int) < (a : Int) + (N : Int) + (K : Int) := by omega
          have HB := Lib.hid (show (M ≤ s + K ∧ s ≤ M ∧ s ≤ N) ∧ M = s + e ∧ N + K ≤ d + 1 ∧ 2 ≤ N ∧ 2 ≤ K ∧ (2 * M ≤ N + K ∧ N + K ≤ 2 * M + 1) ∧ (0 < s ∧ s < N ∧ 0 < e ∧ e < K) from by omega)
          have han : a ≤ n := by omega
          have hsn : s ≤ n := by omega
          have hNn : N ≤ n := by omega
          have hKn : K ≤ n := by omega
          have hen : e ≤ n := by omega
          have hMn : M ≤ n := by omega
          clear hs1 ht1 ht2 hM3 hNKd hN2 hK2 hM1 hM2 hbn hst2 hlt k0 k1 k2 k3
          go_wp2_with fail
          refine (rot_turn fn cb w0 _ g n P X Y S s e _ _ _ (by rw [← HA.out]) (by rw [← HA.out, HN.out]) (by rw [← HA.out, HN.out]) (by rw [HN.out]; have := HB.out; omega) (by have := HB.out; omega) (by rw [HK.out]; have := HB.out; omega) hn HSL.out).mono ?_
          rintro e' w2 ⟨rfl, ht2⟩
          have HT2 := Lib.hid ht2
          clear ht2 HSL
          go_wp2_with fail
          refine (first_c HI.out P X Y S s e _ _ _ (by rw [← HA.out]) (by rw [← HA.out]) (by rw [← HA.out]; have := HB.out; omega) (by have := HB.out; omega) (by rw [HN.out]; have := HB.out; omega) (by have := HB.out; omega) (by rw [HK.out]; have := HB.out; omega) (by have := HB.out; omega) HOX.out HOY.out HX.out HY.out HG.out HT2.out).mono ?_
          rintro e' w3 ⟨rfl, ht3⟩
          have HT3 := Lib.hid ht3
          clear ht3 HT2
          go_wp2_with fail
          refine (second_c HI.out P X Y S s e _ _ _ (by rw [← HA.out]; have := HB.out; omega) (by rw [← HA.out, HN.out]) (by rw [← HA.out, HN.out, HK.out]) (by rw [HN.out]; have := HB.out; omega) (by rw [HK.out]; have := HB.out; omega) (by rw [HN.out, HK.out]; have := HB.out; omega) HOX.out HOY.out HX.out HY.out HG.out HT3.out).mono ?_
          rintro e' w4 ⟨rfl, ht4⟩
          have HT4 := Lib.hid ht4
          clear ht4 HT3
          have HF := Lib.hid (HT4.out.all HT.out HX.out HY.out HG.out (by rw [HN.out, HK.out, HM.out]) HLK.out (by rw [HK.out]; have := HB.out; omega) (by rw [HN.out]; have := HB.out; omega) (by have := HB.out; omega))
          clear HT4
          go_wp2
          go_end0
          exact ⟨rfl, HF.out⟩
        · have f1 : (a : Int) + (s : Int) < (a : Int) + (N : Int) := by omega
          have f2 : (a : Int) + (N : Int) < (a : Int) + (N : Int) + (e : Int) := by omega
          have f3 : (a : Int) < (a : Int) + (s : Int) := by omega
          have f4 : (a : Int) + (s : Int) < (a : Int) + (M : Int) := by omega
          have f5 : (a : Int) + (M : Int) < (a : Int) + (N : Int) + (e : Int) := by omega
          have f6 : decide ((a : Int) + (N : Int) + (e : Int) < (a : Int) + (N : Int) + (K : Int)) = false := decide_eq_false (by omega)
          have g6 : ¬ (a : Int) + (N : Int) + (e : Int) < (a : Int) + (N : Int) + (K : Int) := by omega
          have HB := Lib.hid (show (M ≤ s + K ∧ s ≤ M ∧ s ≤ N) ∧ M = s + e ∧ N + K ≤ d + 1 ∧ 2 ≤ N ∧ 2 ≤ K ∧ (2 * M ≤ N + K ∧ N + K ≤ 2 * M + 1) ∧ (0 < s ∧ s < N ∧ 0 < e ∧ e = K) from by omega)
          have han : a ≤ n := by omega
          have hsn : s ≤ n := by omega
          have hNn : N ≤ n := by omega
          have hKn : K ≤ n := by omega
          have hen : e ≤ n := by omega
          have hMn : M ≤ n := by omega
          clear hs1 ht1 ht2 hM3 hNKd hN2 hK2 hM1 hM2 hbn hst2 hlt k0 k1 k2 k3
          go_wp2_with fail
          refine (rot_turn fn cb w0 _ g n P X Y S s e _ _ _ (by rw [← HA.out]) (by rw [← HA.out, HN.out]) (by rw [← HA.out, HN.out]) (by rw [HN.out]; have := HB.out; omega) (by have := HB.out; omega) (by rw [HK.out]; have := HB.out; omega) hn HSL.out).mono ?_
          rintro e' w2 ⟨rfl, ht2⟩
          have HT2 := Lib.hid ht2
          clear ht2 HSL
          go_wp2_with fail
          refine (first_c HI.out P X Y S s e _ _ _ (by rw [← HA.out]) (by rw [← HA.out]) (by rw [← HA.out]; have := HB.out; omega) (by have := HB.out; omega) (by rw [HN.out]; have := HB.out; omega) (by have := HB.out; omega) (by rw [HK.out]; have := HB.out; omega) (by have := HB.out; omega) HOX.out HOY.out HX.out HY.out HG.out HT2.out).mono ?_
          rintro e' w3 ⟨rfl, ht3⟩
          have HT3 := Lib.hid ht3
          clear ht3 HT2
          have HT4 := Lib.hid (half2_same HT3.out HX.out HY.out (by rw [HN.out, HK.out]; have := HB.out; omega))
          clear HT3
          have HF := Lib.hid (HT4.out.all HT.out HX.out HY.out HG.out (by rw [HN.out, HK.out, HM.out]) HLK.out (by rw [HK.out]; have := HB.out; omega) (by rw [HN.out]; have := HB.out; omega) (by have := HB.out; omega))
          clear HT4
          go_wp2
          go_end0
          exact ⟨rfl, HF.out⟩
        · have f1 : (a : Int) + (s : Int) < (a : Int) + (N : Int) := by omega
          have f2 : (a : Int) + (N : Int) < (a : Int) + (N : Int) + (e : Int) := by omega
          have f3 : decide ((a : Int) < (a : Int) + (s : Int)) = false := decide_eq_false (by omega)
          have g3 : ¬ (a : Int) < (a : Int) + (s : Int) := by omega
          have f5 : (a : Int) + (M : Int) < (a : Int) + (N : Int) + (e : Int) := by omega
          have f6 : (a : Int) + (N : Int) + (e : Int) < (a : Int) + (N : Int) + (K : Int) := by omega
          have HB := Lib.hid (show (M ≤ s + K ∧ s ≤ M ∧ s ≤ N) ∧ M = s + e ∧ N + K ≤ d + 1 ∧ 2 ≤ N ∧ 2 ≤ K ∧ (2 * M ≤ N + K ∧ N + K ≤ 2 * M + 1) ∧ (s = 0 ∧ 0 < e ∧ e < K) from by omega)
          have han : a ≤ n := by omega
          have hsn : s ≤ n := by omega
          have hNn : N ≤ n := by omega
          have hKn : K ≤ n := by omega
          have hen : e ≤ n := by omega
          have hMn : M ≤ n := by omega
          clear hs1 ht1 ht2 hM3 hNKd hN2 hK2 hM1 hM2 hbn hst2 hlt k0 k1 k2
          go_wp2_with fail
          refine (rot_turn fn cb w0 _ g n P X Y S s e _ _ _ (by rw [← HA.out]) (by rw [← HA.out, HN.out]) (by rw [← HA.out, HN.out]) (by rw [HN.out]; have := HB.out; omega) (by have := HB.out; omega) (by rw [HK.out]; have := HB.out; omega) hn HSL.out).mono ?_
          rintro e' w2 ⟨rfl, ht2⟩
          have HT2 := Lib.hid ht2
          clear ht2 HSL
          have HT3 := Lib.hid (half1_same HT2.out HX.out HY.out (by have := HB.out; omega))
          clear HT2
          go_wp2_with fail
          refine (second_c HI.out P X Y S s e _ _ _ (by rw [← HA.out]; have := HB.out; omega) (by rw [← HA.out, HN.out]) (by rw [← HA.out, HN.out, HK.out]) (by rw [HN.out]; have := HB.out; omega) (by rw [HK.out]; have := HB.out; omega) (by rw [HN.out, HK.out]; have := HB.out; omega) HOX.out HOY.out HX.out HY.out HG.out HT3.out).mono ?_
          rintro e' w4 ⟨rfl, ht4⟩
          have HT4 := Lib.hid ht4
          clear ht4 HT3
          have HF := Lib.hid (HT4.out.all HT.out HX.out HY.out HG.out (by rw [HN.out, HK.out, HM.out]) HLK.out (by rw [HK.out]; have := HB.out; omega) (by rw [HN.out]; have := HB.out; omega) (by have := HB.out; omega))
          clear HT4
          go_wp2
          go_end0
          exact ⟨rfl, HF.out⟩
        · have f1 : (a : Int) + (s : Int) < (a : Int) + (N : Int) := by omega
          have f2 : (a : Int) + (N : Int) < (a : Int) + (N : Int) + (e : Int) := by omega
          have f3 : decide ((a : Int) < (a : Int) + (s : Int)) = false := decide_eq_false (by omega)
          have g3 : ¬ (a : Int) < (a : Int) + (s : Int) := by omega
          have f5 : (a : Int) + (M : Int) < (a : Int) + (N : Int) + (e : Int) := by omega
          have f6 : decide ((a : Int) + (N : Int) + (e : Int) < (a : Int) + (N : Int) + (K : Int)) = false := decide_eq_false (by omega)
          have g6 : ¬ (a : Int) + (N : Int) + (e : Int) < (a : Int) + (N : Int) + (K : Int) := by omega
          have HB := Lib.hid (show (M ≤ s + K ∧ s ≤ M ∧ s ≤ N) ∧ M = s + e ∧ N + K ≤ d + 1 ∧ 2 ≤ N ∧ 2 ≤ K ∧ (2 * M ≤ N + K ∧ N + K ≤ 2 * M + 1) ∧ (s = 0 ∧ 0 < e ∧ e = K) from by omega)
          have han : a ≤ n := by omega
          have hsn : s ≤ n := by omega
          have hNn : N ≤ n := by omega
          have hKn : K ≤ n := by omega
          have hen : e ≤ n := by omega
          have hMn : M ≤ n := by omega
          clear hs1 ht1 ht2 hM3 hNKd hN2 hK2 hM1 hM2 hbn hst2 hlt k0 k1 k2
          go_wp2_with fail
          refine (rot_turn fn cb w0 _ g n P X Y S s e _ _ _ (by rw [← HA.out]) (by rw [← HA.out, HN.out]) (by rw [← HA.out, HN.out]) (by rw [HN.out]; have := HB.out; omega) (by have := HB.out; omega) (by rw [HK.out]; have := HB.out; omega) hn HSL.out).mono ?_
          rintro e' w2 ⟨rfl, ht2⟩
          have HT2 := Lib.hid ht2
          clear ht2 HSL
          have HT3 := Lib.hid (half1_same HT2.out HX.out HY.out (by have := HB.out; omega))
          clear HT2
          have HT4 := Lib.hid (half2_same HT3.out HX.out HY.out (by rw [HN.out, HK.out]; have := HB.out; omega))
          clear HT3
          have HF := Lib.hid (HT4.out.all HT.out HX.out HY.out HG.out (by rw [HN.out, HK.out, HM.out]) HLK.out (by rw [HK.out]; have := HB.out; omega) (by rw [HN.out]; have := HB.out; omega) (by have := HB.out; omega))
          clear HT4
          go_wp2
          go_end0
          exact ⟨rfl, HF.out⟩

theorem sym_c (fn : FuncId) (cb : Array Value) (eg : ∀ args w, (callFunc fn args).run Try.prog w = .ok (.enter fn args) w) (R : Int → Int → Prop) (ht : Trans R) (ok : Int → Prop) (cf : Int → Int → Int)
    (w0 : World) (g n : Nat) (hcmp : CmpAt Try.prog w0 g fn cb ok cf) (hn : n ≤ 1099511627776) : ∀ d, Merges fn cb R ok cf w0 g n d := by
  intro d
  induction d with
  | zero => intro w P X Y S A M B hd hA hM hB hx hy; omega
  | succ d ih =>
    intro w P X Y S A M B hd hA hM hB hx hy hokX hokY hX hY hag h
    by_cases h1 : X.length = 1
    · obtain ⟨x, rfl⟩ : ∃ x, X = [x] := List.length_eq_one_iff.1 h1
      subst hA
      obtain rfl : M = ((P.length + 1 : Nat) : Int) := by rw [hM]; simp
      obtain rfl : B = ((P.length + 1 + Y.length : Nat) : Int) := by rw [hB]; simp
      exact StabSym1.left_c fn cb eg R ht ok cf w0 w g n P.length (P.length + 1) (P.length + 1 + Y.length) hcmp P Y S x (hokX x (by simp)) hokY hY (fun y hy => hag x (by simp) y hy) rfl rfl rfl hn h
    · by_cases h2 : Y.length = 1
      · obtain ⟨y, rfl⟩ : ∃ y, Y = [y] := List.length_eq_one_iff.1 h2
        subst hA
        obtain rfl : M = ((P.length + X.length : Nat) : Int) := by rw [hM]; simp
        obtain rfl : B = ((P.length + X.length + 1 : Nat) : Int) := by rw [hB]; simp
        exact StabSym1.right_c fn cb eg R ht ok cf w0 w g n P.length (P.length + X.length) (P.length + X.length + 1) hcmp P X S y (hokY y (by simp)) hokX hX (fun x hx => hag x hx y (by simp)) h1 rfl rfl rfl hn h
      · subst hA
        obtain rfl : M = (P.length : Int) + (X.length : Int) := hM
        obtain rfl : B = (P.length : Int) + (X.length : Int) + (Y.length : Int) := hB
        exact main_c fn cb eg R ht ok cf w0 w g n P.length d hcmp ih P X Y S hd hokX hokY hX hY hag (by omega) (by omega) rfl hn h X.length Y.length rfl rfl
end Go.Proofs.Ytdmnagpnhphifaa.StabSym

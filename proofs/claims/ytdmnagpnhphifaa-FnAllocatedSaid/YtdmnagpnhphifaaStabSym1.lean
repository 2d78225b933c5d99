/- The contract of slices.symMergeCmpFunc where one of the two blocks has one element. -/
import Derived.Test.YtdmnagpnhphifaaRows
import Derived.Test.YtdmnagpnhphifaaStab
import Derived.Test.YtdmnagpnhphifaaStabKit
import Derived.Test.YtdmnagpnhphifaaStabIns
import Derived.RegionTactic
import Derived.BigRegion
import Derived.BigQuiet
import Derived.Deep.QuietTactic
import Derived.Deep.LoopGhost
import Derived.ChangeAlike
import Derived.Shelf.Abstract
namespace Go.Proofs.Ytdmnagpnhphifaa.StabSym1
open Go.RowKit Row1 CurKit Stab StabKit StabIns

set_option maxRecDepth 100000 in
set_option maxHeartbeats 4000000 in
theorem left_c (fn : FuncId) (cb : Array Value) (eg : ∀ args w, (callFunc fn args).run Try.prog w = .ok (.enter fn args) w) (R : Int → Int → Prop) (ht : Trans R) (ok : Int → Prop) (cf : Int → Int → Int)
    (w0 w : World) (g n a m b : Nat) (hcmp : CmpAt Try.prog w0 g fn cb ok cf) (P Y S : List Int) (x : Int) (hx : ok x) (hok : ∀ y ∈ Y, ok y) (hY : Y.Pairwise R) (hag : ∀ y ∈ Y, Agree R cf x y) (ha : a = P.length) (hm : m = P.length + 1) (hb : b = P.length + 1 + Y.length) (hn : n ≤ 1099511627776)
    (h : SW 3 w0 g n (P ++ ([x] ++ (Y ++ S))) w) :
    Calls Try.prog 53 #[.slice (some ⟨g, 0, none⟩) n n, .int .i64 a, .int .i64 m, .int .i64 b, .func (.func fn) #[] cb] w (Sorted 3 w0 g n R P ([x] ++ Y) S) := by
  have hlen := h.len
  obtain ⟨N, hN⟩ : ∃ N, Y.length = N := ⟨_, rfl⟩
  have hbn : b ≤ n := by simp only [List.length_append] at hlen; simp at hlen; omega
  obtain rfl : m = a + 1 := by omega
  obtain rfl : b = a + 1 + N := by omega
  obtain ⟨l, hl⟩ : ∃ l, P ++ ([x] ++ (Y ++ S)) = l := ⟨_, rfl⟩
  have hlx : l.getD a 0 = x := by rw [← hl, ha]; simp [List.getD]
  have hly : ∀ t, t < N → l.getD (a + 1 + t) 0 = Y.getD t 0 := fun t ht => by
    rw [← hl, ← List.append_assoc]
    exact getD_at (P ++ [x]) Y S t (by omega) _ (by simp; omega)
  rw [hl] at h
  have HS := Lib.hid h
  have HC := Lib.hid hcmp
  have HX := Lib.hid hx
  have HK := Lib.hid hok
  have HG := Lib.hid hag
  have HY := Lib.hid hY
  have HT := Lib.hid ht
  have HA := Lib.hid ha
  have HN := Lib.hid hN
  have HL := Lib.hid hl
  have HLX := Lib.hid hlx
  have HLY := Lib.hid hly
  clear hlen h hcmp hx hok hag hY ht ha hm hb hN hl hlx hly
  have E1 := Lib.hid (show ((a + 1 : Nat) : Int) = (a : Int) + 1 by omega)
  have E2 := Lib.hid (show ((a + 1 + N : Nat) : Int) = (a : Int) + 1 + (N : Int) by omega)
  rw [E1.out, E2.out]
  have e1 : ((a : Int) + 1 - (a : Int) == 1) = true := by rw [beq_iff_eq]; omega
  go_enter Try.func53, Try.ntmps53
  go_wp2
  go_loopg [10, 11] N (fun g1 s t wr => ∃ c d : Nat, c ≤ d ∧ d ≤ N ∧ d - c ≤ g1 ∧ s = .int .i64 ((a : Int) + 1 + (c : Int)) ∧ t = .int .i64 ((a : Int) + 1 + (d : Int)) ∧ Hid (SW 3 w0 g n l wr) ∧ Hid ((c = 0 ∨ cf (Y.getD (c - 1) 0) x < 0) ∧ (d = N ∨ ¬ cf (Y.getD d 0) x < 0)))
  case atStart => exact ⟨0, N, Nat.zero_le _, Nat.le_refl _, by omega, by simp, rfl, HS, .inl rfl, .inl rfl⟩
  case round =>
    clear HS
    obtain ⟨c, d, hcd, hdN, hg1, rfl, rfl, hsw, hcf⟩ := hrel
    by_cases hlt : c < d
    · have hltz : (a : Int) + 1 + (c : Int) < (a : Int) + 1 + (d : Int) := by omega
      obtain ⟨h, hh⟩ : ∃ h : Nat, (c + d) / 2 = h := ⟨_, rfl⟩
      have hh1 : c ≤ h := by omega
      have hh2 : h < d := by omega
      have EH : ((a : Int) + 1 + (c : Int) + ((a : Int) + 1 + (d : Int))) / 2 = (a : Int) + 1 + (h : Int) := by omega
      obtain ⟨y, hy⟩ : ∃ y, Y.getD h 0 = y := ⟨_, rfl⟩
      have hyY : y ∈ Y := by rw [← hy]; exact getD_mem Y h (by rw [HN.out]; omega)
      have c1 := hsw.out.c (a + 1 + h) (by omega)
      have c2 := hsw.out.c a (by omega)
      rw [HLY.out h (by omega), hy] at c1
      rw [HLX.out] at c2
      have hc := fun k => HC.out.on hsw.out y x (HK.out y hyY) HX.out k
      obtain ⟨ih, hih⟩ : ∃ ih, a + 1 + h = ih := ⟨_, rfl⟩
      rw [hih] at c1
      have ea : ((a : Int) + 1 + (h : Int)).toNat = ih := by omega
      have pa : (0 : Int) ≤ (a : Int) + 1 + (h : Int) := by omega
      have ba : (a : Int) + 1 + (h : Int) < (n : Int) := by omega
      have pb : (0 : Int) ≤ (a : Int) := by omega
      have bb : (a : Int) < (n : Int) := by omega
      have HY2 := Lib.hid hy
      clear hh hih hy hyY
      by_cases hlt0 : cf y x < 0
      · have HV := Lib.hid (show (h + 1 = 0 ∨ cf (Y.getD (h + 1 - 1) 0) x < 0) ∧ (d = N ∨ ¬ cf (Y.getD d 0) x < 0) from ⟨.inr (by rw [Nat.add_sub_cancel, HY2.out]; exact hlt0), hcf.out.2⟩)
        obtain ⟨z, hz⟩ : ∃ z, cf y x = z := ⟨_, rfl⟩
        rw [hz] at hc hlt0
        have hcd2 : decide (z < 0) = true := decide_eq_true hlt0
        clear hz hcf
        go_wp2_with fail
        go_quiet ((go_at_fn fn; exact hc _))
        have HW2 := Lib.hid (hsw.out.drewN nq)
        clear hc c1 c2 hsw EH ea
        generalize wr.drewN nq = w2 at HW2 ⊢
        go_wp2
        go_roundg (d - (h + 1))
        case measure => omega
        case rel => exact ⟨h + 1, d, by omega, hdN, Nat.le_refl _, by go_num, rfl, HW2, HV⟩
      · have HV := Lib.hid (show (c = 0 ∨ cf (Y.getD (c - 1) 0) x < 0) ∧ (h = N ∨ ¬ cf (Y.getD h 0) x < 0) from ⟨hcf.out.1, .inr (by rw [HY2.out]; exact hlt0)⟩)
        obtain ⟨z, hz⟩ : ∃ z, cf y x = z := ⟨_, rfl⟩
        rw [hz] at hc hlt0
        have hcd2 : decide (z < 0) = false := decide_eq_false hlt0
        clear hz hcf
        go_wp2_with fail
        go_quiet ((go_at_fn fn; exact hc _))
        have HW2 := Lib.hid (hsw.out.drewN nq)
        clear hc c1 c2 hsw EH ea
        generalize wr.drewN nq = w2 at HW2 ⊢
        go_wp2
        go_roundg (h - c)
        case measure => omega
        case rel => exact ⟨c, h, hh1, by omega, Nat.le_refl _, rfl, rfl, HW2, HV⟩
    · obtain rfl : c = d := by omega
      have hge : ¬ (a : Int) + 1 + (c : Int) < (a : Int) + 1 + (c : Int) := by omega
      have HE := Lib.hid (one_left HT.out x Y HY.out HG.out c (by rw [HN.out]; exact hdN) hcf.out.1 (by rcases hcf.out.2 with h | h; exact .inl (by rw [HN.out]; exact h); exact .inr h))
      obtain ⟨wo, rfl⟩ : ∃ wo : World, wo = wr := ⟨_, rfl⟩
      clear hcf
      go_wp2
      go_loopg [13] c (fun g2 s wr => ∃ k : Nat, k ≤ c ∧ c - k ≤ g2 ∧ s = .int .i64 ((a : Int) + (k : Int)) ∧ Hid (SW 3 w0 g n (P ++ (Y.take k ++ (x :: (Y.drop k ++ S)))) wr))
      case atStart => exact ⟨0, Nat.zero_le _, by omega, by simp, hsw.out.cast HL.out.symm⟩
      case round =>
        clear hsw
        obtain ⟨k, hkc, hkg, rfl, hsw⟩ := hrel
        by_cases hk : k < c
        · have hltz : (a : Int) + (k : Int) < (a : Int) + (c : Int) := by omega
          obtain ⟨l2, hl2⟩ : ∃ l2, P ++ (Y.take k ++ (x :: (Y.drop k ++ S))) = l2 := ⟨_, rfl⟩
          have hkY : k < Y.length := by rw [HN.out]; omega
          obtain ⟨y, hy⟩ : ∃ y, Y[k]'hkY = y := ⟨_, rfl⟩
          have hd : Y.drop k = y :: Y.drop (k + 1) := by rw [← hy]; exact List.drop_eq_getElem_cons hkY
          have hlx : l2.getD (a + k) 0 = x := by
            rw [← hl2]; simp only [List.getD]
            rw [List.getElem?_append_right (by have := HA.out; omega), List.getElem?_append_right (by have := HA.out; simp; omega), show a + k - P.length - (Y.take k).length = 0 by have := HA.out; simp; omega]; rfl
          have hly : l2.getD (a + k + 1) 0 = y := by
            rw [← hl2, hd]; simp only [List.getD]
            rw [List.getElem?_append_right (by have := HA.out; omega), List.getElem?_append_right (by have := HA.out; simp; omega), show a + k + 1 - P.length - (Y.take k).length = 1 by have := HA.out; simp; omega]; rfl
          have hst : swp l2 (a + k) (a + k + 1) = P ++ (Y.take (k + 1) ++ (x :: (Y.drop (k + 1) ++ S))) := by
            have h := swp_next (P ++ Y.take k) (Y.drop (k + 1) ++ S) x y (a + k) (by have := HA.out; simp; omega)
            have e3 : Y.take (k + 1) = Y.take k ++ [y] := by rw [← hy]; exact List.take_succ_eq_append_getElem hkY
            rw [← hl2, hd, e3]
            simpa only [List.append_assoc, List.cons_append, List.nil_append] using h
          rw [hl2] at hsw
          have d1 := hsw.out.c (a + k) (by omega)
          have d2 := hsw.out.c (a + k + 1) (by omega)
          have f1 := hsw.out.f (a + k) (by omega)
          have f2 := hsw.out.f (a + k + 1) (by omega)
          rw [hlx] at d1
          rw [hly] at d2
          obtain ⟨u, d3⟩ := hsw.out.c2 (a + k) (a + k + 1) (by omega) (.int .i64 y)
          have HSW := Lib.hid ((hsw.out.swapped (a + k) (a + k + 1) x y hlx hly).cast hst)
          obtain ⟨i1, hi1⟩ : ∃ i1, a + k = i1 := ⟨_, rfl⟩
          rw [hi1] at d1 d2 d3 f1 f2 HSW
          obtain ⟨j1, hj1⟩ : ∃ j1, i1 + 1 = j1 := ⟨_, rfl⟩
          rw [hj1] at d2 d3 f2 HSW
          have ea : ((a : Int) + (k : Int)).toNat = i1 := by omega
          have eb : ((a : Int) + (k : Int) + 1).toNat = j1 := by omega
          have pa : (0 : Int) ≤ (a : Int) + (k : Int) := by omega
          have pb : (0 : Int) ≤ (a : Int) + (k : Int) + 1 := by omega
          have ba : (a : Int) + (k : Int) < (n : Int) := by omega
          have bb : (a : Int) + (k : Int) + 1 < (n : Int) := by omega
          have ra : IntKind.i64.wrap ((a : Int) + (k : Int)) = (a : Int) + (k : Int) := IntWalk.i64_in _ (by omega)
          have rb : IntKind.i64.wrap ((a : Int) + (k : Int) + 1) = (a : Int) + (k : Int) + 1 := IntWalk.i64_in _ (by omega)
          clear hst hl2 hlx hly hsw hi1 hj1 hy hd
          go_wp2_with fail
          go_region
          have HR := Lib.hid HSW.out.drew
          clear HSW d1 d2 d3 f1 f2 ea eb pa pb ba bb ra rb
          generalize ((wr.setCell ⟨g, i1, none⟩ (.int .i64 y)).setCell ⟨g, j1, none⟩ (.int .i64 x)).drew = w3 at HR ⊢
          go_wp2
          go_roundg (c - (k + 1))
          case measure => omega
          case rel => exact ⟨k + 1, by omega, Nat.le_refl _, by go_num, HR⟩
        · obtain rfl : k = c := by omega
          have hge2 : ¬ (a : Int) + (k : Int) < (a : Int) + (k : Int) := by omega
          have HF := Lib.hid (show ∃ Z : List Int, Z.Perm ([x] ++ Y) ∧ Z.Pairwise R ∧ SW 3 w0 g n (P ++ (Z ++ S)) wr from ⟨_, HE.out.2, HE.out.1, hsw.out.cast (by rw [List.append_assoc]; rfl)⟩)
          clear hsw
          go_wp2
          go_end0
          exact ⟨rfl, HF.out⟩

set_option maxRecDepth 100000 in
set_option maxHeartbeats 4000000 in
theorem right_c (fn : FuncId) (cb : Array Value) (eg : ∀ args w, (callFunc fn args).run Try.prog w = .ok (.enter fn args) w) (R : Int → Int → Prop) (ht : Trans R) (ok : Int → Prop) (cf : Int → Int → Int)
    (w0 w : World) (g n a m b : Nat) (hcmp : CmpAt Try.prog w0 g fn cb ok cf) (P X S : List Int) (y : Int) (hy : ok y) (hok : ∀ x ∈ X, ok x) (hX : X.Pairwise R) (hag : ∀ x ∈ X, Agree R cf x y) (hne : X.length ≠ 1) (ha : a = P.length) (hm : m = P.length + X.length) (hb : b = P.length + X.length + 1) (hn : n ≤ 1099511627776)
    (h : SW 3 w0 g n (P ++ (X ++ ([y] ++ S))) w) :
    Calls Try.prog 53 #[.slice (some ⟨g, 0, none⟩) n n, .int .i64 a, .int .i64 m, .int .i64 b, .func (.func fn) #[] cb] w (Sorted 3 w0 g n R P (X ++ [y]) S) := by
  have hlen := h.len
  obtain ⟨N, hN⟩ : ∃ N, X.length = N := ⟨_, rfl⟩
  have hbn : b ≤ n := by simp only [List.length_append] at hlen; simp at hlen; omega
  obtain rfl : m = a + N := by omega
  obtain rfl : b = a + N + 1 := by omega
  obtain ⟨l, hl⟩ : ∃ l, P ++ (X ++ ([y] ++ S)) = l := ⟨_, rfl⟩
  have hly : l.getD (a + N) 0 = y := by
    rw [← hl, ← List.append_assoc, ha, ← hN]; simp [List.getD]
  have hlx : ∀ t, t < N → l.getD (a + t) 0 = X.getD t 0 := fun t ht => by
    rw [← hl]
    exact getD_at P X ([y] ++ S) t (by omega) _ (by omega)
  rw [hl] at h
  have HS := Lib.hid h
  have HC := Lib.hid hcmp
  have HX := Lib.hid hy
  have HK := Lib.hid hok
  have HG := Lib.hid hag
  have HY := Lib.hid hX
  have HT := Lib.hid ht
  have HA := Lib.hid ha
  have HNN := Lib.hid hN
  have HL := Lib.hid hl
  have HLX := Lib.hid hlx
  have HLY := Lib.hid hly
  have hN1 : N ≠ 1 := by omega
  clear hlen h hcmp hy hok hag hX ht ha hm hb hN hl hlx hly hne
  have E1 := Lib.hid (show ((a + N : Nat) : Int) = (a : Int) + (N : Int) by omega)
  have E2 := Lib.hid (show ((a + N + 1 : Nat) : Int) = (a : Int) + (N : Int) + 1 by omega)
  rw [E1.out, E2.out]
  have e1 : ((a : Int) + (N : Int) - (a : Int) == 1) = false := by rw [beq_eq_false_iff_ne]; omega
  have e2 : ((a : Int) + (N : Int) + 1 - ((a : Int) + (N : Int)) == 1) = true := by rw [beq_iff_eq]; omega
  clear hN1
  go_enter Try.func53, Try.ntmps53
  go_wp2
  go_loopg [14, 15] N (fun g1 s t wr => ∃ c d : Nat, c ≤ d ∧ d ≤ N ∧ d - c ≤ g1 ∧ s = .int .i64 ((a : Int) + (c : Int)) ∧ t = .int .i64 ((a : Int) + (d : Int)) ∧ Hid (SW 3 w0 g n l wr) ∧ Hid ((c = 0 ∨ ¬ cf y (X.getD (c - 1) 0) < 0) ∧ (d = N ∨ cf y (X.getD d 0) < 0)))
  case atStart => exact ⟨0, N, Nat.zero_le _, Nat.le_refl _, by omega, by simp, rfl, HS, .inl rfl, .inl rfl⟩
  case round =>
    clear HS
    obtain ⟨c, d, hcd, hdN, hg1, rfl, rfl, hsw, hcf⟩ := hrel
    by_cases hlt : c < d
    · have hltz : (a : Int) + (c : Int) < (a : Int) + (d : Int) := by omega
      obtain ⟨h, hh⟩ : ∃ h : Nat, (c + d) / 2 = h := ⟨_, rfl⟩
      have hh1 : c ≤ h := by omega
      have hh2 : h < d := by omega
      have EH : ((a : Int) + (c : Int) + ((a : Int) + (d : Int))) / 2 = (a : Int) + (h : Int) := by omega
      obtain ⟨x, hx⟩ : ∃ x, X.getD h 0 = x := ⟨_, rfl⟩
      have hxX : x ∈ X := by rw [← hx]; exact getD_mem X h (by rw [HNN.out]; omega)
      have c1 := hsw.out.c (a + h) (by omega)
      have c2 := hsw.out.c (a + N) (by omega)
      rw [HLX.out h (by omega), hx] at c1
      rw [HLY.out] at c2
      have hc := fun k => HC.out.on hsw.out y x HX.out (HK.out x hxX) k
      obtain ⟨ih, hih⟩ : ∃ ih, a + h = ih := ⟨_, rfl⟩
      rw [hih] at c1
      obtain ⟨im, him⟩ : ∃ im, a + N = im := ⟨_, rfl⟩
      rw [him] at c2
      have ea : ((a : Int) + (h : Int)).toNat = ih := by omega
      have pa : (0 : Int) ≤ (a : Int) + (h : Int) := by omega
      have ba : (a : Int) + (h : Int) < (n : Int) := by omega
      have eb : ((a : Int) + (N : Int)).toNat = im := by omega
      have pb : (0 : Int) ≤ (a : Int) + (N : Int) := by omega
      have bb : (a : Int) + (N : Int) < (n : Int) := by omega
      have HY2 := Lib.hid hx
      clear hh hih hx hxX him
      by_cases hlt0 : cf y x < 0
      · have HV := Lib.hid (show (c = 0 ∨ ¬ cf y (X.getD (c - 1) 0) < 0) ∧ (h = N ∨ cf y (X.getD h 0) < 0) from ⟨hcf.out.1, .inr (by rw [HY2.out]; exact hlt0)⟩)
        obtain ⟨z, hz⟩ : ∃ z, cf y x = z := ⟨_, rfl⟩
        rw [hz] at hc hlt0
        have hcd2 : decide (z < 0) = true := decide_eq_true hlt0
        clear hz hcf
        go_wp2_with fail
        go_quiet ((go_at_fn fn; exact hc _))
        have HW2 := Lib.hid (hsw.out.drewN nq)
        clear hc c1 c2 hsw EH ea eb
        generalize wr.drewN nq = w2 at HW2 ⊢
        go_wp2
        go_roundg (h - c)
        case measure => omega
        case rel => exact ⟨c, h, hh1, by omega, Nat.le_refl _, rfl, rfl, HW2, HV⟩
      · have HV := Lib.hid (show (h + 1 = 0 ∨ ¬ cf y (X.getD (h + 1 - 1) 0) < 0) ∧ (d = N ∨ cf y (X.getD d 0) < 0) from ⟨.inr (by rw [Nat.add_sub_cancel, HY2.out]; exact hlt0), hcf.out.2⟩)
        obtain ⟨z, hz⟩ : ∃ z, cf y x = z := ⟨_, rfl⟩
        rw [hz] at hc hlt0
        have hcd2 : decide (z < 0) = false := decide_eq_false hlt0
        clear hz hcf
        go_wp2_with fail
        go_quiet ((go_at_fn fn; exact hc _))
        have HW2 := Lib.hid (hsw.out.drewN nq)
        clear hc c1 c2 hsw EH ea eb
        generalize wr.drewN nq = w2 at HW2 ⊢
        go_wp2
        go_roundg (d - (h + 1))
        case measure => omega
        case rel => exact ⟨h + 1, d, by omega, hdN, Nat.le_refl _, by go_num, rfl, HW2, HV⟩
    · obtain rfl : c = d := by omega
      have hge : ¬ (a : Int) + (c : Int) < (a : Int) + (c : Int) := by omega
      have HE := Lib.hid (one_right HT.out y X HY.out HG.out c (by rw [HNN.out]; exact hdN) hcf.out.1 (by rcases hcf.out.2 with h | h; exact .inl (by rw [HNN.out]; exact h); exact .inr h))
      obtain ⟨wo, rfl⟩ : ∃ wo : World, wo = wr := ⟨_, rfl⟩
      clear hcf
      go_wp2
      go_loopg [17] N (fun g2 s wr => ∃ k : Nat, c ≤ k ∧ k ≤ N ∧ k - c ≤ g2 ∧ s = .int .i64 ((a : Int) + (k : Int)) ∧ Hid (SW 3 w0 g n (P ++ (X.take k ++ (y :: (X.drop k ++ S)))) wr))
      case atStart => exact ⟨N, hdN, Nat.le_refl _, by omega, rfl, hsw.out.cast (by rw [← HL.out, List.take_of_length_le (by rw [HNN.out]; exact Nat.le_refl _), List.drop_of_length_le (by rw [HNN.out]; exact Nat.le_refl _)]; rfl)⟩
      case round =>
        clear hsw
        obtain ⟨k, hck, hkN, hkg, rfl, hsw⟩ := hrel
        by_cases hk : c < k
        · obtain ⟨q, rfl⟩ : ∃ q, k = q + 1 := ⟨k - 1, by omega⟩
          obtain ⟨l2, hl2⟩ : ∃ l2, P ++ (X.take (q + 1) ++ (y :: (X.drop (q + 1) ++ S))) = l2 := ⟨_, rfl⟩
          have hqX : q < X.length := by rw [HNN.out]; omega
          obtain ⟨x, hx⟩ : ∃ x, X[q]'hqX = x := ⟨_, rfl⟩
          have ht2 : X.take (q + 1) = X.take q ++ [x] := by rw [← hx]; exact List.take_succ_eq_append_getElem hqX
          have hd : X.drop q = x :: X.drop (q + 1) := by rw [← hx]; exact List.drop_eq_getElem_cons hqX
          have hpq : P.length = a := HA.out.symm
          have hlx : l2.getD (a + q) 0 = x := by
            rw [← hl2, ht2]; simp only [List.getD]
            rw [List.getElem?_append_right (by omega), List.getElem?_append_left (by simp; omega), List.getElem?_append_right (by simp; omega), show a + q - P.length - (X.take q).length = 0 by simp; omega]; rfl
          have hly : l2.getD (a + q + 1) 0 = y := by
            rw [← hl2]; simp only [List.getD]
            rw [List.getElem?_append_right (by omega), List.getElem?_append_right (by simp; omega), show a + q + 1 - P.length - (X.take (q + 1)).length = 0 by simp; omega]; rfl
          have hst : swp l2 (a + q + 1) (a + q) = P ++ (X.take q ++ (y :: (X.drop q ++ S))) := by
            have h := swp_next' (P ++ X.take q) (X.drop (q + 1) ++ S) x y (a + q) (by simp; omega)
            rw [← hl2, hd, ht2]
            simpa only [List.append_assoc, List.cons_append, List.nil_append] using h
          rw [hl2] at hsw
          have d1 := hsw.out.c (a + q + 1) (by omega)
          have d2 := hsw.out.c (a + q) (by omega)
          have f1 := hsw.out.f (a + q + 1) (by omega)
          have f2 := hsw.out.f (a + q) (by omega)
          rw [hly] at d1
          rw [hlx] at d2
          obtain ⟨u, d3⟩ := hsw.out.c2 (a + q + 1) (a + q) (by omega) (.int .i64 x)
          have HSW := Lib.hid ((hsw.out.swapped (a + q + 1) (a + q) y x hly hlx).cast hst)
          obtain ⟨jp, hjp⟩ : ∃ jp, a + q = jp := ⟨_, rfl⟩
          rw [hjp] at d1 d2 d3 f1 f2 HSW
          obtain ⟨jv, hjv⟩ : ∃ jv, jp + 1 = jv := ⟨_, rfl⟩
          rw [hjv] at d1 d3 f1 HSW
          have EJ := Lib.hid (show (a : Int) + ((q + 1 : Nat) : Int) = (jp : Int) + 1 by omega)
          rw [EJ.out]
          have ea : ((jp : Int) + 1).toNat = jv := by omega
          have pa : (0 : Int) ≤ (jp : Int) + 1 := by omega
          have ba : (jp : Int) + 1 < (n : Int) := by omega
          have ra : IntKind.i64.wrap ((jp : Int) + 1) = (jp : Int) + 1 := IntWalk.i64_in _ (by omega)
          have pc : (0 : Int) ≤ (jp : Int) := by omega
          have bc : (jp : Int) < (n : Int) := by omega
          have rc : IntKind.i64.wrap (jp : Int) = (jp : Int) := IntWalk.i64_in _ (by omega)
          have hja : (a : Int) + (c : Int) < (jp : Int) + 1 := by omega
          have HJ := Lib.hid hjp
          clear hst hl2 hlx hly hsw hjp hjv hx hd ht2 hpq
          go_wp2_with fail
          go_region
          have HR := Lib.hid HSW.out.drew
          clear HSW d1 d2 d3 f1 f2 ea pa ra
          generalize ((wr.setCell ⟨g, jv, none⟩ (.int .i64 x)).setCell ⟨g, jp, none⟩ (.int .i64 y)).drew = w3 at HR ⊢
          go_wp2
          go_roundg (q - c)
          case measure => omega
          case rel => exact ⟨q, by omega, by omega, Nat.le_refl _, congrArg (Value.int .i64) (by have := HJ.out; omega), HR⟩
        · obtain rfl : k = c := by omega
          have hge2 : ¬ (a : Int) + (k : Int) < (a : Int) + (k : Int) := by omega
          have HF := Lib.hid (show ∃ Z : List Int, Z.Perm (X ++ [y]) ∧ Z.Pairwise R ∧ SW 3 w0 g n (P ++ (Z ++ S)) wr from ⟨_, HE.out.2, HE.out.1, hsw.out.cast (by rw [List.append_assoc]; rfl)⟩)
          clear hsw
          go_wp2
          go_end0
          exact ⟨rfl, HF.out⟩
end Go.Proofs.Ytdmnagpnhphifaa.StabSym1

/- The contract of slices.swapRangeCmpFunc: two blocks of one length change places. -/
import Derived.Test.YtdmnagpnhphifaaRows
import Derived.Test.YtdmnagpnhphifaaStab
import Derived.Test.YtdmnagpnhphifaaStabKit
import Derived.RegionTactic
import Derived.BigRegion
import Derived.BigQuiet
import Derived.Deep.QuietTactic
import Derived.Deep.LoopGhost
import Derived.ChangeAlike
namespace Go.Proofs.Ytdmnagpnhphifaa.StabSwap
open Go.RowKit Row1 CurKit Stab StabKit

set_option maxRecDepth 100000 in
set_option maxHeartbeats 2000000 in
theorem swap_c (fv : Value) (w0 w : World) (g n a b m : Nat) (P X M Y S : List Int) (hX : X.length = m) (hY : Y.length = m) (ha : a = P.length) (hb : b = P.length + m + M.length) (hn : n ≤ 1099511627776)
    (h : SW 3 w0 g n (P ++ (X ++ (M ++ (Y ++ S)))) w) :
    Calls Try.prog 55 #[.slice (some ⟨g, 0, none⟩) n n, .int .i64 a, .int .i64 b, .int .i64 m, fv] w (Sorts 3 w0 g n (P ++ (Y ++ (M ++ (X ++ S))))) := by
  have hlen := h.len
  have hab : a + m ≤ b ∧ b + m ≤ n := by simp only [List.length_append] at hlen; omega
  obtain ⟨hab1, hab2⟩ := hab
  have HS := Lib.hid h
  have HST := Lib.hid (fun k (hk : k < m) => swr_step P X M Y S k m a b hX hY hk ha hb)
  have HAL := Lib.hid (swr_all P X M Y S m hX hY)
  clear hlen h hX hY ha hb
  go_enter Try.func55, Try.ntmps55
  go_wp2
  go_loopw [10] (fun i wr => ∃ k : Nat, k ≤ m ∧ i = .int .i64 k ∧ Hid (SW 3 w0 g n (swr P X M Y S k) wr)) (fun i _ => m - (intOf i).toNat)
  case atStart => exact ⟨0, Nat.zero_le _, rfl, by rw [swr_zero]; exact HS⟩
  case round =>
    obtain ⟨k, hk, rfl, hsw⟩ := hrel
    by_cases hlt : k < m
    · obtain ⟨l, hl⟩ : ∃ l, swr P X M Y S k = l := ⟨_, rfl⟩
      have hstep := HST.out k hlt
      rw [hl] at hstep hsw
      obtain ⟨x, hx⟩ : ∃ x, l.getD (a + k) 0 = x := ⟨_, rfl⟩
      obtain ⟨y, hy⟩ : ∃ y, l.getD (b + k) 0 = y := ⟨_, rfl⟩
      have HSW := Lib.hid ((hsw.out.swapped (a + k) (b + k) x y hx hy).cast hstep)
      have c1 := hsw.out.c (a + k) (by omega)
      have c2 := hsw.out.c (b + k) (by omega)
      have f1 := hsw.out.f (a + k) (by omega)
      have f2 := hsw.out.f (b + k) (by omega)
      rw [hx] at c1
      rw [hy] at c2
      obtain ⟨u, c3⟩ := hsw.out.c2 (a + k) (b + k) (by omega) (.int .i64 y)
      obtain ⟨i1, hi1⟩ : ∃ i1, a + k = i1 := ⟨_, rfl⟩
      obtain ⟨j1, hj1⟩ : ∃ j1, b + k = j1 := ⟨_, rfl⟩
      rw [hi1, hj1] at HSW
      rw [hi1] at c1 f1 c3
      rw [hj1] at c2 f2 c3
      have ea : ((a : Int) + (k : Int)).toNat = i1 := by omega
      have eb : ((b : Int) + (k : Int)).toNat = j1 := by omega
      have pa : (0 : Int) ≤ (a : Int) + (k : Int) := by omega
      have pb : (0 : Int) ≤ (b : Int) + (k : Int) := by omega
      have ba : (a : Int) + (k : Int) < (n : Int) := by omega
      have bb : (b : Int) + (k : Int) < (n : Int) := by omega
      have ra : IntKind.i64.wrap ((a : Int) + (k : Int)) = (a : Int) + (k : Int) := IntWalk.i64_in _ (by omega)
      have rb : IntKind.i64.wrap ((b : Int) + (k : Int)) = (b : Int) + (k : Int) := IntWalk.i64_in _ (by omega)
      have kl : (k : Int) < (m : Int) := by omega
      clear hstep hl hx hy hsw hi1 hj1
      go_wp2_with fail
      go_region
      have R := HSW.out.drew
      have HR := Lib.hid R
      clear R c1 c2 c3 f1 f2 ea eb pa pb ba bb ra rb
      generalize ((wr.setCell ⟨g, i1, none⟩ (.int .i64 y)).setCell ⟨g, j1, none⟩ (.int .i64 x)).drew = w3 at HR ⊢
      go_wp2
      go_roundw
      case rel => exact ⟨k + 1, by omega, by go_num, HR⟩
      case measure => simp [intOf]; omega
    · obtain rfl : k = m := by omega
      rw [HAL.out] at hsw
      go_wp2
      go_end0
      exact ⟨rfl, hsw.out⟩
/-- .. at numbers spelled otherwise. -/
theorem swap_i (fv : Value) (w0 w : World) (g n a b m : Nat) (A B C : Int) (P X M Y S : List Int) (hA : A = a) (hB : B = b) (hC : C = m) (hX : X.length = m) (hY : Y.length = m) (ha : a = P.length) (hb : b = P.length + m + M.length) (hn : n ≤ 1099511627776)
    (h : SW 3 w0 g n (P ++ (X ++ (M ++ (Y ++ S)))) w) :
    Calls Try.prog 55 #[.slice (some ⟨g, 0, none⟩) n n, .int .i64 A, .int .i64 B, .int .i64 C, fv] w (Sorts 3 w0 g n (P ++ (Y ++ (M ++ (X ++ S))))) := by
  subst hA hB hC
  exact swap_c fv w0 w g n a b m P X M Y S hX hY ha hb hn h
end Go.Proofs.Ytdmnagpnhphifaa.StabSwap

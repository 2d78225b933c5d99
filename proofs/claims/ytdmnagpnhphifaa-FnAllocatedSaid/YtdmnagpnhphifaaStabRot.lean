/- The contract of slices.rotateCmpFunc: two neighbouring blocks change places. -/
import Derived.Test.YtdmnagpnhphifaaStabSwap
namespace Go.Proofs.Ytdmnagpnhphifaa.StabRot
open Go.RowKit Row1 CurKit Stab StabKit StabSwap

/-- The turn is on its way: what is left is to exchange X and Y. -/
structure Turn (T : Nat) (w0 : World) (g n m i j : Nat) (L : List Int) (P X Y S : List Int) (w : World) : Prop where
  hp : P.length + i = m
  hx : X.length = i
  hy : Y.length = j
  hl : P ++ (Y ++ (X ++ S)) = L
  sw : SW T w0 g n (P ++ (X ++ (Y ++ S))) w

set_option maxRecDepth 100000 in
set_option maxHeartbeats 2000000 in
theorem rot_c (fv : Value) (w0 w : World) (g n a m b : Nat) (P X Y S : List Int) (ha : a = P.length) (hm : m = P.length + X.length) (hb : b = P.length + X.length + Y.length) (hx0 : 0 < X.length) (hy0 : 0 < Y.length) (hn : n ≤ 1099511627776)
    (h : SW 3 w0 g n (P ++ (X ++ (Y ++ S))) w) :
    Calls Try.prog 54 #[.slice (some ⟨g, 0, none⟩) n n, .int .i64 a, .int .i64 m, .int .i64 b, fv] w (Sorts 3 w0 g n (P ++ (Y ++ (X ++ S)))) := by
  have hlen := h.len
  have hbn : b ≤ n := by simp only [List.length_append] at hlen; omega
  obtain ⟨L, hL⟩ : ∃ L, P ++ (Y ++ (X ++ S)) = L := ⟨_, rfl⟩
  have HS := Lib.hid (show Turn 3 w0 g n m (m - a) (b - m) L P X Y S w from ⟨by omega, by omega, by omega, hL, h⟩)
  rw [hL]
  have hd1 : a < m := by omega
  have hd2 : m < b := by omega
  have e1 : (m : Int) - (a : Int) = ((m - a : Nat) : Int) := by omega
  have e2 : (b : Int) - (m : Int) = ((b - m : Nat) : Int) := by omega
  have E1 := Lib.hid e1
  have E2 := Lib.hid e2
  clear hlen h hL ha hm hb hx0 hy0 e1 e2
  go_enter Try.func54, Try.ntmps54
  go_wp2
  go_loopw [10, 11] (fun s t wr => ∃ (i j : Nat) (P X Y S : List Int), 0 < i ∧ 0 < j ∧ s = .int .i64 i ∧ t = .int .i64 j ∧ Hid (Turn 3 w0 g n m i j L P X Y S wr)) (fun s t _ => (intOf s).toNat + (intOf t).toNat)
  case atStart => exact ⟨m - a, b - m, P, X, Y, S, by omega, by omega, by rw [E1.out], by rw [E2.out], HS⟩
  case round =>
    obtain ⟨i, j, P, X, Y, S, hi, hj, rfl, rfl, ht⟩ := hrel
    have hlen := ht.out.sw.len
    have hbd : i ≤ m ∧ m + j ≤ n := by
      have := ht.out.hp; have := ht.out.hx; have := ht.out.hy
      simp only [List.length_append] at hlen; omega
    obtain ⟨hb1, hb2⟩ := hbd
    clear hlen
    have si : IntKind.i64.wrap ((m : Int) - (i : Int)) = (m : Int) - (i : Int) := IntWalk.i64_in _ (by omega)
    by_cases hlt : j < i
    · have hne : ((i : Int) != (j : Int)) = true := by rw [bne_iff_ne]; omega
      have hgt : (j : Int) < (i : Int) := by omega
      have sj : IntKind.i64.wrap ((i : Int) - (j : Int)) = (i : Int) - (j : Int) := IntWalk.i64_in _ (by omega)
      go_wp2_with fail
      refine (swap_i fv w0 wr g n (m - i) m j _ _ _ P (X.take j) (X.drop j) Y S (by omega) rfl rfl (by have := ht.out.hx; simp; omega) ht.out.hy (by have := ht.out.hp; omega) (by have := ht.out.hp; have := ht.out.hx; simp; omega) hn (ht.out.sw.cast (by rw [← List.append_assoc (X.take j), List.take_append_drop]))).mono ?_
      rintro e w2 ⟨rfl, hs⟩
      have HN := Lib.hid (show Turn 3 w0 g n m (i - j) j L (P ++ Y) (X.drop j) (X.take j) S w2 from
        ⟨by have := ht.out.hp; have := ht.out.hy; simp; omega, by have := ht.out.hx; simp; omega, by have := ht.out.hx; simp; omega,
          by rw [← ht.out.hl, List.append_assoc, ← List.append_assoc (X.take j), List.take_append_drop], hs.cast (by rw [List.append_assoc])⟩)
      have E := Lib.hid (show (i : Int) - (j : Int) = ((i - j : Nat) : Int) by omega)
      clear hs ht si
      go_wp2
      go_roundw
      case rel => exact ⟨i - j, j, _, _, _, _, by omega, hj, by rw [E.out], rfl, HN⟩
      case measure => simp [intOf]; omega
    · by_cases hlt2 : i < j
      · have hne : ((i : Int) != (j : Int)) = true := by rw [bne_iff_ne]; omega
        have hgt : ¬ (j : Int) < (i : Int) := by omega
        have sj : IntKind.i64.wrap ((j : Int) - (i : Int)) = (j : Int) - (i : Int) := IntWalk.i64_in _ (by omega)
        have s1 : IntKind.i64.wrap ((m : Int) + (j : Int)) = (m : Int) + (j : Int) := IntWalk.i64_in _ (by omega)
        have s2 : IntKind.i64.wrap ((m : Int) + (j : Int) - (i : Int)) = (m : Int) + (j : Int) - (i : Int) := IntWalk.i64_in _ (by omega)
        go_wp2_with fail
        refine (swap_i fv w0 wr g n (m - i) (m + j - i) i _ _ _ P X (Y.take (j - i)) (Y.drop (j - i)) S (by omega) (by omega) rfl ht.out.hx (by have := ht.out.hy; simp; omega) (by have := ht.out.hp; omega) (by have := ht.out.hp; have := ht.out.hy; simp; omega) hn (ht.out.sw.cast (by rw [← List.append_assoc (Y.take (j - i)), List.take_append_drop]))).mono ?_
        rintro e w2 ⟨rfl, hs⟩
        have HN := Lib.hid (show Turn 3 w0 g n m i (j - i) L P (Y.drop (j - i)) (Y.take (j - i)) (X ++ S) w2 from
          ⟨ht.out.hp, by have := ht.out.hy; simp; omega, by have := ht.out.hy; simp; omega,
            by rw [← ht.out.hl, ← List.append_assoc (Y.take (j - i)), List.take_append_drop], hs⟩)
        have E := Lib.hid (show (j : Int) - (i : Int) = ((j - i : Nat) : Int) by omega)
        clear hs ht si
        go_wp2
        go_roundw
        case rel => exact ⟨i, j - i, _, _, _, _, hi, by omega, rfl, by rw [E.out], HN⟩
        case measure => simp [intOf]; omega
      · obtain rfl : i = j := by omega
        have hne : ((i : Int) != (i : Int)) = false := by simp
        go_wp2_with fail
        refine (swap_i fv w0 wr g n (m - i) m i _ _ _ P X [] Y S (by omega) rfl rfl ht.out.hx ht.out.hy (by have := ht.out.hp; omega) (by have := ht.out.hp; simp; omega) hn ht.out.sw).mono ?_
        rintro e w2 ⟨rfl, hs⟩
        have HN := Lib.hid (hs.cast ht.out.hl)
        clear hs ht si
        go_wp2
        go_end0
        exact ⟨rfl, HN.out⟩
/-- .. at numbers spelled otherwise. -/
theorem rot_i (fv : Value) (w0 w : World) (g n : Nat) (A M B : Int) (P X Y S : List Int) (hA : A = P.length) (hM : M = (P.length : Int) + X.length) (hB : B = (P.length : Int) + X.length + Y.length) (hx0 : 0 < X.length) (hy0 : 0 < Y.length) (hn : n ≤ 1099511627776)
    (h : SW 3 w0 g n (P ++ (X ++ (Y ++ S))) w) :
    Calls Try.prog 54 #[.slice (some ⟨g, 0, none⟩) n n, .int .i64 A, .int .i64 M, .int .i64 B, fv] w (Sorts 3 w0 g n (P ++ (Y ++ (X ++ S)))) := by
  subst hA
  obtain rfl : M = ((P.length + X.length : Nat) : Int) := by omega
  obtain rfl : B = ((P.length + X.length + Y.length : Nat) : Int) := by omega
  exact rot_c fv w0 w g n P.length (P.length + X.length) (P.length + X.length + Y.length) P X Y S rfl rfl rfl hx0 hy0 hn h
end Go.Proofs.Ytdmnagpnhphifaa.StabRot

/- Contracts of the drawn accounts. -/
import Derived.Test.YtgdniakncjjggaaRows
import Derived.Test.YtgdniakncjjggaaKit
import Derived.Test.YtgdniakncjjggaaIntRow
import Derived.Test.YtgdniakncjjggaaTInt
import Derived.Test.YtgdniakncjjggaaDrawRow
import Derived.Test.YtgdniakncjjggaaCurC
import Derived.Test.YtgdniakncjjggaaCurNum
import Derived.Lib.Hide
namespace Go.Proofs.Ytgdniakncjjggaa.DrawAcc
open Go.RowKit CurKit CurByte Cur CurNum Row1 IntRow BelowKit DrawRow
abbrev Pair (w : World) (B : Nat) (v u : Value) (l m : List Int) : Prop := Row2.Two fI 3 B w v u l m
theorem two_kept {w w' : World} {B : Nat} {v u : Value} {l m : List Int} (h : Pair w B v u l m) {b : Nat} (hg : OnlyB b w w') (hb : b < B) : Pair w' B v u l m :=
  ⟨h.a.kept hg (.inr fun e => by have := h.a.low b e; omega), h.b.kept hg (.inr fun e => by have := h.b.low b e; omega), h.ne⟩
theorem lt_of_max {y n : Int} (h : y < max n 1) (h0 : 1 ≤ n) : y < n := by
  rw [Int.max_eq_left (by omega)] at h
  exact h
/-- Drawn dues and payments. -/
structure DAcc (n : Nat) (D P : List Int) : Prop where
  d : D.length = n
  p : P.length = n
  inD : In 0 20000 D
  inP : In 0 18000 P
theorem DAcc.nil : DAcc 0 [] [] := ⟨rfl, rfl, In.nil _ _, In.nil _ _⟩
theorem DAcc.snoc {n : Nat} {D P : List Int} (h : DAcc n D P) {x y : Int} (h1 : 0 ≤ x) (h2 : x ≤ 20000) (h3 : 0 ≤ y) (h4 : y ≤ 18000) : DAcc (n + 1) (D ++ [x]) (P ++ [y]) :=
  ⟨by simp [h.d], by simp [h.p], h.inD.snoc _ h1 h2, h.inP.snoc _ h3 h4⟩
def IsLists (w0 w : World) (b : Nat) (a : Option Addr) (len cap : Nat) (e : Ending) (w' : World) : Prop :=
  ∃ (n : Nat) (D P : List Int) (r : Int) (p1 p2 : Option Addr) (c1 c2 : Nat), n ≤ 13 ∧ DAcc n D P ∧ (0 ≤ r ∧ r ≤ 500) ∧ e = .returned (.tuple #[.slice p1 n c1, .slice p2 n c2, .int .i64 r]) ∧ Pair w' w.heap.size (.slice p1 n c1) (.slice p2 n c2) D P ∧ CurIn 51 w0 w' b a len cap
set_option maxHeartbeats 4000000 in
theorem lists_c (w0 w : World) (b : Nat) (a : Option Addr) (len cap : Nat) (hc : CurIn 51 w0 w b a len cap) :
    Calls Try.prog 27 #[.pointer (some ⟨b, 0, none⟩)] w (IsLists w0 w b a len cap) := by
  have HC := Lib.hid hc
  have hbl := hc.lt
  have hlo := hc.low
  clear hc
  go_enter Try.func27, Try.ntmps27
  have HO0 := Lib.hid (show Pair ((w.alloc (.cells #[] 3)).alloc (.cells #[] 3)) w.heap.size (.slice (some ⟨w.heap.size, 0, none⟩) 0 0) (.slice (some ⟨w.heap.size + 1, 0, none⟩) 0 0) [] [] from
    ⟨(Owns.made w w.heap.size 3 (Nat.le_refl _)).alloc _, by have := Owns.made (f := fI) (w.alloc (.cells #[] 3)) w.heap.size 3 (by simp); simpa using this, fun k h1 h2 => by simp [Value.ownBlock] at h1 h2; omega⟩)
  go_wp2
  go_loopw [5, 6, 7] (fun v u i wr => ∃ (j : Nat) (D P : List Int), j ≤ 13 ∧ i = .int .i64 (j : Int) ∧ w.heap.size < wr.heap.size ∧ Hid (DAcc j D P) ∧ Hid (CurIn 51 w0 wr b a len cap) ∧ Hid (Pair wr w.heap.size v u D P)) (fun _ _ i _ => 14 - (intOf i).toNat)
  case atStart => exact ⟨0, [], [], by omega, rfl, by simp; omega, Lib.hid DAcc.nil, Lib.hid ((HC.out.alloc _).alloc _), HO0⟩
  case round =>
    obtain ⟨j, D, P, hj, rfl, hzr, HD, HCr, HOr⟩ := hrel
    go_wp2_with fail
    refine (below_c w0 _ b a len cap 14 HCr.out (by omega)).mono ?_
    rintro e w3 ⟨z, hz, rfl, h3⟩
    have hz6 := lt_of_max hz (by decide)
    have HC3 := Lib.hid h3.1
    have HO3 := Lib.hid (two_kept HOr.out h3.2 hbl)
    have hz3 : w.heap.size < w3.heap.size := Nat.lt_of_lt_of_le hzr h3.2.size
    clear h3 hz HCr HOr hzr
    by_cases hkz : (j : Int) < (z : Int)
    · have dK : decide ((j : Int) < (z : Int)) = true := decide_eq_true hkz
      go_wp2_with fail
      refine (below_c w0 _ b a len cap 3 HC3.out (by omega)).mono ?_
      rintro e w4 ⟨x, hx, rfl, h4⟩
      have hx2 := lt_of_max hx (by decide)
      have HC4 := Lib.hid h4.1
      have HO4 := Lib.hid (two_kept HO3.out h4.2 hbl)
      have hz4 : w.heap.size < w4.heap.size := Nat.lt_of_lt_of_le hz3 h4.2.size
      clear h4 hx HC3 HO3 hz3
      have hx0 : (0 : Int) ≤ (x : Int) * 10000 := by omega
      have hx1 : (x : Int) * 10000 ≤ 20000 := by omega
      have hj13 : j ≤ 12 := by omega
      go_wp2_with (at_builtin; refine Fresh.pause ?_)
      refine ⟨?_⟩
      refine Row2.wpList_append1_at it (one_int _) _ rfl (.tmp 16) (.tmp 20) rfl w.heap.size _ D rfl (HO4.out.a.alloc _) w4.heap.size 1 1 [(x : Int) * 10000] rfl rfl (heap_alloc_new w4 _) (by rw [HD.out.d]; simp; omega) (by simp; omega) ?_
      intro v5 w5 hown5 hg5 hat5
      have HO5 := Lib.hid ((HO4.out.alloc (.cells #[.int .i64 ((x : Int) * 10000)] 3)).growA hown5 hg5 hat5)
      have HC5 := Lib.hid ((HC4.out.alloc (.cells #[.int .i64 ((x : Int) * 10000)] 3)).keep hg5 (fun e => by have := HO4.out.a.low b e.symm; omega) (fun k hk => by have := HO4.out.a.low k hk; omega))
      have hz5 : w.heap.size < w5.heap.size := by have := hg5.size; simp at this; omega
      clear hown5 hg5 hat5 HO4 HC4 hz4
      go_wp2_with fail
      refine (below_c w0 _ b a len cap 3 HC5.out (by omega)).mono ?_
      rintro e w6 ⟨y, hy, rfl, h6⟩
      have hy2 := lt_of_max hy (by decide)
      have HC6 := Lib.hid h6.1
      have HO6 := Lib.hid (two_kept HO5.out h6.2 hbl)
      have hz6' : w.heap.size < w6.heap.size := Nat.lt_of_lt_of_le hz5 h6.2.size
      clear h6 hy HC5 HO5 hz5
      have hy0 : (0 : Int) ≤ (y : Int) * 9000 := by omega
      have hy1 : (y : Int) * 9000 ≤ 18000 := by omega
      go_wp2_with (at_builtin; refine Fresh.pause ?_)
      refine ⟨?_⟩
      refine Row2.wpList_append1_at it (one_int _) _ rfl (.tmp 22) (.tmp 26) rfl w.heap.size _ P rfl (HO6.out.b.alloc _) w6.heap.size 1 1 [(y : Int) * 9000] rfl rfl (heap_alloc_new w6 _) (by rw [HD.out.p]; simp; omega) (by simp; omega) ?_
      intro v7 w7 hown7 hg7 hat7
      have HO7 := Lib.hid ((HO6.out.alloc (.cells #[.int .i64 ((y : Int) * 9000)] 3)).growB hown7 hg7 hat7)
      have HC7 := Lib.hid ((HC6.out.alloc (.cells #[.int .i64 ((y : Int) * 9000)] 3)).keep hg7 (fun e => by have := HO6.out.b.low b e.symm; omega) (fun k hk => by have := HO6.out.b.low k hk; omega))
      have hz7 : w.heap.size < w7.heap.size := by have := hg7.size; simp at this; omega
      have HD7 := Lib.hid (HD.out.snoc hx0 hx1 hy0 hy1)
      clear hown7 hg7 hat7 HO6 HC6 hz6'
      go_wp2
      go_roundw
      case rel => exact ⟨j + 1, _, _, by omega, by go_num, hz7, HD7, HC7, HO7⟩
      case measure => simp [intOf]; omega
    · have dK : decide ((j : Int) < (z : Int)) = false := decide_eq_false hkz
      go_wp2_with fail
      refine (pick_c w0 _ b a len cap (HC3.out.alloc _) w3.heap.size 6 _ [0, 40, 60, 500, 60, 40] rfl (by omega) (by omega) (heap_alloc_new w3 _) (by omega)).mono ?_
      rintro e w7 ⟨r, hr, rfl, h7⟩
      have hr1 : 0 ≤ r ∧ r ≤ 500 := by
        simp only [List.mem_cons, List.not_mem_nil, or_false] at hr
        omega
      have HR := Lib.hid hr1
      have HC7 := Lib.hid h7.1
      have HO7 := Lib.hid (two_kept (HO3.out.alloc _) h7.2 hbl)
      clear h7 hr HC3 HO3 hz3 hr1
      obtain ⟨p1, c1, rfl, _⟩ := HO7.out.a.form
      obtain ⟨p2, c2, rfl, _⟩ := HO7.out.b.form
      rw [HD.out.d, HD.out.p] at HO7 ⊢
      go_wp2
      refine bodyPost_ret (v := .tuple #[.slice p1 j c1, .slice p2 j c2, .int .i64 r]) (by simp [results, Try.results27]) rfl ⟨j, D, P, r, p1, p2, c1, c2, hj, HD.out, HR.out, rfl, HO7.out, HC7.out⟩
def Drawn (w : World) (e : Ending) (w' : World) : Prop :=
  ∃ (n : Nat) (D P : List Int) (r : Int) (p1 p2 : Option Addr) (c1 c2 : Nat), n ≤ 13 ∧ DAcc n D P ∧ (0 ≤ r ∧ r ≤ 500) ∧ e = .returned (.tuple #[.slice p1 n c1, .slice p2 n c2, .int .i64 r]) ∧ RowN.Reads TInt.fc 1 w' p1 D ∧ RowN.Reads TInt.fc 1 w' p2 P ∧ Below w.heap.size w w'
theorem draw_c (w : World) (a : Option Addr) (len cap : Nat) (hcode : CodeAt w a len) (hs : len ≤ maxLen) :
    Calls Try.prog 11 #[.slice a len cap] w (Drawn w) := by
  have HK := Lib.hid hcode
  have HS := Lib.hid hs
  clear hcode hs
  go_enter Try.func11, Try.ntmps11
  go_wp2_with fail
  refine (new_c _ a len cap HK.out HS.out).mono ?_
  rintro e w1 ⟨rfl, h1⟩
  have H1 := Lib.hid h1
  clear h1
  go_wp2_with fail
  refine (lists_c w w1 w.heap.size a len cap H1.out).mono ?_
  rintro e w2 ⟨n, D, P, r, p1, p2, c1, c2, hn, hd, hr, rfl, ho, hc⟩
  have HD := Lib.hid hd
  have HR := Lib.hid hr
  have HO := Lib.hid ho
  have HB := Lib.hid hc.bel
  have HN := Lib.hid hn
  clear hd hr ho hc hn
  go_wp2
  refine bodyPost_ret (v := .tuple #[.slice p1 n c1, .slice p2 n c2, .int .i64 r]) (by simp [results, Try.results11]) rfl ⟨n, D, P, r, p1, p2, c1, c2, HN.out, HD.out, HR.out, rfl, RowN.reads_own TInt.fw (TInt.own_to HO.out.a), RowN.reads_own TInt.fw (TInt.own_to HO.out.b), HB.out⟩
end Go.Proofs.Ytgdniakncjjggaa.DrawAcc

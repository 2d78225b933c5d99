/- The contract of the drawn input of SplitFields: some string of at most 2000 bytes; nothing that was there is written. -/
import Derived.Test.YtnbmfdlmgdhocaaDoorRows
import Derived.Test.YtnbmfdlmgdhocaaDoorCurNum
import Derived.Test.YtnbmfdlmgdhocaaDoorDrawText
import Derived.Test.YtnbmfdlmgdhocaaDoorDrawsA
import Derived.Test.YtnbmfdlmgdhocaaDoorNumFmt
namespace Go.Proofs.YtnbmfdlmgdhocaaDoor.DrawSplit
open Go.RowKit BytesKit HexDecMath HexEnc CurKit CurByte Cur CurNum DrawText DrawsA NumFmt

theorem app_size (a b : ByteArray) : (a ++ b).size = a.size + b.size := by rw [ByteArray.size_append]
theorem byte33 (x : Nat) (h : x < 94) : IntKind.u8.wrap (33 + (x : Int)) = ((b8 (33 + (x : Int))).toNat : Int) := by
  rw [byte_val _ (by omega) (by omega)]; exact IntWalk.u8_in _ (by omega)

set_option maxRecDepth 100000 in
set_option maxHeartbeats 1000000 in
theorem pickS_c (w0 w : World) (b : Nat) (a : Option Addr) (len cap : Nat) (hc : CurIn 50 w0 w b a len cap)
    (g n m : Nat) (T : TypeId) (xs : List ByteArray) (hl : xs.length = n) (hn : 0 < n) (hn2 : n ≤ 1000) (hm : ∀ x ∈ xs, x.size ≤ m) (hg : w.heap[g]? = some (.cells (xs.map Value.string).toArray T (0, 0))) (hgb : g ≠ b) :
    Calls Tryd.prog 27 #[.pointer (some ⟨b, 0, none⟩), .slice (some ⟨g, 0, none⟩) n n] w (SomeStr m (Goes w0 w b a len cap)) := by
  have HC := Lib.hid hc
  have HG := Lib.hid hg
  have HL := Lib.hid hl
  have HM := Lib.hid hm
  clear hc hg hl hm
  go_enter Tryd.func27, Tryd.ntmps27
  go_wp2_with fail
  refine (below_c w0 _ b a len cap n HC.out (by omega)).mono ?_
  rintro e w1 ⟨x, hx, rfl, hr⟩
  have HR := Lib.hid hr
  have hx2 : x < n := by omega
  have hx3 : x < xs.length := by rw [HL.out]; exact hx2
  have hc1 : w1.cell? ⟨g, x, none⟩ = some (.string xs[x]) := by
    have h1 := hr.2.block g (Array.getElem?_eq_some_iff.1 HG.out).1 (fun e => hgb (by simpa using e))
    rw [cell_of_row w1 g x _ _ _ (h1.trans HG.out)]
    simp [hx3]
  clear hr hx
  obtain ⟨v, hv⟩ : ∃ v, xs[x] = v := ⟨_, rfl⟩
  rw [hv] at hc1
  have HV := Lib.hid (show v.size ≤ m by rw [← hv]; exact HM.out _ (List.getElem_mem hx3))
  clear hv hx3
  go_wp2
  go_ret
  exact ⟨v, HV.out, rfl, HR.out⟩

/-- What stands at a loop's head: a text of at most m bytes; the cursor goes on. -/
def At (w : World) (b : Nat) (a : Option Addr) (len cap : Nat) (wr : World) : Prop := CurIn 50 w wr b a len cap

set_option maxRecDepth 100000 in
set_option maxHeartbeats 2000000 in
theorem draw_c (w : World) (a : Option Addr) (len cap : Nat) (hcode : CodeAt w a len) (hs : len ≤ maxLen) :
    Calls Tryd.prog 14 #[.slice a len cap] w (OneStr 2000 w) := by
  have HK := Lib.hid hcode
  have HS := Lib.hid hs
  clear hcode hs
  go_enter Tryd.func14, Tryd.ntmps14
  go_wp2_with fail
  refine (new_c _ a len cap HK.out HS.out).mono ?_
  rintro e w1 ⟨rfl, h1⟩
  have H1 := Lib.hid h1
  clear h1
  obtain ⟨b, hb⟩ : ∃ b, w.heap.size = b := ⟨_, rfl⟩
  rw [hb] at H1 ⊢
  have HB := Lib.hid hb
  clear hb
  go_wp2_with fail
  refine (below_c w _ b a len cap 9 H1.out (by omega)).mono ?_
  rintro e w2 ⟨x0, hx0, rfl, h2⟩
  have H2 := Lib.hid h2.1
  clear h2 H1
  go_wp2_with fail
  refine (once_c w _ b a len cap 15 H2.out (by omega)).mono ?_
  rintro e w3 ⟨x, rfl, h3⟩
  have H3 := Lib.hid h3.1
  clear h3 H2
  rcases x with _ | _
  case' false =>
    go_wp2_with fail
    obtain ⟨nn, hnn⟩ : ∃ nn : Int, (x0 : Int) = nn := ⟨_, rfl⟩
    have hn1 : nn ≤ 25 := by omega
    have HC := Lib.hid H3.out
    rw [hnn]
    clear hnn hx0 H3
  case' true =>
    go_wp2_with fail
    refine (below_c w _ b a len cap 2 H3.out (by omega)).mono ?_
    rintro e w4 ⟨x1, hx1, rfl, h4⟩
    have HC := Lib.hid h4.1
    clear h4 H3
    go_wp2_with fail
    obtain ⟨nn, hnn⟩ : ∃ nn : Int, 24 + (x1 : Int) = nn := ⟨_, rfl⟩
    have hn1 : nn ≤ 25 := by omega
    rw [hnn]
    clear hnn hx1 hx0
  all_goals
    go_loopw [5, 6] (fun t q wr => ∃ (k : Nat) (s : ByteArray), q = .int .i64 k ∧ t = .string s ∧ k ≤ 25 ∧ s.size ≤ 8 * k ∧ Hid (CurIn 50 w wr b a len cap)) (fun _ q _ => (nn - intOf q).toNat)
    case atStart => exact ⟨0, ⟨#[]⟩, rfl, rfl, by omega, Nat.le_refl _, HC⟩
    case round =>
      obtain ⟨k, s, rfl, rfl, hkn, hsz, HC⟩ := hrel
      by_cases hi : (k : Int) < nn
      · have hk25 : k ≤ 24 := by omega
        by_cases hk : 0 < k
        case' neg =>
          go_wp2_with fail
          refine (once_c w _ b a len cap 5 HC.out (by omega)).mono ?_
          rintro e u1 ⟨y, rfl, u2⟩
          have HC2 := Lib.hid u2.1
          clear u2 HC
          have HC := Lib.hid HC2.out
          clear HC2
          rcases y with _ | _
        case' pos =>
          go_wp2_with fail
          refine (below_c w _ b a len cap 2 HC.out (by omega)).mono ?_
          rintro e v1 ⟨y1, hy1, rfl, g1⟩
          have C1 := Lib.hid g1.1
          clear g1 HC
          go_wp2_with fail
          refine (below_c w _ b a len cap 3 C1.out (by omega)).mono ?_
          rintro e v2 ⟨y2, hy2, rfl, g2⟩
          have C2 := Lib.hid g2.1
          clear g2 C1
          have hprod : ∃ z : Nat, (y1 : Int) * (y2 : Int) = (z : Int) ∧ z ≤ 2 := by
            rcases (show y1 = 0 ∨ y1 = 1 by omega) with rfl | rfl
            · exact ⟨0, by simp, by omega⟩
            · exact ⟨y2, by simp, by omega⟩
          obtain ⟨z, hz, hz2⟩ := hprod
          clear hy1 hy2
          go_wp2_with fail
          refine (long_c _ _ 32 (by omega) (by omega) (by omega) (by omega)).mono ?_
          rintro e v3 ⟨sp, hsp, rfl, g3⟩
          have hsp2 : sp.size ≤ 3 := by omega
          have HC := Lib.hid (C2.out.below g3 C2.out.lt)
          clear g3 C2 hsp hz
          go_wp2_with fail
          obtain ⟨s2, hs2⟩ : ∃ s2, s ++ sp = s2 := ⟨_, rfl⟩
          have hsz2 : s2.size ≤ 8 * k + 3 := by rw [← hs2, app_size]; omega
          rw [hs2]
          clear hs2 hsp2 hsz hz2
        case' true =>
          go_wp2_with fail
          refine (below_c w _ b a len cap 2 HC.out (by omega)).mono ?_
          rintro e v1 ⟨y1, hy1, rfl, g1⟩
          have C1 := Lib.hid g1.1
          clear g1 HC
          go_wp2_with fail
          refine (below_c w _ b a len cap 3 C1.out (by omega)).mono ?_
          rintro e v2 ⟨y2, hy2, rfl, g2⟩
          have C2 := Lib.hid g2.1
          clear g2 C1
          have hprod : ∃ z : Nat, (y1 : Int) * (y2 : Int) = (z : Int) ∧ z ≤ 2 := by
            rcases (show y1 = 0 ∨ y1 = 1 by omega) with rfl | rfl
            · exact ⟨0, by simp, by omega⟩
            · exact ⟨y2, by simp, by omega⟩
          obtain ⟨z, hz, hz2⟩ := hprod
          clear hy1 hy2
          go_wp2_with fail
          refine (long_c _ _ 32 (by omega) (by omega) (by omega) (by omega)).mono ?_
          rintro e v3 ⟨sp, hsp, rfl, g3⟩
          have hsp2 : sp.size ≤ 3 := by omega
          have HC := Lib.hid (C2.out.below g3 C2.out.lt)
          clear g3 C2 hsp hz
          go_wp2_with fail
          obtain ⟨s2, hs2⟩ : ∃ s2, s ++ sp = s2 := ⟨_, rfl⟩
          have hsz2 : s2.size ≤ 8 * k + 3 := by rw [← hs2, app_size]; omega
          rw [hs2]
          clear hs2 hsp2 hsz hz2
        case' false =>
          go_wp2_with fail
          obtain ⟨s2, hs2⟩ : ∃ s2 : ByteArray, s2 = s := ⟨_, rfl⟩
          subst hs2
          have hsz2 : s2.size ≤ 8 * k + 3 := by omega
          clear hsz
        all_goals
          have HI := Lib.hid hi
          clear hi
          go_loopw [5, 7] (fun t q wr => ∃ (j : Nat) (s3 : ByteArray), q = .int .i64 j ∧ t = .string s3 ∧ j ≤ 5 ∧ s3.size ≤ 8 * k + 3 + j ∧ Hid (CurIn 50 w wr b a len cap)) (fun _ q _ => 6 - (intOf q).toNat)
          case atStart => exact ⟨0, s2, rfl, rfl, by omega, by omega, HC⟩
          case round =>
            obtain ⟨j, s3, rfl, rfl, hj, hs3, HC⟩ := hrel
            go_wp2_with fail
            refine (below_c w _ b a len cap 5 HC.out (by omega)).mono ?_
            rintro e r1 ⟨x5, hx5, rfl, q1⟩
            have D1 := Lib.hid q1.1
            clear q1 HC
            by_cases hle : j ≤ x5
            · go_wp2_with fail
              refine (below_c w _ b a len cap 94 D1.out (by omega)).mono ?_
              rintro e r2 ⟨x6, hx6, rfl, q2⟩
              have D2 := Lib.hid q2.1
              clear q2 D1
              have eb := byte33 x6 (by omega)
              have hcv := one_str r2 (b8 (33 + (x6 : Int)))
              go_wp2
              go_roundw
              case rel => exact ⟨j + 1, s3 ++ ⟨#[b8 (33 + (x6 : Int))]⟩, by go_num, rfl, by omega, by rw [app_size]; show s3.size + 1 ≤ _; omega, D2.out.alloc _⟩
              case measure => simp [intOf]; omega
            · go_wp2
              go_roundw
              case rel => exact ⟨k + 1, s3, by go_num, rfl, by have := HI.out; omega, by omega, D1⟩
              case measure => have := HI.out; simp [intOf]; omega
      · skip
        go_wp2_with fail
        refine (below_c w _ b a len cap 12 HC.out (by omega)).mono ?_
        rintro e t1 ⟨x7, hx7, rfl, g1⟩
        have T1 := Lib.hid g1.1
        clear g1 HC
        have hs200 : s.size ≤ 200 := by omega
        clear hsz hkn hi
        by_cases h70 : x7 = 0
        · subst h70
          go_wp2_with fail
          have hlt : b < t1.heap.size := T1.out.lt
          refine (pickS_c w _ b a len cap (T1.out.alloc _) t1.heap.size 6 2 _ [⟨#[32]⟩, ⟨#[32, 32]⟩, ⟨#[9]⟩, ⟨#[10]⟩, ⟨#[127]⟩, ⟨#[233]⟩] rfl (by omega) (by omega) (by decide) (heap_alloc_new t1 _) (by omega)).mono ?_
          rintro e t2 ⟨s4, hs4, rfl, g2⟩
          have T2 := Lib.hid g2.1
          clear g2 T1
          go_wp2
          go_ret
          exact ⟨_, by rw [app_size]; omega, rfl, HB.out ▸ T2.out.bel⟩
        · have b0 : ((x7 : Int) == 0) = false := by rw [beq_eq_false_iff_ne]; omega
          by_cases h71 : x7 = 1
          · subst h71
            go_wp2_with fail
            refine (below_c w _ b a len cap 2 T1.out (by omega)).mono ?_
            rintro e t2 ⟨x8, hx8, rfl, g2⟩
            have T2 := Lib.hid g2.1
            clear g2 T1
            go_wp2_with fail
            refine (long_c _ _ 32 (by omega) (by omega) (by omega) (by omega)).mono ?_
            rintro e t3 ⟨s4, hs4, rfl, g3⟩
            have hs5 : s4.size ≤ 700 := by omega
            have T3 := Lib.hid (show Below w.heap.size w t3 from T2.out.bel.trans (g3.mono T2.out.bel.size))
            clear g3 T2 hs4
            go_wp2
            go_ret
            exact ⟨_, by rw [app_size]; omega, rfl, T3.out⟩
          · have b1 : ((x7 : Int) == 1) = false := by rw [beq_eq_false_iff_ne]; omega
            go_wp2
            go_ret
            exact ⟨s, by omega, rfl, T1.out.bel⟩
end Go.Proofs.YtnbmfdlmgdhocaaDoor.DrawSplit

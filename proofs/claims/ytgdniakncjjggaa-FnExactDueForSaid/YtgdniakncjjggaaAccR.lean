/- Contracts of slices.Repeat at one number, of the program's balanceLeft and of sort.Search over its test. -/
import Derived.Test.YtgdniakncjjggaaRows
import Derived.Test.YtgdniakncjjggaaAccA
import Derived.Laws.CopyOwn
import Derived.Deep.RegionLaw
import Derived.Deep.DeepCutAuto
import Derived.Laws.Bits64b
namespace Go.Proofs.Ytgdniakncjjggaa.AccR
open Go.RowKit RowN AccMath Mon
set_option maxHeartbeats 1000000 in
theorem mul64_i (n : Nat) (hn : n ≤ 200) (w : World) : Calls Try.prog 49 #[.int .u64 1, .int .u64 (n : Int)] w (fun e w' => e = .returned (.tuple #[.int .u64 0, .int .u64 (n : Int)]) ∧ w = w') := by
  have A0 : bits .and .u64 (1 : Int) 4294967295 = 1 := by decide +kernel
  have A1 : bits .and .u64 (n : Int) 4294967295 = (n : Int) := by
    have h := bits_and_u64_nat n 4294967295 (by omega) (by omega)
    rw [Nat.and_two_pow_sub_one_eq_mod n 32] at h
    rw [show (4294967295 : Int) = ((4294967295 : Nat) : Int) from rfl, h, show n % 2 ^ 32 = n by omega]
  have A2 : bits .and .u64 (0 : Int) 4294967295 = 0 := by decide +kernel
  have D1 : (n : Int) / 4294967296 = 0 := by omega
  have W1 : IntKind.u64.wrap (n : Int) = (n : Int) := by rw [IntKind.wrap_u64]; omega
  go_enter Try.func49, Try.ntmps49
  go_wp2
  go_ret2
  exact ⟨rfl, rfl⟩
theorem mul_i (n : Nat) (hn : n ≤ 200) (w : World) : Calls Try.prog 47 #[.int .u64 1, .int .u64 (n : Int)] w (fun e w' => e = .returned (.tuple #[.int .u64 0, .int .u64 (n : Int)]) ∧ w = w') := by
  go_enter Try.func47, Try.ntmps47
  go_wp2_with fail
  refine (mul64_i n hn w).mono ?_
  rintro e w1 ⟨rfl, rfl⟩
  go_wp2
  go_ret2
  exact ⟨rfl, rfl⟩
/-- k numbers x and n - k zeros. -/
def cells (x : Int) (k n : Nat) : List Value := List.replicate k (.int .i64 x) ++ List.replicate (n - k) (.int .i64 0)
theorem cells_len (x : Int) {k n : Nat} (h : k ≤ n) : (cells x k n).length = n := by simp [cells]; omega
theorem cells_at (x : Int) {k n j : Nat} (h : j < k) : (cells x k n)[j]? = some (.int .i64 x) := by
  rw [cells, List.getElem?_append_left (by simpa using h)]
  simp [h]
theorem cells_splice (x : Int) {k m n : Nat} (h : k + m ≤ n) : splice (cells x k n) k (List.replicate m (.int .i64 x)) = cells x (k + m) n := by
  have e1 : (cells x k n).take k = List.replicate k (.int .i64 x) := by simp [cells]
  have e2 : (cells x k n).drop (k + m) = List.replicate (n - (k + m)) (.int .i64 0) := by
    rw [cells, List.drop_append, List.length_replicate, List.drop_eq_nil_of_le (by simp), List.nil_append, List.drop_replicate]
    congr 1
    omega
  rw [splice, List.length_replicate, e1, e2, cells, ← List.append_assoc, List.replicate_append_replicate]
theorem cells_full (x : Int) (n : Nat) : cells x n n = List.replicate n (.int .i64 x) := by simp [cells]
theorem cells_zero (x : Int) (n : Nat) : cells x 0 n = List.replicate n (.int .i64 0) := by simp [cells]
theorem flat_rep (x : Int) (n : Nat) : (List.replicate n x).flatMap TInt.fc = List.replicate n (.int .i64 x) := by
  rw [TInt.flat, List.map_replicate]
/-- The block of a row that was made. -/
theorem block_of {w : World} {B g n : Nat} {l : List Int} (h : Owns TInt.fc 1 w B 3 (.slice (some ⟨g, 0, none⟩) n n) l) (hl : l.length = n) : w.heap[g]? = some (.cells (l.flatMap TInt.fc).toArray 3 (0, 0)) := by
  rcases h.2 with ⟨e, _⟩ | ⟨g', cap', cur, e, _, hg, hnc, _, hcs, ht⟩
  · cases e
  · simp only [Value.slice.injEq, Option.some.injEq, Addr.mk.injEq, and_true] at e
    obtain ⟨rfl, _, rfl⟩ := e
    rw [hg, ← ht, List.take_of_length_le (by rw [Array.length_toList, hcs, hl]; exact Nat.le_refl _)]
theorem own_of_block {w : World} {B g n : Nat} {l : List Int} (h : w.heap[g]? = some (.cells (l.flatMap TInt.fc).toArray 3 (0, 0))) (hl : l.length = n) (hn : n ≤ maxLen) (hb : B ≤ g) : Owns TInt.fc 1 w B 3 (.slice (some ⟨g, 0, none⟩) n n) l :=
  ⟨flat_len TInt.fw l, .inr ⟨g, n, _, by rw [hl], hb, h, by rw [hl]; exact Nat.le_refl _, hn, by simp [flat_len TInt.fw, hl], by rw [List.take_of_length_le (by simp [flat_len TInt.fw])]⟩⟩
/-- What copying the first m of k numbers behind them asks. -/
structure CopyOk (w : World) (g : Nat) (x : Int) (k n m : Nat) : Prop where
  len : (List.replicate m (Value.int .i64 x)).length = Nat.min k (n - k)
  src : 0 < (List.replicate m (Value.int .i64 x)).length → (some (⟨g, k, none⟩ : Addr)) = some ⟨g, k, none⟩ ∧ ∃ ad, some (⟨g, 0, none⟩ : Addr) = some ad ∧ ∀ j v, (List.replicate m (Value.int .i64 x))[j]? = some v → w.cell? (ad.add j) = some v
  fit : k + (List.replicate m (Value.int .i64 x)).length ≤ (cells x k n).length
  one : ∀ v ∈ List.replicate m (Value.int .i64 x), v.oneCell' = true
  blk : w.heap[g]? = some (.cells (cells x k n).toArray 3 (0, 0))
theorem copyOk {w : World} {g k n m : Nat} (x : Int) (h : w.heap[g]? = some (.cells (cells x k n).toArray 3 (0, 0))) (hm : Nat.min k (n - k) = m) (hk : k ≤ n) : CopyOk w g x k n m := by
  have e : Nat.min k (n - k) = min k (n - k) := rfl
  rw [e] at hm
  refine ⟨by rw [List.length_replicate, e, hm], fun _ => ⟨rfl, ⟨g, 0, none⟩, rfl, fun j v hj => ?_⟩, by rw [cells_len x hk, List.length_replicate]; omega, fun v hv => by rw [List.eq_of_mem_replicate hv]; rfl, h⟩
  have hjm : j < m := by
    rcases Nat.lt_or_ge j m with h | h
    · exact h
    · rw [List.getElem?_eq_none (by simpa using h)] at hj; cases hj
  refine World.news_of_block h j v ?_
  rw [cells_at x (by omega), ← hj]
  simp [hjm]
set_option maxHeartbeats 4000000 in
theorem rep_i (w : World) (b cap : Nat) (x : Int) (n : Nat) (h1 : 1 ≤ n) (hn : n ≤ 200) (hx : w.cell? ⟨b, 0, none⟩ = some (.int .i64 x)) (hb : b < w.heap.size) :
    Calls Try.prog 46 #[.slice (some ⟨b, 0, none⟩) 1 cap, .int .i64 (n : Int)] w (TInt.IsRow (List.replicate n x) w) := by
  have HX := Lib.hid hx
  clear hx
  go_enter Try.func46, Try.ntmps46
  go_wp2_with fail
  refine (mul_i n hn w).mono ?_
  rintro e w1 ⟨rfl, rfl⟩
  go_wp2_with (at_make; refine wpList_makeN TInt.ft TInt.fw (z0 := 0) rfl _ rfl _ _ rfl w.heap.size .i64 .i64 _ _ n rfl rfl rfl rfl (by omega) (Nat.le_refl _) ?_; intro w1 hown1 hg1; refine Fresh.pause ?_)
  refine ⟨?_⟩
  have hb1 : Below w.heap.size w w1 := (Below.refl _ _).grown hg1 (Nat.le_refl _) (by simp)
  obtain ⟨g, hg⟩ : ∃ g, w.heap.size = g := ⟨_, rfl⟩
  have HGE := Lib.hid hg
  have HC := Lib.hid (show w1.heap[w.heap.size]? = some (.cells (cells x 0 n).toArray 3 (0, 0)) by rw [cells_zero, ← flat_rep]; exact block_of hown1 (by simp))
  rw [hg] at HC ⊢
  have HB := Lib.hid hb1
  have HX1 := Lib.hid (((BelowKit.bcell hb1).1 _ 0 hb).trans HX.out)
  clear hown1 hg1 hb1 hg
  have HU : Try.prog.underlying 24 = some (.slice 3) := Try.underlying24
  have HS : (Try.prog.info? 3).map (·.size) = some 1 := by kernel_rfl
  have HBg : w.heap.size ≤ g := by rw [HGE.out]; exact Nat.le_refl _
  have hn1 : [Value.int .i64 x].length = Nat.min 1 n := by rw [show Nat.min 1 n = 1 from Nat.min_eq_left h1]; rfl
  have hp1 : 0 < [Value.int .i64 x].length → (some (⟨g, 0, none⟩ : Addr)) = some ⟨g, 0, none⟩ ∧ ∃ ad, some (⟨b, 0, none⟩ : Addr) = some ad ∧ ∀ j v, [Value.int .i64 x][j]? = some v → w1.cell? (ad.add j) = some v := fun _ => ⟨rfl, ⟨b, 0, none⟩, rfl, fun j v hj => by
    cases j with
    | zero => simp at hj; subst hj; exact HX1.out
    | succ j => simp at hj⟩
  have hf1 : 0 + [Value.int .i64 x].length ≤ (cells x 0 n).length := by rw [cells_len x (Nat.zero_le n)]; simpa using h1
  have ho1 : ∀ v ∈ [Value.int .i64 x], v.oneCell' = true := by simp [Value.oneCell']
  have HK := Lib.hid (And.intro hn1 (And.intro hp1 (And.intro hf1 ho1)))
  clear hn1 hp1 hf1 ho1
  go_wp2_with (refine wpList_copy_splice (o := ⟨some 33, _, _, _, _, _⟩) rfl (.tmp 31) (.tmp 32) _ _ rfl 3 HU HS (some ⟨g, 0, none⟩) (some ⟨b, 0, none⟩) n n 1 cap rfl rfl g 0 (cells x 0 n) 3 HC.out [.int .i64 x] HK.out.1 HK.out.2.1 HK.out.2.2.1 HK.out.2.2.2 w.heap.size w HB.out HBg ?_; intro w2 HC2 hb2; refine Fresh.pause ?_)
  refine ⟨?_⟩
  have HC3 := Lib.hid (show w2.heap[g]? = some (.cells (cells x 1 n).toArray 3 (0, 0)) by
    have h := HC2.out
    rw [show [Value.int .i64 x] = List.replicate 1 (.int .i64 x) from rfl, cells_splice x (k := 0) (m := 1) (by omega)] at h
    exact h)
  have HB2 := Lib.hid hb2
  clear HC HB HC2 hb2 HX1 HK
  go_wp2
  go_loopw [8] (fun i wr => ∃ k : Nat, 1 ≤ k ∧ k ≤ n ∧ i = .int .i64 (k : Int) ∧ Hid (wr.heap[g]? = some (.cells (cells x k n).toArray 3 (0, 0))) ∧ Hid (Below w.heap.size w wr)) (fun i _ => n - (intOf i).toNat)
  case atStart => exact ⟨1, Nat.le_refl _, h1, rfl, HC3, HB2⟩
  case round =>
    clear HC3 HB2
    obtain ⟨k, k1, k2, rfl, HC, HB⟩ := hrel
    by_cases hlt : k < n
    · have dK : decide ((k : Int) < (n : Int)) = true := decide_eq_true (by omega)
      have b1 : (0 : Int) ≤ (k : Int) := by omega
      have b2 : (k : Int) < (n : Int) := by omega
      have hnk : ¬ n = k := by omega
      obtain ⟨m, hm⟩ : ∃ m, Nat.min k (n - k) = m := ⟨_, rfl⟩
      have HK := copyOk (w := wr.drew) x HC.out hm k2
      have HMM := Lib.hid (show k + m ≤ n ∧ 1 ≤ m by rw [show Nat.min k (n - k) = min k (n - k) from rfl] at hm; omega)
      have HBD := Lib.hid (BelowKit.bl_drew HB.out)
      have W1 : IntKind.i64.wrap ((k : Int) + (m : Int)) = (k : Int) + (m : Int) := by obtain ⟨m1, m2⟩ := HMM.out; exact IntWalk.i64_in _ (by omega)
      clear hm
      go_wp2
      go_region_law ((refine step_copy_splice (o := ⟨some 45, _, _, _, _, _⟩) rfl (.tmp 41) (.tmp 44) _ _ rfl 3 HU HS (some ⟨g, k, none⟩) (some ⟨g, 0, none⟩) (n - k) (n - k) k n (by go_simp) (by go_simp) g k (cells x k n) 3 HK.blk (List.replicate m (.int .i64 x)) HK.len HK.src HK.fit HK.one w.heap.size w HBD.out HBg ?_; intro w3 HC3 hb3; rw [List.length_replicate]; have HC4 := Lib.hid HC3.out; have HB4 := Lib.hid hb3; clear HC3 hb3))
      rw [cells_splice x HMM.out.1] at HC4
      clear HC HB HK
      go_simp
      clear W1
      obtain ⟨m1, m2⟩ := HMM.out
      go_roundw
      case rel =>
        refine ⟨_, _, _, _, _, _, _, _, _, _, _, _, _, _, ⟨k + m, by omega, m1, ?_, HC4, HB4⟩, rfl⟩
        go_num
      case measure => simp [intOf]; omega
    · obtain rfl : k = n := by omega
      have HO := Lib.hid (own_of_block (B := w.heap.size) (l := List.replicate k x) (n := k) (by rw [flat_rep, ← cells_full]; exact HC.out) (by simp) (by unfold maxLen; omega) HBg)
      go_wp2
      refine bodyPost_ret (v := .slice (some ⟨g, 0, none⟩) k k) (by simp [results, Try.results46]) rfl ⟨some ⟨g, 0, none⟩, k, by simp, ?_, HB.out⟩
      have ho := HO.out
      simpa using ho
/-- The last balance of the account of a balance and equal payments. -/
theorem run_owe {b r x : Int} {m : Nat} (b0 : 0 ≤ b) (b1 : b ≤ 1000000) (r0 : 0 ≤ r) (r1 : r ≤ 500) (hm : m ≤ 120) (x0 : 0 ≤ x) (x1 : x ≤ 10000000) :
    ∃ L, runA (b :: List.replicate m 0) (0 :: List.replicate m x) r = L ∧ L.length = m + 1 ∧ ∃ h : m < L.length, L[m] = owe b r x m := by
  have ha : OkA (b :: List.replicate m 0) (0 :: List.replicate m x) r := by
    refine ⟨by simp, by simp; omega, ⟨r0, r1⟩, fun i h => ?_, fun i h => ?_⟩
    · cases i with
      | zero => simp only [List.getElem_cons_zero]; omega
      | succ i => simp only [List.getElem_cons_succ, List.getElem_replicate]; omega
    · cases i with
      | zero => simp only [List.getElem_cons_zero]; omega
      | succ i => simp only [List.getElem_cons_succ, List.getElem_replicate]; omega
  refine ⟨_, run_yes (ask_yes ha), by rw [bals_len]; simp, by rw [bals_len]; simp, ?_⟩
  rw [bals_at, bal_owe b r x m m (Nat.le_refl _)]
set_option maxHeartbeats 2000000 in
theorem left_i (w : World) (b r x : Int) (m : Nat) (b0 : 0 ≤ b) (b1 : b ≤ 1000000) (r0 : 0 ≤ r) (r1 : r ≤ 500) (hm : m ≤ 120) (x0 : 0 ≤ x) (x1 : x ≤ 10000000) :
    Calls Try.prog 37 #[.int .i64 b, .int .i64 r, .int .i64 (m : Int), .int .i64 x] w (AccS.IsInt (owe b r x m) w) := by
  obtain ⟨L, hL, hlen, hLm, hLe⟩ := run_owe b0 b1 r0 r1 hm x0 x1
  have HRUN := Lib.hid (And.intro hL (And.intro hlen (⟨hLm, hLe⟩ : ∃ h : m < L.length, L[m] = owe b r x m)))
  clear hL hlen hLm hLe
  have W0 : IntKind.i64.wrap ((m : Int) + 1) = ((m + 1 : Nat) : Int) := by rw [show (m : Int) + 1 = ((m + 1 : Nat) : Int) by omega]; exact IntWalk.i64_in _ (by omega)
  go_enter Try.func37, Try.ntmps37
  go_wp2_with (at_make; refine wpList_makeN TInt.ft TInt.fw (z0 := 0) rfl _ rfl _ _ rfl w.heap.size .i64 .i64 _ _ (m + 1) rfl rfl rfl rfl (by omega) (Nat.le_refl _) ?_; intro w1 hown1 hg1; refine Fresh.pause ?_)
  refine ⟨?_⟩
  have hb1 : Below w.heap.size w w1 := (Below.refl _ _).grown hg1 (Nat.le_refl _) (by simp)
  obtain ⟨g, hg⟩ : ∃ g, w.heap.size = g := ⟨_, rfl⟩
  have HGE := Lib.hid hg
  rw [hg] at hown1 ⊢
  have HO1 := Lib.hid hown1
  have HB1 := Lib.hid hb1
  have hlt1 : g < w1.heap.size := hown1.lt g rfl
  obtain ⟨q1, f1⟩ := hown1.cell TInt.fw 0 (by simp) 0 (by omega)
  rw [Nat.zero_mul, Nat.add_zero] at q1 f1
  obtain ⟨v1, hv1⟩ : ∃ v1, w1.cell? ⟨g, 0, none⟩ = some v1 := ⟨_, q1⟩
  clear hown1 hg1 hb1 hg q1
  go_upto_region 3 with fail
  obtain ⟨w2, hw2⟩ : ∃ w2, w1.setCell ⟨g, 0, none⟩ (.int .i64 b) = w2 := ⟨_, rfl⟩
  have HO2 := Lib.hid (show Owns TInt.fc 1 w2 g 3 (.slice (some ⟨g, 0, none⟩) (m + 1) (m + 1)) (b :: List.replicate m 0) by
    have h := HO1.out.stored TInt.fw 0 (by simp) 0 (by omega) (.int .i64 b) b rfl
    rw [Nat.zero_mul, Nat.add_zero, hw2, List.replicate_succ, List.set_cons_zero] at h
    exact h)
  have HB2 := Lib.hid (show Below w.heap.size w w2 by rw [← hw2]; exact BelowKit.bl_set HB1.out _ (by rw [HGE.out]; exact Nat.le_refl _))
  have hlt2 : g < w2.heap.size := by rw [← hw2]; simpa using hlt1
  rw [hw2]
  clear hw2 HO1 HB1 hlt1 hv1 f1 v1
  obtain ⟨s, hs⟩ : ∃ s, w2.heap.size = s := ⟨_, rfl⟩
  have HS := Lib.hid hs
  have HA := Lib.hid (show (w2.alloc (.cells #[.int .i64 x] 3)).cell? ⟨s, 0, none⟩ = some (.int .i64 x) by rw [← hs]; simp [go_sem])
  have HOA := Lib.hid (HO2.out.alloc (.cells #[.int .i64 x] 3))
  have HBA := Lib.hid (BelowKit.bl_alloc (o := .cells #[.int .i64 x] 3) HB2.out)
  have HSA := Lib.hid (show s < (w2.alloc (.cells #[.int .i64 x] 3)).heap.size by rw [← hs]; simp)
  have HGA := Lib.hid (show g < (w2.alloc (.cells #[.int .i64 x] 3)).heap.size by simp; omega)
  go_wp2_with fail
  try rw [hs]
  refine (rep_i _ s 1 x (m + 1) (by omega) (by omega) HA.out HSA.out).mono ?_
  rintro e w3 ⟨a, c, rfl, ho3, hb3⟩
  have hl3 : (List.replicate (m + 1) x).length = m + 1 := List.length_replicate ..
  rw [hl3] at ho3 ⊢
  obtain ⟨g3, rfl, hs3, hlt3, hc3⟩ := ho3.at TInt.fw 0 (by simp)
  obtain ⟨q3, f3⟩ := hc3 0 (by omega)
  rw [Nat.zero_mul, Nat.add_zero] at q3 f3
  obtain ⟨v3, hv3⟩ : ∃ v3, w3.cell? ⟨g3, 0, none⟩ = some v3 := ⟨_, q3⟩
  have hne : g ≠ g3 := by have := HGA.out; omega
  have HO3 := Lib.hid ho3
  have HD3 := Lib.hid (HOA.out.on hb3)
  have HB3 := Lib.hid (BelowKit.bl_trans HBA.out hb3)
  have HG3 := Lib.hid (show w.heap.size ≤ g3 by have := HGA.out; rw [HGE.out]; omega)
  clear HO2 HB2 hlt2 hs HS HA HOA HBA HSA HGA ho3 hb3 hc3 q3 hs3
  go_upto_region 5 with fail
  obtain ⟨w4, hw4⟩ : ∃ w4, w3.setCell ⟨g3, 0, none⟩ (.int .i64 0) = w4 := ⟨_, rfl⟩
  have HP4 := Lib.hid (show Owns TInt.fc 1 w4 _ 3 (.slice (some ⟨g3, 0, none⟩) (m + 1) c) (0 :: List.replicate m x) by
    have h := HO3.out.stored TInt.fw 0 (by simp) 0 (by omega) (.int .i64 0) 0 rfl
    rw [Nat.zero_mul, Nat.add_zero, hw4, List.replicate_succ, List.set_cons_zero] at h
    exact h)
  have HD4 := Lib.hid (show Owns TInt.fc 1 w4 g 3 (.slice (some ⟨g, 0, none⟩) (m + 1) (m + 1)) (b :: List.replicate m 0) by
    rw [← hw4]; exact HD3.out.beside (by simp [Value.ownBlock]; exact hne) _)
  have HB4 := Lib.hid (show Below w.heap.size w w4 by rw [← hw4]; exact BelowKit.bl_set HB3.out _ HG3.out)
  rw [hw4]
  clear hw4 HO3 HD3 HB3 hv3 f3 v3 hlt3
  go_wp2_with fail
  refine (AccA.run_i w4 _ (m + 1) (m + 1) (b :: List.replicate m 0) _ (m + 1) c (0 :: List.replicate m x) r (by simp) (by omega) (reads_own TInt.fw HD4.out) (by simp) (by omega) (reads_own TInt.fw HP4.out)).mono ?_
  rintro e w5 ⟨a5, c5, rfl, ho5, hb5⟩
  obtain ⟨hL, hlen, hLm, hLe⟩ := HRUN.out
  rw [hL] at ho5 ⊢
  rw [hlen] at ho5 ⊢
  obtain ⟨g5, o5, rfl, hlt5, q5⟩ := AccS.read (reads_own TInt.fw ho5) m hLm
  rw [hLe] at q5
  have HB5 := Lib.hid (BelowKit.bl_trans HB4.out hb5)
  have d0 : (0 : Int) ≤ (m : Int) := by omega
  have d1 : (m : Int) < ((m + 1 : Nat) : Int) := by omega
  have d2 : (m : Int) < (m : Int) + 1 := by omega
  clear hL hLe ho5 hb5 HP4 HD4 HB4 HRUN W0
  go_wp2
  go_ret
  exact ⟨rfl, HB5.out⟩
end Go.Proofs.Ytgdniakncjjggaa.AccR

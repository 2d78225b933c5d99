/- Contracts of the drawn spells. -/
import Derived.Test.YtkoeodmneedjcaaRows
import Derived.Test.YtkoeodmneedjcaaSpellMath
import Derived.Test.YtkoeodmneedjcaaCurC
import Derived.Test.YtkoeodmneedjcaaKit
import Derived.Test.YtkoeodmneedjcaaCurNum
import Derived.Lib.Hide
namespace Go.Proofs.Ytkoeodmneedjcaa.DrawSpell
open Go.RowKit CurKit CurByte Cur CurNum RowN TSpell SpellMath BelowKit DrawCur
theorem newP (w : World) (x : El) (g : Nat) (hg : w.heap.size = g) : ∀ j u, ([x].flatMap fc)[j]? = some u →
    (w.alloc (.cells #[.int .i64 x.From, .int .i64 x.To, .int .i64 x.Percent, .bool x.Leave] 34)).cell? ((⟨g, 0, none⟩ : Addr).add j) = some u := by
  subst hg
  exact news_block (T := 34) (heap_alloc_new w _)
/-- Drawn spells: valid, in order, none ends behind the month A. -/
structure DSp (A : Int) (l : List El) : Prop where
  len : l.length ≤ 6
  each : ∀ i (h : i < l.length), OkP l[i]
  next : ∀ i (h : i + 1 < l.length), (l[i]'(by omega)).To ≤ l[i + 1].From
  top : ∀ x ∈ l, x.To ≤ A
theorem DSp.nil (A : Int) : DSp A [] := ⟨by simp, fun _ h => by simp at h, fun _ h => by simp at h, fun _ h => by simp at h⟩
theorem DSp.snoc {A A' : Int} {l : List El} {x : El} (h : DSp A l) (hl : l.length < 6) (h1 : A ≤ x.From) (hx : OkP x) (h2 : x.To ≤ A') : DSp A' (l ++ [x]) := by
  have hp := hx
  unfold OkP at hp
  refine ⟨by simp; omega, fun i hi => ?_, fun i hi => ?_, fun y hy => ?_⟩
  · by_cases e : i < l.length
    · rw [List.getElem_append_left e]; exact h.each i e
    · obtain rfl : i = l.length := by simp at hi; omega
      simpa using hx
  · by_cases e : i + 1 < l.length
    · rw [List.getElem_append_left e, List.getElem_append_left (by omega)]; exact h.next i e
    · obtain e2 : i + 1 = l.length := by simp at hi; omega
      have e3 : (l ++ [x])[i + 1] = x := by simp [e2]
      rw [e3, List.getElem_append_left (by omega)]
      have := h.top _ (List.getElem_mem (show i < l.length by omega))
      omega
  · rcases List.mem_append.1 hy with q | q
    · have := h.top y q
      omega
    · obtain rfl : y = x := by simpa using q
      exact h2
theorem DSp.ok {A : Int} {l : List El} (h : DSp A l) : Ok l := ⟨by have := h.len; omega, h.each, h.next⟩
theorem lt_of_max {y n : Int} (h : y < max n 1) (h0 : 1 ≤ n) : y < n := by
  rw [Int.max_eq_left (by omega)] at h
  exact h
theorem prod_bd {p q : Nat} (h1 : (p : Int) ≤ 7) (h2 : (q : Int) ≤ 1) : 0 ≤ (p : Int) * (q : Int) ∧ (p : Int) * (q : Int) ≤ 7 := by
  have h : q = 0 ∨ q = 1 := by omega
  rcases h with rfl | rfl <;> simp <;> omega
def IsSpells (w0 w : World) (b : Nat) (a : Option Addr) (len cap : Nat) (e : Ending) (w' : World) : Prop :=
  ∃ (l : List El) (p : Option Addr) (c : Nat), DSp 241 l ∧ e = .returned (.slice p l.length c) ∧ Owns fc 4 w' w.heap.size T (.slice p l.length c) l ∧ CurIn 67 w0 w' b a len cap
set_option maxHeartbeats 4000000 in
theorem spells_c (w0 w : World) (b : Nat) (a : Option Addr) (len cap : Nat) (hc : CurIn 67 w0 w b a len cap) :
    Calls Try.prog 33 #[.pointer (some ⟨b, 0, none⟩)] w (IsSpells w0 w b a len cap) := by
  have HC := Lib.hid hc
  have hbl := hc.lt
  have hlo := hc.low
  have hbe := hc.bel.size
  clear hc
  go_enter Try.func33, Try.ntmps33
  go_wp2_with fail
  have HO0 := Lib.hid (Owns.made (f := fc) (c := 4) w w.heap.size T (Nat.le_refl _))
  refine (below_c w0 _ b a len cap 20 (HC.out.alloc _) (by omega)).mono ?_
  rintro e w1 ⟨x, hx, rfl, h1⟩
  have HC1 := Lib.hid h1.1
  have HO1 := Lib.hid (HO0.out.kept h1.2 (.inr (fun e => by have := HO0.out.low b e; omega)))
  have hx1 := lt_of_max hx (by decide)
  have hz1 : w.heap.size < w1.heap.size := by have := h1.2.size; simp at this; omega
  clear h1 hx HO0
  go_wp2
  go_loopw [3, 4, 5] (fun s t i wr => ∃ (j : Nat) (A : Int) (l : List El), j ≤ 6 ∧ i = .int .i64 (j : Int) ∧ t = .int .i64 A ∧ 0 ≤ A ∧ A ≤ 19 + 37 * (j : Int) ∧ l.length = j ∧ w.heap.size < wr.heap.size ∧ Hid (DSp A l) ∧ Hid (CurIn 67 w0 wr b a len cap) ∧ Hid (Owns fc 4 wr w.heap.size T s l)) (fun _ _ i _ => 7 - (intOf i).toNat)
  case atStart => exact ⟨0, (x : Int), [], by omega, rfl, rfl, by omega, by omega, rfl, hz1, Lib.hid (DSp.nil _), HC1, HO1⟩
  case round =>
    obtain ⟨j, A, l, hj, rfl, rfl, hA0, hA1, hlen, hzr, HD, HCr, HOr⟩ := hrel
    have HLE := Lib.hid hlen
    clear hlen
    go_wp2_with fail
    refine (below_c w0 _ b a len cap 7 HCr.out (by omega)).mono ?_
    rintro e w3 ⟨z, hz, rfl, h3⟩
    have hz6 := lt_of_max hz (by decide)
    have HC3 := Lib.hid h3.1
    have HO3 := Lib.hid (HOr.out.kept h3.2 (.inr (fun e => by have := HOr.out.low b e; omega)))
    have hz3 : w.heap.size < w3.heap.size := Nat.lt_of_lt_of_le hzr h3.2.size
    clear h3 hz HCr HOr hzr
    by_cases hkz : (j : Int) < (z : Int)
    · go_wp2_with fail
      refine (below_c w0 _ b a len cap 8 HC3.out (by omega)).mono ?_
      rintro e w4 ⟨p, hp, rfl, h4⟩
      have hp7 := lt_of_max hp (by decide)
      have HC4 := Lib.hid h4.1
      have HO4 := Lib.hid (HO3.out.kept h4.2 (.inr (fun e => by have := HO3.out.low b e; omega)))
      have hz4 : w.heap.size < w4.heap.size := Nat.lt_of_lt_of_le hz3 h4.2.size
      clear h4 hp HC3 HO3 hz3
      go_wp2_with fail
      refine (below_c w0 _ b a len cap 2 HC4.out (by omega)).mono ?_
      rintro e w5 ⟨q, hq, rfl, h5⟩
      have hq1 := lt_of_max hq (by decide)
      have HC5 := Lib.hid h5.1
      have HO5 := Lib.hid (HO4.out.kept h5.2 (.inr (fun e => by have := HO4.out.low b e; omega)))
      have hz5 : w.heap.size < w5.heap.size := Nat.lt_of_lt_of_le hz4 h5.2.size
      clear h5 hq HC4 HO4 hz4
      have hm := prod_bd (p := p) (q := q) (by omega) (by omega)
      obtain ⟨M, hM⟩ : ∃ M, (p : Int) * (q : Int) = M := ⟨_, rfl⟩
      rw [hM] at hm
      have W1 : IntKind.i64.wrap ((p : Int) * (q : Int)) = M := by rw [hM]; exact IntWalk.i64_in _ (by omega)
      obtain ⟨F, hF⟩ : ∃ F, A + M = F := ⟨_, rfl⟩
      have W2 : IntKind.i64.wrap (A + M) = F := by rw [hF]; exact IntWalk.i64_in _ (by omega)
      have hF0 : A ≤ F := by omega
      have hF1 : F ≤ A + 7 := by omega
      have jlt : j < 6 := by omega
      clear hM hF hm hp7 hq1
      go_wp2_with fail
      refine (below_c w0 _ b a len cap 30 HC5.out (by omega)).mono ?_
      rintro e w6 ⟨r, hr, rfl, h6⟩
      have hr1 := lt_of_max hr (by decide)
      have HC6 := Lib.hid h6.1
      have HO6 := Lib.hid (HO5.out.kept h6.2 (.inr (fun e => by have := HO5.out.low b e; omega)))
      have hz6' : w.heap.size < w6.heap.size := Nat.lt_of_lt_of_le hz5 h6.2.size
      clear h6 hr HC5 HO5 hz5 W1 W2
      have hbr : b < w6.heap.size := by omega
      go_wp2_with fail
      refine (pick_c w0 _ b a len cap (HC6.out.alloc _) w6.heap.size 5 _ [100, 100, 50, 80, 1] rfl (by omega) (by omega) (heap_alloc_new w6 _) (by omega)).mono ?_
      rintro e w7 ⟨u, hu, rfl, h7⟩
      have hu1 : 1 ≤ u ∧ u ≤ 100 := by
        simp only [List.mem_cons, List.not_mem_nil, or_false] at hu
        omega
      have HC7 := Lib.hid h7.1
      have HO7 := Lib.hid ((HO6.out.alloc _).kept h7.2 (.inr (fun e => by have := HO6.out.low b e; omega)))
      have hz7 : w.heap.size < w7.heap.size := by have := h7.2.size; simp at this; omega
      clear h7 hu HC6 HO6 hz6'
      go_wp2_with fail
      refine (once_c w0 _ b a len cap 5 HC7.out (by omega)).mono ?_
      rintro e w8 ⟨v, rfl, h8⟩
      have HC8 := Lib.hid h8.1
      have HO8 := Lib.hid (HO7.out.kept h8.2 (.inr (fun e => by have := HO7.out.low b e; omega)))
      have hz8 : w.heap.size < w8.heap.size := Nat.lt_of_lt_of_le hz7 h8.2.size
      clear h8 HC7 HO7 hz7
      generalize ht : F + 1 + (r : Int) = t
      obtain ⟨a3, c3, rfl, _⟩ := HO8.out.form fw
      have ht0 : F < t := by omega
      have ht1 : t ≤ A + 37 := by omega
      clear ht hr1
      go_wp2_with (at_builtin; refine Fresh.pause ?_)
      refine ⟨?_⟩
      refine wpList_appendN ft fw _ rfl (.tmp 28) (.tmp 37) rfl w.heap.size _ l rfl (HO8.out.alloc _) ⟨w8.heap.size, 0, none⟩ 1 1 [⟨F, t, u, v⟩] rfl rfl (newP w8 ⟨F, t, u, v⟩ _ rfl) (by rw [HLE.out]; simp; omega) (by simp; omega) ?_
      intro v' w9 hown9 hg9 _
      obtain ⟨p9, c9, rfl, _⟩ := hown9.form fw
      have hlen : (l ++ [(⟨F, t, u, v⟩ : El)]).length = l.length + 1 := by simp
      rw [hlen] at hown9
      have HC9 := Lib.hid ((HC8.out.alloc _).keep hg9 (fun e => by have := HO8.out.low b e.symm; omega) (fun k hk => by have := HO8.out.low k hk; omega))
      have HO9 := Lib.hid hown9
      have hz9 : w.heap.size < w9.heap.size := by have := hg9.size; simp at this; omega
      have HD9 := Lib.hid (HD.out.snoc (x := ⟨F, t, u, v⟩) (A' := t) (by rw [HLE.out]; exact jlt) hF0 (show 0 ≤ F ∧ F < t ∧ t ≤ 3600 ∧ 1 ≤ u ∧ u ≤ 100 from ⟨by omega, ht0, by omega, hu1⟩) (Int.le_refl _))
      have HL9 := Lib.hid (hlen.trans (congrArg (· + 1) HLE.out))
      clear hown9 hg9 hlen HC8 HO8 hz8
      go_wp2
      go_roundw
      case rel => exact ⟨j + 1, t, l ++ [⟨F, t, u, v⟩], by omega, by go_num, rfl, by omega, by omega, HL9.out, hz9, HD9, HC9, HO9⟩
      case measure => simp [intOf]; omega
    · obtain ⟨p5, c5, rfl, _⟩ := HO3.out.form fw
      have HD' := Lib.hid (show DSp 241 l from ⟨HD.out.len, HD.out.each, HD.out.next, fun x hx => by have := HD.out.top x hx; omega⟩)
      go_wp2
      go_ret
      exact ⟨l, p5, c5, HD'.out, rfl, HO3.out, HC3.out⟩
def Drawn (w : World) (e : Ending) (w' : World) : Prop :=
  ∃ (l : List El) (p : Option Addr) (c : Nat), DSp 241 l ∧ e = .returned (.slice p l.length c) ∧ Owns fc 4 w' w.heap.size T (.slice p l.length c) l ∧ Below w.heap.size w w'
theorem draw_c (w : World) (a : Option Addr) (len cap : Nat) (hcode : CodeAt w a len) (hs : len ≤ maxLen) :
    Calls Try.prog 12 #[.slice a len cap] w (Drawn w) := by
  have HK := Lib.hid hcode
  have HS := Lib.hid hs
  clear hcode hs
  go_enter Try.func12, Try.ntmps12
  go_wp2_with fail
  refine (new_c _ a len cap HK.out HS.out).mono ?_
  rintro e w1 ⟨rfl, h1⟩
  have H1 := Lib.hid h1
  have hz := h1.bel.size
  clear h1
  go_wp2_with fail
  refine (spells_c w w1 w.heap.size a len cap H1.out).mono ?_
  rintro e w2 ⟨l, p, c, hd, rfl, ho, hc⟩
  have HD := Lib.hid hd
  have HO := Lib.hid (ho.base (B' := w.heap.size) hz)
  have HB := Lib.hid hc.bel
  clear hd ho hc
  go_wp2
  go_ret
  exact ⟨l, p, c, HD.out, rfl, HO.out, HB.out⟩
end Go.Proofs.Ytkoeodmneedjcaa.DrawSpell

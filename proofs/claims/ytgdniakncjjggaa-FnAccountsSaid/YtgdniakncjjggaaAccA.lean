/- Contracts of the program's functions on accounts, but for settling. -/
import Derived.Test.YtgdniakncjjggaaRows
import Derived.Test.YtgdniakncjjggaaAccMath
import Derived.Test.YtgdniakncjjggaaAccS
import Derived.Test.YtgdniakncjjggaaTInt
import Derived.Test.YtgdniakncjjggaaKit
import Derived.Deep.QuietTactic
import Derived.BigQuiet
import Derived.WalkSmall
namespace Go.Proofs.Ytgdniakncjjggaa.AccA
open Go.RowKit RowN AccMath Mon
/-- The place of the first element of which p holds. -/
def idxP (p : Int → Bool) : List Int → Int → Int
  | [], _ => -1
  | x :: t, k => if p x = true then k else idxP p t (k + 1)
theorem idx_end (p : Int → Bool) (l : List Int) (j : Nat) (k : Int) (h : l.length ≤ j) : idxP p (l.drop j) k = -1 := by rw [List.drop_eq_nil_of_le h]; rfl
theorem idx_yes {p : Int → Bool} {l : List Int} {j : Nat} (k : Int) (h : j < l.length) (e : p l[j] = true) : idxP p (l.drop j) k = k := by rw [List.drop_eq_getElem_cons h, idxP, if_pos e]
theorem idx_no {p : Int → Bool} {l : List Int} {j : Nat} (k : Int) (h : j < l.length) (e : p l[j] = false) : idxP p (l.drop j) k = idxP p (l.drop (j + 1)) (k + 1) := by rw [List.drop_eq_getElem_cons h, idxP, if_neg (by rw [e]; simp)]
theorem idx_is (p : Int → Bool) : ∀ (l : List Int) (k : Int), 0 ≤ k → (idxP p l k = -1 ∧ ∀ x ∈ l, p x = false) ∨ (0 ≤ idxP p l k ∧ ∃ x ∈ l, p x = true)
  | [], k, _ => .inl ⟨rfl, fun x hx => by cases hx⟩
  | x :: t, k, hk => by
    cases hx : p x with
    | true => exact .inr ⟨by rw [idxP, if_pos hx]; exact hk, x, by simp, hx⟩
    | false =>
      rw [idxP, if_neg (by rw [hx]; simp)]
      rcases idx_is p t (k + 1) (by omega) with ⟨h1, h2⟩ | ⟨h1, y, h2, h3⟩
      · refine .inl ⟨h1, fun y hy => ?_⟩
        rcases List.mem_cons.1 hy with rfl | hy
        · exact hx
        · exact h2 y hy
      · exact .inr ⟨h1, y, List.mem_cons_of_mem _ h2, h3⟩
def out (x : Int) : Bool := !inB x 0 10000000
def pos (x : Int) : Bool := decide (0 < x)
theorem idx_first : ∀ (l : List Int) (k : Int), idxP pos l k = firstP l k
  | [], _ => rfl
  | x :: t, k => by
    by_cases h : 0 < x
    · rw [idxP, firstP, if_pos h, if_pos (by simpa [pos] using h)]
    · rw [idxP, firstP, if_neg h, if_neg (by simpa [pos] using h), idx_first t]
/-- At most 300 amounts, each in its range. -/
def OkL (l : List Int) : Prop := l.length ≤ 300 ∧ ∀ i (h : i < l.length), 0 ≤ l[i] ∧ l[i] ≤ 10000000
open Classical in
noncomputable def okL (l : List Int) : Bool := decide (OkL l)
theorem okL_yes {l : List Int} (h : OkL l) : okL l = true := by simp [okL, h]
theorem okL_no {l : List Int} (h : ¬ OkL l) : okL l = false := by simp [okL, h]
theorem okL_of {l : List Int} (h : okL l = true) : OkL l := by simpa [okL] using h
theorem okL_not {l : List Int} (h : okL l = false) : ¬ OkL l := by simpa [okL] using h
theorem okL_idx {l : List Int} (hl : l.length ≤ 300) : (0 ≤ idxP out l 0 ∧ okL l = false) ∨ (idxP out l 0 = -1 ∧ okL l = true) := by
  rcases idx_is out l 0 (Int.le_refl _) with ⟨h1, h2⟩ | ⟨h1, x, hx, h2⟩
  · refine .inr ⟨h1, okL_yes ⟨hl, fun i hi => ?_⟩⟩
    have := h2 _ (List.getElem_mem hi)
    exact inB_of (by simpa [out] using this)
  · refine .inl ⟨h1, okL_no fun e => ?_⟩
    obtain ⟨i, hi, rfl⟩ := List.mem_iff_getElem.1 hx
    exact inB_not (by simpa [out] using h2) (e.2 i hi)
theorem upto_i (x hi : Int) (w : World) : Calls Try.prog 30 #[.int .i64 x, .int .i64 hi] w (IsB (inB x 0 hi) w) := by
  by_cases h1 : 0 ≤ x
  · by_cases h2 : x ≤ hi
    · rw [inB_yes h1 h2]
      go_enter Try.func30, Try.ntmps30
      go_wp2
      go_ret
      exact ⟨rfl, rfl⟩
    · rw [inB_hi h2]
      go_enter Try.func30, Try.ntmps30
      go_wp2
      go_ret
      exact ⟨rfl, rfl⟩
  · rw [inB_lo h1]
    go_enter Try.func30, Try.ntmps30
    go_wp2
    go_ret
    exact ⟨rfl, rfl⟩
set_option maxHeartbeats 1000000 in
theorem due_i (w : World) (pay rate : Int) : Calls Try.prog 18 #[.int .i64 pay, .int .i64 rate] w (AccS.IsInt (dueF pay rate) w) := by
  obtain ⟨R, hR⟩ : ∃ R, dueF pay rate = R := ⟨_, rfl⟩
  have HY : Hid (inB pay 0 1000000000 = true → inB rate 0 1000 = true → R = (pay * rate).tdiv 1000) := Lib.hid fun h1 h2 => by rw [← hR]; exact due_yes h1 h2
  have HN1 : Hid (inB pay 0 1000000000 = false → R = 0) := Lib.hid fun h => by rw [← hR]; exact due_no1 h
  have HN2 : Hid (inB rate 0 1000 = false → R = 0) := Lib.hid fun h => by rw [← hR]; exact due_no2 h
  rw [hR]
  clear hR
  go_enter Try.func18, Try.ntmps18
  go_wp2_with fail
  refine (upto_i pay 1000000000 w).mono ?_
  rintro e w1 ⟨rfl, rfl⟩
  cases h1 : inB pay 0 1000000000 with
  | false =>
    have E := Lib.hid (HN1.out h1)
    clear h1
    go_wp2
    go_ret
    exact ⟨by rw [E.out]; rfl, Below.refl _ _⟩
  | true =>
  go_wp2_with fail
  refine (upto_i rate 1000 w).mono ?_
  rintro e w1 ⟨rfl, rfl⟩
  cases h2 : inB rate 0 1000 with
  | false =>
    have E := Lib.hid (HN2.out h2)
    clear h1 h2
    go_wp2
    go_ret
    exact ⟨by rw [E.out]; rfl, Below.refl _ _⟩
  | true =>
  have E := HY.out h1 h2
  have b1 := inB_of h1
  have b2 := inB_of h2
  have p0 : 0 ≤ pay * rate := Int.mul_nonneg b1.1 b2.1
  have p1 : pay * rate ≤ 1000000000 * 1000 := Int.mul_le_mul b1.2 b2.2 b2.1 (by omega)
  obtain ⟨x, hx⟩ : ∃ x, pay * rate = x := ⟨_, rfl⟩
  have W1 : IntKind.i64.wrap (pay * rate) = x := by rw [hx] at p0 p1 ⊢; exact IntWalk.i64_in _ (by omega)
  rw [hx] at E p0 p1
  have W2 : IntKind.i64.wrap (x.tdiv 1000) = x.tdiv 1000 := by
    rw [Int.tdiv_eq_ediv_of_nonneg p0]; exact IntWalk.i64_in _ (by omega)
  have E := Lib.hid E
  clear h1 h2 hx
  go_wp2
  go_ret
  exact ⟨by rw [E.out]; rfl, Below.refl _ _⟩
set_option maxHeartbeats 1000000 in
theorem on_i (w : World) (b r : Int) (r0 : 0 ≤ r) (r1 : r ≤ 500) (hb : b ≤ 100000000000000) : Calls Try.prog 31 #[.int .i64 b, .int .i64 r] w (IsI (intr r b) w) := by
  by_cases hu : 0 < b
  · have PB := prod_bd r0 r1 hu hb
    have I0 := intr_bd r0 r1 hb
    rw [intr_pos hu] at I0 ⊢
    obtain ⟨q, hq⟩ : ∃ q, b * r = q := ⟨_, rfl⟩
    have W1 : IntKind.i64.wrap (b * r) = q := by rw [hq] at PB ⊢; exact IntWalk.i64_in _ (by omega)
    rw [hq] at I0 PB ⊢
    obtain ⟨z, hz⟩ : ∃ z, q.tdiv 12000 = z := ⟨_, rfl⟩
    have W2 : IntKind.i64.wrap (q.tdiv 12000) = z := by rw [hz] at I0 ⊢; exact IntWalk.i64_in _ (by omega)
    rw [hz]
    clear hq hz PB I0
    go_enter Try.func31, Try.ntmps31
    go_wp2
    go_ret
    exact ⟨rfl, rfl⟩
  · rw [intr_neg hu]
    have W1 : IntKind.i64.wrap (0 * r) = 0 := by rw [Int.zero_mul]; rfl
    have W2 : IntKind.i64.wrap (Int.tdiv 0 12000) = 0 := by decide +kernel
    by_cases h0 : b = 0
    · subst h0
      clear hu
      go_enter Try.func31, Try.ntmps31
      go_wp2
      go_ret
      exact ⟨rfl, rfl⟩
    · have hb' : b < 0 := by omega
      clear hu h0
      go_enter Try.func31, Try.ntmps31
      go_wp2
      go_ret
      exact ⟨rfl, rfl⟩
theorem out_i (x : Int) (w : World) : Calls Try.prog 44 #[.int .i64 x] w (IsB (out x) w) := by
  unfold out
  go_enter Try.func44, Try.ntmps44
  go_wp2_with fail
  refine (upto_i x 10000000 w).mono ?_
  rintro e w1 ⟨rfl, rfl⟩
  go_wp2
  go_ret
  exact ⟨rfl, rfl⟩
theorem pos_i (x : Int) (w : World) : Calls Try.prog 33 #[.int .i64 x] w (IsB (pos x) w) := by
  unfold pos
  go_enter Try.func33, Try.ntmps33
  go_wp2
  go_ret
  exact ⟨rfl, rfl⟩
set_option maxHeartbeats 1000000 in
theorem find_out (w : World) (p : Option Addr) (m cap : Nat) (l : List Int) (hm : l.length = m) (hs : m ≤ 1099511627776) (h : Reads TInt.fc 1 w p l) :
    Calls Try.prog 32 #[.slice p m cap, .func (.func 44) #[] #[]] w (IsI (idxP out l 0) w) := by
  have KK := Lib.hid h
  have HM := Lib.hid hm
  obtain ⟨R, hR⟩ : ∃ R, idxP out l 0 = R := ⟨_, rfl⟩
  have HR := Lib.hid hR
  rw [hR]
  clear h hm hR
  go_enter Try.func32, Try.ntmps32
  go_wp2
  go_loopw [8] (fun i wr => ∃ j : Nat, j ≤ m ∧ i = .int .i64 (j : Int) ∧ Hid (idxP out (l.drop j) (j : Int) = R) ∧ w = wr) (fun i _ => m - (intOf i).toNat)
  case atStart => exact ⟨0, Nat.zero_le _, rfl, HR, rfl⟩
  case round =>
    obtain ⟨j, hj, rfl, HP, rfl⟩ := hrel
    by_cases hlt : j < m
    · have HLT := Lib.hid (show j < l.length by rw [HM.out]; exact hlt)
      obtain ⟨g, o, rfl, hgl, q0⟩ := AccS.read KK.out j HLT.out
      have b1 : (0 : Int) ≤ (j : Int) := by omega
      have b2 : (j : Int) < (m : Int) := by omega
      have HX : Hid (out (l[j]'HLT.out) = true → (j : Int) = R) := Lib.hid (fun e => (idx_yes (j : Int) HLT.out e).symm.trans HP.out)
      have HZ : Hid (out (l[j]'HLT.out) = false → idxP out (l.drop (j + 1)) ((j : Int) + 1) = R) := Lib.hid (fun e => (idx_no (j : Int) HLT.out e).symm.trans HP.out)
      clear HP
      generalize (l[j]'HLT.out) = x at q0 HX HZ
      obtain ⟨d, hd⟩ : ∃ d, out x = d := ⟨_, rfl⟩
      have HD := Lib.hid hd
      clear hd
      go_wp2_with fail
      refine (out_i x _).mono ?_
      rintro e w1 ⟨rfl, rfl⟩
      rw [HD.out]
      cases d with
      | true =>
        have E := Lib.hid (HX.out HD.out)
        clear HX HZ HD
        go_wp2
        go_ret
        exact ⟨by rw [← E.out]; rfl, rfl⟩
      | false =>
        have E := Lib.hid (HZ.out HD.out)
        clear HX HZ HD
        go_wp2
        go_roundw
        case rel => exact ⟨j + 1, by omega, by go_num, E, trivial⟩
        case measure => simp [intOf]; omega
    · obtain rfl : j = m := by omega
      have E := Lib.hid ((idx_end out l j (j : Int) (by rw [HM.out]; exact Nat.le_refl _)).symm.trans HP.out)
      clear HP
      go_wp2
      go_ret
      exact ⟨by rw [← E.out]; rfl, rfl⟩
set_option maxHeartbeats 1000000 in
theorem find_pos (w : World) (p : Option Addr) (m cap : Nat) (l : List Int) (hm : l.length = m) (hs : m ≤ 1099511627776) (h : Reads TInt.fc 1 w p l) :
    Calls Try.prog 32 #[.slice p m cap, .func (.func 33) #[] #[]] w (IsI (idxP pos l 0) w) := by
  have KK := Lib.hid h
  have HM := Lib.hid hm
  obtain ⟨R, hR⟩ : ∃ R, idxP pos l 0 = R := ⟨_, rfl⟩
  have HR := Lib.hid hR
  rw [hR]
  clear h hm hR
  go_enter Try.func32, Try.ntmps32
  go_wp2
  go_loopw [8] (fun i wr => ∃ j : Nat, j ≤ m ∧ i = .int .i64 (j : Int) ∧ Hid (idxP pos (l.drop j) (j : Int) = R) ∧ w = wr) (fun i _ => m - (intOf i).toNat)
  case atStart => exact ⟨0, Nat.zero_le _, rfl, HR, rfl⟩
  case round =>
    obtain ⟨j, hj, rfl, HP, rfl⟩ := hrel
    by_cases hlt : j < m
    · have HLT := Lib.hid (show j < l.length by rw [HM.out]; exact hlt)
      obtain ⟨g, o, rfl, hgl, q0⟩ := AccS.read KK.out j HLT.out
      have b1 : (0 : Int) ≤ (j : Int) := by omega
      have b2 : (j : Int) < (m : Int) := by omega
      have HX : Hid (pos (l[j]'HLT.out) = true → (j : Int) = R) := Lib.hid (fun e => (idx_yes (j : Int) HLT.out e).symm.trans HP.out)
      have HZ : Hid (pos (l[j]'HLT.out) = false → idxP pos (l.drop (j + 1)) ((j : Int) + 1) = R) := Lib.hid (fun e => (idx_no (j : Int) HLT.out e).symm.trans HP.out)
      clear HP
      generalize (l[j]'HLT.out) = x at q0 HX HZ
      obtain ⟨d, hd⟩ : ∃ d, pos x = d := ⟨_, rfl⟩
      have HD := Lib.hid hd
      clear hd
      go_wp2_with fail
      refine (pos_i x _).mono ?_
      rintro e w1 ⟨rfl, rfl⟩
      rw [HD.out]
      cases d with
      | true =>
        have E := Lib.hid (HX.out HD.out)
        clear HX HZ HD
        go_wp2
        go_ret
        exact ⟨by rw [← E.out]; rfl, rfl⟩
      | false =>
        have E := Lib.hid (HZ.out HD.out)
        clear HX HZ HD
        go_wp2
        go_roundw
        case rel => exact ⟨j + 1, by omega, by go_num, E, trivial⟩
        case measure => simp [intOf]; omega
    · obtain rfl : j = m := by omega
      have E := Lib.hid ((idx_end pos l j (j : Int) (by rw [HM.out]; exact Nat.le_refl _)).symm.trans HP.out)
      clear HP
      go_wp2
      go_ret
      exact ⟨by rw [← E.out]; rfl, rfl⟩
theorem has_out (w : World) (p : Option Addr) (m cap : Nat) (l : List Int) (hm : l.length = m) (hs : m ≤ 300) (h : Reads TInt.fc 1 w p l) :
    Calls Try.prog 43 #[.slice p m cap, .func (.func 44) #[] #[]] w (IsB (!(okL l)) w) := by
  have KK := Lib.hid h
  have HM := Lib.hid hm
  clear h hm
  go_enter Try.func43, Try.ntmps43
  go_wp2_with fail
  refine (find_out _ p m cap l HM.out (by omega) KK.out).mono ?_
  rintro e w1 ⟨rfl, rfl⟩
  rcases okL_idx (l := l) (by rw [HM.out]; exact hs) with ⟨h1, h2⟩ | ⟨h1, h2⟩
  · have E := Lib.hid h2
    clear h2
    generalize idxP out l 0 = r at h1 ⊢
    have d1 : decide (0 ≤ r) = true := decide_eq_true h1
    go_wp2
    go_ret
    exact ⟨by rw [E.out]; rfl, rfl⟩
  · have E := Lib.hid h2
    clear h2
    rw [h1]
    clear h1
    go_wp2
    go_ret
    exact ⟨by rw [E.out]; rfl, rfl⟩
theorem amounts_i (w : World) (p : Option Addr) (m cap : Nat) (l : List Int) (hm : l.length = m) (hs : m ≤ 1099511627776) (h : Reads TInt.fc 1 w p l) :
    Calls Try.prog 29 #[.slice p m cap] w (IsB (okL l) w) := by
  have KK := Lib.hid h
  have HM := Lib.hid hm
  obtain ⟨R, hR⟩ : ∃ R, okL l = R := ⟨_, rfl⟩
  have HR := Lib.hid hR
  rw [hR]
  clear h hm hR
  go_enter Try.func29, Try.ntmps29
  by_cases hl : m ≤ 300
  · go_wp2_with fail
    refine (has_out _ p m cap l HM.out hl KK.out).mono ?_
    rintro e w1 ⟨rfl, rfl⟩
    rw [HR.out]
    go_wp2
    go_ret
    exact ⟨by cases R <;> rfl, rfl⟩
  · have E := Lib.hid (show R = false by rw [← HR.out]; exact okL_no fun e => hl (by rw [← HM.out]; exact e.1))
    go_wp2
    go_ret
    exact ⟨by rw [E.out]; rfl, rfl⟩
theorem bals_snoc (D P : List Int) (r : Int) (n j : Nat) (h : j < n) : (bals D P r j ++ List.replicate (n - j) 0).set j (bal D P r (j + 1)) = bals D P r (j + 1) ++ List.replicate (n - (j + 1)) 0 := by
  have e : n - j = (n - (j + 1)) + 1 := by omega
  rw [List.set_append_right _ _ (by rw [bals_len]; exact Nat.le_refl _), bals_len, Nat.sub_self, e, List.replicate_succ, List.set_cons_zero, bals_succ, List.append_assoc]
  rfl
set_option maxHeartbeats 4000000 in
theorem run_i (w : World) (p1 : Option Addr) (m1 c1 : Nat) (D : List Int) (p2 : Option Addr) (m2 c2 : Nat) (P : List Int) (r : Int) (hm1 : D.length = m1) (hs1 : m1 ≤ 1099511627776) (h1 : Reads TInt.fc 1 w p1 D) (hm2 : P.length = m2) (hs2 : m2 ≤ 1099511627776) (h2 : Reads TInt.fc 1 w p2 P) :
    Calls Try.prog 12 #[.slice p1 m1 c1, .slice p2 m2 c2, .int .i64 r] w (TInt.IsRow (runA D P r) w) := by
  have K1 := Lib.hid h1
  have K2 := Lib.hid h2
  have M1 := Lib.hid hm1
  have M2 := Lib.hid hm2
  obtain ⟨R, hR⟩ : ∃ R, runA D P r = R := ⟨_, rfl⟩
  have HR := Lib.hid hR
  have HN : Hid (¬ OkA D P r → R = []) := Lib.hid fun h => by rw [← hR]; exact run_no (ask_no h)
  rw [hR]
  clear h1 h2 hm1 hm2 hR
  go_enter Try.func12, Try.ntmps12
  go_wp2_with fail
  refine (amounts_i w p1 m1 c1 D M1.out hs1 K1.out).mono ?_
  rintro e w1 ⟨rfl, rfl⟩
  cases a1 : okL D with
  | false =>
    have E := Lib.hid (HN.out fun h => okL_not a1 ⟨h.2.1, h.2.2.2.1⟩)
    clear a1
    go_wp2
    go_ret
    rw [E.out]
    exact ⟨none, 0, rfl, Owns.nil _ _ _, Below.refl _ _⟩
  | true =>
  have A1 := Lib.hid (okL_of a1)
  clear a1
  go_wp2_with fail
  refine (amounts_i w p2 m2 c2 P M2.out hs2 K2.out).mono ?_
  rintro e w1 ⟨rfl, rfl⟩
  cases a2 : okL P with
  | false =>
    have E := Lib.hid (HN.out fun h => okL_not a2 ⟨by have := h.1; have := h.2.1; omega, h.2.2.2.2⟩)
    clear a2
    go_wp2
    go_ret
    rw [E.out]
    exact ⟨none, 0, rfl, Owns.nil _ _ _, Below.refl _ _⟩
  | true =>
  have A2 := Lib.hid (okL_of a2)
  clear a2
  by_cases e1 : m1 = m2
  · subst e1
    go_wp2_with fail
    refine (upto_i r 500 w).mono ?_
    rintro e w1 ⟨rfl, rfl⟩
    cases h3 : inB r 0 500 with
    | false =>
      have E := Lib.hid (HN.out fun h => inB_not h3 h.2.2.1)
      clear h3
      go_wp2
      go_ret
      rw [E.out]
      exact ⟨none, 0, rfl, Owns.nil _ _ _, Below.refl _ _⟩
    | true =>
    have hr := inB_of h3
    clear h3
    have hOK : OkA D P r := ⟨M1.out.trans M2.out.symm, A1.out.1, hr, A1.out.2, A2.out.2⟩
    have HA := Lib.hid hOK
    have E := Lib.hid (show bals D P r D.length = R by rw [← HR.out]; exact (run_yes (ask_yes hOK)).symm)
    have hm300 : m1 ≤ 300 := by rw [← M1.out]; exact hOK.2.1
    clear hOK
    go_wp2_with (at_make; refine wpList_makeN TInt.ft TInt.fw (z0 := 0) rfl _ rfl _ _ rfl w.heap.size .i64 .i64 _ _ m1 rfl rfl rfl rfl hs1 (Nat.le_refl _) ?_; intro w1 hown1 hg1; refine Fresh.pause ?_)
    refine ⟨?_⟩
    have hb1 : Below w.heap.size w w1 := (Below.refl _ _).grown hg1 (Nat.le_refl _) (by simp)
    obtain ⟨g, hg⟩ : ∃ g, w.heap.size = g := ⟨_, rfl⟩
    have HO := Lib.hid hown1
    have HB := Lib.hid hb1
    have HGE := Lib.hid hg
    rw [hg] at HO ⊢
    clear hown1 hg1 hb1 hg
    go_wp2
    go_loopw [8, 35] (fun b i wr => ∃ j : Nat, j ≤ m1 ∧ i = .int .i64 (j : Int) ∧ b = .int .i64 (bal D P r j) ∧ Hid (Owns TInt.fc 1 wr g 3 (.slice (some ⟨g, 0, none⟩) m1 m1) (bals D P r j ++ List.replicate (m1 - j) 0)) ∧ Hid (Below w.heap.size w wr)) (fun _ i _ => m1 - (intOf i).toNat)
    case atStart => exact ⟨0, Nat.zero_le _, rfl, rfl, HO, HB⟩
    case round =>
      clear HO HB
      obtain ⟨j, hj, rfl, rfl, HO, HB⟩ := hrel
      by_cases hlt : j < m1
      · have dJ : decide ((j : Int) < (m1 : Int)) = true := decide_eq_true (by omega)
        have L1 := Lib.hid (show j < D.length by rw [M1.out]; exact hlt)
        have L2 := Lib.hid (show j < P.length by rw [M2.out]; exact hlt)
        obtain ⟨g1, o1, rfl, hg1, q1⟩ := AccS.read (K1.out.on HB.out) j L1.out
        obtain ⟨g2, o2, rfl, hg2, q2⟩ := AccS.read (K2.out.on HB.out) j L2.out
        have b1 : (0 : Int) ≤ (j : Int) := by omega
        have b2 : (j : Int) < (m1 : Int) := by omega
        have E1 := bal_succ D P r j
        rw [at0_in L1.out, at0_in L2.out] at E1
        have B0 := bal_bd HA.out (j := j) (by omega)
        have I0 := intr_bd hr.1 hr.2 B0.2
        have D0 := HA.out.2.2.2.1 j L1.out
        have P0 := HA.out.2.2.2.2 j L2.out
        have ES := Lib.hid (bals_snoc D P r m1 j hlt)
        obtain ⟨u, hu⟩ : ∃ u, bal D P r (j + 1) = u := ⟨_, rfl⟩
        have HU := Lib.hid hu
        rw [hu] at E1 ES
        generalize D[j]'L1.out = x at q1 E1 D0
        generalize P[j]'L2.out = y at q2 E1 P0
        generalize bal D P r j = b at B0 I0 E1 ⊢
        have HI := Lib.hid (on_i (w := wr) b r hr.1 hr.2 B0.2)
        have HI' := Lib.hid (fun n => on_i (wr.drewN n) b r hr.1 hr.2 B0.2)
        generalize intr r b = z at I0 E1 HI HI'
        have W1 : IntKind.i64.wrap (z + x) = z + x := IntWalk.i64_in _ (by omega)
        have W2 : IntKind.i64.wrap (z + x - y) = z + x - y := IntWalk.i64_in _ (by omega)
        have W3 : IntKind.i64.wrap (b + (z + x - y)) = u := by rw [show b + (z + x - y) = u by omega]; exact IntWalk.i64_in _ (by omega)
        clear E1 I0 D0 P0 hu
        go_wp2_with fail
        go_quiet ((go_at_call 31; with_reducible exact Quiet.left (HI'.out _)))
        clear W1 W2 W3 q1 q2 HI HI'
        generalize hW : wr.drewN _ = w3
        have HO3 := Lib.hid (show Owns TInt.fc 1 w3 g 3 (.slice (some ⟨g, 0, none⟩) m1 m1) _ by rw [← hW]; exact HO.out.drewN _)
        have HB3 := Lib.hid (show Below w.heap.size w w3 by rw [← hW]; exact below_drewN HB.out _)
        clear hW HO HB
        obtain ⟨g', eg, _, _, hc⟩ := HO3.out.at TInt.fw j (by rw [List.length_append, bals_len, List.length_replicate]; omega)
        obtain rfl : g = g' := by simpa using eg
        have hc0 := hc 0 (by omega)
        rw [Nat.mul_one, Nat.add_zero] at hc0
        obtain ⟨q3, f3⟩ := hc0
        clear hc eg
        obtain ⟨v3, hv3⟩ : ∃ v3, w3.cell? ⟨g, j, none⟩ = some v3 := ⟨_, q3⟩
        clear q3
        go_wp2
        go_roundw
        case rel =>
          refine ⟨j + 1, by omega, by go_num, by rw [HU.out], ?_, ?_⟩
          · have hst := HO3.out.stored TInt.fw j (by rw [List.length_append, bals_len, List.length_replicate]; omega) 0 (by omega) (.int .i64 u) u rfl
            rw [ES.out, Nat.mul_one, Nat.add_zero] at hst
            exact Lib.hid hst
          · exact Lib.hid (BelowKit.bl_set HB3.out _ (by rw [HGE.out]; exact Nat.le_refl _))
        case measure => simp [intOf]; omega
      · obtain rfl : j = m1 := by omega
        go_wp2
        refine bodyPost_ret (v := .slice (some ⟨g, 0, none⟩) j j) (by simp [results, Try.results12]) rfl ⟨some ⟨g, 0, none⟩, j, ?_, ?_, HB.out⟩
        · rw [← E.out, bals_len, M1.out]
        · have ho := HO.out
          rw [Nat.sub_self, List.replicate_zero, List.append_nil] at ho
          rw [← E.out, bals_len, M1.out, HGE.out]
          exact ho
  · have E := Lib.hid (HN.out fun h => e1 (by have := h.1; rw [M1.out, M2.out] at this; exact this))
    have d1 : decide ((m1 : Int) = (m2 : Int)) = false := decide_eq_false (by omega)
    go_wp2
    go_ret
    rw [E.out]
    exact ⟨none, 0, rfl, Owns.nil _ _ _, Below.refl _ _⟩
theorem sumI_one (D P : List Int) (r : Int) : sumI D P r 1 = 0 := by rw [sumI_succ, bal_zero, intr_neg (by omega)]; rfl
theorem sumI_two (D P : List Int) (r : Int) (j : Nat) : sumI D P r (j + 1 + 1) = sumI D P r (j + 1) + intr r (bal D P r (j + 1)) := rfl
set_option maxHeartbeats 1000000 in
theorem int_i (w : World) (p1 : Option Addr) (m1 c1 : Nat) (D : List Int) (p2 : Option Addr) (m2 c2 : Nat) (P : List Int) (r : Int) (hm1 : D.length = m1) (hs1 : m1 ≤ 1099511627776) (h1 : Reads TInt.fc 1 w p1 D) (hm2 : P.length = m2) (hs2 : m2 ≤ 1099511627776) (h2 : Reads TInt.fc 1 w p2 P) :
    Calls Try.prog 13 #[.slice p1 m1 c1, .slice p2 m2 c2, .int .i64 r] w (AccS.IsInt (intIn D P r) w) := by
  have K1 := Lib.hid h1
  have K2 := Lib.hid h2
  have M1 := Lib.hid hm1
  have M2 := Lib.hid hm2
  obtain ⟨R, hR⟩ : ∃ R, intIn D P r = R := ⟨_, rfl⟩
  have HR := Lib.hid hR
  rw [hR]
  clear h1 h2 hm1 hm2 hR
  go_enter Try.func13, Try.ntmps13
  go_wp2_with fail
  refine (run_i w p1 m1 c1 D p2 m2 c2 P r M1.out hs1 K1.out M2.out hs2 K2.out).mono ?_
  rintro e w1 ⟨a, c, rfl, ho, hb⟩
  have HO := Lib.hid (reads_own TInt.fw ho)
  have HB := Lib.hid hb
  clear ho hb
  cases ha : askB D P r with
  | false =>
    have E := Lib.hid (show R = 0 by rw [← HR.out]; exact int_no ha)
    rw [run_no ha]
    clear ha HO
    show _
    simp only [List.length_nil]
    go_wp2
    go_loopw [8, 17] (fun s i wr => i = .int .i64 0 ∧ s = .int .i64 0 ∧ w1 = wr) (fun _ i _ => 0)
    case atStart => exact ⟨rfl, rfl, rfl⟩
    case round =>
      obtain ⟨rfl, rfl, rfl⟩ := hrel
      go_wp2
      go_ret
      exact ⟨by rw [E.out]; rfl, HB.out⟩
  | true =>
  have HA := Lib.hid (ask_of ha)
  have E := Lib.hid (show sumI D P r D.length = R by rw [← HR.out]; exact (int_yes ha).symm)
  rw [run_yes ha, bals_len, M1.out]
  rw [run_yes ha, M1.out] at HO
  clear ha
  have hm300 : m1 ≤ 300 := by rw [← M1.out]; exact HA.out.2.1
  have W0 : IntKind.i64.wrap ((m1 : Int) - 1) = (m1 : Int) - 1 := IntWalk.i64_in _ (by omega)
  go_wp2
  go_loopw [8, 17] (fun s i wr => ∃ j : Nat, (j = 0 ∨ j < m1) ∧ i = .int .i64 (j : Int) ∧ s = .int .i64 (sumI D P r (j + 1)) ∧ w1 = wr) (fun _ i _ => m1 - (intOf i).toNat)
  case atStart => exact ⟨0, .inl rfl, rfl, by rw [sumI_one], rfl⟩
  case round =>
    obtain ⟨j, hj, rfl, rfl, rfl⟩ := hrel
    by_cases hlt : j + 1 < m1
    · have dJ : decide ((j : Int) < (m1 : Int) - 1) = true := decide_eq_true (by omega)
      obtain ⟨g1, o1, rfl, hg1, q1⟩ := AccS.read HO.out j (by rw [bals_len]; omega)
      rw [bals_at] at q1
      have b1 : (0 : Int) ≤ (j : Int) := by omega
      have b2 : (j : Int) < (m1 : Int) := by omega
      have B0 := bal_bd HA.out (j := j + 1) (by omega)
      have I0 := intr_bd HA.out.2.2.1.1 HA.out.2.2.1.2 B0.2
      have S0 := sumI_bd HA.out (j + 1) (by omega)
      have HT := Lib.hid (on_i w1 (bal D P r (j + 1)) r HA.out.2.2.1.1 HA.out.2.2.1.2 B0.2)
      have E1 := sumI_two D P r j
      obtain ⟨u, hu⟩ : ∃ u, sumI D P r (j + 1 + 1) = u := ⟨_, rfl⟩
      have HU := Lib.hid hu
      rw [hu] at E1
      generalize bal D P r (j + 1) = b at q1 I0 HT E1
      generalize intr r b = z at I0 HT E1
      generalize sumI D P r (j + 1) = s at S0 E1 ⊢
      have W1 : IntKind.i64.wrap (s + z) = u := by rw [← E1]; exact IntWalk.i64_in _ (by omega)
      clear E1 I0 S0 hu B0
      go_wp2_with fail
      refine HT.out.mono ?_
      rintro e w2 ⟨rfl, rfl⟩
      go_wp2
      clear W1
      go_roundw
      case rel => exact ⟨j + 1, .inr hlt, by go_num, by rw [HU.out], trivial⟩
      case measure => simp [intOf]; omega
    · have dJ : decide ((j : Int) < (m1 : Int) - 1) = false := decide_eq_false (by omega)
      have F := Lib.hid (show sumI D P r (j + 1) = R by
        rw [← E.out, M1.out]
        rcases hj with rfl | hj
        · rcases Nat.lt_or_ge 0 m1 with h | h
          · rw [show m1 = 1 by omega]
          · rw [show m1 = 0 by omega]; exact sumI_one D P r
        · rw [show j + 1 = m1 by omega])
      go_wp2
      go_ret
      exact ⟨by rw [← F.out]; rfl, HB.out⟩
set_option maxHeartbeats 1000000 in
theorem first_i (w : World) (p1 : Option Addr) (m1 c1 : Nat) (D : List Int) (p2 : Option Addr) (m2 c2 : Nat) (P : List Int) (r : Int) (hm1 : D.length = m1) (hs1 : m1 ≤ 1099511627776) (h1 : Reads TInt.fc 1 w p1 D) (hm2 : P.length = m2) (hs2 : m2 ≤ 1099511627776) (h2 : Reads TInt.fc 1 w p2 P) :
    Calls Try.prog 14 #[.slice p1 m1 c1, .slice p2 m2 c2, .int .i64 r] w (AccS.IsInt (firstA D P r) w) := by
  have K1 := Lib.hid h1
  have K2 := Lib.hid h2
  have M1 := Lib.hid hm1
  have M2 := Lib.hid hm2
  obtain ⟨L, hL⟩ : ∃ L, runA D P r = L := ⟨_, rfl⟩
  have HL := Lib.hid hL
  have hlen : L.length ≤ 300 := by rw [← hL]; exact run_len _ _ _
  rw [firstA, hL, ← idx_first]
  clear h1 h2 hm1 hm2 hL
  go_enter Try.func14, Try.ntmps14
  go_wp2_with fail
  refine (run_i w p1 m1 c1 D p2 m2 c2 P r M1.out hs1 K1.out M2.out hs2 K2.out).mono ?_
  rintro e w1 ⟨a, c, rfl, ho, hb⟩
  rw [HL.out] at ho ⊢
  have HO := Lib.hid (reads_own TInt.fw ho)
  have HB := Lib.hid hb
  clear ho hb
  go_wp2_with fail
  refine (find_pos w1 a L.length c L rfl (by omega) HO.out).mono ?_
  rintro e w2 ⟨rfl, rfl⟩
  go_wp2
  go_ret
  exact ⟨rfl, HB.out⟩
end Go.Proofs.Ytgdniakncjjggaa.AccA

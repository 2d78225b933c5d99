/- Contract of the model's ParseFrac. Written by gen_parsefs.py. -/
import Derived.Test.YtiogpiopgcbdbaaDoorRows
import Derived.Test.YtiogpiopgcbdbaaDoorFracTxS
import Derived.Test.YtiogpiopgcbdbaaDoorDigS
namespace Go.Proofs.YtiogpiopgcbdbaaDoor.ParseFS
open Go.RowKit FracMath HexMath NumMath NumParse NumBack FracTxM FracTxS FracMake
theorem tail_ext (s : ByteArray) : (s.extract 1 s.size).data.toList = s.data.toList.tail := by
  simp [ByteArray.data_extract, List.drop_one]
  exact List.take_of_length_le (by simp)
theorem take_ext (s : ByteArray) (k : Nat) : (s.extract 0 k).data.toList = s.data.toList.take k := by
  simp [ByteArray.data_extract]
theorem drop_ext (s : ByteArray) (k : Nat) : (s.extract k s.size).data.toList = s.data.toList.drop k := by
  simp [ByteArray.data_extract]
  exact List.take_of_length_le (by simp)
theorem find_at {l : List UInt8} {j : Nat} (hj : j < l.length) (h0 : ∀ i (h : i < l.length), i < j → l[i] ≠ 47) (h1 : l[j] = 47) : cutT l = j := by
  unfold cutT
  rw [List.findIdx_eq hj]
  refine ⟨by simp [h1], fun i hi => ?_⟩
  have := h0 i (by omega) hi
  simpa using this
theorem find_none {l : List UInt8} (h0 : ∀ i (h : i < l.length), l[i] ≠ 47) : cutT l = l.length := by
  unfold cutT
  rw [List.findIdx_eq_length]
  intro b hb
  obtain ⟨i, hi, rfl⟩ := List.mem_iff_getElem.1 hb
  simpa using h0 i hi
theorem strs_eq {t s : ByteArray} {l : List UInt8} (ht : str l = t) : (t.toList == s.toList) = decide (l = s.data.toList) := by
  rw [← ht, ByteArray.toList_eq, ByteArray.toList_eq]
  by_cases h : l = s.data.toList
  · simp [str, h]
  · rw [decide_eq_false h, beq_eq_false_iff_ne]
    intro e
    exact h (by simpa [str] using e)
set_option maxHeartbeats 16000000 in
theorem parse_s (s : ByteArray) (w : World) (_hm : s.size ≤ 1048576) :
    Calls Tryd.prog 19 #[.string s] w (IsFrac (parseT s.data.toList) w) := by
  obtain ⟨R, hR⟩ : ∃ R, parseT s.data.toList = R := ⟨_, rfl⟩
  rw [hR]
  have hlen : s.data.toList.length = s.size := by simp
  by_cases hpos : 0 < s.size
  case neg =>
    have E := Lib.hid (show R = (0, 0, false) by rw [← hR]; unfold parseT; rw [if_pos (.inl (by omega))])
    have h0 : s.size = 0 := by omega
    have d0 : ((s.size : Int) == 0) = true := by rw [h0]; rfl
    clear hR hlen hpos
    go_enter Tryd.func19, Tryd.ntmps19
    go_wp2
    refine bodyPost_ret (v := .tuple #[.agg #[.int .i64 0, .int .i64 0], .bool false]) (by simp [results, Tryd.results19, go_sem]) rfl ?_
    rw [E.out]
    exact ⟨rfl, by (repeat (first | exact Below.refl _ _ | apply BelowKit.bl_alloc | apply BelowKit.bl_drewN | apply BelowKit.bl_drew | (refine BelowKit.bl_set ?_ _ ?_; rotate_left; (first | omega | (simp; omega) | simp)) | (refine BelowKit.bl_trans ?_ (‹Hid (Below _ _ _)›).out)))⟩
  case pos =>
  have d0 : ((s.size : Int) == 0) = false := beq_eq_false_iff_ne.2 (by omega)
  by_cases hbig : s.size ≤ 25
  case neg =>
    have E := Lib.hid (show R = (0, 0, false) by rw [← hR]; unfold parseT; rw [if_pos (.inr (by omega))])
    have d1 : decide ((25 : Int) < (s.size : Int)) = true := decide_eq_true (by omega)
    clear hR hlen hbig
    go_enter Tryd.func19, Tryd.ntmps19
    go_wp2
    refine bodyPost_ret (v := .tuple #[.agg #[.int .i64 0, .int .i64 0], .bool false]) (by simp [results, Tryd.results19, go_sem]) rfl ?_
    rw [E.out]
    exact ⟨rfl, by (repeat (first | exact Below.refl _ _ | apply BelowKit.bl_alloc | apply BelowKit.bl_drewN | apply BelowKit.bl_drew | (refine BelowKit.bl_set ?_ _ ?_; rotate_left; (first | omega | (simp; omega) | simp)) | (refine BelowKit.bl_trans ?_ (‹Hid (Below _ _ _)›).out)))⟩
  case pos =>
  have d1 : decide ((25 : Int) < (s.size : Int)) = false := decide_eq_false (by omega)
  have HP : Hid (R = if numT s.data.toList < 0 ∨ denT s.data.toList < 0 then (0, 0, false) else if fracT (sgnT s.data.toList * numT s.data.toList) (denT s.data.toList) = s.data.toList then (sgnT s.data.toList * numT s.data.toList, denT s.data.toList, true) else (0, 0, false)) := Lib.hid (by rw [← hR]; unfold parseT; rw [if_neg (by omega)])
  have hz0 : s.data.toList.head? = some 45 ↔ (s[0]'hpos).toNat = 45 := by
    have e : s.data.toList.head? = some (s[0]'hpos) := by
      rw [List.head?_eq_getElem?, List.getElem?_eq_getElem (by omega)]
      rfl
    rw [e]
    constructor
    · intro h; rw [Option.some.inj h]; rfl
    · intro h; exact congrArg some (UInt8.toNat_inj.1 h)
  clear hR hlen
  by_cases hz : s.data.toList.head? = some 45
  case pos =>
    have HSG : Hid (sgnT s.data.toList = -1) := Lib.hid (by unfold sgnT; rw [if_pos hz])
    obtain ⟨t, ht⟩ : ∃ t, s.extract 1 s.size = t := ⟨_, rfl⟩
    have HBD : Hid (t.data.toList = bodyT s.data.toList) := Lib.hid (by rw [← ht, tail_ext]; unfold bodyT; rw [if_pos hz])
    have hts : t.size ≤ 25 := by rw [← ht, ByteArray.size_extract]; omega
    have hc0 : (s[0]'hpos).toNat = 45 := hz0.1 hz
    obtain ⟨b0, hb0⟩ : ∃ b : Nat, (s[0]'hpos).toNat = b := ⟨_, rfl⟩
    rw [hb0] at hc0
    have d45 : ((b0 : Int) == 45) = true := by rw [hc0]; rfl
    go_enter Tryd.func19, Tryd.ntmps19
    go_wp2
    go_loopw [6, 7] (fun cu i wr => ∃ j : Nat, j ≤ t.size ∧ i = .int .i64 (j : Int) ∧ cu = .int .i64 (t.size : Int) ∧ Hid (∀ i (h : i < t.data.toList.length), i < j → t.data.toList[i] ≠ 47) ∧ wr = w.alloc (.cells #[.int .i64 0, .int .i64 0] 25)) (fun _ i _ => t.size - (intOf i).toNat)
    case atStart => exact ⟨0, Nat.zero_le _, rfl, rfl, Lib.hid (fun i _ hi => by omega), rfl⟩
    case round =>
      obtain ⟨j, hj, rfl, rfl, HP0, rfl⟩ := hrel
      by_cases hlt : j < t.size
      · have hlt' : j < t.data.toList.length := by simpa using hlt
        obtain ⟨c, hc⟩ : ∃ c : Nat, t[j].toNat = c := ⟨_, rfl⟩
        have hc2 : c < 256 := by rw [← hc]; exact UInt8.toNat_lt _
        have hcl : (t.data.toList[j]'hlt').toNat = c := hc
        by_cases h47 : c = 47
        · have HCUT : Hid (cutT t.data.toList = j) := Lib.hid (find_at hlt' HP0.out (UInt8.toNat_inj.1 (by rw [hcl, h47]; rfl)))
          subst h47
          clear HP0 hcl
          have HN : Hid (dgt (t.extract 0 j).data.toList = numT s.data.toList) := Lib.hid (by rw [take_ext, numT, ← HBD.out, HCUT.out])
          have HDN : Hid (dgt (t.extract (j + 1) t.size).data.toList = denT s.data.toList) := Lib.hid (by rw [drop_ext, denT, ← HBD.out, HCUT.out, if_pos (by simpa using hlt)])
          obtain ⟨n, hn⟩ : ∃ n, numT s.data.toList = n := ⟨_, rfl⟩
          have bn := dgt_bd ((bodyT s.data.toList).take (cutT (bodyT s.data.toList)))
          rw [show dgt ((bodyT s.data.toList).take (cutT (bodyT s.data.toList))) = n from hn] at bn
          rw [hn] at HN
          obtain ⟨d, hd⟩ : ∃ d, denT s.data.toList = d := ⟨_, rfl⟩
          have bd := dgt_bd (t.extract (j + 1) t.size).data.toList
          rw [hd] at HDN
          rw [HDN.out] at bd
          have hR := HP.out
          rw [hn, hd, HSG.out] at hR
          have E1 : Hid (n < 0 ∨ d < 0 → R = (0, 0, false)) := Lib.hid (fun h => by rw [hR, if_pos h])
          have E2 : Hid (¬ (n < 0 ∨ d < 0) → fracT (-n) d = s.data.toList → R = ((-n), d, true)) := Lib.hid (fun h h2 => by rw [hR, if_neg h]; simp only [Int.neg_mul, Int.one_mul]; rw [if_pos h2])
          have E3 : Hid (¬ (n < 0 ∨ d < 0) → ¬ fracT (-n) d = s.data.toList → R = (0, 0, false)) := Lib.hid (fun h h2 => by rw [hR, if_neg h]; simp only [Int.neg_mul, Int.one_mul]; rw [if_neg h2])
          clear hR hn hd
          have bj0 : (0 : Int) ≤ (j : Int) := by omega
          have bj1 : (j : Int) ≤ (t.size : Int) := by omega
          have bj2 : (j : Int) < (t.size : Int) := by omega
          have W2 : IntKind.i64.wrap ((j : Int) + 1) = (j : Int) + 1 := IntWalk.i64_in _ (by omega)
          go_wp2_with fail
          refine (DigS.digits_s _ _ (by rw [ByteArray.size_extract]; omega)).mono ?_
          rintro e w1 ⟨rfl, rfl⟩
          rw [HN.out]
          go_wp2_with fail
          refine (DigS.digits_s _ _ (by rw [ByteArray.size_extract]; omega)).mono ?_
          rintro e w1 ⟨rfl, rfl⟩
          rw [HDN.out]
          have W3 : IntKind.i64.wrap (-n) = (-n) := IntWalk.i64_in _ (by omega)
          have W4 : IntKind.i64.wrap (-1 * n) = -n := by rw [IntWalk.i64_in _ (by omega)]; omega
          by_cases hn : n < 0
          case pos =>
            have dn : decide (n < 0) = true := decide_eq_true hn
            have E := Lib.hid (E1.out (.inl hn))
            clear E1 E2 E3 hn
            go_wp2
            refine bodyPost_ret (v := .tuple #[.agg #[.int .i64 0, .int .i64 0], .bool false]) (by simp [results, Tryd.results19, go_sem]) rfl ?_
            rw [E.out]
            exact ⟨rfl, by (repeat (first | exact Below.refl _ _ | apply BelowKit.bl_alloc | apply BelowKit.bl_drewN | apply BelowKit.bl_drew | (refine BelowKit.bl_set ?_ _ ?_; rotate_left; (first | omega | (simp; omega) | simp)) | (refine BelowKit.bl_trans ?_ (‹Hid (Below _ _ _)›).out)))⟩
          case neg =>
          have dn : decide (n < 0) = false := decide_eq_false hn
          by_cases hd : d < 0
          case pos =>
            have dd : decide (d < 0) = true := decide_eq_true hd
            have E := Lib.hid (E1.out (.inr hd))
            clear E1 E2 E3 hn hd
            go_wp2
            refine bodyPost_ret (v := .tuple #[.agg #[.int .i64 0, .int .i64 0], .bool false]) (by simp [results, Tryd.results19, go_sem]) rfl ?_
            rw [E.out]
            exact ⟨rfl, by (repeat (first | exact Below.refl _ _ | apply BelowKit.bl_alloc | apply BelowKit.bl_drewN | apply BelowKit.bl_drew | (refine BelowKit.bl_set ?_ _ ?_; rotate_left; (first | omega | (simp; omega) | simp)) | (refine BelowKit.bl_trans ?_ (‹Hid (Below _ _ _)›).out)))⟩
          case neg =>
          have dd : decide (d < 0) = false := decide_eq_false hd
          have F2 := Lib.hid (E2.out (by omega))
          have F3 := Lib.hid (E3.out (by omega))
          clear E1 E2 E3 hn hd
          go_wp2_with fail
          refine (format_s (-n) d _).mono ?_
          rintro e w3 ⟨rfl, hb⟩
          obtain ⟨u, hu⟩ : ∃ u, str (fracT (-n) d) = u := ⟨_, rfl⟩
          have hq := strs_eq (s := s) hu
          rw [hu]
          have s0 : w3.cell? ⟨w.heap.size, 0, none⟩ = some (.int .i64 0) := ((BelowKit.bcell hb).1 _ _ (by first | omega | (simp; done) | (simp; omega))).trans (by simp [go_sem])
          have f0 : w3.frozen? ⟨w.heap.size, 0, none⟩ = false := ((BelowKit.bcell hb).2 _ _ (by first | omega | (simp; done) | (simp; omega))).trans (by simp [go_sem])
          have s1 : w3.cell? ⟨w.heap.size, 1, none⟩ = some (.int .i64 0) := ((BelowKit.bcell hb).1 _ _ (by first | omega | (simp; done) | (simp; omega))).trans (by simp [go_sem])
          have f1 : w3.frozen? ⟨w.heap.size, 1, none⟩ = false := ((BelowKit.bcell hb).2 _ _ (by first | omega | (simp; done) | (simp; omega))).trans (by simp [go_sem])
          have x0 : w3.cell? ⟨w.heap.size + 1, 0, none⟩ = some (.int .i64 (-n)) := ((BelowKit.bcell hb).1 _ _ (by first | omega | (simp; done) | (simp; omega))).trans (by simp [go_sem])
          have x1 : w3.cell? ⟨w.heap.size + 1, 1, none⟩ = some (.int .i64 d) := ((BelowKit.bcell hb).1 _ _ (by first | omega | (simp; done) | (simp; omega))).trans (by simp [go_sem])
          have z1 : w.heap.size + 1 < w3.heap.size := by have := hb.size; simp at this; omega
          have z0 : w.heap.size < w3.heap.size := by omega
          have HBX := Lib.hid (show Below w.heap.size w w3 from BelowKit.bl_trans (by (repeat (first | exact Below.refl _ _ | apply BelowKit.bl_alloc | apply BelowKit.bl_drewN | apply BelowKit.bl_drew | (refine BelowKit.bl_set ?_ _ ?_; rotate_left; (first | omega | (simp; omega) | simp)) | (refine BelowKit.bl_trans ?_ (‹Hid (Below _ _ _)›).out)))) hb)
          clear hb hu W3 W4
          by_cases hf : fracT (-n) d = s.data.toList
          case pos =>
            rw [decide_eq_true hf] at hq
            have E := Lib.hid (F2.out hf)
            clear F2 F3 hf
            go_wp2
            refine bodyPost_ret (v := .tuple #[.agg #[.int .i64 (-n), .int .i64 d], .bool true]) (by simp [results, Tryd.results19, go_sem, s0, s1]) rfl ?_
            rw [E.out]
            exact ⟨rfl, BelowKit.bl_set (BelowKit.bl_set HBX.out (a := ⟨w.heap.size, 0, none⟩) _ (by simp)) (a := ⟨w.heap.size, 1, none⟩) _ (by simp)⟩
          case neg =>
            rw [decide_eq_false hf] at hq
            have E := Lib.hid (F3.out hf)
            clear F2 F3 hf
            go_wp2
            refine bodyPost_ret (v := .tuple #[.agg #[.int .i64 0, .int .i64 0], .bool false]) (by simp [results, Tryd.results19, go_sem, s0, s1]) rfl ?_
            rw [E.out]
            exact ⟨rfl, BelowKit.bl_set (BelowKit.bl_set HBX.out (a := ⟨w.heap.size, 0, none⟩) _ (by simp)) (a := ⟨w.heap.size, 1, none⟩) _ (by simp)⟩
        · have E : Hid (∀ i (h : i < t.data.toList.length), i < j + 1 → t.data.toList[i] ≠ 47) := Lib.hid (fun i h hi => by
            by_cases h2 : i = j
            · subst h2; intro e; rw [e] at hcl; exact h47 hcl.symm
            · exact HP0.out i h (by omega))
          have d47 : ((c : Int) == 47) = false := beq_eq_false_iff_ne.2 (by omega)
          clear HP0 hcl
          go_wp2
          go_roundw
          case rel => exact ⟨j + 1, by omega, by go_num, rfl, E, trivial⟩
          case measure => simp [intOf]; omega
      · obtain rfl : j = t.size := by omega
        have HCUT : Hid (cutT t.data.toList = t.size) := Lib.hid (by rw [find_none (fun i h => HP0.out i h (by simpa using h))]; simp)
        clear HP0
        have HN : Hid (dgt t.data.toList = numT s.data.toList) := Lib.hid (by rw [numT, ← HBD.out, HCUT.out, List.take_of_length_le (by simp)])
        have HDN : Hid (denT s.data.toList = 1) := Lib.hid (by rw [denT, ← HBD.out, HCUT.out, if_neg (by simp)])
        obtain ⟨n, hn⟩ : ∃ n, numT s.data.toList = n := ⟨_, rfl⟩
        have bn := dgt_bd ((bodyT s.data.toList).take (cutT (bodyT s.data.toList)))
        rw [show dgt ((bodyT s.data.toList).take (cutT (bodyT s.data.toList))) = n from hn] at bn
        rw [hn] at HN
        obtain ⟨d, hd⟩ : ∃ d : Int, d = 1 := ⟨_, rfl⟩
        replace hd : denT s.data.toList = 1 := HDN.out
        have hR := HP.out
        rw [hn, hd, HSG.out] at hR
        have E1 : Hid (n < 0 ∨ (1 : Int) < 0 → R = (0, 0, false)) := Lib.hid (fun h => by rw [hR, if_pos h])
        have E2 : Hid (¬ (n < 0 ∨ (1 : Int) < 0) → fracT (-n) (1 : Int) = s.data.toList → R = ((-n), (1 : Int), true)) := Lib.hid (fun h h2 => by rw [hR, if_neg h]; simp only [Int.neg_mul, Int.one_mul]; rw [if_pos h2])
        have E3 : Hid (¬ (n < 0 ∨ (1 : Int) < 0) → ¬ fracT (-n) (1 : Int) = s.data.toList → R = (0, 0, false)) := Lib.hid (fun h h2 => by rw [hR, if_neg h]; simp only [Int.neg_mul, Int.one_mul]; rw [if_neg h2])
        clear hR hn hd
        go_wp2_with fail
        refine (DigS.digits_s _ _ (by omega)).mono ?_
        rintro e w1 ⟨rfl, rfl⟩
        rw [HN.out]
        have W3 : IntKind.i64.wrap (-n) = (-n) := IntWalk.i64_in _ (by omega)
        have W4 : IntKind.i64.wrap (-1 * n) = -n := by rw [IntWalk.i64_in _ (by omega)]; omega
        by_cases hn : n < 0
        case pos =>
          have dn : decide (n < 0) = true := decide_eq_true hn
          have E := Lib.hid (E1.out (.inl hn))
          clear E1 E2 E3 hn
          go_wp2
          refine bodyPost_ret (v := .tuple #[.agg #[.int .i64 0, .int .i64 0], .bool false]) (by simp [results, Tryd.results19, go_sem]) rfl ?_
          rw [E.out]
          exact ⟨rfl, by (repeat (first | exact Below.refl _ _ | apply BelowKit.bl_alloc | apply BelowKit.bl_drewN | apply BelowKit.bl_drew | (refine BelowKit.bl_set ?_ _ ?_; rotate_left; (first | omega | (simp; omega) | simp)) | (refine BelowKit.bl_trans ?_ (‹Hid (Below _ _ _)›).out)))⟩
        case neg =>
        have dn : decide (n < 0) = false := decide_eq_false hn
        have F2 := Lib.hid (E2.out (by omega))
        have F3 := Lib.hid (E3.out (by omega))
        clear E1 E2 E3 hn
        go_wp2_with fail
        refine (format_s (-n) (1 : Int) _).mono ?_
        rintro e w3 ⟨rfl, hb⟩
        obtain ⟨u, hu⟩ : ∃ u, str (fracT (-n) (1 : Int)) = u := ⟨_, rfl⟩
        have hq := strs_eq (s := s) hu
        rw [hu]
        have s0 : w3.cell? ⟨w.heap.size, 0, none⟩ = some (.int .i64 0) := ((BelowKit.bcell hb).1 _ _ (by first | omega | (simp; done) | (simp; omega))).trans (by simp [go_sem])
        have f0 : w3.frozen? ⟨w.heap.size, 0, none⟩ = false := ((BelowKit.bcell hb).2 _ _ (by first | omega | (simp; done) | (simp; omega))).trans (by simp [go_sem])
        have s1 : w3.cell? ⟨w.heap.size, 1, none⟩ = some (.int .i64 0) := ((BelowKit.bcell hb).1 _ _ (by first | omega | (simp; done) | (simp; omega))).trans (by simp [go_sem])
        have f1 : w3.frozen? ⟨w.heap.size, 1, none⟩ = false := ((BelowKit.bcell hb).2 _ _ (by first | omega | (simp; done) | (simp; omega))).trans (by simp [go_sem])
        have x0 : w3.cell? ⟨w.heap.size + 1, 0, none⟩ = some (.int .i64 (-n)) := ((BelowKit.bcell hb).1 _ _ (by first | omega | (simp; done) | (simp; omega))).trans (by simp [go_sem])
        have x1 : w3.cell? ⟨w.heap.size + 1, 1, none⟩ = some (.int .i64 (1 : Int)) := ((BelowKit.bcell hb).1 _ _ (by first | omega | (simp; done) | (simp; omega))).trans (by simp [go_sem])
        have z1 : w.heap.size + 1 < w3.heap.size := by have := hb.size; simp at this; omega
        have z0 : w.heap.size < w3.heap.size := by omega
        have HBX := Lib.hid (show Below w.heap.size w w3 from BelowKit.bl_trans (by (repeat (first | exact Below.refl _ _ | apply BelowKit.bl_alloc | apply BelowKit.bl_drewN | apply BelowKit.bl_drew | (refine BelowKit.bl_set ?_ _ ?_; rotate_left; (first | omega | (simp; omega) | simp)) | (refine BelowKit.bl_trans ?_ (‹Hid (Below _ _ _)›).out)))) hb)
        clear hb hu W3 W4
        by_cases hf : fracT (-n) (1 : Int) = s.data.toList
        case pos =>
          rw [decide_eq_true hf] at hq
          have E := Lib.hid (F2.out hf)
          clear F2 F3 hf
          go_wp2
          refine bodyPost_ret (v := .tuple #[.agg #[.int .i64 (-n), .int .i64 (1 : Int)], .bool true]) (by simp [results, Tryd.results19, go_sem, s0, s1]) rfl ?_
          rw [E.out]
          exact ⟨rfl, BelowKit.bl_set (BelowKit.bl_set HBX.out (a := ⟨w.heap.size, 0, none⟩) _ (by simp)) (a := ⟨w.heap.size, 1, none⟩) _ (by simp)⟩
        case neg =>
          rw [decide_eq_false hf] at hq
          have E := Lib.hid (F3.out hf)
          clear F2 F3 hf
          go_wp2
          refine bodyPost_ret (v := .tuple #[.agg #[.int .i64 0, .int .i64 0], .bool false]) (by simp [results, Tryd.results19, go_sem, s0, s1]) rfl ?_
          rw [E.out]
          exact ⟨rfl, BelowKit.bl_set (BelowKit.bl_set HBX.out (a := ⟨w.heap.size, 0, none⟩) _ (by simp)) (a := ⟨w.heap.size, 1, none⟩) _ (by simp)⟩
  case neg =>
    have HSG : Hid (sgnT s.data.toList = 1) := Lib.hid (by unfold sgnT; rw [if_neg hz])
    skip
    have HBD : Hid (s.data.toList = bodyT s.data.toList) := Lib.hid (by unfold bodyT; rw [if_neg hz])
    have hts : s.size ≤ 25 := by omega
    have hc0 : (s[0]'hpos).toNat ≠ 45 := fun e => hz (hz0.2 e)
    obtain ⟨b0, hb0⟩ : ∃ b : Nat, (s[0]'hpos).toNat = b := ⟨_, rfl⟩
    rw [hb0] at hc0
    have d45 : ((b0 : Int) == 45) = false := beq_eq_false_iff_ne.2 (by omega)
    go_enter Tryd.func19, Tryd.ntmps19
    go_wp2
    go_loopw [6, 7] (fun cu i wr => ∃ j : Nat, j ≤ s.size ∧ i = .int .i64 (j : Int) ∧ cu = .int .i64 (s.size : Int) ∧ Hid (∀ i (h : i < s.data.toList.length), i < j → s.data.toList[i] ≠ 47) ∧ wr = w.alloc (.cells #[.int .i64 0, .int .i64 0] 25)) (fun _ i _ => s.size - (intOf i).toNat)
    case atStart => exact ⟨0, Nat.zero_le _, rfl, rfl, Lib.hid (fun i _ hi => by omega), rfl⟩
    case round =>
      obtain ⟨j, hj, rfl, rfl, HP0, rfl⟩ := hrel
      by_cases hlt : j < s.size
      · have hlt' : j < s.data.toList.length := by simpa using hlt
        obtain ⟨c, hc⟩ : ∃ c : Nat, s[j].toNat = c := ⟨_, rfl⟩
        have hc2 : c < 256 := by rw [← hc]; exact UInt8.toNat_lt _
        have hcl : (s.data.toList[j]'hlt').toNat = c := hc
        by_cases h47 : c = 47
        · have HCUT : Hid (cutT s.data.toList = j) := Lib.hid (find_at hlt' HP0.out (UInt8.toNat_inj.1 (by rw [hcl, h47]; rfl)))
          subst h47
          clear HP0 hcl
          have HN : Hid (dgt (s.extract 0 j).data.toList = numT s.data.toList) := Lib.hid (by rw [take_ext, numT, ← HBD.out, HCUT.out])
          have HDN : Hid (dgt (s.extract (j + 1) s.size).data.toList = denT s.data.toList) := Lib.hid (by rw [drop_ext, denT, ← HBD.out, HCUT.out, if_pos (by simpa using hlt)])
          obtain ⟨n, hn⟩ : ∃ n, numT s.data.toList = n := ⟨_, rfl⟩
          have bn := dgt_bd ((bodyT s.data.toList).take (cutT (bodyT s.data.toList)))
          rw [show dgt ((bodyT s.data.toList).take (cutT (bodyT s.data.toList))) = n from hn] at bn
          rw [hn] at HN
          obtain ⟨d, hd⟩ : ∃ d, denT s.data.toList = d := ⟨_, rfl⟩
          have bd := dgt_bd (s.extract (j + 1) s.size).data.toList
          rw [hd] at HDN
          rw [HDN.out] at bd
          have hR := HP.out
          rw [hn, hd, HSG.out] at hR
          have E1 : Hid (n < 0 ∨ d < 0 → R = (0, 0, false)) := Lib.hid (fun h => by rw [hR, if_pos h])
          have E2 : Hid (¬ (n < 0 ∨ d < 0) → fracT n d = s.data.toList → R = (n, d, true)) := Lib.hid (fun h h2 => by rw [hR, if_neg h]; simp only [Int.one_mul]; rw [if_pos h2])
          have E3 : Hid (¬ (n < 0 ∨ d < 0) → ¬ fracT n d = s.data.toList → R = (0, 0, false)) := Lib.hid (fun h h2 => by rw [hR, if_neg h]; simp only [Int.one_mul]; rw [if_neg h2])
          clear hR hn hd
          have bj0 : (0 : Int) ≤ (j : Int) := by omega
          have bj1 : (j : Int) ≤ (s.size : Int) := by omega
          have bj2 : (j : Int) < (s.size : Int) := by omega
          have W2 : IntKind.i64.wrap ((j : Int) + 1) = (j : Int) + 1 := IntWalk.i64_in _ (by omega)
          go_wp2_with fail
          refine (DigS.digits_s _ _ (by rw [ByteArray.size_extract]; omega)).mono ?_
          rintro e w1 ⟨rfl, rfl⟩
          rw [HN.out]
          go_wp2_with fail
          refine (DigS.digits_s _ _ (by rw [ByteArray.size_extract]; omega)).mono ?_
          rintro e w1 ⟨rfl, rfl⟩
          rw [HDN.out]
          have W3 : IntKind.i64.wrap n = n := IntWalk.i64_in _ (by omega)
          by_cases hn : n < 0
          case pos =>
            have dn : decide (n < 0) = true := decide_eq_true hn
            have E := Lib.hid (E1.out (.inl hn))
            clear E1 E2 E3 hn
            go_wp2
            refine bodyPost_ret (v := .tuple #[.agg #[.int .i64 0, .int .i64 0], .bool false]) (by simp [results, Tryd.results19, go_sem]) rfl ?_
            rw [E.out]
            exact ⟨rfl, by (repeat (first | exact Below.refl _ _ | apply BelowKit.bl_alloc | apply BelowKit.bl_drewN | apply BelowKit.bl_drew | (refine BelowKit.bl_set ?_ _ ?_; rotate_left; (first | omega | (simp; omega) | simp)) | (refine BelowKit.bl_trans ?_ (‹Hid (Below _ _ _)›).out)))⟩
          case neg =>
          have dn : decide (n < 0) = false := decide_eq_false hn
          by_cases hd : d < 0
          case pos =>
            have dd : decide (d < 0) = true := decide_eq_true hd
            have E := Lib.hid (E1.out (.inr hd))
            clear E1 E2 E3 hn hd
            go_wp2
            refine bodyPost_ret (v := .tuple #[.agg #[.int .i64 0, .int .i64 0], .bool false]) (by simp [results, Tryd.results19, go_sem]) rfl ?_
            rw [E.out]
            exact ⟨rfl, by (repeat (first | exact Below.refl _ _ | apply BelowKit.bl_alloc | apply BelowKit.bl_drewN | apply BelowKit.bl_drew | (refine BelowKit.bl_set ?_ _ ?_; rotate_left; (first | omega | (simp; omega) | simp)) | (refine BelowKit.bl_trans ?_ (‹Hid (Below _ _ _)›).out)))⟩
          case neg =>
          have dd : decide (d < 0) = false := decide_eq_false hd
          have F2 := Lib.hid (E2.out (by omega))
          have F3 := Lib.hid (E3.out (by omega))
          clear E1 E2 E3 hn hd
          go_wp2_with fail
          refine (format_s n d _).mono ?_
          rintro e w3 ⟨rfl, hb⟩
          obtain ⟨u, hu⟩ : ∃ u, str (fracT n d) = u := ⟨_, rfl⟩
          have hq := strs_eq (s := s) hu
          rw [hu]
          have s0 : w3.cell? ⟨w.heap.size, 0, none⟩ = some (.int .i64 0) := ((BelowKit.bcell hb).1 _ _ (by first | omega | (simp; done) | (simp; omega))).trans (by simp [go_sem])
          have f0 : w3.frozen? ⟨w.heap.size, 0, none⟩ = false := ((BelowKit.bcell hb).2 _ _ (by first | omega | (simp; done) | (simp; omega))).trans (by simp [go_sem])
          have s1 : w3.cell? ⟨w.heap.size, 1, none⟩ = some (.int .i64 0) := ((BelowKit.bcell hb).1 _ _ (by first | omega | (simp; done) | (simp; omega))).trans (by simp [go_sem])
          have f1 : w3.frozen? ⟨w.heap.size, 1, none⟩ = false := ((BelowKit.bcell hb).2 _ _ (by first | omega | (simp; done) | (simp; omega))).trans (by simp [go_sem])
          have x0 : w3.cell? ⟨w.heap.size + 1, 0, none⟩ = some (.int .i64 n) := ((BelowKit.bcell hb).1 _ _ (by first | omega | (simp; done) | (simp; omega))).trans (by simp [go_sem])
          have x1 : w3.cell? ⟨w.heap.size + 1, 1, none⟩ = some (.int .i64 d) := ((BelowKit.bcell hb).1 _ _ (by first | omega | (simp; done) | (simp; omega))).trans (by simp [go_sem])
          have z1 : w.heap.size + 1 < w3.heap.size := by have := hb.size; simp at this; omega
          have z0 : w.heap.size < w3.heap.size := by omega
          have HBX := Lib.hid (show Below w.heap.size w w3 from BelowKit.bl_trans (by (repeat (first | exact Below.refl _ _ | apply BelowKit.bl_alloc | apply BelowKit.bl_drewN | apply BelowKit.bl_drew | (refine BelowKit.bl_set ?_ _ ?_; rotate_left; (first | omega | (simp; omega) | simp)) | (refine BelowKit.bl_trans ?_ (‹Hid (Below _ _ _)›).out)))) hb)
          clear hb hu W3
          by_cases hf : fracT n d = s.data.toList
          case pos =>
            rw [decide_eq_true hf] at hq
            have E := Lib.hid (F2.out hf)
            clear F2 F3 hf
            go_wp2
            refine bodyPost_ret (v := .tuple #[.agg #[.int .i64 n, .int .i64 d], .bool true]) (by simp [results, Tryd.results19, go_sem, s0, s1]) rfl ?_
            rw [E.out]
            exact ⟨rfl, BelowKit.bl_set (BelowKit.bl_set HBX.out (a := ⟨w.heap.size, 0, none⟩) _ (by simp)) (a := ⟨w.heap.size, 1, none⟩) _ (by simp)⟩
          case neg =>
            rw [decide_eq_false hf] at hq
            have E := Lib.hid (F3.out hf)
            clear F2 F3 hf
            go_wp2
            refine bodyPost_ret (v := .tuple #[.agg #[.int .i64 0, .int .i64 0], .bool false]) (by simp [results, Tryd.results19, go_sem, s0, s1]) rfl ?_
            rw [E.out]
            exact ⟨rfl, BelowKit.bl_set (BelowKit.bl_set HBX.out (a := ⟨w.heap.size, 0, none⟩) _ (by simp)) (a := ⟨w.heap.size, 1, none⟩) _ (by simp)⟩
        · have E : Hid (∀ i (h : i < s.data.toList.length), i < j + 1 → s.data.toList[i] ≠ 47) := Lib.hid (fun i h hi => by
            by_cases h2 : i = j
            · subst h2; intro e; rw [e] at hcl; exact h47 hcl.symm
            · exact HP0.out i h (by omega))
          have d47 : ((c : Int) == 47) = false := beq_eq_false_iff_ne.2 (by omega)
          clear HP0 hcl
          go_wp2
          go_roundw
          case rel => exact ⟨j + 1, by omega, by go_num, rfl, E, trivial⟩
          case measure => simp [intOf]; omega
      · obtain rfl : j = s.size := by omega
        have HCUT : Hid (cutT s.data.toList = s.size) := Lib.hid (by rw [find_none (fun i h => HP0.out i h (by simpa using h))]; simp)
        clear HP0
        have HN : Hid (dgt s.data.toList = numT s.data.toList) := Lib.hid (by rw [numT, ← HBD.out, HCUT.out, List.take_of_length_le (by simp)])
        have HDN : Hid (denT s.data.toList = 1) := Lib.hid (by rw [denT, ← HBD.out, HCUT.out, if_neg (by simp)])
        obtain ⟨n, hn⟩ : ∃ n, numT s.data.toList = n := ⟨_, rfl⟩
        have bn := dgt_bd ((bodyT s.data.toList).take (cutT (bodyT s.data.toList)))
        rw [show dgt ((bodyT s.data.toList).take (cutT (bodyT s.data.toList))) = n from hn] at bn
        rw [hn] at HN
        obtain ⟨d, hd⟩ : ∃ d : Int, d = 1 := ⟨_, rfl⟩
        replace hd : denT s.data.toList = 1 := HDN.out
        have hR := HP.out
        rw [hn, hd, HSG.out] at hR
        have E1 : Hid (n < 0 ∨ (1 : Int) < 0 → R = (0, 0, false)) := Lib.hid (fun h => by rw [hR, if_pos h])
        have E2 : Hid (¬ (n < 0 ∨ (1 : Int) < 0) → fracT n (1 : Int) = s.data.toList → R = (n, (1 : Int), true)) := Lib.hid (fun h h2 => by rw [hR, if_neg h]; simp only [Int.one_mul]; rw [if_pos h2])
        have E3 : Hid (¬ (n < 0 ∨ (1 : Int) < 0) → ¬ fracT n (1 : Int) = s.data.toList → R = (0, 0, false)) := Lib.hid (fun h h2 => by rw [hR, if_neg h]; simp only [Int.one_mul]; rw [if_neg h2])
        clear hR hn hd
        go_wp2_with fail
        refine (DigS.digits_s _ _ (by omega)).mono ?_
        rintro e w1 ⟨rfl, rfl⟩
        rw [HN.out]
        have W3 : IntKind.i64.wrap n = n := IntWalk.i64_in _ (by omega)
        by_cases hn : n < 0
        case pos =>
          have dn : decide (n < 0) = true := decide_eq_true hn
          have E := Lib.hid (E1.out (.inl hn))
          clear E1 E2 E3 hn
          go_wp2
          refine bodyPost_ret (v := .tuple #[.agg #[.int .i64 0, .int .i64 0], .bool false]) (by simp [results, Tryd.results19, go_sem]) rfl ?_
          rw [E.out]
          exact ⟨rfl, by (repeat (first | exact Below.refl _ _ | apply BelowKit.bl_alloc | apply BelowKit.bl_drewN | apply BelowKit.bl_drew | (refine BelowKit.bl_set ?_ _ ?_; rotate_left; (first | omega | (simp; omega) | simp)) | (refine BelowKit.bl_trans ?_ (‹Hid (Below _ _ _)›).out)))⟩
        case neg =>
        have dn : decide (n < 0) = false := decide_eq_false hn
        have F2 := Lib.hid (E2.out (by omega))
        have F3 := Lib.hid (E3.out (by omega))
        clear E1 E2 E3 hn
        go_wp2_with fail
        refine (format_s n (1 : Int) _).mono ?_
        rintro e w3 ⟨rfl, hb⟩
        obtain ⟨u, hu⟩ : ∃ u, str (fracT n (1 : Int)) = u := ⟨_, rfl⟩
        have hq := strs_eq (s := s) hu
        rw [hu]
        have s0 : w3.cell? ⟨w.heap.size, 0, none⟩ = some (.int .i64 0) := ((BelowKit.bcell hb).1 _ _ (by first | omega | (simp; done) | (simp; omega))).trans (by simp [go_sem])
        have f0 : w3.frozen? ⟨w.heap.size, 0, none⟩ = false := ((BelowKit.bcell hb).2 _ _ (by first | omega | (simp; done) | (simp; omega))).trans (by simp [go_sem])
        have s1 : w3.cell? ⟨w.heap.size, 1, none⟩ = some (.int .i64 0) := ((BelowKit.bcell hb).1 _ _ (by first | omega | (simp; done) | (simp; omega))).trans (by simp [go_sem])
        have f1 : w3.frozen? ⟨w.heap.size, 1, none⟩ = false := ((BelowKit.bcell hb).2 _ _ (by first | omega | (simp; done) | (simp; omega))).trans (by simp [go_sem])
        have x0 : w3.cell? ⟨w.heap.size + 1, 0, none⟩ = some (.int .i64 n) := ((BelowKit.bcell hb).1 _ _ (by first | omega | (simp; done) | (simp; omega))).trans (by simp [go_sem])
        have x1 : w3.cell? ⟨w.heap.size + 1, 1, none⟩ = some (.int .i64 (1 : Int)) := ((BelowKit.bcell hb).1 _ _ (by first | omega | (simp; done) | (simp; omega))).trans (by simp [go_sem])
        have z1 : w.heap.size + 1 < w3.heap.size := by have := hb.size; simp at this; omega
        have z0 : w.heap.size < w3.heap.size := by omega
        have HBX := Lib.hid (show Below w.heap.size w w3 from BelowKit.bl_trans (by (repeat (first | exact Below.refl _ _ | apply BelowKit.bl_alloc | apply BelowKit.bl_drewN | apply BelowKit.bl_drew | (refine BelowKit.bl_set ?_ _ ?_; rotate_left; (first | omega | (simp; omega) | simp)) | (refine BelowKit.bl_trans ?_ (‹Hid (Below _ _ _)›).out)))) hb)
        clear hb hu W3
        by_cases hf : fracT n (1 : Int) = s.data.toList
        case pos =>
          rw [decide_eq_true hf] at hq
          have E := Lib.hid (F2.out hf)
          clear F2 F3 hf
          go_wp2
          refine bodyPost_ret (v := .tuple #[.agg #[.int .i64 n, .int .i64 (1 : Int)], .bool true]) (by simp [results, Tryd.results19, go_sem, s0, s1]) rfl ?_
          rw [E.out]
          exact ⟨rfl, BelowKit.bl_set (BelowKit.bl_set HBX.out (a := ⟨w.heap.size, 0, none⟩) _ (by simp)) (a := ⟨w.heap.size, 1, none⟩) _ (by simp)⟩
        case neg =>
          rw [decide_eq_false hf] at hq
          have E := Lib.hid (F3.out hf)
          clear F2 F3 hf
          go_wp2
          refine bodyPost_ret (v := .tuple #[.agg #[.int .i64 0, .int .i64 0], .bool false]) (by simp [results, Tryd.results19, go_sem, s0, s1]) rfl ?_
          rw [E.out]
          exact ⟨rfl, BelowKit.bl_set (BelowKit.bl_set HBX.out (a := ⟨w.heap.size, 0, none⟩) _ (by simp)) (a := ⟨w.heap.size, 1, none⟩) _ (by simp)⟩
end Go.Proofs.YtiogpiopgcbdbaaDoor.ParseFS

/- The contract of the byte that the cursor draws: some number from 0 to 255; the cursor goes on. -/
import Derived.Test.YtiogpiopgcbdbaaGreatDoorRows
import Derived.Test.YtiogpiopgcbdbaaGreatDoorKit
import Derived.Deep.QuietTactic
import Derived.BigQuiet
import Derived.Lib.Hide
namespace Go.Proofs.YtiogpiopgcbdbaaGreatDoor.CurByte
open Go.RowKit CurKit

/-- Some number below n. -/
def SomeBelow (n : Nat) (R : World → Prop) (e : Ending) (w' : World) : Prop := ∃ x : Nat, x < n ∧ e = .returned (.int .i64 x) ∧ R w'

set_option maxHeartbeats 1000000 in
theorem byte_c (w0 w : World) (b : Nat) (a : Option Addr) (len cap : Nat) (hc : CurIn 61 w0 w b a len cap) :
    Calls Tryz.prog 36 #[.pointer (some ⟨b, 0, none⟩)] w (SomeBelow 256 fun w' => CurIn 61 w0 w' b a len cap ∧ OnlyB b w w') := by
  have HC := Lib.hid hc
  obtain ⟨hbel, hlow, hcode, hsmall, i, h, hg, hi⟩ := hc
  unfold maxLen at hsmall
  have c0 : w.cell? ⟨b, 0, none⟩ = some (.slice a len cap) := by rw [cell_of_row w b 0 _ _ _ hg]; rfl
  have c1 : w.cell? ⟨b, 1, none⟩ = some (.int .i64 i) := by rw [cell_of_row w b 1 _ _ _ hg]; rfl
  have c2 : w.cell? ⟨b, 2, none⟩ = some (.int .i64 h) := by rw [cell_of_row w b 2 _ _ _ hg]; rfl
  have f1 : w.frozen? ⟨b, 1, none⟩ = false := frozen_of_row w b 1 _ _ hg
  have f2 : w.frozen? ⟨b, 2, none⟩ = false := frozen_of_row w b 2 _ _ hg
  have HG := Lib.hid hg
  have HK := Lib.hid hcode
  have HB := Lib.hid hbel
  clear hg hcode hbel
  by_cases hlt : i < len
  · obtain ⟨blk, off, n, rfl, hblk, hn, hn0, hn1⟩ := HK.out i hlt
    have cc : w.cell? ⟨blk, off + i, none⟩ = some (.int .u8 n) := by rw [HB.out.cell (p := ⟨blk, off + i, none⟩) hblk]; exact hn
    clear hn
    have hne : ¬ blk = b := by omega
    have cc2 : ∀ v : Value, (w.setCell ⟨b, 2, none⟩ v).cell? ⟨blk, off + i, none⟩ = some (.int .u8 n) := fun v => by
      rw [World.cell?_of_block (w := w) (Below.heap_setCell _ _ _ _ hne)]; exact cc
    go_enter Tryz.func36, Tryz.ntmps36
    go_wp2_with fail
    go_quiet (fail)
    go_wp2_with fail
    go_quiet (fail)
    go_wp2_with fail
    go_quiet (fail)
    go_wp2_with fail
    go_ret
    have H2 := heap_setCell_same w b 2 _ _ (.int .i64 (wrap64 (wrap64 (h * 6364136223846793005) + 1442695040888963407))) HG.out
    refine Exists.elim (and_255 _) fun x hx => ⟨x, hx.2, congrArg (fun z => Ending.returned (.int .i64 z)) hx.1, ?_⟩
    have ht := ((OnlyB.refl b w).setCell 2 (.int .i64 (wrap64 (wrap64 (h * 6364136223846793005) + 1442695040888963407))))
    exact ⟨HC.out.next ((ht.drewN _).setCell 1 _) (i + 1) (wrap64 (wrap64 (h * 6364136223846793005) + 1442695040888963407)) (by omega) (heap_setCell_same (World.drewN (w.setCell ⟨b, 2, none⟩ (.int .i64 (wrap64 (wrap64 (h * 6364136223846793005) + 1442695040888963407)))) _) b 1 _ _ (.int .i64 ((i : Int) + 1)) H2), (ht.drewN _).setCell 1 _⟩
  · have hge : len ≤ i := by omega
    go_enter Tryz.func36, Tryz.ntmps36
    go_wp2_with fail
    go_quiet (fail)
    go_wp2_with fail
    go_quiet (fail)
    go_wp2_with fail
    go_ret
    have H2 := heap_setCell_same w b 2 _ _ (.int .i64 (wrap64 (wrap64 (h * 6364136223846793005) + 1442695040888963407))) HG.out
    refine Exists.elim (and_255 _) fun x hx => ⟨x, hx.2, congrArg (fun z => Ending.returned (.int .i64 z)) hx.1, ?_⟩
    have ht : OnlyB b w ((w.setCell ⟨b, 2, none⟩ (.int .i64 (wrap64 (wrap64 (h * 6364136223846793005) + 1442695040888963407))))) := (OnlyB.refl b w).setCell 2 _
    exact ⟨HC.out.next ((ht.drewN _).drewN _) i (wrap64 (wrap64 (h * 6364136223846793005) + 1442695040888963407)) (by omega) H2, (ht.drewN _).drewN _⟩
end Go.Proofs.YtiogpiopgcbdbaaGreatDoor.CurByte

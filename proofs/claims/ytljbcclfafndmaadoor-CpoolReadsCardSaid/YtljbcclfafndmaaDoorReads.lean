/- CpoolReads: what any bytes are as a pool. -/
import Derived.Test.YtljbcclfafndmaaDoorDe
import Derived.Test.YtljbcclfafndmaaDoorDd
namespace Go.Proofs.YtljbcclfafndmaaDoor
open Go.RowKit

set_option maxRecDepth 100000 in
set_option maxHeartbeats 1000000 in
theorem reads_law (bs : List UInt8) (v : Value) (w : World) (ht : Tabs w) (hv : Bs w.heap.size w v bs) :
    Calls Tryd.prog 3 #[v] w fun e w' => e = .returned (.bool true) ∧ Below w.heap.size w w' := by
  have hs0 := ht.size
  have HT := hid (fun W (h : Below w.heap.size w W) => ht.below h ht.size)
  have H1' := (fun W (h : Below w.heap.size w W) => take_any bs v W (ht.below h ht.size) ((hv.below h (Nat.le_refl _)).mono h.size))
  have H2' := (fun W (h : Below w.heap.size w W) => rtake_any bs v W ((hv.below h (Nat.le_refl _)).mono h.size))
  have hln := tkOut_len bs
  obtain ⟨⟨l, n, er⟩, g⟩ : ∃ x, x = tkOut bs := ⟨_, rfl⟩
  rw [← g] at H1' H2' hln
  dsimp only at hln
  have H1 := hid H1'
  have H2 := hid H2'
  obtain ⟨a, cap, rfl⟩ := hv.len
  clear ht hv H1' H2' g
  go_enter Tryd.func3, Tryd.ntmps3
  go_wp2_with (first
    | (go_at_call 10; refine (H1.out _ (by repeat' first | with_reducible exact Below.refl _ _ | with_reducible assumption | with_reducible refine belows_drewN ?_ _ | with_reducible refine Below.drew ?_ | with_reducible refine Below.setCell ?_ ?_ _ | with_reducible refine Below.alloc ?_ ?_ _ | omega | (simp; done) | (simp; omega))).mono ?_; rintro e w1 ⟨v1, rfl, ho1, B1⟩; dsimp only at ho1; obtain ⟨a1, c1, rfl⟩ := own_form ho1; have S1 := Kit.isS_of_owns ho1 (by omega))
    | (go_at_call 11; refine (H2.out _ B1).mono ?_; rintro e w2 ⟨v2, rfl, ho2, hb2⟩; dsimp only at ho2; obtain ⟨a2, c2, rfl⟩ := own_form ho2; have S2 := Kit.isS_of_owns ho2 (by omega); have B2 := belows B1 hb2 B1.size; have S12 := S1.below hb2 (Nat.le_refl _))
    | (go_at_call 12; refine (live_any _ (HT.out _ B2)).mono ?_; rintro e w3 ⟨rfl, hb3⟩; have B3 := belows B2 hb3 B2.size; have S13 := S12.below hb3 (Nat.le_refl _); have S23 := S2.below hb3 (Nat.le_refl _))
    | (go_at_call 13; refine (same_any l _ _ _ S13 S23).mono ?_; rintro e w4 ⟨rfl, hb4⟩; have B4 := belows B3 hb4 B3.size))
  go_ret
  exact ⟨rfl, B4⟩
end Go.Proofs.YtljbcclfafndmaaDoor

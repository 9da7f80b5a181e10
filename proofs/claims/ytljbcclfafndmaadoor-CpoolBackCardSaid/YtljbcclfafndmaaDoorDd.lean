/- Contract of live: bytes that the document fixes. -/
import Derived.Test.YtljbcclfafndmaaDoorDc
namespace Go.Proofs.YtljbcclfafndmaaDoor
open Go.RowKit

def liveL : List Cp.C := [Cp.C0, ⟨1, ⟨#[65]⟩, 0, 0, 0⟩]
theorem live_tk : tkOut [0, 2, 1, 0, 1, 65] = (liveL, 6, 0) := by kernel_rfl
theorem live_ck : CkIs liveL 0 := by
  refine .inr ⟨by decide, .inl ⟨rfl, ?_⟩⟩
  intro i hi
  have hi2 : i < 2 := hi
  match i, hi2 with
  | 0, _ => show errAt liveL 0 = 0; kernel_rfl
  | 1, _ => show errAt liveL 1 = 0; kernel_rfl
theorem live_put : (putB liveL).length = 6 := by kernel_rfl
set_option maxRecDepth 100000 in
set_option maxHeartbeats 400000 in
theorem live_any (w : World) (ht : Tabs w) : Calls Tryd.prog 12 #[] w fun e w' => e = .returned (.bool true) ∧ Below w.heap.size w w' := by
  have hs0 := ht.size
  have hb : Bs (w.heap.size + 1) (w.alloc (.cells #[.int .u8 0, .int .u8 2, .int .u8 1, .int .u8 0, .int .u8 1, .int .u8 65] 5)) (.slice (some ⟨w.heap.size, 0, none⟩) 6 6) [0, 2, 1, 0, 1, 65] := by
    refine ⟨by decide, .inr ⟨w.heap.size, 0, 6, rfl, by decide, by omega, fun i c hc => ?_⟩⟩
    match i, hc with
    | 0, hc | 1, hc | 2, hc | 3, hc | 4, hc | 5, hc => simp at hc; subst hc; simp [go_sem, bv]
  have HT := hid (fun W (h : Below w.heap.size w W) => ht.below h ht.size)
  have HA0 := take_any _ _ (w.alloc (.cells #[.int .u8 0, .int .u8 2, .int .u8 1, .int .u8 0, .int .u8 1, .int .u8 65] 5)) (HT.out _ (by repeat' first | with_reducible exact Below.refl _ _ | with_reducible assumption | with_reducible refine belows_drewN ?_ _ | with_reducible refine Below.drew ?_ | with_reducible refine Below.setCell ?_ ?_ _ | with_reducible refine Below.alloc ?_ ?_ _ | omega | (simp; done) | (simp; omega))) (by rw [World.size_alloc]; exact hb)
  rw [live_tk] at HA0
  have HA := hid HA0
  have hls : liveL.length = 2 := rfl
  clear HA0 hb ht
  go_enter Tryd.func12, Tryd.ntmps12
  go_wp2_with (first
    | (go_at_call 10; refine HA.out.mono ?_; rintro e w1 ⟨v1, rfl, ho1, hb1⟩; dsimp only; have hB1 := belows (B := w.heap.size) (a := w) (by repeat' first | with_reducible exact Below.refl _ _ | with_reducible assumption | with_reducible refine belows_drewN ?_ _ | with_reducible refine Below.drew ?_ | with_reducible refine Below.setCell ?_ ?_ _ | with_reducible refine Below.alloc ?_ ?_ _ | omega | (simp; done) | (simp; omega)) hb1 (by simp); have hv1 := Kit.isS_of_owns ho1 (by decide); obtain ⟨a1, cap1, rfl⟩ := hv1.len; have HV1 := hid hv1; clear hv1; have hlt1 := Kit.own_lt ho1)
    | (go_at_call 14; refine (put_any liveL _ w1 (HT.out _ hB1) HV1.out (by decide +kernel)).mono ?_; rintro e w2 ⟨er, hck, -, h2, hb2⟩; obtain rfl := CkIs.det hck live_ck; obtain ⟨v2, rfl, ho2⟩ := h2 rfl; obtain ⟨a2, cap2, hv2⟩ := own_form ho2; rw [live_put] at hv2; subst hv2; have HV2 := HV1.out.below hb2 (Nat.le_refl _); obtain ⟨b1, o1, cap', hv1, hbb, c0, c1, c2, c3, c4⟩ := c_at (x := ⟨1, ⟨#[65]⟩, 0, 0, 0⟩) (k := 1) HV2 rfl; obtain ⟨rfl, -, rfl⟩ := Value.slice.inj hv1; dsimp only at c0 c1 c2 c3 c4; simp at c0 c1 c2 c3 c4))
  go_ret
  exact ⟨rfl, belows hB1 hb2 hB1.size⟩
end Go.Proofs.YtljbcclfafndmaaDoor

/- Contract of begun. -/
import Derived.Test.YthhjenmgcbmphaaDoorSl
namespace Go.Proofs.YthhjenmgcbmphaaDoor
open Go.RowKit

theorem isS_takeT {w : World} {a : Option Addr} {cap : Nat} {l : List Ds.Ty} (h : Kit.IsS 2 w (.slice a l.length cap) l.length (l.flatMap tyC)) {k : Nat} (hk : k ≤ l.length) : Kit.IsS 2 w (.slice a k cap) (l.take k).length ((l.take k).flatMap tyC) := by
  have hlk : (l.take k).length = k := by rw [List.length_take]; omega
  have hpre : ∀ (i : Nat) (u : Value), ((l.take k).flatMap tyC)[i]? = some u → (l.flatMap tyC)[i]? = some u := by
    intro i u hi
    have e : l.flatMap tyC = (l.take k).flatMap tyC ++ (l.drop k).flatMap tyC := by rw [← List.flatMap_append, List.take_append_drop]
    rw [e, List.getElem?_append_left (List.getElem?_eq_some_iff.1 hi).1]
    exact hi
  rw [hlk]
  refine ⟨by rw [Kit.flat_len tyC_len, hlk], by have := h.2.1; omega, ?_⟩
  rcases h.2.2 with ⟨h0, -⟩ | ⟨b, o, cap', hv, hle, hlt, hc⟩
  · exact .inl ⟨by omega, a, cap, by rw [show k = 0 by omega]⟩
  · obtain ⟨rfl, -, rfl⟩ := Value.slice.inj hv
    exact .inr ⟨b, o, cap, rfl, by omega, hlt, fun i u hi => hc i u (hpre i u hi)⟩
def bgText : ByteArray := ⟨#[40, 73, 91, 74, 76, 97, 47, 66, 59, 41, 86]⟩
def bgTys : List Ds.Ty := [(1, []), (4, [91, 74]), (4, [97, 47, 66])]
theorem bg_out : mdOut (Ds.bl bgText) = (bgTys, (0, []), 0) := by decide +kernel
theorem bg_name : nameE (Ds.bl (⟨#[97, 47]⟩ : ByteArray)) = 21 := by decide +kernel
set_option maxRecDepth 100000 in
set_option maxHeartbeats 1000000 in
theorem begun_any (w : World) : Calls Tryd.prog 13 #[] w fun e w' => e = .returned (.bool true) ∧ Below w.heap.size w w' := by
  have HM := hid (fun W => method_any bgText W)
  rw [bg_out] at HM
  unfold tyV MOut bgText at HM
  rw [show (⟨#[40, 73, 91, 74, 76, 97, 47, 66, 59, 41, 86]⟩ : ByteArray) = bgText from rfl, bg_out] at HM
  unfold bgText at HM
  have HC := hid (fun W => className_any ⟨#[97, 47]⟩ W)
  rw [bg_name] at HC
  go_enter Tryd.func13, Tryd.ntmps13
  have hsl : slotsOf (bgTys.take 1) = 1 := by decide
  go_wp2_with (first
    | (go_at_call 9; refine (HM.out _).mono ?_; rintro e w1 ⟨v, rfl, ho1, hb1⟩; have HO := hid ho1; have hS := Kit.isS_of_owns ho1 (by decide); obtain ⟨a, cap, rfl⟩ := hS.len; have HS := hid hS; obtain ⟨b, o, cap', hv, hlt, c0, c1⟩ := ty_at hS (k := 1) (x := (4, [91, 74])) rfl; obtain ⟨rfl, -, rfl⟩ := Value.slice.inj hv; obtain ⟨b2, o2, cap2, hv2, hlt2, d0, d1⟩ := ty_at hS (k := 2) (x := (4, [97, 47, 66])) rfl; obtain ⟨q1, -, -⟩ := Value.slice.inj hv2; have q2 := Option.some.inj q1; obtain ⟨rfl, rfl, -⟩ := Addr.mk.inj q2; obtain ⟨bx, ox, capx, hvx, hcx, -, -⟩ := hS.some (by decide); obtain ⟨-, -, rfl⟩ := Value.slice.inj hvx; have hcap : (1 : Int) ≤ cap := (by have : bgTys.length = 3 := rfl; omega); clear hvx hcx; have hz1 := hb1.size; clear ho1 hS hv hv2 q1 q2)
    | (go_at_call 19; refine (slots_any (bgTys.take 1) _ _ (isS_takeT (HS.out.below ((Below.refl w1.heap.size w1).alloc (Nat.le_refl _) _) (Nat.le_refl _)) (by decide))).mono ?_; rintro e w2 ⟨rfl, hb2⟩; rw [hsl])
    | (go_at_call 27; refine (HC.out _).mono ?_; rintro e w3 ⟨rfl, hb3⟩))
  go_ret
  have hA := hb1.alloc hz1 (.cells #[.int .i64 0, .string ⟨#[]⟩] 23)
  have hB := belows hA hb2 hA.size
  have hC := belows hB hb3 hB.size
  exact ⟨rfl, hC⟩
end Go.Proofs.YthhjenmgcbmphaaDoor

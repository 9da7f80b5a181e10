/- OpcodeWrites: any instructions' bytes, or what is wrong with them, are the document's; so are the places that may come behind each. -/
import Derived.Test.YtknacnbicmafjaaDoorOpNx
import Derived.Test.YtknacnbicmafjaaDoorOpU
import Derived.Test.YtknacnbicmafjaaDoorOwn
namespace Go.Proofs.YtknacnbicmafjaaDoor
open Go.RowKit

set_option maxRecDepth 100000 in
theorem equalN_same (ns : List Nat) (v u : Value) (w : World) (hl : Kit.IsS 1 w v ns.length (Kit.natVals ns)) (hm : Kit.IsS 1 w u ns.length (Kit.natVals ns)) :
    Calls Tryd.prog 32 #[v, u] w fun e w' => e = .returned (.bool true) ∧ Below w.heap.size w w' := by
  have HL := hid hl
  have HM := hid hm
  have hn1 := hl.2.1
  obtain ⟨a1, cap1, hv⟩ := hl.len
  obtain ⟨a2, cap2, hu⟩ := hm.len
  subst hv hu
  clear hl hm
  have hb : ((ns.length : Int) != (ns.length : Int)) = false := by simp
  go_enter Tryd.func32, Tryd.ntmps32
  go_wp2
  go_loopw [13] (fun i wr => ∃ k : Nat, k ≤ ns.length ∧ i = .int .i64 k ∧ Below w.heap.size w wr) (fun i _ => ns.length - (intOf i).toNat)
  case atStart => exact ⟨0, by omega, rfl, (by repeat' first | with_reducible exact Below.refl _ _ | with_reducible assumption | with_reducible refine belows_drewN ?_ _ | with_reducible refine Below.drew ?_ | with_reducible refine Below.setCell ?_ ?_ _ | with_reducible refine Below.alloc ?_ ?_ _ | omega | (simp; done) | (simp; omega))⟩
  case round =>
    obtain ⟨k, hk, rfl, hbl⟩ := hrel
    by_cases hlt : k < ns.length
    · obtain ⟨x, hx⟩ : ∃ x, ns[k]? = some x := ⟨ns[k], List.getElem?_eq_getElem hlt⟩
      obtain ⟨b, o, cap', hv, hb, c0⟩ := num_at (HL.out.below hbl (Nat.le_refl _)) hx
      obtain ⟨rfl, -, rfl⟩ := Value.slice.inj hv
      obtain ⟨b', o', cap', hv', hb', d0⟩ := num_at (HM.out.below hbl (Nat.le_refl _)) hx
      obtain ⟨rfl, -, rfl⟩ := Value.slice.inj hv'
      clear hx hv hv'
      have i1 : (k : Int) < (ns.length : Int) := by omega
      have hq : ((x : Int) != (x : Int)) = false := by simp
      go_wp2
      go_quiet (fail)
      go_wp2
      go_roundw
      case rel => exact ⟨k + 1, by omega, by go_num, (by repeat' first | with_reducible exact Below.refl _ _ | with_reducible assumption | with_reducible refine belows_drewN ?_ _ | with_reducible refine Below.drew ?_ | with_reducible refine Below.setCell ?_ ?_ _ | with_reducible refine Below.alloc ?_ ?_ _ | omega | (simp; done) | (simp; omega))⟩
      case measure => simp [intOf]; omega
    · obtain rfl : k = ns.length := by omega
      go_wp2
      go_ret
      exact ⟨rfl, (by repeat' first | with_reducible exact Below.refl _ _ | with_reducible assumption | with_reducible refine belows_drewN ?_ _ | with_reducible refine Below.drew ?_ | with_reducible refine Below.setCell ?_ ?_ _ | with_reducible refine Below.alloc ?_ ?_ _ | omega | (simp; done) | (simp; omega))⟩
theorem nextL_len (l : List Op1.Ins) (i : Int) : (nextL l i).length ≤ l.length := by
  unfold nextL
  split
  · split
    · exact filter_le _ _
    · simp
  · simp
set_option maxRecDepth 100000 in
set_option maxHeartbeats 1000000 in
theorem writes_law (l : List Op1.Ins) (i : Int) (u : Value) (w : World) (ht : Tabs w) (hl : Kit.IsS 4 w u l.length (insCells l)) (hn : l.length * 32 ≤ 140737488355328) :
    Calls Tryd.prog 5 #[u, .int .i64 i] w fun e w' => e = .returned (.bool true) ∧ Below w.heap.size w w' := by
  have hs0 := ht.size
  have HT := hid (fun W (h : Below w.heap.size w W) => ht.below h ht.size)
  have HL := hid (fun W (h : Below w.heap.size w W) => hl.below h (Nat.le_refl _))
  clear ht hl
  go_enter Tryd.func5, Tryd.ntmps5
  go_wp2_with fail
  refine (encode_any l u _ (HT.out _ (by repeat' first | with_reducible exact Below.refl _ _ | with_reducible assumption | with_reducible refine belows_drewN ?_ _ | with_reducible refine Below.drew ?_ | with_reducible refine Below.setCell ?_ ?_ _ | with_reducible refine Below.alloc ?_ ?_ _ | omega | (simp; done) | (simp; omega))) (HL.out _ (by repeat' first | with_reducible exact Below.refl _ _ | with_reducible assumption | with_reducible refine belows_drewN ?_ _ | with_reducible refine Below.drew ?_ | with_reducible refine Below.setCell ?_ ?_ _ | with_reducible refine Below.alloc ?_ ?_ _ | omega | (simp; done) | (simp; omega))) hn).mono ?_
  rintro e w1 ⟨v1, bs, er, rfl, h1, o1, hb1⟩
  have hz1 := hb1.size
  have hbl := encGo_len h1
  have HV1 := hid (isB_of_own o1 (by omega))
  clear o1
  go_wp2_with fail
  refine (rencode_any l u _ (HL.out _ hb1) hn).mono ?_
  rintro e w2 ⟨v2, bs2, er2, rfl, h2, o2, hb2⟩
  rw [h1] at h2
  obtain ⟨rfl, rfl⟩ := Prod.mk.inj h2
  have hb2' := belows hb1 hb2 hz1
  have hz2 := hb2'.size
  have HV2 := hid (isB_of_own o2 (by omega))
  have HV1' := hid (HV1.out.below hb2 (Nat.le_refl _))
  clear o2 HV1 h1 h2 hb1 hb2
  go_wp2_with fail
  refine (live_any _ (HT.out _ hb2')).mono ?_
  rintro e w3 ⟨rfl, hb3⟩
  have hb3' := belows hb2' hb3 hz2
  have hz3 := hb3'.size
  have HVa := hid (HV1'.out.below hb3 (Nat.le_refl _))
  have HVb := hid (HV2.out.below hb3 (Nat.le_refl _))
  clear HV1' HV2 hb3 hb2'
  go_wp2_with fail
  refine (bequal_any bs bs v1 v2 _ HVa.out HVb.out).mono ?_
  rintro e w4 ⟨rfl, rfl⟩
  rw [show (bs == bs) = true from by simp]
  have hnl := nextL_len l i
  go_wp2_with fail
  refine (next_any l u i _ (HT.out _ hb3') (HL.out _ hb3') hn).mono ?_
  rintro e w5 ⟨v5, rfl, o5, hb5⟩
  have hb5' := belows hb3' hb5 hz3
  have hz5 := hb5'.size
  have HV5 := hid (Kit.isS_of_owns o5 (by omega))
  clear o5 hb5 hb3'
  go_wp2_with fail
  refine (rnext_any l u i _ (HL.out _ hb5') hn).mono ?_
  rintro e w6 ⟨v6, rfl, o6, hb6⟩
  have hb6' := belows hb5' hb6 hz5
  have hz6 := hb6'.size
  have HV6 := hid (Kit.isS_of_owns o6 (by omega))
  have HV5' := hid (HV5.out.below hb6 (Nat.le_refl _))
  clear o6 hb6 hb5' HV5
  go_wp2_with fail
  refine (equalN_same (nextL l i) v5 v6 _ HV5'.out HV6.out).mono ?_
  rintro e w7 ⟨rfl, hb7⟩
  go_wp2
  go_ret
  exact ⟨rfl, belows hb6' hb7 hz6⟩
end Go.Proofs.YtknacnbicmafjaaDoor

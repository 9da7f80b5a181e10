/- OpcodeBack: what is read, written again, is the bytes; what is written is told as it was. -/
import Derived.Test.YtihklojiionanaaDoorBackM
import Derived.Test.YtihklojiionanaaDoorWalks
import Derived.Test.YtihklojiionanaaDoorOwn
namespace Go.Proofs.YtihklojiionanaaDoor
open Go.RowKit

/-- From the second half on: what is written is told as it was. -/
theorem back_tail (l : List Op1.Ins) (cb : List UInt8) (Bs : Nat) (v u : Value) (w : World) (ht : Tabs w) (hl : Kit.IsS 4 w u l.length (insCells l)) (henc : encGo l [] = (cb, 0)) (hb : IsB w v cb) (hBs : Bs < w.heap.size) (hc : w.cell? ⟨Bs, 0, none⟩ = some v) :
    Calls Tryd.prog 27 #[.func (.func 47) #[] #[.pointer (some ⟨Bs, 0, none⟩)], u, .int .i64 0] w fun e w' => e = .returned (.bool true) ∧ Below w.heap.size w w' := by
  have hp := enc_pre l [] [] cb henc .nil
  rw [List.nil_append] at hp
  exact walks_any cb l cb.length v u Bs 0 w ht hb hBs hc hp (by rw [Op1.errAt_end (Nat.le_refl _)]; decide) hl
set_option maxRecDepth 100000 in
set_option maxHeartbeats 1000000 in
theorem back_law (bs : List UInt8) (l : List Op1.Ins) (v u : Value) (w : World) (ht : Tabs w) (hb : IsB w v bs) (hl : Kit.IsS 4 w u l.length (insCells l)) (hn : l.length * 32 ≤ 140737488355328) :
    Calls Tryd.prog 6 #[v, u] w fun e w' => e = .returned (.bool true) ∧ Below w.heap.size w w' := by
  have hs0 := ht.size
  have HT := hid (fun W (h : Below w.heap.size w W) => ht.below h ht.size)
  have HB := hid (fun W (h : Below w.heap.size w W) => hb.below h (Nat.le_refl _))
  have HL := hid (fun W (h : Below w.heap.size w W) => hl.below h (Nat.le_refl _))
  clear ht hb hl
  go_enter Tryd.func6, Tryd.ntmps6
  go_wp2_with fail
  refine (live_any _ (HT.out _ (by repeat' first | with_reducible exact Below.refl _ _ | with_reducible assumption | with_reducible refine belows_drewN ?_ _ | with_reducible refine Below.drew ?_ | with_reducible refine Below.setCell ?_ ?_ _ | with_reducible refine Below.alloc ?_ ?_ _ | omega | (simp; done) | (simp; omega)))).mono ?_
  rintro e w1 ⟨rfl, hb1⟩
  have hz1 := hb1.size
  go_wp2_with fail
  refine (decode_any bs v _ (HT.out _ hb1) (HB.out _ hb1)).mono ?_
  rintro e w2 ⟨m, lm, er, rfl, hdec, om, hb2⟩
  have hb2' := belows hb1 hb2 hz1
  have hz2 := hb2'.size
  have hlm := declen hdec
  by_cases her : er = 0
  · subst her
    have HE := hid (dec_enc hdec)
    have HM := hid (Kit.isS_of_owns om (by omega))
    clear hdec om hb2 hb1
    go_wp2_with fail
    refine (encode_any lm m _ (HT.out _ hb2') HM.out (by omega)).mono ?_
    rintro e w3 ⟨c, cb, er2, rfl, henc, oc, hb3⟩
    have hcl := encGo_len henc
    rw [HE.out] at henc
    obtain ⟨rfl, rfl⟩ := Prod.mk.inj henc
    have hb3' := belows hb2' hb3 hz2
    have hz3 := hb3'.size
    have HV := hid (isB_of_own oc (by omega))
    clear henc oc hb3 hb2' HE HM
    go_wp2_with fail
    refine (bequal_any bs bs c v _ HV.out (HB.out _ hb3')).mono ?_
    rintro e w4 ⟨rfl, rfl⟩
    rw [show (bs == bs) = true from by simp]
    go_wp2_with fail
    refine (encode_any l u _ (HT.out _ hb3') (HL.out _ hb3') hn).mono ?_
    rintro e w5 ⟨c2, cb2, er3, rfl, henc2, oc2, hb5⟩
    have hb5' := belows hb3' hb5 hz3
    (have hz5 := hb5'.size; have hcl2 := encGo_len henc2; have HV2 := hid (isB_of_own oc2 (by omega)); by_cases her3 : er3 = 0; (· subst her3; (have HE2 := hid henc2; clear henc2 oc2 hb5; go_wp2_with fail; refine (walk_any cb2 c2 _ HV2.out).mono ?_; rintro e w6 ⟨v6, rfl, hc6, hi6, hb6, hlt6⟩; (have hb6' := belows hb5' hb6 hz5; have HI6 := hid hi6; have HC6 := hid hc6; clear hi6 hc6 hb6; go_wp2_with fail; refine (back_tail l cb2 _ v6 u _ (HT.out _ hb6') (HL.out _ hb6') HE2.out HI6.out hlt6 HC6.out).mono ?_; rintro e w7 ⟨rfl, hb7⟩; go_wp2; go_ret; exact ⟨rfl, belows hb6' hb7 hb6'.size⟩))); (· have hne3 : (er3 != 0) = true := (by simpa using her3); (clear her3 henc2 oc2 hb5; go_wp2; go_ret; exact ⟨rfl, hb5'⟩)))
  · have hne : (er == 0) = false := by simpa using her
    clear her hdec om hb2 hb1
    go_wp2_with fail
    refine (encode_any l u _ (HT.out _ hb2') (HL.out _ hb2') hn).mono ?_
    rintro e w5 ⟨c2, cb2, er3, rfl, henc2, oc2, hb5⟩
    have hb5' := belows hb2' hb5 hz2
    (have hz5 := hb5'.size; have hcl2 := encGo_len henc2; have HV2 := hid (isB_of_own oc2 (by omega)); by_cases her3 : er3 = 0; (· subst her3; (have HE2 := hid henc2; clear henc2 oc2 hb5; go_wp2_with fail; refine (walk_any cb2 c2 _ HV2.out).mono ?_; rintro e w6 ⟨v6, rfl, hc6, hi6, hb6, hlt6⟩; (have hb6' := belows hb5' hb6 hz5; have HI6 := hid hi6; have HC6 := hid hc6; clear hi6 hc6 hb6; go_wp2_with fail; refine (back_tail l cb2 _ v6 u _ (HT.out _ hb6') (HL.out _ hb6') HE2.out HI6.out hlt6 HC6.out).mono ?_; rintro e w7 ⟨rfl, hb7⟩; go_wp2; go_ret; exact ⟨rfl, belows hb6' hb7 hb6'.size⟩))); (· have hne3 : (er3 != 0) = true := (by simpa using her3); (clear her3 henc2 oc2 hb5; go_wp2; go_ret; exact ⟨rfl, hb5'⟩)))
end Go.Proofs.YtihklojiionanaaDoor

/- OpcodeReads: what any bytes are as instructions: all, one at any address, those ahead of what is wrong. -/
import Derived.Test.YtihklojiionanaaDoorRoD
import Derived.Test.YtihklojiionanaaDoorWalks
import Derived.Test.YtihklojiionanaaDoorOwn
namespace Go.Proofs.YtihklojiionanaaDoor
open Go.RowKit

theorem BoxI.below {W W' : World} {B : Nat} {x : Op1.Ins} (h : BoxI W B x) (hb : Below W.heap.size W W') : BoxI W' B x := (hb.block B h.lt).trans h
theorem BoxI.alloc {W : World} {B : Nat} {x : Op1.Ins} (h : BoxI W B x) (o : Obj) : BoxI (W.alloc o) B x := h.below ((Below.refl _ W).alloc (Nat.le_refl _) o)
set_option maxRecDepth 100000 in
theorem same_same (l : List Op1.Ins) (v u : Value) (w : World) (hl : Kit.IsS 4 w v l.length (insCells l)) (hm : Kit.IsS 4 w u l.length (insCells l)) :
    Calls Tryd.prog 26 #[v, u] w fun e w' => e = .returned (.bool true) ∧ Below w.heap.size w w' := by
  have HL := hid hl
  have HM := hid hm
  have hn1 := hl.2.1
  obtain ⟨a1, cap1, hv⟩ := hl.len
  obtain ⟨a2, cap2, hu⟩ := hm.len
  subst hv hu
  clear hl hm
  have hb : ((l.length : Int) != (l.length : Int)) = false := by simp
  go_enter Tryd.func26, Tryd.ntmps26
  go_wp2
  go_loopw [5] (fun i wr => ∃ k : Nat, k ≤ l.length ∧ i = .int .i64 k ∧ Below w.heap.size w wr) (fun i _ => l.length - (intOf i).toNat)
  case atStart => exact ⟨0, by omega, rfl, (by repeat' first | with_reducible exact Below.refl _ _ | with_reducible assumption | with_reducible refine belows_drewN ?_ _ | with_reducible refine Below.drew ?_ | with_reducible refine Below.setCell ?_ ?_ _ | with_reducible refine Below.alloc ?_ ?_ _ | omega | (simp; done) | (simp; omega))⟩
  case round =>
    obtain ⟨k, hk, rfl, hbl⟩ := hrel
    by_cases hlt : k < l.length
    · obtain ⟨x, hx⟩ : ∃ x, l[k]? = some x := ⟨l[k], List.getElem?_eq_getElem hlt⟩
      obtain ⟨b, o, cap', hv, hb, c0, c1, c2, c3⟩ := ins_at (HL.out.below hbl (Nat.le_refl _)) hx
      obtain ⟨rfl, -, rfl⟩ := Value.slice.inj hv
      obtain ⟨b', o', cap', hv', hb', d0, d1, d2, d3⟩ := ins_at (HM.out.below hbl (Nat.le_refl _)) hx
      obtain ⟨rfl, -, rfl⟩ := Value.slice.inj hv'
      obtain ⟨xp, xop, xa, xb⟩ := x
      dsimp only at c0 c1 c2 c3 d0 d1 d2 d3
      clear hx hv hv'
      have i1 : (k : Int) < (l.length : Int) := by omega
      go_wp2
      go_quiet (fail)
      go_wp2
      go_roundw
      case rel => exact ⟨k + 1, by omega, by go_num, (by repeat' first | with_reducible exact Below.refl _ _ | with_reducible assumption | with_reducible refine belows_drewN ?_ _ | with_reducible refine Below.drew ?_ | with_reducible refine Below.setCell ?_ ?_ _ | with_reducible refine Below.alloc ?_ ?_ _ | omega | (simp; done) | (simp; omega))⟩
      case measure => simp [intOf]; omega
    · obtain rfl : k = l.length := by omega
      go_wp2
      go_ret
      exact ⟨rfl, (by repeat' first | with_reducible exact Below.refl _ _ | with_reducible assumption | with_reducible refine belows_drewN ?_ _ | with_reducible refine Below.drew ?_ | with_reducible refine Below.setCell ?_ ?_ _ | with_reducible refine Below.alloc ?_ ?_ _ | omega | (simp; done) | (simp; omega))⟩
set_option maxRecDepth 100000 in
set_option maxHeartbeats 2000000 in
theorem reads_law (bs : List UInt8) (at' stop : Int) (v : Value) (w : World) (ht : Tabs w) (hb : IsB w v bs) (hn : bs.length ≤ 1048576) :
    Calls Tryd.prog 4 #[v, .int .i64 at', .int .i64 stop] w fun e w' => e = .returned (.bool true) ∧ Below w.heap.size w w' := by
  have hs0 := ht.size
  have HT := hid (fun W (h : Below w.heap.size w W) => ht.below h ht.size)
  have HB := hid (fun W (h : Below w.heap.size w W) => hb.below h (Nat.le_refl _))
  obtain ⟨a, cap, hv⟩ := hb.len
  subst hv
  clear ht hb
  go_enter Tryd.func4, Tryd.ntmps4
  go_wp2_with fail
  refine (live_any _ (HT.out _ (by repeat' first | with_reducible exact Below.refl _ _ | with_reducible assumption | with_reducible refine belows_drewN ?_ _ | with_reducible refine Below.drew ?_ | with_reducible refine Below.setCell ?_ ?_ _ | with_reducible refine Below.alloc ?_ ?_ _ | omega | (simp; done) | (simp; omega)))).mono ?_
  rintro e w1 ⟨rfl, hb1⟩
  have hz1 := hb1.size
  go_wp2_with fail
  refine (decode_any bs _ _ (HT.out _ hb1) (HB.out _ hb1)).mono ?_
  rintro e w2 ⟨m1, l1, er1, rfl, hd1, o1, hb2⟩
  have hb2' := belows hb1 hb2 hz1
  have hz2 := hb2'.size
  have hl1 := declen hd1
  have HM1 := hid (Kit.isS_of_owns o1 (by omega))
  have HD1 := hid hd1
  clear o1 hd1 hb1 hb2
  go_wp2_with fail
  refine (rdecode_any bs _ _ (HB.out _ hb2')).mono ?_
  rintro e w3 ⟨m2, l2, er2, rfl, hd2, o2, hb3⟩
  have hb3' := belows hb2' hb3 hz2
  have hz3 := hb3'.size
  obtain ⟨rfl, rfl⟩ := Op1.DecOut.det HD1.out hd2
  have HM2 := hid (Kit.isS_of_owns o2 (by omega))
  have HM1' := hid (HM1.out.below hb3 (Nat.le_refl _))
  clear o2 hd2 hb3 hb2' HM1 HD1
  obtain ⟨r, hr⟩ : ∃ r, r = Op1.one bs at' := ⟨_, rfl⟩
  have H1 := hid (fun W (h : Below w.heap.size w W) => one_any bs _ at' W (HT.out W h) (HB.out W h))
  have H2 := hid (fun W (h : Below w.heap.size w W) => rone_any bs _ at' W (HB.out W h))
  rw [← hr] at H1 H2
  obtain ⟨⟨xp, xop, xa, xb⟩, q, g⟩ := r
  unfold oneV insV at H1 H2
  dsimp only at H1 H2
  clear hr
  go_wp2_with fail
  refine (H1.out _ hb3').mono ?_
  rintro e w4 ⟨rfl, hb4⟩
  have hb4' := belows hb3' hb4 hz3
  have hz4 := hb4'.size
  have HM1a := hid (HM1'.out.below hb4 (Nat.le_refl _))
  have HM2a := hid (HM2.out.below hb4 (Nat.le_refl _))
  have bx := BoxI.new w4 ⟨xp, xop, xa, xb⟩
  dsimp only at bx
  clear hb4 hb3' HM1' HM2
  go_wp2_with fail
  refine (H2.out _ (hb4'.alloc hz4 _)).mono ?_
  rintro e w5 ⟨rfl, hb5⟩
  have hb5' := belows (hb4'.alloc hz4 _) hb5 (by simp only [World.size_alloc]; omega)
  have hz5 := hb5'.size
  have HM1b := hid ((HM1a.out.below ((Below.refl _ w4).alloc (Nat.le_refl _) (.cells #[.int .i64 xp, .int .i64 xop, .int .i64 xa, .int .i64 xb] 35)) (Nat.le_refl _)).below hb5 (by simp only [World.size_alloc]; omega))
  have HM2b := hid ((HM2a.out.below ((Below.refl _ w4).alloc (Nat.le_refl _) (.cells #[.int .i64 xp, .int .i64 xop, .int .i64 xa, .int .i64 xb] 35)) (Nat.le_refl _)).below hb5 (by simp only [World.size_alloc]; omega))
  have bx5 := (bx.below hb5).alloc (.cells #[.int .i64 xp, .int .i64 xop, .int .i64 xa, .int .i64 xb] 35)
  have bY := BoxI.new w5 ⟨xp, xop, xa, xb⟩
  dsimp only at bY
  clear bx hb5 hb4' HM1a HM2a H1 H2
  go_wp2_with fail
  refine (rwalk_any bs _ _ (HB.out _ (hb5'.alloc hz5 _)) (by omega)).mono ?_
  rintro e w6 ⟨m3, l3, p, er3, rfl, hpre, her, -, -, o3, hb6⟩
  have hb6' := belows (hb5'.alloc hz5 _) hb6 (by simp only [World.size_alloc]; omega)
  have hz6 := hb6'.size
  have hl3 := hpre.le.2.1
  have hl4 := hpre.le.1
  have HPre := hid hpre
  have HEr := hid her
  have HM3 := hid (Kit.isS_of_owns o3 (by omega))
  have HM1c := hid ((HM1b.out.below ((Below.refl _ w5).alloc (Nat.le_refl _) (.cells #[.int .i64 xp, .int .i64 xop, .int .i64 xa, .int .i64 xb] 35)) (Nat.le_refl _)).below hb6 (by simp only [World.size_alloc]; omega))
  have HM2c := hid ((HM2b.out.below ((Below.refl _ w5).alloc (Nat.le_refl _) (.cells #[.int .i64 xp, .int .i64 xop, .int .i64 xa, .int .i64 xb] 35)) (Nat.le_refl _)).below hb6 (by simp only [World.size_alloc]; omega))
  have bx6 := bx5.below hb6
  have bY6 := bY.below hb6
  clear hpre her o3 hb6 hb5' HM1b HM2b bx5 bY
  go_wp2_with fail
  refine (same_same l1 _ _ _ HM1c.out HM2c.out).mono ?_
  rintro e w7 ⟨rfl, hb7⟩
  have hb7' := belows hb6' hb7 hz6
  have hz7 := hb7'.size
  have HM3a := hid (HM3.out.below hb7 (Nat.le_refl _))
  obtain ⟨x0, x1, x2, x3⟩ := (bx6.below hb7).cells
  obtain ⟨y0, y1, y2, y3⟩ := (bY6.below hb7).cells
  dsimp only at x0 x1 x2 x3 y0 y1 y2 y3
  clear bx6 bY6 hb7 hb6' HM1c HM2c HM3
  go_wp2_with fail
  refine (walk_any bs _ _ (HB.out _ hb7')).mono ?_
  rintro e w8 ⟨v8, rfl, hc8, hi8, hb8, hlt8⟩
  have hb8' := belows hb7' hb8 hz7
  have hz8 := hb8'.size
  have HM3b := hid (HM3a.out.below hb8 (Nat.le_refl _))
  have HC8 := hid hc8
  have HI8 := hid hi8
  clear hb8 hb7' HM3a hc8 hi8 x0 x1 x2 x3 y0 y1 y2 y3
  go_wp2_with fail
  refine (walks_any bs l3 p v8 _ _ _ _ (HT.out _ hb8') HI8.out hlt8 HC8.out HPre.out HEr.out HM3b.out).mono ?_
  rintro e w9 ⟨rfl, hb9⟩
  have hb9' := belows hb8' hb9 hz8
  have hz9 := hb9'.size
  have HM3c := hid (HM3b.out.below hb9 (Nat.le_refl _))
  clear hb9 hb8' HM3b HC8 HI8
  go_wp2_with fail
  refine (walk_any bs _ _ (HB.out _ hb9')).mono ?_
  rintro e wa ⟨va, rfl, hca, hia, hba, hlta⟩
  have hba' := belows hb9' hba hz9
  have hza := hba'.size
  have HM3d := hid (HM3c.out.below hba (Nat.le_refl _))
  have HCa := hid hca
  have HIa := hid hia
  clear hba hb9' HM3c hca hia
  go_wp2_with fail
  refine (walks_any bs l3 p va _ _ _ _ (HT.out _ hba') HIa.out hlta HCa.out HPre.out HEr.out HM3d.out).mono ?_
  rintro e wb ⟨rfl, hbb⟩
  go_wp2
  go_ret
  exact ⟨rfl, belows hba' hbb hza⟩
end Go.Proofs.YtihklojiionanaaDoor

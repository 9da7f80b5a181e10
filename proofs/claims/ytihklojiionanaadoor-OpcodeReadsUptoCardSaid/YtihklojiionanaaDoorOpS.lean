/- Contract of live: bytes that the document fixes. -/
import Derived.Test.YtihklojiionanaaDoorOpR
namespace Go.Proofs.YtihklojiionanaaDoor
open Go.RowKit
def liveL : List Op1.Ins := [⟨0, 16, -1, 0⟩, ⟨2, 172, 0, 0⟩]
theorem live_out {l : List Op1.Ins} {er : Int} (h : Op1.DecOut [16, 255, 172] l er) : l = liveL ∧ er = 0 := by
  have e0 : Op1.errAt [16, 255, 172] 0 = 0 := by decide +kernel
  have e2 : Op1.errAt [16, 255, 172] 2 = 0 := by decide +kernel
  have n0 : Op1.nxt [16, 255, 172] 0 = 2 := by decide +kernel
  have n2 : Op1.nxt [16, 255, 172] 2 = 3 := by decide +kernel
  have i0 : Op1.insAt [16, 255, 172] 0 = ⟨0, 16, -1, 0⟩ := by decide +kernel
  have i2 : Op1.insAt [16, 255, 172] 2 = ⟨2, 172, 0, 0⟩ := by decide +kernel
  have p1 := Op1.Pre.snoc (.nil (bs := [16, 255, 172])) e0
  rw [n0, i0] at p1
  have p2 := Op1.Pre.snoc p1 e2
  rw [n2, i2] at p2
  exact (Op1.DecOut.det h (Op1.DecOut.ok (l := liveL) (by decide) (by decide) p2 (by decide +kernel)))
set_option maxRecDepth 100000 in
set_option maxHeartbeats 400000 in
theorem live_any (w : World) (ht : Tabs w) : Calls Tryd.prog 16 #[] w fun e w' => e = .returned (.bool true) ∧ Below w.heap.size w w' := by
  have hs0 := ht.size
  have HT := hid (fun W (h : Below w.heap.size w W) => ht.below h ht.size)
  clear ht
  have hnum : numV [103, 111, 116, 111] = .tuple #[.int .i64 167, .bool true] := by unfold numV; rw [show Op1.numOf [103, 111, 116, 111] = some 167 by decide +kernel]; rfl
  have hname : nmV (Op1.nameOf 16) = .string ⟨#[98, 105, 112, 117, 115, 104]⟩ := by unfold nmV; rw [show Op1.nameOf 16 = [98, 105, 112, 117, 115, 104] by decide +kernel]
  have hsame : sameB liveL liveL = true := by decide
  have HN := hid hnum
  have HNm := hid hname
  have HS := hid hsame
  clear hnum hname hsame
  go_enter Tryd.func16, Tryd.ntmps16
  go_wp2_with fail
  refine (decode_any [16, 255, 172] _ _ (HT.out _ (by repeat' first | with_reducible exact Below.refl _ _ | with_reducible assumption | with_reducible refine belows_drewN ?_ _ | with_reducible refine Below.drew ?_ | with_reducible refine Below.setCell ?_ ?_ _ | with_reducible refine Below.alloc ?_ ?_ _ | omega | (simp; done) | (simp; omega))) ?_).mono ?_
  · refine ⟨by simp, .inr ⟨w.heap.size, 0, 3, rfl, by simp, by simp, fun i hi => ?_⟩⟩
    rw [World.cell?_alloc_at _ _ _ _ rfl]
    match i, hi with
    | 0, _ => rfl
    | 1, _ => rfl
    | 2, _ => rfl
  rintro e w1 ⟨v, l, er, rfl, hdec, hown, hb1⟩
  obtain ⟨rfl, rfl⟩ := live_out hdec
  have hb1' : Below w.heap.size w w1 := belows (b := w.alloc (Obj.cells #[.int .u8 16, .int .u8 255, .int .u8 172] 5)) (by repeat' first | with_reducible exact Below.refl _ _ | with_reducible assumption | with_reducible refine belows_drewN ?_ _ | with_reducible refine Below.drew ?_ | with_reducible refine Below.setCell ?_ ?_ _ | with_reducible refine Below.alloc ?_ ?_ _ | omega | (simp; done) | (simp; omega)) hb1 (by simp)
  have hz1 := hb1'.size
  clear hdec
  have HO := hid hown
  clear hown
  go_wp2_with fail
  refine (findname_any _ _).mono ?_
  rintro e w2 ⟨rfl, hb2⟩
  have hz2 := hb2.size
  rw [show (ByteArray.mk #[103, 111, 116, 111]).toList = [103, 111, 116, 111] by rw [ByteArray.toList_eq], HN.out]
  go_wp2_with fail
  have hI := Kit.isS_of_owns (Kit.owns_below HO.out hb2 (Nat.le_refl _)) (by decide)
  refine (equalI_any liveL liveL v _ _ (hI.below (w' := w2.alloc _) (B := w2.heap.size) (by repeat' first | with_reducible exact Below.refl _ _ | with_reducible assumption | with_reducible refine belows_drewN ?_ _ | with_reducible refine Below.drew ?_ | with_reducible refine Below.setCell ?_ ?_ _ | with_reducible refine Below.alloc ?_ ?_ _ | omega | (simp; done) | (simp; omega)) (Nat.le_refl _)) ?_).mono ?_
  · refine ⟨rfl, by decide, .inr ⟨w2.heap.size, 0, 2, rfl, by decide, by simp, fun i u hi => ?_⟩⟩
    rw [World.cell?_alloc_at _ _ _ _ (by omega)]
    match i, hi with
    | 0, hi => simpa [insCells, liveL, insC] using hi
    | 1, hi => simpa [insCells, liveL, insC] using hi
    | 2, hi => simpa [insCells, liveL, insC] using hi
    | 3, hi => simpa [insCells, liveL, insC] using hi
    | 4, hi => simpa [insCells, liveL, insC] using hi
    | 5, hi => simpa [insCells, liveL, insC] using hi
    | 6, hi => simpa [insCells, liveL, insC] using hi
    | 7, hi => simpa [insCells, liveL, insC] using hi
    | i + 8, hi => simp [insCells, liveL, insC] at hi
  rintro e w3 ⟨rfl, hb3⟩
  have hb3' : Below w.heap.size w w3 := belows (belows hb1' hb2 hz1 |>.alloc (by omega) _) hb3 (by simp; omega)
  rw [HS.out]
  have hz3 := hb3'.size
  clear hb1 hb2 hb3 hI
  go_wp2_with fail
  refine (name_any 16 _ (HT.out _ (by repeat' first | with_reducible exact Below.refl _ _ | with_reducible assumption | with_reducible refine belows_drewN ?_ _ | with_reducible refine Below.drew ?_ | with_reducible refine Below.setCell ?_ ?_ _ | with_reducible refine Below.alloc ?_ ?_ _ | omega | (simp; done) | (simp; omega)))).mono ?_
  rintro e w4 ⟨rfl, hb4⟩
  rw [HNm.out]
  go_wp2
  go_ret
  exact ⟨rfl, belows hb3' hb4 hz3⟩
end Go.Proofs.YtihklojiionanaaDoor

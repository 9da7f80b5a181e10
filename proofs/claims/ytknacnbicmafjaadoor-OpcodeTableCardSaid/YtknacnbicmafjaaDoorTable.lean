/- OpcodeTable: whatever number and name, both sides say the same of it. -/
import Derived.Test.YtknacnbicmafjaaDoorOpS
namespace Go.Proofs.YtknacnbicmafjaaDoor
open Go.RowKit

set_option maxRecDepth 100000 in
set_option maxHeartbeats 400000 in
theorem table_law (op : Int) (s : ByteArray) (w : World) (ht : Tabs w) : Calls Tryd.prog 3 #[.int .i64 op, .string s] w fun e w' => e = .returned (.bool true) ∧ Below w.heap.size w w' := by
  have hs0 := ht.size
  have HT := hid (fun W (h : Below w.heap.size w W) => ht.below h ht.size)
  clear ht
  obtain ⟨f, hf⟩ : ∃ f : Nat, f = Op1.formOf op := ⟨_, rfl⟩
  obtain ⟨is, his⟩ : ∃ is, is = Op1.isOp op := ⟨_, rfl⟩
  obtain ⟨sz, hsz⟩ : ∃ sz, sz = Op1.szOf op := ⟨_, rfl⟩
  obtain ⟨n, is2, hn⟩ : ∃ (n : Int) (is2 : Bool), numV s.toList = .tuple #[.int .i64 n, .bool is2] := by
    unfold numV
    cases Op1.numOf s.toList with
    | none => exact ⟨_, _, rfl⟩
    | some k => exact ⟨_, _, rfl⟩
  have hV : isV op = .tuple #[.int .i64 f, .bool is] := by rw [hf, his]; rfl
  have hZ : szV op = .tuple #[.int .i64 sz, .bool is] := by rw [hsz, his]; rfl
  have HV := hid hV
  have HZ := hid hZ
  have HN := hid hn
  clear hf his hsz hV hZ hn
  go_enter Tryd.func3, Tryd.ntmps3
  go_wp2_with fail
  refine (form_any op _ (HT.out _ (by repeat' first | with_reducible exact Below.refl _ _ | with_reducible assumption | with_reducible refine belows_drewN ?_ _ | with_reducible refine Below.drew ?_ | with_reducible refine Below.setCell ?_ ?_ _ | with_reducible refine Below.alloc ?_ ?_ _ | omega | (simp; done) | (simp; omega)))).mono ?_
  rintro e w1 ⟨rfl, rfl⟩
  rw [HV.out]
  go_wp2_with fail
  refine (rform_any op _).mono ?_
  rintro e w1 ⟨rfl, hb1⟩
  rw [HV.out]
  have hz1 := hb1.size
  go_wp2_with fail
  refine (size_any op _ (HT.out _ (by repeat' first | with_reducible exact Below.refl _ _ | with_reducible assumption | with_reducible refine belows_drewN ?_ _ | with_reducible refine Below.drew ?_ | with_reducible refine Below.setCell ?_ ?_ _ | with_reducible refine Below.alloc ?_ ?_ _ | omega | (simp; done) | (simp; omega)))).mono ?_
  rintro e w2 ⟨rfl, rfl⟩
  rw [HZ.out]
  go_wp2_with fail
  refine (rsize_any op _).mono ?_
  rintro e w2 ⟨rfl, hb2⟩
  rw [HZ.out]
  have hb2' := belows hb1 hb2 hz1
  have hz2 := hb2'.size
  clear hb1 hb2
  go_wp2_with fail
  refine (findname_any s _).mono ?_
  rintro e w3 ⟨rfl, hb3⟩
  rw [HN.out]
  have hb3' := belows hb2' hb3 hz2
  have hz3 := hb3'.size
  clear hb3 hb2'
  go_wp2_with fail
  refine (rfindname_any s _).mono ?_
  rintro e w4 ⟨rfl, hb4⟩
  rw [HN.out]
  have hb4' := belows hb3' hb4 hz3
  have hz4 := hb4'.size
  clear hb4 hb3'
  go_wp2_with fail
  refine (live_any _ (HT.out _ (by repeat' first | with_reducible exact Below.refl _ _ | with_reducible assumption | with_reducible refine belows_drewN ?_ _ | with_reducible refine Below.drew ?_ | with_reducible refine Below.setCell ?_ ?_ _ | with_reducible refine Below.alloc ?_ ?_ _ | omega | (simp; done) | (simp; omega)))).mono ?_
  rintro e w5 ⟨rfl, hb5⟩
  have hb5' := belows hb4' hb5 hz4
  have hz5 := hb5'.size
  clear hb5 hb4'
  go_wp2_with fail
  refine (name_any op _ (HT.out _ (by repeat' first | with_reducible exact Below.refl _ _ | with_reducible assumption | with_reducible refine belows_drewN ?_ _ | with_reducible refine Below.drew ?_ | with_reducible refine Below.setCell ?_ ?_ _ | with_reducible refine Below.alloc ?_ ?_ _ | omega | (simp; done) | (simp; omega)))).mono ?_
  rintro e w6 ⟨rfl, hb6⟩
  have hb6' := belows hb5' hb6 hz5
  have hz6 := hb6'.size
  clear hb6 hb5'
  go_wp2_with fail
  refine (rname_any op _).mono ?_
  rintro e w7 ⟨rfl, hb7⟩
  have hb7' := belows hb6' hb7 hz6
  have hz7 := hb7'.size
  clear hb7 hb6'
  unfold nmV
  go_wp2_with fail
  refine (ends_any op _).mono ?_
  rintro e w8 ⟨rfl, rfl⟩
  go_wp2_with fail
  refine (rends_any op _).mono ?_
  rintro e w8 ⟨rfl, rfl⟩
  go_wp2
  go_ret
  exact ⟨rfl, hb7'⟩
end Go.Proofs.YtknacnbicmafjaaDoor

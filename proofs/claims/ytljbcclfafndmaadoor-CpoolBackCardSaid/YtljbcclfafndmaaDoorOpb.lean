/- Opening of bytes that are handed in. -/
import Derived.Test.YtljbcclfafndmaaDoorOpn
import Derived.ChangeSlices
namespace Go.Proofs.YtljbcclfafndmaaDoor
open Go.ChangeShapes Go.WideShapes Go.ChangeAt Go.RowKit

section
variable {H : Type} {enc : TypeId × Value → H}
theorem A.cellsU8 : Tryd.prog.cellsOf 5 = 1 := by kernel_rfl
theorem A.bytesU8 : Tryd.prog.bytesOf 5 = 1 := by kernel_rfl
theorem open_bsl {W : World} {v : Value} {d : DataW H} {ps : List MemPlace} {base : Nat}
    (hok : Value.okWide Tryd.prog W .any base 22 v) (h : DataW.Trod enc Tryd.prog W 0 (fun _ => true) true 22 v d ps) (hw : (d.weights Tryd.prog 22).all (· ≤ reachBytes) = true) : ∃ bs : List UInt8, Bs W.heap.size W v bs ∧ bs.length ≤ 140737488351232 := by
  obtain ⟨a0, len, cap, rfl⟩ := okWide_slice Tryd.underlying22 hok
  obtain ⟨fuel, hf⟩ := h
  rcases open_ints Tryd.underlying22 Tryd.underlying5 A.cellsU8 hf with ⟨hcs, hx⟩ | ⟨a, len', cap', zs, hcs, _, hl, hm, hz, hx, hcell, hwz⟩
  · obtain ⟨rfl, rfl, rfl⟩ : a0 = none ∧ len = 0 ∧ cap = 0 := by simpa [Value.cells] using hcs
    exact ⟨[], ⟨by simp, .inl ⟨rfl, none, 0, rfl⟩⟩, by simp⟩
  · simp only [Value.cells] at hcs
    obtain ⟨rfl, rfl, rfl⟩ : a0 = some a ∧ len = len' ∧ cap = cap' := by simpa using hcs
    simp only [if_true] at hz
    obtain ⟨rfl, -⟩ := Prod.mk.inj hx
    simp only [DataW.weights, Tryd.underlying22, List.all_cons, Bool.and_eq_true, decide_eq_true_eq, A.bytesU8, Nat.mul_one] at hw
    have hcap : cap ≤ 140737488351232 := by
      have := hw.1
      simp [lits, reachBytes] at this
      omega
    refine ⟨(zs.take len).map fun z => UInt8.ofNat z.toNat, ⟨by simp; omega, ?_⟩, by simp; omega⟩
    have hlen : ((zs.take len).map fun z => UInt8.ofNat z.toNat).length = len := by simp; omega
    by_cases h0 : len = 0
    · exact .inl ⟨by rw [h0]; rfl, some a, cap, by rw [h0]⟩
    · obtain ⟨b, off, rfl, hc⟩ := ints_at hcell (by omega)
      refine .inr ⟨b, off, cap, by rw [hlen], by rw [hlen]; exact hl, ?_, fun i c hi => ?_⟩
      · exact World.block_lt_of_cell? W _ (hc 0 (by omega))
      · have hil : i < len := by
          rw [List.getElem?_eq_some_iff] at hi
          have := hi.1
          omega
        rw [show W.cell? ⟨b, off + i, none⟩ = _ from hc i (by omega)]
        have hzi : zs[i]? = some (zs.getD i 0) := by simp [show i < zs.length by omega]
        have h1 := bounds_u8 (hwz _ (List.mem_of_getElem? hzi))
        rw [List.getElem?_map, List.getElem?_take_of_lt hil, hzi] at hi
        simp only [Option.map_some, Option.some.injEq] at hi
        subst hi
        unfold bv
        rw [UInt8.toNat_ofNat']
        congr 3
        omega
theorem open_bs {W : World} {v : Value} {d : DataW H} {ps : List MemPlace} {base : Nat}
    (hok : Value.okWide Tryd.prog W .any base 22 v) (h : DataW.Trod enc Tryd.prog W 0 (fun _ => true) true 22 v d ps) (hw : (d.weights Tryd.prog 22).all (· ≤ reachBytes) = true) : ∃ bs : List UInt8, Bs W.heap.size W v bs := by
  obtain ⟨bs, h, -⟩ := open_bsl hok h hw
  exact ⟨bs, h⟩
end
end Go.Proofs.YtljbcclfafndmaaDoor

/- Own kit: arguments that are slices of bytes, opened. -/
import Derived.Test.YtihklojiionanaaDoorFrame
import Derived.Test.YtihklojiionanaaDoorOpH
namespace Go.Proofs.YtihklojiionanaaDoor.Kit
open Go Go.RowKit Go.ChangeShapes Go.WideShapes Go.ChangeAt

section
variable {H : Type} {enc : TypeId × Value → H} {P : Program}
theorem weights_each : ∀ {ts : List TypeId} {ds : List (DataW H)} {j : Nat} {t : TypeId} {d : DataW H}, ts[j]? = some t → ds[j]? = some d → (DataW.weightsEach P ts ds).all (· ≤ reachBytes) = true → (d.weights P t).all (· ≤ reachBytes) = true
  | [], _, _, _, _, h, _, _ => by simp at h
  | _ :: _, [], _, _, _, _, h, _ => by simp at h
  | t :: ts, d :: ds, 0, _, _, h1, h2, h => by
    simp only [List.getElem?_cons_zero, Option.some.injEq] at h1 h2
    subst h1 h2
    simp only [DataW.weightsEach, List.all_append, Bool.and_eq_true] at h
    exact h.1
  | t :: ts, d :: ds, j + 1, _, _, h1, h2, h => by
    simp only [DataW.weightsEach, List.all_append, Bool.and_eq_true] at h
    exact weights_each (j := j) (by simpa using h1) (by simpa using h2) h.2
theorem open_bytes {t e : TypeId} (ht : P.underlying t = some (.slice e)) (he : P.underlying e = some (.int .u8)) (hce : P.cellsOf e = 1) (hby : P.bytesOf e = 1) {W : World} {v : Value} {d : DataW H} {ps : List MemPlace} {base : Nat}
    (hok : Value.okWide P W .any base t v) (h : DataW.Trod enc P W 0 (fun _ => true) true t v d ps) (hw : (d.weights P t).all (· ≤ reachBytes) = true) : ∃ bs : List UInt8, IsB W v bs := by
  obtain ⟨a0, len, cap, rfl⟩ := okWide_slice ht hok
  obtain ⟨fuel, hf⟩ := h
  rcases open_ints ht he hce hf with ⟨hcs, hx⟩ | ⟨a, len', cap', zs, hcs, _, hl, hm, hz, hx, hcell, hwz⟩
  · obtain ⟨rfl, rfl, rfl⟩ : a0 = none ∧ len = 0 ∧ cap = 0 := by simpa [Value.cells] using hcs
    exact ⟨[], by simp, .inl ⟨rfl, none, 0, rfl⟩⟩
  · simp only [Value.cells] at hcs
    obtain ⟨rfl, rfl, rfl⟩ : a0 = some a ∧ len = len' ∧ cap = cap' := by simpa using hcs
    simp only [if_true] at hz
    obtain ⟨rfl, -⟩ := Prod.mk.inj hx
    simp only [DataW.weights, ht, List.all_cons, Bool.and_eq_true, decide_eq_true_eq, hby, Nat.mul_one] at hw
    have hcap : cap ≤ 140737488351232 := by
      have := hw.1
      simp [lits, reachBytes] at this
      omega
    refine ⟨(zs.take len).map fun z => UInt8.ofNat z.toNat, by simp; omega, ?_⟩
    have hlen : ((zs.take len).map fun z => UInt8.ofNat z.toNat).length = len := by simp; omega
    by_cases h0 : len = 0
    · exact .inl ⟨by rw [h0]; rfl, some a, cap, by rw [h0]⟩
    · obtain ⟨b, off, rfl, hc⟩ := ints_at hcell (by omega)
      refine .inr ⟨b, off, cap, by rw [hlen], by rw [hlen]; exact hl, ?_, fun i hi => ?_⟩
      · exact World.block_lt_of_cell? W _ (hc 0 (by omega))
      · rw [hlen] at hi
        rw [hc i (by omega)]
        have hzi : zs[i]? = some (zs.getD i 0) := by simp [show i < zs.length by omega]
        have h1 := bounds_u8 (hwz _ (List.mem_of_getElem? hzi))
        have h2 : Op1.at8 ((zs.take len).map fun z => UInt8.ofNat z.toNat) i = (zs.getD i 0).toNat := by
          unfold Op1.at8
          have hti : (zs.take len)[i]? = some (zs.getD i 0) := by rw [List.getElem?_take_of_lt hi]; exact hzi
          rw [List.getD_eq_getElem?_getD, List.getElem?_map, hti]
          simp only [Option.map_some, Option.getD_some, UInt8.toNat_ofNat']
          omega
        rw [h2]
        congr 3; omega
end
end Go.Proofs.YtihklojiionanaaDoor.Kit

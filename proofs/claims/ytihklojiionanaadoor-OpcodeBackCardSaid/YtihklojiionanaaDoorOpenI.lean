/- Own kit: arguments that are slices of instructions, opened. -/
import Derived.Test.YtihklojiionanaaDoorOpen
import Derived.Test.YtihklojiionanaaDoorOpK
namespace Go.Proofs.YtihklojiionanaaDoor
open Go.RowKit Go.ChangeShapes Go.WideShapes Go.ChangeAt

section
variable {H : Type} {enc : TypeId × Value → H}
theorem ins_cells {W : World} {n : Nat} {cs : List Value} {y : DataW H × List MemPlace} (h : DataW.trod enc Tryd.prog W 0 (fun _ => true) true n 35 cs = some y) : ∃ x, cs = insC x := by
  obtain ⟨xs, m, -, -, hl, hlen, hf⟩ := DataW.trod_struct Tryd.underlying35 h
  have hl4 : cs.length = 4 := hl.trans (by kernel_rfl)
  have hc1 : Tryd.prog.cellsOf 3 = 1 := by kernel_rfl
  have get : ∀ i, i < 4 → ∃ z : Int, (cs.drop i).take 1 = [.int .i64 z] := by
    intro i hi
    have hx : i < xs.length := by rw [hlen]; exact hi
    match i, hi with
    | 0, _ =>
      have := hf 0 _ rfl
      rw [List.getElem?_eq_getElem hx] at this
      obtain ⟨z, hz, -⟩ := DataW.trod_int Tryd.underlying3 this
      have hz' : (cs.drop 0).take (Tryd.prog.cellsOf 3) = [.int .i64 z] := hz
      exact ⟨z, by rw [hc1] at hz'; exact hz'⟩
    | 1, _ =>
      have := hf 1 _ rfl
      rw [List.getElem?_eq_getElem hx] at this
      obtain ⟨z, hz, -⟩ := DataW.trod_int Tryd.underlying3 this
      have hz' : (cs.drop 1).take (Tryd.prog.cellsOf 3) = [.int .i64 z] := hz
      exact ⟨z, by rw [hc1] at hz'; exact hz'⟩
    | 2, _ =>
      have := hf 2 _ rfl
      rw [List.getElem?_eq_getElem hx] at this
      obtain ⟨z, hz, -⟩ := DataW.trod_int Tryd.underlying3 this
      have hz' : (cs.drop 2).take (Tryd.prog.cellsOf 3) = [.int .i64 z] := hz
      exact ⟨z, by rw [hc1] at hz'; exact hz'⟩
    | 3, _ =>
      have := hf 3 _ rfl
      rw [List.getElem?_eq_getElem hx] at this
      obtain ⟨z, hz, -⟩ := DataW.trod_int Tryd.underlying3 this
      have hz' : (cs.drop 3).take (Tryd.prog.cellsOf 3) = [.int .i64 z] := hz
      exact ⟨z, by rw [hc1] at hz'; exact hz'⟩
  obtain ⟨z0, h0⟩ := get 0 (by omega)
  obtain ⟨z1, h1⟩ := get 1 (by omega)
  obtain ⟨z2, h2⟩ := get 2 (by omega)
  obtain ⟨z3, h3⟩ := get 3 (by omega)
  match cs, hl4 with
  | [a, b, c, d], _ =>
    simp only [List.drop_zero, List.take_succ_cons, List.take_zero, List.cons.injEq, and_true, List.drop_succ_cons] at h0 h1 h2 h3
    subst h0 h1 h2 h3
    exact ⟨⟨z0, z1, z2, z3⟩, rfl⟩
theorem open_ins {W : World} {v : Value} {d : DataW H} {ps : List MemPlace} {base : Nat} (hok : Value.okWide Tryd.prog W .any base 30 v) (h : DataW.Trod enc Tryd.prog W 0 (fun _ => true) true 30 v d ps)
    (hw : (d.weights Tryd.prog 30).all (· ≤ reachBytes) = true) : ∃ l : List Op1.Ins, Kit.IsS 4 W v l.length (insCells l) ∧ l.length * 32 ≤ 140737488355328 := by
  obtain ⟨a0, len, cap, rfl⟩ := okWide_slice Tryd.underlying30 hok
  obtain ⟨fuel, hf⟩ := h
  rcases DataW.trod_slice Tryd.underlying30 hf with ⟨hcs, -⟩ | ⟨a, len', cap', elems, rest, n, -, hcs, hx, -, hl, hm, hel, hcells, hsp, -⟩
  · obtain ⟨rfl, rfl, rfl⟩ : a0 = none ∧ len = 0 ∧ cap = 0 := by simpa [Value.cells] using hcs
    exact ⟨[], ⟨by simp [insCells], by simp, .inl ⟨rfl, none, 0, rfl⟩⟩, by simp⟩
  · obtain ⟨rfl, rfl, rfl⟩ : a0 = some a ∧ len = len' ∧ cap = cap' := by simpa [Value.cells] using hcs
    obtain ⟨rfl, -⟩ := Prod.mk.inj hx
    have hby : Tryd.prog.bytesOf 35 = 32 := by kernel_rfl
    have hco : Tryd.prog.cellsOf 35 = 4 := by kernel_rfl
    simp only [DataW.weights, Tryd.underlying30, List.all_cons, Bool.and_eq_true, decide_eq_true_eq, hby] at hw
    have hcap : len * 32 ≤ 140737488351232 := by
      have h1 := hw.1
      simp only [List.length_map, reachBytes] at h1
      omega
    have each : ∀ i, ∃ x : Op1.Ins, i < len → ∀ j, j < 4 → W.cell? ((a.add (i * 4)).add j) = (insC x)[j]? := by
      intro i
      by_cases hi : i < len
      · have h1 := hcells i hi
        rw [hco, List.getElem?_eq_getElem (by omega), Option.bind_eq_some_iff] at h1
        obtain ⟨cs, hcs', htr⟩ := h1
        obtain ⟨x, rfl⟩ := ins_cells htr
        exact ⟨x, fun _ j hj => (World.cells?_some hcs').2.2 j hj⟩
      · exact ⟨⟨0, 0, 0, 0⟩, fun h => absurd h hi⟩
    obtain ⟨f, hfx⟩ := Classical.skolem.1 each
    have hlen : ((List.range len).map f).length = len := by simp
    have hflat : (insCells ((List.range len).map f)).length = len * 4 := by
      unfold insCells; rw [Kit.flat_len insC_len, hlen]
    refine ⟨(List.range len).map f, ⟨by rw [hlen, hflat], by rw [hlen]; omega, ?_⟩, by rw [hlen]; omega⟩
    by_cases h0 : len = 0
    · exact .inl ⟨by rw [hlen, h0], some a, cap, by rw [h0]⟩
    · obtain ⟨b, o, spot⟩ := a
      have hsp0 := hfx 0 (by omega) 0 (by omega)
      have hspot : spot = none := by
        have := World.cell?_spot (hsp0.trans rfl)
        simpa [Addr.add] using this
      subst hspot
      have hat : ∀ i j, ((⟨b, o, none⟩ : Addr).add i).add j = ⟨b, o + (i + j), none⟩ := by
        intro i j
        rw [add_plain, add_plain]; congr 1; omega
      refine .inr ⟨b, o, cap, by rw [hlen], by rw [hlen]; exact hl, ?_, fun i u hi => ?_⟩
      · have := World.block_lt_of_cell? W _ (hsp0.trans rfl)
        simpa [Addr.add] using this
      · have hil : i < len * 4 := by rw [← hflat]; rw [List.getElem?_eq_some_iff] at hi; exact hi.1
        have hq : i / 4 < len := by omega
        have hget : ((List.range len).map f)[i / 4]? = some (f (i / 4)) := by rw [List.getElem?_map, List.getElem?_range hq]; rfl
        have h1 := Kit.flat_at insC_len hget (i % 4) (by omega)
        have e : i / 4 * 4 + i % 4 = i := by omega
        rw [e] at h1
        have h2 := hfx (i / 4) hq (i % 4) (by omega)
        rw [hat, e] at h2
        rw [h2, ← h1]
        exact hi
end
end Go.Proofs.YtihklojiionanaaDoor

/- Opening of a list of types that is handed in, with its bulk. -/
import Derived.Test.YthhjenmgcbmphaaDoorRows
import Derived.Test.YthhjenmgcbmphaaDoorOpT
import Derived.Test.YthhjenmgcbmphaaDoorPm
namespace Go.Proofs.YthhjenmgcbmphaaDoor
open Go.ChangeShapes Go.WideShapes Go.ChangeAt Go.RowKit Go.WideMaps Go.WideElems

section
variable {H : Type} {enc : TypeId × Value → H}
theorem bulk_pos (d : DataW H) : 1 ≤ Rows.uptoBulk d := by
  cases d with
  | lit l => cases l <;> simp [Rows.uptoBulk]
  | _ => simp [Rows.uptoBulk]
theorem bulk_len : ∀ l : List (DataW H), l.length ≤ Rows.uptoBulkAll l
  | [] => by simp [Rows.uptoBulkAll]
  | x :: r => by have h1 := bulk_pos x; have h2 := bulk_len r; simp only [Rows.uptoBulkAll, List.length_cons]; omega
theorem bulk_mem : ∀ {l : List (DataW H)} {d : DataW H}, d ∈ l → Rows.uptoBulk d ≤ Rows.uptoBulkAll l
  | [], _, h => by cases h
  | x :: r, d, h => by
    simp only [Rows.uptoBulkAll]
    rcases List.mem_cons.1 h with rfl | h
    · omega
    · have := bulk_mem h; omega
theorem bulk_all {l : List (DataW H)} (h : Rows.uptoSmall H l = true) : Rows.uptoBulkAll l ≤ 1048576 := of_decide_eq_true h
theorem ty_cells {W : World} {n : Nat} {cs : List Value} {y : DataW H × List MemPlace} (h : DataW.trod enc Tryd.prog W 0 (fun _ => true) true n 23 cs = some y) :
    ∃ x : Ds.Ty, cs = tyC x ∧ (Lit.int .i64 x.1).wf = true ∧ x.2.length ≤ Rows.uptoBulk y.1 := by
  obtain ⟨y0, y1, m, hx, hl, hy0, hy1⟩ := trod_struct2 Tryd.underlying23 h
  rw [A.cellsTy] at hl
  match cs, hl with
  | [c0, c1], _ =>
  obtain ⟨a, e0, rfl, wa⟩ := DataW.trod_int Tryd.underlying3 hy0
  obtain ⟨b, e1, rfl, wb⟩ := DataW.trod_string Tryd.underlying9 hy1
  simp [A.cellsInt, A.cellsStr] at e0 e1
  subst e0 e1
  subst hx
  refine ⟨(a, b.data.toList), ?_, wa, ?_⟩
  · unfold tyC
    rw [show (⟨b.data.toList.toArray⟩ : ByteArray) = b from ba_ext rfl]
  · simp only [Rows.uptoBulk, Rows.uptoBulkAll]
    omega
theorem tyl_len (l : List Ds.Ty) : (l.flatMap tyC).length = l.length * 2 := Kit.flat_len tyC_len l
theorem open_tys {W : World} {v : Value} {d : DataW H} {ps : List MemPlace} {base : Nat} (hok : Value.okWide Tryd.prog W .any base 27 v) (h : DataW.Trod enc Tryd.prog W 0 (fun _ => true) true 27 v d ps) (hb : Rows.uptoBulk d ≤ 1048576) :
    ∃ l : List Ds.Ty, Kit.IsS 2 W v l.length (l.flatMap tyC) ∧ (∀ y ∈ l, GoodT y) ∧ l.length ≤ 1048576 := by
  obtain ⟨a0, len, cap, rfl⟩ := okWide_slice Tryd.underlying27 hok
  obtain ⟨fuel, hf⟩ := h
  rcases DataW.trod_slice Tryd.underlying27 hf with ⟨hcs, -⟩ | ⟨a, len', cap', elems, rest, n, -, hcs, hx, -, hl, hm, hel, hcells, hsp, -⟩
  · obtain ⟨rfl, rfl, rfl⟩ : a0 = none ∧ len = 0 ∧ cap = 0 := by simpa [Value.cells] using hcs
    exact ⟨[], ⟨by simp, by simp, .inl ⟨rfl, none, 0, rfl⟩⟩, fun y hy => by (cases hy), by simp⟩
  · obtain ⟨rfl, rfl, rfl⟩ : a0 = some a ∧ len = len' ∧ cap = cap' := by simpa [Value.cells] using hcs
    obtain ⟨rfl, -⟩ := Prod.mk.inj hx
    have hco : Tryd.prog.cellsOf 23 = 2 := by kernel_rfl
    simp only [Rows.uptoBulk] at hb
    have hlen0 : len ≤ 1048576 := by
      have h1 := bulk_len (elems.map (·.1))
      rw [List.length_map, hel] at h1
      omega
    have each : ∀ i, ∃ x : Ds.Ty, i < len → (∀ j, j < 2 → W.cell? ((a.add (i * 2)).add j) = (tyC x)[j]?) ∧ GoodT x := by
      intro i
      by_cases hi : i < len
      · have h1 := hcells i hi
        rw [hco, List.getElem?_eq_getElem (by omega), Option.bind_eq_some_iff] at h1
        obtain ⟨cs, hcs', htr⟩ := h1
        obtain ⟨x, rfl, hwf, hxl⟩ := ty_cells htr
        refine ⟨x, fun _ => ⟨fun j hj => (World.cells?_some hcs').2.2 j hj, hwf, ?_⟩⟩
        have := bulk_mem (l := elems.map (·.1)) (d := (elems[i]'(by omega)).1) (List.mem_map_of_mem (List.getElem_mem _))
        omega
      · exact ⟨(0, []), fun h => absurd h hi⟩
    obtain ⟨f, hfx⟩ := Classical.skolem.1 each
    have hlen : ((List.range len).map f).length = len := by simp
    have hflat : (((List.range len).map f).flatMap tyC).length = len * 2 := by rw [tyl_len, hlen]
    refine ⟨(List.range len).map f, ⟨by rw [hlen, hflat], by rw [hlen]; omega, ?_⟩, ?_, by rw [hlen]; exact hlen0⟩
    · by_cases h0 : len = 0
      · exact .inl ⟨by rw [hlen, h0], some a, cap, by rw [h0]⟩
      · obtain ⟨b, o, spot⟩ := a
        have hsp0 := (hfx 0 (by omega)).1 0 (by omega)
        have hspot : spot = none := by
          have := World.cell?_spot (hsp0.trans rfl)
          simpa [Addr.add] using this
        subst hspot
        have hat : ∀ i j, ((⟨b, o, none⟩ : Addr).add i).add j = ⟨b, o + (i + j), none⟩ := by
          intro i j
          rw [add_plain, add_plain]; congr 1; omega
        refine .inr ⟨b, o, cap, by rw [hlen], by rw [hlen]; exact hl, ?_, fun i u hi => ?_⟩
        · have := World.block_lt_of_cell? W _ (hsp0.trans rfl)
          simpa [Addr.add] using this
        · have hil : i < len * 2 := by rw [← hflat]; rw [List.getElem?_eq_some_iff] at hi; exact hi.1
          have hq : i / 2 < len := by omega
          have hget : ((List.range len).map f)[i / 2]? = some (f (i / 2)) := by rw [List.getElem?_map, List.getElem?_range hq]; rfl
          have h1 := Kit.flat_at tyC_len hget (i % 2) (by omega)
          have e : i / 2 * 2 + i % 2 = i := by omega
          rw [e] at h1
          have h2 := (hfx (i / 2) hq).1 (i % 2) (by omega)
          rw [hat, e] at h2
          rw [h2, ← h1]
          exact hi
    · intro y hy
      obtain ⟨i, hi, rfl⟩ := List.mem_map.1 hy
      exact (hfx i (List.mem_range.1 hi)).2
end
end Go.Proofs.YthhjenmgcbmphaaDoor

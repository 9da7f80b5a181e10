/- Opening of a pool, and of an entry, that is handed in. -/
import Derived.Test.YtljbcclfafndmaaDoorRows
import Derived.Test.YtljbcclfafndmaaDoorCr
import Derived.ProofKit
import Derived.OpenShut
namespace Go.Proofs.YtljbcclfafndmaaDoor
open Go.ChangeShapes Go.WideShapes Go.ChangeAt Go.RowKit Go.WideMaps Go.WideElems

def I64 (z : Int) : Prop := -9223372036854775808 ≤ z ∧ z ≤ 9223372036854775807
theorem i64_wf {z : Int} (h : (Lit.int .i64 z).wf = true) : I64 z := by
  simp [Lit.wf, IntKind.min, IntKind.max, IntKind.signed, IntKind.bits] at h
  exact h
/-- What a machine's memory can hold as an entry. -/
structure GoodC (c : Cp.C) : Prop where
  t : I64 c.t
  s : c.s.size ≤ 140737488355328
  n : I64 c.n
  a : I64 c.a
  b : I64 c.b
section
variable {H : Type} {enc : TypeId × Value → H}
theorem weights_eachT {P : Program} : ∀ {ts : List TypeId} {ds : List (DataW H)} {j : Nat} {t : TypeId} {d : DataW H}, ts[j]? = some t → ds[j]? = some d → (DataW.weightsEach P ts ds).all (· ≤ reachBytes) = true → (d.weights P t).all (· ≤ reachBytes) = true
  | [], _, _, _, _, h, _, _ => by simp at h
  | _ :: _, [], _, _, _, _, h, _ => by simp at h
  | t :: ts, d :: ds, 0, _, _, h1, h2, h => by
    simp only [List.getElem?_cons_zero, Option.some.injEq] at h1 h2
    subst h1 h2
    simp only [DataW.weightsEach, List.all_append, Bool.and_eq_true] at h
    exact h.1
  | t :: ts, d :: ds, j + 1, _, _, h1, h2, h => by
    simp only [DataW.weightsEach, List.all_append, Bool.and_eq_true] at h
    exact weights_eachT (j := j) (by simpa using h1) (by simpa using h2) h.2
theorem weights_allT {P : Program} {e : TypeId} : ∀ {ds : List (DataW H)} {d : DataW H}, d ∈ ds → (DataW.weightsAll P e ds).all (· ≤ reachBytes) = true → (d.weights P e).all (· ≤ reachBytes) = true
  | [], _, h, _ => by cases h
  | x :: r, d, h, hw => by
    simp only [DataW.weightsAll, List.all_append, Bool.and_eq_true] at hw
    rcases List.mem_cons.1 h with rfl | h
    · exact hw.1
    · exact weights_allT h hw.2
theorem A.cellsInt : Tryd.prog.cellsOf 3 = 1 := by kernel_rfl
theorem A.cellsI64 : Tryd.prog.cellsOf 2 = 1 := by kernel_rfl
theorem A.cellsStr : Tryd.prog.cellsOf 9 = 1 := by kernel_rfl
theorem c_cells {W : World} {sp : Nat → Bool} {n : Nat} {cs : List Value} {y : DataW H × List MemPlace} (h : DataW.trod enc Tryd.prog W 0 sp true n 46 cs = some y) (hw : (y.1.weights Tryd.prog 46).all (· ≤ reachBytes) = true) :
    ∃ c : Cp.C, cs = cL c ∧ GoodC c := by
  obtain ⟨xs, m, -, hy, hl, hlen, hf⟩ := DataW.trod_struct Tryd.underlying46 h
  have hl5 : cs.length = 5 := hl.trans (by kernel_rfl)
  have hx5 : xs.length = 5 := hlen
  match xs, hx5 with
  | [x0, x1, x2, x3, x4], _ =>
  match cs, hl5 with
  | [k0, k1, k2, k3, k4], _ =>
  obtain ⟨t, e0, g0, w0⟩ := DataW.trod_int Tryd.underlying3 (hf 0 _ rfl)
  obtain ⟨s, e1, g1, -⟩ := DataW.trod_string Tryd.underlying9 (hf 1 _ rfl)
  obtain ⟨nn, e2, g2, w2⟩ := DataW.trod_int Tryd.underlying2 (hf 2 _ rfl)
  obtain ⟨a, e3, g3, w3⟩ := DataW.trod_int Tryd.underlying3 (hf 3 _ rfl)
  obtain ⟨b, e4, g4, w4⟩ := DataW.trod_int Tryd.underlying3 (hf 4 _ rfl)
  have q0 : ([k0, k1, k2, k3, k4].drop 0).take (Tryd.prog.cellsOf 3) = [.int .i64 t] := e0
  have q1 : ([k0, k1, k2, k3, k4].drop 1).take (Tryd.prog.cellsOf 9) = [.string s] := e1
  have q2 : ([k0, k1, k2, k3, k4].drop 2).take (Tryd.prog.cellsOf 2) = [.int .i64 nn] := e2
  have q3 : ([k0, k1, k2, k3, k4].drop 3).take (Tryd.prog.cellsOf 3) = [.int .i64 a] := e3
  have q4 : ([k0, k1, k2, k3, k4].drop 4).take (Tryd.prog.cellsOf 3) = [.int .i64 b] := e4
  clear e0 e1 e2 e3 e4 hf
  rw [A.cellsInt] at q0 q3 q4
  rw [A.cellsStr] at q1
  rw [A.cellsI64] at q2
  simp only [List.drop_zero, List.take_succ_cons, List.take_zero, List.cons.injEq, and_true, List.drop_succ_cons] at q0 q1 q2 q3 q4
  subst q0 q1 q2 q3 q4
  subst g0 g1 g2 g3 g4 hy
  refine ⟨⟨t, s, nn, a, b⟩, rfl, i64_wf w0, ?_, i64_wf w2, i64_wf w3, i64_wf w4⟩
  simp [DataW.weights, Tryd.underlying46, DataW.weightsEach, reachBytes] at hw
  have h2 : s.size ≤ 140737488351232 := of_decide_eq_true hw
  show s.size ≤ _
  omega
theorem open_const {W : World} {base : Nat} {v : Value} {d : DataW H} {p : List MemPlace} (hv : Value.okWide Tryd.prog W .any base 46 v) (h : DataW.Trod enc Tryd.prog W 0 (fun _ => true) true 46 v d p) (hw : (d.weights Tryd.prog 46).all (· ≤ reachBytes) = true) :
    ∃ c : Cp.C, v = .agg (cC c) ∧ GoodC c := by
  obtain ⟨cs, rfl, hsz⟩ := okWide_struct Tryd.underlying46 hv
  obtain ⟨fuel, hf⟩ := h
  obtain ⟨c, hc, hg⟩ := c_cells (y := (d, p)) hf hw
  refine ⟨c, ?_, hg⟩
  have hc2 : cs.toList = cL c := hc
  rw [show cC c = (cL c).toArray from rfl, ← hc2]
theorem open_consts {W : World} {v : Value} {d : DataW H} {ps : List MemPlace} {base : Nat} (hok : Value.okWide Tryd.prog W .any base 23 v) (h : DataW.Trod enc Tryd.prog W 0 (fun _ => true) true 23 v d ps)
    (hw : (d.weights Tryd.prog 23).all (· ≤ reachBytes) = true) :
    ∃ l : List Cp.C, Kit.IsS 5 W v l.length (l.flatMap cL) ∧ (∀ c ∈ l, GoodC c) ∧ l.length * 48 ≤ 140737488351232 := by
  obtain ⟨a0, len, cap, rfl⟩ := okWide_slice Tryd.underlying23 hok
  obtain ⟨fuel, hf⟩ := h
  rcases DataW.trod_slice Tryd.underlying23 hf with ⟨hcs, -⟩ | ⟨a, len', cap', elems, rest, n, -, hcs, hx, -, hl, hm, hel, hcells, hsp, -⟩
  · obtain ⟨rfl, rfl, rfl⟩ : a0 = none ∧ len = 0 ∧ cap = 0 := by simpa [Value.cells] using hcs
    exact ⟨[], ⟨by simp, by simp, .inl ⟨rfl, none, 0, rfl⟩⟩, fun y hy => by (cases hy), by simp⟩
  · obtain ⟨rfl, rfl, rfl⟩ : a0 = some a ∧ len = len' ∧ cap = cap' := by simpa [Value.cells] using hcs
    obtain ⟨rfl, -⟩ := Prod.mk.inj hx
    have hco : Tryd.prog.cellsOf 46 = 5 := by kernel_rfl
    have hby : Tryd.prog.bytesOf 46 = 48 := by kernel_rfl
    simp only [DataW.weights, Tryd.underlying23, List.all_cons, List.all_append, Bool.and_eq_true, decide_eq_true_eq, hby] at hw
    have hcap : len * 48 ≤ 140737488351232 := by
      have h1 := hw.1
      simp only [List.length_map, reachBytes] at h1
      omega
    have each : ∀ i, ∃ c : Cp.C, i < len → (∀ j, j < 5 → W.cell? ((a.add (i * 5)).add j) = (cL c)[j]?) ∧ GoodC c := by
      intro i
      by_cases hi : i < len
      · have h1 := hcells i hi
        rw [hco, List.getElem?_eq_getElem (by omega), Option.bind_eq_some_iff] at h1
        obtain ⟨cs, hcs', htr⟩ := h1
        obtain ⟨c, rfl, hg⟩ := c_cells htr (weights_allT (List.mem_map_of_mem (List.getElem_mem _)) hw.2.1)
        exact ⟨c, fun _ => ⟨fun j hj => (World.cells?_some hcs').2.2 j hj, hg⟩⟩
      · exact ⟨Cp.C0, fun h => absurd h hi⟩
    obtain ⟨f, hfx⟩ := Classical.skolem.1 each
    have hlen : ((List.range len).map f).length = len := by simp
    have hflat : (((List.range len).map f).flatMap cL).length = len * 5 := by rw [Kit.flat_len cL_len, hlen]
    refine ⟨(List.range len).map f, ⟨by rw [hlen, hflat], by rw [hlen]; omega, ?_⟩, ?_, by rw [hlen]; exact hcap⟩
    · by_cases h0 : len = 0
      · exact .inl ⟨by rw [hlen, h0], some a, cap, by rw [h0]⟩
      · obtain ⟨b, o, spot⟩ := a
        have hsp0 := (hfx 0 (by omega)).1 0 (by omega)
        have hspot : spot = none := by
          have := World.cell?_spot (hsp0.trans rfl)
          simpa [Addr.add] using this
        subst hspot
        have hat : ∀ i j, ((⟨b, o, none⟩ : Addr).add i).add j = ⟨b, o + (i + j), none⟩ := by
          intro i j
          rw [add_plain, add_plain]; congr 1; omega
        refine .inr ⟨b, o, cap, by rw [hlen], by rw [hlen]; exact hl, ?_, fun i u hi => ?_⟩
        · have := World.block_lt_of_cell? W _ (hsp0.trans rfl)
          simpa [Addr.add] using this
        · have hil : i < len * 5 := by rw [← hflat]; rw [List.getElem?_eq_some_iff] at hi; exact hi.1
          have hq : i / 5 < len := by omega
          have hget : ((List.range len).map f)[i / 5]? = some (f (i / 5)) := by rw [List.getElem?_map, List.getElem?_range hq]; rfl
          have h1 := Kit.flat_at cL_len hget (i % 5) (by omega)
          have e : i / 5 * 5 + i % 5 = i := by omega
          rw [e] at h1
          have h2 := (hfx (i / 5) hq).1 (i % 5) (by omega)
          rw [hat, e] at h2
          rw [h2, ← h1]
          exact hi
    · intro y hy
      obtain ⟨i, hi, rfl⟩ := List.mem_map.1 hy
      exact (hfx i (List.mem_range.1 hi)).2
end
end Go.Proofs.YtljbcclfafndmaaDoor

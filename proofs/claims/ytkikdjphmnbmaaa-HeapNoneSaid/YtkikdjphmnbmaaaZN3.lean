/- HeapNone is true for every operation, without a condition. -/
import Derived.Test.YtkikdjphmnbmaaaZN2
namespace Go.Proofs.Ytkikdjphmnbmaaa
open Go.ChangeShapes Go.WideShapes Go.ChangeAt Go.RowKit Go.WideMaps Go.WideElems

set_option maxRecDepth 100000
section
variable {H : Type} {enc : TypeId × Value → H}
theorem weights_allT {P : Program} {e : TypeId} : ∀ {ds : List (DataW H)} {d : DataW H}, d ∈ ds → (DataW.weightsAll P e ds).all (· ≤ reachBytes) = true → (d.weights P e).all (· ≤ reachBytes) = true
  | [], _, h, _ => by cases h
  | x :: r, d, h, hw => by
    simp only [DataW.weightsAll, List.all_append, Bool.and_eq_true] at hw
    rcases List.mem_cons.1 h with rfl | h
    · exact hw.1
    · exact weights_allT h hw.2
theorem bulk_pos (d : DataW H) : 1 ≤ Rows.uptoBulk d := by
  cases d with
  | lit l => cases l <;> simp [Rows.uptoBulk]
  | _ => simp [Rows.uptoBulk]
theorem bulk_len : ∀ l : List (DataW H), l.length ≤ Rows.uptoBulkAll l
  | [] => by simp [Rows.uptoBulkAll]
  | x :: r => by have h1 := bulk_pos x; have h2 := bulk_len r; simp only [Rows.uptoBulkAll, List.length_cons]; omega
theorem bulk_mem : ∀ {l : List (DataW H)} {d : DataW H}, d ∈ l → Rows.uptoBulk d ≤ Rows.uptoBulkAll l
  | [], _, h => by cases h
  | x :: r, d, h => by
    simp only [Rows.uptoBulkAll]
    rcases List.mem_cons.1 h with rfl | h
    · omega
    · have := bulk_mem h; omega
theorem A.cellsInt : Try.prog.cellsOf 3 = 1 := by kernel_rfl
theorem A.cellsI64 : Try.prog.cellsOf 2 = 1 := by kernel_rfl
theorem A.cellsStr : Try.prog.cellsOf 9 = 1 := by kernel_rfl
theorem A.cellsTy : Try.prog.cellsOf 33 = 2 := by kernel_rfl
theorem A.cellsVl : Try.prog.cellsOf 35 = 2 := by kernel_rfl
theorem A.cellsTys : Try.prog.cellsOf 31 = 1 := by kernel_rfl
set_option maxRecDepth 100000 in
/-- A list of things of so many cells each, in a cell. -/
theorem list_cell {α : Type} {W : World} {n : Nat} {k : Value} {y : DataW H × List MemPlace} {tS tE : TypeId} {s by_ : Nat} (G : DataW H → List Value → α → Prop) (hG : ∀ d cs x, G d cs x → cs.length = s) (hs : 0 < s)
    (hu : Try.prog.underlying tS = some (.slice tE)) (hco : Try.prog.cellsOf tE = s) (hby : Try.prog.bytesOf tE = by_) (hb0 : 0 < by_)
    (he : ∀ (m : Nat) (cs : List Value) (z : DataW H × List MemPlace), DataW.trod enc Try.prog W 0 (fun _ => true) true m tE cs = some z → (z.1.weights Try.prog tE).all (· ≤ reachBytes) = true → ∃ x, G z.1 cs x)
    (h : DataW.trod enc Try.prog W 0 (fun _ => true) true n tS [k] = some y) (hw : (y.1.weights Try.prog tS).all (· ≤ reachBytes) = true) :
    ∃ (xs : List α) (rs : List (List Value)), rs.length = xs.length ∧ (∀ (i : Nat) (r : List Value) (x : α), rs[i]? = some r → xs[i]? = some x → ∃ d, G d r x ∧ Rows.uptoBulk d ≤ Rows.uptoBulk y.1) ∧ Kit.IsS s W k xs.length rs.flatten ∧ xs.length * by_ ≤ 140737488351232 ∧ xs.length ≤ Rows.uptoBulk y.1 := by
  rcases DataW.trod_slice hu h with ⟨hcs, rfl⟩ | ⟨a, len, cap, elems, rest, m, -, hcs, rfl, -, hl, hm, hel, hcells, hsp, -⟩
  · obtain rfl : k = .slice none 0 0 := by simpa using hcs
    exact ⟨[], [], rfl, fun i r x hr => by simp at hr, ⟨by simp, by simp, .inl ⟨rfl, none, 0, rfl⟩⟩, by simp, by simp⟩
  · obtain rfl : k = .slice (some a) len cap := by simpa using hcs
    simp only [DataW.weights, hu, List.all_cons, List.all_append, Bool.and_eq_true, decide_eq_true_eq, hby] at hw
    have hcap : len * by_ ≤ 140737488351232 := by
      have h1 := hw.1
      simp only [List.length_map, reachBytes] at h1
      rw [hel] at h1
      exact Nat.le_trans (Nat.mul_le_mul_right _ (Nat.le_add_right _ _)) h1
    have hbl : len ≤ Rows.uptoBulk (.slice (elems.map (·.1)) (rest.map (·.1)) : DataW H) := by
      have := bulk_len (elems.map (·.1))
      rw [List.length_map, hel] at this
      simp only [Rows.uptoBulk]
      omega
    have each : ∀ i, ∃ q : List Value × Option α, i < len → q.1.length = s ∧ (∀ j, j < s → W.cell? ((a.add (i * s)).add j) = q.1[j]?) ∧ ∃ x d, q.2 = some x ∧ G d q.1 x ∧ Rows.uptoBulk d ≤ Rows.uptoBulk (.slice (elems.map (·.1)) (rest.map (·.1)) : DataW H) := by
      intro i
      by_cases hi : i < len
      · have h1 := hcells i hi
        rw [hco, List.getElem?_eq_getElem (by omega), Option.bind_eq_some_iff] at h1
        obtain ⟨cs, hcs', htr⟩ := h1
        have hmem : elems[i].1 ∈ elems.map (·.1) := List.mem_map_of_mem (List.getElem_mem _)
        obtain ⟨x, hx⟩ := he _ _ _ htr (weights_allT hmem hw.2.1)
        refine ⟨(cs, some x), fun _ => ⟨hG _ _ _ hx, fun j hj => (World.cells?_some hcs').2.2 j hj, x, _, rfl, hx, ?_⟩⟩
        have := bulk_mem hmem
        simp only [Rows.uptoBulk]
        omega
      · exact ⟨([], none), fun h => absurd h hi⟩
    obtain ⟨f, hfx⟩ := Classical.skolem.1 each
    have hxs : ∃ xs : List α, xs.length = len ∧ ∀ i, i < len → xs[i]? = (f i).2 := by
      have : ∀ m, m ≤ len → ∃ xs : List α, xs.length = m ∧ ∀ i, i < m → xs[i]? = (f i).2 := by
        intro m
        induction m with
        | zero => intro _; exact ⟨[], rfl, fun i hi => by omega⟩
        | succ m ih =>
          intro hm
          obtain ⟨xs, h1, h2⟩ := ih (by omega)
          obtain ⟨-, -, x, d, hx, -⟩ := hfx m (by omega)
          refine ⟨xs ++ [x], by simp [h1], fun i hi => ?_⟩
          by_cases e : i < m
          · rw [List.getElem?_append_left (by omega)]; exact h2 i e
          · obtain rfl : i = m := by omega
            rw [List.getElem?_append_right (by omega), h1, Nat.sub_self, hx]
            rfl
      exact this len (Nat.le_refl _)
    obtain ⟨xs, hxl, hxe⟩ := hxs
    have hrl : ∀ r ∈ (List.range len).map (fun i => (f i).1), r.length = s := by
      intro r hr
      obtain ⟨i, hi, rfl⟩ := List.mem_map.1 hr
      exact (hfx i (List.mem_range.1 hi)).1
    have hfl : ∀ (rs : List (List Value)), (∀ r ∈ rs, r.length = s) → rs.flatten.length = rs.length * s ∧ ∀ i r, rs[i]? = some r → ∀ j, j < s → rs.flatten[i * s + j]? = r[j]? := by
      intro rs
      induction rs with
      | nil => intro _; exact ⟨by simp, fun i r hr => by simp at hr⟩
      | cons r0 rs ih =>
        intro hr
        obtain ⟨h1, h2⟩ := ih (fun r h => hr r (List.mem_cons_of_mem _ h))
        have h0 := hr r0 (by simp)
        refine ⟨by rw [List.flatten_cons, List.length_append, h0, h1, List.length_cons, Nat.succ_mul]; omega, fun i r hi j hj => ?_⟩
        match i, hi with
        | 0, hi =>
          simp at hi
          subst hi
          rw [List.flatten_cons, List.getElem?_append_left (by omega)]
          simp
        | i + 1, hi =>
          rw [List.flatten_cons, List.getElem?_append_right (by rw [h0, Nat.succ_mul]; omega), h0, ← h2 i r (by simpa using hi) j hj]
          congr 1
          rw [Nat.succ_mul]
          omega
    obtain ⟨hfl1, hfl2⟩ := hfl _ hrl
    have hrlen : ((List.range len).map (fun i => (f i).1)).length = len := by simp
    refine ⟨xs, (List.range len).map (fun i => (f i).1), by rw [hrlen, hxl], fun i r x hr hx => ?_, ⟨by rw [hfl1, hrlen, hxl], by rw [hxl]; exact Nat.le_trans (Nat.le_trans (Nat.le_mul_of_pos_right _ hb0) hcap) (by decide), ?_⟩, by rw [hxl]; exact hcap, by rw [hxl]; exact hbl⟩
    · have hi : i < len := by
        have := (List.getElem?_eq_some_iff.1 hx).1
        omega
      obtain ⟨-, -, x', d, hx', hg, hb⟩ := hfx i hi
      rw [hxe i hi, hx'] at hx
      cases hx
      rw [List.getElem?_map, List.getElem?_range hi] at hr
      simp only [Option.map_some, Option.some.injEq] at hr
      subst hr
      exact ⟨d, hg, hb⟩
    · by_cases h0 : len = 0
      · exact .inl ⟨by rw [hxl, h0], some a, cap, by rw [h0]⟩
      · obtain ⟨b, o, spot⟩ := a
        have hsp0 : ∃ u, W.cell? (((⟨b, o, spot⟩ : Addr).add (0 * s)).add 0) = some u := by
          obtain ⟨h1, h2, -⟩ := hfx 0 (by omega)
          refine ⟨(f 0).1[0]'(by omega), ?_⟩
          rw [h2 0 hs, List.getElem?_eq_getElem]
        obtain ⟨u0, hsp0⟩ := hsp0
        have hspot : spot = none := by
          have := World.cell?_spot hsp0
          simpa [Addr.add] using this
        subst hspot
        have hat : ∀ i j, ((⟨b, o, none⟩ : Addr).add i).add j = ⟨b, o + (i + j), none⟩ := by
          intro i j
          rw [add_plain, add_plain]; congr 1; omega
        refine .inr ⟨b, o, cap, by rw [hxl], by rw [hxl]; exact hl, ?_, fun i u hi => ?_⟩
        · have := World.block_lt_of_cell? W _ hsp0
          simpa [Addr.add] using this
        · have hil : i < len * s := by
            have := (List.getElem?_eq_some_iff.1 hi).1
            rw [hfl1, hrlen] at this
            exact this
          have hq : i / s < len := Nat.div_lt_of_lt_mul (by rw [Nat.mul_comm]; exact hil)
          have hr : i % s < s := Nat.mod_lt _ hs
          have e : i / s * s + i % s = i := by rw [Nat.mul_comm]; exact Nat.div_add_mod i s
          have hget : ((List.range len).map (fun i => (f i).1))[i / s]? = some (f (i / s)).1 := by rw [List.getElem?_map, List.getElem?_range hq]; rfl
          have h1 := hfl2 (i / s) _ hget (i % s) hr
          rw [e] at h1
          have h2 := (hfx (i / s) hq).2.1 (i % s) hr
          rw [hat, e] at h2
          rw [h2, ← h1]
          exact hi
theorem rs_map {α : Type} {f : α → List Value} {xs : List α} {rs : List (List Value)} (hl : rs.length = xs.length) (h : ∀ (i : Nat) (r : List Value) (x : α), rs[i]? = some r → xs[i]? = some x → r = f x) : rs.flatten = xs.flatMap f := by
  have e : rs = xs.map f := by
    apply List.ext_getElem?
    intro i
    rw [List.getElem?_map]
    by_cases hi : i < xs.length
    · have h1 : rs[i]? = some rs[i] := List.getElem?_eq_getElem (by omega)
      have h2 : xs[i]? = some xs[i] := List.getElem?_eq_getElem hi
      rw [h1, h2, h i _ _ h1 h2]
      rfl
    · rw [List.getElem?_eq_none (by omega), List.getElem?_eq_none (by omega)]
      rfl
  rw [e, List.flatMap_def]
theorem i64_of {a : Int} (h : (Lit.int .i64 a).wf = true) : -9223372036854775808 ≤ a ∧ a ≤ 9223372036854775807 := by
  simp [Lit.wf, IntKind.min, IntKind.max, IntKind.signed, IntKind.bits] at h
  omega
theorem ty_cells {W : World} {n : Nat} {cs : List Value} {y : DataW H × List MemPlace} (h : DataW.trod enc Try.prog W 0 (fun _ => true) true n 33 cs = some y) : ∃ x : Hp.Ty, cs = tL x := by
  obtain ⟨y0, y1, m, hx, hl, hy0, hy1⟩ := trod_struct2 Try.underlying33 h
  rw [A.cellsTy] at hl
  match cs, hl with
  | [c0, c1], _ =>
  obtain ⟨a, e0, rfl, wa⟩ := DataW.trod_int Try.underlying3 hy0
  obtain ⟨b, e1, rfl, wb⟩ := DataW.trod_string Try.underlying9 hy1
  simp [A.cellsInt, A.cellsStr] at e0 e1
  subst e0 e1
  exact ⟨⟨a, b⟩, rfl⟩
theorem vl_cells {W : World} {n : Nat} {cs : List Value} {y : DataW H × List MemPlace} (h : DataW.trod enc Try.prog W 0 (fun _ => true) true n 35 cs = some y) : ∃ x : Hp.Vl, cs = vL x ∧ -9223372036854775808 ≤ x.n ∧ x.n ≤ 9223372036854775807 := by
  obtain ⟨y0, y1, m, hx, hl, hy0, hy1⟩ := trod_struct2 Try.underlying35 h
  rw [A.cellsVl] at hl
  match cs, hl with
  | [c0, c1], _ =>
  obtain ⟨a, e0, rfl, wa⟩ := DataW.trod_int Try.underlying3 hy0
  obtain ⟨b, e1, rfl, wb⟩ := DataW.trod_int Try.underlying2 hy1
  simp [A.cellsInt, A.cellsI64] at e0 e1
  subst e0 e1
  exact ⟨⟨a, b⟩, rfl, i64_of wb⟩
theorem tys_cell {W : World} {n : Nat} {k : Value} {y : DataW H × List MemPlace} (h : DataW.trod enc Try.prog W 0 (fun _ => true) true n 31 [k] = some y) (hw : (y.1.weights Try.prog 31).all (· ≤ reachBytes) = true) :
    ∃ l : List Hp.Ty, Kit.IsS 2 W k l.length (l.flatMap tL) ∧ l.length * 24 ≤ 140737488351232 := by
  obtain ⟨xs, rs, h1, h2, h3, h4, h5⟩ := list_cell (s := 2) (by_ := 24) (tE := 33) (fun (_ : DataW H) cs (x : Hp.Ty) => cs = tL x) (fun _ _ x h => by rw [h]; rfl) (by decide) Try.underlying31 (by kernel_rfl) (by kernel_rfl) (by decide) (fun m cs z hz _ => ty_cells hz) h hw
  refine ⟨xs, ?_, h4⟩
  rw [← rs_map h1 (fun i r x hr hx => by obtain ⟨d, hd, -⟩ := h2 i r x hr hx; exact hd)]
  exact h3
namespace Hp
structure Op where
  f : Int
  c : Int
  ts : List Ty
  el : Ty
  ref : Int
  i : Int
  v : Vl
end Hp
/-- An operation's cells. -/
def OpR (W : World) (cs : List Value) (x : Hp.Op) : Prop := ∃ kv, cs = [.int .i64 x.f, .int .i64 x.c, kv, .int .i64 x.el.k, .string x.el.s, .int .i64 x.ref, .int .i64 x.i, .int .i64 x.v.k, .int .i64 x.v.n] ∧ Kit.IsS 2 W kv x.ts.length (x.ts.flatMap tL)
structure GoodO (x : Hp.Op) : Prop where
  f : -9223372036854775808 ≤ x.f ∧ x.f ≤ 9223372036854775807
  c : -9223372036854775808 ≤ x.c ∧ x.c ≤ 9223372036854775807
  ref : -9223372036854775808 ≤ x.ref ∧ x.ref ≤ 9223372036854775807
  i : -9223372036854775808 ≤ x.i ∧ x.i ≤ 9223372036854775807
  n : -9223372036854775808 ≤ x.v.n ∧ x.v.n ≤ 9223372036854775807
  ts : x.ts.length * 24 ≤ 140737488351232
theorem op_cells {W : World} {n : Nat} {cs : List Value} {y : DataW H × List MemPlace} (h : DataW.trod enc Try.prog W 0 (fun _ => true) true n 37 cs = some y) (hw : (y.1.weights Try.prog 37).all (· ≤ reachBytes) = true) :
    ∃ x : Hp.Op, OpR W cs x ∧ GoodO x := by
  obtain ⟨xs, m, -, hy, hl, hlen, hf⟩ := DataW.trod_struct Try.underlying37 h
  have hl9 : cs.length = 9 := hl.trans (by kernel_rfl)
  have hx7 : xs.length = 7 := hlen
  match xs, hx7 with
  | [x0, x1, x2, x3, x4, x5, x6], _ =>
  match cs, hl9 with
  | [k0, k1, k2, k3, k4, k5, k6, k7, k8], _ =>
  obtain ⟨a, e0, g0, w0⟩ := DataW.trod_int Try.underlying3 (hf 0 _ rfl)
  obtain ⟨b, e1, g1, w1⟩ := DataW.trod_int Try.underlying3 (hf 1 _ rfl)
  obtain ⟨c, e4, g4, w4⟩ := DataW.trod_int Try.underlying2 (hf 4 _ rfl)
  obtain ⟨d, e5, g5, w5⟩ := DataW.trod_int Try.underlying2 (hf 5 _ rfl)
  have q0 : ([k0, k1, k2, k3, k4, k5, k6, k7, k8].drop 0).take (Try.prog.cellsOf 3) = [.int .i64 a] := e0
  have q1 : ([k0, k1, k2, k3, k4, k5, k6, k7, k8].drop 1).take (Try.prog.cellsOf 3) = [.int .i64 b] := e1
  have q4 : ([k0, k1, k2, k3, k4, k5, k6, k7, k8].drop 5).take (Try.prog.cellsOf 2) = [.int .i64 c] := e4
  have q5 : ([k0, k1, k2, k3, k4, k5, k6, k7, k8].drop 6).take (Try.prog.cellsOf 2) = [.int .i64 d] := e5
  have f2 : DataW.trod enc Try.prog W 0 (fun _ => true) true m 31 (([k0, k1, k2, k3, k4, k5, k6, k7, k8].drop 2).take (Try.prog.cellsOf 31)) = some x2 := hf 2 _ rfl
  have f3 : DataW.trod enc Try.prog W 0 (fun _ => true) true m 33 (([k0, k1, k2, k3, k4, k5, k6, k7, k8].drop 3).take (Try.prog.cellsOf 33)) = some x3 := hf 3 _ rfl
  have f6 : DataW.trod enc Try.prog W 0 (fun _ => true) true m 35 (([k0, k1, k2, k3, k4, k5, k6, k7, k8].drop 7).take (Try.prog.cellsOf 35)) = some x6 := hf 6 _ rfl
  rw [A.cellsInt] at q0 q1
  rw [A.cellsI64] at q4 q5
  rw [A.cellsTys] at f2
  rw [A.cellsTy] at f3
  rw [A.cellsVl] at f6
  simp only [List.drop_zero, List.take_succ_cons, List.take_zero, List.cons.injEq, and_true, List.drop_succ_cons] at q0 q1 q4 q5 f2 f3 f6
  subst q0 q1 q4 q5
  subst hy
  simp only [DataW.weights, Try.underlying37, List.map_cons, List.map_nil, DataW.weightsEach, List.all_append, Bool.and_eq_true] at hw
  obtain ⟨ts, ht1, ht2⟩ := tys_cell f2 (by simp_all)
  obtain ⟨el, he⟩ := ty_cells f3
  obtain ⟨v, hv, hv1, hv2⟩ := vl_cells f6
  simp only [tL, vL, List.cons.injEq, and_true] at he hv
  obtain ⟨rfl, rfl⟩ := he
  obtain ⟨rfl, rfl⟩ := hv
  exact ⟨⟨a, b, ts, el, c, d, v⟩, ⟨k2, rfl, ht1⟩, ⟨i64_of w0, i64_of w1, i64_of w4, i64_of w5, ⟨hv1, hv2⟩, ht2⟩⟩
theorem open_op {W : World} {base : Nat} {v : Value} {d : DataW H} {p : List MemPlace} (hv : Value.okWide Try.prog W .any base 37 v) (h : DataW.Trod enc Try.prog W 0 (fun _ => true) true 37 v d p) (hw : (d.weights Try.prog 37).all (· ≤ reachBytes) = true) :
    ∃ (x : Hp.Op) (kv : Value), v = .agg #[.int .i64 x.f, .int .i64 x.c, kv, .int .i64 x.el.k, .string x.el.s, .int .i64 x.ref, .int .i64 x.i, .int .i64 x.v.k, .int .i64 x.v.n] ∧ Kit.IsS 2 W kv x.ts.length (x.ts.flatMap tL) ∧ GoodO x := by
  obtain ⟨cs, rfl, hsz⟩ := okWide_struct Try.underlying37 hv
  obtain ⟨fuel, hf⟩ := h
  obtain ⟨x, ⟨kv, hc, hs⟩, hg⟩ := op_cells (y := (d, p)) hf hw
  refine ⟨x, kv, ?_, hs, hg⟩
  have hc2 : cs.toList = _ := hc
  rw [show cs = cs.toList.toArray by simp, hc2]
theorem weights_eachT {P : Program} : ∀ {ts : List TypeId} {ds : List (DataW H)} {j : Nat} {t : TypeId} {d : DataW H}, ts[j]? = some t → ds[j]? = some d → (DataW.weightsEach P ts ds).all (· ≤ reachBytes) = true → (d.weights P t).all (· ≤ reachBytes) = true
  | [], _, _, _, _, h, _, _ => by simp at h
  | _, [], _, _, _, _, h, _ => by simp at h
  | t :: ts, d :: ds, 0, _, _, h1, h2, h => by
    simp only [List.getElem?_cons_zero, Option.some.injEq] at h1 h2
    subst h1 h2
    simp only [DataW.weightsEach, List.all_append, Bool.and_eq_true] at h
    exact h.1
  | t :: ts, d :: ds, j + 1, _, _, h1, h2, h => by
    simp only [DataW.weightsEach, List.all_append, Bool.and_eq_true] at h
    exact weights_eachT (j := j) (by simpa using h1) (by simpa using h2) h.2
end
end Go.Proofs.Ytkikdjphmnbmaaa
namespace Go.Proofs.Ytkikdjphmnbmaaa
open Go Go.RowKit

set_option maxRecDepth 100000 in
set_option maxHeartbeats 4000000 in
theorem none_law (x : Hp.Op) (kv : Value) (w : World) (hg : GoodO x) :
    Calls Try.prog 6 #[.agg #[.int .i64 x.f, .int .i64 x.c, kv, .int .i64 x.el.k, .string x.el.s, .int .i64 x.ref, .int .i64 x.i, .int .i64 x.v.k, .int .i64 x.v.n]] w fun e w' => e = .returned (.bool true) ∧ Below w.heap.size w w' := by
  obtain ⟨xf, xc, xts, ⟨ek, es⟩, xr, xi, ⟨vk, vn⟩⟩ := x
  dsimp only
  clear hg
  go_enter Try.func6, Try.ntmps6
  go_wp2_with fail
  refine (begun_any _).mono ?_
  rintro e w1 ⟨rfl, hb1⟩
  have bo1 := (BX.new w #[.int .i64 xf, .int .i64 xc, kv, .int .i64 ek, .string es, .int .i64 xr, .int .i64 xi, .int .i64 vk, .int .i64 vn] 37).below hb1
  have B1 : Below w.heap.size w w1 := belows (B := w.heap.size) (a := w) (by repeat' first | with_reducible exact Below.refl _ _ | with_reducible assumption | with_reducible refine belows_drewN ?_ _ | with_reducible refine Below.drew ?_ | with_reducible refine Below.setCell ?_ ?_ _ | with_reducible refine Below.alloc ?_ ?_ _ | omega | (simp; done) | (simp; omega)) hb1 (by simp)
  have hz1 := B1.size
  go_wp2
  obtain ⟨W0, hW⟩ : ∃ W0, W0 = (w1.alloc (.cells #[.pointer none] 59)).alloc (.cells #[.pointer none, .pointer (some ⟨w1.heap.size, 0, none⟩)] 23) := ⟨_, rfl⟩
  have BW : Below w.heap.size w W0 := by rw [hW]; exact (by repeat' first | with_reducible exact Below.refl _ _ | with_reducible assumption | with_reducible refine belows_drewN ?_ _ | with_reducible refine Below.drew ?_ | with_reducible refine Below.setCell ?_ ?_ _ | with_reducible refine Below.alloc ?_ ?_ _ | omega | (simp; done) | (simp; omega))
  have hbz : BX W0 w1.heap.size #[.pointer none] 59 := by rw [hW]; exact (BX.new w1 _ _).below ((Below.refl _ _).alloc (Nat.le_refl _) _)
  have hbs : BX W0 (w1.heap.size + 1) #[.pointer none, .pointer (some ⟨w1.heap.size, 0, none⟩)] 23 := by rw [hW]; have := BX.new (w1.alloc (.cells #[.pointer none] 59)) #[.pointer none, .pointer (some ⟨w1.heap.size, 0, none⟩)] 23; rw [World.size_alloc] at this; exact this
  have hbo : BX W0 w.heap.size #[.int .i64 xf, .int .i64 xc, kv, .int .i64 ek, .string es, .int .i64 xr, .int .i64 xi, .int .i64 vk, .int .i64 vn] 37 := by rw [hW]; exact bo1.below (by repeat' first | with_reducible exact Below.refl _ _ | with_reducible assumption | with_reducible refine belows_drewN ?_ _ | with_reducible refine Below.drew ?_ | with_reducible refine Below.setCell ?_ ?_ _ | with_reducible refine Below.alloc ?_ ?_ _ | omega | (simp; done) | (simp; omega))
  have hwz := hbo.sz
  have hwz2 := hbs.sz
  rw [← hW]
  have HBo := hid (fun X (b : Below W0.heap.size W0 X) => hbo.below b)
  have HBs := hid (fun X (b : Below W0.heap.size W0 X) => hbs.below b)
  have HNh := hid (fun (k : Nat) X (b : Below W0.heap.size W0 X) (h2 : k < 2) => show ∃ v, X.cell? ⟨w1.heap.size + 1, k, none⟩ = some v ∧ ∀ Y, Below X.heap.size X Y → NoHeap Y v from by
    have bs := hbs.below b
    have bz := hbz.below b
    match k, h2 with
    | 0, _ => exact ⟨_, bs.cell 0, fun Y _ => .inl rfl⟩
    | 1, _ => exact ⟨_, bs.cell 1, fun Y c => .inr ⟨_, rfl, (bz.below c).cell 0, (bz.below c).sz⟩⟩)
  clear hW hbz hbs hbo bo1 hb1 B1
  go_loopw [25] (fun i wr => ∃ k : Nat, k ≤ 2 ∧ i = .int .i64 (k : Int) ∧ Below W0.heap.size W0 wr) (fun i _ => 2 - (intOf i).toNat)
  case atStart => exact ⟨0, by omega, rfl, Below.refl _ _⟩
  case round =>
    obtain ⟨k, hk, rfl, hbl⟩ := hrel
    have hbz := hbl.size
    by_cases hlt : k < 2
    · obtain ⟨v, hv, hn⟩ := HNh.out k wr hbl hlt
      have HN := hid hn
      have bo := HBo.out _ hbl
      have c1 : wr.cell? ⟨w.heap.size, 1, none⟩ = some (.int .i64 xc) := bo.cell 1; have c2 : wr.cell? ⟨w.heap.size, 2, none⟩ = some (kv) := bo.cell 2; have c3 : wr.cell? ⟨w.heap.size, 3, none⟩ = some (.int .i64 ek) := bo.cell 3; have c4 : wr.cell? ⟨w.heap.size, 4, none⟩ = some (.string es) := bo.cell 4; have c5 : wr.cell? ⟨w.heap.size, 5, none⟩ = some (.int .i64 xr) := bo.cell 5; have c6 : wr.cell? ⟨w.heap.size, 6, none⟩ = some (.int .i64 xi) := bo.cell 6; have c7 : wr.cell? ⟨w.heap.size, 7, none⟩ = some (.int .i64 vk) := bo.cell 7; have c8 : wr.cell? ⟨w.heap.size, 8, none⟩ = some (.int .i64 vn) := bo.cell 8
      clear hn bo
      go_wp2_with fail
      refine (Object_none (HN.out _ (by repeat' first | with_reducible exact Below.refl _ _ | with_reducible assumption | with_reducible refine belows_drewN ?_ _ | with_reducible refine Below.drew ?_ | with_reducible refine Below.setCell ?_ ?_ _ | with_reducible refine Below.alloc ?_ ?_ _ | omega | (simp; done) | (simp; omega))) _ _).mono ?_
      rintro e q1 ⟨rfl, hb⟩
      have Z0 : Below wr.heap.size wr q1 := belows (B := wr.heap.size) (a := wr) (by repeat' first | with_reducible exact Below.refl _ _ | with_reducible assumption | with_reducible refine belows_drewN ?_ _ | with_reducible refine Below.drew ?_ | with_reducible refine Below.setCell ?_ ?_ _ | with_reducible refine Below.alloc ?_ ?_ _ | omega | (simp; done) | (simp; omega)) hb (by first | omega | exact Nat.le_refl _ | (simp; omega) | (simp only [World.size_alloc]; omega))
      have z0 := Z0.size
      have bo := HBo.out _ (belows hbl Z0 hbz)
      have y0 : w.heap.size < q1.heap.size := by omega
      have c1 : q1.cell? ⟨w.heap.size, 1, none⟩ = some (.int .i64 xc) := bo.cell 1; have c2 : q1.cell? ⟨w.heap.size, 2, none⟩ = some (kv) := bo.cell 2; have c3 : q1.cell? ⟨w.heap.size, 3, none⟩ = some (.int .i64 ek) := bo.cell 3; have c4 : q1.cell? ⟨w.heap.size, 4, none⟩ = some (.string es) := bo.cell 4; have c5 : q1.cell? ⟨w.heap.size, 5, none⟩ = some (.int .i64 xr) := bo.cell 5; have c6 : q1.cell? ⟨w.heap.size, 6, none⟩ = some (.int .i64 xi) := bo.cell 6; have c7 : q1.cell? ⟨w.heap.size, 7, none⟩ = some (.int .i64 vk) := bo.cell 7; have c8 : q1.cell? ⟨w.heap.size, 8, none⟩ = some (.int .i64 vn) := bo.cell 8
      clear bo hb
      go_wp2_with fail
      refine (Array_none (HN.out _ (by repeat' first | with_reducible exact Below.refl _ _ | with_reducible assumption | with_reducible refine belows_drewN ?_ _ | with_reducible refine Below.drew ?_ | with_reducible refine Below.setCell ?_ ?_ _ | with_reducible refine Below.alloc ?_ ?_ _ | omega | (simp; done) | (simp; omega))) _ _ _).mono ?_
      rintro e q2 ⟨rfl, hb⟩
      have Z1 : Below wr.heap.size wr q2 := belows (B := wr.heap.size) (a := wr) (by repeat' first | with_reducible exact Below.refl _ _ | with_reducible assumption | with_reducible refine belows_drewN ?_ _ | with_reducible refine Below.drew ?_ | with_reducible refine Below.setCell ?_ ?_ _ | with_reducible refine Below.alloc ?_ ?_ _ | omega | (simp; done) | (simp; omega)) hb (by first | omega | exact Nat.le_refl _ | (simp; omega) | (simp only [World.size_alloc]; omega))
      have z1 := Z1.size
      have bo := HBo.out _ (belows hbl Z1 hbz)
      have y1 : w.heap.size < q2.heap.size := by omega
      have c1 : q2.cell? ⟨w.heap.size, 1, none⟩ = some (.int .i64 xc) := bo.cell 1; have c2 : q2.cell? ⟨w.heap.size, 2, none⟩ = some (kv) := bo.cell 2; have c3 : q2.cell? ⟨w.heap.size, 3, none⟩ = some (.int .i64 ek) := bo.cell 3; have c4 : q2.cell? ⟨w.heap.size, 4, none⟩ = some (.string es) := bo.cell 4; have c5 : q2.cell? ⟨w.heap.size, 5, none⟩ = some (.int .i64 xr) := bo.cell 5; have c6 : q2.cell? ⟨w.heap.size, 6, none⟩ = some (.int .i64 xi) := bo.cell 6; have c7 : q2.cell? ⟨w.heap.size, 7, none⟩ = some (.int .i64 vk) := bo.cell 7; have c8 : q2.cell? ⟨w.heap.size, 8, none⟩ = some (.int .i64 vn) := bo.cell 8
      clear bo hb
      go_wp2_with fail
      refine (Get_none (HN.out _ (by repeat' first | with_reducible exact Below.refl _ _ | with_reducible assumption | with_reducible refine belows_drewN ?_ _ | with_reducible refine Below.drew ?_ | with_reducible refine Below.setCell ?_ ?_ _ | with_reducible refine Below.alloc ?_ ?_ _ | omega | (simp; done) | (simp; omega))) _ _).mono ?_
      rintro e q3 ⟨rfl, hb⟩
      have Z2 : Below wr.heap.size wr q3 := belows (B := wr.heap.size) (a := wr) (by repeat' first | with_reducible exact Below.refl _ _ | with_reducible assumption | with_reducible refine belows_drewN ?_ _ | with_reducible refine Below.drew ?_ | with_reducible refine Below.setCell ?_ ?_ _ | with_reducible refine Below.alloc ?_ ?_ _ | omega | (simp; done) | (simp; omega)) hb (by first | omega | exact Nat.le_refl _ | (simp; omega) | (simp only [World.size_alloc]; omega))
      have z2 := Z2.size
      have bo := HBo.out _ (belows hbl Z2 hbz)
      have y2 : w.heap.size < q3.heap.size := by omega
      have c1 : q3.cell? ⟨w.heap.size, 1, none⟩ = some (.int .i64 xc) := bo.cell 1; have c2 : q3.cell? ⟨w.heap.size, 2, none⟩ = some (kv) := bo.cell 2; have c3 : q3.cell? ⟨w.heap.size, 3, none⟩ = some (.int .i64 ek) := bo.cell 3; have c4 : q3.cell? ⟨w.heap.size, 4, none⟩ = some (.string es) := bo.cell 4; have c5 : q3.cell? ⟨w.heap.size, 5, none⟩ = some (.int .i64 xr) := bo.cell 5; have c6 : q3.cell? ⟨w.heap.size, 6, none⟩ = some (.int .i64 xi) := bo.cell 6; have c7 : q3.cell? ⟨w.heap.size, 7, none⟩ = some (.int .i64 vk) := bo.cell 7; have c8 : q3.cell? ⟨w.heap.size, 8, none⟩ = some (.int .i64 vn) := bo.cell 8
      clear bo hb
      go_wp2_with fail
      refine (Load_none (HN.out _ (by repeat' first | with_reducible exact Below.refl _ _ | with_reducible assumption | with_reducible refine belows_drewN ?_ _ | with_reducible refine Below.drew ?_ | with_reducible refine Below.setCell ?_ ?_ _ | with_reducible refine Below.alloc ?_ ?_ _ | omega | (simp; done) | (simp; omega))) _ _).mono ?_
      rintro e q4 ⟨rfl, hb⟩
      have Z3 : Below wr.heap.size wr q4 := belows (B := wr.heap.size) (a := wr) (by repeat' first | with_reducible exact Below.refl _ _ | with_reducible assumption | with_reducible refine belows_drewN ?_ _ | with_reducible refine Below.drew ?_ | with_reducible refine Below.setCell ?_ ?_ _ | with_reducible refine Below.alloc ?_ ?_ _ | omega | (simp; done) | (simp; omega)) hb (by first | omega | exact Nat.le_refl _ | (simp; omega) | (simp only [World.size_alloc]; omega))
      have z3 := Z3.size
      have bo := HBo.out _ (belows hbl Z3 hbz)
      have y3 : w.heap.size < q4.heap.size := by omega
      have c1 : q4.cell? ⟨w.heap.size, 1, none⟩ = some (.int .i64 xc) := bo.cell 1; have c2 : q4.cell? ⟨w.heap.size, 2, none⟩ = some (kv) := bo.cell 2; have c3 : q4.cell? ⟨w.heap.size, 3, none⟩ = some (.int .i64 ek) := bo.cell 3; have c4 : q4.cell? ⟨w.heap.size, 4, none⟩ = some (.string es) := bo.cell 4; have c5 : q4.cell? ⟨w.heap.size, 5, none⟩ = some (.int .i64 xr) := bo.cell 5; have c6 : q4.cell? ⟨w.heap.size, 6, none⟩ = some (.int .i64 xi) := bo.cell 6; have c7 : q4.cell? ⟨w.heap.size, 7, none⟩ = some (.int .i64 vk) := bo.cell 7; have c8 : q4.cell? ⟨w.heap.size, 8, none⟩ = some (.int .i64 vn) := bo.cell 8
      clear bo hb
      go_wp2_with fail
      refine (Length_none (HN.out _ (by repeat' first | with_reducible exact Below.refl _ _ | with_reducible assumption | with_reducible refine belows_drewN ?_ _ | with_reducible refine Below.drew ?_ | with_reducible refine Below.setCell ?_ ?_ _ | with_reducible refine Below.alloc ?_ ?_ _ | omega | (simp; done) | (simp; omega))) _).mono ?_
      rintro e q5 ⟨rfl, hb⟩
      have Z4 : Below wr.heap.size wr q5 := belows (B := wr.heap.size) (a := wr) (by repeat' first | with_reducible exact Below.refl _ _ | with_reducible assumption | with_reducible refine belows_drewN ?_ _ | with_reducible refine Below.drew ?_ | with_reducible refine Below.setCell ?_ ?_ _ | with_reducible refine Below.alloc ?_ ?_ _ | omega | (simp; done) | (simp; omega)) hb (by first | omega | exact Nat.le_refl _ | (simp; omega) | (simp only [World.size_alloc]; omega))
      have z4 := Z4.size
      have bo := HBo.out _ (belows hbl Z4 hbz)
      have y4 : w.heap.size < q5.heap.size := by omega
      have c1 : q5.cell? ⟨w.heap.size, 1, none⟩ = some (.int .i64 xc) := bo.cell 1; have c2 : q5.cell? ⟨w.heap.size, 2, none⟩ = some (kv) := bo.cell 2; have c3 : q5.cell? ⟨w.heap.size, 3, none⟩ = some (.int .i64 ek) := bo.cell 3; have c4 : q5.cell? ⟨w.heap.size, 4, none⟩ = some (.string es) := bo.cell 4; have c5 : q5.cell? ⟨w.heap.size, 5, none⟩ = some (.int .i64 xr) := bo.cell 5; have c6 : q5.cell? ⟨w.heap.size, 6, none⟩ = some (.int .i64 xi) := bo.cell 6; have c7 : q5.cell? ⟨w.heap.size, 7, none⟩ = some (.int .i64 vk) := bo.cell 7; have c8 : q5.cell? ⟨w.heap.size, 8, none⟩ = some (.int .i64 vn) := bo.cell 8
      clear bo hb
      go_wp2_with fail
      refine (Class_none (HN.out _ (by repeat' first | with_reducible exact Below.refl _ _ | with_reducible assumption | with_reducible refine belows_drewN ?_ _ | with_reducible refine Below.drew ?_ | with_reducible refine Below.setCell ?_ ?_ _ | with_reducible refine Below.alloc ?_ ?_ _ | omega | (simp; done) | (simp; omega))) _).mono ?_
      rintro e q6 ⟨rfl, hb⟩
      have Z5 : Below wr.heap.size wr q6 := belows (B := wr.heap.size) (a := wr) (by repeat' first | with_reducible exact Below.refl _ _ | with_reducible assumption | with_reducible refine belows_drewN ?_ _ | with_reducible refine Below.drew ?_ | with_reducible refine Below.setCell ?_ ?_ _ | with_reducible refine Below.alloc ?_ ?_ _ | omega | (simp; done) | (simp; omega)) hb (by first | omega | exact Nat.le_refl _ | (simp; omega) | (simp only [World.size_alloc]; omega))
      have z5 := Z5.size
      have bo := HBo.out _ (belows hbl Z5 hbz)
      have y5 : w.heap.size < q6.heap.size := by omega
      have c1 : q6.cell? ⟨w.heap.size, 1, none⟩ = some (.int .i64 xc) := bo.cell 1; have c2 : q6.cell? ⟨w.heap.size, 2, none⟩ = some (kv) := bo.cell 2; have c3 : q6.cell? ⟨w.heap.size, 3, none⟩ = some (.int .i64 ek) := bo.cell 3; have c4 : q6.cell? ⟨w.heap.size, 4, none⟩ = some (.string es) := bo.cell 4; have c5 : q6.cell? ⟨w.heap.size, 5, none⟩ = some (.int .i64 xr) := bo.cell 5; have c6 : q6.cell? ⟨w.heap.size, 6, none⟩ = some (.int .i64 xi) := bo.cell 6; have c7 : q6.cell? ⟨w.heap.size, 7, none⟩ = some (.int .i64 vk) := bo.cell 7; have c8 : q6.cell? ⟨w.heap.size, 8, none⟩ = some (.int .i64 vn) := bo.cell 8
      clear bo hb
      go_wp2_with fail
      refine (Elem_none (HN.out _ (by repeat' first | with_reducible exact Below.refl _ _ | with_reducible assumption | with_reducible refine belows_drewN ?_ _ | with_reducible refine Below.drew ?_ | with_reducible refine Below.setCell ?_ ?_ _ | with_reducible refine Below.alloc ?_ ?_ _ | omega | (simp; done) | (simp; omega))) _).mono ?_
      rintro e q7 ⟨rfl, hb⟩
      have Z6 : Below wr.heap.size wr q7 := belows (B := wr.heap.size) (a := wr) (by repeat' first | with_reducible exact Below.refl _ _ | with_reducible assumption | with_reducible refine belows_drewN ?_ _ | with_reducible refine Below.drew ?_ | with_reducible refine Below.setCell ?_ ?_ _ | with_reducible refine Below.alloc ?_ ?_ _ | omega | (simp; done) | (simp; omega)) hb (by first | omega | exact Nat.le_refl _ | (simp; omega) | (simp only [World.size_alloc]; omega))
      have z6 := Z6.size
      have bo := HBo.out _ (belows hbl Z6 hbz)
      have y6 : w.heap.size < q7.heap.size := by omega
      have c1 : q7.cell? ⟨w.heap.size, 1, none⟩ = some (.int .i64 xc) := bo.cell 1; have c2 : q7.cell? ⟨w.heap.size, 2, none⟩ = some (kv) := bo.cell 2; have c3 : q7.cell? ⟨w.heap.size, 3, none⟩ = some (.int .i64 ek) := bo.cell 3; have c4 : q7.cell? ⟨w.heap.size, 4, none⟩ = some (.string es) := bo.cell 4; have c5 : q7.cell? ⟨w.heap.size, 5, none⟩ = some (.int .i64 xr) := bo.cell 5; have c6 : q7.cell? ⟨w.heap.size, 6, none⟩ = some (.int .i64 xi) := bo.cell 6; have c7 : q7.cell? ⟨w.heap.size, 7, none⟩ = some (.int .i64 vk) := bo.cell 7; have c8 : q7.cell? ⟨w.heap.size, 8, none⟩ = some (.int .i64 vn) := bo.cell 8
      clear bo hb
      go_wp2_with fail
      refine (Set_none (HN.out _ (by repeat' first | with_reducible exact Below.refl _ _ | with_reducible assumption | with_reducible refine belows_drewN ?_ _ | with_reducible refine Below.drew ?_ | with_reducible refine Below.setCell ?_ ?_ _ | with_reducible refine Below.alloc ?_ ?_ _ | omega | (simp; done) | (simp; omega))) _ _ _ _).mono ?_
      rintro e q8 ⟨rfl, hb⟩
      have Z7 : Below wr.heap.size wr q8 := belows (B := wr.heap.size) (a := wr) (by repeat' first | with_reducible exact Below.refl _ _ | with_reducible assumption | with_reducible refine belows_drewN ?_ _ | with_reducible refine Below.drew ?_ | with_reducible refine Below.setCell ?_ ?_ _ | with_reducible refine Below.alloc ?_ ?_ _ | omega | (simp; done) | (simp; omega)) hb (by first | omega | exact Nat.le_refl _ | (simp; omega) | (simp only [World.size_alloc]; omega))
      have z7 := Z7.size
      have bo := HBo.out _ (belows hbl Z7 hbz)
      have y7 : w.heap.size < q8.heap.size := by omega
      have c1 : q8.cell? ⟨w.heap.size, 1, none⟩ = some (.int .i64 xc) := bo.cell 1; have c2 : q8.cell? ⟨w.heap.size, 2, none⟩ = some (kv) := bo.cell 2; have c3 : q8.cell? ⟨w.heap.size, 3, none⟩ = some (.int .i64 ek) := bo.cell 3; have c4 : q8.cell? ⟨w.heap.size, 4, none⟩ = some (.string es) := bo.cell 4; have c5 : q8.cell? ⟨w.heap.size, 5, none⟩ = some (.int .i64 xr) := bo.cell 5; have c6 : q8.cell? ⟨w.heap.size, 6, none⟩ = some (.int .i64 xi) := bo.cell 6; have c7 : q8.cell? ⟨w.heap.size, 7, none⟩ = some (.int .i64 vk) := bo.cell 7; have c8 : q8.cell? ⟨w.heap.size, 8, none⟩ = some (.int .i64 vn) := bo.cell 8
      clear bo hb
      go_wp2_with fail
      refine (Store_none (HN.out _ (by repeat' first | with_reducible exact Below.refl _ _ | with_reducible assumption | with_reducible refine belows_drewN ?_ _ | with_reducible refine Below.drew ?_ | with_reducible refine Below.setCell ?_ ?_ _ | with_reducible refine Below.alloc ?_ ?_ _ | omega | (simp; done) | (simp; omega))) _ _ _ _).mono ?_
      rintro e q9 ⟨rfl, hb⟩
      have Z8 : Below wr.heap.size wr q9 := belows (B := wr.heap.size) (a := wr) (by repeat' first | with_reducible exact Below.refl _ _ | with_reducible assumption | with_reducible refine belows_drewN ?_ _ | with_reducible refine Below.drew ?_ | with_reducible refine Below.setCell ?_ ?_ _ | with_reducible refine Below.alloc ?_ ?_ _ | omega | (simp; done) | (simp; omega)) hb (by first | omega | exact Nat.le_refl _ | (simp; omega) | (simp only [World.size_alloc]; omega))
      have z8 := Z8.size
      have bo := HBo.out _ (belows hbl Z8 hbz)
      have y8 : w.heap.size < q9.heap.size := by omega
      have c1 : q9.cell? ⟨w.heap.size, 1, none⟩ = some (.int .i64 xc) := bo.cell 1; have c2 : q9.cell? ⟨w.heap.size, 2, none⟩ = some (kv) := bo.cell 2; have c3 : q9.cell? ⟨w.heap.size, 3, none⟩ = some (.int .i64 ek) := bo.cell 3; have c4 : q9.cell? ⟨w.heap.size, 4, none⟩ = some (.string es) := bo.cell 4; have c5 : q9.cell? ⟨w.heap.size, 5, none⟩ = some (.int .i64 xr) := bo.cell 5; have c6 : q9.cell? ⟨w.heap.size, 6, none⟩ = some (.int .i64 xi) := bo.cell 6; have c7 : q9.cell? ⟨w.heap.size, 7, none⟩ = some (.int .i64 vk) := bo.cell 7; have c8 : q9.cell? ⟨w.heap.size, 8, none⟩ = some (.int .i64 vn) := bo.cell 8
      clear bo hb
      go_wp2_with fail
      refine (Used_none (HN.out _ (by repeat' first | with_reducible exact Below.refl _ _ | with_reducible assumption | with_reducible refine belows_drewN ?_ _ | with_reducible refine Below.drew ?_ | with_reducible refine Below.setCell ?_ ?_ _ | with_reducible refine Below.alloc ?_ ?_ _ | omega | (simp; done) | (simp; omega)))).mono ?_
      rintro e q10 ⟨rfl, hb⟩
      have Z9 : Below wr.heap.size wr q10 := belows (B := wr.heap.size) (a := wr) (by repeat' first | with_reducible exact Below.refl _ _ | with_reducible assumption | with_reducible refine belows_drewN ?_ _ | with_reducible refine Below.drew ?_ | with_reducible refine Below.setCell ?_ ?_ _ | with_reducible refine Below.alloc ?_ ?_ _ | omega | (simp; done) | (simp; omega)) hb (by first | omega | exact Nat.le_refl _ | (simp; omega) | (simp only [World.size_alloc]; omega))
      have z9 := Z9.size
      have bo := HBo.out _ (belows hbl Z9 hbz)
      have y9 : w.heap.size < q10.heap.size := by omega
      have c1 : q10.cell? ⟨w.heap.size, 1, none⟩ = some (.int .i64 xc) := bo.cell 1; have c2 : q10.cell? ⟨w.heap.size, 2, none⟩ = some (kv) := bo.cell 2; have c3 : q10.cell? ⟨w.heap.size, 3, none⟩ = some (.int .i64 ek) := bo.cell 3; have c4 : q10.cell? ⟨w.heap.size, 4, none⟩ = some (.string es) := bo.cell 4; have c5 : q10.cell? ⟨w.heap.size, 5, none⟩ = some (.int .i64 xr) := bo.cell 5; have c6 : q10.cell? ⟨w.heap.size, 6, none⟩ = some (.int .i64 xi) := bo.cell 6; have c7 : q10.cell? ⟨w.heap.size, 7, none⟩ = some (.int .i64 vk) := bo.cell 7; have c8 : q10.cell? ⟨w.heap.size, 8, none⟩ = some (.int .i64 vn) := bo.cell 8
      clear bo hb
      go_wp2_with fail
      refine (Limit_none (HN.out _ (by repeat' first | with_reducible exact Below.refl _ _ | with_reducible assumption | with_reducible refine belows_drewN ?_ _ | with_reducible refine Below.drew ?_ | with_reducible refine Below.setCell ?_ ?_ _ | with_reducible refine Below.alloc ?_ ?_ _ | omega | (simp; done) | (simp; omega)))).mono ?_
      rintro e q11 ⟨rfl, hb⟩
      have Z10 : Below wr.heap.size wr q11 := belows (B := wr.heap.size) (a := wr) (by repeat' first | with_reducible exact Below.refl _ _ | with_reducible assumption | with_reducible refine belows_drewN ?_ _ | with_reducible refine Below.drew ?_ | with_reducible refine Below.setCell ?_ ?_ _ | with_reducible refine Below.alloc ?_ ?_ _ | omega | (simp; done) | (simp; omega)) hb (by first | omega | exact Nat.le_refl _ | (simp; omega) | (simp only [World.size_alloc]; omega))
      have z10 := Z10.size
      have bo := HBo.out _ (belows hbl Z10 hbz)
      have y10 : w.heap.size < q11.heap.size := by omega
      have c1 : q11.cell? ⟨w.heap.size, 1, none⟩ = some (.int .i64 xc) := bo.cell 1; have c2 : q11.cell? ⟨w.heap.size, 2, none⟩ = some (kv) := bo.cell 2; have c3 : q11.cell? ⟨w.heap.size, 3, none⟩ = some (.int .i64 ek) := bo.cell 3; have c4 : q11.cell? ⟨w.heap.size, 4, none⟩ = some (.string es) := bo.cell 4; have c5 : q11.cell? ⟨w.heap.size, 5, none⟩ = some (.int .i64 xr) := bo.cell 5; have c6 : q11.cell? ⟨w.heap.size, 6, none⟩ = some (.int .i64 xi) := bo.cell 6; have c7 : q11.cell? ⟨w.heap.size, 7, none⟩ = some (.int .i64 vk) := bo.cell 7; have c8 : q11.cell? ⟨w.heap.size, 8, none⟩ = some (.int .i64 vn) := bo.cell 8
      clear bo hb
      go_wp2_with fail
      refine (Many_none (HN.out _ (by repeat' first | with_reducible exact Below.refl _ _ | with_reducible assumption | with_reducible refine belows_drewN ?_ _ | with_reducible refine Below.drew ?_ | with_reducible refine Below.setCell ?_ ?_ _ | with_reducible refine Below.alloc ?_ ?_ _ | omega | (simp; done) | (simp; omega)))).mono ?_
      rintro e q12 ⟨rfl, hb⟩
      have Z11 : Below wr.heap.size wr q12 := belows (B := wr.heap.size) (a := wr) (by repeat' first | with_reducible exact Below.refl _ _ | with_reducible assumption | with_reducible refine belows_drewN ?_ _ | with_reducible refine Below.drew ?_ | with_reducible refine Below.setCell ?_ ?_ _ | with_reducible refine Below.alloc ?_ ?_ _ | omega | (simp; done) | (simp; omega)) hb (by first | omega | exact Nat.le_refl _ | (simp; omega) | (simp only [World.size_alloc]; omega))
      have z11 := Z11.size
      have bo := HBo.out _ (belows hbl Z11 hbz)
      have y11 : w.heap.size < q12.heap.size := by omega
      have c1 : q12.cell? ⟨w.heap.size, 1, none⟩ = some (.int .i64 xc) := bo.cell 1; have c2 : q12.cell? ⟨w.heap.size, 2, none⟩ = some (kv) := bo.cell 2; have c3 : q12.cell? ⟨w.heap.size, 3, none⟩ = some (.int .i64 ek) := bo.cell 3; have c4 : q12.cell? ⟨w.heap.size, 4, none⟩ = some (.string es) := bo.cell 4; have c5 : q12.cell? ⟨w.heap.size, 5, none⟩ = some (.int .i64 xr) := bo.cell 5; have c6 : q12.cell? ⟨w.heap.size, 6, none⟩ = some (.int .i64 xi) := bo.cell 6; have c7 : q12.cell? ⟨w.heap.size, 7, none⟩ = some (.int .i64 vk) := bo.cell 7; have c8 : q12.cell? ⟨w.heap.size, 8, none⟩ = some (.int .i64 vn) := bo.cell 8
      clear bo hb
      go_wp2_with fail
      refine (Clone_none (HN.out _ (by repeat' first | with_reducible exact Below.refl _ _ | with_reducible assumption | with_reducible refine belows_drewN ?_ _ | with_reducible refine Below.drew ?_ | with_reducible refine Below.setCell ?_ ?_ _ | with_reducible refine Below.alloc ?_ ?_ _ | omega | (simp; done) | (simp; omega)))).mono ?_
      rintro e q13 ⟨rfl, hb⟩
      have Z12 : Below wr.heap.size wr q13 := belows (B := wr.heap.size) (a := wr) (by repeat' first | with_reducible exact Below.refl _ _ | with_reducible assumption | with_reducible refine belows_drewN ?_ _ | with_reducible refine Below.drew ?_ | with_reducible refine Below.setCell ?_ ?_ _ | with_reducible refine Below.alloc ?_ ?_ _ | omega | (simp; done) | (simp; omega)) hb (by first | omega | exact Nat.le_refl _ | (simp; omega) | (simp only [World.size_alloc]; omega))
      have z12 := Z12.size
      have bo := HBo.out _ (belows hbl Z12 hbz)
      have y12 : w.heap.size < q13.heap.size := by omega
      have c1 : q13.cell? ⟨w.heap.size, 1, none⟩ = some (.int .i64 xc) := bo.cell 1; have c2 : q13.cell? ⟨w.heap.size, 2, none⟩ = some (kv) := bo.cell 2; have c3 : q13.cell? ⟨w.heap.size, 3, none⟩ = some (.int .i64 ek) := bo.cell 3; have c4 : q13.cell? ⟨w.heap.size, 4, none⟩ = some (.string es) := bo.cell 4; have c5 : q13.cell? ⟨w.heap.size, 5, none⟩ = some (.int .i64 xr) := bo.cell 5; have c6 : q13.cell? ⟨w.heap.size, 6, none⟩ = some (.int .i64 xi) := bo.cell 6; have c7 : q13.cell? ⟨w.heap.size, 7, none⟩ = some (.int .i64 vk) := bo.cell 7; have c8 : q13.cell? ⟨w.heap.size, 8, none⟩ = some (.int .i64 vn) := bo.cell 8
      clear bo hb
      go_wp2_with fail
      refine (Same_none (HN.out _ (by repeat' first | with_reducible exact Below.refl _ _ | with_reducible assumption | with_reducible refine belows_drewN ?_ _ | with_reducible refine Below.drew ?_ | with_reducible refine Below.setCell ?_ ?_ _ | with_reducible refine Below.alloc ?_ ?_ _ | omega | (simp; done) | (simp; omega)))).mono ?_
      rintro e q14 ⟨rfl, hb⟩
      have Z13 : Below wr.heap.size wr q14 := belows (B := wr.heap.size) (a := wr) (by repeat' first | with_reducible exact Below.refl _ _ | with_reducible assumption | with_reducible refine belows_drewN ?_ _ | with_reducible refine Below.drew ?_ | with_reducible refine Below.setCell ?_ ?_ _ | with_reducible refine Below.alloc ?_ ?_ _ | omega | (simp; done) | (simp; omega)) hb (by first | omega | exact Nat.le_refl _ | (simp; omega) | (simp only [World.size_alloc]; omega))
      have z13 := Z13.size
      have bo := HBo.out _ (belows hbl Z13 hbz)
      have y13 : w.heap.size < q14.heap.size := by omega
      have c1 : q14.cell? ⟨w.heap.size, 1, none⟩ = some (.int .i64 xc) := bo.cell 1; have c2 : q14.cell? ⟨w.heap.size, 2, none⟩ = some (kv) := bo.cell 2; have c3 : q14.cell? ⟨w.heap.size, 3, none⟩ = some (.int .i64 ek) := bo.cell 3; have c4 : q14.cell? ⟨w.heap.size, 4, none⟩ = some (.string es) := bo.cell 4; have c5 : q14.cell? ⟨w.heap.size, 5, none⟩ = some (.int .i64 xr) := bo.cell 5; have c6 : q14.cell? ⟨w.heap.size, 6, none⟩ = some (.int .i64 xi) := bo.cell 6; have c7 : q14.cell? ⟨w.heap.size, 7, none⟩ = some (.int .i64 vk) := bo.cell 7; have c8 : q14.cell? ⟨w.heap.size, 8, none⟩ = some (.int .i64 vn) := bo.cell 8
      clear bo hb
      go_wp2
      go_roundw
      case rel => exact ⟨k + 1, by omega, by go_num, belows hbl Z13 hbz⟩
      case measure => simp [intOf] <;> omega
    · obtain rfl : k = 2 := by omega
      go_wp2
      go_ret
      exact ⟨rfl, belows BW hbl BW.size⟩
end Go.Proofs.Ytkikdjphmnbmaaa
namespace Go.Proofs.Ytkikdjphmnbmaaa.heapNoneCard
open Go.ChangeShapes Go.WideShapes Go.ChangeAt Go.RowKit
theorem own : ownKnob Try.prog.godebug = none := by kernel_rfl
set_option maxRecDepth 100000 in
theorem contract (H : Type) (enc : TypeId × Value → H) (W : World) (base : Nat) (args : Array Value) (ds gs : List (DataW H)) (before : List MemPlace)
    (hval : ∀ (j : Nat) t v, Try.f6.params[j]? = some t → args[j]? = some v → Value.okWide Try.prog W .any base t v)
    (hW : DataW.Whole enc Try.prog Try.f6.params.toList Rows.heapNoneSpec.vars false W args.toList ds gs before)
    (hsz : (DataW.weightsEach Try.prog (Try.f6.params.toList ++ (OpenSpec.ofChange Rows.heapNoneSpec).bare.plain.varTypes Try.prog) (ds ++ gs)).all (· ≤ reachBytes) = true) :
    Calls Try.prog 6 args W fun e W' => ∃ v, e = .returned v ∧ Rows.heapNoneSpec.post enc Try.prog Try.f6 false true false false W args v W' := by
  have hW' := hW
  obtain ⟨p, q, hA0, hV, rfl, hfz, hnd⟩ := hW
  have hA : DataW.TrodAll enc Try.prog W 0 (fun _ => true) true Try.f6.params.toList args.toList ds p := hA0
  rw [Try.params6] at hA hval hsz
  obtain ⟨v0, vs0, d0, ds0, p0, q0, hargs, rfl, rfl, h0, r0⟩ := trodAll_cons hA
  obtain ⟨rfl, rfl, rfl⟩ := trodAll_nil r0
  obtain rfl : args = #[v0] := by cases args; simp_all
  obtain ⟨rfl, rfl⟩ := trodVars_none hV
  obtain ⟨x0, y0, rfl, wx0, wg0⟩ := open_op (hval 0 37 v0 rfl rfl) h0 (weights_eachT (j := 0) (t := 37) (d := d0) rfl rfl hsz)
  refine (none_law x0 y0 W wg0).mono fun e W' ⟨he, hb⟩ => ?_
  subst he
  exact ⟨_, rfl, Kit.law_post rfl rfl Try.underlying4 (by kernel_rfl) (by decide +kernel) hW' rfl hb⟩
theorem reads (os : Os) {H : Type} (enc : TypeId × Value → H) : ∃ places, DataW.whole enc Try.prog ((World.holding Try.prog os ⟨#[], #[], []⟩).forCall (fun _ _ => 0) ⟨#[], #[.agg #[.int .i64 0, .int .i64 0, .slice none 0 0, .int .i64 0, .string ⟨#[]⟩, .int .i64 0, .int .i64 0, .int .i64 0, .int .i64 0]], []⟩).memory Try.f6.params.toList Rows.heapNoneSpec.vars false (#[.agg #[.int .i64 0, .int .i64 0, .slice none 0 0, .int .i64 0, .string ⟨#[]⟩, .int .i64 0, .int .i64 0, .int .i64 0, .int .i64 0]] : Array Value).toList 8 = some ([.agg [.lit (.int .i64 0), .lit (.int .i64 0), .nil, .agg [.lit (.int .i64 0), .lit (.string [])], .lit (.int .i64 0), .lit (.int .i64 0), .agg [.lit (.int .i64 0), .lit (.int .i64 0)]]], [], places) :=
  ⟨[], by kernel_rfl⟩
theorem laid_met (os : Os) : laidMet Try.prog Rows.heapNoneRow.laid ((World.holding Try.prog os ⟨#[], #[], []⟩).forCall (fun _ _ => 0) ⟨#[], #[.agg #[.int .i64 0, .int .i64 0, .slice none 0 0, .int .i64 0, .string ⟨#[]⟩, .int .i64 0, .int .i64 0, .int .i64 0, .int .i64 0]], []⟩).memory :=
  laidMet_of_run' 8 (by kernel_rfl) (by kernel_rfl)
set_option maxRecDepth 100000 in
theorem lifted (os : Os) (started : os.Started) (H : Type) (enc : TypeId × Value → H) (F : Stop.Interp) :
    ReturnsInHanded {} Try.checked os 6 .any ((OpenSpec.ofChange Rows.heapNoneSpec).preRow enc Try.prog Try.f6 Rows.heapNoneRow.domain false Rows.heapNoneRow.laid) (((OpenSpec.ofChange Rows.heapNoneSpec).at F).post enc Try.prog Try.f6 false true false false) := by
  obtain ⟨places, hx⟩ := reads os enc
  refine returnsInHanded_of_row (C := Try.checked) (s := (OpenSpec.ofChange Rows.heapNoneSpec)) own started (by kernel_rfl) Try.func6
    (witness_row_at (enc := enc) (C := Try.checked) false (World.holding Try.prog os ⟨#[], #[], []⟩) #[.agg #[.int .i64 0, .int .i64 0, .slice none 0 0, .int .i64 0, .string ⟨#[]⟩, .int .i64 0, .int .i64 0, .int .i64 0, .int .i64 0]] rfl (by kernel_rfl) (by kernel_rfl) (by kernel_rfl)
      (OpenSpec.preRow_of_cond 8 hx (by kernel_rfl) (fun k hk => by cases hk) (by kernel_rfl) (laid_met os))) ?_
  intro W base args ds gs before hval hW _ _ hsz _ _ _
  exact contract H enc W base args ds gs before hval hW hsz
theorem proved : Rows.HeapNoneSaid :=
  OpenClaim.holds_of_cond 6 Try.f6 rfl rfl rfl rfl rfl rfl rfl ⟨rfl, rfl, rfl, rfl, rfl⟩ rfl rfl rfl rfl rfl (by kernel_rfl) Try.func6 (by kernel_rfl)
    (of_decide_eq_true (by kernel_rfl)) (by unfold Func.isWrapper; first | (rw [if_pos (by decide +kernel)]; kernel_rfl) | (rw [if_neg (by decide +kernel)]; exact ⟨rfl, rfl⟩))
    (fun os started H enc _ F => by rw [OpenClaim.pre_eq_preRow]; exact lifted os started H enc F)
end Go.Proofs.Ytkikdjphmnbmaaa.heapNoneCard

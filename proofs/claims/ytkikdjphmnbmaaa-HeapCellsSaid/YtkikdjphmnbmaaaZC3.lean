/- Own texts for the claim, part 3. -/
import Derived.Test.YtkikdjphmnbmaaaZC2
namespace Go.Proofs.Ytkikdjphmnbmaaa
open Go Go.RowKit

theorem set_self {α : Type} {l : List α} {k : Nat} {x : α} (h : l[k]? = some x) : l.set k x = l := by
  obtain ⟨hk, rfl⟩ := List.getElem?_eq_some_iff.1 h
  exact List.set_getElem_self hk
def loV (s : Hp.Hs) (k : Nat) : Nat := ((s.l.map (·.vs)).take k).flatten.length
def loT (s : Hp.Hs) (k : Nat) : Nat := ((s.l.map (·.ts)).take k).flatten.length
theorem thing_at {s : Hp.Hs} {ref : Int} {t : Hp.Th} (h : s.thing ref = some t) : 1 ≤ ref ∧ (ref - 1).toNat < s.l.length ∧ s.l[(ref - 1).toNat]? = some t := by
  unfold Hp.Hs.thing at h
  split at h
  · exact ⟨by assumption, (List.getElem?_eq_some_iff.1 h).1, h⟩
  · cases h
theorem isArr_flat (s : Hp.Hs) (ref : Int) : isArr s.flat ref = (match s.thing ref with | some t => decide (t.cl = -1) | none => false) := by
  unfold isArr
  rw [clsOf_flat]
  cases s.thing ref <;> rfl
theorem rowV_thing {w : World} {base : Nat} {H : HV} {s : Hp.Hs} (h : Rep w base H s.flat) (ok : s.Ok) {k : Nat} {t : Hp.Th} (hk : s.l[k]? = some t) :
    Calls Try.prog 47 #[.pointer (some ⟨H.ib, 4, none⟩), .int .i64 (k : Int)] w (RowPost H.d (loV s k) t.vs.length w) := by
  obtain ⟨s1, s2, s3, s4, s5, s6, s7⟩ := ok.sizes
  have hkl := (List.getElem?_eq_some_iff.1 hk).1
  have hr : (s.l.map (·.vs))[k]? = some t.vs := by rw [List.getElem?_map, hk]; rfl
  have hm : k < (s.l.map (·.vs)).length := by simpa using hkl
  have h4 := Hp.take_le (s.l.map (·.vs)) (k + 1)
  have h := rowV_any h k (loV s k) (loV s k + t.vs.length) (by omega) (by omega) (fun e => by subst e; simp [loV]) (fun e => by
    show (Hp.ends (s.l.map (·.vs)))[k - 1]? = _
    rw [Hp.ends_at (by omega), show k - 1 + 1 = k by omega]; rfl) (by
    show (Hp.ends (s.l.map (·.vs)))[k]? = _
    rw [Hp.ends_at hm, Hp.take_succ hr]; rfl) (by omega) (by
    rw [Hp.take_succ hr] at h4
    exact h4)
  rw [Nat.add_sub_cancel_left] at h
  exact h
theorem rowT_thing {w : World} {base : Nat} {H : HV} {s : Hp.Hs} (h : Rep w base H s.flat) (ok : s.Ok) {k : Nat} {t : Hp.Th} (hk : s.l[k]? = some t) :
    Calls Try.prog 60 #[.pointer (some ⟨H.ib, 2, none⟩), .int .i64 (k : Int)] w (RowPost H.b (loT s k) t.ts.length w) := by
  obtain ⟨s1, s2, s3, s4, s5, s6, s7⟩ := ok.sizes
  have hkl := (List.getElem?_eq_some_iff.1 hk).1
  have hr : (s.l.map (·.ts))[k]? = some t.ts := by rw [List.getElem?_map, hk]; rfl
  have hm : k < (s.l.map (·.ts)).length := by simpa using hkl
  have h4 := Hp.take_le (s.l.map (·.ts)) (k + 1)
  have h := rowT_any h k (loT s k) (loT s k + t.ts.length) (by omega) (by omega) (fun e => by subst e; simp [loT]) (fun e => by
    show (Hp.ends (s.l.map (·.ts)))[k - 1]? = _
    rw [Hp.ends_at (by omega), show k - 1 + 1 = k by omega]; rfl) (by
    show (Hp.ends (s.l.map (·.ts)))[k]? = _
    rw [Hp.ends_at hm, Hp.take_succ hr]; rfl) (by omega) (by
    rw [Hp.take_succ hr] at h4
    exact h4)
  rw [Nat.add_sub_cancel_left] at h
  exact h
/-- A thing's types, its values, in memory. -/
theorem types_at {w : World} {base : Nat} {H : HV} {s : Hp.Hs} (h : Rep w base H s.flat) {k j g : Nat} {t : Hp.Th} {x : Hp.Ty} (hk : s.l[k]? = some t) (hj : t.ts[j]? = some x) (hg : H.b.ownBlock = some g) : w.cell? ⟨g, loT s k * 2 + j * 2, none⟩ = some (.int .i64 x.k) ∧ w.cell? ⟨g, loT s k * 2 + j * 2 + 1, none⟩ = some (.string x.s) := by
  have hr : (s.l.map (·.ts))[k]? = some t.ts := by rw [List.getElem?_map, hk]; rfl
  have hf := Hp.flat_at2 hr (List.getElem?_eq_some_iff.1 hj).1
  rw [hj] at hf
  obtain ⟨h1, h2⟩ := tL_at hf
  obtain ⟨hc, -⟩ := own_at h.ob hg
  have e : ((s.l.map (·.ts)).take k).flatten.length = loT s k := rfl
  rw [e, Nat.add_mul] at h1 h2
  exact ⟨hc _ _ h1, hc _ _ h2⟩
theorem vals_at {w : World} {base : Nat} {H : HV} {s : Hp.Hs} (h : Rep w base H s.flat) {k j g : Nat} {t : Hp.Th} {x : Hp.Vl} (hk : s.l[k]? = some t) (hj : t.vs[j]? = some x) (hg : H.d.ownBlock = some g) : w.cell? ⟨g, loV s k * 2 + j * 2, none⟩ = some (.int .i64 x.k) ∧ w.cell? ⟨g, loV s k * 2 + j * 2 + 1, none⟩ = some (.int .i64 x.n) ∧ ∀ i, w.frozen? ⟨g, i, none⟩ = false := by
  have hr : (s.l.map (·.vs))[k]? = some t.vs := by rw [List.getElem?_map, hk]; rfl
  have hf := Hp.flat_at2 hr (List.getElem?_eq_some_iff.1 hj).1
  rw [hj] at hf
  obtain ⟨h1, h2⟩ := vL_at hf
  obtain ⟨hc, hfz⟩ := own_at h.od hg
  have e : ((s.l.map (·.vs)).take k).flatten.length = loV s k := rfl
  rw [e, Nat.add_mul] at h1 h2
  exact ⟨hc _ _ h1, hc _ _ h2, hfz⟩
theorem putV_thing {w : World} {base : Nat} {H : HV} {s : Hp.Hs} (h : Rep w base H s.flat) {k j g : Nat} {t : Hp.Th} (v : Hp.Vl) (hk : s.l[k]? = some t) (hj : j < t.vs.length) (hg : H.d.ownBlock = some g) :
    Went w ((w.setCell ⟨g, loV s k * 2 + j * 2, none⟩ (.int .i64 v.k)).setCell ⟨g, loV s k * 2 + j * 2 + 1, none⟩ (.int .i64 v.n)) base H H ({ s with l := s.l.set k { t with vs := t.vs.set j v } } : Hp.Hs).flat := by
  have hr : (s.l.map (·.vs))[k]? = some t.vs := by rw [List.getElem?_map, hk]; rfl
  have e : ((s.l.map (·.vs)).take k).flatten.length = loV s k := rfl
  have hlt : loV s k + j < (s.l.map (·.vs)).flatten.length := by
    have h4 := Hp.take_le (s.l.map (·.vs)) (k + 1)
    rw [Hp.take_succ hr, e] at h4
    omega
  have hp := h.putV (j := loV s k + j) hg hlt v
  rw [Nat.add_mul] at hp
  have hst : ({ s with l := s.l.set k { t with vs := t.vs.set j v } } : Hp.Hs).flat = { s.flat with vc := s.flat.vc.set (loV s k + j) v } := by
    have hkl := (List.getElem?_eq_some_iff.1 hk).1
    have hkk := (List.getElem?_eq_some_iff.1 hk).2
    have h1 : (s.l.set k { t with vs := t.vs.set j v }).map (·.cl) = s.l.map (·.cl) := by
      rw [List.map_set]
      exact set_self (by rw [List.getElem?_map, hk]; rfl)
    have h2 : (s.l.set k { t with vs := t.vs.set j v }).map (·.ts) = s.l.map (·.ts) := by
      rw [List.map_set]
      exact set_self (by rw [List.getElem?_map, hk]; rfl)
    have h3 : (s.l.set k { t with vs := t.vs.set j v }).map (·.vs) = (s.l.map (·.vs)).set k (t.vs.set j v) := by rw [List.map_set]
    unfold Hp.Hs.flat
    simp only [h1, h2, h3]
    rw [← Hp.flat_set hr hj, Hp.ends_set hr (List.length_set ..)]
    rfl
  rw [hst]
  exact hp
end Go.Proofs.Ytkikdjphmnbmaaa
namespace Go.Proofs.Ytkikdjphmnbmaaa
open Go Go.RowKit

theorem isArr_yes {s : Hp.Hs} {ref : Int} {t : Hp.Th} (h : s.thing ref = some t) (hc : t.cl = -1) : isArr s.flat ref = true := by rw [isArr_flat, h]; simp [hc]
theorem isArr_no {s : Hp.Hs} {ref : Int} (h : ∀ t, s.thing ref = some t → t.cl ≠ -1) : isArr s.flat ref = false := by
  rw [isArr_flat]
  cases ht : s.thing ref with
  | none => rfl
  | some t => simpa using h t ht
theorem BX.set {w : World} {b : Nat} {cs : Array Value} {T : TypeId} (h : BX w b cs T) (i : Nat) (u : Value) : BX (w.setCell ⟨b, i, none⟩ u) b (cs.setIfInBounds i u) T := box_set h i u
set_option maxRecDepth 100000 in
theorem elem_any {w : World} {base : Nat} {H : HV} {s : Hp.Hs} (h : Rep w base H s.flat) (ok : s.Ok) {k : Nat} {t : Hp.Th} {x : Hp.Ty} (hk : s.l[k]? = some t) (hx : t.ts = [x]) :
    Calls Try.prog 50 #[.pointer (some ⟨H.ib, 0, none⟩), .int .i64 ((k : Int) + 1)] w fun e w' => e = .returned (tA x) ∧ Below w.heap.size w w' := by
  have hkl := (List.getElem?_eq_some_iff.1 hk).1
  obtain ⟨s1, s2, s3, s4, s5, s6, s7⟩ := ok.sizes
  have hcl := flat_cs s
  have hkb : k ≤ 1048576 := by omega
  have HRw := hid (fun X (b : Below w.heap.size w X) => rowT_thing (h.below b) ok hk)
  have HTy := hid (fun X (b : Below w.heap.size w X) g hg => types_at (h.below b) hk (j := 0) (x := x) (by rw [hx]; rfl) (g := g) hg)
  rw [hx] at HRw
  unfold RowPost Sub at HRw
  unfold tA
  obtain ⟨ib, hib⟩ : ∃ ib, ib = H.ib := ⟨_, rfl⟩
  rw [← hib] at HRw
  rw [← hib]
  have hgen := h.ib_lt
  rw [← hib] at hgen
  clear h hk hx hcl s1 s2 s3 s4 s5 s6 s7 hkl hib
  go_enter Try.func50, Try.ntmps50
  go_wp2_with fail
  refine (HRw.out _ (by repeat' first | with_reducible exact Below.refl _ _ | with_reducible assumption | with_reducible refine belows_drewN ?_ _ | with_reducible refine Below.drew ?_ | with_reducible refine Below.setCell ?_ ?_ _ | with_reducible refine Below.alloc ?_ ?_ _ | omega | (simp; done) | (simp; omega))).mono ?_
  rintro e w1 ⟨v, rfl, ⟨a, c, rfl, hc, hs⟩, hb⟩
  obtain ⟨g, hg, rfl⟩ := hs (by simp)
  have B1 : Below w.heap.size w w1 := belows (B := w.heap.size) (a := w) (by repeat' first | with_reducible exact Below.refl _ _ | with_reducible assumption | with_reducible refine belows_drewN ?_ _ | with_reducible refine Below.drew ?_ | with_reducible refine Below.setCell ?_ ?_ _ | with_reducible refine Below.alloc ?_ ?_ _ | omega | (simp; done) | (simp; omega)) hb (by simp)
  obtain ⟨y0, y1⟩ := HTy.out _ B1 g hg
  simp only [Nat.zero_mul, Nat.add_zero] at y0 y1
  have hz := hb.size
  have bx := (BX.new w #[.int .i64 0, .string ⟨#[]⟩] 33).below hb
  have c0 := bx.frozen 0
  have c1 := bx.frozen 1
  have d0 := bx.cell 0
  have d1 := bx.cell 1
  simp at d0 d1
  have hz1 := bx.sz
  have HX := hid bx
  clear bx
  go_wp2
  exact bodyPost_ret (v := .agg #[.int .i64 x.k, .string x.s]) (by have e0 := ((HX.out.set 0 (.int .i64 x.k)).set 1 (.string x.s)).cell 0; have e1 := ((HX.out.set 0 (.int .i64 x.k)).set 1 (.string x.s)).cell 1; simp at e0 e1; simp [results, Try.results50, go_sem, e0, e1]) rfl ⟨rfl, (by repeat' first | with_reducible exact Below.refl _ _ | with_reducible assumption | with_reducible refine belows_drewN ?_ _ | with_reducible refine Below.drew ?_ | with_reducible refine Below.setCell ?_ ?_ _ | with_reducible refine Below.alloc ?_ ?_ _ | omega | (simp; done) | (simp; omega))⟩
def placeNone : Value := .agg #[.int .i64 0, .string ⟨#[]⟩, .pointer none]
set_option maxRecDepth 100000 in
theorem element_ref {w : World} {base : Nat} {H : HV} {s : Hp.Hs} (h : Rep w base H s.flat) (ok : s.Ok) (ref i : Int) (hr : -9223372036854775808 ≤ ref ∧ ref ≤ 9223372036854775807) (hn : isArr s.flat ref = false) :
    Calls Try.prog 41 #[.pointer (some ⟨H.ib, 0, none⟩), .int .i64 ref, .int .i64 i] w fun e w' => e = .returned (.tuple #[placeNone, .int .i64 60]) ∧ Below w.heap.size w w' := by
  obtain ⟨s1, s2, s3, s4, s5, s6, s7⟩ := ok.sizes
  have HI := hid (fun X (b : Below w.heap.size w X) => isArray_any (h.below b) ref hr (by omega))
  rw [hn] at HI
  unfold placeNone
  clear h hn s1 s2 s3 s4 s5 s6 s7
  go_enter Try.func41, Try.ntmps41
  go_wp2_with fail
  refine (HI.out _ (by repeat' first | with_reducible exact Below.refl _ _ | with_reducible assumption | with_reducible refine belows_drewN ?_ _ | with_reducible refine Below.drew ?_ | with_reducible refine Below.setCell ?_ ?_ _ | with_reducible refine Below.alloc ?_ ?_ _ | omega | (simp; done) | (simp; omega))).mono ?_
  rintro e w1 ⟨rfl, hb⟩
  have B1 : Below w.heap.size w w1 := belows (B := w.heap.size) (a := w) (by repeat' first | with_reducible exact Below.refl _ _ | with_reducible assumption | with_reducible refine belows_drewN ?_ _ | with_reducible refine Below.drew ?_ | with_reducible refine Below.setCell ?_ ?_ _ | with_reducible refine Below.alloc ?_ ?_ _ | omega | (simp; done) | (simp; omega)) hb (by simp)
  have hz := hb.size
  have bx := (BX.new w #[.int .i64 0, .string ⟨#[]⟩, .pointer none] 92).below hb
  have c0 := bx.frozen 0
  have c1 := bx.frozen 1
  have c2 := bx.frozen 2
  have d0 := bx.cell 0
  have d1 := bx.cell 1
  have d2 := bx.cell 2
  simp at d0 d1 d2
  have HX := hid bx
  clear bx
  go_wp2
  exact bodyPost_ret (v := .tuple #[.agg #[.int .i64 0, .string ⟨#[]⟩, .pointer none], .int .i64 60]) (by have e3 := (((HX.out.set 0 (.int .i64 0)).set 1 (.string ⟨#[]⟩)).set 2 (.pointer none)); have e0 := e3.cell 0; have e1 := e3.cell 1; have e2 := e3.cell 2; simp at e0 e1 e2; simp [results, Try.results41, go_sem, e0, e1, e2]) rfl ⟨rfl, (by repeat' first | with_reducible exact Below.refl _ _ | with_reducible assumption | with_reducible refine belows_drewN ?_ _ | with_reducible refine Below.drew ?_ | with_reducible refine Below.setCell ?_ ?_ _ | with_reducible refine Below.alloc ?_ ?_ _ | omega | (simp; done) | (simp; omega))⟩
set_option maxRecDepth 100000 in
set_option maxHeartbeats 1000000 in
theorem element_idx {w : World} {base : Nat} {H : HV} {s : Hp.Hs} (h : Rep w base H s.flat) (ok : s.Ok) {k : Nat} {t : Hp.Th} (hk : s.l[k]? = some t) (hc : t.cl = -1) (i : Int) (hi : i < 0 ∨ (t.vs.length : Int) ≤ i) :
    Calls Try.prog 41 #[.pointer (some ⟨H.ib, 0, none⟩), .int .i64 ((k : Int) + 1), .int .i64 i] w fun e w' => e = .returned (.tuple #[placeNone, .int .i64 61]) ∧ Below w.heap.size w w' := by
  have hkl := (List.getElem?_eq_some_iff.1 hk).1
  obtain ⟨s1, s2, s3, s4, s5, s6, s7⟩ := ok.sizes
  have hcl := flat_cs s
  have hkb : k ≤ 1048576 := by omega
  have hth : s.thing ((k : Int) + 1) = some t := by unfold Hp.Hs.thing; rw [if_pos (by omega), show ((k : Int) + 1 - 1).toNat = k by omega]; exact hk
  have HI := hid (fun X (b : Below w.heap.size w X) => isArray_any (h.below b) ((k : Int) + 1) (by omega) (by omega))
  rw [isArr_yes hth hc] at HI
  have HRw := hid (fun X (b : Below w.heap.size w X) => rowV_thing (h.below b) ok hk)
  unfold RowPost Sub at HRw
  unfold placeNone
  obtain ⟨ib, hib⟩ : ∃ ib, ib = H.ib := ⟨_, rfl⟩
  rw [← hib] at HRw HI ⊢
  have hgen := h.ib_lt
  rw [← hib] at hgen
  obtain ⟨n, hn⟩ : ∃ n, n = t.vs.length := ⟨_, rfl⟩
  rw [← hn] at hi HRw
  clear h hk hc hcl hth s1 s2 s3 s4 s5 s6 s7 hkl hib hn
  rcases hi with hi | hi
  all_goals
    go_enter Try.func41, Try.ntmps41
    go_wp2_with fail
    refine (HI.out _ (by repeat' first | with_reducible exact Below.refl _ _ | with_reducible assumption | with_reducible refine belows_drewN ?_ _ | with_reducible refine Below.drew ?_ | with_reducible refine Below.setCell ?_ ?_ _ | with_reducible refine Below.alloc ?_ ?_ _ | omega | (simp; done) | (simp; omega))).mono ?_
    rintro e w1 ⟨rfl, hb⟩
    have B1 : Below w.heap.size w w1 := belows (B := w.heap.size) (a := w) (by repeat' first | with_reducible exact Below.refl _ _ | with_reducible assumption | with_reducible refine belows_drewN ?_ _ | with_reducible refine Below.drew ?_ | with_reducible refine Below.setCell ?_ ?_ _ | with_reducible refine Below.alloc ?_ ?_ _ | omega | (simp; done) | (simp; omega)) hb (by simp)
    have hz := hb.size
    have bx1 := (BX.new w #[.int .i64 0, .string ⟨#[]⟩, .pointer none] 92).below hb
    go_wp2_with fail
    refine (HRw.out _ B1).mono ?_
    rintro e w2 ⟨v, rfl, ⟨a, c, rfl, hcc, hs⟩, hb2⟩
    have B2 := belows B1 hb2 B1.size
    have bx := bx1.below hb2
    have c0 := bx.frozen 0
    have c1 := bx.frozen 1
    have c2 := bx.frozen 2
    have d0 := bx.cell 0
    have d1 := bx.cell 1
    have d2 := bx.cell 2
    simp at d0 d1 d2
    have HX := hid bx
    clear bx bx1 hs
    go_wp2
    exact bodyPost_ret (v := .tuple #[.agg #[.int .i64 0, .string ⟨#[]⟩, .pointer none], .int .i64 61]) (by have e3 := (((HX.out.set 0 (.int .i64 0)).set 1 (.string ⟨#[]⟩)).set 2 (.pointer none)); have e0 := e3.cell 0; have e1 := e3.cell 1; have e2 := e3.cell 2; simp at e0 e1 e2; simp [results, Try.results41, go_sem, e0, e1, e2]) rfl ⟨rfl, (by repeat' first | with_reducible exact Below.refl _ _ | with_reducible assumption | with_reducible refine belows_drewN ?_ _ | with_reducible refine Below.drew ?_ | with_reducible refine Below.setCell ?_ ?_ _ | with_reducible refine Below.alloc ?_ ?_ _ | omega | (simp; done) | (simp; omega))⟩
/-- A place: its type, where its value stands. -/
def placeAt (x : Hp.Ty) (g o : Nat) : Value := .agg #[.int .i64 x.k, .string x.s, .pointer (some ⟨g, o, none⟩)]
def PlPost (H : HV) (x : Hp.Ty) (o : Nat) (w : World) (e : Ending) (w' : World) : Prop := ∃ g, H.d.ownBlock = some g ∧ e = .returned (.tuple #[placeAt x g o, .int .i64 0]) ∧ Below w.heap.size w w'
set_option maxRecDepth 100000 in
set_option maxHeartbeats 1000000 in
theorem element_ok {w : World} {base : Nat} {H : HV} {s : Hp.Hs} (h : Rep w base H s.flat) (ok : s.Ok) {k : Nat} {t : Hp.Th} {x : Hp.Ty} (hk : s.l[k]? = some t) (hc : t.cl = -1) (hx : t.ts = [x]) (i : Nat) (hi : i < t.vs.length) :
    Calls Try.prog 41 #[.pointer (some ⟨H.ib, 0, none⟩), .int .i64 ((k : Int) + 1), .int .i64 (i : Int)] w (PlPost H x (loV s k * 2 + i * 2) w) := by
  have hkl := (List.getElem?_eq_some_iff.1 hk).1
  obtain ⟨s1, s2, s3, s4, s5, s6, s7⟩ := ok.sizes
  have hcl := flat_cs s
  have hkb : k ≤ 1048576 := by omega
  have hvl : t.vs.length ≤ 1048576 := by
    have hr : (s.l.map (·.vs))[k]? = some t.vs := by rw [List.getElem?_map, hk]; rfl
    have h4 := Hp.take_le (s.l.map (·.vs)) (k + 1)
    rw [Hp.take_succ hr] at h4
    have h5 : s.flat.vc.length = (s.l.map (·.vs)).flatten.length := rfl
    omega
  have hth : s.thing ((k : Int) + 1) = some t := by unfold Hp.Hs.thing; rw [if_pos (by omega), show ((k : Int) + 1 - 1).toNat = k by omega]; exact hk
  have HI := hid (fun X (b : Below w.heap.size w X) => isArray_any (h.below b) ((k : Int) + 1) (by omega) (by omega))
  rw [isArr_yes hth hc] at HI
  have HRw := hid (fun X (b : Below w.heap.size w X) => rowV_thing (h.below b) ok hk)
  have HEl := hid (fun X (b : Below w.heap.size w X) => elem_any (h.below b) ok hk hx)
  unfold RowPost Sub at HRw
  unfold tA at HEl
  unfold PlPost placeAt
  obtain ⟨ib, hib⟩ : ∃ ib, ib = H.ib := ⟨_, rfl⟩
  rw [← hib] at HRw HI HEl ⊢
  have hgen := h.ib_lt
  rw [← hib] at hgen
  obtain ⟨n, hn⟩ : ∃ n, n = t.vs.length := ⟨_, rfl⟩
  rw [← hn] at hi hvl HRw
  obtain ⟨lo, hlo⟩ : ∃ lo, lo = loV s k := ⟨_, rfl⟩
  rw [← hlo] at HRw ⊢
  clear h hk hc hx hcl hth s1 s2 s3 s4 s5 s6 s7 hkl hib hn hlo
  go_enter Try.func41, Try.ntmps41
  go_wp2_with fail
  refine (HI.out _ (by repeat' first | with_reducible exact Below.refl _ _ | with_reducible assumption | with_reducible refine belows_drewN ?_ _ | with_reducible refine Below.drew ?_ | with_reducible refine Below.setCell ?_ ?_ _ | with_reducible refine Below.alloc ?_ ?_ _ | omega | (simp; done) | (simp; omega))).mono ?_
  rintro e w1 ⟨rfl, hb⟩
  have B1 : Below w.heap.size w w1 := belows (B := w.heap.size) (a := w) (by repeat' first | with_reducible exact Below.refl _ _ | with_reducible assumption | with_reducible refine belows_drewN ?_ _ | with_reducible refine Below.drew ?_ | with_reducible refine Below.setCell ?_ ?_ _ | with_reducible refine Below.alloc ?_ ?_ _ | omega | (simp; done) | (simp; omega)) hb (by simp)
  have hz := hb.size
  have bx1 := (BX.new w #[.int .i64 0, .string ⟨#[]⟩, .pointer none] 92).below hb
  go_wp2_with fail
  refine (HRw.out _ B1).mono ?_
  rintro e w2 ⟨v, rfl, ⟨a, c, rfl, hcc, hs⟩, hb2⟩
  obtain ⟨g, hg, rfl⟩ := hs (by omega)
  have B2 := belows B1 hb2 B1.size
  have bx := hid (bx1.below hb2)
  have HG := hid hg
  clear bx1 hs hb2 hb hg
  go_wp2
  have cfE := fun (u v : Value) (w : World) => (show (callFunc 50 #[u, v]).run Try.prog w = .ok (.enter 50 #[u, v]) w by kernel_rfl)
  go_region_law (refine Kit.step_call2 rfl 50 (.tmp 29) (.tmp 30) 57 2 rfl _ _ rfl rfl (cfE _ _ _) _ (HEl.out _ (by repeat' first | with_reducible exact Below.refl _ _ | with_reducible assumption | with_reducible refine belows_drewN ?_ _ | with_reducible refine Below.drew ?_ | with_reducible refine Below.setCell ?_ ?_ _ | with_reducible refine Below.alloc ?_ ?_ _ | omega | (simp; done) | (simp; omega))) ?_; rintro e w3 ⟨rfl, hb3⟩; refine ⟨_, rfl, ?_⟩; have B3 : Below w.heap.size w w3 := (belows (B := w.heap.size) (a := w) (by repeat' first | with_reducible exact Below.refl _ _ | with_reducible assumption | with_reducible refine belows_drewN ?_ _ | with_reducible refine Below.drew ?_ | with_reducible refine Below.setCell ?_ ?_ _ | with_reducible refine Below.alloc ?_ ?_ _ | omega | (simp; done) | (simp; omega)) hb3 (by first | exact B2.size | simpa using B2.size)); have bx3 := (bx.out.below (show Below w2.heap.size w2 w3 from (by first | exact hb3 | exact belows (B := w2.heap.size) (a := w2) (by repeat' first | with_reducible exact Below.refl _ _ | with_reducible assumption | with_reducible refine belows_drewN ?_ _ | with_reducible refine Below.drew ?_ | with_reducible refine Below.setCell ?_ ?_ _ | with_reducible refine Below.alloc ?_ ?_ _ | omega | (simp; done) | (simp; omega)) hb3 (by simp)))); have c0 := bx3.frozen 0; have c1 := bx3.frozen 1; have c2 := bx3.frozen 2; have d0 := bx3.cell 0; have d1 := bx3.cell 1; have d2 := bx3.cell 2; simp at d0 d1 d2; have HX := hid bx3; clear bx3 hb3)
  all_goals
    go_wp2
    refine bodyPost_ret (v := .tuple #[.agg #[.int .i64 x.k, .string x.s, .pointer (some ⟨g, lo * 2 + i * 2, none⟩)], .int .i64 0]) (by have e3 := (((HX.out.set 0 (.int .i64 x.k)).set 1 (.string x.s)).set 2 (.pointer (some ⟨g, lo * 2 + i * 2, none⟩))); have e0 := e3.cell 0; have e1 := e3.cell 1; have e2 := e3.cell 2; simp at e0 e1 e2; simp [results, Try.results41, go_sem, e0, e1, e2]) rfl ⟨g, HG.out, rfl, (by repeat' first | with_reducible exact Below.refl _ _ | with_reducible assumption | with_reducible refine belows_drewN ?_ _ | with_reducible refine Below.drew ?_ | with_reducible refine Below.setCell ?_ ?_ _ | with_reducible refine Below.alloc ?_ ?_ _ | omega | (simp; done) | (simp; omega))⟩
end Go.Proofs.Ytkikdjphmnbmaaa
namespace Go.Proofs.Ytkikdjphmnbmaaa
open Go Go.RowKit

namespace Hp
theorem el_ref {s : Hs} {ref i : Int} {v : Vl} (h : ∀ t, s.thing ref = some t → t.cl ≠ -1) : s.el ref i = (V0, 60) ∧ s.st ref i v = (s, 60) := by
  have h1 : s.el ref i = (V0, 60) := by
    unfold Hs.el
    cases ht : s.thing ref with
    | none => rfl
    | some t => simp [h t ht]
  exact ⟨h1, by unfold Hs.st; rw [h1]; simp⟩
theorem el_idx {s : Hs} {ref i : Int} {v : Vl} {t : Th} (h : s.thing ref = some t) (hc : t.cl = -1) (hi : i < 0 ∨ (t.vs.length : Int) ≤ i) : s.el ref i = (V0, 61) ∧ s.st ref i v = (s, 61) := by
  have h1 : s.el ref i = (V0, 61) := by
    unfold Hs.el
    rw [h]
    simp only [if_pos hc]
    split
    · rw [List.getElem?_eq_none (by omega)]
    · rfl
  exact ⟨h1, by unfold Hs.st; rw [h1]; simp⟩
theorem el_ok {s : Hs} {ref : Int} {i : Nat} {v u : Vl} {t : Th} {x : Ty} (h : s.thing ref = some t) (hc : t.cl = -1) (hx : t.ts = [x]) (hi : t.vs[i]? = some u) :
    s.el ref i = (u, 0) ∧ s.st ref i v = (if fitsOf x v = true then ({ s with l := s.l.set (ref - 1).toNat { t with vs := t.vs.set i v } }, 0) else (s, 62)) := by
  have h1 : s.el ref i = (u, 0) := by
    unfold Hs.el
    rw [h]
    simp only [if_pos hc]
    rw [if_pos (by omega), Int.toNat_natCast, hi]
  refine ⟨h1, ?_⟩
  unfold Hs.st Hs.put
  rw [h1]
  simp only [h, hx, List.headD_cons, ne_eq, not_true_eq_false, if_false, Int.toNat_natCast]
theorem ok_one {s : Hs} (h : s.Ok) {t : Th} (ht : t ∈ s.l) (hc : t.cl = -1) : ∃ x, t.ts = [x] := by
  rcases h.th t ht with ⟨-, h1⟩ | ⟨h1, -⟩
  · match hts : t.ts, h1 with
    | [x], _ => exact ⟨x, rfl⟩
  · omega
end Hp
set_option maxRecDepth 100000 in
theorem put_yes (x : Hp.Ty) (v : Hp.Vl) (g o : Nat) (w : World) {u0 u1 : Value} (h0 : w.cell? ⟨g, o, none⟩ = some u0) (h1 : w.cell? ⟨g, o + 1, none⟩ = some u1) (f0 : w.frozen? ⟨g, o, none⟩ = false) (f1 : w.frozen? ⟨g, o + 1, none⟩ = false) (hg : g < w.heap.size) (hf : fitsOf x v = true) :
    Calls Try.prog 42 #[placeAt x g o, vA v] w fun e w' => e = .returned (.int .i64 0) ∧ ∃ w1, Below w.heap.size w w1 ∧ w' = (w1.setCell ⟨g, o, none⟩ (.int .i64 v.k)).setCell ⟨g, o + 1, none⟩ (.int .i64 v.n) := by
  have HF := hid (fun W => fits2_any x v W)
  rw [hf] at HF
  unfold placeAt vA
  unfold tA vA at HF
  obtain ⟨xk, xs⟩ := x
  obtain ⟨vk, vn⟩ := v
  dsimp only at *
  clear hf
  go_enter Try.func42, Try.ntmps42
  go_wp2_with fail
  refine (HF.out _).mono ?_
  rintro e w1 ⟨rfl, hb⟩
  have B1 : Below w.heap.size w w1 := belows (B := w.heap.size) (a := w) (by repeat' first | with_reducible exact Below.refl _ _ | with_reducible assumption | with_reducible refine belows_drewN ?_ _ | with_reducible refine Below.drew ?_ | with_reducible refine Below.setCell ?_ ?_ _ | with_reducible refine Below.alloc ?_ ?_ _ | omega | (simp; done) | (simp; omega)) hb (by simp; omega)
  have p0 := (B1.cell (p := ⟨g, o, none⟩) hg).trans h0
  have p1 := (B1.cell (p := ⟨g, o + 1, none⟩) hg).trans h1
  have q0 := (B1.frozen (p := ⟨g, o, none⟩) hg).trans f0
  have q1 := (B1.frozen (p := ⟨g, o + 1, none⟩) hg).trans f1
  have bx := ((BX.new w #[.int .i64 xk, .string xs, .pointer (some ⟨g, o, none⟩)] 92).below ((Below.refl _ _).alloc (Nat.le_refl _) (.cells #[.int .i64 vk, .int .i64 vn] 35))).below hb
  have d2 := bx.cell 2
  have by_ := (BX.new (w.alloc (.cells #[.int .i64 xk, .string xs, .pointer (some ⟨g, o, none⟩)] 92)) #[.int .i64 vk, .int .i64 vn] 35).below hb
  rw [World.size_alloc] at by_
  have d3 := by_.cell 0
  have d4 := by_.cell 1
  simp at d2 d3 d4
  clear bx by_ h0 h1 f0 f1 hb
  go_wp2
  go_ret
  exact ⟨rfl, w1, B1, rfl⟩
set_option maxRecDepth 100000 in
theorem put_no (x : Hp.Ty) (v : Hp.Vl) (g o : Nat) (w : World) (hf : fitsOf x v = false) :
    Calls Try.prog 42 #[placeAt x g o, vA v] w fun e w' => e = .returned (.int .i64 62) ∧ Below w.heap.size w w' := by
  have HF := hid (fun W => fits2_any x v W)
  rw [hf] at HF
  unfold placeAt vA
  unfold tA vA at HF
  obtain ⟨xk, xs⟩ := x
  obtain ⟨vk, vn⟩ := v
  dsimp only at *
  clear hf
  go_enter Try.func42, Try.ntmps42
  go_wp2_with fail
  refine (HF.out _).mono ?_
  rintro e w1 ⟨rfl, hb⟩
  have B1 : Below w.heap.size w w1 := belows (B := w.heap.size) (a := w) (by repeat' first | with_reducible exact Below.refl _ _ | with_reducible assumption | with_reducible refine belows_drewN ?_ _ | with_reducible refine Below.drew ?_ | with_reducible refine Below.setCell ?_ ?_ _ | with_reducible refine Below.alloc ?_ ?_ _ | omega | (simp; done) | (simp; omega)) hb (by simp; omega)
  go_wp2
  go_ret
  exact ⟨rfl, B1⟩
end Go.Proofs.Ytkikdjphmnbmaaa
namespace Go.Proofs.Ytkikdjphmnbmaaa
open Go Go.RowKit

set_option maxRecDepth 100000 in
set_option maxHeartbeats 1000000 in
theorem Store_any {w : World} {base : Nat} {H : HV} {s : Hp.Hs} (h : Rep w base H s.flat) (ok : s.Ok) (ref i : Int) (v : Hp.Vl) (hr : -9223372036854775808 ≤ ref ∧ ref ≤ 9223372036854775807) :
    Calls Try.prog 15 #[.pointer (some ⟨H.hb, 0, none⟩), .int .i64 ref, .int .i64 i, vA v] w fun e w' => e = .returned (.int .i64 (s.st ref i v).2) ∧ Went w w' base H H (s.st ref i v).1.flat := by
  have HM := hid (fun X (k : Below w.heap.size w X) => isMade_any (h.below k))
  have HR := hid h
  have hgen := h.hb_lt
  obtain ⟨k0, -⟩ := h.cells
  have HP := hid (fun X (k : Below w.heap.size w X) => Went.start (base := base) k (Went.refl (h.below k)))
  obtain ⟨hb, hhb⟩ : ∃ hb, hb = H.hb := ⟨_, rfl⟩
  by_cases hn : ∀ t, s.thing ref = some t → t.cl ≠ -1
  · obtain ⟨-, e2⟩ := Hp.el_ref (i := i) (v := v) hn
    rw [e2]
    have HE := hid (fun X (k : Below w.heap.size w X) => element_ref (h.below k) ok ref i hr (isArr_no hn))
    obtain ⟨ib, hib⟩ : ∃ ib, ib = H.ib := ⟨_, rfl⟩
    rw [← hhb] at hgen k0 HM ⊢
    rw [← hib] at k0 HE
    unfold placeNone at HE
    unfold vA
    clear h hn e2 hib hhb
    go_enter Try.func15, Try.ntmps15
    go_wp2_with fail
    refine (HM.out _ (by repeat' first | with_reducible exact Below.refl _ _ | with_reducible assumption | with_reducible refine belows_drewN ?_ _ | with_reducible refine Below.drew ?_ | with_reducible refine Below.setCell ?_ ?_ _ | with_reducible refine Below.alloc ?_ ?_ _ | omega | (simp; done) | (simp; omega))).mono ?_
    rintro e w1 ⟨rfl, rfl⟩
    go_wp2_with fail
    refine (HE.out _ (by repeat' first | with_reducible exact Below.refl _ _ | with_reducible assumption | with_reducible refine belows_drewN ?_ _ | with_reducible refine Below.drew ?_ | with_reducible refine Below.setCell ?_ ?_ _ | with_reducible refine Below.alloc ?_ ?_ _ | omega | (simp; done) | (simp; omega))).mono ?_
    rintro e w2 ⟨rfl, hb2⟩
    have B2 := belows (B := w.heap.size) (a := w) (by repeat' first | with_reducible exact Below.refl _ _ | with_reducible assumption | with_reducible refine belows_drewN ?_ _ | with_reducible refine Below.drew ?_ | with_reducible refine Below.setCell ?_ ?_ _ | with_reducible refine Below.alloc ?_ ?_ _ | omega | (simp; done) | (simp; omega)) hb2 (by simp)
    have hz := B2.size
    go_wp2
    go_ret
    exact ⟨rfl, HP.out _ (by repeat' first | with_reducible exact Below.refl _ _ | with_reducible assumption | with_reducible refine belows_drewN ?_ _ | with_reducible refine Below.drew ?_ | with_reducible refine Below.setCell ?_ ?_ _ | with_reducible refine Below.alloc ?_ ?_ _ | omega | (simp; done) | (simp; omega))⟩
  · obtain ⟨t, hth, hc0⟩ : ∃ t, s.thing ref = some t ∧ ¬ t.cl ≠ -1 := by
      refine Classical.byContradiction fun hx => hn fun t ht hc => ?_
      exact hx ⟨t, ht, fun g => g hc⟩
    have hc : t.cl = -1 := Classical.byContradiction hc0
    obtain ⟨r1, r2, hk⟩ := thing_at hth
    obtain ⟨k, hkk⟩ : ∃ k, k = (ref - 1).toNat := ⟨_, rfl⟩
    rw [← hkk] at hk
    have hrk : ref = (k : Int) + 1 := by omega
    by_cases hi : i < 0 ∨ (t.vs.length : Int) ≤ i
    · obtain ⟨-, e2⟩ := Hp.el_idx (v := v) hth hc hi
      rw [e2]
      have HE := hid (fun X (b : Below w.heap.size w X) => element_idx (h.below b) ok hk hc i hi)
      rw [← hrk] at HE
      obtain ⟨ib, hib⟩ : ∃ ib, ib = H.ib := ⟨_, rfl⟩
      rw [← hhb] at hgen k0 HM ⊢
      rw [← hib] at k0 HE
      unfold placeNone at HE
      unfold vA
      clear h hn e2 hib hhb hi hrk hkk hk r1 r2 hth hc
      go_enter Try.func15, Try.ntmps15
      go_wp2_with fail
      refine (HM.out _ (by repeat' first | with_reducible exact Below.refl _ _ | with_reducible assumption | with_reducible refine belows_drewN ?_ _ | with_reducible refine Below.drew ?_ | with_reducible refine Below.setCell ?_ ?_ _ | with_reducible refine Below.alloc ?_ ?_ _ | omega | (simp; done) | (simp; omega))).mono ?_
      rintro e w1 ⟨rfl, rfl⟩
      go_wp2_with fail
      refine (HE.out _ (by repeat' first | with_reducible exact Below.refl _ _ | with_reducible assumption | with_reducible refine belows_drewN ?_ _ | with_reducible refine Below.drew ?_ | with_reducible refine Below.setCell ?_ ?_ _ | with_reducible refine Below.alloc ?_ ?_ _ | omega | (simp; done) | (simp; omega))).mono ?_
      rintro e w2 ⟨rfl, hb2⟩
      have B2 := belows (B := w.heap.size) (a := w) (by repeat' first | with_reducible exact Below.refl _ _ | with_reducible assumption | with_reducible refine belows_drewN ?_ _ | with_reducible refine Below.drew ?_ | with_reducible refine Below.setCell ?_ ?_ _ | with_reducible refine Below.alloc ?_ ?_ _ | omega | (simp; done) | (simp; omega)) hb2 (by simp)
      have hz := B2.size
      go_wp2
      go_ret
      exact ⟨rfl, HP.out _ (by repeat' first | with_reducible exact Below.refl _ _ | with_reducible assumption | with_reducible refine belows_drewN ?_ _ | with_reducible refine Below.drew ?_ | with_reducible refine Below.setCell ?_ ?_ _ | with_reducible refine Below.alloc ?_ ?_ _ | omega | (simp; done) | (simp; omega))⟩
    · obtain ⟨j, rfl⟩ : ∃ j : Nat, i = j := ⟨i.toNat, by omega⟩
      have hj : j < t.vs.length := by omega
      obtain ⟨u, hu⟩ : ∃ u, t.vs[j]? = some u := ⟨_, List.getElem?_eq_getElem hj⟩
      obtain ⟨x, hx⟩ := Hp.ok_one ok (List.mem_of_getElem? hk) hc
      obtain ⟨-, e2⟩ := Hp.el_ok (v := v) hth hc hx hu
      rw [e2]
      have HE := hid (fun X (b : Below w.heap.size w X) => element_ok (h.below b) ok hk hc hx j hj)
      have HV2 := hid (fun X (b : Below w.heap.size w X) g hg => vals_at (h.below b) hk hu (g := g) hg)
      have HPut := hid (fun X (b : Below w.heap.size w X) g hg => Went.start (base := base) b (putV_thing (h.below b) v hk hj (g := g) hg))
      have HGl := hid (fun g (hg : H.d.ownBlock = some g) => Kit.own_lt h.od g hg)
      rw [hkk] at HPut
      rw [← hrk] at HE
      obtain ⟨ib, hib⟩ : ∃ ib, ib = H.ib := ⟨_, rfl⟩
      rw [← hhb] at hgen k0 HM ⊢
      rw [← hib] at k0 HE
      unfold PlPost at HE
      obtain ⟨lo, hlo⟩ : ∃ lo, lo = loV s k := ⟨_, rfl⟩
      rw [hkk] at hlo HV2 HE
      rw [← hlo] at HV2 HPut HE
      have HY := hid (fun g X (a0 : X.cell? ⟨g, lo * 2 + j * 2, none⟩ = some (.int .i64 u.k)) (a1 : X.cell? ⟨g, lo * 2 + j * 2 + 1, none⟩ = some (.int .i64 u.n)) f0 f1 hg hf => put_yes x v g (lo * 2 + j * 2) X a0 a1 f0 f1 hg hf)
      have HN := hid (fun g X hf => put_no x v g (lo * 2 + j * 2) X hf)
      unfold placeAt at HE HY HN
      unfold vA at HY HN ⊢
      clear h hn e2 hib hhb hi hrk hkk hk r1 r2 hth hc hlo hu hx
      cases hf : fitsOf x v with
      | true =>
        rw [if_pos rfl]
        have Hf := hid hf
        clear hf
        go_enter Try.func15, Try.ntmps15
        go_wp2_with fail
        refine (HM.out _ (by repeat' first | with_reducible exact Below.refl _ _ | with_reducible assumption | with_reducible refine belows_drewN ?_ _ | with_reducible refine Below.drew ?_ | with_reducible refine Below.setCell ?_ ?_ _ | with_reducible refine Below.alloc ?_ ?_ _ | omega | (simp; done) | (simp; omega))).mono ?_
        rintro e w1 ⟨rfl, rfl⟩
        go_wp2_with fail
        refine (HE.out _ (by repeat' first | with_reducible exact Below.refl _ _ | with_reducible assumption | with_reducible refine belows_drewN ?_ _ | with_reducible refine Below.drew ?_ | with_reducible refine Below.setCell ?_ ?_ _ | with_reducible refine Below.alloc ?_ ?_ _ | omega | (simp; done) | (simp; omega))).mono ?_
        rintro e w2 ⟨g, hg, rfl, hb2⟩
        have B2 := belows (B := w.heap.size) (a := w) (by repeat' first | with_reducible exact Below.refl _ _ | with_reducible assumption | with_reducible refine belows_drewN ?_ _ | with_reducible refine Below.drew ?_ | with_reducible refine Below.setCell ?_ ?_ _ | with_reducible refine Below.alloc ?_ ?_ _ | omega | (simp; done) | (simp; omega)) hb2 (by simp)
        have hz := B2.size
        have HG := hid hg
        have bv := (BX.new w #[.int .i64 v.k, .int .i64 v.n] 35).below hb2
        have d0 := bv.cell 0
        have d1 := bv.cell 1
        simp at d0 d1
        have hz1 := bv.sz
        obtain ⟨W, hW⟩ : ∃ W, W = w2.alloc (.cells #[.int .i64 x.k, .string x.s, .pointer (some ⟨g, lo * 2 + j * 2, none⟩)] 92) := ⟨_, rfl⟩
        have BW : Below w.heap.size w W := by rw [hW]; exact (by repeat' first | with_reducible exact Below.refl _ _ | with_reducible assumption | with_reducible refine belows_drewN ?_ _ | with_reducible refine Below.drew ?_ | with_reducible refine Below.setCell ?_ ?_ _ | with_reducible refine Below.alloc ?_ ?_ _ | omega | (simp; done) | (simp; omega))
        obtain ⟨a0, a1, f⟩ := HV2.out W BW g hg
        have hgl := Nat.lt_of_lt_of_le (HGl.out g hg) BW.size
        have HYW := hid (HY.out g W a0 a1 (f _) (f _) hgl Hf.out)
        rw [hW] at HYW
        clear hb2 hg bv a0 a1 f hgl
        go_wp2_with fail
        refine HYW.out.mono ?_
        rintro e w3 ⟨rfl, w4, hb4, hw⟩
        rw [← hW] at hb4
        have HFin := hid (HPut.out w4 (belows BW hb4 BW.size) g HG.out)
        rw [← hw] at HFin
        clear hW hw hb4 BW
        go_wp2
        go_ret
        exact ⟨rfl, HFin.out⟩
      | false =>
        rw [if_neg (by decide)]
        have HNo := hid (fun g X => HN.out g X hf)
        clear hf
        go_enter Try.func15, Try.ntmps15
        go_wp2_with fail
        refine (HM.out _ (by repeat' first | with_reducible exact Below.refl _ _ | with_reducible assumption | with_reducible refine belows_drewN ?_ _ | with_reducible refine Below.drew ?_ | with_reducible refine Below.setCell ?_ ?_ _ | with_reducible refine Below.alloc ?_ ?_ _ | omega | (simp; done) | (simp; omega))).mono ?_
        rintro e w1 ⟨rfl, rfl⟩
        go_wp2_with fail
        refine (HE.out _ (by repeat' first | with_reducible exact Below.refl _ _ | with_reducible assumption | with_reducible refine belows_drewN ?_ _ | with_reducible refine Below.drew ?_ | with_reducible refine Below.setCell ?_ ?_ _ | with_reducible refine Below.alloc ?_ ?_ _ | omega | (simp; done) | (simp; omega))).mono ?_
        rintro e w2 ⟨g, hg, rfl, hb2⟩
        have B2 := belows (B := w.heap.size) (a := w) (by repeat' first | with_reducible exact Below.refl _ _ | with_reducible assumption | with_reducible refine belows_drewN ?_ _ | with_reducible refine Below.drew ?_ | with_reducible refine Below.setCell ?_ ?_ _ | with_reducible refine Below.alloc ?_ ?_ _ | omega | (simp; done) | (simp; omega)) hb2 (by simp)
        have hz := B2.size
        have bv := (BX.new w #[.int .i64 v.k, .int .i64 v.n] 35).below hb2
        have d0 := bv.cell 0
        have d1 := bv.cell 1
        simp at d0 d1
        have hz1 := bv.sz
        clear hb2 hg bv
        go_wp2_with fail
        refine (HNo.out _ _).mono ?_
        rintro e w3 ⟨rfl, hb3⟩
        have B3 := belows (B := w.heap.size) (a := w) (by repeat' first | with_reducible exact Below.refl _ _ | with_reducible assumption | with_reducible refine belows_drewN ?_ _ | with_reducible refine Below.drew ?_ | with_reducible refine Below.setCell ?_ ?_ _ | with_reducible refine Below.alloc ?_ ?_ _ | omega | (simp; done) | (simp; omega)) hb3 (by simp; omega)
        go_wp2
        go_ret
        exact ⟨rfl, HP.out _ (by repeat' first | with_reducible exact Below.refl _ _ | with_reducible assumption | with_reducible refine belows_drewN ?_ _ | with_reducible refine Below.drew ?_ | with_reducible refine Below.setCell ?_ ?_ _ | with_reducible refine Below.alloc ?_ ?_ _ | omega | (simp; done) | (simp; omega))⟩
theorem BX.set2 {w : World} {b : Nat} {T : TypeId} {c0 c1 : Value} (h : BX w b #[c0, c1] T) (u0 u1 : Value) (o : Obj) : (((w.setCell ⟨b, 0, none⟩ u0).setCell ⟨b, 1, none⟩ u1).alloc o).cell? ⟨b, 0, none⟩ = some u0 ∧ (((w.setCell ⟨b, 0, none⟩ u0).setCell ⟨b, 1, none⟩ u1).alloc o).cell? ⟨b, 1, none⟩ = some u1 := by
  have e := ((h.set 0 u0).set 1 u1).below ((Below.refl _ _).alloc (Nat.le_refl _) o)
  have e0 := e.cell 0
  have e1 := e.cell 1
  simp only [List.setIfInBounds_toArray, List.set_cons_zero, List.set_cons_succ] at e0 e1
  exact ⟨e0, e1⟩
set_option maxRecDepth 100000 in
set_option maxHeartbeats 1000000 in
theorem Load_any {w : World} {base : Nat} {H : HV} {s : Hp.Hs} (h : Rep w base H s.flat) (ok : s.Ok) (ref i : Int) (hr : -9223372036854775808 ≤ ref ∧ ref ≤ 9223372036854775807) :
    Calls Try.prog 16 #[.pointer (some ⟨H.hb, 0, none⟩), .int .i64 ref, .int .i64 i] w fun e w' => e = .returned (.tuple #[vA (s.el ref i).1, .int .i64 (s.el ref i).2]) ∧ Below w.heap.size w w' := by
  have HM := hid (fun X (k : Below w.heap.size w X) => isMade_any (h.below k))
  have hgen := h.hb_lt
  obtain ⟨k0, -⟩ := h.cells
  obtain ⟨hb, hhb⟩ : ∃ hb, hb = H.hb := ⟨_, rfl⟩
  by_cases hn : ∀ t, s.thing ref = some t → t.cl ≠ -1
  · obtain ⟨e2, -⟩ := Hp.el_ref (i := i) (v := Hp.V0) hn
    rw [e2]
    have HE := hid (fun X (k : Below w.heap.size w X) => element_ref (h.below k) ok ref i hr (isArr_no hn))
    obtain ⟨ib, hib⟩ : ∃ ib, ib = H.ib := ⟨_, rfl⟩
    rw [← hhb] at hgen k0 HM ⊢
    rw [← hib] at k0 HE
    unfold placeNone at HE
    unfold vA Hp.V0
    clear h hn e2 hib hhb
    (go_enter Try.func16, Try.ntmps16; go_wp2_with fail; refine (HM.out _ (by repeat' first | with_reducible exact Below.refl _ _ | with_reducible assumption | with_reducible refine belows_drewN ?_ _ | with_reducible refine Below.drew ?_ | with_reducible refine Below.setCell ?_ ?_ _ | with_reducible refine Below.alloc ?_ ?_ _ | omega | (simp; done) | (simp; omega))).mono ?_; rintro e w1 ⟨rfl, rfl⟩; go_wp2_with fail; refine (HE.out _ (by repeat' first | with_reducible exact Below.refl _ _ | with_reducible assumption | with_reducible refine belows_drewN ?_ _ | with_reducible refine Below.drew ?_ | with_reducible refine Below.setCell ?_ ?_ _ | with_reducible refine Below.alloc ?_ ?_ _ | omega | (simp; done) | (simp; omega))).mono ?_)
    rintro e w2 ⟨rfl, hb2⟩
    (have B2 := belows (B := w.heap.size) (a := w) (by repeat' first | with_reducible exact Below.refl _ _ | with_reducible assumption | with_reducible refine belows_drewN ?_ _ | with_reducible refine Below.drew ?_ | with_reducible refine Below.setCell ?_ ?_ _ | with_reducible refine Below.alloc ?_ ?_ _ | omega | (simp; done) | (simp; omega)) hb2 (by simp); have hz := B2.size; have bv := (BX.new w #[.int .i64 0, .int .i64 0] 35).below hb2; have d0 := bv.cell 0; have d1 := bv.cell 1; have f0 := bv.frozen 0; have f1 := bv.frozen 1; simp at d0 d1; have hz1 := bv.sz; have HB := hid bv; clear bv hb2)
    go_wp2
    exact bodyPost_ret (v := .tuple #[.agg #[.int .i64 0, .int .i64 0], .int .i64 60]) (by (obtain ⟨e0, e1⟩ := HB.out.set2 (.int .i64 0) (.int .i64 0) (.cells #[.int .i64 0, .string ⟨#[]⟩, .pointer none] 92)); simp [results, Try.results16, go_sem, e0, e1]) rfl ⟨rfl, (by repeat' first | with_reducible exact Below.refl _ _ | with_reducible assumption | with_reducible refine belows_drewN ?_ _ | with_reducible refine Below.drew ?_ | with_reducible refine Below.setCell ?_ ?_ _ | with_reducible refine Below.alloc ?_ ?_ _ | omega | (simp; done) | (simp; omega))⟩
  · obtain ⟨t, hth, hc0⟩ : ∃ t, s.thing ref = some t ∧ ¬ t.cl ≠ -1 := by
      refine Classical.byContradiction fun hx => hn fun t ht hc => ?_
      exact hx ⟨t, ht, fun g => g hc⟩
    have hc : t.cl = -1 := Classical.byContradiction hc0
    obtain ⟨r1, r2, hk⟩ := thing_at hth
    obtain ⟨k, hkk⟩ : ∃ k, k = (ref - 1).toNat := ⟨_, rfl⟩
    rw [← hkk] at hk
    have hrk : ref = (k : Int) + 1 := by omega
    by_cases hi : i < 0 ∨ (t.vs.length : Int) ≤ i
    · obtain ⟨e2, -⟩ := Hp.el_idx (v := Hp.V0) hth hc hi
      rw [e2]
      have HE := hid (fun X (b : Below w.heap.size w X) => element_idx (h.below b) ok hk hc i hi)
      rw [← hrk] at HE
      obtain ⟨ib, hib⟩ : ∃ ib, ib = H.ib := ⟨_, rfl⟩
      rw [← hhb] at hgen k0 HM ⊢
      rw [← hib] at k0 HE
      unfold placeNone at HE
      unfold vA Hp.V0
      clear h hn e2 hib hhb hi hrk hkk hk r1 r2 hth hc
      (go_enter Try.func16, Try.ntmps16; go_wp2_with fail; refine (HM.out _ (by repeat' first | with_reducible exact Below.refl _ _ | with_reducible assumption | with_reducible refine belows_drewN ?_ _ | with_reducible refine Below.drew ?_ | with_reducible refine Below.setCell ?_ ?_ _ | with_reducible refine Below.alloc ?_ ?_ _ | omega | (simp; done) | (simp; omega))).mono ?_; rintro e w1 ⟨rfl, rfl⟩; go_wp2_with fail; refine (HE.out _ (by repeat' first | with_reducible exact Below.refl _ _ | with_reducible assumption | with_reducible refine belows_drewN ?_ _ | with_reducible refine Below.drew ?_ | with_reducible refine Below.setCell ?_ ?_ _ | with_reducible refine Below.alloc ?_ ?_ _ | omega | (simp; done) | (simp; omega))).mono ?_)
      rintro e w2 ⟨rfl, hb2⟩
      (have B2 := belows (B := w.heap.size) (a := w) (by repeat' first | with_reducible exact Below.refl _ _ | with_reducible assumption | with_reducible refine belows_drewN ?_ _ | with_reducible refine Below.drew ?_ | with_reducible refine Below.setCell ?_ ?_ _ | with_reducible refine Below.alloc ?_ ?_ _ | omega | (simp; done) | (simp; omega)) hb2 (by simp); have hz := B2.size; have bv := (BX.new w #[.int .i64 0, .int .i64 0] 35).below hb2; have d0 := bv.cell 0; have d1 := bv.cell 1; have f0 := bv.frozen 0; have f1 := bv.frozen 1; simp at d0 d1; have hz1 := bv.sz; have HB := hid bv; clear bv hb2)
      go_wp2
      exact bodyPost_ret (v := .tuple #[.agg #[.int .i64 0, .int .i64 0], .int .i64 61]) (by (obtain ⟨e0, e1⟩ := HB.out.set2 (.int .i64 0) (.int .i64 0) (.cells #[.int .i64 0, .string ⟨#[]⟩, .pointer none] 92)); simp [results, Try.results16, go_sem, e0, e1]) rfl ⟨rfl, (by repeat' first | with_reducible exact Below.refl _ _ | with_reducible assumption | with_reducible refine belows_drewN ?_ _ | with_reducible refine Below.drew ?_ | with_reducible refine Below.setCell ?_ ?_ _ | with_reducible refine Below.alloc ?_ ?_ _ | omega | (simp; done) | (simp; omega))⟩
    · obtain ⟨j, rfl⟩ : ∃ j : Nat, i = j := ⟨i.toNat, by omega⟩
      have hj : j < t.vs.length := by omega
      obtain ⟨u, hu⟩ : ∃ u, t.vs[j]? = some u := ⟨_, List.getElem?_eq_getElem hj⟩
      obtain ⟨x, hx⟩ := Hp.ok_one ok (List.mem_of_getElem? hk) hc
      obtain ⟨e2, -⟩ := Hp.el_ok (v := Hp.V0) hth hc hx hu
      rw [e2]
      have HE := hid (fun X (b : Below w.heap.size w X) => element_ok (h.below b) ok hk hc hx j hj)
      have HV2 := hid (fun X (b : Below w.heap.size w X) g hg => vals_at (h.below b) hk hu (g := g) hg)
      have HGl := hid (fun g (hg : H.d.ownBlock = some g) => Kit.own_lt h.od g hg)
      rw [← hrk] at HE
      obtain ⟨ib, hib⟩ : ∃ ib, ib = H.ib := ⟨_, rfl⟩
      rw [← hhb] at hgen k0 HM ⊢
      rw [← hib] at k0 HE
      unfold PlPost at HE
      obtain ⟨lo, hlo⟩ : ∃ lo, lo = loV s k := ⟨_, rfl⟩
      rw [hkk] at hlo HV2 HE
      rw [← hlo] at HV2 HE
      unfold placeAt at HE
      unfold vA
      clear h hn e2 hib hhb hi hrk hkk hk r1 r2 hth hc hlo hu hx
      (go_enter Try.func16, Try.ntmps16; go_wp2_with fail; refine (HM.out _ (by repeat' first | with_reducible exact Below.refl _ _ | with_reducible assumption | with_reducible refine belows_drewN ?_ _ | with_reducible refine Below.drew ?_ | with_reducible refine Below.setCell ?_ ?_ _ | with_reducible refine Below.alloc ?_ ?_ _ | omega | (simp; done) | (simp; omega))).mono ?_; rintro e w1 ⟨rfl, rfl⟩; go_wp2_with fail; refine (HE.out _ (by repeat' first | with_reducible exact Below.refl _ _ | with_reducible assumption | with_reducible refine belows_drewN ?_ _ | with_reducible refine Below.drew ?_ | with_reducible refine Below.setCell ?_ ?_ _ | with_reducible refine Below.alloc ?_ ?_ _ | omega | (simp; done) | (simp; omega))).mono ?_)
      rintro e w2 ⟨g, hg, rfl, hb2⟩
      (have B2 := belows (B := w.heap.size) (a := w) (by repeat' first | with_reducible exact Below.refl _ _ | with_reducible assumption | with_reducible refine belows_drewN ?_ _ | with_reducible refine Below.drew ?_ | with_reducible refine Below.setCell ?_ ?_ _ | with_reducible refine Below.alloc ?_ ?_ _ | omega | (simp; done) | (simp; omega)) hb2 (by simp); have hz := B2.size; have bv := (BX.new w #[.int .i64 0, .int .i64 0] 35).below hb2; have d0 := bv.cell 0; have d1 := bv.cell 1; have f0 := bv.frozen 0; have f1 := bv.frozen 1; simp at d0 d1; have hz1 := bv.sz; have HB := hid bv; clear bv hb2)
      obtain ⟨W, hW⟩ : ∃ W, W = w2.alloc (.cells #[.int .i64 x.k, .string x.s, .pointer (some ⟨g, lo * 2 + j * 2, none⟩)] 92) := ⟨_, rfl⟩
      have BW : Below w.heap.size w W := by rw [hW]; exact (by repeat' first | with_reducible exact Below.refl _ _ | with_reducible assumption | with_reducible refine belows_drewN ?_ _ | with_reducible refine Below.drew ?_ | with_reducible refine Below.setCell ?_ ?_ _ | with_reducible refine Below.alloc ?_ ?_ _ | omega | (simp; done) | (simp; omega))
      obtain ⟨a0, a1, -⟩ := HV2.out W BW g hg
      rw [hW] at a0 a1
      clear hg hW BW
      go_wp2
      exact bodyPost_ret (v := .tuple #[.agg #[.int .i64 u.k, .int .i64 u.n], .int .i64 0]) (by (obtain ⟨e0, e1⟩ := HB.out.set2 (.int .i64 u.k) (.int .i64 u.n) (.cells #[.int .i64 x.k, .string x.s, .pointer (some ⟨g, lo * 2 + j * 2, none⟩)] 92)); simp [results, Try.results16, go_sem, e0, e1]) rfl ⟨rfl, (by repeat' first | with_reducible exact Below.refl _ _ | with_reducible assumption | with_reducible refine belows_drewN ?_ _ | with_reducible refine Below.drew ?_ | with_reducible refine Below.setCell ?_ ?_ _ | with_reducible refine Below.alloc ?_ ?_ _ | omega | (simp; done) | (simp; omega))⟩
end Go.Proofs.Ytkikdjphmnbmaaa
namespace Go.Proofs.Ytkikdjphmnbmaaa
open Go Go.RowKit

theorem A.laid : laidOutB Try.prog = true := by kernel_rfl
theorem A.keyT : Try.prog.keyType 49 = true := by kernel_rfl
theorem A.keyed : Maps.Keyed Try.prog 49 := Maps.Keyed.of_law (deep_law_laid A.laid (m := 3) (by omega) (of_decide_eq_true (by kernel_rfl)) (by kernel_rfl) (by kernel_rfl))
theorem A.tsz : ∃ k, Try.prog.types.size + 1 = k + 2 := ⟨Try.prog.types.size - 1, by have : 1 ≤ Try.prog.types.size := of_decide_eq_true (by kernel_rfl); omega⟩
def I8 (a : Int) : Prop := -9223372036854775808 ≤ a ∧ a ≤ 9223372036854775807
theorem i8_wf {a : Int} (h : I8 a) : (Lit.int .i64 a).wf = true := by
  unfold I8 at h
  simp [Lit.wf, IntKind.min, IntKind.max, IntKind.signed, IntKind.bits]
  omega
theorem A.lits2 (a b : Int) (h1 : I8 a) (h2 : I8 b) : Try.prog.keyLits (Try.prog.types.size + 1) 49 [.int .i64 a, .int .i64 b] = some [.int .i64 a, .int .i64 b] := by
  obtain ⟨k, hk⟩ := A.tsz
  have c1 : Try.prog.cellsOf 49 = 2 := by kernel_rfl
  have c2 : Try.prog.cellsOf 2 = 1 := by kernel_rfl
  rw [hk]
  simp [Program.keyLits, Try.underlying49, Try.underlying2, c1, c2, i8_wf h1, i8_wf h2, List.range, List.range.loop]
theorem A.key2 (a b : Int) (h1 : I8 a) (h2 : I8 b) : keyOf Try.prog 49 (.agg #[.int .i64 a, .int .i64 b]) = some (.string (keyBytes [.int .i64 a, .int .i64 b])) := by
  have c1 : Try.prog.cellsOf 49 = 2 := by kernel_rfl
  unfold keyOf
  rw [Try.underlying49]
  dsimp only
  rw [if_pos (by simp [A.keyT, Value.formed, Try.underlying49, c1])]
  show Option.map _ (Try.prog.keyLits (Try.prog.types.size + 1) 49 [.int .i64 a, .int .i64 b]) = _
  rw [A.lits2 a b h1 h2]
  rfl
theorem A.zeroI (w : World) : (zeroValue 2).run Try.prog w = .ok (.int .i64 0) w := by kernel_rfl
def kl2 (a b : Int) : Lit := .string (keyBytes [.int .i64 a, .int .i64 b])
theorem kl2_inj {a b c d : Int} (h1 : I8 a) (h2 : I8 b) (h3 : I8 c) (h4 : I8 d) (h : kl2 a b = kl2 c d) : a = c ∧ b = d := by
  have e := keyLits_inj (A.lits2 a b h1 h2) (A.lits2 c d h3 h4) (Lit.string.inj h)
  simp only [List.cons.injEq, Lit.int.injEq, true_and, and_true] at e
  exact e
/-- A map that is a function of two numbers. -/
def WM (w : World) (mb n : Nat) (f : Int → Int → Int) : Prop := ∃ D : DataW Unit, w.ownsMap Try.prog 49 (plainElem Try.prog 2) mb n D ∧ ∀ a b, I8 a → I8 b → D.atKey (kl2 a b) (.lit (.int .i64 0)) = .lit (.int .i64 (f a b))
theorem WM.new (w : World) : WM (w.alloc (.map #[] 0)) w.heap.size 0 (fun _ _ => 0) := ⟨.map [], World.ownsMap_made w _ _ _, fun _ _ _ _ => rfl⟩
theorem WM.keep {w w' : World} {mb n : Nat} {f : Int → Int → Int} (h : WM w mb n f) (hb : w'.heap[mb]? = w.heap[mb]?) : WM w' mb n f := by
  obtain ⟨D, ⟨es, clock, h1, h2, h3, h4⟩, hd⟩ := h
  exact ⟨D, ⟨es, clock, hb.trans h1, h2, h3, h4⟩, hd⟩
set_option maxRecDepth 100000
theorem WM.is {w : World} {mb n : Nat} {f : Int → Int → Int} (h : WM w mb n f) : ∃ es c, w.heap[mb]? = some (.map es c) := by
  obtain ⟨D, ⟨es, clock, h1, -⟩, -⟩ := h
  exact ⟨es, clock, h1⟩
theorem WM.lt {w : World} {mb n : Nat} {f : Int → Int → Int} (h : WM w mb n f) : mb < w.heap.size := by
  obtain ⟨es, c, h1⟩ := h.is
  exact (Array.getElem?_eq_some_iff.1 h1).1
theorem WM.below {w w' : World} {mb n : Nat} {f : Int → Int → Int} (h : WM w mb n f) (hb : Below w.heap.size w w') : WM w' mb n f := h.keep (hb.block mb h.lt)
theorem WM.look {w : World} {mb n : Nat} {f : Int → Int → Int} (h : WM w mb n f) (a b : Int) (ha : I8 a) (hb : I8 b) :
    (Instr.lookup 44 (.map (some mb)) (.agg #[.int .i64 a, .int .i64 b]) false).run Try.prog w = .ok (.int .i64 (f a b)) w := by
  obtain ⟨D, h1, h2⟩ := h
  obtain ⟨c, hrun, hc, -⟩ := h1.lookup_int A.keyed Try.underlying44 Try.underlying2 (A.zeroI w) (A.key2 a b ha hb)
  have e := h2 a b ha hb
  unfold kl2 at e
  rw [e] at hc
  simp only [DataW.lit.injEq, Lit.int.injEq, true_and] at hc
  rw [hrun, hc]
def updI (f : Int → Int → Int) (a b x : Int) : Int → Int → Int := fun a' b' => if a' = a ∧ b' = b then x else f a' b'
theorem WM.put {w : World} {mb n : Nat} {f : Int → Int → Int} (h : WM w mb n f) (a b x : Int) (ha : I8 a) (hb : I8 b) (hx : I8 x) (hn : n < maxLen) :
    ∃ w', (Instr.mapUpdate 44 (.map (some mb)) (.agg #[.int .i64 a, .int .i64 b]) (.int .i64 x)).run Try.prog w = .ok () w' ∧ WM w' mb (n + 1) (updI f a b x) ∧ w.grownBy w' (some mb) := by
  obtain ⟨D, h1, h2⟩ := h
  obtain ⟨w', hr, ho, hg⟩ := h1.update A.keyed Try.underlying44 hn (A.key2 a b ha hb) (plainElem_int Try.underlying2 (i8_wf hx))
  refine ⟨w', hr, ⟨_, ho, fun a' b' ha' hb' => ?_⟩, hg⟩
  unfold updI
  by_cases e : a' = a ∧ b' = b
  · obtain ⟨rfl, rfl⟩ := e
    rw [if_pos ⟨rfl, rfl⟩]
    exact Maps.atKey_put_same h1.isMap (by trivial) _ _
  · rw [if_neg e]
    exact (Maps.atKey_put_other (k' := kl2 a' b') (k := kl2 a b) (fun k => e (kl2_inj ha' hb' ha hb k)) _ _).trans (h2 a' b' ha' hb')
/-- The blocks of a heap are blocks of cells. -/
theorem Rep.foot_cells {w : World} {base : Nat} {H : HV} {s : Hp.St} (h : Rep w base H s) : ∀ k, H.foot k → ∃ cs t, w.heap[k]? = some (.cells cs t (0, 0)) ∧ t ≠ 2 := by
  have own : ∀ {v : Value} {e : TypeId} {z n : Nat} {xs : List Value} {k : Nat}, w.ownsRow base e z v n xs → v.ownBlock = some k → e ≠ 2 → ∃ cs t, w.heap[k]? = some (.cells cs t (0, 0)) ∧ t ≠ 2 := by
    intro v e z n xs k ho hk he
    rcases ho.2 with ⟨rfl, -⟩ | ⟨g, cap, cur, rfl, hg, hh, -⟩
    · simp [Value.ownBlock] at hk
    · simp only [Value.ownBlock, Option.some.injEq] at hk
      subst hk
      exact ⟨_, _, hh, he⟩
  rintro k (rfl | rfl | e | e | e | e | e)
  · exact ⟨_, _, h.box, by decide⟩
  · exact ⟨_, _, h.ins, by decide⟩
  · exact own h.oa e (by decide)
  · exact own h.ob e (by decide)
  · exact own h.oc e (by decide)
  · exact own h.od e (by decide)
  · exact own h.oe e (by decide)
theorem Rep.off_map {w : World} {base : Nat} {H : HV} {s : Hp.St} (h : Rep w base H s) {mb n : Nat} {f : Int → Int → Int} (hm : WM w mb n f) : ¬ H.foot mb := fun e => by
  obtain ⟨cs, t, h1, -⟩ := h.foot_cells _ e
  obtain ⟨es, c, h2⟩ := hm.is
  rw [h1] at h2
  simp at h2
theorem Rep.off_i64 {w : World} {base : Nat} {H : HV} {s : Hp.St} (h : Rep w base H s) {b n z : Nat} {v : Value} {xs : List Value} (ho : w.ownsRow b 2 z v n xs) : ∀ k, v.ownBlock = some k → ¬ H.foot k := fun k hk e => by
  obtain ⟨cs, t, h1, h2⟩ := h.foot_cells _ e
  exact own_unlike_box ho h1 (Ne.symm h2) hk
theorem own_map {w : World} {b n z m mb : Nat} {v : Value} {xs : List Value} {e : TypeId} {f : Int → Int → Int} (ho : w.ownsRow b e z v n xs) (hm : WM w mb m f) : v.ownBlock ≠ some mb := fun hk => by
  obtain ⟨es, c, h2⟩ := hm.is
  rcases ho.2 with ⟨rfl, -⟩ | ⟨g, cap, cur, rfl, hg, hh, -⟩
  · simp [Value.ownBlock] at hk
  · simp only [Value.ownBlock, Option.some.injEq] at hk
    subst hk
    rw [hh] at h2
    simp at h2
namespace Hp
/-- Arrays of numbers, each place as a function says. -/
def arrs (ns : List Nat) (f : Int → Int → Int) : List Th := ns.mapIdx fun r n => ⟨-1, [tJ], (List.range n).map fun j : Nat => ⟨2, f ((r : Int) + 1) (j : Int)⟩⟩
theorem arrs_len (ns : List Nat) (f : Int → Int → Int) : (arrs ns f).length = ns.length := by simp [arrs]
theorem arrs_at {ns : List Nat} {f : Int → Int → Int} {r n : Nat} (h : ns[r]? = some n) : (arrs ns f)[r]? = some ⟨-1, [tJ], (List.range n).map fun j : Nat => ⟨2, f ((r : Int) + 1) (j : Int)⟩⟩ := by
  simp [arrs, h]
theorem arrs_snoc (ns : List Nat) (n : Nat) : arrs ns (fun _ _ => 0) ++ [⟨-1, [tJ], List.replicate n ⟨2, 0⟩⟩] = arrs (ns ++ [n]) (fun _ _ => 0) := by
  unfold arrs
  rw [List.mapIdx_concat]
  congr 3
  exact (List.map_const' ..).symm ▸ (by simp)
theorem arrs_put {ns : List Nat} {f : Int → Int → Int} {r n j : Nat} {x : Int} (h : ns[r]? = some n) (hj : j < n) :
    (arrs ns f).set r ⟨-1, [tJ], ((List.range n).map fun j : Nat => (⟨2, f ((r : Int) + 1) (j : Int)⟩ : Vl)).set j ⟨2, x⟩⟩ = arrs ns (updI f ((r : Int) + 1) j x) := by
  apply List.ext_getElem?
  intro q
  rw [List.getElem?_set]
  by_cases hq : r = q
  · subst hq
    rw [if_pos rfl, if_pos (by rw [arrs_len]; exact (List.getElem?_eq_some_iff.1 h).1), arrs_at h]
    congr 2
    apply List.ext_getElem?
    intro k
    rw [List.getElem?_set, List.length_map, List.length_range]
    by_cases hk : j = k
    · subst hk
      rw [if_pos rfl, if_pos hj]
      simp [hj, updI]
    · rw [if_neg hk]
      simp only [List.getElem?_map]
      by_cases hkn : k < n
      · rw [List.getElem?_range hkn]
        simp only [Option.map_some, updI]
        rw [if_neg (by omega)]
      · rw [List.getElem?_eq_none (by simpa using hkn)]
        rfl
  · rw [if_neg hq]
    simp only [arrs, List.getElem?_mapIdx]
    cases ns[q]? with
    | none => rfl
    | some m =>
      simp only [Option.map_some]
      congr 2
      apply List.map_congr_left
      intro k _
      unfold updI
      rw [if_neg (by omega)]
end Hp
end Go.Proofs.Ytkikdjphmnbmaaa
namespace Go.Proofs.Ytkikdjphmnbmaaa
open Go.ChangeShapes Go.WideShapes Go.ChangeAt Go.RowKit Go.WideMaps Go.WideElems

set_option maxRecDepth 100000
theorem flat_one {α : Type} (f : α → Value) : ∀ l : List α, l.flatMap (fun x => [f x]) = l.map f
  | [] => rfl
  | x :: l => by rw [List.flatMap_cons, flat_one f l]; rfl
section
variable {H : Type} {enc : TypeId × Value → H}
theorem weights_allT {P : Program} {e : TypeId} : ∀ {ds : List (DataW H)} {d : DataW H}, d ∈ ds → (DataW.weightsAll P e ds).all (· ≤ reachBytes) = true → (d.weights P e).all (· ≤ reachBytes) = true
  | [], _, h, _ => by cases h
  | x :: r, d, h, hw => by
    simp only [DataW.weightsAll, List.all_append, Bool.and_eq_true] at hw
    rcases List.mem_cons.1 h with rfl | h
    · exact hw.1
    · exact weights_allT h hw.2
theorem bulk_pos (d : DataW H) : 1 ≤ Rows.uptoBulk d := by
  cases d with
  | lit l => cases l <;> simp [Rows.uptoBulk]
  | _ => simp [Rows.uptoBulk]
theorem bulk_len : ∀ l : List (DataW H), l.length ≤ Rows.uptoBulkAll l
  | [] => by simp [Rows.uptoBulkAll]
  | x :: r => by have h1 := bulk_pos x; have h2 := bulk_len r; simp only [Rows.uptoBulkAll, List.length_cons]; omega
theorem bulk_mem : ∀ {l : List (DataW H)} {d : DataW H}, d ∈ l → Rows.uptoBulk d ≤ Rows.uptoBulkAll l
  | [], _, h => by cases h
  | x :: r, d, h => by
    simp only [Rows.uptoBulkAll]
    rcases List.mem_cons.1 h with rfl | h
    · omega
    · have := bulk_mem h; omega
theorem A.cellsInt : Try.prog.cellsOf 3 = 1 := by kernel_rfl
theorem A.cellsI64 : Try.prog.cellsOf 2 = 1 := by kernel_rfl
theorem A.cellsStr : Try.prog.cellsOf 9 = 1 := by kernel_rfl
theorem A.cellsTy : Try.prog.cellsOf 33 = 2 := by kernel_rfl
theorem A.cellsVl : Try.prog.cellsOf 35 = 2 := by kernel_rfl
theorem A.cellsTys : Try.prog.cellsOf 31 = 1 := by kernel_rfl
set_option maxRecDepth 100000 in
/-- A list of things of so many cells each, in a cell. -/
theorem list_cell {α : Type} {W : World} {n : Nat} {k : Value} {y : DataW H × List MemPlace} {tS tE : TypeId} {s by_ : Nat} (G : DataW H → List Value → α → Prop) (hG : ∀ d cs x, G d cs x → cs.length = s) (hs : 0 < s)
    (hu : Try.prog.underlying tS = some (.slice tE)) (hco : Try.prog.cellsOf tE = s) (hby : Try.prog.bytesOf tE = by_) (hb0 : 0 < by_)
    (he : ∀ (m : Nat) (cs : List Value) (z : DataW H × List MemPlace), DataW.trod enc Try.prog W 0 (fun _ => true) true m tE cs = some z → (z.1.weights Try.prog tE).all (· ≤ reachBytes) = true → ∃ x, G z.1 cs x)
    (h : DataW.trod enc Try.prog W 0 (fun _ => true) true n tS [k] = some y) (hw : (y.1.weights Try.prog tS).all (· ≤ reachBytes) = true) :
    ∃ (xs : List α) (rs : List (List Value)), rs.length = xs.length ∧ (∀ (i : Nat) (r : List Value) (x : α), rs[i]? = some r → xs[i]? = some x → ∃ d, G d r x ∧ Rows.uptoBulk d ≤ Rows.uptoBulk y.1) ∧ Kit.IsS s W k xs.length rs.flatten ∧ xs.length * by_ ≤ 140737488351232 ∧ xs.length ≤ Rows.uptoBulk y.1 := by
  rcases DataW.trod_slice hu h with ⟨hcs, rfl⟩ | ⟨a, len, cap, elems, rest, m, -, hcs, rfl, -, hl, hm, hel, hcells, hsp, -⟩
  · obtain rfl : k = .slice none 0 0 := by simpa using hcs
    exact ⟨[], [], rfl, fun i r x hr => by simp at hr, ⟨by simp, by simp, .inl ⟨rfl, none, 0, rfl⟩⟩, by simp, by simp⟩
  · obtain rfl : k = .slice (some a) len cap := by simpa using hcs
    simp only [DataW.weights, hu, List.all_cons, List.all_append, Bool.and_eq_true, decide_eq_true_eq, hby] at hw
    have hcap : len * by_ ≤ 140737488351232 := by
      have h1 := hw.1
      simp only [List.length_map, reachBytes] at h1
      rw [hel] at h1
      exact Nat.le_trans (Nat.mul_le_mul_right _ (Nat.le_add_right _ _)) h1
    have hbl : len ≤ Rows.uptoBulk (.slice (elems.map (·.1)) (rest.map (·.1)) : DataW H) := by
      have := bulk_len (elems.map (·.1))
      rw [List.length_map, hel] at this
      simp only [Rows.uptoBulk]
      omega
    have each : ∀ i, ∃ q : List Value × Option α, i < len → q.1.length = s ∧ (∀ j, j < s → W.cell? ((a.add (i * s)).add j) = q.1[j]?) ∧ ∃ x d, q.2 = some x ∧ G d q.1 x ∧ Rows.uptoBulk d ≤ Rows.uptoBulk (.slice (elems.map (·.1)) (rest.map (·.1)) : DataW H) := by
      intro i
      by_cases hi : i < len
      · have h1 := hcells i hi
        rw [hco, List.getElem?_eq_getElem (by omega), Option.bind_eq_some_iff] at h1
        obtain ⟨cs, hcs', htr⟩ := h1
        have hmem : elems[i].1 ∈ elems.map (·.1) := List.mem_map_of_mem (List.getElem_mem _)
        obtain ⟨x, hx⟩ := he _ _ _ htr (weights_allT hmem hw.2.1)
        refine ⟨(cs, some x), fun _ => ⟨hG _ _ _ hx, fun j hj => (World.cells?_some hcs').2.2 j hj, x, _, rfl, hx, ?_⟩⟩
        have := bulk_mem hmem
        simp only [Rows.uptoBulk]
        omega
      · exact ⟨([], none), fun h => absurd h hi⟩
    obtain ⟨f, hfx⟩ := Classical.skolem.1 each
    have hxs : ∃ xs : List α, xs.length = len ∧ ∀ i, i < len → xs[i]? = (f i).2 := by
      have : ∀ m, m ≤ len → ∃ xs : List α, xs.length = m ∧ ∀ i, i < m → xs[i]? = (f i).2 := by
        intro m
        induction m with
        | zero => intro _; exact ⟨[], rfl, fun i hi => by omega⟩
        | succ m ih =>
          intro hm
          obtain ⟨xs, h1, h2⟩ := ih (by omega)
          obtain ⟨-, -, x, d, hx, -⟩ := hfx m (by omega)
          refine ⟨xs ++ [x], by simp [h1], fun i hi => ?_⟩
          by_cases e : i < m
          · rw [List.getElem?_append_left (by omega)]; exact h2 i e
          · obtain rfl : i = m := by omega
            rw [List.getElem?_append_right (by omega), h1, Nat.sub_self, hx]
            rfl
      exact this len (Nat.le_refl _)
    obtain ⟨xs, hxl, hxe⟩ := hxs
    have hrl : ∀ r ∈ (List.range len).map (fun i => (f i).1), r.length = s := by
      intro r hr
      obtain ⟨i, hi, rfl⟩ := List.mem_map.1 hr
      exact (hfx i (List.mem_range.1 hi)).1
    have hfl : ∀ (rs : List (List Value)), (∀ r ∈ rs, r.length = s) → rs.flatten.length = rs.length * s ∧ ∀ i r, rs[i]? = some r → ∀ j, j < s → rs.flatten[i * s + j]? = r[j]? := by
      intro rs
      induction rs with
      | nil => intro _; exact ⟨by simp, fun i r hr => by simp at hr⟩
      | cons r0 rs ih =>
        intro hr
        obtain ⟨h1, h2⟩ := ih (fun r h => hr r (List.mem_cons_of_mem _ h))
        have h0 := hr r0 (by simp)
        refine ⟨by rw [List.flatten_cons, List.length_append, h0, h1, List.length_cons, Nat.succ_mul]; omega, fun i r hi j hj => ?_⟩
        match i, hi with
        | 0, hi =>
          simp at hi
          subst hi
          rw [List.flatten_cons, List.getElem?_append_left (by omega)]
          simp
        | i + 1, hi =>
          rw [List.flatten_cons, List.getElem?_append_right (by rw [h0, Nat.succ_mul]; omega), h0, ← h2 i r (by simpa using hi) j hj]
          congr 1
          rw [Nat.succ_mul]
          omega
    obtain ⟨hfl1, hfl2⟩ := hfl _ hrl
    have hrlen : ((List.range len).map (fun i => (f i).1)).length = len := by simp
    refine ⟨xs, (List.range len).map (fun i => (f i).1), by rw [hrlen, hxl], fun i r x hr hx => ?_, ⟨by rw [hfl1, hrlen, hxl], by rw [hxl]; exact Nat.le_trans (Nat.le_trans (Nat.le_mul_of_pos_right _ hb0) hcap) (by decide), ?_⟩, by rw [hxl]; exact hcap, by rw [hxl]; exact hbl⟩
    · have hi : i < len := by
        have := (List.getElem?_eq_some_iff.1 hx).1
        omega
      obtain ⟨-, -, x', d, hx', hg, hb⟩ := hfx i hi
      rw [hxe i hi, hx'] at hx
      cases hx
      rw [List.getElem?_map, List.getElem?_range hi] at hr
      simp only [Option.map_some, Option.some.injEq] at hr
      subst hr
      exact ⟨d, hg, hb⟩
    · by_cases h0 : len = 0
      · exact .inl ⟨by rw [hxl, h0], some a, cap, by rw [h0]⟩
      · obtain ⟨b, o, spot⟩ := a
        have hsp0 : ∃ u, W.cell? (((⟨b, o, spot⟩ : Addr).add (0 * s)).add 0) = some u := by
          obtain ⟨h1, h2, -⟩ := hfx 0 (by omega)
          refine ⟨(f 0).1[0]'(by omega), ?_⟩
          rw [h2 0 hs, List.getElem?_eq_getElem]
        obtain ⟨u0, hsp0⟩ := hsp0
        have hspot : spot = none := by
          have := World.cell?_spot hsp0
          simpa [Addr.add] using this
        subst hspot
        have hat : ∀ i j, ((⟨b, o, none⟩ : Addr).add i).add j = ⟨b, o + (i + j), none⟩ := by
          intro i j
          rw [add_plain, add_plain]; congr 1; omega
        refine .inr ⟨b, o, cap, by rw [hxl], by rw [hxl]; exact hl, ?_, fun i u hi => ?_⟩
        · have := World.block_lt_of_cell? W _ hsp0
          simpa [Addr.add] using this
        · have hil : i < len * s := by
            have := (List.getElem?_eq_some_iff.1 hi).1
            rw [hfl1, hrlen] at this
            exact this
          have hq : i / s < len := Nat.div_lt_of_lt_mul (by rw [Nat.mul_comm]; exact hil)
          have hr : i % s < s := Nat.mod_lt _ hs
          have e : i / s * s + i % s = i := by rw [Nat.mul_comm]; exact Nat.div_add_mod i s
          have hget : ((List.range len).map (fun i => (f i).1))[i / s]? = some (f (i / s)).1 := by rw [List.getElem?_map, List.getElem?_range hq]; rfl
          have h1 := hfl2 (i / s) _ hget (i % s) hr
          rw [e] at h1
          have h2 := (hfx (i / s) hq).2.1 (i % s) hr
          rw [hat, e] at h2
          rw [h2, ← h1]
          exact hi
theorem rs_map {α : Type} {f : α → List Value} {xs : List α} {rs : List (List Value)} (hl : rs.length = xs.length) (h : ∀ (i : Nat) (r : List Value) (x : α), rs[i]? = some r → xs[i]? = some x → r = f x) : rs.flatten = xs.flatMap f := by
  have e : rs = xs.map f := by
    apply List.ext_getElem?
    intro i
    rw [List.getElem?_map]
    by_cases hi : i < xs.length
    · have h1 : rs[i]? = some rs[i] := List.getElem?_eq_getElem (by omega)
      have h2 : xs[i]? = some xs[i] := List.getElem?_eq_getElem hi
      rw [h1, h2, h i _ _ h1 h2]
      rfl
    · rw [List.getElem?_eq_none (by omega), List.getElem?_eq_none (by omega)]
      rfl
  rw [e, List.flatMap_def]
def u8L (l : List Nat) : List Value := l.map fun n : Nat => .int .u8 (n : Int)
theorem u8_cell {W : World} {n : Nat} {k : Value} {y : DataW H × List MemPlace} (h : DataW.trod enc Try.prog W 0 (fun _ => true) true n 43 [k] = some y) (hw : (y.1.weights Try.prog 43).all (· ≤ reachBytes) = true) :
    ∃ l : List Nat, Kit.IsS 1 W k l.length (u8L l) ∧ ∀ x ∈ l, x ≤ 255 := by
  obtain ⟨xs, rs, h1, h2, h3, h4, h5⟩ := list_cell (s := 1) (by_ := 1) (tE := 5) (fun (_ : DataW H) cs (x : Nat) => cs = [.int .u8 (x : Int)] ∧ x ≤ 255) (fun _ _ x h => by rw [h.1]; rfl) (by decide) Try.underlying43 (by kernel_rfl) (by kernel_rfl) (by decide) (fun m cs z hz _ => by
    obtain ⟨a, e, -, w⟩ := DataW.trod_int Try.underlying5 hz
    simp [Lit.wf, IntKind.min, IntKind.max, IntKind.signed, IntKind.bits] at w
    exact ⟨a.toNat, by rw [e, Int.toNat_of_nonneg (by omega)], by omega⟩) h hw
  refine ⟨xs, ?_, fun x hx => ?_⟩
  · have e := rs_map (f := fun x : Nat => [Value.int .u8 (x : Int)]) h1 (fun i r x hr hx => by obtain ⟨d, hd, -⟩ := h2 i r x hr hx; exact hd.1)
    rw [e] at h3
    have e2 : xs.flatMap (fun x : Nat => [Value.int .u8 (x : Int)]) = u8L xs := flat_one _ _
    rw [e2] at h3
    exact h3
  · obtain ⟨i, hi⟩ := List.mem_iff_getElem?.1 hx
    have hlt : i < rs.length := by rw [h1]; exact (List.getElem?_eq_some_iff.1 hi).1
    obtain ⟨d, hd, -⟩ := h2 i _ x (List.getElem?_eq_getElem hlt) hi
    exact hd.2
theorem open_u8 {W : World} {v : Value} {d : DataW H} {ps : List MemPlace} {base : Nat}
    (hok : Value.okWide Try.prog W .any base 43 v) (h : DataW.Trod enc Try.prog W 0 (fun _ => true) true 43 v d ps) (hw : (d.weights Try.prog 43).all (· ≤ reachBytes) = true) : ∃ l : List Nat, Kit.IsS 1 W v l.length (u8L l) ∧ ∀ x ∈ l, x ≤ 255 := by
  obtain ⟨a0, len, cap, rfl⟩ := okWide_slice Try.underlying43 hok
  obtain ⟨fuel, hf⟩ := h
  exact u8_cell (y := (d, ps)) hf hw
theorem i64_of {a : Int} (h : (Lit.int .i64 a).wf = true) : -9223372036854775808 ≤ a ∧ a ≤ 9223372036854775807 := by
  simp [Lit.wf, IntKind.min, IntKind.max, IntKind.signed, IntKind.bits] at h
  omega
theorem ty_cells {W : World} {n : Nat} {cs : List Value} {y : DataW H × List MemPlace} (h : DataW.trod enc Try.prog W 0 (fun _ => true) true n 33 cs = some y) : ∃ x : Hp.Ty, cs = tL x := by
  obtain ⟨y0, y1, m, hx, hl, hy0, hy1⟩ := trod_struct2 Try.underlying33 h
  rw [A.cellsTy] at hl
  match cs, hl with
  | [c0, c1], _ =>
  obtain ⟨a, e0, rfl, wa⟩ := DataW.trod_int Try.underlying3 hy0
  obtain ⟨b, e1, rfl, wb⟩ := DataW.trod_string Try.underlying9 hy1
  simp [A.cellsInt, A.cellsStr] at e0 e1
  subst e0 e1
  exact ⟨⟨a, b⟩, rfl⟩
theorem vl_cells {W : World} {n : Nat} {cs : List Value} {y : DataW H × List MemPlace} (h : DataW.trod enc Try.prog W 0 (fun _ => true) true n 35 cs = some y) : ∃ x : Hp.Vl, cs = vL x ∧ -9223372036854775808 ≤ x.n ∧ x.n ≤ 9223372036854775807 := by
  obtain ⟨y0, y1, m, hx, hl, hy0, hy1⟩ := trod_struct2 Try.underlying35 h
  rw [A.cellsVl] at hl
  match cs, hl with
  | [c0, c1], _ =>
  obtain ⟨a, e0, rfl, wa⟩ := DataW.trod_int Try.underlying3 hy0
  obtain ⟨b, e1, rfl, wb⟩ := DataW.trod_int Try.underlying2 hy1
  simp [A.cellsInt, A.cellsI64] at e0 e1
  subst e0 e1
  exact ⟨⟨a, b⟩, rfl, i64_of wb⟩
theorem tys_cell {W : World} {n : Nat} {k : Value} {y : DataW H × List MemPlace} (h : DataW.trod enc Try.prog W 0 (fun _ => true) true n 31 [k] = some y) (hw : (y.1.weights Try.prog 31).all (· ≤ reachBytes) = true) :
    ∃ l : List Hp.Ty, Kit.IsS 2 W k l.length (l.flatMap tL) ∧ l.length * 24 ≤ 140737488351232 := by
  obtain ⟨xs, rs, h1, h2, h3, h4, h5⟩ := list_cell (s := 2) (by_ := 24) (tE := 33) (fun (_ : DataW H) cs (x : Hp.Ty) => cs = tL x) (fun _ _ x h => by rw [h]; rfl) (by decide) Try.underlying31 (by kernel_rfl) (by kernel_rfl) (by decide) (fun m cs z hz _ => ty_cells hz) h hw
  refine ⟨xs, ?_, h4⟩
  rw [← rs_map h1 (fun i r x hr hx => by obtain ⟨d, hd, -⟩ := h2 i r x hr hx; exact hd)]
  exact h3
namespace Hp
structure Op where
  f : Int
  c : Int
  ts : List Ty
  el : Ty
  ref : Int
  i : Int
  v : Vl
end Hp
/-- An operation's cells. -/
def OpR (W : World) (cs : List Value) (x : Hp.Op) : Prop := ∃ kv, cs = [.int .i64 x.f, .int .i64 x.c, kv, .int .i64 x.el.k, .string x.el.s, .int .i64 x.ref, .int .i64 x.i, .int .i64 x.v.k, .int .i64 x.v.n] ∧ Kit.IsS 2 W kv x.ts.length (x.ts.flatMap tL)
structure GoodO (x : Hp.Op) : Prop where
  f : -9223372036854775808 ≤ x.f ∧ x.f ≤ 9223372036854775807
  c : -9223372036854775808 ≤ x.c ∧ x.c ≤ 9223372036854775807
  ref : -9223372036854775808 ≤ x.ref ∧ x.ref ≤ 9223372036854775807
  i : -9223372036854775808 ≤ x.i ∧ x.i ≤ 9223372036854775807
  n : -9223372036854775808 ≤ x.v.n ∧ x.v.n ≤ 9223372036854775807
  ts : x.ts.length * 24 ≤ 140737488351232
theorem op_cells {W : World} {n : Nat} {cs : List Value} {y : DataW H × List MemPlace} (h : DataW.trod enc Try.prog W 0 (fun _ => true) true n 37 cs = some y) (hw : (y.1.weights Try.prog 37).all (· ≤ reachBytes) = true) :
    ∃ x : Hp.Op, OpR W cs x ∧ GoodO x := by
  obtain ⟨xs, m, -, hy, hl, hlen, hf⟩ := DataW.trod_struct Try.underlying37 h
  have hl9 : cs.length = 9 := hl.trans (by kernel_rfl)
  have hx7 : xs.length = 7 := hlen
  match xs, hx7 with
  | [x0, x1, x2, x3, x4, x5, x6], _ =>
  match cs, hl9 with
  | [k0, k1, k2, k3, k4, k5, k6, k7, k8], _ =>
  obtain ⟨a, e0, g0, w0⟩ := DataW.trod_int Try.underlying3 (hf 0 _ rfl)
  obtain ⟨b, e1, g1, w1⟩ := DataW.trod_int Try.underlying3 (hf 1 _ rfl)
  obtain ⟨c, e4, g4, w4⟩ := DataW.trod_int Try.underlying2 (hf 4 _ rfl)
  obtain ⟨d, e5, g5, w5⟩ := DataW.trod_int Try.underlying2 (hf 5 _ rfl)
  have q0 : ([k0, k1, k2, k3, k4, k5, k6, k7, k8].drop 0).take (Try.prog.cellsOf 3) = [.int .i64 a] := e0
  have q1 : ([k0, k1, k2, k3, k4, k5, k6, k7, k8].drop 1).take (Try.prog.cellsOf 3) = [.int .i64 b] := e1
  have q4 : ([k0, k1, k2, k3, k4, k5, k6, k7, k8].drop 5).take (Try.prog.cellsOf 2) = [.int .i64 c] := e4
  have q5 : ([k0, k1, k2, k3, k4, k5, k6, k7, k8].drop 6).take (Try.prog.cellsOf 2) = [.int .i64 d] := e5
  have f2 : DataW.trod enc Try.prog W 0 (fun _ => true) true m 31 (([k0, k1, k2, k3, k4, k5, k6, k7, k8].drop 2).take (Try.prog.cellsOf 31)) = some x2 := hf 2 _ rfl
  have f3 : DataW.trod enc Try.prog W 0 (fun _ => true) true m 33 (([k0, k1, k2, k3, k4, k5, k6, k7, k8].drop 3).take (Try.prog.cellsOf 33)) = some x3 := hf 3 _ rfl
  have f6 : DataW.trod enc Try.prog W 0 (fun _ => true) true m 35 (([k0, k1, k2, k3, k4, k5, k6, k7, k8].drop 7).take (Try.prog.cellsOf 35)) = some x6 := hf 6 _ rfl
  rw [A.cellsInt] at q0 q1
  rw [A.cellsI64] at q4 q5
  rw [A.cellsTys] at f2
  rw [A.cellsTy] at f3
  rw [A.cellsVl] at f6
  simp only [List.drop_zero, List.take_succ_cons, List.take_zero, List.cons.injEq, and_true, List.drop_succ_cons] at q0 q1 q4 q5 f2 f3 f6
  subst q0 q1 q4 q5
  subst hy
  simp only [DataW.weights, Try.underlying37, List.map_cons, List.map_nil, DataW.weightsEach, List.all_append, Bool.and_eq_true] at hw
  obtain ⟨ts, ht1, ht2⟩ := tys_cell f2 (by simp_all)
  obtain ⟨el, he⟩ := ty_cells f3
  obtain ⟨v, hv, hv1, hv2⟩ := vl_cells f6
  simp only [tL, vL, List.cons.injEq, and_true] at he hv
  obtain ⟨rfl, rfl⟩ := he
  obtain ⟨rfl, rfl⟩ := hv
  exact ⟨⟨a, b, ts, el, c, d, v⟩, ⟨k2, rfl, ht1⟩, ⟨i64_of w0, i64_of w1, i64_of w4, i64_of w5, ⟨hv1, hv2⟩, ht2⟩⟩
def OpsR (W : World) (v : Value) (l : List Hp.Op) : Prop := ∃ rs : List (List Value), rs.length = l.length ∧ (∀ (i : Nat) (r : List Value) (x : Hp.Op), rs[i]? = some r → l[i]? = some x → OpR W r x) ∧ Kit.IsS 9 W v l.length rs.flatten
theorem open_ops {W : World} {v : Value} {d : DataW H} {ps : List MemPlace} {base : Nat}
    (hok : Value.okWide Try.prog W .any base 22 v) (h : DataW.Trod enc Try.prog W 0 (fun _ => true) true 22 v d ps) (hw : (d.weights Try.prog 22).all (· ≤ reachBytes) = true) : ∃ l : List Hp.Op, OpsR W v l ∧ ∀ x ∈ l, GoodO x := by
  obtain ⟨a0, len, cap, rfl⟩ := okWide_slice Try.underlying22 hok
  obtain ⟨fuel, hf⟩ := h
  obtain ⟨xs, rs, h1, h2, h3, h4, h5⟩ := list_cell (s := 9) (by_ := 96) (tE := 37) (fun (_ : DataW H) cs (x : Hp.Op) => OpR W cs x ∧ GoodO x) (fun _ _ x h => by obtain ⟨⟨kv, h, -⟩, -⟩ := h; rw [h]; rfl) (by decide) Try.underlying22 (by kernel_rfl) (by kernel_rfl) (by decide) (fun m cs z hz hw => op_cells hz hw) (y := (d, ps)) hf hw
  refine ⟨xs, ⟨rs, h1, fun i r x hr hx => ?_, h3⟩, fun x hx => ?_⟩
  · obtain ⟨d, hd, -⟩ := h2 i r x hr hx
    exact hd.1
  · obtain ⟨i, hi⟩ := List.mem_iff_getElem?.1 hx
    have hlt : i < rs.length := by rw [h1]; exact (List.getElem?_eq_some_iff.1 hi).1
    obtain ⟨d, hd, -⟩ := h2 i _ x (List.getElem?_eq_getElem hlt) hi
    exact hd.2
theorem weights_eachT {P : Program} : ∀ {ts : List TypeId} {ds : List (DataW H)} {j : Nat} {t : TypeId} {d : DataW H}, ts[j]? = some t → ds[j]? = some d → (DataW.weightsEach P ts ds).all (· ≤ reachBytes) = true → (d.weights P t).all (· ≤ reachBytes) = true
  | [], _, _, _, _, h, _, _ => by simp at h
  | _, [], _, _, _, _, h, _ => by simp at h
  | t :: ts, d :: ds, 0, _, _, h1, h2, h => by
    simp only [List.getElem?_cons_zero, Option.some.injEq] at h1 h2
    subst h1 h2
    simp only [DataW.weightsEach, List.all_append, Bool.and_eq_true] at h
    exact h.1
  | t :: ts, d :: ds, j + 1, _, _, h1, h2, h => by
    simp only [DataW.weightsEach, List.all_append, Bool.and_eq_true] at h
    exact weights_eachT (j := j) (by simpa using h1) (by simpa using h2) h.2
end
end Go.Proofs.Ytkikdjphmnbmaaa

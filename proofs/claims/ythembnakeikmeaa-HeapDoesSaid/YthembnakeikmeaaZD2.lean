/- Own texts for the claim, part 2. -/
import Derived.Test.YthembnakeikmeaaZD1
import Derived.Lib.SliceRun
import Derived.Deep.WholeRow
import Derived.Lib.QuietBelow
namespace Go.Proofs.Ythembnakeikmeaa
open Go Go.RowKit

set_option maxRecDepth 100000 in
theorem field_ref {w : World} {base : Nat} {H : HV} {s : Hp.Hs} (h : Rep w base H s.flat) (ok : s.Ok) (ref i : Int) (hr : -9223372036854775808 ≤ ref ∧ ref ≤ 9223372036854775807) (hn : isObj s.flat ref = false) :
    Calls Try.prog 45 #[.pointer (some ⟨H.ib, 0, none⟩), .int .i64 ref, .int .i64 i] w fun e w' => e = .returned (.tuple #[placeNone, .int .i64 60]) ∧ Below w.heap.size w w' := by
  obtain ⟨s1, s2, s3, s4, s5, s6, s7⟩ := ok.sizes
  have HI := hid (fun X (b : Below w.heap.size w X) => isObject_any (h.below b) ref hr (by omega))
  rw [hn] at HI
  unfold placeNone
  clear h hn s1 s2 s3 s4 s5 s6 s7
  go_enter Try.func45, Try.ntmps45
  go_wp2_with fail
  refine (HI.out _ (by repeat' first | with_reducible exact Below.refl _ _ | with_reducible assumption | with_reducible refine belows_drewN ?_ _ | with_reducible refine Below.drew ?_ | with_reducible refine Below.setCell ?_ ?_ _ | with_reducible refine Below.alloc ?_ ?_ _ | omega | (simp; done) | (simp; omega))).mono ?_
  rintro e w1 ⟨rfl, hb⟩
  have B1 : Below w.heap.size w w1 := belows (B := w.heap.size) (a := w) (by repeat' first | with_reducible exact Below.refl _ _ | with_reducible assumption | with_reducible refine belows_drewN ?_ _ | with_reducible refine Below.drew ?_ | with_reducible refine Below.setCell ?_ ?_ _ | with_reducible refine Below.alloc ?_ ?_ _ | omega | (simp; done) | (simp; omega)) hb (by simp)
  have hz := hb.size
  have bx := (BX.new w #[.int .i64 0, .string ⟨#[]⟩, .pointer none] 92).below hb
  have c0 := bx.frozen 0
  have c1 := bx.frozen 1
  have c2 := bx.frozen 2
  have d0 := bx.cell 0
  have d1 := bx.cell 1
  have d2 := bx.cell 2
  simp at d0 d1 d2
  have HX := hid bx
  clear bx
  go_wp2
  exact bodyPost_ret (v := .tuple #[.agg #[.int .i64 0, .string ⟨#[]⟩, .pointer none], .int .i64 60]) (by have e3 := (((HX.out.set 0 (.int .i64 0)).set 1 (.string ⟨#[]⟩)).set 2 (.pointer none)); have e0 := e3.cell 0; have e1 := e3.cell 1; have e2 := e3.cell 2; simp at e0 e1 e2; simp [results, Try.results45, go_sem, e0, e1, e2]) rfl ⟨rfl, (by repeat' first | with_reducible exact Below.refl _ _ | with_reducible assumption | with_reducible refine belows_drewN ?_ _ | with_reducible refine Below.drew ?_ | with_reducible refine Below.setCell ?_ ?_ _ | with_reducible refine Below.alloc ?_ ?_ _ | omega | (simp; done) | (simp; omega))⟩
set_option maxRecDepth 100000 in
set_option maxHeartbeats 1000000 in
theorem field_idx {w : World} {base : Nat} {H : HV} {s : Hp.Hs} (h : Rep w base H s.flat) (ok : s.Ok) {k : Nat} {t : Hp.Th} (hk : s.l[k]? = some t) (hc : t.cl ≠ -1) (i : Int) (hi : i < 0 ∨ (t.vs.length : Int) ≤ i) :
    Calls Try.prog 45 #[.pointer (some ⟨H.ib, 0, none⟩), .int .i64 ((k : Int) + 1), .int .i64 i] w fun e w' => e = .returned (.tuple #[placeNone, .int .i64 61]) ∧ Below w.heap.size w w' := by
  have hkl := (List.getElem?_eq_some_iff.1 hk).1
  obtain ⟨s1, s2, s3, s4, s5, s6, s7⟩ := ok.sizes
  have hcl := flat_cs s
  have hkb : k ≤ 1048576 := by omega
  have hth : s.thing ((k : Int) + 1) = some t := by unfold Hp.Hs.thing; rw [if_pos (by omega), show ((k : Int) + 1 - 1).toNat = k by omega]; exact hk
  have HI := hid (fun X (b : Below w.heap.size w X) => isObject_any (h.below b) ((k : Int) + 1) (by omega) (by omega))
  rw [isObj_yes hth hc] at HI
  have HRw := hid (fun X (b : Below w.heap.size w X) => rowV_thing (h.below b) ok hk)
  unfold RowPost Sub at HRw
  unfold placeNone
  obtain ⟨ib, hib⟩ : ∃ ib, ib = H.ib := ⟨_, rfl⟩
  rw [← hib] at HRw HI ⊢
  have hgen := h.ib_lt
  rw [← hib] at hgen
  obtain ⟨n, hn⟩ : ∃ n, n = t.vs.length := ⟨_, rfl⟩
  rw [← hn] at hi HRw
  clear h hk hc hcl hth s1 s2 s3 s4 s5 s6 s7 hkl hib hn
  rcases hi with hi | hi
  all_goals
    go_enter Try.func45, Try.ntmps45
    go_wp2_with fail
    refine (HI.out _ (by repeat' first | with_reducible exact Below.refl _ _ | with_reducible assumption | with_reducible refine belows_drewN ?_ _ | with_reducible refine Below.drew ?_ | with_reducible refine Below.setCell ?_ ?_ _ | with_reducible refine Below.alloc ?_ ?_ _ | omega | (simp; done) | (simp; omega))).mono ?_
    rintro e w1 ⟨rfl, hb⟩
    have B1 : Below w.heap.size w w1 := belows (B := w.heap.size) (a := w) (by repeat' first | with_reducible exact Below.refl _ _ | with_reducible assumption | with_reducible refine belows_drewN ?_ _ | with_reducible refine Below.drew ?_ | with_reducible refine Below.setCell ?_ ?_ _ | with_reducible refine Below.alloc ?_ ?_ _ | omega | (simp; done) | (simp; omega)) hb (by simp)
    have hz := hb.size
    have bx1 := (BX.new w #[.int .i64 0, .string ⟨#[]⟩, .pointer none] 92).below hb
    go_wp2_with fail
    refine (HRw.out _ B1).mono ?_
    rintro e w2 ⟨v, rfl, ⟨a, c, rfl, hcc, hs⟩, hb2⟩
    have B2 := belows B1 hb2 B1.size
    have bx := bx1.below hb2
    have c0 := bx.frozen 0
    have c1 := bx.frozen 1
    have c2 := bx.frozen 2
    have d0 := bx.cell 0
    have d1 := bx.cell 1
    have d2 := bx.cell 2
    simp at d0 d1 d2
    have HX := hid bx
    clear bx bx1 hs
    go_wp2
    exact bodyPost_ret (v := .tuple #[.agg #[.int .i64 0, .string ⟨#[]⟩, .pointer none], .int .i64 61]) (by have e3 := (((HX.out.set 0 (.int .i64 0)).set 1 (.string ⟨#[]⟩)).set 2 (.pointer none)); have e0 := e3.cell 0; have e1 := e3.cell 1; have e2 := e3.cell 2; simp at e0 e1 e2; simp [results, Try.results45, go_sem, e0, e1, e2]) rfl ⟨rfl, (by repeat' first | with_reducible exact Below.refl _ _ | with_reducible assumption | with_reducible refine belows_drewN ?_ _ | with_reducible refine Below.drew ?_ | with_reducible refine Below.setCell ?_ ?_ _ | with_reducible refine Below.alloc ?_ ?_ _ | omega | (simp; done) | (simp; omega))⟩
set_option maxRecDepth 100000 in
set_option maxHeartbeats 1000000 in
theorem field_ok {w : World} {base : Nat} {H : HV} {s : Hp.Hs} (h : Rep w base H s.flat) (ok : s.Ok) {k : Nat} {t : Hp.Th} {x : Hp.Ty} (hk : s.l[k]? = some t) (hc : t.cl ≠ -1) (i : Nat) (hx : t.ts[i]? = some x) (hi : i < t.vs.length) :
    Calls Try.prog 45 #[.pointer (some ⟨H.ib, 0, none⟩), .int .i64 ((k : Int) + 1), .int .i64 (i : Int)] w (PlPost H x (loV s k * 2 + i * 2) w) := by
  have hkl := (List.getElem?_eq_some_iff.1 hk).1
  obtain ⟨s1, s2, s3, s4, s5, s6, s7⟩ := ok.sizes
  have hcl := flat_cs s
  have hkb : k ≤ 1048576 := by omega
  have hvl : t.vs.length ≤ 1048576 := by
    have hr : (s.l.map (·.vs))[k]? = some t.vs := by rw [List.getElem?_map, hk]; rfl
    have h4 := Hp.take_le (s.l.map (·.vs)) (k + 1)
    rw [Hp.take_succ hr] at h4
    have h5 : s.flat.vc.length = (s.l.map (·.vs)).flatten.length := rfl
    omega
  have hth : s.thing ((k : Int) + 1) = some t := by unfold Hp.Hs.thing; rw [if_pos (by omega), show ((k : Int) + 1 - 1).toNat = k by omega]; exact hk
  have HI := hid (fun X (b : Below w.heap.size w X) => isObject_any (h.below b) ((k : Int) + 1) (by omega) (by omega))
  rw [isObj_yes hth hc] at HI
  have HRw := hid (fun X (b : Below w.heap.size w X) => rowV_thing (h.below b) ok hk)
  have HRt := hid (fun X (b : Below w.heap.size w X) => rowT_thing (h.below b) ok hk)
  have HTy := hid (fun X (b : Below w.heap.size w X) g hg => types_at (h.below b) hk hx (g := g) hg)
  have hit := (List.getElem?_eq_some_iff.1 hx).1
  unfold RowPost Sub at HRw HRt
  unfold PlPost placeAt
  obtain ⟨ib, hib⟩ : ∃ ib, ib = H.ib := ⟨_, rfl⟩
  rw [← hib] at HRw HI HRt ⊢
  have hgen := h.ib_lt
  rw [← hib] at hgen
  obtain ⟨n, hn⟩ : ∃ n, n = t.vs.length := ⟨_, rfl⟩
  rw [← hn] at hi hvl HRw
  obtain ⟨lo, hlo⟩ : ∃ lo, lo = loV s k := ⟨_, rfl⟩
  rw [← hlo] at HRw ⊢
  obtain ⟨lt, hlt⟩ : ∃ lt, lt = loT s k := ⟨_, rfl⟩
  rw [← hlt] at HRt HTy
  obtain ⟨nt, hnt⟩ : ∃ n, n = t.ts.length := ⟨_, rfl⟩
  rw [← hnt] at hit HRt
  clear hlt hnt h hk hc hx hcl hth s1 s2 s3 s4 s5 s6 s7 hkl hib hn hlo
  go_enter Try.func45, Try.ntmps45
  go_wp2_with fail
  refine (HI.out _ (by repeat' first | with_reducible exact Below.refl _ _ | with_reducible assumption | with_reducible refine belows_drewN ?_ _ | with_reducible refine Below.drew ?_ | with_reducible refine Below.setCell ?_ ?_ _ | with_reducible refine Below.alloc ?_ ?_ _ | omega | (simp; done) | (simp; omega))).mono ?_
  rintro e w1 ⟨rfl, hb⟩
  have B1 : Below w.heap.size w w1 := belows (B := w.heap.size) (a := w) (by repeat' first | with_reducible exact Below.refl _ _ | with_reducible assumption | with_reducible refine belows_drewN ?_ _ | with_reducible refine Below.drew ?_ | with_reducible refine Below.setCell ?_ ?_ _ | with_reducible refine Below.alloc ?_ ?_ _ | omega | (simp; done) | (simp; omega)) hb (by simp)
  have hz := hb.size
  have bx1 := (BX.new w #[.int .i64 0, .string ⟨#[]⟩, .pointer none] 92).below hb
  go_wp2_with fail
  refine (HRw.out _ B1).mono ?_
  rintro e w2 ⟨v, rfl, ⟨a, c, rfl, hcc, hs⟩, hb2⟩
  obtain ⟨g, hg, rfl⟩ := hs (by omega)
  have B2 := belows B1 hb2 B1.size
  have bx := hid (bx1.below hb2)
  have HG := hid hg
  clear bx1 hs hb2 hb hg
  go_wp2
  have hwk : IntKind.i64.wrap (k : Int) = (k : Int) := IntWalk.i64_in _ (by omega)
  have cfE := fun (u v : Value) (w : World) => (show (callFunc 60 #[u, v]).run Try.prog w = .ok (.enter 60 #[u, v]) w by kernel_rfl)
  go_region_law (refine Kit.step_call2 rfl 60 (.tmp 31) (.tmp 33) 74 3 rfl (.pointer (some ⟨ib, 2, none⟩)) (.int .i64 (k : Int)) (by first | with_reducible rfl | (simp [go_sem, hwk]; done) | rfl) (by first | with_reducible rfl | (simp [go_sem, hwk]; done) | rfl) (cfE _ _ _) _ (HRt.out _ (by repeat' first | with_reducible exact Below.refl _ _ | with_reducible assumption | with_reducible refine belows_drewN ?_ _ | with_reducible refine Below.drew ?_ | with_reducible refine Below.setCell ?_ ?_ _ | with_reducible refine Below.alloc ?_ ?_ _ | omega | (simp; done) | (simp; omega))) ?_; rintro e w3 ⟨v3, rfl, ⟨a3, c3, rfl, hcc3, hs3⟩, hb3⟩; refine ⟨_, rfl, ?_⟩; obtain ⟨g3, hg3, rfl⟩ := hs3 (by omega); have B3 : Below w.heap.size w w3 := (belows (B := w.heap.size) (a := w) (by repeat' first | with_reducible exact Below.refl _ _ | with_reducible assumption | with_reducible refine belows_drewN ?_ _ | with_reducible refine Below.drew ?_ | with_reducible refine Below.setCell ?_ ?_ _ | with_reducible refine Below.alloc ?_ ?_ _ | omega | (simp; done) | (simp; omega)) hb3 (by first | exact B2.size | simpa using B2.size)); obtain ⟨y0, y1⟩ := HTy.out _ B3 g3 hg3; have bx3 := (bx.out.below (show Below w2.heap.size w2 w3 from (by first | exact hb3 | exact belows (B := w2.heap.size) (a := w2) (by repeat' first | with_reducible exact Below.refl _ _ | with_reducible assumption | with_reducible refine belows_drewN ?_ _ | with_reducible refine Below.drew ?_ | with_reducible refine Below.setCell ?_ ?_ _ | with_reducible refine Below.alloc ?_ ?_ _ | omega | (simp; done) | (simp; omega)) hb3 (by simp)))); have c0 := bx3.frozen 0; have c1 := bx3.frozen 1; have c2 := bx3.frozen 2; have d0 := bx3.cell 0; have d1 := bx3.cell 1; have d2 := bx3.cell 2; simp at d0 d1 d2; have HX := hid bx3; clear bx3 hb3 hs3 hg3)
  all_goals
    go_wp2
    refine bodyPost_ret (v := .tuple #[.agg #[.int .i64 x.k, .string x.s, .pointer (some ⟨g, lo * 2 + i * 2, none⟩)], .int .i64 0]) (by have e3 := (((HX.out.set 0 (.int .i64 x.k)).set 1 (.string x.s)).set 2 (.pointer (some ⟨g, lo * 2 + i * 2, none⟩))); have e0 := e3.cell 0; have e1 := e3.cell 1; have e2 := e3.cell 2; simp at e0 e1 e2; simp [results, Try.results45, go_sem, e0, e1, e2]) rfl ⟨g, HG.out, rfl, (by repeat' first | with_reducible exact Below.refl _ _ | with_reducible assumption | with_reducible refine belows_drewN ?_ _ | with_reducible refine Below.drew ?_ | with_reducible refine Below.setCell ?_ ?_ _ | with_reducible refine Below.alloc ?_ ?_ _ | omega | (simp; done) | (simp; omega))⟩
end Go.Proofs.Ythembnakeikmeaa
namespace Go.Proofs.Ythembnakeikmeaa
open Go Go.RowKit

namespace Hp
theorem fd_ref {s : Hs} {ref i : Int} {v : Vl} (h : ∀ t, s.thing ref = some t → t.cl = -1) : s.fd ref i = (V0, 60) ∧ s.se ref i v = (s, 60) := by
  have h1 : s.fd ref i = (V0, 60) := by
    unfold Hs.fd
    cases ht : s.thing ref with
    | none => rfl
    | some t => simp [h t ht]
  exact ⟨h1, by unfold Hs.se; rw [h1]; simp⟩
theorem fd_idx {s : Hs} {ref i : Int} {v : Vl} {t : Th} (h : s.thing ref = some t) (hc : t.cl ≠ -1) (hi : i < 0 ∨ (t.vs.length : Int) ≤ i) : s.fd ref i = (V0, 61) ∧ s.se ref i v = (s, 61) := by
  have h1 : s.fd ref i = (V0, 61) := by
    unfold Hs.fd
    rw [h]
    simp only [if_neg hc]
    split
    · rw [List.getElem?_eq_none (by omega)]
    · rfl
  exact ⟨h1, by unfold Hs.se; rw [h1]; simp⟩
theorem fd_ok {s : Hs} {ref : Int} {i : Nat} {v u : Vl} {t : Th} {x : Ty} (h : s.thing ref = some t) (hc : t.cl ≠ -1) (hx : t.ts[i]? = some x) (hi : t.vs[i]? = some u) :
    s.fd ref i = (u, 0) ∧ s.se ref i v = (if fitsOf x v = true then ({ s with l := s.l.set (ref - 1).toNat { t with vs := t.vs.set i v } }, 0) else (s, 62)) := by
  have h1 : s.fd ref i = (u, 0) := by
    unfold Hs.fd
    rw [h]
    simp only [if_neg hc]
    rw [if_pos (by omega), Int.toNat_natCast, hi]
  refine ⟨h1, ?_⟩
  unfold Hs.se Hs.put
  rw [h1]
  simp only [h, ne_eq, not_true_eq_false, if_false, Int.toNat_natCast, List.getD_eq_getElem?_getD, hx, Option.getD_some]
theorem ok_some {s : Hs} (h : s.Ok) {t : Th} (ht : t ∈ s.l) (hc : t.cl ≠ -1) {j : Nat} (hj : j < t.vs.length) : ∃ x, t.ts[j]? = some x := by
  rcases h.th t ht with ⟨h1, -⟩ | ⟨-, h2⟩
  · exact absurd h1 hc
  · exact ⟨_, List.getElem?_eq_getElem (by omega)⟩
end Hp
set_option maxRecDepth 100000 in
set_option maxHeartbeats 1000000 in
theorem Set_any {w : World} {base : Nat} {H : HV} {s : Hp.Hs} (h : Rep w base H s.flat) (ok : s.Ok) (ref i : Int) (v : Hp.Vl) (hr : -9223372036854775808 ≤ ref ∧ ref ≤ 9223372036854775807) :
    Calls Try.prog 24 #[.pointer (some ⟨H.hb, 0, none⟩), .int .i64 ref, .int .i64 i, vA v] w fun e w' => e = .returned (.int .i64 (s.se ref i v).2) ∧ Went w w' base H H (s.se ref i v).1.flat := by
  have HM := hid (fun X (k : Below w.heap.size w X) => isMade_any (h.below k))
  have HR := hid h
  have hgen := h.hb_lt
  obtain ⟨k0, -⟩ := h.cells
  have HP := hid (fun X (k : Below w.heap.size w X) => Went.start (base := base) k (Went.refl (h.below k)))
  obtain ⟨hb, hhb⟩ : ∃ hb, hb = H.hb := ⟨_, rfl⟩
  by_cases hn : ∀ t, s.thing ref = some t → t.cl = -1
  · obtain ⟨-, e2⟩ := Hp.fd_ref (i := i) (v := v) hn
    rw [e2]
    have HE := hid (fun X (k : Below w.heap.size w X) => field_ref (h.below k) ok ref i hr (isObj_no hn))
    obtain ⟨ib, hib⟩ : ∃ ib, ib = H.ib := ⟨_, rfl⟩
    rw [← hhb] at hgen k0 HM ⊢
    rw [← hib] at k0 HE
    unfold placeNone at HE
    unfold vA
    clear h hn e2 hib hhb
    go_enter Try.func24, Try.ntmps24
    go_wp2_with fail
    refine (HM.out _ (by repeat' first | with_reducible exact Below.refl _ _ | with_reducible assumption | with_reducible refine belows_drewN ?_ _ | with_reducible refine Below.drew ?_ | with_reducible refine Below.setCell ?_ ?_ _ | with_reducible refine Below.alloc ?_ ?_ _ | omega | (simp; done) | (simp; omega))).mono ?_
    rintro e w1 ⟨rfl, rfl⟩
    go_wp2_with fail
    refine (HE.out _ (by repeat' first | with_reducible exact Below.refl _ _ | with_reducible assumption | with_reducible refine belows_drewN ?_ _ | with_reducible refine Below.drew ?_ | with_reducible refine Below.setCell ?_ ?_ _ | with_reducible refine Below.alloc ?_ ?_ _ | omega | (simp; done) | (simp; omega))).mono ?_
    rintro e w2 ⟨rfl, hb2⟩
    have B2 := belows (B := w.heap.size) (a := w) (by repeat' first | with_reducible exact Below.refl _ _ | with_reducible assumption | with_reducible refine belows_drewN ?_ _ | with_reducible refine Below.drew ?_ | with_reducible refine Below.setCell ?_ ?_ _ | with_reducible refine Below.alloc ?_ ?_ _ | omega | (simp; done) | (simp; omega)) hb2 (by simp)
    have hz := B2.size
    go_wp2
    go_ret
    exact ⟨rfl, HP.out _ (by repeat' first | with_reducible exact Below.refl _ _ | with_reducible assumption | with_reducible refine belows_drewN ?_ _ | with_reducible refine Below.drew ?_ | with_reducible refine Below.setCell ?_ ?_ _ | with_reducible refine Below.alloc ?_ ?_ _ | omega | (simp; done) | (simp; omega))⟩
  · obtain ⟨t, hth, hc0⟩ : ∃ t, s.thing ref = some t ∧ ¬ t.cl = -1 := by
      refine Classical.byContradiction fun hx => hn fun t ht => Classical.byContradiction fun hc => ?_
      exact hx ⟨t, ht, hc⟩
    have hc : t.cl ≠ -1 := hc0
    obtain ⟨r1, r2, hk⟩ := thing_at hth
    obtain ⟨k, hkk⟩ : ∃ k, k = (ref - 1).toNat := ⟨_, rfl⟩
    rw [← hkk] at hk
    have hrk : ref = (k : Int) + 1 := by omega
    by_cases hi : i < 0 ∨ (t.vs.length : Int) ≤ i
    · obtain ⟨-, e2⟩ := Hp.fd_idx (v := v) hth hc hi
      rw [e2]
      have HE := hid (fun X (b : Below w.heap.size w X) => field_idx (h.below b) ok hk hc i hi)
      rw [← hrk] at HE
      obtain ⟨ib, hib⟩ : ∃ ib, ib = H.ib := ⟨_, rfl⟩
      rw [← hhb] at hgen k0 HM ⊢
      rw [← hib] at k0 HE
      unfold placeNone at HE
      unfold vA
      clear h hn e2 hib hhb hi hrk hkk hk r1 r2 hth hc
      go_enter Try.func24, Try.ntmps24
      go_wp2_with fail
      refine (HM.out _ (by repeat' first | with_reducible exact Below.refl _ _ | with_reducible assumption | with_reducible refine belows_drewN ?_ _ | with_reducible refine Below.drew ?_ | with_reducible refine Below.setCell ?_ ?_ _ | with_reducible refine Below.alloc ?_ ?_ _ | omega | (simp; done) | (simp; omega))).mono ?_
      rintro e w1 ⟨rfl, rfl⟩
      go_wp2_with fail
      refine (HE.out _ (by repeat' first | with_reducible exact Below.refl _ _ | with_reducible assumption | with_reducible refine belows_drewN ?_ _ | with_reducible refine Below.drew ?_ | with_reducible refine Below.setCell ?_ ?_ _ | with_reducible refine Below.alloc ?_ ?_ _ | omega | (simp; done) | (simp; omega))).mono ?_
      rintro e w2 ⟨rfl, hb2⟩
      have B2 := belows (B := w.heap.size) (a := w) (by repeat' first | with_reducible exact Below.refl _ _ | with_reducible assumption | with_reducible refine belows_drewN ?_ _ | with_reducible refine Below.drew ?_ | with_reducible refine Below.setCell ?_ ?_ _ | with_reducible refine Below.alloc ?_ ?_ _ | omega | (simp; done) | (simp; omega)) hb2 (by simp)
      have hz := B2.size
      go_wp2
      go_ret
      exact ⟨rfl, HP.out _ (by repeat' first | with_reducible exact Below.refl _ _ | with_reducible assumption | with_reducible refine belows_drewN ?_ _ | with_reducible refine Below.drew ?_ | with_reducible refine Below.setCell ?_ ?_ _ | with_reducible refine Below.alloc ?_ ?_ _ | omega | (simp; done) | (simp; omega))⟩
    · obtain ⟨j, rfl⟩ : ∃ j : Nat, i = j := ⟨i.toNat, by omega⟩
      have hj : j < t.vs.length := by omega
      obtain ⟨u, hu⟩ : ∃ u, t.vs[j]? = some u := ⟨_, List.getElem?_eq_getElem hj⟩
      obtain ⟨x, hx⟩ := Hp.ok_some ok (List.mem_of_getElem? hk) hc hj
      obtain ⟨-, e2⟩ := Hp.fd_ok (v := v) hth hc hx hu
      rw [e2]
      have HE := hid (fun X (b : Below w.heap.size w X) => field_ok (h.below b) ok hk hc j hx hj)
      have HV2 := hid (fun X (b : Below w.heap.size w X) g hg => vals_at (h.below b) hk hu (g := g) hg)
      have HPut := hid (fun X (b : Below w.heap.size w X) g hg => Went.start (base := base) b (putV_thing (h.below b) v hk hj (g := g) hg))
      have HGl := hid (fun g (hg : H.d.ownBlock = some g) => Kit.own_lt h.od g hg)
      rw [hkk] at HPut
      rw [← hrk] at HE
      obtain ⟨ib, hib⟩ : ∃ ib, ib = H.ib := ⟨_, rfl⟩
      rw [← hhb] at hgen k0 HM ⊢
      rw [← hib] at k0 HE
      unfold PlPost at HE
      obtain ⟨lo, hlo⟩ : ∃ lo, lo = loV s k := ⟨_, rfl⟩
      rw [hkk] at hlo HV2 HE
      rw [← hlo] at HV2 HPut HE
      have HY := hid (fun g X (a0 : X.cell? ⟨g, lo * 2 + j * 2, none⟩ = some (.int .i64 u.k)) (a1 : X.cell? ⟨g, lo * 2 + j * 2 + 1, none⟩ = some (.int .i64 u.n)) f0 f1 hg hf => put_yes x v g (lo * 2 + j * 2) X a0 a1 f0 f1 hg hf)
      have HN := hid (fun g X hf => put_no x v g (lo * 2 + j * 2) X hf)
      unfold placeAt at HE HY HN
      unfold vA at HY HN ⊢
      clear h hn e2 hib hhb hi hrk hkk hk r1 r2 hth hc hlo hu hx
      cases hf : fitsOf x v with
      | true =>
        rw [if_pos rfl]
        have Hf := hid hf
        clear hf
        go_enter Try.func24, Try.ntmps24
        go_wp2_with fail
        refine (HM.out _ (by repeat' first | with_reducible exact Below.refl _ _ | with_reducible assumption | with_reducible refine belows_drewN ?_ _ | with_reducible refine Below.drew ?_ | with_reducible refine Below.setCell ?_ ?_ _ | with_reducible refine Below.alloc ?_ ?_ _ | omega | (simp; done) | (simp; omega))).mono ?_
        rintro e w1 ⟨rfl, rfl⟩
        go_wp2_with fail
        refine (HE.out _ (by repeat' first | with_reducible exact Below.refl _ _ | with_reducible assumption | with_reducible refine belows_drewN ?_ _ | with_reducible refine Below.drew ?_ | with_reducible refine Below.setCell ?_ ?_ _ | with_reducible refine Below.alloc ?_ ?_ _ | omega | (simp; done) | (simp; omega))).mono ?_
        rintro e w2 ⟨g, hg, rfl, hb2⟩
        have B2 := belows (B := w.heap.size) (a := w) (by repeat' first | with_reducible exact Below.refl _ _ | with_reducible assumption | with_reducible refine belows_drewN ?_ _ | with_reducible refine Below.drew ?_ | with_reducible refine Below.setCell ?_ ?_ _ | with_reducible refine Below.alloc ?_ ?_ _ | omega | (simp; done) | (simp; omega)) hb2 (by simp)
        have hz := B2.size
        have HG := hid hg
        have bv := (BX.new w #[.int .i64 v.k, .int .i64 v.n] 35).below hb2
        have d0 := bv.cell 0
        have d1 := bv.cell 1
        simp at d0 d1
        have hz1 := bv.sz
        obtain ⟨W, hW⟩ : ∃ W, W = w2.alloc (.cells #[.int .i64 x.k, .string x.s, .pointer (some ⟨g, lo * 2 + j * 2, none⟩)] 92) := ⟨_, rfl⟩
        have BW : Below w.heap.size w W := by rw [hW]; exact (by repeat' first | with_reducible exact Below.refl _ _ | with_reducible assumption | with_reducible refine belows_drewN ?_ _ | with_reducible refine Below.drew ?_ | with_reducible refine Below.setCell ?_ ?_ _ | with_reducible refine Below.alloc ?_ ?_ _ | omega | (simp; done) | (simp; omega))
        obtain ⟨a0, a1, f⟩ := HV2.out W BW g hg
        have hgl := Nat.lt_of_lt_of_le (HGl.out g hg) BW.size
        have HYW := hid (HY.out g W a0 a1 (f _) (f _) hgl Hf.out)
        rw [hW] at HYW
        clear hb2 hg bv a0 a1 f hgl
        go_wp2_with fail
        refine HYW.out.mono ?_
        rintro e w3 ⟨rfl, w4, hb4, hw⟩
        rw [← hW] at hb4
        have HFin := hid (HPut.out w4 (belows BW hb4 BW.size) g HG.out)
        rw [← hw] at HFin
        clear hW hw hb4 BW
        go_wp2
        go_ret
        exact ⟨rfl, HFin.out⟩
      | false =>
        rw [if_neg (by decide)]
        have HNo := hid (fun g X => HN.out g X hf)
        clear hf
        go_enter Try.func24, Try.ntmps24
        go_wp2_with fail
        refine (HM.out _ (by repeat' first | with_reducible exact Below.refl _ _ | with_reducible assumption | with_reducible refine belows_drewN ?_ _ | with_reducible refine Below.drew ?_ | with_reducible refine Below.setCell ?_ ?_ _ | with_reducible refine Below.alloc ?_ ?_ _ | omega | (simp; done) | (simp; omega))).mono ?_
        rintro e w1 ⟨rfl, rfl⟩
        go_wp2_with fail
        refine (HE.out _ (by repeat' first | with_reducible exact Below.refl _ _ | with_reducible assumption | with_reducible refine belows_drewN ?_ _ | with_reducible refine Below.drew ?_ | with_reducible refine Below.setCell ?_ ?_ _ | with_reducible refine Below.alloc ?_ ?_ _ | omega | (simp; done) | (simp; omega))).mono ?_
        rintro e w2 ⟨g, hg, rfl, hb2⟩
        have B2 := belows (B := w.heap.size) (a := w) (by repeat' first | with_reducible exact Below.refl _ _ | with_reducible assumption | with_reducible refine belows_drewN ?_ _ | with_reducible refine Below.drew ?_ | with_reducible refine Below.setCell ?_ ?_ _ | with_reducible refine Below.alloc ?_ ?_ _ | omega | (simp; done) | (simp; omega)) hb2 (by simp)
        have hz := B2.size
        have bv := (BX.new w #[.int .i64 v.k, .int .i64 v.n] 35).below hb2
        have d0 := bv.cell 0
        have d1 := bv.cell 1
        simp at d0 d1
        have hz1 := bv.sz
        clear hb2 hg bv
        go_wp2_with fail
        refine (HNo.out _ _).mono ?_
        rintro e w3 ⟨rfl, hb3⟩
        have B3 := belows (B := w.heap.size) (a := w) (by repeat' first | with_reducible exact Below.refl _ _ | with_reducible assumption | with_reducible refine belows_drewN ?_ _ | with_reducible refine Below.drew ?_ | with_reducible refine Below.setCell ?_ ?_ _ | with_reducible refine Below.alloc ?_ ?_ _ | omega | (simp; done) | (simp; omega)) hb3 (by simp; omega)
        go_wp2
        go_ret
        exact ⟨rfl, HP.out _ (by repeat' first | with_reducible exact Below.refl _ _ | with_reducible assumption | with_reducible refine belows_drewN ?_ _ | with_reducible refine Below.drew ?_ | with_reducible refine Below.setCell ?_ ?_ _ | with_reducible refine Below.alloc ?_ ?_ _ | omega | (simp; done) | (simp; omega))⟩
set_option maxRecDepth 100000 in
set_option maxHeartbeats 1000000 in
theorem Get_any {w : World} {base : Nat} {H : HV} {s : Hp.Hs} (h : Rep w base H s.flat) (ok : s.Ok) (ref i : Int) (hr : -9223372036854775808 ≤ ref ∧ ref ≤ 9223372036854775807) :
    Calls Try.prog 20 #[.pointer (some ⟨H.hb, 0, none⟩), .int .i64 ref, .int .i64 i] w fun e w' => e = .returned (.tuple #[vA (s.fd ref i).1, .int .i64 (s.fd ref i).2]) ∧ Below w.heap.size w w' := by
  have HM := hid (fun X (k : Below w.heap.size w X) => isMade_any (h.below k))
  have hgen := h.hb_lt
  obtain ⟨k0, -⟩ := h.cells
  obtain ⟨hb, hhb⟩ : ∃ hb, hb = H.hb := ⟨_, rfl⟩
  by_cases hn : ∀ t, s.thing ref = some t → t.cl = -1
  · obtain ⟨e2, -⟩ := Hp.fd_ref (i := i) (v := Hp.V0) hn
    rw [e2]
    have HE := hid (fun X (k : Below w.heap.size w X) => field_ref (h.below k) ok ref i hr (isObj_no hn))
    obtain ⟨ib, hib⟩ : ∃ ib, ib = H.ib := ⟨_, rfl⟩
    rw [← hhb] at hgen k0 HM ⊢
    rw [← hib] at k0 HE
    unfold placeNone at HE
    unfold vA Hp.V0
    clear h hn e2 hib hhb
    (go_enter Try.func20, Try.ntmps20; go_wp2_with fail; refine (HM.out _ (by repeat' first | with_reducible exact Below.refl _ _ | with_reducible assumption | with_reducible refine belows_drewN ?_ _ | with_reducible refine Below.drew ?_ | with_reducible refine Below.setCell ?_ ?_ _ | with_reducible refine Below.alloc ?_ ?_ _ | omega | (simp; done) | (simp; omega))).mono ?_; rintro e w1 ⟨rfl, rfl⟩; go_wp2_with fail; refine (HE.out _ (by repeat' first | with_reducible exact Below.refl _ _ | with_reducible assumption | with_reducible refine belows_drewN ?_ _ | with_reducible refine Below.drew ?_ | with_reducible refine Below.setCell ?_ ?_ _ | with_reducible refine Below.alloc ?_ ?_ _ | omega | (simp; done) | (simp; omega))).mono ?_)
    rintro e w2 ⟨rfl, hb2⟩
    (have B2 := belows (B := w.heap.size) (a := w) (by repeat' first | with_reducible exact Below.refl _ _ | with_reducible assumption | with_reducible refine belows_drewN ?_ _ | with_reducible refine Below.drew ?_ | with_reducible refine Below.setCell ?_ ?_ _ | with_reducible refine Below.alloc ?_ ?_ _ | omega | (simp; done) | (simp; omega)) hb2 (by simp); have hz := B2.size; have bv := (BX.new w #[.int .i64 0, .int .i64 0] 35).below hb2; have d0 := bv.cell 0; have d1 := bv.cell 1; have f0 := bv.frozen 0; have f1 := bv.frozen 1; simp at d0 d1; have hz1 := bv.sz; have HB := hid bv; clear bv hb2)
    go_wp2
    exact bodyPost_ret (v := .tuple #[.agg #[.int .i64 0, .int .i64 0], .int .i64 60]) (by (obtain ⟨e0, e1⟩ := HB.out.set2 (.int .i64 0) (.int .i64 0) (.cells #[.int .i64 0, .string ⟨#[]⟩, .pointer none] 92)); simp [results, Try.results20, go_sem, e0, e1]) rfl ⟨rfl, (by repeat' first | with_reducible exact Below.refl _ _ | with_reducible assumption | with_reducible refine belows_drewN ?_ _ | with_reducible refine Below.drew ?_ | with_reducible refine Below.setCell ?_ ?_ _ | with_reducible refine Below.alloc ?_ ?_ _ | omega | (simp; done) | (simp; omega))⟩
  · obtain ⟨t, hth, hc0⟩ : ∃ t, s.thing ref = some t ∧ ¬ t.cl = -1 := by
      refine Classical.byContradiction fun hx => hn fun t ht => Classical.byContradiction fun hc => ?_
      exact hx ⟨t, ht, hc⟩
    have hc : t.cl ≠ -1 := hc0
    obtain ⟨r1, r2, hk⟩ := thing_at hth
    obtain ⟨k, hkk⟩ : ∃ k, k = (ref - 1).toNat := ⟨_, rfl⟩
    rw [← hkk] at hk
    have hrk : ref = (k : Int) + 1 := by omega
    by_cases hi : i < 0 ∨ (t.vs.length : Int) ≤ i
    · obtain ⟨e2, -⟩ := Hp.fd_idx (v := Hp.V0) hth hc hi
      rw [e2]
      have HE := hid (fun X (b : Below w.heap.size w X) => field_idx (h.below b) ok hk hc i hi)
      rw [← hrk] at HE
      obtain ⟨ib, hib⟩ : ∃ ib, ib = H.ib := ⟨_, rfl⟩
      rw [← hhb] at hgen k0 HM ⊢
      rw [← hib] at k0 HE
      unfold placeNone at HE
      unfold vA Hp.V0
      clear h hn e2 hib hhb hi hrk hkk hk r1 r2 hth hc
      (go_enter Try.func20, Try.ntmps20; go_wp2_with fail; refine (HM.out _ (by repeat' first | with_reducible exact Below.refl _ _ | with_reducible assumption | with_reducible refine belows_drewN ?_ _ | with_reducible refine Below.drew ?_ | with_reducible refine Below.setCell ?_ ?_ _ | with_reducible refine Below.alloc ?_ ?_ _ | omega | (simp; done) | (simp; omega))).mono ?_; rintro e w1 ⟨rfl, rfl⟩; go_wp2_with fail; refine (HE.out _ (by repeat' first | with_reducible exact Below.refl _ _ | with_reducible assumption | with_reducible refine belows_drewN ?_ _ | with_reducible refine Below.drew ?_ | with_reducible refine Below.setCell ?_ ?_ _ | with_reducible refine Below.alloc ?_ ?_ _ | omega | (simp; done) | (simp; omega))).mono ?_)
      rintro e w2 ⟨rfl, hb2⟩
      (have B2 := belows (B := w.heap.size) (a := w) (by repeat' first | with_reducible exact Below.refl _ _ | with_reducible assumption | with_reducible refine belows_drewN ?_ _ | with_reducible refine Below.drew ?_ | with_reducible refine Below.setCell ?_ ?_ _ | with_reducible refine Below.alloc ?_ ?_ _ | omega | (simp; done) | (simp; omega)) hb2 (by simp); have hz := B2.size; have bv := (BX.new w #[.int .i64 0, .int .i64 0] 35).below hb2; have d0 := bv.cell 0; have d1 := bv.cell 1; have f0 := bv.frozen 0; have f1 := bv.frozen 1; simp at d0 d1; have hz1 := bv.sz; have HB := hid bv; clear bv hb2)
      go_wp2
      exact bodyPost_ret (v := .tuple #[.agg #[.int .i64 0, .int .i64 0], .int .i64 61]) (by (obtain ⟨e0, e1⟩ := HB.out.set2 (.int .i64 0) (.int .i64 0) (.cells #[.int .i64 0, .string ⟨#[]⟩, .pointer none] 92)); simp [results, Try.results20, go_sem, e0, e1]) rfl ⟨rfl, (by repeat' first | with_reducible exact Below.refl _ _ | with_reducible assumption | with_reducible refine belows_drewN ?_ _ | with_reducible refine Below.drew ?_ | with_reducible refine Below.setCell ?_ ?_ _ | with_reducible refine Below.alloc ?_ ?_ _ | omega | (simp; done) | (simp; omega))⟩
    · obtain ⟨j, rfl⟩ : ∃ j : Nat, i = j := ⟨i.toNat, by omega⟩
      have hj : j < t.vs.length := by omega
      obtain ⟨u, hu⟩ : ∃ u, t.vs[j]? = some u := ⟨_, List.getElem?_eq_getElem hj⟩
      obtain ⟨x, hx⟩ := Hp.ok_some ok (List.mem_of_getElem? hk) hc hj
      obtain ⟨e2, -⟩ := Hp.fd_ok (v := Hp.V0) hth hc hx hu
      rw [e2]
      have HE := hid (fun X (b : Below w.heap.size w X) => field_ok (h.below b) ok hk hc j hx hj)
      have HV2 := hid (fun X (b : Below w.heap.size w X) g hg => vals_at (h.below b) hk hu (g := g) hg)
      have HGl := hid (fun g (hg : H.d.ownBlock = some g) => Kit.own_lt h.od g hg)
      rw [← hrk] at HE
      obtain ⟨ib, hib⟩ : ∃ ib, ib = H.ib := ⟨_, rfl⟩
      rw [← hhb] at hgen k0 HM ⊢
      rw [← hib] at k0 HE
      unfold PlPost at HE
      obtain ⟨lo, hlo⟩ : ∃ lo, lo = loV s k := ⟨_, rfl⟩
      rw [hkk] at hlo HV2 HE
      rw [← hlo] at HV2 HE
      unfold placeAt at HE
      unfold vA
      clear h hn e2 hib hhb hi hrk hkk hk r1 r2 hth hc hlo hu hx
      (go_enter Try.func20, Try.ntmps20; go_wp2_with fail; refine (HM.out _ (by repeat' first | with_reducible exact Below.refl _ _ | with_reducible assumption | with_reducible refine belows_drewN ?_ _ | with_reducible refine Below.drew ?_ | with_reducible refine Below.setCell ?_ ?_ _ | with_reducible refine Below.alloc ?_ ?_ _ | omega | (simp; done) | (simp; omega))).mono ?_; rintro e w1 ⟨rfl, rfl⟩; go_wp2_with fail; refine (HE.out _ (by repeat' first | with_reducible exact Below.refl _ _ | with_reducible assumption | with_reducible refine belows_drewN ?_ _ | with_reducible refine Below.drew ?_ | with_reducible refine Below.setCell ?_ ?_ _ | with_reducible refine Below.alloc ?_ ?_ _ | omega | (simp; done) | (simp; omega))).mono ?_)
      rintro e w2 ⟨g, hg, rfl, hb2⟩
      (have B2 := belows (B := w.heap.size) (a := w) (by repeat' first | with_reducible exact Below.refl _ _ | with_reducible assumption | with_reducible refine belows_drewN ?_ _ | with_reducible refine Below.drew ?_ | with_reducible refine Below.setCell ?_ ?_ _ | with_reducible refine Below.alloc ?_ ?_ _ | omega | (simp; done) | (simp; omega)) hb2 (by simp); have hz := B2.size; have bv := (BX.new w #[.int .i64 0, .int .i64 0] 35).below hb2; have d0 := bv.cell 0; have d1 := bv.cell 1; have f0 := bv.frozen 0; have f1 := bv.frozen 1; simp at d0 d1; have hz1 := bv.sz; have HB := hid bv; clear bv hb2)
      obtain ⟨W, hW⟩ : ∃ W, W = w2.alloc (.cells #[.int .i64 x.k, .string x.s, .pointer (some ⟨g, lo * 2 + j * 2, none⟩)] 92) := ⟨_, rfl⟩
      have BW : Below w.heap.size w W := by rw [hW]; exact (by repeat' first | with_reducible exact Below.refl _ _ | with_reducible assumption | with_reducible refine belows_drewN ?_ _ | with_reducible refine Below.drew ?_ | with_reducible refine Below.setCell ?_ ?_ _ | with_reducible refine Below.alloc ?_ ?_ _ | omega | (simp; done) | (simp; omega))
      obtain ⟨a0, a1, -⟩ := HV2.out W BW g hg
      rw [hW] at a0 a1
      clear hg hW BW
      go_wp2
      exact bodyPost_ret (v := .tuple #[.agg #[.int .i64 u.k, .int .i64 u.n], .int .i64 0]) (by (obtain ⟨e0, e1⟩ := HB.out.set2 (.int .i64 u.k) (.int .i64 u.n) (.cells #[.int .i64 x.k, .string x.s, .pointer (some ⟨g, lo * 2 + j * 2, none⟩)] 92)); simp [results, Try.results20, go_sem, e0, e1]) rfl ⟨rfl, (by repeat' first | with_reducible exact Below.refl _ _ | with_reducible assumption | with_reducible refine belows_drewN ?_ _ | with_reducible refine Below.drew ?_ | with_reducible refine Below.setCell ?_ ?_ _ | with_reducible refine Below.alloc ?_ ?_ _ | omega | (simp; done) | (simp; omega))⟩
end Go.Proofs.Ythembnakeikmeaa
namespace Go.Proofs.Ythembnakeikmeaa
open Go Go.RowKit

namespace Hp
def Hs.len (s : Hs) (ref : Int) : Int × Int := match s.thing ref with
  | some t => if t.cl = -1 then ((t.vs.length : Int), 0) else (0, 60)
  | none => (0, 60)
def Hs.cls (s : Hs) (ref : Int) : Int × Bool := match s.thing ref with
  | some t => if t.cl = -1 then (0, false) else (t.cl, true)
  | none => (0, false)
def Hs.ety (s : Hs) (ref : Int) : Ty × Bool := match s.thing ref with
  | some t => if t.cl = -1 then (t.ts.headD T0, true) else (T0, false)
  | none => (T0, false)
theorem no_arr {s : Hs} {ref : Int} (h : ∀ t, s.thing ref = some t → t.cl ≠ -1) : s.len ref = (0, 60) ∧ s.ety ref = (T0, false) := by
  unfold Hs.len Hs.ety
  cases ht : s.thing ref with
  | none => exact ⟨rfl, rfl⟩
  | some t => simp [h t ht]
theorem no_obj {s : Hs} {ref : Int} (h : ∀ t, s.thing ref = some t → t.cl = -1) : s.cls ref = (0, false) := by
  unfold Hs.cls
  cases ht : s.thing ref with
  | none => rfl
  | some t => simp [h t ht]
end Hp
theorem some_not {s : Hp.Hs} {ref : Int} {p : Hp.Th → Prop} (hn : ¬ ∀ t, s.thing ref = some t → p t) : ∃ t, s.thing ref = some t ∧ ¬ p t :=
  Classical.byContradiction fun hx => hn fun t ht => Classical.byContradiction fun hc => hx ⟨t, ht, hc⟩
set_option maxRecDepth 100000 in
set_option maxHeartbeats 1000000 in
theorem length_any {w : World} {base : Nat} {H : HV} {s : Hp.Hs} (h : Rep w base H s.flat) (ok : s.Ok) (ref : Int) (hr : -9223372036854775808 ≤ ref ∧ ref ≤ 9223372036854775807) :
    Calls Try.prog 21 #[.pointer (some ⟨H.hb, 0, none⟩), .int .i64 ref] w fun e w' => e = .returned (.tuple #[.int .i64 (s.len ref).1, .int .i64 (s.len ref).2]) ∧ Below w.heap.size w w' := by
  obtain ⟨s1, s2, s3, s4, s5, s6, s7⟩ := ok.sizes
  have HM := hid (fun X (k : Below w.heap.size w X) => isMade_any (h.below k))
  have HI0 := fun X (b : Below w.heap.size w X) => isArray_any (h.below b) ref hr (by omega)
  have hgen := h.hb_lt
  obtain ⟨k0, -⟩ := h.cells
  obtain ⟨hb, hhb⟩ : ∃ hb, hb = H.hb := ⟨_, rfl⟩
  by_cases hn : ∀ t, s.thing ref = some t → t.cl ≠ -1
  · rw [(Hp.no_arr hn).1]
    rw [isArr_no hn] at HI0
    obtain ⟨ib, hib⟩ : ∃ ib, ib = H.ib := ⟨_, rfl⟩
    rw [← hhb] at hgen k0 HM ⊢
    rw [← hib] at k0 HI0
    have HI := hid HI0
    clear h hn hib hhb HI0 s1 s2 s3 s4 s5 s6 s7
    go_enter Try.func21, Try.ntmps21
    go_wp2_with fail
    refine (HM.out _ (by repeat' first | with_reducible exact Below.refl _ _ | with_reducible assumption | with_reducible refine belows_drewN ?_ _ | with_reducible refine Below.drew ?_ | with_reducible refine Below.setCell ?_ ?_ _ | with_reducible refine Below.alloc ?_ ?_ _ | omega | (simp; done) | (simp; omega))).mono ?_
    rintro e w1 ⟨rfl, rfl⟩
    go_wp2_with fail
    refine (HI.out _ (by repeat' first | with_reducible exact Below.refl _ _ | with_reducible assumption | with_reducible refine belows_drewN ?_ _ | with_reducible refine Below.drew ?_ | with_reducible refine Below.setCell ?_ ?_ _ | with_reducible refine Below.alloc ?_ ?_ _ | omega | (simp; done) | (simp; omega))).mono ?_
    rintro e w2 ⟨rfl, hb2⟩
    have B2 := belows (B := w.heap.size) (a := w) (by repeat' first | with_reducible exact Below.refl _ _ | with_reducible assumption | with_reducible refine belows_drewN ?_ _ | with_reducible refine Below.drew ?_ | with_reducible refine Below.setCell ?_ ?_ _ | with_reducible refine Below.alloc ?_ ?_ _ | omega | (simp; done) | (simp; omega)) hb2 (by simp)
    go_wp2
    exact bodyPost_ret (v := .tuple #[.int .i64 0, .int .i64 60]) (by simp [results, Try.results21, go_sem]) rfl ⟨rfl, B2⟩
  · obtain ⟨t, hth, hc0⟩ := some_not hn
    have hc : t.cl = -1 := Classical.byContradiction hc0
    obtain ⟨r1, r2, hk⟩ := thing_at hth
    obtain ⟨k, hkk⟩ : ∃ k, k = (ref - 1).toNat := ⟨_, rfl⟩
    rw [← hkk] at hk
    have hrk : ref = (k : Int) + 1 := by omega
    have e : s.len ref = ((t.vs.length : Int), 0) := by unfold Hp.Hs.len; rw [hth]; simp [hc]
    rw [e]
    rw [isArr_yes hth hc] at HI0
    have HR0 := fun X (b : Below w.heap.size w X) => rowV_thing (h.below b) ok hk
    unfold RowPost Sub at HR0
    obtain ⟨n, hnn⟩ : ∃ n, n = t.vs.length := ⟨_, rfl⟩
    rw [← hnn] at HR0 ⊢
    obtain ⟨ib, hib⟩ : ∃ ib, ib = H.ib := ⟨_, rfl⟩
    rw [← hhb] at hgen k0 HM ⊢
    rw [← hib] at k0 HI0 HR0
    have HI := hid HI0
    have HR := hid HR0
    have hwk : IntKind.i64.wrap (k : Int) = (k : Int) := IntWalk.i64_in _ (by omega)
    subst hrk
    clear h hn hib hhb HI0 HR0 hnn e hkk hk r1 r2 hth hc hc0 s1 s2 s3 s4 s5 s6 s7
    go_enter Try.func21, Try.ntmps21
    go_wp2_with fail
    refine (HM.out _ (by repeat' first | with_reducible exact Below.refl _ _ | with_reducible assumption | with_reducible refine belows_drewN ?_ _ | with_reducible refine Below.drew ?_ | with_reducible refine Below.setCell ?_ ?_ _ | with_reducible refine Below.alloc ?_ ?_ _ | omega | (simp; done) | (simp; omega))).mono ?_
    rintro e w1 ⟨rfl, rfl⟩
    go_wp2_with fail
    refine (HI.out _ (by repeat' first | with_reducible exact Below.refl _ _ | with_reducible assumption | with_reducible refine belows_drewN ?_ _ | with_reducible refine Below.drew ?_ | with_reducible refine Below.setCell ?_ ?_ _ | with_reducible refine Below.alloc ?_ ?_ _ | omega | (simp; done) | (simp; omega))).mono ?_
    rintro e w2 ⟨rfl, hb2⟩
    have B2 := belows (B := w.heap.size) (a := w) (by repeat' first | with_reducible exact Below.refl _ _ | with_reducible assumption | with_reducible refine belows_drewN ?_ _ | with_reducible refine Below.drew ?_ | with_reducible refine Below.setCell ?_ ?_ _ | with_reducible refine Below.alloc ?_ ?_ _ | omega | (simp; done) | (simp; omega)) hb2 (by simp)
    have k2 := (B2.cell (p := ⟨hb, 0, none⟩) hgen).trans k0
    go_wp2_with fail
    refine (HR.out _ (by repeat' first | with_reducible exact Below.refl _ _ | with_reducible assumption | with_reducible refine belows_drewN ?_ _ | with_reducible refine Below.drew ?_ | with_reducible refine Below.setCell ?_ ?_ _ | with_reducible refine Below.alloc ?_ ?_ _ | omega | (simp; done) | (simp; omega))).mono ?_
    rintro e w3 ⟨v, rfl, ⟨a, c, rfl, hcc, -⟩, hb3⟩
    have B3 := belows (B := w.heap.size) (a := w) (by repeat' first | with_reducible exact Below.refl _ _ | with_reducible assumption | with_reducible refine belows_drewN ?_ _ | with_reducible refine Below.drew ?_ | with_reducible refine Below.setCell ?_ ?_ _ | with_reducible refine Below.alloc ?_ ?_ _ | omega | (simp; done) | (simp; omega)) hb3 B2.size
    go_wp2
    exact bodyPost_ret (v := .tuple #[.int .i64 (n : Int), .int .i64 0]) (by simp [results, Try.results21, go_sem]) rfl ⟨rfl, B3⟩
set_option maxRecDepth 100000 in
set_option maxHeartbeats 1000000 in
theorem cls_any {w : World} {base : Nat} {H : HV} {s : Hp.Hs} (h : Rep w base H s.flat) (ok : s.Ok) (ref : Int) (hr : -9223372036854775808 ≤ ref ∧ ref ≤ 9223372036854775807) :
    Calls Try.prog 22 #[.pointer (some ⟨H.hb, 0, none⟩), .int .i64 ref] w fun e w' => e = .returned (.tuple #[.int .i64 (s.cls ref).1, .bool (s.cls ref).2]) ∧ Below w.heap.size w w' := by
  obtain ⟨s1, s2, s3, s4, s5, s6, s7⟩ := ok.sizes
  have HM := hid (fun X (k : Below w.heap.size w X) => isMade_any (h.below k))
  have HI0 := fun X (b : Below w.heap.size w X) => isObject_any (h.below b) ref hr (by omega)
  have HC0 := fun X (b : Below w.heap.size w X) => class_any (h.below b) ref hr (by omega)
  have hgen := h.hb_lt
  obtain ⟨k0, -⟩ := h.cells
  obtain ⟨hb, hhb⟩ : ∃ hb, hb = H.hb := ⟨_, rfl⟩
  by_cases hn : ∀ t, s.thing ref = some t → t.cl = -1
  · rw [Hp.no_obj hn]
    rw [isObj_no hn] at HI0
    obtain ⟨ib, hib⟩ : ∃ ib, ib = H.ib := ⟨_, rfl⟩
    rw [← hhb] at hgen k0 HM ⊢
    rw [← hib] at k0 HI0
    have HI := hid HI0
    clear h hn hib hhb HI0 HC0 s1 s2 s3 s4 s5 s6 s7
    go_enter Try.func22, Try.ntmps22
    go_wp2_with fail
    refine (HM.out _ (by repeat' first | with_reducible exact Below.refl _ _ | with_reducible assumption | with_reducible refine belows_drewN ?_ _ | with_reducible refine Below.drew ?_ | with_reducible refine Below.setCell ?_ ?_ _ | with_reducible refine Below.alloc ?_ ?_ _ | omega | (simp; done) | (simp; omega))).mono ?_
    rintro e w1 ⟨rfl, rfl⟩
    go_wp2_with fail
    refine (HI.out _ (by repeat' first | with_reducible exact Below.refl _ _ | with_reducible assumption | with_reducible refine belows_drewN ?_ _ | with_reducible refine Below.drew ?_ | with_reducible refine Below.setCell ?_ ?_ _ | with_reducible refine Below.alloc ?_ ?_ _ | omega | (simp; done) | (simp; omega))).mono ?_
    rintro e w2 ⟨rfl, hb2⟩
    have B2 := belows (B := w.heap.size) (a := w) (by repeat' first | with_reducible exact Below.refl _ _ | with_reducible assumption | with_reducible refine belows_drewN ?_ _ | with_reducible refine Below.drew ?_ | with_reducible refine Below.setCell ?_ ?_ _ | with_reducible refine Below.alloc ?_ ?_ _ | omega | (simp; done) | (simp; omega)) hb2 (by simp)
    go_wp2
    exact bodyPost_ret (v := .tuple #[.int .i64 0, .bool false]) (by simp [results, Try.results22, go_sem]) rfl ⟨rfl, B2⟩
  · obtain ⟨t, hth, hc⟩ := some_not hn
    have e : s.cls ref = (t.cl, true) := by unfold Hp.Hs.cls; rw [hth]; simp [hc]
    rw [e]
    rw [isObj_yes hth hc] at HI0
    rw [clsOf_flat, hth] at HC0
    simp only [Option.map_some, Option.getD_some, Option.isSome_some] at HC0
    obtain ⟨c, hcc⟩ : ∃ c, c = t.cl := ⟨_, rfl⟩
    rw [← hcc] at HC0 ⊢
    obtain ⟨ib, hib⟩ : ∃ ib, ib = H.ib := ⟨_, rfl⟩
    rw [← hhb] at hgen k0 HM ⊢
    rw [← hib] at k0 HI0 HC0
    have HI := hid HI0
    have HC := hid HC0
    clear h hn hib hhb HI0 HC0 e hth hc hcc s1 s2 s3 s4 s5 s6 s7
    go_enter Try.func22, Try.ntmps22
    go_wp2_with fail
    refine (HM.out _ (by repeat' first | with_reducible exact Below.refl _ _ | with_reducible assumption | with_reducible refine belows_drewN ?_ _ | with_reducible refine Below.drew ?_ | with_reducible refine Below.setCell ?_ ?_ _ | with_reducible refine Below.alloc ?_ ?_ _ | omega | (simp; done) | (simp; omega))).mono ?_
    rintro e w1 ⟨rfl, rfl⟩
    go_wp2_with fail
    refine (HI.out _ (by repeat' first | with_reducible exact Below.refl _ _ | with_reducible assumption | with_reducible refine belows_drewN ?_ _ | with_reducible refine Below.drew ?_ | with_reducible refine Below.setCell ?_ ?_ _ | with_reducible refine Below.alloc ?_ ?_ _ | omega | (simp; done) | (simp; omega))).mono ?_
    rintro e w2 ⟨rfl, hb2⟩
    have B2 := belows (B := w.heap.size) (a := w) (by repeat' first | with_reducible exact Below.refl _ _ | with_reducible assumption | with_reducible refine belows_drewN ?_ _ | with_reducible refine Below.drew ?_ | with_reducible refine Below.setCell ?_ ?_ _ | with_reducible refine Below.alloc ?_ ?_ _ | omega | (simp; done) | (simp; omega)) hb2 (by simp)
    have k2 := (B2.cell (p := ⟨hb, 0, none⟩) hgen).trans k0
    go_wp2_with fail
    refine (HC.out _ (by repeat' first | with_reducible exact Below.refl _ _ | with_reducible assumption | with_reducible refine belows_drewN ?_ _ | with_reducible refine Below.drew ?_ | with_reducible refine Below.setCell ?_ ?_ _ | with_reducible refine Below.alloc ?_ ?_ _ | omega | (simp; done) | (simp; omega))).mono ?_
    rintro e w3 ⟨rfl, hb3⟩
    have B3 := belows (B := w.heap.size) (a := w) (by repeat' first | with_reducible exact Below.refl _ _ | with_reducible assumption | with_reducible refine belows_drewN ?_ _ | with_reducible refine Below.drew ?_ | with_reducible refine Below.setCell ?_ ?_ _ | with_reducible refine Below.alloc ?_ ?_ _ | omega | (simp; done) | (simp; omega)) hb3 B2.size
    go_wp2
    exact bodyPost_ret (v := .tuple #[.int .i64 c, .bool true]) (by simp [results, Try.results22, go_sem]) rfl ⟨rfl, B3⟩
set_option maxRecDepth 100000 in
set_option maxHeartbeats 1000000 in
theorem ety_any {w : World} {base : Nat} {H : HV} {s : Hp.Hs} (h : Rep w base H s.flat) (ok : s.Ok) (ref : Int) (hr : -9223372036854775808 ≤ ref ∧ ref ≤ 9223372036854775807) :
    Calls Try.prog 23 #[.pointer (some ⟨H.hb, 0, none⟩), .int .i64 ref] w fun e w' => e = .returned (.tuple #[tA (s.ety ref).1, .bool (s.ety ref).2]) ∧ Below w.heap.size w w' := by
  obtain ⟨s1, s2, s3, s4, s5, s6, s7⟩ := ok.sizes
  have HM := hid (fun X (k : Below w.heap.size w X) => isMade_any (h.below k))
  have HI0 := fun X (b : Below w.heap.size w X) => isArray_any (h.below b) ref hr (by omega)
  have hgen := h.hb_lt
  obtain ⟨k0, -⟩ := h.cells
  obtain ⟨hb, hhb⟩ : ∃ hb, hb = H.hb := ⟨_, rfl⟩
  by_cases hn : ∀ t, s.thing ref = some t → t.cl ≠ -1
  · rw [(Hp.no_arr hn).2]
    rw [isArr_no hn] at HI0
    unfold tA Hp.T0
    obtain ⟨ib, hib⟩ : ∃ ib, ib = H.ib := ⟨_, rfl⟩
    rw [← hhb] at hgen k0 HM ⊢
    rw [← hib] at k0 HI0
    have HI := hid HI0
    clear h hn hib hhb HI0 s1 s2 s3 s4 s5 s6 s7
    go_enter Try.func23, Try.ntmps23
    go_wp2_with fail
    refine (HM.out _ (by repeat' first | with_reducible exact Below.refl _ _ | with_reducible assumption | with_reducible refine belows_drewN ?_ _ | with_reducible refine Below.drew ?_ | with_reducible refine Below.setCell ?_ ?_ _ | with_reducible refine Below.alloc ?_ ?_ _ | omega | (simp; done) | (simp; omega))).mono ?_
    rintro e w1 ⟨rfl, rfl⟩
    go_wp2_with fail
    refine (HI.out _ (by repeat' first | with_reducible exact Below.refl _ _ | with_reducible assumption | with_reducible refine belows_drewN ?_ _ | with_reducible refine Below.drew ?_ | with_reducible refine Below.setCell ?_ ?_ _ | with_reducible refine Below.alloc ?_ ?_ _ | omega | (simp; done) | (simp; omega))).mono ?_
    rintro e w2 ⟨rfl, hb2⟩
    have B2 := belows (B := w.heap.size) (a := w) (by repeat' first | with_reducible exact Below.refl _ _ | with_reducible assumption | with_reducible refine belows_drewN ?_ _ | with_reducible refine Below.drew ?_ | with_reducible refine Below.setCell ?_ ?_ _ | with_reducible refine Below.alloc ?_ ?_ _ | omega | (simp; done) | (simp; omega)) hb2 (by simp)
    have bx := (BX.new w #[.int .i64 0, .string ⟨#[]⟩] 33).below hb2
    have c0 := bx.frozen 0
    have c1 := bx.frozen 1
    have d0 := bx.cell 0
    have d1 := bx.cell 1
    simp at d0 d1
    have HX := hid bx
    clear bx hb2
    go_wp2
    exact bodyPost_ret (v := .tuple #[.agg #[.int .i64 0, .string ⟨#[]⟩], .bool false]) (by have e3 := (HX.out.set 0 (.int .i64 0)).set 1 (.string ⟨#[]⟩); have e0 := e3.cell 0; have e1 := e3.cell 1; simp at e0 e1; simp [results, Try.results23, go_sem, e0, e1]) rfl ⟨rfl, (by repeat' first | with_reducible exact Below.refl _ _ | with_reducible assumption | with_reducible refine belows_drewN ?_ _ | with_reducible refine Below.drew ?_ | with_reducible refine Below.setCell ?_ ?_ _ | with_reducible refine Below.alloc ?_ ?_ _ | omega | (simp; done) | (simp; omega))⟩
  · obtain ⟨t, hth, hc0⟩ := some_not hn
    have hc : t.cl = -1 := Classical.byContradiction hc0
    obtain ⟨r1, r2, hk⟩ := thing_at hth
    obtain ⟨x, hx⟩ := Hp.ok_one ok (List.mem_of_getElem? hk) hc
    obtain ⟨k, hkk⟩ : ∃ k, k = (ref - 1).toNat := ⟨_, rfl⟩
    rw [← hkk] at hk
    have hrk : ref = (k : Int) + 1 := by omega
    have e : s.ety ref = (x, true) := by unfold Hp.Hs.ety; rw [hth]; simp [hc, hx]
    rw [e]
    rw [isArr_yes hth hc] at HI0
    have HE0 := fun X (b : Below w.heap.size w X) => elem_any (h.below b) ok hk hx
    rw [← hrk] at HE0
    unfold tA at HE0 ⊢
    obtain ⟨ib, hib⟩ : ∃ ib, ib = H.ib := ⟨_, rfl⟩
    rw [← hhb] at hgen k0 HM ⊢
    rw [← hib] at k0 HI0 HE0
    have HI := hid HI0
    have HE := hid HE0
    clear h hn hib hhb HI0 HE0 e hrk hkk hk r1 r2 hth hc hc0 hx s1 s2 s3 s4 s5 s6 s7
    go_enter Try.func23, Try.ntmps23
    go_wp2_with fail
    refine (HM.out _ (by repeat' first | with_reducible exact Below.refl _ _ | with_reducible assumption | with_reducible refine belows_drewN ?_ _ | with_reducible refine Below.drew ?_ | with_reducible refine Below.setCell ?_ ?_ _ | with_reducible refine Below.alloc ?_ ?_ _ | omega | (simp; done) | (simp; omega))).mono ?_
    rintro e w1 ⟨rfl, rfl⟩
    go_wp2_with fail
    refine (HI.out _ (by repeat' first | with_reducible exact Below.refl _ _ | with_reducible assumption | with_reducible refine belows_drewN ?_ _ | with_reducible refine Below.drew ?_ | with_reducible refine Below.setCell ?_ ?_ _ | with_reducible refine Below.alloc ?_ ?_ _ | omega | (simp; done) | (simp; omega))).mono ?_
    rintro e w2 ⟨rfl, hb2⟩
    have B2 := belows (B := w.heap.size) (a := w) (by repeat' first | with_reducible exact Below.refl _ _ | with_reducible assumption | with_reducible refine belows_drewN ?_ _ | with_reducible refine Below.drew ?_ | with_reducible refine Below.setCell ?_ ?_ _ | with_reducible refine Below.alloc ?_ ?_ _ | omega | (simp; done) | (simp; omega)) hb2 (by simp)
    have k2 := (B2.cell (p := ⟨hb, 0, none⟩) hgen).trans k0
    have bx1 := (BX.new w #[.int .i64 0, .string ⟨#[]⟩] 33).below hb2
    go_wp2_with fail
    refine (HE.out _ (by repeat' first | with_reducible exact Below.refl _ _ | with_reducible assumption | with_reducible refine belows_drewN ?_ _ | with_reducible refine Below.drew ?_ | with_reducible refine Below.setCell ?_ ?_ _ | with_reducible refine Below.alloc ?_ ?_ _ | omega | (simp; done) | (simp; omega))).mono ?_
    rintro e w3 ⟨rfl, hb3⟩
    have B3 := belows (B := w.heap.size) (a := w) (by repeat' first | with_reducible exact Below.refl _ _ | with_reducible assumption | with_reducible refine belows_drewN ?_ _ | with_reducible refine Below.drew ?_ | with_reducible refine Below.setCell ?_ ?_ _ | with_reducible refine Below.alloc ?_ ?_ _ | omega | (simp; done) | (simp; omega)) hb3 B2.size
    have bx := bx1.below hb3
    have c0 := bx.frozen 0
    have c1 := bx.frozen 1
    have d0 := bx.cell 0
    have d1 := bx.cell 1
    simp at d0 d1
    have HX := hid bx
    clear bx bx1 hb2 hb3
    go_wp2
    exact bodyPost_ret (v := .tuple #[.agg #[.int .i64 x.k, .string x.s], .bool true]) (by have e3 := (HX.out.set 0 (.int .i64 x.k)).set 1 (.string x.s); have e0 := e3.cell 0; have e1 := e3.cell 1; simp at e0 e1; simp [results, Try.results23, go_sem, e0, e1]) rfl ⟨rfl, (by repeat' first | with_reducible exact Below.refl _ _ | with_reducible assumption | with_reducible refine belows_drewN ?_ _ | with_reducible refine Below.drew ?_ | with_reducible refine Below.setCell ?_ ?_ _ | with_reducible refine Below.alloc ?_ ?_ _ | omega | (simp; done) | (simp; omega))⟩
end Go.Proofs.Ythembnakeikmeaa
namespace Go.Proofs.Ythembnakeikmeaa
open Go.RowKit

theorem owns_empty {w : World} {base : Nat} {e : TypeId} {size : Nat} (hB : base ≤ w.heap.size) : (w.alloc (.cells #[] e)).ownsRow base e size (.slice (some ⟨w.heap.size, 0, none⟩) 0 0) 0 [] :=
  ⟨by simp, .inr ⟨w.heap.size, 0, #[], rfl, hB, heap_alloc_last w _, by omega, by unfold maxLen; omega, by simp, by simp⟩⟩
def ClonePost (e : TypeId) (size n : Nat) (xs : List Value) (w : World) (en : Ending) (w' : World) : Prop := ∃ v, en = .returned v ∧ w'.ownsRow w.heap.size e size v n xs ∧ Below w.heap.size w w'
set_option maxRecDepth 100000 in
set_option maxHeartbeats 400000 in
theorem iclone_some (n : Nat) (xs : List Value) (ad : Addr) (cap : Nat) (w : World) (hx : xs.length = n * 1) (hn : n * 8 ≤ 140737488355328) (hc : ∀ j u, xs[j]? = some u → w.cell? (ad.add j) = some u) (h1c : ∀ u ∈ xs, u.oneCell' = true) : Calls Try.prog 61 #[.slice (some ad) n cap] w (ClonePost 3 1 n xs w) := by
  obtain ⟨i0, hi, hz0, hz1, hz2⟩ := info_parts infoI
  have hnil := fun (W : World) (a : Option Addr) (n c : Nat) => Lib.run_eql_slice_nil (P := Try.prog) W 72 3 a n c 0 0 Try.underlying72
  have hlt : ∀ j u, xs[j]? = some u → (w.alloc (.cells #[] 3)).cell? (ad.add j) = some u := fun j u h => by
    have h2 := hc j u h
    rw [World.cell?_alloc_lt _ _ _ (World.block_lt_of_cell? w _ h2)]
    exact h2
  have HL := hid hlt
  have HLen := hid hx
  have H1 := hid h1c
  clear hc hlt hx h1c
  go_enter Try.func61, Try.ntmps61
  go_wp2_with (at_builtin; go_loud (refine wpList_append_own _ rfl (.tmp 5) (.tmp 6) 72 rfl w.heap.size 3 i0 _ 1 8 Try.underlying72 hi hz0 hz1 hz2 rfl (by decide) _ 0 [] rfl (owns_empty (Nat.le_refl _)) ad n cap xs rfl HLen.out HL.out H1.out (by unfold maxLen; omega) (by omega) (by simp) ?_); intro v1 w1 hown1 hgrow1 _)
  go_ret
  refine ⟨_, rfl, by simpa using hown1, Kit.below_grown (by repeat' first | with_reducible exact Below.refl _ _ | with_reducible assumption | with_reducible refine belows_drewN ?_ _ | with_reducible refine Below.drew ?_ | with_reducible refine Below.setCell ?_ ?_ _ | with_reducible refine Below.alloc ?_ ?_ _ | omega | (simp; done) | (simp; omega)) hgrow1 (by simp) (fun k hk => ?_)⟩
  have : some w.heap.size = some k := hk
  exact Nat.le_of_eq (Option.some.inj this)
theorem iclone_nil (c : Nat) (w : World) : Calls Try.prog 61 #[.slice none 0 c] w (ClonePost 3 1 0 [] w) := by
  have hnil := fun (W : World) (a : Option Addr) (n c : Nat) => Lib.run_eql_slice_nil (P := Try.prog) W 72 3 a n c 0 0 Try.underlying72
  go_enter Try.func61, Try.ntmps61
  go_wp2
  go_ret
  exact ⟨_, rfl, ⟨rfl, .inl ⟨rfl, rfl⟩⟩, (by repeat' first | with_reducible exact Below.refl _ _ | with_reducible assumption | with_reducible refine belows_drewN ?_ _ | with_reducible refine Below.drew ?_ | with_reducible refine Below.setCell ?_ ?_ _ | with_reducible refine Below.alloc ?_ ?_ _ | omega | (simp; done) | (simp; omega))⟩
theorem iclone_any (n : Nat) (xs : List Value) (v : Value) (w : World) (hv : Kit.IsS 1 w v n xs) (hn : n * 8 ≤ 140737488355328) (h1c : ∀ u ∈ xs, u.oneCell' = true) : Calls Try.prog 61 #[v] w (ClonePost 3 1 n xs w) := by
  rcases hv.2.2 with ⟨rfl, a, cap, rfl⟩ | ⟨b, o, cap, rfl, hl, hlt, hc⟩
  · have hxs : xs = [] := List.length_eq_zero_iff.1 (by have := hv.1; omega)
    subst hxs
    cases a with
    | none => exact iclone_nil cap w
    | some ad => exact iclone_some 0 [] ad cap w rfl (by omega) (fun j u h => by simp at h) (fun u h => by cases h)
  · exact iclone_some n xs ⟨b, o, none⟩ cap w hv.1 hn (fun j u h => by rw [Go.WideShapes.add_plain]; exact hc j u h) h1c
set_option maxRecDepth 100000 in
set_option maxHeartbeats 400000 in
theorem tclone_some (n : Nat) (xs : List Value) (ad : Addr) (cap : Nat) (w : World) (hx : xs.length = n * 2) (hn : n * 24 ≤ 140737488355328) (hc : ∀ j u, xs[j]? = some u → w.cell? (ad.add j) = some u) (h1c : ∀ u ∈ xs, u.oneCell' = true) : Calls Try.prog 67 #[.slice (some ad) n cap] w (ClonePost 33 2 n xs w) := by
  obtain ⟨i0, hi, hz0, hz1, hz2⟩ := info_parts infoT
  have hnil := fun (W : World) (a : Option Addr) (n c : Nat) => Lib.run_eql_slice_nil (P := Try.prog) W 31 33 a n c 0 0 Try.underlying31
  have hlt : ∀ j u, xs[j]? = some u → (w.alloc (.cells #[] 33)).cell? (ad.add j) = some u := fun j u h => by
    have h2 := hc j u h
    rw [World.cell?_alloc_lt _ _ _ (World.block_lt_of_cell? w _ h2)]
    exact h2
  have HL := hid hlt
  have HLen := hid hx
  have H1 := hid h1c
  clear hc hlt hx h1c
  go_enter Try.func67, Try.ntmps67
  go_wp2_with (at_builtin; go_loud (refine wpList_append_own _ rfl (.tmp 5) (.tmp 6) 31 rfl w.heap.size 33 i0 _ 2 24 Try.underlying31 hi hz0 hz1 hz2 rfl (by decide) _ 0 [] rfl (owns_empty (Nat.le_refl _)) ad n cap xs rfl HLen.out HL.out H1.out (by unfold maxLen; omega) (by omega) (by simp) ?_); intro v1 w1 hown1 hgrow1 _)
  go_ret
  refine ⟨_, rfl, by simpa using hown1, Kit.below_grown (by repeat' first | with_reducible exact Below.refl _ _ | with_reducible assumption | with_reducible refine belows_drewN ?_ _ | with_reducible refine Below.drew ?_ | with_reducible refine Below.setCell ?_ ?_ _ | with_reducible refine Below.alloc ?_ ?_ _ | omega | (simp; done) | (simp; omega)) hgrow1 (by simp) (fun k hk => ?_)⟩
  have : some w.heap.size = some k := hk
  exact Nat.le_of_eq (Option.some.inj this)
theorem tclone_nil (c : Nat) (w : World) : Calls Try.prog 67 #[.slice none 0 c] w (ClonePost 33 2 0 [] w) := by
  have hnil := fun (W : World) (a : Option Addr) (n c : Nat) => Lib.run_eql_slice_nil (P := Try.prog) W 31 33 a n c 0 0 Try.underlying31
  go_enter Try.func67, Try.ntmps67
  go_wp2
  go_ret
  exact ⟨_, rfl, ⟨rfl, .inl ⟨rfl, rfl⟩⟩, (by repeat' first | with_reducible exact Below.refl _ _ | with_reducible assumption | with_reducible refine belows_drewN ?_ _ | with_reducible refine Below.drew ?_ | with_reducible refine Below.setCell ?_ ?_ _ | with_reducible refine Below.alloc ?_ ?_ _ | omega | (simp; done) | (simp; omega))⟩
theorem tclone_any (n : Nat) (xs : List Value) (v : Value) (w : World) (hv : Kit.IsS 2 w v n xs) (hn : n * 24 ≤ 140737488355328) (h1c : ∀ u ∈ xs, u.oneCell' = true) : Calls Try.prog 67 #[v] w (ClonePost 33 2 n xs w) := by
  rcases hv.2.2 with ⟨rfl, a, cap, rfl⟩ | ⟨b, o, cap, rfl, hl, hlt, hc⟩
  · have hxs : xs = [] := List.length_eq_zero_iff.1 (by have := hv.1; omega)
    subst hxs
    cases a with
    | none => exact tclone_nil cap w
    | some ad => exact tclone_some 0 [] ad cap w rfl (by omega) (fun j u h => by simp at h) (fun u h => by cases h)
  · exact tclone_some n xs ⟨b, o, none⟩ cap w hv.1 hn (fun j u h => by rw [Go.WideShapes.add_plain]; exact hc j u h) h1c
set_option maxRecDepth 100000 in
set_option maxHeartbeats 400000 in
theorem vclone_some (n : Nat) (xs : List Value) (ad : Addr) (cap : Nat) (w : World) (hx : xs.length = n * 2) (hn : n * 16 ≤ 140737488355328) (hc : ∀ j u, xs[j]? = some u → w.cell? (ad.add j) = some u) (h1c : ∀ u ∈ xs, u.oneCell' = true) : Calls Try.prog 68 #[.slice (some ad) n cap] w (ClonePost 35 2 n xs w) := by
  obtain ⟨i0, hi, hz0, hz1, hz2⟩ := info_parts infoV
  have hnil := fun (W : World) (a : Option Addr) (n c : Nat) => Lib.run_eql_slice_nil (P := Try.prog) W 75 35 a n c 0 0 Try.underlying75
  have hlt : ∀ j u, xs[j]? = some u → (w.alloc (.cells #[] 35)).cell? (ad.add j) = some u := fun j u h => by
    have h2 := hc j u h
    rw [World.cell?_alloc_lt _ _ _ (World.block_lt_of_cell? w _ h2)]
    exact h2
  have HL := hid hlt
  have HLen := hid hx
  have H1 := hid h1c
  clear hc hlt hx h1c
  go_enter Try.func68, Try.ntmps68
  go_wp2_with (at_builtin; go_loud (refine wpList_append_own _ rfl (.tmp 5) (.tmp 6) 75 rfl w.heap.size 35 i0 _ 2 16 Try.underlying75 hi hz0 hz1 hz2 rfl (by decide) _ 0 [] rfl (owns_empty (Nat.le_refl _)) ad n cap xs rfl HLen.out HL.out H1.out (by unfold maxLen; omega) (by omega) (by simp) ?_); intro v1 w1 hown1 hgrow1 _)
  go_ret
  refine ⟨_, rfl, by simpa using hown1, Kit.below_grown (by repeat' first | with_reducible exact Below.refl _ _ | with_reducible assumption | with_reducible refine belows_drewN ?_ _ | with_reducible refine Below.drew ?_ | with_reducible refine Below.setCell ?_ ?_ _ | with_reducible refine Below.alloc ?_ ?_ _ | omega | (simp; done) | (simp; omega)) hgrow1 (by simp) (fun k hk => ?_)⟩
  have : some w.heap.size = some k := hk
  exact Nat.le_of_eq (Option.some.inj this)
theorem vclone_nil (c : Nat) (w : World) : Calls Try.prog 68 #[.slice none 0 c] w (ClonePost 35 2 0 [] w) := by
  have hnil := fun (W : World) (a : Option Addr) (n c : Nat) => Lib.run_eql_slice_nil (P := Try.prog) W 75 35 a n c 0 0 Try.underlying75
  go_enter Try.func68, Try.ntmps68
  go_wp2
  go_ret
  exact ⟨_, rfl, ⟨rfl, .inl ⟨rfl, rfl⟩⟩, (by repeat' first | with_reducible exact Below.refl _ _ | with_reducible assumption | with_reducible refine belows_drewN ?_ _ | with_reducible refine Below.drew ?_ | with_reducible refine Below.setCell ?_ ?_ _ | with_reducible refine Below.alloc ?_ ?_ _ | omega | (simp; done) | (simp; omega))⟩
theorem vclone_any (n : Nat) (xs : List Value) (v : Value) (w : World) (hv : Kit.IsS 2 w v n xs) (hn : n * 16 ≤ 140737488355328) (h1c : ∀ u ∈ xs, u.oneCell' = true) : Calls Try.prog 68 #[v] w (ClonePost 35 2 n xs w) := by
  rcases hv.2.2 with ⟨rfl, a, cap, rfl⟩ | ⟨b, o, cap, rfl, hl, hlt, hc⟩
  · have hxs : xs = [] := List.length_eq_zero_iff.1 (by have := hv.1; omega)
    subst hxs
    cases a with
    | none => exact vclone_nil cap w
    | some ad => exact vclone_some 0 [] ad cap w rfl (by omega) (fun j u h => by simp at h) (fun u h => by cases h)
  · exact vclone_some n xs ⟨b, o, none⟩ cap w hv.1 hn (fun j u h => by rw [Go.WideShapes.add_plain]; exact hc j u h) h1c
end Go.Proofs.Ythembnakeikmeaa
namespace Go.Proofs.Ythembnakeikmeaa
open Go Go.RowKit

def n1L (n : Int) : List Value := [.int .i64 n]
theorem i_at {w : World} {v : Value} {l : List Int} (h : Kit.IsS 1 w v l.length (l.flatMap n1L)) {k : Nat} {x : Int} (hx : l[k]? = some x) : ∃ b o cap, v = .slice (some ⟨b, o, none⟩) l.length cap ∧ w.cell? ⟨b, o + k, none⟩ = some (.int .i64 x) := by
  have hlt : k < l.length := (List.getElem?_eq_some_iff.1 hx).1
  obtain ⟨b, o, cap, hv, -, -, hc⟩ := h.some (by omega)
  have h0 := Kit.flat_at (f := n1L) (s := 1) (fun _ => rfl) hx 0 (by omega : 0 < 1)
  rw [Nat.mul_one, Nat.add_zero] at h0
  exact ⟨b, o, cap, hv, hc k _ h0⟩
theorem t_at {w : World} {v : Value} {l : List Hp.Ty} (h : Kit.IsS 2 w v l.length (l.flatMap tL)) {k : Nat} {x : Hp.Ty} (hx : l[k]? = some x) : ∃ b o cap, v = .slice (some ⟨b, o, none⟩) l.length cap ∧ w.cell? ⟨b, o + k * 2, none⟩ = some (.int .i64 x.k) ∧ w.cell? ⟨b, o + k * 2 + 1, none⟩ = some (.string x.s) := by
  have hlt : k < l.length := (List.getElem?_eq_some_iff.1 hx).1
  obtain ⟨b, o, cap, hv, -, -, hc⟩ := h.some (by omega)
  obtain ⟨h0, h1⟩ := tL_at hx
  exact ⟨b, o, cap, hv, hc (k * 2) _ h0, Nat.add_assoc o (k * 2) 1 ▸ hc (k * 2 + 1) _ h1⟩
theorem v_at {w : World} {v : Value} {l : List Hp.Vl} (h : Kit.IsS 2 w v l.length (l.flatMap vL)) {k : Nat} {x : Hp.Vl} (hx : l[k]? = some x) : ∃ b o cap, v = .slice (some ⟨b, o, none⟩) l.length cap ∧ w.cell? ⟨b, o + k * 2, none⟩ = some (.int .i64 x.k) ∧ w.cell? ⟨b, o + k * 2 + 1, none⟩ = some (.int .i64 x.n) := by
  have hlt : k < l.length := (List.getElem?_eq_some_iff.1 hx).1
  obtain ⟨b, o, cap, hv, -, -, hc⟩ := h.some (by omega)
  obtain ⟨h0, h1⟩ := vL_at hx
  exact ⟨b, o, cap, hv, hc (k * 2) _ h0, Nat.add_assoc o (k * 2) 1 ▸ hc (k * 2 + 1) _ h1⟩
set_option maxRecDepth 100000 in
set_option maxHeartbeats 400000 in
theorem ieq_any (l : List Int) (v u : Value) (w : World) (hv : Kit.IsS 1 w v l.length (l.flatMap n1L)) (hu : Kit.IsS 1 w u l.length (l.flatMap n1L)) :
    Calls Try.prog 64 #[v, u] w fun e w' => e = .returned (.bool true) ∧ Below w.heap.size w w' := by
  have HV := hid hv
  have HU := hid hu
  obtain ⟨a1, cap1, hv2⟩ := hv.len
  obtain ⟨a2, cap2, hu2⟩ := hu.len
  subst hv2 hu2
  have hlen := hv.2.1
  clear hv hu
  go_enter Try.func64, Try.ntmps64
  go_wp2
  go_loopw [13] (fun i wr => ∃ k : Nat, k ≤ l.length ∧ i = .int .i64 k ∧ Below w.heap.size w wr) (fun i _ => l.length - (intOf i).toNat)
  case atStart => exact ⟨0, by omega, rfl, (by repeat' first | with_reducible exact Below.refl _ _ | with_reducible assumption | with_reducible refine belows_drewN ?_ _ | with_reducible refine Below.drew ?_ | with_reducible refine Below.setCell ?_ ?_ _ | with_reducible refine Below.alloc ?_ ?_ _ | omega | (simp; done) | (simp; omega))⟩
  case round =>
    obtain ⟨k, hk, rfl, hbl⟩ := hrel
    have hbz := hbl.size
    by_cases hlt : k < l.length
    · obtain ⟨x, hx⟩ : ∃ x, l[k]? = some x := ⟨l[k], List.getElem?_eq_getElem hlt⟩
      obtain ⟨b, o, cap', hv, c0⟩ := i_at (HV.out.below hbl (Nat.le_refl _)) hx
      obtain ⟨rfl, -, rfl⟩ := Value.slice.inj hv
      obtain ⟨b', o', cap', hv', d0⟩ := i_at (HU.out.below hbl (Nat.le_refl _)) hx
      obtain ⟨rfl, -, rfl⟩ := Value.slice.inj hv'
      have i1 : (k : Int) < (l.length : Int) := by omega
      clear hx hv hv'
      go_wp2
      go_quiet (fail)
      go_wp2
      go_roundw
      case rel => exact ⟨k + 1, by omega, by go_num, (by repeat' first | with_reducible exact Below.refl _ _ | with_reducible assumption | with_reducible refine belows_drewN ?_ _ | with_reducible refine Below.drew ?_ | with_reducible refine Below.setCell ?_ ?_ _ | with_reducible refine Below.alloc ?_ ?_ _ | omega | (simp; done) | (simp; omega))⟩
      case measure => simp [intOf]; omega
    · obtain rfl : k = l.length := by omega
      go_wp2
      go_ret
      exact ⟨rfl, (by repeat' first | with_reducible exact Below.refl _ _ | with_reducible assumption | with_reducible refine belows_drewN ?_ _ | with_reducible refine Below.drew ?_ | with_reducible refine Below.setCell ?_ ?_ _ | with_reducible refine Below.alloc ?_ ?_ _ | omega | (simp; done) | (simp; omega))⟩
set_option maxRecDepth 100000 in
set_option maxHeartbeats 400000 in
theorem teq_any (l : List Hp.Ty) (v u : Value) (w : World) (hv : Kit.IsS 2 w v l.length (l.flatMap tL)) (hu : Kit.IsS 2 w u l.length (l.flatMap tL)) :
    Calls Try.prog 69 #[v, u] w fun e w' => e = .returned (.bool true) ∧ Below w.heap.size w w' := by
  have HV := hid hv
  have HU := hid hu
  obtain ⟨a1, cap1, hv2⟩ := hv.len
  obtain ⟨a2, cap2, hu2⟩ := hu.len
  subst hv2 hu2
  have hlen := hv.2.1
  clear hv hu
  go_enter Try.func69, Try.ntmps69
  go_wp2
  go_loopw [13] (fun i wr => ∃ k : Nat, k ≤ l.length ∧ i = .int .i64 k ∧ Below w.heap.size w wr) (fun i _ => l.length - (intOf i).toNat)
  case atStart => exact ⟨0, by omega, rfl, (by repeat' first | with_reducible exact Below.refl _ _ | with_reducible assumption | with_reducible refine belows_drewN ?_ _ | with_reducible refine Below.drew ?_ | with_reducible refine Below.setCell ?_ ?_ _ | with_reducible refine Below.alloc ?_ ?_ _ | omega | (simp; done) | (simp; omega))⟩
  case round =>
    obtain ⟨k, hk, rfl, hbl⟩ := hrel
    have hbz := hbl.size
    by_cases hlt : k < l.length
    · obtain ⟨x, hx⟩ : ∃ x, l[k]? = some x := ⟨l[k], List.getElem?_eq_getElem hlt⟩
      obtain ⟨b, o, cap', hv, c0, c1⟩ := t_at (HV.out.below hbl (Nat.le_refl _)) hx
      obtain ⟨rfl, -, rfl⟩ := Value.slice.inj hv
      obtain ⟨b', o', cap', hv', d0, d1⟩ := t_at (HU.out.below hbl (Nat.le_refl _)) hx
      obtain ⟨rfl, -, rfl⟩ := Value.slice.inj hv'
      have i1 : (k : Int) < (l.length : Int) := by omega
      clear hx hv hv'
      go_wp2
      go_quiet (fail)
      go_wp2
      go_roundw
      case rel => exact ⟨k + 1, by omega, by go_num, (by repeat' first | with_reducible exact Below.refl _ _ | with_reducible assumption | with_reducible refine belows_drewN ?_ _ | with_reducible refine Below.drew ?_ | with_reducible refine Below.setCell ?_ ?_ _ | with_reducible refine Below.alloc ?_ ?_ _ | omega | (simp; done) | (simp; omega))⟩
      case measure => simp [intOf]; omega
    · obtain rfl : k = l.length := by omega
      go_wp2
      go_ret
      exact ⟨rfl, (by repeat' first | with_reducible exact Below.refl _ _ | with_reducible assumption | with_reducible refine belows_drewN ?_ _ | with_reducible refine Below.drew ?_ | with_reducible refine Below.setCell ?_ ?_ _ | with_reducible refine Below.alloc ?_ ?_ _ | omega | (simp; done) | (simp; omega))⟩
set_option maxRecDepth 100000 in
set_option maxHeartbeats 400000 in
theorem veq_any (l : List Hp.Vl) (v u : Value) (w : World) (hv : Kit.IsS 2 w v l.length (l.flatMap vL)) (hu : Kit.IsS 2 w u l.length (l.flatMap vL)) :
    Calls Try.prog 70 #[v, u] w fun e w' => e = .returned (.bool true) ∧ Below w.heap.size w w' := by
  have HV := hid hv
  have HU := hid hu
  obtain ⟨a1, cap1, hv2⟩ := hv.len
  obtain ⟨a2, cap2, hu2⟩ := hu.len
  subst hv2 hu2
  have hlen := hv.2.1
  clear hv hu
  go_enter Try.func70, Try.ntmps70
  go_wp2
  go_loopw [13] (fun i wr => ∃ k : Nat, k ≤ l.length ∧ i = .int .i64 k ∧ Below w.heap.size w wr) (fun i _ => l.length - (intOf i).toNat)
  case atStart => exact ⟨0, by omega, rfl, (by repeat' first | with_reducible exact Below.refl _ _ | with_reducible assumption | with_reducible refine belows_drewN ?_ _ | with_reducible refine Below.drew ?_ | with_reducible refine Below.setCell ?_ ?_ _ | with_reducible refine Below.alloc ?_ ?_ _ | omega | (simp; done) | (simp; omega))⟩
  case round =>
    obtain ⟨k, hk, rfl, hbl⟩ := hrel
    have hbz := hbl.size
    by_cases hlt : k < l.length
    · obtain ⟨x, hx⟩ : ∃ x, l[k]? = some x := ⟨l[k], List.getElem?_eq_getElem hlt⟩
      obtain ⟨b, o, cap', hv, c0, c1⟩ := v_at (HV.out.below hbl (Nat.le_refl _)) hx
      obtain ⟨rfl, -, rfl⟩ := Value.slice.inj hv
      obtain ⟨b', o', cap', hv', d0, d1⟩ := v_at (HU.out.below hbl (Nat.le_refl _)) hx
      obtain ⟨rfl, -, rfl⟩ := Value.slice.inj hv'
      have i1 : (k : Int) < (l.length : Int) := by omega
      clear hx hv hv'
      go_wp2
      go_quiet (fail)
      go_wp2
      go_roundw
      case rel => exact ⟨k + 1, by omega, by go_num, (by repeat' first | with_reducible exact Below.refl _ _ | with_reducible assumption | with_reducible refine belows_drewN ?_ _ | with_reducible refine Below.drew ?_ | with_reducible refine Below.setCell ?_ ?_ _ | with_reducible refine Below.alloc ?_ ?_ _ | omega | (simp; done) | (simp; omega))⟩
      case measure => simp [intOf]; omega
    · obtain rfl : k = l.length := by omega
      go_wp2
      go_ret
      exact ⟨rfl, (by repeat' first | with_reducible exact Below.refl _ _ | with_reducible assumption | with_reducible refine belows_drewN ?_ _ | with_reducible refine Below.drew ?_ | with_reducible refine Below.setCell ?_ ?_ _ | with_reducible refine Below.alloc ?_ ?_ _ | omega | (simp; done) | (simp; omega))⟩
end Go.Proofs.Ythembnakeikmeaa
namespace Go.Proofs.Ythembnakeikmeaa
open Go Go.RowKit

theorem own_mono {w : World} {base base' : Nat} {e : TypeId} {size : Nat} {v : Value} {n : Nat} {xs : List Value} (h : w.ownsRow base e size v n xs) (hb : base' ≤ base) : w.ownsRow base' e size v n xs := by
  refine ⟨h.1, ?_⟩
  rcases h.2 with h2 | ⟨g, cap, cur, rfl, hg, hh, k⟩
  · exact .inl h2
  · exact .inr ⟨g, cap, cur, rfl, Nat.le_trans hb hg, hh, k⟩
/-- A row behind two stores elsewhere. -/
theorem own_sets {w : World} {b base base' : Nat} {e : TypeId} {size : Nat} {v : Value} {n : Nat} {xs : List Value} (h : w.ownsRow base e size v n xs) (hb : b < base) (hb' : base' ≤ base) (u0 u1 : Value) : ((w.setCell ⟨b, 0, none⟩ u0).setCell ⟨b, 1, none⟩ u1).ownsRow base' e size v n xs := by
  have hc : Chg (fun k => k = b) w ((w.setCell ⟨b, 0, none⟩ u0).setCell ⟨b, 1, none⟩ u1) := ((Chg.refl (fun k => k = b) w).set (p := ⟨b, 0, none⟩) (.inl rfl) u0).set (p := ⟨b, 1, none⟩) (.inl rfl) u1
  exact own_mono (owns_chg h hc (fun k hk e => by have := Kit.own_base h k hk; omega)) hb'
def SC (T : TypeId) (n : Nat) (xs : List Value) (m : Nat) (ys : List Value) (w : World) (en : Ending) (w' : World) : Prop :=
  ∃ b c, en = .returned (.agg #[b, c]) ∧ w'.ownsRow w.heap.size T 2 b n xs ∧ w'.ownsRow w.heap.size 3 1 c m ys ∧ Below w.heap.size w w'
set_option maxRecDepth 100000 in
set_option maxHeartbeats 1000000 in
theorem tstore_clone (n m : Nat) (xs ys : List Value) (g o : Nat) (b c : Value) (w : World) (hg : g < w.heap.size) (c0 : w.cell? ⟨g, o, none⟩ = some b) (c1 : w.cell? ⟨g, o + 1, none⟩ = some c) (hb : Kit.IsS 2 w b n xs) (hc : Kit.IsS 1 w c m ys)
    (hn : n * 24 ≤ 140737488355328) (hm : m * 8 ≤ 140737488355328) (h1 : ∀ u ∈ xs, u.oneCell' = true) (h2 : ∀ u ∈ ys, u.oneCell' = true) :
    Calls Try.prog 62 #[.pointer (some ⟨g, o, none⟩)] w (SC 33 n xs m ys w) := by
  have HB := hid (fun X (k : Below w.heap.size w X) => tclone_any n xs b X (hb.below k (Nat.le_refl _)) hn h1)
  have HC := hid (fun X (k : Below w.heap.size w X) => iclone_any m ys c X (hc.below k (Nat.le_refl _)) hm h2)
  have HXg := hid (fun X (k : Below (w.heap.size + 1) (w.alloc (.cells #[.slice none 0 0, .slice none 0 0] 74)) X) => (BX.new w #[.slice none 0 0, .slice none 0 0] 74).below (k.mono (by simp)))
  obtain ⟨ba, bc, rfl⟩ := hb.len
  obtain ⟨ca, cc, rfl⟩ := hc.len
  unfold ClonePost at HB HC
  unfold SC
  have cfB := fun (u : Value) (w : World) => (show (callFunc 67 #[u]).run Try.prog w = .ok (.enter 67 #[u]) w by kernel_rfl)
  have cfC := fun (u : Value) (w : World) => (show (callFunc 61 #[u]).run Try.prog w = .ok (.enter 61 #[u]) w by kernel_rfl)
  clear hb hc hn hm h1 h2
  go_enter Try.func62, Try.ntmps62
  go_wp2_with fail
  go_region_law (first | (refine Kit.step_call1 rfl 67 (.tmp 6) 31 rfl (.slice ba n bc) rfl (cfB _ _) _ (HB.out _ (by repeat' first | with_reducible exact Below.refl _ _ | with_reducible assumption | with_reducible refine belows_drewN ?_ _ | with_reducible refine Below.drew ?_ | with_reducible refine Below.setCell ?_ ?_ _ | with_reducible refine Below.alloc ?_ ?_ _ | omega | (simp; done) | (simp; omega))) ?_; rintro e W1 ⟨v, rfl, ho, hB⟩; obtain ⟨va, vc, rfl⟩ := own_form ho; refine ⟨_, rfl, ?_⟩; have B1 : Below w.heap.size w W1 := belows (B := w.heap.size) (a := w) (by repeat' first | with_reducible exact Below.refl _ _ | with_reducible assumption | with_reducible refine belows_drewN ?_ _ | with_reducible refine Below.drew ?_ | with_reducible refine Below.setCell ?_ ?_ _ | with_reducible refine Below.alloc ?_ ?_ _ | omega | (simp; done) | (simp; omega)) hB (by first | omega | (simp; done) | (simp; omega)); have Bx : Below (w.heap.size + 1) (w.alloc (.cells #[.slice none 0 0, .slice none 0 0] 74)) W1 := belows (B := w.heap.size + 1) (a := w.alloc _) (by repeat' first | with_reducible exact Below.refl _ _ | with_reducible assumption | with_reducible refine belows_drewN ?_ _ | with_reducible refine Below.drew ?_ | with_reducible refine Below.setCell ?_ ?_ _ | with_reducible refine Below.alloc ?_ ?_ _ | omega | (simp; done) | (simp; omega)) hB (by first | omega | (simp; done) | (simp; omega)); have hzz : w.heap.size + 1 ≤ W1.heap.size := (by have := Bx.size; simp at this; omega); have HOb := hid (own_mono (base' := w.heap.size + 1) ho (by first | omega | (simp; done) | (simp; omega))); (try (have HOc := hid (Kit.owns_below HOc.out hB (Nat.le_refl _)))); have y0 := (B1.cell (p := ⟨g, o, none⟩) hg).trans c0; have y1 := (B1.cell (p := ⟨g, o + 1, none⟩) hg).trans c1; have bx := HXg.out _ Bx; have e0 := bx.cell 0; have e1 := bx.cell 1; have f0 := bx.frozen 0; have f1 := bx.frozen 1; simp at e0 e1; have HBX := hid bx; clear bx ho hB) | (refine Kit.step_call1 rfl 61 (.tmp 11) 72 rfl (.slice ca m cc) rfl (cfC _ _) _ (HC.out _ (by repeat' first | with_reducible exact Below.refl _ _ | with_reducible assumption | with_reducible refine belows_drewN ?_ _ | with_reducible refine Below.drew ?_ | with_reducible refine Below.setCell ?_ ?_ _ | with_reducible refine Below.alloc ?_ ?_ _ | omega | (simp; done) | (simp; omega))) ?_; rintro e W2 ⟨v, rfl, ho, hB⟩; obtain ⟨ua, uc, rfl⟩ := own_form ho; refine ⟨_, rfl, ?_⟩; have B1 : Below w.heap.size w W2 := belows (B := w.heap.size) (a := w) (by repeat' first | with_reducible exact Below.refl _ _ | with_reducible assumption | with_reducible refine belows_drewN ?_ _ | with_reducible refine Below.drew ?_ | with_reducible refine Below.setCell ?_ ?_ _ | with_reducible refine Below.alloc ?_ ?_ _ | omega | (simp; done) | (simp; omega)) hB (by first | omega | (simp; done) | (simp; omega)); have Bx : Below (w.heap.size + 1) (w.alloc (.cells #[.slice none 0 0, .slice none 0 0] 74)) W2 := belows (B := w.heap.size + 1) (a := w.alloc _) (by repeat' first | with_reducible exact Below.refl _ _ | with_reducible assumption | with_reducible refine belows_drewN ?_ _ | with_reducible refine Below.drew ?_ | with_reducible refine Below.setCell ?_ ?_ _ | with_reducible refine Below.alloc ?_ ?_ _ | omega | (simp; done) | (simp; omega)) hB (by first | omega | (simp; done) | (simp; omega)); have hzz : w.heap.size + 1 ≤ W2.heap.size := (by have := Bx.size; simp at this; omega); have HOc := hid (own_mono (base' := w.heap.size + 1) ho (by first | omega | (simp; done) | (simp; omega))); (try (have HOb := hid (Kit.owns_below HOb.out hB (Nat.le_refl _)))); have y0 := (B1.cell (p := ⟨g, o, none⟩) hg).trans c0; have y1 := (B1.cell (p := ⟨g, o + 1, none⟩) hg).trans c1; have bx := HXg.out _ Bx; have e0 := bx.cell 0; have e1 := bx.cell 1; have f0 := bx.frozen 0; have f1 := bx.frozen 1; simp at e0 e1; have HBX := hid bx; clear bx ho hB))
  all_goals
    go_wp2
    refine bodyPost_ret (v := .agg #[.slice va n vc, .slice ua m uc]) (by have e3 := (HBX.out.set 0 (.slice va n vc)).set 1 (.slice ua m uc); have e4 := e3.cell 0; have e5 := e3.cell 1; simp at e4 e5; simp [results, Try.results62, go_sem, e4, e5]) rfl ⟨_, _, rfl, own_sets HOb.out (by omega) (by omega) _ _, own_sets HOc.out (by omega) (by omega) _ _, (by repeat' first | with_reducible exact Below.refl _ _ | with_reducible assumption | with_reducible refine belows_drewN ?_ _ | with_reducible refine Below.drew ?_ | with_reducible refine Below.setCell ?_ ?_ _ | with_reducible refine Below.alloc ?_ ?_ _ | omega | (simp; done) | (simp; omega))⟩
set_option maxRecDepth 100000 in
set_option maxHeartbeats 1000000 in
theorem vstore_clone (n m : Nat) (xs ys : List Value) (g o : Nat) (b c : Value) (w : World) (hg : g < w.heap.size) (c0 : w.cell? ⟨g, o, none⟩ = some b) (c1 : w.cell? ⟨g, o + 1, none⟩ = some c) (hb : Kit.IsS 2 w b n xs) (hc : Kit.IsS 1 w c m ys)
    (hn : n * 16 ≤ 140737488355328) (hm : m * 8 ≤ 140737488355328) (h1 : ∀ u ∈ xs, u.oneCell' = true) (h2 : ∀ u ∈ ys, u.oneCell' = true) :
    Calls Try.prog 63 #[.pointer (some ⟨g, o, none⟩)] w (SC 35 n xs m ys w) := by
  have HB := hid (fun X (k : Below w.heap.size w X) => vclone_any n xs b X (hb.below k (Nat.le_refl _)) hn h1)
  have HC := hid (fun X (k : Below w.heap.size w X) => iclone_any m ys c X (hc.below k (Nat.le_refl _)) hm h2)
  have HXg := hid (fun X (k : Below (w.heap.size + 1) (w.alloc (.cells #[.slice none 0 0, .slice none 0 0] 77)) X) => (BX.new w #[.slice none 0 0, .slice none 0 0] 77).below (k.mono (by simp)))
  obtain ⟨ba, bc, rfl⟩ := hb.len
  obtain ⟨ca, cc, rfl⟩ := hc.len
  unfold ClonePost at HB HC
  unfold SC
  have cfB := fun (u : Value) (w : World) => (show (callFunc 68 #[u]).run Try.prog w = .ok (.enter 68 #[u]) w by kernel_rfl)
  have cfC := fun (u : Value) (w : World) => (show (callFunc 61 #[u]).run Try.prog w = .ok (.enter 61 #[u]) w by kernel_rfl)
  clear hb hc hn hm h1 h2
  go_enter Try.func63, Try.ntmps63
  go_wp2_with fail
  go_region_law (first | (refine Kit.step_call1 rfl 68 (.tmp 6) 75 rfl (.slice ba n bc) rfl (cfB _ _) _ (HB.out _ (by repeat' first | with_reducible exact Below.refl _ _ | with_reducible assumption | with_reducible refine belows_drewN ?_ _ | with_reducible refine Below.drew ?_ | with_reducible refine Below.setCell ?_ ?_ _ | with_reducible refine Below.alloc ?_ ?_ _ | omega | (simp; done) | (simp; omega))) ?_; rintro e W1 ⟨v, rfl, ho, hB⟩; obtain ⟨va, vc, rfl⟩ := own_form ho; refine ⟨_, rfl, ?_⟩; have B1 : Below w.heap.size w W1 := belows (B := w.heap.size) (a := w) (by repeat' first | with_reducible exact Below.refl _ _ | with_reducible assumption | with_reducible refine belows_drewN ?_ _ | with_reducible refine Below.drew ?_ | with_reducible refine Below.setCell ?_ ?_ _ | with_reducible refine Below.alloc ?_ ?_ _ | omega | (simp; done) | (simp; omega)) hB (by first | omega | (simp; done) | (simp; omega)); have Bx : Below (w.heap.size + 1) (w.alloc (.cells #[.slice none 0 0, .slice none 0 0] 77)) W1 := belows (B := w.heap.size + 1) (a := w.alloc _) (by repeat' first | with_reducible exact Below.refl _ _ | with_reducible assumption | with_reducible refine belows_drewN ?_ _ | with_reducible refine Below.drew ?_ | with_reducible refine Below.setCell ?_ ?_ _ | with_reducible refine Below.alloc ?_ ?_ _ | omega | (simp; done) | (simp; omega)) hB (by first | omega | (simp; done) | (simp; omega)); have hzz : w.heap.size + 1 ≤ W1.heap.size := (by have := Bx.size; simp at this; omega); have HOb := hid (own_mono (base' := w.heap.size + 1) ho (by first | omega | (simp; done) | (simp; omega))); (try (have HOc := hid (Kit.owns_below HOc.out hB (Nat.le_refl _)))); have y0 := (B1.cell (p := ⟨g, o, none⟩) hg).trans c0; have y1 := (B1.cell (p := ⟨g, o + 1, none⟩) hg).trans c1; have bx := HXg.out _ Bx; have e0 := bx.cell 0; have e1 := bx.cell 1; have f0 := bx.frozen 0; have f1 := bx.frozen 1; simp at e0 e1; have HBX := hid bx; clear bx ho hB) | (refine Kit.step_call1 rfl 61 (.tmp 11) 72 rfl (.slice ca m cc) rfl (cfC _ _) _ (HC.out _ (by repeat' first | with_reducible exact Below.refl _ _ | with_reducible assumption | with_reducible refine belows_drewN ?_ _ | with_reducible refine Below.drew ?_ | with_reducible refine Below.setCell ?_ ?_ _ | with_reducible refine Below.alloc ?_ ?_ _ | omega | (simp; done) | (simp; omega))) ?_; rintro e W2 ⟨v, rfl, ho, hB⟩; obtain ⟨ua, uc, rfl⟩ := own_form ho; refine ⟨_, rfl, ?_⟩; have B1 : Below w.heap.size w W2 := belows (B := w.heap.size) (a := w) (by repeat' first | with_reducible exact Below.refl _ _ | with_reducible assumption | with_reducible refine belows_drewN ?_ _ | with_reducible refine Below.drew ?_ | with_reducible refine Below.setCell ?_ ?_ _ | with_reducible refine Below.alloc ?_ ?_ _ | omega | (simp; done) | (simp; omega)) hB (by first | omega | (simp; done) | (simp; omega)); have Bx : Below (w.heap.size + 1) (w.alloc (.cells #[.slice none 0 0, .slice none 0 0] 77)) W2 := belows (B := w.heap.size + 1) (a := w.alloc _) (by repeat' first | with_reducible exact Below.refl _ _ | with_reducible assumption | with_reducible refine belows_drewN ?_ _ | with_reducible refine Below.drew ?_ | with_reducible refine Below.setCell ?_ ?_ _ | with_reducible refine Below.alloc ?_ ?_ _ | omega | (simp; done) | (simp; omega)) hB (by first | omega | (simp; done) | (simp; omega)); have hzz : w.heap.size + 1 ≤ W2.heap.size := (by have := Bx.size; simp at this; omega); have HOc := hid (own_mono (base' := w.heap.size + 1) ho (by first | omega | (simp; done) | (simp; omega))); (try (have HOb := hid (Kit.owns_below HOb.out hB (Nat.le_refl _)))); have y0 := (B1.cell (p := ⟨g, o, none⟩) hg).trans c0; have y1 := (B1.cell (p := ⟨g, o + 1, none⟩) hg).trans c1; have bx := HXg.out _ Bx; have e0 := bx.cell 0; have e1 := bx.cell 1; have f0 := bx.frozen 0; have f1 := bx.frozen 1; simp at e0 e1; have HBX := hid bx; clear bx ho hB))
  all_goals
    go_wp2
    refine bodyPost_ret (v := .agg #[.slice va n vc, .slice ua m uc]) (by have e3 := (HBX.out.set 0 (.slice va n vc)).set 1 (.slice ua m uc); have e4 := e3.cell 0; have e5 := e3.cell 1; simp at e4 e5; simp [results, Try.results63, go_sem, e4, e5]) rfl ⟨_, _, rfl, own_sets HOb.out (by omega) (by omega) _ _, own_sets HOc.out (by omega) (by omega) _ _, (by repeat' first | with_reducible exact Below.refl _ _ | with_reducible assumption | with_reducible refine belows_drewN ?_ _ | with_reducible refine Below.drew ?_ | with_reducible refine Below.setCell ?_ ?_ _ | with_reducible refine Below.alloc ?_ ?_ _ | omega | (simp; done) | (simp; omega))⟩
end Go.Proofs.Ythembnakeikmeaa
namespace Go.Proofs.Ythembnakeikmeaa
open Go Go.RowKit

/-- A row made anew lies apart from one that was there. -/
theorem apart_new {X W : World} {e e' : TypeId} {s s' n n' base' : Nat} {v v' : Value} {xs xs' : List Value} (h : W.ownsRow X.heap.size e s v n xs) (h' : X.ownsRow base' e' s' v' n' xs') : ∀ k, v.ownBlock = some k → v'.ownBlock ≠ some k := fun k hk hk' => by
  have h1 := Kit.own_base h k hk
  have h2 := Kit.own_lt h' k hk'
  omega
theorem apart_new2 {X W : World} {e e' : TypeId} {s s' n n' base' : Nat} {v v' : Value} {xs xs' : List Value} (h : W.ownsRow X.heap.size e s v n xs) (h' : X.ownsRow base' e' s' v' n' xs') : ∀ k, v'.ownBlock = some k → v.ownBlock ≠ some k := fun k hk hk' => apart_new h h' k hk' hk
theorem ones_iL (l : List Int) : ∀ u ∈ iL l, u.oneCell' = true := by
  intro u hu
  obtain ⟨x, -, rfl⟩ := List.mem_map.1 hu
  rfl
theorem ones_nat (l : List Nat) : ∀ u ∈ Kit.natVals l, u.oneCell' = true := by
  intro u hu
  obtain ⟨x, -, rfl⟩ := List.mem_map.1 hu
  rfl
theorem onesVL (l : List Hp.Vl) : ∀ u ∈ l.flatMap vL, u.oneCell' = true := by
  intro u hu
  obtain ⟨x, -, hx⟩ := List.mem_flatMap.1 hu
  simp [vL] at hx
  rcases hx with rfl | rfl <;> rfl
def IC (s : Hp.St) (w : World) (en : Ending) (w' : World) : Prop :=
  ∃ ib a b c d e, en = .returned (.pointer (some ⟨ib, 0, none⟩)) ∧ w'.heap[ib]? = some (.cells #[.int .i64 s.lim, a, b, c, d, e] 79 (0, 0)) ∧ w'.ownsRow w.heap.size 3 1 a s.cs.length (iL s.cs) ∧ w'.ownsRow w.heap.size 33 2 b s.tc.length (s.tc.flatMap tL) ∧
    w'.ownsRow w.heap.size 3 1 c s.te.length (Kit.natVals s.te) ∧ w'.ownsRow w.heap.size 35 2 d s.vc.length (s.vc.flatMap vL) ∧ w'.ownsRow w.heap.size 3 1 e s.ve.length (Kit.natVals s.ve) ∧
    (∀ k, a.ownBlock = some k → c.ownBlock ≠ some k) ∧ (∀ k, a.ownBlock = some k → e.ownBlock ≠ some k) ∧ (∀ k, c.ownBlock = some k → e.ownBlock ≠ some k) ∧ w.heap.size ≤ ib ∧ Below w.heap.size w w'
set_option maxRecDepth 100000 in
set_option maxHeartbeats 2000000 in
theorem iclone_in {w : World} {base : Nat} {H : HV} {s : Hp.St} (h : Rep w base H s) (h1 : s.cs.length ≤ 1048576) (h2 : s.tc.length ≤ 1048576) (h3 : s.te.length ≤ 1048576) (h4 : s.vc.length ≤ 1048576) (h5 : s.ve.length ≤ 1048576) :
    Calls Try.prog 51 #[.pointer (some ⟨H.ib, 0, none⟩)] w (IC s w) := by
  have hil := h.ib_lt
  obtain ⟨-, x0, x1, x2, x3, x4, x5⟩ := h.cells
  have HA := hid (fun X (k : Below w.heap.size w X) => iclone_any s.cs.length (iL s.cs) H.a X ((Kit.isS_of_owns h.oa (by omega)).below k (Nat.le_refl _)) (by omega) (ones_iL _))
  have HT := hid (fun X (k : Below w.heap.size w X) => tstore_clone s.tc.length s.te.length (s.tc.flatMap tL) (Kit.natVals s.te) H.ib 2 H.b H.c X (Nat.lt_of_lt_of_le hil k.size) ((k.cell hil).trans x2) ((k.cell hil).trans x3) ((Kit.isS_of_owns h.ob (by omega)).below k (Nat.le_refl _)) ((Kit.isS_of_owns h.oc (by omega)).below k (Nat.le_refl _)) (by omega) (by omega) (onesTL _) (ones_nat _))
  have HVl := hid (fun X (k : Below w.heap.size w X) => vstore_clone s.vc.length s.ve.length (s.vc.flatMap vL) (Kit.natVals s.ve) H.ib 4 H.d H.e X (Nat.lt_of_lt_of_le hil k.size) ((k.cell hil).trans x4) ((k.cell hil).trans x5) ((Kit.isS_of_owns h.od (by omega)).below k (Nat.le_refl _)) ((Kit.isS_of_owns h.oe (by omega)).below k (Nat.le_refl _)) (by omega) (by omega) (onesVL _) (ones_nat _))
  obtain ⟨aa, ac, ha⟩ := own_form h.oa
  unfold ClonePost at HA
  unfold SC at HT HVl
  unfold IC
  rw [ha] at HA x1
  obtain ⟨na, hna⟩ : ∃ n, n = s.cs.length := ⟨_, rfl⟩
  rw [← hna] at HA x1 ⊢
  obtain ⟨ib, hib⟩ : ∃ ib, ib = H.ib := ⟨_, rfl⟩
  rw [← hib] at hil x0 x1 HT HVl ⊢
  have cfA := fun (u : Value) (w : World) => (show (callFunc 61 #[u]).run Try.prog w = .ok (.enter 61 #[u]) w by kernel_rfl)
  have cfT := fun (u : Value) (w : World) => (show (callFunc 62 #[u]).run Try.prog w = .ok (.enter 62 #[u]) w by kernel_rfl)
  have cfV := fun (u : Value) (w : World) => (show (callFunc 63 #[u]).run Try.prog w = .ok (.enter 63 #[u]) w by kernel_rfl)
  clear h h1 h2 h3 h4 h5 x2 x3 x4 x5 ha hna hib
  go_enter Try.func51, Try.ntmps51
  go_wp2_with fail
  go_region_law (first | (refine Kit.step_call1 rfl 61 (.tmp 10) 72 rfl (.slice aa na ac) (by first | with_reducible rfl | (simp [go_sem]; done) | rfl) (cfA _ _) _ (HA.out _ (by repeat' first | with_reducible exact Below.refl _ _ | with_reducible assumption | with_reducible refine belows_drewN ?_ _ | with_reducible refine Below.drew ?_ | with_reducible refine Below.setCell ?_ ?_ _ | with_reducible refine Below.alloc ?_ ?_ _ | omega | (simp; done) | (simp; omega))) ?_; rintro e W1 ⟨v, rfl, ho, hB⟩; obtain ⟨va, vc, rfl⟩ := own_form ho; refine ⟨_, rfl, ?_⟩; (try (have HAC := hid (apart_new ho HOc.out))); (try (have HAE := hid (apart_new ho HOe.out))); (try (have HOb := hid (Kit.owns_below HOb.out hB (Nat.le_refl _)))); (try (have HOc := hid (Kit.owns_below HOc.out hB (Nat.le_refl _)))); (try (have HOd := hid (Kit.owns_below HOd.out hB (Nat.le_refl _)))); (try (have HOe := hid (Kit.owns_below HOe.out hB (Nat.le_refl _)))); have HOa := hid (own_mono (base' := w.heap.size) ho (by first | omega | (simp; done) | (simp; omega))); clear ho; have B1 : Below w.heap.size w W1 := belows (B := w.heap.size) (a := w) (by repeat' first | with_reducible exact Below.refl _ _ | with_reducible assumption | with_reducible refine belows_drewN ?_ _ | with_reducible refine Below.drew ?_ | with_reducible refine Below.setCell ?_ ?_ _ | with_reducible refine Below.alloc ?_ ?_ _ | omega | (simp; done) | (simp; omega)) hB (by first | omega | (simp; done) | (simp; omega)); have hzz : w.heap.size ≤ W1.heap.size := B1.size; have y0 := (B1.cell (p := ⟨ib, 0, none⟩) hil).trans x0; have y1 := (B1.cell (p := ⟨ib, 1, none⟩) hil).trans x1; clear hB) | (refine Kit.step_call1 rfl 62 (.tmp 14) 74 rfl (.pointer (some ⟨ib, 2, none⟩)) (by first | with_reducible rfl | (simp [go_sem]; done) | rfl) (cfT _ _) _ (HT.out _ (by repeat' first | with_reducible exact Below.refl _ _ | with_reducible assumption | with_reducible refine belows_drewN ?_ _ | with_reducible refine Below.drew ?_ | with_reducible refine Below.setCell ?_ ?_ _ | with_reducible refine Below.alloc ?_ ?_ _ | omega | (simp; done) | (simp; omega))) ?_; rintro e W2 ⟨vb, vc2, rfl, hob, hoc, hB⟩; obtain ⟨tb0, tb1, rfl⟩ := own_form hob; obtain ⟨tc0, tc1, rfl⟩ := own_form hoc; refine ⟨_, rfl, ?_⟩; (try (have HAC := hid (apart_new2 hoc HOa.out))); (try (have HCE := hid (apart_new hoc HOe.out))); (try (have HOa := hid (Kit.owns_below HOa.out hB (Nat.le_refl _)))); (try (have HOd := hid (Kit.owns_below HOd.out hB (Nat.le_refl _)))); (try (have HOe := hid (Kit.owns_below HOe.out hB (Nat.le_refl _)))); have HOb := hid (own_mono (base' := w.heap.size) hob (by first | omega | (simp; done) | (simp; omega))); have HOc := hid (own_mono (base' := w.heap.size) hoc (by first | omega | (simp; done) | (simp; omega))); clear hob hoc; have B1 : Below w.heap.size w W2 := belows (B := w.heap.size) (a := w) (by repeat' first | with_reducible exact Below.refl _ _ | with_reducible assumption | with_reducible refine belows_drewN ?_ _ | with_reducible refine Below.drew ?_ | with_reducible refine Below.setCell ?_ ?_ _ | with_reducible refine Below.alloc ?_ ?_ _ | omega | (simp; done) | (simp; omega)) hB (by first | omega | (simp; done) | (simp; omega)); have hzz : w.heap.size ≤ W2.heap.size := B1.size; have y0 := (B1.cell (p := ⟨ib, 0, none⟩) hil).trans x0; have y1 := (B1.cell (p := ⟨ib, 1, none⟩) hil).trans x1; clear hB) | (refine Kit.step_call1 rfl 63 (.tmp 18) 77 rfl (.pointer (some ⟨ib, 4, none⟩)) (by first | with_reducible rfl | (simp [go_sem]; done) | rfl) (cfV _ _) _ (HVl.out _ (by repeat' first | with_reducible exact Below.refl _ _ | with_reducible assumption | with_reducible refine belows_drewN ?_ _ | with_reducible refine Below.drew ?_ | with_reducible refine Below.setCell ?_ ?_ _ | with_reducible refine Below.alloc ?_ ?_ _ | omega | (simp; done) | (simp; omega))) ?_; rintro e W3 ⟨vd, ve, rfl, hod, hoe, hB⟩; obtain ⟨td0, td1, rfl⟩ := own_form hod; obtain ⟨te0, te1, rfl⟩ := own_form hoe; refine ⟨_, rfl, ?_⟩; (try (have HAE := hid (apart_new2 hoe HOa.out))); (try (have HCE := hid (apart_new2 hoe HOc.out))); (try (have HOa := hid (Kit.owns_below HOa.out hB (Nat.le_refl _)))); (try (have HOb := hid (Kit.owns_below HOb.out hB (Nat.le_refl _)))); (try (have HOc := hid (Kit.owns_below HOc.out hB (Nat.le_refl _)))); have HOd := hid (own_mono (base' := w.heap.size) hod (by first | omega | (simp; done) | (simp; omega))); have HOe := hid (own_mono (base' := w.heap.size) hoe (by first | omega | (simp; done) | (simp; omega))); clear hod hoe; have B1 : Below w.heap.size w W3 := belows (B := w.heap.size) (a := w) (by repeat' first | with_reducible exact Below.refl _ _ | with_reducible assumption | with_reducible refine belows_drewN ?_ _ | with_reducible refine Below.drew ?_ | with_reducible refine Below.setCell ?_ ?_ _ | with_reducible refine Below.alloc ?_ ?_ _ | omega | (simp; done) | (simp; omega)) hB (by first | omega | (simp; done) | (simp; omega)); have hzz : w.heap.size ≤ W3.heap.size := B1.size; have y0 := (B1.cell (p := ⟨ib, 0, none⟩) hil).trans x0; have y1 := (B1.cell (p := ⟨ib, 1, none⟩) hil).trans x1; clear hB))
  all_goals
    go_wp2
    go_ret
    have K := Below.refl
    exact ⟨_, _, _, _, _, _, rfl, heap_alloc_new _ _, Kit.owns_below HOa.out ((K _ _).alloc (Nat.le_refl _) _) (Nat.le_refl _), Kit.owns_below HOb.out ((K _ _).alloc (Nat.le_refl _) _) (Nat.le_refl _), Kit.owns_below HOc.out ((K _ _).alloc (Nat.le_refl _) _) (Nat.le_refl _), Kit.owns_below HOd.out ((K _ _).alloc (Nat.le_refl _) _) (Nat.le_refl _), Kit.owns_below HOe.out ((K _ _).alloc (Nat.le_refl _) _) (Nat.le_refl _), HAC.out, HAE.out, HCE.out, hzz, B1.alloc B1.size _⟩
set_option maxRecDepth 100000 in
theorem clone_any {w : World} {base : Nat} {H : HV} {s : Hp.Hs} (h : Rep w base H s.flat) (ok : s.Ok) :
    Calls Try.prog 25 #[.pointer (some ⟨H.hb, 0, none⟩)] w fun e w' => ∃ H', e = .returned (.pointer (some ⟨H'.hb, 0, none⟩)) ∧ Rep w' w.heap.size H' s.flat ∧ Below w.heap.size w w' := by
  obtain ⟨s1, s2, s3, s4, s5, s6, s7⟩ := ok.sizes
  have HM := hid (fun X (k : Below w.heap.size w X) => isMade_any (h.below k))
  have HC := hid (fun X (k : Below w.heap.size w X) => iclone_in (h.below k) (by omega) s3 s4 s5 s6)
  have hgen := h.hb_lt
  obtain ⟨k0, -⟩ := h.cells
  obtain ⟨hb, hhb⟩ : ∃ hb, hb = H.hb := ⟨_, rfl⟩
  obtain ⟨ib, hib⟩ : ∃ ib, ib = H.ib := ⟨_, rfl⟩
  rw [← hhb] at hgen k0 HM ⊢
  rw [← hib] at k0 HC
  unfold IC at HC
  clear h ok hib hhb s1 s2 s3 s4 s5 s6 s7
  go_enter Try.func25, Try.ntmps25
  go_wp2_with fail
  refine (HM.out _ (by repeat' first | with_reducible exact Below.refl _ _ | with_reducible assumption | with_reducible refine belows_drewN ?_ _ | with_reducible refine Below.drew ?_ | with_reducible refine Below.setCell ?_ ?_ _ | with_reducible refine Below.alloc ?_ ?_ _ | omega | (simp; done) | (simp; omega))).mono ?_
  rintro e w1 ⟨rfl, rfl⟩
  go_wp2_with fail
  refine (HC.out _ (by repeat' first | with_reducible exact Below.refl _ _ | with_reducible assumption | with_reducible refine belows_drewN ?_ _ | with_reducible refine Below.drew ?_ | with_reducible refine Below.setCell ?_ ?_ _ | with_reducible refine Below.alloc ?_ ?_ _ | omega | (simp; done) | (simp; omega))).mono ?_
  rintro e w2 ⟨ib2, a, b, c, d, e2, rfl, hins, oa, ob, oc, od, oe, ac, ae, ce, hle, hB⟩
  have B2 := belows (B := w.heap.size) (a := w) (by repeat' first | with_reducible exact Below.refl _ _ | with_reducible assumption | with_reducible refine belows_drewN ?_ _ | with_reducible refine Below.drew ?_ | with_reducible refine Below.setCell ?_ ?_ _ | with_reducible refine Below.alloc ?_ ?_ _ | omega | (simp; done) | (simp; omega)) hB (by simp)
  have K := (Below.refl w2.heap.size w2).alloc (Nat.le_refl _) (.cells #[.pointer (some ⟨ib2, 0, none⟩)] 59)
  have HFin : Hid (Rep (w2.alloc (.cells #[.pointer (some ⟨ib2, 0, none⟩)] 59)) w.heap.size ⟨w2.heap.size, ib2, a, b, c, d, e2⟩ s.flat) := hid ⟨heap_alloc_new _ _, (K.block ib2 (Array.getElem?_eq_some_iff.1 hins).1).trans hins, Kit.owns_below oa K (Nat.le_refl _), Kit.owns_below ob K (Nat.le_refl _), Kit.owns_below oc K (Nat.le_refl _), Kit.owns_below od K (Nat.le_refl _), Kit.owns_below oe K (Nat.le_refl _), ac, ae, ce, B2.size, hle⟩
  have HBf := hid (B2.alloc B2.size (.cells #[.pointer (some ⟨ib2, 0, none⟩)] 59))
  clear hins oa ob oc od oe ac ae ce hle hB K
  go_wp2
  go_ret
  exact ⟨⟨w2.heap.size, ib2, a, b, c, d, e2⟩, rfl, HFin.out, HBf.out⟩
end Go.Proofs.Ythembnakeikmeaa
namespace Go.Proofs.Ythembnakeikmeaa
open Go Go.RowKit

theorem iL_n1 (l : List Int) : iL l = l.flatMap n1L := by
  induction l with
  | nil => rfl
  | cons a l ih => rw [List.flatMap_cons, ← ih]; rfl
theorem nat_n1 (l : List Nat) : Kit.natVals l = (l.map fun n : Nat => (n : Int)).flatMap n1L := by
  induction l with
  | nil => rfl
  | cons a l ih => rw [List.map_cons, List.flatMap_cons, ← ih]; rfl
set_option maxRecDepth 100000 in
set_option maxHeartbeats 1000000 in
theorem tstore_same (l : List Hp.Ty) (m : List Int) (g o g' o' : Nat) (b c b' c' : Value) (w : World) (x0 : w.cell? ⟨g, o, none⟩ = some b) (x1 : w.cell? ⟨g, o + 1, none⟩ = some c) (y0 : w.cell? ⟨g', o', none⟩ = some b') (y1 : w.cell? ⟨g', o' + 1, none⟩ = some c')
    (hb : Kit.IsS 2 w b l.length (l.flatMap tL)) (hb' : Kit.IsS 2 w b' l.length (l.flatMap tL)) (hc : Kit.IsS 1 w c m.length (m.flatMap n1L)) (hc' : Kit.IsS 1 w c' m.length (m.flatMap n1L)) :
    Calls Try.prog 65 #[.pointer (some ⟨g, o, none⟩), .pointer (some ⟨g', o', none⟩)] w fun e w' => e = .returned (.bool true) ∧ Below w.heap.size w w' := by
  have HE1 := hid (fun d os => Calls.regrown_of (d := d) (os := os) (w := w) (ieq_any m c c' _ (hc.below (below_regrown w d os) (Nat.le_refl _)) (hc'.below (below_regrown w d os) (Nat.le_refl _))))
  have HE2 := hid (fun d os => Calls.regrown_of (d := d) (os := os) (w := w) (teq_any l b b' _ (hb.below (below_regrown w d os) (Nat.le_refl _)) (hb'.below (below_regrown w d os) (Nat.le_refl _))))
  obtain ⟨b0, b1, rfl⟩ := hb.len
  obtain ⟨b2, b3, rfl⟩ := hb'.len
  obtain ⟨c0, c1, rfl⟩ := hc.len
  obtain ⟨c2, c3, rfl⟩ := hc'.len
  have z0 := fun d os => cell_regrown x0 d os
  have z1 := fun d os => cell_regrown x1 d os
  have z2 := fun d os => cell_regrown y0 d os
  have z3 := fun d os => cell_regrown y1 d os
  clear hb hb' hc hc' x0 x1 y0 y1
  go_enter Try.func65, Try.ntmps65
  go_wp2_with fail
  refine wp_region_quiet_below (by kernel_rfl) (by kernel_rfl) ?_
  (repeat (go_big_quiet_step ((first | exact HE1.out _ _ | exact HE2.out _ _))))
  refine wpQuiet_nil ?_
  intro W hw'
  obtain ⟨⟨dq, osq⟩, hw''⟩ := hw'
  have hbq := below_regrown w dq osq
  rw [← hw''] at hbq
  clear hw''
  go_wp2
  go_ret
  exact ⟨rfl, hbq⟩
set_option maxRecDepth 100000 in
set_option maxHeartbeats 1000000 in
theorem vstore_same (l : List Hp.Vl) (m : List Int) (g o g' o' : Nat) (b c b' c' : Value) (w : World) (x0 : w.cell? ⟨g, o, none⟩ = some b) (x1 : w.cell? ⟨g, o + 1, none⟩ = some c) (y0 : w.cell? ⟨g', o', none⟩ = some b') (y1 : w.cell? ⟨g', o' + 1, none⟩ = some c')
    (hb : Kit.IsS 2 w b l.length (l.flatMap vL)) (hb' : Kit.IsS 2 w b' l.length (l.flatMap vL)) (hc : Kit.IsS 1 w c m.length (m.flatMap n1L)) (hc' : Kit.IsS 1 w c' m.length (m.flatMap n1L)) :
    Calls Try.prog 66 #[.pointer (some ⟨g, o, none⟩), .pointer (some ⟨g', o', none⟩)] w fun e w' => e = .returned (.bool true) ∧ Below w.heap.size w w' := by
  have HE1 := hid (fun d os => Calls.regrown_of (d := d) (os := os) (w := w) (ieq_any m c c' _ (hc.below (below_regrown w d os) (Nat.le_refl _)) (hc'.below (below_regrown w d os) (Nat.le_refl _))))
  have HE2 := hid (fun d os => Calls.regrown_of (d := d) (os := os) (w := w) (veq_any l b b' _ (hb.below (below_regrown w d os) (Nat.le_refl _)) (hb'.below (below_regrown w d os) (Nat.le_refl _))))
  obtain ⟨b0, b1, rfl⟩ := hb.len
  obtain ⟨b2, b3, rfl⟩ := hb'.len
  obtain ⟨c0, c1, rfl⟩ := hc.len
  obtain ⟨c2, c3, rfl⟩ := hc'.len
  have z0 := fun d os => cell_regrown x0 d os
  have z1 := fun d os => cell_regrown x1 d os
  have z2 := fun d os => cell_regrown y0 d os
  have z3 := fun d os => cell_regrown y1 d os
  clear hb hb' hc hc' x0 x1 y0 y1
  go_enter Try.func66, Try.ntmps66
  go_wp2_with fail
  refine wp_region_quiet_below (by kernel_rfl) (by kernel_rfl) ?_
  (repeat (go_big_quiet_step ((first | exact HE1.out _ _ | exact HE2.out _ _))))
  refine wpQuiet_nil ?_
  intro W hw'
  obtain ⟨⟨dq, osq⟩, hw''⟩ := hw'
  have hbq := below_regrown w dq osq
  rw [← hw''] at hbq
  clear hw''
  go_wp2
  go_ret
  exact ⟨rfl, hbq⟩
set_option maxRecDepth 100000 in
set_option maxHeartbeats 1000000 in
theorem same_in {w : World} {base base' : Nat} {H H' : HV} {s : Hp.St} (h : Rep w base H s) (h' : Rep w base' H' s) (h1 : s.cs.length ≤ 1048576) (h2 : s.tc.length ≤ 1048576) (h3 : s.te.length ≤ 1048576) (h4 : s.vc.length ≤ 1048576) (h5 : s.ve.length ≤ 1048576) :
    Calls Try.prog 52 #[.pointer (some ⟨H.ib, 0, none⟩), .pointer (some ⟨H'.ib, 0, none⟩)] w fun e w' => e = .returned (.bool true) ∧ Below w.heap.size w w' := by
  have one : ∀ (l : List Nat) (v : Value) (k : Nat) (X : World), X.ownsRow k 3 1 v l.length (Kit.natVals l) → l.length ≤ 1048576 → Kit.IsS 1 X v (l.map fun n : Nat => (n : Int)).length ((l.map fun n : Nat => (n : Int)).flatMap n1L) := fun l v k X hx hl => by
    rw [List.length_map, ← nat_n1]
    exact Kit.isS_of_owns hx (by omega)
  obtain ⟨-, x0, x1, x2, x3, x4, x5⟩ := h.cells
  obtain ⟨-, y0, y1, y2, y3, y4, y5⟩ := h'.cells
  have HE1 := hid (fun d os => Calls.regrown_of (d := d) (os := os) (w := w) (ieq_any s.cs H.a H'.a _ (iL_n1 s.cs ▸ (Kit.isS_of_owns h.oa (by omega)).below (below_regrown w d os) (Nat.le_refl _)) (iL_n1 s.cs ▸ (Kit.isS_of_owns h'.oa (by omega)).below (below_regrown w d os) (Nat.le_refl _))))
  have HE2 := hid (fun d os => Calls.regrown_of (d := d) (os := os) (w := w) (tstore_same s.tc (s.te.map fun n : Nat => (n : Int)) H.ib 2 H'.ib 2 H.b H.c H'.b H'.c _ (cell_regrown x2 d os) (cell_regrown x3 d os) (cell_regrown y2 d os) (cell_regrown y3 d os)
    ((Kit.isS_of_owns h.ob (by omega)).below (below_regrown w d os) (Nat.le_refl _)) ((Kit.isS_of_owns h'.ob (by omega)).below (below_regrown w d os) (Nat.le_refl _)) ((one _ _ _ _ h.oc h3).below (below_regrown w d os) (Nat.le_refl _)) ((one _ _ _ _ h'.oc h3).below (below_regrown w d os) (Nat.le_refl _))))
  have HE3 := hid (fun d os => Calls.regrown_of (d := d) (os := os) (w := w) (vstore_same s.vc (s.ve.map fun n : Nat => (n : Int)) H.ib 4 H'.ib 4 H.d H.e H'.d H'.e _ (cell_regrown x4 d os) (cell_regrown x5 d os) (cell_regrown y4 d os) (cell_regrown y5 d os)
    ((Kit.isS_of_owns h.od (by omega)).below (below_regrown w d os) (Nat.le_refl _)) ((Kit.isS_of_owns h'.od (by omega)).below (below_regrown w d os) (Nat.le_refl _)) ((one _ _ _ _ h.oe h5).below (below_regrown w d os) (Nat.le_refl _)) ((one _ _ _ _ h'.oe h5).below (below_regrown w d os) (Nat.le_refl _))))
  obtain ⟨aa, ac, ha⟩ := own_form h.oa
  obtain ⟨ba, bc, hb⟩ := own_form h'.oa
  rw [ha] at HE1 x1
  rw [hb] at HE1 y1
  obtain ⟨ib, hib⟩ : ∃ ib, ib = H.ib := ⟨_, rfl⟩
  obtain ⟨jb, hjb⟩ : ∃ jb, jb = H'.ib := ⟨_, rfl⟩
  rw [← hib] at x0 x1 HE2 HE3 ⊢
  rw [← hjb] at y0 y1 HE2 HE3 ⊢
  have z0 := fun d os => cell_regrown x0 d os
  have z1 := fun d os => cell_regrown x1 d os
  have z2 := fun d os => cell_regrown y0 d os
  have z3 := fun d os => cell_regrown y1 d os
  clear h h' one x0 x1 x2 x3 x4 x5 y0 y1 y2 y3 y4 y5 h1 h2 h3 h4 h5 ha hb hib hjb
  go_enter Try.func52, Try.ntmps52
  go_wp2_with fail
  refine wp_region_quiet_below (by kernel_rfl) (by kernel_rfl) ?_
  (repeat (go_big_quiet_step ((first | exact HE1.out _ _ | exact HE2.out _ _ | exact HE3.out _ _))))
  refine wpQuiet_nil ?_
  intro W hw'
  obtain ⟨⟨dq, osq⟩, hw''⟩ := hw'
  have hbq := below_regrown w dq osq
  rw [← hw''] at hbq
  clear hw''
  go_wp2
  go_ret
  exact ⟨rfl, hbq⟩
set_option maxRecDepth 100000 in
set_option maxHeartbeats 1000000 in
theorem same_any {w : World} {base base' : Nat} {H H' : HV} {s : Hp.Hs} (h : Rep w base H s.flat) (h' : Rep w base' H' s.flat) (ok : s.Ok) :
    Calls Try.prog 26 #[.pointer (some ⟨H.hb, 0, none⟩), .pointer (some ⟨H'.hb, 0, none⟩)] w fun e w' => e = .returned (.bool true) ∧ Below w.heap.size w w' := by
  obtain ⟨s1, s2, s3, s4, s5, s6, s7⟩ := ok.sizes
  have HM := hid (fun d os => Calls.regrown_of (d := d) (os := os) (w := w) ((isMade_any (h.below (below_regrown w d os))).mono fun e w' ⟨a, b⟩ => ⟨a, b ▸ Below.refl _ _⟩))
  have HN := hid (fun d os => Calls.regrown_of (d := d) (os := os) (w := w) ((isMade_any (h'.below (below_regrown w d os))).mono fun e w' ⟨a, b⟩ => ⟨a, b ▸ Below.refl _ _⟩))
  have HS := hid (fun d os => Calls.regrown_of (d := d) (os := os) (w := w) (same_in (h.below (below_regrown w d os)) (h'.below (below_regrown w d os)) s2 s3 s4 s5 s6))
  obtain ⟨x0, -⟩ := h.cells
  obtain ⟨y0, -⟩ := h'.cells
  obtain ⟨ib, hib⟩ : ∃ ib, ib = H.ib := ⟨_, rfl⟩
  obtain ⟨jb, hjb⟩ : ∃ jb, jb = H'.ib := ⟨_, rfl⟩
  obtain ⟨hb, hhb⟩ : ∃ hb, hb = H.hb := ⟨_, rfl⟩
  obtain ⟨kb, hkb⟩ : ∃ kb, kb = H'.hb := ⟨_, rfl⟩
  rw [← hib] at x0 HS
  rw [← hjb] at y0 HS
  rw [← hhb] at x0 HM ⊢
  rw [← hkb] at y0 HN ⊢
  have z0 := fun d os => cell_regrown x0 d os
  have z2 := fun d os => cell_regrown y0 d os
  clear h h' x0 y0 ok hib hjb hhb hkb s1 s2 s3 s4 s5 s6 s7
  go_enter Try.func26, Try.ntmps26
  go_wp2_with fail
  refine wp_region_quiet_below (by kernel_rfl) (by kernel_rfl) ?_
  (repeat (go_big_quiet_step ((first | with_reducible exact HM.out _ _ | with_reducible exact HN.out _ _ | with_reducible exact HS.out _ _))))
  refine wpQuiet_nil ?_
  intro W hw'
  obtain ⟨⟨dq, osq⟩, hw''⟩ := hw'
  have hbq := below_regrown w dq osq
  rw [← hw''] at hbq
  clear hw''
  go_wp2
  go_ret
  exact ⟨rfl, hbq⟩
end Go.Proofs.Ythembnakeikmeaa
namespace Go.Proofs.Ythembnakeikmeaa
open Go Go.RowKit

/-- No block of a value is one of these. -/
def Off (F : Nat → Prop) (v : Value) : Prop := ∀ k, v.ownBlock = some k → ¬ F k
def thE (t : Hp.Th) : Hp.Ty := if t.cl = -1 then t.ts.headD Hp.T0 else Hp.T0
def thC (t : Hp.Th) (tv cv : Value) : List Value := [.bool (decide (t.cl = -1)), .int .i64 (if t.cl = -1 then 0 else t.cl), .int .i64 (thE t).k, .string (thE t).s, tv, cv]
/-- A thing's cells, and what they stand for. -/
def RT (w : World) (base : Nat) (F : Nat → Prop) (cs : List Value) (t : Hp.Th) : Prop :=
  ∃ tv cv, cs = thC t tv cv ∧ ((t.cl = -1 ∧ tv = .slice none 0 0) ∨ (t.cl ≠ -1 ∧ w.ownsRow base 33 2 tv t.ts.length (t.ts.flatMap tL))) ∧ w.ownsRow base 35 2 cv t.vs.length (t.vs.flatMap vL) ∧ Off F tv ∧ Off F cv
theorem RT.chg {S : Nat → Prop} {w w' : World} {base : Nat} {F F' : Nat → Prop} {cs : List Value} {t : Hp.Th} (h : RT w base F cs t) (hc : Chg S w w') (hS : ∀ k, k < w.heap.size → S k → F k ∨ k < base) (hF : ∀ k, k < w.heap.size → F' k → F k) : RT w' base F' cs t := by
  obtain ⟨tv, cv, h1, h2, h3, h4, h5⟩ := h
  have key : ∀ {e : TypeId} {v : Value} {n : Nat} {xs : List Value}, w.ownsRow base e 2 v n xs → Off F v → w'.ownsRow base e 2 v n xs ∧ Off F' v := fun {e v n xs} ho hf =>
    ⟨owns_chg ho hc (fun k hk hs => by
      rcases hS k (Kit.own_lt ho k hk) hs with h | h
      · exact hf k hk h
      · have := Kit.own_base ho k hk
        omega), fun k hk hs => hf k hk (hF k (Kit.own_lt ho k hk) hs)⟩
  have k3 := key h3 h5
  rcases h2 with ⟨e, rfl⟩ | ⟨e, h2⟩
  · exact ⟨_, cv, h1, .inl ⟨e, rfl⟩, k3.1, fun k hk => by simp [Value.ownBlock] at hk, k3.2⟩
  · have k2 := key h2 h4
    exact ⟨tv, cv, h1, .inr ⟨e, k2.1⟩, k3.1, k2.2, k3.2⟩
/-- Things' cells, one behind the other. -/
def RTs (w : World) (base : Nat) (F : Nat → Prop) : List (List Value) → List Hp.Th → Prop
  | [], [] => True
  | r :: rs, t :: ts => RT w base F r t ∧ RTs w base F rs ts
  | _, _ => False
theorem RTs.chg {S : Nat → Prop} {w w' : World} {base : Nat} {F F' : Nat → Prop} (hc : Chg S w w') (hS : ∀ k, k < w.heap.size → S k → F k ∨ k < base) (hF : ∀ k, k < w.heap.size → F' k → F k) : ∀ {rs : List (List Value)} {ts : List Hp.Th}, RTs w base F rs ts → RTs w' base F' rs ts
  | [], [], _ => trivial
  | _ :: _, _ :: _, h => ⟨h.1.chg hc hS hF, h.2.chg hc hS hF⟩
  | [], _ :: _, h => h.elim
  | _ :: _, [], h => h.elim
theorem RT.len {w : World} {base : Nat} {F : Nat → Prop} {cs : List Value} {t : Hp.Th} (h : RT w base F cs t) : cs.length = 6 := by
  obtain ⟨tv, cv, rfl, -⟩ := h
  rfl
theorem RTs.len {w : World} {base : Nat} {F : Nat → Prop} : ∀ {rs : List (List Value)} {ts : List Hp.Th}, RTs w base F rs ts → rs.length = ts.length
  | [], [], _ => rfl
  | _ :: _, _ :: _, h => by rw [List.length_cons, List.length_cons, h.2.len]
  | [], _ :: _, h => h.elim
  | _ :: _, [], h => h.elim
theorem RTs.at {w : World} {base : Nat} {F : Nat → Prop} : ∀ {rs : List (List Value)} {ts : List Hp.Th} {k : Nat} {t : Hp.Th}, RTs w base F rs ts → ts[k]? = some t → ∃ r, RT w base F r t ∧ rs[k]? = some r ∧ ∀ j, j < 6 → rs.flatten[k * 6 + j]? = r[j]?
  | [], [], _, _, _, hk => by simp at hk
  | r :: rs, t :: ts, 0, x, h, hk => by
    simp only [List.getElem?_cons_zero, Option.some.injEq] at hk
    subst hk
    refine ⟨r, h.1, rfl, fun j hj => ?_⟩
    rw [List.flatten_cons, List.getElem?_append_left (by have := h.1.len; omega)]
    simp
  | r :: rs, t :: ts, k + 1, x, h, hk => by
    obtain ⟨r', h1, h2, h3⟩ := RTs.at h.2 (by simpa using hk)
    refine ⟨r', h1, by simpa using h2, fun j hj => ?_⟩
    have h4 := h.1.len
    rw [List.flatten_cons, List.getElem?_append_right (by omega), h4, ← h3 j hj]
    congr 1
    omega
  | [], _ :: _, _, _, h, _ => h.elim
  | _ :: _, [], _, _, h, _ => h.elim
/-- The document's heap in memory, off the blocks F. -/
structure RefR (w : World) (base : Nat) (F : Nat → Prop) (rb : Nat) (s : Hp.Hs) (rv : Value) (rs : List (List Value)) : Prop where
  box : w.heap[rb]? = some (.cells #[.int .i64 s.lim, rv] 82 (0, 0))
  row : w.ownsRow base 85 6 rv s.l.length rs.flatten
  th : RTs w base F rs s.l
  off : Off F rv
  offb : ¬ F rb
  lb : base ≤ rb
theorem RefR.chg {S : Nat → Prop} {w w' : World} {base : Nat} {F F' : Nat → Prop} {rb : Nat} {s : Hp.Hs} {rv : Value} {rs : List (List Value)} (h : RefR w base F rb s rv rs) (hc : Chg S w w') (hS : ∀ k, k < w.heap.size → S k → F k ∨ k < base) (hF : ∀ k, k < w.heap.size → F' k → F k) : RefR w' base F' rb s rv rs := by
  have hlt : rb < w.heap.size := (Array.getElem?_eq_some_iff.1 h.box).1
  refine ⟨(hc.block rb hlt (fun e => ?_)).trans h.box, owns_chg h.row hc (fun k hk hs => ?_), h.th.chg hc hS hF, fun k hk hs => h.off k hk (hF k (Kit.own_lt h.row k hk) hs), fun e => h.offb (hF rb hlt e), h.lb⟩
  · rcases hS rb hlt e with e | e
    · exact h.offb e
    · have := h.lb
      omega
  · rcases hS k (Kit.own_lt h.row k hk) hs with e | e
    · exact h.off k hk e
    · have := Kit.own_base h.row k hk
      omega
theorem RefR.below {w w' : World} {base : Nat} {F : Nat → Prop} {rb : Nat} {s : Hp.Hs} {rv : Value} {rs : List (List Value)} (h : RefR w base F rb s rv rs) (hb : Below w.heap.size w w') : RefR w' base F rb s rv rs :=
  h.chg (S := fun _ => False) (Chg.of_below hb) (fun _ _ e => e.elim) (fun _ _ e => e)
end Go.Proofs.Ythembnakeikmeaa
namespace Go.Proofs.Ythembnakeikmeaa
open Go Go.RowKit

theorem ref_at {w : World} {base : Nat} {F : Nat → Prop} {rb : Nat} {s : Hp.Hs} {rv : Value} {rs : List (List Value)} (h : RefR w base F rb s rv rs) {k : Nat} {t : Hp.Th} (hk : s.l[k]? = some t) :
    ∃ g c tv cv, rv = .slice (some ⟨g, 0, none⟩) s.l.length c ∧ g < w.heap.size ∧ ((t.cl = -1 ∧ tv = .slice none 0 0) ∨ (t.cl ≠ -1 ∧ w.ownsRow base 33 2 tv t.ts.length (t.ts.flatMap tL))) ∧ w.ownsRow base 35 2 cv t.vs.length (t.vs.flatMap vL) ∧ Off F tv ∧ Off F cv ∧
      w.cell? ⟨g, k * 6, none⟩ = some (.bool (decide (t.cl = -1))) ∧ w.cell? ⟨g, k * 6 + 1, none⟩ = some (.int .i64 (if t.cl = -1 then 0 else t.cl)) ∧ w.cell? ⟨g, k * 6 + 2, none⟩ = some (.int .i64 (thE t).k) ∧ w.cell? ⟨g, k * 6 + 3, none⟩ = some (.string (thE t).s) ∧
      w.cell? ⟨g, k * 6 + 4, none⟩ = some tv ∧ w.cell? ⟨g, k * 6 + 5, none⟩ = some cv := by
  have hlt : k < s.l.length := (List.getElem?_eq_some_iff.1 hk).1
  obtain ⟨r, ⟨tv, cv, rfl, h2, h3, h4, h5⟩, -, hr⟩ := h.th.at hk
  obtain ⟨g, c, hv, -, hg, hc⟩ := own_cell h.row (by omega)
  refine ⟨g, c, tv, cv, hv, Kit.own_lt h.row g hg, h2, h3, h4, h5, ?_, ?_, ?_, ?_, ?_, ?_⟩
  · exact hc (k * 6) _ (by rw [← Nat.add_zero (k * 6), hr 0 (by omega)]; rfl)
  · exact hc _ _ (by rw [hr 1 (by omega)]; rfl)
  · exact hc _ _ (by rw [hr 2 (by omega)]; rfl)
  · exact hc _ _ (by rw [hr 3 (by omega)]; rfl)
  · exact hc _ _ (by rw [hr 4 (by omega)]; rfl)
  · exact hc _ _ (by rw [hr 5 (by omega)]; rfl)
def isRf (s : Hp.Hs) (ref : Int) (a : Bool) : Bool := match s.thing ref with
  | some t => decide (t.cl = -1) == a
  | none => false
theorem ref_box {w : World} {base : Nat} {F : Nat → Prop} {rb : Nat} {s : Hp.Hs} {rv : Value} {rs : List (List Value)} (h : RefR w base F rb s rv rs) : w.cell? ⟨rb, 0, none⟩ = some (.int .i64 s.lim) ∧ w.cell? ⟨rb, 1, none⟩ = some rv ∧ rb < w.heap.size := by
  have e := h.box
  exact ⟨by simp [World.cell?, e], by simp [World.cell?, e], (Array.getElem?_eq_some_iff.1 e).1⟩
set_option maxRecDepth 100000 in
set_option maxHeartbeats 1000000 in
theorem is_any {w : World} {base : Nat} {F : Nat → Prop} {rb : Nat} {s : Hp.Hs} {rv : Value} {rs : List (List Value)} (h : RefR w base F rb s rv rs) (ref : Int) (a : Bool) (hr : -9223372036854775808 ≤ ref ∧ ref ≤ 9223372036854775807) (hl : s.l.length ≤ 1048576) :
    Calls Try.prog 54 #[.pointer (some ⟨rb, 0, none⟩), .int .i64 ref, .bool a] w fun e w' => e = .returned (.bool (isRf s ref a)) ∧ w = w' := by
  obtain ⟨-, x1, hb⟩ := ref_box h
  by_cases h1 : 1 ≤ ref
  · by_cases h2 : ref ≤ s.l.length
    · obtain ⟨k, rfl⟩ : ∃ k : Nat, ref = (k : Int) + 1 := ⟨(ref - 1).toNat, by omega⟩
      obtain ⟨t, hk⟩ : ∃ t, s.l[k]? = some t := ⟨s.l[k]'(by omega), List.getElem?_eq_getElem (by omega)⟩
      have e : isRf s ((k : Int) + 1) a = (decide (t.cl = -1) == a) := by
        unfold isRf Hp.Hs.thing
        rw [if_pos (by omega), show ((k : Int) + 1 - 1).toNat = k by omega, hk]
      obtain ⟨g, c, tv, cv, rfl, hg, -, -, -, -, c0, -⟩ := ref_at h hk
      rw [e]
      obtain ⟨z, hz⟩ : ∃ z, z = decide (t.cl = -1) := ⟨_, rfl⟩
      rw [← hz] at c0 ⊢
      obtain ⟨n, hn⟩ : ∃ n, n = s.l.length := ⟨_, rfl⟩
      rw [← hn] at x1 h2 hl
      have i1 : (k : Int) < (n : Int) := by omega
      have i2 : (k : Int) + 1 ≤ (n : Int) := by omega
      have hw : IntKind.i64.wrap (k : Int) = (k : Int) := IntWalk.i64_in _ (by omega)
      clear h hk e hz hn h2 hr
      go_enter Try.func54, Try.ntmps54
      go_wp2
      go_ret
      cases z <;> cases a <;> exact ⟨rfl, rfl⟩
    · have e : isRf s ref a = false := by
        unfold isRf Hp.Hs.thing
        rw [if_pos h1, List.getElem?_eq_none (by omega)]
      rw [e]
      obtain ⟨ra, rc, rfl⟩ := own_form h.row
      obtain ⟨n, hn⟩ : ∃ n, n = s.l.length := ⟨_, rfl⟩
      rw [← hn] at x1 h2 hl
      have i2 : ¬ ref ≤ (n : Int) := by omega
      clear h e hn h2 hr
      go_enter Try.func54, Try.ntmps54
      go_wp2
      go_ret
      exact ⟨rfl, rfl⟩
  · have e : isRf s ref a = false := by
      unfold isRf Hp.Hs.thing
      rw [if_neg h1]
    rw [e]
    have i1 : ¬ 1 ≤ ref := h1
    clear h e hr x1
    go_enter Try.func54, Try.ntmps54
    go_wp2
    go_ret
    exact ⟨rfl, rfl⟩
end Go.Proofs.Ythembnakeikmeaa
namespace Go.Proofs.Ythembnakeikmeaa
open Go Go.RowKit

theorem rfa_yes {s : Hp.Hs} {ref : Int} {t : Hp.Th} (h : s.thing ref = some t) (hc : t.cl = -1) : isRf s ref true = true := by unfold isRf; rw [h]; simp [hc]
theorem rfa_no {s : Hp.Hs} {ref : Int} (h : ∀ t, s.thing ref = some t → t.cl ≠ -1) : isRf s ref true = false := by
  unfold isRf
  cases ht : s.thing ref with
  | none => rfl
  | some t => simpa using h t ht
theorem rfo_yes {s : Hp.Hs} {ref : Int} {t : Hp.Th} (h : s.thing ref = some t) (hc : t.cl ≠ -1) : isRf s ref false = true := by unfold isRf; rw [h]; simp [hc]
theorem rfo_no {s : Hp.Hs} {ref : Int} (h : ∀ t, s.thing ref = some t → t.cl = -1) : isRf s ref false = false := by
  unfold isRf
  cases ht : s.thing ref with
  | none => rfl
  | some t => simpa using h t ht
set_option maxRecDepth 100000 in
set_option maxHeartbeats 1000000 in
theorem rlength_any {w : World} {base : Nat} {F : Nat → Prop} {rb : Nat} {s : Hp.Hs} {rv : Value} {rs : List (List Value)} (h : RefR w base F rb s rv rs) (ok : s.Ok) (ref : Int) (hr : -9223372036854775808 ≤ ref ∧ ref ≤ 9223372036854775807) (hl : s.l.length ≤ 1048576) :
    Calls Try.prog 33 #[.pointer (some ⟨rb, 0, none⟩), .int .i64 ref] w fun e w' => e = .returned (.tuple #[.int .i64 (s.len ref).1, .int .i64 (s.len ref).2]) ∧ Below w.heap.size w w' := by
  have HI0 := fun X (b : Below w.heap.size w X) => is_any (h.below b) ref true hr hl
  obtain ⟨-, x1, hb⟩ := ref_box h
  by_cases hn : ∀ t, s.thing ref = some t → t.cl ≠ -1
  · rw [(Hp.no_arr hn).1]
    rw [rfa_no hn] at HI0
    have HI := hid HI0
    clear h ok hn HI0 hl
    go_enter Try.func33, Try.ntmps33
    go_wp2_with fail
    refine (HI.out _ (by repeat' first | with_reducible exact Below.refl _ _ | with_reducible assumption | with_reducible refine belows_drewN ?_ _ | with_reducible refine Below.drew ?_ | with_reducible refine Below.setCell ?_ ?_ _ | with_reducible refine Below.alloc ?_ ?_ _ | omega | (simp; done) | (simp; omega))).mono ?_
    rintro e w1 ⟨rfl, rfl⟩
    go_wp2
    exact bodyPost_ret (v := .tuple #[.int .i64 0, .int .i64 60]) (by simp [results, Try.results33, go_sem]) rfl ⟨rfl, (by repeat' first | with_reducible exact Below.refl _ _ | with_reducible assumption | with_reducible refine belows_drewN ?_ _ | with_reducible refine Below.drew ?_ | with_reducible refine Below.setCell ?_ ?_ _ | with_reducible refine Below.alloc ?_ ?_ _ | omega | (simp; done) | (simp; omega))⟩
  · obtain ⟨t, hth, hc0⟩ := some_not hn
    have hc : t.cl = -1 := Classical.byContradiction hc0
    obtain ⟨r1, r2, hk⟩ := thing_at hth
    obtain ⟨k, hkk⟩ : ∃ k, k = (ref - 1).toNat := ⟨_, rfl⟩
    rw [← hkk] at hk r2
    have hrk : ref = (k : Int) + 1 := by omega
    subst hrk
    rw [rfa_yes hth hc] at HI0
    obtain ⟨g, c, tv, cv, rfl, hg, -, hcv, -, -, c0, c1, c2, c3, c4, c5⟩ := ref_at h hk
    obtain ⟨va, vc, rfl⟩ := own_form hcv
    have hvl := (own_caps hcv).2
    have e : s.len ((k : Int) + 1) = ((t.vs.length : Int), 0) := by unfold Hp.Hs.len; rw [hth]; simp [hc]
    rw [e]
    obtain ⟨m, hm⟩ : ∃ m, m = t.vs.length := ⟨_, rfl⟩
    rw [← hm] at c5 hvl ⊢
    clear e hm
    have HI := hid HI0
    obtain ⟨n, hnn⟩ : ∃ n, n = s.l.length := ⟨_, rfl⟩
    rw [← hnn] at x1 r2 hl
    have i1 : (k : Int) < (n : Int) := by omega
    have hw : IntKind.i64.wrap (k : Int) = (k : Int) := IntWalk.i64_in _ (by omega)
    clear h ok hn HI0 hth hc hc0 hk hkk r1 hcv hnn
    go_enter Try.func33, Try.ntmps33
    go_wp2_with fail
    refine (HI.out _ (by repeat' first | with_reducible exact Below.refl _ _ | with_reducible assumption | with_reducible refine belows_drewN ?_ _ | with_reducible refine Below.drew ?_ | with_reducible refine Below.setCell ?_ ?_ _ | with_reducible refine Below.alloc ?_ ?_ _ | omega | (simp; done) | (simp; omega))).mono ?_
    rintro e w1 ⟨rfl, rfl⟩
    go_wp2
    exact bodyPost_ret (v := .tuple #[.int .i64 (m : Int), .int .i64 0]) (by simp [results, Try.results33, go_sem]) rfl ⟨rfl, (by repeat' first | with_reducible exact Below.refl _ _ | with_reducible assumption | with_reducible refine belows_drewN ?_ _ | with_reducible refine Below.drew ?_ | with_reducible refine Below.setCell ?_ ?_ _ | with_reducible refine Below.alloc ?_ ?_ _ | omega | (simp; done) | (simp; omega))⟩
set_option maxRecDepth 100000 in
set_option maxHeartbeats 1000000 in
theorem rcls_any {w : World} {base : Nat} {F : Nat → Prop} {rb : Nat} {s : Hp.Hs} {rv : Value} {rs : List (List Value)} (h : RefR w base F rb s rv rs) (ok : s.Ok) (ref : Int) (hr : -9223372036854775808 ≤ ref ∧ ref ≤ 9223372036854775807) (hl : s.l.length ≤ 1048576) :
    Calls Try.prog 34 #[.pointer (some ⟨rb, 0, none⟩), .int .i64 ref] w fun e w' => e = .returned (.tuple #[.int .i64 (s.cls ref).1, .bool (s.cls ref).2]) ∧ Below w.heap.size w w' := by
  have HI0 := fun X (b : Below w.heap.size w X) => is_any (h.below b) ref false hr hl
  obtain ⟨-, x1, hb⟩ := ref_box h
  by_cases hn : ∀ t, s.thing ref = some t → t.cl = -1
  · rw [Hp.no_obj hn]
    rw [rfo_no hn] at HI0
    have HI := hid HI0
    clear h ok hn HI0 hl
    go_enter Try.func34, Try.ntmps34
    go_wp2_with fail
    refine (HI.out _ (by repeat' first | with_reducible exact Below.refl _ _ | with_reducible assumption | with_reducible refine belows_drewN ?_ _ | with_reducible refine Below.drew ?_ | with_reducible refine Below.setCell ?_ ?_ _ | with_reducible refine Below.alloc ?_ ?_ _ | omega | (simp; done) | (simp; omega))).mono ?_
    rintro e w1 ⟨rfl, rfl⟩
    go_wp2
    exact bodyPost_ret (v := .tuple #[.int .i64 0, .bool false]) (by simp [results, Try.results34, go_sem]) rfl ⟨rfl, (by repeat' first | with_reducible exact Below.refl _ _ | with_reducible assumption | with_reducible refine belows_drewN ?_ _ | with_reducible refine Below.drew ?_ | with_reducible refine Below.setCell ?_ ?_ _ | with_reducible refine Below.alloc ?_ ?_ _ | omega | (simp; done) | (simp; omega))⟩
  · obtain ⟨t, hth, hc0⟩ := some_not hn
    have hc : t.cl ≠ -1 := hc0
    obtain ⟨r1, r2, hk⟩ := thing_at hth
    obtain ⟨k, hkk⟩ : ∃ k, k = (ref - 1).toNat := ⟨_, rfl⟩
    rw [← hkk] at hk r2
    have hrk : ref = (k : Int) + 1 := by omega
    subst hrk
    rw [rfo_yes hth hc] at HI0
    obtain ⟨g, c, tv, cv, rfl, hg, -, hcv, -, -, c0, c1, c2, c3, c4, c5⟩ := ref_at h hk
    obtain ⟨va, vc, rfl⟩ := own_form hcv
    have hvl := (own_caps hcv).2
    have e : s.cls ((k : Int) + 1) = (t.cl, true) := by unfold Hp.Hs.cls; rw [hth]; simp [hc]
    rw [e]
    rw [if_neg hc] at c1
    obtain ⟨m, hm⟩ : ∃ m, m = t.cl := ⟨_, rfl⟩
    rw [← hm] at c1 ⊢
    clear e hm
    have HI := hid HI0
    obtain ⟨n, hnn⟩ : ∃ n, n = s.l.length := ⟨_, rfl⟩
    rw [← hnn] at x1 r2 hl
    have i1 : (k : Int) < (n : Int) := by omega
    have hw : IntKind.i64.wrap (k : Int) = (k : Int) := IntWalk.i64_in _ (by omega)
    clear h ok hn HI0 hth hc hc0 hk hkk r1 hcv hnn
    go_enter Try.func34, Try.ntmps34
    go_wp2_with fail
    refine (HI.out _ (by repeat' first | with_reducible exact Below.refl _ _ | with_reducible assumption | with_reducible refine belows_drewN ?_ _ | with_reducible refine Below.drew ?_ | with_reducible refine Below.setCell ?_ ?_ _ | with_reducible refine Below.alloc ?_ ?_ _ | omega | (simp; done) | (simp; omega))).mono ?_
    rintro e w1 ⟨rfl, rfl⟩
    go_wp2
    exact bodyPost_ret (v := .tuple #[.int .i64 m, .bool true]) (by simp [results, Try.results34, go_sem]) rfl ⟨rfl, (by repeat' first | with_reducible exact Below.refl _ _ | with_reducible assumption | with_reducible refine belows_drewN ?_ _ | with_reducible refine Below.drew ?_ | with_reducible refine Below.setCell ?_ ?_ _ | with_reducible refine Below.alloc ?_ ?_ _ | omega | (simp; done) | (simp; omega))⟩
end Go.Proofs.Ythembnakeikmeaa
namespace Go.Proofs.Ythembnakeikmeaa
open Go Go.RowKit

set_option maxRecDepth 100000 in
set_option maxHeartbeats 1000000 in
theorem rety_any {w : World} {base : Nat} {F : Nat → Prop} {rb : Nat} {s : Hp.Hs} {rv : Value} {rs : List (List Value)} (h : RefR w base F rb s rv rs) (ok : s.Ok) (ref : Int) (hr : -9223372036854775808 ≤ ref ∧ ref ≤ 9223372036854775807) (hl : s.l.length ≤ 1048576) :
    Calls Try.prog 35 #[.pointer (some ⟨rb, 0, none⟩), .int .i64 ref] w fun e w' => e = .returned (.tuple #[tA (s.ety ref).1, .bool (s.ety ref).2]) ∧ Below w.heap.size w w' := by
  have HI0 := fun X (b : Below w.heap.size w X) => is_any (h.below b) ref true hr hl
  obtain ⟨-, x1, hb⟩ := ref_box h
  by_cases hn : ∀ t, s.thing ref = some t → t.cl ≠ -1
  · rw [(Hp.no_arr hn).2]
    rw [rfa_no hn] at HI0
    have HI := hid HI0
    unfold tA Hp.T0
    clear h ok hn HI0 hl
    go_enter Try.func35, Try.ntmps35
    go_wp2_with fail
    refine (HI.out _ (by repeat' first | with_reducible exact Below.refl _ _ | with_reducible assumption | with_reducible refine belows_drewN ?_ _ | with_reducible refine Below.drew ?_ | with_reducible refine Below.setCell ?_ ?_ _ | with_reducible refine Below.alloc ?_ ?_ _ | omega | (simp; done) | (simp; omega))).mono ?_
    rintro e w1 ⟨rfl, rfl⟩
    have HX := hid (BX.new w #[.int .i64 0, .string ⟨#[]⟩] 33)
    go_wp2
    exact bodyPost_ret (v := .tuple #[.agg #[.int .i64 0, .string ⟨#[]⟩], .bool false]) (by have e3 := (HX.out.set 0 (.int .i64 0)).set 1 (.string ⟨#[]⟩); have e0 := e3.cell 0; have e1 := e3.cell 1; simp at e0 e1; simp [results, Try.results35, go_sem, e0, e1]) rfl ⟨rfl, (by repeat' first | with_reducible exact Below.refl _ _ | with_reducible assumption | with_reducible refine belows_drewN ?_ _ | with_reducible refine Below.drew ?_ | with_reducible refine Below.setCell ?_ ?_ _ | with_reducible refine Below.alloc ?_ ?_ _ | omega | (simp; done) | (simp; omega))⟩
  · obtain ⟨t, hth, hc0⟩ := some_not hn
    have hc : t.cl = -1 := Classical.byContradiction hc0
    obtain ⟨r1, r2, hk⟩ := thing_at hth
    obtain ⟨k, hkk⟩ : ∃ k, k = (ref - 1).toNat := ⟨_, rfl⟩
    rw [← hkk] at hk r2
    have hrk : ref = (k : Int) + 1 := by omega
    subst hrk
    rw [rfa_yes hth hc] at HI0
    obtain ⟨g, c, tv, cv, rfl, hg, htv, hcv, -, -, c0, c1, c2, c3, c4, c5⟩ := ref_at h hk
    obtain ⟨va, vc, rfl⟩ := own_form hcv
    have hvl := (own_caps hcv).2
    have HI := hid HI0
    obtain ⟨n, hnn⟩ : ∃ n, n = s.l.length := ⟨_, rfl⟩
    rw [← hnn] at x1 r2 hl
    have i1 : (k : Int) < (n : Int) := by omega
    have hw : IntKind.i64.wrap (k : Int) = (k : Int) := IntWalk.i64_in _ (by omega)
    have e : s.ety ((k : Int) + 1) = (thE t, true) := by unfold Hp.Hs.ety thE; rw [hth]; simp [hc]
    rw [e]
    obtain ⟨x, hx⟩ : ∃ x, x = thE t := ⟨_, rfl⟩
    rw [← hx] at c2 c3 ⊢
    unfold tA
    clear h ok hn HI0 hth hc hc0 hk hkk r1 hcv hnn e hx htv c4 c5 hvl c0 c1
    go_enter Try.func35, Try.ntmps35
    go_wp2_with fail
    refine (HI.out _ (by repeat' first | with_reducible exact Below.refl _ _ | with_reducible assumption | with_reducible refine belows_drewN ?_ _ | with_reducible refine Below.drew ?_ | with_reducible refine Below.setCell ?_ ?_ _ | with_reducible refine Below.alloc ?_ ?_ _ | omega | (simp; done) | (simp; omega))).mono ?_
    rintro e w1 ⟨rfl, rfl⟩
    have HX := hid (BX.new w #[.int .i64 0, .string ⟨#[]⟩] 33)
    go_wp2
    exact bodyPost_ret (v := .tuple #[.agg #[.int .i64 x.k, .string x.s], .bool true]) (by have e3 := (HX.out.set 0 (.int .i64 x.k)).set 1 (.string x.s); have e0 := e3.cell 0; have e1 := e3.cell 1; simp at e0 e1; simp [results, Try.results35, go_sem, e0, e1]) rfl ⟨rfl, (by repeat' first | with_reducible exact Below.refl _ _ | with_reducible assumption | with_reducible refine belows_drewN ?_ _ | with_reducible refine Below.drew ?_ | with_reducible refine Below.setCell ?_ ?_ _ | with_reducible refine Below.alloc ?_ ?_ _ | omega | (simp; done) | (simp; omega))⟩
set_option maxRecDepth 100000 in
set_option maxHeartbeats 1000000 in
theorem rget_any {w : World} {base : Nat} {F : Nat → Prop} {rb : Nat} {s : Hp.Hs} {rv : Value} {rs : List (List Value)} (h : RefR w base F rb s rv rs) (ok : s.Ok) (ref i : Int) (hr : -9223372036854775808 ≤ ref ∧ ref ≤ 9223372036854775807) (hl : s.l.length ≤ 1048576) :
    Calls Try.prog 29 #[.pointer (some ⟨rb, 0, none⟩), .int .i64 ref, .int .i64 i] w fun e w' => e = .returned (.tuple #[vA (s.fd ref i).1, .int .i64 (s.fd ref i).2]) ∧ Below w.heap.size w w' := by
  have HI0 := fun X (b : Below w.heap.size w X) => is_any (h.below b) ref false hr hl
  obtain ⟨-, x1, hb⟩ := ref_box h
  by_cases hn : ∀ t, s.thing ref = some t → t.cl = -1
  · rw [(Hp.fd_ref (i := i) (v := Hp.V0) hn).1]
    rw [rfo_no hn] at HI0
    have HI := hid HI0
    unfold vA Hp.V0
    clear h ok hn HI0 hl
    go_enter Try.func29, Try.ntmps29
    go_wp2_with fail
    refine (HI.out _ (by repeat' first | with_reducible exact Below.refl _ _ | with_reducible assumption | with_reducible refine belows_drewN ?_ _ | with_reducible refine Below.drew ?_ | with_reducible refine Below.setCell ?_ ?_ _ | with_reducible refine Below.alloc ?_ ?_ _ | omega | (simp; done) | (simp; omega))).mono ?_
    rintro e w1 ⟨rfl, rfl⟩
    have HX := hid (BX.new w #[.int .i64 0, .int .i64 0] 35)
    go_wp2
    exact bodyPost_ret (v := .tuple #[.agg #[.int .i64 0, .int .i64 0], .int .i64 60]) (by have e3 := (HX.out.set 0 (.int .i64 0)).set 1 (.int .i64 0); have e0 := e3.cell 0; have e1 := e3.cell 1; simp at e0 e1; simp [results, Try.results29, go_sem, e0, e1]) rfl ⟨rfl, (by repeat' first | with_reducible exact Below.refl _ _ | with_reducible assumption | with_reducible refine belows_drewN ?_ _ | with_reducible refine Below.drew ?_ | with_reducible refine Below.setCell ?_ ?_ _ | with_reducible refine Below.alloc ?_ ?_ _ | omega | (simp; done) | (simp; omega))⟩
  · obtain ⟨t, hth, hc0⟩ := some_not hn
    have hc : t.cl ≠ -1 := hc0
    obtain ⟨r1, r2, hk⟩ := thing_at hth
    obtain ⟨k, hkk⟩ : ∃ k, k = (ref - 1).toNat := ⟨_, rfl⟩
    rw [← hkk] at hk r2
    have hrk : ref = (k : Int) + 1 := by omega
    subst hrk
    rw [rfo_yes hth hc] at HI0
    obtain ⟨g, c, tv, cv, rfl, hg, htv, hcv, -, -, c0, c1, c2, c3, c4, c5⟩ := ref_at h hk
    obtain ⟨va, vc, rfl⟩ := own_form hcv
    have hvl := (own_caps hcv).2
    have HI := hid HI0
    obtain ⟨n, hnn⟩ : ∃ n, n = s.l.length := ⟨_, rfl⟩
    rw [← hnn] at x1 r2 hl
    have i1 : (k : Int) < (n : Int) := by omega
    have hw : IntKind.i64.wrap (k : Int) = (k : Int) := IntWalk.i64_in _ (by omega)
    have tf : ∃ a m c, tv = .slice a m c := by
      rcases htv with ⟨-, e⟩ | ⟨-, e⟩
      · exact ⟨none, 0, 0, e⟩
      · obtain ⟨a, c, e2⟩ := own_form e
        exact ⟨a, _, c, e2⟩
    obtain ⟨ta, tn, tc, rfl⟩ := tf
    have hlt : t.vs.length ≤ 1048576 := by
      obtain ⟨s1, s2, s3, s4, s5, s6, s7⟩ := ok.sizes
      have hr : (s.l.map (·.vs))[k]? = some t.vs := by rw [List.getElem?_map, hk]; rfl
      have h4 := Hp.take_le (s.l.map (·.vs)) (k + 1)
      rw [Hp.take_succ hr] at h4
      have h5 : s.flat.vc.length = (s.l.map (·.vs)).flatten.length := rfl
      omega
    obtain ⟨z0, hz0⟩ : ∃ z, z = decide (t.cl = -1) := ⟨_, rfl⟩
    obtain ⟨z1, hz1⟩ : ∃ z : Int, z = (if t.cl = -1 then 0 else t.cl) := ⟨_, rfl⟩
    obtain ⟨z2, hz2⟩ : ∃ z, z = thE t := ⟨_, rfl⟩
    rw [← hz0] at c0
    rw [← hz1] at c1
    rw [← hz2] at c2 c3
    by_cases hi : i < 0 ∨ (t.vs.length : Int) ≤ i
    · rw [(Hp.fd_idx (v := Hp.V0) hth hc hi).1]
      unfold vA Hp.V0
      obtain ⟨m, hm⟩ : ∃ m, m = t.vs.length := ⟨_, rfl⟩
      rw [← hm] at c5 hi hvl hlt
      have hwm : IntKind.i64.wrap (m : Int) = (m : Int) := IntWalk.i64_in _ (by omega)
      clear h ok hn HI0 hth hc hc0 hk hkk r1 hcv hnn hm hz0 hz1 hz2 htv
      rcases hi with hi | hi
      all_goals (try (have hi0 : ¬ i < 0 := by omega))
      all_goals
        go_enter Try.func29, Try.ntmps29
        go_wp2_with fail
        refine (HI.out _ (by repeat' first | with_reducible exact Below.refl _ _ | with_reducible assumption | with_reducible refine belows_drewN ?_ _ | with_reducible refine Below.drew ?_ | with_reducible refine Below.setCell ?_ ?_ _ | with_reducible refine Below.alloc ?_ ?_ _ | omega | (simp; done) | (simp; omega))).mono ?_
        rintro e w1 ⟨rfl, rfl⟩
        have HX := hid (BX.new w #[.int .i64 0, .int .i64 0] 35)
        go_wp2
        all_goals first | (exfalso; omega) | exact bodyPost_ret (v := .tuple #[.agg #[.int .i64 0, .int .i64 0], .int .i64 61]) (by have e3 := ((HX.out.below ((Below.refl _ _).alloc (Nat.le_refl _) (.cells #[.bool z0, .int .i64 z1, .int .i64 z2.k, .string z2.s, .slice ta tn tc, .slice va m vc] 85))).set 0 (.int .i64 0)).set 1 (.int .i64 0); have e0 := e3.cell 0; have e1 := e3.cell 1; simp at e0 e1; simp [results, Try.results29, go_sem, e0, e1]) rfl ⟨rfl, (by repeat' first | with_reducible exact Below.refl _ _ | with_reducible assumption | with_reducible refine belows_drewN ?_ _ | with_reducible refine Below.drew ?_ | with_reducible refine Below.setCell ?_ ?_ _ | with_reducible refine Below.alloc ?_ ?_ _ | omega | (simp; done) | (simp; omega))⟩
    · obtain ⟨j, rfl⟩ : ∃ j : Nat, i = j := ⟨i.toNat, by omega⟩
      have hj : j < t.vs.length := by omega
      obtain ⟨u, hu⟩ : ∃ u, t.vs[j]? = some u := ⟨_, List.getElem?_eq_getElem hj⟩
      obtain ⟨x, hx⟩ := Hp.ok_some ok (List.mem_of_getElem? hk) hc hj
      rw [(Hp.fd_ok (v := Hp.V0) hth hc hx hu).1]
      unfold vA
      obtain ⟨gv, cap, hgv, -, hgo, hcl⟩ := own_cell hcv (by omega)
      obtain ⟨rfl, -, rfl⟩ := Value.slice.inj hgv
      obtain ⟨v0, v1⟩ := vL_at hu
      have d0 := hcl _ _ v0
      have d1 := hcl _ _ v1
      have hgl := Kit.own_lt hcv gv hgo
      obtain ⟨m, hm⟩ : ∃ m, m = t.vs.length := ⟨_, rfl⟩
      rw [← hm] at c5 hj hvl hlt
      have hwm : IntKind.i64.wrap (m : Int) = (m : Int) := IntWalk.i64_in _ (by omega)
      have i3 : (j : Int) < (m : Int) := by omega
      clear h ok hn HI0 hth hc hc0 hk hkk r1 hcv hnn hm hz0 hz1 hz2 htv hi hx hu hgv hgo hcl v0 v1
      go_enter Try.func29, Try.ntmps29
      go_wp2_with fail
      refine (HI.out _ (by repeat' first | with_reducible exact Below.refl _ _ | with_reducible assumption | with_reducible refine belows_drewN ?_ _ | with_reducible refine Below.drew ?_ | with_reducible refine Below.setCell ?_ ?_ _ | with_reducible refine Below.alloc ?_ ?_ _ | omega | (simp; done) | (simp; omega))).mono ?_
      rintro e w1 ⟨rfl, rfl⟩
      have HX := hid (BX.new w #[.int .i64 0, .int .i64 0] 35)
      go_wp2
      exact bodyPost_ret (v := .tuple #[.agg #[.int .i64 u.k, .int .i64 u.n], .int .i64 0]) (by have e3 := ((HX.out.below ((Below.refl _ _).alloc (Nat.le_refl _) (.cells #[.bool z0, .int .i64 z1, .int .i64 z2.k, .string z2.s, .slice ta tn tc, .slice (some ⟨gv, 0, none⟩) m vc] 85))).set 0 (.int .i64 u.k)).set 1 (.int .i64 u.n); have e0 := e3.cell 0; have e1 := e3.cell 1; simp at e0 e1; simp [results, Try.results29, go_sem, e0, e1]) rfl ⟨rfl, (by repeat' first | with_reducible exact Below.refl _ _ | with_reducible assumption | with_reducible refine belows_drewN ?_ _ | with_reducible refine Below.drew ?_ | with_reducible refine Below.setCell ?_ ?_ _ | with_reducible refine Below.alloc ?_ ?_ _ | omega | (simp; done) | (simp; omega))⟩
set_option maxRecDepth 100000 in
set_option maxHeartbeats 1000000 in
theorem rload_any {w : World} {base : Nat} {F : Nat → Prop} {rb : Nat} {s : Hp.Hs} {rv : Value} {rs : List (List Value)} (h : RefR w base F rb s rv rs) (ok : s.Ok) (ref i : Int) (hr : -9223372036854775808 ≤ ref ∧ ref ≤ 9223372036854775807) (hl : s.l.length ≤ 1048576) :
    Calls Try.prog 31 #[.pointer (some ⟨rb, 0, none⟩), .int .i64 ref, .int .i64 i] w fun e w' => e = .returned (.tuple #[vA (s.el ref i).1, .int .i64 (s.el ref i).2]) ∧ Below w.heap.size w w' := by
  have HI0 := fun X (b : Below w.heap.size w X) => is_any (h.below b) ref true hr hl
  obtain ⟨-, x1, hb⟩ := ref_box h
  by_cases hn : ∀ t, s.thing ref = some t → t.cl ≠ -1
  · rw [(Hp.el_ref (i := i) (v := Hp.V0) hn).1]
    rw [rfa_no hn] at HI0
    have HI := hid HI0
    unfold vA Hp.V0
    clear h ok hn HI0 hl
    go_enter Try.func31, Try.ntmps31
    go_wp2_with fail
    refine (HI.out _ (by repeat' first | with_reducible exact Below.refl _ _ | with_reducible assumption | with_reducible refine belows_drewN ?_ _ | with_reducible refine Below.drew ?_ | with_reducible refine Below.setCell ?_ ?_ _ | with_reducible refine Below.alloc ?_ ?_ _ | omega | (simp; done) | (simp; omega))).mono ?_
    rintro e w1 ⟨rfl, rfl⟩
    have HX := hid (BX.new w #[.int .i64 0, .int .i64 0] 35)
    go_wp2
    exact bodyPost_ret (v := .tuple #[.agg #[.int .i64 0, .int .i64 0], .int .i64 60]) (by have e3 := (HX.out.set 0 (.int .i64 0)).set 1 (.int .i64 0); have e0 := e3.cell 0; have e1 := e3.cell 1; simp at e0 e1; simp [results, Try.results31, go_sem, e0, e1]) rfl ⟨rfl, (by repeat' first | with_reducible exact Below.refl _ _ | with_reducible assumption | with_reducible refine belows_drewN ?_ _ | with_reducible refine Below.drew ?_ | with_reducible refine Below.setCell ?_ ?_ _ | with_reducible refine Below.alloc ?_ ?_ _ | omega | (simp; done) | (simp; omega))⟩
  · obtain ⟨t, hth, hc0⟩ := some_not hn
    have hc : t.cl = -1 := Classical.byContradiction hc0
    obtain ⟨r1, r2, hk⟩ := thing_at hth
    obtain ⟨k, hkk⟩ : ∃ k, k = (ref - 1).toNat := ⟨_, rfl⟩
    rw [← hkk] at hk r2
    have hrk : ref = (k : Int) + 1 := by omega
    subst hrk
    rw [rfa_yes hth hc] at HI0
    obtain ⟨g, c, tv, cv, rfl, hg, htv, hcv, -, -, c0, c1, c2, c3, c4, c5⟩ := ref_at h hk
    obtain ⟨va, vc, rfl⟩ := own_form hcv
    have hvl := (own_caps hcv).2
    have HI := hid HI0
    obtain ⟨n, hnn⟩ : ∃ n, n = s.l.length := ⟨_, rfl⟩
    rw [← hnn] at x1 r2 hl
    have i1 : (k : Int) < (n : Int) := by omega
    have hw : IntKind.i64.wrap (k : Int) = (k : Int) := IntWalk.i64_in _ (by omega)
    have tf : ∃ a m c, tv = .slice a m c := by
      rcases htv with ⟨-, e⟩ | ⟨-, e⟩
      · exact ⟨none, 0, 0, e⟩
      · obtain ⟨a, c, e2⟩ := own_form e
        exact ⟨a, _, c, e2⟩
    obtain ⟨ta, tn, tc, rfl⟩ := tf
    have hlt : t.vs.length ≤ 1048576 := by
      obtain ⟨s1, s2, s3, s4, s5, s6, s7⟩ := ok.sizes
      have hr : (s.l.map (·.vs))[k]? = some t.vs := by rw [List.getElem?_map, hk]; rfl
      have h4 := Hp.take_le (s.l.map (·.vs)) (k + 1)
      rw [Hp.take_succ hr] at h4
      have h5 : s.flat.vc.length = (s.l.map (·.vs)).flatten.length := rfl
      omega
    obtain ⟨z0, hz0⟩ : ∃ z, z = decide (t.cl = -1) := ⟨_, rfl⟩
    obtain ⟨z1, hz1⟩ : ∃ z : Int, z = (if t.cl = -1 then 0 else t.cl) := ⟨_, rfl⟩
    obtain ⟨z2, hz2⟩ : ∃ z, z = thE t := ⟨_, rfl⟩
    rw [← hz0] at c0
    rw [← hz1] at c1
    rw [← hz2] at c2 c3
    by_cases hi : i < 0 ∨ (t.vs.length : Int) ≤ i
    · rw [(Hp.el_idx (v := Hp.V0) hth hc hi).1]
      unfold vA Hp.V0
      obtain ⟨m, hm⟩ : ∃ m, m = t.vs.length := ⟨_, rfl⟩
      rw [← hm] at c5 hi hvl hlt
      have hwm : IntKind.i64.wrap (m : Int) = (m : Int) := IntWalk.i64_in _ (by omega)
      clear h ok hn HI0 hth hc hc0 hk hkk r1 hcv hnn hm hz0 hz1 hz2 htv
      rcases hi with hi | hi
      all_goals (try (have hi0 : ¬ i < 0 := by omega))
      all_goals
        go_enter Try.func31, Try.ntmps31
        go_wp2_with fail
        refine (HI.out _ (by repeat' first | with_reducible exact Below.refl _ _ | with_reducible assumption | with_reducible refine belows_drewN ?_ _ | with_reducible refine Below.drew ?_ | with_reducible refine Below.setCell ?_ ?_ _ | with_reducible refine Below.alloc ?_ ?_ _ | omega | (simp; done) | (simp; omega))).mono ?_
        rintro e w1 ⟨rfl, rfl⟩
        have HX := hid (BX.new w #[.int .i64 0, .int .i64 0] 35)
        go_wp2
        all_goals first | (exfalso; omega) | exact bodyPost_ret (v := .tuple #[.agg #[.int .i64 0, .int .i64 0], .int .i64 61]) (by have e3 := ((HX.out.below ((Below.refl _ _).alloc (Nat.le_refl _) (.cells #[.bool z0, .int .i64 z1, .int .i64 z2.k, .string z2.s, .slice ta tn tc, .slice va m vc] 85))).set 0 (.int .i64 0)).set 1 (.int .i64 0); have e0 := e3.cell 0; have e1 := e3.cell 1; simp at e0 e1; simp [results, Try.results31, go_sem, e0, e1]) rfl ⟨rfl, (by repeat' first | with_reducible exact Below.refl _ _ | with_reducible assumption | with_reducible refine belows_drewN ?_ _ | with_reducible refine Below.drew ?_ | with_reducible refine Below.setCell ?_ ?_ _ | with_reducible refine Below.alloc ?_ ?_ _ | omega | (simp; done) | (simp; omega))⟩
    · obtain ⟨j, rfl⟩ : ∃ j : Nat, i = j := ⟨i.toNat, by omega⟩
      have hj : j < t.vs.length := by omega
      obtain ⟨u, hu⟩ : ∃ u, t.vs[j]? = some u := ⟨_, List.getElem?_eq_getElem hj⟩
      obtain ⟨x, hx⟩ := Hp.ok_one ok (List.mem_of_getElem? hk) hc
      rw [(Hp.el_ok (v := Hp.V0) hth hc hx hu).1]
      unfold vA
      obtain ⟨gv, cap, hgv, -, hgo, hcl⟩ := own_cell hcv (by omega)
      obtain ⟨rfl, -, rfl⟩ := Value.slice.inj hgv
      obtain ⟨v0, v1⟩ := vL_at hu
      have d0 := hcl _ _ v0
      have d1 := hcl _ _ v1
      have hgl := Kit.own_lt hcv gv hgo
      obtain ⟨m, hm⟩ : ∃ m, m = t.vs.length := ⟨_, rfl⟩
      rw [← hm] at c5 hj hvl hlt
      have hwm : IntKind.i64.wrap (m : Int) = (m : Int) := IntWalk.i64_in _ (by omega)
      have i3 : (j : Int) < (m : Int) := by omega
      clear h ok hn HI0 hth hc hc0 hk hkk r1 hcv hnn hm hz0 hz1 hz2 htv hi hx hu hgv hgo hcl v0 v1
      go_enter Try.func31, Try.ntmps31
      go_wp2_with fail
      refine (HI.out _ (by repeat' first | with_reducible exact Below.refl _ _ | with_reducible assumption | with_reducible refine belows_drewN ?_ _ | with_reducible refine Below.drew ?_ | with_reducible refine Below.setCell ?_ ?_ _ | with_reducible refine Below.alloc ?_ ?_ _ | omega | (simp; done) | (simp; omega))).mono ?_
      rintro e w1 ⟨rfl, rfl⟩
      have HX := hid (BX.new w #[.int .i64 0, .int .i64 0] 35)
      go_wp2
      exact bodyPost_ret (v := .tuple #[.agg #[.int .i64 u.k, .int .i64 u.n], .int .i64 0]) (by have e3 := ((HX.out.below ((Below.refl _ _).alloc (Nat.le_refl _) (.cells #[.bool z0, .int .i64 z1, .int .i64 z2.k, .string z2.s, .slice ta tn tc, .slice (some ⟨gv, 0, none⟩) m vc] 85))).set 0 (.int .i64 u.k)).set 1 (.int .i64 u.n); have e0 := e3.cell 0; have e1 := e3.cell 1; simp at e0 e1; simp [results, Try.results31, go_sem, e0, e1]) rfl ⟨rfl, (by repeat' first | with_reducible exact Below.refl _ _ | with_reducible assumption | with_reducible refine belows_drewN ?_ _ | with_reducible refine Below.drew ?_ | with_reducible refine Below.setCell ?_ ?_ _ | with_reducible refine Below.alloc ?_ ?_ _ | omega | (simp; done) | (simp; omega))⟩
end Go.Proofs.Ythembnakeikmeaa
namespace Go.Proofs.Ythembnakeikmeaa
open Go Go.RowKit

set_option maxRecDepth 100000 in
theorem rzero_any (t : Hp.Ty) (w : World) :
    Calls Try.prog 53 #[tA t] w fun e w' => e = .returned (.tuple #[zV (zeroOf t), .bool (zeroOf t).isSome]) ∧ Below w.heap.size w w' := by
  obtain ⟨k, str⟩ := t
  unfold tA zeroOf
  dsimp only
  by_cases h1 : k = 1
  · subst h1
    go_enter Try.func53, Try.ntmps53
    go_wp2
    exact bodyPost_ret (v := .tuple #[vA ⟨1, 0⟩, .bool true]) (by simp [results, Try.results53, go_sem, vA]) rfl ⟨rfl, (by repeat' first | with_reducible exact Below.refl _ _ | with_reducible assumption | with_reducible refine belows_drewN ?_ _ | with_reducible refine Below.drew ?_ | with_reducible refine Below.setCell ?_ ?_ _ | with_reducible refine Below.alloc ?_ ?_ _ | omega | (simp; done) | (simp; omega))⟩
  · by_cases h2 : k = 2
    · subst h2
      go_enter Try.func53, Try.ntmps53
      go_wp2
      exact bodyPost_ret (v := .tuple #[vA ⟨2, 0⟩, .bool true]) (by simp [results, Try.results53, go_sem, vA]) rfl ⟨rfl, (by repeat' first | with_reducible exact Below.refl _ _ | with_reducible assumption | with_reducible refine belows_drewN ?_ _ | with_reducible refine Below.drew ?_ | with_reducible refine Below.setCell ?_ ?_ _ | with_reducible refine Below.alloc ?_ ?_ _ | omega | (simp; done) | (simp; omega))⟩
    · by_cases h4 : k = 4
      · subst h4
        go_enter Try.func53, Try.ntmps53
        go_wp2
        exact bodyPost_ret (v := .tuple #[vA ⟨3, 0⟩, .bool true]) (by simp [results, Try.results53, go_sem, vA]) rfl ⟨rfl, (by repeat' first | with_reducible exact Below.refl _ _ | with_reducible assumption | with_reducible refine belows_drewN ?_ _ | with_reducible refine Below.drew ?_ | with_reducible refine Below.setCell ?_ ?_ _ | with_reducible refine Below.alloc ?_ ?_ _ | omega | (simp; done) | (simp; omega))⟩
      · have d1 : (k == 1) = false := by simpa using h1
        have d2 : (k == 2) = false := by simpa using h2
        have d4 : (k == 4) = false := by simpa using h4
        have HK := hid (show (if k = 1 then some (⟨1, 0⟩ : Hp.Vl) else if k = 2 then some ⟨2, 0⟩ else if k = 4 then some ⟨3, 0⟩ else none) = none by rw [if_neg h1, if_neg h2, if_neg h4])
        rw [HK.out]
        clear h1 h2 h4
        go_enter Try.func53, Try.ntmps53
        go_wp2
        exact bodyPost_ret (v := .tuple #[vA Hp.V0, .bool false]) (by simp [results, Try.results53, go_sem, vA, Hp.V0]) rfl ⟨rfl, (by repeat' first | with_reducible exact Below.refl _ _ | with_reducible assumption | with_reducible refine belows_drewN ?_ _ | with_reducible refine Below.drew ?_ | with_reducible refine Below.setCell ?_ ?_ _ | with_reducible refine Below.alloc ?_ ?_ _ | omega | (simp; done) | (simp; omega))⟩
set_option maxRecDepth 100000 in
set_option maxHeartbeats 1000000 in
theorem rfits_any (t : Hp.Ty) (v : Hp.Vl) (w : World) :
    Calls Try.prog 55 #[tA t, vA v] w fun e w' => e = .returned (.bool (fitsOf t v)) ∧ Below w.heap.size w w' := by
  have HZ0 := fun W => rzero_any t W
  obtain ⟨r, hr⟩ : ∃ r, r = fitsOf t v := ⟨_, rfl⟩
  rw [← hr]
  unfold fitsOf at hr
  obtain ⟨vk, vn⟩ := v
  dsimp only at hr
  cases hz : zeroOf t with
  | none =>
    rw [hz] at hr HZ0
    obtain ⟨tk, ts⟩ := t
    unfold tA vA zV at *
    dsimp only [Option.getD_none, Option.isSome_none, Hp.V0, vA] at HZ0
    have HZ := hid HZ0
    have HRr := hid hr
    clear hr hz HZ0
    go_enter Try.func55, Try.ntmps55
    (go_wp2_with fail; refine (HZ.out _).mono ?_; rintro e w3 ⟨rfl, hb3⟩; have hz3 := hb3.size; simp only [World.size_alloc] at hz3; have hB3 := belows (B := w.heap.size) (a := w) (by repeat' first | with_reducible exact Below.refl _ _ | with_reducible assumption | with_reducible refine belows_drewN ?_ _ | with_reducible refine Below.drew ?_ | with_reducible refine Below.setCell ?_ ?_ _ | with_reducible refine Below.alloc ?_ ?_ _ | omega | (simp; done) | (simp; omega)) hb3 (by simp; omega); have hz4 : w.heap.size + 1 < w3.heap.size := (by omega); have bv := (BX.new (w.alloc (.cells #[.int .i64 tk, .string ts] 33)) #[.int .i64 _, .int .i64 vn] 35).below hb3; rw [World.size_alloc] at bv; have x0 := bv.cell 0; have x1 := bv.cell 1; simp at x0 x1; clear bv hb3)
    go_wp2
    go_ret
    exact ⟨by rw [HRr.out]; rfl, (by repeat' first | with_reducible exact Below.refl _ _ | with_reducible assumption | with_reducible refine belows_drewN ?_ _ | with_reducible refine Below.drew ?_ | with_reducible refine Below.setCell ?_ ?_ _ | with_reducible refine Below.alloc ?_ ?_ _ | omega | (simp; done) | (simp; omega))⟩
  | some z =>
    rw [hz] at hr HZ0
    have hk := zero_kinds hz
    obtain ⟨tk, ts⟩ := t
    unfold tA vA zV at *
    dsimp only [Option.getD_some, Option.isSome_some] at HZ0
    unfold vA at HZ0
    by_cases e : z.k = vk
    · subst e
      simp only [decide_true, Bool.true_and] at hr
      rcases hk with rfl | rfl | rfl
      all_goals
        have HZ := hid HZ0
        have HRr := hid hr
        clear hr hz HZ0
        dsimp only at *
        go_enter Try.func55, Try.ntmps55
        (go_wp2_with fail; refine (HZ.out _).mono ?_; rintro e w3 ⟨rfl, hb3⟩; have hz3 := hb3.size; simp only [World.size_alloc] at hz3; have hB3 := belows (B := w.heap.size) (a := w) (by repeat' first | with_reducible exact Below.refl _ _ | with_reducible assumption | with_reducible refine belows_drewN ?_ _ | with_reducible refine Below.drew ?_ | with_reducible refine Below.setCell ?_ ?_ _ | with_reducible refine Below.alloc ?_ ?_ _ | omega | (simp; done) | (simp; omega)) hb3 (by simp; omega); have hz4 : w.heap.size + 1 < w3.heap.size := (by omega); have bv := (BX.new (w.alloc (.cells #[.int .i64 tk, .string ts] 33)) #[.int .i64 _, .int .i64 vn] 35).below hb3; rw [World.size_alloc] at bv; have x0 := bv.cell 0; have x1 := bv.cell 1; simp at x0 x1; clear bv hb3)
        go_wp2
        all_goals go_ret
        all_goals refine ⟨?_, (by repeat' first | with_reducible exact Below.refl _ _ | with_reducible assumption | with_reducible refine belows_drewN ?_ _ | with_reducible refine Below.drew ?_ | with_reducible refine Below.setCell ?_ ?_ _ | with_reducible refine Below.alloc ?_ ?_ _ | omega | (simp; done) | (simp; omega))⟩
        all_goals rw [HRr.out]
        all_goals (simp <;> omega)
    · have hd : (z.k != vk) = true := by simpa using e
      have HRr : Hid (r = false) := by
        show r = false
        rw [hr]
        simp [e]
      have HZ := hid HZ0
      clear hr hz HZ0 e hk
      go_enter Try.func55, Try.ntmps55
      (go_wp2_with fail; refine (HZ.out _).mono ?_; rintro e w3 ⟨rfl, hb3⟩; have hz3 := hb3.size; simp only [World.size_alloc] at hz3; have hB3 := belows (B := w.heap.size) (a := w) (by repeat' first | with_reducible exact Below.refl _ _ | with_reducible assumption | with_reducible refine belows_drewN ?_ _ | with_reducible refine Below.drew ?_ | with_reducible refine Below.setCell ?_ ?_ _ | with_reducible refine Below.alloc ?_ ?_ _ | omega | (simp; done) | (simp; omega)) hb3 (by simp; omega); have hz4 : w.heap.size + 1 < w3.heap.size := (by omega); have bv := (BX.new (w.alloc (.cells #[.int .i64 tk, .string ts] 33)) #[.int .i64 _, .int .i64 vn] 35).below hb3; rw [World.size_alloc] at bv; have x0 := bv.cell 0; have x1 := bv.cell 1; simp at x0 x1; clear bv hb3)
      go_wp2
      go_ret
      exact ⟨by rw [HRr.out]; rfl, (by repeat' first | with_reducible exact Below.refl _ _ | with_reducible assumption | with_reducible refine belows_drewN ?_ _ | with_reducible refine Below.drew ?_ | with_reducible refine Below.setCell ?_ ?_ _ | with_reducible refine Below.alloc ?_ ?_ _ | omega | (simp; done) | (simp; omega))⟩
end Go.Proofs.Ythembnakeikmeaa
namespace Go.Proofs.Ythembnakeikmeaa
open Go Go.RowKit

def usedTo (s : Hp.Hs) (j : Nat) : Nat := j + ((s.l.map (·.vs)).take j).flatten.length
set_option maxRecDepth 100000 in
set_option maxHeartbeats 1000000 in
theorem rused_any {w : World} {base : Nat} {F : Nat → Prop} {rb : Nat} {s : Hp.Hs} {rv : Value} {rs : List (List Value)} (h : RefR w base F rb s rv rs) (ok : s.Ok) :
    Calls Try.prog 12 #[.pointer (some ⟨rb, 0, none⟩)] w fun e w' => e = .returned (.int .i64 (s.used : Int)) ∧ Below w.heap.size w w' := by
  obtain ⟨-, x1, hb⟩ := ref_box h
  have hall : usedTo s s.l.length = s.used := by
    unfold usedTo Hp.Hs.used
    rw [List.take_of_length_le (by simp)]
  have hus : s.used ≤ 1048576 := by have := ok.used; have := ok.lim; omega
  have hln : s.l.length ≤ 1048576 := by unfold Hp.Hs.used at hus; omega
  have HR := hid h
  have HAll := hid hall
  have HUs := hid hus
  obtain ⟨ra, rc, hrv⟩ := own_form h.row
  have hx1 := x1
  rw [hrv] at x1
  obtain ⟨l, hl⟩ : ∃ l, l = s.l.length := ⟨_, rfl⟩
  have HL := hid hl
  rw [← hl] at x1 hln
  have HRv : Hid (rv = .slice ra l rc) := hid (by rw [hrv, hl])
  clear h ok hall hus hrv hx1 hl
  go_enter Try.func12, Try.ntmps12
  go_wp2_with fail
  go_loopw [3, 4] (fun n i wr => ∃ j : Nat, j ≤ l ∧ n = .int .i64 (usedTo s j : Nat) ∧ i = .int .i64 j ∧ Hid (wr = w)) (fun _ i _ => l - (intOf i).toNat)
  case atStart => exact ⟨0, by omega, rfl, rfl, rfl⟩
  case round =>
    obtain ⟨j, hj, rfl, rfl, hJ⟩ := hrel
    have e := hJ.out
    subst e
    clear hJ
    by_cases hlt : j < l
    · obtain ⟨t, hk⟩ : ∃ t, s.l[j]? = some t := ⟨s.l[j]'(by have := HL.out; omega), List.getElem?_eq_getElem (by have := HL.out; omega)⟩
      obtain ⟨g, c, tv, cv, hv, hg, -, hcv, -, -, c0, c1, c2, c3, c4, c5⟩ := ref_at HR.out hk
      rw [HRv.out] at hv
      obtain ⟨rfl, -, rfl⟩ := Value.slice.inj hv
      obtain ⟨va, vc, rfl⟩ := own_form hcv
      have hvl := (own_caps hcv).2
      have hs : usedTo s (j + 1) = usedTo s j + (1 + t.vs.length) := by
        unfold usedTo
        rw [Hp.take_succ (r := t.vs) (by rw [List.getElem?_map, hk]; rfl)]
        omega
      have hle : usedTo s (j + 1) ≤ 1048576 := by
        have h1 := HAll.out
        have h2 := HUs.out
        have h3 := Hp.take_le (s.l.map (·.vs)) (j + 1)
        have h4 := HL.out
        unfold usedTo at h1 ⊢
        unfold Hp.Hs.used at h1 h2
        omega
      have i1 : (j : Int) < (l : Int) := by omega
      obtain ⟨m, hm⟩ : ∃ m, m = t.vs.length := ⟨_, rfl⟩
      rw [← hm] at hs c5 hvl
      obtain ⟨u, hu⟩ : ∃ u, u = usedTo s j := ⟨_, rfl⟩
      rw [hs] at hle
      have HS := hid hs
      rw [← hu] at HS hle ⊢
      have HU := hid hu
      clear hk hv hcv hm hs hu
      go_wp2_with fail
      go_roundw
      case rel => exact ⟨j + 1, by omega, by rw [HS.out]; go_num, by go_num, by first | trivial | exact hid rfl | exact hid trivial⟩
      case measure => simp [intOf]; omega
    · obtain rfl : j = l := by omega
      have i1 : ¬ ((j : Int) < (j : Int)) := by omega
      have e : usedTo s j = s.used := by rw [HL.out]; exact HAll.out
      rw [e]
      go_wp2_with fail
      go_ret
      exact ⟨rfl, Below.refl _ _⟩
end Go.Proofs.Ythembnakeikmeaa
namespace Go.Proofs.Ythembnakeikmeaa
open Go Go.RowKit

theorem RT.seti {w : World} {base : Nat} {F : Nat → Prop} {cs : List Value} {t : Hp.Th} (h : RT w base F cs t) {g n c : Nat} {xs : List Value} (hrow : w.ownsRow base 85 6 (.slice (some ⟨g, 0, none⟩) n c) n xs) (i : Nat) (u : Value) : RT (w.setCell ⟨g, i, none⟩ u) base F cs t := by
  have hc : Chg (fun k => k = g) w (w.setCell ⟨g, i, none⟩ u) := (Chg.refl (fun k => k = g) w).set (p := ⟨g, i, none⟩) (.inl rfl) u
  obtain ⟨tv, cv, h1, h2, h3, h4, h5⟩ := h
  have k3 := owns_chg h3 hc (fun k hk e => own_unlike h3 hrow (by decide) k hk (by subst e; rfl))
  rcases h2 with ⟨e, rfl⟩ | ⟨e, h2⟩
  · exact ⟨_, cv, h1, .inl ⟨e, rfl⟩, k3, h4, h5⟩
  · exact ⟨tv, cv, h1, .inr ⟨e, owns_chg h2 hc (fun k hk e => own_unlike h2 hrow (by decide) k hk (by subst e; rfl))⟩, k3, h4, h5⟩
theorem RTs.seti {w : World} {base : Nat} {F : Nat → Prop} {g n c : Nat} {xs : List Value} (hrow : w.ownsRow base 85 6 (.slice (some ⟨g, 0, none⟩) n c) n xs) (i : Nat) (u : Value) : ∀ {rs : List (List Value)} {ts : List Hp.Th}, RTs w base F rs ts → RTs (w.setCell ⟨g, i, none⟩ u) base F rs ts
  | [], [], _ => trivial
  | _ :: _, _ :: _, h => ⟨h.1.seti hrow i u, h.2.seti hrow i u⟩
  | [], _ :: _, h => h.elim
  | _ :: _, [], h => h.elim
theorem RTs.set {w : World} {base : Nat} {F : Nat → Prop} {r : List Value} {t : Hp.Th} (hr : RT w base F r t) : ∀ {rs : List (List Value)} {ts : List Hp.Th} (k : Nat), RTs w base F rs ts → RTs w base F (rs.set k r) (ts.set k t)
  | [], [], _, _ => trivial
  | _ :: _, _ :: _, 0, h => ⟨hr, h.2⟩
  | _ :: _, _ :: _, k + 1, h => ⟨h.1, h.2.set hr k⟩
  | [], _ :: _, _, h => h.elim
  | _ :: _, [], _, h => h.elim
theorem RTs.take_len {w : World} {base : Nat} {F : Nat → Prop} : ∀ {rs : List (List Value)} {ts : List Hp.Th} (k : Nat), RTs w base F rs ts → k ≤ ts.length → (rs.take k).flatten.length = k * 6
  | _, _, 0, _, _ => by simp
  | [], [], k + 1, _, hk => by simp at hk
  | r :: rs, t :: ts, k + 1, h, hk => by
    have h1 := h.2.take_len k (by simpa using hk)
    have h2 := h.1.len
    rw [List.take_succ_cons, List.flatten_cons, List.length_append, h1, h2]
    omega
  | [], _ :: _, _ + 1, h, _ => h.elim
  | _ :: _, [], _ + 1, h, _ => h.elim
theorem RefR.putc {w : World} {base : Nat} {F : Nat → Prop} {rb : Nat} {s : Hp.Hs} {g c : Nat} {rs : List (List Value)} (h : RefR w base F rb s (.slice (some ⟨g, 0, none⟩) s.l.length c) rs) {k : Nat} {t : Hp.Th} (hk : s.l[k]? = some t) (vs : List Hp.Vl) (cv : Value)
    (ho : w.ownsRow base 35 2 cv vs.length (vs.flatMap vL)) (hoff : Off F cv) :
    ∃ rs', RefR (w.setCell ⟨g, k * 6 + 5, none⟩ cv) base F rb { s with l := s.l.set k { t with vs := vs } } (.slice (some ⟨g, 0, none⟩) s.l.length c) rs' := by
  have hlt : k < s.l.length := (List.getElem?_eq_some_iff.1 hk).1
  obtain ⟨r, hr, hrk, -⟩ := h.th.at hk
  obtain ⟨tv, cv0, rfl, h2, h3, h4, h5⟩ := hr
  have hnew : RT w base F (thC { t with vs := vs } tv cv) { t with vs := vs } := ⟨tv, cv, rfl, h2, ho, h4, hoff⟩
  have e1 : (thC t tv cv0).set 5 cv = thC { t with vs := vs } tv cv := rfl
  have e2 := Hp.flat_set (v := cv) hrk (show 5 < (thC t tv cv0).length by show 5 < 6; decide)
  rw [h.th.take_len k (by omega), e1] at e2
  have hc : Chg (fun k => k = g) w (w.setCell ⟨g, k * 6 + 5, none⟩ cv) := (Chg.refl (fun k => k = g) w).set (p := ⟨g, k * 6 + 5, none⟩) (.inl rfl) cv
  have hrl : rb < w.heap.size := (Array.getElem?_eq_some_iff.1 h.box).1
  refine ⟨rs.set k (thC { t with vs := vs } tv cv), (hc.block rb hrl (fun e => own_unlike_box h.row h.box (by decide) (by subst e; rfl))).trans h.box, ?_, (h.th.set hnew k).seti h.row _ _, h.off, h.offb, h.lb⟩
  have e3 := owns_set h.row (k * 6 + 5) cv
  rw [e2] at e3
  show World.ownsRow _ base _ 6 _ (s.l.set k { t with vs := vs }).length _
  rw [List.length_set]
  exact e3
end Go.Proofs.Ythembnakeikmeaa
namespace Go.Proofs.Ythembnakeikmeaa
open Go Go.RowKit

def PutPost (base : Nat) (F : Nat → Prop) (rb : Nat) (s' : Hp.Hs) (rv : Value) (w : World) (e : Ending) (w' : World) : Prop :=
  ∃ rs', e = .returned (.tuple #[]) ∧ RefR w' base F rb s' rv rs' ∧ Chg (fun i => rv.ownBlock = some i) w w'
theorem rput_fin {w w1 : World} {base : Nat} {F : Nat → Prop} {rb g c g1 c1 : Nat} {s : Hp.Hs} {rs : List (List Value)} (h : RefR w base F rb s (.slice (some ⟨g, 0, none⟩) s.l.length c) rs) (hF : ∀ i, F i → i < w.heap.size) {k j : Nat} {t : Hp.Th} (hk : s.l[k]? = some t) (hj : j < t.vs.length) (v : Hp.Vl)
    (hb : Below w.heap.size w w1) (ho : w1.ownsRow w.heap.size 35 2 (.slice (some ⟨g1, 0, none⟩) t.vs.length c1) t.vs.length (t.vs.flatMap vL)) :
    PutPost base F rb { s with l := s.l.set k { t with vs := t.vs.set j v } } (.slice (some ⟨g, 0, none⟩) s.l.length c) w (.returned (.tuple #[])) (((w1.setCell ⟨g1, j * 2, none⟩ (.int .i64 v.k)).setCell ⟨g1, j * 2 + 1, none⟩ (.int .i64 v.n)).setCell ⟨g, k * 6 + 5, none⟩ (.slice (some ⟨g1, 0, none⟩) t.vs.length c1)) := by
  have hg1 := Kit.own_base ho g1 rfl
  have h2 := owns_set (owns_set ho (j * 2) (.int .i64 v.k)) (j * 2 + 1) (.int .i64 v.n)
  rw [flat_set2 (f := vL) (v := v) vL_len rfl hj] at h2
  have hB : Below w.heap.size w ((w1.setCell ⟨g1, j * 2, none⟩ (.int .i64 v.k)).setCell ⟨g1, j * 2 + 1, none⟩ (.int .i64 v.n)) := (hb.setCell (p := ⟨g1, j * 2, none⟩) hg1 _).setCell (p := ⟨g1, j * 2 + 1, none⟩) hg1 _
  have hbase : base ≤ w.heap.size := by have := h.lb; have := (ref_box h).2.2; omega
  have hl : (t.vs.set j v).length = t.vs.length := List.length_set ..
  obtain ⟨rs', hr⟩ := (h.below hB).putc hk (t.vs.set j v) (.slice (some ⟨g1, 0, none⟩) t.vs.length c1) (by rw [hl]; exact own_mono h2 hbase) (fun i hi hf => by
    have e : g1 = i := Option.some.inj hi
    have := hF i hf
    omega)
  exact ⟨rs', rfl, hr, Chg.set (S := fun i => (Value.slice (some ⟨g, 0, none⟩) s.l.length c).ownBlock = some i) (Chg.of_below hB) (p := ⟨g, k * 6 + 5, none⟩) (.inl rfl) _⟩
set_option maxRecDepth 100000 in
set_option maxHeartbeats 1000000 in
theorem rput_any {w : World} {base : Nat} {F : Nat → Prop} {rb : Nat} {s : Hp.Hs} {rv : Value} {rs : List (List Value)} (h : RefR w base F rb s rv rs) (hF : ∀ i, F i → i < w.heap.size) {k j : Nat} {t : Hp.Th} (hk : s.l[k]? = some t) (hj : j < t.vs.length) (hvl : t.vs.length ≤ 1048576) (hl : s.l.length ≤ 1048576) (v : Hp.Vl) :
    Calls Try.prog 56 #[.pointer (some ⟨rb, 0, none⟩), .int .i64 ((k : Int) + 1), .int .i64 (j : Int), vA v] w (PutPost base F rb { s with l := s.l.set k { t with vs := t.vs.set j v } } rv w) := by
  obtain ⟨i0, hi, hz0, hz1, hz2⟩ := info_parts infoV
  have hlt : k < s.l.length := (List.getElem?_eq_some_iff.1 hk).1
  obtain ⟨-, x1, hb⟩ := ref_box h
  obtain ⟨g, c, tv, cv, rfl, hg, -, hcv, -, -, -, -, -, -, -, c5⟩ := ref_at h hk
  have HFin := hid (fun w1 g1 c1 => rput_fin (w1 := w1) (g1 := g1) (c1 := c1) h hF hk hj v)
  obtain ⟨gv, vc, rfl, hvc, hgo, hcl⟩ := own_cell hcv (by omega)
  have hgv := Kit.own_lt hcv gv hgo
  have HCl := hid (fun W (b : Below w.heap.size w W) => fun i u (hu : (t.vs.flatMap vL)[i]? = some u) => (b.cell (p := ⟨gv, i, none⟩) hgv).trans (hcl i u hu))
  have HLen : Hid ((t.vs.flatMap vL).length = t.vs.length * 2) := hid hcv.1
  have H1 := hid (onesVL t.vs)
  have hfz : w.frozen? ⟨g, k * 6 + 5, none⟩ = false := (own_at h.row rfl).2 _
  have HCv := hid (fun (W : World) (b : Below w.heap.size w W) => And.intro ((b.cell (p := ⟨g, k * 6 + 5, none⟩) hg).trans c5) (And.intro ((b.frozen (p := ⟨g, k * 6 + 5, none⟩) hg).trans hfz) ((b.cell (p := ⟨rb, 1, none⟩) hb).trans x1)))
  obtain ⟨u, hu⟩ : ∃ u, t.vs[j]? = some u := ⟨_, List.getElem?_eq_getElem hj⟩
  obtain ⟨v0, v1⟩ := vL_at hu
  have HV := hid (And.intro v0 v1)
  unfold vA
  obtain ⟨xs, hxs⟩ : ∃ xs, xs = t.vs.flatMap vL := ⟨_, rfl⟩
  rw [← hxs] at HFin HCl HLen H1 HV
  obtain ⟨m, hm⟩ : ∃ m, m = t.vs.length := ⟨_, rfl⟩
  rw [← hm] at HFin HLen c5 hj hvl HCv
  obtain ⟨n, hn⟩ : ∃ n, n = s.l.length := ⟨_, rfl⟩
  rw [← hn] at HFin x1 hlt hl HCv ⊢
  have i1 : (k : Int) < (n : Int) := by omega
  have i2 : (j : Int) < (m : Int) := by omega
  have hwk : IntKind.i64.wrap (k : Int) = (k : Int) := IntWalk.i64_in _ (by omega)
  obtain ⟨s', hs'⟩ : ∃ s', s' = ({ s with l := s.l.set k { t with vs := t.vs.set j v } } : Hp.Hs) := ⟨_, rfl⟩
  rw [← hs'] at HFin ⊢
  clear h hF hk hcv hvc hgo hcl hxs hm hn hu v0 v1 hs' hfz
  go_enter Try.func56, Try.ntmps56
  go_wp2_with (at_builtin; refine wpList_append_own _ rfl (.const (.slice none 0 0)) (.tmp 17) 75 rfl w.heap.size 35 i0 _ 2 16 Try.underlying75 hi hz0 hz1 hz2 rfl (by decide) (.slice none 0 0) 0 [] rfl ⟨rfl, .inl ⟨rfl, rfl⟩⟩ ⟨gv, 0, none⟩ m vc xs rfl HLen.out (fun i u hu => by rw [Go.WideShapes.add_plain, Nat.zero_add]; exact HCl.out _ (by repeat' first | with_reducible exact Below.refl _ _ | with_reducible assumption | with_reducible refine belows_drewN ?_ _ | with_reducible refine Below.drew ?_ | with_reducible refine Below.setCell ?_ ?_ _ | with_reducible refine Below.alloc ?_ ?_ _ | omega | (simp; done) | (simp; omega)) i u hu) H1.out (by unfold maxLen; omega) (by omega) (by simp) ?_; intro v1 w1 hown1 hgrow1 _; rw [Nat.zero_add, List.nil_append] at hown1; have B1 : Below w.heap.size w w1 := Kit.below_grown (by repeat' first | with_reducible exact Below.refl _ _ | with_reducible assumption | with_reducible refine belows_drewN ?_ _ | with_reducible refine Below.drew ?_ | with_reducible refine Below.setCell ?_ ?_ _ | with_reducible refine Below.alloc ?_ ?_ _ | omega | (simp; done) | (simp; omega)) hgrow1 (by simp) (fun k hk => by simp [Value.ownBlock] at hk); obtain ⟨g1, c1, rfl, hc1, hgo1, hcl1⟩ := own_cell hown1 (by omega); have d0 := hcl1 _ _ HV.out.1; have d1 := hcl1 _ _ HV.out.2; have f0 := (own_at hown1 rfl).2 (j * 2); have f1 := (own_at hown1 rfl).2 (j * 2 + 1); obtain ⟨y0, y1, y2⟩ := HCv.out _ B1; have hg1 := Kit.own_base hown1 g1 rfl; have hgg : g ≠ g1 := (by omega); have hgg2 : g1 ≠ g := (by omega); have hrg : rb ≠ g1 := (by omega); have bx := (BX.new w #[.int .i64 v.k, .int .i64 v.n] 35).below (Kit.below_grown (Below.refl _ _) hgrow1 (Nat.le_refl _) (fun k hk => by simp [Value.ownBlock] at hk)); have b0 := bx.cell 0; have b1 := bx.cell 1; simp at b0 b1; clear bx; have HF2 := hid (HFin.out _ _ _ B1 hown1); clear hown1 hgrow1 hcl1)
  exact bodyPost_ret (v := .tuple #[]) (by simp [results, Try.results56, go_sem]) rfl HF2.out
end Go.Proofs.Ythembnakeikmeaa
namespace Go.Proofs.Ythembnakeikmeaa
open Go Go.RowKit

/-- Behind a call that changes the document's heap. -/
structure RWent (w w' : World) (base : Nat) (F : Nat → Prop) (rb : Nat) (rv rv' : Value) (s' : Hp.Hs) : Prop where
  rep : ∃ rs', RefR w' base F rb s' rv' rs'
  chg : Chg (fun i => i = rb ∨ rv.ownBlock = some i) w w'
  own : ∀ k, rv'.ownBlock = some k → rv.ownBlock = some k ∨ w.heap.size ≤ k
theorem RWent.refl {w : World} {base : Nat} {F : Nat → Prop} {rb : Nat} {s : Hp.Hs} {rv : Value} {rs : List (List Value)} (h : RefR w base F rb s rv rs) : RWent w w base F rb rv rv s := ⟨⟨rs, h⟩, Chg.refl _ _, fun _ e => .inl e⟩
theorem RWent.below {a b c : World} {base : Nat} {F : Nat → Prop} {rb : Nat} {rv rv' : Value} {s : Hp.Hs} (h : RWent a b base F rb rv rv' s) (k : Below b.heap.size b c) : RWent a c base F rb rv rv' s := by
  obtain ⟨rs', h1⟩ := h.rep
  exact ⟨⟨rs', h1.below k⟩, h.chg.below k, h.own⟩
theorem RWent.start {a b c : World} {base : Nat} {F : Nat → Prop} {rb : Nat} {rv rv' : Value} {s : Hp.Hs} (h : Below a.heap.size a b) (k : RWent b c base F rb rv rv' s) : RWent a c base F rb rv rv' s :=
  ⟨k.rep, (Chg.of_below h).trans k.chg (fun _ e => .inl e), fun i e => by
    rcases k.own i e with h1 | h1
    · exact .inl h1
    · exact .inr (Nat.le_trans h.size h1)⟩
namespace Hp
theorem st_err {s : Hs} {ref i : Int} {v : Vl} (h : (s.el ref i).2 ≠ 0) : s.st ref i v = (s, (s.el ref i).2) := by unfold Hs.st; rw [if_pos h]
theorem se_err {s : Hs} {ref i : Int} {v : Vl} (h : (s.fd ref i).2 ≠ 0) : s.se ref i v = (s, (s.fd ref i).2) := by unfold Hs.se; rw [if_pos h]
theorem el_zero {s : Hs} {ref i : Int} (h : (s.el ref i).2 = 0) : ∃ t u, ∃ j : Nat, s.thing ref = some t ∧ t.cl = -1 ∧ i = j ∧ t.vs[j]? = some u := by
  by_cases hn : ∀ t, s.thing ref = some t → t.cl ≠ -1
  · rw [(el_ref (i := i) (v := V0) hn).1] at h
    simp at h
  · obtain ⟨t, hth, hc0⟩ := some_not hn
    have hc : t.cl = -1 := Classical.byContradiction hc0
    by_cases hi : i < 0 ∨ (t.vs.length : Int) ≤ i
    · rw [(el_idx (v := V0) hth hc hi).1] at h
      simp at h
    · obtain ⟨j, rfl⟩ : ∃ j : Nat, i = j := ⟨i.toNat, by omega⟩
      exact ⟨t, t.vs[j]'(by omega), j, hth, hc, rfl, List.getElem?_eq_getElem (by omega)⟩
theorem fd_zero {s : Hs} {ref i : Int} (h : (s.fd ref i).2 = 0) : ∃ t u, ∃ j : Nat, s.thing ref = some t ∧ t.cl ≠ -1 ∧ i = j ∧ t.vs[j]? = some u := by
  by_cases hn : ∀ t, s.thing ref = some t → t.cl = -1
  · rw [(fd_ref (i := i) (v := V0) hn).1] at h
    simp at h
  · obtain ⟨t, hth, hc⟩ := some_not hn
    by_cases hi : i < 0 ∨ (t.vs.length : Int) ≤ i
    · rw [(fd_idx (v := V0) hth hc hi).1] at h
      simp at h
    · obtain ⟨j, rfl⟩ : ∃ j : Nat, i = j := ⟨i.toNat, by omega⟩
      exact ⟨t, t.vs[j]'(by omega), j, hth, hc, rfl, List.getElem?_eq_getElem (by omega)⟩
end Hp
theorem vs_small {s : Hp.Hs} (ok : s.Ok) {k : Nat} {t : Hp.Th} (hk : s.l[k]? = some t) : t.vs.length ≤ 1048576 := by
  obtain ⟨s1, s2, s3, s4, s5, s6, s7⟩ := ok.sizes
  have hr : (s.l.map (·.vs))[k]? = some t.vs := by rw [List.getElem?_map, hk]; rfl
  have h4 := Hp.take_le (s.l.map (·.vs)) (k + 1)
  rw [Hp.take_succ hr] at h4
  have h5 : s.flat.vc.length = (s.l.map (·.vs)).flatten.length := rfl
  omega
theorem l_small {s : Hp.Hs} (ok : s.Ok) : s.l.length ≤ 1048576 := by
  obtain ⟨s1, s2, s3, s4, s5, s6, s7⟩ := ok.sizes
  have := flat_cs s
  omega
set_option maxRecDepth 100000 in
set_option maxHeartbeats 1000000 in
theorem rstore_any {w : World} {base : Nat} {F : Nat → Prop} {rb : Nat} {s : Hp.Hs} {rv : Value} {rs : List (List Value)} (h : RefR w base F rb s rv rs) (ok : s.Ok) (hF : ∀ i, F i → i < w.heap.size) (ref i : Int) (v : Hp.Vl) (hr : -9223372036854775808 ≤ ref ∧ ref ≤ 9223372036854775807) :
    Calls Try.prog 32 #[.pointer (some ⟨rb, 0, none⟩), .int .i64 ref, .int .i64 i, vA v] w fun e w' => e = .returned (.int .i64 (s.st ref i v).2) ∧ RWent w w' base F rb rv rv (s.st ref i v).1 := by
  have hl := l_small ok
  have HL0 := fun X (b : Below w.heap.size w X) => rload_any (h.below b) ok ref i hr hl
  have HRw := hid (fun X (b : Below w.heap.size w X) => RWent.start b (RWent.refl (h.below b)))
  obtain ⟨-, x1, hb⟩ := ref_box h
  by_cases he : (s.el ref i).2 = 0
  · obtain ⟨t, u, j, hth, hc, rfl, hu⟩ := Hp.el_zero he
    obtain ⟨r1, r2, hk⟩ := thing_at hth
    obtain ⟨k, hkk⟩ : ∃ k, k = (ref - 1).toNat := ⟨_, rfl⟩
    have hj : j < t.vs.length := (List.getElem?_eq_some_iff.1 hu).1
    obtain ⟨x, hx⟩ := Hp.ok_one ok (List.mem_of_getElem? hk) hc
    obtain ⟨e1, e2⟩ := Hp.el_ok (v := v) hth hc hx hu
    rw [← hkk] at hk e2 r2
    have hrk : ref = (k : Int) + 1 := by omega
    subst hrk
    have hvl := vs_small ok hk
    rw [e1] at HL0
    rw [e2]
    have HPut0 := fun X (b : Below w.heap.size w X) => rput_any (h.below b) (fun i hi => Nat.lt_of_lt_of_le (hF i hi) b.size) hk hj hvl hl v
    obtain ⟨g, c, tv, cv, rfl, hg, htv, hcv, -, -, c0, c1, c2, c3, c4, c5⟩ := ref_at h hk
    obtain ⟨ta, tn, tc, rfl⟩ : ∃ a m c, tv = .slice a m c := by
      rcases htv with ⟨-, e⟩ | ⟨-, e⟩
      · exact ⟨none, 0, 0, e⟩
      · obtain ⟨a, c, e2⟩ := own_form e
        exact ⟨a, _, c, e2⟩
    have hE : thE t = x := by unfold thE; rw [if_pos hc, hx]; rfl
    rw [hE] at c2 c3
    clear hE
    have HF0 := fun (W : World) d os => Calls.regrown_of (d := d) (os := os) (w := W) (rfits_any x v _)
    obtain ⟨n, hn⟩ : ∃ n, n = s.l.length := ⟨_, rfl⟩
    rw [← hn] at x1 HPut0 HRw r2 hl ⊢
    have i1 : (k : Int) < (n : Int) := by omega
    have hw : IntKind.i64.wrap (k : Int) = (k : Int) := IntWalk.i64_in _ (by omega)
    unfold PutPost at HPut0
    unfold vA tA at HF0
    unfold vA at HL0 HPut0
    unfold vA
    obtain ⟨s', hs'⟩ : ∃ s', s' = ({ s with l := s.l.set k { t with vs := t.vs.set j v } } : Hp.Hs) := ⟨_, rfl⟩
    rw [← hs'] at HPut0 ⊢
    have HL := hid HL0
    have HPut := hid HPut0
    clear hs' h ok hF hth hc e1 e2 he hu hx htv hcv HL0 hkk hk HPut0 c0 c1 c5 hn c4
    cases hf : fitsOf x v with
    | true =>
      rw [if_pos rfl]
      rw [hf] at HF0
      have HF := hid HF0
      clear hf HF0
      go_enter Try.func32, Try.ntmps32
      go_wp2_with fail
      refine (HL.out _ (by repeat' first | with_reducible exact Below.refl _ _ | with_reducible assumption | with_reducible refine belows_drewN ?_ _ | with_reducible refine Below.drew ?_ | with_reducible refine Below.setCell ?_ ?_ _ | with_reducible refine Below.alloc ?_ ?_ _ | omega | (simp; done) | (simp; omega))).mono ?_
      rintro e w1 ⟨rfl, hb1⟩
      obtain ⟨W, hW⟩ : ∃ W, W = w1.alloc (.cells #[.int .i64 u.k, .int .i64 u.n] 35) := ⟨_, rfl⟩; have bv := ((BX.new w #[.int .i64 v.k, .int .i64 v.n] 35).below hb1).below ((Below.refl _ w1).alloc (Nat.le_refl _) (.cells #[.int .i64 u.k, .int .i64 u.n] 35)); have b0 := bv.cell 0; have b1 := bv.cell 1; have hWs := bv.sz; have BW : Below w.heap.size w W := (by rw [hW]; exact belows (belows (B := w.heap.size) (a := w) (by repeat' first | with_reducible exact Below.refl _ _ | with_reducible assumption | with_reducible refine belows_drewN ?_ _ | with_reducible refine Below.drew ?_ | with_reducible refine Below.setCell ?_ ?_ _ | with_reducible refine Below.alloc ?_ ?_ _ | omega | (simp; done) | (simp; omega)) hb1 (by simp)) ((Below.refl _ w1).alloc (Nat.le_refl _) _) (by have h9 := hb1.size; rw [World.size_alloc] at h9; omega)); rw [← hW] at b0 b1 hWs; have yx := (BW.cell (p := ⟨rb, 1, none⟩) hb).trans x1; have z2 := (BW.cell (p := ⟨g, k * 6 + 2, none⟩) hg).trans c2; have z3 := (BW.cell (p := ⟨g, k * 6 + 3, none⟩) hg).trans c3; have q0 := fun d os => cell_regrown yx d os; have q1 := fun d os => cell_regrown z2 d os; have q2 := fun d os => cell_regrown z3 d os; have q3 := fun d os => cell_regrown b0 d os; have q4 := fun d os => cell_regrown b1 d os; clear bv hb1 yx z2 z3
      go_wp2_with fail
      rw [← hW]
      clear hW
      refine wp_region_quiet_below (by kernel_rfl) (by kernel_rfl) ?_
      (iterate 12 (go_big_quiet_step (exact HF.out _ _ _)))
      refine wpQuiet_nil ?_
      intro W2 hw'
      obtain ⟨⟨dq, osq⟩, hw''⟩ := hw'
      have hbq := below_regrown W dq osq
      rw [← hw''] at hbq
      clear hw''
      have B2 := belows BW hbq BW.size
      have d0 := (hbq.cell (p := ⟨w.heap.size, 0, none⟩) hWs).trans b0
      have d1 := (hbq.cell (p := ⟨w.heap.size, 1, none⟩) hWs).trans b1
      go_wp2_with fail
      refine (HPut.out _ B2).mono ?_
      rintro e w3 ⟨rs', rfl, hR3, hC3⟩
      have HFin := hid (RWent.start B2 (⟨⟨rs', hR3⟩, hC3.mono (fun _ _ e => .inr e), fun _ e => .inl e⟩ : RWent _ _ base F rb _ _ s'))
      clear hR3 hC3 hbq B2 BW
      go_wp2
      go_ret
      exact ⟨rfl, HFin.out⟩
    | false =>
      rw [if_neg (by decide)]
      rw [hf] at HF0
      have HF := hid HF0
      clear hf HF0 HPut
      go_enter Try.func32, Try.ntmps32
      go_wp2_with fail
      refine (HL.out _ (by repeat' first | with_reducible exact Below.refl _ _ | with_reducible assumption | with_reducible refine belows_drewN ?_ _ | with_reducible refine Below.drew ?_ | with_reducible refine Below.setCell ?_ ?_ _ | with_reducible refine Below.alloc ?_ ?_ _ | omega | (simp; done) | (simp; omega))).mono ?_
      rintro e w1 ⟨rfl, hb1⟩
      obtain ⟨W, hW⟩ : ∃ W, W = w1.alloc (.cells #[.int .i64 u.k, .int .i64 u.n] 35) := ⟨_, rfl⟩; have bv := ((BX.new w #[.int .i64 v.k, .int .i64 v.n] 35).below hb1).below ((Below.refl _ w1).alloc (Nat.le_refl _) (.cells #[.int .i64 u.k, .int .i64 u.n] 35)); have b0 := bv.cell 0; have b1 := bv.cell 1; have hWs := bv.sz; have BW : Below w.heap.size w W := (by rw [hW]; exact belows (belows (B := w.heap.size) (a := w) (by repeat' first | with_reducible exact Below.refl _ _ | with_reducible assumption | with_reducible refine belows_drewN ?_ _ | with_reducible refine Below.drew ?_ | with_reducible refine Below.setCell ?_ ?_ _ | with_reducible refine Below.alloc ?_ ?_ _ | omega | (simp; done) | (simp; omega)) hb1 (by simp)) ((Below.refl _ w1).alloc (Nat.le_refl _) _) (by have h9 := hb1.size; rw [World.size_alloc] at h9; omega)); rw [← hW] at b0 b1 hWs; have yx := (BW.cell (p := ⟨rb, 1, none⟩) hb).trans x1; have z2 := (BW.cell (p := ⟨g, k * 6 + 2, none⟩) hg).trans c2; have z3 := (BW.cell (p := ⟨g, k * 6 + 3, none⟩) hg).trans c3; have q0 := fun d os => cell_regrown yx d os; have q1 := fun d os => cell_regrown z2 d os; have q2 := fun d os => cell_regrown z3 d os; have q3 := fun d os => cell_regrown b0 d os; have q4 := fun d os => cell_regrown b1 d os; clear bv hb1 yx z2 z3
      go_wp2_with fail
      rw [← hW]
      clear hW
      refine wp_region_quiet_below (by kernel_rfl) (by kernel_rfl) ?_
      (iterate 12 (go_big_quiet_step (exact HF.out _ _ _)))
      refine wpQuiet_nil ?_
      intro W2 hw'
      obtain ⟨⟨dq, osq⟩, hw''⟩ := hw'
      have hbq := below_regrown W dq osq
      rw [← hw''] at hbq
      clear hw''
      have B2 := belows BW hbq BW.size
      go_wp2
      go_ret
      exact ⟨rfl, HRw.out _ B2⟩
  · rw [Hp.st_err he]
    obtain ⟨r, hr0⟩ : ∃ r, r = s.el ref i := ⟨_, rfl⟩
    rw [← hr0] at HL0 he ⊢
    obtain ⟨⟨rk, rn⟩, er⟩ := r
    unfold vA at HL0 ⊢
    dsimp only at HL0 he ⊢
    have hd : (er != 0) = true := by simpa using he
    have HL := hid HL0
    clear h ok hF HL0 he hr0
    go_enter Try.func32, Try.ntmps32
    go_wp2_with fail
    refine (HL.out _ (by repeat' first | with_reducible exact Below.refl _ _ | with_reducible assumption | with_reducible refine belows_drewN ?_ _ | with_reducible refine Below.drew ?_ | with_reducible refine Below.setCell ?_ ?_ _ | with_reducible refine Below.alloc ?_ ?_ _ | omega | (simp; done) | (simp; omega))).mono ?_
    rintro e w1 ⟨rfl, hb1⟩
    have B1 := belows (B := w.heap.size) (a := w) (by repeat' first | with_reducible exact Below.refl _ _ | with_reducible assumption | with_reducible refine belows_drewN ?_ _ | with_reducible refine Below.drew ?_ | with_reducible refine Below.setCell ?_ ?_ _ | with_reducible refine Below.alloc ?_ ?_ _ | omega | (simp; done) | (simp; omega)) hb1 (by simp)
    have hz := B1.size
    go_wp2
    go_ret
    exact ⟨rfl, HRw.out _ (by repeat' first | with_reducible exact Below.refl _ _ | with_reducible assumption | with_reducible refine belows_drewN ?_ _ | with_reducible refine Below.drew ?_ | with_reducible refine Below.setCell ?_ ?_ _ | with_reducible refine Below.alloc ?_ ?_ _ | omega | (simp; done) | (simp; omega))⟩
end Go.Proofs.Ythembnakeikmeaa
namespace Go.Proofs.Ythembnakeikmeaa
open Go Go.RowKit

theorem obj_type {s : Hp.Hs} (h : s.Ok) {t : Hp.Th} (ht : t ∈ s.l) (hc : t.cl ≠ -1) {j : Nat} (hj : j < t.vs.length) : ∃ x, t.ts[j]? = some x := by
  rcases h.th t ht with ⟨h1, -⟩ | ⟨-, h2⟩
  · exact absurd h1 hc
  · exact ⟨t.ts[j]'(by omega), List.getElem?_eq_getElem (by omega)⟩
set_option maxRecDepth 100000 in
set_option maxHeartbeats 1000000 in
theorem rset_any {w : World} {base : Nat} {F : Nat → Prop} {rb : Nat} {s : Hp.Hs} {rv : Value} {rs : List (List Value)} (h : RefR w base F rb s rv rs) (ok : s.Ok) (hF : ∀ i, F i → i < w.heap.size) (ref i : Int) (v : Hp.Vl) (hr : -9223372036854775808 ≤ ref ∧ ref ≤ 9223372036854775807) :
    Calls Try.prog 30 #[.pointer (some ⟨rb, 0, none⟩), .int .i64 ref, .int .i64 i, vA v] w fun e w' => e = .returned (.int .i64 (s.se ref i v).2) ∧ RWent w w' base F rb rv rv (s.se ref i v).1 := by
  have hl := l_small ok
  have HL0 := fun X (b : Below w.heap.size w X) => rget_any (h.below b) ok ref i hr hl
  have HRw := hid (fun X (b : Below w.heap.size w X) => RWent.start b (RWent.refl (h.below b)))
  obtain ⟨-, x1, hb⟩ := ref_box h
  by_cases he : (s.fd ref i).2 = 0
  · obtain ⟨t, u, j, hth, hc, rfl, hu⟩ := Hp.fd_zero he
    obtain ⟨r1, r2, hk⟩ := thing_at hth
    obtain ⟨k, hkk⟩ : ∃ k, k = (ref - 1).toNat := ⟨_, rfl⟩
    have hj : j < t.vs.length := (List.getElem?_eq_some_iff.1 hu).1
    obtain ⟨x, hx⟩ := obj_type ok (List.mem_of_getElem? hk) hc hj
    obtain ⟨e1, e2⟩ := Hp.fd_ok (v := v) hth hc hx hu
    rw [← hkk] at hk e2 r2
    have hrk : ref = (k : Int) + 1 := by omega
    subst hrk
    have hvl := vs_small ok hk
    rw [e1] at HL0
    rw [e2]
    have HPut0 := fun X (b : Below w.heap.size w X) => rput_any (h.below b) (fun i hi => Nat.lt_of_lt_of_le (hF i hi) b.size) hk hj hvl hl v
    obtain ⟨g, c, tv, cv, rfl, hg, htv, hcv, -, -, c0, c1, c2, c3, c4, c5⟩ := ref_at h hk
    have htv2 : w.ownsRow base 33 2 tv t.ts.length (t.ts.flatMap tL) := by
      rcases htv with ⟨e, -⟩ | ⟨-, e⟩
      · exact absurd e hc
      · exact e
    have htl : j < t.ts.length := (List.getElem?_eq_some_iff.1 hx).1
    obtain ⟨gt, ct, rfl, -, hgt, hct⟩ := own_cell htv2 (by omega)
    have hgtl := Kit.own_lt htv2 gt hgt
    obtain ⟨y0, y1⟩ := tL_at hx
    have e0 := hct _ _ y0
    have e1t := hct _ _ y1
    obtain ⟨mt, hmt⟩ : ∃ m, m = t.ts.length := ⟨_, rfl⟩
    rw [← hmt] at c4 htl
    have i2 : (j : Int) < (mt : Int) := by omega
    clear htv2 hgt hct y0 y1 hmt
    have HF0 := fun (W : World) d os => Calls.regrown_of (d := d) (os := os) (w := W) (rfits_any x v _)
    obtain ⟨n, hn⟩ : ∃ n, n = s.l.length := ⟨_, rfl⟩
    rw [← hn] at x1 HPut0 HRw r2 hl ⊢
    have i1 : (k : Int) < (n : Int) := by omega
    have hw : IntKind.i64.wrap (k : Int) = (k : Int) := IntWalk.i64_in _ (by omega)
    unfold PutPost at HPut0
    unfold vA tA at HF0
    unfold vA at HL0 HPut0
    unfold vA
    obtain ⟨s', hs'⟩ : ∃ s', s' = ({ s with l := s.l.set k { t with vs := t.vs.set j v } } : Hp.Hs) := ⟨_, rfl⟩
    rw [← hs'] at HPut0 ⊢
    have HL := hid HL0
    have HPut := hid HPut0
    clear hs' h ok hF hth hc e1 e2 he hu hx htv hcv HL0 hkk hk HPut0 c0 c1 c5 hn c2 c3
    cases hf : fitsOf x v with
    | true =>
      rw [if_pos rfl]
      rw [hf] at HF0
      have HF := hid HF0
      clear hf HF0
      go_enter Try.func30, Try.ntmps30
      go_wp2_with fail
      refine (HL.out _ (by repeat' first | with_reducible exact Below.refl _ _ | with_reducible assumption | with_reducible refine belows_drewN ?_ _ | with_reducible refine Below.drew ?_ | with_reducible refine Below.setCell ?_ ?_ _ | with_reducible refine Below.alloc ?_ ?_ _ | omega | (simp; done) | (simp; omega))).mono ?_
      rintro e w1 ⟨rfl, hb1⟩
      obtain ⟨W, hW⟩ : ∃ W, W = w1.alloc (.cells #[.int .i64 u.k, .int .i64 u.n] 35) := ⟨_, rfl⟩; have bv := ((BX.new w #[.int .i64 v.k, .int .i64 v.n] 35).below hb1).below ((Below.refl _ w1).alloc (Nat.le_refl _) (.cells #[.int .i64 u.k, .int .i64 u.n] 35)); have b0 := bv.cell 0; have b1 := bv.cell 1; have hWs := bv.sz; have BW : Below w.heap.size w W := (by rw [hW]; exact belows (belows (B := w.heap.size) (a := w) (by repeat' first | with_reducible exact Below.refl _ _ | with_reducible assumption | with_reducible refine belows_drewN ?_ _ | with_reducible refine Below.drew ?_ | with_reducible refine Below.setCell ?_ ?_ _ | with_reducible refine Below.alloc ?_ ?_ _ | omega | (simp; done) | (simp; omega)) hb1 (by simp)) ((Below.refl _ w1).alloc (Nat.le_refl _) _) (by have h9 := hb1.size; rw [World.size_alloc] at h9; omega)); rw [← hW] at b0 b1 hWs; have yx := (BW.cell (p := ⟨rb, 1, none⟩) hb).trans x1; have z4 := (BW.cell (p := ⟨g, k * 6 + 4, none⟩) hg).trans c4; have z5 := (BW.cell (p := ⟨gt, j * 2, none⟩) hgtl).trans e0; have z6 := (BW.cell (p := ⟨gt, j * 2 + 1, none⟩) hgtl).trans e1t; have q0 := fun d os => cell_regrown yx d os; have q1 := fun d os => cell_regrown z4 d os; have q2 := fun d os => cell_regrown z5 d os; have q5 := fun d os => cell_regrown z6 d os; have q3 := fun d os => cell_regrown b0 d os; have q4 := fun d os => cell_regrown b1 d os; clear bv hb1 yx z4 z5 z6
      go_wp2_with fail
      rw [← hW]
      clear hW
      refine wp_region_quiet_below (by kernel_rfl) (by kernel_rfl) ?_
      (iterate 15 (go_big_quiet_step (exact HF.out _ _ _)))
      refine wpQuiet_nil ?_
      intro W2 hw'
      obtain ⟨⟨dq, osq⟩, hw''⟩ := hw'
      have hbq := below_regrown W dq osq
      rw [← hw''] at hbq
      clear hw''
      have B2 := belows BW hbq BW.size
      have d0 := (hbq.cell (p := ⟨w.heap.size, 0, none⟩) hWs).trans b0
      have d1 := (hbq.cell (p := ⟨w.heap.size, 1, none⟩) hWs).trans b1
      go_wp2_with fail
      refine (HPut.out _ B2).mono ?_
      rintro e w3 ⟨rs', rfl, hR3, hC3⟩
      have HFin := hid (RWent.start B2 (⟨⟨rs', hR3⟩, hC3.mono (fun _ _ e => .inr e), fun _ e => .inl e⟩ : RWent _ _ base F rb _ _ s'))
      clear hR3 hC3 hbq B2 BW
      go_wp2
      go_ret
      exact ⟨rfl, HFin.out⟩
    | false =>
      rw [if_neg (by decide)]
      rw [hf] at HF0
      have HF := hid HF0
      clear hf HF0 HPut
      go_enter Try.func30, Try.ntmps30
      go_wp2_with fail
      refine (HL.out _ (by repeat' first | with_reducible exact Below.refl _ _ | with_reducible assumption | with_reducible refine belows_drewN ?_ _ | with_reducible refine Below.drew ?_ | with_reducible refine Below.setCell ?_ ?_ _ | with_reducible refine Below.alloc ?_ ?_ _ | omega | (simp; done) | (simp; omega))).mono ?_
      rintro e w1 ⟨rfl, hb1⟩
      obtain ⟨W, hW⟩ : ∃ W, W = w1.alloc (.cells #[.int .i64 u.k, .int .i64 u.n] 35) := ⟨_, rfl⟩; have bv := ((BX.new w #[.int .i64 v.k, .int .i64 v.n] 35).below hb1).below ((Below.refl _ w1).alloc (Nat.le_refl _) (.cells #[.int .i64 u.k, .int .i64 u.n] 35)); have b0 := bv.cell 0; have b1 := bv.cell 1; have hWs := bv.sz; have BW : Below w.heap.size w W := (by rw [hW]; exact belows (belows (B := w.heap.size) (a := w) (by repeat' first | with_reducible exact Below.refl _ _ | with_reducible assumption | with_reducible refine belows_drewN ?_ _ | with_reducible refine Below.drew ?_ | with_reducible refine Below.setCell ?_ ?_ _ | with_reducible refine Below.alloc ?_ ?_ _ | omega | (simp; done) | (simp; omega)) hb1 (by simp)) ((Below.refl _ w1).alloc (Nat.le_refl _) _) (by have h9 := hb1.size; rw [World.size_alloc] at h9; omega)); rw [← hW] at b0 b1 hWs; have yx := (BW.cell (p := ⟨rb, 1, none⟩) hb).trans x1; have z4 := (BW.cell (p := ⟨g, k * 6 + 4, none⟩) hg).trans c4; have z5 := (BW.cell (p := ⟨gt, j * 2, none⟩) hgtl).trans e0; have z6 := (BW.cell (p := ⟨gt, j * 2 + 1, none⟩) hgtl).trans e1t; have q0 := fun d os => cell_regrown yx d os; have q1 := fun d os => cell_regrown z4 d os; have q2 := fun d os => cell_regrown z5 d os; have q5 := fun d os => cell_regrown z6 d os; have q3 := fun d os => cell_regrown b0 d os; have q4 := fun d os => cell_regrown b1 d os; clear bv hb1 yx z4 z5 z6
      go_wp2_with fail
      rw [← hW]
      clear hW
      refine wp_region_quiet_below (by kernel_rfl) (by kernel_rfl) ?_
      (iterate 15 (go_big_quiet_step (exact HF.out _ _ _)))
      refine wpQuiet_nil ?_
      intro W2 hw'
      obtain ⟨⟨dq, osq⟩, hw''⟩ := hw'
      have hbq := below_regrown W dq osq
      rw [← hw''] at hbq
      clear hw''
      have B2 := belows BW hbq BW.size
      go_wp2
      go_ret
      exact ⟨rfl, HRw.out _ B2⟩
  · rw [Hp.se_err he]
    obtain ⟨r, hr0⟩ : ∃ r, r = s.fd ref i := ⟨_, rfl⟩
    rw [← hr0] at HL0 he ⊢
    obtain ⟨⟨rk, rn⟩, er⟩ := r
    unfold vA at HL0 ⊢
    dsimp only at HL0 he ⊢
    have hd : (er != 0) = true := by simpa using he
    have HL := hid HL0
    clear h ok hF HL0 he hr0
    go_enter Try.func30, Try.ntmps30
    go_wp2_with fail
    refine (HL.out _ (by repeat' first | with_reducible exact Below.refl _ _ | with_reducible assumption | with_reducible refine belows_drewN ?_ _ | with_reducible refine Below.drew ?_ | with_reducible refine Below.setCell ?_ ?_ _ | with_reducible refine Below.alloc ?_ ?_ _ | omega | (simp; done) | (simp; omega))).mono ?_
    rintro e w1 ⟨rfl, hb1⟩
    have B1 := belows (B := w.heap.size) (a := w) (by repeat' first | with_reducible exact Below.refl _ _ | with_reducible assumption | with_reducible refine belows_drewN ?_ _ | with_reducible refine Below.drew ?_ | with_reducible refine Below.setCell ?_ ?_ _ | with_reducible refine Below.alloc ?_ ?_ _ | omega | (simp; done) | (simp; omega)) hb1 (by simp)
    have hz := B1.size
    go_wp2
    go_ret
    exact ⟨rfl, HRw.out _ (by repeat' first | with_reducible exact Below.refl _ _ | with_reducible assumption | with_reducible refine belows_drewN ?_ _ | with_reducible refine Below.drew ?_ | with_reducible refine Below.setCell ?_ ?_ _ | with_reducible refine Below.alloc ?_ ?_ _ | omega | (simp; done) | (simp; omega))⟩
end Go.Proofs.Ythembnakeikmeaa
namespace Go.Proofs.Ythembnakeikmeaa
open Go Go.RowKit

set_option maxRecDepth 100000 in
theorem rnew_no (lim : Int) (w : World) (hl : lim < 0 ∨ 1048576 < lim) :
    Calls Try.prog 8 #[.int .i64 lim] w fun e w' => e = .returned (.tuple #[.pointer none, .int .i64 1]) ∧ w = w' := by
  rcases hl with hl | hl
  · have hd : decide (lim < 0) = true := by simpa using hl
    go_enter Try.func8, Try.ntmps8
    go_wp2
    go_ret2
    exact ⟨rfl, rfl⟩
  · have hd : decide (lim < 0) = false := by simp; omega
    have hd2 : decide (1048576 < lim) = true := by simpa using hl
    go_enter Try.func8, Try.ntmps8
    go_wp2
    go_ret2
    exact ⟨rfl, rfl⟩
def RNewPost (lim : Nat) (w : World) (e : Ending) (w' : World) : Prop :=
  e = .returned (.tuple #[.pointer (some ⟨w.heap.size, 0, none⟩), .int .i64 0]) ∧ Below w.heap.size w w' ∧ w'.heap[w.heap.size]? = some (.cells #[.int .i64 lim, .slice none 0 0] 82 (0, 0))
set_option maxRecDepth 100000 in
theorem rnew_ok (lim : Nat) (w : World) (hl : lim ≤ 1048576) : Calls Try.prog 8 #[.int .i64 (lim : Int)] w (RNewPost lim w) := by
  go_enter Try.func8, Try.ntmps8
  go_wp2
  go_ret2
  exact ⟨rfl, (by repeat' first | with_reducible exact Below.refl _ _ | with_reducible assumption | with_reducible refine belows_drewN ?_ _ | with_reducible refine Below.drew ?_ | with_reducible refine Below.setCell ?_ ?_ _ | with_reducible refine Below.alloc ?_ ?_ _ | omega | (simp; done) | (simp; omega)), heap_alloc_new w _⟩
theorem refR_new {w : World} {lim rb base : Nat} {F : Nat → Prop} (h : w.heap[rb]? = some (.cells #[.int .i64 lim, .slice none 0 0] 82 (0, 0))) (hb : base ≤ rb) (hF : ¬ F rb) : RefR w base F rb ⟨lim, []⟩ (.slice none 0 0) [] :=
  ⟨h, ⟨rfl, .inl ⟨rfl, rfl⟩⟩, trivial, fun k e => by simp [Value.ownBlock] at e, hF, hb⟩
theorem RT.chg2 {S : Nat → Prop} {w w' : World} {base : Nat} {F : Nat → Prop} {cs : List Value} {t : Hp.Th} (h : RT w base F cs t) (hc : Chg S w w')
    (hT : ∀ v n xs, w.ownsRow base 33 2 v n xs → ∀ k, v.ownBlock = some k → ¬ S k) (hV : ∀ v n xs, w.ownsRow base 35 2 v n xs → ∀ k, v.ownBlock = some k → ¬ S k) : RT w' base F cs t := by
  obtain ⟨tv, cv, h1, h2, h3, h4, h5⟩ := h
  have k3 := owns_chg h3 hc (hV _ _ _ h3)
  rcases h2 with ⟨e, rfl⟩ | ⟨e, h2⟩
  · exact ⟨_, cv, h1, .inl ⟨e, rfl⟩, k3, h4, h5⟩
  · exact ⟨tv, cv, h1, .inr ⟨e, owns_chg h2 hc (hT _ _ _ h2)⟩, k3, h4, h5⟩
theorem RTs.chg2 {S : Nat → Prop} {w w' : World} {base : Nat} {F : Nat → Prop} (hc : Chg S w w')
    (hT : ∀ v n xs, w.ownsRow base 33 2 v n xs → ∀ k, v.ownBlock = some k → ¬ S k) (hV : ∀ v n xs, w.ownsRow base 35 2 v n xs → ∀ k, v.ownBlock = some k → ¬ S k) : ∀ {rs : List (List Value)} {ts : List Hp.Th}, RTs w base F rs ts → RTs w' base F rs ts
  | [], [], _ => trivial
  | _ :: _, _ :: _, h => ⟨h.1.chg2 hc hT hV, h.2.chg2 hc hT hV⟩
  | [], _ :: _, h => h.elim
  | _ :: _, [], h => h.elim
theorem RTs.snoc {w : World} {base : Nat} {F : Nat → Prop} {r : List Value} {t : Hp.Th} (hr : RT w base F r t) : ∀ {rs : List (List Value)} {ts : List Hp.Th}, RTs w base F rs ts → RTs w base F (rs ++ [r]) (ts ++ [t])
  | [], [], _ => ⟨hr, trivial⟩
  | _ :: _, _ :: _, h => ⟨h.1, h.2.snoc hr⟩
  | [], _ :: _, h => h.elim
  | _ :: _, [], h => h.elim
/-- One thing more: the list has grown, and the heap names it. -/
theorem RefR.push {w w1 : World} {base : Nat} {F : Nat → Prop} {rb : Nat} {s : Hp.Hs} {rv rv' : Value} {rs : List (List Value)} {cs : List Value} {t : Hp.Th} (h : RefR w base F rb s rv rs) (hF : ∀ i, F i → i < w.heap.size) (hr : RT w base F cs t)
    (hg : w.grownBy w1 rv.ownBlock) (ho : w1.ownsRow base 85 6 rv' (s.l.length + 1) (rs.flatten ++ cs)) (hk : rv'.ownBlock = rv.ownBlock ∨ rv'.ownBlock = some w.heap.size) :
    RWent w (w1.setCell ⟨rb, 1, none⟩ rv') base F rb rv rv' { s with l := s.l ++ [t] } := by
  have hlt : rb < w.heap.size := (Array.getElem?_eq_some_iff.1 h.box).1
  have hne : rv.ownBlock ≠ some rb := own_unlike_box h.row h.box (by decide)
  have hc1 : Chg (fun i => rv.ownBlock = some i) w w1 := Chg.of_grown hg (fun _ e => e)
  have hc : Chg (fun i => i = rb ∨ rv.ownBlock = some i) w (w1.setCell ⟨rb, 1, none⟩ rv') := (hc1.mono (fun _ _ e => .inr e)).set (p := ⟨rb, 1, none⟩) (.inl (.inl rfl)) rv'
  have hT : ∀ v n xs, w.ownsRow base 33 2 v n xs → ∀ k, v.ownBlock = some k → ¬ (k = rb ∨ rv.ownBlock = some k) := by
    rintro v n xs hx k hk (rfl | e)
    · exact own_unlike_box hx h.box (by decide) hk
    · exact own_unlike hx h.row (by decide) k hk e
  have hV : ∀ v n xs, w.ownsRow base 35 2 v n xs → ∀ k, v.ownBlock = some k → ¬ (k = rb ∨ rv.ownBlock = some k) := by
    rintro v n xs hx k hk (rfl | e)
    · exact own_unlike_box hx h.box (by decide) hk
    · exact own_unlike hx h.row (by decide) k hk e
  have hb1 : w1.heap[rb]? = some (.cells #[.int .i64 s.lim, rv] 82 (0, 0)) := (hc1.block rb hlt hne).trans h.box
  have hown : ∀ k, rv'.ownBlock = some k → rv.ownBlock = some k ∨ w.heap.size ≤ k := fun k e => by
    rcases hk with e1 | e1
    · exact .inl (e1 ▸ e)
    · rw [e1] at e
      exact .inr (Nat.le_of_eq (Option.some.inj e))
  refine ⟨⟨rs ++ [cs], ?_⟩, hc, hown⟩
  refine ⟨box_set hb1 1 rv', ?_, (h.th.chg2 hc hT hV).snoc (hr.chg2 hc hT hV), fun k e hf => ?_, h.offb, h.lb⟩
  · have e : (rs ++ [cs]).flatten = rs.flatten ++ cs := by simp
    show World.ownsRow _ base _ 6 rv' (s.l ++ [t]).length _
    rw [e, List.length_append]
    refine owns_chg ho ((Chg.refl (fun i => i = rb) w1).set (p := ⟨rb, 1, none⟩) (.inl rfl) rv') (fun k e1 e2 => ?_)
    subst e2
    rcases hown _ e1 with e3 | e3
    · exact hne e3
    · omega
  · rcases hown k e with e1 | e1
    · exact h.off k e1 hf
    · have := hF k hf
      omega
/-- A thing whose cells are being filled: it lies in a box, and its cells in a row behind. -/
structure Fill (w : World) (bt : Nat) (c0 c1 c2 c3 c4 : Value) (zs : List Hp.Vl) (cv : Value) (wr : World) : Prop where
  below : Below w.heap.size w wr
  low : w.heap.size ≤ bt
  box : BX wr bt #[c0, c1, c2, c3, c4, cv] 85
  row : wr.ownsRow (bt + 1) 35 2 cv zs.length (zs.flatMap vL)
section
variable {w wr w1 : World} {bt : Nat} {c0 c1 c2 c3 c4 cv v1 : Value} {zs : List Hp.Vl}
theorem Fill.next (h : Fill w bt c0 c1 c2 c3 c4 zs cv wr) (k : Below wr.heap.size wr w1) : Fill w bt c0 c1 c2 c3 c4 zs cv w1 :=
  ⟨belows h.below k h.below.size, h.low, h.box.below k, Kit.owns_below h.row k (Nat.le_refl _)⟩
theorem Fill.push (h : Fill w bt c0 c1 c2 c3 c4 zs cv wr) (z : Hp.Vl) (hg : wr.grownBy w1 cv.ownBlock) (ho : w1.ownsRow (bt + 1) 35 2 v1 (zs.length + 1) (zs.flatMap vL ++ vL z)) :
    Fill w bt c0 c1 c2 c3 c4 (zs ++ [z]) v1 (w1.setCell ⟨bt, 5, none⟩ v1) ∧ Chg (fun i => bt ≤ i) wr (w1.setCell ⟨bt, 5, none⟩ v1) := by
  have hc1 : Chg (fun i => cv.ownBlock = some i) wr w1 := Chg.of_grown hg (fun _ e => e)
  have hlow := fun i (e : cv.ownBlock = some i) => Kit.own_base h.row i e
  have hs := h.low
  have hne : ¬ cv.ownBlock = some bt := fun e => by have := hlow _ e; omega
  have hlen : (zs ++ [z]).length = zs.length + 1 := by simp
  have hfl : (zs ++ [z]).flatMap vL = zs.flatMap vL ++ vL z := by simp
  refine ⟨⟨(Kit.below_grown h.below hg h.below.size (fun k e => by have := hlow k e; omega)).setCell (p := ⟨bt, 5, none⟩) hs _, hs, box_set (h.box.chg hc1 hne) 5 v1, ?_⟩, ?_⟩
  · rw [hlen, hfl]
    refine owns_chg ho ((Chg.refl (fun i => i = bt) w1).set (p := ⟨bt, 5, none⟩) (.inl rfl) v1) (fun k e1 e2 => ?_)
    have := Kit.own_base ho k e1
    omega
  · exact (hc1.mono (T := fun i => bt ≤ i) (fun i _ e => Nat.le_trans (Nat.le_succ bt) (hlow i e))).set (p := ⟨bt, 5, none⟩) (.inl (Nat.le_refl _)) v1
end
theorem news_list (w : World) (l : List Value) (t : TypeId) : ∀ j u, l[j]? = some u → (w.alloc (.cells l.toArray t)).cell? ((⟨w.heap.size, 0, none⟩ : Addr).add j) = some u := by
  intro j u hj
  rw [Go.WideShapes.add_plain, Nat.zero_add]
  have := (BX.new w l.toArray t).cell j
  rw [this]
  simpa using hj
theorem infoTh : (Try.prog.info? 85).map (fun i => (i.zero, i.size, i.bytes)) = some (some (.agg #[.bool false, .int .i64 0, .int .i64 0, .string ⟨#[]⟩, .slice none 0 0, .slice none 0 0]), 6, 88) := by kernel_rfl
end Go.Proofs.Ythembnakeikmeaa
namespace Go.Proofs.Ythembnakeikmeaa
open Go Go.RowKit

def ROut (base : Nat) (F : Nat → Prop) (rb : Nat) (rv : Value) (o : Hp.Hs × Int × Int) (w : World) (e : Ending) (w' : World) : Prop :=
  ∃ rv', e = .returned (.tuple #[.int .i64 o.2.1, .int .i64 o.2.2]) ∧ RWent w w' base F rb rv rv' o.1
theorem RefR.pushB {w X w1 : World} {base : Nat} {F : Nat → Prop} {rb : Nat} {s : Hp.Hs} {rv rv' : Value} {rs : List (List Value)} {cs : List Value} {t : Hp.Th} (h : RefR w base F rb s rv rs) (b : Below w.heap.size w X) (hF : ∀ i, F i → i < w.heap.size) (hr : RT w base F cs t)
    (hg : X.grownBy w1 rv.ownBlock) (ho : w1.ownsRow base 85 6 rv' (s.l.length + 1) (rs.flatten ++ cs)) (hk : rv'.ownBlock = rv.ownBlock ∨ rv'.ownBlock = some X.heap.size) :
    RWent w (w1.setCell ⟨rb, 1, none⟩ rv') base F rb rv rv' { s with l := s.l ++ [t] } ∧ w1.cell? ⟨rb, 1, none⟩ = some rv ∧ w1.frozen? ⟨rb, 1, none⟩ = false := by
  have hX := h.below b
  have hlt : rb < X.heap.size := (Array.getElem?_eq_some_iff.1 hX.box).1
  have hne : rv.ownBlock ≠ some rb := own_unlike_box hX.row hX.box (by decide)
  have hb1 : w1.heap[rb]? = some (.cells #[.int .i64 s.lim, rv] 82 (0, 0)) := ((Chg.of_grown (S := fun i => rv.ownBlock = some i) hg (fun _ e => e)).block rb hlt hne).trans hX.box
  refine ⟨RWent.start b (hX.push (fun i hi => Nat.lt_of_lt_of_le (hF i hi) b.size) (hr.chg (S := fun _ => False) (Chg.of_below b) (fun _ _ e => e.elim) (fun _ _ e => e)) hg ho hk), ?_, ?_⟩
  · simp [World.cell?, hb1]
  · simp [World.frozen?, hb1]
theorem ones6 {b : Bool} {i j : Int} {st : ByteArray} {a a' : Option Addr} {n n' c c' : Nat} : ∀ u ∈ [Value.bool b, .int .i64 i, .int .i64 j, .string st, .slice a n c, .slice a' n' c'], u.oneCell' = true := by
  intro u hu
  simp only [List.mem_cons, List.not_mem_nil, or_false] at hu
  rcases hu with rfl | rfl | rfl | rfl | rfl | rfl <;> rfl
theorem onesZ (z : Hp.Vl) : ∀ u ∈ [Value.int .i64 z.k, .int .i64 z.n], u.oneCell' = true := by
  intro u hu
  simp only [List.mem_cons, List.not_mem_nil, or_false] at hu
  rcases hu with rfl | rfl <;> rfl
set_option maxRecDepth 100000 in
set_option maxHeartbeats 2000000 in
theorem rarray_any {w : World} {base : Nat} {F : Nat → Prop} {rb : Nat} {s : Hp.Hs} {rv : Value} {rs : List (List Value)} (h : RefR w base F rb s rv rs) (ok : s.Ok) (hF : ∀ i, F i → i < w.heap.size) (t : Hp.Ty) (n : Int) (hn : -9223372036854775808 ≤ n ∧ n ≤ 9223372036854775807) :
    Calls Try.prog 28 #[.pointer (some ⟨rb, 0, none⟩), tA t, .int .i64 n] w (ROut base F rb rv (s.arr t n) w) := by
  obtain ⟨o, ho⟩ : ∃ o, o = s.arr t n := ⟨_, rfl⟩
  rw [← ho]
  unfold Hp.Hs.arr at ho
  unfold ROut
  have hl := l_small ok
  have hbase : base ≤ w.heap.size := by have := h.lb; have := (ref_box h).2.2; omega
  have HZ0 := fun W => rzero_any t W
  have HRw := hid (fun X (b : Below w.heap.size w X) => RWent.start b (RWent.refl (h.below b)))
  have HU := hid (fun (W : World) (b : Below w.heap.size w W) d os => Calls.regrown_of (d := d) (os := os) (w := W) (rused_any ((h.below b).below (below_regrown W d os)) ok))
  obtain ⟨x0, x1, hb⟩ := ref_box h
  have hus := ok.used
  have hlm := ok.lim
  cases hz : zeroOf t with
  | none =>
    rw [hz] at ho HZ0
    dsimp only at ho
    have HO := hid ho
    obtain ⟨tk, ts⟩ := t
    unfold tA zV at *
    dsimp only [Option.getD_none, Option.isSome_none, Hp.V0, vA] at HZ0
    have HZ := hid HZ0
    clear ho hz HZ0 h ok hF HU
    go_enter Try.func28, Try.ntmps28
    go_wp2_with fail
    refine (HZ.out _).mono ?_
    rintro e w3 ⟨rfl, hb3⟩
    have hB3 := belows (B := w.heap.size) (a := w) (by repeat' first | with_reducible exact Below.refl _ _ | with_reducible assumption | with_reducible refine belows_drewN ?_ _ | with_reducible refine Below.drew ?_ | with_reducible refine Below.setCell ?_ ?_ _ | with_reducible refine Below.alloc ?_ ?_ _ | omega | (simp; done) | (simp; omega)) hb3 (by simp)
    have hz3 := hB3.size
    go_wp2
    go_ret2
    exact ⟨rv, by rw [HO.out]; rfl, by rw [HO.out]; exact HRw.out _ (by repeat' first | with_reducible exact Below.refl _ _ | with_reducible assumption | with_reducible refine belows_drewN ?_ _ | with_reducible refine Below.drew ?_ | with_reducible refine Below.setCell ?_ ?_ _ | with_reducible refine Below.alloc ?_ ?_ _ | omega | (simp; done) | (simp; omega))⟩
  | some z =>
    rw [hz] at ho HZ0
    dsimp only at ho
    have HRef := hid (fun X (b : Below w.heap.size w X) => h.below b)
    have HFF := hid hF
    have HOk := hid ok
    obtain ⟨ra, rc, hrv⟩ := own_form h.row
    have HRv := hid hrv
    obtain ⟨tk, ts⟩ := t
    unfold tA zV at *
    dsimp only [Option.getD_some, Option.isSome_some, vA] at HZ0
    have HZ := hid HZ0
    clear hz HZ0 h ok hF hrv
    by_cases h1 : n < 0
    · rw [if_pos h1] at ho
      have HO := hid ho
      have hd : decide (n < 0) = true := by simpa using h1
      clear ho HU HRef
      go_enter Try.func28, Try.ntmps28
      go_wp2_with fail
      refine (HZ.out _).mono ?_
      rintro e w3 ⟨rfl, hb3⟩
      have hB3 := belows (B := w.heap.size) (a := w) (by repeat' first | with_reducible exact Below.refl _ _ | with_reducible assumption | with_reducible refine belows_drewN ?_ _ | with_reducible refine Below.drew ?_ | with_reducible refine Below.setCell ?_ ?_ _ | with_reducible refine Below.alloc ?_ ?_ _ | omega | (simp; done) | (simp; omega)) hb3 (by simp)
      have hz3 := hB3.size
      go_wp2
      go_ret2
      exact ⟨rv, by rw [HO.out]; rfl, by rw [HO.out]; exact HRw.out _ (by repeat' first | with_reducible exact Below.refl _ _ | with_reducible assumption | with_reducible refine belows_drewN ?_ _ | with_reducible refine Below.drew ?_ | with_reducible refine Below.setCell ?_ ?_ _ | with_reducible refine Below.alloc ?_ ?_ _ | omega | (simp; done) | (simp; omega))⟩
    · rw [if_neg h1] at ho
      have hd : decide (n < 0) = false := by simpa using h1
      have ARZ := hid (fun (w3 : World) (hb3 : Below (w.alloc (.cells #[.int .i64 tk, .string ts] 33)).heap.size (w.alloc (.cells #[.int .i64 tk, .string ts] 33)) w3) => by
        have bt := (BX.new w #[.int .i64 tk, .string ts] 33).below hb3
        have hB3 := belows (B := w.heap.size) (a := w) ((Below.refl _ _).alloc (Nat.le_refl _) _) hb3 (by simp)
        have ha := (Below.refl _ w3).alloc (Nat.le_refl _) (.cells #[.int .i64 z.k, .int .i64 z.n] 35)
        exact And.intro (belows hB3 ha hB3.size) (And.intro (bt.below ha) (And.intro (BX.new w3 #[.int .i64 z.k, .int .i64 z.n] 35) (And.intro hB3 bt.sz))))
      by_cases h2 : 65536 < n ∨ ¬ (n < (s.lim : Int) - s.used)
      · rw [if_pos h2] at ho
        have HO := hid ho
        have hcs : (decide (65536 < n) = true) ∨ (decide (65536 < n) = false ∧ decide ((s.lim : Int) - s.used ≤ n) = true) := by
          by_cases e : 65536 < n
          · exact .inl (by simpa using e)
          · refine .inr ⟨by simpa using e, ?_⟩
            rcases h2 with h2 | h2
            · exact absurd h2 e
            · simp only [decide_eq_true_eq]; omega
        clear ho h2 HRef
        rcases hcs with hd2 | ⟨hd2, hd3⟩
        all_goals
          go_enter Try.func28, Try.ntmps28
          go_wp2_with fail
          refine (HZ.out _).mono ?_
          rintro e w3 ⟨rfl, hb3⟩
          obtain ⟨BW, -, -, hB3, -⟩ := ARZ.out w3 hb3
          obtain ⟨W, hW⟩ : ∃ W, W = w3.alloc (.cells #[.int .i64 z.k, .int .i64 z.n] 35) := ⟨_, rfl⟩
          rw [← hW] at BW
          have hz3 := hB3.size
          clear hb3 hB3
          go_wp2_with fail
          rw [← hW]
          clear hW
          have HUU := hid (HU.out W BW)
          have yx := (BW.cell (p := ⟨rb, 0, none⟩) hb).trans x0
          have q0 := fun d os => cell_regrown yx d os
          clear yx
          refine wp_region_quiet_below (by kernel_rfl) (by kernel_rfl) ?_
          (iterate 13 (go_big_quiet_step (exact HUU.out _ _)))
          refine wpQuiet_nil ?_
          intro W2 hw'
          obtain ⟨⟨dq, osq⟩, hw''⟩ := hw'
          have hbq := below_regrown W dq osq
          rw [← hw''] at hbq
          clear hw''
          have B2 := belows BW hbq BW.size
          go_wp2
          go_ret2
          exact ⟨rv, by rw [HO.out]; rfl, by rw [HO.out]; exact HRw.out _ B2⟩
      · rw [if_neg h2] at ho
        have HO := hid ho
        have hd2 : decide (65536 < n) = false := by (have : ¬ 65536 < n := fun e => h2 (.inl e)); simpa using this
        have hlt : n < (s.lim : Int) - s.used := Classical.byContradiction fun e => h2 (.inr e)
        have hd3 : decide ((s.lim : Int) - s.used ≤ n) = false := by simp only [decide_eq_false_iff_not]; omega
        obtain ⟨m, rfl⟩ : ∃ m : Nat, n = m := ⟨n.toNat, by omega⟩
        have hm : m ≤ 65536 := by (have : ¬ 65536 < (m : Int) := by simpa using hd2); omega
        obtain ⟨i0, hi, hz0, hz1, hz2⟩ := info_parts infoV
        obtain ⟨i9, hi9, hz09, hz19, hz29⟩ := info_parts infoTh
        have HLm := hid hlm
        have HUs := hid hus
        have HNo := hid hl
        clear ho h2 hlt
        go_enter Try.func28, Try.ntmps28
        go_wp2_with fail
        refine (HZ.out _).mono ?_
        rintro e w3 ⟨rfl, hb3⟩
        obtain ⟨BW, bt1, bz1, hB3, hsz⟩ := ARZ.out w3 hb3
        obtain ⟨W, hW⟩ : ∃ W, W = w3.alloc (.cells #[.int .i64 z.k, .int .i64 z.n] 35) := ⟨_, rfl⟩
        rw [← hW] at BW bt1 bz1
        obtain ⟨zb, hzb⟩ : ∃ zb, zb = w3.heap.size := ⟨_, rfl⟩
        rw [← hzb] at bz1
        have hz3 := hB3.size
        rw [← hzb] at hz3
        clear hb3 hB3 hsz
        go_wp2_with fail
        rw [← hW, ← hzb]
        clear hW hzb
        have HUU := hid (HU.out W BW)
        have yx := (BW.cell (p := ⟨rb, 0, none⟩) hb).trans x0
        have q0 := fun d os => cell_regrown yx d os
        clear yx
        refine wp_region_quiet_below (by kernel_rfl) (by kernel_rfl) ?_
        (iterate 13 (go_big_quiet_step (exact HUU.out _ _)))
        refine wpQuiet_nil ?_
        intro W2 hw'
        obtain ⟨⟨dq, osq⟩, hw''⟩ := hw'
        have hbq := below_regrown W dq osq
        rw [← hw''] at hbq
        clear hw'' HUU q0
        have B2 := belows BW hbq BW.size
        have b1 := bt1.below hbq
        have b2 := bz1.below hbq
        have t0 := b1.cell 0
        have t1 := b1.cell 1
        have hzl := b2.sz
        simp at t0 t1
        obtain ⟨W3, hW3⟩ : ∃ W3, W3 = W2.alloc (.cells #[.bool true, .int .i64 0, .int .i64 tk, .string ts, .slice none 0 0, .slice none 0 0] 85) := ⟨_, rfl⟩
        have B3 : Below w.heap.size w W3 := by rw [hW3]; exact B2.alloc B2.size _
        have b3 : BX W3 zb #[.int .i64 z.k, .int .i64 z.n] 35 := by rw [hW3]; exact b2.below ((Below.refl _ _).alloc (Nat.le_refl _) _)
        have F3 : Fill w W2.heap.size (.bool true) (.int .i64 0) (.int .i64 tk) (.string ts) (.slice none 0 0) (List.replicate 0 z) (.slice none 0 0) W3 := by
          refine ⟨B3, B2.size, by rw [hW3]; exact BX.new W2 _ _, ⟨rfl, .inl ⟨rfl, rfl⟩⟩⟩
        obtain ⟨tb, htb⟩ : ∃ tb, tb = W2.heap.size := ⟨_, rfl⟩
        rw [← htb] at F3 hzl
        have HF3 := hid F3
        have HB3 := hid b3
        clear BW bt1 bz1 hbq b1 b2 B3 b3 F3 B2
        go_wp2_with fail
        rw [← hW3, ← htb]
        clear hW3 htb t0 t1
        go_loopw [11] (fun i wr => ∃ j : Nat, j ≤ m ∧ i = .int .i64 j ∧ ∃ cv, Hid (Fill w tb (.bool true) (.int .i64 0) (.int .i64 tk) (.string ts) (.slice none 0 0) (List.replicate j z) cv wr) ∧ Hid (BX wr zb #[.int .i64 z.k, .int .i64 z.n] 35)) (fun i _ => m - (intOf i).toNat)
        case atStart => exact ⟨0, by omega, rfl, _, HF3, HB3⟩
        case round =>
          obtain ⟨j, hj, rfl, cv, HFl, HBz⟩ := hrel
          clear HF3 HB3
          have f5 := HFl.out.box.cell 5
          have z0 := HBz.out.cell 0
          have z1 := HBz.out.cell 1
          simp at f5 z0 z1
          have hts := HFl.out.box.sz
          obtain ⟨ca, cc, hcv⟩ := own_form HFl.out.row
          rw [List.length_replicate] at hcv
          subst hcv
          by_cases hlt : j < m
          · have i1 : (j : Int) < (m : Int) := by omega
            have HA := hid (HFl.out.next ((Below.refl _ wr).alloc (Nat.le_refl _) (.cells #[.int .i64 z.k, .int .i64 z.n] 35)))
            have HRow : Hid ((wr.alloc (.cells #[.int .i64 z.k, .int .i64 z.n] 35)).ownsRow (tb + 1) 35 2 (.slice ca j cc) j ((List.replicate j z).flatMap vL)) := by
              have := HA.out.row
              rw [List.length_replicate] at this
              exact this
            clear HZ ARZ HU HRef
            go_wp2_with (at_builtin; refine wpList_append_own_at _ rfl (.tmp 42) (.tmp 44) 75 rfl (tb + 1) 35 i0 _ 2 16 Try.underlying75 hi hz0 hz1 hz2 rfl (by decide) (.slice ca j cc) j ((List.replicate j z).flatMap vL) rfl HRow.out ⟨wr.heap.size, 0, none⟩ 1 1 [.int .i64 z.k, .int .i64 z.n] rfl rfl (news_list wr [.int .i64 z.k, .int .i64 z.n] _) (onesZ z) (by unfold maxLen; omega) (by omega) (by simp only [World.size_alloc]; omega) ?_; intro v1 w1 ho1 hg1 _ hk1; have hp := HA.out.push z hg1 (by rw [List.length_replicate]; exact ho1); have c1 := (Chg.of_grown (S := fun i => (Value.slice ca j cc).ownBlock = some i) hg1 (fun _ e => e)); have bb := HA.out.box.chg c1 (own_unlike_box HA.out.row HA.out.box (by decide)); have g5 := bb.cell 5; have g6 := bb.frozen 5; simp at g5; obtain ⟨va, vc, rfl⟩ := own_form ho1; have HP := hid hp.1; have HZ2 := hid ((HBz.out.below ((Below.refl _ wr).alloc (Nat.le_refl _) (.cells #[.int .i64 z.k, .int .i64 z.n] 35))).chg hp.2 (by omega)); clear hp ho1 hg1 hk1 c1 bb)
            go_roundw
            case rel => exact ⟨j + 1, by omega, by go_num, _, hid (by have := HP.out; rw [← List.replicate_succ'] at this; exact this), HZ2⟩
            case measure => simp [intOf]; omega
          · obtain rfl : j = m := by omega
            have i1 : ¬ ((j : Int) < (j : Int)) := by omega
            have HB := hid HFl.out.below
            have HT : Hid (RT wr base F [.bool true, .int .i64 0, .int .i64 tk, .string ts, .slice none 0 0, .slice ca j cc] ⟨-1, [⟨tk, ts⟩], List.replicate j z⟩) := by
              refine ⟨.slice none 0 0, .slice ca j cc, rfl, .inl ⟨rfl, rfl⟩, own_mono HFl.out.row (by have := HFl.out.low; omega), fun k e => by simp [Value.ownBlock] at e, fun k e hf => ?_⟩
              have e1 := Kit.own_base HFl.out.row k e
              have e2 := HFF.out k hf
              have e3 := HFl.out.low
              omega
            have f0 := HFl.out.box.cell 0
            have f1 := HFl.out.box.cell 1
            have f2 := HFl.out.box.cell 2
            have f3 := HFl.out.box.cell 3
            have f4 := HFl.out.box.cell 4
            simp at f0 f1 f2 f3 f4
            have HR := hid (HRef.out wr HB.out)
            have HOwn := hid (fun X (k : Below wr.heap.size wr X) => Kit.owns_below HR.out.row k (Nat.le_refl _))
            rw [HRv.out] at HOwn
            have y1 := (HB.out.cell (p := ⟨rb, 1, none⟩) hb).trans x1
            rw [HRv.out] at y1
            have hbl := Nat.lt_of_lt_of_le hb HB.out.size
            have hbs : base ≤ wr.heap.size := Nat.le_trans hbase HB.out.size
            have HFw := hid (fun i (hi : F i) => Nat.lt_of_lt_of_le (HFF.out i hi) HB.out.size)
            clear HZ ARZ HU HRef HFl HBz z0 z1 x0 x1
            go_wp2_with fail
            go_region_law (refine Kit.step_append_own rfl (.tmp 51) (.tmp 53) 80 rfl base 85 i9 _ 6 88 Try.underlying80 hi9 hz09 hz19 hz29 rfl (by decide) _ s.l.length rs.flatten rfl (HOwn.out _ (by repeat' first | with_reducible exact Below.refl _ _ | with_reducible assumption | with_reducible refine belows_drewN ?_ _ | with_reducible refine Below.drew ?_ | with_reducible refine Below.setCell ?_ ?_ _ | with_reducible refine Below.alloc ?_ ?_ _ | omega | (simp; done) | (simp; omega))) ⟨wr.heap.size, 0, none⟩ 1 1 [.bool true, .int .i64 0, .int .i64 tk, .string ts, .slice none 0 0, .slice ca j cc] rfl rfl (by intro j u hj; exact news_list wr _ _ j u hj) ones6 (by unfold maxLen; omega) (by omega) (by first | omega | (simp; omega)) ?_; intro v2 w2 ho2 hg2 hk2; rw [← HRv.out] at hg2 hk2; obtain ⟨wt, e1, e2⟩ := HR.out.pushB (X := _) (by repeat' first | with_reducible exact Below.refl _ _ | with_reducible assumption | with_reducible refine belows_drewN ?_ _ | with_reducible refine Below.drew ?_ | with_reducible refine Below.setCell ?_ ?_ _ | with_reducible refine Below.alloc ?_ ?_ _ | omega | (simp; done) | (simp; omega)) HFw.out HT.out hg2 ho2 hk2; rw [HRv.out] at e1; obtain ⟨vb, vq, rfl⟩ := own_form ho2; have WT := hid wt; clear ho2 hg2 hk2 wt)
            all_goals
              obtain ⟨X, hX⟩ : ∃ X, X = w2.setCell ⟨rb, 1, none⟩ (.slice vb (s.l.length + 1) vq) := ⟨_, rfl⟩
              rw [← hX] at WT ⊢
              clear hX e1 e2 y1
              obtain ⟨rs', hR'⟩ := WT.out.rep
              obtain ⟨-, y1, -⟩ := ref_box hR'
              clear hR'
              go_wp2
              go_ret2
              exact ⟨_, by rw [HO.out]; simp, by rw [HO.out]; simpa using RWent.start HB.out WT.out⟩
end Go.Proofs.Ythembnakeikmeaa

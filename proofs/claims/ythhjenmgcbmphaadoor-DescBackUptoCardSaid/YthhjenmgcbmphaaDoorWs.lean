/- Contracts of whole at signature. -/
import Derived.Test.YthhjenmgcbmphaaDoorWh
namespace Go.Proofs.YthhjenmgcbmphaaDoor
open Go.RowKit

set_option maxRecDepth 100000 in
theorem catchS_panicking (p : Addr) (x : Value) (older : List PanicEntry) (w : World) (hc : w.cell? p = some x) (hz : w.frozen? p = false) :
    CallsD Tryd.prog 37 #[.pointer (some p)] (.panicking ({ v := .iface 24 (.int .i64 20), recovered := false } :: older)) w fun e u' w' =>
      e = .returned (.tuple #[]) ∧ u' = .panicking ({ v := .iface 24 (.int .i64 20), recovered := true } :: older) ∧ w' = w.setCell p (.int .i64 20) := by
  refine callsD_of_wpS Tryd.func37 rfl fun c₀ cs hu => ?_
  apply wpS_seq
  apply wpS_region
  simp [wpOpsS, go_sem, recoverD, hu, Tryd.ntmps37, Exit.thenS]
  have q1 := A.eqBad
  refine wpS_of_wp ?_
  go_wp2
  simp [bodyPostS, results, Tryd.results37]
set_option maxRecDepth 100000 in
theorem catchS_idle (p : Addr) (w : World) :
    CallsD Tryd.prog 37 #[.pointer (some p)] .returning w fun e u' w' => e = .returned (.tuple #[]) ∧ u' = .returning ∧ w = w' := by
  refine callsD_of_wpS Tryd.func37 rfl fun c₀ cs hu => ?_
  apply wpS_seq
  apply wpS_region
  simp [wpOpsS, go_sem, recoverD, hu, Tryd.ntmps37, Exit.thenS]
  have q2 := A.eqNone
  have q3 := A.neNone
  refine wpS_of_wp ?_
  go_wp2
  cases c₀
  simp_all [bodyPostS, results, Tryd.results37]
theorem MB.below {w w' : World} {B n : Nat} {v : Value} {k : Int} {m : ByteArray} (h : MB w B v k m) (hb : Below n w w') (hn : B < n) : MB w' B v k m := (hb.block B hn).trans h
/-- The two results' boxes, behind kinds and the reader's own box. -/
theorem boxesS (w w1 : World) (h : Below (w.heap.size + 1 + 1) ((w.alloc (.cells #[.slice none 0 0, .int .i64 0, .string ⟨#[]⟩] 49)).alloc (.cells #[.int .i64 0] 24)) w1) (o : Obj) :
    MB (w1.alloc o) w.heap.size (.slice none 0 0) 0 ⟨#[]⟩ ∧ EB (w1.alloc o) (w.heap.size + 1) 0 ∧ Below w.heap.size w (w1.alloc o) ∧ w.heap.size + 2 ≤ w1.heap.size := by
  have hz := h.size
  simp only [World.size_alloc] at hz
  have e1 := EB.new (w.alloc (.cells #[.slice none 0 0, .int .i64 0, .string ⟨#[]⟩] 49)) 0
  rw [World.size_alloc] at e1
  have ha := (Below.refl w1.heap.size w1).alloc (Nat.le_refl _) o
  refine ⟨?_, ?_, ?_, by omega⟩
  · exact (((show MB _ _ _ _ _ from World.alloc_heap_new w _).below (n := w.heap.size + 1) ((Below.refl _ _).alloc (by simp) _) (by omega)).below h (by omega)).below ha (by omega)
  · exact (e1.below h (by omega)).below ha (by omega)
  · exact (belows (b := (w.alloc (.cells #[.slice none 0 0, .int .i64 0, .string ⟨#[]⟩] 49)).alloc (.cells #[.int .i64 0] 24)) (by repeat' first | with_reducible exact Below.refl _ _ | with_reducible assumption | with_reducible refine belows_drewN ?_ _ | with_reducible refine Below.drew ?_ | with_reducible refine Below.setCell ?_ ?_ _ | with_reducible refine Below.alloc ?_ ?_ _ | omega | (simp; done) | (simp; omega)) (h.mono (by simp only [World.size_alloc]; omega)) (by simp only [World.size_alloc]; omega)).alloc (by omega) _
def methodFn : Value := .func (.func 25) #[] #[]
set_option maxRecDepth 100000 in
set_option maxHeartbeats 400000 in
theorem wholeS_long (s : ByteArray) (w : World) (hs : 255 < s.size) :
    Calls Tryd.prog 24 #[.string s, methodFn] w fun e w' => e = .returned (.tuple #[.agg #[.slice none 0 0, .int .i64 0, .string ⟨#[]⟩], .int .i64 3]) ∧ Below w.heap.size w w' := by
  unfold methodFn
  have hd : decide (255 < (s.size : Int)) = true := by simp; omega
  go_enter_defers Tryd.func24, Tryd.ntmps24
  go_wp2
  exact ⟨_, by simp [results, Tryd.results24, go_sem], rfl, (by repeat' first | with_reducible exact Below.refl _ _ | with_reducible assumption | with_reducible refine belows_drewN ?_ _ | with_reducible refine Below.drew ?_ | with_reducible refine Below.setCell ?_ ?_ _ | with_reducible refine Below.alloc ?_ ?_ _ | omega | (simp; done) | (simp; omega))⟩
set_option maxRecDepth 100000 in
set_option maxHeartbeats 400000 in
theorem wholeS_ok (s : ByteArray) (xs : List Ds.Ty) (k : Int) (m : List UInt8) (w : World) (hs : s.size ≤ 255) (h : Ds.md (Ds.bl s) = some (xs, (k, m), [])) :
    Calls Tryd.prog 24 #[.string s, methodFn] w fun e w' => ∃ v, e = .returned (.tuple #[.agg #[v, .int .i64 k, .string ⟨m.toArray⟩], .int .i64 0]) ∧ OwnT w' w.heap.size v xs ∧ Below w.heap.size w w' := by
  unfold methodFn
  have hd : decide (255 < (s.size : Int)) = false := by simp; omega
  have HF0 : ∀ (pb mb : Nat) (W : World), Rd W pb mb s → Calls Tryd.prog 25 #[.pointer (some ⟨pb, 0, none⟩)] W fun e w' => ∃ sa sc, e = .returned (.agg #[.slice sa xs.length sc, .int .i64 k, .string ⟨m.toArray⟩]) ∧ OwnT w' W.heap.size (.slice sa xs.length sc) xs ∧ Step pb mb ⟨#[]⟩ W w' := by
    intro pb mb W hW
    have := method_rd pb mb s W hW hs
    unfold MethodPost at this
    rw [h] at this
    refine this.mono ?_
    rintro e w' ⟨v, q, rfl, ho, hq, hst⟩
    obtain ⟨sa, sc, rfl⟩ := own_form ho
    have hq2 : q = ⟨#[]⟩ := ba_ext hq
    rw [hq2] at hst
    exact ⟨sa, sc, rfl, ho, hst⟩
  have HF := hid HF0
  have hmf := A.mkF
  clear HF0 h
  go_enter_defers Tryd.func24, Tryd.ntmps24
  go_wp2_with (first
    | (go_at_call 33; refine (kinds_any _).mono ?_; rintro e w1 ⟨rfl, hk1, hb1, hz1⟩; simp only [World.size_alloc] at hk1 hb1 hz1; have HK1 := hid hk1; have HB1 := hid hb1; clear hk1 hb1)
    | (go_at_call 25; refine (HF.out w1.heap.size (w.heap.size + 1 + 1) _ (rd_new s HK1.out hz1)).mono ?_; rintro e w2 ⟨sa, sc, rfl, ho2, hg2, hr2⟩; have HO2 := hid ho2; have HBx := hid (boxesS w w1 HB1.out (.cells #[.string s, .map (some (w.heap.size + 1 + 1))] 61)); have hz2 := HBx.out.2.2.2; have HRB := hid (HBx.out.1.grown hg2 (by simp; omega)); have HEB := hid (HBx.out.2.1.grown hg2 (by simp; omega)); have HW2 := hid (Below.grown HBx.out.2.2.1 hg2 (by simp; omega) (fun j e => by have := Option.some.inj e; omega)); obtain ⟨b0, b1, b2, f0, f1, f2⟩ := HRB.out.facts; obtain ⟨e0, e1⟩ := HEB.out.facts; have cl2 := hr2.left; have hs2 := hr2.sz; have hs3 := HEB.out.sz; have hs4 := HRB.out.sz; clear hg2 hr2 ho2))
  refine leaves_cons (f := 37) (args := #[.pointer (some ⟨w.heap.size + 1, 0, none⟩)]) (by simp) (by simp [go_sem]) ?_
  refine (catchS_idle ⟨w.heap.size + 1, 0, none⟩ _).mono ?_
  rintro e u' w'' ⟨rfl, rfl, rfl⟩
  refine ⟨.tuple #[.agg #[.slice sa xs.length sc, .int .i64 k, .string ⟨m.toArray⟩], .int .i64 0], by simp [results, Tryd.results24, go_sem, b0, b1, b2, e0, hs3, hs4], _, rfl, ?_, ?_⟩
  · have ho := HO2.out
    simp only [World.size_alloc] at ho
    have h1 := Kit.owns_grown ho (set_grown w2 w.heap.size 0 (.slice sa xs.length sc)) (by omega)
    have h2 := Kit.owns_grown h1 (set_grown _ w.heap.size 1 (.int .i64 k)) (by omega)
    have h3 := Kit.owns_grown h2 (set_grown _ w.heap.size 2 (.string ⟨m.toArray⟩)) (by omega)
    have h4 := Kit.owns_grown h3 (set_grown _ (w.heap.size + 1) 0 (.int .i64 0)) (by omega)
    exact own_mono (Kit.owns_below h4 ((Below.refl _ _).alloc (Nat.le_refl _) _) (Nat.le_refl _)) (by omega)
  · have HW := HW2.out
    exact (by repeat' first | with_reducible exact Below.refl _ _ | with_reducible assumption | with_reducible refine belows_drewN ?_ _ | with_reducible refine Below.drew ?_ | with_reducible refine Below.setCell ?_ ?_ _ | with_reducible refine Below.alloc ?_ ?_ _ | omega | (simp; done) | (simp; omega))
set_option maxRecDepth 100000 in
set_option maxHeartbeats 400000 in
theorem wholeS_left (s : ByteArray) (xs : List Ds.Ty) (k : Int) (m : List UInt8) (c : UInt8) (l : List UInt8) (w : World) (hs : s.size ≤ 255) (h : Ds.md (Ds.bl s) = some (xs, (k, m), c :: l)) :
    Calls Tryd.prog 24 #[.string s, methodFn] w fun e w' => e = .returned (.tuple #[.agg #[.slice none 0 0, .int .i64 0, .string ⟨#[]⟩], .int .i64 20]) ∧ Below w.heap.size w w' := by
  unfold methodFn
  have hd : decide (255 < (s.size : Int)) = false := by simp; omega
  have HF0 : ∀ (pb mb : Nat) (W : World), Rd W pb mb s → Calls Tryd.prog 25 #[.pointer (some ⟨pb, 0, none⟩)] W fun e w' => ∃ sa sc q, e = .returned (.agg #[.slice sa xs.length sc, .int .i64 k, .string ⟨m.toArray⟩]) ∧ (q.toList.isEmpty) = false ∧ Step pb mb q W w' := by
    intro pb mb W hW
    have := method_rd pb mb s W hW hs
    unfold MethodPost at this
    rw [h] at this
    refine this.mono ?_
    rintro e w' ⟨v, q, rfl, ho, hq, hst⟩
    obtain ⟨sa, sc, rfl⟩ := own_form ho
    refine ⟨sa, sc, q, rfl, ?_, hst⟩
    rw [ByteArray.toList_eq]
    have hq' : q.data.toList = c :: l := hq
    rw [hq']; rfl
  have HF := hid HF0
  have hmf := A.mkF
  clear HF0 h
  go_enter_defers Tryd.func24, Tryd.ntmps24
  go_wp2_with (first
    | (go_at_call 33; refine (kinds_any _).mono ?_; rintro e w1 ⟨rfl, hk1, hb1, hz1⟩; simp only [World.size_alloc] at hk1 hb1 hz1; have HK1 := hid hk1; have HB1 := hid hb1; clear hk1 hb1)
    | (go_at_call 25; refine (HF.out w1.heap.size (w.heap.size + 1 + 1) _ (rd_new s HK1.out hz1)).mono ?_; rintro e w2 ⟨sa, sc, q, rfl, hq0, hg2, hr2⟩; have HBx := hid (boxesS w w1 HB1.out (.cells #[.string s, .map (some (w.heap.size + 1 + 1))] 61)); have hz2 := HBx.out.2.2.2; have HRB := hid (HBx.out.1.grown hg2 (by simp; omega)); have HEB := hid (HBx.out.2.1.grown hg2 (by simp; omega)); have HW2 := hid (Below.grown HBx.out.2.2.1 hg2 (by simp; omega) (fun j e => by have := Option.some.inj e; omega)); obtain ⟨b0, b1, b2, f0, f1, f2⟩ := HRB.out.facts; obtain ⟨e0, e1⟩ := HEB.out.facts; have cl2 := hr2.left; have hs2 := hr2.sz; have hs3 := HEB.out.sz; have hs4 := HRB.out.sz; clear hg2 hr2))
  refine leaves_cons (f := 37) (args := #[.pointer (some ⟨w.heap.size + 1, 0, none⟩)]) (by simp) (by simp [go_sem]) ?_
  refine (catchS_panicking ⟨w.heap.size + 1, 0, none⟩ (.int .i64 0) [] _ ?_ ?_).mono ?_
  · simp [go_sem, e0, hs3]
  · simp [go_sem, e1, hs3]
  rintro e u' w'' ⟨rfl, rfl, rfl⟩
  refine ⟨.tuple #[.agg #[.slice none 0 0, .int .i64 0, .string ⟨#[]⟩], .int .i64 20], by simp [results, Tryd.results24, go_sem, b0, b1, b2, e0, hs3, hs4], rfl, ?_⟩
  have HW := HW2.out
  exact (by repeat' first | with_reducible exact Below.refl _ _ | with_reducible assumption | with_reducible refine belows_drewN ?_ _ | with_reducible refine Below.drew ?_ | with_reducible refine Below.setCell ?_ ?_ _ | with_reducible refine Below.alloc ?_ ?_ _ | omega | (simp; done) | (simp; omega))
set_option maxRecDepth 100000 in
set_option maxHeartbeats 400000 in
theorem wholeS_bad (s : ByteArray) (w : World) (hs : s.size ≤ 255) (h : Ds.md (Ds.bl s) = none) :
    Calls Tryd.prog 24 #[.string s, methodFn] w fun e w' => e = .returned (.tuple #[.agg #[.slice none 0 0, .int .i64 0, .string ⟨#[]⟩], .int .i64 20]) ∧ Below w.heap.size w w' := by
  unfold methodFn
  have hd : decide (255 < (s.size : Int)) = false := by simp; omega
  have HF0 : ∀ (pb mb : Nat) (W : World), Rd W pb mb s → Calls Tryd.prog 25 #[.pointer (some ⟨pb, 0, none⟩)] W (Bad pb W) := by
    intro pb mb W hW
    have := method_rd pb mb s W hW hs
    unfold MethodPost at this
    rw [h] at this
    exact this
  unfold Bad bad at HF0
  have HF := hid HF0
  have hmf := A.mkF
  clear HF0 h
  go_enter_defers Tryd.func24, Tryd.ntmps24
  go_wp2_with (first
    | (go_at_call 33; refine (kinds_any _).mono ?_; rintro e w1 ⟨rfl, hk1, hb1, hz1⟩; simp only [World.size_alloc] at hk1 hb1 hz1; have HK1 := hid hk1; have HB1 := hid hb1; clear hk1 hb1)
    | (go_at_call 25; refine (HF.out w1.heap.size (w.heap.size + 1 + 1) _ (rd_new s HK1.out hz1)).mono ?_; rintro e w2 ⟨rfl, hg2⟩; have HBx := hid (boxesS w w1 HB1.out (.cells #[.string s, .map (some (w.heap.size + 1 + 1))] 61)); have hz2 := HBx.out.2.2.2; have HRB := hid (HBx.out.1.grown hg2 (by simp; omega)); have HEB := hid (HBx.out.2.1.grown hg2 (by simp; omega)); have HW2 := hid (Below.grown HBx.out.2.2.1 hg2 (by simp; omega) (fun j e => by have := Option.some.inj e; omega)); obtain ⟨b0, b1, b2, f0, f1, f2⟩ := HRB.out.facts; obtain ⟨e0, e1⟩ := HEB.out.facts; have hs3 := HEB.out.sz; have hs4 := HRB.out.sz; clear hg2))
  refine leaves_cons (f := 37) (args := #[.pointer (some ⟨w.heap.size + 1, 0, none⟩)]) (by simp) (by simp [go_sem]) ?_
  refine (catchS_panicking ⟨w.heap.size + 1, 0, none⟩ (.int .i64 0) [] _ ?_ ?_).mono ?_
  · exact e0
  · exact e1
  rintro e u' w'' ⟨rfl, rfl, rfl⟩
  refine ⟨.tuple #[.agg #[.slice none 0 0, .int .i64 0, .string ⟨#[]⟩], .int .i64 20], by simp [results, Tryd.results24, go_sem, b0, b1, b2, e0], rfl, ?_⟩
  have HW := HW2.out
  exact (by repeat' first | with_reducible exact Below.refl _ _ | with_reducible assumption | with_reducible refine belows_drewN ?_ _ | with_reducible refine Below.drew ?_ | with_reducible refine Below.setCell ?_ ?_ _ | with_reducible refine Below.alloc ?_ ?_ _ | omega | (simp; done) | (simp; omega))
/-- What a text is as a method's descriptor. -/
def mdOut (l : List UInt8) : List Ds.Ty × Ds.Ty × Int := if 255 < l.length then ([], (0, []), 3) else match Ds.md l with
  | some (xs, y, []) => (xs, y, 0)
  | _ => ([], (0, []), 20)
/-- What whole at signature, and Method, leave. -/
def MOut (s : ByteArray) (w : World) (v : Value) (w' : World) : Prop := OwnT w' w.heap.size v (mdOut (Ds.bl s)).1 ∧ Below w.heap.size w w'
theorem wholeS_any (s : ByteArray) (w : World) :
    Calls Tryd.prog 24 #[.string s, methodFn] w fun e w' => ∃ v, e = .returned (.tuple #[.agg #[v, .int .i64 (mdOut (Ds.bl s)).2.1.1, .string ⟨(mdOut (Ds.bl s)).2.1.2.toArray⟩], .int .i64 (mdOut (Ds.bl s)).2.2]) ∧ MOut s w v w' := by
  unfold MOut mdOut
  rw [bl_len]
  by_cases hs : 255 < s.size
  · rw [if_pos hs]; exact (wholeS_long s w hs).mono fun e w' ⟨he, hb⟩ => ⟨_, he, nilT _ _, hb⟩
  · rw [if_neg hs]
    cases h : Ds.md (Ds.bl s) with
    | none => exact (wholeS_bad s w (by omega) h).mono fun e w' ⟨he, hb⟩ => ⟨_, he, nilT _ _, hb⟩
    | some y =>
      obtain ⟨xs, ⟨k, m⟩, l⟩ := y
      cases l with
      | nil => exact wholeS_ok s xs k m w (by omega) h
      | cons c l => exact (wholeS_left s xs k m c l w (by omega) h).mono fun e w' ⟨he, hb⟩ => ⟨_, he, nilT _ _, hb⟩
end Go.Proofs.YthhjenmgcbmphaaDoor

/- Own texts for the claim, part 9. -/
import Derived.Test.YtjnjnfhboafcgaaGreatDoorZG8
import Derived.DeepKeys4
namespace Go.Proofs.YtjnjnfhboafcgaaGreatDoor.L2
open Go.RowKit

set_option maxRecDepth 100000 in
theorem catchS_panicking (p : Addr) (x : Value) (older : List PanicEntry) (w : World) (hc : w.cell? p = some x) (hz : w.frozen? p = false) :
    CallsD Tryz.prog 176 #[.pointer (some p)] (.panicking ({ v := .iface 27 (.int .i64 20), recovered := false } :: older)) w fun e u' w' =>
      e = .returned (.tuple #[]) ∧ u' = .panicking ({ v := .iface 27 (.int .i64 20), recovered := true } :: older) ∧ w' = w.setCell p (.int .i64 20) := by
  refine callsD_of_wpS Tryz.func176 rfl fun c₀ cs hu => ?_
  apply wpS_seq
  apply wpS_region
  simp [wpOpsS, go_sem, recoverD, hu, Tryz.ntmps176, Exit.thenS]
  have q1 := A.eqBad
  refine wpS_of_wp ?_
  go_wp2
  simp [bodyPostS, results, Tryz.results176]
set_option maxRecDepth 100000 in
theorem catchS_idle (p : Addr) (w : World) :
    CallsD Tryz.prog 176 #[.pointer (some p)] .returning w fun e u' w' => e = .returned (.tuple #[]) ∧ u' = .returning ∧ w = w' := by
  refine callsD_of_wpS Tryz.func176 rfl fun c₀ cs hu => ?_
  apply wpS_seq
  apply wpS_region
  simp [wpOpsS, go_sem, recoverD, hu, Tryz.ntmps176, Exit.thenS]
  have q2 := A.eqNone
  have q3 := A.neNone
  refine wpS_of_wp ?_
  go_wp2
  cases c₀
  simp_all [bodyPostS, results, Tryz.results176]
theorem MB.below {w w' : World} {B n : Nat} {v : Value} {k : Int} {m : ByteArray} (h : MB w B v k m) (hb : Below n w w') (hn : B < n) : MB w' B v k m := (hb.block B hn).trans h
/-- The two results' boxes, behind kinds and the reader's own box. -/
theorem boxesS (w w1 : World) (h : Below (w.heap.size + 1 + 1) ((w.alloc (.cells #[.slice none 0 0, .int .i64 0, .string ⟨#[]⟩] 181)).alloc (.cells #[.int .i64 0] 27)) w1) (o : Obj) :
    MB (w1.alloc o) w.heap.size (.slice none 0 0) 0 ⟨#[]⟩ ∧ EB (w1.alloc o) (w.heap.size + 1) 0 ∧ Below w.heap.size w (w1.alloc o) ∧ w.heap.size + 2 ≤ w1.heap.size := by
  have hz := h.size
  simp only [World.size_alloc] at hz
  have e1 := EB.new (w.alloc (.cells #[.slice none 0 0, .int .i64 0, .string ⟨#[]⟩] 181)) 0
  rw [World.size_alloc] at e1
  have ha := (Below.refl w1.heap.size w1).alloc (Nat.le_refl _) o
  refine ⟨?_, ?_, ?_, by omega⟩
  · exact (((show MB _ _ _ _ _ from World.alloc_heap_new w _).below (n := w.heap.size + 1) ((Below.refl _ _).alloc (by simp) _) (by omega)).below h (by omega)).below ha (by omega)
  · exact (e1.below h (by omega)).below ha (by omega)
  · exact (belows (b := (w.alloc (.cells #[.slice none 0 0, .int .i64 0, .string ⟨#[]⟩] 181)).alloc (.cells #[.int .i64 0] 27)) (by repeat' first | with_reducible exact Below.refl _ _ | with_reducible assumption | with_reducible refine belows_drewN ?_ _ | with_reducible refine Below.drew ?_ | with_reducible refine Below.setCell ?_ ?_ _ | with_reducible refine Below.alloc ?_ ?_ _ | omega | (simp; done) | (simp; omega)) (h.mono (by simp only [World.size_alloc]; omega)) (by simp only [World.size_alloc]; omega)).alloc (by omega) _
def methodFn : Value := .func (.func 151) #[] #[]
set_option maxRecDepth 100000 in
set_option maxHeartbeats 400000 in
theorem wholeS_long (s : ByteArray) (w : World) (hs : 255 < s.size) :
    Calls Tryz.prog 150 #[.string s, methodFn] w fun e w' => e = .returned (.tuple #[.agg #[.slice none 0 0, .int .i64 0, .string ⟨#[]⟩], .int .i64 3]) ∧ Below w.heap.size w w' := by
  unfold methodFn
  have hd : decide (255 < (s.size : Int)) = true := by simp; omega
  go_enter_defers Tryz.func150, Tryz.ntmps150
  go_wp2
  exact ⟨_, by simp [results, Tryz.results150, go_sem], rfl, (by repeat' first | with_reducible exact Below.refl _ _ | with_reducible assumption | with_reducible refine belows_drewN ?_ _ | with_reducible refine Below.drew ?_ | with_reducible refine Below.setCell ?_ ?_ _ | with_reducible refine Below.alloc ?_ ?_ _ | omega | (simp; done) | (simp; omega))⟩
set_option maxRecDepth 100000 in
set_option maxHeartbeats 400000 in
theorem wholeS_ok (s : ByteArray) (xs : List Ds.Ty) (k : Int) (m : List UInt8) (w : World) (hs : s.size ≤ 255) (h : Ds.md (Ds.bl s) = some (xs, (k, m), [])) :
    Calls Tryz.prog 150 #[.string s, methodFn] w fun e w' => ∃ v, e = .returned (.tuple #[.agg #[v, .int .i64 k, .string ⟨m.toArray⟩], .int .i64 0]) ∧ OwnT w' w.heap.size v xs ∧ Below w.heap.size w w' := by
  unfold methodFn
  have hd : decide (255 < (s.size : Int)) = false := by simp; omega
  have HF0 : ∀ (pb mb : Nat) (W : World), Rd W pb mb s → Calls Tryz.prog 151 #[.pointer (some ⟨pb, 0, none⟩)] W fun e w' => ∃ sa sc, e = .returned (.agg #[.slice sa xs.length sc, .int .i64 k, .string ⟨m.toArray⟩]) ∧ OwnT w' W.heap.size (.slice sa xs.length sc) xs ∧ Step pb mb ⟨#[]⟩ W w' := by
    intro pb mb W hW
    have := method_rd pb mb s W hW hs
    unfold MethodPost at this
    rw [h] at this
    refine this.mono ?_
    rintro e w' ⟨v, q, rfl, ho, hq, hst⟩
    obtain ⟨sa, sc, rfl⟩ := own_form ho
    have hq2 : q = ⟨#[]⟩ := ba_ext hq
    rw [hq2] at hst
    exact ⟨sa, sc, rfl, ho, hst⟩
  have HF := hid HF0
  have hmf := A.mkF
  clear HF0 h
  go_enter_defers Tryz.func150, Tryz.ntmps150
  go_wp2_with (first
    | (go_at_call 172; refine (kinds_any _).mono ?_; rintro e w1 ⟨rfl, hk1, hb1, hz1⟩; simp only [World.size_alloc] at hk1 hb1 hz1; have HK1 := hid hk1; have HB1 := hid hb1; clear hk1 hb1)
    | (go_at_call 151; refine (HF.out w1.heap.size (w.heap.size + 1 + 1) _ (rd_new s HK1.out hz1)).mono ?_; rintro e w2 ⟨sa, sc, rfl, ho2, hg2, hr2⟩; have HO2 := hid ho2; have HBx := hid (boxesS w w1 HB1.out (.cells #[.string s, .map (some (w.heap.size + 1 + 1))] 209)); have hz2 := HBx.out.2.2.2; have HRB := hid (HBx.out.1.grown hg2 (by simp; omega)); have HEB := hid (HBx.out.2.1.grown hg2 (by simp; omega)); have HW2 := hid (Below.grown HBx.out.2.2.1 hg2 (by simp; omega) (fun j e => by have := Option.some.inj e; omega)); obtain ⟨b0, b1, b2, f0, f1, f2⟩ := HRB.out.facts; obtain ⟨e0, e1⟩ := HEB.out.facts; have cl2 := hr2.left; have hs2 := hr2.sz; have hs3 := HEB.out.sz; have hs4 := HRB.out.sz; clear hg2 hr2 ho2))
  refine leaves_cons (f := 176) (args := #[.pointer (some ⟨w.heap.size + 1, 0, none⟩)]) (by simp) (by simp [go_sem]) ?_
  refine (catchS_idle ⟨w.heap.size + 1, 0, none⟩ _).mono ?_
  rintro e u' w'' ⟨rfl, rfl, rfl⟩
  refine ⟨.tuple #[.agg #[.slice sa xs.length sc, .int .i64 k, .string ⟨m.toArray⟩], .int .i64 0], by simp [results, Tryz.results150, go_sem, b0, b1, b2, e0, hs3, hs4], _, rfl, ?_, ?_⟩
  · have ho := HO2.out
    simp only [World.size_alloc] at ho
    have h1 := Kit.owns_grown ho (set_grown w2 w.heap.size 0 (.slice sa xs.length sc)) (by omega)
    have h2 := Kit.owns_grown h1 (set_grown _ w.heap.size 1 (.int .i64 k)) (by omega)
    have h3 := Kit.owns_grown h2 (set_grown _ w.heap.size 2 (.string ⟨m.toArray⟩)) (by omega)
    have h4 := Kit.owns_grown h3 (set_grown _ (w.heap.size + 1) 0 (.int .i64 0)) (by omega)
    exact own_mono (Kit.owns_below h4 ((Below.refl _ _).alloc (Nat.le_refl _) _) (Nat.le_refl _)) (by omega)
  · have HW := HW2.out
    exact (by repeat' first | with_reducible exact Below.refl _ _ | with_reducible assumption | with_reducible refine belows_drewN ?_ _ | with_reducible refine Below.drew ?_ | with_reducible refine Below.setCell ?_ ?_ _ | with_reducible refine Below.alloc ?_ ?_ _ | omega | (simp; done) | (simp; omega))
set_option maxRecDepth 100000 in
set_option maxHeartbeats 400000 in
theorem wholeS_left (s : ByteArray) (xs : List Ds.Ty) (k : Int) (m : List UInt8) (c : UInt8) (l : List UInt8) (w : World) (hs : s.size ≤ 255) (h : Ds.md (Ds.bl s) = some (xs, (k, m), c :: l)) :
    Calls Tryz.prog 150 #[.string s, methodFn] w fun e w' => e = .returned (.tuple #[.agg #[.slice none 0 0, .int .i64 0, .string ⟨#[]⟩], .int .i64 20]) ∧ Below w.heap.size w w' := by
  unfold methodFn
  have hd : decide (255 < (s.size : Int)) = false := by simp; omega
  have HF0 : ∀ (pb mb : Nat) (W : World), Rd W pb mb s → Calls Tryz.prog 151 #[.pointer (some ⟨pb, 0, none⟩)] W fun e w' => ∃ sa sc q, e = .returned (.agg #[.slice sa xs.length sc, .int .i64 k, .string ⟨m.toArray⟩]) ∧ (q.toList.isEmpty) = false ∧ Step pb mb q W w' := by
    intro pb mb W hW
    have := method_rd pb mb s W hW hs
    unfold MethodPost at this
    rw [h] at this
    refine this.mono ?_
    rintro e w' ⟨v, q, rfl, ho, hq, hst⟩
    obtain ⟨sa, sc, rfl⟩ := own_form ho
    refine ⟨sa, sc, q, rfl, ?_, hst⟩
    rw [ByteArray.toList_eq]
    have hq' : q.data.toList = c :: l := hq
    rw [hq']; rfl
  have HF := hid HF0
  have hmf := A.mkF
  clear HF0 h
  go_enter_defers Tryz.func150, Tryz.ntmps150
  go_wp2_with (first
    | (go_at_call 172; refine (kinds_any _).mono ?_; rintro e w1 ⟨rfl, hk1, hb1, hz1⟩; simp only [World.size_alloc] at hk1 hb1 hz1; have HK1 := hid hk1; have HB1 := hid hb1; clear hk1 hb1)
    | (go_at_call 151; refine (HF.out w1.heap.size (w.heap.size + 1 + 1) _ (rd_new s HK1.out hz1)).mono ?_; rintro e w2 ⟨sa, sc, q, rfl, hq0, hg2, hr2⟩; have HBx := hid (boxesS w w1 HB1.out (.cells #[.string s, .map (some (w.heap.size + 1 + 1))] 209)); have hz2 := HBx.out.2.2.2; have HRB := hid (HBx.out.1.grown hg2 (by simp; omega)); have HEB := hid (HBx.out.2.1.grown hg2 (by simp; omega)); have HW2 := hid (Below.grown HBx.out.2.2.1 hg2 (by simp; omega) (fun j e => by have := Option.some.inj e; omega)); obtain ⟨b0, b1, b2, f0, f1, f2⟩ := HRB.out.facts; obtain ⟨e0, e1⟩ := HEB.out.facts; have cl2 := hr2.left; have hs2 := hr2.sz; have hs3 := HEB.out.sz; have hs4 := HRB.out.sz; clear hg2 hr2))
  refine leaves_cons (f := 176) (args := #[.pointer (some ⟨w.heap.size + 1, 0, none⟩)]) (by simp) (by simp [go_sem]) ?_
  refine (catchS_panicking ⟨w.heap.size + 1, 0, none⟩ (.int .i64 0) [] _ ?_ ?_).mono ?_
  · simp [go_sem, e0, hs3]
  · simp [go_sem, e1, hs3]
  rintro e u' w'' ⟨rfl, rfl, rfl⟩
  refine ⟨.tuple #[.agg #[.slice none 0 0, .int .i64 0, .string ⟨#[]⟩], .int .i64 20], by simp [results, Tryz.results150, go_sem, b0, b1, b2, e0, hs3, hs4], rfl, ?_⟩
  have HW := HW2.out
  exact (by repeat' first | with_reducible exact Below.refl _ _ | with_reducible assumption | with_reducible refine belows_drewN ?_ _ | with_reducible refine Below.drew ?_ | with_reducible refine Below.setCell ?_ ?_ _ | with_reducible refine Below.alloc ?_ ?_ _ | omega | (simp; done) | (simp; omega))
set_option maxRecDepth 100000 in
set_option maxHeartbeats 400000 in
theorem wholeS_bad (s : ByteArray) (w : World) (hs : s.size ≤ 255) (h : Ds.md (Ds.bl s) = none) :
    Calls Tryz.prog 150 #[.string s, methodFn] w fun e w' => e = .returned (.tuple #[.agg #[.slice none 0 0, .int .i64 0, .string ⟨#[]⟩], .int .i64 20]) ∧ Below w.heap.size w w' := by
  unfold methodFn
  have hd : decide (255 < (s.size : Int)) = false := by simp; omega
  have HF0 : ∀ (pb mb : Nat) (W : World), Rd W pb mb s → Calls Tryz.prog 151 #[.pointer (some ⟨pb, 0, none⟩)] W (Bad pb W) := by
    intro pb mb W hW
    have := method_rd pb mb s W hW hs
    unfold MethodPost at this
    rw [h] at this
    exact this
  unfold Bad bad at HF0
  have HF := hid HF0
  have hmf := A.mkF
  clear HF0 h
  go_enter_defers Tryz.func150, Tryz.ntmps150
  go_wp2_with (first
    | (go_at_call 172; refine (kinds_any _).mono ?_; rintro e w1 ⟨rfl, hk1, hb1, hz1⟩; simp only [World.size_alloc] at hk1 hb1 hz1; have HK1 := hid hk1; have HB1 := hid hb1; clear hk1 hb1)
    | (go_at_call 151; refine (HF.out w1.heap.size (w.heap.size + 1 + 1) _ (rd_new s HK1.out hz1)).mono ?_; rintro e w2 ⟨rfl, hg2⟩; have HBx := hid (boxesS w w1 HB1.out (.cells #[.string s, .map (some (w.heap.size + 1 + 1))] 209)); have hz2 := HBx.out.2.2.2; have HRB := hid (HBx.out.1.grown hg2 (by simp; omega)); have HEB := hid (HBx.out.2.1.grown hg2 (by simp; omega)); have HW2 := hid (Below.grown HBx.out.2.2.1 hg2 (by simp; omega) (fun j e => by have := Option.some.inj e; omega)); obtain ⟨b0, b1, b2, f0, f1, f2⟩ := HRB.out.facts; obtain ⟨e0, e1⟩ := HEB.out.facts; have hs3 := HEB.out.sz; have hs4 := HRB.out.sz; clear hg2))
  refine leaves_cons (f := 176) (args := #[.pointer (some ⟨w.heap.size + 1, 0, none⟩)]) (by simp) (by simp [go_sem]) ?_
  refine (catchS_panicking ⟨w.heap.size + 1, 0, none⟩ (.int .i64 0) [] _ ?_ ?_).mono ?_
  · exact e0
  · exact e1
  rintro e u' w'' ⟨rfl, rfl, rfl⟩
  refine ⟨.tuple #[.agg #[.slice none 0 0, .int .i64 0, .string ⟨#[]⟩], .int .i64 20], by simp [results, Tryz.results150, go_sem, b0, b1, b2, e0], rfl, ?_⟩
  have HW := HW2.out
  exact (by repeat' first | with_reducible exact Below.refl _ _ | with_reducible assumption | with_reducible refine belows_drewN ?_ _ | with_reducible refine Below.drew ?_ | with_reducible refine Below.setCell ?_ ?_ _ | with_reducible refine Below.alloc ?_ ?_ _ | omega | (simp; done) | (simp; omega))
/-- What a text is as a method's descriptor. -/
def mdOut (l : List UInt8) : List Ds.Ty × Ds.Ty × Int := if 255 < l.length then ([], (0, []), 3) else match Ds.md l with
  | some (xs, y, []) => (xs, y, 0)
  | _ => ([], (0, []), 20)
/-- What whole at signature, and Method, leave. -/
def MOut (s : ByteArray) (w : World) (v : Value) (w' : World) : Prop := OwnT w' w.heap.size v (mdOut (Ds.bl s)).1 ∧ Below w.heap.size w w'
theorem wholeS_any (s : ByteArray) (w : World) :
    Calls Tryz.prog 150 #[.string s, methodFn] w fun e w' => ∃ v, e = .returned (.tuple #[.agg #[v, .int .i64 (mdOut (Ds.bl s)).2.1.1, .string ⟨(mdOut (Ds.bl s)).2.1.2.toArray⟩], .int .i64 (mdOut (Ds.bl s)).2.2]) ∧ MOut s w v w' := by
  unfold MOut mdOut
  rw [bl_len]
  by_cases hs : 255 < s.size
  · rw [if_pos hs]; exact (wholeS_long s w hs).mono fun e w' ⟨he, hb⟩ => ⟨_, he, nilT _ _, hb⟩
  · rw [if_neg hs]
    cases h : Ds.md (Ds.bl s) with
    | none => exact (wholeS_bad s w (by omega) h).mono fun e w' ⟨he, hb⟩ => ⟨_, he, nilT _ _, hb⟩
    | some y =>
      obtain ⟨xs, ⟨k, m⟩, l⟩ := y
      cases l with
      | nil => exact wholeS_ok s xs k m w (by omega) h
      | cons c l => exact (wholeS_left s xs k m c l w (by omega) h).mono fun e w' ⟨he, hb⟩ => ⟨_, he, nilT _ _, hb⟩
end Go.Proofs.YtjnjnfhboafcgaaGreatDoor.L2
namespace Go.Proofs.YtjnjnfhboafcgaaGreatDoor.L2
open Go.RowKit

set_option maxRecDepth 100000 in
set_option maxHeartbeats 1000000 in
theorem method_any (s : ByteArray) (w : World) :
    Calls Tryz.prog 109 #[.string s] w fun e w' => ∃ v, e = .returned (.tuple #[v, tyV (mdOut (Ds.bl s)).2.1.1 (mdOut (Ds.bl s)).2.1.2, .int .i64 (mdOut (Ds.bl s)).2.2]) ∧ MOut s w v w' := by
  have HW := hid (fun W => wholeS_any s W)
  obtain ⟨k, hk⟩ : ∃ k, k = (mdOut (Ds.bl s)).2.1.1 := ⟨_, rfl⟩
  obtain ⟨m, hm⟩ : ∃ m, m = (mdOut (Ds.bl s)).2.1.2 := ⟨_, rfl⟩
  obtain ⟨er, he⟩ : ∃ er, er = (mdOut (Ds.bl s)).2.2 := ⟨_, rfl⟩
  rw [← hk, ← hm, ← he] at HW ⊢
  unfold methodFn at HW
  unfold tyV
  clear hk hm he
  go_enter Tryz.func109, Tryz.ntmps109
  go_wp2_with (go_at_call 150; refine (HW.out _).mono ?_; rintro e w1 ⟨v, rfl, hm1⟩; obtain ⟨sa, sc, rfl⟩ := own_form hm1.1; have HM := hid hm1; have hb1 := hm1.2; obtain ⟨hcc, hff⟩ := bcell hb1; have hz := hb1.size; simp only [World.size_alloc] at hz; have hz1 : w.heap.size < w1.heap.size := (by omega); clear hm1)
  have hR1 : RB w1 w.heap.size := (RB.new w).below hb1 (by simp)
  obtain ⟨n, hn⟩ : ∃ n, n = (mdOut (Ds.bl s)).1.length := ⟨_, rfl⟩
  rw [← hn]
  have hMB : MB (w1.alloc (.cells #[.slice sa n sc, .int .i64 k, .string ⟨m.toArray⟩] 181)) w1.heap.size (.slice sa n sc) k ⟨m.toArray⟩ := World.alloc_heap_new w1 _
  have hba : Below w1.heap.size w1 (w1.alloc (.cells #[.slice sa n sc, .int .i64 k, .string ⟨m.toArray⟩] 181)) := (Below.refl _ _).alloc (Nat.le_refl _) _
  have hRB := hR1.below hba hz1
  obtain ⟨W, hW⟩ : ∃ W, W = w1.alloc (.cells #[.slice sa n sc, .int .i64 k, .string ⟨m.toArray⟩] 181) := ⟨_, rfl⟩
  rw [← hW] at hMB hRB hba ⊢
  obtain ⟨c0, c1, c2, -, -, -⟩ := hMB.facts
  obtain ⟨b0, b1, f0, f1⟩ := hRB.facts
  have HBa := hid hba
  have HN := hid hn
  have hbx := hid (belows (B := w.heap.size) (a := w) (by repeat' first | with_reducible exact Below.refl _ _ | with_reducible assumption | with_reducible refine belows_drewN ?_ _ | with_reducible refine Below.drew ?_ | with_reducible refine Below.setCell ?_ ?_ _ | with_reducible refine Below.alloc ?_ ?_ _ | omega | (simp; done) | (simp; omega)) hb1 (by simp))
  have hne : ¬ w.heap.size = w1.heap.size := by omega
  clear hW hba hn hR1 hMB hRB hcc hff hb1
  go_region
  go_wp2
  refine bodyPost_ret (v := .tuple #[.slice sa n sc, .agg #[.int .i64 k, .string ⟨m.toArray⟩], .int .i64 er]) (by simp [results, Tryz.results109, go_sem, b0, b1]) rfl ⟨_, rfl, ?_, ?_⟩
  · have ho := HM.out.1
    simp only [World.size_alloc] at ho
    rw [← HN.out] at ho
    have h0 := Kit.owns_below ho HBa.out (Nat.le_refl _)
    have h1 := Kit.owns_grown h0 (set_grown W w.heap.size 0 (.int .i64 k)) (by omega)
    have h2 := Kit.owns_grown h1 (set_grown _ w.heap.size 1 (.string ⟨m.toArray⟩)) (by omega)
    exact own_mono (Kit.owns_below h2 ((Below.refl _ _).drew) (Nat.le_refl _)) (by omega)
  · have hx := hbx.out
    have hy := belows hx HBa.out (by omega)
    exact (by repeat' first | with_reducible exact Below.refl _ _ | with_reducible assumption | with_reducible refine belows_drewN ?_ _ | with_reducible refine Below.drew ?_ | with_reducible refine Below.setCell ?_ ?_ _ | with_reducible refine Below.alloc ?_ ?_ _ | omega | (simp; done) | (simp; omega))
end Go.Proofs.YtjnjnfhboafcgaaGreatDoor.L2
namespace Go.Proofs.YtjnjnfhboafcgaaGreatDoor.L2
open Go.RowKit

theorem tyC_len (y : Ds.Ty) : (tyC y).length = 2 := rfl
theorem ty_at {w : World} {v : Value} {l : List Ds.Ty} (h : Kit.IsS 2 w v l.length (l.flatMap tyC)) {k : Nat} {x : Ds.Ty} (hx : l[k]? = some x) :
    ∃ b o cap, v = .slice (some ⟨b, o, none⟩) l.length cap ∧ b < w.heap.size ∧ w.cell? ⟨b, o + k * 2, none⟩ = some (.int .i64 x.1) ∧ w.cell? ⟨b, o + k * 2 + 1, none⟩ = some (.string ⟨x.2.toArray⟩) := by
  have hk : k < l.length := by rw [List.getElem?_eq_some_iff] at hx; exact hx.1
  obtain ⟨b, o, cap, hv, -, hlt, hc⟩ := h.some (by omega)
  have f := fun j hj => Kit.flat_at tyC_len hx j hj
  refine ⟨b, o, cap, hv, hlt, ?_, ?_⟩
  · exact hc (k * 2 + 0) _ (f 0 (by omega))
  · exact hc (k * 2 + 1) _ (f 1 (by omega))
def longs (l : List Ds.Ty) : Nat := (l.filter fun y => y.1 == 2).length
theorem longs_le (l : List Ds.Ty) : longs l ≤ l.length := List.length_filter_le _ _
theorem longs_step {l : List Ds.Ty} {k : Nat} {x : Ds.Ty} (h : l[k]? = some x) : longs (l.take (k + 1)) = longs (l.take k) + if x.1 == 2 then 1 else 0 := by
  unfold longs
  rw [List.take_add_one, h, List.filter_append, List.length_append]
  congr 1
  simp only [Option.toList_some, List.filter_cons, List.filter_nil]
  split <;> rfl
def slotsOf (l : List Ds.Ty) : Int := l.length + longs l
set_option maxRecDepth 100000 in
set_option maxHeartbeats 400000 in
theorem slots_any (l : List Ds.Ty) (v : Value) (w : World) (hv : Kit.IsS 2 w v l.length (l.flatMap tyC)) :
    Calls Tryz.prog 152 #[v] w fun e w' => e = .returned (.int .i64 (slotsOf l)) ∧ Below w.heap.size w w' := by
  have HV := hid hv
  obtain ⟨a, cap, hv2⟩ := hv.len
  subst hv2
  have hlen := hv.2.1
  clear hv
  go_enter Tryz.func152, Tryz.ntmps152
  go_wp2
  go_loopw [3, 10] (fun n i wr => ∃ k : Nat, k ≤ l.length ∧ i = .int .i64 k ∧ n = .int .i64 ((l.length : Int) + longs (l.take k)) ∧ Below w.heap.size w wr) (fun _ i _ => l.length - (intOf i).toNat)
  case atStart => exact ⟨0, by omega, rfl, rfl, (by repeat' first | with_reducible exact Below.refl _ _ | with_reducible assumption | with_reducible refine belows_drewN ?_ _ | with_reducible refine Below.drew ?_ | with_reducible refine Below.setCell ?_ ?_ _ | with_reducible refine Below.alloc ?_ ?_ _ | omega | (simp; done) | (simp; omega))⟩
  case round =>
    obtain ⟨k, hk, rfl, rfl, hbl⟩ := hrel
    have hbz := hbl.size
    by_cases hlt : k < l.length
    · obtain ⟨x, hx⟩ : ∃ x, l[k]? = some x := ⟨l[k], List.getElem?_eq_getElem hlt⟩
      obtain ⟨b, o, cap', hv, hb, c0, c1⟩ := ty_at (HV.out.below hbl (Nat.le_refl _)) hx
      obtain ⟨rfl, -, rfl⟩ := Value.slice.inj hv
      have HStep := hid (longs_step hx)
      have hlg := longs_le (l.take k)
      rw [List.length_take] at hlg
      obtain ⟨c, hc⟩ : ∃ c, c = longs (l.take k) := ⟨_, rfl⟩
      rw [← hc] at hlg HStep ⊢
      obtain ⟨xk, xm⟩ := x
      dsimp only at c0 c1 HStep
      have hlt' : (k : Int) < l.length := by omega
      clear hx hv hc
      by_cases h2 : xk = 2
      · subst h2
        have HS := hid (show longs (l.take (k + 1)) = c + 1 from HStep.out)
        clear HStep
        go_wp2
        go_roundw
        case rel => exact ⟨k + 1, by omega, by go_num, by rw [HS.out]; go_num, (by repeat' first | with_reducible exact Below.refl _ _ | with_reducible assumption | with_reducible refine belows_drewN ?_ _ | with_reducible refine Below.drew ?_ | with_reducible refine Below.setCell ?_ ?_ _ | with_reducible refine Below.alloc ?_ ?_ _ | omega | (simp; done) | (simp; omega))⟩
        case measure => simp [intOf]; omega
      · have h2' : (xk == 2) = false := by simpa using h2
        have HS0 := HStep.out
        rw [h2', if_neg (by simp)] at HS0
        have HS := hid HS0
        clear HS0
        clear HStep h2
        go_wp2
        go_roundw
        case rel => exact ⟨k + 1, by omega, by go_num, by rw [HS.out]; go_num, (by repeat' first | with_reducible exact Below.refl _ _ | with_reducible assumption | with_reducible refine belows_drewN ?_ _ | with_reducible refine Below.drew ?_ | with_reducible refine Below.setCell ?_ ?_ _ | with_reducible refine Below.alloc ?_ ?_ _ | omega | (simp; done) | (simp; omega))⟩
        case measure => simp [intOf]; omega
    · obtain rfl : k = l.length := by omega
      rw [List.take_length]
      have HS := hid (show slotsOf l = (l.length : Int) + longs l from rfl)
      go_wp2
      go_ret
      exact ⟨by rw [HS.out]; rfl, (by repeat' first | with_reducible exact Below.refl _ _ | with_reducible assumption | with_reducible refine belows_drewN ?_ _ | with_reducible refine Below.drew ?_ | with_reducible refine Below.setCell ?_ ?_ _ | with_reducible refine Below.alloc ?_ ?_ _ | omega | (simp; done) | (simp; omega))⟩
end Go.Proofs.YtjnjnfhboafcgaaGreatDoor.L2
namespace Go.Proofs.YtjnjnfhboafcgaaGreatDoor.L2
open Go.RowKit

/-- What letters answers, as read. -/
def lD : DataW Unit := ((DataW.map []).put (.int .i64 1) (.lit (.int .u8 73))).put (.int .i64 2) (.lit (.int .u8 74))
def LMap (w : World) (mb : Nat) : Prop := w.ownsMap Tryz.prog 3 (plainElem (H := Unit) Tryz.prog 5) mb 2 lD
theorem LMap.below {w w' : World} {mb n₀ : Nat} (h : LMap w mb) (hb : Below n₀ w w') (hm : mb < n₀) : LMap w' mb := by
  obtain ⟨es, clock, h1, h2, h3, h4⟩ := h
  exact ⟨es, clock, (hb.block mb hm).trans h1, h2, h3, h4⟩
end Go.Proofs.YtjnjnfhboafcgaaGreatDoor.L2
namespace Go.Proofs.YtjnjnfhboafcgaaGreatDoor.L2
open Go.RowKit

theorem A.strI (w : World) : (convert 5 9 (.int .u8 73)).run Tryz.prog w = .ok (.string ⟨#[73]⟩) w := by kernel_rfl
end Go.Proofs.YtjnjnfhboafcgaaGreatDoor.L2
namespace Go.Proofs.YtjnjnfhboafcgaaGreatDoor.L2
open Go.RowKit

theorem RB.grown {w w' : World} {B : Nat} {row : Option Nat} (h : RB w B) (hg : w.grownBy w' row) (hne : row ≠ some B) : RB w' B := (hg.block B h.sz (fun e => hne e.symm)).trans h
theorem argsF_len : ∀ (f : Nat) (l : List UInt8) (a : List Ds.Ty) (r : List UInt8), Ds.argsF f l = some (a, r) → a.length ≤ l.length
  | 0, _, _, _, h => by cases h
  | _ + 1, [], _, _, h => by cases h
  | f + 1, c :: l, a, r, h => by
    unfold Ds.argsF at h
    split at h
    · simp only [Option.some.injEq, Prod.mk.injEq] at h
      obtain ⟨rfl, -⟩ := h
      simp
    · cases hr : Ds.rd (c :: l) with
      | none => rw [hr] at h; cases h
      | some x =>
        obtain ⟨k, m, n⟩ := x
        rw [hr] at h
        dsimp only at h
        have hl := Ds.rd_len hr
        cases hg : Ds.argsF f ((c :: l).drop n) with
        | none => rw [hg] at h; cases h
        | some x =>
          obtain ⟨a', r'⟩ := x
          rw [hg] at h
          simp only [Option.some.injEq, Prod.mk.injEq] at h
          obtain ⟨rfl, -⟩ := h
          have := argsF_len f _ _ _ hg
          rw [List.length_drop] at this
          rw [List.length_cons]
          omega
theorem mdOut_len {s : List UInt8} {a : List Ds.Ty} {r : Ds.Ty} {er : Int} (h : mdOut s = (a, r, er)) : a.length ≤ 140737488355328 := by
  unfold mdOut at h
  split at h
  · simp only [Prod.mk.injEq] at h
    obtain ⟨rfl, -⟩ := h
    simp
  · rename_i hs
    split at h
    · rename_i x xs y hm
      simp only [Prod.mk.injEq] at h
      obtain ⟨rfl, -, -⟩ := h
      cases s with
      | nil => cases hm
      | cons c l =>
        unfold Ds.md at hm
        dsimp only at hm
        split at hm
        · unfold Ds.mdA at hm
          cases hg : Ds.argsF (l.length + 1) l with
          | none => rw [hg] at hm; cases hm
          | some x =>
            obtain ⟨a', r'⟩ := x
            rw [hg] at hm
            dsimp only at hm
            unfold Ds.retM at hm
            cases hr : Ds.retF r' with
            | none => rw [hr] at hm; cases hm
            | some x =>
              obtain ⟨y', s'⟩ := x
              rw [hr] at hm
              simp only [Option.some.injEq, Prod.mk.injEq, List.nil_append] at hm
              obtain ⟨rfl, -, -⟩ := hm
              have := argsF_len _ _ _ _ hg
              rw [List.length_cons] at hs
              omega
        · cases hm
    · simp only [Prod.mk.injEq] at h
      obtain ⟨rfl, -⟩ := h
      simp
end Go.Proofs.YtjnjnfhboafcgaaGreatDoor.L2
namespace Go.Proofs.YtjnjnfhboafcgaaGreatDoor.L2
open Go.RowKit

set_option maxRecDepth 100000 in
theorem memberName_any (s : ByteArray) (w : World) :
    Calls Tryz.prog 147 #[.string s] w fun e w' => e = .returned (.int .i64 (memE (Ds.bl s))) ∧ Below w.heap.size w w' := by
  unfold memE
  rw [bl_len]
  by_cases h1 : 255 < s.size
  · rw [if_pos h1]
    have hd : decide (255 < (s.size : Int)) = true := by simp; omega
    go_enter Tryz.func147, Tryz.ntmps147
    go_wp2
    go_ret
    exact ⟨rfl, (by repeat' first | with_reducible exact Below.refl _ _ | with_reducible assumption | with_reducible refine belows_drewN ?_ _ | with_reducible refine Below.drew ?_ | with_reducible refine Below.setCell ?_ ?_ _ | with_reducible refine Below.alloc ?_ ?_ _ | omega | (simp; done) | (simp; omega))⟩
  · rw [if_neg h1]
    have hd : decide (255 < (s.size : Int)) = false := by simp; omega
    have HC := isPart_any s w (by unfold maxLen; omega)
    by_cases hi : Ds.bl s = initL
    · rw [if_pos (.inr hi)]
      have hq : (s.toList == [60, 105, 110, 105, 116, 62]) = true := by rw [beq_iff_eq, str_eq]; exact hi
      clear hi HC
      go_enter Tryz.func147, Tryz.ntmps147
      go_wp2
      go_ret
      exact ⟨rfl, (by repeat' first | with_reducible exact Below.refl _ _ | with_reducible assumption | with_reducible refine belows_drewN ?_ _ | with_reducible refine Below.drew ?_ | with_reducible refine Below.setCell ?_ ?_ _ | with_reducible refine Below.alloc ?_ ?_ _ | omega | (simp; done) | (simp; omega))⟩
    · have hq : (s.toList == [60, 105, 110, 105, 116, 62]) = false := by rw [beq_eq_false_iff_ne, ne_eq, str_eq]; exact hi
      cases hp : Ds.partB (Ds.bl s) with
      | true =>
        rw [if_pos (.inl rfl)]
        rw [hp] at HC
        have HC2 := hid HC
        clear HC hp hi
        go_enter Tryz.func147, Tryz.ntmps147
        go_wp2_with (go_at_call 123; refine HC2.out.mono ?_; rintro e w1 ⟨rfl, rfl⟩)
        go_ret
        exact ⟨rfl, (by repeat' first | with_reducible exact Below.refl _ _ | with_reducible assumption | with_reducible refine belows_drewN ?_ _ | with_reducible refine Below.drew ?_ | with_reducible refine Below.setCell ?_ ?_ _ | with_reducible refine Below.alloc ?_ ?_ _ | omega | (simp; done) | (simp; omega))⟩
      | false =>
        rw [if_neg (by simp [hi])]
        rw [hp] at HC
        have HC2 := hid HC
        clear HC hp hi
        go_enter Tryz.func147, Tryz.ntmps147
        go_wp2_with (go_at_call 123; refine HC2.out.mono ?_; rintro e w1 ⟨rfl, rfl⟩)
        go_ret
        exact ⟨rfl, (by repeat' first | with_reducible exact Below.refl _ _ | with_reducible assumption | with_reducible refine belows_drewN ?_ _ | with_reducible refine Below.drew ?_ | with_reducible refine Below.setCell ?_ ?_ _ | with_reducible refine Below.alloc ?_ ?_ _ | omega | (simp; done) | (simp; omega))⟩
end Go.Proofs.YtjnjnfhboafcgaaGreatDoor.L2
namespace Go.Proofs.YtjnjnfhboafcgaaGreatDoor
open Go.RowKit

namespace Cf
/-- The first that is not nought of so many numbers, which a relation tells. -/
def FstR (R : Nat → Int → Prop) (n : Nat) (er : Int) : Prop := (er = 0 ∧ ∀ k, k < n → R k 0) ∨ (er ≠ 0 ∧ ∃ k, k < n ∧ R k er ∧ ∀ j, j < k → R j 0)
theorem FstR.det {R : Nat → Int → Prop} {n : Nat} {e e' : Int} (hR : ∀ k x y, R k x → R k y → x = y) (h : FstR R n e) (h' : FstR R n e') : e = e' := by
  rcases h with ⟨rfl, h⟩ | ⟨h0, k, hk, h1, h2⟩ <;> rcases h' with ⟨rfl, h'⟩ | ⟨h0', k', hk', h1', h2'⟩
  · rfl
  · exact hR _ _ _ (h k' hk') h1'
  · exact hR _ _ _ h1 (h' k hk)
  · rcases Nat.lt_trichotomy k k' with hl | rfl | hl
    · exact absurd (hR _ _ _ h1 (h2' k hl)) h0
    · exact hR _ _ _ h1 h1'
    · exact absurd (hR _ _ _ h1' (h2 k' hl)) h0'
theorem FstR.all {R : Nat → Int → Prop} {n : Nat} (h : ∀ k, k < n → R k 0) : FstR R n 0 := .inl ⟨rfl, h⟩
theorem FstR.at {R : Nat → Int → Prop} {n k : Nat} {er : Int} (h : ∀ j, j < k → R j 0) (hk : k < n) (h1 : R k er) (h0 : er ≠ 0) : FstR R n er := .inr ⟨h0, k, hk, h1, h⟩
/-- Are there other bits than some? -/
def accB (k x : Int) : Bool := bits .andNot .i64 x k != 0
/-- A member's name and descriptor; its name, with what is asked ahead of it. -/
def mbO (P : List L3.Cp.C) (m : Mb) : (ByteArray × ByteArray) × Int :=
  if (L3.txO P m.nm).2 ≠ 0 then ((⟨#[]⟩, ⟨#[]⟩), (L3.txO P m.nm).2) else if (L3.txO P m.ds).2 ≠ 0 then ((⟨#[]⟩, ⟨#[]⟩), (L3.txO P m.ds).2)
  else (((L3.txO P m.nm).1, (L3.txO P m.ds).1), 0)
def nmO (P : List L3.Cp.C) (m : Mb) : (ByteArray × ByteArray) × Int :=
  if accB 9 m.ac = true then ((⟨#[]⟩, ⟨#[]⟩), 42) else if (mbO P m).2 ≠ 0 then ((⟨#[]⟩, ⟨#[]⟩), (mbO P m).2) else ((mbO P m).1, L2.memE (L2.Ds.bl (mbO P m).1.1))
/-- A class's index. -/
def claE (P : List L3.Cp.C) (i : Int) : Int := if (L3.clO P i).2 ≠ 0 then (L3.clO P i).2 else L2.nameE (L2.Ds.bl (L3.clO P i).1)
def HdIs (c : Cl) (er : Int) : Prop :=
  if verB c.mi c.ma = false then er = 41 else ∃ pk, L3.CkIs c.pool pk ∧ (if pk ≠ 0 then er = pk else if accB 33 c.ac = true then er = 42 else if claE c.pool c.th ≠ 0 then er = claE c.pool c.th
    else if claE c.pool c.su ≠ 0 then er = claE c.pool c.su else if 256 < c.fs.length ∨ 256 < c.ms.length then er = 3 else er = 0)
/-- The names of the members ahead of one. -/
def ahead (P : List L3.Cp.C) (ms : List Mb) (k : Nat) : List (ByteArray × ByteArray) := (ms.take k).map fun m => (mbO P m).1
/-- Is a name among some? -/
def inB (n : ByteArray × ByteArray) (ah : List (ByteArray × ByteArray)) : Bool := ah.any fun x => decide (x.1 = n.1 ∧ x.2 = n.2)
def plainM (m : Mb) : Bool := decide (m.st = 0 ∧ m.lc = 0 ∧ m.code.length = 0 ∧ m.hs.length = 0)
def initS : ByteArray := ⟨#[60, 105, 110, 105, 116, 62]⟩
def fdE (P : List L3.Cp.C) (ah : List (ByteArray × ByteArray)) (m : Mb) : Int :=
  if (nmO P m).2 ≠ 0 then (nmO P m).2 else if (L2.fdOut (L2.Ds.bl (nmO P m).1.2)).2 ≠ 0 then (L2.fdOut (L2.Ds.bl (nmO P m).1.2)).2
  else if (nmO P m).1.1 = initS ∨ plainM m = false then 45 else if inB (nmO P m).1 ah = true then 5 else 0
def FdIs (P : List L3.Cp.C) (ms : List Mb) (k : Nat) (er : Int) : Prop := ∃ m, ms[k]? = some m ∧ er = fdE P (ahead P ms k) m
/-- Does an instruction begin at an address? -/
def begB (l : List L1.Op1.Ins) (p : Int) : Bool := l.any fun x => x.p == p
def hdE (P : List L3.Cp.C) (l : List L1.Op1.Ins) (n : Nat) (h : Hn) : Int :=
  if (h.f < h.t ∧ begB l h.f = true ∧ begB l h.a = true ∧ (begB l h.t = true ∨ h.t = (n : Int))) then (if h.y = 0 then 0 else claE P h.y) else 46
def HnIs (P : List L3.Cp.C) (l : List L1.Op1.Ins) (n : Nat) (hs : List Hn) (k : Nat) (er : Int) : Prop := ∃ h, hs[k]? = some h ∧ er = hdE P l n h
def CoIs (P : List L3.Cp.C) (m : Mb) (er : Int) : Prop := ∃ l d, L1.Op1.DecOut m.code l d ∧ (if d ≠ 0 then er = d else if 64 < m.hs.length then er = 3 else FstR (HnIs P l m.code.length m.hs) m.hs.length er)
def statB (m : Mb) : Bool := bits .and .i64 m.ac 8 != 0
def frE (m : Mb) (args : List L2.Ds.Ty) : Int :=
  if m.st < 0 ∨ 64 < m.st ∨ m.lc < 0 ∨ 64 < m.lc then 3 else if m.lc < L2.slotsOf args + (if statB m = true then 0 else 1) then 45 else 0
def meIs (P : List L3.Cp.C) (ah : List (ByteArray × ByteArray)) (m : Mb) (er : Int) : Prop :=
  if (nmO P m).2 ≠ 0 then er = (nmO P m).2 else if (L2.mdOut (L2.Ds.bl (nmO P m).1.2)).2.2 ≠ 0 then er = (L2.mdOut (L2.Ds.bl (nmO P m).1.2)).2.2
  else if inB (nmO P m).1 ah = true then er = 5
  else if (nmO P m).1.1 = initS ∧ (statB m = true ∨ (L2.mdOut (L2.Ds.bl (nmO P m).1.2)).2.1.1 ≠ 0) then er = 45
  else if frE m (L2.mdOut (L2.Ds.bl (nmO P m).1.2)).1 ≠ 0 then er = frE m (L2.mdOut (L2.Ds.bl (nmO P m).1.2)).1 else CoIs P m er
def MeIs (P : List L3.Cp.C) (ms : List Mb) (k : Nat) (er : Int) : Prop := ∃ m, ms[k]? = some m ∧ meIs P (ahead P ms k) m er
def CnIs (c : Cl) (er : Int) : Prop := ∃ r b, L3.FiIs c.pool codeC r b ∧ er = if b = false ∧ 0 < c.ms.length then 43 else 0
def AskIs (c : Cl) : Nat → Int → Prop
  | 0, er => HdIs c er
  | 1, er => FstR (FdIs c.pool c.fs) c.fs.length er
  | 2, er => FstR (MeIs c.pool c.ms) c.ms.length er
  | _, er => CnIs c er
/-- What is wrong with a class first. -/
def ClIs (c : Cl) (er : Int) : Prop := FstR (AskIs c) 4 er
theorem HdIs.det {c : Cl} {e e' : Int} (h : HdIs c e) (h' : HdIs c e') : e = e' := by
  unfold HdIs at h h'
  split at h
  · rename_i hv; rw [if_pos hv] at h'; rw [h, h']
  · rename_i hv
    rw [if_neg hv] at h'
    obtain ⟨p, hp, h⟩ := h
    obtain ⟨p', hp', h'⟩ := h'
    obtain rfl := L3.CkIs.det hp hp'
    (repeat' split at h) <;> simp_all
theorem FdIs.det {P : List L3.Cp.C} {ms : List Mb} (k : Nat) (x y : Int) (h : FdIs P ms k x) (h' : FdIs P ms k y) : x = y := by
  obtain ⟨m, hm, rfl⟩ := h
  obtain ⟨m', hm', rfl⟩ := h'
  rw [hm] at hm'; cases hm'; rfl
theorem HnIs.det {P : List L3.Cp.C} {l : List L1.Op1.Ins} {n : Nat} {hs : List Hn} (k : Nat) (x y : Int) (h : HnIs P l n hs k x) (h' : HnIs P l n hs k y) : x = y := by
  obtain ⟨m, hm, rfl⟩ := h
  obtain ⟨m', hm', rfl⟩ := h'
  rw [hm] at hm'; cases hm'; rfl
theorem CoIs.det {P : List L3.Cp.C} {m : Mb} {e e' : Int} (h : CoIs P m e) (h' : CoIs P m e') : e = e' := by
  obtain ⟨l, d, hd, h⟩ := h
  obtain ⟨l', d', hd', h'⟩ := h'
  obtain ⟨rfl, rfl⟩ := L1.Op1.DecOut.det hd hd'
  split at h
  · rename_i h1; rw [if_pos h1] at h'; rw [h, h']
  · rename_i h1
    rw [if_neg h1] at h'
    split at h
    · rename_i h2; rw [if_pos h2] at h'; rw [h, h']
    · rename_i h2; rw [if_neg h2] at h'; exact FstR.det HnIs.det h h'
theorem meIs.det {P : List L3.Cp.C} {ah : List (ByteArray × ByteArray)} {m : Mb} {e e' : Int} (h : meIs P ah m e) (h' : meIs P ah m e') : e = e' := by
  unfold meIs at h h'
  split at h
  · rename_i h1; rw [if_pos h1] at h'; rw [h, h']
  · rename_i h1
    rw [if_neg h1] at h'
    split at h
    · rename_i h2; rw [if_pos h2] at h'; rw [h, h']
    · rename_i h2
      rw [if_neg h2] at h'
      split at h
      · rename_i h3; rw [if_pos h3] at h'; rw [h, h']
      · rename_i h3
        rw [if_neg h3] at h'
        split at h
        · rename_i h4; rw [if_pos h4] at h'; rw [h, h']
        · rename_i h4
          rw [if_neg h4] at h'
          split at h
          · rename_i h5; rw [if_pos h5] at h'; rw [h, h']
          · rename_i h5; rw [if_neg h5] at h'; exact CoIs.det h h'
theorem MeIs.det {P : List L3.Cp.C} {ms : List Mb} (k : Nat) (x y : Int) (h : MeIs P ms k x) (h' : MeIs P ms k y) : x = y := by
  obtain ⟨m, hm, h⟩ := h
  obtain ⟨m', hm', h'⟩ := h'
  rw [hm] at hm'; cases hm'; exact meIs.det h h'
theorem CnIs.det {c : Cl} {e e' : Int} (h : CnIs c e) (h' : CnIs c e') : e = e' := by
  obtain ⟨r, b, hf, rfl⟩ := h
  obtain ⟨r', b', hf', rfl⟩ := h'
  obtain ⟨rfl, rfl⟩ := L3.FiIs.det hf hf'
  rfl
theorem AskIs.det {c : Cl} (k : Nat) (x y : Int) (h : AskIs c k x) (h' : AskIs c k y) : x = y := by
  match k, h, h' with
  | 0, h, h' => exact HdIs.det h h'
  | 1, h, h' => exact FstR.det FdIs.det h h'
  | 2, h, h' => exact FstR.det MeIs.det h h'
  | _ + 3, h, h' => exact CnIs.det h h'
theorem ClIs.det {c : Cl} {e e' : Int} (h : ClIs c e) (h' : ClIs c e') : e = e' := FstR.det AskIs.det h h'
end Cf
end Go.Proofs.YtjnjnfhboafcgaaGreatDoor
namespace Go.Proofs.YtjnjnfhboafcgaaGreatDoor.Cf
open Go.RowKit

/-- What Decode answers. -/
def DcIs (bs : List UInt8) (c : Cl) (er : Int) : Prop := if 65536 < bs.length then c = K0 ∧ er = 3 else match clP bs with
  | .error e => c = K0 ∧ er = e
  | .ok (d, _) => ∃ e, ClIs d e ∧ (if e = 0 then c = d ∧ er = 0 else c = K0 ∧ er = e)
theorem DcIs.det {bs : List UInt8} {c d : Cl} {e f : Int} (h : DcIs bs c e) (k : DcIs bs d f) : c = d ∧ e = f := by
  unfold DcIs at h k
  split at h
  · rename_i h1; rw [if_pos h1] at k; exact ⟨h.1.trans k.1.symm, h.2.trans k.2.symm⟩
  · rename_i h1
    rw [if_neg h1] at k
    cases hx : clP bs with
    | error er => rw [hx] at h k; exact ⟨h.1.trans k.1.symm, h.2.trans k.2.symm⟩
    | ok y =>
      rw [hx] at h k
      obtain ⟨e1, he, h⟩ := h
      obtain ⟨e2, ke, k⟩ := k
      obtain rfl := ClIs.det he ke
      split at h
      · rename_i h2; rw [if_pos h2] at k; exact ⟨h.1.trans k.1.symm, h.2.trans k.2.symm⟩
      · rename_i h2; rw [if_neg h2] at k; exact ⟨h.1.trans k.1.symm, h.2.trans k.2.symm⟩
/-- Numbers as bytes. -/
def w2 (n : Int) : List Int := [n / 256 % 256, n % 256]
def w4 (n : Int) : List Int := w2 (n / 65536) ++ w2 n
theorem w2_len (n : Int) : (w2 n).length = 2 := rfl
theorem w4_len (n : Int) : (w4 n).length = 4 := rfl
def cB (l : List UInt8) : List Int := l.map fun c => (c.toNat : Int)
def hnB (h : Hn) : List Int := w2 h.f ++ w2 h.t ++ w2 h.a ++ w2 h.y
def fdB (m : Mb) : List Int := w2 m.ac ++ w2 m.nm ++ w2 m.ds ++ w2 0
def attrB (m : Mb) : List Int := w2 m.st ++ w2 m.lc ++ w4 m.code.length ++ cB m.code ++ w2 m.hs.length ++ m.hs.flatMap hnB ++ w2 0
def meB (code : Nat) (m : Mb) : List Int := w2 m.ac ++ w2 m.nm ++ w2 m.ds ++ w2 1 ++ w2 code ++ w4 (attrB m).length ++ attrB m
def clB (c : Cl) : List Int := w4 3405691582 ++ w2 c.mi ++ w2 c.ma ++ L3.putB c.pool ++ w2 c.ac ++ w2 c.th ++ w2 c.su ++ w2 0 ++ w2 c.fs.length ++ c.fs.flatMap fdB ++ w2 c.ms.length ++ c.ms.flatMap (meB (cix c.pool)) ++ w2 0
theorem cix_fi (P : List L3.Cp.C) : L3.FiIs P codeC (cix P) (decide (cix P ≠ 0)) := by
  unfold cix
  cases h : (P.drop 1).findIdx? (fun c => c == codeC) with
  | none =>
    refine .inl ⟨by simp, rfl, fun j hj _ he => ?_⟩
    rw [List.findIdx?_eq_none_iff] at h
    have := h codeC (by
      rw [List.mem_iff_getElem?]
      exact ⟨j - 1, by rw [List.getElem?_drop, show 1 + (j - 1) = j by omega]; exact he⟩)
    simp at this
  | some j =>
    rw [List.findIdx?_eq_some_iff_getElem] at h
    obtain ⟨hlt, h1, h2⟩ := h
    refine .inr ⟨by simp, by simp, by decide, ?_, fun i hi hij he => ?_⟩
    · show P[j + 1]? = some codeC
      have h3 := List.getElem?_eq_getElem hlt
      rw [List.getElem?_drop, Nat.add_comm] at h3
      rw [h3, eq_of_beq h1]
    · have hij' : i < j + 1 := hij
      have h3 := h2 (i - 1) (by omega)
      have h4 : (P.drop 1)[i - 1]? = some codeC := by rw [List.getElem?_drop, show 1 + (i - 1) = i by omega]; exact he
      rw [List.getElem?_eq_some_iff] at h4
      obtain ⟨h5, h6⟩ := h4
      rw [h6] at h3
      simp at h3
theorem fi_cix {P : List L3.Cp.C} {r : Nat} {b : Bool} (h : L3.FiIs P codeC r b) : r = cix P ∧ b = decide (cix P ≠ 0) := L3.FiIs.det h (cix_fi P)
end Go.Proofs.YtjnjnfhboafcgaaGreatDoor.Cf
namespace Go.Proofs.YtjnjnfhboafcgaaGreatDoor
open Go.RowKit

theorem belows1 {w w1 : World} {c : Array Value} {T : TypeId} (hb : Below (w.alloc (.cells c T)).heap.size (w.alloc (.cells c T)) w1) : L3.BX w1 w.heap.size c T ∧ w.heap.size + 1 ≤ w1.heap.size ∧ Below w.heap.size w w1 := by
  have hz := hb.size
  simp only [World.size_alloc] at hz
  exact ⟨(L3.BX.new w c T).below hb (by simp), hz, belows ((Below.refl _ w).alloc (Nat.le_refl _) _) hb (by simp)⟩
theorem boxes2 {w w1 : World} {c m : Array Value} {T U : TypeId} (hb : Below ((w.alloc (.cells c T)).alloc (.cells m U)).heap.size ((w.alloc (.cells c T)).alloc (.cells m U)) w1) :
    L3.BX w1 w.heap.size c T ∧ L3.BX w1 (w.heap.size + 1) m U ∧ w.heap.size + 1 + 1 ≤ w1.heap.size ∧ Below w.heap.size w w1 := by
  obtain ⟨h1, h2, h3⟩ := belows1 hb
  simp only [World.size_alloc] at h1 h2 h3
  obtain ⟨k1, k2, k3⟩ := belows1 (w := w) (c := c) (T := T) (w1 := w1) (by simpa using h3)
  exact ⟨k1, h1, h2, k3⟩
theorem boxes3 {w w1 : World} {c m n : Array Value} {T U V : TypeId} (hb : Below (((w.alloc (.cells c T)).alloc (.cells m U)).alloc (.cells n V)).heap.size (((w.alloc (.cells c T)).alloc (.cells m U)).alloc (.cells n V)) w1) :
    L3.BX w1 w.heap.size c T ∧ L3.BX w1 (w.heap.size + 1) m U ∧ L3.BX w1 (w.heap.size + 1 + 1) n V ∧ w.heap.size + 1 + 1 + 1 ≤ w1.heap.size ∧ Below w.heap.size w w1 := by
  obtain ⟨h1, h2, h3⟩ := belows1 hb
  simp only [World.size_alloc] at h1 h2 h3
  obtain ⟨k1, k2, k3, k4⟩ := boxes2 (w := w) (c := c) (m := m) (T := T) (U := U) (w1 := w1) (by simpa using h3)
  exact ⟨k1, k2, h1, h2, k4⟩
theorem isVersion_any (mi ma : Int) (w : World) : Calls Tryz.prog 99 #[.int .i64 mi, .int .i64 ma] w fun e w' => e = .returned (.bool (Cf.verB mi ma)) ∧ w = w' := by
  unfold Cf.verB
  go_enter Tryz.func99, Tryz.ntmps99
  go_wp2
  all_goals go_ret
  all_goals exact ⟨by first | (simp [*]; done) | (simp [*]; intros; omega), rfl⟩
set_option maxRecDepth 100000 in
theorem checkClassAt_any (P : List L3.Cp.C) (i : Int) (v : Value) (w : World) (hv : Kit.IsS 5 w v P.length (P.flatMap L3.cL)) :
    Calls Tryz.prog 102 #[v, .int .i64 i] w fun e w' => e = .returned (.int .i64 (Cf.claE P i)) ∧ Below w.heap.size w w' := by
  have HC0 := fun W (h : Below w.heap.size w W) => L3.class_at P i v W (hv.below h (Nat.le_refl _))
  unfold Cf.claE
  obtain ⟨⟨s, er⟩, hx⟩ : ∃ x, x = L3.clO P i := ⟨_, rfl⟩
  rw [← hx] at HC0 ⊢
  have HC := hid HC0
  have HN := hid (fun W => L2.className_any s W)
  obtain ⟨a, cap, rfl⟩ := hv.len
  clear HC0 hv hx
  dsimp only
  by_cases h : er = 0
  · subst h
    rw [if_neg (by decide)]
    go_enter Tryz.func102, Tryz.ntmps102
    go_wp2_with (first
      | (go_at_call 61; (with_reducible refine (HC.out _ (by repeat' first | with_reducible exact Below.refl _ _ | with_reducible assumption | with_reducible refine belows_drewN ?_ _ | with_reducible refine Below.drew ?_ | with_reducible refine Below.setCell ?_ ?_ _ | with_reducible refine Below.alloc ?_ ?_ _ | omega | (simp; done) | (simp; omega))).mono ?_); rintro e w1 ⟨rfl, hb1⟩)
      | (go_at_call 68; refine (HN.out _).mono ?_; rintro e w2 ⟨rfl, hb2⟩))
    go_ret
    exact ⟨rfl, belows hb1 hb2 hb1.size⟩
  · rw [if_pos h]
    have hd : (er != 0) = true := by simpa using h
    clear h
    go_enter Tryz.func102, Tryz.ntmps102
    go_wp2_with (go_at_call 61; (with_reducible refine (HC.out _ (by repeat' first | with_reducible exact Below.refl _ _ | with_reducible assumption | with_reducible refine belows_drewN ?_ _ | with_reducible refine Below.drew ?_ | with_reducible refine Below.setCell ?_ ?_ _ | with_reducible refine Below.alloc ?_ ?_ _ | omega | (simp; done) | (simp; omega))).mono ?_); rintro e w1 ⟨rfl, hb1⟩)
    go_ret
    exact ⟨rfl, hb1⟩
def ndV (n : ByteArray × ByteArray) : Value := .agg #[.string ⟨#[]⟩, .string n.1, .string n.2]
def mbV (m : Cf.Mb) (cv hv : Value) : Value := .agg #[.int .i64 m.ac, .int .i64 m.nm, .int .i64 m.ds, .int .i64 m.st, .int .i64 m.lc, cv, hv]
set_option maxRecDepth 100000 in
set_option maxHeartbeats 1000000 in
theorem member_any (c : Cf.Cl) (vs : Array Value) (m : Cf.Mb) (cv hv : Value) (w : World) (h : ClR w vs c) :
    Calls Tryz.prog 24 #[.agg vs, mbV m cv hv] w fun e w' => e = .returned (.tuple #[ndV (Cf.mbO c.pool m).1, .int .i64 (Cf.mbO c.pool m).2]) ∧ Below w.heap.size w w' := by
  obtain ⟨pv, fv, mv, rfl, hp, -, -⟩ := h
  have HA0 := fun W (h : Below w.heap.size w W) => L3.text_at c.pool m.nm pv W (hp.below h (Nat.le_refl _))
  have HB0 := fun W (h : Below w.heap.size w W) => L3.text_at c.pool m.ds pv W (hp.below h (Nat.le_refl _))
  unfold Cf.mbO ndV mbV
  obtain ⟨⟨s, er⟩, hx⟩ : ∃ x, x = L3.txO c.pool m.nm := ⟨_, rfl⟩
  obtain ⟨⟨t, fr⟩, hy⟩ : ∃ x, x = L3.txO c.pool m.ds := ⟨_, rfl⟩
  rw [← hx] at HA0 ⊢
  rw [← hy] at HB0 ⊢
  have HA := hid HA0
  have HB := hid HB0
  obtain ⟨a, cap, rfl⟩ := hp.len
  clear HA0 HB0 hp hx hy
  obtain ⟨n, hn⟩ : ∃ n, n = c.pool.length := ⟨_, rfl⟩
  rw [← hn] at HA HB ⊢
  clear hn
  dsimp only
  by_cases h : er = 0
  · subst h
    rw [if_neg (by decide)]
    by_cases h2 : fr = 0
    · subst h2
      rw [if_neg (by decide)]
      (go_enter Tryz.func24, Tryz.ntmps24; go_wp2_with (first | (go_at_call 63; have _g := B1; (with_reducible refine (HB.out _ B1).mono ?_); rintro e w2 ⟨rfl, hb2⟩; have B2 := belows B1 hb2 (by omega); have bN2 := bN.below hb2 bN.sz; have hz2 := hb2.size; have n0 := bN2.cell 0; have n1 := bN2.cell 1; have n2 := bN2.cell 2; have f0 := bN2.frozen 0; have f1 := bN2.frozen 1; have f2 := bN2.frozen 2; simp at n0 n1 n2; clear hb2) | (go_at_call 63; (with_reducible refine (HA.out _ (by repeat' first | with_reducible exact Below.refl _ _ | with_reducible assumption | with_reducible refine belows_drewN ?_ _ | with_reducible refine Below.drew ?_ | with_reducible refine Below.setCell ?_ ?_ _ | with_reducible refine Below.alloc ?_ ?_ _ | omega | (simp; done) | (simp; omega))).mono ?_); rintro e w1 ⟨rfl, hb1⟩; obtain ⟨bC, bM, bN, hz1, B1⟩ := boxes3 hb1; have c2 := bC.cell 2; have m2 := bM.cell 2; have n0 := bN.cell 0; have n1 := bN.cell 1; have n2 := bN.cell 2; have f0 := bN.frozen 0; have f1 := bN.frozen 1; have f2 := bN.frozen 2; simp at c2 m2 n0 n1 n2; clear bC bM hb1)))
      exact bodyPost_ret (v := .tuple #[.agg #[.string ⟨#[]⟩, .string s, .string t], .int .i64 0]) (by simp [results, Tryz.results24, go_sem, n0, n1, n2]) rfl ⟨rfl, (by repeat' first | with_reducible exact Below.refl _ _ | with_reducible assumption | with_reducible refine belows_drewN ?_ _ | with_reducible refine Below.drew ?_ | with_reducible refine Below.setCell ?_ ?_ _ | with_reducible refine Below.alloc ?_ ?_ _ | omega | (simp; done) | (simp; omega))⟩
    · rw [if_pos h2]
      have hd : (fr != 0) = true := by simpa using h2
      clear h2
      (go_enter Tryz.func24, Tryz.ntmps24; go_wp2_with (first | (go_at_call 63; have _g := B1; (with_reducible refine (HB.out _ B1).mono ?_); rintro e w2 ⟨rfl, hb2⟩; have B2 := belows B1 hb2 (by omega); have bN2 := bN.below hb2 bN.sz; have hz2 := hb2.size; have n0 := bN2.cell 0; have n1 := bN2.cell 1; have n2 := bN2.cell 2; have f0 := bN2.frozen 0; have f1 := bN2.frozen 1; have f2 := bN2.frozen 2; simp at n0 n1 n2; clear hb2) | (go_at_call 63; (with_reducible refine (HA.out _ (by repeat' first | with_reducible exact Below.refl _ _ | with_reducible assumption | with_reducible refine belows_drewN ?_ _ | with_reducible refine Below.drew ?_ | with_reducible refine Below.setCell ?_ ?_ _ | with_reducible refine Below.alloc ?_ ?_ _ | omega | (simp; done) | (simp; omega))).mono ?_); rintro e w1 ⟨rfl, hb1⟩; obtain ⟨bC, bM, bN, hz1, B1⟩ := boxes3 hb1; have c2 := bC.cell 2; have m2 := bM.cell 2; have n0 := bN.cell 0; have n1 := bN.cell 1; have n2 := bN.cell 2; have f0 := bN.frozen 0; have f1 := bN.frozen 1; have f2 := bN.frozen 2; simp at c2 m2 n0 n1 n2; clear bC bM hb1)))
      exact bodyPost_ret (v := .tuple #[.agg #[.string ⟨#[]⟩, .string ⟨#[]⟩, .string ⟨#[]⟩], .int .i64 fr]) (by simp [results, Tryz.results24, go_sem, n0, n1, n2]) rfl ⟨rfl, (by repeat' first | with_reducible exact Below.refl _ _ | with_reducible assumption | with_reducible refine belows_drewN ?_ _ | with_reducible refine Below.drew ?_ | with_reducible refine Below.setCell ?_ ?_ _ | with_reducible refine Below.alloc ?_ ?_ _ | omega | (simp; done) | (simp; omega))⟩
  · rw [if_pos h]
    have hd : (er != 0) = true := by simpa using h
    clear h
    (go_enter Tryz.func24, Tryz.ntmps24; go_wp2_with (first | (go_at_call 63; have _g := B1; (with_reducible refine (HB.out _ B1).mono ?_); rintro e w2 ⟨rfl, hb2⟩; have B2 := belows B1 hb2 (by omega); have bN2 := bN.below hb2 bN.sz; have hz2 := hb2.size; have n0 := bN2.cell 0; have n1 := bN2.cell 1; have n2 := bN2.cell 2; have f0 := bN2.frozen 0; have f1 := bN2.frozen 1; have f2 := bN2.frozen 2; simp at n0 n1 n2; clear hb2) | (go_at_call 63; (with_reducible refine (HA.out _ (by repeat' first | with_reducible exact Below.refl _ _ | with_reducible assumption | with_reducible refine belows_drewN ?_ _ | with_reducible refine Below.drew ?_ | with_reducible refine Below.setCell ?_ ?_ _ | with_reducible refine Below.alloc ?_ ?_ _ | omega | (simp; done) | (simp; omega))).mono ?_); rintro e w1 ⟨rfl, hb1⟩; obtain ⟨bC, bM, bN, hz1, B1⟩ := boxes3 hb1; have c2 := bC.cell 2; have m2 := bM.cell 2; have n0 := bN.cell 0; have n1 := bN.cell 1; have n2 := bN.cell 2; have f0 := bN.frozen 0; have f1 := bN.frozen 1; have f2 := bN.frozen 2; simp at c2 m2 n0 n1 n2; clear bC bM hb1)))
    exact bodyPost_ret (v := .tuple #[.agg #[.string ⟨#[]⟩, .string ⟨#[]⟩, .string ⟨#[]⟩], .int .i64 er]) (by simp [results, Tryz.results24, go_sem, n0, n1, n2]) rfl ⟨rfl, (by repeat' first | with_reducible exact Below.refl _ _ | with_reducible assumption | with_reducible refine belows_drewN ?_ _ | with_reducible refine Below.drew ?_ | with_reducible refine Below.setCell ?_ ?_ _ | with_reducible refine Below.alloc ?_ ?_ _ | omega | (simp; done) | (simp; omega))⟩
end Go.Proofs.YtjnjnfhboafcgaaGreatDoor
namespace Go.Proofs.YtjnjnfhboafcgaaGreatDoor
open Go.RowKit
theorem A.laid : laidOutB Tryz.prog = true := by kernel_rfl
theorem A.keyT : Tryz.prog.keyType 44 = true := by kernel_rfl
theorem A.keyed : Maps.Keyed Tryz.prog 44 := Maps.Keyed.of_law (deep_law_laid A.laid (m := 3) (by omega) (of_decide_eq_true (by kernel_rfl)) (by kernel_rfl) (by kernel_rfl))
theorem A.tsz : ∃ k, Tryz.prog.types.size + 1 = k + 2 := ⟨Tryz.prog.types.size - 1, by have : 1 ≤ Tryz.prog.types.size := of_decide_eq_true (by kernel_rfl); omega⟩
theorem A.litsN (a b c : ByteArray) (h1 : a.size ≤ maxLen) (h2 : b.size ≤ maxLen) (h3 : c.size ≤ maxLen) : Tryz.prog.keyLits (Tryz.prog.types.size + 1) 44 [.string a, .string b, .string c] = some [.string a.data.toList, .string b.data.toList, .string c.data.toList] := by
  obtain ⟨k, hk⟩ := A.tsz
  have c1 : Tryz.prog.cellsOf 44 = 3 := by kernel_rfl
  have c2 : Tryz.prog.cellsOf 9 = 1 := by kernel_rfl
  rw [hk]
  simp [Program.keyLits, Tryz.underlying44, Tryz.underlying9, c1, c2, h1, h2, h3]
theorem A.keyN (a b c : ByteArray) (h1 : a.size ≤ maxLen) (h2 : b.size ≤ maxLen) (h3 : c.size ≤ maxLen) : keyOf Tryz.prog 44 (.agg #[.string a, .string b, .string c]) = some (.string (keyBytes [.string a.data.toList, .string b.data.toList, .string c.data.toList])) := by
  have c1 : Tryz.prog.cellsOf 44 = 3 := by kernel_rfl
  unfold keyOf
  rw [Tryz.underlying44]
  dsimp only
  rw [if_pos (by simp [A.keyT, Value.formed, Tryz.underlying44, c1])]
  show Option.map _ (Tryz.prog.keyLits (Tryz.prog.types.size + 1) 44 [.string a, .string b, .string c]) = _
  rw [A.litsN a b c h1 h2 h3]
  rfl
theorem A.zeroUnit (w : World) : (zeroValue 178).run Tryz.prog w = .ok (.agg #[]) w := by kernel_rfl
/-- A name as a key. -/
def kl (n : ByteArray × ByteArray) : Lit := .string (keyBytes [.string [], .string n.1.data.toList, .string n.2.data.toList])
def Fits (n : ByteArray × ByteArray) : Prop := n.1.size ≤ maxLen ∧ n.2.size ≤ maxLen
theorem key_of (n : ByteArray × ByteArray) (h : Fits n) : keyOf Tryz.prog 44 (ndV n) = some (kl n) := A.keyN ⟨#[]⟩ n.1 n.2 (by unfold maxLen; decide) h.1 h.2
theorem ba_eq {a b : ByteArray} (h : a.data.toList = b.data.toList) : a = b := by
  cases a; cases b
  simp only [ByteArray.mk.injEq]
  exact Array.toList_inj.1 h
theorem kl_inj {n m : ByteArray × ByteArray} (hn : Fits n) (hm : Fits m) (h : kl n = kl m) : n = m := by
  have h1 := A.litsN ⟨#[]⟩ n.1 n.2 (by unfold maxLen; decide) hn.1 hn.2
  have h2 := A.litsN ⟨#[]⟩ m.1 m.2 (by unfold maxLen; decide) hm.1 hm.2
  have h3 := keyLits_inj h1 h2 (Lit.string.inj h)
  simp only [List.cons.injEq, Lit.string.injEq, and_true, true_and] at h3
  exact Prod.ext (ba_eq h3.1) (ba_eq h3.2)
/-- A map that is the set of some names. -/
def NmM (w : World) (mb : Nat) (ah : List (ByteArray × ByteArray)) : Prop := ∃ D : DataW Unit, w.ownsMap Tryz.prog 44 unitElem mb ah.length D ∧ (∀ n, Fits n → Maps.has D (kl n) = Cf.inB n ah) ∧ ∀ n ∈ ah, Fits n
theorem NmM.new (w : World) : NmM (w.alloc (.map #[] 0)) w.heap.size [] := ⟨.map [], World.ownsMap_made w _ _ _, fun _ _ => rfl, fun _ h => by cases h⟩
theorem NmM.keep {w w' : World} {mb : Nat} {ah : List (ByteArray × ByteArray)} (h : NmM w mb ah) (hb : w'.heap[mb]? = w.heap[mb]?) : NmM w' mb ah := by
  obtain ⟨D, ⟨es, clock, h1, h2, h3, h4⟩, hd⟩ := h
  exact ⟨D, ⟨es, clock, hb.trans h1, h2, h3, h4⟩, hd⟩
theorem NmM.lt {w : World} {mb : Nat} {ah : List (ByteArray × ByteArray)} (h : NmM w mb ah) : mb < w.heap.size := by
  obtain ⟨D, ⟨es, clock, h1, -⟩, -⟩ := h
  exact (Array.getElem?_eq_some_iff.1 h1).1
theorem inB_snoc (n m : ByteArray × ByteArray) (ah : List (ByteArray × ByteArray)) : Cf.inB n (ah ++ [m]) = (Cf.inB n ah || decide (m.1 = n.1 ∧ m.2 = n.2)) := by
  unfold Cf.inB
  rw [List.any_append]
  simp
theorem NmM.look {w : World} {mb : Nat} {ah : List (ByteArray × ByteArray)} (h : NmM w mb ah) (n : ByteArray × ByteArray) (hn : Fits n) :
    (Instr.lookup 129 (.map (some mb)) (ndV n) true).run Tryz.prog w = .ok (.tuple #[.agg #[], .bool (Cf.inB n ah)]) w := by
  obtain ⟨D, h1, h2, -⟩ := h
  obtain ⟨v, ps, hrun, hv⟩ := h1.look_ok A.keyed Tryz.underlying129 (A.zeroUnit w) unitElem_mk (key_of n hn)
  obtain ⟨rfl, -⟩ := unitElem_inv hv
  rw [hrun, h2 n hn]
theorem NmM.put {w : World} {mb : Nat} {ah : List (ByteArray × ByteArray)} (h : NmM w mb ah) (n : ByteArray × ByteArray) (hn : Fits n) (hl : ah.length < maxLen) :
    ∃ w', (Instr.mapUpdate 129 (.map (some mb)) (ndV n) (.agg #[])).run Tryz.prog w = .ok () w' ∧ NmM w' mb (ah ++ [n]) ∧ w.grownBy w' (some mb) := by
  obtain ⟨D, h1, h2, h3⟩ := h
  obtain ⟨w', hr, ho, hg⟩ := h1.update A.keyed Tryz.underlying129 hl (key_of n hn) unitElem_mk
  refine ⟨w', hr, ⟨_, by rw [List.length_append]; exact ho, fun m hm => ?_, fun m hm => ?_⟩, hg⟩
  · rw [inB_snoc]
    by_cases e : m = n
    · subst e
      rw [Maps.has_put_same h1.isMap (by trivial) _]
      simp
    · rw [Maps.has_put_other (fun k => e (kl_inj hm hn k)), h2 m hm]
      have : decide (n.1 = m.1 ∧ n.2 = m.2) = false := by
        rw [decide_eq_false_iff_not]
        exact fun k => e (Prod.ext k.1.symm k.2.symm)
      rw [this, Bool.or_false]
  · rcases List.mem_append.1 hm with hm | hm
    · exact h3 m hm
    · rw [List.mem_singleton] at hm; subst hm; exact hn
end Go.Proofs.YtjnjnfhboafcgaaGreatDoor
namespace Go.Proofs.YtjnjnfhboafcgaaGreatDoor
open Go.RowKit

/-- A reader, what is left of its bytes, and its Code index. -/
def Rdr (w : World) (pb : Nat) (code : Int) (bs : List UInt8) : Prop := ∃ v, w.heap[pb]? = some (.cells #[v, .int .i64 code] 60 (0, 0)) ∧ L3.Bs pb w v bs
theorem Rdr.sz {w : World} {pb : Nat} {code : Int} {bs : List UInt8} (h : Rdr w pb code bs) : pb < w.heap.size := by obtain ⟨v, h, -⟩ := h; exact (Array.getElem?_eq_some_iff.1 h).1
theorem Rdr.below {w w' : World} {pb n : Nat} {code : Int} {bs : List UInt8} (h : Rdr w pb code bs) (hb : Below n w w') (hp : pb < n) : Rdr w' pb code bs := by
  obtain ⟨v, h, k⟩ := h
  exact ⟨v, (hb.block pb hp).trans h, k.below hb (by omega)⟩
theorem Rdr.grown {w w' : World} {pb : Nat} {code : Int} {bs : List UInt8} {row : Option Nat} (h : Rdr w pb code bs) (hg : w.grownBy w' row) (hne : ∀ k, row = some k → pb < k) : Rdr w' pb code bs := by
  have hs := h.sz
  obtain ⟨v, h, k⟩ := h
  have hb := fun b (hb : b ≤ pb) => hg.block b (by omega) (fun e => by have := hne b e.symm; omega)
  exact ⟨v, (hb pb (Nat.le_refl _)).trans h, k.same fun b o hl => World.cell?_of_block (hb b (by omega))⟩
def Stp (pb : Nat) (code : Int) (bs : List UInt8) (w w' : World) : Prop := w.grownBy w' (some pb) ∧ Rdr w' pb code bs
/-- What a method of the reader leaves: it gives up, or it has read something. -/
def RP {α : Type} (pb : Nat) (code : Int) (x : Except Int (α × List UInt8)) (V : World → Nat → Value → α → Prop) (w : World) (e : Ending) (w' : World) : Prop :=
  (∃ er, x = .error er ∧ e = L3.pan er ∧ w.grownBy w' (some pb)) ∨ (∃ a r v, x = .ok (a, r) ∧ e = .returned v ∧ V w' w.heap.size v a ∧ Stp pb code r w w')
def VI (_ : World) (_ : Nat) (v : Value) (n : Int) : Prop := v = .int .i64 n
def VU (_ : World) (_ : Nat) (v : Value) (_ : Unit) : Prop := v = .tuple #[]
def VB (pb : Nat) (w : World) (_ : Nat) (v : Value) (l : List UInt8) : Prop := L3.Bs pb w v l
theorem want_yes (pb : Nat) (er : Int) (w : World) : Calls Tryz.prog 131 #[.pointer (some ⟨pb, 0, none⟩), .bool true, .int .i64 er] w fun e w' => e = .returned (.tuple #[]) ∧ w = w' := by
  go_enter Tryz.func131, Tryz.ntmps131
  go_wp2
  exact bodyPost_end (results_none rfl _ _ _) rfl ⟨rfl, rfl⟩
theorem want_no (pb : Nat) (er : Int) (w : World) : Calls Tryz.prog 131 #[.pointer (some ⟨pb, 0, none⟩), .bool false, .int .i64 er] w fun e w' => e = L3.pan er ∧ w = w' := by
  unfold L3.pan
  go_enter Tryz.func131, Tryz.ntmps131
  go_wp2
  exact ⟨rfl, rfl, rfl⟩
theorem bx_set {w : World} {pb : Nat} {v x : Value} (h : w.heap[pb]? = some (.cells #[v, x] 60 (0, 0))) (u : Value) : (w.setCell ⟨pb, 0, none⟩ u).heap[pb]? = some (.cells #[u, x] 60 (0, 0)) := by
  obtain ⟨hlt, hk⟩ := Array.getElem?_eq_some_iff.1 h
  show (w.heap.modify pb _)[pb]? = _
  rw [Array.getElem?_eq_getElem (by rw [Array.size_modify]; exact hlt), Array.getElem_modify_self, hk]
  rfl
set_option maxRecDepth 100000 in
theorem take_bad (pb k : Nat) (code : Int) (bs : List UInt8) (w : World) (hr : Rdr w pb code bs) (h : bs.length < k) :
    Calls Tryz.prog 165 #[.pointer (some ⟨pb, 0, none⟩), .int .i64 k] w fun e w' => e = L3.pan 30 ∧ w = w' := by
  obtain ⟨v, hb, hv⟩ := hr
  obtain ⟨a, cap, rfl⟩ := hv.len
  have cl : w.cell? ⟨pb, 0, none⟩ = some (.slice a bs.length cap) := by simp [World.cell?, hb]
  have hd : decide ((k : Int) ≤ (bs.length : Int)) = false := by simp; omega
  have hd2 : decide (k ≤ bs.length) = false := by simp; omega
  have hl := hv.1
  have HN := hid (want_no pb 30)
  unfold L3.pan at HN ⊢
  clear hb hv h
  go_enter Tryz.func165, Tryz.ntmps165
  go_wp2_with (go_at_call 131; (with_reducible refine (HN.out _).mono ?_); rintro e w1 ⟨rfl, rfl⟩)
  exact ⟨rfl, rfl, rfl⟩
set_option maxRecDepth 100000 in
set_option maxHeartbeats 400000 in
theorem take_ok (pb k : Nat) (code : Int) (bs : List UInt8) (w : World) (hr : Rdr w pb code bs) (h : k ≤ bs.length) :
    Calls Tryz.prog 165 #[.pointer (some ⟨pb, 0, none⟩), .int .i64 k] w fun e w' => ∃ v, e = .returned v ∧ L3.Bs pb w' v (bs.take k) ∧ Stp pb code (bs.drop k) w w' := by
  obtain ⟨v, hb, hv⟩ := hr
  have hl := hv.1
  have HN := hid (want_yes pb 30)
  rcases hv.2 with ⟨rfl, a, cap, rfl⟩ | ⟨b, o, cap, rfl, hcap, hlim, hc⟩
  · obtain rfl : k = 0 := by simpa using h
    have cl : w.cell? ⟨pb, 0, none⟩ = some (.slice a 0 cap) := by simp [World.cell?, hb]
    have fz : w.frozen? ⟨pb, 0, none⟩ = false := by simp [World.frozen?, hb]
    clear hv h hl
    have Hb := hid hb
    clear hb
    cases a with
    | none =>
      go_enter Tryz.func165, Tryz.ntmps165
      go_wp2_with (go_at_call 131; refine (HN.out _).mono ?_; rintro e w1 ⟨rfl, rfl⟩)
      all_goals
        go_ret
        refine ⟨_, rfl, ⟨by simp, .inl ⟨rfl, _, _, rfl⟩⟩, L3.grownBy_setCell' _ _ _, _, bx_set Hb.out _, by simp, .inl ⟨rfl, _, _, rfl⟩⟩
    | some ad =>
      go_enter Tryz.func165, Tryz.ntmps165
      go_wp2_with (go_at_call 131; refine (HN.out _).mono ?_; rintro e w1 ⟨rfl, rfl⟩)
      all_goals
        go_ret
        refine ⟨_, rfl, ⟨by simp, .inl ⟨rfl, _, _, rfl⟩⟩, L3.grownBy_setCell' _ _ _, _, bx_set Hb.out _, by simp, .inl ⟨rfl, _, _, rfl⟩⟩
  · have cl : w.cell? ⟨pb, 0, none⟩ = some (.slice (some ⟨b, o, none⟩) bs.length cap) := by simp [World.cell?, hb]
    have fz : w.frozen? ⟨pb, 0, none⟩ = false := by simp [World.frozen?, hb]
    have hd : decide ((k : Int) ≤ (bs.length : Int)) = true := by simp; omega
    have Hb := hid hb
    have HC := hid hc
    have HK := hid h
    clear hv hb hc
    go_enter Tryz.func165, Tryz.ntmps165
    go_wp2_with (go_at_call 131; refine (HN.out _).mono ?_; rintro e w1 ⟨rfl, rfl⟩)
    all_goals
      go_ret
      refine ⟨_, rfl, ?_, L3.grownBy_setCell' _ _ _, _, bx_set Hb.out _, ?_⟩
    · refine ⟨by rw [List.length_take]; omega, .inr ⟨b, o, _, by rw [List.length_take, Nat.min_eq_left HK.out]; rfl, by rw [List.length_take]; omega, hlim, fun i c hi => ?_⟩⟩
      rw [L3.set_cell_other _ _ _ _ _ hlim]
      exact HC.out i c (L3.take_at hi)
    · have hk : bs.length = k := by have := HK.out; omega
      exact ⟨by rw [List.length_drop]; omega, .inl ⟨List.drop_eq_nil_of_le (by omega), _, _, by rw [hk, Nat.sub_self]⟩⟩
    · refine ⟨by rw [List.length_take]; omega, .inr ⟨b, o, _, by rw [List.length_take, Nat.min_eq_left HK.out]; rfl, by rw [List.length_take]; have := HK.out; omega, hlim, fun i c hi => ?_⟩⟩
      rw [L3.set_cell_other _ _ _ _ _ hlim]
      exact HC.out i c (L3.take_at hi)
    · refine ⟨by rw [List.length_drop]; omega, .inr ⟨b, o + k, _, by rw [List.length_drop], by rw [List.length_drop]; omega, hlim, fun i c hi => ?_⟩⟩
      rw [L3.set_cell_other _ _ _ _ _ hlim, Nat.add_assoc]
      exact HC.out (k + i) c (L3.drop_at hi)
theorem grown_refl' (w : World) (row : Option Nat) : w.grownBy w row := ⟨rfl, rfl, rfl, Nat.le_refl _, fun _ _ _ => rfl⟩
theorem take_any (pb k : Nat) (code : Int) (bs : List UInt8) (w : World) (hr : Rdr w pb code bs) :
    Calls Tryz.prog 165 #[.pointer (some ⟨pb, 0, none⟩), .int .i64 k] w (RP pb code (Cf.takeP k bs) (VB pb) w) := by
  unfold Cf.takeP
  by_cases h : k ≤ bs.length
  · rw [if_pos h]
    refine (take_ok pb k code bs w hr h).mono ?_
    rintro e w' ⟨v, rfl, h1, h2⟩
    exact .inr ⟨_, _, v, rfl, rfl, h1, h2⟩
  · rw [if_neg h]
    refine (take_bad pb k code bs w hr (by omega)).mono ?_
    rintro e w' ⟨rfl, rfl⟩
    exact .inl ⟨_, rfl, rfl, grown_refl' _ _⟩
theorem shl8 (a b : Nat) (ha : a < 256) (hb : b < 256) : bits .or .i64 ((a : Int) * 256) (b : Int) = (a : Int) * 256 + (b : Int) := by
  have h := L3.Cp.or_step (a : Int) b hb
  rw [L3.Cp.w64, L3.Cp.w64] at h
  rw [show ((a : Int) * 256 + 9223372036854775808) % 18446744073709551616 - 9223372036854775808 = (a : Int) * 256 by omega] at h
  rw [h]
  omega
set_option maxRecDepth 100000 in
set_option maxHeartbeats 400000 in
theorem u2_any (pb : Nat) (code : Int) (bs : List UInt8) (w : World) (hr : Rdr w pb code bs) :
    Calls Tryz.prog 133 #[.pointer (some ⟨pb, 0, none⟩)] w (RP pb code (Cf.u2 bs) VI w) := by
  by_cases h : 2 ≤ bs.length
  · match bs, h with
    | a :: b :: r, h =>
    have HT0 := take_ok pb 2 code (a :: b :: r) w hr h
    have HT := hid HT0
    have hab := shl8 a.toNat b.toNat (L3.Cp.u8_lt a) (L3.Cp.u8_lt b)
    have ha := L3.Cp.u8_lt a
    have hb := L3.Cp.u8_lt b
    clear HT0 hr
    unfold RP
    go_enter Tryz.func133, Tryz.ntmps133
    go_wp2_with (go_at_call 165; refine HT.out.mono ?_; rintro e w1 ⟨v, rfl, hv, hs⟩; obtain ⟨bb, o, cap, rfl, hbb, c0⟩ := (show ∃ bb o cap, v = .slice (some ⟨bb, o, none⟩) 2 cap ∧ bb < pb ∧ (w1.cell? ⟨bb, o, none⟩ = some (.int .u8 (a.toNat : Int)) ∧ w1.cell? ⟨bb, o + 1, none⟩ = some (.int .u8 (b.toNat : Int))) from (by (rcases hv.2 with ⟨h9, -⟩ | ⟨bb, o, cap, hv1, -, hlim, hc⟩); (· simp at h9); (· exact ⟨bb, o, cap, hv1, hlim, hc 0 a rfl, hc 1 b rfl⟩))); obtain ⟨c0, c1⟩ := c0; have HS := hid hs; clear hv hs)
    go_quiet (fail)
    go_wp2
    go_ret
    refine .inr ⟨_, _, _, rfl, rfl, ?_, ?_⟩
    · unfold VI; simp
    · have h1 := HS.out
      exact ⟨⟨h1.1.os, h1.1.tape, h1.1.output, h1.1.size, h1.1.block⟩, h1.2.below (n := w1.heap.size) (by repeat' first | with_reducible exact Below.refl _ _ | with_reducible assumption | with_reducible refine belows_drewN ?_ _ | with_reducible refine Below.drew ?_ | with_reducible refine Below.setCell ?_ ?_ _ | with_reducible refine Below.alloc ?_ ?_ _ | omega | (simp; done) | (simp; omega)) (by have := h1.2.sz; omega)⟩
  · have hx : Cf.u2 bs = .error 30 := by
      match bs, h with
      | [], _ => rfl
      | [_], _ => rfl
      | _ :: _ :: _, h => simp at h
    have HT := hid (take_bad pb 2 code bs w hr (by omega))
    unfold L3.pan at HT
    clear hr h
    unfold RP L3.pan
    go_enter Tryz.func133, Tryz.ntmps133
    go_wp2_with (go_at_call 165; refine HT.out.mono ?_; rintro e w1 ⟨rfl, rfl⟩)
    exact ⟨rfl, .inl ⟨_, hx, rfl, grown_refl' _ _⟩⟩
end Go.Proofs.YtjnjnfhboafcgaaGreatDoor
namespace Go.Proofs.YtjnjnfhboafcgaaGreatDoor
open Go.RowKit

theorem grown_al {w W : World} {r : Option Nat} (h : w.grownBy W r) (o : Obj) : w.grownBy (W.alloc o) r :=
  ⟨h.os, h.tape, h.output, by rw [World.size_alloc]; have := h.size; omega, fun i hi hne => ((((Below.refl W.heap.size W).alloc (Nat.le_refl _) o).block i (Nat.lt_of_lt_of_le hi h.size))).trans (h.block i hi hne)⟩
theorem grown_dr {w W : World} {r : Option Nat} (h : w.grownBy W r) : w.grownBy W.drew r := ⟨h.os, h.tape, h.output, h.size, h.block⟩
theorem Cf.u2_range {bs r : List UInt8} {n : Int} (h : Cf.u2 bs = .ok (n, r)) : 0 ≤ n ∧ n < 65536 := by
  match bs, h with
  | a :: b :: _, h =>
    obtain ⟨rfl, -⟩ := Prod.mk.inj (Except.ok.inj h)
    have := L3.Cp.u8_lt a
    have := L3.Cp.u8_lt b
    omega
  | [], h => cases h
  | [_], h => cases h
theorem or16 (a b : Int) (ha : 0 ≤ a ∧ a < 65536) (hb : 0 ≤ b ∧ b < 65536) : bits .or .i64 (a * 65536) b = a * 65536 + b := by
  obtain ⟨m, rfl⟩ := Int.eq_ofNat_of_zero_le ha.1
  obtain ⟨x, rfl⟩ := Int.eq_ofNat_of_zero_le hb.1
  have e1 : (BitVec.ofInt 64 ((m : Int) * 65536)).toNat = m * 65536 := by
    rw [BitVec.toNat_ofInt]
    have : ((m : Int) * 65536) % ((2 ^ 64 : Nat) : Int) = ((m * 65536 : Nat) : Int) := by omega
    rw [this]; omega
  have e2 : (BitVec.ofInt 64 (x : Int)).toNat = x := by
    rw [BitVec.toNat_ofInt]
    have : (x : Int) % ((2 ^ 64 : Nat) : Int) = (x : Int) := by omega
    rw [this]; omega
  have e3 : m * 65536 ||| x = m * 65536 + x := by
    have := Nat.shiftLeft_add_eq_or_of_lt (i := 16) (b := x) (by omega) m
    rw [Nat.shiftLeft_eq] at this
    simp only [Nat.reducePow] at this
    exact this.symm
  show IntKind.i64.wrap ((BitVec.ofInt 64 ((m : Int) * 65536) ||| BitVec.ofInt 64 (x : Int)).toNat : Int) = _
  rw [BitVec.toNat_or, e1, e2, e3]
  exact IntWalk.i64_in _ (by omega)
set_option maxRecDepth 100000 in
set_option maxHeartbeats 400000 in
theorem u4_any (pb : Nat) (code : Int) (bs : List UInt8) (w : World) (hr : Rdr w pb code bs) :
    Calls Tryz.prog 132 #[.pointer (some ⟨pb, 0, none⟩)] w (RP pb code (Cf.u4 bs) VI w) := by
  have HU := hid (fun bs W (h : Rdr W pb code bs) => u2_any pb code bs W h)
  have HR := hr
  have HG := grown_refl' w (some pb)
  obtain ⟨X, HE⟩ : ∃ X, Cf.u4 bs = X := ⟨_, rfl⟩
  rw [HE]
  unfold Cf.u4 at HE
  unfold RP L3.pan VI at HU ⊢
  clear hr
  go_enter Tryz.func132, Tryz.ntmps132
  go_wp2_with (go_at_call 133; refine (HU.out _ _ (by first | exact HR | exact HR.below (n := pb + 1) (by repeat' first | with_reducible exact Below.refl _ _ | with_reducible assumption | with_reducible refine belows_drewN ?_ _ | with_reducible refine Below.drew ?_ | with_reducible refine Below.setCell ?_ ?_ _ | with_reducible refine Below.alloc ?_ ?_ _ | omega | (simp; done) | (simp; omega)) (Nat.lt_succ_self pb))).mono ?_; rintro e W h; rcases h with ⟨er, hx, rfl, hg⟩ | ⟨n, r, v, hx, rfl, rfl, hs⟩; all_goals (first | (rw [Cf.bnd_err hx] at HE; have HG : w.grownBy W (some pb) := L3.grown_trans (by repeat' first | with_reducible assumption | with_reducible exact grown_refl' _ _ | with_reducible refine L3.grown_set ?_ ?_ _ _ | with_reducible refine grown_al ?_ _ | with_reducible refine grown_dr ?_ | omega | (simp only [World.size_alloc, World.size_setCell]; omega)) hg) | (have hn := Cf.u2_range hx; rw [Cf.bnd_ok hx] at HE; have HG : w.grownBy W (some pb) := L3.grown_trans (by repeat' first | with_reducible assumption | with_reducible exact grown_refl' _ _ | with_reducible refine L3.grown_set ?_ ?_ _ _ | with_reducible refine grown_al ?_ _ | with_reducible refine grown_dr ?_ | omega | (simp only [World.size_alloc, World.size_setCell]; omega)) hs.1; have HR := hs.2; have hz := HG.size; have hp := HR.sz)); clear hx)
  · (exact ⟨rfl, .inl ⟨_, HE.symm, rfl, HG⟩⟩)
  · (exact ⟨rfl, .inl ⟨_, HE.symm, rfl, HG⟩⟩)
  · go_ret
    exact .inr ⟨_, _, _, HE.symm, rfl, by simp; exact or16 _ _ (by assumption) (by assumption), HG, HR⟩
set_option maxRecDepth 100000 in
set_option maxHeartbeats 400000 in
theorem none_any (pb : Nat) (code : Int) (bs : List UInt8) (w : World) (hr : Rdr w pb code bs) :
    Calls Tryz.prog 135 #[.pointer (some ⟨pb, 0, none⟩)] w (RP pb code (Cf.noneP bs) VU w) := by
  have HU := hid (fun bs W (h : Rdr W pb code bs) => u2_any pb code bs W h)
  have HR := hr
  have HG := grown_refl' w (some pb)
  obtain ⟨X, HE⟩ : ∃ X, Cf.noneP bs = X := ⟨_, rfl⟩
  rw [HE]
  have HY := hid (want_yes pb 43)
  have HN := hid (want_no pb 43)
  unfold Cf.noneP at HE
  unfold RP L3.pan VI VU at *
  clear hr
  go_enter Tryz.func135, Tryz.ntmps135
  go_wp2_with (first | (go_at_call 133; refine (HU.out _ _ (by first | exact HR | exact HR.below (n := pb + 1) (by repeat' first | with_reducible exact Below.refl _ _ | with_reducible assumption | with_reducible refine belows_drewN ?_ _ | with_reducible refine Below.drew ?_ | with_reducible refine Below.setCell ?_ ?_ _ | with_reducible refine Below.alloc ?_ ?_ _ | omega | (simp; done) | (simp; omega)) (Nat.lt_succ_self pb))).mono ?_; rintro e W h; rcases h with ⟨er, hx, rfl, hg⟩ | ⟨n, r, v, hx, rfl, rfl, hs⟩; all_goals (first | (rw [Cf.bnd_err hx] at HE; have HG : w.grownBy W (some pb) := L3.grown_trans (by repeat' first | with_reducible assumption | with_reducible exact grown_refl' _ _ | with_reducible refine L3.grown_set ?_ ?_ _ _ | with_reducible refine grown_al ?_ _ | with_reducible refine grown_dr ?_ | omega | (simp only [World.size_alloc, World.size_setCell]; omega)) hg) | (have hn := Cf.u2_range hx; rw [Cf.bnd_ok hx] at HE; have HG : w.grownBy W (some pb) := L3.grown_trans (by repeat' first | with_reducible assumption | with_reducible exact grown_refl' _ _ | with_reducible refine L3.grown_set ?_ ?_ _ _ | with_reducible refine grown_al ?_ _ | with_reducible refine grown_dr ?_ | omega | (simp only [World.size_alloc, World.size_setCell]; omega)) hs.1; have HR := hs.2; have hz := HG.size; have hp := HR.sz)); clear hx) | (go_at_call 131; obtain ⟨x, hx⟩ : ∃ x, x = (n == 0) := ⟨_, rfl⟩; rw [← hx] at HE ⊢; clear hx; cases x; all_goals (first | ((with_reducible refine (HN.out _).mono ?_); rintro e w1 ⟨rfl, rfl⟩) | ((with_reducible refine (HY.out _).mono ?_); rintro e w1 ⟨rfl, rfl⟩))))
  · (exact ⟨rfl, .inl ⟨_, HE.symm, rfl, HG⟩⟩)
  · (exact ⟨rfl, .inl ⟨_, HE.symm, rfl, HG⟩⟩)
  · (refine bodyPost_end (results_none rfl _ _ _) rfl ?_; exact .inr ⟨_, _, _, HE.symm, rfl, rfl, HG, HR⟩)
end Go.Proofs.YtjnjnfhboafcgaaGreatDoor
namespace Go.Proofs.YtjnjnfhboafcgaaGreatDoor
open Go.RowKit

def mbV0 (m : Cf.Mb) : Value := .agg #[.int .i64 m.ac, .int .i64 m.nm, .int .i64 m.ds, .int .i64 0, .int .i64 0, .slice none 0 0, .slice none 0 0]
def VM0 (_ : World) (_ : Nat) (v : Value) (m : Cf.Mb) : Prop := v = mbV0 m ∧ m.st = 0 ∧ m.lc = 0 ∧ m.code = [] ∧ m.hs = []
def hnV (h : Cf.Hn) : Value := .agg #[.int .i64 h.f, .int .i64 h.t, .int .i64 h.a, .int .i64 h.y]
def VH (_ : World) (_ : Nat) (v : Value) (h : Cf.Hn) : Prop := v = hnV h
theorem Rdr.keep {w w' : World} {pb : Nat} {code : Int} {bs : List UInt8} (h : Rdr w pb code bs) (hb : Below (pb + 1) w w') : Rdr w' pb code bs := h.below hb (Nat.lt_succ_self pb)
set_option maxRecDepth 100000 in
set_option maxHeartbeats 400000 in
theorem mem_any (pb : Nat) (code : Int) (bs : List UInt8) (w : World) (hr : Rdr w pb code bs) :
    Calls Tryz.prog 167 #[.pointer (some ⟨pb, 0, none⟩)] w (RP pb code (Cf.mbP bs) VM0 w) := by
  have HU := hid (fun bs W (h : Rdr W pb code bs) => u2_any pb code bs W h)
  have HR := hr
  have HG := grown_refl' w (some pb)
  have hp0 := hr.sz
  obtain ⟨X, HE⟩ : ∃ X, Cf.mbP bs = X := ⟨_, rfl⟩
  rw [HE]
  unfold Cf.mbP at HE
  unfold RP L3.pan VI at HU
  unfold RP L3.pan VM0 mbV0
  clear hr
  go_enter Tryz.func167, Tryz.ntmps167
  go_wp2_with ((go_at_call 133; refine (HU.out _ _ (by first | exact HR | exact HR.below (n := pb + 1) (by repeat' first | with_reducible exact Below.refl _ _ | with_reducible assumption | with_reducible refine belows_drewN ?_ _ | with_reducible refine Below.drew ?_ | with_reducible refine Below.setCell ?_ ?_ _ | with_reducible refine Below.alloc ?_ ?_ _ | omega | (simp; done) | (simp; omega)) (Nat.lt_succ_self pb))).mono ?_; rintro e W h; rcases h with ⟨er, hx, rfl, hg⟩ | ⟨n, r, v, hx, rfl, rfl, hs⟩; all_goals (first | (rw [Cf.bnd_err hx] at HE; have HG : w.grownBy W (some pb) := L3.grown_trans (by repeat' first | with_reducible assumption | with_reducible exact grown_refl' _ _ | with_reducible refine L3.grown_set ?_ ?_ _ _ | with_reducible refine grown_al ?_ _ | with_reducible refine grown_dr ?_ | omega | (simp only [World.size_alloc, World.size_setCell]; omega)) hg) | (have hn := Cf.u2_range hx; rw [Cf.bnd_ok hx] at HE; have HG : w.grownBy W (some pb) := L3.grown_trans (by repeat' first | with_reducible assumption | with_reducible exact grown_refl' _ _ | with_reducible refine L3.grown_set ?_ ?_ _ _ | with_reducible refine grown_al ?_ _ | with_reducible refine grown_dr ?_ | omega | (simp only [World.size_alloc, World.size_setCell]; omega)) hs.1; have HR := hs.2; have hz := HG.size; have hp := HR.sz)); clear hx); all_goals (try (have HX := (show L3.BX W w.heap.size #[.int .i64 0, .int .i64 0, .int .i64 0, .int .i64 0, .int .i64 0, .slice none 0 0, .slice none 0 0] 42 from (by first | exact L3.BX.grown HX hs.1 (fun e => by have := Option.some.inj e; omega) | exact L3.BX.grown (L3.BX.new w _ _) hs.1 (fun e => by have := Option.some.inj e; omega))); have x0 := HX.cell 0; have x1 := HX.cell 1; have x2 := HX.cell 2; have x3 := HX.cell 3; have x4 := HX.cell 4; have x5 := HX.cell 5; have x6 := HX.cell 6; simp at x0 x1 x2 x3 x4 x5 x6; have y0 := HX.frozen 0; have y1 := HX.frozen 1; have y2 := HX.frozen 2; have y3 := HX.frozen 3; have y4 := HX.frozen 4; have y5 := HX.frozen 5; have y6 := HX.frozen 6)))
  · (exact ⟨rfl, .inl ⟨_, HE.symm, rfl, HG⟩⟩)
  · (exact ⟨rfl, .inl ⟨_, HE.symm, rfl, HG⟩⟩)
  · (exact ⟨rfl, .inl ⟨_, HE.symm, rfl, HG⟩⟩)
  · exact bodyPost_ret (v := .agg #[.int .i64 _, .int .i64 _, .int .i64 n, .int .i64 0, .int .i64 0, .slice none 0 0, .slice none 0 0]) (by simp [results, Tryz.results167, go_sem, x0, x1, x2, x3, x4, x5, x6]) rfl (.inr ⟨_, _, _, HE.symm, rfl, ⟨rfl, rfl, rfl, rfl, rfl⟩, (by repeat' first | with_reducible assumption | with_reducible exact grown_refl' _ _ | with_reducible refine L3.grown_set ?_ ?_ _ _ | with_reducible refine grown_al ?_ _ | with_reducible refine grown_dr ?_ | omega | (simp only [World.size_alloc, World.size_setCell]; omega)), HR.keep (by repeat' first | with_reducible exact Below.refl _ _ | with_reducible assumption | with_reducible refine belows_drewN ?_ _ | with_reducible refine Below.drew ?_ | with_reducible refine Below.setCell ?_ ?_ _ | with_reducible refine Below.alloc ?_ ?_ _ | omega | (simp; done) | (simp; omega))⟩)
set_option maxRecDepth 100000 in
set_option maxHeartbeats 400000 in
theorem handler_any (pb : Nat) (code : Int) (bs : List UInt8) (w : World) (hr : Rdr w pb code bs) :
    Calls Tryz.prog 169 #[.pointer (some ⟨pb, 0, none⟩)] w (RP pb code (Cf.hnP bs) VH w) := by
  have HU := hid (fun bs W (h : Rdr W pb code bs) => u2_any pb code bs W h)
  have HR := hr
  have HG := grown_refl' w (some pb)
  have hp0 := hr.sz
  obtain ⟨X, HE⟩ : ∃ X, Cf.hnP bs = X := ⟨_, rfl⟩
  rw [HE]
  unfold Cf.hnP at HE
  unfold RP L3.pan VI at HU
  unfold RP L3.pan VH hnV
  clear hr
  go_enter Tryz.func169, Tryz.ntmps169
  go_wp2_with ((go_at_call 133; refine (HU.out _ _ (by first | exact HR | exact HR.below (n := pb + 1) (by repeat' first | with_reducible exact Below.refl _ _ | with_reducible assumption | with_reducible refine belows_drewN ?_ _ | with_reducible refine Below.drew ?_ | with_reducible refine Below.setCell ?_ ?_ _ | with_reducible refine Below.alloc ?_ ?_ _ | omega | (simp; done) | (simp; omega)) (Nat.lt_succ_self pb))).mono ?_; rintro e W h; rcases h with ⟨er, hx, rfl, hg⟩ | ⟨n, r, v, hx, rfl, rfl, hs⟩; all_goals (first | (rw [Cf.bnd_err hx] at HE; have HG : w.grownBy W (some pb) := L3.grown_trans (by repeat' first | with_reducible assumption | with_reducible exact grown_refl' _ _ | with_reducible refine L3.grown_set ?_ ?_ _ _ | with_reducible refine grown_al ?_ _ | with_reducible refine grown_dr ?_ | omega | (simp only [World.size_alloc, World.size_setCell]; omega)) hg) | (have hn := Cf.u2_range hx; rw [Cf.bnd_ok hx] at HE; have HG : w.grownBy W (some pb) := L3.grown_trans (by repeat' first | with_reducible assumption | with_reducible exact grown_refl' _ _ | with_reducible refine L3.grown_set ?_ ?_ _ _ | with_reducible refine grown_al ?_ _ | with_reducible refine grown_dr ?_ | omega | (simp only [World.size_alloc, World.size_setCell]; omega)) hs.1; have HR := hs.2; have hz := HG.size; have hp := HR.sz)); clear hx); all_goals (try (have HX := (show L3.BX W w.heap.size #[.int .i64 0, .int .i64 0, .int .i64 0, .int .i64 0] 58 from (by first | exact L3.BX.grown HX hs.1 (fun e => by have := Option.some.inj e; omega) | exact L3.BX.grown (L3.BX.new w _ _) hs.1 (fun e => by have := Option.some.inj e; omega))); have x0 := HX.cell 0; have x1 := HX.cell 1; have x2 := HX.cell 2; have x3 := HX.cell 3; simp at x0 x1 x2 x3; have y0 := HX.frozen 0; have y1 := HX.frozen 1; have y2 := HX.frozen 2; have y3 := HX.frozen 3)))
  · (exact ⟨rfl, .inl ⟨_, HE.symm, rfl, HG⟩⟩)
  · (exact ⟨rfl, .inl ⟨_, HE.symm, rfl, HG⟩⟩)
  · (exact ⟨rfl, .inl ⟨_, HE.symm, rfl, HG⟩⟩)
  · (exact ⟨rfl, .inl ⟨_, HE.symm, rfl, HG⟩⟩)
  · exact bodyPost_ret (v := .agg #[.int .i64 _, .int .i64 _, .int .i64 _, .int .i64 n]) (by simp [results, Tryz.results169, go_sem, x0, x1, x2, x3]) rfl (.inr ⟨_, _, _, HE.symm, rfl, rfl, (by repeat' first | with_reducible assumption | with_reducible exact grown_refl' _ _ | with_reducible refine L3.grown_set ?_ ?_ _ _ | with_reducible refine grown_al ?_ _ | with_reducible refine grown_dr ?_ | omega | (simp only [World.size_alloc, World.size_setCell]; omega)), HR.keep (by repeat' first | with_reducible exact Below.refl _ _ | with_reducible assumption | with_reducible refine belows_drewN ?_ _ | with_reducible refine Below.drew ?_ | with_reducible refine Below.setCell ?_ ?_ _ | with_reducible refine Below.alloc ?_ ?_ _ | omega | (simp; done) | (simp; omega))⟩)
end Go.Proofs.YtjnjnfhboafcgaaGreatDoor

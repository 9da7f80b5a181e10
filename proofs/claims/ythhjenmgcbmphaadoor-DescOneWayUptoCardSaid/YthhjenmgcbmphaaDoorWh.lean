/- Contracts of whole at Type: what catches the panic, and the three ways out. -/
import Derived.Test.YthhjenmgcbmphaaDoorMt
import Derived.Recover
import Derived.Defers
namespace Go.Proofs.YthhjenmgcbmphaaDoor
open Go.RowKit

theorem A.eqBad (w : World) : (binOp .eql 20 (.iface 24 (.int .i64 20)) (.iface 24 (.int .i64 20))).run Tryd.prog w = .ok (.bool true) w := by kernel_rfl
theorem A.eqNone (w : World) : (binOp .eql 20 .nilIface (.iface 24 (.int .i64 20))).run Tryd.prog w = .ok (.bool false) w := by kernel_rfl
theorem A.neNone (w : World) : (binOp .neq 20 .nilIface .nilIface).run Tryd.prog w = .ok (.bool false) w := by kernel_rfl
set_option maxRecDepth 100000 in
theorem catchT_panicking (p : Addr) (x : Value) (older : List PanicEntry) (w : World) (hc : w.cell? p = some x) (hz : w.frozen? p = false) :
    CallsD Tryd.prog 32 #[.pointer (some p)] (.panicking ({ v := .iface 24 (.int .i64 20), recovered := false } :: older)) w fun e u' w' =>
      e = .returned (.tuple #[]) ∧ u' = .panicking ({ v := .iface 24 (.int .i64 20), recovered := true } :: older) ∧ w' = w.setCell p (.int .i64 20) := by
  refine callsD_of_wpS Tryd.func32 rfl fun c₀ cs hu => ?_
  apply wpS_seq
  apply wpS_region
  simp [wpOpsS, go_sem, recoverD, hu, Tryd.ntmps32, Exit.thenS]
  have q1 := A.eqBad
  refine wpS_of_wp ?_
  go_wp2
  simp [bodyPostS, results, Tryd.results32]
set_option maxRecDepth 100000 in
theorem catchT_idle (p : Addr) (w : World) :
    CallsD Tryd.prog 32 #[.pointer (some p)] .returning w fun e u' w' => e = .returned (.tuple #[]) ∧ u' = .returning ∧ w = w' := by
  refine callsD_of_wpS Tryd.func32 rfl fun c₀ cs hu => ?_
  apply wpS_seq
  apply wpS_region
  simp [wpOpsS, go_sem, recoverD, hu, Tryd.ntmps32, Exit.thenS]
  have q2 := A.eqNone
  have q3 := A.neNone
  refine wpS_of_wp ?_
  go_wp2
  cases c₀
  simp_all [bodyPostS, results, Tryd.results32]
/-- An errno's box. -/
def EB (w : World) (B : Nat) (z : Int) : Prop := w.heap[B]? = some (.cells #[.int .i64 z] 24 (0, 0))
theorem EB.new (w : World) (z : Int) : EB (w.alloc (.cells #[.int .i64 z] 24)) w.heap.size z := World.alloc_heap_new w _
theorem EB.sz {w : World} {B : Nat} {z : Int} (h : EB w B z) : B < w.heap.size := (Array.getElem?_eq_some_iff.1 h).1
theorem EB.grown {w w' : World} {B : Nat} {z : Int} {row : Option Nat} (h : EB w B z) (hg : w.grownBy w' row) (hne : row ≠ some B) : EB w' B z := (hg.block B h.sz (fun e => hne e.symm)).trans h
theorem EB.below {w w' : World} {B n : Nat} {z : Int} (h : EB w B z) (hb : Below n w w') (hn : B < n) : EB w' B z := (hb.block B hn).trans h
theorem EB.facts {w : World} {B : Nat} {z : Int} (h : EB w B z) : w.cell? ⟨B, 0, none⟩ = some (.int .i64 z) ∧ w.frozen? ⟨B, 0, none⟩ = false := by
  refine ⟨?_, ?_⟩ <;> simp [World.cell?, World.frozen?, show w.heap[B]? = _ from h]
theorem RB.below {w w' : World} {B n : Nat} (h : RB w B) (hb : Below n w w') (hn : B < n) : RB w' B := (hb.block B hn).trans h
theorem rd_new {w : World} {mb : Nat} (s : ByteArray) (hk : KMap w mb) (hm : mb < w.heap.size) : Rd (w.alloc (.cells #[.string s, .map (some mb)] 61)) w.heap.size mb s :=
  ⟨World.alloc_heap_new w _, hk.below ((Below.refl w.heap.size w).alloc (Nat.le_refl _) _) hm, hm⟩
/-- The two results' boxes, behind kinds and the reader's own box. -/
theorem boxes (w w1 : World) (h : Below (w.heap.size + 1 + 1) ((w.alloc (.cells #[.int .i64 0, .string ⟨#[]⟩] 23)).alloc (.cells #[.int .i64 0] 24)) w1) (o : Obj) :
    RB (w1.alloc o) w.heap.size ∧ EB (w1.alloc o) (w.heap.size + 1) 0 ∧ Below w.heap.size w (w1.alloc o) ∧ w.heap.size + 2 ≤ w1.heap.size := by
  have hz := h.size
  simp only [World.size_alloc] at hz
  have e1 := EB.new (w.alloc (.cells #[.int .i64 0, .string ⟨#[]⟩] 23)) 0
  rw [World.size_alloc] at e1
  have ha := (Below.refl w1.heap.size w1).alloc (Nat.le_refl _) o
  refine ⟨?_, ?_, ?_, by omega⟩
  · exact (((RB.new w).below (n := w.heap.size + 1) ((Below.refl _ _).alloc (by simp) _) (by omega)).below h (by omega)).below ha (by omega)
  · exact (e1.below h (by omega)).below ha (by omega)
  · exact (belows (b := (w.alloc (.cells #[.int .i64 0, .string ⟨#[]⟩] 23)).alloc (.cells #[.int .i64 0] 24)) (by repeat' first | with_reducible exact Below.refl _ _ | with_reducible assumption | with_reducible refine belows_drewN ?_ _ | with_reducible refine Below.drew ?_ | with_reducible refine Below.setCell ?_ ?_ _ | with_reducible refine Below.alloc ?_ ?_ _ | omega | (simp; done) | (simp; omega)) (h.mono (by simp only [World.size_alloc]; omega)) (by simp only [World.size_alloc]; omega)).alloc (by omega) _
/-- A result of two boxes. -/
theorem A.mkF (fn : Fn) (first cap : Array Value) (w : World) : (Instr.makeFunc fn first cap).run Tryd.prog w = .ok (.func fn first cap) w := rfl
def fieldFn : Value := .func (.func 22) #[] #[]
set_option maxRecDepth 100000 in
set_option maxHeartbeats 400000 in
theorem wholeT_long (s : ByteArray) (w : World) (hs : 255 < s.size) :
    Calls Tryd.prog 21 #[.string s, fieldFn] w fun e w' => e = .returned (.tuple #[tyV 0 [], .int .i64 3]) ∧ Below w.heap.size w w' := by
  unfold fieldFn tyV
  have hd : decide (255 < (s.size : Int)) = true := by simp; omega
  go_enter_defers Tryd.func21, Tryd.ntmps21
  go_wp2
  exact ⟨_, by simp [results, Tryd.results21, go_sem], rfl, (by repeat' first | with_reducible exact Below.refl _ _ | with_reducible assumption | with_reducible refine belows_drewN ?_ _ | with_reducible refine Below.drew ?_ | with_reducible refine Below.setCell ?_ ?_ _ | with_reducible refine Below.alloc ?_ ?_ _ | omega | (simp; done) | (simp; omega))⟩
set_option maxRecDepth 100000 in
set_option maxHeartbeats 400000 in
theorem wholeT_ok (s : ByteArray) (k : Int) (m : List UInt8) (w : World) (hs : s.size ≤ 255) (h : Ds.rd (Ds.bl s) = some (k, m, s.size)) :
    Calls Tryd.prog 21 #[.string s, fieldFn] w fun e w' => e = .returned (.tuple #[tyV k m, .int .i64 0]) ∧ Below w.heap.size w w' := by
  unfold fieldFn tyV
  have hd : decide (255 < (s.size : Int)) = false := by simp; omega
  have he : s.extract s.size s.size = ⟨#[]⟩ := ba_ext (by rw [ext_drop, List.drop_eq_nil_of_le (Nat.le_of_eq (bl_len s))])
  have HF0 : ∀ (pb mb : Nat) (W : World), Rd W pb mb s → Calls Tryd.prog 22 #[.pointer (some ⟨pb, 0, none⟩)] W (FieldOk pb mb k m ⟨#[]⟩ W) := by
    intro pb mb W hW
    have := field_rd pb mb _ s W hW rfl hs
    unfold FieldPost at this
    rw [h] at this
    rw [← he]
    exact this
  unfold FieldOk tyV at HF0
  have HF := hid HF0
  have hmf := A.mkF
  clear HF0 h he
  go_enter_defers Tryd.func21, Tryd.ntmps21
  go_wp2_with (first
    | (go_at_call 33; refine (kinds_any _).mono ?_; rintro e w1 ⟨rfl, hk1, hb1, hz1⟩; simp only [World.size_alloc] at hk1 hb1 hz1; have HK1 := hid hk1; have HB1 := hid hb1; clear hk1 hb1)
    | (go_at_call 22; refine (HF.out w1.heap.size (w.heap.size + 1 + 1) _ (rd_new s HK1.out hz1)).mono ?_; rintro e w2 ⟨rfl, hg2, hr2⟩; have HBx := hid (boxes w w1 HB1.out (.cells #[.string s, .map (some (w.heap.size + 1 + 1))] 61)); have hz2 := HBx.out.2.2.2; have HRB := hid (HBx.out.1.keep hg2 (by omega)); have HEB := hid (HBx.out.2.1.grown hg2 (by simp; omega)); have HW2 := hid (Below.grown HBx.out.2.2.1 hg2 (by simp; omega) (fun j e => by have := Option.some.inj e; omega)); obtain ⟨b0, b1, f0, f1⟩ := HRB.out.facts; obtain ⟨e0, e1⟩ := HEB.out.facts; have cl2 := hr2.left; have hs2 := hr2.sz; have hs3 := HEB.out.sz; have hs4 := HRB.out.sz; clear hg2 hr2))
  refine leaves_cons (f := 32) (args := #[.pointer (some ⟨w.heap.size + 1, 0, none⟩)]) (by simp) (by simp [go_sem]) ?_
  refine (catchT_idle ⟨w.heap.size + 1, 0, none⟩ _).mono ?_
  rintro e u' w'' ⟨rfl, rfl, rfl⟩
  refine ⟨.tuple #[.agg #[.int .i64 k, .string ⟨m.toArray⟩], .int .i64 0], by simp [results, Tryd.results21, go_sem, b0, b1, e0, hs3, hs4], rfl, ?_⟩
  have HW := HW2.out
  exact (by repeat' first | with_reducible exact Below.refl _ _ | with_reducible assumption | with_reducible refine belows_drewN ?_ _ | with_reducible refine Below.drew ?_ | with_reducible refine Below.setCell ?_ ?_ _ | with_reducible refine Below.alloc ?_ ?_ _ | omega | (simp; done) | (simp; omega))
set_option maxRecDepth 100000 in
set_option maxHeartbeats 400000 in
theorem wholeT_left (s : ByteArray) (k : Int) (m : List UInt8) (n : Nat) (w : World) (hs : s.size ≤ 255) (h : Ds.rd (Ds.bl s) = some (k, m, n)) (hn : n < s.size) :
    Calls Tryd.prog 21 #[.string s, fieldFn] w fun e w' => e = .returned (.tuple #[tyV 0 [], .int .i64 20]) ∧ Below w.heap.size w w' := by
  unfold fieldFn tyV
  have hd : decide (255 < (s.size : Int)) = false := by simp; omega
  obtain ⟨q, hq⟩ : ∃ q, q = s.extract n s.size := ⟨_, rfl⟩
  have HF0 : ∀ (pb mb : Nat) (W : World), Rd W pb mb s → Calls Tryd.prog 22 #[.pointer (some ⟨pb, 0, none⟩)] W (FieldOk pb mb k m q W) := by
    intro pb mb W hW
    have := field_rd pb mb _ s W hW rfl hs
    unfold FieldPost at this
    rw [h] at this
    rw [hq]
    exact this
  have hq0 : (q.toList.isEmpty) = false := by
    rw [ByteArray.toList_eq]
    have : (Ds.bl q).length ≠ 0 := by rw [hq, ext_drop, List.length_drop, bl_len]; omega
    cases hb : q.data.toList with
    | nil => exact absurd (by show q.data.toList.length = 0; rw [hb]; rfl) this
    | cons => rfl
  unfold FieldOk tyV at HF0
  have HF := hid HF0
  have hmf := A.mkF
  clear HF0 h hq
  go_enter_defers Tryd.func21, Tryd.ntmps21
  go_wp2_with (first
    | (go_at_call 33; refine (kinds_any _).mono ?_; rintro e w1 ⟨rfl, hk1, hb1, hz1⟩; simp only [World.size_alloc] at hk1 hb1 hz1; have HK1 := hid hk1; have HB1 := hid hb1; clear hk1 hb1)
    | (go_at_call 22; refine (HF.out w1.heap.size (w.heap.size + 1 + 1) _ (rd_new s HK1.out hz1)).mono ?_; rintro e w2 ⟨rfl, hg2, hr2⟩; have HBx := hid (boxes w w1 HB1.out (.cells #[.string s, .map (some (w.heap.size + 1 + 1))] 61)); have hz2 := HBx.out.2.2.2; have HRB := hid (HBx.out.1.keep hg2 (by omega)); have HEB := hid (HBx.out.2.1.grown hg2 (by simp; omega)); have HW2 := hid (Below.grown HBx.out.2.2.1 hg2 (by simp; omega) (fun j e => by have := Option.some.inj e; omega)); obtain ⟨b0, b1, f0, f1⟩ := HRB.out.facts; obtain ⟨e0, e1⟩ := HEB.out.facts; have cl2 := hr2.left; have hs2 := hr2.sz; have hs3 := HEB.out.sz; have hs4 := HRB.out.sz; clear hg2 hr2))
  refine leaves_cons (f := 32) (args := #[.pointer (some ⟨w.heap.size + 1, 0, none⟩)]) (by simp) (by simp [go_sem]) ?_
  refine (catchT_panicking ⟨w.heap.size + 1, 0, none⟩ (.int .i64 0) [] _ ?_ ?_).mono ?_
  · simp [go_sem, e0, hs3]
  · simp [go_sem, e1, hs3]
  rintro e u' w'' ⟨rfl, rfl, rfl⟩
  refine ⟨.tuple #[.agg #[.int .i64 0, .string ⟨#[]⟩], .int .i64 20], by simp [results, Tryd.results21, go_sem, b0, b1, e0, hs3, hs4], rfl, ?_⟩
  have HW := HW2.out
  exact (by repeat' first | with_reducible exact Below.refl _ _ | with_reducible assumption | with_reducible refine belows_drewN ?_ _ | with_reducible refine Below.drew ?_ | with_reducible refine Below.setCell ?_ ?_ _ | with_reducible refine Below.alloc ?_ ?_ _ | omega | (simp; done) | (simp; omega))
set_option maxRecDepth 100000 in
set_option maxHeartbeats 400000 in
theorem wholeT_bad (s : ByteArray) (w : World) (hs : s.size ≤ 255) (h : Ds.rd (Ds.bl s) = none) :
    Calls Tryd.prog 21 #[.string s, fieldFn] w fun e w' => e = .returned (.tuple #[tyV 0 [], .int .i64 20]) ∧ Below w.heap.size w w' := by
  unfold fieldFn tyV
  have hd : decide (255 < (s.size : Int)) = false := by simp; omega
  have HF0 : ∀ (pb mb : Nat) (W : World), Rd W pb mb s → Calls Tryd.prog 22 #[.pointer (some ⟨pb, 0, none⟩)] W (Bad pb W) := by
    intro pb mb W hW
    have := field_rd pb mb _ s W hW rfl hs
    unfold FieldPost at this
    rw [h] at this
    exact this
  unfold Bad bad at HF0
  have HF := hid HF0
  have hmf := A.mkF
  clear HF0 h
  go_enter_defers Tryd.func21, Tryd.ntmps21
  go_wp2_with (first
    | (go_at_call 33; refine (kinds_any _).mono ?_; rintro e w1 ⟨rfl, hk1, hb1, hz1⟩; simp only [World.size_alloc] at hk1 hb1 hz1; have HK1 := hid hk1; have HB1 := hid hb1; clear hk1 hb1)
    | (go_at_call 22; refine (HF.out w1.heap.size (w.heap.size + 1 + 1) _ (rd_new s HK1.out hz1)).mono ?_; rintro e w2 ⟨rfl, hg2⟩; have HBx := hid (boxes w w1 HB1.out (.cells #[.string s, .map (some (w.heap.size + 1 + 1))] 61)); have hz2 := HBx.out.2.2.2; have HRB := hid (HBx.out.1.keep hg2 (by omega)); have HEB := hid (HBx.out.2.1.grown hg2 (by simp; omega)); have HW2 := hid (Below.grown HBx.out.2.2.1 hg2 (by simp; omega) (fun j e => by have := Option.some.inj e; omega)); obtain ⟨b0, b1, f0, f1⟩ := HRB.out.facts; obtain ⟨e0, e1⟩ := HEB.out.facts; have hs3 := HEB.out.sz; have hs4 := HRB.out.sz; clear hg2))
  refine leaves_cons (f := 32) (args := #[.pointer (some ⟨w.heap.size + 1, 0, none⟩)]) (by simp) (by simp [go_sem]) ?_
  refine (catchT_panicking ⟨w.heap.size + 1, 0, none⟩ (.int .i64 0) [] _ ?_ ?_).mono ?_
  · exact e0
  · exact e1
  rintro e u' w'' ⟨rfl, rfl, rfl⟩
  refine ⟨.tuple #[.agg #[.int .i64 0, .string ⟨#[]⟩], .int .i64 20], by simp [results, Tryd.results21, go_sem, b0, b1, e0], rfl, ?_⟩
  have HW := HW2.out
  exact (by repeat' first | with_reducible exact Below.refl _ _ | with_reducible assumption | with_reducible refine belows_drewN ?_ _ | with_reducible refine Below.drew ?_ | with_reducible refine Below.setCell ?_ ?_ _ | with_reducible refine Below.alloc ?_ ?_ _ | omega | (simp; done) | (simp; omega))
/-- What a text is as a field's descriptor. -/
def fdOut (l : List UInt8) : Ds.Ty × Int := if 255 < l.length then ((0, []), 3) else match Ds.rd l with
  | none => ((0, []), 20)
  | some (k, m, n) => if n = l.length then ((k, m), 0) else ((0, []), 20)
theorem wholeT_any (s : ByteArray) (w : World) :
    Calls Tryd.prog 21 #[.string s, fieldFn] w fun e w' => e = .returned (.tuple #[tyV (fdOut (Ds.bl s)).1.1 (fdOut (Ds.bl s)).1.2, .int .i64 (fdOut (Ds.bl s)).2]) ∧ Below w.heap.size w w' := by
  unfold fdOut
  rw [bl_len]
  by_cases hs : 255 < s.size
  · rw [if_pos hs]; exact wholeT_long s w hs
  · rw [if_neg hs]
    cases h : Ds.rd (Ds.bl s) with
    | none => exact wholeT_bad s w (by omega) h
    | some y =>
      obtain ⟨k, m, n⟩ := y
      dsimp only
      have hl := Ds.rd_len h
      rw [bl_len] at hl
      by_cases hn : n = s.size
      · rw [if_pos hn]; subst hn; exact wholeT_ok s k m w (by omega) h
      · rw [if_neg hn]; exact wholeT_left s k m n w (by omega) h (by omega)
set_option maxRecDepth 100000 in
set_option maxHeartbeats 400000 in
theorem field_any (s : ByteArray) (w : World) :
    Calls Tryd.prog 7 #[.string s] w fun e w' => e = .returned (.tuple #[tyV (fdOut (Ds.bl s)).1.1 (fdOut (Ds.bl s)).1.2, .int .i64 (fdOut (Ds.bl s)).2]) ∧ Below w.heap.size w w' := by
  have HW := hid (fun W => wholeT_any s W)
  obtain ⟨k, hk⟩ : ∃ k, k = (fdOut (Ds.bl s)).1.1 := ⟨_, rfl⟩
  obtain ⟨m, hm⟩ : ∃ m, m = (fdOut (Ds.bl s)).1.2 := ⟨_, rfl⟩
  obtain ⟨er, he⟩ : ∃ er, er = (fdOut (Ds.bl s)).2 := ⟨_, rfl⟩
  rw [← hk, ← hm, ← he] at HW ⊢
  unfold fieldFn tyV at HW
  unfold tyV
  clear hk hm he
  go_enter Tryd.func7, Tryd.ntmps7
  go_wp2_with (go_at_call 21; refine (HW.out _).mono ?_; rintro e w1 ⟨rfl, hb1⟩; obtain ⟨hcc, hff⟩ := bcell hb1; have hz := hb1.size; simp only [World.size_alloc] at hz; have hz1 : w.heap.size < w1.heap.size := (by omega))
  have hb' := belows (B := w.heap.size) (a := w) (by repeat' first | with_reducible exact Below.refl _ _ | with_reducible assumption | with_reducible refine belows_drewN ?_ _ | with_reducible refine Below.drew ?_ | with_reducible refine Below.setCell ?_ ?_ _ | with_reducible refine Below.alloc ?_ ?_ _ | omega | (simp; done) | (simp; omega)) hb1 (by simp)
  exact bodyPost_ret (v := .tuple #[.agg #[.int .i64 k, .string ⟨m.toArray⟩], .int .i64 er]) (by simp [results, Tryd.results7, go_sem, hcc]) rfl ⟨rfl, (by repeat' first | with_reducible exact Below.refl _ _ | with_reducible assumption | with_reducible refine belows_drewN ?_ _ | with_reducible refine Below.drew ?_ | with_reducible refine Below.setCell ?_ ?_ _ | with_reducible refine Below.alloc ?_ ?_ _ | omega | (simp; done) | (simp; omega))⟩
end Go.Proofs.YthhjenmgcbmphaaDoor

/- Contract of the reader's field. -/
import Derived.Test.YthhjenmgcbmphaaDoorNm
import Derived.Test.YthhjenmgcbmphaaDoorRm
namespace Go.Proofs.YthhjenmgcbmphaaDoor
open Go.RowKit

theorem ba_ext {a b : ByteArray} (h : Ds.bl a = Ds.bl b) : a = b := by
  cases a; cases b
  simp only [Ds.bl, Array.toList_inj] at h
  rw [h]
theorem ba_of {a : ByteArray} {l : List UInt8} (h : Ds.bl a = l) : a = ⟨l.toArray⟩ := ba_ext (by rw [h])
/-- A type as a value. -/
def tyV (k : Int) (m : List UInt8) : Value := .agg #[.int .i64 k, .string ⟨m.toArray⟩]
/-- A result that has not been laid. -/
def RB (w : World) (B : Nat) : Prop := w.heap[B]? = some (.cells #[.int .i64 0, .string ⟨#[]⟩] 23 (0, 0))
theorem RB.new (w : World) : RB (w.alloc (.cells #[.int .i64 0, .string ⟨#[]⟩] 23)) w.heap.size := World.alloc_heap_new w _
theorem RB.sz {w : World} {B : Nat} (h : RB w B) : B < w.heap.size := (Array.getElem?_eq_some_iff.1 h).1
theorem RB.keep {w w' : World} {B r : Nat} (h : RB w B) (hg : w.grownBy w' (some r)) (hne : B ≠ r) : RB w' B := (hg.block B h.sz (fun e => hne (Option.some.inj e))).trans h
theorem RB.facts {w : World} {B : Nat} (h : RB w B) : w.cell? ⟨B, 0, none⟩ = some (.int .i64 0) ∧ w.cell? ⟨B, 1, none⟩ = some (.string ⟨#[]⟩) ∧ w.frozen? ⟨B, 0, none⟩ = false ∧ w.frozen? ⟨B, 1, none⟩ = false := by
  refine ⟨?_, ?_, ?_, ?_⟩ <;> simp [World.cell?, World.frozen?, show w.heap[B]? = _ from h]
theorem take_step (pb mb : Nat) (t : ByteArray) (c : UInt8) (l : List UInt8) (w : World) (hr : Rd w pb mb t) (h : Ds.bl t = c :: l) : Calls Tryd.prog 34 #[.pointer (some ⟨pb, 0, none⟩)] w fun e w' => e = .returned (.int .u8 (c.toNat : Nat)) ∧ Step pb mb (t.extract 1 t.size) w w' :=
  (take_ok pb mb t c l w hr h).mono fun _ _ ⟨he, hw⟩ => ⟨he, by subst hw; exact ⟨grownBy_setCell' _ _ _, hr.set _⟩⟩
set_option maxRecDepth 100000 in
theorem reference_any (s : ByteArray) (w : World) : Calls Tryd.prog 28 #[.string s] w fun e w' => e = .returned (.agg #[.int .i64 4, .string s]) ∧ Below w.heap.size w w' := by
  go_enter Tryd.func28, Tryd.ntmps28
  go_wp2
  exact bodyPost_ret (v := .agg #[.int .i64 4, .string s]) (by simp [results, Tryd.results28, go_sem]) rfl ⟨rfl, (by repeat' first | with_reducible exact Below.refl _ _ | with_reducible assumption | with_reducible refine belows_drewN ?_ _ | with_reducible refine Below.drew ?_ | with_reducible refine Below.setCell ?_ ?_ _ | with_reducible refine Below.alloc ?_ ?_ _ | omega | (simp; done) | (simp; omega))⟩
def FieldOk (pb mb : Nat) (k : Int) (m : List UInt8) (t' : ByteArray) (w : World) (e : Ending) (w' : World) : Prop := e = .returned (tyV k m) ∧ Step pb mb t' w w'
/-- The world behind the result's box. -/
theorem box_grown {w w' : World} {o : Obj} {r : Nat} (h : (w.alloc o).grownBy w' (some r)) : w.grownBy w' (some r) := grown_trans (grown_of_below ((Below.refl _ w).alloc (Nat.le_refl _) o) _) h
theorem store_grown {w w' : World} {B r : Nat} {a b : Value} (hB : w.heap.size ≤ B) (h : w.grownBy w' (some r)) : w.grownBy ((w'.setCell ⟨B, 0, none⟩ a).setCell ⟨B, 1, none⟩ b) (some r) := by
  refine ⟨h.os, h.tape, h.output, by simp; exact h.size, fun i hi hne => ?_⟩
  rw [Below.heap_setCell _ _ _ i (by show i ≠ B; omega), Below.heap_setCell _ _ _ i (by show i ≠ B; omega)]
  exact h.block i hi hne
theorem Rd.store {w : World} {pb mb B : Nat} {t : ByteArray} {a b : Value} (h : Rd w pb mb t) (h1 : pb ≠ B) (h2 : mb ≠ B) : Rd ((w.setCell ⟨B, 0, none⟩ a).setCell ⟨B, 1, none⟩ b) pb mb t := by
  have hg : ∀ (j : Nat) (u : World) (v : Value), u.grownBy (u.setCell ⟨B, j, none⟩ v) (some B) := fun j u v => ⟨rfl, rfl, rfl, by simp, fun i _ hne => Below.heap_setCell _ _ _ i (fun e => hne (by rw [e]))⟩
  exact (h.keep (hg 0 _ _) h1 h2).keep (hg 1 _ _) h1 h2
set_option maxRecDepth 100000 in
set_option maxHeartbeats 400000 in
theorem field_letter (pb mb : Nat) (t : ByteArray) (c : UInt8) (l : List UInt8) (w : World) (hr : Rd w pb mb t) (h : Ds.bl t = c :: l) (hk : isK c = true) (h91 : ((c.toNat : Int) == 91) = false) (h76 : ((c.toNat : Int) == 76) = false) :
    Calls Tryd.prog 22 #[.pointer (some ⟨pb, 0, none⟩)] w (FieldOk pb mb (kindOf c) [] (t.extract 1 t.size) w) := by
  unfold FieldOk tyV
  have cl := hr.left
  have hps := hr.sz
  have hmp := hr.lt
  have HT := hid (fun W (hW : Below w.heap.size w W) => take_step pb mb t c l W (hr.below hW hps) h)
  have hRB := RB.new w
  have HRB := hid hRB
  have HK := hid hk
  clear hr h hRB hk
  go_enter Tryd.func22, Tryd.ntmps22
  go_wp2_with (go_at_call 34; refine (HT.out _ (by repeat' first | with_reducible exact Below.refl _ _ | with_reducible assumption | with_reducible refine belows_drewN ?_ _ | with_reducible refine Below.drew ?_ | with_reducible refine Below.setCell ?_ ?_ _ | with_reducible refine Below.alloc ?_ ?_ _ | omega | (simp; done) | (simp; omega))).mono ?_; rintro e w1 ⟨rfl, hg1, hr1⟩; have HR1 := hid hr1; have cl1 := hr1.left; have ck1 := hr1.kinds; have hlk := kmap_look hr1.kmap c; rw [HK.out] at hlk; have HRB1 := hid (HRB.out.keep hg1 (by omega)); obtain ⟨b0, b1, f0, f1⟩ := HRB1.out.facts; have HG1 := hid hg1; clear hr1 hg1)
  exact bodyPost_ret (v := .agg #[.int .i64 (kindOf c), .string ⟨#[]⟩]) (by simp [results, Tryd.results22, go_sem, b0, b1]) rfl ⟨rfl, store_grown (Nat.le_refl _) (box_grown HG1.out), HR1.out.store (by omega) (by omega)⟩
theorem rest_size {t : ByteArray} {c : UInt8} {l : List UInt8} (h : Ds.bl t = c :: l) : (t.extract 1 t.size).size = l.length ∧ t.size = l.length + 1 := by
  have h1 := congrArg List.length (rest_at h)
  have h2 := congrArg List.length h
  rw [bl_len] at h1 h2
  exact ⟨h1, by rw [h2]; rfl⟩
set_option maxRecDepth 100000 in
set_option maxHeartbeats 400000 in
theorem field_obj (pb mb : Nat) (t : ByteArray) (l a b : List UInt8) (m : Nat) (w : World) (hr : Rd w pb mb t) (h : Ds.bl t = 76 :: l) (hcut : Ds.cutC 59 l = some (a, b)) (hm : a.length = m) (hcl : Ds.classB a = true) (hs : t.size ≤ 255) :
    Calls Tryd.prog 22 #[.pointer (some ⟨pb, 0, none⟩)] w (FieldOk pb mb 4 a (t.extract (m + 2) t.size) w) := by
  unfold FieldOk tyV
  have cl := hr.left
  have hps := hr.sz
  have hmp := hr.lt
  have HT := hid (fun W (hW : Below w.heap.size w W) => take_step pb mb t 76 l W (hr.below hW hps) h)
  obtain ⟨z1, z2⟩ := rest_size h
  have hb1 := rest_at h
  have hcut' : Ds.cutC 59 (Ds.bl (t.extract 1 t.size)) = some (a, b) := by rw [hb1]; exact hcut
  have HN := hid (fun W (hW : Rd W pb mb (t.extract 1 t.size)) => name_ok pb mb (t.extract 1 t.size) a b m W hW hcut' hm hcl (by omega))
  obtain ⟨p1, p2, p3⟩ := cut_parts hcut' hm
  have E1 := hid (ba_of p1)
  have E2 : Hid ((t.extract 1 t.size).extract (m + 1) (t.extract 1 t.size).size = t.extract (m + 2) t.size) := by
    refine ba_ext ?_
    rw [p2, bl_ext, h]
    have h2 := Ds.cut_eq hcut
    rw [h2, show (m + 2) = (a.length + 1) + 1 by omega, List.drop_succ_cons, List.drop_append, List.drop_eq_nil_of_le (by omega)]
    rw [show a.length + 1 - a.length = 1 by omega]
    rw [List.nil_append, List.drop_succ_cons, List.drop_zero]
    rw [List.take_of_length_le]
    rw [z2, h2, List.length_append, List.length_cons]; omega
  have hRB := RB.new w
  have HRB := hid hRB
  clear hr h hRB hcut hcut' hm hcl p1 p2 p3 hb1 z1 z2
  go_enter Tryd.func22, Tryd.ntmps22
  go_wp2_with (first
    | (go_at_call 34; refine (HT.out _ (by repeat' first | with_reducible exact Below.refl _ _ | with_reducible assumption | with_reducible refine belows_drewN ?_ _ | with_reducible refine Below.drew ?_ | with_reducible refine Below.setCell ?_ ?_ _ | with_reducible refine Below.alloc ?_ ?_ _ | omega | (simp; done) | (simp; omega))).mono ?_; rintro e w1 ⟨rfl, hg1, hr1⟩; have HR1 := hid hr1; have HRB1 := hid (HRB.out.keep hg1 (by omega)); have HG1 := hid hg1; clear hr1 hg1)
    | (go_at_call 35; refine (HN.out _ HR1.out).mono ?_; rintro e w2 ⟨rfl, hg2, hr2⟩; have HR2 := hid hr2; have HRB2 := hid (HRB1.out.keep hg2 (by omega)); have HG2 := hid hg2; clear hr2 hg2)
    | (go_at_call 28; refine (reference_any _ _).mono ?_; rintro e w3 ⟨rfl, hb3⟩; have HR3 := hid (HR2.out.below hb3 HR2.out.sz); have HRB3 := hid (HRB2.out.keep (grown_of_below hb3 (some pb)) (by omega)); obtain ⟨b0, b1, f0, f1⟩ := HRB3.out.facts; have HB3 := hid hb3; clear hb3))
  exact bodyPost_ret (v := .agg #[.int .i64 4, .string ((t.extract 1 t.size).extract 0 m)]) (by simp [results, Tryd.results22, go_sem, b0, b1]) rfl ⟨by rw [E1.out], store_grown (Nat.le_refl _) (box_grown (grown_trans (grown_trans HG1.out HG2.out) (grown_of_below HB3.out _))), by rw [← E2.out]; exact HR3.out.store (by omega) (by omega)⟩
set_option maxRecDepth 100000 in
set_option maxHeartbeats 400000 in
theorem field_arr (pb mb : Nat) (t q : ByteArray) (l : List UInt8) (n j : Nat) (k : Int) (x : List UInt8) (w : World) (hr : Rd w pb mb t) (h : Ds.bl t = 91 :: l) (hq : Ds.bl q = l.drop n) (hn : n ≤ l.length) (hj : n + 1 = j) (hs : t.size ≤ 255)
    (HF : ∀ W, Rd W pb mb (t.extract 1 t.size) → Calls Tryd.prog 22 #[.pointer (some ⟨pb, 0, none⟩)] W (FieldOk pb mb k x q W)) :
    Calls Tryd.prog 22 #[.pointer (some ⟨pb, 0, none⟩)] w (FieldOk pb mb 4 ((91 :: l).take j) q w) := by
  unfold FieldOk tyV at HF ⊢
  have cl := hr.left
  have hps := hr.sz
  have hmp := hr.lt
  have HT := hid (fun W (hW : Below w.heap.size w W) => take_step pb mb t 91 l W (hr.below hW hps) h)
  have HF2 := hid HF
  obtain ⟨z1, z2⟩ := rest_size h
  have z3 : q.size = l.length - n := by rw [← bl_len, hq, List.length_drop]
  have hs1 : IntKind.i64.wrap ((t.size : Int) - (q.size : Int)) = (j : Int) := by rw [show (t.size : Int) - (q.size : Int) = (j : Int) by omega]; exact IntWalk.i64_in _ (by omega)
  have hs2 : (j : Int) ≤ t.size := by omega
  have E1 := hid (show Ds.bl (t.extract 0 j) = (91 :: l).take j by rw [bl_ext, h]; simp)
  have E2 := hid (ba_of E1.out)
  have hRB := RB.new w
  have HRB := hid hRB
  clear hr h hRB HF z1 z2 z3 hj hn hq
  go_enter Tryd.func22, Tryd.ntmps22
  go_wp2_with (first
    | (go_at_call 34; refine (HT.out _ (by repeat' first | with_reducible exact Below.refl _ _ | with_reducible assumption | with_reducible refine belows_drewN ?_ _ | with_reducible refine Below.drew ?_ | with_reducible refine Below.setCell ?_ ?_ _ | with_reducible refine Below.alloc ?_ ?_ _ | omega | (simp; done) | (simp; omega))).mono ?_; rintro e w1 ⟨rfl, hg1, hr1⟩; have HR1 := hid hr1; have HRB1 := hid (HRB.out.keep hg1 (by omega)); have HG1 := hid hg1; clear hr1 hg1)
    | (go_at_call 22; refine (HF2.out _ HR1.out).mono ?_; rintro e w2 ⟨rfl, hg2, hr2⟩; have HR2 := hid hr2; have cl2 := hr2.left; have HRB2 := hid (HRB1.out.keep hg2 (by omega)); have HG2 := hid hg2; clear hr2 hg2)
    | (go_at_call 28; refine (reference_any _ _).mono ?_; rintro e w3 ⟨rfl, hb3⟩; have HR3 := hid (HR2.out.below hb3 HR2.out.sz); have HRB3 := hid (HRB2.out.keep (grown_of_below hb3 (some pb)) (by omega)); obtain ⟨b0, b1, f0, f1⟩ := HRB3.out.facts; have HB3 := hid hb3; clear hb3))
  exact bodyPost_ret (v := .agg #[.int .i64 4, .string (t.extract 0 j)]) (by simp [results, Tryd.results22, go_sem, b0, b1]) rfl ⟨by rw [E2.out], store_grown (Nat.le_refl _) (box_grown (grown_trans (grown_trans HG1.out HG2.out) (grown_of_below HB3.out _))), HR3.out.store (by omega) (by omega)⟩
/-- A text that is none: no more is told than that little has turned. -/
def Bad (pb : Nat) (w : World) (e : Ending) (w' : World) : Prop := e = bad ∧ w.grownBy w' (some pb)
set_option maxRecDepth 100000 in
set_option maxHeartbeats 400000 in
theorem field_bad0 (pb mb : Nat) (t : ByteArray) (w : World) (hr : Rd w pb mb t) (h : Ds.bl t = []) :
    Calls Tryd.prog 22 #[.pointer (some ⟨pb, 0, none⟩)] w (Bad pb w) := by
  unfold Bad bad
  have cl := hr.left
  have hps := hr.sz
  have hmp := hr.lt
  have HT := hid (fun W (hW : Below w.heap.size w W) => take_bad pb mb t W (hr.below hW hps) h)
  clear hr h
  unfold bad at HT
  go_enter Tryd.func22, Tryd.ntmps22
  go_wp2_with (first
    | (go_at_call 34; refine (HT.out _ (by repeat' first | with_reducible exact Below.refl _ _ | with_reducible assumption | with_reducible refine belows_drewN ?_ _ | with_reducible refine Below.drew ?_ | with_reducible refine Below.setCell ?_ ?_ _ | with_reducible refine Below.alloc ?_ ?_ _ | omega | (simp; done) | (simp; omega))).mono ?_; rintro e w1 ⟨rfl, rfl⟩))
  exact ⟨rfl, rfl, grown_of_below (by repeat' first | with_reducible exact Below.refl _ _ | with_reducible assumption | with_reducible refine belows_drewN ?_ _ | with_reducible refine Below.drew ?_ | with_reducible refine Below.setCell ?_ ?_ _ | with_reducible refine Below.alloc ?_ ?_ _ | omega | (simp; done) | (simp; omega)) _⟩
set_option maxRecDepth 100000 in
set_option maxHeartbeats 400000 in
theorem field_badK (pb mb : Nat) (t : ByteArray) (c : UInt8) (l : List UInt8) (w : World) (hr : Rd w pb mb t) (h : Ds.bl t = c :: l) (hk : isK c = false) (h91 : ((c.toNat : Int) == 91) = false) (h76 : ((c.toNat : Int) == 76) = false) :
    Calls Tryd.prog 22 #[.pointer (some ⟨pb, 0, none⟩)] w (Bad pb w) := by
  unfold Bad bad
  have cl := hr.left
  have hps := hr.sz
  have hmp := hr.lt
  have HT := hid (fun W (hW : Below w.heap.size w W) => take_step pb mb t c l W (hr.below hW hps) h)
  have HK := hid hk
  clear hr h hk
  go_enter Tryd.func22, Tryd.ntmps22
  go_wp2_with (go_at_call 34; refine (HT.out _ (by repeat' first | with_reducible exact Below.refl _ _ | with_reducible assumption | with_reducible refine belows_drewN ?_ _ | with_reducible refine Below.drew ?_ | with_reducible refine Below.setCell ?_ ?_ _ | with_reducible refine Below.alloc ?_ ?_ _ | omega | (simp; done) | (simp; omega))).mono ?_; rintro e w1 ⟨rfl, hg1, hr1⟩; have HR1 := hid hr1; have cl1 := hr1.left; have ck1 := hr1.kinds; have hlk := kmap_look hr1.kmap c; rw [HK.out] at hlk; have HG1 := hid hg1; clear hr1 hg1)
  exact ⟨rfl, rfl, box_grown HG1.out⟩
set_option maxRecDepth 100000 in
set_option maxHeartbeats 400000 in
theorem field_badN (pb mb : Nat) (t : ByteArray) (l : List UInt8) (w : World) (hr : Rd w pb mb t) (h : Ds.bl t = 76 :: l) (hn : ∀ a b, Ds.cutC 59 l = some (a, b) → Ds.classB a = false) (hs : t.size ≤ 255) :
    Calls Tryd.prog 22 #[.pointer (some ⟨pb, 0, none⟩)] w (Bad pb w) := by
  unfold Bad
  have cl := hr.left
  have hps := hr.sz
  have hmp := hr.lt
  have HT := hid (fun W (hW : Below w.heap.size w W) => take_step pb mb t 76 l W (hr.below hW hps) h)
  obtain ⟨z1, z2⟩ := rest_size h
  have hb1 := rest_at h
  rw [← hb1] at hn
  have HN := hid (fun W (hW : Rd W pb mb (t.extract 1 t.size)) => name_bad pb mb (t.extract 1 t.size) W hW hn (by omega))
  clear hr h hn hb1 z1 z2
  unfold bad at HN ⊢
  go_enter Tryd.func22, Tryd.ntmps22
  go_wp2_with (first
    | (go_at_call 34; refine (HT.out _ (by repeat' first | with_reducible exact Below.refl _ _ | with_reducible assumption | with_reducible refine belows_drewN ?_ _ | with_reducible refine Below.drew ?_ | with_reducible refine Below.setCell ?_ ?_ _ | with_reducible refine Below.alloc ?_ ?_ _ | omega | (simp; done) | (simp; omega))).mono ?_; rintro e w1 ⟨rfl, hg1, hr1⟩; have HR1 := hid hr1; have HG1 := hid hg1; clear hr1 hg1)
    | (go_at_call 35; refine (HN.out _ HR1.out).mono ?_; rintro e w2 ⟨rfl, hb2⟩; have HB2 := hid hb2; clear hb2))
  exact ⟨rfl, rfl, box_grown (grown_trans HG1.out (grown_of_below HB2.out _))⟩
set_option maxRecDepth 100000 in
set_option maxHeartbeats 400000 in
theorem field_badA (pb mb : Nat) (t : ByteArray) (l : List UInt8) (w : World) (hr : Rd w pb mb t) (h : Ds.bl t = 91 :: l)
    (HF : ∀ W, Rd W pb mb (t.extract 1 t.size) → Calls Tryd.prog 22 #[.pointer (some ⟨pb, 0, none⟩)] W (Bad pb W)) :
    Calls Tryd.prog 22 #[.pointer (some ⟨pb, 0, none⟩)] w (Bad pb w) := by
  unfold Bad bad at HF ⊢
  have cl := hr.left
  have hps := hr.sz
  have hmp := hr.lt
  have HT := hid (fun W (hW : Below w.heap.size w W) => take_step pb mb t 91 l W (hr.below hW hps) h)
  have HF2 := hid HF
  clear hr h HF
  go_enter Tryd.func22, Tryd.ntmps22
  go_wp2_with (first
    | (go_at_call 34; refine (HT.out _ (by repeat' first | with_reducible exact Below.refl _ _ | with_reducible assumption | with_reducible refine belows_drewN ?_ _ | with_reducible refine Below.drew ?_ | with_reducible refine Below.setCell ?_ ?_ _ | with_reducible refine Below.alloc ?_ ?_ _ | omega | (simp; done) | (simp; omega))).mono ?_; rintro e w1 ⟨rfl, hg1, hr1⟩; have HR1 := hid hr1; have HG1 := hid hg1; clear hr1 hg1)
    | (go_at_call 22; refine (HF2.out _ HR1.out).mono ?_; rintro e w2 ⟨rfl, hg2⟩; have HG2 := hid hg2; clear hg2))
  exact ⟨rfl, rfl, box_grown (grown_trans HG1.out HG2.out)⟩
/-- What field does: as the text says. -/
def FieldPost (pb mb : Nat) (t : ByteArray) (w : World) : Ending → World → Prop := match Ds.rd (Ds.bl t) with
  | none => Bad pb w
  | some (k, m, n) => FieldOk pb mb k m (t.extract n t.size) w
theorem ext_drop (t : ByteArray) (n : Nat) : Ds.bl (t.extract n t.size) = (Ds.bl t).drop n := by
  rw [bl_ext]
  exact List.take_of_length_le (by rw [List.length_drop, bl_len]; omega)
theorem ext_ext (t : ByteArray) (n m : Nat) : (t.extract n t.size).extract m (t.extract n t.size).size = t.extract (n + m) t.size := ba_ext (by rw [ext_drop, ext_drop, ext_drop, List.drop_drop])
theorem u8_ne {c k : UInt8} (h : ¬ c = k) : ((c.toNat : Int) == (k.toNat : Int)) = false := by
  rw [beq_eq_false_iff_ne]; intro e; exact h (UInt8.toNat_inj.1 (by omega))
theorem field_rd (pb mb : Nat) : ∀ (l : List UInt8) (t : ByteArray) (w : World), Rd w pb mb t → Ds.bl t = l → t.size ≤ 255 → Calls Tryd.prog 22 #[.pointer (some ⟨pb, 0, none⟩)] w (FieldPost pb mb t w)
  | [], t, w, hr, h, _ => by unfold FieldPost; rw [h]; exact field_bad0 pb mb t w hr h
  | c :: l, t, w, hr, h, hs => by
    have IH := field_rd pb mb l
    unfold FieldPost at IH ⊢
    obtain ⟨z1, z2⟩ := rest_size h
    have hb1 := rest_at h
    rw [h]
    unfold Ds.rd
    by_cases c1 : c = 73
    · subst c1; rw [if_pos rfl]
      exact field_letter pb mb t 73 l w hr h rfl rfl rfl
    rw [if_neg c1]
    by_cases c2 : c = 74
    · subst c2; rw [if_pos rfl]
      exact field_letter pb mb t 74 l w hr h rfl rfl rfl
    rw [if_neg c2]
    by_cases c3 : c = 91
    · subst c3; rw [if_pos rfl]
      have IH2 : ∀ W, Rd W pb mb (t.extract 1 t.size) → _ := fun W hW => IH (t.extract 1 t.size) W hW hb1 (by omega)
      rw [hb1] at IH2
      cases hrd : Ds.rd l with
      | none => rw [hrd] at IH2; exact field_badA pb mb t l w hr h IH2
      | some x =>
        obtain ⟨k, m, n⟩ := x
        rw [hrd] at IH2
        have hn := Ds.rd_len hrd
        have := field_arr pb mb t _ l n (n + 1) k m w hr h (by rw [ext_drop, hb1]) hn.2 rfl hs IH2
        rw [ext_ext, Nat.add_comm 1 n] at this
        exact this
    rw [if_neg c3]
    by_cases c4 : c = 76
    · subst c4; rw [if_pos rfl]
      cases hcut : Ds.cutC 59 l with
      | none => exact field_badN pb mb t l w hr h (fun a b e => by rw [hcut] at e; cases e) hs
      | some ab =>
        obtain ⟨a, b⟩ := ab
        dsimp only
        cases hc : Ds.classB a with
        | true => exact field_obj pb mb t l a b a.length w hr h hcut rfl hc hs
        | false => exact field_badN pb mb t l w hr h (fun a' b' e => by rw [hcut] at e; cases e; exact hc) hs
    rw [if_neg c4]
    exact field_badK pb mb t c l w hr h (by simp [isK, c1, c2]) (u8_ne c3) (u8_ne c4)
end Go.Proofs.YthhjenmgcbmphaaDoor

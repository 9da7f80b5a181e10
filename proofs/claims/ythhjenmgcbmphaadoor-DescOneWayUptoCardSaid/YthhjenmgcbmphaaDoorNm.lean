/- Contracts of strings.Cut and of the reader's name. -/
import Derived.Test.YthhjenmgcbmphaaDoorRd
namespace Go.Proofs.YthhjenmgcbmphaaDoor
open Go.RowKit

set_option maxRecDepth 100000 in
theorem slcut_none_any (t : ByteArray) (w : World) (h : Ds.cutC 59 (Ds.bl t) = none) : Calls Tryd.prog 48 #[.string t, .string ⟨#[59]⟩] w fun e w' => e = .returned (.tuple #[.string t, .string ⟨#[]⟩, .bool false]) ∧ w = w' := by
  have HI := Sh.stringslite_Index_one t 59 w
  rw [Ds.idx_none h] at HI
  have HI2 := hid HI
  clear HI h
  go_enter Tryd.func48, Tryd.ntmps48
  go_wp2_with (go_at_call 53; refine HI2.out.mono ?_; rintro e w1 ⟨rfl, rfl⟩)
  go_ret3
  exact ⟨rfl, rfl⟩
set_option maxRecDepth 100000 in
theorem slcut_some_any (t : ByteArray) (a b : List UInt8) (m : Nat) (w : World) (h : Ds.cutC 59 (Ds.bl t) = some (a, b)) (hm : a.length = m) (hs : t.size ≤ 9223372036854775000) :
    Calls Tryd.prog 48 #[.string t, .string ⟨#[59]⟩] w fun e w' => e = .returned (.tuple #[.string (t.extract 0 m), .string (t.extract (m + 1) t.size), .bool true]) ∧ ∃ nq, w.drewN nq = w' := by
  have HI := Sh.stringslite_Index_one t 59 w
  rw [Ds.idx_some h, hm] at HI
  have HI2 := hid HI
  have hl : m < t.size := by
    have := congrArg List.length (Ds.cut_eq h)
    rw [bl_len, List.length_append, List.length_cons] at this
    omega
  have hl' : (m : Int) < t.size := by omega
  clear HI h hm
  go_enter Tryd.func48, Tryd.ntmps48
  go_wp2_with (go_at_call 53; refine HI2.out.mono ?_; rintro e w1 ⟨rfl, rfl⟩)
  have hs1 : IntKind.i64.wrap ((m : Int) + 1) = (m : Int) + 1 := IntWalk.i64_in _ (by omega)
  have hs2 : (0 : Int) ≤ (m : Int) + 1 := by omega
  have hs3 : ((m : Int) + 1).toNat = m + 1 := by omega
  have hs4 : (m : Int) + 1 ≤ t.size := by omega
  go_quiet (fail)
  clear hs1 hs2 hs3 hs4
  go_wp2
  go_ret3
  exact ⟨rfl, _, rfl⟩
set_option maxRecDepth 100000 in
theorem cut_none_any (t : ByteArray) (w : World) (h : Ds.cutC 59 (Ds.bl t) = none) : Calls Tryd.prog 43 #[.string t, .string ⟨#[59]⟩] w fun e w' => e = .returned (.tuple #[.string t, .string ⟨#[]⟩, .bool false]) ∧ w = w' := by
  have HI2 := hid (slcut_none_any t w h)
  clear h
  go_enter Tryd.func43, Tryd.ntmps43
  go_wp2_with (go_at_call 48; refine HI2.out.mono ?_; rintro e w1 ⟨rfl, rfl⟩)
  go_ret3
  exact ⟨rfl, rfl⟩
set_option maxRecDepth 100000 in
theorem cut_some_any (t : ByteArray) (a b : List UInt8) (m : Nat) (w : World) (h : Ds.cutC 59 (Ds.bl t) = some (a, b)) (hm : a.length = m) (hs : t.size ≤ 9223372036854775000) :
    Calls Tryd.prog 43 #[.string t, .string ⟨#[59]⟩] w fun e w' => e = .returned (.tuple #[.string (t.extract 0 m), .string (t.extract (m + 1) t.size), .bool true]) ∧ ∃ nq, w.drewN nq = w' := by
  have HI2 := hid (slcut_some_any t a b m w h hm hs)
  clear h hm
  go_enter Tryd.func43, Tryd.ntmps43
  go_wp2_with (go_at_call 48; refine HI2.out.mono ?_; rintro e w1 ⟨rfl, nq, rfl⟩)
  go_ret3
  exact ⟨rfl, _, rfl⟩
/-- What a step of the reader leaves: nothing below it has turned; so much is left. -/
def Step (pb mb : Nat) (t' : ByteArray) (w w' : World) : Prop := w.grownBy w' (some pb) ∧ Rd w' pb mb t'
theorem grown_of_below {w w' : World} (h : Below w.heap.size w w') (row : Option Nat) : w.grownBy w' row := ⟨h.os, h.tape, h.output, h.size, fun i hi _ => h.block i hi⟩
theorem grown_trans {a b c : World} {r : Nat} (h : a.grownBy b (some r)) (k : b.grownBy c (some r)) : a.grownBy c (some r) :=
  ⟨k.os.trans h.os, k.tape.trans h.tape, k.output.trans h.output, Nat.le_trans h.size k.size, fun i hi hne => (k.block i (Nat.lt_of_lt_of_le hi h.size) hne).trans (h.block i hi hne)⟩
theorem below_of_grown {a b : World} {r : Nat} (h : a.grownBy b (some r)) (hr : r < a.heap.size) : Below r a b :=
  (Below.refl r a).grown h (Nat.le_of_lt hr) (fun k e => by cases e; exact Nat.le_refl _)
theorem Rd.keep {w w' : World} {pb mb r : Nat} {t : ByteArray} (h : Rd w pb mb t) (hg : w.grownBy w' (some r)) (hne : pb ≠ r) (hne2 : mb ≠ r) : Rd w' pb mb t := by
  refine ⟨(hg.block pb h.sz (fun e => hne (Option.some.inj e))).trans h.cells, ?_, h.lt⟩
  obtain ⟨es, clock, h1, h2, h3, h4⟩ := h.kmap
  exact ⟨es, clock, (hg.block mb (by have := h.sz; have := h.lt; omega) (fun e => hne2 (Option.some.inj e))).trans h1, h2, h3, h4⟩
theorem cut_parts {t : ByteArray} {a b : List UInt8} {m : Nat} (h : Ds.cutC 59 (Ds.bl t) = some (a, b)) (hm : a.length = m) : Ds.bl (t.extract 0 m) = a ∧ Ds.bl (t.extract (m + 1) t.size) = b ∧ m < t.size := by
  have hl : m < t.size := by
    have := congrArg List.length (Ds.cut_eq h)
    rw [bl_len, List.length_append, List.length_cons] at this
    omega
  refine ⟨by rw [bl_ext, Ds.cut_eq h, ← hm]; simp, ?_, hl⟩
  rw [bl_ext, ← bl_len, Ds.cut_eq h, ← hm]
  rw [show (a ++ 59 :: b).drop (a.length + 1) = b by rw [List.drop_append, List.drop_eq_nil_of_le (by omega)]; simp]
  exact List.take_of_length_le (by simp; omega)
theorem nameE_ok {l : List UInt8} (h : l.length ≤ 255) : nameE l = if Ds.classB l = true then 0 else 21 := by unfold nameE; rw [if_neg (by omega)]
set_option maxRecDepth 100000 in
set_option maxHeartbeats 400000 in
theorem name_ok (pb mb : Nat) (t : ByteArray) (a b : List UInt8) (m : Nat) (w : World) (hr : Rd w pb mb t) (h : Ds.cutC 59 (Ds.bl t) = some (a, b)) (hm : a.length = m) (hc : Ds.classB a = true) (hs : t.size ≤ 255) :
    Calls Tryd.prog 35 #[.pointer (some ⟨pb, 0, none⟩)] w fun e w' => e = .returned (.string (t.extract 0 m)) ∧ Step pb mb (t.extract (m + 1) t.size) w w' := by
  have cl := hr.left
  obtain ⟨p1, p2, p3⟩ := cut_parts h hm
  have HC := hid (cut_some_any t a b m w h hm (by omega))
  have hn : nameE (Ds.bl (t.extract 0 m)) = 0 := by rw [nameE_ok (by rw [bl_len]; have := ext_size t 0 m; omega), p1, hc]; rfl
  have HN := fun W => className_any (t.extract 0 m) W
  rw [hn] at HN
  have HN2 := hid HN
  have HR := hid hr
  have hsz := hr.sz
  clear HN h hm hc p1 p2 hn hr
  go_enter Tryd.func35, Tryd.ntmps35
  go_wp2_with (first
    | (go_at_call 43; refine HC.out.mono ?_; rintro e w0 ⟨rfl, nq, rfl⟩)
    | (go_at_call 27; refine (HN2.out _).mono ?_; rintro e w1 ⟨rfl, hb1⟩; have HR1 := hid (HR.out.below (n₀ := w.heap.size) (belows (b := w.drewN nq) (by repeat' first | with_reducible exact Below.refl _ _ | with_reducible assumption | with_reducible refine belows_drewN ?_ _ | with_reducible refine Below.drew ?_ | with_reducible refine Below.setCell ?_ ?_ _ | with_reducible refine Below.alloc ?_ ?_ _ | omega | (simp; done) | (simp; omega)) hb1 (Nat.le_refl _)) hsz); have cl1 := HR1.out.left; have fl1 := HR1.out.frozen 0))
  go_ret
  exact ⟨rfl, grown_trans (grown_of_below (belows (B := w.heap.size) (b := w.drewN nq) (by repeat' first | with_reducible exact Below.refl _ _ | with_reducible assumption | with_reducible refine belows_drewN ?_ _ | with_reducible refine Below.drew ?_ | with_reducible refine Below.setCell ?_ ?_ _ | with_reducible refine Below.alloc ?_ ?_ _ | omega | (simp; done) | (simp; omega)) hb1 (Nat.le_refl _)) _) (grownBy_setCell' _ _ _), HR1.out.set _⟩
set_option maxRecDepth 100000 in
set_option maxHeartbeats 400000 in
theorem name_bad (pb mb : Nat) (t : ByteArray) (w : World) (hr : Rd w pb mb t) (h : ∀ a b, Ds.cutC 59 (Ds.bl t) = some (a, b) → Ds.classB a = false) (hs : t.size ≤ 255) :
    Calls Tryd.prog 35 #[.pointer (some ⟨pb, 0, none⟩)] w fun e w' => e = bad ∧ Below w.heap.size w w' := by
  have cl := hr.left
  unfold bad
  cases hcut : Ds.cutC 59 (Ds.bl t) with
  | none =>
    have HC := hid (cut_none_any t w hcut)
    clear h hr hcut
    go_enter Tryd.func35, Tryd.ntmps35
    go_wp2_with (go_at_call 43; refine HC.out.mono ?_; rintro e w1 ⟨rfl, rfl⟩)
    exact ⟨rfl, rfl, (by repeat' first | with_reducible exact Below.refl _ _ | with_reducible assumption | with_reducible refine belows_drewN ?_ _ | with_reducible refine Below.drew ?_ | with_reducible refine Below.setCell ?_ ?_ _ | with_reducible refine Below.alloc ?_ ?_ _ | omega | (simp; done) | (simp; omega))⟩
  | some ab =>
    obtain ⟨a, b⟩ := ab
    have hc := h a b hcut
    obtain ⟨m, hm⟩ : ∃ m, a.length = m := ⟨_, rfl⟩
    obtain ⟨p1, p2, p3⟩ := cut_parts hcut hm
    have HC := hid (cut_some_any t a b m w hcut hm (by omega))
    have hn : nameE (Ds.bl (t.extract 0 m)) = 21 := by rw [nameE_ok (by rw [bl_len]; have := ext_size t 0 m; omega), p1, hc]; rfl
    have HN := fun W => className_any (t.extract 0 m) W
    rw [hn] at HN
    have HN2 := hid HN
    clear HN h hm hc p1 p2 hn hr hcut
    go_enter Tryd.func35, Tryd.ntmps35
    go_wp2_with (first
      | (go_at_call 43; refine HC.out.mono ?_; rintro e w0 ⟨rfl, nq, rfl⟩)
      | (go_at_call 27; refine (HN2.out _).mono ?_; rintro e w1 ⟨rfl, hb1⟩))
    exact ⟨rfl, rfl, belows (b := w.drewN nq) (by repeat' first | with_reducible exact Below.refl _ _ | with_reducible assumption | with_reducible refine belows_drewN ?_ _ | with_reducible refine Below.drew ?_ | with_reducible refine Below.setCell ?_ ?_ _ | with_reducible refine Below.alloc ?_ ?_ _ | omega | (simp; done) | (simp; omega)) hb1 (Nat.le_refl _)⟩
end Go.Proofs.YthhjenmgcbmphaaDoor

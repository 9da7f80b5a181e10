/- Contracts of the reader's take and skip. -/
import Derived.Test.YthhjenmgcbmphaaDoorKi
import Derived.Test.YthhjenmgcbmphaaDoorCn
import Derived.WalkLawsBesides
namespace Go.Proofs.YthhjenmgcbmphaaDoor
open Go.RowKit

/-- A reader: what is left of its text; the map of letters lies ahead of it. -/
structure Rd (w : World) (pb mb : Nat) (t : ByteArray) : Prop where
  cells : w.heap[pb]? = some (.cells #[.string t, .map (some mb)] 61 (0, 0))
  kmap : KMap w mb
  lt : mb < pb
theorem Rd.sz {w : World} {pb mb : Nat} {t : ByteArray} (h : Rd w pb mb t) : pb < w.heap.size := (Array.getElem?_eq_some_iff.1 h.cells).1
theorem Rd.left {w : World} {pb mb : Nat} {t : ByteArray} (h : Rd w pb mb t) : w.cell? ⟨pb, 0, none⟩ = some (.string t) := by simp [World.cell?, h.cells]
theorem Rd.kinds {w : World} {pb mb : Nat} {t : ByteArray} (h : Rd w pb mb t) : w.cell? ⟨pb, 1, none⟩ = some (.map (some mb)) := by simp [World.cell?, h.cells]
theorem Rd.frozen {w : World} {pb mb : Nat} {t : ByteArray} (h : Rd w pb mb t) (j : Nat) : w.frozen? ⟨pb, j, none⟩ = false := by simp [World.frozen?, h.cells]
theorem Rd.below {w w' : World} {pb mb n₀ : Nat} {t : ByteArray} (h : Rd w pb mb t) (hb : Below n₀ w w') (hp : pb < n₀) : Rd w' pb mb t := ⟨(hb.block pb hp).trans h.cells, h.kmap.below hb (by have := h.lt; omega), h.lt⟩
theorem Rd.set {w : World} {pb mb : Nat} {t : ByteArray} (h : Rd w pb mb t) (q : ByteArray) : Rd (w.setCell ⟨pb, 0, none⟩ (.string q)) pb mb q := by
  refine ⟨?_, h.kmap.below (n₀ := pb) ((Below.refl _ w).setCell (p := ⟨pb, 0, none⟩) (Nat.le_refl _) _) h.lt, h.lt⟩
  obtain ⟨hlt, hk⟩ := Array.getElem?_eq_some_iff.1 h.cells
  show (w.heap.modify pb _)[pb]? = _
  rw [Array.getElem?_eq_getElem (by rw [Array.size_modify]; exact hlt), Array.getElem_modify_self, hk]
  rfl
/-- What can't be read. -/
def bad : Ending := .panicked [{ v := .iface 24 (.int .i64 20), recovered := false }]
theorem size_pos {t : ByteArray} {c : UInt8} {l : List UInt8} (h : Ds.bl t = c :: l) : 0 < t.size := by rw [← bl_len, h]; simp
theorem first_at {t : ByteArray} {c : UInt8} {l : List UInt8} (h : Ds.bl t = c :: l) : t[0]'(size_pos h) = c := by
  have := bl_at t 0 (size_pos h)
  rw [h] at this
  simpa using this.symm
theorem rest_at {t : ByteArray} {c : UInt8} {l : List UInt8} (h : Ds.bl t = c :: l) : Ds.bl (t.extract 1 t.size) = l := by
  rw [bl_ext, h, ← bl_len, h]; simp
theorem empty_of {t : ByteArray} (h : Ds.bl t = []) : t.size = 0 := by rw [← bl_len, h]; rfl
set_option maxRecDepth 100000 in
theorem take_bad (pb mb : Nat) (t : ByteArray) (w : World) (hr : Rd w pb mb t) (h : Ds.bl t = []) : Calls Tryd.prog 34 #[.pointer (some ⟨pb, 0, none⟩)] w fun e w' => e = bad ∧ w = w' := by
  have cl := hr.left
  have h0 : (t.toList.isEmpty) = true := by rw [ByteArray.toList_eq]; exact List.isEmpty_iff.2 h
  clear h hr
  unfold bad
  go_enter Tryd.func34, Tryd.ntmps34
  go_wp2
  exact ⟨rfl, rfl, rfl⟩
set_option maxRecDepth 100000 in
theorem take_ok (pb mb : Nat) (t : ByteArray) (c : UInt8) (l : List UInt8) (w : World) (hr : Rd w pb mb t) (h : Ds.bl t = c :: l) : Calls Tryd.prog 34 #[.pointer (some ⟨pb, 0, none⟩)] w fun e w' => e = .returned (.int .u8 (c.toNat : Nat)) ∧ w' = w.setCell ⟨pb, 0, none⟩ (.string (t.extract 1 t.size)) := by
  have cl := hr.left
  have fl := hr.frozen 0
  have h1 := size_pos h
  have h1' : (0 : Int) < t.size := by omega
  have HC : Hid (t[0]'h1 = c) := first_at h
  have h0 : (t.toList.isEmpty) = false := by
    rw [ByteArray.toList_eq]
    have : t.data.toList = c :: l := h
    rw [this]; rfl
  clear h hr
  go_enter Tryd.func34, Tryd.ntmps34
  go_wp2
  go_ret
  exact ⟨by rw [← HC.out]; rfl, rfl⟩
set_option maxRecDepth 100000 in
theorem skip_none (pb mb : Nat) (t : ByteArray) (z : Int) (w : World) (hr : Rd w pb mb t) (h : Ds.bl t = []) : Calls Tryd.prog 38 #[.pointer (some ⟨pb, 0, none⟩), .int .u8 z] w fun e w' => e = .returned (.bool false) ∧ w = w' := by
  have cl := hr.left
  have h0 : (t.toList.isEmpty) = true := by rw [ByteArray.toList_eq]; exact List.isEmpty_iff.2 h
  clear h hr
  go_enter Tryd.func38, Tryd.ntmps38
  go_wp2
  go_ret
  exact ⟨rfl, rfl⟩
set_option maxRecDepth 100000 in
theorem skip_other (pb mb : Nat) (t : ByteArray) (c : UInt8) (l : List UInt8) (z : Int) (w : World) (hr : Rd w pb mb t) (h : Ds.bl t = c :: l) (hne : ¬ (c.toNat : Int) = z) : Calls Tryd.prog 38 #[.pointer (some ⟨pb, 0, none⟩), .int .u8 z] w fun e w' => e = .returned (.bool false) ∧ w = w' := by
  have cl := hr.left
  have h1 := size_pos h
  have h1' : (0 : Int) < t.size := by omega
  have HC : t[0]'h1 = c := first_at h
  have hq : (((t[0]'h1).toNat : Int) != z) = true := by rw [HC]; simpa using hne
  have h0 : (t.toList.isEmpty) = false := by
    rw [ByteArray.toList_eq]
    have : t.data.toList = c :: l := h
    rw [this]; rfl
  clear h hr hne HC
  go_enter Tryd.func38, Tryd.ntmps38
  go_wp2
  go_ret
  exact ⟨rfl, rfl⟩
set_option maxRecDepth 100000 in
theorem skip_yes (pb mb : Nat) (t : ByteArray) (c : UInt8) (l : List UInt8) (z : Int) (w : World) (hr : Rd w pb mb t) (h : Ds.bl t = c :: l) (he : (c.toNat : Int) = z) : Calls Tryd.prog 38 #[.pointer (some ⟨pb, 0, none⟩), .int .u8 z] w fun e w' => e = .returned (.bool true) ∧ w' = w.setCell ⟨pb, 0, none⟩ (.string (t.extract 1 t.size)) := by
  have cl := hr.left
  have h1 := size_pos h
  have h1' : (0 : Int) < t.size := by omega
  have HC : t[0]'h1 = c := first_at h
  have hq : (((t[0]'h1).toNat : Int) != z) = false := by rw [HC]; simpa using he
  have h0 : (t.toList.isEmpty) = false := by
    rw [ByteArray.toList_eq]
    have : t.data.toList = c :: l := h
    rw [this]; rfl
  have HT := hid (take_ok pb mb t c l w hr h)
  clear h hr he HC
  go_enter Tryd.func38, Tryd.ntmps38
  go_wp2_with (go_at_call 34; refine HT.out.mono ?_; rintro e w1 ⟨rfl, rfl⟩)
  go_ret
  exact ⟨rfl, rfl⟩
end Go.Proofs.YthhjenmgcbmphaaDoor

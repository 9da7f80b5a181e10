/- Contract of the document's read. -/
import Derived.Test.YthhjenmgcbmphaaDoorPf
namespace Go.Proofs.YthhjenmgcbmphaaDoor
open Go.RowKit

/-- What the document's read answers. -/
def rrOut (l : List UInt8) : Ds.Ty × Int := match Ds.rd l with | none => ((0, []), 0) | some (k, m, n) => ((k, m), (n : Int))
theorem cut_pre {c : UInt8} : ∀ {pre r : List UInt8}, (∀ x ∈ pre, x ≠ c) → Ds.cutC c (pre ++ c :: r) = some (pre, r)
  | [], r, _ => by rw [List.nil_append]; unfold Ds.cutC; rw [if_pos rfl]
  | x :: pre, r, h => by
    rw [List.cons_append]
    unfold Ds.cutC
    rw [if_neg (h x (by simp)), cut_pre fun y hy => h y (by simp [hy])]
theorem cut_none {c : UInt8} : ∀ {pre : List UInt8}, (∀ x ∈ pre, x ≠ c) → Ds.cutC c pre = none
  | [], _ => rfl
  | x :: pre, h => by
    unfold Ds.cutC
    rw [if_neg (h x (by simp)), cut_none fun y hy => h y (by simp [hy])]
def RrPost (s : ByteArray) (w : World) (e : Ending) (w' : World) : Prop := e = .returned (.tuple #[tyV (rrOut (Ds.bl s)).1.1 (rrOut (Ds.bl s)).1.2, .int .i64 (rrOut (Ds.bl s)).2]) ∧ Below w.heap.size w w'
set_option maxRecDepth 100000 in
set_option maxHeartbeats 400000 in
theorem rread_nil (s : ByteArray) (w : World) (h : Ds.bl s = []) : Calls Tryd.prog 23 #[.string s] w (RrPost s w) := by
  unfold RrPost
  rw [h, show rrOut [] = ((0, []), 0) from rfl]
  unfold tyV
  have h0 : (s.toList.isEmpty) = true := by rw [ByteArray.toList_eq]; exact List.isEmpty_iff.2 h
  clear h
  go_enter Tryd.func23, Tryd.ntmps23
  go_wp2
  exact bodyPost_ret (v := .tuple #[.agg #[.int .i64 0, .string ⟨#[]⟩], .int .i64 0]) (by simp [results, Tryd.results23, go_sem]) rfl ⟨rfl, (by repeat' first | with_reducible exact Below.refl _ _ | with_reducible assumption | with_reducible refine belows_drewN ?_ _ | with_reducible refine Below.drew ?_ | with_reducible refine Below.setCell ?_ ?_ _ | with_reducible refine Below.alloc ?_ ?_ _ | omega | (simp; done) | (simp; omega))⟩
set_option maxRecDepth 100000 in
set_option maxHeartbeats 400000 in
theorem rread_letter (s : ByteArray) (c : UInt8) (l : List UInt8) (w : World) (h : Ds.bl s = c :: l) (hc : c = 73 ∨ c = 74) : Calls Tryd.prog 23 #[.string s] w (RrPost s w) := by
  unfold RrPost
  have h1 := size_pos h
  have h1' : (0 : Int) < s.size := by omega
  have h0 : (s.toList.isEmpty) = false := by
    rw [ByteArray.toList_eq]
    have : s.data.toList = c :: l := h
    rw [this]; rfl
  have HC : s[0]'h1 = c := first_at h
  rw [h]
  rcases hc with rfl | rfl
  · rw [show rrOut (73 :: l) = ((1, []), 1) from rfl]
    unfold tyV
    clear h
    go_enter Tryd.func23, Tryd.ntmps23
    go_wp2
    exact bodyPost_ret (v := .tuple #[.agg #[.int .i64 1, .string ⟨#[]⟩], .int .i64 1]) (by simp [results, Tryd.results23, go_sem]) rfl ⟨rfl, (by repeat' first | with_reducible exact Below.refl _ _ | with_reducible assumption | with_reducible refine belows_drewN ?_ _ | with_reducible refine Below.drew ?_ | with_reducible refine Below.setCell ?_ ?_ _ | with_reducible refine Below.alloc ?_ ?_ _ | omega | (simp; done) | (simp; omega))⟩
  · rw [show rrOut (74 :: l) = ((2, []), 1) from rfl]
    unfold tyV
    clear h
    go_enter Tryd.func23, Tryd.ntmps23
    go_wp2
    exact bodyPost_ret (v := .tuple #[.agg #[.int .i64 2, .string ⟨#[]⟩], .int .i64 1]) (by simp [results, Tryd.results23, go_sem]) rfl ⟨rfl, (by repeat' first | with_reducible exact Below.refl _ _ | with_reducible assumption | with_reducible refine belows_drewN ?_ _ | with_reducible refine Below.drew ?_ | with_reducible refine Below.setCell ?_ ?_ _ | with_reducible refine Below.alloc ?_ ?_ _ | omega | (simp; done) | (simp; omega))⟩
set_option maxRecDepth 100000 in
set_option maxHeartbeats 400000 in
theorem rread_other (s : ByteArray) (c : UInt8) (l : List UInt8) (w : World) (h : Ds.bl s = c :: l) (c1 : c ≠ 73) (c2 : c ≠ 74) (c3 : c ≠ 91) (c4 : c ≠ 76) : Calls Tryd.prog 23 #[.string s] w (RrPost s w) := by
  unfold RrPost
  have h1 := size_pos h
  have h1' : (0 : Int) < s.size := by omega
  have h0 : (s.toList.isEmpty) = false := by
    rw [ByteArray.toList_eq]
    have : s.data.toList = c :: l := h
    rw [this]; rfl
  have HC : s[0]'h1 = c := first_at h
  have d1 : ((c.toNat : Int) == 73) = false := u8_ne c1
  have d2 : ((c.toNat : Int) == 74) = false := u8_ne c2
  have d3 : ((c.toNat : Int) == 91) = false := u8_ne c3
  have d4 : ((c.toNat : Int) == 76) = false := u8_ne c4
  rw [h, show rrOut (c :: l) = ((0, []), 0) by unfold rrOut Ds.rd; rw [if_neg c1, if_neg c2, if_neg c3, if_neg c4]]
  unfold tyV
  clear h c1 c2 c3 c4
  go_enter Tryd.func23, Tryd.ntmps23
  go_wp2
  exact bodyPost_ret (v := .tuple #[.agg #[.int .i64 0, .string ⟨#[]⟩], .int .i64 0]) (by simp [results, Tryd.results23, go_sem]) rfl ⟨rfl, (by repeat' first | with_reducible exact Below.refl _ _ | with_reducible assumption | with_reducible refine belows_drewN ?_ _ | with_reducible refine Below.drew ?_ | with_reducible refine Below.setCell ?_ ?_ _ | with_reducible refine Below.alloc ?_ ?_ _ | omega | (simp; done) | (simp; omega))⟩
set_option maxRecDepth 100000 in
set_option maxHeartbeats 400000 in
theorem rread_arr (s : ByteArray) (l : List UInt8) (w : World) (h : Ds.bl s = 91 :: l) (hs : s.size ≤ 255) (IH : ∀ W, Calls Tryd.prog 23 #[.string (s.extract 1 s.size)] W (RrPost (s.extract 1 s.size) W)) : Calls Tryd.prog 23 #[.string s] w (RrPost s w) := by
  unfold RrPost at IH ⊢
  have h1 := size_pos h
  have h1' : (0 : Int) < s.size := by omega
  have h1i : (1 : Int) ≤ s.size := by omega
  have h0 : (s.toList.isEmpty) = false := by
    rw [ByteArray.toList_eq]
    have : s.data.toList = 91 :: l := h
    rw [this]; rfl
  have HC : s[0]'h1 = 91 := first_at h
  rw [rest_at h] at IH
  rw [h]
  unfold rrOut at IH ⊢
  rw [show Ds.rd (91 :: l) = match Ds.rd l with | none => none | some (_, _, n) => some (4, (91 :: l).take (n + 1), n + 1) from rfl]
  cases hr : Ds.rd l with
  | none =>
    rw [hr] at IH
    dsimp only at IH ⊢
    unfold tyV at IH ⊢
    have HI := hid IH
    clear IH h hr
    go_enter Tryd.func23, Tryd.ntmps23
    go_wp2_with (go_at_call 23; refine (HI.out _).mono ?_; rintro e w1 ⟨rfl, hb1⟩; obtain ⟨hcc, hff⟩ := bcell hb1; have hz1 := hb1.size; simp only [World.size_alloc] at hz1; have hz2 : w.heap.size < w1.heap.size := (by omega))
    have hA := belows (B := w.heap.size) (a := w) (by repeat' first | with_reducible exact Below.refl _ _ | with_reducible assumption | with_reducible refine belows_drewN ?_ _ | with_reducible refine Below.drew ?_ | with_reducible refine Below.setCell ?_ ?_ _ | with_reducible refine Below.alloc ?_ ?_ _ | omega | (simp; done) | (simp; omega)) hb1 (by simp)
    exact bodyPost_ret (v := .tuple #[.agg #[.int .i64 0, .string ⟨#[]⟩], .int .i64 0]) (by simp [results, Tryd.results23, go_sem, hcc, hz2]) rfl ⟨rfl, (by repeat' first | with_reducible exact Below.refl _ _ | with_reducible assumption | with_reducible refine belows_drewN ?_ _ | with_reducible refine Below.drew ?_ | with_reducible refine Below.setCell ?_ ?_ _ | with_reducible refine Below.alloc ?_ ?_ _ | omega | (simp; done) | (simp; omega))⟩
  | some y =>
    obtain ⟨k, m, n⟩ := y
    have hn := Ds.rd_len hr
    obtain ⟨z1, z2⟩ := rest_size h
    rw [hr] at IH
    dsimp only at IH ⊢
    unfold tyV at IH ⊢
    have HI := hid IH
    have hE := hid (show s.extract 0 (n + 1) = ⟨((91 :: l).take (n + 1)).toArray⟩ from ba_ext (by rw [bl_ext, h]; simp))
    have hb0 : ((n : Int) == 0) = false := by rw [beq_eq_false_iff_ne]; omega
    have hs1 : IntKind.i64.wrap ((n : Int) + 1) = (n : Int) + 1 := IntWalk.i64_in _ (by omega)
    have hs2 : (0 : Int) ≤ (n : Int) + 1 := by omega
    have hs3 : ((n : Int) + 1).toNat = n + 1 := by omega
    have hs4 : (n : Int) + 1 ≤ s.size := by omega
    clear IH h hr z1 z2 hn
    go_enter Tryd.func23, Tryd.ntmps23
    go_wp2_with (go_at_call 23; refine (HI.out _).mono ?_; rintro e w1 ⟨rfl, hb1⟩; obtain ⟨hcc, hff⟩ := bcell hb1; have hz1 := hb1.size; simp only [World.size_alloc] at hz1; have hz2 : w.heap.size < w1.heap.size := (by omega))
    have hA := belows (B := w.heap.size) (a := w) (by repeat' first | with_reducible exact Below.refl _ _ | with_reducible assumption | with_reducible refine belows_drewN ?_ _ | with_reducible refine Below.drew ?_ | with_reducible refine Below.setCell ?_ ?_ _ | with_reducible refine Below.alloc ?_ ?_ _ | omega | (simp; done) | (simp; omega)) hb1 (by simp)
    rw [← hE.out, show ((n + 1 : Nat) : Int) = (n : Int) + 1 by omega]
    exact bodyPost_ret (v := .tuple #[.agg #[.int .i64 4, .string (s.extract 0 (n + 1))], .int .i64 ((n : Int) + 1)]) (by simp [results, Tryd.results23, go_sem, hcc, hz2]) rfl ⟨rfl, (by repeat' first | with_reducible exact Below.refl _ _ | with_reducible assumption | with_reducible refine belows_drewN ?_ _ | with_reducible refine Below.drew ?_ | with_reducible refine Below.setCell ?_ ?_ _ | with_reducible refine Below.alloc ?_ ?_ _ | omega | (simp; done) | (simp; omega))⟩
end Go.Proofs.YthhjenmgcbmphaaDoor

/- Contracts of entryAt, Text, Class, Number, and of the document's. -/
import Derived.Test.YtljbcclfafndmaaDoorCr
namespace Go.Proofs.YtljbcclfafndmaaDoor
open Go.RowKit

/-- The entry at an index, if it has a tag. -/
def enA (l : List Cp.C) (i tag : Int) : Option Cp.C := if 0 ≤ i ∧ i < l.length then (match l[i.toNat]? with
  | some c => if c.t = tag then some c else none
  | none => none) else none
/-- How an entry that may not be is told: the entry, or an empty one. -/
def enV (x : Option Cp.C) : Cp.C := x.getD Cp.C0
def erV {α : Type} (x : Option α) : Int := match x with | some _ => 0 | none => 33
theorem enA_cases (l : List Cp.C) (i tag : Int) : (i < 0 ∧ enA l i tag = none) ∨ (¬ i < 0 ∧ (l.length : Int) ≤ i ∧ enA l i tag = none) ∨ (∃ (k : Nat) (c : Cp.C), i = k ∧ k < l.length ∧ l[k]? = some c ∧ ((c.t = tag ∧ enA l i tag = some c) ∨ (c.t ≠ tag ∧ enA l i tag = none))) := by
  unfold enA
  by_cases h0 : i < 0
  · exact .inl ⟨h0, by rw [if_neg (by omega)]⟩
  · by_cases h1 : (l.length : Int) ≤ i
    · exact .inr (.inl ⟨h0, h1, by rw [if_neg (by omega)]⟩)
    · obtain ⟨k, rfl⟩ := Int.eq_ofNat_of_zero_le (show 0 ≤ i by omega)
      have hk : k < l.length := by omega
      refine .inr (.inr ⟨k, l[k], rfl, hk, List.getElem?_eq_getElem hk, ?_⟩)
      rw [if_pos (by omega), show ((k : Int)).toNat = k by omega, List.getElem?_eq_getElem hk]
      dsimp only
      by_cases ht : l[k].t = tag
      · exact .inl ⟨ht, by rw [if_pos ht]⟩
      · exact .inr ⟨ht, by rw [if_neg ht]⟩
set_option maxRecDepth 100000 in
set_option maxHeartbeats 1000000 in
theorem entryAt_any (l : List Cp.C) (i tag : Int) (v : Value) (w : World) (hv : Kit.IsS 5 w v l.length (l.flatMap cL)) :
    Calls Tryd.prog 44 #[v, .int .i64 i, .int .i64 tag] w fun e w' => e = .returned (.tuple #[.agg (cC (enV (enA l i tag))), .int .i64 (erV (enA l i tag))]) ∧ Below w.heap.size w w' := by
  have hlen := hv.2.1
  rcases enA_cases l i tag with ⟨h0, hn⟩ | ⟨h0, h1, hn⟩ | ⟨k, c, rfl, hk, hc, ⟨ht, hn⟩ | ⟨ht, hn⟩⟩
  · obtain ⟨a, cap, rfl⟩ := hv.len
    rw [hn]
    have hd : decide (i < 0) = true := by simpa using h0
    clear hv hn
    go_enter Tryd.func44, Tryd.ntmps44; go_wp2
    exact bodyPost_ret (v := .tuple #[.agg #[.int .i64 0, .string ⟨#[]⟩, .int .i64 0, .int .i64 0, .int .i64 0], .int .i64 33]) (by simp [results, Tryd.results44, go_sem]) rfl ⟨rfl, (by repeat' first | with_reducible exact Below.refl _ _ | with_reducible assumption | with_reducible refine belows_drewN ?_ _ | with_reducible refine Below.drew ?_ | with_reducible refine Below.setCell ?_ ?_ _ | with_reducible refine Below.alloc ?_ ?_ _ | omega | (simp; done) | (simp; omega))⟩
  · obtain ⟨a, cap, rfl⟩ := hv.len
    rw [hn]
    have hd : decide (i < 0) = false := by simpa using h0
    have hd2 : decide ((l.length : Int) ≤ i) = true := by simpa using h1
    clear hv hn
    go_enter Tryd.func44, Tryd.ntmps44; go_wp2
    exact bodyPost_ret (v := .tuple #[.agg #[.int .i64 0, .string ⟨#[]⟩, .int .i64 0, .int .i64 0, .int .i64 0], .int .i64 33]) (by simp [results, Tryd.results44, go_sem]) rfl ⟨rfl, (by repeat' first | with_reducible exact Below.refl _ _ | with_reducible assumption | with_reducible refine belows_drewN ?_ _ | with_reducible refine Below.drew ?_ | with_reducible refine Below.setCell ?_ ?_ _ | with_reducible refine Below.alloc ?_ ?_ _ | omega | (simp; done) | (simp; omega))⟩
  · obtain ⟨b, o, cap, rfl, hb, c0, c1, c2, c3, c4⟩ := c_at hv hc
    rw [hn]
    have hd2 : decide ((l.length : Int) ≤ (k : Int)) = false := by simp; omega
    have hki : (k : Int) < l.length := by omega
    unfold enV erV cC
    dsimp only [Option.getD_some]
    obtain ⟨t, s, n, a, bb⟩ := c
    dsimp only at c0 c1 c2 c3 c4 ht ⊢
    subst ht
    clear hv hn hc
    go_enter Tryd.func44, Tryd.ntmps44; go_wp2
    exact bodyPost_ret (v := .tuple #[.agg #[.int .i64 t, .string s, .int .i64 n, .int .i64 a, .int .i64 bb], .int .i64 0]) (by simp [results, Tryd.results44, go_sem]) rfl ⟨rfl, (by repeat' first | with_reducible exact Below.refl _ _ | with_reducible assumption | with_reducible refine belows_drewN ?_ _ | with_reducible refine Below.drew ?_ | with_reducible refine Below.setCell ?_ ?_ _ | with_reducible refine Below.alloc ?_ ?_ _ | omega | (simp; done) | (simp; omega))⟩
  · obtain ⟨b, o, cap, rfl, hb, c0, c1, c2, c3, c4⟩ := c_at hv hc
    rw [hn]
    have hd2 : decide ((l.length : Int) ≤ (k : Int)) = false := by simp; omega
    have hki : (k : Int) < l.length := by omega
    have hd0 : decide ((k : Int) < 0) = false := by simp
    have hd2n : decide (l.length ≤ k) = false := by simp; omega
    have hd3 : (c.t != tag) = true := by simpa using ht
    clear hv hn hc ht
    go_enter Tryd.func44, Tryd.ntmps44; go_wp2
    exact bodyPost_ret (v := .tuple #[.agg #[.int .i64 0, .string ⟨#[]⟩, .int .i64 0, .int .i64 0, .int .i64 0], .int .i64 33]) (by simp [results, Tryd.results44, go_sem]) rfl ⟨rfl, (by repeat' first | with_reducible exact Below.refl _ _ | with_reducible assumption | with_reducible refine belows_drewN ?_ _ | with_reducible refine Below.drew ?_ | with_reducible refine Below.setCell ?_ ?_ _ | with_reducible refine Below.alloc ?_ ?_ _ | omega | (simp; done) | (simp; omega))⟩
set_option maxRecDepth 100000 in
set_option maxHeartbeats 1000000 in
theorem at_any (l : List Cp.C) (i tag : Int) (v : Value) (w : World) (hv : Kit.IsS 5 w v l.length (l.flatMap cL)) :
    Calls Tryd.prog 45 #[v, .int .i64 i, .int .i64 tag] w fun e w' => e = .returned (.tuple #[.agg (cC (enV (enA l i tag))), .bool (enA l i tag).isSome]) ∧ Below w.heap.size w w' := by
  have hlen := hv.2.1
  rcases enA_cases l i tag with ⟨h0, hn⟩ | ⟨h0, h1, hn⟩ | ⟨k, c, rfl, hk, hc, ⟨ht, hn⟩ | ⟨ht, hn⟩⟩
  · obtain ⟨a, cap, rfl⟩ := hv.len
    rw [hn]
    have hd : decide (i < 0) = true := by simpa using h0
    clear hv hn
    go_enter Tryd.func45, Tryd.ntmps45; go_wp2
    exact bodyPost_ret (v := .tuple #[.agg #[.int .i64 0, .string ⟨#[]⟩, .int .i64 0, .int .i64 0, .int .i64 0], .bool false]) (by simp [results, Tryd.results45, go_sem]) rfl ⟨rfl, (by repeat' first | with_reducible exact Below.refl _ _ | with_reducible assumption | with_reducible refine belows_drewN ?_ _ | with_reducible refine Below.drew ?_ | with_reducible refine Below.setCell ?_ ?_ _ | with_reducible refine Below.alloc ?_ ?_ _ | omega | (simp; done) | (simp; omega))⟩
  · obtain ⟨a, cap, rfl⟩ := hv.len
    rw [hn]
    have hd : decide (i < 0) = false := by simpa using h0
    have hd2 : decide ((l.length : Int) ≤ i) = true := by simpa using h1
    clear hv hn
    go_enter Tryd.func45, Tryd.ntmps45; go_wp2
    exact bodyPost_ret (v := .tuple #[.agg #[.int .i64 0, .string ⟨#[]⟩, .int .i64 0, .int .i64 0, .int .i64 0], .bool false]) (by simp [results, Tryd.results45, go_sem]) rfl ⟨rfl, (by repeat' first | with_reducible exact Below.refl _ _ | with_reducible assumption | with_reducible refine belows_drewN ?_ _ | with_reducible refine Below.drew ?_ | with_reducible refine Below.setCell ?_ ?_ _ | with_reducible refine Below.alloc ?_ ?_ _ | omega | (simp; done) | (simp; omega))⟩
  · obtain ⟨b, o, cap, rfl, hb, c0, c1, c2, c3, c4⟩ := c_at hv hc
    rw [hn]
    have hd2 : decide ((l.length : Int) ≤ (k : Int)) = false := by simp; omega
    have hki : (k : Int) < l.length := by omega
    unfold enV cC
    dsimp only [Option.getD_some, Option.isSome_some]
    obtain ⟨t, s, n, a, bb⟩ := c
    dsimp only at c0 c1 c2 c3 c4 ht ⊢
    subst ht
    clear hv hn hc
    go_enter Tryd.func45, Tryd.ntmps45; go_wp2
    exact bodyPost_ret (v := .tuple #[.agg #[.int .i64 t, .string s, .int .i64 n, .int .i64 a, .int .i64 bb], .bool true]) (by simp [results, Tryd.results45, go_sem]) rfl ⟨rfl, (by repeat' first | with_reducible exact Below.refl _ _ | with_reducible assumption | with_reducible refine belows_drewN ?_ _ | with_reducible refine Below.drew ?_ | with_reducible refine Below.setCell ?_ ?_ _ | with_reducible refine Below.alloc ?_ ?_ _ | omega | (simp; done) | (simp; omega))⟩
  · obtain ⟨b, o, cap, rfl, hb, c0, c1, c2, c3, c4⟩ := c_at hv hc
    rw [hn]
    have hd2 : decide ((l.length : Int) ≤ (k : Int)) = false := by simp; omega
    have hki : (k : Int) < l.length := by omega
    have hd0 : decide ((k : Int) < 0) = false := by simp
    have hd2n : decide (l.length ≤ k) = false := by simp; omega
    have hd3 : (c.t != tag) = true := by simpa using ht
    clear hv hn hc ht
    go_enter Tryd.func45, Tryd.ntmps45; go_wp2
    exact bodyPost_ret (v := .tuple #[.agg #[.int .i64 0, .string ⟨#[]⟩, .int .i64 0, .int .i64 0, .int .i64 0], .bool false]) (by simp [results, Tryd.results45, go_sem]) rfl ⟨rfl, (by repeat' first | with_reducible exact Below.refl _ _ | with_reducible assumption | with_reducible refine belows_drewN ?_ _ | with_reducible refine Below.drew ?_ | with_reducible refine Below.setCell ?_ ?_ _ | with_reducible refine Below.alloc ?_ ?_ _ | omega | (simp; done) | (simp; omega))⟩
end Go.Proofs.YtljbcclfafndmaaDoor

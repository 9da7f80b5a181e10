/- Contract of write: a number's lowest bytes. -/
import Derived.Test.YtljbcclfafndmaaDoorCq
namespace Go.Proofs.YtljbcclfafndmaaDoor
open Go.RowKit

/-- A place in a pool. -/
theorem c_at {w : World} {v : Value} {l : List Cp.C} (h : Kit.IsS 5 w v l.length (l.flatMap cL)) {k : Nat} {x : Cp.C} (hx : l[k]? = some x) :
    ∃ b o cap, v = .slice (some ⟨b, o, none⟩) l.length cap ∧ b < w.heap.size ∧ w.cell? ⟨b, o + k * 5, none⟩ = some (.int .i64 x.t) ∧ w.cell? ⟨b, o + k * 5 + 1, none⟩ = some (.string x.s) ∧ w.cell? ⟨b, o + k * 5 + 2, none⟩ = some (.int .i64 x.n) ∧ w.cell? ⟨b, o + k * 5 + 3, none⟩ = some (.int .i64 x.a) ∧ w.cell? ⟨b, o + k * 5 + 4, none⟩ = some (.int .i64 x.b) := by
  have hk : k < l.length := by rw [List.getElem?_eq_some_iff] at hx; exact hx.1
  obtain ⟨b, o, cap, hv, -, hlt, hc⟩ := h.some (by omega)
  have f := fun j hj => Kit.flat_at cL_len hx j hj
  refine ⟨b, o, cap, hv, hlt, ?_, ?_, ?_, ?_, ?_⟩
  · exact hc (k * 5 + 0) _ (f 0 (by omega))
  · exact hc (k * 5 + 1) _ (f 1 (by omega))
  · exact hc (k * 5 + 2) _ (f 2 (by omega))
  · exact hc (k * 5 + 3) _ (f 3 (by omega))
  · exact hc (k * 5 + 4) _ (f 4 (by omega))
/-- Numbers as bytes in memory of its own. -/
def OwnI (w : World) (base : Nat) (v : Value) (l : List Int) : Prop := w.ownsRow base 5 1 v l.length (l.map (Value.int .u8))
theorem nilI (w : World) (base : Nat) : OwnI w base (.slice none 0 0) [] := ⟨rfl, .inl ⟨rfl, rfl⟩⟩
theorem OwnI.snoc {w : World} {base : Nat} {v : Value} {l : List Int} {z : Int} (h : w.ownsRow base 5 1 v (l.length + 1) (l.map (Value.int .u8) ++ [.int .u8 z])) : OwnI w base v (l ++ [z]) := by
  unfold OwnI
  rw [List.length_append, List.map_append]
  exact h
theorem infoB : (Tryd.prog.info? 5).map (fun i => (i.zero, i.size, i.bytes)) = some (some (.int .u8 0), 1, 1) := by kernel_rfl
/-- The byte at a place of a number of so many bytes. -/
def byteN (z : Int) (size k : Nat) : Int := (z / 2 ^ (8 * (size - 1 - k))) % 256
def bytesN (z : Int) (size : Nat) : List Int := (List.range size).map (byteN z size)
theorem bytesN_take {z : Int} {size k : Nat} (h : k < size) : (bytesN z size).take (k + 1) = (bytesN z size).take k ++ [byteN z size k] := by
  unfold bytesN
  rw [List.take_add_one, List.getElem?_map, List.getElem?_range h]
  rfl
theorem bytesN_len (z : Int) (size : Nat) : (bytesN z size).length = size := by unfold bytesN; simp
set_option maxRecDepth 100000 in
set_option maxHeartbeats 1000000 in
theorem write_any (base : Nat) (l : List Int) (v : Value) (z : Int) (size : Nat) (w : World) (ho : OwnI w base v l) (hb : base ≤ w.heap.size) (hl : l.length ≤ 1099511627776) (hs : size ≤ 8) :
    Calls Tryd.prog 38 #[v, .int .i64 z, .int .i64 size] w fun e w' => ∃ v', e = .returned v' ∧ OwnI w' base v' (l ++ bytesN z size) ∧ Kit.Grows w w' v v' := by
  have HO := hid ho
  obtain ⟨i0, hi, hz0, hz1, hz2⟩ := info_parts infoB
  clear ho
  go_enter Tryd.func38, Tryd.ntmps38
  go_wp2
  go_loopw [0, 9] (fun u i wr => ∃ k : Nat, k ≤ size ∧ i = .int .i64 k ∧ OwnI wr base u (l ++ (bytesN z size).take k) ∧ Kit.Grows w wr v u) (fun _ i _ => size - (intOf i).toNat)
  case atStart => exact ⟨0, by omega, rfl, by rw [List.take_zero, List.append_nil]; exact HO.out, Kit.Grows.refl _ _⟩
  case round =>
    obtain ⟨k, hk, rfl, hown, hgr⟩ := hrel
    have hzr := hgr.size
    have hlk : (l ++ (bytesN z size).take k).length ≤ 1099511627776 + 8 := by rw [List.length_append, List.length_take, bytesN_len]; omega
    by_cases hlt : k < size
    · have hki : (k : Int) < size := by omega
      have hw1 : IntKind.i64.wrap ((size : Int) - 1) = (size : Int) - 1 := IntWalk.i64_in _ (by omega)
      have hw2 : IntKind.i64.wrap ((size : Int) - 1 - k) = (size : Int) - 1 - k := IntWalk.i64_in _ (by omega)
      have hnn : ¬ ((size : Int) - 1 - k) * 8 < 0 := by omega
      have hBy := hid (bytesN_take (z := z) hlt)
      obtain ⟨m, hm⟩ : ∃ m : Nat, (size : Int) - 1 - k = m := ⟨size - 1 - k, by omega⟩
      have hB := hid (show byteN z size k = z / 2 ^ (8 * m) % 256 by unfold byteN; rw [show size - 1 - k = m by omega])
      go_wp2_with (at_builtin; refine wpList_append_own_at _ rfl (.tmp 12) (.tmp 21) 22 rfl base 5 i0 _ 1 1 Tryd.underlying22 hi hz0 hz1 hz2 rfl (by decide) _ _ _ rfl (World.ownsRow.alloc hown _) ⟨wr.heap.size, 0, none⟩ 1 1 [.int .u8 (z / 2 ^ (8 * m) % 256)] rfl rfl (Kit.news_one _ _ _) (Kit.ones_one rfl) (by unfold maxLen; omega) (by omega) (by simp only [World.size_alloc]; omega) ?_; intro v1 w1 ho1' hg1 _ hk1; have ho1 := OwnI.snoc ho1'; have G1 := Kit.grows_append ((Below.refl wr.heap.size wr).alloc (Nat.le_refl _) (.cells #[.int .u8 (z / 2 ^ (8 * m) % 256)] 5)) hg1 hk1; clear ho1' hg1 hk1)
      rw [← hB.out, List.append_assoc, ← hBy.out] at ho1
      go_roundw
      case rel => exact ⟨k + 1, by omega, by go_num, ho1, hgr.trans G1⟩
      case measure => simp [intOf]; omega
    · obtain rfl : k = size := by omega
      have HT := hid (show (bytesN z k).take k = bytesN z k from List.take_of_length_le (by rw [bytesN_len]; exact Nat.le_refl _))
      go_wp2
      go_ret
      exact ⟨_, rfl, by rw [← HT.out]; exact hown, hgr⟩
set_option maxRecDepth 100000 in
set_option maxHeartbeats 400000 in
/-- The document's Same at equal pools. -/
theorem same_any (l : List Cp.C) (v u : Value) (w : World) (hv : Kit.IsS 5 w v l.length (l.flatMap cL)) (hu : Kit.IsS 5 w u l.length (l.flatMap cL)) :
    Calls Tryd.prog 13 #[v, u] w fun e w' => e = .returned (.bool true) ∧ Below w.heap.size w w' := by
  have HV := hid hv
  have HU := hid hu
  obtain ⟨a1, cap1, hv2⟩ := hv.len
  obtain ⟨a2, cap2, hu2⟩ := hu.len
  subst hv2 hu2
  have hlen := hv.2.1
  clear hv hu
  go_enter Tryd.func13, Tryd.ntmps13
  go_wp2
  go_loopw [5] (fun i wr => ∃ k : Nat, k ≤ l.length ∧ i = .int .i64 k ∧ Below w.heap.size w wr) (fun i _ => l.length - (intOf i).toNat)
  case atStart => exact ⟨0, by omega, rfl, (by repeat' first | with_reducible exact Below.refl _ _ | with_reducible assumption | with_reducible refine belows_drewN ?_ _ | with_reducible refine Below.drew ?_ | with_reducible refine Below.setCell ?_ ?_ _ | with_reducible refine Below.alloc ?_ ?_ _ | omega | (simp; done) | (simp; omega))⟩
  case round =>
    obtain ⟨k, hk, rfl, hbl⟩ := hrel
    have hbz := hbl.size
    by_cases hlt : k < l.length
    · obtain ⟨x, hx⟩ : ∃ x, l[k]? = some x := ⟨l[k], List.getElem?_eq_getElem hlt⟩
      obtain ⟨b, o, cap', hv, hb, c0, c1, c2, c3, c4⟩ := c_at (HV.out.below hbl (Nat.le_refl _)) hx
      obtain ⟨rfl, -, rfl⟩ := Value.slice.inj hv
      obtain ⟨b', o', cap', hv', hb', d0, d1, d2, d3, d4⟩ := c_at (HU.out.below hbl (Nat.le_refl _)) hx
      obtain ⟨rfl, -, rfl⟩ := Value.slice.inj hv'
      have i1 : (k : Int) < (l.length : Int) := by omega
      clear hx hv hv'
      go_wp2
      go_quiet (fail)
      go_wp2
      go_roundw
      case rel => exact ⟨k + 1, by omega, by go_num, (by repeat' first | with_reducible exact Below.refl _ _ | with_reducible assumption | with_reducible refine belows_drewN ?_ _ | with_reducible refine Below.drew ?_ | with_reducible refine Below.setCell ?_ ?_ _ | with_reducible refine Below.alloc ?_ ?_ _ | omega | (simp; done) | (simp; omega))⟩
      case measure => simp [intOf]; omega
    · obtain rfl : k = l.length := by omega
      go_wp2
      go_ret
      exact ⟨rfl, (by repeat' first | with_reducible exact Below.refl _ _ | with_reducible assumption | with_reducible refine belows_drewN ?_ _ | with_reducible refine Below.drew ?_ | with_reducible refine Below.setCell ?_ ?_ _ | with_reducible refine Below.alloc ?_ ?_ _ | omega | (simp; done) | (simp; omega))⟩
end Go.Proofs.YtljbcclfafndmaaDoor

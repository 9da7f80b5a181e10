/- Contracts of bytes.Clone, slices.Clone, bytes.Equal. -/
import Derived.Test.YtihklojiionanaaDoorOpY
import Derived.Lib.SliceRun
namespace Go.Proofs.YtihklojiionanaaDoor
open Go.RowKit

/-- A slice of no elements at the head of a new row. -/
theorem owns_empty {w : World} {base : Nat} {e : TypeId} {size : Nat} (hB : base ≤ w.heap.size) : (w.alloc (.cells #[] e)).ownsRow base e size (.slice (some ⟨w.heap.size, 0, none⟩) 0 0) 0 [] :=
  ⟨by simp, .inr ⟨w.heap.size, 0, #[], rfl, hB, heap_alloc_last w _, by omega, by unfold maxLen; omega, by simp, by simp⟩⟩
def ClonePost (e : TypeId) (size n : Nat) (xs : List Value) (w : World) (en : Ending) (w' : World) : Prop := ∃ v, en = .returned v ∧ w'.ownsRow w.heap.size e size v n xs ∧ Below w.heap.size w w'
set_option maxRecDepth 100000 in
set_option maxHeartbeats 400000 in
theorem bclone_some (bs : List UInt8) (ad : Addr) (cap : Nat) (w : World) (hn : bs.length ≤ 140737488355328) (hc : ∀ j u, (byteVals bs)[j]? = some u → w.cell? (ad.add j) = some u) : Calls Tryd.prog 36 #[.slice (some ad) bs.length cap] w (ClonePost 5 1 bs.length (byteVals bs) w) := by
  obtain ⟨i0, hi, hz0, hz1, hz2⟩ := info_parts A.info5
  have hnil := fun (W : World) (a : Option Addr) (n c : Nat) => Lib.run_eql_slice_nil (P := Tryd.prog) W 29 5 a n c 0 0 Tryd.underlying29
  have hlt : ∀ j u, (byteVals bs)[j]? = some u → (w.alloc (.cells #[] 5)).cell? (ad.add j) = some u := fun j u h => by
    have h2 := hc j u h
    rw [World.cell?_alloc_lt _ _ _ (World.block_lt_of_cell? w _ h2)]
    exact h2
  have HL := hid hlt
  have hlen : (byteVals bs).length = bs.length * 1 := by unfold byteVals; simp
  have HLen := hid hlen
  have h1c : ∀ u ∈ byteVals bs, u.oneCell' = true := by
    intro u hu
    unfold byteVals at hu
    rw [List.mem_map] at hu
    obtain ⟨b, -, rfl⟩ := hu
    rfl
  have H1 := hid h1c
  clear hc hlt hlen h1c
  go_enter Tryd.func36, Tryd.ntmps36
  go_wp2_with (at_builtin; go_loud (refine wpList_append_own _ rfl (.tmp 5) (.tmp 6) 29 rfl w.heap.size 5 i0 _ 1 1 Tryd.underlying29 hi hz0 hz1 hz2 rfl (by decide) _ 0 [] rfl (owns_empty (Nat.le_refl _)) ad bs.length cap (byteVals bs) rfl HLen.out HL.out H1.out (by unfold maxLen; omega) (by omega) (by simp) ?_); intro v1 w1 hown1 hgrow1 _)
  go_ret
  refine ⟨_, rfl, by simpa using hown1, Kit.below_grown (by repeat' first | with_reducible exact Below.refl _ _ | with_reducible assumption | with_reducible refine belows_drewN ?_ _ | with_reducible refine Below.drew ?_ | with_reducible refine Below.setCell ?_ ?_ _ | with_reducible refine Below.alloc ?_ ?_ _ | omega | (simp; done) | (simp; omega)) hgrow1 (by simp) (fun k hk => ?_)⟩
  have : some w.heap.size = some k := hk
  exact Nat.le_of_eq (Option.some.inj this)
theorem bclone_nil (c : Nat) (w : World) : Calls Tryd.prog 36 #[.slice none 0 c] w (ClonePost 5 1 0 [] w) := by
  have hnil := fun (W : World) (a : Option Addr) (n c : Nat) => Lib.run_eql_slice_nil (P := Tryd.prog) W 29 5 a n c 0 0 Tryd.underlying29
  go_enter Tryd.func36, Tryd.ntmps36
  go_wp2
  go_ret
  exact ⟨_, rfl, ⟨rfl, .inl ⟨rfl, rfl⟩⟩, (by repeat' first | with_reducible exact Below.refl _ _ | with_reducible assumption | with_reducible refine belows_drewN ?_ _ | with_reducible refine Below.drew ?_ | with_reducible refine Below.setCell ?_ ?_ _ | with_reducible refine Below.alloc ?_ ?_ _ | omega | (simp; done) | (simp; omega))⟩
set_option maxRecDepth 100000 in
set_option maxHeartbeats 400000 in
theorem iclone_some (bs : List Op1.Ins) (ad : Addr) (cap : Nat) (w : World) (hn : bs.length * 32 ≤ 140737488355328) (hc : ∀ j u, (insCells bs)[j]? = some u → w.cell? (ad.add j) = some u) : Calls Tryd.prog 37 #[.slice (some ad) bs.length cap] w (ClonePost 35 4 bs.length (insCells bs) w) := by
  obtain ⟨i0, hi, hz0, hz1, hz2⟩ := info_parts A.info35
  have hnil := fun (W : World) (a : Option Addr) (n c : Nat) => Lib.run_eql_slice_nil (P := Tryd.prog) W 30 35 a n c 0 0 Tryd.underlying30
  have hlt : ∀ j u, (insCells bs)[j]? = some u → (w.alloc (.cells #[] 35)).cell? (ad.add j) = some u := fun j u h => by
    have h2 := hc j u h
    rw [World.cell?_alloc_lt _ _ _ (World.block_lt_of_cell? w _ h2)]
    exact h2
  have HL := hid hlt
  have hlen : (insCells bs).length = bs.length * 4 := Kit.flat_len insC_len bs
  have HLen := hid hlen
  have h1c : ∀ u ∈ insCells bs, u.oneCell' = true := by
    intro u hu
    unfold insCells at hu
    rw [List.mem_flatMap] at hu
    obtain ⟨b, -, hb⟩ := hu
    simp only [insC, List.mem_cons, List.not_mem_nil, or_false] at hb
    rcases hb with rfl | rfl | rfl | rfl <;> rfl
  have H1 := hid h1c
  clear hc hlt hlen h1c
  go_enter Tryd.func37, Tryd.ntmps37
  go_wp2_with (at_builtin; go_loud (refine wpList_append_own _ rfl (.tmp 5) (.tmp 6) 30 rfl w.heap.size 35 i0 _ 4 32 Tryd.underlying30 hi hz0 hz1 hz2 rfl (by decide) _ 0 [] rfl (owns_empty (Nat.le_refl _)) ad bs.length cap (insCells bs) rfl HLen.out HL.out H1.out (by unfold maxLen; omega) (by omega) (by simp) ?_); intro v1 w1 hown1 hgrow1 _)
  go_ret
  refine ⟨_, rfl, by simpa using hown1, Kit.below_grown (by repeat' first | with_reducible exact Below.refl _ _ | with_reducible assumption | with_reducible refine belows_drewN ?_ _ | with_reducible refine Below.drew ?_ | with_reducible refine Below.setCell ?_ ?_ _ | with_reducible refine Below.alloc ?_ ?_ _ | omega | (simp; done) | (simp; omega)) hgrow1 (by simp) (fun k hk => ?_)⟩
  have : some w.heap.size = some k := hk
  exact Nat.le_of_eq (Option.some.inj this)
theorem iclone_nil (c : Nat) (w : World) : Calls Tryd.prog 37 #[.slice none 0 c] w (ClonePost 35 4 0 [] w) := by
  have hnil := fun (W : World) (a : Option Addr) (n c : Nat) => Lib.run_eql_slice_nil (P := Tryd.prog) W 30 35 a n c 0 0 Tryd.underlying30
  go_enter Tryd.func37, Tryd.ntmps37
  go_wp2
  go_ret
  exact ⟨_, rfl, ⟨rfl, .inl ⟨rfl, rfl⟩⟩, (by repeat' first | with_reducible exact Below.refl _ _ | with_reducible assumption | with_reducible refine belows_drewN ?_ _ | with_reducible refine Below.drew ?_ | with_reducible refine Below.setCell ?_ ?_ _ | with_reducible refine Below.alloc ?_ ?_ _ | omega | (simp; done) | (simp; omega))⟩
theorem bclone_any (bs : List UInt8) (v : Value) (w : World) (hb : IsB w v bs) : Calls Tryd.prog 36 #[v] w (ClonePost 5 1 bs.length (byteVals bs) w) := by
  rcases hb.2 with ⟨rfl, a, cap, rfl⟩ | ⟨b, o, cap, rfl, hl, hlt, hc⟩
  · cases a with
    | none => exact bclone_nil cap w
    | some ad => exact bclone_some [] ad cap w (by simp) (fun j u h => by simp [byteVals] at h)
  · refine bclone_some bs ⟨b, o, none⟩ cap w hb.1 (fun j u h => ?_)
    unfold byteVals at h
    rw [List.getElem?_map, Option.map_eq_some_iff] at h
    obtain ⟨x, hx, rfl⟩ := h
    have hj : j < bs.length := by rw [List.getElem?_eq_some_iff] at hx; exact hx.1
    rw [Go.WideShapes.add_plain, hc j hj]
    unfold Op1.at8
    rw [List.getD_eq_getElem?_getD, hx]; rfl
theorem iclone_any (l : List Op1.Ins) (v : Value) (w : World) (hl : Kit.IsS 4 w v l.length (insCells l)) (hn : l.length * 32 ≤ 140737488355328) : Calls Tryd.prog 37 #[v] w (ClonePost 35 4 l.length (insCells l) w) := by
  rcases hl.2.2 with ⟨h0, a, cap, rfl⟩ | ⟨b, o, cap, rfl, hl, hlt, hc⟩
  · obtain rfl := List.length_eq_zero_iff.1 h0
    cases a with
    | none => exact iclone_nil cap w
    | some ad => exact iclone_some [] ad cap w (by simp) (fun j u h => by simp [insCells] at h)
  · exact iclone_some l ⟨b, o, none⟩ cap w hn (fun j u h => by rw [Go.WideShapes.add_plain]; exact hc j u h)
theorem push_all : ∀ (bs : List UInt8) (s : ByteArray), (bs.map fun b => ((b.toNat : Nat) : Int)).foldl (fun r n => r.push (UInt8.ofNat n.toNat)) s = ⟨s.data ++ bs.toArray⟩
  | [], s => by cases s; simp
  | b :: bs, s => by
    rw [List.map_cons, List.foldl_cons, push_all bs]
    cases s
    simp [ByteArray.push]
/-- A slice of bytes as a string. -/
theorem conv_string {bs : List UInt8} {v : Value} {w : World} (hb : IsB w v bs) : (convert 29 9 v).run Tryd.prog w = .ok (.string ⟨bs.toArray⟩) w := by
  have go : ∀ (ad : Addr) (cap : Nat), (∀ j u, (byteVals bs)[j]? = some u → w.cell? (ad.add j) = some u) → (convert 29 9 (.slice (some ad) bs.length cap)).run Tryd.prog w = .ok (.string ⟨bs.toArray⟩) w := by
    intro ad cap h
    rw [run_convert_bytes_string w _ _ _ _ _ _ Tryd.underlying29 Tryd.underlying5 Tryd.underlying9]
    have hl := run_loadCells_list (P := Tryd.prog) w ad (byteVals bs) h
    have hlen : (byteVals bs).length = bs.length := by unfold byteVals; simp
    rw [hlen] at hl
    have := run_bytesToString (P := Tryd.prog) w ad bs.length cap (bs.map fun b => ((b.toNat : Nat) : Int)) (by rw [hl]; unfold byteVals; rw [List.map_map]; rfl)
    rw [this, push_all]
    simp
  rcases hb.2 with ⟨rfl, a, cap, rfl⟩ | ⟨b, o, cap, rfl, hl, hlt, hc⟩
  · cases a with
    | none =>
      rw [run_convert_bytes_string w _ _ _ _ _ _ Tryd.underlying29 Tryd.underlying5 Tryd.underlying9]
      rfl
    | some ad => exact go ad cap (fun j u h => by simp [byteVals] at h)
  · refine go ⟨b, o, none⟩ cap (fun j u h => ?_)
    unfold byteVals at h
    rw [List.getElem?_map, Option.map_eq_some_iff] at h
    obtain ⟨x, hx, rfl⟩ := h
    have hj : j < bs.length := by rw [List.getElem?_eq_some_iff] at hx; exact hx.1
    rw [Go.WideShapes.add_plain, hc j hj]
    unfold Op1.at8
    rw [List.getD_eq_getElem?_getD, hx]; rfl
set_option maxRecDepth 100000 in
theorem bequal_any (bs cs : List UInt8) (v u : Value) (w : World) (hb : IsB w v bs) (hc : IsB w u cs) : Calls Tryd.prog 31 #[v, u] w fun e w' => e = .returned (.bool (bs == cs)) ∧ w = w' := by
  have h1 := conv_string hb
  have h2 := conv_string hc
  clear hb hc
  go_enter Tryd.func31, Tryd.ntmps31
  go_wp2
  go_ret
  exact ⟨rfl, rfl⟩
end Go.Proofs.YtihklojiionanaaDoor

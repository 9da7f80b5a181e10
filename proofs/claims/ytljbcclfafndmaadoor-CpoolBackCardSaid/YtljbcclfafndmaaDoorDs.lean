/- Bytes that the program made, as bytes to read. -/
import Derived.Test.YtljbcclfafndmaaDoorDc
namespace Go.Proofs.YtljbcclfafndmaaDoor
open Go.RowKit

/-- Numbers as bytes. -/
def bsOf (zs : List Int) : List UInt8 := zs.map fun z => UInt8.ofNat z.toNat
theorem bsOf_len (zs : List Int) : (bsOf zs).length = zs.length := by unfold bsOf; simp
def Byt (zs : List Int) : Prop := ∀ z ∈ zs, 0 ≤ z ∧ z < 256
theorem byt_app {a b : List Int} (h : Byt a) (k : Byt b) : Byt (a ++ b) := fun z hz => by
  rcases List.mem_append.1 hz with hz | hz
  · exact h z hz
  · exact k z hz
theorem byt_bytesN (z : Int) (n : Nat) : Byt (bytesN z n) := fun x hx => by
  unfold bytesN at hx
  obtain ⟨k, -, rfl⟩ := List.mem_map.1 hx
  unfold byteN
  omega
theorem byt_text (s : ByteArray) : Byt ((Cp.bl s).map fun b => (b.toNat : Int)) := fun x hx => by
  obtain ⟨b, -, rfl⟩ := List.mem_map.1 hx
  have := b.toNat_lt
  omega
theorem byt_encE (c : Cp.C) : Byt (encE c) := by
  unfold encE
  intro z hz
  rcases List.mem_cons.1 hz with rfl | hz
  · omega
  · exact byt_app (byt_app (byt_app (byt_app (byt_bytesN _ _) (byt_text _)) (byt_bytesN _ _)) (byt_bytesN _ _)) (byt_bytesN _ _) z hz
theorem byt_putB (l : List Cp.C) : Byt (putB l) := by
  unfold putB
  refine byt_app (byt_bytesN _ _) fun z hz => ?_
  unfold encT at hz
  obtain ⟨x, -, hx⟩ := List.mem_flatMap.1 hz
  exact byt_encE _ z hx
theorem bv_of {z : Int} (h : 0 ≤ z ∧ z < 256) : bv (UInt8.ofNat z.toNat) = .int .u8 z := by
  unfold bv
  rw [UInt8.toNat_ofNat']
  congr 1
  omega
theorem bs_of_is {W : World} {v : Value} {zs : List Int} (h : Kit.IsS 1 W v zs.length (zs.map (Value.int .u8))) (hz : Byt zs) : Bs W.heap.size W v (bsOf zs) := by
  refine ⟨by rw [bsOf_len]; have := h.2.1; omega, ?_⟩
  rcases h.2.2 with ⟨h0, a, cap, rfl⟩ | ⟨b, o, cap, rfl, h1, h2, h3⟩
  · exact .inl ⟨by rw [List.length_eq_zero_iff.1 h0]; rfl, a, cap, rfl⟩
  · refine .inr ⟨b, o, cap, by rw [bsOf_len], by rw [bsOf_len]; exact h1, h2, fun i c hc => ?_⟩
    unfold bsOf at hc
    rw [List.getElem?_map, Option.map_eq_some_iff] at hc
    obtain ⟨z, hzi, rfl⟩ := hc
    rw [bv_of (hz z (List.mem_of_getElem? hzi))]
    exact h3 i _ (by rw [List.getElem?_map, hzi]; rfl)
theorem bs_of_own {W : World} {base : Nat} {v : Value} {zs : List Int} (h : OwnI W base v zs) (hz : Byt zs) (hn : zs.length ≤ 281474976710656) : Bs W.heap.size W v (bsOf zs) := by
  refine ⟨by rw [bsOf_len]; exact hn, ?_⟩
  have hh := h
  rcases h.2 with ⟨rfl, h0⟩ | ⟨g, cap, cur, rfl, hg, hb, hc1, hc2, hc3, -⟩
  · exact .inl ⟨by rw [List.length_eq_zero_iff.1 h0]; rfl, none, 0, rfl⟩
  · have hcell := hh.cells (g := g) rfl
    refine .inr ⟨g, 0, cap, by rw [bsOf_len], by rw [bsOf_len]; exact hc1, (Array.getElem?_eq_some_iff.1 hb).1, fun i c hc => ?_⟩
    unfold bsOf at hc
    rw [List.getElem?_map, Option.map_eq_some_iff] at hc
    obtain ⟨z, hzi, rfl⟩ := hc
    rw [bv_of (hz z (List.mem_of_getElem? hzi))]
    have := hcell i (.int .u8 z) (by rw [List.getElem?_map, hzi]; rfl)
    rw [Go.WideShapes.add_plain] at this
    exact this
end Go.Proofs.YtljbcclfafndmaaDoor

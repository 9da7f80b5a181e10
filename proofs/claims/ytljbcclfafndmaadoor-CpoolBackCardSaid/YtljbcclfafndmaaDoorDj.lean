/- Contract of bytes.Equal at equal bytes. -/
import Derived.Test.YtljbcclfafndmaaDoorCr
import Derived.Lib.SliceRun
namespace Go.Proofs.YtljbcclfafndmaaDoor
open Go.RowKit

/-- Numbers as a text's bytes. -/
def strOf (zs : List Int) : ByteArray := ⟨(zs.map fun z => UInt8.ofNat z.toNat).toArray⟩
theorem push_allI : ∀ (zs : List Int) (s : ByteArray), zs.foldl (fun r n => r.push (UInt8.ofNat n.toNat)) s = ⟨s.data ++ (zs.map fun z => UInt8.ofNat z.toNat).toArray⟩
  | [], s => by cases s; simp
  | b :: bs, s => by
    rw [List.map_cons, List.foldl_cons, push_allI bs]
    cases s
    simp [ByteArray.push]
/-- A slice of bytes as a string. -/
theorem conv_stringI {zs : List Int} {v : Value} {w : World} (hb : Kit.IsS 1 w v zs.length (zs.map (Value.int .u8))) : (convert 22 9 v).run Tryd.prog w = .ok (.string (strOf zs)) w := by
  have go : ∀ (ad : Addr) (cap : Nat), (∀ j u, (zs.map (Value.int .u8))[j]? = some u → w.cell? (ad.add j) = some u) → (convert 22 9 (.slice (some ad) zs.length cap)).run Tryd.prog w = .ok (.string (strOf zs)) w := by
    intro ad cap h
    rw [run_convert_bytes_string w _ _ _ _ _ _ Tryd.underlying22 Tryd.underlying5 Tryd.underlying9]
    have hl := run_loadCells_list (P := Tryd.prog) w ad (zs.map (Value.int .u8)) h
    rw [List.length_map] at hl
    have := run_bytesToString (P := Tryd.prog) w ad zs.length cap zs hl
    rw [this, push_allI]
    unfold strOf
    simp
  rcases hb.2.2 with ⟨h0, a, cap, rfl⟩ | ⟨b, o, cap, rfl, hl, hlt, hc⟩
  · obtain rfl := List.length_eq_zero_iff.1 h0
    cases a with
    | none =>
      rw [run_convert_bytes_string w _ _ _ _ _ _ Tryd.underlying22 Tryd.underlying5 Tryd.underlying9]
      rfl
    | some ad => exact go ad cap (fun j u h => by simp at h)
  · exact go ⟨b, o, none⟩ cap (fun j u h => by rw [Go.WideShapes.add_plain]; exact hc j u h)
set_option maxRecDepth 100000 in
theorem bequal_any (zs : List Int) (v u : Value) (w : World) (hb : Kit.IsS 1 w v zs.length (zs.map (Value.int .u8))) (hc : Kit.IsS 1 w u zs.length (zs.map (Value.int .u8))) : Calls Tryd.prog 16 #[v, u] w fun e w' => e = .returned (.bool true) ∧ w = w' := by
  have h1 := conv_stringI hb
  have h2 := conv_stringI hc
  clear hb hc
  obtain ⟨s, hs⟩ : ∃ s, s = strOf zs := ⟨_, rfl⟩
  rw [← hs] at h1 h2
  clear hs
  go_enter Tryd.func16, Tryd.ntmps16
  go_wp2
  go_ret
  exact ⟨by simp, rfl⟩
end Go.Proofs.YtljbcclfafndmaaDoor

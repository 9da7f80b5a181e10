/- Plain mathematics: what an entry's bytes are, tag by tag; slices of slices. -/
import Derived.Test.YtljbcclfafndmaaDoorCl
namespace Go.Proofs.YtljbcclfafndmaaDoor
open Go.RowKit

theorem txP_0 (r : List UInt8) : txP 0 r = .ok ([], r) := by
  unfold txP
  rw [if_neg (by omega), List.take_zero, show Cp.numI [] = 0 from rfl, if_neg (by decide), if_neg (by omega), if_pos (by rfl)]
  rfl
theorem en_utf (room : Int) (r : List UInt8) : enP room (1 :: r) = match txP 2 r with | .error e => .error e | .ok (s, r1) => .ok (⟨1, ⟨s.toArray⟩, 0, 0, 0⟩, r1) := by
  unfold enP
  dsimp only
  rw [show ((1 : UInt8).toNat : Int) = 1 from rfl, show Cp.wd 1 = (2, 0, 0, 0) from rfl, if_neg (by rintro (h | h); exact absurd h (by decide); exact absurd h.1 (by decide))]
  dsimp only
  cases txP 2 r with
  | error e => rfl
  | ok y =>
    obtain ⟨s, r1⟩ := y
    dsimp only
    rw [if_neg (by omega), if_neg (by omega), if_neg (by omega)]
    rfl
theorem en_int (room : Int) (r : List UInt8) : enP room (3 :: r) = if r.length < 4 then .error 30 else .ok (⟨3, ⟨#[]⟩, IntKind.i32.wrap (Cp.numI (r.take 4)), 0, 0⟩, r.drop 4) := by
  unfold enP
  dsimp only
  rw [show ((3 : UInt8).toNat : Int) = 3 from rfl, show Cp.wd 3 = (0, 4, 0, 0) from rfl, if_neg (by rintro (h | h); exact absurd h (by decide); exact absurd h.1 (by decide))]
  dsimp only
  rw [txP_0]
  dsimp only
  by_cases h : r.length < 4
  · rw [if_pos h, if_pos h]
  · rw [if_neg h, if_neg h, if_neg (by omega), if_neg (by omega)]
    rfl
theorem numI_wrap (l : List UInt8) : IntKind.i64.wrap (Cp.numI l) = Cp.numI l := by
  rw [Cp.numI_U, IntWalk.i64_left]
  unfold Cp.W64 wrap64
  omega
theorem en_long (room : Int) (hroom : ¬ room < 2) (r : List UInt8) : enP room (5 :: r) = if r.length < 8 then .error 30 else .ok (⟨5, ⟨#[]⟩, Cp.numI (r.take 8), 0, 0⟩, r.drop 8) := by
  unfold enP
  dsimp only
  rw [show ((5 : UInt8).toNat : Int) = 5 from rfl, show Cp.wd 5 = (0, 8, 0, 0) from rfl, if_neg (by rintro (h | h); exact absurd h (by decide); exact hroom h.2)]
  dsimp only
  rw [txP_0]
  dsimp only
  by_cases h : r.length < 8
  · rw [if_pos h, if_pos h]
  · rw [if_neg h, if_neg h, if_neg (by omega), if_neg (by omega), show sgn (Cp.numI (r.take 8)) 8 = Cp.numI (r.take 8) from numI_wrap _]
    rfl
theorem en_class (room : Int) (r : List UInt8) : enP room (7 :: r) = if r.length < 2 then .error 30 else .ok (⟨7, ⟨#[]⟩, 0, Cp.numI (r.take 2), 0⟩, r.drop 2) := by
  unfold enP
  dsimp only
  rw [show ((7 : UInt8).toNat : Int) = 7 from rfl, show Cp.wd 7 = (0, 0, 2, 0) from rfl, if_neg (by rintro (h | h); exact absurd h (by decide); exact absurd h.1 (by decide))]
  dsimp only
  rw [txP_0]
  dsimp only
  rw [if_neg (by omega)]
  by_cases h : r.length < 2
  · rw [List.drop_zero, if_pos h, if_pos h]
  · rw [List.drop_zero, if_neg h, if_neg h, if_neg (by omega)]
    rfl
theorem en_two (room : Int) (c : UInt8) (r : List UInt8) (hc : (c.toNat : Int) = 9 ∨ (c.toNat : Int) = 10 ∨ (c.toNat : Int) = 12) : enP room (c :: r) = if r.length < 4 then .error 30 else .ok (⟨(c.toNat : Int), ⟨#[]⟩, 0, Cp.numI (r.take 2), Cp.numI ((r.drop 2).take 2)⟩, r.drop 4) := by
  unfold enP
  dsimp only
  have hk : Cp.knownB (c.toNat : Int) = true := by unfold Cp.knownB; rw [decide_eq_true_iff]; omega
  have hw : Cp.wd (c.toNat : Int) = (0, 0, 2, 2) := by unfold Cp.wd; rw [if_neg (by omega), if_neg (by omega), if_neg (by omega), if_neg (by omega), if_pos (by omega)]
  rw [hw, if_neg (by rw [hk]; rintro (h | h); exact absurd h (by decide); omega)]
  dsimp only
  rw [txP_0]
  dsimp only
  rw [if_neg (by omega), List.drop_zero]
  by_cases h2 : r.length < 2
  · rw [if_pos h2, if_pos (by omega)]
  · rw [if_neg h2]
    by_cases h : r.length < 4
    · rw [if_pos h, if_pos (by rw [List.length_drop]; omega)]
    · rw [if_neg h, if_neg (by rw [List.length_drop]; omega), List.drop_drop]
      rfl
/-- What one tells of the bytes. -/
def oneO (last : Bool) (bs : List UInt8) : Cp.C × Int × Int := match enP (if last then 1 else 2) bs with
  | .error e => (Cp.C0, 0, e)
  | .ok (c, r) => (c, (bs.length : Int) - (r.length : Int), 0)
theorem sub_bs {lim : Nat} {w : World} {b o n cap : Nat} {bs : List UInt8} (h : Bs lim w (.slice (some ⟨b, o, none⟩) n cap) bs) {i j : Nat} (hij : i ≤ j) (hj : j ≤ bs.length) :
    Bs lim w (.slice (some ⟨b, o + i, none⟩) (j - i) (cap - i)) ((bs.drop i).take (j - i)) := by
  have hl := h.1
  have hlen : ((bs.drop i).take (j - i)).length = j - i := by rw [List.length_take, List.length_drop]; omega
  refine ⟨by rw [hlen]; omega, ?_⟩
  by_cases h0 : j - i = 0
  · refine .inl ⟨List.eq_nil_of_length_eq_zero (by omega), _, _, by rw [h0]⟩
  · rcases h.2 with ⟨rfl, -⟩ | ⟨b', o', cap', hv, hcap, hb, hc⟩
    · simp at hj; omega
    · obtain ⟨h1, -, rfl⟩ := Value.slice.inj hv
      obtain ⟨rfl, rfl⟩ : b = b' ∧ o = o' := by simpa using h1
      refine .inr ⟨b, o + i, _, by rw [hlen], by rw [hlen]; omega, hb, fun k c hk => ?_⟩
      rw [Nat.add_assoc]
      exact hc (i + k) c (drop_at (take_at hk))
end Go.Proofs.YtljbcclfafndmaaDoor

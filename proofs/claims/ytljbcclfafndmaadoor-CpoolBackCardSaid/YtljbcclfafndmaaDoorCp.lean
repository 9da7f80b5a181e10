/- Contract of the document's one, whatever the bytes; what an entry leaves is behind it. -/
import Derived.Test.YtljbcclfafndmaaDoorCo
namespace Go.Proofs.YtljbcclfafndmaaDoor
open Go.RowKit

theorem enP_room {a b : Int} (h : a < 2 ↔ b < 2) (r : List UInt8) : enP a r = enP b r := by
  cases r with
  | nil => rfl
  | cons c r =>
    unfold enP
    dsimp only
    have e : (Cp.knownB (c.toNat : Int) = false ∨ ((c.toNat : Int) = 5 ∧ a < 2)) ↔ (Cp.knownB (c.toNat : Int) = false ∨ ((c.toNat : Int) = 5 ∧ b < 2)) := by rw [h]
    by_cases hc : Cp.knownB (c.toNat : Int) = false ∨ ((c.toNat : Int) = 5 ∧ a < 2)
    · rw [if_pos hc, if_pos (e.1 hc)]
    · rw [if_neg hc, if_neg (fun x => hc (e.2 x))]
theorem suf_cons (x : UInt8) (l : List UInt8) (m : Nat) : ∃ j, 1 ≤ j ∧ j ≤ (x :: l).length ∧ l.drop m = (x :: l).drop j := by
  by_cases hm : m ≤ l.length
  · exact ⟨m + 1, by omega, by rw [List.length_cons]; omega, by rw [List.drop_succ_cons]⟩
  · exact ⟨l.length + 1, by omega, by rw [List.length_cons]; omega, by rw [List.drop_succ_cons, List.drop_eq_nil_of_le (by omega), List.drop_length]⟩
theorem txP_suf {k : Nat} {bs s r : List UInt8} (h : txP k bs = .ok (s, r)) : ∃ j, r = bs.drop j := by
  unfold txP at h
  repeat' split at h
  all_goals cases h
  exact ⟨_, List.drop_drop⟩
theorem enP_suf {room : Int} {l r : List UInt8} {c : Cp.C} (h : enP room l = .ok (c, r)) : ∃ j, 1 ≤ j ∧ j ≤ l.length ∧ r = l.drop j := by
  cases l with
  | nil => cases h
  | cons x l =>
    unfold enP at h
    dsimp only at h
    split at h
    · cases h
    · split at h
      · cases h
      · rename_i s r1 ht
        obtain ⟨j, hj⟩ := txP_suf ht
        repeat' split at h
        all_goals cases h
        rw [hj, List.drop_drop, List.drop_drop, List.drop_drop]
        exact suf_cons x l _
theorem u8_is1 {c : UInt8} (h : (c.toNat : Int) = 1) : c = 1 := UInt8.toNat_inj.1 (by rw [show (1 : UInt8).toNat = 1 from rfl]; omega)
theorem u8_is3 {c : UInt8} (h : (c.toNat : Int) = 3) : c = 3 := UInt8.toNat_inj.1 (by rw [show (3 : UInt8).toNat = 3 from rfl]; omega)
theorem u8_is5 {c : UInt8} (h : (c.toNat : Int) = 5) : c = 5 := UInt8.toNat_inj.1 (by rw [show (5 : UInt8).toNat = 5 from rfl]; omega)
theorem u8_is7 {c : UInt8} (h : (c.toNat : Int) = 7) : c = 7 := UInt8.toNat_inj.1 (by rw [show (7 : UInt8).toNat = 7 from rfl]; omega)
theorem one_any (last : Bool) (bs : List UInt8) (v : Value) (w : World) (hv : Bs w.heap.size w v bs) : Calls Tryd.prog 37 #[v, .bool last] w (OnPost (oneO last bs) w) := by
  have hroom : ((if last then 1 else 2 : Int) < 2) ↔ last = true := by cases last <;> simp
  unfold oneO
  cases bs with
  | nil => exact one_nil last v w hv
  | cons c r =>
    by_cases hbad : Cp.knownB (c.toNat : Int) = false ∨ ((c.toNat : Int) = 5 ∧ last = true)
    · have e : enP (if last then 1 else 2) (c :: r) = .error 31 := by
        unfold enP
        dsimp only
        rw [if_pos (by rw [hroom]; exact hbad)]
      rw [e]
      exact one_tag last c r v w hv hbad
    · have hk : Cp.knownB (c.toNat : Int) = true := by
        cases h : Cp.knownB (c.toNat : Int) with
        | true => rfl
        | false => exact absurd (.inl h) hbad
      have hlast : (c.toNat : Int) = 5 → last = false := fun h => by
        cases hl : last with
        | false => rfl
        | true => exact absurd (.inr ⟨h, hl⟩) hbad
      have hks := hk
      unfold Cp.knownB at hks
      rw [decide_eq_true_iff] at hks
      by_cases hs : r.length < szOf (c.toNat : Int)
      · have e : enP (if last then 1 else 2) (c :: r) = .error 30 := by
          rcases hks with h | h | h | h | h
          · obtain rfl := u8_is1 h
            rw [en_utf]
            have : txP 2 r = .error 30 := by unfold txP; rw [if_pos (show r.length < 2 from hs)]
            rw [this]
          · obtain rfl := u8_is3 h
            rw [en_int, if_pos (show r.length < 4 from hs)]
          · have hl := hlast h
            obtain rfl := u8_is5 h
            rw [en_long _ (by rw [hroom, hl]; simp), if_pos (show r.length < 8 from hs)]
          · obtain rfl := u8_is7 h
            rw [en_class, if_pos (show r.length < 2 from hs)]
          · rw [en_two _ _ _ h, if_pos (by unfold szOf at hs; rw [if_neg (by omega), if_neg (by omega)] at hs; exact hs)]
        rw [e]
        exact one_short last c r v w hv hk hlast hs
      · rcases hks with h | h | h | h | h
        · obtain rfl := u8_is1 h
          have hs2 : 2 ≤ r.length := by have : szOf (((1 : UInt8).toNat : Nat) : Int) = 2 := rfl; omega
          have := one_utf last r v w hv hs2
          rw [en_utf]
          unfold utO at this
          cases hx : txP 2 r with
          | error e => rw [hx] at this; exact this
          | ok y =>
            obtain ⟨s, r1⟩ := y
            rw [hx] at this
            have hl := txP_len hx
            dsimp only at this ⊢
            rw [List.length_cons, show (((r.length + 1 : Nat) : Int) - (r1.length : Int)) = 3 + s.length by omega]
            exact this
        · obtain rfl := u8_is3 h
          have hs2 : 4 ≤ r.length := by have : szOf (((3 : UInt8).toNat : Nat) : Int) = 4 := rfl; omega
          have := one_int last r v w hv hs2
          rw [en_int, if_neg (by omega)]
          dsimp only
          rw [List.length_cons, List.length_drop, show (((r.length + 1 : Nat) : Int) - ((r.length - 4 : Nat) : Int)) = 5 by omega]
          exact this
        · have hl := hlast h
          subst hl
          obtain rfl := u8_is5 h
          have hs2 : 8 ≤ r.length := by have : szOf (((5 : UInt8).toNat : Nat) : Int) = 8 := rfl; omega
          have := one_long r v w hv hs2
          rw [en_long _ (by simp), if_neg (by omega)]
          dsimp only
          rw [List.length_cons, List.length_drop, show (((r.length + 1 : Nat) : Int) - ((r.length - 8 : Nat) : Int)) = 9 by omega]
          exact this
        · obtain rfl := u8_is7 h
          have hs2 : 2 ≤ r.length := by have : szOf (((7 : UInt8).toNat : Nat) : Int) = 2 := rfl; omega
          have := one_class last r v w hv hs2
          rw [en_class, if_neg (by omega)]
          dsimp only
          rw [List.length_cons, List.length_drop, show (((r.length + 1 : Nat) : Int) - ((r.length - 2 : Nat) : Int)) = 3 by omega]
          exact this
        · have hs2 : 4 ≤ r.length := by
            have : szOf (c.toNat : Int) = 4 := by unfold szOf; rw [if_neg (by omega), if_neg (by omega)]
            omega
          have := one_two last c r v w hv hs2 h
          rw [en_two _ _ _ h, if_neg (by omega)]
          dsimp only
          rw [List.length_cons, List.length_drop, show (((r.length + 1 : Nat) : Int) - ((r.length - 4 : Nat) : Int)) = 5 by omega]
          exact this
end Go.Proofs.YtljbcclfafndmaaDoor

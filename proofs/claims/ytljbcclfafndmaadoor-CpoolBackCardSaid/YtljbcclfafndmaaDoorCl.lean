/- Contracts of the document's get, known, size, texts. -/
import Derived.Test.YtljbcclfafndmaaDoorCk
namespace Go.Proofs.YtljbcclfafndmaaDoor
open Go.RowKit

set_option maxRecDepth 100000 in
set_option maxHeartbeats 400000 in
theorem get_any (lim : Nat) (bs : List UInt8) (v : Value) (w : World) (hv : Bs lim w v bs) :
    Calls Tryd.prog 36 #[v] w fun e w' => e = .returned (.int .i64 (Cp.numI bs)) ∧ w = w' := by
  have HV := hid hv
  have hl := hv.1
  obtain ⟨a, cap, rfl⟩ := hv.len
  clear hv
  go_enter Tryd.func36, Tryd.ntmps36
  go_wp2
  go_loopw [3, 4] (fun n i wr => ∃ j : Nat, j ≤ bs.length ∧ i = .int .i64 j ∧ n = .int .i64 (Cp.numI (bs.take j)) ∧ wr = w) (fun _ i _ => bs.length - (intOf i).toNat)
  case atStart => exact ⟨0, by omega, rfl, rfl, rfl⟩
  case round =>
    obtain ⟨j, hj, rfl, rfl, rfl⟩ := hrel
    by_cases hlt : j < bs.length
    · obtain ⟨c, hc⟩ : ∃ c, bs[j]? = some c := ⟨bs[j], List.getElem?_eq_getElem (by omega)⟩
      obtain ⟨b, o, ha, hb, hcell⟩ := HV.out.at hc
      have HStep := hid (numI_step hc)
      obtain ⟨z, hz⟩ : ∃ z, z = Cp.numI (bs.take j) := ⟨_, rfl⟩
      rw [← hz] at HStep ⊢
      have hor : bits .or .i64 (wrap64 (z * 256)) (c.toNat : Int) = wrap64 (z * 256 + (c.toNat : Int)) := Cp.or_step z c.toNat (Cp.u8_lt c)
      subst ha
      have hji : (j : Int) < bs.length := by omega
      clear hc hz
      go_wp2
      go_roundw
      case rel => exact ⟨j + 1, by omega, by go_num, by rw [HStep.out, ← hor, show wrap64 (c.toNat : Int) = (c.toNat : Int) by have := Cp.u8_lt c; unfold wrap64; omega], by trivial⟩
      case measure => simp [intOf]; omega
    · obtain rfl : j = bs.length := by omega
      have HE := hid (show bs.take bs.length = bs from List.take_length)
      go_wp2
      go_ret
      exact ⟨by show Ending.returned (.int .i64 (Cp.numI (bs.take bs.length))) = _; rw [HE.out], rfl⟩
set_option maxRecDepth 100000 in
set_option maxHeartbeats 400000 in
theorem known_any (t : Int) (w : World) : Calls Tryd.prog 51 #[.int .i64 t] w fun e w' => e = .returned (.bool (Cp.knownB t)) ∧ w = w' := by
  have H := hid (show (t == 1 || t == 3 || t == 5 || t == 7 || t == 9 || t == 10 || t == 12) = Cp.knownB t by
    unfold Cp.knownB
    rw [Bool.eq_iff_iff]
    simp [or_assoc])
  go_enter Tryd.func51, Tryd.ntmps51
  go_wp2
  all_goals go_ret
  all_goals first | exact ⟨by rw [← H.out]; rfl, rfl⟩ | exact ⟨by show Ending.returned (.bool true) = _; rw [← H.out]; simp [*], rfl⟩
/-- How many bytes an entry has behind its tag. -/
def szOf (t : Int) : Nat := if t = 1 ∨ t = 7 then 2 else if t = 5 then 8 else 4
set_option maxRecDepth 100000 in
set_option maxHeartbeats 400000 in
theorem size_any (t : Int) (w : World) : Calls Tryd.prog 52 #[.int .i64 t] w fun e w' => e = .returned (.int .i64 (szOf t)) ∧ w = w' := by
  unfold szOf
  by_cases h1 : t = 1
  · subst h1
    go_enter Tryd.func52, Tryd.ntmps52
    go_wp2
    go_ret
    exact ⟨rfl, rfl⟩
  by_cases h7 : t = 7
  · subst h7
    go_enter Tryd.func52, Tryd.ntmps52
    go_wp2
    go_ret
    exact ⟨rfl, rfl⟩
  rw [if_neg (by omega)]
  by_cases h5 : t = 5
  · subst h5
    go_enter Tryd.func52, Tryd.ntmps52
    go_wp2
    go_ret
    exact ⟨rfl, rfl⟩
  · rw [if_neg h5]
    go_enter Tryd.func52, Tryd.ntmps52
    go_wp2
    go_ret
    exact ⟨rfl, rfl⟩
set_option maxRecDepth 100000 in
set_option maxHeartbeats 400000 in
theorem texts_any (s : ByteArray) (w : World) (hs : s.size ≤ 140737488355328) :
    Calls Tryd.prog 53 #[.string s] w fun e w' => e = .returned (.bool (Cp.plainB (Cp.bl s) && decide (s.size ≤ 255))) ∧ w = w' := by
  unfold Cp.plainB
  obtain ⟨f, hf⟩ : ∃ f : UInt8 → Bool, f = fun c => decide (1 ≤ c.toNat) && decide (c.toNat ≤ 127) := ⟨_, rfl⟩
  rw [← hf]
  obtain ⟨r, hr⟩ : ∃ r, r = (Cp.bl s).all f := ⟨_, rfl⟩
  rw [← hr]
  have HR := hid hr
  clear hr
  go_enter Tryd.func53, Tryd.ntmps53
  go_wp2
  go_loop [3] (fun i => ∃ k : Nat, k ≤ s.size ∧ i = .int .i64 k ∧ Hid (((Cp.bl s).take k).all f = true)) (fun i => s.size - (intOf i).toNat)
  case atStart => exact ⟨0, Nat.zero_le _, rfl, rfl⟩
  case round =>
    obtain ⟨k, hk, rfl, hg⟩ := hrel
    by_cases hlt : k < s.size
    · have HF0 : f s[k] = (decide (1 ≤ s[k].toNat) && decide (s[k].toNat ≤ 127)) := by rw [hf]
      clear hf
      by_cases h1 : s[k].toNat = 0
      · have hd : ((s[k].toNat : Int) == 0) = true := by rw [beq_iff_eq]; omega
        have HF := hid (HR.out.trans <| all_bad (f := f) hlt (by rw [HF0]; simp; omega))
        clear HF0
        go_wp2
        go_ret
        exact ⟨by rw [HF.out]; rfl, rfl⟩
      · have hd : ((s[k].toNat : Int) == 0) = false := by rw [beq_eq_false_iff_ne]; omega
        by_cases h2 : 127 < (s[k].toNat : Int)
        · have hd2 : decide (127 < (s[k].toNat : Int)) = true := by simpa using h2
          have HF := hid (HR.out.trans <| all_bad (f := f) hlt (by rw [HF0]; simp; omega))
          clear HF0
          go_wp2
          go_ret
          exact ⟨by rw [HF.out]; rfl, rfl⟩
        · have hd2 : decide (127 < (s[k].toNat : Int)) = false := by simpa using h2
          have HF := hid (all_take_step hlt hg.out (by rw [HF0]; simp; omega))
          clear HF0
          go_wp2
          go_round
          case rel => exact ⟨k + 1, by omega, by go_num, HF⟩
          case measure => simp [intOf]; omega
    · obtain rfl : k = s.size := by omega
      have HF : Hid (r = true) := by
        have h := hg.out
        show r = true
        rw [HR.out]
        rwa [List.take_of_length_le (by rw [bl_len]; exact Nat.le_refl _)] at h
      go_wp2
      go_ret
      refine ⟨?_, rfl⟩
      rw [HF.out, Bool.true_and]
      have hdd : decide ((s.size : Int) ≤ 255) = decide (s.size ≤ 255) := by rw [decide_eq_decide]; omega
      show Ending.returned (.bool (decide ((s.size : Int) ≤ 255))) = _
      rw [hdd]
end Go.Proofs.YtljbcclfafndmaaDoor

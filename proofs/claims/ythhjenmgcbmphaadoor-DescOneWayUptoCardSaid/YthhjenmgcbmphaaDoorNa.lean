/- Contracts of both sides' parts of names. -/
import Derived.Test.YthhjenmgcbmphaaDoorBasic
import Derived.Test.YthhjenmgcbmphaaDoorDm
import Derived.Test.YthhjenmgcbmphaaDoorShelf
namespace Go.Proofs.YthhjenmgcbmphaaDoor
open Go.RowKit

theorem bl_at (s : ByteArray) (k : Nat) (h : k < s.size) : (Ds.bl s)[k]? = some s[k] := by
  have : k < s.data.toList.length := by simpa using h
  rw [List.getElem?_eq_getElem this]; rfl
theorem bl_len (s : ByteArray) : (Ds.bl s).length = s.size := by simp [Ds.bl]
theorem take_at (s : ByteArray) (k : Nat) (h : k < s.size) : (Ds.bl s).take (k + 1) = (Ds.bl s).take k ++ [s[k]] := by
  rw [List.take_succ_eq_append_getElem (by simpa [Ds.bl] using h)]; rfl
theorem all_bad {s : ByteArray} {k : Nat} (h : k < s.size) {f : UInt8 → Bool} (hf : f s[k] = false) : (Ds.bl s).all f = false := by
  rw [List.all_eq_false]
  exact ⟨s[k], List.mem_of_getElem? (bl_at s k h), by simp [hf]⟩
theorem part_empty (s : ByteArray) : (Ds.bl s).isEmpty = decide (s.size = 0) := by
  rw [Bool.eq_iff_iff, List.isEmpty_iff, ← List.length_eq_zero_iff, bl_len]; simp
theorem idxbad_any (c : UInt8) (w : World) : Calls Tryd.prog 47 #[.string ⟨#[46, 59, 91, 47, 60, 62]⟩, .int .u8 (c.toNat : Nat)] w fun e w' => e = .returned (.int .i64 (Lib.indexByte Ds.badC c)) ∧ w = w' := by
  refine (Sh.strings_IndexByte _ _ w).mono ?_
  rintro e w' ⟨rfl, rfl⟩
  refine ⟨?_, rfl⟩
  rw [show ((c.toNat : Nat) : Int).toNat.toUInt8 = c by simp]
  rfl
theorem all_good {s : ByteArray} {k : Nat} (h : k < s.size) (ha : ((Ds.bl s).take k).all Ds.goodC = true) (hg : Ds.goodC s[k] = true) : Hid (((Ds.bl s).take (k + 1)).all Ds.goodC = true) := by
  show _ = _
  rw [take_at s k h, List.all_append, ha]; simp [hg]
theorem part_no {s : ByteArray} (h : (Ds.bl s).all Ds.goodC = false) : Ds.partB (Ds.bl s) = false := by unfold Ds.partB; rw [h]; simp
set_option maxRecDepth 100000 in
set_option maxHeartbeats 400000 in
theorem isPart_any (s : ByteArray) (w : World) (hs : s.size ≤ maxLen) :
    Calls Tryd.prog 41 #[.string s] w fun e w' => e = .returned (.bool (Ds.partB (Ds.bl s))) ∧ w = w' := by
  unfold maxLen at hs
  go_enter Tryd.func41, Tryd.ntmps41
  go_wp2
  go_loop [6] (fun i => ∃ k : Nat, k ≤ s.size ∧ i = .int .i64 k ∧ Hid (((Ds.bl s).take k).all Ds.goodC = true)) (fun i => s.size - (intOf i).toNat)
  case atStart => exact ⟨0, Nat.zero_le _, rfl, rfl⟩
  case round =>
    obtain ⟨k, hk, rfl, hg⟩ := hrel
    by_cases hlt : k < s.size
    · have HG : Hid (Ds.goodC s[k] = (decide (33 ≤ s[k].toNat) && decide (s[k].toNat ≤ 126) && !decide (0 ≤ Lib.indexByte Ds.badC s[k]))) := by show _ = _; unfold Ds.goodC; rw [Ds.idx_bad]
      by_cases h1 : (s[k].toNat : Int) < 33
      · have HF := hid (part_no (all_bad (f := Ds.goodC) hlt (by rw [HG.out]; simp; omega)))
        have hd : decide ((s[k].toNat : Int) < 33) = true := by simpa using h1
        go_wp2
        go_ret
        exact ⟨by rw [HF.out]; rfl, rfl⟩
      · have hd : decide ((s[k].toNat : Int) < 33) = false := by simpa using h1
        by_cases h2 : 126 < (s[k].toNat : Int)
        · have HF := hid (part_no (all_bad (f := Ds.goodC) hlt (by rw [HG.out]; simp; omega)))
          have hd2 : decide (126 < (s[k].toNat : Int)) = true := by simpa using h2
          go_wp2
          go_ret
          exact ⟨by rw [HF.out]; rfl, rfl⟩
        · have hd2 : decide (126 < (s[k].toNat : Int)) = false := by simpa using h2
          have HC := hid (idxbad_any s[k])
          by_cases h3 : 0 ≤ Lib.indexByte Ds.badC s[k]
          · have HF := hid (part_no (all_bad (f := Ds.goodC) hlt (by rw [HG.out]; simp [h3])))
            have hd3 : decide (0 ≤ Lib.indexByte Ds.badC s[k]) = true := by simpa using h3
            go_wp2_with (go_at_call 47; refine (HC.out _).mono ?_; rintro e w' ⟨rfl, rfl⟩)
            go_ret
            exact ⟨by rw [HF.out]; rfl, rfl⟩
          · have hd3 : decide (0 ≤ Lib.indexByte Ds.badC s[k]) = false := by simpa using h3
            have HF := all_good hlt hg.out (by rw [HG.out, hd3]; simp; omega)
            go_wp2_with (go_at_call 47; refine (HC.out _).mono ?_; rintro e w' ⟨rfl, rfl⟩)
            go_round
            case rel => exact ⟨k + 1, by omega, by go_num, HF⟩
            case measure => simp [intOf]; omega
    · obtain rfl : k = s.size := by omega
      have HF : Hid (Ds.partB (Ds.bl s) = !decide (s.size = 0)) := by
        have h := hg.out
        rw [List.take_of_length_le (by rw [bl_len]; exact Nat.le_refl _)] at h
        show _ = _
        unfold Ds.partB
        rw [h, part_empty]; simp
      by_cases h0 : s.size = 0
      · have hb : (s.toList.isEmpty) = true := by rw [ByteArray.toList_eq]; have := part_empty s; unfold Ds.bl at this; rw [this]; simpa using h0
        have HF2 := HF.out
        rw [decide_eq_true h0] at HF2
        have HF3 := hid HF2
        clear HF HF2
        go_wp2
        go_ret
        exact ⟨by rw [HF3.out]; rfl, rfl⟩
      · have hb : (s.toList.isEmpty) = false := by rw [ByteArray.toList_eq]; have := part_empty s; unfold Ds.bl at this; rw [this]; simpa using h0
        have HF2 := HF.out
        rw [decide_eq_false h0] at HF2
        have HF3 := hid HF2
        clear HF HF2 h0
        go_wp2
        trace_state
        go_ret
        exact ⟨by rw [HF3.out]; rfl, rfl⟩
end Go.Proofs.YthhjenmgcbmphaaDoor

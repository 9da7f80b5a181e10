/- Contracts of the document's parts of names. -/
import Derived.Test.YthhjenmgcbmphaaDoorNa
namespace Go.Proofs.YthhjenmgcbmphaaDoor
open Go.RowKit

theorem bad_yes {c : UInt8} {j : Nat} {z : UInt8} (h : Ds.badC[j]? = some z) (he : (c.toNat : Int) = (z.toNat : Nat)) : Ds.goodC c = false := by
  have : c = z := UInt8.toNat_inj.1 (by omega)
  subst this
  unfold Ds.goodC
  rw [show Ds.badC.contains c = true from List.contains_iff_mem.2 (List.mem_of_getElem? h)]
  simp
theorem bad_no {c : UInt8} (h : ∀ z ∈ Ds.badC, z ≠ c) : Ds.badC.contains c = false := by
  rw [Bool.eq_false_iff]
  intro h2
  exact h c (List.contains_iff_mem.1 h2) rfl
theorem bad_step {c : UInt8} {j : Nat} {z : UInt8} (h : Ds.badC[j]? = some z) (ha : ∀ x ∈ Ds.badC.take j, x ≠ c) (hne : ¬ (c.toNat : Int) = (z.toNat : Nat)) : Hid (∀ x ∈ Ds.badC.take (j + 1), x ≠ c) := by
  intro x hx
  rw [List.take_add_one, h] at hx
  rcases List.mem_append.1 hx with hx | hx
  · exact ha x hx
  · simp only [Option.toList_some, List.mem_singleton] at hx
    subst hx
    intro e
    subst e
    exact hne rfl
set_option maxRecDepth 100000 in
set_option maxHeartbeats 1000000 in
theorem rpart_any (s : ByteArray) (w : World) (hs : s.size ≤ maxLen) :
    Calls Tryd.prog 44 #[.string s] w fun e w' => e = .returned (.bool (Ds.partB (Ds.bl s))) ∧ Below w.heap.size w w' := by
  unfold maxLen at hs
  go_enter Tryd.func44, Tryd.ntmps44
  go_wp2
  go_loopw [4] (fun i wr => ∃ k : Nat, k ≤ s.size ∧ i = .int .i64 k ∧ Hid (((Ds.bl s).take k).all Ds.goodC = true) ∧ Below w.heap.size w wr) (fun i _ => s.size - (intOf i).toNat)
  case atStart => exact ⟨0, Nat.zero_le _, rfl, rfl, (by repeat' first | with_reducible exact Below.refl _ _ | with_reducible assumption | with_reducible refine belows_drewN ?_ _ | with_reducible refine Below.drew ?_ | with_reducible refine Below.setCell ?_ ?_ _ | with_reducible refine Below.alloc ?_ ?_ _ | omega | (simp; done) | (simp; omega))⟩
  case round =>
    obtain ⟨k, hk, rfl, hg, hbl⟩ := hrel
    by_cases hlt : k < s.size
    · by_cases h1 : (s[k].toNat : Int) < 33
      · have HF := hid (part_no (all_bad (f := Ds.goodC) hlt (by unfold Ds.goodC; simp; omega)))
        have hd : decide ((s[k].toNat : Int) < 33) = true := by simpa using h1
        go_wp2
        go_ret
        exact ⟨by rw [HF.out]; rfl, hbl⟩
      · have hd : decide ((s[k].toNat : Int) < 33) = false := by simpa using h1
        by_cases h2 : 126 < (s[k].toNat : Int)
        · have HF := hid (part_no (all_bad (f := Ds.goodC) hlt (by unfold Ds.goodC; simp; omega)))
          have hd2 : decide (126 < (s[k].toNat : Int)) = true := by simpa using h2
          go_wp2
          go_ret
          exact ⟨by rw [HF.out]; rfl, hbl⟩
        · have hd2 : decide (126 < (s[k].toNat : Int)) = false := by simpa using h2
          have hk' : (k : Int) < s.size := by omega
          go_wp2
          obtain ⟨wo, rfl⟩ : ∃ wo : World, wo = wr := ⟨_, rfl⟩
          go_loopw [5] (fun i wr => ∃ j : Nat, j ≤ 6 ∧ i = .int .i64 j ∧ Hid (∀ x ∈ Ds.badC.take j, x ≠ s[k]) ∧ Below w.heap.size w wr) (fun i _ => 6 - (intOf i).toNat)
          case atStart => exact ⟨0, by omega, rfl, fun x hx => by simp at hx, hbl⟩
          case round =>
            obtain ⟨j, hj, rfl, hno, hbl⟩ := hrel
            by_cases hj6 : j = 6
            · subst hj6
              have HF := all_good hlt hg.out (by unfold Ds.goodC; rw [bad_no hno.out]; simp; omega)
              go_wp2
              go_roundw
              case rel => exact ⟨k + 1, by omega, by go_num, HF, hbl⟩
              case measure => simp [intOf]; omega
            · have all : j = 0 ∨ j = 1 ∨ j = 2 ∨ j = 3 ∨ j = 4 ∨ j = 5 := by omega
              clear hj hj6
              rcases all with rfl | rfl | rfl | rfl | rfl | rfl
              · by_cases he : (s[k].toNat : Int) = 46
                · have HF := hid (part_no (all_bad (f := Ds.goodC) hlt (bad_yes (j := 0) (z := 46) rfl he)))
                  have hd3 : ((s[k].toNat : Int) == 46) = true := by simpa using he
                  have hix : ∀ h, ((⟨#[46, 59, 91, 47, 60, 62]⟩ : ByteArray)[0]'h).toNat = 46 := fun _ => rfl
                  clear he
                  go_wp2
                  go_quiet (fail)
                  go_wp2
                  go_ret
                  exact ⟨by rw [HF.out]; rfl, belows_drewN hbl _⟩
                · have HN := bad_step (j := 0) (z := 46) rfl hno.out he
                  have hd3 : ((s[k].toNat : Int) == 46) = false := by simpa using he
                  have hix : ∀ h, ((⟨#[46, 59, 91, 47, 60, 62]⟩ : ByteArray)[0]'h).toNat = 46 := fun _ => rfl
                  clear he
                  go_wp2
                  go_quiet (fail)
                  go_wp2
                  go_roundw
                  case rel => exact ⟨0 + 1, by omega, by go_num, HN, belows_drewN hbl _⟩
                  case measure => simp [intOf]
              · by_cases he : (s[k].toNat : Int) = 59
                · have HF := hid (part_no (all_bad (f := Ds.goodC) hlt (bad_yes (j := 1) (z := 59) rfl he)))
                  have hd3 : ((s[k].toNat : Int) == 59) = true := by simpa using he
                  have hix : ∀ h, ((⟨#[46, 59, 91, 47, 60, 62]⟩ : ByteArray)[1]'h).toNat = 59 := fun _ => rfl
                  clear he
                  go_wp2
                  go_quiet (fail)
                  go_wp2
                  go_ret
                  exact ⟨by rw [HF.out]; rfl, belows_drewN hbl _⟩
                · have HN := bad_step (j := 1) (z := 59) rfl hno.out he
                  have hd3 : ((s[k].toNat : Int) == 59) = false := by simpa using he
                  have hix : ∀ h, ((⟨#[46, 59, 91, 47, 60, 62]⟩ : ByteArray)[1]'h).toNat = 59 := fun _ => rfl
                  clear he
                  go_wp2
                  go_quiet (fail)
                  go_wp2
                  go_roundw
                  case rel => exact ⟨1 + 1, by omega, by go_num, HN, belows_drewN hbl _⟩
                  case measure => simp [intOf]
              · by_cases he : (s[k].toNat : Int) = 91
                · have HF := hid (part_no (all_bad (f := Ds.goodC) hlt (bad_yes (j := 2) (z := 91) rfl he)))
                  have hd3 : ((s[k].toNat : Int) == 91) = true := by simpa using he
                  have hix : ∀ h, ((⟨#[46, 59, 91, 47, 60, 62]⟩ : ByteArray)[2]'h).toNat = 91 := fun _ => rfl
                  clear he
                  go_wp2
                  go_quiet (fail)
                  go_wp2
                  go_ret
                  exact ⟨by rw [HF.out]; rfl, belows_drewN hbl _⟩
                · have HN := bad_step (j := 2) (z := 91) rfl hno.out he
                  have hd3 : ((s[k].toNat : Int) == 91) = false := by simpa using he
                  have hix : ∀ h, ((⟨#[46, 59, 91, 47, 60, 62]⟩ : ByteArray)[2]'h).toNat = 91 := fun _ => rfl
                  clear he
                  go_wp2
                  go_quiet (fail)
                  go_wp2
                  go_roundw
                  case rel => exact ⟨2 + 1, by omega, by go_num, HN, belows_drewN hbl _⟩
                  case measure => simp [intOf]
              · by_cases he : (s[k].toNat : Int) = 47
                · have HF := hid (part_no (all_bad (f := Ds.goodC) hlt (bad_yes (j := 3) (z := 47) rfl he)))
                  have hd3 : ((s[k].toNat : Int) == 47) = true := by simpa using he
                  have hix : ∀ h, ((⟨#[46, 59, 91, 47, 60, 62]⟩ : ByteArray)[3]'h).toNat = 47 := fun _ => rfl
                  clear he
                  go_wp2
                  go_quiet (fail)
                  go_wp2
                  go_ret
                  exact ⟨by rw [HF.out]; rfl, belows_drewN hbl _⟩
                · have HN := bad_step (j := 3) (z := 47) rfl hno.out he
                  have hd3 : ((s[k].toNat : Int) == 47) = false := by simpa using he
                  have hix : ∀ h, ((⟨#[46, 59, 91, 47, 60, 62]⟩ : ByteArray)[3]'h).toNat = 47 := fun _ => rfl
                  clear he
                  go_wp2
                  go_quiet (fail)
                  go_wp2
                  go_roundw
                  case rel => exact ⟨3 + 1, by omega, by go_num, HN, belows_drewN hbl _⟩
                  case measure => simp [intOf]
              · by_cases he : (s[k].toNat : Int) = 60
                · have HF := hid (part_no (all_bad (f := Ds.goodC) hlt (bad_yes (j := 4) (z := 60) rfl he)))
                  have hd3 : ((s[k].toNat : Int) == 60) = true := by simpa using he
                  have hix : ∀ h, ((⟨#[46, 59, 91, 47, 60, 62]⟩ : ByteArray)[4]'h).toNat = 60 := fun _ => rfl
                  clear he
                  go_wp2
                  go_quiet (fail)
                  go_wp2
                  go_ret
                  exact ⟨by rw [HF.out]; rfl, belows_drewN hbl _⟩
                · have HN := bad_step (j := 4) (z := 60) rfl hno.out he
                  have hd3 : ((s[k].toNat : Int) == 60) = false := by simpa using he
                  have hix : ∀ h, ((⟨#[46, 59, 91, 47, 60, 62]⟩ : ByteArray)[4]'h).toNat = 60 := fun _ => rfl
                  clear he
                  go_wp2
                  go_quiet (fail)
                  go_wp2
                  go_roundw
                  case rel => exact ⟨4 + 1, by omega, by go_num, HN, belows_drewN hbl _⟩
                  case measure => simp [intOf]
              · by_cases he : (s[k].toNat : Int) = 62
                · have HF := hid (part_no (all_bad (f := Ds.goodC) hlt (bad_yes (j := 5) (z := 62) rfl he)))
                  have hd3 : ((s[k].toNat : Int) == 62) = true := by simpa using he
                  have hix : ∀ h, ((⟨#[46, 59, 91, 47, 60, 62]⟩ : ByteArray)[5]'h).toNat = 62 := fun _ => rfl
                  clear he
                  go_wp2
                  go_quiet (fail)
                  go_wp2
                  go_ret
                  exact ⟨by rw [HF.out]; rfl, belows_drewN hbl _⟩
                · have HN := bad_step (j := 5) (z := 62) rfl hno.out he
                  have hd3 : ((s[k].toNat : Int) == 62) = false := by simpa using he
                  have hix : ∀ h, ((⟨#[46, 59, 91, 47, 60, 62]⟩ : ByteArray)[5]'h).toNat = 62 := fun _ => rfl
                  clear he
                  go_wp2
                  go_quiet (fail)
                  go_wp2
                  go_roundw
                  case rel => exact ⟨5 + 1, by omega, by go_num, HN, belows_drewN hbl _⟩
                  case measure => simp [intOf]
    · obtain rfl : k = s.size := by omega
      have HF : Hid (Ds.partB (Ds.bl s) = !decide (s.size = 0)) := by
        have h := hg.out
        rw [List.take_of_length_le (by rw [bl_len]; exact Nat.le_refl _)] at h
        show _ = _
        unfold Ds.partB
        rw [h, part_empty]; simp
      go_wp2
      go_ret
      exact ⟨by rw [HF.out, (show ∀ n : Nat, (!decide (n = 0)) = decide (0 < n) from fun n => by cases n <;> simp) s.size]; rfl, hbl⟩
end Go.Proofs.YthhjenmgcbmphaaDoor

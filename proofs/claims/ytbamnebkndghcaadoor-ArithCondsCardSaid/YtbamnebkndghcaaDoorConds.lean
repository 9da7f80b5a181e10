/- ArithConds, ArithSense. -/
import Derived.Test.YtbamnebkndghcaaDoorAf
namespace Go.Proofs.YtbamnebkndghcaaDoor
open Go.RowKit
set_option maxRecDepth 100000
theorem conds_law (c a b : Int) (w : World) (ht : Tabs w) : Calls Tryd.prog 3 #[.int .i64 c, .int .i64 a, .int .i64 b] w fun e w' => e = .returned (.bool true) ∧ Below w.heap.size w w' := by
  have hs := ht.size
  have HT := hid (fun W (h : Below w.heap.size w W) => ht.below h ht.size)
  have HC := hid (fun w ht => cond_any c a b w ht)
  have HRC := hid (fun w => rcond_any c a b w)
  have HN := hid (fun w ht => not_any c w ht)
  have HRN := hid (fun w => rnot_any c w)
  have HS := hid (fun w ht => swap_any c w ht)
  have HRS := hid (fun w => rswap_any c w)
  have HM := hid (fun w => cmp_any a b w)
  have HRM := hid (fun w => rcmp_any a b w)
  have HV := hid (fun w => live_any w)
  have hB := Below.refl w.heap.size w
  clear ht
  go_enter Tryd.func3, Tryd.ntmps3
  go_wp2_with (first | (go_at_call 5; refine (HV.out _).mono ?_; rintro e w' ⟨rfl, rfl⟩) | (go_at_call 6; refine (HC.out _ (HT.out _ hB)).mono ?_; rintro e W ⟨rfl, hB1⟩; have hB := belows hB hB1 hB.size) | (go_at_call 7; refine (HRC.out _).mono ?_; rintro e w' ⟨rfl, rfl⟩) | (go_at_call 8; refine (HN.out _ (HT.out _ hB)).mono ?_; rintro e W ⟨rfl, hB1⟩; have hB := belows hB hB1 hB.size) | (go_at_call 9; refine (HRN.out _).mono ?_; rintro e w' ⟨rfl, rfl⟩) | (go_at_call 10; refine (HS.out _ (HT.out _ hB)).mono ?_; rintro e W ⟨rfl, hB1⟩; have hB := belows hB hB1 hB.size) | (go_at_call 11; refine (HRS.out _).mono ?_; rintro e w' ⟨rfl, rfl⟩) | (go_at_call 12; refine (HM.out _).mono ?_; rintro e w' ⟨rfl, rfl⟩) | (go_at_call 13; refine (HRM.out _).mono ?_; rintro e w' ⟨rfl, rfl⟩))
  all_goals go_ret
  all_goals exact ⟨by simp, hB⟩
theorem sense_law (c a b : Int) (w : World) (ht : Tabs w) : Calls Tryd.prog 4 #[.int .i64 c, .int .i64 a, .int .i64 b] w fun e w' => e = .returned (.bool true) ∧ Below w.heap.size w w' := by
  have hs := ht.size
  have HT := hid (fun W (h : Below w.heap.size w W) => ht.below h ht.size)
  have HC := hid (fun c a b w ht => cond_any c a b w ht)
  have HN := hid (fun c w ht => not_any c w ht)
  have HS := hid (fun c w ht => swap_any c w ht)
  have HV := hid (fun w => live_any w)
  have hB := Below.refl w.heap.size w
  clear ht
  rcases cix_all c with h | ⟨h1, h2, h3, h4, h5, h6⟩
  · obtain ⟨n, hn⟩ : ∃ n, n = (cd (cix c)).2.2.2.1 := ⟨_, rfl⟩
    obtain ⟨s, hs1⟩ : ∃ s, s = (cd (cix c)).2.2.2.2 := ⟨_, rfl⟩
    have f1 : cdB (cix n) a b = !cdB (cix c) a b := by
      rw [hn]
      rcases h with rfl | rfl | rfl | rfl | rfl | rfl <;> (by_cases hab : a < b <;> by_cases hba : b < a <;> simp [cdB, cd, cix, hab, hba])
    have f2 : cdB (cix s) b a = cdB (cix c) a b := by
      rw [hs1]
      rcases h with rfl | rfl | rfl | rfl | rfl | rfl <;> (by_cases hab : a < b <;> by_cases hba : b < a <;> simp [cdB, cd, cix, hab, hba] <;> omega)
    have f3 : (cd (cix n)).2.2.2.1 = c := by rw [hn]; rcases h with rfl | rfl | rfl | rfl | rfl | rfl <;> simp [cd, cix]
    have f4 : (cd (cix s)).2.2.2.2 = c := by rw [hs1]; rcases h with rfl | rfl | rfl | rfl | rfl | rfl <;> simp [cd, cix]
    have hc1 : decide (c < 1) = false := by simp; omega
    have hc2 : decide (6 < c) = false := by simp; omega
    obtain ⟨x, hx⟩ : ∃ x, x = cdB (cix c) a b := ⟨_, rfl⟩
    rw [← hx] at f1 f2
    have C1 := hid (fun w ht => hx ▸ HC.out c a b w ht)
    have C2 := hid (fun w ht => f1 ▸ HC.out n a b w ht)
    have C3 := hid (fun w ht => f2 ▸ HC.out s b a w ht)
    have N1 := hid (fun w ht => hn ▸ HN.out c w ht)
    have N2 := hid (fun w ht => f3 ▸ HN.out n w ht)
    have S1 := hid (fun w ht => hs1 ▸ HS.out c w ht)
    have S2 := hid (fun w ht => f4 ▸ HS.out s w ht)
    have hcc : 1 ≤ c ∧ c ≤ 6 := by omega
    clear h f1 f2 f3 f4 hn hs1 hx HC HN HS
    go_enter Tryd.func4, Tryd.ntmps4
    go_wp2_with (first | (go_at_call 5; refine (HV.out _).mono ?_; rintro e w' ⟨rfl, rfl⟩) | (go_at_call 6; (first | with_reducible refine (C1.out _ (HT.out _ hB)).mono ?_ | with_reducible refine (C2.out _ (HT.out _ hB)).mono ?_ | with_reducible refine (C3.out _ (HT.out _ hB)).mono ?_); rintro e W ⟨rfl, hB1⟩; have hB := belows hB hB1 hB.size) | (go_at_call 8; (first | with_reducible refine (N1.out _ (HT.out _ hB)).mono ?_ | with_reducible refine (N2.out _ (HT.out _ hB)).mono ?_); rintro e W ⟨rfl, hB1⟩; have hB := belows hB hB1 hB.size) | (go_at_call 10; (first | with_reducible refine (S1.out _ (HT.out _ hB)).mono ?_ | with_reducible refine (S2.out _ (HT.out _ hB)).mono ?_); rintro e W ⟨rfl, hB1⟩; have hB := belows hB hB1 hB.size))
    all_goals go_ret
    all_goals exact ⟨by simp, hB⟩
  · have C1 := hid (HC.out c a b)
    have N1 := hid (HN.out c)
    have S1 := hid (HS.out c)
    have hx := cix_no c h1 h2 h3 h4 h5 h6
    have hxb : cdB 0 a b = false := by unfold cdB cd; simp
    rw [hx] at C1 N1 S1
    rw [hxb] at C1
    simp only [cd] at N1 S1
    clear hx hxb HC HN HS
    have hcc : c < 1 ∨ 6 < c := by omega
    clear h1 h2 h3 h4 h5 h6
    go_enter Tryd.func4, Tryd.ntmps4
    rcases hcc with hcc | hcc
    · have hc1 : decide (c < 1) = true := by simpa using hcc
      go_wp2_with (first | (go_at_call 5; refine (HV.out _).mono ?_; rintro e w' ⟨rfl, rfl⟩) | (go_at_call 6; refine (C1.out _ (HT.out _ hB)).mono ?_; rintro e W ⟨rfl, hB1⟩; have hB := belows hB hB1 hB.size) | (go_at_call 8; refine (N1.out _ (HT.out _ hB)).mono ?_; rintro e W ⟨rfl, hB1⟩; have hB := belows hB hB1 hB.size) | (go_at_call 10; refine (S1.out _ (HT.out _ hB)).mono ?_; rintro e W ⟨rfl, hB1⟩; have hB := belows hB hB1 hB.size))
      all_goals go_ret
      all_goals exact ⟨by simp, hB⟩
    · have hc1 : decide (c < 1) = false := by simp; omega
      go_wp2_with (first | (go_at_call 5; refine (HV.out _).mono ?_; rintro e w' ⟨rfl, rfl⟩) | (go_at_call 6; refine (C1.out _ (HT.out _ hB)).mono ?_; rintro e W ⟨rfl, hB1⟩; have hB := belows hB hB1 hB.size) | (go_at_call 8; refine (N1.out _ (HT.out _ hB)).mono ?_; rintro e W ⟨rfl, hB1⟩; have hB := belows hB hB1 hB.size) | (go_at_call 10; refine (S1.out _ (HT.out _ hB)).mono ?_; rintro e W ⟨rfl, hB1⟩; have hB := belows hB hB1 hB.size))
      all_goals go_ret
      all_goals exact ⟨by simp, hB⟩
end Go.Proofs.YtbamnebkndghcaaDoor

/- Contracts of One at any bytes and of jumps. -/
import Derived.Test.YtihklojiionanaaDoorOpI
import Derived.Test.YtihklojiionanaaDoorMem
namespace Go.Proofs.YtihklojiionanaaDoor
open Go.RowKit

set_option maxRecDepth 100000 in
theorem one_any (bs : List UInt8) (v : Value) (p : Int) (w : World) (ht : Tabs w) (hb : IsB w v bs) :
    Calls Tryd.prog 23 #[v, .int .i64 p] w fun e w' => e = .returned (oneV (Op1.one bs p)) ∧ Below w.heap.size w w' := by
  unfold Op1.one
  by_cases h0 : p < 0 ∨ (bs.length : Int) ≤ p
  · rw [if_pos h0]
    obtain ⟨a, cap, rfl⟩ := hb.len
    exact one_out a _ cap p w h0
  · rw [if_neg h0]
    obtain ⟨k, rfl⟩ := Int.eq_ofNat_of_zero_le (show 0 ≤ p by omega)
    have hk : k < bs.length := by omega
    have hn := hb.1
    rcases hb.2 with ⟨rfl, -⟩ | ⟨b, o, cap, rfl, hcap, hlt, hc⟩
    · simp at hk
    · have hc0 := hc k hk
      simp only [Int.toNat_natCast]
      have h8 := Op1.at8_lt bs k
      by_cases hop : Op1.isOp (Op1.at8 bs k) = false
      · rw [if_pos hop]
        exact one_noop b o _ cap k _ w hk h8 ht hc0 hop
      · rw [if_neg hop]
        have hop' : Op1.isOp (Op1.at8 bs k) = true := by simpa using hop
        have hsz : Op1.szOf (Op1.at8 bs k) = 1 + Op1.bh (Op1.formOf (Op1.at8 bs k)) := by unfold Op1.szOf; rw [hop']; rfl
        by_cases hcut : (bs.length : Int) - k < Op1.szOf (Op1.at8 bs k)
        · rw [if_pos hcut]
          exact one_cut b o _ cap k _ _ w hk hn h8 ht hc0 hop' rfl (by omega)
        · rw [if_neg hcut]
          have hf8 := Op1.formOf_le (Op1.at8 bs k)
          have hf188 : Op1.formOf ((188 : Nat) : Int) = 8 := by decide +kernel
          have hks : k + Op1.szOf (Op1.at8 bs k) ≤ bs.length := by omega
          by_cases hf : Op1.formOf (Op1.at8 bs k) = 0
          · have h188 : Op1.at8 bs k ≠ 188 := by intro e; rw [e] at hf; exact absurd hf (by decide +kernel)
            have h1 : Op1.szOf (Op1.at8 bs k) = 1 := by rw [hsz, hf]; rfl
            rw [if_neg (fun h => h188 h.1)]
            have := one_zero b o _ cap k _ w hk hn hcap h8 ht hc0 hop' h1 hf h188
            have e : Op1.insAt bs k = ⟨k, Op1.at8 bs k, 0, 0⟩ := by unfold Op1.insAt; rw [hf]; rfl
            rw [e, h1]
            exact this
          · have hbh : 1 ≤ Op1.bh (Op1.formOf (Op1.at8 bs k)) ∧ Op1.bh (Op1.formOf (Op1.at8 bs k)) ≤ 2 := (show ∀ f, f < 9 → f ≠ 0 → 1 ≤ Op1.bh f ∧ Op1.bh f ≤ 2 by decide +kernel) _ (by omega) hf
            have hread : ∀ W, Below w.heap.size w W → Calls Tryd.prog 45 #[.int .i64 (Op1.at8 bs k), .int .i64 k, .slice (some ⟨b, o + (k + 1), none⟩) (k + Op1.szOf (Op1.at8 bs k) - (k + 1)) (cap - (k + 1))] W
                fun e w' => e = .returned (insV ⟨k, Op1.at8 bs k, (Op1.insAt bs k).a, (Op1.insAt bs k).b⟩) ∧ Below W.heap.size W w' := by
              intro W hW
              refine read_any _ k _ _ _ (Op1.at8 bs (k + 1)) (Op1.at8 bs (k + 2)) W (ht.below hW ht.size) (by omega) (Op1.at8_lt _ _) (Op1.at8_lt _ _) (by omega) (fun _ => ⟨b, o + (k + 1), rfl, ?_, fun h2 => ?_⟩)
              · exact (hW.cell (p := ⟨b, o + (k + 1), none⟩) hlt).trans (hc (k + 1) (by omega))
              · exact (hW.cell (p := ⟨b, o + (k + 1) + 1, none⟩) hlt).trans (by have := hc (k + 2) (by omega); rwa [show o + (k + 2) = o + (k + 1) + 1 by omega] at this)
            by_cases hbad : Op1.at8 bs k = 188 ∧ Op1.at8 bs (k + 1) ≠ 10 ∧ Op1.at8 bs (k + 1) ≠ 11
            · rw [if_pos hbad]
              have ha : (Op1.insAt bs k).a = (Op1.at8 bs (k + 1) : Nat) := by
                unfold Op1.insAt; rw [hbad.1, hf188]; rfl
              have h10 : ((Op1.insAt bs k).a == 10) = false := by rw [ha]; simp; omega
              have h11 : ((Op1.insAt bs k).a == 11) = false := by rw [ha]; simp; omega
              have hs2 : 2 ≤ Op1.szOf (Op1.at8 bs k) := by omega
              rw [hbad.1] at hread hc0 hop' hks hs2
              exact one_bad b o _ cap k _ _ _ w hks hn hcap ht hc0 hop' rfl hs2 hread h10 h11
            · rw [if_neg hbad]
              have hgood : Op1.at8 bs k ≠ 188 ∨ (Op1.insAt bs k).a = 10 ∨ (Op1.insAt bs k).a = 11 := by
                by_cases h : Op1.at8 bs k = 188
                · have ha : (Op1.insAt bs k).a = (Op1.at8 bs (k + 1) : Nat) := by unfold Op1.insAt; rw [h, hf188]; rfl
                  rw [ha]; omega
                · exact .inl h
              exact one_long b o _ cap k _ _ _ _ w (by omega) hn hcap h8 ht hc0 hop' rfl (by omega) hread hgood
/-- Does it jump? -/
def jB (op : Int) : Bool := Op1.isOp op && Op1.formOf op == 6
set_option maxRecDepth 100000 in
theorem jumps_any (op : Int) (w : World) (ht : Tabs w) : Calls Tryd.prog 50 #[.int .i64 op] w fun e w' => e = .returned (.bool (jB op)) ∧ w = w' := by
  have hform := form_any op w ht
  unfold isV at hform
  unfold jB
  have hb : ((Op1.formOf op : Int) == 6) = (Op1.formOf op == 6) := by rw [Bool.eq_iff_iff]; simp; omega
  generalize Op1.formOf op = f at *
  generalize Op1.isOp op = is at *
  have H := hid hform
  clear hform
  generalize (f == 6) = g at *
  cases is
  all_goals
    go_enter Tryd.func50, Tryd.ntmps50
    go_wp2_with (go_at_call 10; refine H.out.mono ?_; rintro e w' ⟨rfl, rfl⟩)
    go_ret
    exact ⟨by simp, rfl⟩
theorem rjumps_any (op : Int) (w : World) : Calls Tryd.prog 44 #[.int .i64 op] w fun e w' => e = .returned (.bool (jB op)) ∧ Below w.heap.size w w' := by
  have hform := rform_any op w
  unfold isV at hform
  unfold jB
  have hb : ((Op1.formOf op : Int) == 6) = (Op1.formOf op == 6) := by rw [Bool.eq_iff_iff]; simp; omega
  generalize Op1.formOf op = f at *
  generalize Op1.isOp op = is at *
  have H := hid hform
  clear hform
  generalize (f == 6) = g at *
  cases is
  all_goals
    go_enter Tryd.func44, Tryd.ntmps44
    go_wp2_with (go_at_call 11; refine H.out.mono ?_; rintro e w' ⟨rfl, hb1⟩)
    go_ret
    exact ⟨by simp, hb1⟩
end Go.Proofs.YtihklojiionanaaDoor

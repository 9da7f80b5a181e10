/- Contracts of the document's Decode and Same. -/
import Derived.Test.YtihklojiionanaaDoorRoC
namespace Go.Proofs.YtihklojiionanaaDoor
open Go.RowKit

set_option maxRecDepth 100000 in
set_option maxHeartbeats 1000000 in
theorem rdecode_any (bs : List UInt8) (v : Value) (w : World) (hb : IsB w v bs) :
    Calls Tryd.prog 22 #[v] w (DecPost bs w) := by
  have HB := hid hb
  have hlen := hb.1
  obtain ⟨a, cap, hv⟩ := hb.len
  subst hv
  clear hb
  by_cases h1 : 4096 < bs.length
  · have hd : decide (4096 < (bs.length : Int)) = true := by simp; omega
    go_enter Tryd.func22, Tryd.ntmps22
    go_wp2
    go_ret2
    exact ⟨_, _, _, rfl, .long h1, nilI _ _, (by repeat' first | with_reducible exact Below.refl _ _ | with_reducible assumption | with_reducible refine belows_drewN ?_ _ | with_reducible refine Below.drew ?_ | with_reducible refine Below.setCell ?_ ?_ _ | with_reducible refine Below.alloc ?_ ?_ _ | omega | (simp; done) | (simp; omega))⟩
  · have hd : decide (4096 < (bs.length : Int)) = false := by simp; omega
    by_cases h2 : bs.length = 0
    · have hd2 : ((bs.length : Int) == 0) = true := by rw [beq_iff_eq]; omega
      have H2 := hid h2
      clear h2
      go_enter Tryd.func22, Tryd.ntmps22
      go_wp2
      go_ret2
      exact ⟨_, _, _, rfl, .none H2.out, nilI _ _, (by repeat' first | with_reducible exact Below.refl _ _ | with_reducible assumption | with_reducible refine belows_drewN ?_ _ | with_reducible refine Below.drew ?_ | with_reducible refine Below.setCell ?_ ?_ _ | with_reducible refine Below.alloc ?_ ?_ _ | omega | (simp; done) | (simp; omega))⟩
    · have hd2 : ((bs.length : Int) == 0) = false := by rw [beq_eq_false_iff_ne]; omega
      have hle : bs.length ≤ 4096 := by omega
      have hpos : 0 < bs.length := by omega
      clear h1 h2
      go_enter Tryd.func22, Tryd.ntmps22
      go_wp2_with fail
      refine (rwalk_any bs _ _ HB.out (by omega)).mono ?_
      rintro e w2 ⟨m, l, p, er, rfl, hpre, her, h0, h1, om, hbw⟩
      have hpl := hpre.le
      have hll : l.length ≤ 4096 := by omega
      have HM := hid (Kit.isS_of_owns om (by omega))
      have HO := hid om
      obtain ⟨am, capm, hvm⟩ := HM.out.len
      subst hvm
      have hz2 := hbw.size
      by_cases hz : er = 0
      · obtain rfl := h0.1 hz
        subst hz
        have HP := hid hpl.2.2
        have HPre := hid hpre
        clear h0 h1 hpl hpre her om
        have hmk := fun W => run_make_row' (P := Tryd.prog) 70 4 (.bool false) 1 (by kernel_rfl) (by kernel_rfl) rfl .i64 .i64 bs.length (by omega) (by omega) W
        obtain ⟨C0, hC0⟩ : ∃ C, C = madeCells #[Value.bool false] bs.length := ⟨_, rfl⟩
        rw [← hC0] at hmk
        have hC : ∀ i, i < bs.length → C0[i]? = some (.bool (hitB l 0 i)) := fun i hi => by rw [hC0, made_at bs.length i hi]; rfl
        have HC := hid hC
        clear hC0 hC
        go_wp2
        go_loopw [7] (fun i wr => ∃ k : Nat, k ≤ l.length ∧ i = .int .i64 k ∧ Hid (∀ i, i < bs.length → wr.cell? ⟨w2.heap.size, i, none⟩ = some (.bool (hitB l k i))) ∧ (∀ i, wr.frozen? ⟨w2.heap.size, i, none⟩ = false) ∧ w2.heap.size < wr.heap.size ∧ Below w2.heap.size w2 wr) (fun i _ => l.length - (intOf i).toNat)
        case atStart =>
          refine ⟨0, by omega, rfl, fun i hi => ?_, fun i => by simp [go_sem], by simp, (by repeat' first | with_reducible exact Below.refl _ _ | with_reducible assumption | with_reducible refine belows_drewN ?_ _ | with_reducible refine Below.drew ?_ | with_reducible refine Below.setCell ?_ ?_ _ | with_reducible refine Below.alloc ?_ ?_ _ | omega | (simp; done) | (simp; omega))⟩
          rw [World.cell?_alloc_at _ _ _ _ rfl]
          exact HC.out i hi
        case round =>
          obtain ⟨k, hk, rfl, hcl, hfr, hsz, hbl⟩ := hrel
          clear HC hmk
          by_cases hlt : k < l.length
          · obtain ⟨x, hx⟩ : ∃ x, l[k]? = some x := ⟨l[k], List.getElem?_eq_getElem hlt⟩
            obtain ⟨b, o, cap', hv, hb, c0, c1, c2, c3⟩ := ins_at (HM.out.below hbl (Nat.le_refl _)) hx
            obtain ⟨rfl, -, rfl⟩ := Value.slice.inj hv
            obtain ⟨xp, xop, xa, xb⟩ := x
            dsimp only at c0 c1 c2 c3
            have hpx := HP.out _ (List.mem_of_getElem? hx)
            dsimp only at hpx
            obtain ⟨p, rfl⟩ := Int.eq_ofNat_of_zero_le hpx.1
            have hpn : p < bs.length := by omega
            have hcp := hcl.out p hpn
            generalize hitB l k p = old at hcp
            have HX := hid hx
            have i1 : (k : Int) < l.length := by omega
            clear hx hpx hv
            go_wp2
            go_roundw
            case rel =>
              refine ⟨k + 1, by omega, by go_num, fun i hi => ?_, fun i => ?_, by simp; omega, (by repeat' first | with_reducible exact Below.refl _ _ | with_reducible assumption | with_reducible refine belows_drewN ?_ _ | with_reducible refine Below.drew ?_ | with_reducible refine Below.setCell ?_ ?_ _ | with_reducible refine Below.alloc ?_ ?_ _ | omega | (simp; done) | (simp; omega))⟩
              · rw [hitB_succ HX.out]
                rw [Kit.cell_set (i := p) (v := .bool true) (hcl.out i hi)]
                by_cases hip : p = i
                · subst hip; simp
                · have : ((p : Int) == (i : Int)) = false := by rw [beq_eq_false_iff_ne]; omega
                  rw [this, Bool.or_false, if_neg hip]
              · rw [World.frozen?_setCell]
                exact hfr i
            case measure => simp [intOf]; omega
          · obtain rfl : k = l.length := by omega
            go_wp2
            obtain ⟨wo, rfl⟩ : ∃ wo : World, wo = wr := ⟨_, rfl⟩
            go_loopw [8] (fun i wr => ∃ k : Nat, k ≤ l.length ∧ i = .int .i64 k ∧ Hid (∀ i, i < bs.length → wr.cell? ⟨w2.heap.size, i, none⟩ = some (.bool (hitB l l.length i))) ∧ Hid ((l.take k).all (goodB l bs.length) = true) ∧ w2.heap.size < wr.heap.size ∧ Below w2.heap.size w2 wr) (fun i _ => l.length - (intOf i).toNat)
            case atStart => exact ⟨0, by omega, rfl, hcl, rfl, hsz, hbl⟩
            case round =>
              obtain ⟨k, hk, rfl, hcl, hgd, hsz, hbl⟩ := hrel
              by_cases hlt : k < l.length
              · obtain ⟨x, hx⟩ : ∃ x, l[k]? = some x := ⟨l[k], List.getElem?_eq_getElem hlt⟩
                obtain ⟨b, o, cap', hv, hb, c0, c1, c2, c3⟩ := ins_at (HM.out.below hbl (Nat.le_refl _)) hx
                obtain ⟨rfl, -, rfl⟩ := Value.slice.inj hv
                obtain ⟨xp, xop, xa, xb⟩ := x
                dsimp only at c0 c1 c2 c3
                have HX := hid hx
                have HJ := hid (fun W => rjumps_any xop W)
                have HG : Hid (goodB l bs.length ⟨xp, xop, xa, xb⟩ = (!jB xop || (decide (0 ≤ xa) && decide (xa < (bs.length : Int)) && hitB l l.length xa))) := rfl
                have i1 : (k : Int) < l.length := by omega
                have hbr : b < wr.heap.size := by have := hbl.size; omega
                clear hx hv
                generalize jB xop = J at *
                cases J with
                | false =>
                  go_wp2_with (go_at_call 44; refine (HJ.out _).mono ?_; rintro e w5 ⟨rfl, hb5⟩; obtain ⟨hcc, hff⟩ := bcell hb5; have hz5 := hb5.size; have hblw := belows hbl hb5 hbl.size; have hccw := fun i => hcc w2.heap.size i hsz)
                  go_roundw
                  case rel => exact ⟨k + 1, by omega, by go_num, fun i hi => (hccw i).trans (hcl.out i hi), all_next HX.out hgd.out (by rw [HG.out]; rfl), by omega, hblw⟩
                  case measure => simp [intOf]; omega
                | true =>
                  by_cases h0 : xa < 0
                  · have hd : decide (xa < 0) = true := by simpa using h0
                    have hfin := landB_bad HX.out (by rw [HG.out]; have : decide (0 ≤ xa) = false := by simp; omega
                                                      rw [this]; rfl)
                    have HF := hid hfin
                    clear hfin
                    go_wp2_with (go_at_call 44; refine (HJ.out _).mono ?_; rintro e w5 ⟨rfl, hb5⟩; obtain ⟨hcc, hff⟩ := bcell hb5; have hz5 := hb5.size; have hblw := belows hbl hb5 hbl.size; have hccw := fun i => hcc w2.heap.size i hsz)
                    go_ret2
                    exact ⟨_, _, _, rfl, .jump hle hpos HPre.out HF.out, nilI _ _, belows hbw hblw hz2⟩
                  · have hd : decide (xa < 0) = false := by simpa using h0
                    obtain ⟨q, rfl⟩ := Int.eq_ofNat_of_zero_le (show 0 ≤ xa by omega)
                    by_cases h1 : bs.length ≤ q
                    · have hd2 : decide ((bs.length : Int) ≤ (q : Int)) = true := by simp; omega
                      have hfin := landB_bad HX.out (by rw [HG.out]; have : decide ((q : Int) < (bs.length : Int)) = false := by simp; omega
                                                        rw [this]; simp)
                      have HF := hid hfin
                      clear hfin
                      go_wp2_with (go_at_call 44; refine (HJ.out _).mono ?_; rintro e w5 ⟨rfl, hb5⟩; obtain ⟨hcc, hff⟩ := bcell hb5; have hz5 := hb5.size; have hblw := belows hbl hb5 hbl.size; have hccw := fun i => hcc w2.heap.size i hsz)
                      go_ret2
                      exact ⟨_, _, _, rfl, .jump hle hpos HPre.out HF.out, nilI _ _, belows hbw hblw hz2⟩
                    · have hd2 : decide ((bs.length : Int) ≤ (q : Int)) = false := by simp; omega
                      have hqn : q < bs.length := by omega
                      have hqn' : (q : Int) < bs.length := by omega
                      have hcq := hcl.out q hqn
                      cases hq : hitB l l.length (q : Int) with
                      | true =>
                        rw [hq] at hcq
                        have HQ := hid hq
                        clear hq
                        go_wp2_with (go_at_call 44; refine (HJ.out _).mono ?_; rintro e w5 ⟨rfl, hb5⟩; obtain ⟨hcc, hff⟩ := bcell hb5; have hz5 := hb5.size; have hblw := belows hbl hb5 hbl.size; have hccw := fun i => hcc w2.heap.size i hsz)
                        go_roundw
                        case rel => exact ⟨k + 1, by omega, by go_num, fun i hi => (hccw i).trans (hcl.out i hi), all_next HX.out hgd.out (by rw [HG.out, HQ.out]; simp; omega), by omega, hblw⟩
                        case measure => simp [intOf]; omega
                      | false =>
                        rw [hq] at hcq
                        have hfin := landB_bad HX.out (by rw [HG.out, hq]; simp)
                        have HF := hid hfin
                        clear hfin hq
                        go_wp2_with (go_at_call 44; refine (HJ.out _).mono ?_; rintro e w5 ⟨rfl, hb5⟩; obtain ⟨hcc, hff⟩ := bcell hb5; have hz5 := hb5.size; have hblw := belows hbl hb5 hbl.size; have hccw := fun i => hcc w2.heap.size i hsz)
                        go_ret2
                        exact ⟨_, _, _, rfl, .jump hle hpos HPre.out HF.out, nilI _ _, belows hbw hblw hz2⟩
              · obtain rfl : k = l.length := by omega
                have HF := hid (Op1.DecOut.ok hle hpos HPre.out (landB_end hgd.out))
                go_wp2
                go_ret2
                exact ⟨_, _, _, rfl, HF.out, Kit.owns_below HO.out hbl (Nat.le_refl _), belows hbw hbl hz2⟩
      · have hne : (er != 0) = true := by simpa using hz
        have HBad := hid (Op1.DecOut.bad hle hpre (by have := hpl.1; have : ¬ p = bs.length := fun h => hz (h0.2 h); omega) her)
        rw [← h1 hz] at HBad
        clear h0 h1 hz hpl hpre her
        go_wp2
        go_ret2
        exact ⟨_, _, _, rfl, HBad.out, nilI _ _, (by repeat' first | with_reducible exact Below.refl _ _ | with_reducible assumption | with_reducible refine belows_drewN ?_ _ | with_reducible refine Below.drew ?_ | with_reducible refine Below.setCell ?_ ?_ _ | with_reducible refine Below.alloc ?_ ?_ _ | omega | (simp; done) | (simp; omega))⟩
end Go.Proofs.YtihklojiionanaaDoor

/- OpcodeCuts: code that is cut off anywhere tells the instructions that are whole. -/
import Derived.Test.YtihklojiionanaaDoorCutM
import Derived.Test.YtihklojiionanaaDoorRoC
import Derived.Test.YtihklojiionanaaDoorWalks
import Derived.Test.YtihklojiionanaaDoorOwn
import Derived.Deep.RegionWith
namespace Go.Proofs.YtihklojiionanaaDoor
open Go.RowKit

theorem IsB.cap {w : World} {v : Value} {bs : List UInt8} (h : IsB w v bs) : ∃ a cap, v = .slice a bs.length cap ∧ bs.length ≤ cap := by
  rcases h.2 with ⟨rfl, a, cap, rfl⟩ | ⟨b, o, cap, rfl, hl, -⟩
  · exact ⟨a, cap, rfl, by simp⟩
  · exact ⟨_, cap, rfl, hl⟩
theorem isB_take {w : World} {a : Option Addr} {cap k : Nat} {bs : List UInt8} (h : IsB w (.slice a bs.length cap) bs) (hk : k ≤ bs.length) : IsB w (.slice a k cap) (bs.take k) := by
  have hl : (bs.take k).length = k := by rw [List.length_take]; omega
  refine ⟨by rw [hl]; have := h.1; omega, ?_⟩
  by_cases h0 : k = 0
  · subst h0
    exact .inl ⟨rfl, a, cap, rfl⟩
  · rcases h.2 with ⟨rfl, -⟩ | ⟨b, o, cap', hv, hcap, hlt, hc⟩
    · simp at hk; omega
    · obtain ⟨rfl, -, rfl⟩ := Value.slice.inj hv
      exact .inr ⟨b, o, cap, by rw [hl], by omega, hlt, fun i hi => by rw [at8_take (by omega)]; exact hc i (by omega)⟩
theorem isS_take {w : World} {a : Option Addr} {cap k : Nat} {l : List Op1.Ins} (h : Kit.IsS 4 w (.slice a l.length cap) l.length (insCells l)) (hk : k ≤ l.length) : Kit.IsS 4 w (.slice a k cap) (l.take k).length (insCells (l.take k)) := by
  have hl : (l.take k).length = k := by rw [List.length_take]; omega
  have hcl : (insCells (l.take k)).length = k * 4 := (Kit.flat_len insC_len (l.take k)).trans (by rw [hl])
  rw [hl]
  refine ⟨hcl, by have := h.2.1; omega, ?_⟩
  by_cases h0 : k = 0
  · exact .inl ⟨h0, a, cap, by rw [h0]⟩
  · rcases h.2.2 with ⟨h1, -⟩ | ⟨b, o, cap', hv, hcap, hlt, hc⟩
    · omega
    · obtain ⟨rfl, -, rfl⟩ := Value.slice.inj hv
      refine .inr ⟨b, o, cap, rfl, by omega, hlt, fun i u hi => hc i u ?_⟩
      have e : insCells l = insCells (l.take k) ++ insCells (l.drop k) := by
        unfold insCells
        rw [← List.flatMap_append, List.take_append_drop]
      rw [e, List.getElem?_append_left (by rw [List.getElem?_eq_some_iff] at hi; exact hi.1)]
      exact hi
theorem u16_lo {x : Int} (h : (Lit.int .u16 x).wf = true) : 0 ≤ x ∧ x < 65536 := by
  simp [Lit.wf, IntKind.min, IntKind.max, IntKind.signed, IntKind.bits] at h
  omega
theorem sz_le (op : Int) : Op1.szOf op ≤ 3 := by
  unfold Op1.szOf
  have := bh_le (Op1.formOf op)
  cases Op1.isOp op <;> simp
  omega
set_option maxRecDepth 100000 in
set_option maxHeartbeats 1000000 in
theorem cuts_law (bs : List UInt8) (cut : Int) (v : Value) (w : World) (ht : Tabs w) (hb : IsB w v bs) (hc0 : 0 ≤ cut) (hc1 : cut < 65536) (hn : bs.length ≤ 1048576) :
    Calls Tryd.prog 8 #[v, .int .u16 cut] w fun e w' => e = .returned (.bool true) ∧ Below w.heap.size w w' := by
  have hs0 := ht.size
  have HT := hid (fun W (h : Below w.heap.size w W) => ht.below h ht.size)
  have HB := hid (fun W (h : Below w.heap.size w W) => hb.below h (Nat.le_refl _))
  obtain ⟨a, cap, rfl, hcap⟩ := hb.cap
  obtain ⟨k, hk⟩ : ∃ k : Nat, cut % ((bs.length : Int) + 1) = (k : Int) := ⟨(cut % ((bs.length : Int) + 1)).toNat, by have := Int.emod_nonneg cut (b := (bs.length : Int) + 1) (by omega); omega⟩
  have hkl : (k : Int) ≤ bs.length := by have := Int.emod_lt_of_pos cut (b := (bs.length : Int) + 1) (by omega); omega
  have hkc : (k : Int) ≤ cap := by omega
  clear ht hb
  go_enter Tryd.func8, Tryd.ntmps8
  go_wp2_with fail
  refine (live_any _ (HT.out _ (by repeat' first | with_reducible exact Below.refl _ _ | with_reducible assumption | with_reducible refine belows_drewN ?_ _ | with_reducible refine Below.drew ?_ | with_reducible refine Below.setCell ?_ ?_ _ | with_reducible refine Below.alloc ?_ ?_ _ | omega | (simp; done) | (simp; omega)))).mono ?_
  rintro e w1 ⟨rfl, hb1⟩
  have hz1 := hb1.size
  go_wp2_with fail
  refine (rwalk_any bs _ _ (HB.out _ hb1) (by omega)).mono ?_
  rintro e w2 ⟨m, l, p, er, rfl, hpre, her, -, -, om, hb2⟩
  have hb2' := belows hb1 hb2 hz1
  have hz2 := hb2'.size
  have hlm := hpre.le.2.1
  have hpl := hpre.le.1
  have hll : l.length ≤ 1048576 := by omega
  have HPre := hid hpre
  have HEr := hid her
  have HM := hid (Kit.isS_of_owns om (by omega))
  obtain ⟨am, capm, hvm⟩ := HM.out.len
  subst hvm
  clear hpre her om hb2 hb1
  go_wp2_with fail
  rw [hk]
  clear hk
  go_loopw [8, 30] (fun n i wr => ∃ j : Nat, j ≤ l.length ∧ i = .int .i64 j ∧ n = .int .i64 (cntI (l.take j) k : Nat) ∧ Below w.heap.size w wr ∧ Hid (Kit.IsS 4 wr (.slice am l.length capm) l.length (insCells l))) (fun _ i _ => l.length - (intOf i).toNat)
  case atStart => exact ⟨0, by omega, rfl, rfl, hb2', HM⟩
  case round =>
    obtain ⟨j, hj, rfl, rfl, hbl, HMr⟩ := hrel
    have hzr := hbl.size
    have hcn := cntI_le (l.take j) k
    have hcj : (l.take j).length = j := by rw [List.length_take]; omega
    rw [hcj] at hcn
    clear hcj HM hb2' hz2
    by_cases hlt : j < l.length
    · obtain ⟨x, hx⟩ : ∃ x, l[j]? = some x := ⟨l[j], List.getElem?_eq_getElem hlt⟩
      obtain ⟨b, o, cap', hv, hb, c0, c1, c2, c3⟩ := ins_at HMr.out hx
      obtain ⟨rfl, -, rfl⟩ := Value.slice.inj hv
      have hxp := HPre.out.le.2.2 x (List.mem_of_getElem? hx)
      have HStep := hid (cntI_step (k := k) hx)
      have HSz := hid (fun W (h : Below wr.heap.size wr W) => size_any x.op W (HT.out W (belows hbl h hzr)))
      unfold szV at HSz
      have hs4 := sz_le x.op
      obtain ⟨xp, xop, xa, xb⟩ := x
      dsimp only at c0 c1 c2 c3 HSz HStep hxp hs4
      obtain ⟨hx0, hx1⟩ := hxp
      obtain ⟨z, hz⟩ : ∃ z, z = Op1.szOf xop := ⟨_, rfl⟩
      rw [← hz] at HSz HStep hs4
      obtain ⟨c, hc⟩ : ∃ c, c = cntI (l.take j) k := ⟨_, rfl⟩
      rw [← hc] at HStep hcn
      rw [← hc]
      generalize Op1.isOp xop = is at *
      have hj' : (j : Int) < l.length := by omega
      have hx2 : xp ≤ 1048576 := by omega
      have hz4 : (z : Int) ≤ 4 := by omega
      have HMA := hid (fun W (h : Below wr.heap.size wr W) => HMr.out.below h (Nat.le_refl _))
      clear hx hv hz hc
      by_cases hle : xp + (z : Int) ≤ (k : Int)
      · have hd : decide (xp + (z : Int) ≤ (k : Int)) = true := by simpa using hle
        have HS2 := HStep.out
        rw [if_pos hle] at HS2
        have HS3 := hid HS2
        clear HS2 HStep
        go_wp2_with (go_at_call 12; refine (HSz.out _ (by repeat' first | with_reducible exact Below.refl _ _ | with_reducible assumption | with_reducible refine belows_drewN ?_ _ | with_reducible refine Below.drew ?_ | with_reducible refine Below.setCell ?_ ?_ _ | with_reducible refine Below.alloc ?_ ?_ _ | omega | (simp; done) | (simp; omega))).mono ?_; rintro e w' ⟨rfl, rfl⟩)
        go_roundw
        case rel => exact ⟨j + 1, by omega, by go_num, by rw [HS3.out]; go_num, (by repeat' first | with_reducible exact Below.refl _ _ | with_reducible assumption | with_reducible refine belows_drewN ?_ _ | with_reducible refine Below.drew ?_ | with_reducible refine Below.setCell ?_ ?_ _ | with_reducible refine Below.alloc ?_ ?_ _ | omega | (simp; done) | (simp; omega)), HMA.out _ (by repeat' first | with_reducible exact Below.refl _ _ | with_reducible assumption | with_reducible refine belows_drewN ?_ _ | with_reducible refine Below.drew ?_ | with_reducible refine Below.setCell ?_ ?_ _ | with_reducible refine Below.alloc ?_ ?_ _ | omega | (simp; done) | (simp; omega))⟩
        case measure => simp [intOf]; omega
      · have hd : decide (xp + (z : Int) ≤ (k : Int)) = false := by simpa using hle
        have HS2 := HStep.out
        rw [if_neg hle] at HS2
        have HS3 := hid HS2
        clear HS2 HStep
        go_wp2_with (go_at_call 12; refine (HSz.out _ (by repeat' first | with_reducible exact Below.refl _ _ | with_reducible assumption | with_reducible refine belows_drewN ?_ _ | with_reducible refine Below.drew ?_ | with_reducible refine Below.setCell ?_ ?_ _ | with_reducible refine Below.alloc ?_ ?_ _ | omega | (simp; done) | (simp; omega))).mono ?_; rintro e w' ⟨rfl, rfl⟩)
        go_roundw
        case rel => exact ⟨j + 1, by omega, by go_num, by rw [HS3.out]; go_num, (by repeat' first | with_reducible exact Below.refl _ _ | with_reducible assumption | with_reducible refine belows_drewN ?_ _ | with_reducible refine Below.drew ?_ | with_reducible refine Below.setCell ?_ ?_ _ | with_reducible refine Below.alloc ?_ ?_ _ | omega | (simp; done) | (simp; omega)), HMA.out _ (by repeat' first | with_reducible exact Below.refl _ _ | with_reducible assumption | with_reducible refine belows_drewN ?_ _ | with_reducible refine Below.drew ?_ | with_reducible refine Below.setCell ?_ ?_ _ | with_reducible refine Below.alloc ?_ ?_ _ | omega | (simp; done) | (simp; omega))⟩
        case measure => simp [intOf]; omega
    · obtain rfl : j = l.length := by omega
      rw [List.take_length] at hcn ⊢
      obtain ⟨q, hq1, hq2⟩ := cut_all HPre.out HEr.out (k := k) (by omega)
      obtain ⟨c, hc⟩ : ∃ c, c = cntI l k := ⟨_, rfl⟩
      rw [← hc] at hcn hq1
      rw [← hc]
      have hcm : (c : Int) ≤ capm := by
        rcases HMr.out.2.2 with ⟨h0, -⟩ | ⟨b, o, cap', hv, hle, -⟩
        · omega
        · obtain ⟨-, -, rfl⟩ := Value.slice.inj hv
          omega
      have HQ1 := hid hq1
      have HQ2 := hid hq2
      have HW := hid (fun W (h : Below w.heap.size w W) => walk_any (bs.take k) _ W (isB_take (HB.out W h) (by omega)))
      have HMA := hid (fun W (h : Below wr.heap.size wr W) => isS_take (HMr.out.below h (Nat.le_refl _)) hcn)
      clear hq1 hq2 hc
      obtain ⟨w4, rfl⟩ : ∃ w4 : World, w4 = wr := ⟨_, rfl⟩
      go_wp2
      go_region_with (first
        | (go_at_call 28; refine (HW.out _ ?_).mono ?_; exact (by repeat' first | with_reducible exact hbl | with_reducible exact Below.refl _ _ | with_reducible refine belows_drewN ?_ _ | with_reducible refine Below.drew ?_); rintro e w5 ⟨v5, rfl, hc5, hi5, hb5, hlt5⟩)
        | (go_at_call 27; refine (walks_any (bs.take k) (l.take c) q v5 _ w4.heap.size 0 w5 ?_ hi5 hlt5 hc5 HQ1.out HQ2.out ?_).mono ?_; exact HT.out _ (belows (b := w4.drew) (by repeat' first | with_reducible exact hbl | with_reducible exact Below.refl _ _ | with_reducible refine belows_drewN ?_ _ | with_reducible refine Below.drew ?_) hb5 hzr); exact HMA.out w5 (belows (b := w4.drew) ((Below.refl _ w4).drew) hb5 (Nat.le_refl _)); rintro e w6 ⟨rfl, hb6⟩))
      all_goals
        go_wp2
        go_ret
        exact ⟨rfl, belows (belows (b := w4.drew) (by repeat' first | with_reducible exact hbl | with_reducible exact Below.refl _ _ | with_reducible refine belows_drewN ?_ _ | with_reducible refine Below.drew ?_) hb5 hzr) hb6 (belows (b := w4.drew) (by repeat' first | with_reducible exact hbl | with_reducible exact Below.refl _ _ | with_reducible refine belows_drewN ?_ _ | with_reducible refine Below.drew ?_) hb5 hzr).size⟩
end Go.Proofs.YtihklojiionanaaDoor

/- OpcodeOwn: what is handed in is left as it is, whatever is done to what was answered. -/
import Derived.Test.YtihklojiionanaaDoorOpZ
namespace Go.Proofs.YtihklojiionanaaDoor
open Go.RowKit

theorem own_spots {w : World} {base : Nat} {e : TypeId} {size : Nat} {a : Option Addr} {n cap : Nat} {xs : List Value} (h : w.ownsRow base e size (.slice a n cap) n xs) (hB : base ≤ w.heap.size) :
    ∃ g, base ≤ g ∧ (0 < n → a = some ⟨g, 0, none⟩) ∧ (∀ j, j < n * size → ∃ x, w.cell? ⟨g, j, none⟩ = some x) ∧ ∀ j, w.frozen? ⟨g, j, none⟩ = false := by
  rcases h.2 with ⟨hv, h0⟩ | ⟨g, cap', cur, hv, hg, hh, hc1, hc2, hc3, -⟩
  · refine ⟨w.heap.size, hB, fun h => by omega, fun j hj => by rw [h0] at hj; omega, fun j => ?_⟩
    simp [World.frozen?]
  · obtain ⟨rfl, -, rfl⟩ := Value.slice.inj hv
    refine ⟨g, hg, fun _ => rfl, fun j hj => ?_, fun j => ?_⟩
    · have hlt : j < cur.size := by rw [hc3]; exact Nat.lt_of_lt_of_le hj (Nat.mul_le_mul_right size hc1)
      exact ⟨cur[j], by simp [World.cell?, hh, hlt]⟩
    · simp [World.frozen?, hh]
theorem cell_kept {w : World} {g i : Nat} {v : Value} {n : Nat} (h : ∀ j, j < n → ∃ x, w.cell? ⟨g, j, none⟩ = some x) : ∀ j, j < n → ∃ x, (w.setCell ⟨g, i, none⟩ v).cell? ⟨g, j, none⟩ = some x := by
  intro j hj
  obtain ⟨x, hx⟩ := h j hj
  exact ⟨_, Kit.cell_set hx⟩
theorem declen {bs : List UInt8} {l : List Op1.Ins} {er : Int} (h : Op1.DecOut bs l er) : l.length ≤ 4096 := by
  cases h with
  | ok h1 h2 h3 h4 => have := h3.le.2.1; omega
  | _ => simp
theorem encGo_len : ∀ {l : List Op1.Ins} {bs cs : List UInt8} {er : Int}, encGo l bs = (cs, er) → cs.length ≤ 4096
  | [], bs, cs, er, h => by
    unfold encGo at h
    split at h
    · obtain ⟨rfl, -⟩ := Prod.mk.inj h; simp
    · obtain ⟨rfl, -⟩ := Prod.mk.inj h; omega
  | x :: l, bs, cs, er, h => by
    rw [encGo_cons] at h
    split at h
    · obtain ⟨rfl, -⟩ := Prod.mk.inj h; simp
    · split at h
      · obtain ⟨rfl, -⟩ := Prod.mk.inj h; simp
      · exact encGo_len h
set_option maxRecDepth 100000 in
set_option maxHeartbeats 1000000 in
theorem own_law (bs : List UInt8) (l : List Op1.Ins) (v u : Value) (w : World) (ht : Tabs w) (hb : IsB w v bs) (hl : Kit.IsS 4 w u l.length (insCells l)) (hn : l.length * 32 ≤ 140737488355328) :
    Calls Tryd.prog 9 #[v, u] w fun e w' => e = .returned (.bool true) ∧ Below w.heap.size w w' := by
  have hs0 := ht.size
  have HT := hid (fun W (h : Below w.heap.size w W) => ht.below h ht.size)
  have HB := hid (fun W (h : Below w.heap.size w W) => hb.below h (Nat.le_refl _))
  have HL := hid (fun W (h : Below w.heap.size w W) => hl.below h (Nat.le_refl _))
  have hbn := hb.1
  clear ht hb hl
  go_enter Tryd.func9, Tryd.ntmps9
  go_wp2_with fail
  refine (bclone_any bs v _ (HB.out _ (by repeat' first | with_reducible exact Below.refl _ _ | with_reducible assumption | with_reducible refine belows_drewN ?_ _ | with_reducible refine Below.drew ?_ | with_reducible refine Below.setCell ?_ ?_ _ | with_reducible refine Below.alloc ?_ ?_ _ | omega | (simp; done) | (simp; omega)))).mono ?_
  rintro e w1 ⟨v1, rfl, o1, hb1⟩
  have hz1 := hb1.size
  have HO1 := hid o1
  clear o1
  go_wp2_with fail
  refine (iclone_any l u _ (HL.out _ hb1) hn).mono ?_
  rintro e w2 ⟨u1, rfl, o2, hb2⟩
  have hb2' := belows hb1 hb2 hz1
  have hz2 := hb2.size
  have HV1 := hid ((isB_of_own HO1.out (by simpa using hbn)).below hb2 (Nat.le_refl _))
  have HU1 := hid (Kit.isS_of_owns o2 (by omega))
  clear o2 HO1 hb1 hb2
  go_wp2_with fail
  refine (decode_any bs v _ (HT.out _ hb2') (HB.out _ hb2')).mono ?_
  rintro e w3 ⟨m, lm, er, rfl, hdec, om, hb3⟩
  have hlm := declen hdec
  obtain ⟨am, capm, hvm⟩ := (Kit.isS_of_owns om (by omega)).len
  subst hvm
  obtain ⟨g, hg, ham, hcl, hfz⟩ := own_spots om hb3.size
  generalize lm.length = n at *
  have HCl := hid hcl
  clear hcl hdec om
  go_wp2_with fail
  go_loopw [24] (fun i wr => ∃ k : Nat, k ≤ n ∧ i = .int .i64 k ∧ Hid (∀ j, j < n * 4 → ∃ x, wr.cell? ⟨g, j, none⟩ = some x) ∧ (∀ j, wr.frozen? ⟨g, j, none⟩ = false) ∧ Below w2.heap.size w2 wr) (fun i _ => n - (intOf i).toNat)
  case atStart => exact ⟨0, by omega, rfl, HCl.out, hfz, hb3⟩
  case round =>
    obtain ⟨k, hk, rfl, hcl, hfr, hbl⟩ := hrel
    clear HCl hfz hb3
    by_cases hlt : k < n
    · have ham' := ham (by omega)
      subst ham'
      obtain ⟨x, hx⟩ := hcl.out (k * 4 + 1) (by omega)
      clear ham
      go_wp2
      go_roundw
      case rel => exact ⟨k + 1, by omega, by go_num, cell_kept hcl.out, fun j => by rw [World.frozen?_setCell]; exact hfr j, (by repeat' first | with_reducible exact Below.refl _ _ | with_reducible assumption | with_reducible refine belows_drewN ?_ _ | with_reducible refine Below.drew ?_ | with_reducible refine Below.setCell ?_ ?_ _ | with_reducible refine Below.alloc ?_ ?_ _ | omega | (simp; done) | (simp; omega))⟩
      case measure => simp [intOf]; omega
    · have hzr := hbl.size
      have hbr := belows hb2' hbl (by omega)
      have HV2 := hid (HV1.out.below hbl (Nat.le_refl _))
      have HU2 := hid (HU1.out.below hbl (Nat.le_refl _))
      clear HV1 HU1 ham hcl hfr hg hbl hb2'
      obtain ⟨w4, rfl⟩ : ∃ w4 : World, w4 = wr := ⟨_, rfl⟩
      go_wp2_with fail
      refine (encode_any l u _ (HT.out _ hbr) (HL.out _ hbr) hn).mono ?_
      rintro e w5 ⟨c, cb, er2, rfl, henc, oc, hb5⟩
      have hcl := encGo_len henc
      obtain ⟨ac, capc, hvc⟩ := (Kit.isS_of_owns oc (by omega)).len
      subst hvc
      obtain ⟨q, hq, hac, hcq, hfq⟩ := own_spots oc hb5.size
      generalize cb.length = n2 at *
      have HCq := hid hcq
      clear hcq henc oc
      go_wp2_with fail
      go_loopw [39] (fun i wr => ∃ k : Nat, k ≤ n2 ∧ i = .int .i64 k ∧ Hid (∀ j, j < n2 * 1 → ∃ x, wr.cell? ⟨q, j, none⟩ = some x) ∧ (∀ j, wr.frozen? ⟨q, j, none⟩ = false) ∧ Below w4.heap.size w4 wr) (fun i _ => n2 - (intOf i).toNat)
      case atStart => exact ⟨0, by omega, rfl, HCq.out, hfq, hb5⟩
      case round =>
        obtain ⟨k, hk, rfl, hcl2, hfr, hbl⟩ := hrel
        clear HCq hfq hb5
        by_cases hlt : k < n2
        · have hac' := hac (by omega)
          subst hac'
          obtain ⟨x, hx⟩ := hcl2.out k (by omega)
          clear hac
          go_wp2
          go_roundw
          case rel => exact ⟨k + 1, by omega, by go_num, cell_kept hcl2.out, fun j => by rw [World.frozen?_setCell]; exact hfr j, (by repeat' first | with_reducible exact Below.refl _ _ | with_reducible assumption | with_reducible refine belows_drewN ?_ _ | with_reducible refine Below.drew ?_ | with_reducible refine Below.setCell ?_ ?_ _ | with_reducible refine Below.alloc ?_ ?_ _ | omega | (simp; done) | (simp; omega))⟩
          case measure => simp [intOf]; omega
        · have hzb := hbr.size
          have hbr2 := belows hbr hbl hzb
          have hzb2 := hbr2.size
          have HV3 := hid (HV2.out.below hbl (Nat.le_refl _))
          have HU3 := hid (HU2.out.below hbl (Nat.le_refl _))
          clear HV2 HU2 hac hcl2 hfr hq hbl hbr
          go_wp2_with fail
          refine (next_any l u 0 _ (HT.out _ hbr2) (HL.out _ hbr2) hn).mono ?_
          rintro e w6 ⟨v6, rfl, o6, hb6⟩
          have hbr3 := belows hbr2 hb6 hzb2
          have hzb3 := hbr3.size
          have HV4 := hid (HV3.out.below hb6 (Nat.le_refl _))
          have HU4 := hid (HU3.out.below hb6 (Nat.le_refl _))
          clear HV3 HU3 o6 hb6 hbr2
          go_wp2_with fail
          refine (live_any _ (HT.out _ hbr3)).mono ?_
          rintro e w7 ⟨rfl, hb7⟩
          have hbr4 := belows hbr3 hb7 hzb3
          have hzb4 := hbr4.size
          have HV5 := hid (HV4.out.below hb7 (Nat.le_refl _))
          have HU5 := hid (HU4.out.below hb7 (Nat.le_refl _))
          clear HV4 HU4 hb7 hbr3
          go_wp2_with fail
          refine (bequal_any bs bs v v1 _ (HB.out _ hbr4) HV5.out).mono ?_
          rintro e w8 ⟨rfl, rfl⟩
          rw [show (bs == bs) = true from by simp]
          go_wp2_with fail
          refine (equalI_any l l u u1 _ (HL.out _ hbr4) HU5.out).mono ?_
          rintro e w8 ⟨rfl, hb8⟩
          rw [show sameB l l = true from by unfold sameB; simp]
          go_wp2
          go_ret
          exact ⟨rfl, belows hbr4 hb8 hzb4⟩
end Go.Proofs.YtihklojiionanaaDoor

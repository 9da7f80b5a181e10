/- Contract of jumpsLand. -/
import Derived.Test.YtihklojiionanaaDoorOpJ
import Derived.Deep.OwnRows
import Derived.Deep.LoopGhost
namespace Go.Proofs.YtihklojiionanaaDoor
open Go.RowKit

def insC (x : Op1.Ins) : List Value := [.int .i64 x.p, .int .i64 x.op, .int .i64 x.a, .int .i64 x.b]
theorem insC_len (x : Op1.Ins) : (insC x).length = 4 := rfl
def insCells (l : List Op1.Ins) : List Value := l.flatMap insC
theorem ins_at {w : World} {v : Value} {l : List Op1.Ins} (h : Kit.IsS 4 w v l.length (insCells l)) {k : Nat} {x : Op1.Ins} (hx : l[k]? = some x) :
    ∃ b o cap, v = .slice (some ⟨b, o, none⟩) l.length cap ∧ b < w.heap.size ∧ w.cell? ⟨b, o + k * 4, none⟩ = some (.int .i64 x.p) ∧ w.cell? ⟨b, o + k * 4 + 1, none⟩ = some (.int .i64 x.op) ∧ w.cell? ⟨b, o + k * 4 + 2, none⟩ = some (.int .i64 x.a) ∧ w.cell? ⟨b, o + k * 4 + 3, none⟩ = some (.int .i64 x.b) := by
  have hk : k < l.length := by rw [List.getElem?_eq_some_iff] at hx; exact hx.1
  obtain ⟨b, o, cap, hv, -, hlt, hc⟩ := h.some (by omega)
  have f := fun j hj => Kit.flat_at insC_len hx j hj
  refine ⟨b, o, cap, hv, hlt, ?_, ?_, ?_, ?_⟩
  · exact hc (k * 4 + 0) _ (f 0 (by omega))
  · exact hc (k * 4 + 1) _ (f 1 (by omega))
  · exact hc (k * 4 + 2) _ (f 2 (by omega))
  · exact hc (k * 4 + 3) _ (f 3 (by omega))
/-- Does one of the first k begin there? -/
def hitB (l : List Op1.Ins) (k : Nat) (i : Int) : Bool := (l.take k).any fun y => y.p == i
def goodB (l : List Op1.Ins) (n : Nat) (x : Op1.Ins) : Bool := !jB x.op || (decide (0 ≤ x.a) && decide (x.a < (n : Int)) && hitB l l.length x.a)
def landB (l : List Op1.Ins) (n : Nat) : Bool := l.all (goodB l n)
theorem take_succ {α : Type} {l : List α} {k : Nat} {x : α} (h : l[k]? = some x) : l.take (k + 1) = l.take k ++ [x] := by
  rw [List.take_add_one, h]; rfl
theorem hitB_succ {l : List Op1.Ins} {k : Nat} {x : Op1.Ins} (h : l[k]? = some x) (i : Int) : hitB l (k + 1) i = (hitB l k i || x.p == i) := by
  unfold hitB; rw [take_succ h]; simp
theorem landB_end {l : List Op1.Ins} {n : Nat} (h : (l.take l.length).all (goodB l n) = true) : landB l n = true := by
  rw [List.take_of_length_le (Nat.le_refl _)] at h; exact h
theorem landB_bad {l : List Op1.Ins} {n k : Nat} {x : Op1.Ins} (h : l[k]? = some x) (hb : goodB l n x = false) : landB l n = false := by
  unfold landB
  rw [List.all_eq_false]
  exact ⟨x, List.mem_of_getElem? h, by simp [hb]⟩
theorem all_next {l : List Op1.Ins} {f : Op1.Ins → Bool} {k : Nat} {x : Op1.Ins} (h : l[k]? = some x) (ha : (l.take k).all f = true) (hx : f x = true) : Hid ((l.take (k + 1)).all f = true) := by
  show _ = _
  rw [take_succ h, List.all_append, ha]; simp [hx]
theorem made_at (n i : Nat) (hi : i < n) : (madeCells #[Value.bool false] n)[i]? = some (.bool false) := by
  simp [madeCells, hi, Nat.mod_one]

set_option maxRecDepth 100000 in
set_option maxHeartbeats 400000 in
theorem jumpsLand_any (l : List Op1.Ins) (v : Value) (n : Nat) (w : World) (ht : Tabs w) (hl : Kit.IsS 4 w v l.length (insCells l)) (hp : ∀ x ∈ l, 0 ≤ x.p ∧ x.p < n) (hn : n ≤ 140737488355328) :
    Calls Tryd.prog 43 #[v, .int .i64 n] w fun e w' => e = .returned (.bool (landB l n)) ∧ Below w.heap.size w w' := by
  obtain ⟨a0, cap, rfl⟩ := hl.len
  have hmk := fun W => run_make_row' (P := Tryd.prog) 70 4 (.bool false) 1 (by kernel_rfl) (by kernel_rfl) rfl .i64 .i64 n (by omega) (by omega) W
  have hll := hl.2.1
  have HL := hid hl
  have HT := hid ht
  have HP := hid hp
  obtain ⟨C0, hC0⟩ : ∃ C, C = madeCells #[Value.bool false] n := ⟨_, rfl⟩
  rw [← hC0] at hmk
  have hC : ∀ i, i < n → C0[i]? = some (.bool (hitB l 0 i)) := fun i hi => by rw [hC0, made_at n i hi]; rfl
  have HC := hid hC
  clear hC0 hC ht hp hl
  go_enter Tryd.func43, Tryd.ntmps43
  go_wp2
  go_loopw [14] (fun i wr => ∃ k : Nat, k ≤ l.length ∧ i = .int .i64 k ∧ Hid (∀ i, i < n → wr.cell? ⟨w.heap.size, i, none⟩ = some (.bool (hitB l k i))) ∧ (∀ i, wr.frozen? ⟨w.heap.size, i, none⟩ = false) ∧ w.heap.size < wr.heap.size ∧ Below w.heap.size w wr) (fun i _ => l.length - (intOf i).toNat)
  case atStart => 
    refine ⟨0, by omega, rfl, fun i hi => ?_, fun i => by simp [go_sem], by simp, (by repeat' first | with_reducible exact Below.refl _ _ | with_reducible assumption | with_reducible refine belows_drewN ?_ _ | with_reducible refine Below.drew ?_ | with_reducible refine Below.setCell ?_ ?_ _ | with_reducible refine Below.alloc ?_ ?_ _ | omega | (simp; done) | (simp; omega))⟩
    rw [World.cell?_alloc_at _ _ _ _ rfl]
    exact HC.out i hi
  case round =>
    obtain ⟨k, hk, rfl, hcl, hfr, hsz, hbl⟩ := hrel
    by_cases hlt : k < l.length
    · obtain ⟨x, hx⟩ : ∃ x, l[k]? = some x := ⟨l[k], List.getElem?_eq_getElem hlt⟩
      obtain ⟨b, o, cap', hv, hb, c0, c1, c2, c3⟩ := ins_at (HL.out.below hbl (Nat.le_refl _)) hx
      obtain ⟨rfl, -, rfl⟩ := Value.slice.inj hv
      obtain ⟨xp, xop, xa, xb⟩ := x
      dsimp only at c0 c1 c2 c3
      have hpx := HP.out _ (List.mem_of_getElem? hx)
      dsimp only at hpx
      obtain ⟨p, rfl⟩ := Int.eq_ofNat_of_zero_le hpx.1
      have hpn : p < n := by omega
      have hcp := hcl.out p hpn
      generalize hitB l k p = old at hcp
      have HX := hid hx
      clear hx hpx hv
      go_wp2
      go_roundw
      case rel =>
        refine ⟨k + 1, by omega, by go_num, fun i hi => ?_, fun i => ?_, by simp; omega, (by repeat' first | with_reducible exact Below.refl _ _ | with_reducible assumption | with_reducible refine belows_drewN ?_ _ | with_reducible refine Below.drew ?_ | with_reducible refine Below.setCell ?_ ?_ _ | with_reducible refine Below.alloc ?_ ?_ _ | omega | (simp; done) | (simp; omega))⟩
        · rw [hitB_succ HX.out, World.cell?_alloc_past _ _ _ (by simpa using hsz)]
          rw [Kit.cell_set (i := p) (v := .bool true) (hcl.out i hi)]
          by_cases hip : p = i
          · subst hip; simp
          · have : ((p : Int) == (i : Int)) = false := by rw [beq_eq_false_iff_ne]; omega
            rw [this, Bool.or_false, if_neg hip]
        · rw [World.frozen?_alloc_past _ _ _ (by simpa using hsz), World.frozen?_setCell]
          exact hfr i
      case measure => simp [intOf]; omega
    · obtain rfl : k = l.length := by omega
      go_wp2
      obtain ⟨wo, rfl⟩ : ∃ wo : World, wo = wr := ⟨_, rfl⟩
      go_loopw [25] (fun i wr => ∃ k : Nat, k ≤ l.length ∧ i = .int .i64 k ∧ Hid (∀ i, i < n → wr.cell? ⟨w.heap.size, i, none⟩ = some (.bool (hitB l l.length i))) ∧ Hid ((l.take k).all (goodB l n) = true) ∧ w.heap.size < wr.heap.size ∧ Below w.heap.size w wr) (fun i _ => l.length - (intOf i).toNat)
      case atStart => exact ⟨0, by omega, rfl, hcl, rfl, hsz, hbl⟩
      case round =>
        obtain ⟨k, hk, rfl, hcl, hgd, hsz, hbl⟩ := hrel
        by_cases hlt : k < l.length
        · obtain ⟨x, hx⟩ : ∃ x, l[k]? = some x := ⟨l[k], List.getElem?_eq_getElem hlt⟩
          obtain ⟨b, o, cap', hv, hb, c0, c1, c2, c3⟩ := ins_at (HL.out.below hbl (Nat.le_refl _)) hx
          obtain ⟨rfl, -, rfl⟩ := Value.slice.inj hv
          obtain ⟨xp, xop, xa, xb⟩ := x
          dsimp only at c0 c1 c2 c3
          have HX := hid hx
          have HJ := hid (fun W (h : Below wr.heap.size wr W) => jumps_any xop W ((HT.out.below hbl (HT.out.size)).below h ((HT.out.below hbl (HT.out.size)).size)))
          have HG : Hid (goodB l n ⟨xp, xop, xa, xb⟩ = (!jB xop || (decide (0 ≤ xa) && decide (xa < (n : Int)) && hitB l l.length xa))) := rfl
          clear hx hv
          generalize jB xop = J at *
          cases J with
          | false =>
            go_wp2_with (go_at_call 50; refine (HJ.out _ (by repeat' first | with_reducible exact Below.refl _ _ | with_reducible assumption | with_reducible refine belows_drewN ?_ _ | with_reducible refine Below.drew ?_ | with_reducible refine Below.setCell ?_ ?_ _ | with_reducible refine Below.alloc ?_ ?_ _ | omega | (simp; done) | (simp; omega))).mono ?_; rintro e w' ⟨rfl, rfl⟩)
            go_roundw
            case rel => exact ⟨k + 1, by omega, by go_num, fun i hi => by rw [World.cell?_alloc_past _ _ _ hsz]; exact hcl.out i hi, all_next HX.out hgd.out (by rw [HG.out]; rfl), by simp; omega, (by repeat' first | with_reducible exact Below.refl _ _ | with_reducible assumption | with_reducible refine belows_drewN ?_ _ | with_reducible refine Below.drew ?_ | with_reducible refine Below.setCell ?_ ?_ _ | with_reducible refine Below.alloc ?_ ?_ _ | omega | (simp; done) | (simp; omega))⟩
            case measure => simp [intOf]; omega
          | true =>
            by_cases h0 : xa < 0
            · have hd : decide (xa < 0) = true := by simpa using h0
              have hfin := landB_bad HX.out (by rw [HG.out]; have : decide (0 ≤ xa) = false := by simp; omega
                                                rw [this]; rfl)
              have HF := hid hfin
              clear hfin
              go_wp2_with (go_at_call 50; refine (HJ.out _ (by repeat' first | with_reducible exact Below.refl _ _ | with_reducible assumption | with_reducible refine belows_drewN ?_ _ | with_reducible refine Below.drew ?_ | with_reducible refine Below.setCell ?_ ?_ _ | with_reducible refine Below.alloc ?_ ?_ _ | omega | (simp; done) | (simp; omega))).mono ?_; rintro e w' ⟨rfl, rfl⟩)
              go_ret
              exact ⟨by rw [HF.out]; rfl, (by repeat' first | with_reducible exact Below.refl _ _ | with_reducible assumption | with_reducible refine belows_drewN ?_ _ | with_reducible refine Below.drew ?_ | with_reducible refine Below.setCell ?_ ?_ _ | with_reducible refine Below.alloc ?_ ?_ _ | omega | (simp; done) | (simp; omega))⟩
            · have hd : decide (xa < 0) = false := by simpa using h0
              obtain ⟨q, rfl⟩ := Int.eq_ofNat_of_zero_le (show 0 ≤ xa by omega)
              by_cases h1 : n ≤ q
              · have hd2 : decide ((n : Int) ≤ (q : Int)) = true := by simp; omega
                have hfin := landB_bad HX.out (by rw [HG.out]; have : decide ((q : Int) < (n : Int)) = false := by simp; omega
                                                  rw [this]; simp)
                have HF := hid hfin
                clear hfin
                go_wp2_with (go_at_call 50; refine (HJ.out _ (by repeat' first | with_reducible exact Below.refl _ _ | with_reducible assumption | with_reducible refine belows_drewN ?_ _ | with_reducible refine Below.drew ?_ | with_reducible refine Below.setCell ?_ ?_ _ | with_reducible refine Below.alloc ?_ ?_ _ | omega | (simp; done) | (simp; omega))).mono ?_; rintro e w' ⟨rfl, rfl⟩)
                go_ret
                exact ⟨by rw [HF.out]; rfl, (by repeat' first | with_reducible exact Below.refl _ _ | with_reducible assumption | with_reducible refine belows_drewN ?_ _ | with_reducible refine Below.drew ?_ | with_reducible refine Below.setCell ?_ ?_ _ | with_reducible refine Below.alloc ?_ ?_ _ | omega | (simp; done) | (simp; omega))⟩
              · have hd2 : decide ((n : Int) ≤ (q : Int)) = false := by simp; omega
                have hqn : q < n := by omega
                have hcq := hcl.out q hqn
                cases hq : hitB l l.length (q : Int) with
                | true =>
                  rw [hq] at hcq
                  have HQ := hid hq
                  clear hq
                  go_wp2_with (go_at_call 50; refine (HJ.out _ (by repeat' first | with_reducible exact Below.refl _ _ | with_reducible assumption | with_reducible refine belows_drewN ?_ _ | with_reducible refine Below.drew ?_ | with_reducible refine Below.setCell ?_ ?_ _ | with_reducible refine Below.alloc ?_ ?_ _ | omega | (simp; done) | (simp; omega))).mono ?_; rintro e w' ⟨rfl, rfl⟩)
                  go_roundw
                  case rel => exact ⟨k + 1, by omega, by go_num, fun i hi => by rw [World.cell?_alloc_past _ _ _ hsz]; exact hcl.out i hi, all_next HX.out hgd.out (by rw [HG.out, HQ.out]; simp; omega), by simp; omega, (by repeat' first | with_reducible exact Below.refl _ _ | with_reducible assumption | with_reducible refine belows_drewN ?_ _ | with_reducible refine Below.drew ?_ | with_reducible refine Below.setCell ?_ ?_ _ | with_reducible refine Below.alloc ?_ ?_ _ | omega | (simp; done) | (simp; omega))⟩
                  case measure => simp [intOf]; omega
                | false =>
                  rw [hq] at hcq
                  have hfin := landB_bad HX.out (by rw [HG.out, hq]; simp)
                  have HF := hid hfin
                  clear hfin hq
                  go_wp2_with (go_at_call 50; refine (HJ.out _ (by repeat' first | with_reducible exact Below.refl _ _ | with_reducible assumption | with_reducible refine belows_drewN ?_ _ | with_reducible refine Below.drew ?_ | with_reducible refine Below.setCell ?_ ?_ _ | with_reducible refine Below.alloc ?_ ?_ _ | omega | (simp; done) | (simp; omega))).mono ?_; rintro e w' ⟨rfl, rfl⟩)
                  go_ret
                  exact ⟨by rw [HF.out]; rfl, (by repeat' first | with_reducible exact Below.refl _ _ | with_reducible assumption | with_reducible refine belows_drewN ?_ _ | with_reducible refine Below.drew ?_ | with_reducible refine Below.setCell ?_ ?_ _ | with_reducible refine Below.alloc ?_ ?_ _ | omega | (simp; done) | (simp; omega))⟩
        · obtain rfl : k = l.length := by omega
          go_wp2
          go_ret
          exact ⟨by rw [landB_end hgd.out]; rfl, (by repeat' first | with_reducible exact Below.refl _ _ | with_reducible assumption | with_reducible refine belows_drewN ?_ _ | with_reducible refine Below.drew ?_ | with_reducible refine Below.setCell ?_ ?_ _ | with_reducible refine Below.alloc ?_ ?_ _ | omega | (simp; done) | (simp; omega))⟩
end Go.Proofs.YtihklojiionanaaDoor

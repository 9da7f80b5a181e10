/- Plain mathematics: code that is cut off. -/
import Derived.Test.YtihklojiionanaaDoorBackM
namespace Go.Proofs.YtihklojiionanaaDoor
open Go.RowKit

/-- How many of these instructions are whole within so many bytes. -/
def cntI (l : List Op1.Ins) (k : Nat) : Nat := (l.filter fun x => decide (x.p + (Op1.szOf x.op : Nat) ≤ (k : Int))).length
theorem cntI_snoc (l : List Op1.Ins) (x : Op1.Ins) (k : Nat) : cntI (l ++ [x]) k = cntI l k + if x.p + (Op1.szOf x.op : Nat) ≤ (k : Int) then 1 else 0 := by
  unfold cntI
  rw [List.filter_append, List.length_append]
  congr 1
  by_cases h : x.p + (Op1.szOf x.op : Nat) ≤ (k : Int) <;> simp [h]
theorem cntI_le (l : List Op1.Ins) (k : Nat) : cntI l k ≤ l.length := List.length_filter_le _ _
theorem at8_take {bs : List UInt8} {k i : Nat} (h : i < k) : Op1.at8 (bs.take k) i = Op1.at8 bs i := by
  unfold Op1.at8
  rw [List.getD_eq_getElem?_getD, List.getElem?_take_of_lt h, List.getD_eq_getElem?_getD]
theorem cut_pre {bs : List UInt8} {l : List Op1.Ins} {p : Nat} (h : Op1.Pre bs l p) {k : Nat} (hk : k ≤ bs.length) :
    (p ≤ k → cntI l k = l.length) ∧ ∃ q, Op1.Pre (bs.take k) (l.take (cntI l k)) q ∧ (cntI l k < l.length → Op1.errAt (bs.take k) q ≠ 0) ∧ (cntI l k = l.length → q = p) := by
  have hlen : (bs.take k).length = k := by rw [List.length_take]; omega
  induction h with
  | nil => exact ⟨fun _ => rfl, 0, .nil, fun h => absurd h (by simp [cntI]), fun _ => rfl⟩
  | @snoc l p hp he ih =>
    obtain ⟨ih1, q, ihp, ihe, ihq⟩ := ih
    obtain ⟨-, hlt, -⟩ := Op1.one_ok he
    have hx : (Op1.insAt bs p).p + (Op1.szOf (Op1.insAt bs p).op : Nat) = ((Op1.nxt bs p : Nat) : Int) := by
      simp only [Op1.insAt, Op1.nxt]; omega
    have hcs := cntI_snoc l (Op1.insAt bs p) k
    rw [hx] at hcs
    have hle := cntI_le l k
    by_cases hn : Op1.nxt bs p ≤ k
    · have hall := ih1 (by omega)
      rw [if_pos (by omega)] at hcs
      obtain rfl := ihq hall
      obtain ⟨a, b, c⟩ := one_same (cs := bs.take k) he (by rw [hlen]; exact hn) (fun i hi => at8_take (by unfold Op1.nxt at hn; omega))
      have hfull : (l ++ [Op1.insAt bs q]).take (cntI (l ++ [Op1.insAt bs q]) k) = l ++ [Op1.insAt bs q] := List.take_of_length_le (by rw [hcs, hall]; simp)
      refine ⟨fun _ => by rw [hcs, hall]; simp, Op1.nxt bs q, ?_, fun h => absurd h (by rw [hcs, hall]; simp), fun _ => rfl⟩
      rw [hfull]
      rw [hall, List.take_length] at ihp
      rw [← b, ← c]
      exact .snoc ihp a
    · rw [if_neg (by omega), Nat.add_zero] at hcs
      refine ⟨fun h => absurd h (by omega), q, ?_, fun _ => ?_, fun h => absurd h (by rw [hcs]; simp; omega)⟩
      · rw [hcs, List.take_append_of_le_length hle]; exact ihp
      · by_cases hall : cntI l k = l.length
        · obtain rfl := ihq hall
          intro h0
          obtain ⟨g0, g1, g2, g3⟩ := one_facts h0
          obtain ⟨-, -, c⟩ := one_same (cs := bs) h0 (by rw [hlen] at g2; omega) (fun i hi => (at8_take (by rw [hlen] at g2; omega)).symm)
          rw [c] at hn
          unfold Op1.nxt at hn
          rw [hlen] at g2
          exact hn g2
        · exact ihe (by omega)
/-- What Walk tells of the beginning of code. -/
theorem cut_all {bs : List UInt8} {l : List Op1.Ins} {p : Nat} (h : Op1.Pre bs l p) (he : Op1.errAt bs p ≠ 0) {k : Nat} (hk : k ≤ bs.length) :
    ∃ q, Op1.Pre (bs.take k) (l.take (cntI l k)) q ∧ Op1.errAt (bs.take k) q ≠ 0 := by
  have hlen : (bs.take k).length = k := by rw [List.length_take]; omega
  obtain ⟨-, q, h1, h2, h3⟩ := cut_pre h hk
  refine ⟨q, h1, ?_⟩
  by_cases hall : cntI l k = l.length
  · obtain rfl := h3 hall
    intro h0
    obtain ⟨g0, g1, g2, g3⟩ := one_facts h0
    rw [hlen] at g2
    obtain ⟨a, -, -⟩ := one_same (cs := bs) h0 (by omega) (fun i hi => (at8_take (by omega)).symm)
    exact he a
  · exact h2 (by have := cntI_le l k; omega)
theorem cntI_step {l : List Op1.Ins} {j k : Nat} {x : Op1.Ins} (h : l[j]? = some x) : cntI (l.take (j + 1)) k = cntI (l.take j) k + if x.p + (Op1.szOf x.op : Nat) ≤ (k : Int) then 1 else 0 := by
  have hj : j < l.length := by rw [List.getElem?_eq_some_iff] at h; exact h.1
  rw [List.take_succ_eq_append_getElem hj, cntI_snoc]
  rw [List.getElem?_eq_getElem hj] at h
  rw [Option.some.inj h]
end Go.Proofs.YtihklojiionanaaDoor

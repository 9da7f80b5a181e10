/- Contracts of the document's class, ClassName. -/
import Derived.Test.YthhjenmgcbmphaaDoorNb
namespace Go.Proofs.YthhjenmgcbmphaaDoor
open Go.RowKit

theorem cut_of {c : UInt8} : ∀ {a b : List UInt8}, (∀ x ∈ a, x ≠ c) → Ds.cutC c (a ++ c :: b) = some (a, b)
  | [], b, _ => by simp [Ds.cutC]
  | x :: a, b, h => by
    rw [List.cons_append]
    unfold Ds.cutC
    rw [if_neg (h x (by simp)), cut_of (fun y hy => h y (by simp [hy]))]
theorem cut_no {c : UInt8} : ∀ {l : List UInt8}, (∀ x ∈ l, x ≠ c) → Ds.cutC c l = none
  | [], _ => rfl
  | x :: l, h => by
    unfold Ds.cutC
    rw [if_neg (h x (by simp)), cut_no (fun y hy => h y (by simp [hy]))]
theorem class_cut {l a b : List UInt8} (h : Ds.cutC 47 l = some (a, b)) : Ds.classB l = (Ds.partB a && Ds.classB b) := by
  unfold Ds.classB; rw [Ds.split_some h, List.all_cons]
theorem class_one {l : List UInt8} (h : Ds.cutC 47 l = none) : Ds.classB l = Ds.partB l := by
  unfold Ds.classB; rw [Ds.split_none h]; simp
/-- Where the document's loop over a name stands. -/
def RelC (l : List UInt8) (i f : Nat) : Prop := (i ≤ l.length ∧ f ≤ i ∧ Ds.classB l = Ds.classB (l.drop f) ∧ ∀ x ∈ (l.drop f).take (i - f), x ≠ 47) ∨ (i = l.length + 1 ∧ Ds.classB l = true)
theorem relC_zero (l : List UInt8) : RelC l 0 0 := .inl ⟨by omega, by omega, rfl, fun x hx => by simp at hx⟩
theorem drop_split {l : List UInt8} {i f : Nat} {c : UInt8} (hf : f ≤ i) (h : l[i]? = some c) : l.drop f = (l.drop f).take (i - f) ++ c :: l.drop (i + 1) := by
  have hi : i < l.length := by rw [List.getElem?_eq_some_iff] at h; exact h.1
  have e : (l.drop f).drop (i - f) = c :: l.drop (i + 1) := by
    rw [List.drop_drop, show f + (i - f) = i by omega, List.drop_eq_getElem_cons hi]
    rw [List.getElem?_eq_getElem hi] at h
    rw [Option.some.inj h]
  rw [← e, List.take_append_drop]
/-- A step over a byte that is no mark. -/
theorem relC_on {l : List UInt8} {i f : Nat} {c : UInt8} (h : RelC l i f) (hc : l[i]? = some c) (hne : c ≠ 47) : RelC l (i + 1) f := by
  have hi : i < l.length := by rw [List.getElem?_eq_some_iff] at hc; exact hc.1
  rcases h with ⟨h1, h2, h3, h4⟩ | ⟨h1, -⟩
  · refine .inl ⟨by omega, by omega, h3, fun x hx => ?_⟩
    rw [show i + 1 - f = (i - f) + 1 by omega, List.take_add_one] at hx
    rcases List.mem_append.1 hx with hx | hx
    · exact h4 x hx
    · rw [List.getElem?_drop, show f + (i - f) = i by omega, hc] at hx
      simp at hx; rw [hx]; exact hne
  · omega
theorem relC_mark {l : List UInt8} {i f : Nat} (h : RelC l i f) (hc : l[i]? = some 47) : Ds.classB l = (Ds.partB ((l.drop f).take (i - f)) && Ds.classB (l.drop (i + 1))) := by
  have hi : i < l.length := by rw [List.getElem?_eq_some_iff] at hc; exact hc.1
  rcases h with ⟨h1, h2, h3, h4⟩ | ⟨h1, -⟩
  · rw [h3, drop_split h2 hc]
    exact class_cut (cut_of h4) |>.trans (by rw [← drop_split h2 hc])
  · omega
theorem relC_end {l : List UInt8} {f : Nat} (h : RelC l l.length f) : Ds.classB l = Ds.partB ((l.drop f).take (l.length - f)) := by
  rcases h with ⟨h1, h2, h3, h4⟩ | ⟨h1, -⟩
  · have e : (l.drop f).take (l.length - f) = l.drop f := List.take_of_length_le (by rw [List.length_drop]; exact Nat.le_refl _)
    rw [e] at h4 ⊢
    rw [h3, class_one (cut_no h4)]
  · omega
theorem relC_next {l : List UInt8} {i : Nat} (hi : i < l.length) (h : Ds.classB l = Ds.classB (l.drop (i + 1))) : RelC l (i + 1) (i + 1) := .inl ⟨by omega, by omega, h, fun x hx => by simp at hx⟩
theorem bl_ext (s : ByteArray) (a b : Nat) : Ds.bl (s.extract a b) = ((Ds.bl s).drop a).take (b - a) := Lib.extract_data s a b
theorem ext_size (s : ByteArray) (a b : Nat) : (s.extract a b).size ≤ s.size := by rw [ByteArray.size_extract]; omega
set_option maxRecDepth 100000 in
set_option maxHeartbeats 1000000 in
theorem rclass_any (s : ByteArray) (w : World) (hs : s.size ≤ 9223372036854775800) :
    Calls Tryd.prog 36 #[.string s] w fun e w' => e = .returned (.bool (Ds.classB (Ds.bl s))) ∧ Below w.heap.size w w' := by
  have hl := bl_len s
  go_enter Tryd.func36, Tryd.ntmps36
  go_wp2
  go_loopw [3, 4] (fun f i wr => ∃ (n k : Nat), k ≤ s.size + 1 ∧ n ≤ k ∧ f = .int .i64 n ∧ i = .int .i64 k ∧ Hid (RelC (Ds.bl s) k n) ∧ Below w.heap.size w wr) (fun _ i _ => s.size + 1 - (intOf i).toNat)
  case atStart => exact ⟨0, 0, by omega, by omega, rfl, rfl, relC_zero _, (by repeat' first | with_reducible exact Below.refl _ _ | with_reducible assumption | with_reducible refine belows_drewN ?_ _ | with_reducible refine Below.drew ?_ | with_reducible refine Below.setCell ?_ ?_ _ | with_reducible refine Below.alloc ?_ ?_ _ | omega | (simp; done) | (simp; omega))⟩
  case round =>
    obtain ⟨n, k, hk, hnk, rfl, rfl, hr, hbl⟩ := hrel
    have HP := hid (fun W => rpart_any (s.extract n k) W (by have := ext_size s n k; unfold maxLen; omega))
    have HX := hid (bl_ext s n k)
    by_cases hk1 : k = s.size + 1
    · have HF : Hid (Ds.classB (Ds.bl s) = true) := by
        rcases hr.out with ⟨h1, -⟩ | ⟨-, h2⟩
        · omega
        · exact h2
      subst hk1
      clear HP HX
      go_wp2
      go_ret
      exact ⟨by rw [HF.out]; rfl, hbl⟩
    · by_cases hk2 : k = s.size
      · subst hk2
        have HE := relC_end (hl ▸ hr.out : RelC (Ds.bl s) (Ds.bl s).length n)
        rw [hl, ← HX.out] at HE
        cases hp : Ds.partB (Ds.bl (s.extract n s.size)) with
        | true =>
          have HP2 := HP.out
          rw [hp] at HP2 HE
          have HP3 := hid HP2
          have HF := hid HE
          clear HP HP2 HX HE hp hk hk1
          go_wp2_with (go_at_call 44; refine (HP3.out _).mono ?_; rintro e w1 ⟨rfl, hb1⟩)
          go_roundw
          case rel => exact ⟨s.size + 1, s.size + 1, by omega, by omega, by go_num, by go_num, .inr ⟨by rw [hl], HF.out⟩, belows hbl hb1 hbl.size⟩
          case measure => simp [intOf]
        | false =>
          have HP2 := HP.out
          rw [hp] at HP2 HE
          have HP3 := hid HP2
          have HF := hid HE
          clear HP HP2 HX HE hp hk hk1
          go_wp2_with (go_at_call 44; refine (HP3.out _).mono ?_; rintro e w1 ⟨rfl, hb1⟩)
          go_ret
          exact ⟨by rw [HF.out]; rfl, belows hbl hb1 hbl.size⟩
      · have hlt : k < s.size := by omega
        have hat := bl_at s k hlt
        have hne : ((k : Int) == (s.size : Int)) = false := by rw [beq_eq_false_iff_ne]; omega
        have hlt' : (k : Int) < s.size := by omega
        by_cases hc : (s[k].toNat : Int) = 47
        · have hc2 : s[k] = 47 := UInt8.toNat_inj.1 (by have : (47 : UInt8).toNat = 47 := rfl; omega)
          rw [hc2] at hat
          have HM := relC_mark hr.out hat
          rw [← HX.out] at HM
          have hd : ((s[k].toNat : Int) == 47) = true := by simpa using hc
          cases hp : Ds.partB (Ds.bl (s.extract n k)) with
          | true =>
            have HP2 := HP.out
            rw [hp] at HP2 HM
            rw [Bool.true_and] at HM
            have HP3 := hid HP2
            have HF := hid (relC_next (by rw [hl]; exact hlt) HM)
            clear HP HP2 HX HM hp hk hk1 hk2 hc hc2 hat
            go_wp2_with (go_at_call 44; refine (HP3.out _).mono ?_; rintro e w1 ⟨rfl, hb1⟩)
            go_roundw
            case rel => exact ⟨k + 1, k + 1, by omega, by omega, by go_num, by go_num, HF, belows hbl hb1 hbl.size⟩
            case measure => simp [intOf]; omega
          | false =>
            have HP2 := HP.out
            rw [hp] at HP2 HM
            rw [Bool.false_and] at HM
            have HP3 := hid HP2
            have HF := hid HM
            clear HP HP2 HX HM hp hk hk1 hk2 hc hc2 hat
            go_wp2_with (go_at_call 44; refine (HP3.out _).mono ?_; rintro e w1 ⟨rfl, hb1⟩)
            go_ret
            exact ⟨by rw [HF.out]; rfl, belows hbl hb1 hbl.size⟩
        · have HF := hid (relC_on hr.out hat (fun e => hc (by rw [e]; rfl)))
          have hd : ((s[k].toNat : Int) == 47) = false := by simpa using hc
          clear HP HX hk1 hk2 hc hat
          go_wp2
          go_roundw
          case rel => exact ⟨n, k + 1, by omega, by omega, rfl, by go_num, HF, hbl⟩
          case measure => simp [intOf]; omega
/-- What ClassName answers, and what MemberName does. -/
def nameE (l : List UInt8) : Int := if 255 < l.length then 3 else if Ds.classB l = true then 0 else 21
def initL : List UInt8 := [60, 105, 110, 105, 116, 62]
def memE (l : List UInt8) : Int := if 255 < l.length then 3 else if Ds.partB l = true ∨ l = initL then 0 else 21
theorem str_eq (s : ByteArray) (l : List UInt8) : (s.toList = l) = (Ds.bl s = l) := by rw [ByteArray.toList_eq]
set_option maxRecDepth 100000 in
theorem rclassName_any (s : ByteArray) (w : World) :
    Calls Tryd.prog 29 #[.string s] w fun e w' => e = .returned (.int .i64 (nameE (Ds.bl s))) ∧ Below w.heap.size w w' := by
  unfold nameE
  rw [bl_len]
  by_cases h1 : 255 < s.size
  · rw [if_pos h1]
    have hd : decide (255 < (s.size : Int)) = true := by simp; omega
    go_enter Tryd.func29, Tryd.ntmps29
    go_wp2
    go_ret
    exact ⟨rfl, (by repeat' first | with_reducible exact Below.refl _ _ | with_reducible assumption | with_reducible refine belows_drewN ?_ _ | with_reducible refine Below.drew ?_ | with_reducible refine Below.setCell ?_ ?_ _ | with_reducible refine Below.alloc ?_ ?_ _ | omega | (simp; done) | (simp; omega))⟩
  · rw [if_neg h1]
    have hd : decide (255 < (s.size : Int)) = false := by simp; omega
    have HC := rclass_any s w (by omega)
    cases hc : Ds.classB (Ds.bl s) with
    | true =>
      rw [if_pos rfl]
      rw [hc] at HC
      have HC2 := hid HC
      clear HC hc
      go_enter Tryd.func29, Tryd.ntmps29
      go_wp2_with (go_at_call 36; refine HC2.out.mono ?_; rintro e w1 ⟨rfl, hb1⟩)
      go_ret
      exact ⟨rfl, hb1⟩
    | false =>
      rw [if_neg (by simp)]
      rw [hc] at HC
      have HC2 := hid HC
      clear HC hc
      go_enter Tryd.func29, Tryd.ntmps29
      go_wp2_with (go_at_call 36; refine HC2.out.mono ?_; rintro e w1 ⟨rfl, hb1⟩)
      go_ret
      exact ⟨rfl, hb1⟩
end Go.Proofs.YthhjenmgcbmphaaDoor

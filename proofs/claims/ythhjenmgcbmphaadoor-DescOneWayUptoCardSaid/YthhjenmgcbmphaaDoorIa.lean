/- Contracts of isArray, letters, draft. -/
import Derived.Test.YthhjenmgcbmphaaDoorSl
namespace Go.Proofs.YthhjenmgcbmphaaDoor
open Go.RowKit

/-- Is a text meant as an array's descriptor? -/
def arrB (l : List UInt8) : Bool := match l with | [] => false | c :: _ => c == 91
set_option maxRecDepth 100000 in
set_option maxHeartbeats 400000 in
theorem slprefix_any (s : ByteArray) (w : World) : Calls Tryd.prog 45 #[.string s, .string ⟨#[91]⟩] w fun e w' => e = .returned (.bool (arrB (Ds.bl s))) ∧ w = w' := by
  cases h : Ds.bl s with
  | nil =>
    have h0 : s.size = 0 := empty_of h
    have hd : decide (1 ≤ (s.size : Int)) = false := by simp; omega
    clear h
    go_enter Tryd.func45, Tryd.ntmps45
    go_wp2
    go_ret
    exact ⟨rfl, rfl⟩
  | cons c l =>
    have h1 := size_pos h
    have hd : decide (1 ≤ (s.size : Int)) = true := by simp; omega
    have he : s.extract 0 1 = ⟨#[c]⟩ := ba_ext (by rw [bl_ext, h]; simp)
    have h2 : (1 : Int) ≤ s.size := by omega
    go_enter Tryd.func45, Tryd.ntmps45
    go_wp2
    go_ret
    exact ⟨rfl, rfl⟩
set_option maxRecDepth 100000 in
theorem prefix_any (s : ByteArray) (w : World) : Calls Tryd.prog 39 #[.string s, .string ⟨#[91]⟩] w fun e w' => e = .returned (.bool (arrB (Ds.bl s))) ∧ w = w' := by
  have H := hid (fun W => slprefix_any s W)
  obtain ⟨x, hx⟩ : ∃ x, x = arrB (Ds.bl s) := ⟨_, rfl⟩
  rw [← hx] at H ⊢
  clear hx
  go_enter Tryd.func39, Tryd.ntmps39
  go_wp2_with (go_at_call 45; refine (H.out _).mono ?_; rintro e w1 ⟨rfl, rfl⟩)
  go_ret
  exact ⟨rfl, rfl⟩
set_option maxRecDepth 100000 in
theorem isArray_any (s : ByteArray) (w : World) : Calls Tryd.prog 26 #[.string s] w fun e w' => e = .returned (.bool (arrB (Ds.bl s))) ∧ w = w' := by
  have H := hid (fun W => prefix_any s W)
  obtain ⟨x, hx⟩ : ∃ x, x = arrB (Ds.bl s) := ⟨_, rfl⟩
  rw [← hx] at H ⊢
  clear hx
  go_enter Tryd.func26, Tryd.ntmps26
  go_wp2_with (go_at_call 39; refine (H.out _).mono ?_; rintro e w1 ⟨rfl, rfl⟩)
  go_ret
  exact ⟨rfl, rfl⟩
/-- What letters answers, as read. -/
def lD : DataW Unit := ((DataW.map []).put (.int .i64 1) (.lit (.int .u8 73))).put (.int .i64 2) (.lit (.int .u8 74))
def LMap (w : World) (mb : Nat) : Prop := w.ownsMap Tryd.prog 3 (plainElem (H := Unit) Tryd.prog 5) mb 2 lD
theorem LMap.below {w w' : World} {mb n₀ : Nat} (h : LMap w mb) (hb : Below n₀ w w') (hm : mb < n₀) : LMap w' mb := by
  obtain ⟨es, clock, h1, h2, h3, h4⟩ := h
  exact ⟨es, clock, (hb.block mb hm).trans h1, h2, h3, h4⟩
def letterOf (k : Int) : Int := if k = 1 then 73 else if k = 2 then 74 else 0
def isL (k : Int) : Bool := k == 1 || k == 2
theorem A.zeroByte (w : World) : (zeroValue 5).run Tryd.prog w = .ok (.int .u8 0) w := by kernel_rfl
set_option maxRecDepth 100000 in
theorem letters_any (w : World) : Calls Tryd.prog 42 #[] w fun e w' => e = .returned (.map (some w.heap.size)) ∧ LMap w' w.heap.size ∧ Below w.heap.size w w' ∧ w.heap.size < w'.heap.size := by
  have hmm := @run_makeMap Tryd.prog
  have h0 := World.ownsMap_made w Tryd.prog 3 (plainElem (H := Unit) Tryd.prog 5)
  obtain ⟨w1, hr1, ho1, hg1⟩ := h0.update (Maps.int_keyed Tryd.underlying3) Tryd.underlying71 (by decide) (Maps.keyOf_int_mk Tryd.underlying3 (a := 1) (by decide)) (plainElem_int Tryd.underlying5 (a := 73) (by decide))
  obtain ⟨w2, hr2, ho2, hg2⟩ := ho1.update (Maps.int_keyed Tryd.underlying3) Tryd.underlying71 (by decide) (Maps.keyOf_int_mk Tryd.underlying3 (a := 2) (by decide)) (plainElem_int Tryd.underlying5 (a := 74) (by decide))
  have HO := hid ho2
  have hb : Below w.heap.size w w2 := ((((Below.refl _ w).alloc (Nat.le_refl _) _).grown hg1 (by simp) (fun k e => by cases e; exact Nat.le_refl _)).grown hg2 (by have := hg1.size; simp at this; omega) (fun k e => by cases e; exact Nat.le_refl _))
  have hz := hg1.size
  have hz2 := hg2.size
  simp only [World.size_alloc] at hz
  clear h0 ho1 ho2 hg1 hg2
  go_enter Tryd.func42, Tryd.ntmps42
  go_wp2
  go_ret
  exact ⟨rfl, HO.out, hb, by omega⟩
theorem lD_eq : lD = .map [(.int .i64 1, .lit (.int .u8 73)), (.int .i64 2, .lit (.int .u8 74))] := rfl
theorem lmap_look {w : World} {mb : Nat} (h : LMap w mb) (k : Int) (hk : (Lit.int .i64 k).wf = true) :
    (Instr.lookup 71 (.map (some mb)) (.int .i64 k) true).run Tryd.prog w = .ok (.tuple #[.int .u8 (letterOf k), .bool (isL k)]) w := by
  obtain ⟨v, ps, hrun, hv⟩ := World.ownsMap.look_ok h (Maps.int_keyed Tryd.underlying3) Tryd.underlying71 (A.zeroByte w) (plainElem_int Tryd.underlying5 (a := 0) (by decide)) (Maps.keyOf_int_mk Tryd.underlying3 hk)
  obtain ⟨a, rfl, ha, -⟩ := plainElem_int_inv Tryd.underlying5 hv
  rw [hrun]
  have hh : a = letterOf k ∧ Maps.has lD (.int .i64 k) = isL k := by
    rw [lD_eq] at ha ⊢
    unfold letterOf isL
    by_cases h1 : k = 1
    · subst h1
      simp [DataW.atKey, Lit.sameKey] at ha
      simp [Maps.has, Lit.sameKey, ha.1]
    · by_cases h2 : k = 2
      · subst h2
        simp [DataW.atKey, Lit.sameKey] at ha
        simp [Maps.has, Lit.sameKey, ha.1]
      · have m1 : ¬ (1 : Int) = k := fun e => h1 e.symm
        have m2 : ¬ (2 : Int) = k := fun e => h2 e.symm
        simp [DataW.atKey, Lit.sameKey, m1, m2] at ha
        simp [Maps.has, Lit.sameKey, m1, m2, ha.1, h1, h2]
  rw [hh.1, hh.2]
end Go.Proofs.YthhjenmgcbmphaaDoor

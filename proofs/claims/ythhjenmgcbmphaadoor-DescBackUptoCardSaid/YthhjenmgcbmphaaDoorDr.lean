/- Contract of draft. -/
import Derived.Test.YthhjenmgcbmphaaDoorIa
import Derived.Deep.RegionWith
namespace Go.Proofs.YthhjenmgcbmphaaDoor
open Go.RowKit

/-- A type's descriptor, if it has one. -/
def draftOf (y : Ds.Ty) : List UInt8 := if y.1 = 4 then (if arrB y.2 then y.2 else 76 :: (y.2 ++ [59])) else if y.1 = 1 then [73] else if y.1 = 2 then [74] else []
theorem A.strI (w : World) : (convert 5 9 (.int .u8 73)).run Tryd.prog w = .ok (.string ⟨#[73]⟩) w := by kernel_rfl
theorem A.strJ (w : World) : (convert 5 9 (.int .u8 74)).run Tryd.prog w = .ok (.string ⟨#[74]⟩) w := by kernel_rfl
set_option maxRecDepth 100000 in
set_option maxHeartbeats 1000000 in
theorem draft_any (k : Int) (m : ByteArray) (w : World) (hk : (Lit.int .i64 k).wf = true) (hs : m.size ≤ 140737488351232) :
    Calls Tryd.prog 30 #[.agg #[.int .i64 k, .string m]] w fun e w' => e = .returned (.string ⟨(draftOf (k, Ds.bl m)).toArray⟩) ∧ Below w.heap.size w w' := by
  have HA := hid (fun W => isArray_any m W)
  by_cases h4 : k = 4
  · subst h4
    cases ha : arrB (Ds.bl m) with
    | true =>
      have HD := hid (show draftOf (4, Ds.bl m) = Ds.bl m by unfold draftOf; rw [if_pos rfl, ha]; rfl)
      rw [ha] at HA
      clear ha
      go_enter Tryd.func30, Tryd.ntmps30
      go_wp2_with (go_at_call 26; refine (HA.out _).mono ?_; rintro e w1 ⟨rfl, rfl⟩)
      go_ret
      exact ⟨by rw [HD.out]; rfl, (by repeat' first | with_reducible exact Below.refl _ _ | with_reducible assumption | with_reducible refine belows_drewN ?_ _ | with_reducible refine Below.drew ?_ | with_reducible refine Below.setCell ?_ ?_ _ | with_reducible refine Below.alloc ?_ ?_ _ | omega | (simp; done) | (simp; omega))⟩
    | false =>
      have HD := hid (show draftOf (4, Ds.bl m) = 76 :: (Ds.bl m ++ [59]) by unfold draftOf; rw [if_pos rfl, ha]; rfl)
      rw [ha] at HA
      clear ha
      go_enter Tryd.func30, Tryd.ntmps30
      go_wp2_with (go_at_call 26; refine (HA.out _).mono ?_; rintro e w1 ⟨rfl, rfl⟩)
      go_ret
      exact ⟨by rw [HD.out]; exact congrArg Ending.returned (congrArg Value.string (ba_ext (by simp [Ds.bl]))), (by repeat' first | with_reducible exact Below.refl _ _ | with_reducible assumption | with_reducible refine belows_drewN ?_ _ | with_reducible refine Below.drew ?_ | with_reducible refine Below.setCell ?_ ?_ _ | with_reducible refine Below.alloc ?_ ?_ _ | omega | (simp; done) | (simp; omega))⟩
  · have hk4 : (k == 4) = false := by simpa using h4
    by_cases h1 : k = 1
    · subst h1
      have HLk : Hid (∀ (W : World) (mb : Nat), LMap W mb → (Instr.lookup 71 (.map (some mb)) (.int .i64 1) true).run Tryd.prog W = .ok (.tuple #[.int .u8 73, .bool true]) W) := fun W mb h => by have := lmap_look h 1 hk; rw [show letterOf 1 = 73 from rfl, show isL 1 = true from rfl] at this; exact this
      have HD := hid (show draftOf (1, Ds.bl m) = [73] from rfl)
      have q1 := A.strI
      go_enter Tryd.func30, Tryd.ntmps30
      go_wp2
      go_region_with (go_at_call 42; refine (letters_any _).mono ?_; rintro e w1 ⟨rfl, hl1, hb1, hz1⟩; have hlk := HLk.out _ _ (show LMap w1 (w.heap.size + 1) by simpa using hl1); obtain ⟨hcc, hff⟩ := bcell hb1; have HB1 := hid hb1)
      all_goals
        go_wp2
        go_ret
        exact ⟨by rw [HD.out]; rfl, belows (B := w.heap.size) (a := w) (by repeat' first | with_reducible exact Below.refl _ _ | with_reducible assumption | with_reducible refine belows_drewN ?_ _ | with_reducible refine Below.drew ?_ | with_reducible refine Below.setCell ?_ ?_ _ | with_reducible refine Below.alloc ?_ ?_ _ | omega | (simp; done) | (simp; omega)) HB1.out (by simp)⟩
    by_cases h2 : k = 2
    · subst h2
      have HLk : Hid (∀ (W : World) (mb : Nat), LMap W mb → (Instr.lookup 71 (.map (some mb)) (.int .i64 2) true).run Tryd.prog W = .ok (.tuple #[.int .u8 74, .bool true]) W) := fun W mb h => by have := lmap_look h 2 hk; rw [show letterOf 2 = 74 from rfl, show isL 2 = true from rfl] at this; exact this
      have HD := hid (show draftOf (2, Ds.bl m) = [74] from rfl)
      have q1 := A.strJ
      go_enter Tryd.func30, Tryd.ntmps30
      go_wp2
      go_region_with (go_at_call 42; refine (letters_any _).mono ?_; rintro e w1 ⟨rfl, hl1, hb1, hz1⟩; have hlk := HLk.out _ _ (show LMap w1 (w.heap.size + 1) by simpa using hl1); obtain ⟨hcc, hff⟩ := bcell hb1; have HB1 := hid hb1)
      all_goals
        go_wp2
        go_ret
        exact ⟨by rw [HD.out]; rfl, belows (B := w.heap.size) (a := w) (by repeat' first | with_reducible exact Below.refl _ _ | with_reducible assumption | with_reducible refine belows_drewN ?_ _ | with_reducible refine Below.drew ?_ | with_reducible refine Below.setCell ?_ ?_ _ | with_reducible refine Below.alloc ?_ ?_ _ | omega | (simp; done) | (simp; omega)) HB1.out (by simp)⟩
    · have HLk : Hid (∀ (W : World) (mb : Nat), LMap W mb → (Instr.lookup 71 (.map (some mb)) (.int .i64 k) true).run Tryd.prog W = .ok (.tuple #[.int .u8 0, .bool false]) W) := fun W mb h => by have := lmap_look h k hk; rw [show letterOf k = 0 by simp [letterOf, h1, h2], show isL k = false by simp [isL, h1, h2]] at this; exact this
      have HD := hid (show draftOf (k, Ds.bl m) = [] by simp [draftOf, h4, h1, h2])
      go_enter Tryd.func30, Tryd.ntmps30
      go_wp2
      go_region_with (go_at_call 42; refine (letters_any _).mono ?_; rintro e w1 ⟨rfl, hl1, hb1, hz1⟩; have hlk := HLk.out _ _ (show LMap w1 (w.heap.size + 1) by simpa using hl1); obtain ⟨hcc, hff⟩ := bcell hb1; have HB1 := hid hb1)
      all_goals
        go_wp2
        go_ret
        exact ⟨by rw [HD.out]; rfl, belows (B := w.heap.size) (a := w) (by repeat' first | with_reducible exact Below.refl _ _ | with_reducible assumption | with_reducible refine belows_drewN ?_ _ | with_reducible refine Below.drew ?_ | with_reducible refine Below.setCell ?_ ?_ _ | with_reducible refine Below.alloc ?_ ?_ _ | omega | (simp; done) | (simp; omega)) HB1.out (by simp)⟩
end Go.Proofs.YthhjenmgcbmphaaDoor

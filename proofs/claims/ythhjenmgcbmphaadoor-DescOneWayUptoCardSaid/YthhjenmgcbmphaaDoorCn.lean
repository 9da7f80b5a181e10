/- Contract of ClassName. -/
import Derived.Test.YthhjenmgcbmphaaDoorSplit
import Derived.Test.YthhjenmgcbmphaaDoorRound
namespace Go.Proofs.YthhjenmgcbmphaaDoor
open Go.RowKit

attribute [local go_sem] Oper.semAt_some

theorem splitSeq_any (s sep : ByteArray) (w : World) : Calls Tryd.prog 40 #[.string s, .string sep] w fun e w' =>
    e = .returned (.func (.func 49) #[] #[.pointer (some ⟨w.heap.size + 1, 0, none⟩), .pointer (some ⟨w.heap.size, 0, none⟩), .pointer (some ⟨w.heap.size + 1 + 1, 0, none⟩)]) ∧
    w' = ((w.alloc (.cells #[.string s] 9)).alloc (.cells #[.string sep] 9)).alloc (.cells #[.int .i64 0] 3) := by
  go_enter Tryd.func40, Tryd.ntmps40
  go_wp2
  go_ret
  exact ⟨rfl, rfl⟩
set_option maxRecDepth 100000 in
set_option maxHeartbeats 2000000 in
theorem className_any (s : ByteArray) (w : World) :
    Calls Tryd.prog 27 #[.string s] w fun e w' => e = .returned (.int .i64 (nameE (Ds.bl s))) ∧ Below w.heap.size w w' := by
  unfold nameE
  rw [bl_len]
  by_cases h1 : 255 < s.size
  · rw [if_pos h1]
    have hd : decide (255 < (s.size : Int)) = true := by simp; omega
    go_enter Tryd.func27, Tryd.ntmps27
    go_wp2
    exact bodyPost_ret (v := .int .i64 3) (by simp [results, Tryd.results27, go_sem]) rfl ⟨rfl, (by repeat' first | with_reducible exact Below.refl _ _ | with_reducible assumption | with_reducible refine belows_drewN ?_ _ | with_reducible refine Below.drew ?_ | with_reducible refine Below.setCell ?_ ?_ _ | with_reducible refine Below.alloc ?_ ?_ _ | omega | (simp; done) | (simp; omega))⟩
  · rw [if_neg h1]
    have hd : decide (255 < (s.size : Int)) = false := by simp; omega
    obtain ⟨er, her⟩ : ∃ er : Int, er = if Ds.classB (Ds.bl s) = true then 0 else 21 := ⟨_, rfl⟩
    rw [← her]
    have HER := hid her
    clear her
    refine (callsIn_wide (n := 5)).1 ?_
    refine callsIn_of_wp_marks Tryd.func27 rfl trivial ?_ rfl
    simp only [Tryd.ntmps27, List.size_toArray, List.length_cons, List.length_nil, Nat.reduceAdd, Nat.reduceSub, Array.replicate_succ, Array.replicate_zero, List.push_toArray, List.append_toArray, List.nil_append, List.cons_append]
    gi_wp2_with (refine ⟨trivial, ?_⟩; gi_at_call 40; refine (callsIn_wide.2 (splitSeq_any _ _ _)).mono ?_; rintro e w1 ⟨rfl, rfl⟩)
    have b0 := (((Boxed.new w 24 (.int .i64 0)).alloc (.cells #[.string s] 9)).alloc (.cells #[.string ⟨#[47]⟩] 9)).alloc (.cells #[.int .i64 0] 3)
    have b1 := ((Boxed.new (w.alloc (.cells #[.int .i64 0] 24)) 9 (.string s)).alloc (.cells #[.string ⟨#[47]⟩] 9)).alloc (.cells #[.int .i64 0] 3)
    have b2 := (Boxed.new ((w.alloc (.cells #[.int .i64 0] 24)).alloc (.cells #[.string s] 9)) 9 (.string ⟨#[47]⟩)).alloc (.cells #[.int .i64 0] 3)
    have b3 := Boxed.new (((w.alloc (.cells #[.int .i64 0] 24)).alloc (.cells #[.string s] 9)).alloc (.cells #[.string ⟨#[47]⟩] 9)) 3 (.int .i64 0)
    simp only [World.size_alloc] at b0 b1 b2 b3
    have hB0 : Below w.heap.size w ((((w.alloc (.cells #[.int .i64 0] 24)).alloc (.cells #[.string s] 9)).alloc (.cells #[.string ⟨#[47]⟩] 9)).alloc (.cells #[.int .i64 0] 3)) := ((((Below.refl _ w).alloc (Nat.le_refl _) _).alloc (by simp only [World.size_alloc]; omega) _).alloc (by simp only [World.size_alloc]; omega) _).alloc (by simp only [World.size_alloc]; omega) _
    have hsz : ((((w.alloc (.cells #[.int .i64 0] 24)).alloc (.cells #[.string s] 9)).alloc (.cells #[.string ⟨#[47]⟩] 9)).alloc (.cells #[.int .i64 0] 3)).heap.size = w.heap.size + 4 := by simp only [World.size_alloc]
    obtain ⟨W0, hW0⟩ : ∃ W0, (((w.alloc (.cells #[.int .i64 0] 24)).alloc (.cells #[.string s] 9)).alloc (.cells #[.string ⟨#[47]⟩] 9)).alloc (.cells #[.int .i64 0] 3) = W0 := ⟨_, rfl⟩
    rw [hW0] at b0 b1 b2 b3 hB0 hsz ⊢
    clear hW0
    refine Kit.range_box (n₀ := W0.heap.size) (by omega) (gf := 49) (lb := #[.pointer (some ⟨w.heap.size + 1 + 1, 0, none⟩), .pointer (some ⟨w.heap.size + 1, 0, none⟩), .pointer (some ⟨w.heap.size + 1 + 1 + 1, 0, none⟩)]) rfl (enters_of Tryd.func49 (by kernel_rfl) rfl)
      (split1_box s (w.heap.size + 1 + 1) (w.heap.size + 1) (w.heap.size + 1 + 1 + 1) W0.heap.size (5 - 1) W0 (by omega) ⟨b2, b1, b3⟩ (by omega) (by omega) (by omega) (Nat.le_refl _) (by omega) (by omega) (by omega)) (Nat.le_refl _) (Below.refl _ _) (fun _ => rfl)
      (fun pre W => (Boxed W w.heap.size 24 (.int .i64 0) ∧ Hid (∀ x ∈ pre, Ds.partB (bx x) = true)) ∧ Below w.heap.size w W)
      (fun pre W => (Boxed W w.heap.size 24 (.int .i64 21) ∧ Hid (∃ x ∈ pre, Ds.partB (bx x) = false)) ∧ Below w.heap.size w W)
      (OwnFrom.and (OwnFrom.and (Own.from (boxed_own _ _ _) _) (ownFrom_pure _ (fun pre : List Sx => Hid (∀ x ∈ pre, Ds.partB (bx x) = true)))) (ownFrom_below (Nat.le_refl _) (by omega)))
      (OwnFrom.and (OwnFrom.and (Own.from (boxed_own _ _ _) _) (ownFrom_pure _ (fun pre : List Sx => Hid (∃ x ∈ pre, Ds.partB (bx x) = false)))) (ownFrom_below (Nat.le_refl _) (by omega)))
      (fun pre W v ⟨⟨i0, ip⟩, iB⟩ => ⟨⟨i0.other (by omega) v, ip⟩, iB.setCell (p := ⟨w.heap.size + 1, 0, none⟩) (by show w.heap.size ≤ w.heap.size + 1; omega) v⟩)
      ⟨⟨b0, hid (fun x hx => by simp at hx)⟩, hB0⟩
      (fun x => { tmps := #[.string s, undef, .pointer (some ⟨w.heap.size, 0, none⟩), .string x.1, .string s, .int .i64 s.size, .bool false, .string s, .func (.func 49) #[] #[.pointer (some ⟨w.heap.size + 1 + 1, 0, none⟩), .pointer (some ⟨w.heap.size + 1, 0, none⟩), .pointer (some ⟨w.heap.size + 1 + 1 + 1, 0, none⟩)], .string x.1, undef, undef, undef], defers := [] }) ?assign ?body ?done ?stop
    case assign =>
      intro l x W K hK
      unfold strE
      gi_wp2
      exact hK
    case body =>
      rintro l pre ⟨x, hx⟩ W ⟨⟨i0, ip⟩, iB⟩ _
      have c0 := i0.cell
      have f0 := i0.frozen
      have HP := isPart_any x W (by unfold maxLen; omega)
      cases hp : Ds.partB (Ds.bl x) with
      | true =>
        have HN : Hid (∀ y ∈ pre ++ [(⟨x, hx⟩ : Sx)], Ds.partB (bx y) = true) := fun y hy => by
          rcases List.mem_append.1 hy with hy | hy
          · exact ip.out y hy
          · rw [List.mem_singleton.1 hy]; exact hp
        rw [hp] at HP
        have HP2 := hid HP
        clear HP hp
        gi_wp2_with (refine ⟨trivial, ?_⟩; gi_at_call 41; refine (CallsIn.inRound l (callsIn_wide.2 HP2.out)).mono ?_; rintro e w1 ⟨rfl, rfl⟩)
        exact ⟨KeepsFrom.refl _ _, Below.refl _ _, ⟨i0, HN⟩, iB⟩
      | false =>
        have HN : Hid (∃ y ∈ pre ++ [(⟨x, hx⟩ : Sx)], Ds.partB (bx y) = false) := ⟨⟨x, hx⟩, by simp, hp⟩
        rw [hp] at HP
        have HP2 := hid HP
        clear HP hp
        gi_wp2_with (refine ⟨trivial, ?_⟩; gi_at_call 41; refine (CallsIn.inRound l (callsIn_wide.2 HP2.out)).mono ?_; rintro e w1 ⟨rfl, rfl⟩)
        exact ⟨(KeepsOthers.setCell _ _ _).from _, ⟨i0.set _, HN⟩, iB.setCell (p := ⟨w.heap.size, 0, none⟩) (Nat.le_refl _) _⟩
    case done =>
      rintro D ys W hD hys ⟨⟨i0, ip⟩, iB⟩ hK
      have hc : Ds.classB (Ds.bl s) = true := by
        unfold Ds.classB
        rw [← hys, List.all_map, List.all_eq_true]
        exact ip.out
      have HC := hid hc
      have c0 := i0.cell
      have f0 := i0.frozen
      clear hc
      gi_wp2
      have hK' := (KeepsOthers.setCell W ⟨w.heap.size, 0, none⟩ (.int .i64 0)).same D _ hK rfl
      refine ⟨by simp, .inl ⟨_, _, rfl, run_takeDeferred hK', ?_⟩⟩
      have hc5 := Go.cell_kept (World.cell?_setCell_same' W ⟨w.heap.size, 0, none⟩ (.int .i64 0) (by rw [c0]; rfl)) (grownBy_putObj' _ D (.deferred none)) (fun r e => by cases e; exact ⟨_, hK', rfl⟩)
      refine ⟨.int .i64 0, ?_, by rw [HER.out, if_pos HC.out], (iB.setCell (p := ⟨w.heap.size, 0, none⟩) (Nat.le_refl _) _).trans (belowK_b (w := w) (Nat.le_refl _) _ D _ _ (by omega) hK' rfl rfl)⟩
      simp [results, Tryd.f27, go_sem, hc5]
    case stop =>
      rintro D pre W hD hpre ⟨⟨i0, ip⟩, iB⟩ hK
      have hc : Ds.classB (Ds.bl s) = false := by
        obtain ⟨x, hx, hp⟩ := ip.out
        unfold Ds.classB
        rw [List.all_eq_false]
        exact ⟨bx x, hpre.subset (List.mem_map_of_mem hx), by simp [hp]⟩
      have HC := hid hc
      clear hc
      gi_wp2
      refine ⟨by simp, .inl ⟨_, _, rfl, run_takeDeferred hK, ?_⟩⟩
      have hc5 := Go.cell_kept i0.cell (grownBy_putObj' _ D (.deferred none)) (fun r e => by cases e; exact ⟨_, hK, rfl⟩)
      refine ⟨.int .i64 21, ?_, by rw [HER.out, if_neg (by rw [HC.out]; simp)], iB.trans (belowK_b (w := w) (Nat.le_refl _) _ D _ _ (by omega) hK rfl rfl)⟩
      simp [results, Tryd.f27, go_sem, hc5]
end Go.Proofs.YthhjenmgcbmphaaDoor

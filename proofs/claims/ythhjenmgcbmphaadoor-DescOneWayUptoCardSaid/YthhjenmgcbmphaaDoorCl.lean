/- Contracts of Class, both sides. -/
import Derived.Test.YthhjenmgcbmphaaDoorRf
import Derived.Test.YthhjenmgcbmphaaDoorIa
namespace Go.Proofs.YthhjenmgcbmphaaDoor
open Go.RowKit

/-- What a text is as a class's name. -/
def clOut (l : List UInt8) : Ds.Ty × Int := if arrB l = true then fdOut l else if nameE l = 0 then ((4, l), 0) else ((0, []), nameE l)
set_option maxRecDepth 100000 in
set_option maxHeartbeats 1000000 in
theorem class_any (s : ByteArray) (w : World) : Calls Tryd.prog 11 #[.string s] w fun e w' => e = .returned (.tuple #[tyV (clOut (Ds.bl s)).1.1 (clOut (Ds.bl s)).1.2, .int .i64 (clOut (Ds.bl s)).2]) ∧ Below w.heap.size w w' := by
  have HI := hid (fun W => isArray_any s W)
  unfold clOut
  cases ha : arrB (Ds.bl s) with
  | true =>
    rw [if_pos rfl]
    rw [ha] at HI
    have HF0 := fun W => field_any s W
    unfold tyV at HF0
    obtain ⟨⟨⟨fa, fb⟩, fe⟩, hf⟩ : ∃ x, x = fdOut (Ds.bl s) := ⟨_, rfl⟩
    rw [← hf] at HF0 ⊢
    dsimp only at HF0 ⊢
    have HF := hid HF0
    clear hf HF0 ha
    unfold tyV
    go_enter Tryd.func11, Tryd.ntmps11
    go_wp2_with (first
      | (go_at_call 26; refine (HI.out _).mono ?_; rintro e wi ⟨rfl, rfl⟩)
      | (go_at_call 7; refine (HF.out _).mono ?_; rintro e w1 ⟨rfl, hb1⟩; obtain ⟨hcc, hff⟩ := bcell hb1; have hz1 := hb1.size; simp only [World.size_alloc] at hz1; have hz2 : w.heap.size < w1.heap.size := (by omega)))
    have hA := belows (B := w.heap.size) (a := w) (by repeat' first | with_reducible exact Below.refl _ _ | with_reducible assumption | with_reducible refine belows_drewN ?_ _ | with_reducible refine Below.drew ?_ | with_reducible refine Below.setCell ?_ ?_ _ | with_reducible refine Below.alloc ?_ ?_ _ | omega | (simp; done) | (simp; omega)) hb1 (by simp)
    exact bodyPost_ret (v := .tuple #[.agg #[.int .i64 fa, .string ⟨fb.toArray⟩], .int .i64 fe]) (by simp [results, Tryd.results11, go_sem, hcc]) rfl ⟨rfl, (by repeat' first | with_reducible exact Below.refl _ _ | with_reducible assumption | with_reducible refine belows_drewN ?_ _ | with_reducible refine Below.drew ?_ | with_reducible refine Below.setCell ?_ ?_ _ | with_reducible refine Below.alloc ?_ ?_ _ | omega | (simp; done) | (simp; omega))⟩
  | false =>
    rw [if_neg (by simp)]
    rw [ha] at HI
    have HN0 := fun W => className_any s W
    obtain ⟨er, he⟩ : ∃ er, er = nameE (Ds.bl s) := ⟨_, rfl⟩
    rw [← he] at HN0 ⊢
    have HN := hid HN0
    have hss : (⟨(Ds.bl s).toArray⟩ : ByteArray) = s := ba_ext rfl
    clear he HN0 ha
    by_cases h0 : er = 0
    · subst h0
      rw [if_pos rfl]
      unfold tyV
      dsimp only
      rw [hss]
      clear hss
      go_enter Tryd.func11, Tryd.ntmps11
      go_wp2_with (first
        | (go_at_call 26; refine (HI.out _).mono ?_; rintro e wi ⟨rfl, rfl⟩)
        | (go_at_call 27; refine (HN.out _).mono ?_; rintro e w1 ⟨rfl, hb1⟩; obtain ⟨hcc, hff⟩ := bcell hb1; have hz1 := hb1.size; simp only [World.size_alloc] at hz1; have hz2 : w.heap.size < w1.heap.size := (by omega))
        | (go_at_call 28; refine (reference_any _ _).mono ?_; rintro e w2 ⟨rfl, hb2⟩; have hz3 := hb2.size; have hy0 := (hb2.cell (p := ⟨w.heap.size, 0, none⟩) hz2); have hy1 := (hb2.cell (p := ⟨w.heap.size, 1, none⟩) hz2); have hg0 := (hb2.frozen (p := ⟨w.heap.size, 0, none⟩) hz2); have hg1 := (hb2.frozen (p := ⟨w.heap.size, 1, none⟩) hz2)))
      have hA := belows (B := w.heap.size) (a := w) (by repeat' first | with_reducible exact Below.refl _ _ | with_reducible assumption | with_reducible refine belows_drewN ?_ _ | with_reducible refine Below.drew ?_ | with_reducible refine Below.setCell ?_ ?_ _ | with_reducible refine Below.alloc ?_ ?_ _ | omega | (simp; done) | (simp; omega)) hb1 (by simp)
      have hB := belows hA hb2 hA.size
      exact bodyPost_ret (v := .tuple #[.agg #[.int .i64 4, .string s], .int .i64 0]) (by simp [results, Tryd.results11, go_sem, hcc, hy0, hy1]) rfl ⟨rfl, (by repeat' first | with_reducible exact Below.refl _ _ | with_reducible assumption | with_reducible refine belows_drewN ?_ _ | with_reducible refine Below.drew ?_ | with_reducible refine Below.setCell ?_ ?_ _ | with_reducible refine Below.alloc ?_ ?_ _ | omega | (simp; done) | (simp; omega))⟩
    · rw [if_neg h0]
      have hne : (er != 0) = true := by simpa using h0
      unfold tyV
      clear hss h0
      go_enter Tryd.func11, Tryd.ntmps11
      go_wp2_with (first
        | (go_at_call 26; refine (HI.out _).mono ?_; rintro e wi ⟨rfl, rfl⟩)
        | (go_at_call 27; refine (HN.out _).mono ?_; rintro e w1 ⟨rfl, hb1⟩; obtain ⟨hcc, hff⟩ := bcell hb1; have hz1 := hb1.size; simp only [World.size_alloc] at hz1; have hz2 : w.heap.size < w1.heap.size := (by omega)))
      have hA := belows (B := w.heap.size) (a := w) (by repeat' first | with_reducible exact Below.refl _ _ | with_reducible assumption | with_reducible refine belows_drewN ?_ _ | with_reducible refine Below.drew ?_ | with_reducible refine Below.setCell ?_ ?_ _ | with_reducible refine Below.alloc ?_ ?_ _ | omega | (simp; done) | (simp; omega)) hb1 (by simp)
      exact bodyPost_ret (v := .tuple #[.agg #[.int .i64 0, .string ⟨#[]⟩], .int .i64 er]) (by simp [results, Tryd.results11, go_sem, hcc]) rfl ⟨rfl, (by repeat' first | with_reducible exact Below.refl _ _ | with_reducible assumption | with_reducible refine belows_drewN ?_ _ | with_reducible refine Below.drew ?_ | with_reducible refine Below.setCell ?_ ?_ _ | with_reducible refine Below.alloc ?_ ?_ _ | omega | (simp; done) | (simp; omega))⟩
end Go.Proofs.YthhjenmgcbmphaaDoor

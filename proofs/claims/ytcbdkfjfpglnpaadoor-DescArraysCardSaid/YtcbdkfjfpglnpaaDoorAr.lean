/- Contracts of Array and Elem. -/
import Derived.Test.YtcbdkfjfpglnpaaDoorPr
namespace Go.Proofs.YtcbdkfjfpglnpaaDoor
open Go.RowKit

/-- What Array, Elem answer. -/
def arOut (y : Ds.Ty) : Ds.Ty × Int := if (prOut y).2 = 0 then (if (prOut y).1.length = 255 then ((0, []), 3) else ((4, 91 :: (prOut y).1), 0)) else ((0, []), (prOut y).2)
def elOut (y : Ds.Ty) : Ds.Ty × Int := if (prOut y).2 = 0 then (if arrB (prOut y).1 = true then fdOut ((prOut y).1.drop 1) else ((0, []), 20)) else ((0, []), (prOut y).2)
theorem fdOut_len {l : List UInt8} {y : Ds.Ty} (h : fdOut l = (y, 0)) : l.length ≤ 255 := by
  unfold fdOut at h
  split at h
  · simp at h
  · omega
theorem prOut_len (y : Ds.Ty) : (prOut y).1.length ≤ 255 := by
  unfold prOut
  split
  · rename_i h; exact fdOut_len h
  · simp
set_option maxRecDepth 100000 in
set_option maxHeartbeats 1000000 in
theorem array_any (k : Int) (m : ByteArray) (w : World) (hk : (Lit.int .i64 k).wf = true) (hs : m.size ≤ 140737488351232) :
    Calls Tryd.prog 28 #[.agg #[.int .i64 k, .string m]] w fun e w' => e = .returned (.tuple #[tyV (arOut (k, Ds.bl m)).1.1 (arOut (k, Ds.bl m)).1.2, .int .i64 (arOut (k, Ds.bl m)).2]) ∧ Below w.heap.size w w' := by
  have HP0 := fun W => print_any k m W hk hs
  unfold arOut
  have hpl := prOut_len (k, Ds.bl m)
  obtain ⟨⟨p, er⟩, hp⟩ : ∃ x, x = prOut (k, Ds.bl m) := ⟨_, rfl⟩
  rw [← hp] at HP0 hpl ⊢
  dsimp only at HP0 hpl ⊢
  obtain ⟨d, hd⟩ : ∃ d : ByteArray, d = ⟨p.toArray⟩ := ⟨_, rfl⟩
  have hbd : Ds.bl d = p := by rw [hd]
  subst hbd
  have hdd : (⟨(Ds.bl d).toArray⟩ : ByteArray) = d := ba_ext rfl
  rw [hdd] at HP0
  have HP := hid HP0
  rw [bl_len] at hpl ⊢
  clear HP0 hp hd hdd hk hs
  by_cases h0 : er = 0
  · subst h0
    rw [if_pos rfl]
    by_cases h1 : d.size = 255
    · rw [if_pos h1]
      have hl : ((d.size : Int) == 255) = true := by rw [beq_iff_eq]; omega
      unfold tyV
      clear h1
      go_enter Tryd.func28, Tryd.ntmps28
      go_wp2_with (first
        | (go_at_call 22; refine (HP.out _).mono ?_; rintro e w1 ⟨rfl, hb1⟩; obtain ⟨hcc, hff⟩ := bcell hb1; have hz1 := hb1.size; simp only [World.size_alloc] at hz1; have hz2 : w.heap.size + 1 < w1.heap.size := (by omega)))
      have hA := belows (B := w.heap.size) (a := w) (by repeat' first | with_reducible exact Below.refl _ _ | with_reducible assumption | with_reducible refine belows_drewN ?_ _ | with_reducible refine Below.drew ?_ | with_reducible refine Below.setCell ?_ ?_ _ | with_reducible refine Below.alloc ?_ ?_ _ | omega | (simp; done) | (simp; omega)) hb1 (by simp only [World.size_alloc]; omega)
      exact bodyPost_ret (v := .tuple #[.agg #[.int .i64 0, .string ⟨#[]⟩], .int .i64 3]) (by simp [results, Tryd.results28, go_sem, hcc]) rfl ⟨rfl, (by repeat' first | with_reducible exact Below.refl _ _ | with_reducible assumption | with_reducible refine belows_drewN ?_ _ | with_reducible refine Below.drew ?_ | with_reducible refine Below.setCell ?_ ?_ _ | with_reducible refine Below.alloc ?_ ?_ _ | omega | (simp; done) | (simp; omega))⟩
    · rw [if_neg h1]
      have hl : ((d.size : Int) == 255) = false := by rw [beq_eq_false_iff_ne]; omega
      unfold tyV
      clear h1
      go_enter Tryd.func28, Tryd.ntmps28
      go_wp2_with (first
        | (go_at_call 22; refine (HP.out _).mono ?_; rintro e w1 ⟨rfl, hb1⟩; obtain ⟨hcc, hff⟩ := bcell hb1; have hz1 := hb1.size; simp only [World.size_alloc] at hz1; have hz2 : w.heap.size + 1 < w1.heap.size := (by omega))
        | (go_at_call 42; refine (reference_any _ _).mono ?_; rintro e w2 ⟨rfl, hb2⟩; have hz3 := hb2.size; have hy0 := (hb2.cell (p := ⟨w.heap.size + 1, 0, none⟩) hz2); have hy1 := (hb2.cell (p := ⟨w.heap.size + 1, 1, none⟩) hz2); have hg0 := (hb2.frozen (p := ⟨w.heap.size + 1, 0, none⟩) hz2); have hg1 := (hb2.frozen (p := ⟨w.heap.size + 1, 1, none⟩) hz2); have hz4 : w.heap.size + 1 < w2.heap.size := (by omega)))
      have hA := belows (B := w.heap.size) (a := w) (by repeat' first | with_reducible exact Below.refl _ _ | with_reducible assumption | with_reducible refine belows_drewN ?_ _ | with_reducible refine Below.drew ?_ | with_reducible refine Below.setCell ?_ ?_ _ | with_reducible refine Below.alloc ?_ ?_ _ | omega | (simp; done) | (simp; omega)) hb1 (by simp only [World.size_alloc]; omega)
      have hB := belows hA hb2 hA.size
      have hbr : (⟨#[91]⟩ : ByteArray) ++ d = ⟨(91 :: Ds.bl d).toArray⟩ := ba_ext (by simp [Ds.bl])
      rw [← hbr]
      exact bodyPost_ret (v := .tuple #[.agg #[.int .i64 4, .string (⟨#[91]⟩ ++ d)], .int .i64 0]) (by simp [results, Tryd.results28, go_sem, hcc, hy0, hy1]) rfl ⟨rfl, (by repeat' first | with_reducible exact Below.refl _ _ | with_reducible assumption | with_reducible refine belows_drewN ?_ _ | with_reducible refine Below.drew ?_ | with_reducible refine Below.setCell ?_ ?_ _ | with_reducible refine Below.alloc ?_ ?_ _ | omega | (simp; done) | (simp; omega))⟩
  · rw [if_neg h0]
    have hne : (er != 0) = true := by simpa using h0
    unfold tyV
    clear h0
    go_enter Tryd.func28, Tryd.ntmps28
    go_wp2_with (first
        | (go_at_call 22; refine (HP.out _).mono ?_; rintro e w1 ⟨rfl, hb1⟩; obtain ⟨hcc, hff⟩ := bcell hb1; have hz1 := hb1.size; simp only [World.size_alloc] at hz1; have hz2 : w.heap.size + 1 < w1.heap.size := (by omega)))
    have hA := belows (B := w.heap.size) (a := w) (by repeat' first | with_reducible exact Below.refl _ _ | with_reducible assumption | with_reducible refine belows_drewN ?_ _ | with_reducible refine Below.drew ?_ | with_reducible refine Below.setCell ?_ ?_ _ | with_reducible refine Below.alloc ?_ ?_ _ | omega | (simp; done) | (simp; omega)) hb1 (by simp only [World.size_alloc]; omega)
    exact bodyPost_ret (v := .tuple #[.agg #[.int .i64 0, .string ⟨#[]⟩], .int .i64 er]) (by simp [results, Tryd.results28, go_sem, hcc]) rfl ⟨rfl, (by repeat' first | with_reducible exact Below.refl _ _ | with_reducible assumption | with_reducible refine belows_drewN ?_ _ | with_reducible refine Below.drew ?_ | with_reducible refine Below.setCell ?_ ?_ _ | with_reducible refine Below.alloc ?_ ?_ _ | omega | (simp; done) | (simp; omega))⟩
set_option maxRecDepth 100000 in
set_option maxHeartbeats 1000000 in
theorem elem_any (k : Int) (m : ByteArray) (w : World) (hk : (Lit.int .i64 k).wf = true) (hs : m.size ≤ 140737488351232) :
    Calls Tryd.prog 30 #[.agg #[.int .i64 k, .string m]] w fun e w' => e = .returned (.tuple #[tyV (elOut (k, Ds.bl m)).1.1 (elOut (k, Ds.bl m)).1.2, .int .i64 (elOut (k, Ds.bl m)).2]) ∧ Below w.heap.size w w' := by
  have HP0 := fun W => print_any k m W hk hs
  unfold elOut
  have hpl := prOut_len (k, Ds.bl m)
  obtain ⟨⟨p, er⟩, hp⟩ : ∃ x, x = prOut (k, Ds.bl m) := ⟨_, rfl⟩
  rw [← hp] at HP0 hpl ⊢
  dsimp only at HP0 hpl ⊢
  obtain ⟨d, hd⟩ : ∃ d : ByteArray, d = ⟨p.toArray⟩ := ⟨_, rfl⟩
  have hbd : Ds.bl d = p := by rw [hd]
  subst hbd
  have hdd : (⟨(Ds.bl d).toArray⟩ : ByteArray) = d := ba_ext rfl
  rw [hdd] at HP0
  have HP := hid HP0
  rw [bl_len] at hpl
  clear HP0 hp hd hdd hk hs
  by_cases h0 : er = 0
  · subst h0
    rw [if_pos rfl]
    have HI := hid (fun W => isArray_any d W)
    cases ha : arrB (Ds.bl d) with
    | false =>
      rw [if_neg (by simp)]
      rw [ha] at HI
      unfold tyV
      clear ha
      go_enter Tryd.func30, Tryd.ntmps30
      go_wp2_with (first
        | (go_at_call 22; refine (HP.out _).mono ?_; rintro e w1 ⟨rfl, hb1⟩; obtain ⟨hcc, hff⟩ := bcell hb1; have hz1 := hb1.size; simp only [World.size_alloc] at hz1; have hz2 : w.heap.size + 1 < w1.heap.size := (by omega))
        | (go_at_call 41; refine (HI.out _).mono ?_; rintro e wi ⟨rfl, rfl⟩))
      have hA := belows (B := w.heap.size) (a := w) (by repeat' first | with_reducible exact Below.refl _ _ | with_reducible assumption | with_reducible refine belows_drewN ?_ _ | with_reducible refine Below.drew ?_ | with_reducible refine Below.setCell ?_ ?_ _ | with_reducible refine Below.alloc ?_ ?_ _ | omega | (simp; done) | (simp; omega)) hb1 (by simp only [World.size_alloc]; omega)
      exact bodyPost_ret (v := .tuple #[.agg #[.int .i64 0, .string ⟨#[]⟩], .int .i64 20]) (by simp [results, Tryd.results30, go_sem, hcc]) rfl ⟨rfl, (by repeat' first | with_reducible exact Below.refl _ _ | with_reducible assumption | with_reducible refine belows_drewN ?_ _ | with_reducible refine Below.drew ?_ | with_reducible refine Below.setCell ?_ ?_ _ | with_reducible refine Below.alloc ?_ ?_ _ | omega | (simp; done) | (simp; omega))⟩
    | true =>
      rw [if_pos rfl]
      rw [ha] at HI
      have hpos : 1 ≤ d.size := by
        rw [← bl_len]
        cases hb : Ds.bl d with
        | nil => rw [hb] at ha; exact absurd ha (by decide)
        | cons c l => simp
      have HF0 := fun W => field_any (d.extract 1 d.size) W
      rw [ext_drop] at HF0
      unfold tyV at HF0
      obtain ⟨⟨⟨fa, fb⟩, fe⟩, hf⟩ : ∃ x, x = fdOut ((Ds.bl d).drop 1) := ⟨_, rfl⟩
      rw [← hf] at HF0 ⊢
      dsimp only at HF0 ⊢
      have HF := hid HF0
      have hpi : (1 : Int) ≤ d.size := by omega
      clear ha hf HF0
      unfold tyV
      go_enter Tryd.func30, Tryd.ntmps30
      go_wp2_with (first
        | (go_at_call 22; refine (HP.out _).mono ?_; rintro e w1 ⟨rfl, hb1⟩; obtain ⟨hcc, hff⟩ := bcell hb1; have hz1 := hb1.size; simp only [World.size_alloc] at hz1; have hz2 : w.heap.size + 1 < w1.heap.size := (by omega))
        | (go_at_call 41; refine (HI.out _).mono ?_; rintro e wi ⟨rfl, rfl⟩)
        | (go_at_call 15; refine (HF.out _).mono ?_; rintro e w2 ⟨rfl, hb2⟩; have hz3 := hb2.size; have hy0 := (hb2.cell (p := ⟨w.heap.size + 1, 0, none⟩) hz2); have hy1 := (hb2.cell (p := ⟨w.heap.size + 1, 1, none⟩) hz2); have hg0 := (hb2.frozen (p := ⟨w.heap.size + 1, 0, none⟩) hz2); have hg1 := (hb2.frozen (p := ⟨w.heap.size + 1, 1, none⟩) hz2); have hz4 : w.heap.size + 1 < w2.heap.size := (by omega)))
      have hA := belows (B := w.heap.size) (a := w) (by repeat' first | with_reducible exact Below.refl _ _ | with_reducible assumption | with_reducible refine belows_drewN ?_ _ | with_reducible refine Below.drew ?_ | with_reducible refine Below.setCell ?_ ?_ _ | with_reducible refine Below.alloc ?_ ?_ _ | omega | (simp; done) | (simp; omega)) hb1 (by simp only [World.size_alloc]; omega)
      have hB := belows hA hb2 hA.size
      exact bodyPost_ret (v := .tuple #[.agg #[.int .i64 fa, .string ⟨fb.toArray⟩], .int .i64 fe]) (by simp [results, Tryd.results30, go_sem, hcc, hy0, hy1]) rfl ⟨rfl, (by repeat' first | with_reducible exact Below.refl _ _ | with_reducible assumption | with_reducible refine belows_drewN ?_ _ | with_reducible refine Below.drew ?_ | with_reducible refine Below.setCell ?_ ?_ _ | with_reducible refine Below.alloc ?_ ?_ _ | omega | (simp; done) | (simp; omega))⟩
  · rw [if_neg h0]
    have hne : (er != 0) = true := by simpa using h0
    unfold tyV
    clear h0
    go_enter Tryd.func30, Tryd.ntmps30
    go_wp2_with (first
        | (go_at_call 22; refine (HP.out _).mono ?_; rintro e w1 ⟨rfl, hb1⟩; obtain ⟨hcc, hff⟩ := bcell hb1; have hz1 := hb1.size; simp only [World.size_alloc] at hz1; have hz2 : w.heap.size + 1 < w1.heap.size := (by omega)))
    have hA := belows (B := w.heap.size) (a := w) (by repeat' first | with_reducible exact Below.refl _ _ | with_reducible assumption | with_reducible refine belows_drewN ?_ _ | with_reducible refine Below.drew ?_ | with_reducible refine Below.setCell ?_ ?_ _ | with_reducible refine Below.alloc ?_ ?_ _ | omega | (simp; done) | (simp; omega)) hb1 (by simp only [World.size_alloc]; omega)
    exact bodyPost_ret (v := .tuple #[.agg #[.int .i64 0, .string ⟨#[]⟩], .int .i64 er]) (by simp [results, Tryd.results30, go_sem, hcc]) rfl ⟨rfl, (by repeat' first | with_reducible exact Below.refl _ _ | with_reducible assumption | with_reducible refine belows_drewN ?_ _ | with_reducible refine Below.drew ?_ | with_reducible refine Below.setCell ?_ ?_ _ | with_reducible refine Below.alloc ?_ ?_ _ | omega | (simp; done) | (simp; omega))⟩
end Go.Proofs.YtcbdkfjfpglnpaaDoor

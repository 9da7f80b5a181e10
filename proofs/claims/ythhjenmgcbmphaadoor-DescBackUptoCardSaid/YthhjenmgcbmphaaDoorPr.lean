/- Contract of Print. -/
import Derived.Test.YthhjenmgcbmphaaDoorDr
namespace Go.Proofs.YthhjenmgcbmphaaDoor
open Go.RowKit

/-- What Print answers. -/
def prOut (y : Ds.Ty) : List UInt8 × Int := if fdOut (draftOf y) = (y, 0) then (draftOf y, 0) else ([], 20)
set_option maxRecDepth 100000 in
set_option maxHeartbeats 1000000 in
theorem print_any (k : Int) (m : ByteArray) (w : World) (hk : (Lit.int .i64 k).wf = true) (hs : m.size ≤ 140737488351232) :
    Calls Tryd.prog 15 #[.agg #[.int .i64 k, .string m]] w fun e w' => e = .returned (.tuple #[.string ⟨(prOut (k, Ds.bl m)).1.toArray⟩, .int .i64 (prOut (k, Ds.bl m)).2]) ∧ Below w.heap.size w w' := by
  have HD := hid (fun W => draft_any k m W hk hs)
  obtain ⟨d, hd⟩ : ∃ d : ByteArray, d = ⟨(draftOf (k, Ds.bl m)).toArray⟩ := ⟨_, rfl⟩
  have hbd : Ds.bl d = draftOf (k, Ds.bl m) := by rw [hd]
  rw [← hd] at HD
  have HF0 := fun W => field_any d W
  rw [hbd] at HF0
  unfold tyV at HF0
  obtain ⟨⟨⟨a, b⟩, er⟩, hf⟩ : ∃ x, x = fdOut (draftOf (k, Ds.bl m)) := ⟨_, rfl⟩
  rw [← hf] at HF0
  dsimp only at HF0
  have HF := hid HF0
  clear HF0
  have hp : prOut (k, Ds.bl m) = if ((a, b), er) = ((k, Ds.bl m), (0 : Int)) then (Ds.bl d, 0) else ([], 20) := by unfold prOut; rw [← hf, hbd]
  clear hf hbd hd hk hs
  by_cases h0 : er = 0
  · subst h0
    by_cases h1 : a = k
    · subst h1
      by_cases h2 : b = Ds.bl m
      · subst h2
        rw [if_pos rfl] at hp
        have HP := hid hp
        clear hp
        have hmm : (⟨(Ds.bl m).toArray⟩ : ByteArray) = m := ba_ext rfl
        rw [hmm] at HF
        go_enter Tryd.func15, Tryd.ntmps15
        go_wp2_with (first
          | (go_at_call 30; refine (HD.out _).mono ?_; rintro e w1 ⟨rfl, hb1⟩; obtain ⟨hcc, hff⟩ := bcell hb1; have hz1 := hb1.size; simp only [World.size_alloc] at hz1; have hz2 : w.heap.size < w1.heap.size := (by omega))
          | (go_at_call 7; refine (HF.out _).mono ?_; rintro e w2 ⟨rfl, hb2⟩; have hz3 := hb2.size; have hy0 := (hb2.cell (p := ⟨w.heap.size, 0, none⟩) hz2); have hy1 := (hb2.cell (p := ⟨w.heap.size, 1, none⟩) hz2); have hz4 : w.heap.size < w2.heap.size := (by omega)))
        have hA := belows (B := w.heap.size) (a := w) (by repeat' first | with_reducible exact Below.refl _ _ | with_reducible assumption | with_reducible refine belows_drewN ?_ _ | with_reducible refine Below.drew ?_ | with_reducible refine Below.setCell ?_ ?_ _ | with_reducible refine Below.alloc ?_ ?_ _ | omega | (simp; done) | (simp; omega)) hb1 (by simp)
        have hB := belows hA hb2 hA.size
        have hdd : (⟨(Ds.bl d).toArray⟩ : ByteArray) = d := ba_ext rfl
        go_ret2
        refine ⟨?_, (by repeat' first | with_reducible exact Below.refl _ _ | with_reducible assumption | with_reducible refine belows_drewN ?_ _ | with_reducible refine Below.drew ?_ | with_reducible refine Below.setCell ?_ ?_ _ | with_reducible refine Below.alloc ?_ ?_ _ | omega | (simp; done) | (simp; omega))⟩
        rw [HP.out]
        dsimp only
        rw [hdd]
        rfl
      · have hne : ¬ b = m.toList := by rw [ByteArray.toList_eq]; exact h2
        rw [if_neg (by intro e; simp only [Prod.mk.injEq] at e; exact h2 e.1.2)] at hp
        have HP := hid hp
        clear hp
        clear h2
        go_enter Tryd.func15, Tryd.ntmps15
        go_wp2_with (first
          | (go_at_call 30; refine (HD.out _).mono ?_; rintro e w1 ⟨rfl, hb1⟩; obtain ⟨hcc, hff⟩ := bcell hb1; have hz1 := hb1.size; simp only [World.size_alloc] at hz1; have hz2 : w.heap.size < w1.heap.size := (by omega))
          | (go_at_call 7; refine (HF.out _).mono ?_; rintro e w2 ⟨rfl, hb2⟩; have hz3 := hb2.size; have hy0 := (hb2.cell (p := ⟨w.heap.size, 0, none⟩) hz2); have hy1 := (hb2.cell (p := ⟨w.heap.size, 1, none⟩) hz2); have hz4 : w.heap.size < w2.heap.size := (by omega)))
        have hA := belows (B := w.heap.size) (a := w) (by repeat' first | with_reducible exact Below.refl _ _ | with_reducible assumption | with_reducible refine belows_drewN ?_ _ | with_reducible refine Below.drew ?_ | with_reducible refine Below.setCell ?_ ?_ _ | with_reducible refine Below.alloc ?_ ?_ _ | omega | (simp; done) | (simp; omega)) hb1 (by simp)
        have hB := belows hA hb2 hA.size
        go_ret2
        exact ⟨by rw [HP.out]; rfl, (by repeat' first | with_reducible exact Below.refl _ _ | with_reducible assumption | with_reducible refine belows_drewN ?_ _ | with_reducible refine Below.drew ?_ | with_reducible refine Below.setCell ?_ ?_ _ | with_reducible refine Below.alloc ?_ ?_ _ | omega | (simp; done) | (simp; omega))⟩
    · have hne : (a == k) = false := by simpa using h1
      have hne2 : (a != k) = true := by rw [bne, hne]; rfl
      rw [if_neg (by intro e; simp only [Prod.mk.injEq] at e; exact h1 e.1.1)] at hp
      have HP := hid hp
      clear hp
      clear h1
      go_enter Tryd.func15, Tryd.ntmps15
      go_wp2_with (first
        | (go_at_call 30; refine (HD.out _).mono ?_; rintro e w1 ⟨rfl, hb1⟩; obtain ⟨hcc, hff⟩ := bcell hb1; have hz1 := hb1.size; simp only [World.size_alloc] at hz1; have hz2 : w.heap.size < w1.heap.size := (by omega))
        | (go_at_call 7; refine (HF.out _).mono ?_; rintro e w2 ⟨rfl, hb2⟩; have hz3 := hb2.size; have hy0 := (hb2.cell (p := ⟨w.heap.size, 0, none⟩) hz2); have hy1 := (hb2.cell (p := ⟨w.heap.size, 1, none⟩) hz2); have hz4 : w.heap.size < w2.heap.size := (by omega)))
      have hA := belows (B := w.heap.size) (a := w) (by repeat' first | with_reducible exact Below.refl _ _ | with_reducible assumption | with_reducible refine belows_drewN ?_ _ | with_reducible refine Below.drew ?_ | with_reducible refine Below.setCell ?_ ?_ _ | with_reducible refine Below.alloc ?_ ?_ _ | omega | (simp; done) | (simp; omega)) hb1 (by simp)
      have hB := belows hA hb2 hA.size
      go_ret2
      exact ⟨by rw [HP.out]; rfl, (by repeat' first | with_reducible exact Below.refl _ _ | with_reducible assumption | with_reducible refine belows_drewN ?_ _ | with_reducible refine Below.drew ?_ | with_reducible refine Below.setCell ?_ ?_ _ | with_reducible refine Below.alloc ?_ ?_ _ | omega | (simp; done) | (simp; omega))⟩
  · have hne : (er != 0) = true := by simpa using h0
    rw [if_neg (by intro e; simp only [Prod.mk.injEq] at e; exact h0 e.2)] at hp
    have HP := hid hp
    clear hp
    clear h0
    go_enter Tryd.func15, Tryd.ntmps15
    go_wp2_with (first
      | (go_at_call 30; refine (HD.out _).mono ?_; rintro e w1 ⟨rfl, hb1⟩; obtain ⟨hcc, hff⟩ := bcell hb1; have hz1 := hb1.size; simp only [World.size_alloc] at hz1; have hz2 : w.heap.size < w1.heap.size := (by omega))
      | (go_at_call 7; refine (HF.out _).mono ?_; rintro e w2 ⟨rfl, hb2⟩; have hz3 := hb2.size; have hy0 := (hb2.cell (p := ⟨w.heap.size, 0, none⟩) hz2); have hy1 := (hb2.cell (p := ⟨w.heap.size, 1, none⟩) hz2); have hz4 : w.heap.size < w2.heap.size := (by omega)))
    have hA := belows (B := w.heap.size) (a := w) (by repeat' first | with_reducible exact Below.refl _ _ | with_reducible assumption | with_reducible refine belows_drewN ?_ _ | with_reducible refine Below.drew ?_ | with_reducible refine Below.setCell ?_ ?_ _ | with_reducible refine Below.alloc ?_ ?_ _ | omega | (simp; done) | (simp; omega)) hb1 (by simp)
    have hB := belows hA hb2 hA.size
    go_ret2
    exact ⟨by rw [HP.out]; rfl, (by repeat' first | with_reducible exact Below.refl _ _ | with_reducible assumption | with_reducible refine belows_drewN ?_ _ | with_reducible refine Below.drew ?_ | with_reducible refine Below.setCell ?_ ?_ _ | with_reducible refine Below.alloc ?_ ?_ _ | omega | (simp; done) | (simp; omega))⟩
end Go.Proofs.YthhjenmgcbmphaaDoor

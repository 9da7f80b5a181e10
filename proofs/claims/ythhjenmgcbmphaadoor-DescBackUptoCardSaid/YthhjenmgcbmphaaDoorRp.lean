/- Contract of the document's Print. -/
import Derived.Test.YthhjenmgcbmphaaDoorRf
namespace Go.Proofs.YthhjenmgcbmphaaDoor
open Go.RowKit

def PrPost (k : Int) (m : ByteArray) (w : World) (e : Ending) (w' : World) : Prop := e = .returned (.tuple #[.string ⟨(prOut (k, Ds.bl m)).1.toArray⟩, .int .i64 (prOut (k, Ds.bl m)).2]) ∧ Below w.heap.size w w'
set_option maxRecDepth 100000 in
set_option maxHeartbeats 1000000 in
theorem rprint_int (m : ByteArray) (w : World) : Calls Tryd.prog 16 #[.agg #[.int .i64 (1), .string m]] w (PrPost (1) m w) := by
  unfold PrPost
  have hbd : Ds.bl (⟨#[73]⟩) = draftOf (1, Ds.bl m) := rfl
  have HF0 := fun W => rfield_any (⟨#[73]⟩) W
  unfold FdPost at HF0
  rw [hbd] at HF0
  unfold tyV at HF0
  obtain ⟨⟨⟨a, b⟩, er⟩, hf⟩ : ∃ x, x = fdOut (draftOf (1, Ds.bl m)) := ⟨_, rfl⟩
  rw [← hf] at HF0
  dsimp only at HF0
  have HF := hid HF0
  have hp : prOut (1, Ds.bl m) = if ((a, b), er) = ((1, Ds.bl m), (0 : Int)) then (Ds.bl (⟨#[73]⟩), 0) else ([], 20) := by unfold prOut; rw [← hf, ← hbd]
  clear hf hbd HF0
  by_cases h0 : er = 0
  · subst h0
    by_cases h1 : a = 1
    · subst h1
      by_cases h2 : b = Ds.bl m
      · subst h2
        rw [if_pos rfl] at hp
        have HP := hid hp
        clear hp
        have hmm : (⟨(Ds.bl m).toArray⟩ : ByteArray) = m := ba_ext rfl
        rw [hmm] at HF
        go_enter Tryd.func16, Tryd.ntmps16
        go_wp2_with (go_at_call 8; refine (HF.out _).mono ?_; rintro e w1 ⟨rfl, hb1⟩; obtain ⟨hcc, hff⟩ := bcell hb1; have hz1 := hb1.size; simp only [World.size_alloc] at hz1; have hz2 : w.heap.size < w1.heap.size := (by omega))
        have hA := belows (B := w.heap.size) (a := w) (by repeat' first | with_reducible exact Below.refl _ _ | with_reducible assumption | with_reducible refine belows_drewN ?_ _ | with_reducible refine Below.drew ?_ | with_reducible refine Below.setCell ?_ ?_ _ | with_reducible refine Below.alloc ?_ ?_ _ | omega | (simp; done) | (simp; omega)) hb1 (by simp)
        go_ret2
        refine ⟨?_, (by repeat' first | with_reducible exact Below.refl _ _ | with_reducible assumption | with_reducible refine belows_drewN ?_ _ | with_reducible refine Below.drew ?_ | with_reducible refine Below.setCell ?_ ?_ _ | with_reducible refine Below.alloc ?_ ?_ _ | omega | (simp; done) | (simp; omega))⟩
        rw [HP.out]
        dsimp only
        rw [show (⟨(Ds.bl (⟨#[73]⟩)).toArray⟩ : ByteArray) = ⟨#[73]⟩ from ba_ext rfl]
        rfl
      · have hne : ¬ b = m.toList := by rw [ByteArray.toList_eq]; exact h2
        rw [if_neg (by intro e; simp only [Prod.mk.injEq] at e; exact h2 e.1.2)] at hp
        have HP := hid hp
        clear hp h2
        go_enter Tryd.func16, Tryd.ntmps16
        go_wp2_with (go_at_call 8; refine (HF.out _).mono ?_; rintro e w1 ⟨rfl, hb1⟩; obtain ⟨hcc, hff⟩ := bcell hb1; have hz1 := hb1.size; simp only [World.size_alloc] at hz1; have hz2 : w.heap.size < w1.heap.size := (by omega))
        have hA := belows (B := w.heap.size) (a := w) (by repeat' first | with_reducible exact Below.refl _ _ | with_reducible assumption | with_reducible refine belows_drewN ?_ _ | with_reducible refine Below.drew ?_ | with_reducible refine Below.setCell ?_ ?_ _ | with_reducible refine Below.alloc ?_ ?_ _ | omega | (simp; done) | (simp; omega)) hb1 (by simp)
        go_ret2
        exact ⟨by rw [HP.out]; rfl, (by repeat' first | with_reducible exact Below.refl _ _ | with_reducible assumption | with_reducible refine belows_drewN ?_ _ | with_reducible refine Below.drew ?_ | with_reducible refine Below.setCell ?_ ?_ _ | with_reducible refine Below.alloc ?_ ?_ _ | omega | (simp; done) | (simp; omega))⟩
    · have hne : (a == 1) = false := by simpa using h1
      have hne2 : (a != 1) = true := by rw [bne, hne]; rfl
      rw [if_neg (by intro e; simp only [Prod.mk.injEq] at e; exact h1 e.1.1)] at hp
      have HP := hid hp
      clear hp h1
      go_enter Tryd.func16, Tryd.ntmps16
      go_wp2_with (go_at_call 8; refine (HF.out _).mono ?_; rintro e w1 ⟨rfl, hb1⟩; obtain ⟨hcc, hff⟩ := bcell hb1; have hz1 := hb1.size; simp only [World.size_alloc] at hz1; have hz2 : w.heap.size < w1.heap.size := (by omega))
      have hA := belows (B := w.heap.size) (a := w) (by repeat' first | with_reducible exact Below.refl _ _ | with_reducible assumption | with_reducible refine belows_drewN ?_ _ | with_reducible refine Below.drew ?_ | with_reducible refine Below.setCell ?_ ?_ _ | with_reducible refine Below.alloc ?_ ?_ _ | omega | (simp; done) | (simp; omega)) hb1 (by simp)
      go_ret2
      exact ⟨by rw [HP.out]; rfl, (by repeat' first | with_reducible exact Below.refl _ _ | with_reducible assumption | with_reducible refine belows_drewN ?_ _ | with_reducible refine Below.drew ?_ | with_reducible refine Below.setCell ?_ ?_ _ | with_reducible refine Below.alloc ?_ ?_ _ | omega | (simp; done) | (simp; omega))⟩
  · have hne : (er != 0) = true := by simpa using h0
    rw [if_neg (by intro e; simp only [Prod.mk.injEq] at e; exact h0 e.2)] at hp
    have HP := hid hp
    clear hp h0
    go_enter Tryd.func16, Tryd.ntmps16
    go_wp2_with (go_at_call 8; refine (HF.out _).mono ?_; rintro e w1 ⟨rfl, hb1⟩; obtain ⟨hcc, hff⟩ := bcell hb1; have hz1 := hb1.size; simp only [World.size_alloc] at hz1; have hz2 : w.heap.size < w1.heap.size := (by omega))
    have hA := belows (B := w.heap.size) (a := w) (by repeat' first | with_reducible exact Below.refl _ _ | with_reducible assumption | with_reducible refine belows_drewN ?_ _ | with_reducible refine Below.drew ?_ | with_reducible refine Below.setCell ?_ ?_ _ | with_reducible refine Below.alloc ?_ ?_ _ | omega | (simp; done) | (simp; omega)) hb1 (by simp)
    go_ret2
    exact ⟨by rw [HP.out]; rfl, (by repeat' first | with_reducible exact Below.refl _ _ | with_reducible assumption | with_reducible refine belows_drewN ?_ _ | with_reducible refine Below.drew ?_ | with_reducible refine Below.setCell ?_ ?_ _ | with_reducible refine Below.alloc ?_ ?_ _ | omega | (simp; done) | (simp; omega))⟩
set_option maxRecDepth 100000 in
set_option maxHeartbeats 1000000 in
theorem rprint_long (m : ByteArray) (w : World) : Calls Tryd.prog 16 #[.agg #[.int .i64 (2), .string m]] w (PrPost (2) m w) := by
  unfold PrPost
  have hbd : Ds.bl (⟨#[74]⟩) = draftOf (2, Ds.bl m) := rfl
  have HF0 := fun W => rfield_any (⟨#[74]⟩) W
  unfold FdPost at HF0
  rw [hbd] at HF0
  unfold tyV at HF0
  obtain ⟨⟨⟨a, b⟩, er⟩, hf⟩ : ∃ x, x = fdOut (draftOf (2, Ds.bl m)) := ⟨_, rfl⟩
  rw [← hf] at HF0
  dsimp only at HF0
  have HF := hid HF0
  have hp : prOut (2, Ds.bl m) = if ((a, b), er) = ((2, Ds.bl m), (0 : Int)) then (Ds.bl (⟨#[74]⟩), 0) else ([], 20) := by unfold prOut; rw [← hf, ← hbd]
  clear hf hbd HF0
  by_cases h0 : er = 0
  · subst h0
    by_cases h1 : a = 2
    · subst h1
      by_cases h2 : b = Ds.bl m
      · subst h2
        rw [if_pos rfl] at hp
        have HP := hid hp
        clear hp
        have hmm : (⟨(Ds.bl m).toArray⟩ : ByteArray) = m := ba_ext rfl
        rw [hmm] at HF
        go_enter Tryd.func16, Tryd.ntmps16
        go_wp2_with (go_at_call 8; refine (HF.out _).mono ?_; rintro e w1 ⟨rfl, hb1⟩; obtain ⟨hcc, hff⟩ := bcell hb1; have hz1 := hb1.size; simp only [World.size_alloc] at hz1; have hz2 : w.heap.size < w1.heap.size := (by omega))
        have hA := belows (B := w.heap.size) (a := w) (by repeat' first | with_reducible exact Below.refl _ _ | with_reducible assumption | with_reducible refine belows_drewN ?_ _ | with_reducible refine Below.drew ?_ | with_reducible refine Below.setCell ?_ ?_ _ | with_reducible refine Below.alloc ?_ ?_ _ | omega | (simp; done) | (simp; omega)) hb1 (by simp)
        go_ret2
        refine ⟨?_, (by repeat' first | with_reducible exact Below.refl _ _ | with_reducible assumption | with_reducible refine belows_drewN ?_ _ | with_reducible refine Below.drew ?_ | with_reducible refine Below.setCell ?_ ?_ _ | with_reducible refine Below.alloc ?_ ?_ _ | omega | (simp; done) | (simp; omega))⟩
        rw [HP.out]
        dsimp only
        rw [show (⟨(Ds.bl (⟨#[74]⟩)).toArray⟩ : ByteArray) = ⟨#[74]⟩ from ba_ext rfl]
        rfl
      · have hne : ¬ b = m.toList := by rw [ByteArray.toList_eq]; exact h2
        rw [if_neg (by intro e; simp only [Prod.mk.injEq] at e; exact h2 e.1.2)] at hp
        have HP := hid hp
        clear hp h2
        go_enter Tryd.func16, Tryd.ntmps16
        go_wp2_with (go_at_call 8; refine (HF.out _).mono ?_; rintro e w1 ⟨rfl, hb1⟩; obtain ⟨hcc, hff⟩ := bcell hb1; have hz1 := hb1.size; simp only [World.size_alloc] at hz1; have hz2 : w.heap.size < w1.heap.size := (by omega))
        have hA := belows (B := w.heap.size) (a := w) (by repeat' first | with_reducible exact Below.refl _ _ | with_reducible assumption | with_reducible refine belows_drewN ?_ _ | with_reducible refine Below.drew ?_ | with_reducible refine Below.setCell ?_ ?_ _ | with_reducible refine Below.alloc ?_ ?_ _ | omega | (simp; done) | (simp; omega)) hb1 (by simp)
        go_ret2
        exact ⟨by rw [HP.out]; rfl, (by repeat' first | with_reducible exact Below.refl _ _ | with_reducible assumption | with_reducible refine belows_drewN ?_ _ | with_reducible refine Below.drew ?_ | with_reducible refine Below.setCell ?_ ?_ _ | with_reducible refine Below.alloc ?_ ?_ _ | omega | (simp; done) | (simp; omega))⟩
    · have hne : (a == 2) = false := by simpa using h1
      have hne2 : (a != 2) = true := by rw [bne, hne]; rfl
      rw [if_neg (by intro e; simp only [Prod.mk.injEq] at e; exact h1 e.1.1)] at hp
      have HP := hid hp
      clear hp h1
      go_enter Tryd.func16, Tryd.ntmps16
      go_wp2_with (go_at_call 8; refine (HF.out _).mono ?_; rintro e w1 ⟨rfl, hb1⟩; obtain ⟨hcc, hff⟩ := bcell hb1; have hz1 := hb1.size; simp only [World.size_alloc] at hz1; have hz2 : w.heap.size < w1.heap.size := (by omega))
      have hA := belows (B := w.heap.size) (a := w) (by repeat' first | with_reducible exact Below.refl _ _ | with_reducible assumption | with_reducible refine belows_drewN ?_ _ | with_reducible refine Below.drew ?_ | with_reducible refine Below.setCell ?_ ?_ _ | with_reducible refine Below.alloc ?_ ?_ _ | omega | (simp; done) | (simp; omega)) hb1 (by simp)
      go_ret2
      exact ⟨by rw [HP.out]; rfl, (by repeat' first | with_reducible exact Below.refl _ _ | with_reducible assumption | with_reducible refine belows_drewN ?_ _ | with_reducible refine Below.drew ?_ | with_reducible refine Below.setCell ?_ ?_ _ | with_reducible refine Below.alloc ?_ ?_ _ | omega | (simp; done) | (simp; omega))⟩
  · have hne : (er != 0) = true := by simpa using h0
    rw [if_neg (by intro e; simp only [Prod.mk.injEq] at e; exact h0 e.2)] at hp
    have HP := hid hp
    clear hp h0
    go_enter Tryd.func16, Tryd.ntmps16
    go_wp2_with (go_at_call 8; refine (HF.out _).mono ?_; rintro e w1 ⟨rfl, hb1⟩; obtain ⟨hcc, hff⟩ := bcell hb1; have hz1 := hb1.size; simp only [World.size_alloc] at hz1; have hz2 : w.heap.size < w1.heap.size := (by omega))
    have hA := belows (B := w.heap.size) (a := w) (by repeat' first | with_reducible exact Below.refl _ _ | with_reducible assumption | with_reducible refine belows_drewN ?_ _ | with_reducible refine Below.drew ?_ | with_reducible refine Below.setCell ?_ ?_ _ | with_reducible refine Below.alloc ?_ ?_ _ | omega | (simp; done) | (simp; omega)) hb1 (by simp)
    go_ret2
    exact ⟨by rw [HP.out]; rfl, (by repeat' first | with_reducible exact Below.refl _ _ | with_reducible assumption | with_reducible refine belows_drewN ?_ _ | with_reducible refine Below.drew ?_ | with_reducible refine Below.setCell ?_ ?_ _ | with_reducible refine Below.alloc ?_ ?_ _ | omega | (simp; done) | (simp; omega))⟩
set_option maxRecDepth 100000 in
set_option maxHeartbeats 1000000 in
theorem rprint_other (k : Int) (m : ByteArray) (g1 : k ≠ 1) (g2 : k ≠ 2) (g4 : k ≠ 4) (w : World) : Calls Tryd.prog 16 #[.agg #[.int .i64 (k), .string m]] w (PrPost (k) m w) := by
  unfold PrPost
  have q1 : (k == 1) = false := by simpa using g1
  have q2 : (k == 2) = false := by simpa using g2
  have q4 : (k == 4) = false := by simpa using g4
  have hbd : Ds.bl (⟨#[]⟩) = draftOf (k, Ds.bl m) := by unfold draftOf; rw [if_neg g4, if_neg g1, if_neg g2]
  have HF0 := fun W => rfield_any (⟨#[]⟩) W
  unfold FdPost at HF0
  rw [hbd] at HF0
  unfold tyV at HF0
  obtain ⟨⟨⟨a, b⟩, er⟩, hf⟩ : ∃ x, x = fdOut (draftOf (k, Ds.bl m)) := ⟨_, rfl⟩
  rw [← hf] at HF0
  dsimp only at HF0
  have HF := hid HF0
  have hp : prOut (k, Ds.bl m) = if ((a, b), er) = ((k, Ds.bl m), (0 : Int)) then (Ds.bl (⟨#[]⟩), 0) else ([], 20) := by unfold prOut; rw [← hf, ← hbd]
  clear hf hbd HF0 g1 g2 g4
  by_cases h0 : er = 0
  · subst h0
    by_cases h1 : a = k
    · subst h1
      by_cases h2 : b = Ds.bl m
      · subst h2
        rw [if_pos rfl] at hp
        have HP := hid hp
        clear hp
        have hmm : (⟨(Ds.bl m).toArray⟩ : ByteArray) = m := ba_ext rfl
        rw [hmm] at HF
        go_enter Tryd.func16, Tryd.ntmps16
        go_wp2_with (go_at_call 8; refine (HF.out _).mono ?_; rintro e w1 ⟨rfl, hb1⟩; obtain ⟨hcc, hff⟩ := bcell hb1; have hz1 := hb1.size; simp only [World.size_alloc] at hz1; have hz2 : w.heap.size < w1.heap.size := (by omega))
        have hA := belows (B := w.heap.size) (a := w) (by repeat' first | with_reducible exact Below.refl _ _ | with_reducible assumption | with_reducible refine belows_drewN ?_ _ | with_reducible refine Below.drew ?_ | with_reducible refine Below.setCell ?_ ?_ _ | with_reducible refine Below.alloc ?_ ?_ _ | omega | (simp; done) | (simp; omega)) hb1 (by simp)
        go_ret2
        refine ⟨?_, (by repeat' first | with_reducible exact Below.refl _ _ | with_reducible assumption | with_reducible refine belows_drewN ?_ _ | with_reducible refine Below.drew ?_ | with_reducible refine Below.setCell ?_ ?_ _ | with_reducible refine Below.alloc ?_ ?_ _ | omega | (simp; done) | (simp; omega))⟩
        rw [HP.out]
        dsimp only
        rw [show (⟨(Ds.bl (⟨#[]⟩)).toArray⟩ : ByteArray) = ⟨#[]⟩ from ba_ext rfl]
        rfl
      · have hne : ¬ b = m.toList := by rw [ByteArray.toList_eq]; exact h2
        rw [if_neg (by intro e; simp only [Prod.mk.injEq] at e; exact h2 e.1.2)] at hp
        have HP := hid hp
        clear hp h2
        go_enter Tryd.func16, Tryd.ntmps16
        go_wp2_with (go_at_call 8; refine (HF.out _).mono ?_; rintro e w1 ⟨rfl, hb1⟩; obtain ⟨hcc, hff⟩ := bcell hb1; have hz1 := hb1.size; simp only [World.size_alloc] at hz1; have hz2 : w.heap.size < w1.heap.size := (by omega))
        have hA := belows (B := w.heap.size) (a := w) (by repeat' first | with_reducible exact Below.refl _ _ | with_reducible assumption | with_reducible refine belows_drewN ?_ _ | with_reducible refine Below.drew ?_ | with_reducible refine Below.setCell ?_ ?_ _ | with_reducible refine Below.alloc ?_ ?_ _ | omega | (simp; done) | (simp; omega)) hb1 (by simp)
        go_ret2
        exact ⟨by rw [HP.out]; rfl, (by repeat' first | with_reducible exact Below.refl _ _ | with_reducible assumption | with_reducible refine belows_drewN ?_ _ | with_reducible refine Below.drew ?_ | with_reducible refine Below.setCell ?_ ?_ _ | with_reducible refine Below.alloc ?_ ?_ _ | omega | (simp; done) | (simp; omega))⟩
    · have hne : (a == k) = false := by simpa using h1
      have hne2 : (a != k) = true := by rw [bne, hne]; rfl
      rw [if_neg (by intro e; simp only [Prod.mk.injEq] at e; exact h1 e.1.1)] at hp
      have HP := hid hp
      clear hp h1
      go_enter Tryd.func16, Tryd.ntmps16
      go_wp2_with (go_at_call 8; refine (HF.out _).mono ?_; rintro e w1 ⟨rfl, hb1⟩; obtain ⟨hcc, hff⟩ := bcell hb1; have hz1 := hb1.size; simp only [World.size_alloc] at hz1; have hz2 : w.heap.size < w1.heap.size := (by omega))
      have hA := belows (B := w.heap.size) (a := w) (by repeat' first | with_reducible exact Below.refl _ _ | with_reducible assumption | with_reducible refine belows_drewN ?_ _ | with_reducible refine Below.drew ?_ | with_reducible refine Below.setCell ?_ ?_ _ | with_reducible refine Below.alloc ?_ ?_ _ | omega | (simp; done) | (simp; omega)) hb1 (by simp)
      go_ret2
      exact ⟨by rw [HP.out]; rfl, (by repeat' first | with_reducible exact Below.refl _ _ | with_reducible assumption | with_reducible refine belows_drewN ?_ _ | with_reducible refine Below.drew ?_ | with_reducible refine Below.setCell ?_ ?_ _ | with_reducible refine Below.alloc ?_ ?_ _ | omega | (simp; done) | (simp; omega))⟩
  · have hne : (er != 0) = true := by simpa using h0
    rw [if_neg (by intro e; simp only [Prod.mk.injEq] at e; exact h0 e.2)] at hp
    have HP := hid hp
    clear hp h0
    go_enter Tryd.func16, Tryd.ntmps16
    go_wp2_with (go_at_call 8; refine (HF.out _).mono ?_; rintro e w1 ⟨rfl, hb1⟩; obtain ⟨hcc, hff⟩ := bcell hb1; have hz1 := hb1.size; simp only [World.size_alloc] at hz1; have hz2 : w.heap.size < w1.heap.size := (by omega))
    have hA := belows (B := w.heap.size) (a := w) (by repeat' first | with_reducible exact Below.refl _ _ | with_reducible assumption | with_reducible refine belows_drewN ?_ _ | with_reducible refine Below.drew ?_ | with_reducible refine Below.setCell ?_ ?_ _ | with_reducible refine Below.alloc ?_ ?_ _ | omega | (simp; done) | (simp; omega)) hb1 (by simp)
    go_ret2
    exact ⟨by rw [HP.out]; rfl, (by repeat' first | with_reducible exact Below.refl _ _ | with_reducible assumption | with_reducible refine belows_drewN ?_ _ | with_reducible refine Below.drew ?_ | with_reducible refine Below.setCell ?_ ?_ _ | with_reducible refine Below.alloc ?_ ?_ _ | omega | (simp; done) | (simp; omega))⟩
set_option maxRecDepth 100000 in
set_option maxHeartbeats 1000000 in
theorem rprint_nil (w : World) : Calls Tryd.prog 16 #[.agg #[.int .i64 (4), .string ⟨#[]⟩]] w (PrPost (4) ⟨#[]⟩ w) := by
  unfold PrPost
  have hbd : Ds.bl (⟨#[76]⟩ ++ (⟨#[]⟩ : ByteArray) ++ ⟨#[59]⟩) = draftOf (4, Ds.bl (⟨#[]⟩ : ByteArray)) := by decide
  have HF0 := fun W => rfield_any (⟨#[76]⟩ ++ (⟨#[]⟩ : ByteArray) ++ ⟨#[59]⟩) W
  unfold FdPost at HF0
  rw [hbd] at HF0
  unfold tyV at HF0
  obtain ⟨⟨⟨a, b⟩, er⟩, hf⟩ : ∃ x, x = fdOut (draftOf (4, Ds.bl (⟨#[]⟩ : ByteArray))) := ⟨_, rfl⟩
  rw [← hf] at HF0
  dsimp only at HF0
  have HF := hid HF0
  have hp : prOut (4, Ds.bl (⟨#[]⟩ : ByteArray)) = if ((a, b), er) = ((4, Ds.bl (⟨#[]⟩ : ByteArray)), (0 : Int)) then (Ds.bl (⟨#[76]⟩ ++ (⟨#[]⟩ : ByteArray) ++ ⟨#[59]⟩), 0) else ([], 20) := by unfold prOut; rw [← hf, ← hbd]
  clear hf hbd HF0
  by_cases h0 : er = 0
  · subst h0
    by_cases h1 : a = 4
    · subst h1
      by_cases h2 : b = Ds.bl (⟨#[]⟩ : ByteArray)
      · subst h2
        rw [if_pos rfl] at hp
        have HP := hid hp
        clear hp
        have hmm : (⟨(Ds.bl (⟨#[]⟩ : ByteArray)).toArray⟩ : ByteArray) = ⟨#[]⟩ := rfl
        rw [hmm] at HF
        go_enter Tryd.func16, Tryd.ntmps16
        go_wp2_with (go_at_call 8; refine (HF.out _).mono ?_; rintro e w1 ⟨rfl, hb1⟩; obtain ⟨hcc, hff⟩ := bcell hb1; have hz1 := hb1.size; simp only [World.size_alloc] at hz1; have hz2 : w.heap.size < w1.heap.size := (by omega))
        have hA := belows (B := w.heap.size) (a := w) (by repeat' first | with_reducible exact Below.refl _ _ | with_reducible assumption | with_reducible refine belows_drewN ?_ _ | with_reducible refine Below.drew ?_ | with_reducible refine Below.setCell ?_ ?_ _ | with_reducible refine Below.alloc ?_ ?_ _ | omega | (simp; done) | (simp; omega)) hb1 (by simp)
        go_ret2
        refine ⟨?_, (by repeat' first | with_reducible exact Below.refl _ _ | with_reducible assumption | with_reducible refine belows_drewN ?_ _ | with_reducible refine Below.drew ?_ | with_reducible refine Below.setCell ?_ ?_ _ | with_reducible refine Below.alloc ?_ ?_ _ | omega | (simp; done) | (simp; omega))⟩
        rw [HP.out]
        dsimp only [Ds.bl]
        rw [show (⟨(Ds.bl (⟨#[76]⟩ ++ (⟨#[]⟩ : ByteArray) ++ ⟨#[59]⟩)).toArray⟩ : ByteArray) = ⟨#[76]⟩ ++ (⟨#[]⟩ : ByteArray) ++ ⟨#[59]⟩ from ba_ext rfl]
        rfl
      · have hne : ¬ b = [] := h2
        rw [if_neg (by intro e; simp only [Prod.mk.injEq] at e; exact h2 e.1.2)] at hp
        have HP := hid hp
        clear hp h2
        go_enter Tryd.func16, Tryd.ntmps16
        go_wp2_with (go_at_call 8; refine (HF.out _).mono ?_; rintro e w1 ⟨rfl, hb1⟩; obtain ⟨hcc, hff⟩ := bcell hb1; have hz1 := hb1.size; simp only [World.size_alloc] at hz1; have hz2 : w.heap.size < w1.heap.size := (by omega))
        have hA := belows (B := w.heap.size) (a := w) (by repeat' first | with_reducible exact Below.refl _ _ | with_reducible assumption | with_reducible refine belows_drewN ?_ _ | with_reducible refine Below.drew ?_ | with_reducible refine Below.setCell ?_ ?_ _ | with_reducible refine Below.alloc ?_ ?_ _ | omega | (simp; done) | (simp; omega)) hb1 (by simp)
        go_ret2
        exact ⟨by rw [HP.out]; rfl, (by repeat' first | with_reducible exact Below.refl _ _ | with_reducible assumption | with_reducible refine belows_drewN ?_ _ | with_reducible refine Below.drew ?_ | with_reducible refine Below.setCell ?_ ?_ _ | with_reducible refine Below.alloc ?_ ?_ _ | omega | (simp; done) | (simp; omega))⟩
    · have hne : (a == 4) = false := by simpa using h1
      have hne2 : (a != 4) = true := by rw [bne, hne]; rfl
      rw [if_neg (by intro e; simp only [Prod.mk.injEq] at e; exact h1 e.1.1)] at hp
      have HP := hid hp
      clear hp h1
      go_enter Tryd.func16, Tryd.ntmps16
      go_wp2_with (go_at_call 8; refine (HF.out _).mono ?_; rintro e w1 ⟨rfl, hb1⟩; obtain ⟨hcc, hff⟩ := bcell hb1; have hz1 := hb1.size; simp only [World.size_alloc] at hz1; have hz2 : w.heap.size < w1.heap.size := (by omega))
      have hA := belows (B := w.heap.size) (a := w) (by repeat' first | with_reducible exact Below.refl _ _ | with_reducible assumption | with_reducible refine belows_drewN ?_ _ | with_reducible refine Below.drew ?_ | with_reducible refine Below.setCell ?_ ?_ _ | with_reducible refine Below.alloc ?_ ?_ _ | omega | (simp; done) | (simp; omega)) hb1 (by simp)
      go_ret2
      exact ⟨by rw [HP.out]; rfl, (by repeat' first | with_reducible exact Below.refl _ _ | with_reducible assumption | with_reducible refine belows_drewN ?_ _ | with_reducible refine Below.drew ?_ | with_reducible refine Below.setCell ?_ ?_ _ | with_reducible refine Below.alloc ?_ ?_ _ | omega | (simp; done) | (simp; omega))⟩
  · have hne : (er != 0) = true := by simpa using h0
    rw [if_neg (by intro e; simp only [Prod.mk.injEq] at e; exact h0 e.2)] at hp
    have HP := hid hp
    clear hp h0
    go_enter Tryd.func16, Tryd.ntmps16
    go_wp2_with (go_at_call 8; refine (HF.out _).mono ?_; rintro e w1 ⟨rfl, hb1⟩; obtain ⟨hcc, hff⟩ := bcell hb1; have hz1 := hb1.size; simp only [World.size_alloc] at hz1; have hz2 : w.heap.size < w1.heap.size := (by omega))
    have hA := belows (B := w.heap.size) (a := w) (by repeat' first | with_reducible exact Below.refl _ _ | with_reducible assumption | with_reducible refine belows_drewN ?_ _ | with_reducible refine Below.drew ?_ | with_reducible refine Below.setCell ?_ ?_ _ | with_reducible refine Below.alloc ?_ ?_ _ | omega | (simp; done) | (simp; omega)) hb1 (by simp)
    go_ret2
    exact ⟨by rw [HP.out]; rfl, (by repeat' first | with_reducible exact Below.refl _ _ | with_reducible assumption | with_reducible refine belows_drewN ?_ _ | with_reducible refine Below.drew ?_ | with_reducible refine Below.setCell ?_ ?_ _ | with_reducible refine Below.alloc ?_ ?_ _ | omega | (simp; done) | (simp; omega))⟩
set_option maxRecDepth 100000 in
set_option maxHeartbeats 1000000 in
theorem rprint_arr (m : ByteArray) (hs : m.size ≤ 140737488351232) (l : List UInt8) (h : Ds.bl m = 91 :: l) (w : World) : Calls Tryd.prog 16 #[.agg #[.int .i64 (4), .string m]] w (PrPost (4) m w) := by
  unfold PrPost
  have hpos := size_pos h
  have hpi : (0 : Int) < m.size := by omega
  have hl0 : decide (0 < (m.size : Int)) = true := decide_eq_true (by omega)
  have hfst : m[0]'hpos = 91 := first_at h
  have hbd : Ds.bl (m) = draftOf (4, Ds.bl m) := by unfold draftOf; rw [if_pos rfl, h]; rfl
  have HF0 := fun W => rfield_any (m) W
  unfold FdPost at HF0
  rw [hbd] at HF0
  unfold tyV at HF0
  obtain ⟨⟨⟨a, b⟩, er⟩, hf⟩ : ∃ x, x = fdOut (draftOf (4, Ds.bl m)) := ⟨_, rfl⟩
  rw [← hf] at HF0
  dsimp only at HF0
  have HF := hid HF0
  have hp : prOut (4, Ds.bl m) = if ((a, b), er) = ((4, Ds.bl m), (0 : Int)) then (Ds.bl (m), 0) else ([], 20) := by unfold prOut; rw [← hf, ← hbd]
  clear hf hbd HF0 h
  by_cases h0 : er = 0
  · subst h0
    by_cases h1 : a = 4
    · subst h1
      by_cases h2 : b = Ds.bl m
      · subst h2
        rw [if_pos rfl] at hp
        have HP := hid hp
        clear hp
        have hmm : (⟨(Ds.bl m).toArray⟩ : ByteArray) = m := ba_ext rfl
        rw [hmm] at HF
        go_enter Tryd.func16, Tryd.ntmps16
        go_wp2_with (go_at_call 8; refine (HF.out _).mono ?_; rintro e w1 ⟨rfl, hb1⟩; obtain ⟨hcc, hff⟩ := bcell hb1; have hz1 := hb1.size; simp only [World.size_alloc] at hz1; have hz2 : w.heap.size < w1.heap.size := (by omega))
        have hA := belows (B := w.heap.size) (a := w) (by repeat' first | with_reducible exact Below.refl _ _ | with_reducible assumption | with_reducible refine belows_drewN ?_ _ | with_reducible refine Below.drew ?_ | with_reducible refine Below.setCell ?_ ?_ _ | with_reducible refine Below.alloc ?_ ?_ _ | omega | (simp; done) | (simp; omega)) hb1 (by simp)
        go_ret2
        refine ⟨?_, (by repeat' first | with_reducible exact Below.refl _ _ | with_reducible assumption | with_reducible refine belows_drewN ?_ _ | with_reducible refine Below.drew ?_ | with_reducible refine Below.setCell ?_ ?_ _ | with_reducible refine Below.alloc ?_ ?_ _ | omega | (simp; done) | (simp; omega))⟩
        rw [HP.out]
        dsimp only
        rw [show (⟨(Ds.bl (m)).toArray⟩ : ByteArray) = m from ba_ext rfl]
        rfl
      · have hne : ¬ b = m.toList := by rw [ByteArray.toList_eq]; exact h2
        rw [if_neg (by intro e; simp only [Prod.mk.injEq] at e; exact h2 e.1.2)] at hp
        have HP := hid hp
        clear hp h2
        go_enter Tryd.func16, Tryd.ntmps16
        go_wp2_with (go_at_call 8; refine (HF.out _).mono ?_; rintro e w1 ⟨rfl, hb1⟩; obtain ⟨hcc, hff⟩ := bcell hb1; have hz1 := hb1.size; simp only [World.size_alloc] at hz1; have hz2 : w.heap.size < w1.heap.size := (by omega))
        have hA := belows (B := w.heap.size) (a := w) (by repeat' first | with_reducible exact Below.refl _ _ | with_reducible assumption | with_reducible refine belows_drewN ?_ _ | with_reducible refine Below.drew ?_ | with_reducible refine Below.setCell ?_ ?_ _ | with_reducible refine Below.alloc ?_ ?_ _ | omega | (simp; done) | (simp; omega)) hb1 (by simp)
        go_ret2
        exact ⟨by rw [HP.out]; rfl, (by repeat' first | with_reducible exact Below.refl _ _ | with_reducible assumption | with_reducible refine belows_drewN ?_ _ | with_reducible refine Below.drew ?_ | with_reducible refine Below.setCell ?_ ?_ _ | with_reducible refine Below.alloc ?_ ?_ _ | omega | (simp; done) | (simp; omega))⟩
    · have hne : (a == 4) = false := by simpa using h1
      have hne2 : (a != 4) = true := by rw [bne, hne]; rfl
      rw [if_neg (by intro e; simp only [Prod.mk.injEq] at e; exact h1 e.1.1)] at hp
      have HP := hid hp
      clear hp h1
      go_enter Tryd.func16, Tryd.ntmps16
      go_wp2_with (go_at_call 8; refine (HF.out _).mono ?_; rintro e w1 ⟨rfl, hb1⟩; obtain ⟨hcc, hff⟩ := bcell hb1; have hz1 := hb1.size; simp only [World.size_alloc] at hz1; have hz2 : w.heap.size < w1.heap.size := (by omega))
      have hA := belows (B := w.heap.size) (a := w) (by repeat' first | with_reducible exact Below.refl _ _ | with_reducible assumption | with_reducible refine belows_drewN ?_ _ | with_reducible refine Below.drew ?_ | with_reducible refine Below.setCell ?_ ?_ _ | with_reducible refine Below.alloc ?_ ?_ _ | omega | (simp; done) | (simp; omega)) hb1 (by simp)
      go_ret2
      exact ⟨by rw [HP.out]; rfl, (by repeat' first | with_reducible exact Below.refl _ _ | with_reducible assumption | with_reducible refine belows_drewN ?_ _ | with_reducible refine Below.drew ?_ | with_reducible refine Below.setCell ?_ ?_ _ | with_reducible refine Below.alloc ?_ ?_ _ | omega | (simp; done) | (simp; omega))⟩
  · have hne : (er != 0) = true := by simpa using h0
    rw [if_neg (by intro e; simp only [Prod.mk.injEq] at e; exact h0 e.2)] at hp
    have HP := hid hp
    clear hp h0
    go_enter Tryd.func16, Tryd.ntmps16
    go_wp2_with (go_at_call 8; refine (HF.out _).mono ?_; rintro e w1 ⟨rfl, hb1⟩; obtain ⟨hcc, hff⟩ := bcell hb1; have hz1 := hb1.size; simp only [World.size_alloc] at hz1; have hz2 : w.heap.size < w1.heap.size := (by omega))
    have hA := belows (B := w.heap.size) (a := w) (by repeat' first | with_reducible exact Below.refl _ _ | with_reducible assumption | with_reducible refine belows_drewN ?_ _ | with_reducible refine Below.drew ?_ | with_reducible refine Below.setCell ?_ ?_ _ | with_reducible refine Below.alloc ?_ ?_ _ | omega | (simp; done) | (simp; omega)) hb1 (by simp)
    go_ret2
    exact ⟨by rw [HP.out]; rfl, (by repeat' first | with_reducible exact Below.refl _ _ | with_reducible assumption | with_reducible refine belows_drewN ?_ _ | with_reducible refine Below.drew ?_ | with_reducible refine Below.setCell ?_ ?_ _ | with_reducible refine Below.alloc ?_ ?_ _ | omega | (simp; done) | (simp; omega))⟩
set_option maxRecDepth 100000 in
set_option maxHeartbeats 1000000 in
theorem rprint_obj (m : ByteArray) (hs : m.size ≤ 140737488351232) (c : UInt8) (l : List UInt8) (h : Ds.bl m = c :: l) (hc : c ≠ 91) (w : World) : Calls Tryd.prog 16 #[.agg #[.int .i64 (4), .string m]] w (PrPost (4) m w) := by
  unfold PrPost
  have hpos := size_pos h
  have hpi : (0 : Int) < m.size := by omega
  have hl0 : decide (0 < (m.size : Int)) = true := decide_eq_true (by omega)
  have hfst : m[0]'hpos = c := first_at h
  have hcc0 : ((c.toNat : Int) == 91) = false := u8_ne hc
  have hbd : Ds.bl (⟨#[76]⟩ ++ m ++ ⟨#[59]⟩) = draftOf (4, Ds.bl m) := by unfold draftOf; rw [if_pos rfl]; rw [if_neg (by rw [h]; simpa [arrB] using hc)]; simp [Ds.bl]
  have HF0 := fun W => rfield_any (⟨#[76]⟩ ++ m ++ ⟨#[59]⟩) W
  unfold FdPost at HF0
  rw [hbd] at HF0
  unfold tyV at HF0
  obtain ⟨⟨⟨a, b⟩, er⟩, hf⟩ : ∃ x, x = fdOut (draftOf (4, Ds.bl m)) := ⟨_, rfl⟩
  rw [← hf] at HF0
  dsimp only at HF0
  have HF := hid HF0
  have hp : prOut (4, Ds.bl m) = if ((a, b), er) = ((4, Ds.bl m), (0 : Int)) then (Ds.bl (⟨#[76]⟩ ++ m ++ ⟨#[59]⟩), 0) else ([], 20) := by unfold prOut; rw [← hf, ← hbd]
  clear hf hbd HF0 h hc
  by_cases h0 : er = 0
  · subst h0
    by_cases h1 : a = 4
    · subst h1
      by_cases h2 : b = Ds.bl m
      · subst h2
        rw [if_pos rfl] at hp
        have HP := hid hp
        clear hp
        have hmm : (⟨(Ds.bl m).toArray⟩ : ByteArray) = m := ba_ext rfl
        rw [hmm] at HF
        go_enter Tryd.func16, Tryd.ntmps16
        go_wp2_with (go_at_call 8; refine (HF.out _).mono ?_; rintro e w1 ⟨rfl, hb1⟩; obtain ⟨hcc, hff⟩ := bcell hb1; have hz1 := hb1.size; simp only [World.size_alloc] at hz1; have hz2 : w.heap.size < w1.heap.size := (by omega))
        have hA := belows (B := w.heap.size) (a := w) (by repeat' first | with_reducible exact Below.refl _ _ | with_reducible assumption | with_reducible refine belows_drewN ?_ _ | with_reducible refine Below.drew ?_ | with_reducible refine Below.setCell ?_ ?_ _ | with_reducible refine Below.alloc ?_ ?_ _ | omega | (simp; done) | (simp; omega)) hb1 (by simp)
        go_ret2
        refine ⟨?_, (by repeat' first | with_reducible exact Below.refl _ _ | with_reducible assumption | with_reducible refine belows_drewN ?_ _ | with_reducible refine Below.drew ?_ | with_reducible refine Below.setCell ?_ ?_ _ | with_reducible refine Below.alloc ?_ ?_ _ | omega | (simp; done) | (simp; omega))⟩
        rw [HP.out]
        dsimp only
        rw [show (⟨(Ds.bl (⟨#[76]⟩ ++ m ++ ⟨#[59]⟩)).toArray⟩ : ByteArray) = ⟨#[76]⟩ ++ m ++ ⟨#[59]⟩ from ba_ext rfl]
        rfl
      · have hne : ¬ b = m.toList := by rw [ByteArray.toList_eq]; exact h2
        rw [if_neg (by intro e; simp only [Prod.mk.injEq] at e; exact h2 e.1.2)] at hp
        have HP := hid hp
        clear hp h2
        go_enter Tryd.func16, Tryd.ntmps16
        go_wp2_with (go_at_call 8; refine (HF.out _).mono ?_; rintro e w1 ⟨rfl, hb1⟩; obtain ⟨hcc, hff⟩ := bcell hb1; have hz1 := hb1.size; simp only [World.size_alloc] at hz1; have hz2 : w.heap.size < w1.heap.size := (by omega))
        have hA := belows (B := w.heap.size) (a := w) (by repeat' first | with_reducible exact Below.refl _ _ | with_reducible assumption | with_reducible refine belows_drewN ?_ _ | with_reducible refine Below.drew ?_ | with_reducible refine Below.setCell ?_ ?_ _ | with_reducible refine Below.alloc ?_ ?_ _ | omega | (simp; done) | (simp; omega)) hb1 (by simp)
        go_ret2
        exact ⟨by rw [HP.out]; rfl, (by repeat' first | with_reducible exact Below.refl _ _ | with_reducible assumption | with_reducible refine belows_drewN ?_ _ | with_reducible refine Below.drew ?_ | with_reducible refine Below.setCell ?_ ?_ _ | with_reducible refine Below.alloc ?_ ?_ _ | omega | (simp; done) | (simp; omega))⟩
    · have hne : (a == 4) = false := by simpa using h1
      have hne2 : (a != 4) = true := by rw [bne, hne]; rfl
      rw [if_neg (by intro e; simp only [Prod.mk.injEq] at e; exact h1 e.1.1)] at hp
      have HP := hid hp
      clear hp h1
      go_enter Tryd.func16, Tryd.ntmps16
      go_wp2_with (go_at_call 8; refine (HF.out _).mono ?_; rintro e w1 ⟨rfl, hb1⟩; obtain ⟨hcc, hff⟩ := bcell hb1; have hz1 := hb1.size; simp only [World.size_alloc] at hz1; have hz2 : w.heap.size < w1.heap.size := (by omega))
      have hA := belows (B := w.heap.size) (a := w) (by repeat' first | with_reducible exact Below.refl _ _ | with_reducible assumption | with_reducible refine belows_drewN ?_ _ | with_reducible refine Below.drew ?_ | with_reducible refine Below.setCell ?_ ?_ _ | with_reducible refine Below.alloc ?_ ?_ _ | omega | (simp; done) | (simp; omega)) hb1 (by simp)
      go_ret2
      exact ⟨by rw [HP.out]; rfl, (by repeat' first | with_reducible exact Below.refl _ _ | with_reducible assumption | with_reducible refine belows_drewN ?_ _ | with_reducible refine Below.drew ?_ | with_reducible refine Below.setCell ?_ ?_ _ | with_reducible refine Below.alloc ?_ ?_ _ | omega | (simp; done) | (simp; omega))⟩
  · have hne : (er != 0) = true := by simpa using h0
    rw [if_neg (by intro e; simp only [Prod.mk.injEq] at e; exact h0 e.2)] at hp
    have HP := hid hp
    clear hp h0
    go_enter Tryd.func16, Tryd.ntmps16
    go_wp2_with (go_at_call 8; refine (HF.out _).mono ?_; rintro e w1 ⟨rfl, hb1⟩; obtain ⟨hcc, hff⟩ := bcell hb1; have hz1 := hb1.size; simp only [World.size_alloc] at hz1; have hz2 : w.heap.size < w1.heap.size := (by omega))
    have hA := belows (B := w.heap.size) (a := w) (by repeat' first | with_reducible exact Below.refl _ _ | with_reducible assumption | with_reducible refine belows_drewN ?_ _ | with_reducible refine Below.drew ?_ | with_reducible refine Below.setCell ?_ ?_ _ | with_reducible refine Below.alloc ?_ ?_ _ | omega | (simp; done) | (simp; omega)) hb1 (by simp)
    go_ret2
    exact ⟨by rw [HP.out]; rfl, (by repeat' first | with_reducible exact Below.refl _ _ | with_reducible assumption | with_reducible refine belows_drewN ?_ _ | with_reducible refine Below.drew ?_ | with_reducible refine Below.setCell ?_ ?_ _ | with_reducible refine Below.alloc ?_ ?_ _ | omega | (simp; done) | (simp; omega))⟩
theorem rprint_any (k : Int) (m : ByteArray) (w : World) (hs : m.size ≤ 140737488351232) : Calls Tryd.prog 16 #[.agg #[.int .i64 k, .string m]] w (PrPost k m w) := by
  by_cases h1 : k = 1
  · subst h1; exact rprint_int m w
  by_cases h2 : k = 2
  · subst h2; exact rprint_long m w
  by_cases h4 : k = 4
  · subst h4
    cases h : Ds.bl m with
    | nil => obtain rfl : m = ⟨#[]⟩ := ba_ext h; exact rprint_nil w
    | cons c l =>
      by_cases hc : c = 91
      · subst hc; exact rprint_arr m hs l h w
      · exact rprint_obj m hs c l h hc w
  exact rprint_other k m h1 h2 h4 w
end Go.Proofs.YthhjenmgcbmphaaDoor

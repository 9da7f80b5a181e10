/- Contracts of the document's Array and Elem. -/
import Derived.Test.YtcbdkfjfpglnpaaDoorRp
import Derived.Test.YtcbdkfjfpglnpaaDoorElems
namespace Go.Proofs.YtcbdkfjfpglnpaaDoor
open Go.RowKit

theorem prOut_bad (y : Ds.Ty) (h : ¬ (prOut y).2 = 0) : (prOut y).2 = 20 := by
  unfold prOut at h ⊢
  split
  · rename_i h1; rw [if_pos h1] at h; exact absurd rfl h
  · rfl
set_option maxRecDepth 100000 in
set_option maxHeartbeats 1000000 in
theorem rarray_any (k : Int) (m : ByteArray) (w : World) (hs : m.size ≤ 140737488351232) :
    Calls Tryd.prog 29 #[.agg #[.int .i64 k, .string m]] w fun e w' => e = .returned (.tuple #[tyV (arOut (k, Ds.bl m)).1.1 (arOut (k, Ds.bl m)).1.2, .int .i64 (arOut (k, Ds.bl m)).2]) ∧ Below w.heap.size w w' := by
  have HP0 := fun W => rprint_any k m W hs
  unfold PrPost at HP0
  unfold arOut
  have hpl := prOut_len (k, Ds.bl m)
  obtain ⟨⟨p, er⟩, hp⟩ : ∃ x, x = prOut (k, Ds.bl m) := ⟨_, rfl⟩
  rw [← hp] at HP0 hpl ⊢
  dsimp only at HP0 hpl ⊢
  obtain ⟨d, hd⟩ : ∃ d : ByteArray, d = ⟨p.toArray⟩ := ⟨_, rfl⟩
  have hbd : Ds.bl d = p := by rw [hd]
  subst hbd
  have hdd : (⟨(Ds.bl d).toArray⟩ : ByteArray) = d := ba_ext rfl
  rw [hdd] at HP0
  have HP := hid HP0
  rw [bl_len] at hpl ⊢
  clear HP0 hp hd hdd hs
  by_cases h0 : er = 0
  · subst h0
    rw [if_pos rfl]
    by_cases h1 : d.size = 255
    · rw [if_pos h1]
      have hl : decide (255 ≤ (d.size : Int)) = true := decide_eq_true (by omega)
      unfold tyV
      clear h1
      go_enter Tryd.func29, Tryd.ntmps29
      go_wp2_with (first
        | (go_at_call 23; refine (HP.out _).mono ?_; rintro e w1 ⟨rfl, hb1⟩; obtain ⟨hcc, hff⟩ := bcell hb1; have hz1 := hb1.size; simp only [World.size_alloc] at hz1; have hz2 : w.heap.size + 1 < w1.heap.size := (by omega)))
      have hA := belows (B := w.heap.size) (a := w) (by repeat' first | with_reducible exact Below.refl _ _ | with_reducible assumption | with_reducible refine belows_drewN ?_ _ | with_reducible refine Below.drew ?_ | with_reducible refine Below.setCell ?_ ?_ _ | with_reducible refine Below.alloc ?_ ?_ _ | omega | (simp; done) | (simp; omega)) hb1 (by simp only [World.size_alloc]; omega)
      exact bodyPost_ret (v := .tuple #[.agg #[.int .i64 0, .string ⟨#[]⟩], .int .i64 3]) (by simp [results, Tryd.results29, go_sem, hcc]) rfl ⟨rfl, (by repeat' first | with_reducible exact Below.refl _ _ | with_reducible assumption | with_reducible refine belows_drewN ?_ _ | with_reducible refine Below.drew ?_ | with_reducible refine Below.setCell ?_ ?_ _ | with_reducible refine Below.alloc ?_ ?_ _ | omega | (simp; done) | (simp; omega))⟩
    · rw [if_neg h1]
      have hl : decide (255 ≤ (d.size : Int)) = false := decide_eq_false (by omega)
      unfold tyV
      clear h1
      go_enter Tryd.func29, Tryd.ntmps29
      go_wp2_with (first
        | (go_at_call 23; refine (HP.out _).mono ?_; rintro e w1 ⟨rfl, hb1⟩; obtain ⟨hcc, hff⟩ := bcell hb1; have hz1 := hb1.size; simp only [World.size_alloc] at hz1; have hz2 : w.heap.size + 1 < w1.heap.size := (by omega)))
      have hA := belows (B := w.heap.size) (a := w) (by repeat' first | with_reducible exact Below.refl _ _ | with_reducible assumption | with_reducible refine belows_drewN ?_ _ | with_reducible refine Below.drew ?_ | with_reducible refine Below.setCell ?_ ?_ _ | with_reducible refine Below.alloc ?_ ?_ _ | omega | (simp; done) | (simp; omega)) hb1 (by simp only [World.size_alloc]; omega)
      have hbr : (⟨#[91]⟩ : ByteArray) ++ d = ⟨(91 :: Ds.bl d).toArray⟩ := ba_ext (by simp [Ds.bl])
      rw [← hbr]
      exact bodyPost_ret (v := .tuple #[.agg #[.int .i64 4, .string (⟨#[91]⟩ ++ d)], .int .i64 0]) (by simp [results, Tryd.results29, go_sem, hcc]) rfl ⟨rfl, (by repeat' first | with_reducible exact Below.refl _ _ | with_reducible assumption | with_reducible refine belows_drewN ?_ _ | with_reducible refine Below.drew ?_ | with_reducible refine Below.setCell ?_ ?_ _ | with_reducible refine Below.alloc ?_ ?_ _ | omega | (simp; done) | (simp; omega))⟩
  · rw [if_neg h0]
    have hne : (er != 0) = true := by simpa using h0
    unfold tyV
    clear h0
    go_enter Tryd.func29, Tryd.ntmps29
    go_wp2_with (first
        | (go_at_call 23; refine (HP.out _).mono ?_; rintro e w1 ⟨rfl, hb1⟩; obtain ⟨hcc, hff⟩ := bcell hb1; have hz1 := hb1.size; simp only [World.size_alloc] at hz1; have hz2 : w.heap.size + 1 < w1.heap.size := (by omega)))
    have hA := belows (B := w.heap.size) (a := w) (by repeat' first | with_reducible exact Below.refl _ _ | with_reducible assumption | with_reducible refine belows_drewN ?_ _ | with_reducible refine Below.drew ?_ | with_reducible refine Below.setCell ?_ ?_ _ | with_reducible refine Below.alloc ?_ ?_ _ | omega | (simp; done) | (simp; omega)) hb1 (by simp only [World.size_alloc]; omega)
    exact bodyPost_ret (v := .tuple #[.agg #[.int .i64 0, .string ⟨#[]⟩], .int .i64 er]) (by simp [results, Tryd.results29, go_sem, hcc]) rfl ⟨rfl, (by repeat' first | with_reducible exact Below.refl _ _ | with_reducible assumption | with_reducible refine belows_drewN ?_ _ | with_reducible refine Below.drew ?_ | with_reducible refine Below.setCell ?_ ?_ _ | with_reducible refine Below.alloc ?_ ?_ _ | omega | (simp; done) | (simp; omega))⟩
set_option maxRecDepth 100000 in
set_option maxHeartbeats 1000000 in
theorem relem_any (k : Int) (m : ByteArray) (w : World) (hs : m.size ≤ 140737488351232) :
    Calls Tryd.prog 31 #[.agg #[.int .i64 k, .string m]] w fun e w' => e = .returned (.tuple #[tyV (elOut (k, Ds.bl m)).1.1 (elOut (k, Ds.bl m)).1.2, .int .i64 (elOut (k, Ds.bl m)).2]) ∧ Below w.heap.size w w' := by
  have HP0 := fun W => rprint_any k m W hs
  unfold PrPost at HP0
  have hpl := prOut_len (k, Ds.bl m)
  have hok := fun h => prOut_ok (y := (k, Ds.bl m)) h
  have hbad := prOut_bad (k, Ds.bl m)
  unfold elOut
  obtain ⟨⟨p, er⟩, hp⟩ : ∃ x, x = prOut (k, Ds.bl m) := ⟨_, rfl⟩
  rw [← hp] at HP0 hpl hok hbad ⊢
  dsimp only at HP0 hpl hok hbad ⊢
  obtain ⟨d, hd⟩ : ∃ d : ByteArray, d = ⟨p.toArray⟩ := ⟨_, rfl⟩
  have hbd : Ds.bl d = p := by rw [hd]
  subst hbd
  have hdd : (⟨(Ds.bl d).toArray⟩ : ByteArray) = d := ba_ext rfl
  rw [hdd] at HP0
  have HP := hid HP0
  rw [bl_len] at hpl
  clear HP0 hp hd hdd hs
  by_cases h0 : er = 0
  · subst h0
    rw [if_pos rfl]
    have hrd := fdOut_ok (hok rfl)
    have hpos : 0 < d.size := by have := (Ds.rd_len hrd).1; rw [bl_len] at this; omega
    cases hb : Ds.bl d with
    | nil => rw [empty_of hb] at hpos; omega
    | cons c l =>
      have hfst : d[0]'hpos = c := first_at hb
      have hpi : (0 : Int) < d.size := by omega
      have hpi1 : (1 : Int) ≤ d.size := by omega
      by_cases hc : c = 91
      · subst hc
        rw [if_pos (show arrB (91 :: l) = true from rfl)]
        have HF0 := fun W => rfield_any (d.extract 1 d.size) W
        unfold FdPost at HF0
        rw [ext_drop, hb] at HF0
        unfold tyV at HF0
        obtain ⟨⟨⟨fa, fb⟩, fe⟩, hf⟩ : ∃ x, x = fdOut ((91 :: l).drop 1) := ⟨_, rfl⟩
        rw [← hf] at HF0 ⊢
        dsimp only at HF0 ⊢
        have HF := hid HF0
        clear hf HF0 hb hok hrd hbad
        unfold tyV
        go_enter Tryd.func31, Tryd.ntmps31
        go_wp2_with (first
        | (go_at_call 23; refine (HP.out _).mono ?_; rintro e w1 ⟨rfl, hb1⟩; obtain ⟨hcc, hff⟩ := bcell hb1; have hz1 := hb1.size; simp only [World.size_alloc] at hz1; have hz2 : w.heap.size + 1 < w1.heap.size := (by omega))
        | (go_at_call 16; refine (HF.out _).mono ?_; rintro e w2 ⟨rfl, hb2⟩; have hz3 := hb2.size; have hy0 := (hb2.cell (p := ⟨w.heap.size + 1, 0, none⟩) hz2); have hy1 := (hb2.cell (p := ⟨w.heap.size + 1, 1, none⟩) hz2); have hg0 := (hb2.frozen (p := ⟨w.heap.size + 1, 0, none⟩) hz2); have hg1 := (hb2.frozen (p := ⟨w.heap.size + 1, 1, none⟩) hz2); have hz4 : w.heap.size + 1 < w2.heap.size := (by omega)))
        have hA := belows (B := w.heap.size) (a := w) (by repeat' first | with_reducible exact Below.refl _ _ | with_reducible assumption | with_reducible refine belows_drewN ?_ _ | with_reducible refine Below.drew ?_ | with_reducible refine Below.setCell ?_ ?_ _ | with_reducible refine Below.alloc ?_ ?_ _ | omega | (simp; done) | (simp; omega)) hb1 (by simp only [World.size_alloc]; omega)
        have hB := belows hA hb2 hA.size
        exact bodyPost_ret (v := .tuple #[.agg #[.int .i64 fa, .string ⟨fb.toArray⟩], .int .i64 fe]) (by simp [results, Tryd.results31, go_sem, hcc, hy0, hy1]) rfl ⟨rfl, (by repeat' first | with_reducible exact Below.refl _ _ | with_reducible assumption | with_reducible refine belows_drewN ?_ _ | with_reducible refine Below.drew ?_ | with_reducible refine Below.setCell ?_ ?_ _ | with_reducible refine Below.alloc ?_ ?_ _ | omega | (simp; done) | (simp; omega))⟩
      · rw [if_neg (by simpa [arrB] using hc)]
        have hne : ((c.toNat : Int) != 91) = true := by rw [bne, show ((c.toNat : Int) == 91) = false from u8_ne hc]; rfl
        clear hb hok hrd hbad hc
        unfold tyV
        go_enter Tryd.func31, Tryd.ntmps31
        go_wp2_with (first
        | (go_at_call 23; refine (HP.out _).mono ?_; rintro e w1 ⟨rfl, hb1⟩; obtain ⟨hcc, hff⟩ := bcell hb1; have hz1 := hb1.size; simp only [World.size_alloc] at hz1; have hz2 : w.heap.size + 1 < w1.heap.size := (by omega)))
        have hA := belows (B := w.heap.size) (a := w) (by repeat' first | with_reducible exact Below.refl _ _ | with_reducible assumption | with_reducible refine belows_drewN ?_ _ | with_reducible refine Below.drew ?_ | with_reducible refine Below.setCell ?_ ?_ _ | with_reducible refine Below.alloc ?_ ?_ _ | omega | (simp; done) | (simp; omega)) hb1 (by simp only [World.size_alloc]; omega)
        exact bodyPost_ret (v := .tuple #[.agg #[.int .i64 0, .string ⟨#[]⟩], .int .i64 20]) (by simp [results, Tryd.results31, go_sem, hcc]) rfl ⟨rfl, (by repeat' first | with_reducible exact Below.refl _ _ | with_reducible assumption | with_reducible refine belows_drewN ?_ _ | with_reducible refine Below.drew ?_ | with_reducible refine Below.setCell ?_ ?_ _ | with_reducible refine Below.alloc ?_ ?_ _ | omega | (simp; done) | (simp; omega))⟩
  · rw [if_neg h0]
    obtain rfl : er = 20 := hbad h0
    clear h0 hok hbad
    unfold tyV
    go_enter Tryd.func31, Tryd.ntmps31
    go_wp2_with (first
        | (go_at_call 23; refine (HP.out _).mono ?_; rintro e w1 ⟨rfl, hb1⟩; obtain ⟨hcc, hff⟩ := bcell hb1; have hz1 := hb1.size; simp only [World.size_alloc] at hz1; have hz2 : w.heap.size + 1 < w1.heap.size := (by omega)))
    have hA := belows (B := w.heap.size) (a := w) (by repeat' first | with_reducible exact Below.refl _ _ | with_reducible assumption | with_reducible refine belows_drewN ?_ _ | with_reducible refine Below.drew ?_ | with_reducible refine Below.setCell ?_ ?_ _ | with_reducible refine Below.alloc ?_ ?_ _ | omega | (simp; done) | (simp; omega)) hb1 (by simp only [World.size_alloc]; omega)
    exact bodyPost_ret (v := .tuple #[.agg #[.int .i64 0, .string ⟨#[]⟩], .int .i64 20]) (by simp [results, Tryd.results31, go_sem, hcc]) rfl ⟨rfl, (by repeat' first | with_reducible exact Below.refl _ _ | with_reducible assumption | with_reducible refine belows_drewN ?_ _ | with_reducible refine Below.drew ?_ | with_reducible refine Below.setCell ?_ ?_ _ | with_reducible refine Below.alloc ?_ ?_ _ | omega | (simp; done) | (simp; omega))⟩
end Go.Proofs.YtcbdkfjfpglnpaaDoor

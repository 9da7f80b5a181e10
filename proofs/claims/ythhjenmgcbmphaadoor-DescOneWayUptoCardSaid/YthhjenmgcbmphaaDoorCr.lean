/- Contract of the document's Class; Same at equal lists. -/
import Derived.Test.YthhjenmgcbmphaaDoorCl
namespace Go.Proofs.YthhjenmgcbmphaaDoor
open Go.RowKit

set_option maxRecDepth 100000 in
set_option maxHeartbeats 1000000 in
theorem rclassT_any (s : ByteArray) (w : World) : Calls Tryd.prog 12 #[.string s] w fun e w' => e = .returned (.tuple #[tyV (clOut (Ds.bl s)).1.1 (clOut (Ds.bl s)).1.2, .int .i64 (clOut (Ds.bl s)).2]) ∧ Below w.heap.size w w' := by
  unfold clOut
  cases ha : arrB (Ds.bl s) with
  | true =>
    rw [if_pos rfl]
    have hpos : 0 < s.size := by
      cases hb : Ds.bl s with
      | nil => rw [hb] at ha; exact absurd ha (by decide)
      | cons c l => exact size_pos hb
    have hfst : s[0]'hpos = 91 := by
      cases hb : Ds.bl s with
      | nil => rw [hb] at ha; exact absurd ha (by decide)
      | cons c l => rw [first_at hb]; rw [hb] at ha; simpa [arrB] using ha
    have hpi : (0 : Int) < s.size := by omega
    have hl0 : decide (0 < (s.size : Int)) = true := decide_eq_true hpi
    have HF0 := fun W => rfield_any s W
    unfold FdPost tyV at HF0
    obtain ⟨⟨⟨fa, fb⟩, fe⟩, hf⟩ : ∃ x, x = fdOut (Ds.bl s) := ⟨_, rfl⟩
    rw [← hf] at HF0 ⊢
    dsimp only at HF0 ⊢
    have HF := hid HF0
    clear hf HF0 ha
    unfold tyV
    go_enter Tryd.func12, Tryd.ntmps12
    go_wp2_with (first
      | (go_at_call 8; refine (HF.out _).mono ?_; rintro e w1 ⟨rfl, hb1⟩; obtain ⟨hcc, hff⟩ := bcell hb1; have hz1 := hb1.size; simp only [World.size_alloc] at hz1; have hz2 : w.heap.size < w1.heap.size := (by omega)))
    have hA := belows (B := w.heap.size) (a := w) (by repeat' first | with_reducible exact Below.refl _ _ | with_reducible assumption | with_reducible refine belows_drewN ?_ _ | with_reducible refine Below.drew ?_ | with_reducible refine Below.setCell ?_ ?_ _ | with_reducible refine Below.alloc ?_ ?_ _ | omega | (simp; done) | (simp; omega)) hb1 (by simp)
    exact bodyPost_ret (v := .tuple #[.agg #[.int .i64 fa, .string ⟨fb.toArray⟩], .int .i64 fe]) (by simp [results, Tryd.results12, go_sem, hcc]) rfl ⟨rfl, (by repeat' first | with_reducible exact Below.refl _ _ | with_reducible assumption | with_reducible refine belows_drewN ?_ _ | with_reducible refine Below.drew ?_ | with_reducible refine Below.setCell ?_ ?_ _ | with_reducible refine Below.alloc ?_ ?_ _ | omega | (simp; done) | (simp; omega))⟩
  | false =>
    cases hb : Ds.bl s with
    | nil =>
      obtain rfl : s = ⟨#[]⟩ := ba_ext hb
      clear hb
      have hn : nameE (Ds.bl (⟨#[]⟩ : ByteArray)) = 21 := by decide +kernel
      have HN0 := fun W => rclassName_any ⟨#[]⟩ W
      rw [hn] at HN0
      have HN := hid HN0
      rw [if_neg (by simp), show nameE [] = 21 from hn, if_neg (by decide)]
      unfold tyV
      clear HN0 hn ha
      go_enter Tryd.func12, Tryd.ntmps12
      go_wp2_with (go_at_call 29; refine (HN.out _).mono ?_; rintro e w1 ⟨rfl, hb1⟩; obtain ⟨hcc, hff⟩ := bcell hb1; have hz1 := hb1.size; simp only [World.size_alloc] at hz1; have hz2 : w.heap.size < w1.heap.size := (by omega))
      have hA := belows (B := w.heap.size) (a := w) (by repeat' first | with_reducible exact Below.refl _ _ | with_reducible assumption | with_reducible refine belows_drewN ?_ _ | with_reducible refine Below.drew ?_ | with_reducible refine Below.setCell ?_ ?_ _ | with_reducible refine Below.alloc ?_ ?_ _ | omega | (simp; done) | (simp; omega)) hb1 (by simp)
      exact bodyPost_ret (v := .tuple #[.agg #[.int .i64 0, .string ⟨#[]⟩], .int .i64 21]) (by simp [results, Tryd.results12, go_sem, hcc]) rfl ⟨rfl, (by repeat' first | with_reducible exact Below.refl _ _ | with_reducible assumption | with_reducible refine belows_drewN ?_ _ | with_reducible refine Below.drew ?_ | with_reducible refine Below.setCell ?_ ?_ _ | with_reducible refine Below.alloc ?_ ?_ _ | omega | (simp; done) | (simp; omega))⟩
    | cons c l =>
      have hpos := size_pos hb
      have hfst : s[0]'hpos = c := first_at hb
      have hpi : (0 : Int) < s.size := by omega
      have hl0 : decide (0 < (s.size : Int)) = true := decide_eq_true hpi
      have hc91 : ((c.toNat : Int) == 91) = false := u8_ne (c := c) (k := 91) (by intro e; rw [hb, e] at ha; exact absurd ha (by simp [arrB]))
      rw [← hb]
      clear hb
      rw [if_neg (by simp)]
      have HN0 := fun W => rclassName_any s W
      obtain ⟨er, he⟩ : ∃ er, er = nameE (Ds.bl s) := ⟨_, rfl⟩
      rw [← he] at HN0 ⊢
      have HN := hid HN0
      have hss : (⟨(Ds.bl s).toArray⟩ : ByteArray) = s := ba_ext rfl
      clear he HN0 ha
      by_cases h0 : er = 0
      · subst h0
        rw [if_pos rfl]
        unfold tyV
        dsimp only
        rw [hss]
        clear hss
        go_enter Tryd.func12, Tryd.ntmps12
        go_wp2_with (first
            | (go_at_call 29; refine (HN.out _).mono ?_; rintro e w1 ⟨rfl, hb1⟩; obtain ⟨hcc, hff⟩ := bcell hb1; have hz1 := hb1.size; simp only [World.size_alloc] at hz1; have hz2 : w.heap.size < w1.heap.size := (by omega)))
        have hA := belows (B := w.heap.size) (a := w) (by repeat' first | with_reducible exact Below.refl _ _ | with_reducible assumption | with_reducible refine belows_drewN ?_ _ | with_reducible refine Below.drew ?_ | with_reducible refine Below.setCell ?_ ?_ _ | with_reducible refine Below.alloc ?_ ?_ _ | omega | (simp; done) | (simp; omega)) hb1 (by simp)
        exact bodyPost_ret (v := .tuple #[.agg #[.int .i64 4, .string s], .int .i64 0]) (by simp [results, Tryd.results12, go_sem, hcc]) rfl ⟨rfl, (by repeat' first | with_reducible exact Below.refl _ _ | with_reducible assumption | with_reducible refine belows_drewN ?_ _ | with_reducible refine Below.drew ?_ | with_reducible refine Below.setCell ?_ ?_ _ | with_reducible refine Below.alloc ?_ ?_ _ | omega | (simp; done) | (simp; omega))⟩
      · rw [if_neg h0]
        have hne : (er != 0) = true := by simpa using h0
        unfold tyV
        clear hss h0
        go_enter Tryd.func12, Tryd.ntmps12
        go_wp2_with (first
            | (go_at_call 29; refine (HN.out _).mono ?_; rintro e w1 ⟨rfl, hb1⟩; obtain ⟨hcc, hff⟩ := bcell hb1; have hz1 := hb1.size; simp only [World.size_alloc] at hz1; have hz2 : w.heap.size < w1.heap.size := (by omega)))
        have hA := belows (B := w.heap.size) (a := w) (by repeat' first | with_reducible exact Below.refl _ _ | with_reducible assumption | with_reducible refine belows_drewN ?_ _ | with_reducible refine Below.drew ?_ | with_reducible refine Below.setCell ?_ ?_ _ | with_reducible refine Below.alloc ?_ ?_ _ | omega | (simp; done) | (simp; omega)) hb1 (by simp)
        exact bodyPost_ret (v := .tuple #[.agg #[.int .i64 0, .string ⟨#[]⟩], .int .i64 er]) (by simp [results, Tryd.results12, go_sem, hcc]) rfl ⟨rfl, (by repeat' first | with_reducible exact Below.refl _ _ | with_reducible assumption | with_reducible refine belows_drewN ?_ _ | with_reducible refine Below.drew ?_ | with_reducible refine Below.setCell ?_ ?_ _ | with_reducible refine Below.alloc ?_ ?_ _ | omega | (simp; done) | (simp; omega))⟩
set_option maxRecDepth 100000 in
set_option maxHeartbeats 400000 in
theorem same_any (l : List Ds.Ty) (v u : Value) (w : World) (hv : Kit.IsS 2 w v l.length (l.flatMap tyC)) (hu : Kit.IsS 2 w u l.length (l.flatMap tyC)) :
    Calls Tryd.prog 14 #[v, u] w fun e w' => e = .returned (.bool true) ∧ Below w.heap.size w w' := by
  have HV := hid hv
  have HU := hid hu
  obtain ⟨a1, cap1, hv2⟩ := hv.len
  obtain ⟨a2, cap2, hu2⟩ := hu.len
  subst hv2 hu2
  have hlen := hv.2.1
  clear hv hu
  go_enter Tryd.func14, Tryd.ntmps14
  go_wp2
  go_loopw [5] (fun i wr => ∃ k : Nat, k ≤ l.length ∧ i = .int .i64 k ∧ Below w.heap.size w wr) (fun i _ => l.length - (intOf i).toNat)
  case atStart => exact ⟨0, by omega, rfl, (by repeat' first | with_reducible exact Below.refl _ _ | with_reducible assumption | with_reducible refine belows_drewN ?_ _ | with_reducible refine Below.drew ?_ | with_reducible refine Below.setCell ?_ ?_ _ | with_reducible refine Below.alloc ?_ ?_ _ | omega | (simp; done) | (simp; omega))⟩
  case round =>
    obtain ⟨k, hk, rfl, hbl⟩ := hrel
    have hbz := hbl.size
    by_cases hlt : k < l.length
    · obtain ⟨x, hx⟩ : ∃ x, l[k]? = some x := ⟨l[k], List.getElem?_eq_getElem hlt⟩
      obtain ⟨b, o, cap', hv, hb, c0, c1⟩ := ty_at (HV.out.below hbl (Nat.le_refl _)) hx
      obtain ⟨rfl, -, rfl⟩ := Value.slice.inj hv
      obtain ⟨b', o', cap', hv', hb', d0, d1⟩ := ty_at (HU.out.below hbl (Nat.le_refl _)) hx
      obtain ⟨rfl, -, rfl⟩ := Value.slice.inj hv'
      obtain ⟨xk, xm⟩ := x
      dsimp only at c0 c1 d0 d1
      have i1 : (k : Int) < (l.length : Int) := by omega
      clear hx hv hv'
      go_wp2
      go_quiet (fail)
      go_wp2
      go_roundw
      case rel => exact ⟨k + 1, by omega, by go_num, (by repeat' first | with_reducible exact Below.refl _ _ | with_reducible assumption | with_reducible refine belows_drewN ?_ _ | with_reducible refine Below.drew ?_ | with_reducible refine Below.setCell ?_ ?_ _ | with_reducible refine Below.alloc ?_ ?_ _ | omega | (simp; done) | (simp; omega))⟩
      case measure => simp [intOf]; omega
    · obtain rfl : k = l.length := by omega
      go_wp2
      go_ret
      exact ⟨rfl, (by repeat' first | with_reducible exact Below.refl _ _ | with_reducible assumption | with_reducible refine belows_drewN ?_ _ | with_reducible refine Below.drew ?_ | with_reducible refine Below.setCell ?_ ?_ _ | with_reducible refine Below.alloc ?_ ?_ _ | omega | (simp; done) | (simp; omega))⟩
end Go.Proofs.YthhjenmgcbmphaaDoor

/- Contract of the document's one: two indices, a text. -/
import Derived.Test.YtljbcclfafndmaaDoorCn
namespace Go.Proofs.YtljbcclfafndmaaDoor
open Go.RowKit

set_option maxRecDepth 100000 in
set_option maxHeartbeats 400000 in
theorem one_two (last : Bool) (c : UInt8) (r : List UInt8) (v : Value) (w : World) (hv : Bs w.heap.size w v (c :: r)) (hs : 4 ≤ r.length) (hc : (c.toNat : Int) = 9 ∨ (c.toNat : Int) = 10 ∨ (c.toNat : Int) = 12) : Calls Tryd.prog 37 #[v, .bool last] w (OnPost (⟨(c.toNat : Int), ⟨#[]⟩, 0, Cp.numI (r.take 2), Cp.numI ((r.drop 2).take 2)⟩, 5, 0) w) := by
  unfold OnPost cC
  dsimp only
  have HK := hid (fun W => known_any (c.toNat : Int) W)
  rw [show Cp.knownB (c.toNat : Int) = true by unfold Cp.knownB; rw [decide_eq_true_iff]; omega] at HK
  have HZ := hid (fun W => size_any (c.toNat : Int) W)
  rw [show szOf (c.toNat : Int) = 4 by unfold szOf; rw [if_neg (by omega), if_neg (by omega)]] at HZ
  have e1 : ((c.toNat : Int) == 1) = false := by rw [beq_eq_false_iff_ne]; omega
  have e3 : ((c.toNat : Int) == 3) = false := by rw [beq_eq_false_iff_ne]; omega
  have e5 : ((c.toNat : Int) == 5) = false := by rw [beq_eq_false_iff_ne]; omega
  have e7 : ((c.toNat : Int) == 7) = false := by rw [beq_eq_false_iff_ne]; omega
  have hcu := Cp.u8_lt c
  obtain ⟨a, cap, rfl⟩ := hv.len
  obtain ⟨b, o, rfl, hb, hcell⟩ := hv.at (k := 0) (c := c) rfl
  have hsub := sub_bs hv (i := 1) (j := 3) (by omega) (by rw [List.length_cons]; omega)
  rw [show ((c :: r).drop 1).take (3 - 1) = r.take 2 from rfl, show 3 - 1 = 2 from rfl] at hsub
  have hsu2 := sub_bs hv (i := 3) (j := 5) (by omega) (by rw [List.length_cons]; omega)
  rw [show ((c :: r).drop 3).take (5 - 3) = (r.drop 2).take 2 from rfl, show 5 - 3 = 2 from rfl] at hsu2
  have HG0 := fun W (h : Below w.heap.size w W) => get_any w.heap.size (r.take 2) _ W (hsub.below h (Nat.le_refl _))
  have HJ0 := fun W (h : Below w.heap.size w W) => get_any w.heap.size ((r.drop 2).take 2) _ W (hsu2.below h (Nat.le_refl _))
  have hcap : (c :: r).length ≤ cap := by
    rcases hv.2 with ⟨h, -⟩ | ⟨b', o', cap', h, hc, -⟩
    · cases h
    · obtain ⟨-, -, rfl⟩ := Value.slice.inj h; exact hc
  rw [List.length_cons] at hcap
  have hn0 : (((c :: r).length : Int) == 0) = false := by rw [beq_eq_false_iff_ne, List.length_cons]; omega
  have hn1 : (0 : Int) < ((c :: r).length : Int) := by rw [List.length_cons]; omega
  have hn2 : decide (((c :: r).length : Int) < 5) = false := by rw [List.length_cons, decide_eq_false_iff_not]; omega
  obtain ⟨n, hn⟩ : ∃ n, n = (c :: r).length := ⟨_, rfl⟩
  obtain ⟨z, hz⟩ : ∃ z, z = Cp.numI (r.take 2) := ⟨_, rfl⟩
  obtain ⟨y, hy⟩ : ∃ y, y = Cp.numI ((r.drop 2).take 2) := ⟨_, rfl⟩
  rw [← hn] at hn0 hn1 hn2 ⊢
  rw [← hz] at HG0 ⊢
  rw [← hy] at HJ0 ⊢
  have hc3 : ¬ cap = 3 := by omega
  have hc3' : (3 : Int) ≤ (cap : Int) := by omega
  have HJ := hid HJ0
  have hc1 : ¬ cap = 1 := by omega
  have hc5 : (5 : Int) ≤ (cap : Int) := by omega
  have HG := hid HG0
  rw [Nat.add_zero] at hcell
  clear hv hn hz hy hsub hsu2 HG0 HJ0 hs hcap hc
  go_enter Tryd.func37, Tryd.ntmps37
  go_wp2_with (first | (go_at_call 51; refine (HK.out _).mono ?_; rintro e w1 ⟨rfl, rfl⟩) | (go_at_call 52; refine (HZ.out _).mono ?_; rintro e w1 ⟨rfl, rfl⟩))
  go_region_law (first
    | (refine Kit.step_call1 rfl 36 (.tmp 44) 22 rfl (.slice (some ⟨b, o + 1, none⟩) 2 (cap - 1)) rfl (cf_get _ _) _ (HG.out _ (by repeat' first | with_reducible exact Below.refl _ _ | with_reducible assumption | with_reducible refine belows_drewN ?_ _ | with_reducible refine Below.drew ?_ | with_reducible refine Below.setCell ?_ ?_ _ | with_reducible refine Below.alloc ?_ ?_ _ | omega | (simp; done) | (simp; omega))) ?_; rintro e w1 ⟨rfl, rfl⟩; refine ⟨_, rfl, ?_⟩)
    | (refine Kit.step_call1 rfl 36 (.tmp 47) 22 rfl (.slice (some ⟨b, o + 3, none⟩) 2 (cap - 3)) rfl (cf_get _ _) _ (HJ.out _ (by repeat' first | with_reducible exact Below.refl _ _ | with_reducible assumption | with_reducible refine belows_drewN ?_ _ | with_reducible refine Below.drew ?_ | with_reducible refine Below.setCell ?_ ?_ _ | with_reducible refine Below.alloc ?_ ?_ _ | omega | (simp; done) | (simp; omega))) ?_; rintro e w1 ⟨rfl, rfl⟩; refine ⟨_, rfl, ?_⟩))
  all_goals
    go_wp2
    exact bodyPost_ret (v := .tuple #[.agg #[.int .i64 c.toNat, .string ⟨#[]⟩, .int .i64 0, .int .i64 z, .int .i64 y], .int .i64 5, .int .i64 0]) (by simp [results, Tryd.results37, go_sem]) rfl ⟨rfl, (by repeat' first | with_reducible exact Below.refl _ _ | with_reducible assumption | with_reducible refine belows_drewN ?_ _ | with_reducible refine Below.drew ?_ | with_reducible refine Below.setCell ?_ ?_ _ | with_reducible refine Below.alloc ?_ ?_ _ | omega | (simp; done) | (simp; omega))⟩
/-- What one tells of a text's entry. -/
def utO (r : List UInt8) : Cp.C × Int × Int := match txP 2 r with
  | .error e => (Cp.C0, 0, e)
  | .ok (s, _) => (⟨1, ⟨s.toArray⟩, 0, 0, 0⟩, 3 + s.length, 0)
set_option maxRecDepth 100000 in
set_option maxHeartbeats 400000 in
theorem one_utf (last : Bool) (r : List UInt8) (v : Value) (w : World) (hv : Bs w.heap.size w v (1 :: r)) (hs : 2 ≤ r.length) : Calls Tryd.prog 37 #[v, .bool last] w (OnPost (utO r) w) := by
  unfold OnPost utO
  have hx : txP 2 r = (if 255 < Cp.numI (r.take 2) then .error 32 else if ((r.drop 2).length : Int) < Cp.numI (r.take 2) then .error 30 else if Cp.plainB ((r.drop 2).take (Cp.numI (r.take 2)).toNat) = true then .ok ((r.drop 2).take (Cp.numI (r.take 2)).toNat, (r.drop 2).drop (Cp.numI (r.take 2)).toNat) else .error 32) := by unfold txP; rw [if_neg (by omega)]
  have hrange : 0 ≤ Cp.numI (r.take 2) ∧ Cp.numI (r.take 2) < 65536 := numI_2 (by rw [List.length_take]; omega)
  have HK := hid (fun W => known_any 1 W)
  rw [show Cp.knownB 1 = true from rfl] at HK
  have HZ := hid (fun W => size_any 1 W)
  rw [show szOf 1 = 2 from rfl] at HZ
  have hbnd := hv.1
  obtain ⟨a, cap, rfl⟩ := hv.len
  obtain ⟨b, o, rfl, hb, hcell⟩ := hv.at (k := 0) (c := 1) rfl
  have hsub := sub_bs hv (i := 1) (j := 3) (by omega) (by rw [List.length_cons]; omega)
  rw [show ((1 :: r).drop 1).take (3 - 1) = r.take 2 from rfl, show 3 - 1 = 2 from rfl] at hsub
  have HG0 := fun W (h : Below w.heap.size w W) => get_any w.heap.size (r.take 2) _ W (hsub.below h (Nat.le_refl _))
  have hcap : (1 :: r).length ≤ cap := by
    rcases hv.2 with ⟨h, -⟩ | ⟨b', o', cap', h, hc, -⟩
    · cases h
    · obtain ⟨-, -, rfl⟩ := Value.slice.inj h; exact hc
  have hsb3 := fun j (h1 : 3 ≤ j) (h2 : j ≤ (1 :: r).length) => sub_bs hv (i := 3) (j := j) h1 h2
  rw [List.length_cons] at hcap
  rw [List.length_cons] at hbnd
  have hn0 : (((1 :: r).length : Int) == 0) = false := by rw [beq_eq_false_iff_ne, List.length_cons]; omega
  have hn1 : (0 : Int) < ((1 :: r).length : Int) := by rw [List.length_cons]; omega
  have hn2 : decide (((1 :: r).length : Int) < 3) = false := by rw [List.length_cons, decide_eq_false_iff_not]; omega
  obtain ⟨N, hN⟩ := Int.eq_ofNat_of_zero_le hrange.1
  rw [hN] at HG0 hx hrange
  rw [show ((N : Int)).toNat = N by omega] at hx
  have hc1 : ¬ cap = 1 := by omega
  have hc3 : (3 : Int) ≤ (cap : Int) := by omega
  have HG := hid HG0
  rw [Nat.add_zero] at hcell
  rw [hx]
  by_cases h255 : 255 < (N : Int)
  · rw [if_pos h255]
    have hd : decide (255 < (N : Int)) = true := by simpa using h255
    unfold cC Cp.C0
    dsimp only
    obtain ⟨n, hn⟩ : ∃ n, n = (1 :: r).length := ⟨_, rfl⟩
    rw [← hn] at hn0 hn1 hn2 ⊢
    clear hv hn hN hsub hsb3 HG0 hs hcap hx h255 hbnd
    go_enter Tryd.func37, Tryd.ntmps37; go_wp2_with (first | (go_at_call 51; refine (HK.out _).mono ?_; rintro e w1 ⟨rfl, rfl⟩) | (go_at_call 52; refine (HZ.out _).mono ?_; rintro e w1 ⟨rfl, rfl⟩) | (go_at_call 36; refine (HG.out _ (by repeat' first | with_reducible exact Below.refl _ _ | with_reducible assumption | with_reducible refine belows_drewN ?_ _ | with_reducible refine Below.drew ?_ | with_reducible refine Below.setCell ?_ ?_ _ | with_reducible refine Below.alloc ?_ ?_ _ | omega | (simp; done) | (simp; omega))).mono ?_; rintro e w1 ⟨rfl, rfl⟩) | (go_at_call 53; refine (HX.out _).mono ?_; rintro e w1 ⟨rfl, rfl⟩))
    exact bodyPost_ret (v := .tuple #[.agg #[.int .i64 0, .string ⟨#[]⟩, .int .i64 0, .int .i64 0, .int .i64 0], .int .i64 0, .int .i64 32]) (by simp [results, Tryd.results37, go_sem]) rfl ⟨rfl, (by repeat' first | with_reducible exact Below.refl _ _ | with_reducible assumption | with_reducible refine belows_drewN ?_ _ | with_reducible refine Below.drew ?_ | with_reducible refine Below.setCell ?_ ?_ _ | with_reducible refine Below.alloc ?_ ?_ _ | omega | (simp; done) | (simp; omega))⟩
  · rw [if_neg h255]
    have hd : decide (255 < (N : Int)) = false := by simp; omega
    by_cases hsh : ((r.drop 2).length : Int) < (N : Int)
    · rw [if_pos hsh]
      rw [List.length_drop] at hsh
      have hd2 : decide (((1 :: r).length : Int) < 3 + (N : Int)) = true := by rw [List.length_cons, decide_eq_true_iff]; omega
      unfold cC Cp.C0
      dsimp only
      obtain ⟨n, hn⟩ : ∃ n, n = (1 :: r).length := ⟨_, rfl⟩
      rw [← hn] at hn0 hn1 hn2 hd2 ⊢
      clear hv hn hN hsub hsb3 HG0 hs hcap hx h255 hbnd hsh
      go_enter Tryd.func37, Tryd.ntmps37; go_wp2_with (first | (go_at_call 51; refine (HK.out _).mono ?_; rintro e w1 ⟨rfl, rfl⟩) | (go_at_call 52; refine (HZ.out _).mono ?_; rintro e w1 ⟨rfl, rfl⟩) | (go_at_call 36; refine (HG.out _ (by repeat' first | with_reducible exact Below.refl _ _ | with_reducible assumption | with_reducible refine belows_drewN ?_ _ | with_reducible refine Below.drew ?_ | with_reducible refine Below.setCell ?_ ?_ _ | with_reducible refine Below.alloc ?_ ?_ _ | omega | (simp; done) | (simp; omega))).mono ?_; rintro e w1 ⟨rfl, rfl⟩) | (go_at_call 53; refine (HX.out _).mono ?_; rintro e w1 ⟨rfl, rfl⟩))
      exact bodyPost_ret (v := .tuple #[.agg #[.int .i64 0, .string ⟨#[]⟩, .int .i64 0, .int .i64 0, .int .i64 0], .int .i64 0, .int .i64 30]) (by simp [results, Tryd.results37, go_sem]) rfl ⟨rfl, (by repeat' first | with_reducible exact Below.refl _ _ | with_reducible assumption | with_reducible refine belows_drewN ?_ _ | with_reducible refine Below.drew ?_ | with_reducible refine Below.setCell ?_ ?_ _ | with_reducible refine Below.alloc ?_ ?_ _ | omega | (simp; done) | (simp; omega))⟩
    · rw [if_neg hsh]
      rw [List.length_drop] at hsh
      have hd2 : decide (((1 :: r).length : Int) < 3 + (N : Int)) = false := by rw [List.length_cons, decide_eq_false_iff_not]; omega
      have hb3 := hsb3 (3 + N) (by omega) (by rw [List.length_cons]; omega)
      rw [show ((1 :: r).drop 3) = r.drop 2 from rfl, show 3 + N - 3 = N by omega] at hb3
      obtain ⟨s, hss⟩ : ∃ s, s = (r.drop 2).take N := ⟨_, rfl⟩
      have hsl : s.length = N := by rw [hss, List.length_take, List.length_drop]; omega
      rw [← hss] at hb3 ⊢
      have hcv := bs_conv (hb3.below (B := w.heap.size) (w' := (w.alloc (.cells #[.int .i64 0, .string ⟨#[]⟩, .int .i64 0, .int .i64 0, .int .i64 0] 46)).alloc (.cells #[.int .i64 1, .string ⟨#[]⟩, .int .i64 0, .int .i64 0, .int .i64 0] 46)) (by repeat' first | with_reducible exact Below.refl _ _ | with_reducible assumption | with_reducible refine belows_drewN ?_ _ | with_reducible refine Below.drew ?_ | with_reducible refine Below.setCell ?_ ?_ _ | with_reducible refine Below.alloc ?_ ?_ _ | omega | (simp; done) | (simp; omega)) (Nat.le_refl _))
      have HX0 := fun W => texts_any ⟨s.toArray⟩ W (by rw [str_size]; omega)
      rw [str_size, show Cp.bl ⟨s.toArray⟩ = s from rfl, show decide (s.length ≤ 255) = true by rw [decide_eq_true_iff]; omega, Bool.and_true] at HX0
      have t1 : IntKind.i64.wrap ((3 : Int) + N) = 3 + N := IntWalk.i64_in _ (by omega)
      have t2 : (3 : Int) ≤ 3 + N := by omega
      have t3 : ((3 : Int) + N).toNat = 3 + N := by omega
      have t4 : (3 : Int) + N ≤ cap := by omega
      have HSl := hid hsl
      obtain ⟨st, hst⟩ : ∃ st : ByteArray, st = ⟨s.toArray⟩ := ⟨_, rfl⟩
      rw [← hst] at HX0 hcv
      have HSt := hid hst
      have hcv2 : (¬ cap = 3) ∨ (cap = 3 ∧ N = 0 ∧ (convert 22 9 (.slice (some ⟨b, o, none⟩) 0 0)).run Tryd.prog ((w.alloc (.cells #[.int .i64 0, .string ⟨#[]⟩, .int .i64 0, .int .i64 0, .int .i64 0] 46)).alloc (.cells #[.int .i64 1, .string ⟨#[]⟩, .int .i64 0, .int .i64 0, .int .i64 0] 46)) = .ok (.string st) ((w.alloc (.cells #[.int .i64 0, .string ⟨#[]⟩, .int .i64 0, .int .i64 0, .int .i64 0] 46)).alloc (.cells #[.int .i64 1, .string ⟨#[]⟩, .int .i64 0, .int .i64 0, .int .i64 0] 46))) := by
        by_cases h3 : cap = 3
        · have hN0 : N = 0 := by omega
          have hs0 : s = [] := List.eq_nil_of_length_eq_zero (by omega)
          refine .inr ⟨h3, hN0, ?_⟩
          rw [hst, hs0]
          exact bs_conv (lim := w.heap.size) (l := []) ⟨by simp, .inl ⟨rfl, _, _, rfl⟩⟩
        · exact .inl h3
      obtain ⟨n, hn⟩ : ∃ n, n = (1 :: r).length := ⟨_, rfl⟩
      rw [← hn] at hn0 hn1 hn2 hd2 ⊢
      cases hp : Cp.plainB s with
      | true =>
        rw [if_pos rfl]
        rw [hp] at HX0
        have HX := hid HX0
        dsimp only
        unfold cC
        dsimp only
        clear hv hn hN hsub hsb3 HG0 hs hcap hx h255 hbnd hsh hb3 hss hsl HX0 hp hst
        rcases hcv2 with hcap3 | ⟨rfl, rfl, hcv0⟩
        · go_enter Tryd.func37, Tryd.ntmps37; go_wp2_with (first | (go_at_call 51; refine (HK.out _).mono ?_; rintro e w1 ⟨rfl, rfl⟩) | (go_at_call 52; refine (HZ.out _).mono ?_; rintro e w1 ⟨rfl, rfl⟩) | (go_at_call 36; refine (HG.out _ (by repeat' first | with_reducible exact Below.refl _ _ | with_reducible assumption | with_reducible refine belows_drewN ?_ _ | with_reducible refine Below.drew ?_ | with_reducible refine Below.setCell ?_ ?_ _ | with_reducible refine Below.alloc ?_ ?_ _ | omega | (simp; done) | (simp; omega))).mono ?_; rintro e w1 ⟨rfl, rfl⟩) | (go_at_call 53; refine (HX.out _).mono ?_; rintro e w1 ⟨rfl, rfl⟩))
          exact bodyPost_ret (v := .tuple #[.agg #[.int .i64 1, .string st, .int .i64 0, .int .i64 0, .int .i64 0], .int .i64 (3 + N), .int .i64 0]) (by simp [results, Tryd.results37, go_sem]) rfl ⟨by rw [← HSt.out, HSl.out], (by repeat' first | with_reducible exact Below.refl _ _ | with_reducible assumption | with_reducible refine belows_drewN ?_ _ | with_reducible refine Below.drew ?_ | with_reducible refine Below.setCell ?_ ?_ _ | with_reducible refine Below.alloc ?_ ?_ _ | omega | (simp; done) | (simp; omega))⟩
        · go_enter Tryd.func37, Tryd.ntmps37; go_wp2_with (first | (go_at_call 51; refine (HK.out _).mono ?_; rintro e w1 ⟨rfl, rfl⟩) | (go_at_call 52; refine (HZ.out _).mono ?_; rintro e w1 ⟨rfl, rfl⟩) | (go_at_call 36; refine (HG.out _ (by repeat' first | with_reducible exact Below.refl _ _ | with_reducible assumption | with_reducible refine belows_drewN ?_ _ | with_reducible refine Below.drew ?_ | with_reducible refine Below.setCell ?_ ?_ _ | with_reducible refine Below.alloc ?_ ?_ _ | omega | (simp; done) | (simp; omega))).mono ?_; rintro e w1 ⟨rfl, rfl⟩) | (go_at_call 53; refine (HX.out _).mono ?_; rintro e w1 ⟨rfl, rfl⟩))
          exact bodyPost_ret (v := .tuple #[.agg #[.int .i64 1, .string st, .int .i64 0, .int .i64 0, .int .i64 0], .int .i64 3, .int .i64 0]) (by simp [results, Tryd.results37, go_sem]) rfl ⟨by rw [← HSt.out, HSl.out]; rfl, (by repeat' first | with_reducible exact Below.refl _ _ | with_reducible assumption | with_reducible refine belows_drewN ?_ _ | with_reducible refine Below.drew ?_ | with_reducible refine Below.setCell ?_ ?_ _ | with_reducible refine Below.alloc ?_ ?_ _ | omega | (simp; done) | (simp; omega))⟩
      | false =>
        rw [if_neg (by simp)]
        rw [hp] at HX0
        have HX := hid HX0
        dsimp only
        unfold cC Cp.C0
        dsimp only
        clear hv hn hN hsub hsb3 HG0 hs hcap hx h255 hbnd hsh hb3 hss hsl HX0 hp hst
        rcases hcv2 with hcap3 | ⟨rfl, rfl, hcv0⟩
        · go_enter Tryd.func37, Tryd.ntmps37; go_wp2_with (first | (go_at_call 51; refine (HK.out _).mono ?_; rintro e w1 ⟨rfl, rfl⟩) | (go_at_call 52; refine (HZ.out _).mono ?_; rintro e w1 ⟨rfl, rfl⟩) | (go_at_call 36; refine (HG.out _ (by repeat' first | with_reducible exact Below.refl _ _ | with_reducible assumption | with_reducible refine belows_drewN ?_ _ | with_reducible refine Below.drew ?_ | with_reducible refine Below.setCell ?_ ?_ _ | with_reducible refine Below.alloc ?_ ?_ _ | omega | (simp; done) | (simp; omega))).mono ?_; rintro e w1 ⟨rfl, rfl⟩) | (go_at_call 53; refine (HX.out _).mono ?_; rintro e w1 ⟨rfl, rfl⟩))
          exact bodyPost_ret (v := .tuple #[.agg #[.int .i64 0, .string ⟨#[]⟩, .int .i64 0, .int .i64 0, .int .i64 0], .int .i64 0, .int .i64 32]) (by simp [results, Tryd.results37, go_sem]) rfl ⟨rfl, (by repeat' first | with_reducible exact Below.refl _ _ | with_reducible assumption | with_reducible refine belows_drewN ?_ _ | with_reducible refine Below.drew ?_ | with_reducible refine Below.setCell ?_ ?_ _ | with_reducible refine Below.alloc ?_ ?_ _ | omega | (simp; done) | (simp; omega))⟩
        · go_enter Tryd.func37, Tryd.ntmps37; go_wp2_with (first | (go_at_call 51; refine (HK.out _).mono ?_; rintro e w1 ⟨rfl, rfl⟩) | (go_at_call 52; refine (HZ.out _).mono ?_; rintro e w1 ⟨rfl, rfl⟩) | (go_at_call 36; refine (HG.out _ (by repeat' first | with_reducible exact Below.refl _ _ | with_reducible assumption | with_reducible refine belows_drewN ?_ _ | with_reducible refine Below.drew ?_ | with_reducible refine Below.setCell ?_ ?_ _ | with_reducible refine Below.alloc ?_ ?_ _ | omega | (simp; done) | (simp; omega))).mono ?_; rintro e w1 ⟨rfl, rfl⟩) | (go_at_call 53; refine (HX.out _).mono ?_; rintro e w1 ⟨rfl, rfl⟩))
          exact bodyPost_ret (v := .tuple #[.agg #[.int .i64 0, .string ⟨#[]⟩, .int .i64 0, .int .i64 0, .int .i64 0], .int .i64 0, .int .i64 32]) (by simp [results, Tryd.results37, go_sem]) rfl ⟨rfl, (by repeat' first | with_reducible exact Below.refl _ _ | with_reducible assumption | with_reducible refine belows_drewN ?_ _ | with_reducible refine Below.drew ?_ | with_reducible refine Below.setCell ?_ ?_ _ | with_reducible refine Below.alloc ?_ ?_ _ | omega | (simp; done) | (simp; omega))⟩
/-- One, whatever the bytes. -/
theorem txP_len {k : Nat} {bs s r : List UInt8} (h : txP k bs = .ok (s, r)) : k + s.length + r.length = bs.length := by
  unfold txP at h
  repeat' split at h
  all_goals cases h
  simp only [List.length_take, List.length_drop]
  omega
end Go.Proofs.YtljbcclfafndmaaDoor

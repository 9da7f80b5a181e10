/- The law of reading. -/
import Derived.Test.YthhjenmgcbmphaaDoorRmt
import Derived.Test.YthhjenmgcbmphaaDoorCr
import Derived.Test.YthhjenmgcbmphaaDoorBg
namespace Go.Proofs.YthhjenmgcbmphaaDoor
open Go.RowKit

theorem chainB {a b c : World} {o : Obj} (h1 : Below a.heap.size a b) (h2 : Below (b.alloc o).heap.size (b.alloc o) c) : Below a.heap.size a c := belows (h1.alloc h1.size o) h2 (by rw [World.size_alloc]; have := h1.size; omega)
theorem chainT {a b c : World} (h1 : Below a.heap.size a b) (h2 : Below b.heap.size b c) : Below a.heap.size a c := belows h1 h2 h1.size
theorem chain0 {b c : World} {o : Obj} (h2 : Below (b.alloc o).heap.size (b.alloc o) c) : Below b.heap.size b c := chainB (Below.refl _ b) h2
/-- A type's box, at the world it is made in and later. -/
theorem boxT {w c : World} {k : Int} {m : ByteArray} (h : Below (w.alloc (.cells #[.int .i64 k, .string m] 23)).heap.size (w.alloc (.cells #[.int .i64 k, .string m] 23)) c) : c.cell? ⟨w.heap.size, 0, none⟩ = some (.int .i64 k) ∧ c.cell? ⟨w.heap.size, 1, none⟩ = some (.string m) := by
  refine ⟨(h.cell (p := ⟨w.heap.size, 0, none⟩) (by simp)).trans ?_, (h.cell (p := ⟨w.heap.size, 1, none⟩) (by simp)).trans ?_⟩ <;> simp [go_sem]
set_option maxRecDepth 100000 in
set_option maxHeartbeats 1000000 in
theorem lawReads (s : ByteArray) (w : World) :
    Calls Tryd.prog 3 #[.string s] w fun e w' => e = .returned (.bool true) ∧ Below w.heap.size w w' := by
  have HA0 := fun W => field_any s W
  have HB0 := fun W => rfield_any s W
  have HM0 := fun W => method_any s W
  have HN0 := fun W => rmethod_any s W
  have HC0 := fun W => class_any s W
  have HD0 := fun W => rclassT_any s W
  unfold FdPost at HB0
  unfold MOut at HM0
  unfold RmP at HN0
  unfold tyV at HA0 HB0 HM0 HC0 HD0
  obtain ⟨⟨⟨a1, a2⟩, a3⟩, ha⟩ : ∃ x, x = fdOut (Ds.bl s) := ⟨_, rfl⟩
  obtain ⟨⟨⟨c1, c2⟩, c3⟩, hc⟩ : ∃ x, x = clOut (Ds.bl s) := ⟨_, rfl⟩
  obtain ⟨⟨l, ⟨m1, m2⟩, m3⟩, hm⟩ : ∃ x, x = mdOut (Ds.bl s) := ⟨_, rfl⟩
  have hlen : l.length ≤ 140737488355328 := mdOut_len hm.symm
  rw [← ha] at HA0 HB0
  rw [← hc] at HC0 HD0
  rw [← hm] at HM0 HN0
  dsimp only at HA0 HB0 HC0 HD0 HM0 HN0
  obtain ⟨s2, hs2⟩ : ∃ s2 : ByteArray, s2 = ⟨a2.toArray⟩ := ⟨_, rfl⟩
  obtain ⟨t2, ht2⟩ : ∃ t2 : ByteArray, t2 = ⟨c2.toArray⟩ := ⟨_, rfl⟩
  obtain ⟨u2, hu2⟩ : ∃ u2 : ByteArray, u2 = ⟨m2.toArray⟩ := ⟨_, rfl⟩
  rw [← hs2] at HA0 HB0
  rw [← ht2] at HC0 HD0
  rw [← hu2] at HM0 HN0
  have HA := hid HA0
  have HB := hid HB0
  have HC := hid HC0
  have HD := hid HD0
  have HM := hid HM0
  have HN := hid HN0
  have HL := hid hlen
  clear HA0 HB0 HC0 HD0 HM0 HN0 ha hc hm hs2 ht2 hu2 hlen
  go_enter Tryd.func3, Tryd.ntmps3
  go_wp2_with (first
    | (go_at_call 14; refine (same_any l _ _ w7 HV.out HU.out).mono ?_; rintro e w8 ⟨rfl, hb8⟩; have R1 := boxT (chainT Q1 hb8); have R2 := boxT (chainT Q2 hb8); have R3 := boxT (chainT Q3 hb8); have R4 := boxT (chainT Q4 hb8); have R5 := boxT (chainT Q5 hb8); have R6 := boxT (chainT hb7 hb8); obtain ⟨e10, e11⟩ := R1; obtain ⟨e20, e21⟩ := R2; obtain ⟨e30, e31⟩ := R3; obtain ⟨e40, e41⟩ := R4; obtain ⟨e50, e51⟩ := R5; obtain ⟨e60, e61⟩ := R6)
    | (go_at_call 13; refine (begun_any _).mono ?_; rintro e w7 ⟨rfl, hb7⟩; have Q5 := chainB hb6 hb7; have Q4 := chainB hb5 Q5; have Q3 := chainB hb4 Q4; have Q2 := chainB hb3 Q3; have Q1 := chainB hb2 Q2; have Q0 := chainB hb1 Q1; obtain ⟨d10, d11⟩ := boxT Q1; obtain ⟨d20, d21⟩ := boxT Q2; obtain ⟨d30, d31⟩ := boxT Q3; obtain ⟨d40, d41⟩ := boxT Q4; obtain ⟨d50, d51⟩ := boxT Q5; obtain ⟨d60, d61⟩ := boxT hb7; have HV := hid (Kit.isS_of_owns (Kit.owns_below ho3 (chain0 Q3) (Nat.le_refl _)) HL.out); have HU := hid (Kit.isS_of_owns (Kit.owns_below ho4 (chain0 Q4) (Nat.le_refl _)) HL.out))
    | (go_at_call 7; refine (HA.out _).mono ?_; rintro e w1 ⟨rfl, hb1⟩)
    | (go_at_call 8; refine (HB.out _).mono ?_; rintro e w2 ⟨rfl, hb2⟩)
    | (go_at_call 9; refine (HM.out _).mono ?_; rintro e w3 ⟨v3, rfl, ho3, hb3⟩)
    | (go_at_call 10; refine (HN.out _).mono ?_; rintro e w4 ⟨v4, rfl, ho4, hb4⟩)
    | (go_at_call 11; refine (HC.out _).mono ?_; rintro e w5 ⟨rfl, hb5⟩)
    | (go_at_call 12; refine (HD.out _).mono ?_; rintro e w6 ⟨rfl, hb6⟩))
  go_ret
  exact ⟨rfl, belows Q0 hb8 Q0.size⟩
end Go.Proofs.YthhjenmgcbmphaaDoor

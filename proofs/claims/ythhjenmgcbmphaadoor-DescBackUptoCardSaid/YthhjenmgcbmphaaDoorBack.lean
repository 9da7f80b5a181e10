/- The law there and back. -/
import Derived.Test.YthhjenmgcbmphaaDoorDc
import Derived.Test.YthhjenmgcbmphaaDoorPn
import Derived.Test.YthhjenmgcbmphaaDoorBg
import Derived.Test.YthhjenmgcbmphaaDoorCr
import Derived.Test.YthhjenmgcbmphaaDoorReads
import Derived.Test.YthhjenmgcbmphaaDoorPrints
namespace Go.Proofs.YthhjenmgcbmphaaDoor
open Go.RowKit

set_option maxRecDepth 100000 in
set_option maxHeartbeats 2000000 in
theorem lawBack (s : ByteArray) (k : Int) (m : ByteArray) (l : List Ds.Ty) (v : Value) (w : World) (hk : (Lit.int .i64 k).wf = true) (hs : m.size ≤ 140737488351232) (hv : Kit.IsS 2 w v l.length (l.flatMap tyC)) (hg : ∀ y ∈ l, GoodT y) (hl : l.length ≤ 1048576) :
    Calls Tryd.prog 5 #[.string s, .agg #[.int .i64 k, .string m], v] w fun e w' => e = .returned (.bool true) ∧ Below w.heap.size w w' := by
  have HV := hid (fun W (h : Below w.heap.size w W) => hv.below h (Nat.le_refl _))
  have HLL := hid (show l.length ≤ 140737488355328 by omega)
  have hmm : (⟨(Ds.bl m).toArray⟩ : ByteArray) = m := ba_ext rfl
  have hss : (⟨(Ds.bl s).toArray⟩ : ByteArray) = s := ba_ext rfl
  -- what the text is as a field's
  have HA0 := fun W => field_any s W
  have DA0 : ∀ y er, fdOut (Ds.bl s) = (y, er) → (er = 0 ∧ ∀ W, Calls Tryd.prog 15 #[.agg #[.int .i64 y.1, .string ⟨y.2.toArray⟩]] W fun e w' => e = .returned (.tuple #[.string s, .int .i64 0]) ∧ Below W.heap.size W w') ∨ (er == 0) = false := by
    intro y er h
    by_cases he : er = 0
    · subst he
      refine .inl ⟨rfl, fun W => ?_⟩
      have hgd := isTy_good (fd_isTy h)
      have := print_any y.1 ⟨y.2.toArray⟩ W hgd.1 (by rw [str_size]; omega)
      rw [show (y.1, Ds.bl ⟨y.2.toArray⟩) = y from rfl, fd_print h] at this
      dsimp only at this
      rwa [hss] at this
    · exact .inr (by simpa using he)
  unfold tyV at HA0
  obtain ⟨⟨⟨a1, a2⟩, a3⟩, ha⟩ : ∃ x, x = fdOut (Ds.bl s) := ⟨_, rfl⟩
  have DA := DA0 _ _ ha.symm
  rw [← ha] at HA0
  dsimp only at HA0 DA
  obtain ⟨s2, hs2⟩ : ∃ s2 : ByteArray, s2 = ⟨a2.toArray⟩ := ⟨_, rfl⟩
  rw [← hs2] at HA0 DA
  have HA := hid HA0
  clear DA0 HA0 ha hs2
  -- as a method's
  have HM0 := fun W => method_any s W
  unfold MOut tyV at HM0
  have DB0 : ∀ a r er, mdOut (Ds.bl s) = (a, r, er) → (er = 0 ∧ ∀ (u : Value) W, Kit.IsS 2 W u a.length (a.flatMap tyC) → Calls Tryd.prog 17 #[.agg #[.int .i64 r.1, .string ⟨r.2.toArray⟩], u] W (fun e w' => ∃ p er, p = s ∧ er = (0 : Int) ∧ e = .returned (.tuple #[.string p, .int .i64 er]) ∧ Below W.heap.size W w')) ∨ (er == 0) = false := by
    intro a r er h
    by_cases he : er = 0
    · subst he
      refine .inl ⟨rfl, fun u W hu => ?_⟩
      obtain ⟨g1, g2, g3, g4⟩ := md_good h
      have := printMethod_any r.1 ⟨r.2.toArray⟩ a u W g3 (by rw [str_size]; omega) hu g1 (by omega)
      refine this.mono ?_
      rintro e w' ⟨p, er, hp, her, rfl, hb⟩
      rw [show (r.1, Ds.bl ⟨r.2.toArray⟩) = r from rfl, pm_md h] at hp her
      dsimp only at hp her
      exact ⟨⟨p.toArray⟩, er, by rw [hp, hss], her, rfl, hb⟩
    · exact .inr (by simpa using he)
  obtain ⟨⟨ml, ⟨m1, m2⟩, m3⟩, hm⟩ : ∃ x, x = mdOut (Ds.bl s) := ⟨_, rfl⟩
  have HML := hid (mdOut_len hm.symm)
  have DB := DB0 _ _ _ hm.symm
  rw [← hm] at HM0
  dsimp only at HM0 DB
  obtain ⟨u2, hu2⟩ : ∃ u2 : ByteArray, u2 = ⟨m2.toArray⟩ := ⟨_, rfl⟩
  rw [← hu2] at HM0 DB
  have HM := hid HM0
  clear DB0 HM0 hm hu2
  -- the type's text
  have HC0 := fun W => print_any k m W hk hs
  have DC0 : ∀ p er, prOut (k, Ds.bl m) = (p, er) → (er = 0 ∧ ∀ W, Calls Tryd.prog 7 #[.string ⟨p.toArray⟩] W fun e w' => e = .returned (.tuple #[.agg #[.int .i64 k, .string m], .int .i64 0]) ∧ Below W.heap.size W w') ∨ (er == 0) = false := by
    intro p er h
    by_cases he : er = 0
    · subst he
      refine .inl ⟨rfl, fun W => ?_⟩
      have h1 := prOut_ok (y := (k, Ds.bl m)) (by rw [h])
      rw [h] at h1
      have := field_any ⟨p.toArray⟩ W
      rw [show Ds.bl ⟨p.toArray⟩ = p from rfl, h1] at this
      unfold tyV at this
      dsimp only at this
      rwa [hmm] at this
    · exact .inr (by simpa using he)
  obtain ⟨⟨p1, p2⟩, hp⟩ : ∃ x, x = prOut (k, Ds.bl m) := ⟨_, rfl⟩
  have DC := DC0 _ _ hp.symm
  rw [← hp] at HC0
  dsimp only at HC0 DC
  obtain ⟨pt, hpt⟩ : ∃ pt : ByteArray, pt = ⟨p1.toArray⟩ := ⟨_, rfl⟩
  rw [← hpt] at HC0 DC
  have PC := hid HC0
  clear DC0 HC0 hp hpt
  -- the method's text
  have HD0 := fun W (h : Below w.heap.size w W) => printMethod_any k m l v W hk hs (HV.out W h) hg hl
  unfold PmPost at HD0
  have DD0 : ∀ p er, pmOut (k, Ds.bl m) l = (p, er) → (er = 0 ∧ ∀ W, Calls Tryd.prog 9 #[.string ⟨p.toArray⟩] W fun e w' => ∃ u, e = .returned (.tuple #[u, .agg #[.int .i64 k, .string m], .int .i64 0]) ∧ OwnT w' W.heap.size u l ∧ Below W.heap.size W w') ∨ (er == 0) = false := by
    intro p er h
    by_cases he : er = 0
    · subst he
      refine .inl ⟨rfl, fun W => ?_⟩
      have h1 := md_pm (r := (k, Ds.bl m)) (a := l) (by rw [h])
      rw [h] at h1
      have := method_any ⟨p.toArray⟩ W
      unfold MOut tyV at this
      rw [show Ds.bl ⟨p.toArray⟩ = p from rfl, h1] at this
      dsimp only at this
      rwa [hmm] at this
    · exact .inr (by simpa using he)
  obtain ⟨⟨q1, q2⟩, hq⟩ : ∃ x, x = pmOut (k, Ds.bl m) l := ⟨_, rfl⟩
  have DD := DD0 _ _ hq.symm
  rw [← hq] at HD0
  dsimp only at HD0 DD
  have HD1 : ∀ W, Below w.heap.size w W → Calls Tryd.prog 17 #[.agg #[.int .i64 k, .string m], v] W fun e w' => ∃ p er, p = (⟨q1.toArray⟩ : ByteArray) ∧ er = q2 ∧ e = .returned (.tuple #[.string p, .int .i64 er]) ∧ Below W.heap.size W w' := by
    intro W h
    refine (HD0 W h).mono ?_
    rintro e w' ⟨p, er, hp, her, rfl, hb⟩
    exact ⟨_, _, by rw [hp], her, rfl, hb⟩
  obtain ⟨qt, hqt⟩ : ∃ qt : ByteArray, qt = ⟨q1.toArray⟩ := ⟨_, rfl⟩
  rw [← hqt] at HD1 DD
  have PD := hid HD1
  clear DD0 HD0 HD1 hq hqt hmm hss hg
  have HSame := hid (fun (u u' : Value) W hu hu' => same_any l u u' W hu hu')
  have HSv := hid hv
  clear hv
  rcases DA with ⟨rfl, PA0⟩ | nA <;> rcases DB with ⟨rfl, PB0⟩ | nB <;> rcases DC with ⟨rfl, HF20⟩ | nC <;> rcases DD with ⟨rfl, HM20⟩ | nD
  all_goals
    (try have PA := hid PA0)
    (try have PB := hid PB0)
    (try have HF2 := hid HF20)
    (try have HM2 := hid HM20)
    (try clear PA0)
    (try clear PB0)
    (try clear HF20)
    (try clear HM20)
    (go_enter Tryd.func5, Tryd.ntmps5; have hB := Below.refl (w.alloc (.cells #[.int .i64 k, .string m] 23)).heap.size (w.alloc (.cells #[.int .i64 k, .string m] 23)); go_wp2_with (first | (go_at_call 14; refine (HSame.out _ _ _ (Kit.isS_of_owns (Kit.owns_below ho (B := W.heap.size) (by repeat' first | with_reducible exact Below.refl _ _ | with_reducible assumption | with_reducible refine belows_drewN ?_ _ | with_reducible refine Below.drew ?_ | with_reducible refine Below.setCell ?_ ?_ _ | with_reducible refine Below.alloc ?_ ?_ _ | omega | (simp; done) | (simp; omega)) (Nat.le_refl _)) HLL.out) (HV.out _ (by (have hX := chainX hB); exact (by repeat' first | with_reducible exact Below.refl _ _ | with_reducible assumption | with_reducible refine belows_drewN ?_ _ | with_reducible refine Below.drew ?_ | with_reducible refine Below.setCell ?_ ?_ _ | with_reducible refine Below.alloc ?_ ?_ _ | omega | (simp; done) | (simp; omega))))).mono ?_; rintro e W ⟨rfl, hb⟩; have hB : Below (w.alloc (.cells #[.int .i64 k, .string m] 23)).heap.size (w.alloc (.cells #[.int .i64 k, .string m] 23)) W := (by first | with_reducible exact belows hB hb hB.size | with_reducible exact chainB hB hb); obtain ⟨x0, x1⟩ := ((TB.new w k m).below hB (sizeA _ _)).facts; have hzW := hB.size; rw [World.size_alloc] at hzW; have hzw : w.heap.size < W.heap.size := (by omega); clear hb hzW) | (go_at_call 9; (with_reducible refine (HM2.out _).mono ?_); rintro e W ⟨v5, rfl, ho, hb⟩; have hB : Below (w.alloc (.cells #[.int .i64 k, .string m] 23)).heap.size (w.alloc (.cells #[.int .i64 k, .string m] 23)) W := (by first | with_reducible exact belows hB hb hB.size | with_reducible exact chainB hB hb); obtain ⟨x0, x1⟩ := ((TB.new w k m).below hB (sizeA _ _)).facts; have hzW := hB.size; rw [World.size_alloc] at hzW; have hzw : w.heap.size < W.heap.size := (by omega); clear hb hzW) | (go_at_call 17; (with_reducible refine (PD.out _ ?_).mono ?_); (exact (by (have hX := chainX hB); exact (by repeat' first | with_reducible exact Below.refl _ _ | with_reducible assumption | with_reducible refine belows_drewN ?_ _ | with_reducible refine Below.drew ?_ | with_reducible refine Below.setCell ?_ ?_ _ | with_reducible refine Below.alloc ?_ ?_ _ | omega | (simp; done) | (simp; omega)))); rintro e W ⟨p3, e3, rfl, rfl, rfl, hb⟩; have hB : Below (w.alloc (.cells #[.int .i64 k, .string m] 23)).heap.size (w.alloc (.cells #[.int .i64 k, .string m] 23)) W := (by first | with_reducible exact belows hB hb hB.size | with_reducible exact chainB hB hb); obtain ⟨x0, x1⟩ := ((TB.new w k m).below hB (sizeA _ _)).facts; have hzW := hB.size; rw [World.size_alloc] at hzW; have hzw : w.heap.size < W.heap.size := (by omega); clear hb hzW) | (go_at_call 7; (with_reducible refine (HF2.out _).mono ?_); rintro e W ⟨rfl, hb⟩; have hB : Below (w.alloc (.cells #[.int .i64 k, .string m] 23)).heap.size (w.alloc (.cells #[.int .i64 k, .string m] 23)) W := (by first | with_reducible exact belows hB hb hB.size | with_reducible exact chainB hB hb); obtain ⟨x0, x1⟩ := ((TB.new w k m).below hB (sizeA _ _)).facts; have hzW := hB.size; rw [World.size_alloc] at hzW; have hzw : w.heap.size < W.heap.size := (by omega); clear hb hzW) | (go_at_call 15; (with_reducible refine (PC.out _).mono ?_); rintro e W ⟨rfl, hb⟩; have hB : Below (w.alloc (.cells #[.int .i64 k, .string m] 23)).heap.size (w.alloc (.cells #[.int .i64 k, .string m] 23)) W := (by first | with_reducible exact belows hB hb hB.size | with_reducible exact chainB hB hb); obtain ⟨x0, x1⟩ := ((TB.new w k m).below hB (sizeA _ _)).facts; have hzW := hB.size; rw [World.size_alloc] at hzW; have hzw : w.heap.size < W.heap.size := (by omega); clear hb hzW) | (go_at_call 17; (with_reducible refine (PB.out _ _ ?_).mono ?_); exact Kit.isS_of_owns (Kit.owns_below ho (B := W.heap.size) (by repeat' first | with_reducible exact Below.refl _ _ | with_reducible assumption | with_reducible refine belows_drewN ?_ _ | with_reducible refine Below.drew ?_ | with_reducible refine Below.setCell ?_ ?_ _ | with_reducible refine Below.alloc ?_ ?_ _ | omega | (simp; done) | (simp; omega)) (Nat.le_refl _)) HML.out; rintro e W ⟨p3, e3, rfl, rfl, rfl, hb⟩; have hB : Below (w.alloc (.cells #[.int .i64 k, .string m] 23)).heap.size (w.alloc (.cells #[.int .i64 k, .string m] 23)) W := (by first | with_reducible exact belows hB hb hB.size | with_reducible exact chainB hB hb); obtain ⟨x0, x1⟩ := ((TB.new w k m).below hB (sizeA _ _)).facts; have hzW := hB.size; rw [World.size_alloc] at hzW; have hzw : w.heap.size < W.heap.size := (by omega); clear hb hzW) | (go_at_call 9; (with_reducible refine (HM.out _).mono ?_); rintro e W ⟨v3, rfl, ho, hb⟩; have hB : Below (w.alloc (.cells #[.int .i64 k, .string m] 23)).heap.size (w.alloc (.cells #[.int .i64 k, .string m] 23)) W := (by first | with_reducible exact belows hB hb hB.size | with_reducible exact chainB hB hb); obtain ⟨x0, x1⟩ := ((TB.new w k m).below hB (sizeA _ _)).facts; have hzW := hB.size; rw [World.size_alloc] at hzW; have hzw : w.heap.size < W.heap.size := (by omega); clear hb hzW) | (go_at_call 15; (with_reducible refine (PA.out _).mono ?_); rintro e W ⟨rfl, hb⟩; have hB : Below (w.alloc (.cells #[.int .i64 k, .string m] 23)).heap.size (w.alloc (.cells #[.int .i64 k, .string m] 23)) W := (by first | with_reducible exact belows hB hb hB.size | with_reducible exact chainB hB hb); obtain ⟨x0, x1⟩ := ((TB.new w k m).below hB (sizeA _ _)).facts; have hzW := hB.size; rw [World.size_alloc] at hzW; have hzw : w.heap.size < W.heap.size := (by omega); clear hb hzW) | (go_at_call 7; (with_reducible refine (HA.out _).mono ?_); rintro e W ⟨rfl, hb⟩; have hB : Below (w.alloc (.cells #[.int .i64 k, .string m] 23)).heap.size (w.alloc (.cells #[.int .i64 k, .string m] 23)) W := (by first | with_reducible exact belows hB hb hB.size | with_reducible exact chainB hB hb); obtain ⟨x0, x1⟩ := ((TB.new w k m).below hB (sizeA _ _)).facts; have hzW := hB.size; rw [World.size_alloc] at hzW; have hzw : w.heap.size < W.heap.size := (by omega); clear hb hzW) | (go_at_call 13; refine (begun_any _).mono ?_; rintro e W ⟨rfl, hb⟩; have hB : Below (w.alloc (.cells #[.int .i64 k, .string m] 23)).heap.size (w.alloc (.cells #[.int .i64 k, .string m] 23)) W := (by first | with_reducible exact belows hB hb hB.size | with_reducible exact chainB hB hb); obtain ⟨x0, x1⟩ := ((TB.new w k m).below hB (sizeA _ _)).facts; have hzW := hB.size; rw [World.size_alloc] at hzW; have hzw : w.heap.size < W.heap.size := (by omega); clear hb hzW)); go_ret; exact ⟨rfl, (by (have hX := chainX hB); exact (by repeat' first | with_reducible exact Below.refl _ _ | with_reducible assumption | with_reducible refine belows_drewN ?_ _ | with_reducible refine Below.drew ?_ | with_reducible refine Below.setCell ?_ ?_ _ | with_reducible refine Below.alloc ?_ ?_ _ | omega | (simp; done) | (simp; omega)))⟩)
end Go.Proofs.YthhjenmgcbmphaaDoor

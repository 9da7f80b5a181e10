/- The law of printing. -/
import Derived.Test.YthhjenmgcbmphaaDoorRpm
import Derived.Test.YthhjenmgcbmphaaDoorBg
namespace Go.Proofs.YthhjenmgcbmphaaDoor
open Go.RowKit

theorem sizeA (w : World) (o : Obj) : w.heap.size < (w.alloc o).heap.size := by rw [World.size_alloc]; omega
set_option maxRecDepth 100000 in
set_option maxHeartbeats 1000000 in
theorem lawPrints (k : Int) (m : ByteArray) (l : List Ds.Ty) (v : Value) (w : World) (hk : (Lit.int .i64 k).wf = true) (hs : m.size ≤ 140737488351232) (hv : Kit.IsS 2 w v l.length (l.flatMap tyC)) (hg : ∀ y ∈ l, GoodT y) (hl : l.length ≤ 1048576) :
    Calls Tryd.prog 4 #[.agg #[.int .i64 k, .string m], v] w fun e w' => e = .returned (.bool true) ∧ Below w.heap.size w w' := by
  have HV := hid (fun W (h : Below w.heap.size w W) => hv.below h (Nat.le_refl _))
  have HA0 := fun W => print_any k m W hk hs
  have HB0 := fun W => rprint_any k m W hs
  have HC0 := fun W (h : Below w.heap.size w W) => printMethod_any k m l v W hk hs (HV.out W h) hg hl
  have HD0 := fun W (h : Below w.heap.size w W) => rprintMethod_any k m l v W hs (HV.out W h) hg hl
  have HE := hid (fun W (h : Below w.heap.size w W) => slots_any l v W (HV.out W h))
  have HF := hid (fun W (h : Below w.heap.size w W) => rslots_any l v W (HV.out W h))
  unfold PrPost at HB0
  unfold PmPost at HC0 HD0
  obtain ⟨⟨a1, a2⟩, ha⟩ : ∃ x, x = prOut (k, Ds.bl m) := ⟨_, rfl⟩
  obtain ⟨⟨c1, c2⟩, hc⟩ : ∃ x, x = pmOut (k, Ds.bl m) l := ⟨_, rfl⟩
  rw [← ha] at HA0 HB0
  rw [← hc] at HC0 HD0
  dsimp only at HA0 HB0 HC0 HD0
  have HA := hid HA0
  have HB := hid HB0
  have HC := hid HC0
  have HD := hid HD0
  obtain ⟨sl, hsl⟩ : ∃ x, x = slotsOf l := ⟨_, rfl⟩
  rw [← hsl] at HE HF
  clear HA0 HB0 HC0 HD0 ha hc hv hg hsl
  go_enter Tryd.func4, Tryd.ntmps4
  go_wp2_with (first
    | (go_at_call 20; refine (HF.out _ (belows B5 hb6 B5.size)).mono ?_; rintro e w7 ⟨rfl, hb7⟩)
    | (go_at_call 19; refine (HE.out _ B5).mono ?_; rintro e w6 ⟨rfl, hb6⟩)
    | (go_at_call 13; refine (begun_any _).mono ?_; rintro e w5 ⟨rfl, hb5⟩; have B5 := belows B4 hb5 B4.size)
    | (go_at_call 18; refine (HD.out _ B3).mono ?_; rintro e w4 ⟨p4, e4, rfl, rfl, rfl, hb4⟩; have B4 := belows B3 hb4 B3.size)
    | (go_at_call 17; refine (HC.out _ B2).mono ?_; rintro e w3 ⟨p3, e3, rfl, rfl, rfl, hb3⟩; have B3 := belows B2 hb3 B2.size; have T3 := T2.below hb3 T2.sz; obtain ⟨x30, x31⟩ := T3.facts)
    | (go_at_call 16; refine (HB.out _).mono ?_; rintro e w2 ⟨rfl, hb2⟩; have B2 := belows B1 hb2 B1.size; have T2 := T1.below hb2 T1.sz; obtain ⟨x20, x21⟩ := T2.facts)
    | (go_at_call 15; refine (HA.out _).mono ?_; rintro e w1 ⟨rfl, hb1⟩; have B1 := chainX hb1; have T1 := (TB.new w k m).below hb1 (sizeA _ _); obtain ⟨x10, x11⟩ := T1.facts))
  go_ret
  exact ⟨rfl, belows (belows B5 hb6 B5.size) hb7 (belows B5 hb6 B5.size).size⟩
end Go.Proofs.YthhjenmgcbmphaaDoor

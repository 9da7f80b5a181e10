/- ClassfileBack is true for every class and every byte slice, as long as the listed tables of packages opcode and cpool hold what the text of the program lays there (the card ties it). -/
import Derived.Test.YtehjindeggmfpaaGreatDoorZ25
namespace Go.Proofs.YtehjindeggmfpaaGreatDoor
open Go.RowKit

theorem byt_w2 (n : Int) : L3.Byt (Cf.w2 n) := fun z hz => by
  unfold Cf.w2 at hz
  simp at hz
  rcases hz with rfl | rfl <;> omega
theorem byt_w4 (n : Int) : L3.Byt (Cf.w4 n) := L3.byt_app (byt_w2 _) (byt_w2 _)
theorem byt_flat {α : Type} {f : α → List Int} (l : List α) (h : ∀ x, L3.Byt (f x)) : L3.Byt (l.flatMap f) := fun z hz => by
  obtain ⟨x, -, hx⟩ := List.mem_flatMap.1 hz
  exact h x z hx
theorem byt_cB (l : List UInt8) : L3.Byt (Cf.cB l) := fun z hz => by
  obtain ⟨b, -, rfl⟩ := List.mem_map.1 hz
  have := b.toNat_lt
  omega
theorem byt_clB (c : Cf.Cl) : L3.Byt (Cf.clB c) := by
  have hh : ∀ x : Cf.Hn, L3.Byt (Cf.hnB x) := fun x => L3.byt_app (L3.byt_app (L3.byt_app (byt_w2 _) (byt_w2 _)) (byt_w2 _)) (byt_w2 _)
  have hf : ∀ x : Cf.Mb, L3.Byt (Cf.fdB x) := fun x => L3.byt_app (L3.byt_app (L3.byt_app (byt_w2 _) (byt_w2 _)) (byt_w2 _)) (byt_w2 _)
  have ha : ∀ x : Cf.Mb, L3.Byt (Cf.attrB x) := fun x => L3.byt_app (L3.byt_app (L3.byt_app (L3.byt_app (L3.byt_app (L3.byt_app (byt_w2 _) (byt_w2 _)) (byt_w4 _)) (byt_cB _)) (byt_w2 _)) (byt_flat _ hh)) (byt_w2 _)
  have hm : ∀ x : Cf.Mb, L3.Byt (Cf.meB (Cf.cix c.pool) x) := fun x => L3.byt_app (L3.byt_app (L3.byt_app (L3.byt_app (L3.byt_app (L3.byt_app (byt_w2 _) (byt_w2 _)) (byt_w2 _)) (byt_w2 _)) (byt_w2 _)) (byt_w4 _)) (ha x)
  exact L3.byt_app (L3.byt_app (L3.byt_app (L3.byt_app (L3.byt_app (L3.byt_app (L3.byt_app (L3.byt_app (L3.byt_app (L3.byt_app (L3.byt_app (L3.byt_app (byt_w4 _) (byt_w2 _)) (byt_w2 _)) (L3.byt_putB _)) (byt_w2 _)) (byt_w2 _)) (byt_w2 _)) (byt_w2 _)) (byt_w2 _)) (byt_flat _ hf)) (byt_w2 _)) (byt_flat _ hm)) (byt_w2 _)
theorem is_of_bs {w : World} {lim : Nat} {v : Value} {zs : List Int} (h : L3.Bs lim w v (L3.bsOf zs)) (hl : lim ≤ w.heap.size) (hz : L3.Byt zs) (hn : zs.length ≤ 140737488355328) : Kit.IsS 1 w v zs.length (zs.map (Value.int .u8)) := by
  have hlen := L3.bsOf_len zs
  refine ⟨by simp, hn, ?_⟩
  rcases h.2 with ⟨h0, a, cap, rfl⟩ | ⟨b, o, cap, rfl, hc, hb, hx⟩
  · rw [h0] at hlen
    exact .inl ⟨by simpa using hlen.symm, a, cap, rfl⟩
  · rw [hlen] at hc ⊢
    refine .inr ⟨b, o, cap, rfl, hc, by omega, fun i u hu => ?_⟩
    rw [List.getElem?_map, Option.map_eq_some_iff] at hu
    obtain ⟨z, hzi, rfl⟩ := hu
    rw [hx i (UInt8.ofNat z.toNat) (by unfold L3.bsOf; rw [List.getElem?_map, hzi]; rfl), L3.bv_of (hz z (List.mem_of_getElem? hzi))]
/-- Encode, its three ways. -/
def En3 (c : Cf.Cl) (w : World) (e : Ending) (w' : World) : Prop :=
  ((∃ er, er ≠ 0 ∧ Cf.ClIs c er ∧ e = .returned (.tuple #[.slice none 0 0, .int .i64 er])) ∨ (Cf.ClIs c 0 ∧ 65536 < (Cf.clB c).length ∧ e = .returned (.tuple #[.slice none 0 0, .int .i64 3])) ∨
    (Cf.ClIs c 0 ∧ (Cf.clB c).length ≤ 65536 ∧ ∃ a k cap, e = .returned (.tuple #[.slice a k cap, .int .i64 0]) ∧ Kit.IsS 1 w' (.slice a k cap) (Cf.clB c).length ((Cf.clB c).map (Value.int .u8)))) ∧ Below w.heap.size w w'
theorem encode3 (c : Cf.Cl) (vs : Array Value) (w : World) (hk : Ck w c) (h : ClR w vs c) : Calls Tryz.prog 15 #[.agg vs] w (En3 c w) := by
  refine (encode_any c vs w hk h).mono ?_
  rintro e w1 ⟨er, hc, h1, h2, hb⟩
  by_cases hz : er = 0
  · subst hz
    obtain ⟨h3, h4⟩ := h2 rfl
    by_cases hl : 65536 < (Cf.clB c).length
    · exact ⟨.inr (.inl ⟨hc, hl, h3 hl⟩), hb⟩
    · obtain ⟨v, rfl, hO⟩ := h4 (by omega)
      obtain ⟨a, k, cap, rfl⟩ := own_form3 hO
      have hi : Kit.IsS 1 w1 (.slice a k cap) (Cf.clB c).length ((Cf.clB c).map (Value.int .u8)) := Kit.isS_of_owns hO (by omega)
      exact ⟨.inr (.inr ⟨hc, by omega, a, k, cap, rfl, hi⟩), hb⟩
  · exact ⟨.inl ⟨er, hz, hc, h1 hz⟩, hb⟩
/-- Decode, its two ways. -/
def De2 (bs : List UInt8) (w : World) (e : Ending) (w' : World) : Prop :=
  ((∃ er vs, er ≠ 0 ∧ (∀ d, (∃ r, Cf.clP bs = .ok (d, r)) → Cf.ClIs d 0 → 65536 < bs.length) ∧ e = .returned (.tuple #[.agg vs, .int .i64 er]) ∧ ClR w' vs Cf.K0) ∨
    (∃ d r vs, Cf.clP bs = .ok (d, r) ∧ Cf.ClIs d 0 ∧ bs.length ≤ 65536 ∧ e = .returned (.tuple #[.agg vs, .int .i64 0]) ∧ ClR w' vs d ∧ PoolSz d.pool)) ∧ Below w.heap.size w w'
theorem decode2 (bs : List UInt8) (v : Value) (w : World) (t1 : L1.Tabs w) (t3 : L3.Tabs w) (hv : L3.Bs w.heap.size w v bs) : Calls Tryz.prog 11 #[v] w (De2 bs w) := by
  refine (decode_any bs v w t1 t3 hv).mono ?_
  rintro e w1 ⟨c, er, vs, hD, rfl, hR, hp, hl, hb⟩
  refine ⟨?_, hb⟩
  unfold Cf.DcIs at hD
  split at hD
  · rename_i h1
    obtain ⟨rfl, rfl⟩ := hD
    exact .inl ⟨3, vs, by decide, fun _ _ _ => h1, rfl, hR⟩
  · rename_i h1
    split at hD
    · rename_i er2 h2
      obtain ⟨rfl, rfl⟩ := hD
      exact .inl ⟨_, vs, cl_err h2, fun d ⟨r, hr⟩ _ => (by rw [h2] at hr; cases hr), rfl, hR⟩
    · rename_i d r h2
      obtain ⟨e2, hc, hD⟩ := hD
      by_cases hz : e2 = 0
      · subst hz
        rw [if_pos rfl] at hD
        obtain ⟨rfl, rfl⟩ := hD
        exact .inr ⟨_, _, vs, h2, hc, by omega, rfl, hR, ⟨by omega, fun x hx => by have := (hp x hx).1; omega⟩⟩
      · rw [if_neg hz] at hD
        obtain ⟨rfl, rfl⟩ := hD
        exact .inl ⟨_, vs, hz, fun d' ⟨r', hr⟩ hc' => (by rw [h2] at hr; cases hr; exact absurd (Cf.ClIs.det hc hc') hz), rfl, hR⟩
set_option maxRecDepth 100000 in
set_option maxHeartbeats 1000000 in
theorem back_law (c : Cf.Cl) (B : Nat) (vs : Array Value) (raw : List UInt8) (rv : Value) (w : World) (t1 : L1.Tabs w) (t3 : L3.Tabs w) (h : ClR w vs c) (hg : GoodCl c B) (hr : L3.Bs w.heap.size w rv raw) :
    Calls Tryz.prog 8 #[.agg vs, rv] w fun e w' => e = .returned (.bool true) ∧ Below w.heap.size w w' := by
  have HT := hid (And.intro t1 t3)
  have HK := hid (show Ck w c from ⟨t1, t3, by have := hg.pl; omega, fun x hx => by have := (hg.ps x hx).s; omega⟩)
  have HBk := hid (fun (hc : Cf.ClIs c 0) => Cf.cl_back (Cf.cl_ranges hc (fun x hx => (hg.ps x hx).n) ⟨hg.ac, fun m hm => (hg.fs m hm).ac, fun m hm => (hg.ms m hm).ac⟩))
  have HR0 := hid h
  have HRw := hid hr
  obtain ⟨pv, fv, mv, rfl, hp, hf, hm⟩ := h
  obtain ⟨pa, pc, rfl⟩ := hp.len
  obtain ⟨fa, fc, rfl⟩ := hf.len
  obtain ⟨ma2, mc, rfl⟩ := hm.len
  obtain ⟨xa, xc, rfl⟩ := hr.len
  clear t1 t3 hg hr hp hf hm
  go_enter Tryz.func8, Tryz.ntmps8
  go_wp2_with (first | (go_at_call 13; refine (begun_any _ (HT.out.1.below (by repeat' first | with_reducible exact Below.refl _ _ | with_reducible assumption | with_reducible refine belows_drewN ?_ _ | with_reducible refine Below.drew ?_ | with_reducible refine Below.setCell ?_ ?_ _ | with_reducible refine Below.alloc ?_ ?_ _ | omega | (simp; done) | (simp; omega)) HT.out.1.size) (HT.out.2.below (by repeat' first | with_reducible exact Below.refl _ _ | with_reducible assumption | with_reducible refine belows_drewN ?_ _ | with_reducible refine Below.drew ?_ | with_reducible refine Below.setCell ?_ ?_ _ | with_reducible refine Below.alloc ?_ ?_ _ | omega | (simp; done) | (simp; omega)) HT.out.2.size)).mono ?_; rintro e w1 ⟨rfl, hb1⟩; obtain ⟨bC, hzC, B1⟩ := belows1 hb1; have BC := hid bC; have HB1 := hid B1; have q0 := bC.cell 0; have q1 := bC.cell 1; have q2 := bC.cell 2; have q3 := bC.cell 3; have q4 := bC.cell 4; have q5 := bC.cell 5; have q6 := bC.cell 6; have q7 := bC.cell 7; simp at q0 q1 q2 q3 q4 q5 q6 q7; clear hb1 bC B1) | (go_at_call 15; (fail_if_success (have _g := HE1)); go_loud (refine (encode3 c _ w1 (HK.out.below HB1.out) (HR0.out.below HB1.out (Nat.le_refl _))).mono ?_; rintro e w2 ⟨(⟨er, hz, hc, rfl⟩ | ⟨hc, -, rfl⟩ | ⟨hc, hl, a2, k2, c2, rfl, hi⟩), hb2⟩; all_goals (have HE1 := hid hc; have bC := BC.out.below hb2 BC.out.sz; have BC2 := hid bC; have HB2 := hid (belows HB1.out hb2 HB1.out.size); clear q0 q1 q2 q3 q4 q5 q6 q7; have q0 := bC.cell 0; have q1 := bC.cell 1; have q2 := bC.cell 2; have q3 := bC.cell 3; have q4 := bC.cell 4; have q5 := bC.cell 5; have q6 := bC.cell 6; have q7 := bC.cell 7; simp at q0 q1 q2 q3 q4 q5 q6 q7; clear bC hb2 hc); all_goals (try (have HZ := hid hz; have hdd : (er == 0) = false := (by simpa using hz); clear hz)); all_goals (try (have HI := hid hi; have HL := hid hl; clear hi hl)))) | (go_at_call 11; have _g := HI; (fail_if_success (have _g := HS1)); go_loud (refine (decode2 (L3.bsOf (Cf.clB c)) _ w2 (HT.out.1.below HB2.out HT.out.1.size) (HT.out.2.below HB2.out HT.out.2.size) (L3.bs_of_is HI.out (byt_clB c))).mono ?_; rintro e w3 ⟨h3, hb3⟩; have h3b : ∃ vs3, e = .returned (.tuple #[.agg vs3, .int .i64 0]) ∧ ClR w3 vs3 c := (by rcases h3 with ⟨er, vs3, hz, hno, -, -⟩ | ⟨d, r, vs3, hcl, -, -, he, hr3, -⟩; (· exact absurd (hno c ⟨[], HBk.out HE1.out⟩ HE1.out) (by (have := HL.out; rw [L3.bsOf_len]; omega))); (· rw [HBk.out HE1.out] at hcl; cases hcl; exact ⟨vs3, he, hr3⟩)); obtain ⟨vs3, rfl, hr3⟩ := h3b; have HR3 := hid hr3; obtain ⟨pv3, fv3, mv3, rfl, hp3, hf3, hm3⟩ := hr3; obtain ⟨pa3, pc3, rfl⟩ := hp3.len; obtain ⟨fa3, fc3, rfl⟩ := hf3.len; obtain ⟨ma3, mc3, rfl⟩ := hm3.len; clear hp3 hf3 hm3; have bC := BC2.out.below hb3 BC2.out.sz; have BC3 := hid bC; have HB3 := hid (belows HB2.out hb3 HB2.out.size); clear q0 q1 q2 q3 q4 q5 q6 q7; have q0 := bC.cell 0; have q1 := bC.cell 1; have q2 := bC.cell 2; have q3 := bC.cell 3; have q4 := bC.cell 4; have q5 := bC.cell 5; have q6 := bC.cell 6; have q7 := bC.cell 7; simp at q0 q1 q2 q3 q4 q5 q6 q7; have hcz3 : w.heap.size < w3.heap.size := BC3.out.sz; clear bC hb3 h3)) | (go_at_call 14; have _g := HR3; (fail_if_success (have _g := HS1)); go_loud (have Bd : Below w3.heap.size w3 (w3.alloc (.cells #[.int .i64 c.mi, .int .i64 c.ma, .slice pa3 c.pool.length pc3, .int .i64 c.ac, .int .i64 c.th, .int .i64 c.su, .slice fa3 c.fs.length fc3, .slice ma3 c.ms.length mc3] 26)) := (Below.refl _ _).alloc (Nat.le_refl _) _; refine (rsame_any c _ _ _ (HR0.out.below (belows HB3.out Bd HB3.out.size) (Nat.le_refl _)) (HR3.out.below Bd (Nat.le_refl _))).mono ?_; rintro e w4 ⟨rfl, hb4⟩; have HS1 := hid (show True from trivial); have B3d := belows HB3.out Bd HB3.out.size; have HB4 := hid (belows B3d hb4 B3d.size); have bC := (BC3.out.below Bd BC3.out.sz).below hb4 (by (have := BC3.out.sz; rw [World.size_alloc]; omega)); have BC4 := hid bC; clear q0 q1 q2 q3 q4 q5 q6 q7; have q0 := bC.cell 0; have q1 := bC.cell 1; have q2 := bC.cell 2; have q3 := bC.cell 3; have q4 := bC.cell 4; have q5 := bC.cell 5; have q6 := bC.cell 6; have q7 := bC.cell 7; simp at q0 q1 q2 q3 q4 q5 q6 q7; clear bC hb4 Bd B3d)) | (go_at_call 17; (fail_if_success (have _g := HB4)); go_loud (refine (check_any c _ w2 (HK.out.below HB2.out) (HR0.out.below HB2.out (Nat.le_refl _))).mono ?_; rintro e w4 ⟨er4, hc4, rfl, hb4⟩; have h5 := Cf.ClIs.det hc4 HE1.out; subst h5; have HB4 := hid (belows HB2.out hb4 HB2.out.size); clear hc4 hb4)) | (go_at_call 11; have _g := HB4; (fail_if_success (have _g := HB5)); go_loud (refine (decode2 raw _ w4 (HT.out.1.below HB4.out HT.out.1.size) (HT.out.2.below HB4.out HT.out.2.size) ((HRw.out.below HB4.out (Nat.le_refl _)).mono HB4.out.size)).mono ?_; rintro e w5 ⟨(⟨er5, vs5, hz5, -, rfl, hr5⟩ | ⟨d, r, vs5, hcl, hcd, hl5, rfl, hr5, hpz⟩), hb5⟩; all_goals (have HB5 := hid (belows HB4.out hb5 HB4.out.size); have HR5 := hid hr5; obtain ⟨pv5, fv5, mv5, rfl, hp5, hf5, hm5⟩ := hr5; obtain ⟨pa5, pc5, rfl⟩ := hp5.len; obtain ⟨fa5, fc5, rfl⟩ := hf5.len; obtain ⟨ma5, mc5, rfl⟩ := hm5.len; clear hp5 hf5 hm5; clear hb5); all_goals (first | (have HZ5 := hid hz5; have hd5 : (er5 != 0) = true := (by simpa using hz5); clear hz5) | (have HD5 := hid (And.intro hcl (And.intro hcd (And.intro hl5 hpz))); clear hcl hcd hl5 hpz)))) | (go_at_call 14; have _g := HZ5; go_loud (have Bd : Below w5.heap.size w5 (w5.alloc (.cells #[.int .i64 Cf.K0.mi, .int .i64 Cf.K0.ma, .slice pa5 Cf.K0.pool.length pc5, .int .i64 Cf.K0.ac, .int .i64 Cf.K0.th, .int .i64 Cf.K0.su, .slice fa5 Cf.K0.fs.length fc5, .slice ma5 Cf.K0.ms.length mc5] 26)) := (Below.refl _ _).alloc (Nat.le_refl _) _; refine (rsame_any Cf.K0 _ _ _ (HR5.out.below Bd (Nat.le_refl _)) (k0_reads _)).mono ?_; rintro e w9 ⟨rfl, hb9⟩; have B5d := belows HB5.out Bd HB5.out.size; have HB9 := hid (belows B5d hb9 B5d.size); clear hb9 Bd B5d)) | (go_at_call 15; have _g := HD5; (fail_if_success (have _g := HB6)); go_loud (have Bd : Below w5.heap.size w5 (w5.alloc (.cells #[.int .i64 d.mi, .int .i64 d.ma, .slice pa5 d.pool.length pc5, .int .i64 d.ac, .int .i64 d.th, .int .i64 d.su, .slice fa5 d.fs.length fc5, .slice ma5 d.ms.length mc5] 26)) := (Below.refl _ _).alloc (Nat.le_refl _) _; have B5d := belows HB5.out Bd HB5.out.size; have hfo := Cf.cl_forth HD5.out.1; have hfl : raw.length = (Cf.clB d).length := (by have q9 := congrArg List.length hfo; rw [L3.bsOf_len] at q9; exact q9); refine (encode3 d _ _ ⟨HT.out.1.below B5d HT.out.1.size, HT.out.2.below B5d HT.out.2.size, HD5.out.2.2.2.1, HD5.out.2.2.2.2⟩ (HR5.out.below Bd (Nat.le_refl _))).mono ?_; rintro e w6 ⟨h6, hb6⟩; have h6b : ∃ a k cap, e = .returned (.tuple #[.slice a k cap, .int .i64 0]) ∧ Kit.IsS 1 w6 (.slice a k cap) (Cf.clB d).length ((Cf.clB d).map (Value.int .u8)) := (by rcases h6 with ⟨er, hz, hc, -⟩ | ⟨-, hl, -⟩ | ⟨-, -, h⟩; (· exact absurd (Cf.ClIs.det hc HD5.out.2.1) hz); (· exact absurd hl (by (have := HD5.out.2.2.1; omega))); (· exact h)); obtain ⟨a6, k6, c6, rfl, hi6⟩ := h6b; have HB6 := hid (belows B5d hb6 B5d.size); have HI6 := hid hi6; have HFo := hid hfo; have HFl := hid hfl; clear h6 hb6 hi6 Bd B5d hfo hfl)) | (go_at_call 19; have _g := HI6; go_loud (refine (L3.bequal_any (Cf.clB d) _ _ w6 HI6.out (is_of_bs (HFo.out ▸ ((HRw.out.below HB6.out (Nat.le_refl _)).mono HB6.out.size)) (Nat.le_refl _) (byt_clB d) (by (have := HFl.out; have := HD5.out.2.2.1; omega)))).mono ?_; rintro e w9 ⟨rfl, rfl⟩; have HB9 := HB6)))
  all_goals go_ret
  all_goals first | exact ⟨rfl, HB9.out⟩ | exact ⟨by simp, HB9.out⟩
end Go.Proofs.YtehjindeggmfpaaGreatDoor
namespace Go.Proofs.YtehjindeggmfpaaGreatDoor
open Go.ChangeShapes Go.WideShapes Go.ChangeAt Go.RowKit Go.WideMaps Go.WideElems

set_option maxRecDepth 100000
section
variable {H : Type} {enc : TypeId × Value → H}
theorem open_bs {W : World} {v : Value} {d : DataW H} {ps : List MemPlace} {base : Nat}
    (hok : Value.okWide Tryz.prog W .any base 22 v) (h : DataW.Trod enc Tryz.prog W 0 (fun _ => true) true 22 v d ps) (hw : (d.weights Tryz.prog 22).all (· ≤ reachBytes) = true) : ∃ bs : List UInt8, L3.Bs W.heap.size W v bs ∧ bs.length ≤ 140737488351232 ∧ bs.length ≤ Rows.uptoBulk d := by
  obtain ⟨a0, len, cap, rfl⟩ := okWide_slice Tryz.underlying22 hok
  obtain ⟨fuel, hf⟩ := h
  exact bs_cell (y := (d, ps)) hf hw
end
end Go.Proofs.YtehjindeggmfpaaGreatDoor
namespace Go.Proofs.YtehjindeggmfpaaGreatDoor.lawBack
open Go.ChangeShapes Go.WideShapes Go.ChangeAt Go.RowKit Go.WideMaps Go.WideElems
open Go.ChangeMaps (setBlock shut_map_nil open_string shut_string keptBut_setBlock frozen?_setBlock heap_setBlock_same)

set_option maxRecDepth 100000 in
theorem contract (H : Type) (enc : TypeId × Value → H) (W : World) (base : Nat) (args : Array Value) (ds gs : List (DataW H)) (before : List MemPlace)
    (hval : ∀ (j : Nat) t v, Tryz.f8.params[j]? = some t → args[j]? = some v → Value.okWide Tryz.prog W .any base t v)
    (hW : DataW.Whole enc Tryz.prog Tryz.f8.params.toList Rows.classfileBackSpec.vars false W args.toList ds gs before)
    (hsz : (DataW.weightsEach Tryz.prog (Tryz.f8.params.toList ++ (OpenSpec.ofChange Rows.classfileBackSpec).bare.plain.varTypes Tryz.prog) (ds ++ gs)).all (· ≤ reachBytes) = true)
    (hL : laidMetH Tryz.prog Rows.classfileBackRow.laid W) :
    Calls Tryz.prog 8 args W fun e W' => ∃ v, e = .returned v ∧ Rows.classfileBackSpec.post enc Tryz.prog Tryz.f8 false true false false W args v W' := by
  have hW' := hW
  obtain ⟨p, q, hA0, hV, rfl, hfz, hnd⟩ := hW
  have hA : DataW.TrodAll enc Tryz.prog W 0 (fun _ => true) true Tryz.f8.params.toList args.toList ds p := hA0
  rw [Tryz.params8] at hA hval hsz
  obtain ⟨v0, vs0, d0, ds0, p0, q0, hargs, rfl, rfl, h0, r0⟩ := trodAll_cons hA
  obtain ⟨v1, vs1, d1, ds1, p1, q1, rfl, rfl, rfl, h1, r1⟩ := trodAll_cons r0
  obtain ⟨rfl, rfl, rfl⟩ := trodAll_nil r1
  obtain rfl : args = #[v0, v1] := by cases args; simp_all
  obtain ⟨rfl, rfl⟩ := trodVars_none hV
  obtain ⟨x0, y0, rfl, wx0, wg0⟩ := open_class (hval 0 26 v0 rfl rfl) h0 (weights_eachT (j := 0) (t := 26) (d := d0) rfl rfl hsz)
  obtain ⟨x1, wx1, wl1, wb1⟩ := open_bs (hval 1 22 v1 rfl rfl) h1 (weights_eachT (j := 1) (t := 22) (d := d1) rfl rfl hsz)
  refine (back_law x0 _ y0 x1 v1 W (tabs1_of_laid hL) (tabs3_of_laid hL) wx0 wg0 wx1).mono fun e W' ⟨he, hb⟩ => ?_
  subst he
  exact ⟨_, rfl, Kit.law_post rfl rfl Tryz.underlying4 (by kernel_rfl) (by decide +kernel) hW' rfl hb⟩

theorem reads (os : Os) {H : Type} (enc : TypeId × Value → H) : ∃ places, DataW.whole enc Tryz.prog ((laidWorld os).forCall (fun _ _ => 0) ⟨#[], #[.agg #[.int .i64 0, .int .i64 0, .slice none 0 0, .int .i64 0, .int .i64 0, .int .i64 0, .slice none 0 0, .slice none 0 0], .slice none 0 0], []⟩).memory Tryz.f8.params.toList Rows.classfileBackSpec.vars false (#[.agg #[.int .i64 0, .int .i64 0, .slice none 0 0, .int .i64 0, .int .i64 0, .int .i64 0, .slice none 0 0, .slice none 0 0], .slice none 0 0] : Array Value).toList 8 = some ([.agg [.lit (.int .i64 0), .lit (.int .i64 0), .nil, .lit (.int .i64 0), .lit (.int .i64 0), .lit (.int .i64 0), .nil, .nil], .nil], [], places) :=
  ⟨[], by kernel_rfl⟩
theorem laid_met (os : Os) : laidMet Tryz.prog Rows.classfileBackRow.laid ((laidWorld os).forCall (fun _ _ => 0) ⟨#[], #[.agg #[.int .i64 0, .int .i64 0, .slice none 0 0, .int .i64 0, .int .i64 0, .int .i64 0, .slice none 0 0, .slice none 0 0], .slice none 0 0], []⟩).memory :=
  laidMet_of_run' 8 (by kernel_rfl) (by kernel_rfl)
set_option maxRecDepth 100000 in
theorem lifted (os : Os) (started : os.Started) (H : Type) (enc : TypeId × Value → H) (F : Stop.Interp) :
    ReturnsInHanded {} Tryz.checked os 8 .any ((OpenSpec.ofChange Rows.classfileBackSpec).preRow enc Tryz.prog Tryz.f8 Rows.classfileBackRow.domain false Rows.classfileBackRow.laid) (((OpenSpec.ofChange Rows.classfileBackSpec).at F).post enc Tryz.prog Tryz.f8 false true false false) := by
  obtain ⟨places, hx⟩ := reads os enc
  refine returnsInHanded_of_row (C := Tryz.checked) (s := (OpenSpec.ofChange Rows.classfileBackSpec)) own started (by kernel_rfl) Tryz.func8
    (witness_row_at (enc := enc) (C := Tryz.checked) false (laidWorld os) #[.agg #[.int .i64 0, .int .i64 0, .slice none 0 0, .int .i64 0, .int .i64 0, .int .i64 0, .slice none 0 0, .slice none 0 0], .slice none 0 0] rfl (by kernel_rfl) (by kernel_rfl) (by kernel_rfl)
      (OpenSpec.preRow_of_cond 8 hx (by kernel_rfl) (fun k hk => by cases hk) (by kernel_rfl) (laid_met os))) ?_
  intro W base args ds gs before hval hW _ _ hsz hL _ _
  exact contract H enc W base args ds gs before hval hW hsz hL
theorem said : Rows.ClassfileBackSaid :=
  OpenClaim.holds_of_cond 8 Tryz.f8 rfl rfl rfl rfl rfl rfl rfl ⟨rfl, rfl, rfl, rfl, rfl⟩ rfl rfl rfl rfl rfl (by kernel_rfl) Tryz.func8 (by kernel_rfl)
    (of_decide_eq_true (by kernel_rfl)) (by unfold Func.isWrapper; first | (rw [if_pos (by decide +kernel)]; kernel_rfl) | (rw [if_neg (by decide +kernel)]; exact ⟨rfl, rfl⟩))
    (fun os started H enc _ F => by rw [OpenClaim.pre_eq_preRow]; exact lifted os started H enc F)
theorem plain (f : FuncId) (fn : Func) (hf : Tryz.pinned.checked.prog.funcNamed "tabard/tabardlaw04.ClassfileBack" = some f) (hfn : Tryz.pinned.checked.prog.funcs[f]? = some fn) :
    true = Tryz.pinned.checked.prog.looks [] ∧ ∀ (j : Nat) t, fn.params[j]? = some t → Tryz.pinned.checked.prog.wantsStandIn t = false := by
  obtain rfl : f = 8 := Option.some.inj ((show Tryz.prog.funcNamed "tabard/tabardlaw04.ClassfileBack" = some 8 by kernel_rfl).symm.trans hf) |>.symm
  obtain rfl : fn = Tryz.f8 := (Option.some.inj (Tryz.func8.symm.trans hfn)).symm
  refine ⟨by kernel_rfl, fun j t ht => ?_⟩
  rw [Tryz.params8] at ht
  have hm := Array.mem_of_getElem? ht
  exact (show ∀ t ∈ #[26, 22], Tryz.prog.wantsStandIn t = false by decide +kernel) t hm
/-- THE CARD. -/
theorem card : Rows.ClassfileBackCardSaid :=
  Claim7.holds_tied_plain_at .later [] _ _ _ _ said (fun _ h => by cases h) (by kernel_rfl) (fun _ h => by cases h) classfileBack_row_tie rfl ⟨rfl, rfl⟩ (by kernel_rfl) rfl plain (by kernel_rfl)
end Go.Proofs.YtehjindeggmfpaaGreatDoor.lawBack

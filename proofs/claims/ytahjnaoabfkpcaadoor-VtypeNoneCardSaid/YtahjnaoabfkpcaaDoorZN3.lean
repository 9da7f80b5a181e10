/- Own texts for the claim, part 3. -/
import Derived.Test.YtahjnaoabfkpcaaDoorZN2
import Derived.Deep.CutBlock
import Derived.Deep.DeepCutAuto
namespace Go.Proofs.YtahjnaoabfkpcaaDoor
open Go Go.RowKit
open Kit (natVals)

theorem own_at0 {w : World} {base : Nat} {e : TypeId} {v : Value} {n : Nat} {xs : List Value} (h : w.ownsRow base e 1 v n xs) (hn : 0 < n) : ∃ g cap, v = .slice (some ⟨g, 0, none⟩) n cap ∧ g < w.heap.size ∧ ∀ i u, xs[i]? = some u → w.cell? ⟨g, i, none⟩ = some u ∧ w.frozen? ⟨g, i, none⟩ = false := by
  obtain ⟨hl, h⟩ := h
  rcases h with ⟨-, h2⟩ | ⟨g, cap, cur, rfl, hg, hh, hc1, hc2, hc3, ht⟩
  · omega
  · refine ⟨g, cap, rfl, (Array.getElem?_eq_some_iff.1 hh).1, fun i u hi => ⟨?_, by simp [World.frozen?, hh]⟩⟩
    have hlt : i < xs.length := (List.getElem?_eq_some_iff.1 hi).1
    have : cur[i]? = some u := by
      rw [← ht, List.getElem?_take_of_lt (by omega)] at hi
      simpa using hi
    simp [World.cell?, hh, this]
theorem HM.sightAt {w : World} {base : Nat} {H : HV} (h : HM w base H) {g p : Nat} (hv : H.cv = .slice (some ⟨g, 0, none⟩) H.n p) (hn : 1 ≤ H.n) : g < w.heap.size ∧ ∀ k, k < H.n → w.cell? ⟨g, k * 4, none⟩ = some (.string (H.nm k)) ∧ w.cell? ⟨g, k * 4 + 1, none⟩ = some (.int .i64 (H.su k)) ∧
    w.cell? ⟨g, k * 4 + 2, none⟩ = some (.int .i64 (H.dp k : Int)) ∧ w.cell? ⟨g, k * 4 + 3, none⟩ = some (H.sv k) := by
  obtain ⟨g2, p2, h1, h2, h3⟩ := h.sight hn
  rw [hv] at h1
  obtain ⟨e, -, -⟩ := Value.slice.inj h1
  rw [Option.some.injEq, Addr.mk.injEq] at e
  obtain ⟨rfl, -, -⟩ := e
  exact ⟨h2, h3⟩
theorem holdsC {n : Nat} [Inhabited (Cn n)] {w : World} {og : Nat} {O : List Nat} (hlt : ∀ x ∈ O, x < n) (h : ∀ i u, (natVals O)[i]? = some u → w.cell? ⟨og, i, none⟩ = some u ∧ w.frozen? ⟨og, i, none⟩ = false) : Sort.Holds (encC (n := n)) w og 0 (cnL O hlt).toArray := by
  intro j hj
  have hjO : j < O.length := by have : (cnL O hlt).toArray.size = O.length := by unfold cnL; simp
                                omega
  have e1 : ((cnL O hlt).toArray[j]!).1 = O[j] := by
    have hL : j < (cnL O hlt).length := hj
    have h2 : ((cnL O hlt).map (·.1))[j]? = O[j]? := by rw [cnL_val]
    rw [List.getElem?_map, List.getElem?_eq_getElem hL, List.getElem?_eq_getElem hjO] at h2
    rw [getElem!_pos _ j hj]
    simpa using h2
  have h1 := h j (.int .i64 ((O[j] : Nat) : Int)) (Kit.natVals_at (List.getElem?_eq_getElem hjO))
  rw [Nat.zero_add]
  refine ⟨?_, h1.2⟩
  rw [h1.1]
  unfold encC
  rw [e1]
theorem dj_step {n : Nat} {P d : Nat → Nat} {x j s : Nat} (hs : (Hi.ch n P x)[j]? = some s) : upd (dj n P d x j) s (d x + 1) = dj n P d x (j + 1) := by
  funext k
  unfold upd dj
  rw [List.take_add_one, hs]
  by_cases e : k = s
  · subst e
    rw [if_pos rfl, if_pos (by simp)]
  · rw [if_neg e]
    by_cases h : k ∈ (Hi.ch n P x).take j
    · rw [if_pos h, if_pos (by simp [h])]
    · rw [if_neg h, if_neg (by simp [h, e])]
theorem dj_self {n : Nat} {P d : Nat → Nat} {O : List Nat} {i x : Nat} (h : Hi.Bf n P O i d) (hx : O[i]? = some x) (j : Nat) : dj n P d x j x = d x := by
  unfold dj
  rw [if_neg]
  intro e
  exact h.child hx (List.mem_of_mem_take e) (List.mem_of_getElem? hx)
section
variable {w W : World} {base bb : Nat} {H : HV} {P : Nat → Nat} {O : List Nat} {d : Nat → Nat} {ov : Value}
/-- The comparison, in each world that the sort passes through. -/
theorem OaI.cmp (h : OaI w base H P bb O d ov W) (hn : 1 ≤ H.n) [Inhabited (Cn H.n)] {blk cap : Nat} (hov : ov = .slice (some ⟨blk, 0, none⟩) O.length cap) (size : Nat) :
    CmpLays1 Tryd.prog 60 #[.pointer (some ⟨bb, 0, none⟩)] (encC (n := H.n)) (cfC d) blk 0 size W := by
  intro m os dk _ x y
  obtain ⟨g, p, hc, hg, hs⟩ := h.hm.sight hn
  obtain ⟨k0, -, -⟩ := h.hm.cells
  have hch := sortW_chg (encC (n := H.n)) (w := W) (blk := blk) m dk os
  have hob : ov.ownBlock = some blk := by rw [hov]; rfl
  have hgb : H.cv.ownBlock = some g := by rw [show H.cv = _ from hc]; rfl
  have n1 : bb ≠ blk := fun e => own_unlike_box h.hm.ord h.bx (by decide) (e ▸ hob)
  have n2 : H.hb ≠ blk := fun e => own_unlike_box h.hm.ord h.hm.box (by decide) (show ov.ownBlock = some H.hb by rw [e]; exact hob)
  have n3 : g ≠ blk := fun e => own_unlike h.hm.cls h.hm.ord (by decide) g hgb (show ov.ownBlock = some g by rw [e]; exact hob)
  have f0 := (hch.cell (p := ⟨bb, 0, none⟩) h.bx.sz n1).trans (h.bx.cell 0)
  have f1 := (hch.cell (p := ⟨H.hb, 0, none⟩) h.hm.hb_lt n2).trans k0
  rw [show ({ H with ov := ov, od := O, dp := d } : HV).cv = _ from hc] at f1
  refine (clo_any (n := H.n) d f0 f1 (fun k hk => (hch.cell (p := ⟨g, k * 4 + 2, none⟩) hg n3).trans (hs k hk).2.2.1) x.1 y.1 x.2 y.2).mono ?_
  rintro e w' ⟨rfl, q, o, rfl⟩
  exact ⟨rfl, q, #[o], Sort.alloc_eq_grow _ _⟩
end
def OrPost (base : Nat) (H : HV) (P : Nat → Nat) (w : World) (e : Ending) (w' : World) : Prop :=
  Below base w w' ∧ w.heap.size ≤ w'.heap.size ∧ ((e = .returned (.bool false) ∧ ¬ ∃ D, Hi.Tr H.n P D) ∨ (e = .returned (.bool true) ∧ ∃ D ov, Hi.Tr H.n P D ∧ HM w' base { H with ov := ov, od := Hi.ordL H.n D, dp := D }))
set_option maxRecDepth 100000 in
set_option maxHeartbeats 8000000 in
theorem orderAll_any {w : World} {base : Nat} {H : HV} {P : Nat → Nat} (h : HM w base H) (hn : 1 ≤ H.n) (hle : H.n ≤ 72) (hP : ∀ k, 1 ≤ k → k < H.n → P k < H.n) (hsb : ∀ k, k < H.n → H.sb k = Hi.ch H.n P k) (hod : H.od = []) (hdp : H.dp = fun _ => 0) :
    Calls Tryd.prog 47 #[.pointer (some ⟨H.hb, 0, none⟩)] w (OrPost base H P w) := by
  have hbase := Nat.le_of_lt h.base_lt
  have hbl := h.hb_lt
  obtain ⟨i0, hi, hz0, hz1, hz2⟩ := info_parts infoI
  obtain ⟨ov0, hov0⟩ : ∃ ov0, H.ov = ov0 := ⟨_, rfl⟩
  have H0 : OaI w base H P w.heap.size [] (fun _ => 0) ov0 (w.alloc (.cells #[.pointer (some ⟨H.hb, 0, none⟩)] 35)) :=
    ⟨by have e : ({ H with ov := ov0, od := [], dp := fun _ => 0 } : HV) = H := (by rw [← hod, ← hdp, ← hov0]); rw [e]; exact h.below ((Below.refl _ _).alloc (Nat.le_refl _) _), BX.new w _ _, (Below.refl _ _).alloc hbase _, by simp, hsb, hle⟩
  obtain ⟨W0, hW0⟩ : ∃ W0, W0 = w.alloc (.cells #[.pointer (some ⟨H.hb, 0, none⟩)] 35) := ⟨_, rfl⟩
  rw [← hW0] at H0
  obtain ⟨oa, op, hoo⟩ := own_form H0.hm.ord
  change ov0 = .slice oa 0 op at hoo
  subst hoo
  obtain ⟨-, -, k2⟩ := H0.hm.cells
  change W0.cell? ⟨H.hb, 2, none⟩ = some (.slice oa 0 op) at k2
  have kf := H0.hm.frozen 2
  change W0.frozen? ⟨H.hb, 2, none⟩ = false at kf
  have b0 : W0.cell? ⟨w.heap.size, 0, none⟩ = some (.pointer (some ⟨H.hb, 0, none⟩)) := H0.bx.cell 0
  have hl0 : H.hb < W0.heap.size := H0.hm.hb_lt
  have hl1 : w.heap.size < W0.heap.size := H0.bx.sz
  have hl2 : base < W0.heap.size := H0.hm.base_lt
  have HOw := hid (fun X (b : Below W0.heap.size W0 X) => Kit.owns_below H0.hm.ord b (Nat.le_refl _))
  change Hid (∀ X, Below W0.heap.size W0 X → X.ownsRow base 3 1 (.slice oa 0 op) 0 []) at HOw
  have HI0 := hid H0
  have HF := hid (Hi.Bf.start (P := P) hn)
  have HN := hid hn
  have HLe := hid hle
  have HP := hid hP
  obtain ⟨n, hnn⟩ : ∃ n, H.n = n := ⟨_, rfl⟩
  have HNN := hid hnn
  have hn1 : 1 ≤ n := by omega
  have hn72 : n ≤ 72 := by omega
  clear H0 h hsb hn hle hP hnn hov0 hod hdp
  go_enter Tryd.func47, Tryd.ntmps47
  go_wp2
  rw [← hW0]
  clear hW0
  go_cut [3] (fun _ wx => ∃ v2 : Value, Hid (OaI w base H P w.heap.size [0] (fun _ => 0) v2 wx))
  case first =>
    go_region_law (refine Kit.step_append_own rfl (.tmp 11) (.tmp 12) 75 rfl base 3 i0 _ 1 8 Tryd.underlying75 hi hz0 hz1 hz2 rfl (by decide) (.slice oa 0 op) 0 [] rfl (HOw.out _ (by repeat' first | with_reducible exact Below.refl _ _ | with_reducible assumption | with_reducible refine belows_drewN ?_ _ | with_reducible refine Below.drew ?_ | with_reducible refine Below.setCell ?_ ?_ _ | with_reducible refine Below.alloc ?_ ?_ _ | omega | (simp; done) | (simp; omega))) ⟨W0.heap.size, 0, none⟩ 1 1 [.int .i64 0] rfl rfl (news_of _ _ _) (by intro u hu; simp at hu; subst hu; rfl) (by unfold maxLen; omega) (by omega) (by first | omega | (simp; omega)) ?_; intro v2 w3 ho3 hg3 hk3; obtain ⟨-, q0, q2, qf, hA⟩ := HI0.out.app (l := [0]) (by repeat' first | with_reducible exact Below.refl _ _ | with_reducible assumption | with_reducible refine belows_drewN ?_ _ | with_reducible refine Below.drew ?_ | with_reducible refine Below.setCell ?_ ?_ _ | with_reducible refine Below.alloc ?_ ?_ _ | omega | (simp; done) | (simp; omega)) hg3 hk3 (by exact ho3) hbase; have HB := hid hA; obtain ⟨b2, p2, rfl⟩ := own_form ho3; clear ho3 hg3 hk3 hA)
    all_goals
      go_wp2
      go_meet
      exact ⟨_, HB⟩
  case rest =>
  obtain ⟨ov0, HB⟩ := hcut
  clear k2 kf b0 hl0 hl1 hl2 HOw HI0 hz0 hz1 hz2 hi i0
  go_wp2
  go_loopw [3] (fun v wr => ∃ (i : Nat) (O : List Nat) (d : Nat → Nat) (ov : Value), v = .int .i64 (i : Int) ∧ Hid (OaI w base H P w.heap.size O d ov wr) ∧ Hid (Hi.Bf H.n P O i d)) (fun v _ => n - (intOf v).toNat)
  case atStart => exact ⟨0, _, _, _, rfl, HB, HF⟩
  case round =>
    clear HB HF hbl
    obtain ⟨i, O, d, ov, rfl, HB, HF⟩ := hrel
    obtain ⟨wo, hwo⟩ : ∃ wo, wo = wr := ⟨_, rfl⟩
    rw [← hwo] at HB ⊢
    clear hwo
    have hOl := HF.out.len
    have hiO := HF.out.le
    rw [HNN.out] at hOl
    have hO1 : 1 ≤ O.length := List.length_pos_of_mem ((HF.out.mem 0).2 (.inl rfl))
    obtain ⟨og, oc, hov, hol, hoc⟩ := own_at0 HB.out.hm.ord (by show 0 < O.length; omega)
    change ov = .slice (some ⟨og, 0, none⟩) O.length oc at hov
    obtain ⟨k0, k1, k2⟩ := HB.out.hm.cells
    change wo.cell? ⟨H.hb, 0, none⟩ = some H.cv at k0
    change wo.cell? ⟨H.hb, 2, none⟩ = some ov at k2
    have b0 : wo.cell? ⟨w.heap.size, 0, none⟩ = some (.pointer (some ⟨H.hb, 0, none⟩)) := HB.out.bx.cell 0
    obtain ⟨g, pc, hcv, hgl, hsi⟩ := HB.out.hm.sight (by show 1 ≤ H.n; exact HN.out)
    change H.cv = .slice (some ⟨g, 0, none⟩) H.n pc at hcv
    rw [hcv, HNN.out] at k0
    have HCV := hid hcv
    have HOV := hid hov
    rw [hov] at k2
    clear hcv k1
    by_cases hlt : i < O.length
    · obtain ⟨x, hx⟩ : ∃ x, O[i]? = some x := ⟨_, List.getElem?_eq_getElem hlt⟩
      have hxn := HF.out.lt x (List.mem_of_getElem? hx)
      have o1 := (hoc i (.int .i64 (x : Int)) (Kit.natVals_at hx)).1
      obtain ⟨-, -, -, s3⟩ := hsi x hxn
      change wo.cell? ⟨g, x * 4 + 3, none⟩ = some (H.sv x) at s3
      have hown := HB.out.hm.sub x hxn
      change wo.ownsRow base 3 1 (H.sv x) (H.sb x).length (natVals (H.sb x)) at hown
      rw [HB.out.sb x hxn] at hown
      obtain ⟨sa, sc, hsv⟩ := own_form hown
      rw [hsv] at s3
      have HSV := hid hsv
      have hchl := Hi.ch_len H.n P x
      rw [HNN.out] at hchl hxn
      obtain ⟨cl, hcl⟩ : ∃ cl, (Hi.ch H.n P x).length = cl := ⟨_, rfl⟩
      have HCL := hid hcl
      have HX := hid hx
      rw [hcl] at s3
      rw [HNN.out] at hcl
      rw [hcl] at hchl
      clear hsi hoc hown hsv hov hx hcl
      go_upto_block 1 with fail
      go_cut [4, 6] (fun _ _ wx => ∃ v2 : Value, Hid (OaI w base H P w.heap.size (O ++ Hi.ch H.n P x) (Hi.dn H.n P d x) v2 wx))
      case first =>
        go_wp2
        go_loopw [41] (fun v wr2 => ∃ j : Nat, v = .int .i64 (j : Int) ∧ j ≤ cl ∧ Hid (OaI w base H P w.heap.size O (dj H.n P d x j) ov wr2)) (fun v _ => cl - (intOf v).toNat)
        case atStart => exact ⟨0, rfl, by omega, by rw [dj_zero]; exact HB⟩
        case round =>
          clear HB s3 k0 k2 b0 o1
          obtain ⟨j, rfl, hj, HB⟩ := hrel
          obtain ⟨k0, k1, k2⟩ := HB.out.hm.cells
          change wr.cell? ⟨H.hb, 0, none⟩ = some H.cv at k0
          change wr.cell? ⟨H.hb, 2, none⟩ = some ov at k2
          rw [HCV.out, HNN.out] at k0
          rw [HOV.out] at k2
          have b0 : wr.cell? ⟨w.heap.size, 0, none⟩ = some (.pointer (some ⟨H.hb, 0, none⟩)) := HB.out.bx.cell 0
          have hbs : w.heap.size < wr.heap.size := HB.out.bx.sz
          have hhl : H.hb < wr.heap.size := HB.out.hm.hb_lt
          obtain ⟨hgl2, hsi⟩ := HB.out.hm.sightAt HCV.out HN.out
          have hown := HB.out.hm.sub x (by show x < H.n; rw [HNN.out]; exact hxn)
          change wr.ownsRow base 3 1 (H.sv x) (H.sb x).length (natVals (H.sb x)) at hown
          rw [HB.out.sb x (by rw [HNN.out]; exact hxn), HCL.out] at hown
          clear k1
          by_cases hjl : j < cl
          · obtain ⟨s, hs⟩ : ∃ s, (Hi.ch H.n P x)[j]? = some s := ⟨_, List.getElem?_eq_getElem (by rw [HCL.out]; exact hjl)⟩
            have hsm := Hi.mem_ch.1 (List.mem_of_getElem? hs)
            obtain ⟨sb, scap, hsv2, hsbl, hcell⟩ := own_at0 hown (by omega)
            have hsv3 := HSV.out
            rw [HCL.out, hsv2] at hsv3
            obtain ⟨rfl, -, rfl⟩ := Value.slice.inj hsv3
            have e1 := (hcell j (.int .i64 (s : Int)) (Kit.natVals_at hs)).1
            obtain ⟨-, -, c1, -⟩ := hsi x (by rw [HNN.out]; exact hxn)
            obtain ⟨-, -, c2, -⟩ := hsi s hsm.2.1
            change wr.cell? ⟨g, x * 4 + 2, none⟩ = some (.int .i64 ((dj H.n P d x j x : Nat) : Int)) at c1
            change wr.cell? ⟨g, s * 4 + 2, none⟩ = some (.int .i64 ((dj H.n P d x j s : Nat) : Int)) at c2
            rw [dj_self HF.out HX.out] at c1
            have hdx := HF.out.dle x (List.mem_of_getElem? HX.out)
            have hD := (HB.out.below (W' := wr.drew) (Below.drew (Below.refl _ _)) hbase).depth (d x + 1) hsm.2.1 HCV.out hbase
            rw [dj_step hs] at hD
            have ecast : ((d x + 1 : Nat) : Int) = (d x : Int) + 1 := by omega
            rw [ecast] at hD
            obtain ⟨fz, hD2⟩ := hD
            have HD := hid hD2
            have hsn := hsm.2.1
            rw [HNN.out] at hsn
            obtain ⟨dx, hdxx⟩ : ∃ dx, d x = dx := ⟨_, rfl⟩
            rw [hdxx] at c1 HD hdx
            have fz2 : wr.frozen? ⟨g, s * 4 + 2, none⟩ = false := fz
            clear hD2 fz hsi hown hcell hsv2 hsv3 hs hsm hdxx ecast
            go_wp2
            go_region
            go_wp2
            go_roundw
            case rel => exact ⟨j + 1, by go_num, by omega, HD⟩
            case measure => simp [intOf]; omega
          · obtain rfl : j = cl := by omega
            obtain ⟨-, -, -, c3⟩ := hsi x (by rw [HNN.out]; exact hxn)
            change wr.cell? ⟨g, x * 4 + 3, none⟩ = some (H.sv x) at c3
            have HOw := hid (fun X (b : Below wr.heap.size wr X) => Kit.owns_below HB.out.hm.ord b (Nat.le_refl _))
            have HSw := hid (fun X (b : Below wr.heap.size wr X) => Kit.isS_of_owns (Kit.owns_below hown b (Nat.le_refl _)) (by omega))
            have hbb := HB.out.hm.base_lt
            change Hid (∀ X, Below wr.heap.size wr X → X.ownsRow base 3 1 ov O.length (natVals O)) at HOw
            rw [HOV.out] at HOw
            rw [HSV.out, HCL.out] at HSw c3
            clear hsi hown
            have hgne : ov.ownBlock ≠ some g := fun e => own_unlike HB.out.hm.cls HB.out.hm.ord (by decide) g (show H.cv.ownBlock = some g by rw [HCV.out]; rfl) e
            have hhne : ov.ownBlock ≠ some H.hb := own_unlike_box HB.out.hm.ord HB.out.hm.box (by decide)
            have HG1 := hid hgne
            have HG2 := hid hhne
            clear hgne hhne
            go_wp2
            go_region_law (refine step_ints rfl (.tmp 66) (.tmp 74) rfl base (.slice (some ⟨og, 0, none⟩) O.length oc) O.length (natVals O) rfl (HOw.out _ (by repeat' first | with_reducible exact Below.refl _ _ | with_reducible assumption | with_reducible refine belows_drewN ?_ _ | with_reducible refine Below.drew ?_ | with_reducible refine Below.setCell ?_ ?_ _ | with_reducible refine Below.alloc ?_ ?_ _ | omega | (simp; done) | (simp; omega))) (by first | omega | (simp; omega)) (.slice sa j sc) j (natVals (Hi.ch H.n P x)) rfl (HSw.out _ (by repeat' first | with_reducible exact Below.refl _ _ | with_reducible assumption | with_reducible refine belows_drewN ?_ _ | with_reducible refine Below.drew ?_ | with_reducible refine Below.setCell ?_ ?_ _ | with_reducible refine Below.alloc ?_ ?_ _ | omega | (simp; done) | (simp; omega))) (natVals_one _) (by omega) ?_; intro v2 w3 ho3 hg3 hk3; rw [← HOV.out] at hg3 hk3; obtain ⟨qq, q0, q2, qf, hA⟩ := HB.out.app (l := Hi.ch H.n P x) (by repeat' first | with_reducible exact Below.refl _ _ | with_reducible assumption | with_reducible refine belows_drewN ?_ _ | with_reducible refine Below.drew ?_ | with_reducible refine Below.setCell ?_ ?_ _ | with_reducible refine Below.alloc ?_ ?_ _ | omega | (simp; done) | (simp; omega)) hg3 hk3 (by rw [HCL.out]; exact ho3) hbase; rw [HOV.out] at q2; have q1 := (qq ⟨H.hb, 0, none⟩ hhl HG2.out).trans k0; have q3 := (qq ⟨g, x * 4 + 3, none⟩ hgl2 HG1.out).trans c3; have HA := hid hA; obtain ⟨b2, p2, rfl⟩ := own_form ho3; clear ho3 hg3 hk3 hA qq)
            all_goals
              go_wp2
              go_meet
              exact ⟨_, by rw [← dj_all, HCL.out]; exact HA⟩
      case rest =>
        obtain ⟨v2, HA⟩ := hcut
        clear HB k0 k2 b0 s3 o1
        go_wp2
        go_roundw
        case rel => exact ⟨i + 1, _, _, _, by go_num, HA, HF.out.step HX.out⟩
        case measure => simp [intOf]; omega
    · obtain rfl : i = O.length := by omega
      haveI : Inhabited (Cn H.n) := ⟨⟨0, HN.out⟩⟩
      have hltO := HF.out.lt
      have hsz : (cnL O hltO).toArray.size = O.length := by unfold cnL; simp
      have hcon := Any.slices_SortFunc Sh.sort (encC (n := H.n)) (fun _ => rfl) (cfC d) (swo d H.n) 60 #[.pointer (some ⟨w.heap.size, 0, none⟩)] og 0 oc (cnL O hltO).toArray wo (enters_of Tryd.func60 (by kernel_rfl) rfl) (HB.out.cmp HN.out HOV.out _) (holdsC hltO hoc) hol (by omega)
      change Calls Tryd.prog 59 _ _ _ at hcon
      have HCo := hid hcon
      rw [hsz] at HCo
      clear hcon hsi hoc
      have hbs := HB.out.bx.sz
      go_wp2_with (go_at_call 59; refine HCo.out.mono ?_; rintro e w3 ⟨rfl, d', m, os, hp, hs, hw3⟩; have HW3 := hid hw3; have HP3 := hid hp; have HS3 := hid hs; clear hw3 hp hs)
      have hd' : d'.size = O.length := by have := HP3.out.1; omega
      have hch := sortW_chg (encC (n := H.n)) (w := wo) (blk := og) m d' os
      rw [← HW3.out] at hch
      have hob : ov.ownBlock = some og := by rw [HOV.out]; rfl
      have ho0 := HB.out.hm.ord
      change wo.ownsRow base 3 1 ov O.length (natVals O) at ho0
      rw [HOV.out] at ho0
      have ho3 := sortW_own (encC (n := H.n)) ho0 m d' os hd'
      rw [← HW3.out, enc_vals, ← HOV.out] at ho3
      have hM3 := HB.out.hm.setOd (l := d'.toList.map (·.1)) (hch.mono (T := fun i => ov.ownBlock = some i) (fun j _ e => by rw [e]; exact hob)) (by rw [List.length_map, Array.length_toList, hd']; exact ho3)
      have bx3 := HB.out.bx.chg hch (fun e => own_unlike_box HB.out.hm.ord HB.out.bx (by decide) (show ov.ownBlock = _ by rw [e]; exact hob))
      have hB3 := HB.out.bel.trans (hch.to_below (fun j e => by rw [e]; exact Kit.own_base HB.out.hm.ord og hob) (Nat.le_trans hbase HB.out.sz))
      have hsz3 := Nat.le_trans HB.out.sz hch.size
      have b3 : w3.cell? ⟨w.heap.size, 0, none⟩ = some (.pointer (some ⟨H.hb, 0, none⟩)) := bx3.cell 0
      obtain ⟨z0, -, z2⟩ := hM3.cells
      change w3.cell? ⟨H.hb, 0, none⟩ = some H.cv at z0
      change w3.cell? ⟨H.hb, 2, none⟩ = some ov at z2
      rw [HCV.out, HNN.out] at z0
      rw [HOV.out] at z2
      have HM3 := hid hM3
      have HB3 := hid hB3
      clear hM3 hB3 hch ho3 ho0 bx3 k0 k2 b0 hob
      go_quiet (fail)
      go_wp2
      go_ret
      have HBq := belows HB3.out (below_drewN w3 nq) (Nat.le_trans hbase hsz3)
      by_cases hO : O.length = n
      · have tr := HF.out.full HN.out HP.out (by rw [HNN.out]; exact hO)
        have hso := sorted_ord tr hltO HF.out.nd (Hi.all_in HF.out.nd hltO (by rw [HNN.out]; exact hO)) (d' := d') (by rw [hsz]; exact HP3.out) (by rw [hsz]; exact HS3.out)
        refine ⟨HBq, hsz3, .inr ⟨by simp [hO], d, ov, tr, ?_⟩⟩
        have := HM3.out.drewN nq
        rw [hso.1] at this
        exact this
      · refine ⟨HBq, hsz3, .inl ⟨by simp; omega, ?_⟩⟩
        rintro ⟨D, tr⟩
        have := HF.out.all tr
        rw [HNN.out] at this
        exact hO this
end Go.Proofs.YtahjnaoabfkpcaaDoor
namespace Go.Proofs.YtahjnaoabfkpcaaDoor
open Go Go.RowKit
open Kit (natVals)

theorem infoLn : (Tryd.prog.info? 59).map (fun i => (i.zero, i.size, i.bytes)) = some (some (.agg #[.string ⟨#[]⟩, .string ⟨#[]⟩]), 2, 32) := by kernel_rfl
theorem src_noneL (c : Nat) (w : World) : Src Tryd.prog 2 32 (.slice none 0 c) 0 [] w :=
  ⟨.inl ⟨_, Tryd.underlying32⟩, fun _ => rfl, rfl, rfl, rfl, fun u hu => by cases hu⟩
/-- An append of lines that are read. -/
theorem wpList_lines {ops : Array Oper} {rest : List Oper} {o : Oper} {a : Act} {w : World} {Q : Exit → Act → World → Prop} (hgd : o.guard = none) (s x : Operand)
    (hop : o.op = Op.call { callee := Callee.builtin Builtin.append, args := #[s, x], argTypes := #[32, 32] })
    (B : Nat) (v : Value) (n : Nat) (xs : List Value) (hs : a.eval s = v) (hown : w.ownsRow B 59 2 v n xs) (hB : B ≤ w.heap.size)
    (xv : Value) (m : Nat) (news : List Value) (hx : a.eval x = xv) (hr : Kit.IsS 2 w xv m news) (h1 : ∀ u ∈ news, u.oneCell' = true) (hnm : n + m ≤ 10000000)
    (hK : ∀ v' w', w'.ownsRow B 59 2 v' (n + m) (xs ++ news) → w.grownBy w' v.ownBlock → wpList Tryd.prog ops Q rest (a.put o.dst v') w') : wpList Tryd.prog ops Q (o :: rest) a w := by
  obtain ⟨i0, hi, hz0, hz1, hz2⟩ := info_parts infoLn
  have some' : ∀ ad c, xv = .slice (some ad) m c → (∀ j u, news[j]? = some u → w.cell? (ad.add j) = some u) → wpList Tryd.prog ops Q (o :: rest) a w := fun ad c he hc => by
    subst he
    refine wpList_plain hgd fun K hK2 => ?_
    obtain ⟨v', w', hr', h2, h3, -, h5⟩ := run_append_own_at (P := Tryd.prog) w B 32 o.type 59 i0 _ 2 32 Tryd.underlying32 hi hz0 hz1 hz2 rfl (by decide) v n xs hown ad m c news hr.1 hc h1 (by unfold maxLen; omega) (by omega) hB
    unfold Oper.wp execOp
    simp only [hop, resolve, invoke, builtin, Sem.run_bind, Sem.run_pure, Result.andThen_ok, List.map_toArray, List.map_cons, List.map_nil, hs, hx, hr']
    exact hK2 _ _ (hK _ _ h2 h3)
  rcases hr.2.2 with ⟨h0, ad, c, he⟩ | ⟨b, ofs, c, he, -, -, hc⟩
  · subst h0
    have hn : news = [] := List.eq_nil_of_length_eq_zero (by simpa using hr.1)
    cases ad with
    | some ad => exact some' ad c he (fun j u hj => by rw [hn] at hj; simp at hj)
    | none =>
      subst hn he
      have hcap : ∃ ad' n' c', v = .slice ad' n' c' ∧ n' ≤ c' := by
        rcases hown.2 with ⟨h, -⟩ | ⟨g, cap, cur, h, -, -, h4, -⟩
        · exact ⟨none, 0, 0, h, Nat.le_refl _⟩
        · exact ⟨_, _, _, h, h4⟩
      obtain ⟨ad', n', c', he', hle⟩ := hcap
      refine wpList_plain hgd fun K hK2 => ?_
      have hr' := run_append_nothing (P := Tryd.prog) w 32 32 o.type 59 i0 Tryd.underlying32 hi ad' n' c' hle (.slice none 0 c) (by rw [hz1]; exact src_noneL c w)
      rw [← he'] at hr'
      unfold Oper.wp execOp
      simp only [hop, resolve, invoke, builtin, Sem.run_bind, Sem.run_pure, Result.andThen_ok, List.map_toArray, List.map_cons, List.map_nil, hs, hx, hr']
      exact hK2 _ _ (hK _ _ (by simpa using hown) ⟨rfl, rfl, rfl, Nat.le_refl _, fun _ _ _ => rfl⟩)
  · exact some' _ c he (fun j u hj => by rw [Go.WideShapes.add_plain]; exact hc j u hj)
theorem lines_one (l : List Hi.Ln) : ∀ u ∈ l.flatMap lnL, u.oneCell' = true := by
  intro u hu
  obtain ⟨x, -, hx⟩ := List.mem_flatMap.1 hu
  simp only [lnL, List.mem_cons, List.not_mem_nil, or_false] at hx
  rcases hx with rfl | rfl <;> rfl
set_option maxRecDepth 100000 in
theorem builtIn_any (w : World) : Calls Tryd.prog 44 #[] w fun e w' => e = .returned (.slice (some ⟨w.heap.size, 0, none⟩) 8 8) ∧ w' = w.alloc (.cells (Hi.bl.flatMap lnL).toArray 59) := by
  go_enter Tryd.func44, Tryd.ntmps44
  go_wp2
  go_ret
  exact ⟨rfl, rfl⟩
/-- What hier.New answers. -/
def NewP (l : List Hi.Ln) (w : World) (e : Ending) (w' : World) : Prop :=
  ∃ v, e = .returned (.tuple #[v, .int .i64 (Hi.err l)]) ∧ Below w.heap.size w w' ∧ (Hi.err l ≠ 0 → v = .pointer none) ∧
    (Hi.err l = 0 → ∃ H D, v = .pointer (some ⟨H.hb, 0, none⟩) ∧ HM w' w.heap.size H ∧ HOk H (Hi.sup (Hi.bl ++ l)) D ∧ H.n = 8 + l.length ∧ H.names = Hi.nms (Hi.bl ++ l) ∧ H.nm = Hi.nmf (Hi.bl ++ l))
theorem NewP.bad {l : List Hi.Ln} {w w' : World} {k : Int} (he : Hi.err l = k) (hk : k ≠ 0) (hb : Below w.heap.size w w') : NewP l w (.returned (.tuple #[.pointer none, .int .i64 k])) w' :=
  ⟨_, by rw [he], hb, fun _ => rfl, fun h => absurd (he.symm.trans h) hk⟩
theorem run_makeMapH (w : World) (n : Int) : (Instr.makeMap 74 (some (.int .i64 n))).run Tryd.prog w = .ok (.map (some w.heap.size)) (w.alloc (.map #[] 0)) := by
  simp [Instr.makeMap, run_underlying Tryd.underlying74, asInt, asIntOf]
def H0 (hb mb : Nat) (cv ov : Value) (L : List Hi.Ln) : HV := ⟨hb, mb, cv, ov, 0, Hi.nmf L, fun _ => -1, fun _ => 0, fun _ => .slice none 0 0, fun _ => [], []⟩
theorem H0.rep {W : World} {base hb mb : Nat} {cv ov : Value} (L : List Hi.Ln) (h : W.heap[hb]? = some (.cells #[cv, .map (some mb), ov] 77 (0, 0))) (hm : NmM W mb []) (hc : W.ownsRow base 94 4 cv 0 []) (ho : W.ownsRow base 3 1 ov 0 []) (h1 : base ≤ hb) (h2 : base ≤ mb) : HM W base (H0 hb mb cv ov L) :=
  ⟨h, hm, hc, ho, (fun k hk => by cases hk), (fun i j hi => by cases hi), (fun i hi => by cases hi), h1, h2⟩
theorem own_made {W wx : World} {base N s k : Nat} {e : TypeId} {C : Array Value} (hk : k = W.heap.size) (hB : base ≤ W.heap.size) (hC : C.size = N * s) (hN : N ≤ maxLen) (hb : Below (W.heap.size + 1) (W.alloc (.cells C e)) wx) : wx.ownsRow base e s (.slice (some ⟨k, 0, none⟩) 0 N) 0 [] := by
  subst hk
  refine ⟨by simp, .inr ⟨W.heap.size, N, C, rfl, hB, (hb.block _ (by omega)).trans (heap_alloc_last W _), Nat.zero_le _, hN, hC, by simp⟩⟩
theorem box_made {W wx : World} {k : Nat} {cs : Array Value} {T : TypeId} (hk : k = W.heap.size) (hb : Below (W.heap.size + 1) (W.alloc (.cells cs T)) wx) : wx.heap[k]? = some (.cells cs T (0, 0)) := by
  subst hk
  exact (hb.block _ (by omega)).trans (heap_alloc_last W _)
theorem map_made {W wx : World} {k : Nat} (hk : k = W.heap.size) (hb : Below (W.heap.size + 1) (W.alloc (.map #[] 0)) wx) : NmM wx k [] := by
  subst hk
  exact (NmM.new W).keep (hb.block _ (by omega))
theorem err_long {l : List Hi.Ln} (h : 64 < l.length) : Hi.err l = 3 := by unfold Hi.err; rw [if_pos h]
theorem err_name {l : List Hi.Ln} (h : ¬ 64 < l.length) (h1 : ¬ (Hi.nms (Hi.bl ++ l)).Nodup) : Hi.err l = 70 := by unfold Hi.err Hi.errL; rw [if_neg h, if_pos h1]
theorem err_super {l : List Hi.Ln} (h : ¬ 64 < l.length) (h1 : (Hi.nms (Hi.bl ++ l)).Nodup) (h2 : ∃ k x, 1 ≤ k ∧ (Hi.bl ++ l)[k]? = some x ∧ Hi.idx x.2 (Hi.nms (Hi.bl ++ l)) = none) : Hi.err l = 71 := by
  unfold Hi.err Hi.errL
  rw [if_neg h, if_neg (fun k => k h1), if_pos h2]
theorem err_cycle {l : List Hi.Ln} (h : ¬ 64 < l.length) (h1 : (Hi.nms (Hi.bl ++ l)).Nodup) (h2 : ∀ k x, 1 ≤ k → (Hi.bl ++ l)[k]? = some x → Hi.idx x.2 (Hi.nms (Hi.bl ++ l)) ≠ none) (h3 : ¬ ∃ D, Hi.Tr (Hi.bl ++ l).length (Hi.sup (Hi.bl ++ l)) D) : Hi.err l = 72 := by
  unfold Hi.err Hi.errL
  rw [if_neg h, if_neg (fun k => k h1), if_neg (by rintro ⟨k, x, a, b, c⟩; exact h2 k x a b c), if_pos h3]
theorem err_ok {l : List Hi.Ln} (h : ¬ 64 < l.length) (h1 : (Hi.nms (Hi.bl ++ l)).Nodup) (h2 : ∀ k x, 1 ≤ k → (Hi.bl ++ l)[k]? = some x → Hi.idx x.2 (Hi.nms (Hi.bl ++ l)) ≠ none) (h3 : ∃ D, Hi.Tr (Hi.bl ++ l).length (Hi.sup (Hi.bl ++ l)) D) : Hi.err l = 0 := by
  unfold Hi.err Hi.errL
  rw [if_neg h, if_neg (fun k => k h1), if_neg (by rintro ⟨k, x, a, b, c⟩; exact h2 k x a b c), if_neg (fun k => k h3)]
theorem bl_small : ∀ x ∈ Hi.bl, x.1.size ≤ maxLen ∧ x.2.size ≤ maxLen := by
  intro x hx
  have : x.1.size ≤ 100 ∧ x.2.size ≤ 100 := by revert x; decide
  unfold maxLen
  omega
theorem made_ok {l : List Hi.Ln} {H : HV} {sv : Nat → Value} {ov : Value} {D : Nat → Nat} (hl : l.length ≤ 64) (tr : Hi.Tr (Hi.bl ++ l).length (Hi.sup (Hi.bl ++ l)) D) (hn : H.n = (Hi.bl ++ l).length) :
    HOk { hung H (Hi.bl ++ l) (Hi.bl ++ l).length sv with ov := ov, od := Hi.ordL H.n D, dp := D } (Hi.sup (Hi.bl ++ l)) D := by
  refine ⟨by show Hi.Tr H.n _ _; rw [hn]; exact tr, by show H.n ≤ 72; rw [hn, List.length_append, Hi.bl_len]; omega, fun k hk => ?_, fun k _ => rfl, fun k hk => ?_, rfl⟩
  · show suK _ _ k = _
    have hk' : k < (Hi.bl ++ l).length := by rw [← hn]; exact hk
    unfold suK
    by_cases h0 : k = 0
    · rw [if_pos h0, if_neg (by omega)]
    · rw [if_neg h0, if_pos ⟨by omega, hk'⟩]
  · show Hi.ch (Hi.bl ++ l).length _ k = Hi.ch H.n _ k
    rw [hn]
set_option maxRecDepth 100000 in
set_option maxHeartbeats 2000000 in
theorem New_any {w : World} {lv : Value} {l : List Hi.Ln} (hl : Kit.IsS 2 w lv l.length (l.flatMap lnL)) (hs : ∀ x ∈ l, x.1.size ≤ maxLen ∧ x.2.size ≤ maxLen) : Calls Tryd.prog 30 #[lv] w (NewP l w) := by
  have hll := hl.2.1
  have HLV := hid (fun X (b : Below w.heap.size w X) => hl.below b (Nat.le_refl _))
  obtain ⟨la, lc, rfl⟩ := hl.len
  clear hl
  by_cases h64 : 64 < l.length
  · have H64 := hid (err_long h64)
    go_enter Tryd.func30, Tryd.ntmps30
    go_wp2
    exact bodyPost_ret (v := .tuple #[.pointer none, .int .i64 3]) (by simp [results, Tryd.results30, go_sem]) rfl (NewP.bad H64.out (by decide) (Below.refl _ _))
  · have H64 := hid h64
    have hl64 : l.length ≤ 64 := by omega
    have HBi := hid (builtIn_any w)
    have HSz := hid (show ∀ x ∈ Hi.bl ++ l, x.1.size ≤ maxLen ∧ x.2.size ≤ maxLen from fun x hx => by
      rcases List.mem_append.1 hx with h | h
      · exact bl_small x h
      · exact hs x h)
    obtain ⟨ic, hic, hc0, hc1, hc2⟩ := info_parts infoC
    obtain ⟨ii, hii, hi0, hi1, hi2⟩ := info_parts infoI
    have hmm := run_makeMapH
    obtain ⟨cc, hcs, hmc⟩ : ∃ cc : Array Value, cc.size = (8 + l.length) * 4 ∧ ∀ W : World, (Instr.makeSlice 73 (.int .i64 0) (.int .i64 (8 + (l.length : Int)))).run Tryd.prog W = .ok (.slice (some ⟨W.heap.size, 0, none⟩) 0 (8 + l.length)) (W.alloc (.cells cc 94)) := ⟨_, size_madeCells _ _, fun W => by
      have h := run_make (P := Tryd.prog) (w := W) 73 94 ic _ Tryd.underlying73 hic hc0 .i64 .i64 0 (8 + (l.length : Int)) (by omega) (by omega) (by rw [hc2]; omega) (by omega)
      rw [hc1, show (8 + (l.length : Int)).toNat = 8 + l.length by omega] at h
      exact h⟩
    obtain ⟨cn, hns, hmi⟩ : ∃ cn : Array Value, cn.size = (8 + l.length) * 1 ∧ ∀ W : World, (Instr.makeSlice 75 (.int .i64 0) (.int .i64 (8 + (l.length : Int)))).run Tryd.prog W = .ok (.slice (some ⟨W.heap.size, 0, none⟩) 0 (8 + l.length)) (W.alloc (.cells cn 3)) := ⟨_, size_madeCells _ _, fun W => by
      have h := run_make (P := Tryd.prog) (w := W) 75 3 ii _ Tryd.underlying75 hii hi0 .i64 .i64 0 (8 + (l.length : Int)) (by omega) (by omega) (by rw [hi2]; omega) (by omega)
      rw [hi1, show (8 + (l.length : Int)).toNat = 8 + l.length by omega] at h
      exact h⟩
    have HCS := hid hcs
    have HNS := hid hns
    clear hcs hns
    have hown0 : (w.alloc (.cells (Hi.bl.flatMap lnL).toArray 59)).ownsRow w.heap.size 59 2 (.slice (some ⟨w.heap.size, 0, none⟩) 8 8) 8 (Hi.bl.flatMap lnL) :=
      ⟨rfl, .inr ⟨w.heap.size, 8, _, rfl, Nat.le_refl _, heap_alloc_last w _, Nat.le_refl _, by unfold maxLen; omega, rfl, rfl⟩⟩
    have HO0 := hid hown0
    clear h64 hs hown0 hic hc0 hc1 hc2 hii hi0 hi1 hi2
    go_enter Tryd.func30, Tryd.ntmps30
    go_upto_region 4 with (first | (go_at_call 44; refine HBi.out.mono ?_; rintro e w1 ⟨rfl, rfl⟩) | (at_builtin; refine wpList_lines rfl (.tmp 9) (.tmp 10) rfl w.heap.size (.slice (some ⟨w.heap.size, 0, none⟩) 8 8) 8 (Hi.bl.flatMap lnL) rfl HO0.out (by simp) (.slice la l.length lc) l.length (l.flatMap lnL) rfl (HLV.out _ (by repeat' first | with_reducible exact Below.refl _ _ | with_reducible assumption | with_reducible refine belows_drewN ?_ _ | with_reducible refine Below.drew ?_ | with_reducible refine Below.setCell ?_ ?_ _ | with_reducible refine Below.alloc ?_ ?_ _ | omega | (simp; done) | (simp; omega))) (lines_one l) (by omega) ?_; intro v1 w1 ho1 hg1; have hb1 : Below w.heap.size w w1 := Kit.below_grown ((Below.refl _ w).alloc (Nat.le_refl _) (.cells (Hi.bl.flatMap lnL).toArray 59)) hg1 (by simp) (Kit.own_base HO0.out); obtain ⟨va, vp, rfl⟩ := own_form ho1; have HLn := hid (show Lns w1 w.heap.size (.slice va (8 + l.length) vp) (Hi.bl ++ l) by unfold Lns; rw [List.length_append, Hi.bl_len, List.flatMap_append]; exact ho1); have HB1 := hid hb1; clear ho1 hg1 hb1))
    go_cut [4, 5] (fun v p wx => v = .slice va (8 + l.length) vp ∧ p = .pointer (some ⟨w1.heap.size + 3, 0, none⟩) ∧ ∃ (mb : Nat) (cv ov : Value), Hid (HM wx w.heap.size (H0 (w1.heap.size + 3) mb cv ov (Hi.bl ++ l)) ∧ Below w1.heap.size w1 wx))
    case first =>
      go_region
      all_goals
        go_wp2
        go_meet
        have hm3 : (8 + l.length) ≤ maxLen := by unfold maxLen; omega
        have hz1 : w.heap.size ≤ w1.heap.size := HB1.out.size
        have e1 : ∀ W : World, ∀ o : Obj, W.heap.size + 1 ≤ (W.alloc o).heap.size := fun W o => by rw [World.size_alloc]; exact Nat.le_refl _
        have e2 : ∀ (W : World) (o o2 : Obj), W.heap.size + 1 ≤ ((W.alloc o).alloc o2).heap.size := fun W o o2 => by rw [World.size_alloc, World.size_alloc]; omega
        have e3 : ∀ (W : World) (o o2 o3 : Obj), W.heap.size + 1 ≤ (((W.alloc o).alloc o2).alloc o3).heap.size := fun W o o2 o3 => by rw [World.size_alloc, World.size_alloc, World.size_alloc]; omega
        refine ⟨rfl, rfl, _, _, _, hid ⟨H0.rep _ (box_made ?_ (Below.drew (Below.refl _ _))) ?_ ?_ ?_ ?_ ?_, ?_⟩⟩
        · simp only [World.size_alloc]
        · first
            | exact map_made (by first | rfl | (repeat rw [World.size_alloc])) (Below.drew ((Below.refl _ _).alloc (e1 _ _) _))
            | exact map_made (by first | rfl | (repeat rw [World.size_alloc])) (Below.drew (((Below.refl _ _).alloc (e1 _ _) _).alloc (e2 _ _ _) _))
            | exact map_made (by first | rfl | (repeat rw [World.size_alloc])) (Below.drew ((((Below.refl _ _).alloc (e1 _ _) _).alloc (e2 _ _ _) _).alloc (e3 _ _ _ _) _))
        · first
            | exact own_made (by first | rfl | (repeat rw [World.size_alloc])) (by first | omega | ((repeat rw [World.size_alloc]); omega)) HCS.out hm3 (Below.drew ((Below.refl _ _).alloc (e1 _ _) _))
            | exact own_made (by first | rfl | (repeat rw [World.size_alloc])) (by first | omega | ((repeat rw [World.size_alloc]); omega)) HCS.out hm3 (Below.drew (((Below.refl _ _).alloc (e1 _ _) _).alloc (e2 _ _ _) _))
            | exact own_made (by first | rfl | (repeat rw [World.size_alloc])) (by first | omega | ((repeat rw [World.size_alloc]); omega)) HCS.out hm3 (Below.drew ((((Below.refl _ _).alloc (e1 _ _) _).alloc (e2 _ _ _) _).alloc (e3 _ _ _ _) _))
        · first
            | exact own_made (by first | rfl | (repeat rw [World.size_alloc])) (by first | omega | ((repeat rw [World.size_alloc]); omega)) HNS.out hm3 (Below.drew ((Below.refl _ _).alloc (e1 _ _) _))
            | exact own_made (by first | rfl | (repeat rw [World.size_alloc])) (by first | omega | ((repeat rw [World.size_alloc]); omega)) HNS.out hm3 (Below.drew (((Below.refl _ _).alloc (e1 _ _) _).alloc (e2 _ _ _) _))
            | exact own_made (by first | rfl | (repeat rw [World.size_alloc])) (by first | omega | ((repeat rw [World.size_alloc]); omega)) HNS.out hm3 (Below.drew ((((Below.refl _ _).alloc (e1 _ _) _).alloc (e2 _ _ _) _).alloc (e3 _ _ _ _) _))
        · omega
        · omega
        · exact Below.drew (((((Below.refl _ w1).alloc (Nat.le_refl _) _).alloc (by simp only [World.size_alloc]; omega) _).alloc (by simp only [World.size_alloc]; omega) _).alloc (by simp only [World.size_alloc]; omega) _)
    case rest =>
      obtain ⟨rfl, rfl, mb, cv0, ov0, HH⟩ := hcut
      obtain ⟨W3, hW3⟩ : ∃ W3, W3 = wc := ⟨_, rfl⟩
      rw [← hW3] at HH ⊢
      clear hW3
      have hz1 := HB1.out.size
      have hbare : Bare (H0 (w1.heap.size + 3) mb cv0 ov0 (Hi.bl ++ l)) (Hi.bl ++ l) := ⟨rfl, rfl, fun _ => rfl, fun _ => rfl, fun _ => rfl, fun _ => rfl, rfl⟩
      have hLl : (Hi.bl ++ l).length ≤ 72 := by rw [List.length_append, Hi.bl_len]; omega
      have hNa := nameAll_any HH.out.1 (HLn.out.below HH.out.2) hbare hLl (fun x hx => (HSz.out x hx).1)
      have HNa := hid hNa
      have HB3 := hid (belows HB1.out HH.out.2 hz1)
      have hz3 := HB3.out.size
      have HPn := hid (show 1 ≤ (Hi.bl ++ l).length by rw [List.length_append, Hi.bl_len]; omega)
      have HLl := hid hLl
      clear HH hbare hLl hNa
      obtain ⟨H1, hH1⟩ : ∃ H1, H1 = H0 (w1.heap.size + 3) mb cv0 ov0 (Hi.bl ++ l) := ⟨_, rfl⟩
      have HH1 := hid hH1
      have ehb : H1.hb = w1.heap.size + 3 := by rw [hH1]; rfl
      rw [← hH1] at HNa
      rw [← ehb]
      clear hH1 ehb
      go_wp2_with fail
      refine HNa.out.mono ?_
      rintro e w4 ⟨hb4, hz4, (⟨rfl, hnd⟩ | ⟨rfl, hnd, cv, hm4, hl4⟩)⟩
      · have HB4 := hid (HB3.out.trans hb4)
        have HE := hid (err_name H64.out hnd)
        clear hnd hb4
        go_wp2
        exact bodyPost_ret (v := .tuple #[.pointer none, .int .i64 70]) (by simp [results, Tryd.results30, go_sem]) rfl (NewP.bad HE.out (by decide) HB4.out)
      · have HB4 := hid (HB3.out.trans hb4)
        have hHa := hangAll_any hm4 hl4 rfl HLl.out (by show H1.nm = _; rw [HH1.out]; rfl) (fun x hx => (HSz.out x hx).2) (fun k => by show H1.su k = _; rw [HH1.out]; rfl) (fun k => by show H1.sb k = _; rw [HH1.out]; rfl)
        change Calls _ _ #[.pointer (some ⟨H1.hb, 0, none⟩), .slice va (8 + l.length) vp] w4 _ at hHa
        have HHa := hid hHa
        have HND := hid hnd
        clear hHa hm4 hl4 hnd hb4 HNa
        go_wp2_with fail
        refine HHa.out.mono ?_
        rintro e w5 ⟨hb5, hz5, (⟨rfl, hbad⟩ | ⟨rfl, hok, sv, hm5⟩)⟩
        · have HB5 := hid (HB4.out.trans hb5)
          have HE := hid (err_super H64.out HND.out hbad)
          clear hbad hb5
          go_wp2
          exact bodyPost_ret (v := .tuple #[.pointer none, .int .i64 71]) (by simp [results, Tryd.results30, go_sem]) rfl (NewP.bad HE.out (by decide) HB5.out)
        · have HB5 := hid (HB4.out.trans hb5)
          have hOr := orderAll_any (P := Hi.sup (Hi.bl ++ l)) hm5 HPn.out HLl.out (fun k _ _ => Hi.sup_lt _ HPn.out k) (fun k _ => rfl) (by show H1.od = _; rw [HH1.out]; rfl) (by show H1.dp = _; rw [HH1.out]; rfl)
          change Calls _ _ #[.pointer (some ⟨H1.hb, 0, none⟩)] w5 _ at hOr
          have HOr := hid hOr
          have HOk := hid hok
          clear hOr hm5 hok hb5 HHa
          go_wp2_with fail
          refine HOr.out.mono ?_
          rintro e w6 ⟨hb6, hz6, (⟨rfl, hbad⟩ | ⟨rfl, D, ov, tr, hm6⟩)⟩
          · have HB6 := hid (HB5.out.trans hb6)
            have HE := hid (err_cycle H64.out HND.out HOk.out hbad)
            clear hbad hb6
            go_wp2
            exact bodyPost_ret (v := .tuple #[.pointer none, .int .i64 72]) (by simp [results, Tryd.results30, go_sem]) rfl (NewP.bad HE.out (by decide) HB6.out)
          · have HB6 := hid (HB5.out.trans hb6)
            have HE := hid (err_ok H64.out HND.out HOk.out ⟨D, tr⟩)
            have HT := hid tr
            have HM6 := hid hm6
            clear hm6 tr hb6
            go_wp2
            refine bodyPost_ret (v := .tuple #[.pointer (some ⟨H1.hb, 0, none⟩), .int .i64 0]) (by simp [results, Tryd.results30, go_sem]) rfl ⟨.pointer (some ⟨H1.hb, 0, none⟩), by rw [HE.out], HB6.out, fun h => absurd HE.out h, fun _ => ⟨{ hung { H1 with cv := cv, n := (Hi.bl ++ l).length } (Hi.bl ++ l) (Hi.bl ++ l).length sv with ov := ov, od := Hi.ordL (Hi.bl ++ l).length D, dp := D }, D, rfl, HM6.out, made_ok (H := { H1 with cv := cv, n := (Hi.bl ++ l).length }) hl64 HT.out rfl, by show (Hi.bl ++ l).length = _; rw [List.length_append, Hi.bl_len], ?_, ?_⟩⟩
            · show (List.range (Hi.bl ++ l).length).map H1.nm = _
              rw [HH1.out]
              exact (Hi.nms_eq _).symm
            · show H1.nm = _
              rw [HH1.out]
              rfl
end Go.Proofs.YtahjnaoabfkpcaaDoor
namespace Go.Proofs.YtahjnaoabfkpcaaDoor
open Go Go.RowKit
open Kit (natVals)

theorem infoS : (Tryd.prog.info? 9).map (fun i => (i.zero, i.size, i.bytes)) = some (some (.string ⟨#[]⟩), 1, 16) := by kernel_rfl
set_option maxRecDepth 100000 in
theorem built_any (w : World) : Calls Tryd.prog 48 #[] w fun e w' => e = .returned (.slice (some ⟨w.heap.size, 0, none⟩) 8 8) ∧ w' = w.alloc (.cells (strV (Hi.nms Hi.bl)).toArray 9) := by
  go_enter Tryd.func48, Tryd.ntmps48
  go_wp2
  go_ret
  exact ⟨rfl, rfl⟩
/-- What the document's New answers. -/
def RNewP (l : List Hi.Ln) (w : World) (e : Ending) (w' : World) : Prop :=
  ∃ v, e = .returned (.tuple #[v, .int .i64 (Hi.err l)]) ∧ Below w.heap.size w w' ∧ (Hi.err l ≠ 0 → v = .pointer none) ∧
    (Hi.err l = 0 → ∃ rb D, v = .pointer (some ⟨rb, 0, none⟩) ∧ RM w' w.heap.size rb (Hi.nms (Hi.bl ++ l)) (supS (Hi.nms (Hi.bl ++ l)) l) ∧ ROk (Hi.bl ++ l).length (Hi.sup (Hi.bl ++ l)) D (Hi.nms (Hi.bl ++ l)) (supS (Hi.nms (Hi.bl ++ l)) l))
theorem RNewP.bad {l : List Hi.Ln} {w w' : World} {k : Int} (he : Hi.err l = k) (hk : k ≠ 0) (hb : Below w.heap.size w w') : RNewP l w (.returned (.tuple #[.pointer none, .int .i64 k])) w' :=
  ⟨_, by rw [he], hb, fun _ => rfl, fun h => absurd (he.symm.trans h) hk⟩
theorem bl_found (l : List Hi.Ln) : ∀ k x, k < 8 → 1 ≤ k → (Hi.bl ++ l)[k]? = some x → Hi.idx x.2 (Hi.nms (Hi.bl ++ l)) ≠ none := by
  intro k x hk h1 hx
  rw [List.getElem?_append_left (by exact hk)] at hx
  rw [ne_eq, Hi.idx_none, Classical.not_not]
  have : x.2 ∈ Hi.nms Hi.bl := by
    match k, hk, h1 with
    | 1, _, _ | 2, _, _ | 3, _, _ | 4, _, _ | 5, _, _ | 6, _, _ | 7, _, _ => cases hx; show _ ∈ Hi.bO :: Hi.bT :: Hi.nms Hi.bl.tail.tail; first | exact List.mem_cons_self | exact List.mem_cons_of_mem _ List.mem_cons_self
  unfold Hi.nms at *
  rw [List.map_append]
  exact List.mem_append_left _ this
theorem nms_snoc {l : List Hi.Ln} {i : Nat} {x : Hi.Ln} (hx : l[i]? = some x) : Hi.nms (Hi.bl ++ l.take (i + 1)) = Hi.nms (Hi.bl ++ l.take i) ++ [x.1] := by
  unfold Hi.nms
  rw [List.take_add_one, hx, ← List.append_assoc, List.map_append]
  rfl
theorem nodup_pre {l : List Hi.Ln} (i : Nat) (h : (Hi.nms (Hi.bl ++ l)).Nodup) : (Hi.nms (Hi.bl ++ l.take i)).Nodup := by
  unfold Hi.nms at *
  exact h.sublist (((List.Sublist.refl _).append (List.take_sublist _ _)).map _)
theorem idxI_neg {s : ByteArray} {N : List ByteArray} : idxI s N < 0 ↔ Hi.idx s N = none := by
  unfold idxI
  cases Hi.idx s N with
  | none => simp
  | some k => simp
theorem supS_snoc {l : List Hi.Ln} {N : List ByteArray} {i : Nat} {x : Hi.Ln} (hx : l[i]? = some x) : supS N (l.take (i + 1)) = supS N (l.take i) ++ [idxI x.2 N] := by
  unfold supS
  rw [List.take_add_one, hx, List.map_append, List.append_assoc]
  rfl
theorem owns_newL (W : World) {base : Nat} (hB : base ≤ W.heap.size) (xs : List Value) (t : TypeId) (hx : xs.length ≤ 1000 := by decide) : (W.alloc (.cells xs.toArray t)).ownsRow base t 1 (.slice (some ⟨W.heap.size, 0, none⟩) xs.length xs.length) xs.length xs :=
  ⟨by simp, .inr ⟨W.heap.size, xs.length, xs.toArray, rfl, hB, heap_alloc_last W _, Nat.le_refl _, by unfold maxLen; omega, by simp, by simp⟩⟩
theorem own_at0' {w : World} {base : Nat} {e : TypeId} {v : Value} {S : List Int} (h : w.ownsRow base e 1 v S.length (intV S)) (hn : 0 < S.length) : ∃ g cap, v = .slice (some ⟨g, 0, none⟩) S.length cap ∧ g < w.heap.size ∧ ∀ (i : Nat) (x : Int), S[i]? = some x → w.cell? ⟨g, i, none⟩ = some (.int .i64 x) := by
  obtain ⟨g, cap, h1, h2, h3⟩ := own_at0 h hn
  exact ⟨g, cap, h1, h2, fun i x hi => (h3 i _ (by simp [hi])).1⟩
/-- Where the document's New stands: so many names, so many supers. -/
structure RnI (w : World) (rb : Nat) (nv sv : Value) (N : List ByteArray) (S : List Int) (W : World) : Prop where
  rx : RX W w.heap.size rb nv sv N S
  bel : Below w.heap.size w W
theorem RnI.below {w W W' : World} {rb : Nat} {nv sv : Value} {N : List ByteArray} {S : List Int} (h : RnI w rb nv sv N S W) (hb : Below W.heap.size W W') : RnI w rb nv sv N S W' := ⟨h.rx.below hb, belows h.bel hb h.bel.size⟩
theorem quiet_find {w : World} {v : Value} {N : List ByteArray} (hv : Kit.IsS 1 w v N.length (N.map Value.string)) (s : ByteArray) : Calls Tryd.prog 49 #[v, .string s] w fun e w' => e = .returned (.int .i64 (idxI s N)) ∧ w' = w :=
  (find_any hv s).mono fun _ _ h => ⟨h.1, h.2.symm⟩
theorem IsS.drewN {sz n : Nat} {w : World} {v : Value} {xs : List Value} (h : Kit.IsS sz w v n xs) (m : Nat) : Kit.IsS sz (w.drewN m) v n xs := h.below (below_drewN w m) (Nat.le_refl _)
set_option maxRecDepth 100000 in
set_option maxHeartbeats 4000000 in
theorem rNew_any {w : World} {lv : Value} {l : List Hi.Ln} (hl : Kit.IsS 2 w lv l.length (l.flatMap lnL)) : Calls Tryd.prog 31 #[lv] w (RNewP l w) := by
  obtain ⟨i0, hi, hz0, hz1, hz2⟩ := info_parts infoS
  obtain ⟨i9, hi9, hz09, hz19, hz29⟩ := info_parts infoI
  have hll := hl.2.1
  obtain ⟨la, lc, rfl⟩ := hl.len
  have HL := hid (fun X (b : Below w.heap.size w X) => hl.below b (Nat.le_refl _))
  clear hl
  by_cases h64 : 64 < l.length
  · have H64 := hid (err_long h64)
    have h64i : (64 : Int) < (l.length : Int) := by omega
    go_enter Tryd.func31, Tryd.ntmps31
    go_wp2
    exact bodyPost_ret (v := .tuple #[.pointer none, .int .i64 3]) (by simp [results, Tryd.results31, go_sem]) rfl (RNewP.bad H64.out (by decide) (Below.refl _ _))
  · have H64 := hid h64
    have hl64 : l.length ≤ 64 := by omega
    have HBu := hid (built_any w)
    clear h64
    go_enter Tryd.func31, Tryd.ntmps31
    go_wp2_with (go_at_call 48; refine HBu.out.mono ?_; rintro e w1 ⟨rfl, rfl⟩)
    have hR0 : RnI w (w.heap.size + 2) (.slice (some ⟨w.heap.size, 0, none⟩) 8 8) (.slice (some ⟨w.heap.size + 1, 0, none⟩) 8 8) (Hi.nms (Hi.bl ++ l.take 0)) blS (((w.alloc (.cells (strV (Hi.nms Hi.bl)).toArray 9)).alloc (.cells (intV blS).toArray 3)).alloc (.cells #[.slice (some ⟨w.heap.size, 0, none⟩) 8 8, .slice (some ⟨w.heap.size + 1, 0, none⟩) 8 8] 82)) := by
      refine ⟨⟨?_, ?_, ?_, by omega⟩, (((Below.refl _ w).alloc (Nat.le_refl _) _).alloc (by simp) _).alloc (by simp; omega) _⟩
      · have := BX.new ((w.alloc (.cells (strV (Hi.nms Hi.bl)).toArray 9)).alloc (.cells (intV blS).toArray 3)) #[.slice (some ⟨w.heap.size, 0, none⟩) 8 8, .slice (some ⟨w.heap.size + 1, 0, none⟩) 8 8] 82
        simp only [World.size_alloc] at this
        exact this
      · exact ((owns_newL w (Nat.le_refl _) (strV (Hi.nms Hi.bl)) 9).alloc _).alloc _
      · have := (owns_newL (w.alloc (.cells (strV (Hi.nms Hi.bl)).toArray 9)) (base := w.heap.size) (by simp) (intV blS) 3).alloc (.cells #[.slice (some ⟨w.heap.size, 0, none⟩) 8 8, .slice (some ⟨w.heap.size + 1, 0, none⟩) 8 8] 82)
        rw [World.size_alloc] at this
        exact this
    have HR0 := hid hR0
    clear hR0 HBu
    obtain ⟨rb, hrb⟩ : ∃ rb, rb = w.heap.size + 2 := ⟨_, rfl⟩
    rw [← hrb] at HR0 ⊢
    have hrb2 : w.heap.size ≤ rb := by omega
    clear hrb
    go_loopw [5] (fun v wr => ∃ (i : Nat) (nv sv : Value), v = .int .i64 (i : Int) ∧ i ≤ l.length ∧ Hid (RnI w rb nv sv (Hi.nms (Hi.bl ++ l.take i)) blS wr) ∧ Hid (Hi.nms (Hi.bl ++ l.take i)).Nodup) (fun v _ => l.length - (intOf v).toNat)
    case atStart => exact ⟨0, _, _, rfl, by omega, HR0, hid (by simpa using Hi.bl_nodup)⟩
    case round =>
      clear HR0
      obtain ⟨i, nv, sv, rfl, hil, HR, HND⟩ := hrel
      have hNl : (Hi.nms (Hi.bl ++ l.take i)).length = 8 + i := by rw [Hi.nms_len, List.length_append, List.length_take, Hi.bl_len]; omega
      have HNl := hid hNl
      have hbx : BX wr rb #[nv, sv] 82 := HR.out.rx.box
      have k0 := hbx.cell 0
      have hI := Kit.isS_of_owns HR.out.rx.nms (by omega)
      have HI := hid hI
      obtain ⟨na, np, hnv⟩ := hI.len
      rw [HNl.out] at hnv
      have HNV := hid hnv
      simp only [List.getElem?_toArray, List.getElem?_cons_zero] at k0
      have hbs := hbx.sz
      clear hbx hI hNl
      by_cases hlt : i < l.length
      · obtain ⟨x, hx⟩ : ∃ x, l[i]? = some x := ⟨_, List.getElem?_eq_getElem hlt⟩
        obtain ⟨b, o, p, hsl, hbl, y0, y1⟩ := lines_at (HL.out wr HR.out.bel) hx
        obtain ⟨rfl, -, rfl⟩ := Value.slice.inj hsl
        have HX := hid hx
        have HQ := hid (fun m => quiet_find (IsS.drewN HI.out m) x.1)
        rw [HNV.out] at k0 HQ
        obtain ⟨rr, hrr⟩ : ∃ rr, idxI x.1 (Hi.nms (Hi.bl ++ l.take i)) = rr := ⟨_, rfl⟩
        rw [hrr] at HQ
        have HRR := hid hrr
        clear hsl hx hrr hnv
        by_cases hneg : 0 ≤ rr
        · have hd : decide (0 ≤ rr) = true := by simpa using hneg
          go_wp2
          go_quiet ((go_at_call 49; exact Calls.quiet_of_same (HQ.out _)))
          go_wp2
          have hbad : Hi.err l = 70 := err_name H64.out (fun hnd => by
            have h1 := nodup_pre (i + 1) hnd
            rw [nms_snoc HX.out, Hi.nodup_snoc, ← Hi.idx_none, ← idxI_neg, HRR.out] at h1
            omega)
          exact bodyPost_ret (v := .tuple #[.pointer none, .int .i64 70]) (by simp [results, Tryd.results31, go_sem]) rfl (RNewP.bad hbad (by decide) (belows HR.out.bel (below_drewN _ _) HR.out.bel.size))
        · have hd : decide (0 ≤ rr) = false := by simpa using hneg
          go_wp2
          go_quiet ((go_at_call 49; exact Calls.quiet_of_same (HQ.out _)))
          obtain ⟨W1, hW1⟩ : ∃ W1, W1 = wr.drewN nq := ⟨_, rfl⟩
          have HR1 := hid (HR.out.below (W' := W1) (by rw [hW1]; exact below_drewN _ _))
          have z0 : W1.cell? ⟨rb, 0, none⟩ = some (.slice na (8 + i) np) := by rw [hW1]; exact k0
          have z1 : W1.cell? ⟨b, o + i * 2, none⟩ = some (.string x.1) := by rw [hW1]; exact y0
          have hbs1 : rb < W1.heap.size := by rw [hW1]; exact hbs
          have hbl1 : b < W1.heap.size := by rw [hW1]; exact hbl
          have hwz := HR1.out.bel.size
          rw [← hW1]
          have HOw := hid (fun X (k : Below W1.heap.size W1 X) => Kit.owns_below HR1.out.rx.nms k (Nat.le_refl _))
          rw [HNV.out, HNl.out] at HOw
          clear hW1 k0 y0 y1 hbs hbl hneg
          go_wp2
          go_region_law (refine Kit.step_append_own rfl (.tmp 39) (.tmp 45) 79 rfl w.heap.size 9 i0 _ 1 16 Tryd.underlying79 hi hz0 hz1 hz2 rfl (by decide) (.slice na (8 + i) np) (8 + i) _ rfl (HOw.out _ (by repeat' first | with_reducible exact Below.refl _ _ | with_reducible assumption | with_reducible refine belows_drewN ?_ _ | with_reducible refine Below.drew ?_ | with_reducible refine Below.setCell ?_ ?_ _ | with_reducible refine Below.alloc ?_ ?_ _ | omega | (simp; done) | (simp; omega))) ⟨W1.heap.size, 0, none⟩ 1 1 [.string x.1] rfl rfl (by intro j u hj; exact Kit.news_one _ _ 9 j u hj) (Kit.ones_one rfl) (by unfold maxLen; omega) (by omega) (by first | omega | (simp; omega)) ?_; intro v2 w3 ho3 hg3 hk3; rw [← HNV.out] at hg3; obtain ⟨c3, y3, hN, hBn, hSz⟩ := HR1.out.rx.name HR1.out.bel hwz (by repeat' first | with_reducible exact Below.refl _ _ | with_reducible assumption | with_reducible refine belows_drewN ?_ _ | with_reducible refine Below.drew ?_ | with_reducible refine Below.setCell ?_ ?_ _ | with_reducible refine Below.alloc ?_ ?_ _ | omega | (simp; done) | (simp; omega)) hg3 (by rw [HNl.out]; exact ho3); rw [HNV.out] at c3; have HNx := hid (RnI.mk hN hBn); obtain ⟨b2, q2, rfl⟩ := own_form ho3; clear ho3 hg3 hk3 hN hBn hSz)
          all_goals
            go_wp2
            go_roundw
            case rel => exact ⟨i + 1, _, _, by go_num, by omega, by rw [nms_snoc HX.out]; exact HNx, by rw [nms_snoc HX.out]; exact Hi.nodup_snoc.2 ⟨HND.out, by rw [← Hi.idx_none, ← idxI_neg, HRR.out]; simpa using hd⟩⟩
            case measure => simp [intOf]; omega
      · obtain rfl : i = l.length := by omega
        rw [List.take_length] at HR HND HNl HI
        have hN0 : (Hi.bl ++ l).length = 8 + l.length := by rw [List.length_append, Hi.bl_len]
        obtain ⟨N, hN⟩ : ∃ N, N = Hi.nms (Hi.bl ++ l) := ⟨_, rfl⟩
        have HN := hid hN
        rw [← hN] at HR HND HNl HI
        have HN0 := hid hN0
        clear hbs k0 hN hlt hil hN0
        go_wp2
        go_loopw [6] (fun v wr => ∃ (j : Nat) (sv : Value), v = .int .i64 (j : Int) ∧ j ≤ l.length ∧ Hid (RnI w rb nv sv N (supS N (l.take j)) wr) ∧ Hid (∀ k x, k < j → l[k]? = some x → Hi.idx x.2 N ≠ none)) (fun v _ => l.length - (intOf v).toNat)
        case atStart => exact ⟨0, sv, rfl, by omega, HR, fun k x hk => by omega⟩
        case round =>
          clear HR HI
          obtain ⟨j, sv, rfl, hjl, HR, HF⟩ := hrel
          have hSl : (supS N (l.take j)).length = 8 + j := by unfold supS; rw [List.length_append, List.length_map, List.length_take, show blS.length = 8 from rfl]; omega
          have HSl := hid hSl
          have hbx : BX wr rb #[nv, sv] 82 := HR.out.rx.box
          have k0 : wr.cell? ⟨rb, 0, none⟩ = some nv := hbx.cell 0
          have k1 : wr.cell? ⟨rb, 1, none⟩ = some sv := hbx.cell 1
          have HI := hid (Kit.isS_of_owns HR.out.rx.nms (by rw [HNl.out]; omega))
          rw [HNV.out] at k0
          obtain ⟨sa, sp, hsv⟩ := own_form HR.out.rx.sup
          rw [HSl.out] at hsv
          have HSV := hid hsv
          rw [hsv] at k1
          have hbs := hbx.sz
          clear hbx hSl hsv
          by_cases hlt : j < l.length
          · obtain ⟨x, hx⟩ : ∃ x, l[j]? = some x := ⟨_, List.getElem?_eq_getElem hlt⟩
            obtain ⟨b, o, p, hsl, hbl, y0, y1⟩ := lines_at (HL.out wr HR.out.bel) hx
            obtain ⟨rfl, -, rfl⟩ := Value.slice.inj hsl
            have HX := hid hx
            have HQ := hid (fun m => quiet_find (IsS.drewN HI.out m) x.2)
            rw [HNV.out] at HQ
            obtain ⟨rr, hrr⟩ : ∃ rr, idxI x.2 N = rr := ⟨_, rfl⟩
            rw [hrr] at HQ
            have HRR := hid hrr
            clear hsl hx hrr
            by_cases hneg : rr < 0
            · have hd : decide (rr < 0) = true := by simpa using hneg
              go_wp2
              go_quiet ((go_at_call 49; exact Calls.quiet_of_same (HQ.out _)))
              go_wp2
              have hbad : Hi.err l = 71 := err_super H64.out (by rw [← HN.out]; exact HND.out) ⟨8 + j, x, by omega, by rw [List.getElem?_append_right (by rw [Hi.bl_len]; omega), Hi.bl_len, show 8 + j - 8 = j by omega]; exact HX.out, by rw [← HN.out, ← idxI_neg, HRR.out]; exact hneg⟩
              exact bodyPost_ret (v := .tuple #[.pointer none, .int .i64 71]) (by simp [results, Tryd.results31, go_sem]) rfl (RNewP.bad hbad (by decide) (belows HR.out.bel (below_drewN _ _) HR.out.bel.size))
            · have hd : decide (rr < 0) = false := by simpa using hneg
              go_wp2
              go_quiet ((go_at_call 49; exact Calls.quiet_of_same (HQ.out _)))
              obtain ⟨W1, hW1⟩ : ∃ W1, W1 = wr.drewN nq := ⟨_, rfl⟩
              have HR1 := hid (HR.out.below (W' := W1) (by rw [hW1]; exact below_drewN _ _))
              have z1 : W1.cell? ⟨rb, 1, none⟩ = some (.slice sa (8 + j) sp) := by rw [hW1]; exact k1
              have hbs1 : rb < W1.heap.size := by rw [hW1]; exact hbs
              have hwz := HR1.out.bel.size
              rw [← hW1]
              have HOw := hid (fun X (k : Below W1.heap.size W1 X) => Kit.owns_below HR1.out.rx.sup k (Nat.le_refl _))
              rw [HSV.out, HSl.out] at HOw
              clear hW1 k0 k1 y0 y1 hbs hbl hneg
              go_wp2_with (at_builtin; refine wpList_append_own_at _ rfl (.tmp 71) (.tmp 73) 75 rfl w.heap.size 3 i9 _ 1 8 Tryd.underlying75 hi9 hz09 hz19 hz29 rfl (by decide) (.slice sa (8 + j) sp) (8 + j) _ rfl (HOw.out _ (by repeat' first | with_reducible exact Below.refl _ _ | with_reducible assumption | with_reducible refine belows_drewN ?_ _ | with_reducible refine Below.drew ?_ | with_reducible refine Below.setCell ?_ ?_ _ | with_reducible refine Below.alloc ?_ ?_ _ | omega | (simp; done) | (simp; omega))) ⟨W1.heap.size, 0, none⟩ 1 1 [.int .i64 rr] rfl rfl (Kit.news_one _ _ _) (Kit.ones_one rfl) (by unfold maxLen; omega) (by omega) (by simp only [World.size_alloc]; omega) ?_; intro v2 w3 ho3 hg3 _ hk3; rw [← HSV.out] at hg3; obtain ⟨c3, y3, hN, hBn, hSz⟩ := HR1.out.rx.super HR1.out.bel hwz (by repeat' first | with_reducible exact Below.refl _ _ | with_reducible assumption | with_reducible refine belows_drewN ?_ _ | with_reducible refine Below.drew ?_ | with_reducible refine Below.setCell ?_ ?_ _ | with_reducible refine Below.alloc ?_ ?_ _ | omega | (simp; done) | (simp; omega)) hg3 (by rw [HSl.out]; exact ho3); rw [HSV.out] at c3; have HNx := hid (RnI.mk hN hBn); obtain ⟨b2, q2, rfl⟩ := own_form ho3; clear ho3 hg3 hk3 hN hBn hSz)
              all_goals
                go_wp2
                go_roundw
                case rel => exact ⟨j + 1, _, by go_num, by omega, by rw [supS_snoc HX.out, HRR.out]; exact HNx, fun k y hk hy => by
                  by_cases ek : k = j
                  · subst ek
                    have := HX.out.symm.trans hy
                    cases this
                    intro e
                    have := idxI_neg.2 e
                    rw [HRR.out] at this
                    simp at hd
                    omega
                  · exact HF.out k y (by omega) hy⟩
                case measure => simp [intOf]; omega
          · obtain rfl : j = l.length := by omega
            rw [List.take_length] at HR HSl
            have hfound : ∀ k x, 1 ≤ k → (Hi.bl ++ l)[k]? = some x → Hi.idx x.2 (Hi.nms (Hi.bl ++ l)) ≠ none := fun k x h1 hx => by
              by_cases h8 : k < 8
              · exact bl_found l k x h8 h1 hx
              · rw [List.getElem?_append_right (by rw [Hi.bl_len]; omega), Hi.bl_len] at hx
                rw [← HN.out]
                exact HF.out (k - 8) x (List.getElem?_eq_some_iff.1 hx).1 hx
            have HFo := hid hfound
            obtain ⟨n, hn⟩ : ∃ n, n = (Hi.bl ++ l).length := ⟨_, rfl⟩
            have HNn := hid hn
            have hSat := hid (fun (k : Nat) (hk : k < n) => supS_at hfound (k := k) (by rw [← hn]; exact hk))
            rw [← HN.out] at hSat
            have hn8 : n = 8 + l.length := by rw [hn, HN0.out]
            have HPn := hid (show ∀ k, 1 ≤ k → k < n → Hi.sup (Hi.bl ++ l) k < n from fun k _ _ => by rw [hn]; exact Hi.sup_lt _ (by rw [List.length_append, Hi.bl_len]; omega) k)
            obtain ⟨sg, sp2, hsv2, hsg, hsc⟩ := own_at0' HR.out.rx.sup (by rw [HSl.out]; omega)
            rw [HSl.out, ← hn8] at hsv2
            have hS := hid (fun (k : Nat) (hk : k < n) => (hsc k _ (hSat.out k hk)))
            have k1' : wr.cell? ⟨rb, 1, none⟩ = some (.slice (some ⟨sg, 0, none⟩) n sp2) := by rw [k1, ← HSV.out, hsv2]
            have hnp : 1 ≤ n := by omega
            have hn72 : n ≤ 72 := by omega
            obtain ⟨P, hP⟩ : ∃ P, P = Hi.sup (Hi.bl ++ l) := ⟨_, rfl⟩
            have HPe := hid hP
            rw [← hP] at HPn hS
            clear k1 k0 hfound hn hSat hsc hsv2 hP hlt hjl
            have HRf := HR
            clear HR HI
            go_wp2
            go_loop [8] (fun v => ∃ i : Nat, v = .int .i64 (i : Int) ∧ i ≤ n ∧ Hid (∀ k, k < i → Hi.ends P n k = true)) (fun v => n - (intOf v).toNat)
            case atStart => exact ⟨0, rfl, by omega, fun k h => by omega⟩
            case round =>
              obtain ⟨i, rfl, hile, HE⟩ := hrel
              by_cases hin : i < n
              · go_wp2
                go_loop [9, 10] (fun c v => ∃ (a : Nat) (x : Int), c = .int .i64 (a : Int) ∧ v = .int .i64 x ∧ a ≤ n ∧ Hid ((x = -1 ∧ Hi.ends P n i = true) ∨ (∃ m : Nat, x = (m : Int) ∧ m < n ∧ Hi.ends P (n - a) m = Hi.ends P n i))) (fun c _ => n - (intOf c).toNat)
                case atStart => exact ⟨0, i, rfl, rfl, by omega, .inr ⟨i, rfl, hin, by rw [Nat.sub_zero]⟩⟩
                case round =>
                  obtain ⟨a, x, rfl, rfl, han, HR⟩ := hrel
                  rcases HR.out with ⟨rfl, he⟩ | ⟨m, rfl, hm, he⟩
                  · have HE1 := hid he
                    clear he HR
                    go_wp2
                    go_round
                    case rel => exact ⟨i + 1, by go_num, by omega, fun k hk => by
                      by_cases ek : k = i
                      · subst ek; exact HE1.out
                      · exact HE.out k (by omega)⟩
                    case measure => simp [intOf]; omega
                  · have c1 := hS.out m hm
                    by_cases hend : a = n
                    · have hbad : Hi.err l = 72 := err_cycle H64.out (by rw [← HN.out]; exact HND.out) HFo.out (fun ⟨D, tr⟩ => by
                        rw [← HNn.out, ← HPe.out] at tr
                        have h1 := tr.ends hin
                        rw [← he, hend, Nat.sub_self] at h1
                        simp [Hi.ends] at h1)
                      have HBd := hid hbad
                      clear he HR hbad c1
                      subst hend
                      go_wp2
                      exact bodyPost_ret (v := .tuple #[.pointer none, .int .i64 72]) (by simp [results, Tryd.results31, go_sem]) rfl (RNewP.bad HBd.out (by decide) HRf.out.bel)
                    · have hna : n - a = (n - (a + 1)) + 1 := by omega
                      rw [hna] at he
                      rw [show Hi.ends P (n - (a + 1) + 1) m = (decide (m = 0) || Hi.ends P (n - (a + 1)) (P m)) from rfl] at he
                      by_cases hm0 : m = 0
                      · subst hm0
                        rw [if_pos rfl] at c1
                        have HE1 := hid (show Hi.ends P n i = true by rw [← he]; simp)
                        clear he HR hna
                        go_wp2
                        go_round
                        case rel => exact ⟨a + 1, -1, by go_num, rfl, by omega, .inl ⟨rfl, HE1.out⟩⟩
                        case measure => simp [intOf]; omega
                      · rw [if_neg hm0] at c1
                        rw [decide_eq_false hm0, Bool.false_or] at he
                        have HE1 := hid he
                        have HP1 := hid (HPn.out m (by omega) hm)
                        clear he HR hna
                        obtain ⟨q, hq⟩ : ∃ q, P m = q := ⟨_, rfl⟩
                        rw [hq] at c1 HE1 HP1
                        clear hq
                        go_wp2
                        go_round
                        case rel => exact ⟨a + 1, q, by go_num, rfl, by omega, .inr ⟨q, rfl, HP1.out, HE1.out⟩⟩
                        case measure => simp [intOf]; omega
              · obtain rfl : i = n := by omega
                obtain ⟨D0, htr⟩ : ∃ D, Hi.Tr i P D := ⟨_, Hi.tr_of_ends hnp HPn.out HE.out⟩
                have HTr := hid htr
                have hok0 := err_ok H64.out (by rw [← HN.out]; exact HND.out) HFo.out ⟨_, by rw [← HNn.out, ← HPe.out]; exact htr⟩
                have HOk := hid hok0
                clear htr hok0 hin hile
                go_wp2
                refine bodyPost_ret (v := .tuple #[.pointer (some ⟨rb, 0, none⟩), .int .i64 0]) (by simp [results, Tryd.results31, go_sem]) rfl ⟨.pointer (some ⟨rb, 0, none⟩), by rw [HOk.out], HRf.out.bel, fun h => absurd HOk.out h, fun _ => ⟨rb, D0, rfl, ?_, ?_⟩⟩
                · rw [← HN.out]
                  exact HRf.out.rx.rm
                · rw [← HN.out, ← HPe.out, ← HNn.out]
                  exact ⟨HTr.out, hn72, by rw [HNl.out, hn8], by rw [HSl.out, hn8], fun k hk => by
                    have := supS_at HFo.out (k := k) (by rw [← HNn.out]; exact hk)
                    rw [← HN.out, ← HPe.out] at this
                    exact this⟩
end Go.Proofs.YtahjnaoabfkpcaaDoor
namespace Go.Proofs.YtahjnaoabfkpcaaDoor
open Go Go.RowKit
open Ty (bl mk br)
def strZ (v : Value) : Nat := match v with | .string s => s.size | _ => 0
theorem strZ_string (s : ByteArray) : strZ (.string s) = s.size := rfl
theorem size_pos {t : ByteArray} {c : UInt8} {l : List UInt8} (h : bl t = c :: l) : 0 < t.size := by rw [← Ty.bl_len, h]; simp
theorem byte_at {t : ByteArray} {c : UInt8} {l : List UInt8} (h : bl t = c :: l) (h0 : 0 < t.size) : t[0]'h0 = c := by
  have h1 : t.data.toList[0]? = some c := by rw [show t.data.toList = _ from h]; rfl
  have h2 : t.data.toList[0]? = some (t[0]'h0) := by
    rw [Array.getElem?_toList, Array.getElem?_eq_getElem (by simpa using h0)]
    rfl
  exact Option.some.inj (h2.symm.trans h1)
set_option maxRecDepth 100000
set_option maxHeartbeats 1000000
theorem trimB_any (s : ByteArray) (w : World) : Calls Tryd.prog 53 #[.string s, .int .u8 91] w fun e w' => e = .returned (.string (mk ((bl s).drop (br (bl s))))) ∧ w = w' := by
  go_enter Tryd.func53, Tryd.ntmps53
  go_wp2
  go_loop [0] (fun v => ∃ k : Nat, k ≤ br (bl s) ∧ v = .string (mk ((bl s).drop k))) (fun v => strZ v)
  case atStart => exact ⟨0, Nat.zero_le _, by rw [List.drop_zero, Ty.mk_bl]⟩
  case round =>
    obtain ⟨k, hk, rfl⟩ := hrel
    obtain ⟨t, ht⟩ : ∃ t, mk ((bl s).drop k) = t := ⟨_, rfl⟩
    have hbt : bl t = (bl s).drop k := by rw [← ht, Ty.bl_mk]
    rw [ht]
    by_cases hlt : k < br (bl s)
    · have hc := Ty.br_in hlt
      have hcons : bl t = 91 :: (bl s).drop (k + 1) := by
        rw [hbt]
        obtain ⟨hl, he⟩ := List.getElem?_eq_some_iff.1 hc
        rw [List.drop_eq_getElem_cons hl, he]
      have h0 := size_pos hcons
      have heq : ((t[0]'h0).toNat : Int) = 91 := by rw [byte_at hcons h0]; rfl
      have hnext : t.extract 1 t.size = mk ((bl s).drop (k + 1)) := Ty.ba_ext (by rw [Ty.bl_from, hcons, Ty.bl_mk]; rfl)
      have HN : Hid (t.extract 1 t.size = mk ((bl s).drop (k + 1))) := hnext
      have HS : Hid (t.size = ((bl s).drop k).length) := by show _ = _; rw [← hbt, Ty.bl_len]
      have HL : Hid (k < (bl s).length) := Nat.lt_of_lt_of_le hlt (Ty.br_le _)
      have HK : Hid (k + 1 ≤ br (bl s)) := hlt
      clear hc hcons hnext hbt ht hk hlt
      go_wp2
      refine ⟨⟨k + 1, HK, congrArg Value.string HN⟩, ?_⟩
      have e1 : t.size = ((bl s).drop k).length := HS
      have e2 : k < (bl s).length := HL
      have e3 : t.extract 1 t.size = mk ((bl s).drop (k + 1)) := HN
      rw [strZ_string, strZ_string, e3, Ty.mk_size, e1, List.length_drop, List.length_drop]
      omega
    · obtain rfl : k = br (bl s) := by omega
      have HT : Hid (mk ((bl s).drop (br (bl s))) = t) := ht
      have hne : ∀ c l, bl t = c :: l → c ≠ 91 := by
        intro c l e e2
        have := Ty.br_end (l := bl s)
        rw [hbt] at e
        have h2 := congrArg (fun l : List UInt8 => l[0]?) e
        simp only [List.getElem?_drop, Nat.add_zero, List.getElem?_cons_zero] at h2
        exact this (h2.trans (by rw [e2]))
      cases hb : bl t with
      | nil =>
        have h0 : t = ⟨#[]⟩ := Ty.ba_ext hb
        have HT2 : Hid (mk ((bl s).drop (br (bl s))) = ⟨#[]⟩) := by show _ = _; rw [← h0]; exact ht
        subst h0
        clear hne hb hbt ht HT
        go_wp2
        go_ret
        exact ⟨by rw [show mk ((bl s).drop (br (bl s))) = _ from HT2]; rfl, rfl⟩
      | cons c l =>
        have h0 := size_pos hb
        have hc : ¬ ((t[0]'h0).toNat : Int) = 91 := by
          rw [byte_at hb h0]
          intro e
          exact hne c l hb (UInt8.toNat_inj.1 (by exact_mod_cast e))
        have hbq : (((t[0]'h0).toNat : Int) == 91) = false := by simpa using hc
        clear hne hb hbt ht
        go_wp2
        go_ret
        exact ⟨by rw [show mk ((bl s).drop (br (bl s))) = _ from HT]; rfl, rfl⟩
theorem trimL_any (s : ByteArray) (w : World) : Calls Tryd.prog 41 #[.string s, .string ⟨#[91]⟩] w fun e w' => e = .returned (.string (mk ((bl s).drop (br (bl s))))) ∧ w = w' := by
  have H := hid (fun W => trimB_any s W)
  cases hb : bl s with
  | nil =>
    have h0 : s = ⟨#[]⟩ := Ty.ba_ext hb
    subst h0
    clear hb H
    go_enter Tryd.func41, Tryd.ntmps41
    go_wp2
    go_ret
    exact ⟨rfl, rfl⟩
  | cons c l =>
    have he : s.toList.isEmpty = false := by rw [Ty.str_eq, hb]; rfl
    rw [← hb]
    obtain ⟨r, hr⟩ : ∃ r, mk ((bl s).drop (br (bl s))) = r := ⟨_, rfl⟩
    rw [hr] at H ⊢
    clear hb hr
    go_enter Tryd.func41, Tryd.ntmps41
    go_wp2_with (go_at_call 53; refine (H.out _).mono ?_; rintro e w1 ⟨rfl, rfl⟩)
    go_ret
    exact ⟨rfl, rfl⟩
theorem brackets_any (s : ByteArray) (hs : s.size ≤ maxLen) (w : World) : Calls Tryd.prog 24 #[.string s] w fun e w' => e = .returned (.int .i64 (br (bl s) : Int)) ∧ w = w' := by
  have H := hid (fun W => trimL_any s W)
  have hle := Ty.br_le (bl s)
  have hsz : (mk ((bl s).drop (br (bl s)))).size = s.size - br (bl s) := by rw [Ty.mk_size, List.length_drop, Ty.bl_len]
  rw [Ty.bl_len] at hle
  obtain ⟨r, hr⟩ : ∃ r, mk ((bl s).drop (br (bl s))) = r := ⟨_, rfl⟩
  obtain ⟨k, hk⟩ : ∃ k, br (bl s) = k := ⟨_, rfl⟩
  rw [hr] at H hsz
  rw [hk] at hsz hle ⊢
  have HZ := hid hsz
  obtain ⟨n, hn⟩ : ∃ n, r.size = n := ⟨_, rfl⟩
  have hi : IntKind.i64.wrap ((s.size : Int) - (r.size : Int)) = (k : Int) := by
    rw [hsz]
    unfold maxLen at hs
    rw [IntWalk.i64_in _ (by omega)]
    omega
  clear hr hk hsz hn
  go_enter Tryd.func24, Tryd.ntmps24
  go_wp2_with (go_at_call 41; refine (H.out _).mono ?_; rintro e w1 ⟨rfl, rfl⟩)
  go_ret
  exact ⟨by first | rfl | (rw [hi]) | (simp; omega), rfl⟩
theorem hpre_any (s : ByteArray) (w : World) : Calls Tryd.prog 71 #[.string s, .string ⟨#[76]⟩] w fun e w' => e = .returned (.bool (decide ((bl s).head? = some 76))) ∧ w = w' := by
  cases h : bl s with
  | nil =>
    have h0 : s = ⟨#[]⟩ := Ty.ba_ext h
    subst h0
    clear h
    go_enter Tryd.func71, Tryd.ntmps71
    go_wp2
    go_ret
    exact ⟨rfl, rfl⟩
  | cons c l =>
    have h1 := size_pos h
    have hd : decide (1 ≤ (s.size : Int)) = true := by simp; omega
    have he : s.extract 0 1 = ⟨#[c]⟩ := Ty.ba_ext (by rw [Ty.bl_upto, h]; rfl)
    have h2 : (1 : Int) ≤ s.size := by omega
    have hq : decide ((c :: l).head? = some 76) = (c == 76) := by by_cases e : c = 76 <;> simp [e]
    rw [hq]
    clear h hq
    go_enter Tryd.func71, Tryd.ntmps71
    go_wp2
    go_ret
    exact ⟨by first | rfl | (congr 2; by_cases e : c = 76 <;> simp [e]), rfl⟩
theorem hsuf_any (s : ByteArray) (w : World) (hs : s.size ≤ maxLen) : Calls Tryd.prog 72 #[.string s, .string ⟨#[59]⟩] w fun e w' => e = .returned (.bool (decide ((bl s).getLast? = some 59))) ∧ w = w' := by
  rcases List.eq_nil_or_concat (bl s) with h | ⟨l, c, h⟩
  · have h0 : s = ⟨#[]⟩ := Ty.ba_ext h
    subst h0
    clear h
    go_enter Tryd.func72, Tryd.ntmps72
    go_wp2
    go_ret
    exact ⟨rfl, rfl⟩
  · rw [List.concat_eq_append] at h
    have h1 : 0 < s.size := by rw [← Ty.bl_len, h]; simp
    unfold maxLen at hs
    have hd : decide (1 ≤ (s.size : Int)) = true := by simp; omega
    have h2 : (1 : Int) ≤ s.size := by omega
    have hw : IntKind.i64.wrap ((s.size : Int) - 1) = ((s.size - 1 : Nat) : Int) := by rw [IntWalk.i64_in _ (by omega)]; omega
    have he : s.extract (s.size - 1) s.size = ⟨#[c]⟩ := Ty.ba_ext (by
      rw [Ty.bl_from, ← Ty.bl_len, h]
      simp)
    have hq : decide ((bl s).getLast? = some 59) = (c == 59) := by rw [h]; by_cases e : c = 59 <;> simp [e]
    rw [hq]
    have HE := hid he
    have hw1 : ((s.size : Int) - 1) = ((s.size - 1 : Nat) : Int) := by omega
    have hn1 : (((s.size : Int) - 1).toNat) = s.size - 1 := by omega
    have hp : (0 : Int) ≤ (s.size : Int) - 1 := by omega
    clear h hq
    go_enter Tryd.func72, Tryd.ntmps72
    go_wp2
    go_ret
    exact ⟨by first | rfl | (congr 2; by_cases e : c = 59 <;> simp [e]), rfl⟩
theorem cpreL_any (s : ByteArray) (w : World) : Calls Tryd.prog 57 #[.string s, .string ⟨#[76]⟩] w fun e w' => e = .returned (.tuple #[.string (if (bl s).head? = some 76 then s.extract 1 s.size else s), .bool (decide ((bl s).head? = some 76))]) ∧ w = w' := by
  have H := hid (fun W => hpre_any s W)
  by_cases h : (bl s).head? = some 76
  · rw [if_pos h]
    have hd : decide ((bl s).head? = some 76) = true := by simpa using h
    rw [hd] at H ⊢
    have h1 : 1 ≤ s.size := by
      cases hb : bl s with
      | nil => rw [hb] at h; cases h
      | cons c l => exact size_pos hb
    have h2 : (1 : Int) ≤ s.size := by omega
    clear h hd
    go_enter Tryd.func57, Tryd.ntmps57
    go_wp2_with (go_at_call 71; refine (H.out _).mono ?_; rintro e w1 ⟨rfl, rfl⟩)
    go_ret2
    exact ⟨rfl, rfl⟩
  · rw [if_neg h]
    have hd : decide ((bl s).head? = some 76) = false := by simpa using h
    rw [hd] at H ⊢
    clear h hd
    go_enter Tryd.func57, Tryd.ntmps57
    go_wp2_with (go_at_call 71; refine (H.out _).mono ?_; rintro e w1 ⟨rfl, rfl⟩)
    go_ret2
    exact ⟨rfl, rfl⟩
theorem cpre_any (s : ByteArray) (w : World) : Calls Tryd.prog 42 #[.string s, .string ⟨#[76]⟩] w fun e w' => e = .returned (.tuple #[.string (if (bl s).head? = some 76 then s.extract 1 s.size else s), .bool (decide ((bl s).head? = some 76))]) ∧ w = w' := by
  have H := hid (fun W => cpreL_any s W)
  obtain ⟨x, hx⟩ : ∃ x, (if (bl s).head? = some 76 then s.extract 1 s.size else s) = x := ⟨_, rfl⟩
  obtain ⟨b, hb⟩ : ∃ b, decide ((bl s).head? = some 76) = b := ⟨_, rfl⟩
  rw [hx, hb] at H ⊢
  clear hx hb
  go_enter Tryd.func42, Tryd.ntmps42
  go_wp2_with (go_at_call 57; refine (H.out _).mono ?_; rintro e w1 ⟨rfl, rfl⟩)
  go_ret2
  exact ⟨rfl, rfl⟩
theorem csufL_any (s : ByteArray) (w : World) (hs : s.size ≤ maxLen) : Calls Tryd.prog 58 #[.string s, .string ⟨#[59]⟩] w fun e w' => e = .returned (.tuple #[.string (if (bl s).getLast? = some 59 then s.extract 0 (s.size - 1) else s), .bool (decide ((bl s).getLast? = some 59))]) ∧ w = w' := by
  have H := hid (fun W => hsuf_any s W hs)
  by_cases h : (bl s).getLast? = some 59
  · rw [if_pos h]
    have hd : decide ((bl s).getLast? = some 59) = true := by simpa using h
    rw [hd] at H ⊢
    have h1 : 1 ≤ s.size := by
      cases hb : bl s with
      | nil => rw [hb] at h; cases h
      | cons c l => exact size_pos hb
    unfold maxLen at hs
    have h2 : (1 : Int) ≤ s.size := by omega
    have hw : IntKind.i64.wrap ((s.size : Int) - 1) = ((s.size - 1 : Nat) : Int) := by rw [IntWalk.i64_in _ (by omega)]; omega
    have hn1 : (((s.size : Int) - 1).toNat) = s.size - 1 := by omega
    have hp : (0 : Int) ≤ (s.size : Int) - 1 := by omega
    clear h hd
    go_enter Tryd.func58, Tryd.ntmps58
    go_wp2_with (go_at_call 72; refine (H.out _).mono ?_; rintro e w1 ⟨rfl, rfl⟩)
    go_ret2
    exact ⟨rfl, rfl⟩
  · rw [if_neg h]
    have hd : decide ((bl s).getLast? = some 59) = false := by simpa using h
    rw [hd] at H ⊢
    clear h hd
    go_enter Tryd.func58, Tryd.ntmps58
    go_wp2_with (go_at_call 72; refine (H.out _).mono ?_; rintro e w1 ⟨rfl, rfl⟩)
    go_ret2
    exact ⟨rfl, rfl⟩
theorem csuf_any (s : ByteArray) (w : World) (hs : s.size ≤ maxLen) : Calls Tryd.prog 43 #[.string s, .string ⟨#[59]⟩] w fun e w' => e = .returned (.tuple #[.string (if (bl s).getLast? = some 59 then s.extract 0 (s.size - 1) else s), .bool (decide ((bl s).getLast? = some 59))]) ∧ w = w' := by
  have H := hid (fun W => csufL_any s W hs)
  obtain ⟨x, hx⟩ : ∃ x, (if (bl s).getLast? = some 59 then s.extract 0 (s.size - 1) else s) = x := ⟨_, rfl⟩
  obtain ⟨b, hb⟩ : ∃ b, decide ((bl s).getLast? = some 59) = b := ⟨_, rfl⟩
  rw [hx, hb] at H ⊢
  clear hx hb
  go_enter Tryd.func43, Tryd.ntmps43
  go_wp2_with (go_at_call 58; refine (H.out _).mono ?_; rintro e w1 ⟨rfl, rfl⟩)
  go_ret2
  exact ⟨rfl, rfl⟩
def Ty.clsB (l : List UInt8) : Bool := decide (l ≠ []) && decide (br l = 0)
theorem isClass_any (s : ByteArray) (hs : s.size ≤ maxLen) (w : World) : Calls Tryd.prog 28 #[.string s] w fun e w' => e = .returned (.bool (Ty.clsB (bl s))) ∧ w = w' := by
  have H := hid (fun W => brackets_any s hs W)
  unfold Ty.clsB
  cases hb : bl s with
  | nil =>
    have h0 : s = ⟨#[]⟩ := Ty.ba_ext hb
    subst h0
    clear hb H
    go_enter Tryd.func28, Tryd.ntmps28
    go_wp2
    go_ret
    exact ⟨rfl, rfl⟩
  | cons c l =>
    have he : s.toList.isEmpty = false := by rw [Ty.str_eq, hb]; rfl
    have hne : ¬ s = ⟨#[]⟩ := fun e => by rw [e] at hb; cases hb
    rw [hb] at H
    obtain ⟨k, hk⟩ : ∃ k, br (c :: l) = k := ⟨_, rfl⟩
    rw [hk] at H ⊢
    have h1 : decide (c :: l ≠ []) = true := by simp
    rw [h1, Bool.true_and]
    clear hb hk h1
    have hq : ((k : Int) == 0) = decide (k = 0) := by by_cases e : k = 0 <;> simp [e]
    obtain ⟨b, hbk⟩ : ∃ b, decide (k = 0) = b := ⟨_, rfl⟩
    rw [hbk] at hq ⊢
    clear hbk
    go_enter Tryd.func28, Tryd.ntmps28
    go_wp2_with (go_at_call 24; refine (H.out _).mono ?_; rintro e w1 ⟨rfl, rfl⟩)
    go_ret
    exact ⟨by simp, rfl⟩
/-- What within answers. -/
def wiV (r : Option (List UInt8)) : Value := .tuple #[.string (mk (r.getD [])), .bool r.isSome]
theorem within_any (s : ByteArray) (hs : s.size ≤ maxLen) (w : World) : Calls Tryd.prog 26 #[.string s] w fun e w' => e = .returned (wiV (Ty.wn (bl s))) ∧ w = w' := by
  have H1 := hid (fun W => cpre_any s W)
  obtain ⟨x, hx⟩ : ∃ x, (if (bl s).head? = some 76 then s.extract 1 s.size else s) = x := ⟨_, rfl⟩
  have hxs : x.size ≤ maxLen := by
    rw [← hx]
    split
    · rw [← Ty.bl_len, Ty.bl_from, List.length_drop, Ty.bl_len]; omega
    · exact hs
  have H2 := hid (fun W => csuf_any x W hxs)
  obtain ⟨y, hy⟩ : ∃ y, (if (bl x).getLast? = some 59 then x.extract 0 (x.size - 1) else x) = y := ⟨_, rfl⟩
  have hys : y.size ≤ maxLen := by
    rw [← hy]
    split
    · rw [← Ty.bl_len, Ty.bl_upto, List.length_take, Ty.bl_len]; omega
    · exact hxs
  have H3 := hid (fun W => isClass_any y hys W)
  have hw : Ty.wn (bl s) = if (bl s).head? = some 76 ∧ (bl x).getLast? = some 59 ∧ Ty.clsB (bl y) = true then some (bl y) else none := by
    by_cases h1 : (bl s).head? = some 76
    · rw [if_pos h1] at hx
      obtain ⟨q, hq⟩ : ∃ q, bl s = 76 :: q := by
        cases hb : bl s with
        | nil => rw [hb] at h1; cases h1
        | cons c q => rw [hb] at h1; simp at h1; exact ⟨q, by rw [h1]⟩
      have hbx : bl x = q := by rw [← hx, Ty.bl_from, hq]; rfl
      by_cases h2 : (bl x).getLast? = some 59
      · rw [if_pos h2] at hy
        have hby : bl y = q.dropLast := by rw [← hy, Ty.bl_upto, hbx, List.dropLast_eq_take, ← Ty.bl_len x, hbx]
        rw [hq]
        unfold Ty.wn Ty.clsB
        rw [hbx] at h2
        rw [hby, hbx]
        simp [h2]
      · rw [if_neg (fun h => h2 h.2.1), hq]
        cases hz : Ty.wn (76 :: q) with
        | none => rfl
        | some p =>
          obtain ⟨e1, -, -⟩ := Ty.wn_some.1 hz
          injection e1 with _ e1
          exact absurd (by rw [hbx, e1]; simp) h2
    · rw [if_neg (fun h => h1 h.1)]
      unfold Ty.wn
      split
      · rename_i q hq; rw [hq] at h1; exact absurd rfl h1
      · rfl
  rw [hw]
  rw [hx] at H1
  rw [hy] at H2
  obtain ⟨b1, hb1⟩ : ∃ b, decide ((bl s).head? = some 76) = b := ⟨_, rfl⟩
  obtain ⟨b2, hb2⟩ : ∃ b, decide ((bl x).getLast? = some 59) = b := ⟨_, rfl⟩
  obtain ⟨b3, hb3⟩ : ∃ b, Ty.clsB (bl y) = b := ⟨_, rfl⟩
  have hr : (if (bl s).head? = some 76 ∧ (bl x).getLast? = some 59 ∧ Ty.clsB (bl y) = true then some (bl y) else none) = if (b1 && (b2 && b3)) = true then some (bl y) else none := by
    rw [← hb1, ← hb2, ← hb3]
    by_cases q1 : (bl s).head? = some 76 <;> by_cases q2 : (bl x).getLast? = some 59 <;> simp [q1, q2]
  rw [hr]
  rw [hb1] at H1
  rw [hb2] at H2
  rw [hb3] at H3
  have HR : Hid (wiV (if (b1 && (b2 && b3)) = true then some (bl y) else none) = .tuple #[.string (if (b1 && (b2 && b3)) = true then y else ⟨#[]⟩), .bool (b1 && (b2 && b3))]) := by
    unfold wiV
    show _ = _
    cases b1 <;> cases b2 <;> cases b3 <;> simp [Ty.mk_bl] <;> rfl
  rw [HR.out]
  clear hr hw hb1 hb2 hb3 hx hy HR hxs hys
  cases b1 <;> cases b2 <;> cases b3 <;>
  · go_enter Tryd.func26, Tryd.ntmps26
    go_wp2_with (first | (go_at_call 42; refine (H1.out _).mono ?_; rintro e w1 ⟨rfl, rfl⟩) | (go_at_call 43; refine (H2.out _).mono ?_; rintro e w1 ⟨rfl, rfl⟩) | (go_at_call 28; refine (H3.out _).mono ?_; rintro e w1 ⟨rfl, rfl⟩))
    go_ret2
    exact ⟨rfl, rfl⟩
end Go.Proofs.YtahjnaoabfkpcaaDoor

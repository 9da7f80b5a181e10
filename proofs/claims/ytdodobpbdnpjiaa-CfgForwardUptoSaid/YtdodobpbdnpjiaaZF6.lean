/- Own texts for the claim, part 6. -/
import Derived.Test.YtdodobpbdnpjiaaZF5
namespace Go.Proofs.Ytdodobpbdnpjiaa
open Go Go.RowKit
open Kit (natVals)
open Cf (Op5 Ca opL caL)
attribute [local go_sem] Oper.semAt_some
theorem infoEd : (Try.prog.info? 77).map (fun i => (i.zero, i.size, i.bytes)) = some (some (.agg #[.int .i64 0, .int .i64 0]), 2, 16) := by kernel_rfl
section
variable {base gb bb cap ob k : Nat} {L : List Op5} {B : Nat → Bool} {nv cv : Nat → Value} {cl : Nat → List Nat} {O : List Nat} {ov sv : Value} {cur : List Value}
set_option maxRecDepth 100000
set_option maxHeartbeats 4000000
theorem turn_any {w : World} (h : GO w base gb bb cap ob L B k nv cv cl O ov sv Nil Nil cur) (hOk : ∀ x ∈ O, x < k) (hOE : ∀ x ∈ O, ∀ t ∈ edg L B cl x, t ∈ O) (hl : ∀ b, b < k → (cl b).length ≤ 1048576) (hk : k ≤ 1048576) (hOL : O.length ≤ 1048576) :
    Calls Try.prog 26 #[.pointer (some ⟨gb, 0, none⟩)] w fun e w' => e = .returned (.tuple #[]) ∧ Below base w w' ∧ ∃ pv kv, GT w' base gb bb cap ob L B k nv cv cl O ov sv pv kv (Cf.bks (fun x => O.idxOf x) (Cf.evs (fun a => Cf.rise (edg L B cl a)) O)) := by
  have hmk := fun W => run_make_row' (P := Try.prog) 53 34 (.slice none 0 0) 24 (by kernel_rfl) (by kernel_rfl) rfl .i64 .i64 k (by omega) (by omega) W
  obtain ⟨i0, hi, hz0, hz1, hz2⟩ := info_parts infoI
  obtain ⟨i1, hi1, hy0, hy1, hy2⟩ := info_parts infoEd
  have k0 := h.box.cell 0
  have k2 := h.box.cell 2
  have k4 := h.box.cell 4
  have f4 := h.box.frozen 4
  simp only [List.getElem?_toArray, List.getElem?_cons_zero, List.getElem?_cons_succ] at k0 k2 k4
  have hgs := h.box.sz
  obtain ⟨oa, oc, rfl⟩ := own_form h.ord
  have HH := hid h
  clear h
  refine (callsIn_wide (n := 5)).1 ?_
  refine callsIn_of_wp_marks Try.func26 rfl trivial ?_ rfl
  refine wpIn_wide.2 ?_
  simp only [Try.ntmps26, List.size_toArray, List.length_cons, List.length_nil, Nat.reduceAdd, Nat.reduceSub, Array.replicate_succ, Array.replicate_zero, List.push_toArray, List.append_toArray, List.nil_append, List.cons_append]
  go_upto_region 1 with fail
  have x0 : (w.alloc (.cells #[.pointer (some ⟨gb, 0, none⟩)] 29)).cell? ⟨w.heap.size, 0, none⟩ = some (.pointer (some ⟨gb, 0, none⟩)) := (BX.new w #[.pointer (some ⟨gb, 0, none⟩)] 29).cell 0
  have g0 : (w.alloc (.cells #[.pointer (some ⟨gb, 0, none⟩)] 29)).cell? ⟨gb, 0, none⟩ = some (.slice (some ⟨bb, 0, none⟩) k cap) := (HH.out.box.below ((Below.refl _ _).alloc (Nat.le_refl _) _)).cell 0
  obtain ⟨wa, hwa⟩ : ∃ wa, wa = (((w.setCell ⟨gb, 4, none⟩ (.slice (some ⟨w.heap.size + 1, 0, none⟩) k k)).alloc (.cells #[.pointer (some ⟨gb, 0, none⟩)] 29)).alloc (.cells (madeCells #[.slice none 0 0] k) 34)).drew := ⟨_, rfl⟩
  have hca : Chg (fun i => i = gb) w wa := by
    rw [hwa]
    exact (((Chg.refl (fun i => i = gb) w).set (p := ⟨gb, 4, none⟩) (.inl rfl) _).alloc _).alloc _ |>.drew
  have hsa : wa.heap.size = w.heap.size + 2 := by rw [hwa]; simp [World.drew]
  have bga : BX wa gb #[.slice (some ⟨bb, 0, none⟩) k cap, .slice (some ⟨ob, 0, none⟩) L.length L.length, .slice oa O.length oc, sv, .slice (some ⟨w.heap.size + 1, 0, none⟩) k k, Nil] 56 := by
    rw [hwa]
    have b0 : BX (w.setCell ⟨gb, 4, none⟩ (.slice (some ⟨w.heap.size + 1, 0, none⟩) k k)) gb #[.slice (some ⟨bb, 0, none⟩) k cap, .slice (some ⟨ob, 0, none⟩) L.length L.length, .slice oa O.length oc, sv, .slice (some ⟨w.heap.size + 1, 0, none⟩) k k, Nil] 56 := box_set HH.out.box 4 (.slice (some ⟨w.heap.size + 1, 0, none⟩) k k)
    exact ((b0.below ((Below.refl _ _).alloc (Nat.le_refl _) _)).below ((Below.refl _ _).alloc (Nat.le_refl _) _)).below (Below.drew (Below.refl _ _))
  have bxa : BX wa w.heap.size #[.pointer (some ⟨gb, 0, none⟩)] 29 := by
    rw [hwa]
    have := BX.new (w.setCell ⟨gb, 4, none⟩ (.slice (some ⟨w.heap.size + 1, 0, none⟩) k k)) #[.pointer (some ⟨gb, 0, none⟩)] 29
    rw [World.size_setCell] at this
    exact (this.below ((Below.refl _ _).alloc (Nat.le_refl _) _)).below (Below.drew (Below.refl _ _))
  have bpa : BX wa (w.heap.size + 1) ((List.range k).map (fun _ => Nil)).toArray 34 := by
    rw [hwa]
    have := BX.new ((w.setCell ⟨gb, 4, none⟩ (.slice (some ⟨w.heap.size + 1, 0, none⟩) k k)).alloc (.cells #[.pointer (some ⟨gb, 0, none⟩)] 29)) (madeCells #[.slice none 0 0] k) 34
    simp only [World.size_alloc, World.size_setCell] at this
    have e : madeCells #[Value.slice none 0 0] k = ((List.range k).map (fun _ => Nil)).toArray := by
      apply Array.toList_inj.1
      rw [toList_madeCells_one]
      apply List.ext_getElem?
      intro i
      by_cases hi : i < k
      · simp [List.getElem?_replicate, hi, List.getElem?_range hi]
      · simp [List.getElem?_replicate, hi]
    rw [← e]
    exact this.below (Below.drew (Below.refl _ _))
  have x1 := bxa.cell 0
  have g1 := bga.cell 0
  rw [hwa] at x1 g1
  go_region_held3 (fun w' => w'.cell? ⟨w.heap.size, 0, none⟩ = some (.pointer (some ⟨gb, 0, none⟩)) ∧ w'.cell? ⟨gb, 0, none⟩ = some (.slice (some ⟨bb, 0, none⟩) k cap))
    (first | exact ⟨x0, g0⟩ | exact ⟨x1, g1⟩ | go_keep) (fail)
  rw [← hwa]
  clear hwa x0 g0 x1 g1 k0 k4 f4 k2
  have x0 : wa.cell? ⟨w.heap.size, 0, none⟩ = some (.pointer (some ⟨gb, 0, none⟩)) := bxa.cell 0
  have k2 : wa.cell? ⟨gb, 2, none⟩ = some (.slice oa O.length oc) := bga.cell 2
  go_wp2_with (go_at_call 12; refine (Order_any k2).mono ?_; rintro e w3 ⟨rfl, hw3⟩)
  have hs3 : w3.heap.size = w.heap.size + 3 := by rw [hw3]; simp [hsa]
  have hc3 : Chg (fun i => i = gb) w w3 := by rw [hw3]; exact hca.alloc _
  have bg3 : BX w3 gb #[.slice (some ⟨bb, 0, none⟩) k cap, .slice (some ⟨ob, 0, none⟩) L.length L.length, .slice oa O.length oc, sv, .slice (some ⟨w.heap.size + 1, 0, none⟩) k k, Nil] 56 := by rw [hw3]; exact bga.below ((Below.refl _ _).alloc (Nat.le_refl _) _)
  have bx3 : BX w3 w.heap.size #[.pointer (some ⟨gb, 0, none⟩)] 29 := by rw [hw3]; exact bxa.below ((Below.refl _ _).alloc (Nat.le_refl _) _)
  have bp3 : BX w3 (w.heap.size + 1) ((List.range k).map (fun _ => Nil)).toArray 34 := by rw [hw3]; exact bpa.below ((Below.refl _ _).alloc (Nat.le_refl _) _)
  have bo3 : BX w3 (w.heap.size + 2) #[.slice oa O.length oc] 34 := by
    rw [hw3, ← hsa]
    exact BX.new wa _ _
  rw [← hw3]
  clear hw3 x0 k2 bga bxa bpa hca hsa
  have hO9 : O.length ≤ 1048576 := hOL
  have hit : ∀ X, Ks (fun i => i < w3.heap.size ∧ i ≠ gb ∧ i ≠ w.heap.size + 1) w3 X → Kit.IsS 1 X (.slice oa O.length oc) O.length (natVals O) ∧ X.cell? ⟨w.heap.size + 2, 0, none⟩ = some (.slice oa O.length oc) := fun X hX => by
    have o3 := owns_chg HH.out.ord hc3 (fun j e1 e2 => own_unlike_box HH.out.ord HH.out.box (by decide) (e2 ▸ e1))
    refine ⟨Kit.isS_of_owns (owns_same o3 (fun j e => hX.2 j ⟨Kit.own_lt o3 j e, ?_, ?_⟩)) (by omega), ?_⟩
    · exact fun e2 => own_unlike_box o3 bg3 (by decide) (e2 ▸ e)
    · intro e2
      have := Kit.own_lt HH.out.ord j e
      omega
    · have : X.cell? ⟨w.heap.size + 2, 0, none⟩ = w3.cell? ⟨w.heap.size + 2, 0, none⟩ := World.cell?_of_block (hX.2 (w.heap.size + 2) ⟨by omega, by omega, by omega⟩)
      exact this.trans (bo3.cell 0)
  refine (wpIn_wide (n := 5)).1 ?_
  refine wpIn_rangeFunc_ownH rfl (by omega) (gf := 34) (lb := #[.pointer (some ⟨w.heap.size + 2, 0, none⟩)]) (by first | rfl | (simp [hs3]; done)) trivial (enters_of Try.func34 (by kernel_rfl) rfl)
    (order1_stops O (.slice oa O.length oc) (fun i => i < w3.heap.size ∧ i ≠ gb ∧ i ≠ w.heap.size + 1) (w.heap.size + 2) (5 - 1) w3 (by omega) (fun k h => h.1) hit) (fun h k => Ks.trans h k) (Ks.putObj (fun k h => h.1)) (Below.refl _ _) (fun _ => rfl)
    (fun (pre : List (Tx O)) W => ∃ pv kv, Hid (TuI w3 gb (w.heap.size + 1) k (.slice (some ⟨bb, 0, none⟩) k cap) (.slice (some ⟨ob, 0, none⟩) L.length L.length) (.slice oa O.length oc) sv (Cf.evs (fun a => Cf.rise (edg L B cl a)) (pre.map (fun x : Tx O => x.1.2))) pv kv (Cf.bks (fun x => O.idxOf x) (Cf.evs (fun a => Cf.rise (edg L B cl a)) (pre.map (fun x : Tx O => x.1.2)))) W)) (fun _ _ _ => False)
    (fun pre X Y row ⟨pv, kv, h⟩ hg hr => ⟨pv, kv, hid (h.out.own hg hr)⟩) (fun _ _ _ _ _ h _ _ => h)
    ⟨fun _ => Nil, Nil, bg3, bp3, fun x hx => ⟨rfl, .inl ⟨rfl, rfl⟩⟩, fun x y _ _ _ j e => by simp [Value.ownBlock] at e, ⟨rfl, .inl ⟨rfl, rfl⟩⟩, Chg.refl _ _, by omega, by omega, by omega⟩
    (fun (x : Tx O) a' W => a' = { tmps := #[.pointer (some ⟨gb, 0, none⟩), .pointer (some ⟨w.heap.size, 0, none⟩), .int .i64 (x.1.2 : Int), undef, undef, undef, undef, .pointer (some ⟨gb, 0, none⟩), .pointer (some ⟨gb, 0, none⟩), .pointer (some ⟨gb, 0, none⟩), .pointer (some ⟨gb, 0, none⟩), .slice (some ⟨bb, 0, none⟩) k cap, .int .i64 (k : Int), .slice (some ⟨w.heap.size + 1, 0, none⟩) k k, .pointer (some ⟨gb, 0, none⟩), .pointer (some ⟨gb, 4, none⟩), .pointer (some ⟨gb, 0, none⟩), .func (.func 34) #[] #[.pointer (some ⟨w.heap.size + 2, 0, none⟩)], .int .i64 (x.1.2 : Int), undef, undef, undef, undef, undef, undef, undef, undef, undef, undef, undef, undef, undef, undef, undef, undef, undef, undef, undef, undef, undef, undef, undef, undef, undef, undef, undef, undef, undef, undef, undef, undef, undef, undef, undef, undef, undef, undef, undef, undef, undef, undef, undef, undef, undef, undef, undef, undef, undef, undef, undef, undef, undef, undef, undef, undef, undef, undef, undef, undef, undef, undef, undef, undef], defers := [] })
    (fun x a' => Own.from (fun s A B row hs hg hr => hs) _) ?assign ?body ?done ?stop
  case assign =>
    rintro D pre ⟨⟨k', c⟩, hx⟩ W K hI hK
    unfold entE
    gi_wp2
    exact hK _ _ ((⟨Nat.le_refl _, fun _ _ h _ => h⟩ : KeepsOthers W W).from _) (Ks.refl _ W) hI rfl
  case body =>
    rintro D pre ⟨⟨i, a⟩, hx⟩ a' W hD ⟨r, hr⟩ ⟨pv, kv, HT⟩ rfl hlt
    have haO : a ∈ O := List.mem_of_getElem? hx
    have hak := hOk a haO
    have hWW : Chg (fun i => i = gb) w W := hc3.trans HT.out.ch (fun i e => by
      rcases e with rfl | rfl
      · exact .inl rfl
      · exact .inr (by omega))
    have x0 : W.cell? ⟨w.heap.size, 0, none⟩ = some (.pointer (some ⟨gb, 0, none⟩)) := (HT.out.ch.cell (p := ⟨w.heap.size, 0, none⟩) (by show w.heap.size < w3.heap.size; omega) (by rintro (e | e) <;> (simp only at e; omega))).trans (bx3.cell 0)
    have k0 : W.cell? ⟨gb, 0, none⟩ = some (.slice (some ⟨bb, 0, none⟩) k cap) := HT.out.box.cell 0
    have rb := owns_chg HH.out.bl hWW (fun j e e2 => own_unlike_box HH.out.bl HH.out.box (by decide) (e2 ▸ e))
    have c2 := own_at4 rb (Cf.bkV_len B L.length nv cv) hak 2 _ (by omega) rfl
    have c3 := own_at4 rb (Cf.bkV_len B L.length nv cv) hak 3 _ (by omega) rfl
    have hn1 := Cf.nxs_len L B a
    have hn2 := hl a hak
    have n1 := Kit.isS_of_owns (owns_chg (HH.out.nx a hak) hWW (fun j e e2 => own_unlike_box (HH.out.nx a hak) HH.out.box (by decide) (e2 ▸ e))) (by omega)
    have n2 := Kit.isS_of_owns (owns_chg (HH.out.ca a hak) hWW (fun j e e2 => own_unlike_box (HH.out.ca a hak) HH.out.box (by decide) (e2 ▸ e))) (by omega)
    have HE := hid (edges_any k0 hak c2 c3 n1 n2 (by omega) (by omega))
    have HX := hid hx
    have HRr := hid hr
    clear n1 n2 rb c2 c3 k0 hr hn1 hn2 hit
    dsimp only
    gi_wp2_with (first | (refine ⟨trivial, ?_⟩; gi_at_call 52; go_loud (refine (CallsIn.inRound D (callsIn_wide.2 HE.out)).mono ?_; rintro e wE ⟨ve, rfl, hve, hbe⟩; have HVE := hid hve; have HBE := hid hbe; obtain ⟨va, vc, hvf⟩ := own_form HVE.out; rw [hvf] at HVE ⊢; clear hve hbe hvf)) | (gi_at_call 52; go_loud (refine (CallsIn.inRound D (callsIn_wide.2 HE.out)).mono ?_; rintro e wE ⟨ve, rfl, hve, hbe⟩; have HVE := hid hve; have HBE := hid hbe; obtain ⟨va, vc, hvf⟩ := own_form HVE.out; rw [hvf] at HVE ⊢; clear hve hbe hvf)))
    obtain ⟨EL, hEL⟩ : ∃ l, Cf.rise (Cf.nxs L B a ++ cl a) = l := ⟨_, rfl⟩
    have hELO : ∀ x ∈ EL, x ∈ O := fun x hx => hOE a haO x (by rw [← hEL] at hx; exact Cf.mem_rise.1 hx)
    have hELk : EL.length ≤ k := by rw [← hEL]; exact Cf.rise_lt_len (fun x hx => hOk x (hOE a haO x hx))
    have hes : (Cf.evs (fun a => Cf.rise (edg L B cl a)) (pre.map (fun x : Tx O => x.1.2))).length ≤ 1099511627776 := by
      have h1 := Cf.evs_len (fun a => Cf.rise (edg L B cl a)) k (pre.map (fun x : Tx O => x.1.2)) (fun y hy => by
        obtain ⟨⟨⟨q, z⟩, hz⟩, -, rfl⟩ := List.mem_map.1 hy
        exact Cf.rise_lt_len (fun x hx => hOk x (hOE z (List.mem_of_getElem? hz) x hx)))
      rw [List.length_map] at h1
      have h2 : pre.length * k ≤ 1048576 * 1048576 := Nat.mul_le_mul (by omega) hk
      omega
    have hev : Cf.evs (fun a => Cf.rise (edg L B cl a)) ((pre ++ [(⟨(i, a), hx⟩ : Tx O)]).map (fun x : Tx O => x.1.2)) = Cf.evs (fun a => Cf.rise (edg L B cl a)) (pre.map (fun x : Tx O => x.1.2)) ++ EL.map (fun b => (a, b)) := by
      rw [List.map_append, List.map_singleton, Cf.evs_snoc, ← hEL]
      rfl
    have HEV := hid hev
    have HELO := hid hELO
    have HES := hid hes
    rw [hEL] at HVE ⊢
    clear hev hELO hes hEL
    obtain ⟨es0, hes0⟩ : ∃ l, Cf.evs (fun a => Cf.rise (edg L B cl a)) (pre.map (fun x : Tx O => x.1.2)) = l := ⟨_, rfl⟩
    rw [hes0] at HT HES HEV
    clear hes0
    obtain ⟨nE, hnE⟩ : ∃ n, EL.length = n := ⟨_, rfl⟩
    rw [hnE] at HVE hELk ⊢
    have HNE := hid hnE
    clear hnE
    have hze := HBE.out.size
    have HT0 : Hid (TuI w3 gb (w.heap.size + 1) k (.slice (some ⟨bb, 0, none⟩) k cap) (.slice (some ⟨ob, 0, none⟩) L.length L.length) (.slice oa O.length oc) sv (es0 ++ (EL.take 0).map (fun b => (a, b))) pv kv (Cf.bks (fun x => O.idxOf x) (es0 ++ (EL.take 0).map (fun b => (a, b)))) wE) := by
      rw [List.take_zero, List.map_nil, List.append_nil]
      exact HT.out.below HBE.out
    have hz3 := HT.out.ch.size
    have HCW := hid HT.out.ch
    have HA0 : Hid (∀ x, x < k → ∀ j, (Value.slice va nE vc).ownBlock = some j → (pv x).ownBlock ≠ some j) := fun x hx j e e2 => by
      have h1 := Kit.own_base HVE.out j e
      have h2 := Kit.own_lt (HT.out.ro x hx) j e2
      omega
    have HK0 : Hid (KeepsOthers W wE) := below_keeps HBE.out
    gi_loopw [23] (fun v wr => ∃ (j : Nat) (pv : Nat → Value) (kv : Value), v = .int .i64 (j : Int) ∧ j ≤ nE ∧ Hid (TuI w3 gb (w.heap.size + 1) k (.slice (some ⟨bb, 0, none⟩) k cap) (.slice (some ⟨ob, 0, none⟩) L.length L.length) (.slice oa O.length oc) sv (es0 ++ (EL.take j).map (fun b => (a, b))) pv kv (Cf.bks (fun x => O.idxOf x) (es0 ++ (EL.take j).map (fun b => (a, b)))) wr) ∧ Hid (wr.ownsRow W.heap.size 3 1 (.slice va nE vc) nE (natVals EL)) ∧ Hid (∀ x, x < k → ∀ j, (Value.slice va nE vc).ownBlock = some j → (pv x).ownBlock ≠ some j) ∧ Hid (KeepsOthers W wr) ∧ W.heap.size ≤ wr.heap.size) (fun v _ => nE - (intOf v).toNat)
    case atStart => exact ⟨0, pv, kv, rfl, by omega, HT0, HVE, HA0, HK0, by omega⟩
    case round =>
      clear HT0 HVE HA0 HK0 HT HE x0 HBE hWW
      obtain ⟨j, pv, kv, rfl, hj, HT, HVE, HA, HK, hzr⟩ := hrel
      have x0 : wr.cell? ⟨w.heap.size, 0, none⟩ = some (.pointer (some ⟨gb, 0, none⟩)) := (HT.out.ch.cell (p := ⟨w.heap.size, 0, none⟩) (by show w.heap.size < w3.heap.size; omega) (by rintro (e | e) <;> (simp only at e; omega))).trans (bx3.cell 0)
      by_cases hlt2 : j < nE
      · obtain ⟨b, hb⟩ : ∃ b, EL[j]? = some b := ⟨_, List.getElem?_eq_getElem (by rw [HNE.out]; exact hlt2)⟩
        have hbO := HELO.out b (List.mem_of_getElem? hb)
        have hbk := hOk b hbO
        obtain ⟨vb, vc', hvv, hvb, hvcc⟩ := own_at0 HVE.out (by omega)
        obtain ⟨rfl, -, rfl⟩ := Value.slice.inj hvv
        have v0 := (hvcc j _ (Kit.natVals_at hb)).1
        have HTK := hid (Cf.take_snoc hb)
        obtain ⟨sb, sc, hsvv, hsb, hsvc⟩ := own_at0 HH.out.spt (by omega)
        subst hsvv
        have hsp : ∀ z ∈ O, ∀ X : World, Chg (fun i => i = gb ∨ i = w.heap.size + 1) w3 X → X.cell? ⟨sb, z, none⟩ = some (.int .i64 ((O.idxOf z : Nat) : Int)) := fun z hz X hX => by
          have h1 : O[O.idxOf z]? = some z := by
            rw [List.getElem?_eq_getElem (List.idxOf_lt_length_of_mem hz)]
            exact congrArg some (List.getElem_idxOf _)
          have h2 := (hsvc z _ (HH.out.spi _ _ h1)).1
          have hsg : sb ≠ gb := fun e => own_unlike_box HH.out.spt HH.out.box (by decide) (by rw [← e]; rfl)
          exact ((hX.cell (p := ⟨sb, z, none⟩) (by show sb < w3.heap.size; omega) (by rintro (e | e) <;> (simp only at e; omega))).trans (hc3.cell (p := ⟨sb, z, none⟩) hsb (fun e => hsg e))).trans h2
        have HSP := hid hsp
        clear hsp hsvc
        have g4 : wr.cell? ⟨gb, 4, none⟩ = some (.slice (some ⟨w.heap.size + 1, 0, none⟩) k k) := HT.out.box.cell 4
        obtain ⟨pa, pc, hpv⟩ := own_form (HT.out.ro b hbk)
        obtain ⟨np, hnp⟩ : ∃ n, (Cf.psN (es0 ++ (EL.take j).map (fun b => (a, b))) b).length = n := ⟨_, rfl⟩
        have hnp2 : np ≤ 2199023255552 := by
          rw [← hnp]
          have h1 := Cf.psN_len (es0 ++ (EL.take j).map (fun b => (a, b))) b
          rw [List.length_append, List.length_map, List.length_take] at h1
          have := HES.out
          omega
        have HRo := hid (HT.out.ro b hbk)
        rw [hpv, hnp] at HRo
        rw [hnp] at hpv
        have p0 := (HT.out.at hbk).1
        rw [hpv] at p0
        have HPV := hid hpv
        have HNP := hid hnp
        clear hpv hnp hvv hvcc hb
        obtain ⟨wd, hwd⟩ : ∃ wd, wd = (wr.alloc (.cells #[.int .i64 (a : Int)] 3)).drew := ⟨_, rfl⟩
        have hbd : Below wr.heap.size wr wd := by rw [hwd]; exact Below.drew ((Below.refl _ _).alloc (Nat.le_refl _) _)
        have hsd : wd.heap.size = wr.heap.size + 1 := by rw [hwd]; simp [World.drew]
        have x0d := (hbd.cell (p := ⟨w.heap.size, 0, none⟩) (by show w.heap.size < wr.heap.size; omega)).trans x0
        have g4d : wd.cell? ⟨gb, 4, none⟩ = some (.slice (some ⟨w.heap.size + 1, 0, none⟩) k k) := (HT.out.below hbd).box.cell 4
        have p0d := ((HT.out.below hbd).at hbk).1
        rw [HPV.out] at p0d
        have HRd := hid (Kit.owns_below HRo.out hbd (Nat.le_refl _))
        have HND : Hid (∀ j u, [Value.int .i64 (a : Int)][j]? = some u → wd.cell? ((⟨wr.heap.size, 0, none⟩ : Addr).add j) = some u) := by rw [hwd]; exact Kit.news_one wr _ _
        have HBD := hid hbd
        have HSD := hid hsd
        rw [hwd] at x0d g4d p0d
        gi_upto_region 7 with (fail)
        refine region_round (fun w' => w'.cell? ⟨w.heap.size, 0, none⟩ = some (.pointer (some ⟨gb, 0, none⟩)) ∧ w'.cell? ⟨gb, 4, none⟩ = some (.slice (some ⟨w.heap.size + 1, 0, none⟩) k k)) (by kernel_rfl) (by kernel_rfl) ⟨x0, g4⟩ (fun hS => ?_)
        refine wpAnyH_take (i := 0) (v := ?_) rfl (by kernel_rfl) (by kernel_rfl) (by kernel_rfl) (fun _ _ _ h => h) (Or.inl ⟨by rfl, ?_⟩) hS ?_
        rotate_left
        · (intro wq hSw; (try dsimp only at hSw); go_simp; try with_reducible rfl)
        try simp only [Act.put, List.getElem_toArray, List.getElem_cons_zero, List.getElem_cons_succ, List.setIfInBounds_toArray, List.set_cons_zero, List.set_cons_succ]
        refine wpAnyH_take (i := 1) (v := ?_) rfl (by kernel_rfl) (by kernel_rfl) (by kernel_rfl) (fun _ _ _ h => h) (Or.inl ⟨by rfl, ?_⟩) hS ?_
        rotate_left
        · (intro wq hSw; (try dsimp only at hSw); go_simp; try with_reducible rfl)
        try simp only [Act.put, List.getElem_toArray, List.getElem_cons_zero, List.getElem_cons_succ, List.setIfInBounds_toArray, List.set_cons_zero, List.set_cons_succ]
        refine wpAnyH_take (i := 2) (v := ?_) rfl (by kernel_rfl) (by kernel_rfl) (by kernel_rfl) (fun _ _ _ h => h) (Or.inl ⟨by rfl, ?_⟩) hS ?_
        rotate_left
        · (intro wq hSw; (try dsimp only at hSw); go_simp; try with_reducible rfl)
        try simp only [Act.put, List.getElem_toArray, List.getElem_cons_zero, List.getElem_cons_succ, List.setIfInBounds_toArray, List.set_cons_zero, List.set_cons_succ]
        refine wpAnyH_take (i := 3) (v := ?_) rfl (by kernel_rfl) (by kernel_rfl) (by kernel_rfl) (fun _ _ _ h => h) (Or.inl ⟨by rfl, ?_⟩) hS ?_
        rotate_left
        · (intro wq hSw; (try dsimp only at hSw); go_simp; try with_reducible rfl)
        try simp only [Act.put, List.getElem_toArray, List.getElem_cons_zero, List.getElem_cons_succ, List.setIfInBounds_toArray, List.set_cons_zero, List.set_cons_succ]
        refine wpAnyH_take (i := 4) (v := ?_) rfl (by kernel_rfl) (by kernel_rfl) (by kernel_rfl) (fun _ _ _ h => h) (Or.inl ⟨by rfl, ?_⟩) hS ?_
        rotate_left
        · (intro wq hSw; (try dsimp only at hSw); go_simp; try with_reducible rfl)
        try simp only [Act.put, List.getElem_toArray, List.getElem_cons_zero, List.getElem_cons_succ, List.setIfInBounds_toArray, List.set_cons_zero, List.set_cons_succ]
        refine wpAnyH_take (i := 5) (v := ?_) rfl (by kernel_rfl) (by kernel_rfl) (by kernel_rfl) (fun _ _ _ h => h) (Or.inl ⟨by rfl, ?_⟩) hS ?_
        rotate_left
        · (intro wq hSw; (try dsimp only at hSw); go_simp; try with_reducible rfl)
        try simp only [Act.put, List.getElem_toArray, List.getElem_cons_zero, List.getElem_cons_succ, List.setIfInBounds_toArray, List.set_cons_zero, List.set_cons_succ]
        refine wpAnyH_take (i := 6) (v := ?_) rfl (by kernel_rfl) (by kernel_rfl) (by kernel_rfl) (fun _ _ _ h => h) (Or.inl ⟨by rfl, ?_⟩) hS ?_
        rotate_left
        · (intro wq hSw; (try dsimp only at hSw); go_simp; try with_reducible rfl)
        try simp only [Act.put, List.getElem_toArray, List.getElem_cons_zero, List.getElem_cons_succ, List.setIfInBounds_toArray, List.set_cons_zero, List.set_cons_succ]
        refine wpAnyH_take (i := 7) (v := ?_) rfl (by kernel_rfl) (by kernel_rfl) (by kernel_rfl) (fun _ _ _ h => h) (Or.inl ⟨by rfl, ?_⟩) hS ?_
        rotate_left
        · (intro wq hSw; (try dsimp only at hSw); go_simp; try with_reducible rfl)
        try simp only [Act.put, List.getElem_toArray, List.getElem_cons_zero, List.getElem_cons_succ, List.setIfInBounds_toArray, List.set_cons_zero, List.set_cons_succ]
        refine wpAnyH_take (i := 8) (v := ?_) rfl (by kernel_rfl) (by kernel_rfl) (by kernel_rfl) (fun _ _ _ h => h) (Or.inl ⟨by rfl, ?_⟩) hS ?_
        rotate_left
        · (intro wq hSw; (try dsimp only at hSw); go_simp; try with_reducible rfl)
        try simp only [Act.put, List.getElem_toArray, List.getElem_cons_zero, List.getElem_cons_succ, List.setIfInBounds_toArray, List.set_cons_zero, List.set_cons_succ]
        refine wpAnyH_take (i := 9) (v := ?_) rfl (by kernel_rfl) (by kernel_rfl) (by kernel_rfl) (fun _ _ _ h => h) (Or.inl ⟨by rfl, ?_⟩) hS ?_
        rotate_left
        · (intro wq hSw; (try dsimp only at hSw); go_simp; try with_reducible rfl)
        try simp only [Act.put, List.getElem_toArray, List.getElem_cons_zero, List.getElem_cons_succ, List.setIfInBounds_toArray, List.set_cons_zero, List.set_cons_succ]
        refine wpAnyH_take (i := 10) (v := ?_) rfl (by kernel_rfl) (by kernel_rfl) (by kernel_rfl) (fun _ _ _ h => h) (Or.inl ⟨by rfl, ?_⟩) hS ?_
        rotate_left
        · (intro wq hSw; (try dsimp only at hSw); go_simp; try with_reducible rfl)
        try simp only [Act.put, List.getElem_toArray, List.getElem_cons_zero, List.getElem_cons_succ, List.setIfInBounds_toArray, List.set_cons_zero, List.set_cons_succ]
        refine wpAnyH_take (i := 12) (v := ?_) rfl (by kernel_rfl) (by kernel_rfl) (by kernel_rfl) (fun _ _ _ h => h) (Or.inl ⟨by rfl, ?_⟩) hS ?_
        rotate_left
        · (intro wq hSw; (try dsimp only at hSw); go_simp; try with_reducible rfl)
        try simp only [Act.put, List.getElem_toArray, List.getElem_cons_zero, List.getElem_cons_succ, List.setIfInBounds_toArray, List.set_cons_zero, List.set_cons_succ]
        refine wpAnyH_ready (rs := [11, 13]) (by kernel_rfl) (by simp) ?_
        refine AllReadyH.cons rfl (fun K hK => ?_) (AllReadyH.cons rfl (fun K hK => ?_) AllReadyH.nil)
        focus (
          go_simp
          refine hK.out _ _ ⟨x0, g4⟩ (fun hS => ?_)
          clear hK K
          try simp only [Act.put, List.getElem_toArray, List.getElem_cons_zero, List.getElem_cons_succ, List.setIfInBounds_toArray, List.set_cons_zero, List.set_cons_succ]
          refine wpAnyH_ready (rs := [13]) (by kernel_rfl) (by simp) (AllReadyH.cons rfl (fun K hK => ?_) AllReadyH.nil)
          go_simp
          refine hK.out _ _ ⟨x0d, g4d⟩ (fun hS => ?_)
          clear hK K)
        rotate_left
        focus (
          go_simp
          refine hK.out _ _ ⟨x0d, g4d⟩ (fun hS => ?_)
          clear hK K
          try simp only [Act.put, List.getElem_toArray, List.getElem_cons_zero, List.getElem_cons_succ, List.setIfInBounds_toArray, List.set_cons_zero, List.set_cons_succ]
          refine wpAnyH_ready (rs := [11]) (by kernel_rfl) (by simp) (AllReadyH.cons rfl (fun K hK => ?_) AllReadyH.nil)
          go_simp
          refine hK.out _ _ ⟨x0d, g4d⟩ (fun hS => ?_)
          clear hK K)
        all_goals (
          try simp only [Act.put, List.getElem_toArray, List.getElem_cons_zero, List.getElem_cons_succ, List.setIfInBounds_toArray, List.set_cons_zero, List.set_cons_succ]
          refine wpAnyH_ready (rs := [14]) (by kernel_rfl) (by simp) (AllReadyH.cons rfl (fun K hK => ?_) AllReadyH.nil)
          rw [← hwd]
          refine Kit.step_append_own rfl (.tmp 38) (.tmp 40) 34 rfl w3.heap.size 3 i0 _ 1 8 Try.underlying34 hi hz0 hz1 hz2 rfl (by decide) (.slice pa np pc) np _ rfl HRd.out ⟨wr.heap.size, 0, none⟩ 1 1 [.int .i64 (a : Int)] rfl rfl HND.out (Kit.ones_one rfl) (by unfold maxLen; omega) (by omega) (by have := HSD.out; have := HT.out.ch.size; omega) ?_
          intro v4 w4 ho4 hg4 hk4
          obtain ⟨xa4, xc4, rfl⟩ := own_form ho4
          obtain ⟨bg4, pc4, pf4, ch4, hT4, ko4, cs4⟩ := HT.out.push (a := a) hbk HBD.out (by rw [HPV.out]; exact hg4) (by rw [HPV.out]; exact hk4) (by rw [HNP.out]; exact ho4)
          have x4 : w4.cell? ⟨w.heap.size, 0, none⟩ = some (.pointer (some ⟨gb, 0, none⟩)) := (ch4.cell (p := ⟨w.heap.size, 0, none⟩) (by show w.heap.size < w3.heap.size; omega) (by rintro (e | e) <;> (simp only at e; omega))).trans (bx3.cell 0)
          have g44 : w4.cell? ⟨gb, 4, none⟩ = some (.slice (some ⟨w.heap.size + 1, 0, none⟩) k k) := bg4.cell 4
          refine hK.out _ _ ⟨x4, g44⟩ (fun hS => ?_)
          clear hK K
          try simp only [Act.put, List.getElem_toArray, List.getElem_cons_zero, List.getElem_cons_succ, List.setIfInBounds_toArray, List.set_cons_zero, List.set_cons_succ]
          refine wpAnyH_take (i := 15) (v := ?_) rfl (by kernel_rfl) (by kernel_rfl) (by kernel_rfl) (fun _ _ _ h => h) (Or.inl ⟨by rfl, ?_⟩) hS ?_
          rotate_left
          · (intro wq hSw; (try dsimp only at hSw); go_simp; try with_reducible rfl)
          try simp only [Act.put, List.getElem_toArray, List.getElem_cons_zero, List.getElem_cons_succ, List.setIfInBounds_toArray, List.set_cons_zero, List.set_cons_succ]
          refine wpAnyH_ready (rs := [16]) (by kernel_rfl) (by simp) (AllReadyH.cons rfl (fun K hK => ?_) AllReadyH.nil)
          go_simp
          have HT4 := hid hT4
          have x5 : (w4.setCell ⟨w.heap.size + 1, b, none⟩ (.slice xa4 (np + 1) xc4)).cell? ⟨w.heap.size, 0, none⟩ = some (.pointer (some ⟨gb, 0, none⟩)) := (hT4.ch.cell (p := ⟨w.heap.size, 0, none⟩) (by show w.heap.size < w3.heap.size; omega) (by rintro (e | e) <;> (simp only at e; omega))).trans (bx3.cell 0)
          have g45 : (w4.setCell ⟨w.heap.size + 1, b, none⟩ (.slice xa4 (np + 1) xc4)).cell? ⟨gb, 4, none⟩ = some (.slice (some ⟨w.heap.size + 1, 0, none⟩) k k) := hT4.box.cell 4
          refine hK.out _ _ ⟨x5, g45⟩ (fun hS => ?_)
          clear hK K
          try simp only [Act.put, List.getElem_toArray, List.getElem_cons_zero, List.getElem_cons_succ, List.setIfInBounds_toArray, List.set_cons_zero, List.set_cons_succ]
          refine wpAnyH_done (by kernel_rfl) ?_ _
          refine normQ_out ?_
          have HVE4 : Hid ((w4.setCell ⟨w.heap.size + 1, b, none⟩ (.slice xa4 (np + 1) xc4)).ownsRow W.heap.size 3 1 (.slice (some ⟨vb, 0, none⟩) nE vc) nE (natVals EL)) := owns_chg HVE.out cs4 (fun j e1 e2 => by
            rcases e2 with e2 | e2
            · exact HA.out b hbk j e1 e2
            · have := Kit.own_base HVE.out j e1
              omega)
          have HA4 : Hid (∀ x, x < k → ∀ j, (Value.slice (some ⟨vb, 0, none⟩) nE vc).ownBlock = some j → (upd pv b (.slice xa4 (np + 1) xc4) x).ownBlock ≠ some j) := fun x hx j e1 => by
            by_cases ex : x = b
            · rw [ex, upd_same]
              intro e2
              rcases hk4 with h | h
              · rw [h, ← HPV.out] at e2
                exact HA.out b hbk j e1 e2
              · rw [h] at e2
                have := Kit.own_lt HVE.out j e1
                have := Option.some.inj e2
                have := HSD.out
                omega
            · rw [upd_other _ _ ex]
              exact HA.out x hx j e1
          have HK4 : Hid (KeepsOthers W (w4.setCell ⟨w.heap.size + 1, b, none⟩ (.slice xa4 (np + 1) xc4))) := HK.out.trans ko4
          obtain ⟨W4, hW4⟩ : ∃ X, X = w4.setCell ⟨w.heap.size + 1, b, none⟩ (.slice xa4 (np + 1) xc4) := ⟨_, rfl⟩
          rw [← hW4] at HT4 HVE4 HK4 x5 ⊢
          clear hW4 hS x4 g44 g45 hT4 ko4 cs4 ch4 pf4 pc4 bg4 hk4 hg4 ho4 x0d g4d p0d HRd HND HBD HSD x0 g4 p0 v0 hwd hbd hsd HK HA HVE HT HRo HPV HNP
          have hz4 := HK4.out.size
          have s3 : W4.cell? ⟨gb, 3, none⟩ = some (.slice (some ⟨sb, 0, none⟩) k sc) := HT4.out.box.cell 3
          have sb1 := HSP.out b hbO W4 HT4.out.ch
          have sa1 := HSP.out a haO W4 HT4.out.ch
          obtain ⟨ib, hib⟩ : ∃ n, O.idxOf b = n := ⟨_, rfl⟩
          obtain ⟨ia, hia⟩ : ∃ n, O.idxOf a = n := ⟨_, rfl⟩
          have HIB := hid hib
          have HIA := hid hia
          rw [hib] at sb1
          rw [hia] at sa1
          clear hib hia
          by_cases hle : ib ≤ ia
          · have hle1 : (ib : Int) ≤ (ia : Int) := by omega
            have hle2 : decide ((ib : Int) ≤ (ia : Int)) = true := by simpa using hle
            gi_upto_region 8 with (fail)
            refine region_round (fun w' => w'.cell? ⟨w.heap.size, 0, none⟩ = some (.pointer (some ⟨gb, 0, none⟩)) ∧ w'.cell? ⟨gb, 3, none⟩ = some (.slice (some ⟨sb, 0, none⟩) k sc) ∧ w'.cell? ⟨sb, b, none⟩ = some (.int .i64 (ib : Int)) ∧ w'.cell? ⟨sb, a, none⟩ = some (.int .i64 (ia : Int))) (by kernel_rfl) (by kernel_rfl) ⟨x5, s3, sb1, sa1⟩ (fun hS => ?_)
            refine wpAnyH_take (i := 0) (v := ?_) rfl (by kernel_rfl) (by kernel_rfl) (by kernel_rfl) (fun _ _ _ h => h) (Or.inl ⟨by rfl, ?_⟩) hS ?_
            rotate_left
            · (intro wq hSw; (try dsimp only at hSw); go_simp; try with_reducible rfl)
            try simp only [Act.put, List.getElem_toArray, List.getElem_cons_zero, List.getElem_cons_succ, List.setIfInBounds_toArray, List.set_cons_zero, List.set_cons_succ]
            refine wpAnyH_take (i := 1) (v := ?_) rfl (by kernel_rfl) (by kernel_rfl) (by kernel_rfl) (fun _ _ _ h => h) (Or.inl ⟨by rfl, ?_⟩) hS ?_
            rotate_left
            · (intro wq hSw; (try dsimp only at hSw); go_simp; try with_reducible rfl)
            try simp only [Act.put, List.getElem_toArray, List.getElem_cons_zero, List.getElem_cons_succ, List.setIfInBounds_toArray, List.set_cons_zero, List.set_cons_succ]
            refine wpAnyH_take (i := 2) (v := ?_) rfl (by kernel_rfl) (by kernel_rfl) (by kernel_rfl) (fun _ _ _ h => h) (Or.inl ⟨by rfl, ?_⟩) hS ?_
            rotate_left
            · (intro wq hSw; (try dsimp only at hSw); go_simp; try with_reducible rfl)
            try simp only [Act.put, List.getElem_toArray, List.getElem_cons_zero, List.getElem_cons_succ, List.setIfInBounds_toArray, List.set_cons_zero, List.set_cons_succ]
            refine wpAnyH_take (i := 3) (v := ?_) rfl (by kernel_rfl) (by kernel_rfl) (by kernel_rfl) (fun _ _ _ h => h) (Or.inl ⟨by rfl, ?_⟩) hS ?_
            rotate_left
            · (intro wq hSw; (try dsimp only at hSw); go_simp; try with_reducible rfl)
            try simp only [Act.put, List.getElem_toArray, List.getElem_cons_zero, List.getElem_cons_succ, List.setIfInBounds_toArray, List.set_cons_zero, List.set_cons_succ]
            refine wpAnyH_take (i := 4) (v := ?_) rfl (by kernel_rfl) (by kernel_rfl) (by kernel_rfl) (fun _ _ _ h => h) (Or.inl ⟨by rfl, ?_⟩) hS ?_
            rotate_left
            · (intro wq hSw; (try dsimp only at hSw); go_simp; try with_reducible rfl)
            try simp only [Act.put, List.getElem_toArray, List.getElem_cons_zero, List.getElem_cons_succ, List.setIfInBounds_toArray, List.set_cons_zero, List.set_cons_succ]
            refine wpAnyH_take (i := 5) (v := ?_) rfl (by kernel_rfl) (by kernel_rfl) (by kernel_rfl) (fun _ _ _ h => h) (Or.inl ⟨by rfl, ?_⟩) hS ?_
            rotate_left
            · (intro wq hSw; (try dsimp only at hSw); go_simp; try with_reducible rfl)
            try simp only [Act.put, List.getElem_toArray, List.getElem_cons_zero, List.getElem_cons_succ, List.setIfInBounds_toArray, List.set_cons_zero, List.set_cons_succ]
            refine wpAnyH_take (i := 6) (v := ?_) rfl (by kernel_rfl) (by kernel_rfl) (by kernel_rfl) (fun _ _ _ h => h) (Or.inl ⟨by rfl, ?_⟩) hS ?_
            rotate_left
            · (intro wq hSw; (try dsimp only at hSw); go_simp; try with_reducible rfl)
            try simp only [Act.put, List.getElem_toArray, List.getElem_cons_zero, List.getElem_cons_succ, List.setIfInBounds_toArray, List.set_cons_zero, List.set_cons_succ]
            refine wpAnyH_take (i := 7) (v := ?_) rfl (by kernel_rfl) (by kernel_rfl) (by kernel_rfl) (fun _ _ _ h => h) (Or.inl ⟨by rfl, ?_⟩) hS ?_
            rotate_left
            · (intro wq hSw; (try dsimp only at hSw); go_simp; try with_reducible rfl)
            try simp only [Act.put, List.getElem_toArray, List.getElem_cons_zero, List.getElem_cons_succ, List.setIfInBounds_toArray, List.set_cons_zero, List.set_cons_succ]
            refine wpAnyH_take (i := 8) (v := ?_) rfl (by kernel_rfl) (by kernel_rfl) (by kernel_rfl) (fun _ _ _ h => h) (Or.inl ⟨by rfl, ?_⟩) hS ?_
            rotate_left
            · (intro wq hSw; (try dsimp only at hSw); go_simp; try with_reducible rfl)
            try simp only [Act.put, List.getElem_toArray, List.getElem_cons_zero, List.getElem_cons_succ, List.setIfInBounds_toArray, List.set_cons_zero, List.set_cons_succ]
            refine wpAnyH_take (i := 9) (v := ?_) rfl (by kernel_rfl) (by kernel_rfl) (by kernel_rfl) (fun _ _ _ h => h) (Or.inl ⟨by rfl, ?_⟩) hS ?_
            rotate_left
            · (intro wq hSw; (try dsimp only at hSw); go_simp; try with_reducible rfl)
            try simp only [Act.put, List.getElem_toArray, List.getElem_cons_zero, List.getElem_cons_succ, List.setIfInBounds_toArray, List.set_cons_zero, List.set_cons_succ]
            refine wpAnyH_take (i := 10) (v := ?_) rfl (by kernel_rfl) (by kernel_rfl) (by kernel_rfl) (fun _ _ _ h => h) (Or.inl ⟨by rfl, ?_⟩) hS ?_
            rotate_left
            · (intro wq hSw; (try dsimp only at hSw); go_simp; try with_reducible rfl)
            try simp only [Act.put, List.getElem_toArray, List.getElem_cons_zero, List.getElem_cons_succ, List.setIfInBounds_toArray, List.set_cons_zero, List.set_cons_succ]
            refine wpAnyH_take (i := 11) (v := ?_) rfl (by kernel_rfl) (by kernel_rfl) (by kernel_rfl) (fun _ _ _ h => h) (Or.inl ⟨by rfl, ?_⟩) hS ?_
            rotate_left
            · (intro wq hSw; (try dsimp only at hSw); go_simp; try with_reducible rfl)
            try simp only [Act.put, List.getElem_toArray, List.getElem_cons_zero, List.getElem_cons_succ, List.setIfInBounds_toArray, List.set_cons_zero, List.set_cons_succ]
            refine wpAnyH_take (i := 12) (v := ?_) rfl (by kernel_rfl) (by kernel_rfl) (by kernel_rfl) (fun _ _ _ h => h) (Or.inl ⟨by rfl, ?_⟩) hS ?_
            rotate_left
            · (intro wq hSw; (try dsimp only at hSw); go_simp; try with_reducible rfl)
            try simp only [Act.put, List.getElem_toArray, List.getElem_cons_zero, List.getElem_cons_succ, List.setIfInBounds_toArray, List.set_cons_zero, List.set_cons_succ]
            refine wpAnyH_take (i := 13) (v := ?_) rfl (by kernel_rfl) (by kernel_rfl) (by kernel_rfl) (fun _ _ _ h => h) (Or.inl ⟨by rfl, ?_⟩) hS ?_
            rotate_left
            · (intro wq hSw; (try dsimp only at hSw); go_simp; try with_reducible rfl)
            try simp only [Act.put, List.getElem_toArray, List.getElem_cons_zero, List.getElem_cons_succ, List.setIfInBounds_toArray, List.set_cons_zero, List.set_cons_succ]
            refine wpAnyH_take (i := 14) (v := ?_) rfl (by kernel_rfl) (by kernel_rfl) (by kernel_rfl) (fun _ _ _ h => h) (Or.inl ⟨by rfl, ?_⟩) hS ?_
            rotate_left
            · (intro wq hSw; (try dsimp only at hSw); go_simp; try with_reducible rfl)
            try simp only [Act.put, List.getElem_toArray, List.getElem_cons_zero, List.getElem_cons_succ, List.setIfInBounds_toArray, List.set_cons_zero, List.set_cons_succ]
            refine wpAnyH_done (by kernel_rfl) ?_ _
            refine normQ_out ?_
            have HT5 : Hid (TuI w3 gb (w.heap.size + 1) k (.slice (some ⟨bb, 0, none⟩) k cap) (.slice (some ⟨ob, 0, none⟩) L.length L.length) (.slice oa O.length oc) (.slice (some ⟨sb, 0, none⟩) k sc) (es0 ++ (EL.take j).map (fun b => (a, b)) ++ [(a, b)]) (upd pv b (.slice xa4 (np + 1) xc4)) kv (Cf.bks (fun x => O.idxOf x) (es0 ++ (EL.take j).map (fun b => (a, b)))) W4.drew) := HT4.out.below (Below.drew (Below.refl _ _))
            have HVE5 := hid (Kit.owns_below HVE4.out (Below.drew (Below.refl W4.heap.size W4)) (Nat.le_refl _))
            have HK5 : Hid (KeepsOthers W W4.drew) := HK4.out.trans (KeepsOthers.drew _)
            have x6 : W4.drew.cell? ⟨w.heap.size, 0, none⟩ = some (.pointer (some ⟨gb, 0, none⟩)) := x5
            obtain ⟨W5, hW5⟩ : ∃ X, X = W4.drew := ⟨_, rfl⟩
            have hz5 : W.heap.size ≤ W4.drew.heap.size := HK5.out.size
            have hz53 : w3.heap.size ≤ W4.drew.heap.size := HT5.out.ch.size
            rw [← hW5] at HT5 HVE5 HK5 hz5 hz53 x6 ⊢
            clear hW5 hS x5 s3 sb1 sa1 HT4 HVE4 HK4
            obtain ⟨ka, kc, rfl⟩ := own_form HT5.out.bk
            have hnb : (Cf.bks (fun x => O.idxOf x) (es0 ++ (EL.take j).map (fun b => (a, b)))).length ≤ 2199023255552 := by
              have h0 := Cf.bks_len (fun x => O.idxOf x) (es0 ++ (EL.take j).map (fun b => (a, b)))
              rw [List.length_append, List.length_map, List.length_take] at h0
              have := HES.out
              omega
            obtain ⟨nb, hnb0⟩ : ∃ n, (Cf.bks (fun x => O.idxOf x) (es0 ++ (EL.take j).map (fun b => (a, b)))).length = n := ⟨_, rfl⟩
            have HRb := hid HT5.out.bk
            rw [hnb0] at HT5 HRb hnb
            have HNB := hid hnb0
            have b5 : W5.cell? ⟨gb, 5, none⟩ = some (.slice ka nb kc) := HT5.out.box.cell 5
            clear hnb0
            obtain ⟨we, hwe⟩ : ∃ we, we = (W5.alloc (.cells #[.int .i64 (a : Int), .int .i64 (b : Int)] 77)).drew := ⟨_, rfl⟩
            have hbe : Below W5.heap.size W5 we := by rw [hwe]; exact Below.drew ((Below.refl _ _).alloc (Nat.le_refl _) _)
            have hse : we.heap.size = W5.heap.size + 1 := by rw [hwe]; simp [World.drew]
            have x6e := (hbe.cell (p := ⟨w.heap.size, 0, none⟩) (by show w.heap.size < W5.heap.size; omega)).trans x6
            have b5e : we.cell? ⟨gb, 5, none⟩ = some (.slice ka nb kc) := (HT5.out.below hbe).box.cell 5
            have HRe := hid (Kit.owns_below HRb.out hbe (Nat.le_refl _))
            have HNE2 : Hid (∀ j u, [Value.int .i64 (a : Int), .int .i64 (b : Int)][j]? = some u → we.cell? ((⟨W5.heap.size, 0, none⟩ : Addr).add j) = some u) := by rw [hwe]; exact news_of W5 _ _
            have HBE2 := hid hbe
            have HSE2 := hid hse
            rw [hwe] at x6e b5e
            gi_upto_region 9 with (fail)
            refine region_round (fun w' => w'.cell? ⟨w.heap.size, 0, none⟩ = some (.pointer (some ⟨gb, 0, none⟩))) (by kernel_rfl) (by kernel_rfl) x6 (fun hS => ?_)
            refine wpAnyH_take (i := 0) (v := ?_) rfl (by kernel_rfl) (by kernel_rfl) (by kernel_rfl) (fun _ _ _ h => h) (Or.inl ⟨by rfl, ?_⟩) hS ?_
            rotate_left
            · (intro wq hSw; (try dsimp only at hSw); go_simp; try with_reducible rfl)
            try simp only [Act.put, List.getElem_toArray, List.getElem_cons_zero, List.getElem_cons_succ, List.setIfInBounds_toArray, List.set_cons_zero, List.set_cons_succ]
            refine wpAnyH_take (i := 1) (v := ?_) rfl (by kernel_rfl) (by kernel_rfl) (by kernel_rfl) (fun _ _ _ h => h) (Or.inl ⟨by rfl, ?_⟩) hS ?_
            rotate_left
            · (intro wq hSw; (try dsimp only at hSw); go_simp; try with_reducible rfl)
            try simp only [Act.put, List.getElem_toArray, List.getElem_cons_zero, List.getElem_cons_succ, List.setIfInBounds_toArray, List.set_cons_zero, List.set_cons_succ]
            refine wpAnyH_take (i := 2) (v := ?_) rfl (by kernel_rfl) (by kernel_rfl) (by kernel_rfl) (fun _ _ _ h => h) (Or.inl ⟨by rfl, ?_⟩) hS ?_
            rotate_left
            · (intro wq hSw; (try dsimp only at hSw); go_simp; try with_reducible rfl)
            try simp only [Act.put, List.getElem_toArray, List.getElem_cons_zero, List.getElem_cons_succ, List.setIfInBounds_toArray, List.set_cons_zero, List.set_cons_succ]
            refine wpAnyH_take (i := 3) (v := ?_) rfl (by kernel_rfl) (by kernel_rfl) (by kernel_rfl) (fun _ _ _ h => h) (Or.inl ⟨by rfl, ?_⟩) hS ?_
            rotate_left
            · (intro wq hSw; (try dsimp only at hSw); go_simp; try with_reducible rfl)
            try simp only [Act.put, List.getElem_toArray, List.getElem_cons_zero, List.getElem_cons_succ, List.setIfInBounds_toArray, List.set_cons_zero, List.set_cons_succ]
            refine wpAnyH_take (i := 5) (v := ?_) rfl (by kernel_rfl) (by kernel_rfl) (by kernel_rfl) (fun _ _ _ h => h) (Or.inl ⟨by rfl, ?_⟩) hS ?_
            rotate_left
            · (intro wq hSw; (try dsimp only at hSw); go_simp; try with_reducible rfl)
            try simp only [Act.put, List.getElem_toArray, List.getElem_cons_zero, List.getElem_cons_succ, List.setIfInBounds_toArray, List.set_cons_zero, List.set_cons_succ]
            refine wpAnyH_take (i := 6) (v := ?_) rfl (by kernel_rfl) (by kernel_rfl) (by kernel_rfl) (fun _ _ _ h => h) (Or.inl ⟨by rfl, ?_⟩) hS ?_
            rotate_left
            · (intro wq hSw; (try dsimp only at hSw); go_simp; try with_reducible rfl)
            try simp only [Act.put, List.getElem_toArray, List.getElem_cons_zero, List.getElem_cons_succ, List.setIfInBounds_toArray, List.set_cons_zero, List.set_cons_succ]
            refine wpAnyH_take (i := 7) (v := ?_) rfl (by kernel_rfl) (by kernel_rfl) (by kernel_rfl) (fun _ _ _ h => h) (Or.inl ⟨by rfl, ?_⟩) hS ?_
            rotate_left
            · (intro wq hSw; (try dsimp only at hSw); go_simp; try with_reducible rfl)
            try simp only [Act.put, List.getElem_toArray, List.getElem_cons_zero, List.getElem_cons_succ, List.setIfInBounds_toArray, List.set_cons_zero, List.set_cons_succ]
            refine wpAnyH_ready (rs := [4, 8]) (by kernel_rfl) (by simp) ?_
            refine AllReadyH.cons rfl (fun K hK => ?_) (AllReadyH.cons rfl (fun K hK => ?_) AllReadyH.nil)
            focus (
              go_simp
              refine hK.out _ _ x6 (fun hS => ?_)
              clear hK K
              try simp only [Act.put, List.getElem_toArray, List.getElem_cons_zero, List.getElem_cons_succ, List.setIfInBounds_toArray, List.set_cons_zero, List.set_cons_succ]
              refine wpAnyH_ready (rs := [8]) (by kernel_rfl) (by simp) (AllReadyH.cons rfl (fun K hK => ?_) AllReadyH.nil)
              go_simp
              refine hK.out _ _ x6e (fun hS => ?_)
              clear hK K)
            rotate_left
            focus (
              go_simp
              refine hK.out _ _ x6e (fun hS => ?_)
              clear hK K
              try simp only [Act.put, List.getElem_toArray, List.getElem_cons_zero, List.getElem_cons_succ, List.setIfInBounds_toArray, List.set_cons_zero, List.set_cons_succ]
              refine wpAnyH_ready (rs := [4]) (by kernel_rfl) (by simp) (AllReadyH.cons rfl (fun K hK => ?_) AllReadyH.nil)
              go_simp
              refine hK.out _ _ x6e (fun hS => ?_)
              clear hK K)
            all_goals (
              try simp only [Act.put, List.getElem_toArray, List.getElem_cons_zero, List.getElem_cons_succ, List.setIfInBounds_toArray, List.set_cons_zero, List.set_cons_succ]
              refine wpAnyH_ready (rs := [9]) (by kernel_rfl) (by simp) (AllReadyH.cons rfl (fun K hK => ?_) AllReadyH.nil)
              rw [← hwe]
              refine Kit.step_append_own rfl (.tmp 62) (.tmp 66) 54 rfl w3.heap.size 77 i1 _ 2 16 Try.underlying54 hi1 hy0 hy1 hy2 rfl (by decide) (.slice ka nb kc) nb _ rfl HRe.out ⟨W5.heap.size, 0, none⟩ 1 1 [.int .i64 (a : Int), .int .i64 (b : Int)] rfl rfl HNE2.out (fun u hu => by simp at hu; rcases hu with rfl | rfl <;> rfl) (by unfold maxLen; omega) (by omega) (by have := HSE2.out; omega) ?_
              intro v6 w6 ho6 hg6 hk6
              obtain ⟨xa6, xc6, rfl⟩ := own_form ho6
              obtain ⟨b6, f6, ch6, hT6, ko6, cs6⟩ := HT5.out.back (a := a) (x := b) HBE2.out hg6 (by rw [HNB.out]; exact ho6)
              have x7 : w6.cell? ⟨w.heap.size, 0, none⟩ = some (.pointer (some ⟨gb, 0, none⟩)) := (ch6.cell (p := ⟨w.heap.size, 0, none⟩) (by show w.heap.size < w3.heap.size; omega) (by rintro (e | e) <;> (simp only at e; omega))).trans (bx3.cell 0)
              refine hK.out _ _ x7 (fun hS => ?_)
              clear hK K
              try simp only [Act.put, List.getElem_toArray, List.getElem_cons_zero, List.getElem_cons_succ, List.setIfInBounds_toArray, List.set_cons_zero, List.set_cons_succ]
              refine wpAnyH_take (i := 10) (v := ?_) rfl (by kernel_rfl) (by kernel_rfl) (by kernel_rfl) (fun _ _ _ h => h) (Or.inl ⟨by rfl, ?_⟩) hS ?_
              rotate_left
              · (intro wq hSw; (try dsimp only at hSw); go_simp; try with_reducible rfl)
              try simp only [Act.put, List.getElem_toArray, List.getElem_cons_zero, List.getElem_cons_succ, List.setIfInBounds_toArray, List.set_cons_zero, List.set_cons_succ]
              refine wpAnyH_take (i := 11) (v := ?_) rfl (by kernel_rfl) (by kernel_rfl) (by kernel_rfl) (fun _ _ _ h => h) (Or.inl ⟨by rfl, ?_⟩) hS ?_
              rotate_left
              · (intro wq hSw; (try dsimp only at hSw); go_simp; try with_reducible rfl)
              try simp only [Act.put, List.getElem_toArray, List.getElem_cons_zero, List.getElem_cons_succ, List.setIfInBounds_toArray, List.set_cons_zero, List.set_cons_succ]
              refine wpAnyH_ready (rs := [12]) (by kernel_rfl) (by simp) (AllReadyH.cons rfl (fun K hK => ?_) AllReadyH.nil)
              go_simp
              have HT6 : Hid (TuI w3 gb (w.heap.size + 1) k (.slice (some ⟨bb, 0, none⟩) k cap) (.slice (some ⟨ob, 0, none⟩) L.length L.length) (.slice oa O.length oc) (.slice (some ⟨sb, 0, none⟩) k sc) (es0 ++ (EL.take (j + 1)).map (fun b => (a, b))) (upd pv b (.slice xa4 (np + 1) xc4)) (.slice xa6 (nb + 1) xc6) (Cf.bks (fun x => O.idxOf x) (es0 ++ (EL.take (j + 1)).map (fun b => (a, b)))) (w6.setCell ⟨gb, 5, none⟩ (.slice xa6 (nb + 1) xc6))) := by
                rw [HTK.out, List.map_append, List.map_singleton, ← List.append_assoc, Cf.bks_yes _ _ (by rw [HIB.out, HIA.out]; exact hle)]
                exact hT6
              have x8 : (w6.setCell ⟨gb, 5, none⟩ (.slice xa6 (nb + 1) xc6)).cell? ⟨w.heap.size, 0, none⟩ = some (.pointer (some ⟨gb, 0, none⟩)) := (hT6.ch.cell (p := ⟨w.heap.size, 0, none⟩) (by show w.heap.size < w3.heap.size; omega) (by rintro (e | e) <;> (simp only at e; omega))).trans (bx3.cell 0)
              refine hK.out _ _ x8 (fun hS => ?_)
              clear hK K
              try simp only [Act.put, List.getElem_toArray, List.getElem_cons_zero, List.getElem_cons_succ, List.setIfInBounds_toArray, List.set_cons_zero, List.set_cons_succ]
              refine wpAnyH_done (by kernel_rfl) ?_ _
              refine normQ_out ?_
              have HVE6 : Hid ((w6.setCell ⟨gb, 5, none⟩ (.slice xa6 (nb + 1) xc6)).ownsRow W.heap.size 3 1 (.slice (some ⟨vb, 0, none⟩) nE vc) nE (natVals EL)) := owns_chg HVE5.out cs6 (fun j e1 e2 => by
                rcases e2 with e2 | e2
                · exact own_unlike HVE5.out HRb.out (by decide) j e1 e2
                · have := Kit.own_base HVE5.out j e1
                  omega)
              have HK6 : Hid (KeepsOthers W (w6.setCell ⟨gb, 5, none⟩ (.slice xa6 (nb + 1) xc6))) := HK5.out.trans ko6
              obtain ⟨W7, hW7⟩ : ∃ X, X = w6.setCell ⟨gb, 5, none⟩ (.slice xa6 (nb + 1) xc6) := ⟨_, rfl⟩
              have hz7 := HK6.out.size
              rw [← hW7] at HT6 HVE6 HK6 hz7 ⊢
              clear hW7 hS x8 hT6 x7 ko6 cs6 ch6 f6 b6 hk6 hg6 ho6 x6e b5e HRe HNE2 HBE2 HSE2 x6 b5 hwe hbe hse HK5 HVE5 HT5 HRb HNB
              gi_wp2
              go_roundw
              case rel => exact ⟨j + 1, _, _, by go_num, by omega, HT6, HVE6, HA4, HK6, hz7⟩
              case measure => simp [intOf]; omega)
          · have hle1 : ¬ (ib : Int) ≤ (ia : Int) := by omega
            have hle2 : decide ((ib : Int) ≤ (ia : Int)) = false := by simpa using hle
            gi_upto_region 8 with (fail)
            refine region_round (fun w' => w'.cell? ⟨w.heap.size, 0, none⟩ = some (.pointer (some ⟨gb, 0, none⟩)) ∧ w'.cell? ⟨gb, 3, none⟩ = some (.slice (some ⟨sb, 0, none⟩) k sc) ∧ w'.cell? ⟨sb, b, none⟩ = some (.int .i64 (ib : Int)) ∧ w'.cell? ⟨sb, a, none⟩ = some (.int .i64 (ia : Int))) (by kernel_rfl) (by kernel_rfl) ⟨x5, s3, sb1, sa1⟩ (fun hS => ?_)
            refine wpAnyH_take (i := 0) (v := ?_) rfl (by kernel_rfl) (by kernel_rfl) (by kernel_rfl) (fun _ _ _ h => h) (Or.inl ⟨by rfl, ?_⟩) hS ?_
            rotate_left
            · (intro wq hSw; (try dsimp only at hSw); go_simp; try with_reducible rfl)
            try simp only [Act.put, List.getElem_toArray, List.getElem_cons_zero, List.getElem_cons_succ, List.setIfInBounds_toArray, List.set_cons_zero, List.set_cons_succ]
            refine wpAnyH_take (i := 1) (v := ?_) rfl (by kernel_rfl) (by kernel_rfl) (by kernel_rfl) (fun _ _ _ h => h) (Or.inl ⟨by rfl, ?_⟩) hS ?_
            rotate_left
            · (intro wq hSw; (try dsimp only at hSw); go_simp; try with_reducible rfl)
            try simp only [Act.put, List.getElem_toArray, List.getElem_cons_zero, List.getElem_cons_succ, List.setIfInBounds_toArray, List.set_cons_zero, List.set_cons_succ]
            refine wpAnyH_take (i := 2) (v := ?_) rfl (by kernel_rfl) (by kernel_rfl) (by kernel_rfl) (fun _ _ _ h => h) (Or.inl ⟨by rfl, ?_⟩) hS ?_
            rotate_left
            · (intro wq hSw; (try dsimp only at hSw); go_simp; try with_reducible rfl)
            try simp only [Act.put, List.getElem_toArray, List.getElem_cons_zero, List.getElem_cons_succ, List.setIfInBounds_toArray, List.set_cons_zero, List.set_cons_succ]
            refine wpAnyH_take (i := 3) (v := ?_) rfl (by kernel_rfl) (by kernel_rfl) (by kernel_rfl) (fun _ _ _ h => h) (Or.inl ⟨by rfl, ?_⟩) hS ?_
            rotate_left
            · (intro wq hSw; (try dsimp only at hSw); go_simp; try with_reducible rfl)
            try simp only [Act.put, List.getElem_toArray, List.getElem_cons_zero, List.getElem_cons_succ, List.setIfInBounds_toArray, List.set_cons_zero, List.set_cons_succ]
            refine wpAnyH_take (i := 4) (v := ?_) rfl (by kernel_rfl) (by kernel_rfl) (by kernel_rfl) (fun _ _ _ h => h) (Or.inl ⟨by rfl, ?_⟩) hS ?_
            rotate_left
            · (intro wq hSw; (try dsimp only at hSw); go_simp; try with_reducible rfl)
            try simp only [Act.put, List.getElem_toArray, List.getElem_cons_zero, List.getElem_cons_succ, List.setIfInBounds_toArray, List.set_cons_zero, List.set_cons_succ]
            refine wpAnyH_take (i := 5) (v := ?_) rfl (by kernel_rfl) (by kernel_rfl) (by kernel_rfl) (fun _ _ _ h => h) (Or.inl ⟨by rfl, ?_⟩) hS ?_
            rotate_left
            · (intro wq hSw; (try dsimp only at hSw); go_simp; try with_reducible rfl)
            try simp only [Act.put, List.getElem_toArray, List.getElem_cons_zero, List.getElem_cons_succ, List.setIfInBounds_toArray, List.set_cons_zero, List.set_cons_succ]
            refine wpAnyH_take (i := 6) (v := ?_) rfl (by kernel_rfl) (by kernel_rfl) (by kernel_rfl) (fun _ _ _ h => h) (Or.inl ⟨by rfl, ?_⟩) hS ?_
            rotate_left
            · (intro wq hSw; (try dsimp only at hSw); go_simp; try with_reducible rfl)
            try simp only [Act.put, List.getElem_toArray, List.getElem_cons_zero, List.getElem_cons_succ, List.setIfInBounds_toArray, List.set_cons_zero, List.set_cons_succ]
            refine wpAnyH_take (i := 7) (v := ?_) rfl (by kernel_rfl) (by kernel_rfl) (by kernel_rfl) (fun _ _ _ h => h) (Or.inl ⟨by rfl, ?_⟩) hS ?_
            rotate_left
            · (intro wq hSw; (try dsimp only at hSw); go_simp; try with_reducible rfl)
            try simp only [Act.put, List.getElem_toArray, List.getElem_cons_zero, List.getElem_cons_succ, List.setIfInBounds_toArray, List.set_cons_zero, List.set_cons_succ]
            refine wpAnyH_take (i := 8) (v := ?_) rfl (by kernel_rfl) (by kernel_rfl) (by kernel_rfl) (fun _ _ _ h => h) (Or.inl ⟨by rfl, ?_⟩) hS ?_
            rotate_left
            · (intro wq hSw; (try dsimp only at hSw); go_simp; try with_reducible rfl)
            try simp only [Act.put, List.getElem_toArray, List.getElem_cons_zero, List.getElem_cons_succ, List.setIfInBounds_toArray, List.set_cons_zero, List.set_cons_succ]
            refine wpAnyH_take (i := 9) (v := ?_) rfl (by kernel_rfl) (by kernel_rfl) (by kernel_rfl) (fun _ _ _ h => h) (Or.inl ⟨by rfl, ?_⟩) hS ?_
            rotate_left
            · (intro wq hSw; (try dsimp only at hSw); go_simp; try with_reducible rfl)
            try simp only [Act.put, List.getElem_toArray, List.getElem_cons_zero, List.getElem_cons_succ, List.setIfInBounds_toArray, List.set_cons_zero, List.set_cons_succ]
            refine wpAnyH_take (i := 10) (v := ?_) rfl (by kernel_rfl) (by kernel_rfl) (by kernel_rfl) (fun _ _ _ h => h) (Or.inl ⟨by rfl, ?_⟩) hS ?_
            rotate_left
            · (intro wq hSw; (try dsimp only at hSw); go_simp; try with_reducible rfl)
            try simp only [Act.put, List.getElem_toArray, List.getElem_cons_zero, List.getElem_cons_succ, List.setIfInBounds_toArray, List.set_cons_zero, List.set_cons_succ]
            refine wpAnyH_take (i := 11) (v := ?_) rfl (by kernel_rfl) (by kernel_rfl) (by kernel_rfl) (fun _ _ _ h => h) (Or.inl ⟨by rfl, ?_⟩) hS ?_
            rotate_left
            · (intro wq hSw; (try dsimp only at hSw); go_simp; try with_reducible rfl)
            try simp only [Act.put, List.getElem_toArray, List.getElem_cons_zero, List.getElem_cons_succ, List.setIfInBounds_toArray, List.set_cons_zero, List.set_cons_succ]
            refine wpAnyH_take (i := 12) (v := ?_) rfl (by kernel_rfl) (by kernel_rfl) (by kernel_rfl) (fun _ _ _ h => h) (Or.inl ⟨by rfl, ?_⟩) hS ?_
            rotate_left
            · (intro wq hSw; (try dsimp only at hSw); go_simp; try with_reducible rfl)
            try simp only [Act.put, List.getElem_toArray, List.getElem_cons_zero, List.getElem_cons_succ, List.setIfInBounds_toArray, List.set_cons_zero, List.set_cons_succ]
            refine wpAnyH_take (i := 13) (v := ?_) rfl (by kernel_rfl) (by kernel_rfl) (by kernel_rfl) (fun _ _ _ h => h) (Or.inl ⟨by rfl, ?_⟩) hS ?_
            rotate_left
            · (intro wq hSw; (try dsimp only at hSw); go_simp; try with_reducible rfl)
            try simp only [Act.put, List.getElem_toArray, List.getElem_cons_zero, List.getElem_cons_succ, List.setIfInBounds_toArray, List.set_cons_zero, List.set_cons_succ]
            refine wpAnyH_take (i := 14) (v := ?_) rfl (by kernel_rfl) (by kernel_rfl) (by kernel_rfl) (fun _ _ _ h => h) (Or.inl ⟨by rfl, ?_⟩) hS ?_
            rotate_left
            · (intro wq hSw; (try dsimp only at hSw); go_simp; try with_reducible rfl)
            try simp only [Act.put, List.getElem_toArray, List.getElem_cons_zero, List.getElem_cons_succ, List.setIfInBounds_toArray, List.set_cons_zero, List.set_cons_succ]
            refine wpAnyH_done (by kernel_rfl) ?_ _
            refine normQ_out ?_
            have HT5 : Hid (TuI w3 gb (w.heap.size + 1) k (.slice (some ⟨bb, 0, none⟩) k cap) (.slice (some ⟨ob, 0, none⟩) L.length L.length) (.slice oa O.length oc) (.slice (some ⟨sb, 0, none⟩) k sc) (es0 ++ (EL.take (j + 1)).map (fun b => (a, b))) (upd pv b (.slice xa4 (np + 1) xc4)) kv (Cf.bks (fun x => O.idxOf x) (es0 ++ (EL.take (j + 1)).map (fun b => (a, b)))) W4.drew) := by
              rw [HTK.out, List.map_append, List.map_singleton, ← List.append_assoc, Cf.bks_no _ _ (by rw [HIB.out, HIA.out]; exact hle)]
              exact HT4.out.below (Below.drew (Below.refl _ _))
            have HVE5 := hid (Kit.owns_below HVE4.out (Below.drew (Below.refl W4.heap.size W4)) (Nat.le_refl _))
            have HK5 : Hid (KeepsOthers W W4.drew) := HK4.out.trans (KeepsOthers.drew _)
            obtain ⟨W5, hW5⟩ : ∃ X, X = W4.drew := ⟨_, rfl⟩
            have hz5 : W.heap.size ≤ W4.drew.heap.size := HK5.out.size
            rw [← hW5] at HT5 HVE5 HK5 hz5 ⊢
            clear hW5 hS x5 s3 sb1 sa1 HT4 HVE4 HK4
            gi_wp2
            go_roundw
            case rel => exact ⟨j + 1, _, _, by go_num, by omega, HT5, HVE5, HA4, HK5, hz5⟩
            case measure => simp [intOf]; omega)
      · obtain rfl : j = nE := by omega
        have HT5 : Hid (TuI w3 gb (w.heap.size + 1) k (.slice (some ⟨bb, 0, none⟩) k cap) (.slice (some ⟨ob, 0, none⟩) L.length L.length) (.slice oa O.length oc) sv (Cf.evs (fun a => Cf.rise (edg L B cl a)) ((pre ++ [(⟨(i, a), hx⟩ : Tx O)]).map (fun x : Tx O => x.1.2))) pv kv (Cf.bks (fun x => O.idxOf x) (Cf.evs (fun a => Cf.rise (edg L B cl a)) ((pre ++ [(⟨(i, a), hx⟩ : Tx O)]).map (fun x : Tx O => x.1.2)))) wr) := by
          rw [HEV.out]
          have := HT.out
          rw [List.take_of_length_le (by rw [HNE.out]; omega)] at this
          exact this
        have HKs : Hid (Ks (fun i => i < w3.heap.size ∧ i ≠ gb ∧ i ≠ w.heap.size + 1) W wr) := ⟨hzr, fun q hq => (HT.out.ch.block q hq.1 (by rintro (e | e); exact hq.2.1 e; exact hq.2.2 e)).trans (HCW.out.block q hq.1 (by rintro (e | e); exact hq.2.1 e; exact hq.2.2 e)).symm⟩
        gi_wp2
        exact ⟨HK.out.from _, HKs.out, _, _, HT5⟩
  case done =>
    rintro D ys W hD rfl ⟨pv, kv, HT⟩ hDf
    have HEQ : Hid (Cf.evs (fun a => Cf.rise (edg L B cl a)) ((told O O.length).map (fun x : Tx O => x.1.2)) = Cf.evs (fun a => Cf.rise (edg L B cl a)) O) := by
      show _ = _
      rw [told_map O O.length (Nat.le_refl _), List.take_length]
    rw [HEQ.out] at HT
    have HS0 : Hid (SoI w3 gb (w.heap.size + 1) k (.slice (some ⟨bb, 0, none⟩) k cap) (.slice (some ⟨ob, 0, none⟩) L.length L.length) (.slice oa O.length oc) sv pv kv (Cf.bks (fun x => O.idxOf x) (Cf.evs (fun a => Cf.rise (edg L B cl a)) O)) W) := HT.out.so (fun x => Nat.le_trans (Cf.psN_evs (fun a => (Cf.rise_lt _).imp (fun h => by omega)) x O) hOL)
    have HDf := hid hDf
    have HK0 : Hid (KeepsOthers W W) := KeepsOthers.refl W
    clear HT HEQ hDf hit
    have x0 : W.cell? ⟨w.heap.size, 0, none⟩ = some (.pointer (some ⟨gb, 0, none⟩)) := (HS0.out.ch.cell (p := ⟨w.heap.size, 0, none⟩) (by show w.heap.size < w3.heap.size; omega) (by rintro (e | e) <;> (simp only at e; omega))).trans (bx3.cell 0)
    have g4 : W.cell? ⟨gb, 4, none⟩ = some (.slice (some ⟨w.heap.size + 1, 0, none⟩) k k) := HS0.out.box.cell 4
    dsimp only
    go_wp2
    go_loopw [76] (fun v wr => ∃ (i : Nat), v = .int .i64 (i : Int) ∧ i ≤ k ∧ Hid (SoI w3 gb (w.heap.size + 1) k (.slice (some ⟨bb, 0, none⟩) k cap) (.slice (some ⟨ob, 0, none⟩) L.length L.length) (.slice oa O.length oc) sv pv kv (Cf.bks (fun x => O.idxOf x) (Cf.evs (fun a => Cf.rise (edg L B cl a)) O)) wr) ∧ Hid (KeepsOthers W wr)) (fun v _ => k - (intOf v).toNat)
    case atStart => exact ⟨0, rfl, by omega, HS0, HK0⟩
    case round =>
      clear HS0 HK0 x0 g4
      obtain ⟨i, rfl, hik, HS0, HK0⟩ := hrel
      by_cases hlt : i < k
      · obtain ⟨l0, hl0, h0⟩ := HS0.out.ro i hlt
        have hp0 := (HS0.out.pr.cell i).trans (show ((List.range k).map pv).toArray[i]? = some (pv i) by simp [List.getElem?_range hlt])
        obtain ⟨pa, pc, hpv⟩ := own_form h0
        have HSrt := hid (sort_any h0 (by omega))
        rw [hpv] at HSrt hp0
        obtain ⟨nl, hnl⟩ : ∃ n, l0.length = n := ⟨_, rfl⟩
        rw [hnl] at HSrt hp0 hpv
        have HNL := hid hnl
        have HPV := hid hpv
        clear h0 hpv hnl
        go_wp2_with (go_at_call 32; go_loud (refine HSrt.out.mono ?_; rintro e w5 ⟨rfl, h5⟩; rw [← HPV.out] at h5; obtain ⟨h6, h7⟩ := HS0.out.sort hlt (by rw [Cf.srt_len]; exact hl0) h5; have H6 := hid h6; have H7 := hid (HK0.out.trans h7); clear h5 h6 h7))
        go_roundw
        case rel => exact ⟨i + 1, by go_num, by omega, H6, H7⟩
        case measure => simp [intOf]; omega
      · obtain rfl : i = k := by omega
        go_wp2
        have hDf2 := HK0.out.same D _ HDf.out rfl
        refine ⟨by simp, .inl ⟨_, _, rfl, run_takeDeferred hDf2, ?_⟩⟩
        have hg := grownBy_putObj' wr D (.deferred none)
        have hr : ∀ r, some D = some r → ∃ o : Obj, wr.heap[r]? = some o ∧ o.isCells = false := fun r e => by
          cases e
          exact ⟨_, hDf2, rfl⟩
        have hcZ : Chg (fun j => j = gb) w (wr.putObj D (.deferred none)) := hc3.trans (HS0.out.ch.grown hg (fun r e => by cases e; exact .inr hD)) (fun j e => by
          rcases e with e | e
          · exact .inl e
          · exact .inr (by omega))
        refine ⟨.tuple #[], results_none rfl _ _ _, rfl, hcZ.to_below (fun j e => e ▸ HH.out.lo) (by have := HH.out.lo; omega), .slice (some ⟨w.heap.size + 1, 0, none⟩) i i, kv, bx_non HS0.out.box hg hr, ?_, ?_, fun x hx => ?_, fun x hx => ?_, ?_, Kit.owns_mono (chg_non HS0.out.bk hg hr) (by have := HH.out.lo; omega), HH.out.lo⟩
        · exact owns_chg HH.out.bl hcZ (fun j e e2 => own_unlike_box HH.out.bl HH.out.box (by decide) (e2 ▸ e))
        · exact owns_chg HH.out.of hcZ (fun j e e2 => own_unlike_box HH.out.of HH.out.box (by decide) (e2 ▸ e))
        · exact owns_chg (HH.out.nx x hx) hcZ (fun j e e2 => own_unlike_box (HH.out.nx x hx) HH.out.box (by decide) (e2 ▸ e))
        · exact owns_chg (HH.out.ca x hx) hcZ (fun j e e2 => own_unlike_box (HH.out.ca x hx) HH.out.box (by decide) (e2 ▸ e))
        · exact owns_chg HH.out.ord hcZ (fun j e e2 => own_unlike_box HH.out.ord HH.out.box (by decide) (e2 ▸ e))
  case stop =>
    rintro D c' pre W hD - hX hK
    exact hX.elim
end
end Go.Proofs.Ytdodobpbdnpjiaa
namespace Go.Proofs.Ytdodobpbdnpjiaa
open Go Go.RowKit
open Kit (natVals)
open Cf (Op5 Ca opL caL)
/-- A method's graph, as New leaves it. -/
def NewP (w w' : World) (gb : Nat) (L : List Op5) (C : List Ca) : Prop :=
  ∃ base bb cap ob nv cv cl ov sv pv kv, w.heap.size ≤ base ∧
    GT w' base gb bb cap ob L (Cf.Bg L C) (Cf.cnt (Cf.Bg L C) L.length) nv cv cl (Cf.ord (edg L (Cf.Bg L C) cl) (Cf.cnt (Cf.Bg L C) L.length)) ov sv pv kv
      (Cf.bks (fun x => (Cf.ord (edg L (Cf.Bg L C) cl) (Cf.cnt (Cf.Bg L C) L.length)).idxOf x) (Cf.evs (fun a => Cf.rise (edg L (Cf.Bg L C) cl a)) (Cf.ord (edg L (Cf.Bg L C) cl) (Cf.cnt (Cf.Bg L C) L.length)))) ∧
    (∀ x, x < Cf.cnt (Cf.Bg L C) L.length → ∀ t ∈ edg L (Cf.Bg L C) cl x, t < Cf.cnt (Cf.Bg L C) L.length) ∧ (∀ x, x < Cf.cnt (Cf.Bg L C) L.length → (cl x).length ≤ C.length) ∧ Below w.heap.size w w'
set_option maxRecDepth 100000
set_option maxHeartbeats 800000
theorem New_any {w : World} {f : Fc} {L : List Op5} {C : List Ca} (hO : OpS w f.ov L) (hC : CaS w f.cv C) (hn : L.length ≤ 1048576) (hm : C.length ≤ 1048576) (h0 : 0 < L.length) :
    Calls Try.prog 6 #[.agg f.cs] w fun e w' => ∃ gb, e = .returned (.pointer (some ⟨gb, 0, none⟩)) ∧ NewP w w' gb L C := by
  have hB0 : Cf.Bg L C 0 = true := Cf.Bg_zero h0
  have HKp := hid (Cf.cnt_pos hB0 h0)
  have HKn := hid (Cf.cnt_le (Cf.Bg L C) L.length)
  have HBz := hid hB0
  clear hB0
  obtain ⟨oa, ocap, hov⟩ := hO.form
  obtain ⟨ca, ccap, hcv⟩ := Kit.IsS.len hC
  obtain ⟨a0, a1, a2, a3, a4, a5, a6, a7, a8, ov, cv, a11⟩ := f
  dsimp only [Fc.cs] at *
  subst hov
  subst hcv
  have hb1 : Below w.heap.size w (w.alloc (.cells #[a0, a1, a2, a3, a4, a5, a6, a7, a8, .slice oa L.length ocap, .slice ca C.length ccap, a11] 28)) := (Below.refl _ _).alloc (Nat.le_refl _) _
  have bf1 := BX.new w #[a0, a1, a2, a3, a4, a5, a6, a7, a8, .slice oa L.length ocap, .slice ca C.length ccap, a11] 28
  have HBA := hid (byAddress_any (hO.below hb1) hn)
  have HC1 := hid (hC.below hb1)
  have HF1 := hid bf1
  have HB1 := hid hb1
  have hz1 : (w.alloc (.cells #[a0, a1, a2, a3, a4, a5, a6, a7, a8, .slice oa L.length ocap, .slice ca C.length ccap, a11] 28)).heap.size = w.heap.size + 1 := by simp
  have x9 := bf1.cell 9
  rw [hz1] at HBA
  clear hO hC hb1 bf1
  go_enter Try.func6, Try.ntmps6
  go_upto_region 3 with (go_at_call 20; go_loud (refine HBA.out.mono ?_; rintro e w2 ⟨rfl, P, pv, hcode, hpl, hb2⟩; have HCode := hid hcode; have HPl := hid hpl; have HB2 := hid hb2; clear hcode hpl hb2))
  refine region_named fun w3 hw3 => ?_
  have hb3 : Below w2.heap.size w2 w3 := by rw [hw3]; exact (Below.refl _ _).alloc (Nat.le_refl _) _
  have bg3 : BX w3 w2.heap.size #[Nil, Nil, Nil, Nil, Nil, Nil] 56 := by rw [hw3]; exact BX.new w2 _ _
  have hs3 : w3.heap.size = w2.heap.size + 1 := by rw [hw3]; simp
  clear hw3 x9
  have hz2 := HB2.out.size
  have hCode2 := HCode.out
  have hC2 : CaS w2 (.slice ca C.length ccap) C := HC1.out.below (hz1 ▸ HB2.out)
  have hF2 : BX w2 w.heap.size #[a0, a1, a2, a3, a4, a5, a6, a7, a8, .slice oa L.length ocap, .slice ca C.length ccap, a11] 28 := HF1.out.below (hz1 ▸ HB2.out)
  have HLow := hid (fun X (hX : Below w2.heap.size w2 X) => (⟨hCode2.below hX, hC2.below hX⟩ : Code X _ _ _ L P ∧ CaS X _ C))
  have hbw2 : Below w.heap.size w w2 := belows HB1.out (hz1 ▸ HB2.out) HB1.out.size
  have HF := hid (find_any (cb := w.heap.size + 1 + 2) (ov := .slice oa L.length ocap) (pv := pv) HPl.out hn)
  have HBG := hid (begins_any HF.out (hCode2.below hb3) (hC2.below hb3) hn hm)
  have x10 : w3.cell? ⟨w.heap.size, 10, none⟩ = some (.slice ca C.length ccap) := (hF2.below hb3).cell 10
  have HF2 := hid hF2
  have HG3 := hid bg3
  have HB3 := hid hb3
  have HBW2 := hid hbw2
  have HZ1 := hid hz1
  have HS3 := hid hs3
  clear hCode2 hC2 hF2 hz1 hbw2 bg3 hb3 hz2 hs3
  go_upto_region 4 with (first | (go_at_call 22; go_loud (refine HBG.out.mono ?_; rintro e w4 ⟨rfl, h4⟩; have HCut := hid (cut_any (HG3.out.below h4.2.1) (Kit.owns_mono h4.1 (by have := HS3.out; omega)) (Nat.le_refl _) hn (fun _ => HBz.out)); have H4 := hid h4; clear h4)) | (go_at_call 21; go_loud (refine HCut.out.mono ?_; rintro e w5 ⟨rfl, ob, bv, h5⟩; have H5 := hid h5; clear h5)))
  refine region_named fun W5 hW5 => ?_
  have H5 : Hid (CuI _ _ _ _ _ _ _ _ _ W5) := hW5 ▸ H5
  clear hW5
  have HK1 : Hid (∀ i, i < L.length → Cf.ofB (Cf.Bg L C) i < Cf.cnt (Cf.Bg L C) L.length) := fun i hi => Cf.ofB_lt HBz.out hi
  obtain ⟨k, hkk⟩ : ∃ k, k = Cf.cnt (Cf.Bg L C) L.length := ⟨_, rfl⟩
  have HKE := hid hkk
  obtain ⟨bb, cap, hbv, -⟩ := H5.out.gw.pos HKp.out
  rw [← hkk] at hbv HK1
  have hb25 : Below w2.heap.size w2 W5 := (belows HB3.out H4.out.2.1 HB3.out.size).trans H5.out.bel
  have HGo : Hid (GoI W5 w2.heap.size w2.heap.size bb cap ob L (Cf.Bg L C) k 0 (fun _ => Nil) W5) := by
    have hg := H5.out.gw
    rw [hbv, ← hkk] at hg
    refine ⟨⟨hg.box, hg.bl, ?_, hg.lo⟩, fun x hx => ?_, fun _ _ => rfl, Below.refl _ _, Nat.le_refl _⟩
    · have := hg.of
      rw [ivals_same (g := Cf.ofN (Cf.Bg L C)) (fun i hi => by unfold Cf.ofI; rw [if_pos hi]; rfl)] at this
      exact this
    · rw [if_neg (Nat.not_lt_zero x)]
      exact ⟨rfl, .inl ⟨rfl, rfl⟩⟩
  have hs5 : w2.heap.size ≤ W5.heap.size := hb25.size
  have HGO := hid (goOn_any HF.out HGo.out (HLow.out _ hb25).1 (fun X hX => (HLow.out X (hb25.trans hX)).1) hs5 hn hkk (fun _ => HBz.out))
  have HB25 := hid hb25
  clear hkk hbv hb25 hs5 x10 HBG HBA HCut
  have HKN : Hid (k ≤ 1048576) := by rw [HKE.out]; exact Nat.le_trans HKn.out hn
  go_upto_region 5 with (go_at_call 23; go_loud (refine HGO.out.mono ?_; rintro e w6 ⟨rfl, nv, h6⟩; have H6 := hid h6; clear h6))
  have hb26 : Below w2.heap.size w2 w6 := HB25.out.trans H6.out.bel
  have hs6 : w2.heap.size ≤ w6.heap.size := hb26.size
  have HCA := hid (catch_any HPl.out H6.out (fun X hX => HLow.out X (hb26.trans hX)) hs6 hn hm HK1.out)
  have x10 : w6.cell? ⟨w.heap.size, 10, none⟩ = some (.slice ca C.length ccap) := (HF2.out.below hb26).cell 10
  have HB26 := hid hb26
  clear hb26 hs6 HGO
  go_upto_region 6 with (go_at_call 24; go_loud (refine HCA.out.mono ?_; rintro e w7 ⟨rfl, hb7, cv, cl, h7, h7l⟩; have H7 := hid h7; have H7l := hid h7l; have HB7 := hid hb7; clear h7 h7l hb7))
  clear x10 HCA
  have HE : Hid (∀ b, b < k → ∀ t ∈ edg L (Cf.Bg L C) cl b, t < k) := fun b hb t ht => by
    rcases List.mem_append.1 ht with h | h
    · unfold Cf.nxs at h
      obtain ⟨j, hj, rfl⟩ := List.mem_map.1 h
      exact HK1.out j (Cf.nexts_lt hj)
    · exact H7.out.lt b hb t h
  have HLc : Hid (∀ b, b < k → (cl b).length ≤ 1048576) := fun b hb => Nat.le_trans (H7l.out b hb) hm
  have HOrd := hid (Cf.ord_ok HE.out)
  have HWk := hid (walk_any H7.out HE.out HLc.out HKN.out)
  go_upto_region 7 with (go_at_call 25; go_loud (refine HWk.out.mono ?_; rintro e w8 ⟨rfl, hb8, ov, sv, cur, h8⟩; have H8 := hid h8; have HB8 := hid hb8; clear h8 hb8))
  clear HWk
  have HTu := hid (turn_any H8.out HOrd.out.2.1 HOrd.out.2.2.2.1 HLc.out HKN.out (by
    have h1 := Cf.len_le HOrd.out.1 (b := List.range k) (fun x hx => List.mem_range.2 (HOrd.out.2.1 x hx))
    rw [List.length_range] at h1
    exact Nat.le_trans h1 HKN.out))
  go_wp2_with (go_at_call 26; go_loud (refine HTu.out.mono ?_; rintro e w9 ⟨rfl, hb9, pv9, kv, h9⟩; have H9 := hid h9; have HB9 := hid hb9; clear h9 hb9))
  clear HTu
  go_ret
  have hfin : Below w.heap.size w w9 := HBW2.out.trans ((((HB26.out.trans HB7.out).trans HB8.out).trans HB9.out).mono HBW2.out.size)
  refine ⟨_, rfl, w2.heap.size, bb, cap, ob, nv, cv, cl, ov, sv, pv9, kv, HBW2.out.size, ?_, ?_, ?_, hfin⟩
  · rw [← HKE.out]
    exact H9.out
  · rw [← HKE.out]
    exact HE.out
  · rw [← HKE.out]
    exact H7l.out
end Go.Proofs.Ytdodobpbdnpjiaa

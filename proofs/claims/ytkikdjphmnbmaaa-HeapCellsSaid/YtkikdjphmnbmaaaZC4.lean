/- HeapCells is true for every list of sizes and every list of operations, without a condition. -/
import Derived.Test.YtkikdjphmnbmaaaZC3
namespace Go.Proofs.Ytkikdjphmnbmaaa
open Go Go.RowKit

theorem infoL : (Try.prog.info? 2).map (fun i => (i.zero, i.size, i.bytes)) = some (some (.int .i64 0), 1, 8) := by kernel_rfl
/-- Where the law stands: the heap, the map, the lengths. -/
structure CS (w0 : World) (hb mb : Nat) (ns ls : List Nat) (m : Nat) (f g : Int → Int → Int) (q : Value) (W : World) : Prop where
  H : ∃ H : HV, Rep W w0.heap.size H (⟨10000, Hp.arrs ns f⟩ : Hp.Hs).flat ∧ H.hb = hb
  wm : WM W mb m g
  own : W.ownsRow w0.heap.size 2 1 q ls.length (Kit.natVals ls)
  bel : Below w0.heap.size w0 W
  sz : w0.heap.size ≤ W.heap.size
  mlo : w0.heap.size ≤ mb
section
variable {w0 W W' : World} {hb mb m : Nat} {ns ls : List Nat} {f g : Int → Int → Int} {q : Value}
theorem CS.below (h : CS w0 hb mb ns ls m f g q W) (hb' : Below W.heap.size W W') : CS w0 hb mb ns ls m f g q W' := by
  obtain ⟨⟨H, h1, h2⟩, h3, h4, h5, h6, h7⟩ := h
  exact ⟨⟨H, h1.below hb', h2⟩, h3.below hb', Kit.owns_below h4 hb' (Nat.le_refl _), belows h5 hb' h6, Nat.le_trans h6 hb'.size, h7⟩
theorem CS.went (h : CS w0 hb mb ns ls m f g q W) {H H' : HV} {s : Hp.St} {ns' : List Nat} {f' : Int → Int → Int} (hR : Rep W w0.heap.size H s) (hH : H.hb = hb) (hw : Went W W' w0.heap.size H H' (⟨10000, Hp.arrs ns' f'⟩ : Hp.Hs).flat) : CS w0 hb mb ns' ls m f' g q W' := by
  obtain ⟨-, h3, h4, h5, h6, h7⟩ := h
  refine ⟨⟨H', hw.rep, hw.hb.trans hH⟩, h3.keep (hw.chg.block _ h3.lt (hR.off_map h3)), owns_chg h4 hw.chg (hR.off_i64 h4), h5.trans ((hw.low hR).mono (Nat.le_refl _)), Nat.le_trans h6 hw.chg.size, h7⟩
theorem CS.app (h : CS w0 hb mb ns ls m f g q W) {W1 : World} {q' : Value} {n : Nat} (hb1 : Below W.heap.size W W1) (hg : W1.grownBy W' q.ownBlock) (ho : W'.ownsRow w0.heap.size 2 1 q' (ls.length + 1) (Kit.natVals ls ++ [.int .i64 (n : Int)])) : CS w0 hb mb ns (ls ++ [n]) m f g q' W' := by
  have h1 := h.below hb1
  obtain ⟨⟨H, hR, hH⟩, h3, h4, h5, h6, h7⟩ := h1
  have hc := Chg.of_grown (S := fun i => q.ownBlock = some i) hg (fun _ e => e)
  refine ⟨⟨H, hR.chg hc (fun k e e2 => hR.off_i64 h4 k e2 e), hH⟩, h3.keep (hc.block _ h3.lt (own_map h4 h3)), ?_, h5.grown hg h6 (Kit.own_base h4), Nat.le_trans h6 hc.size, h7⟩
  rw [Kit.natVals_snoc, List.length_append]
  exact ho
theorem CS.upd (h : CS w0 hb mb ns ls m f g q W) {m' : Nat} {g' : Int → Int → Int} (hg : W.grownBy W' (some mb)) (hm : WM W' mb m' g') : CS w0 hb mb ns ls m' f g' q W' := by
  obtain ⟨⟨H, hR, hH⟩, h3, h4, h5, h6, h7⟩ := h
  have hc := Chg.of_grown (S := fun i => some mb = some i) hg (fun _ e => e)
  refine ⟨⟨H, hR.chg hc (fun k e e2 => hR.off_map h3 (by cases e2; exact e)), hH⟩, hm, owns_chg h4 hc (fun k e e2 => own_map h4 h3 (by cases e2; exact e)), h5.grown hg h6 (fun k e => by cases e; exact h7), Nat.le_trans h6 hc.size, h7⟩
end
theorem arrs_used : ∀ (ns : List Nat) (f : Int → Int → Int), (∀ n ∈ ns, n ≤ 40) → (⟨10000, Hp.arrs ns f⟩ : Hp.Hs).used ≤ ns.length * 41 := by
  intro ns f h
  have e : ((Hp.arrs ns f).map (·.vs)).flatten.length = ns.sum := by
    rw [List.length_flatten, List.map_map]
    congr 1
    apply List.ext_getElem?
    intro i
    simp only [List.getElem?_map, Hp.arrs, List.getElem?_mapIdx]
    cases ns[i]? <;> simp
  unfold Hp.Hs.used
  show (Hp.arrs ns f).length + _ ≤ _
  rw [e, Hp.arrs_len]
  clear e
  induction ns with
  | nil => simp
  | cons n ns ih =>
    have h1 := ih (fun x hx => h x (by simp [hx]))
    have h2 := h n (by simp)
    simp only [List.length_cons, List.sum_cons]
    omega
theorem arrs_ok {ns : List Nat} {f : Int → Int → Int} (h : ∀ n ∈ ns, n ≤ 40) (hl : ns.length ≤ 20) : (⟨10000, Hp.arrs ns f⟩ : Hp.Hs).Ok := by
  refine ⟨by show 10000 ≤ _; decide, ?_, fun t ht => ?_⟩
  · have := arrs_used ns f h
    show _ ≤ 10000
    omega
  · simp only [Hp.arrs, List.mem_mapIdx] at ht
    obtain ⟨i, hi, rfl⟩ := ht
    exact .inl ⟨rfl, rfl⟩
/-- Sizes that the law makes of what is handed in. -/
def nsOf (l : List Nat) : List Nat := (l.take 20).map (· % 40)
theorem nsOf_le (l : List Nat) : (nsOf l).length ≤ 20 ∧ ∀ n ∈ nsOf l, n ≤ 40 := by
  unfold nsOf
  refine ⟨by simp; omega, fun n hn => ?_⟩
  obtain ⟨x, -, rfl⟩ := List.mem_map.1 hn
  have := Nat.mod_lt x (show 0 < 40 by decide)
  omega
theorem arr_next {ns : List Nat} {n : Nat} (h : ∀ x ∈ ns, x ≤ 40) (hl : ns.length ≤ 19) (hn : n ≤ 40) : (⟨10000, Hp.arrs ns (fun _ _ => 0)⟩ : Hp.Hs).arr Hp.tJ n = (⟨10000, Hp.arrs (ns ++ [n]) (fun _ _ => 0)⟩, (ns.length : Int) + 1, 0) := by
  have hu := arrs_used ns (fun _ _ => 0) h
  have h1 : ¬ ((n : Int) < 0) := by omega
  have h2 : ¬ (65536 < (n : Int) ∨ ¬ ((n : Int) < ((⟨10000, Hp.arrs ns (fun _ _ => 0)⟩ : Hp.Hs).lim : Int) - (⟨10000, Hp.arrs ns (fun _ _ => 0)⟩ : Hp.Hs).used)) := by
    show ¬ (65536 < (n : Int) ∨ ¬ ((n : Int) < ((10000 : Nat) : Int) - _))
    omega
  unfold Hp.Hs.arr
  simp only [show zeroOf Hp.tJ = some ⟨2, 0⟩ from rfl, if_neg h1, if_neg h2, Int.toNat_natCast, Hp.arrs_snoc, Hp.arrs_len]
theorem nsOf_at {l : List Nat} {k x : Nat} (h : l[k]? = some x) (hk : k < 20) : (nsOf l)[k]? = some (x % 40) := by
  unfold nsOf
  rw [List.getElem?_map, List.getElem?_take_of_lt hk, h]
  rfl
theorem take_next {l : List Nat} {k x : Nat} (h : l[k]? = some x) : l.take (k + 1) = l.take k ++ [x] := by rw [List.take_add_one, h]; rfl
theorem ops_at {w W : World} {v : Value} {l : List Hp.Op} (h : OpsR w v l) (hb : Below w.heap.size w W) {k : Nat} {x : Hp.Op} (hk : l[k]? = some x) :
    ∃ b o cap ka kc, v = .slice (some ⟨b, o, none⟩) l.length cap ∧ b < w.heap.size ∧ ∀ j u, [Value.int .i64 x.f, .int .i64 x.c, .slice ka x.ts.length kc, .int .i64 x.el.k, .string x.el.s, .int .i64 x.ref, .int .i64 x.i, .int .i64 x.v.k, .int .i64 x.v.n][j]? = some u → W.cell? ⟨b, o + k * 9 + j, none⟩ = some u := by
  obtain ⟨rs, h1, h2, h3⟩ := h
  have hkl := (List.getElem?_eq_some_iff.1 hk).1
  obtain ⟨b, o, cap, rfl, hc, hlt, hx⟩ := h3.some (by omega)
  have hrk : rs[k]? = some (rs[k]'(by omega)) := List.getElem?_eq_getElem _
  obtain ⟨kv, hr, hks⟩ := h2 k _ x hrk hk
  obtain ⟨ka, kc, rfl⟩ := hks.len
  refine ⟨b, o, cap, ka, kc, rfl, hlt, fun j u hj => ?_⟩
  have hlen : ∀ r ∈ rs, r.length = 9 := fun r hr => by
    obtain ⟨i, hi⟩ := List.mem_iff_getElem?.1 hr
    have hil := (List.getElem?_eq_some_iff.1 hi).1
    obtain ⟨kv', e, -⟩ := h2 i r _ hi (List.getElem?_eq_getElem (by omega))
    rw [e]; rfl
  have hfl : ∀ (rs : List (List Value)), (∀ r ∈ rs, r.length = 9) → ∀ (k : Nat) (r : List Value), rs[k]? = some r → ∀ j u, r[j]? = some u → rs.flatten[k * 9 + j]? = some u := by
    intro rs
    induction rs with
    | nil => intro _ k r hr; simp at hr
    | cons r0 rs ih =>
      intro hl k r hr j u hu
      have h0 := hl r0 (by simp)
      match k, hr with
      | 0, hr =>
        simp at hr
        subst hr
        rw [List.flatten_cons, List.getElem?_append_left (by have := (List.getElem?_eq_some_iff.1 hu).1; omega)]
        simpa using hu
      | k + 1, hr =>
        rw [List.flatten_cons, List.getElem?_append_right (by omega), h0, show (k + 1) * 9 + j - 9 = k * 9 + j by omega]
        exact ih (fun r h => hl r (by simp [h])) k r (by simpa using hr) j u hu
  have h5 := hfl rs hlen k _ hrk j u (by rw [hr]; exact hj)
  have h6 := hx _ _ h5
  rw [← Nat.add_assoc] at h6
  exact (hb.cell (p := ⟨b, o + k * 9 + j, none⟩) hlt).trans h6
set_option maxRecDepth 100000 in
set_option maxHeartbeats 4000000 in
theorem cells_law (l : List Nat) (ops : List Hp.Op) (v u : Value) (w : World) (hv : Kit.IsS 1 w v l.length (u8L l)) (hs : ∀ x ∈ l, x ≤ 255) (hu : OpsR w u ops) (hg : ∀ x ∈ ops, GoodO x) :
    Calls Try.prog 4 #[v, u] w fun e w' => e = .returned (.bool true) ∧ Below w.heap.size w w' := by
  obtain ⟨i8, hi8, hz08, hz18, hz28⟩ := info_parts infoL
  have HVl := hid (fun W (h : Below w.heap.size w W) => hv.below h (Nat.le_refl _))
  have HS := hid hs
  have HU := hid hu
  have HG := hid hg
  have hvl := hv.2.1
  obtain ⟨va0, vcap, rfl⟩ := hv.len
  have hvc : l.length ≤ vcap := by
    rcases hv.2.2 with ⟨h0, -⟩ | ⟨b, o, cap, e, hc, -⟩
    · omega
    · obtain ⟨-, -, rfl⟩ := Value.slice.inj e
      exact hc
  obtain ⟨rs, hrl, hro, hrs⟩ := hu
  have hul := hrs.2.1
  obtain ⟨ua0, ucap, rfl⟩ := hrs.len
  clear hv hs hrl hro hrs hg
  go_enter Try.func4, Try.ntmps4
  go_wp2_with fail
  refine (New_any w.heap.size 10000 w (Nat.le_refl _) (by omega)).mono ?_
  rintro e w1 ⟨H, rfl, hR, hb1, -⟩
  rw [← flat_new] at hR
  go_wp2_with fail
  refine (begun_any w1).mono ?_
  rintro e w2 ⟨rfl, hb2⟩
  have hR2 := hid (hR.below hb2)
  have B2 : Below w.heap.size w w2 := belows hb1 hb2 hb1.size
  have hz2 := B2.size
  clear hR hb1 hb2
  obtain ⟨hb, hhb⟩ : ∃ hb, hb = H.hb := ⟨_, rfl⟩
  rw [← hhb]
  have HC := hid (show CS w hb w2.heap.size [] [] 0 (fun _ _ => 0) (fun _ _ => 0) (.slice none 0 0) (w2.alloc (.map #[] 0)) from
    ⟨⟨H, hR2.out.alloc _, hhb.symm⟩, WM.new w2, World.ownsRow_nil _ _ _ _, B2.alloc hz2 _, by simp; omega, hz2⟩)
  clear hhb
  have hmm := @run_makeMap Try.prog
  by_cases h20 : l.length ≤ 20
  · have hm : (nsOf l).length = l.length := by unfold nsOf; simp; omega
    by_cases h00 : l.length ≤ 0
    · skip
      go_wp2
      go_loopw [8, 43] (fun q i wr => ∃ k : Nat, k ≤ l.length ∧ i = .int .i64 (k : Int) ∧ Hid (CS w hb w2.heap.size ((nsOf l).take k) ((nsOf l).take k) 0 (fun _ _ => 0) (fun _ _ => 0) q wr)) (fun _ i _ => l.length - (intOf i).toNat)
      case atStart => exact ⟨0, by omega, rfl, HC⟩
      case round =>
        obtain ⟨k, hk, rfl, HCk⟩ := hrel
        have hlk : ((nsOf l).take k).length = k := by rw [List.length_take, hm]; omega
        have ho := HCk.out.own
        rw [hlk] at ho
        obtain ⟨qa, qc, rfl⟩ := own_form ho
        have HO := hid (fun X (b : Below wr.heap.size wr X) => Kit.owns_below ho b (Nat.le_refl _))
        have hws := HCk.out.sz
        by_cases hlt : k < l.length
        · exfalso; omega
        · obtain rfl : k = l.length := by omega
          have htk : (nsOf l).take l.length = nsOf l := List.take_of_length_le (by omega)
          rw [htk] at HCk
          obtain ⟨NS, hNS⟩ : ∃ NS, NS = nsOf l := ⟨_, rfl⟩
          have hNl := nsOf_le l
          rw [← hNS] at HCk hm hNl
          have HNS := hid hNl
          have HM := hid hm
          clear htk hNS hNl HO ho hlk hm
          skip
          go_wp2
          go_loopw [74] (fun i wr => ∃ (k m : Nat) (f : Int → Int → Int), k ≤ ops.length ∧ i = .int .i64 (k : Int) ∧ m ≤ k ∧ Hid (∀ a b, I8 (f a b)) ∧ Hid (CS w hb w2.heap.size NS NS m f f (.slice qa l.length qc) wr)) (fun i _ => ops.length - (intOf i).toNat)
          case atStart => exact ⟨0, 0, fun _ _ => 0, by omega, rfl, by omega, fun _ _ => (show I8 0 by unfold I8; omega), HCk⟩
          case round =>
            clear HCk
            obtain ⟨k, m, f, hk, rfl, hmk, Hf, HCk2⟩ := hrel
            have hws2 := HCk2.out.sz
            by_cases hlt : k < ops.length
            · obtain ⟨x, hx⟩ : ∃ x, ops[k]? = some x := ⟨_, List.getElem?_eq_getElem hlt⟩
              have hgx := HG.out x (List.mem_of_getElem? hx)
              obtain ⟨b, o, cap, ka, kc, hsl, hbl2, hxx⟩ := ops_at HU.out HCk2.out.bel hx
              obtain ⟨rfl, -, rfl⟩ := Value.slice.inj hsl
              have y0 := hxx 0 _ rfl
              have y1 := hxx 1 _ rfl
              have y2 := hxx 2 _ rfl
              have y3 := hxx 3 _ rfl
              have y4 := hxx 4 _ rfl
              have y5 := hxx 5 _ rfl
              have y6 := hxx 6 _ rfl
              have y7 := hxx 7 _ rfl
              have y8 := hxx 8 _ rfl
              rw [Nat.add_zero] at y0
              obtain ⟨H3, hR, hH⟩ := HCk2.out.H
              have hSt := fun X (b : Below wr.heap.size wr X) => Store_any (hR.below b) (arrs_ok HNS.out.2 HNS.out.1) x.ref x.i ⟨2, x.v.n⟩ hgx.ref
              rw [hH] at hSt
              have HR := hid hR
              have HH := hid hH
              have hri := hgx.ref
              have hii := hgx.i
              have hni := hgx.n
              have HGx := hid hgx
              clear hsl hxx hx hR hH hgx
              by_cases c1 : 1 ≤ x.ref
              · obtain ⟨r, hr⟩ : ∃ r : Nat, x.ref = (r : Int) + 1 := ⟨(x.ref - 1).toNat, by omega⟩
                by_cases c2 : x.ref ≤ (l.length : Nat)
                · exfalso; omega
                · have e2 := (Hp.el_ref (s := ⟨10000, Hp.arrs NS f⟩) (ref := x.ref) (i := x.i) (v := ⟨2, x.v.n⟩) (fun t ht => by have h9 := (thing_at ht).2.1; rw [show (⟨10000, Hp.arrs NS f⟩ : Hp.Hs).l.length = NS.length from Hp.arrs_len NS f] at h9; have := HM.out; omega)).2
                  rw [e2] at hSt
                  unfold vA at hSt
                  have HSt := hid hSt
                  have d1 : decide (1 ≤ x.ref) = true := by simpa using c1
                  have d2 : decide (x.ref ≤ (l.length : Int)) = false := by simpa using c2
                  clear e2 hSt hr
                  go_wp2_with fail
                  refine (HSt.out _ (by repeat' first | with_reducible exact Below.refl _ _ | with_reducible assumption | with_reducible refine belows_drewN ?_ _ | with_reducible refine Below.drew ?_ | with_reducible refine Below.setCell ?_ ?_ _ | with_reducible refine Below.alloc ?_ ?_ _ | omega | (simp; done) | (simp; omega))).mono ?_
                  rintro e w3 ⟨rfl, hW3⟩
                  have HC3 := hid ((HCk2.out.below ((Below.refl _ _).alloc (Nat.le_refl _) (.cells #[.int .i64 x.f, .int .i64 x.c, .slice ka x.ts.length kc, .int .i64 x.el.k, .string x.el.s, .int .i64 x.ref, .int .i64 x.i, .int .i64 x.v.k, .int .i64 x.v.n] 37))).went (HR.out.alloc _) HH.out hW3)
                  have bx := (BX.new wr #[.int .i64 x.f, .int .i64 x.c, .slice ka x.ts.length kc, .int .i64 x.el.k, .string x.el.s, .int .i64 x.ref, .int .i64 x.i, .int .i64 x.v.k, .int .i64 x.v.n] 37).chg hW3.chg (fun e => by have := (HR.out.low _ e).2; omega)
                  have p5 : w3.cell? ⟨wr.heap.size, 5, none⟩ = some (.int .i64 x.ref) := bx.cell 5
                  have p6 : w3.cell? ⟨wr.heap.size, 6, none⟩ = some (.int .i64 x.i) := bx.cell 6
                  have p8 : w3.cell? ⟨wr.heap.size, 8, none⟩ = some (.int .i64 x.v.n) := bx.cell 8
                  have hbz := bx.sz
                  clear bx hW3
                  go_wp2
                  go_quiet (fail)
                  go_wp2
                  go_roundw
                  case rel => exact ⟨k + 1, m, f, by omega, by go_num, by omega, Hf, HC3.out.below (by repeat' first | with_reducible exact Below.refl _ _ | with_reducible assumption | with_reducible refine belows_drewN ?_ _ | with_reducible refine Below.drew ?_ | with_reducible refine Below.setCell ?_ ?_ _ | with_reducible refine Below.alloc ?_ ?_ _ | omega | (simp; done) | (simp; omega))⟩
                  case measure => simp [intOf] <;> omega
              · have e2 := (Hp.el_ref (s := ⟨10000, Hp.arrs NS f⟩) (ref := x.ref) (i := x.i) (v := ⟨2, x.v.n⟩) (fun t ht => absurd (thing_at ht).1 c1)).2
                rw [e2] at hSt
                unfold vA at hSt
                have HSt := hid hSt
                have d1 : decide (1 ≤ x.ref) = false := by simpa using c1
                clear e2 hSt c1
                go_wp2_with fail
                refine (HSt.out _ (by repeat' first | with_reducible exact Below.refl _ _ | with_reducible assumption | with_reducible refine belows_drewN ?_ _ | with_reducible refine Below.drew ?_ | with_reducible refine Below.setCell ?_ ?_ _ | with_reducible refine Below.alloc ?_ ?_ _ | omega | (simp; done) | (simp; omega))).mono ?_
                rintro e w3 ⟨rfl, hW3⟩
                have HC3 := hid ((HCk2.out.below ((Below.refl _ _).alloc (Nat.le_refl _) (.cells #[.int .i64 x.f, .int .i64 x.c, .slice ka x.ts.length kc, .int .i64 x.el.k, .string x.el.s, .int .i64 x.ref, .int .i64 x.i, .int .i64 x.v.k, .int .i64 x.v.n] 37))).went (HR.out.alloc _) HH.out hW3)
                have bx := (BX.new wr #[.int .i64 x.f, .int .i64 x.c, .slice ka x.ts.length kc, .int .i64 x.el.k, .string x.el.s, .int .i64 x.ref, .int .i64 x.i, .int .i64 x.v.k, .int .i64 x.v.n] 37).chg hW3.chg (fun e => by have := (HR.out.low _ e).2; omega)
                have p5 : w3.cell? ⟨wr.heap.size, 5, none⟩ = some (.int .i64 x.ref) := bx.cell 5
                have p6 : w3.cell? ⟨wr.heap.size, 6, none⟩ = some (.int .i64 x.i) := bx.cell 6
                have p8 : w3.cell? ⟨wr.heap.size, 8, none⟩ = some (.int .i64 x.v.n) := bx.cell 8
                have hbz := bx.sz
                clear bx hW3
                go_wp2
                go_quiet (fail)
                go_wp2
                go_roundw
                case rel => exact ⟨k + 1, m, f, by omega, by go_num, by omega, Hf, HC3.out.below (by repeat' first | with_reducible exact Below.refl _ _ | with_reducible assumption | with_reducible refine belows_drewN ?_ _ | with_reducible refine Below.drew ?_ | with_reducible refine Below.setCell ?_ ?_ _ | with_reducible refine Below.alloc ?_ ?_ _ | omega | (simp; done) | (simp; omega))⟩
                case measure => simp [intOf] <;> omega
            · obtain rfl : k = ops.length := by omega
              clear hlt hk
              go_wp2
              go_loopw [131] (fun i wr => ∃ k : Nat, k ≤ l.length ∧ i = .int .i64 (k : Int) ∧ Hid (CS w hb w2.heap.size NS NS m f f (.slice qa l.length qc) wr)) (fun i _ => l.length - (intOf i).toNat)
              case atStart => exact ⟨0, by omega, rfl, HCk2⟩
              case round =>
                clear HCk2
                obtain ⟨k3, hk3, rfl, HC3⟩ := hrel
                by_cases hlt3 : k3 < l.length
                · exfalso; omega
                · go_wp2
                  go_ret
                  exact ⟨rfl, HC3.out.bel⟩
    · have h01 : 0 < l.length := by omega
      clear h00
      go_wp2
      go_loopw [8, 43] (fun q i wr => ∃ k : Nat, k ≤ l.length ∧ i = .int .i64 (k : Int) ∧ Hid (CS w hb w2.heap.size ((nsOf l).take k) ((nsOf l).take k) 0 (fun _ _ => 0) (fun _ _ => 0) q wr)) (fun _ i _ => l.length - (intOf i).toNat)
      case atStart => exact ⟨0, by omega, rfl, HC⟩
      case round =>
        obtain ⟨k, hk, rfl, HCk⟩ := hrel
        have hlk : ((nsOf l).take k).length = k := by rw [List.length_take, hm]; omega
        have ho := HCk.out.own
        rw [hlk] at ho
        obtain ⟨qa, qc, rfl⟩ := own_form ho
        have HO := hid (fun X (b : Below wr.heap.size wr X) => Kit.owns_below ho b (Nat.le_refl _))
        have hws := HCk.out.sz
        by_cases hlt : k < l.length
        · obtain ⟨x, hx⟩ : ∃ x, l[k]? = some x := ⟨_, List.getElem?_eq_getElem (by omega)⟩
          have hxb := HS.out x (List.mem_of_getElem? hx)
          obtain ⟨b, o, cap, hsl, -, hbl2, hxx⟩ := (HVl.out _ HCk.out.bel).some (by omega)
          obtain ⟨rfl, -, rfl⟩ := Value.slice.inj hsl
          have y0 := hxx k (.int .u8 (x : Int)) (by simp [u8L, hx])
          obtain ⟨H3, hR, hH⟩ := HCk.out.H
          have hle : ∀ z ∈ (nsOf l).take k, z ≤ 40 := fun z hz => (nsOf_le l).2 z (List.mem_of_mem_take hz)
          have hA := Array_any hR (arrs_ok hle (by omega)) Hp.tJ ((x : Int) % 40) (by omega)
          have hmod : (x : Int) % 40 = ((x % 40 : Nat) : Int) := by omega
          rw [hH] at hA
          rw [hmod, arr_next hle (by omega) (by omega), ← take_next (nsOf_at hx (by omega)), hlk] at hA
          rw [← hmod] at hA
          unfold OutPost tA Hp.tJ at hA
          dsimp only at hA
          have HA := hid hA
          have HR := hid hR
          have HH := hid hH
          have HX := hid hx
          have HLK := hid hlk
          have HMd := hid hmod
          have ho2 := hid ho
          clear hA hR hH hx hlk hmod ho hsl hxx hle
          go_wp2_with fail
          refine HA.out.mono ?_
          rintro e w3 ⟨H4, rfl, hW3⟩
          have HC3 := hid (HCk.out.went HR.out HH.out hW3)
          have ho3 := HC3.out.own
          rw [HLK.out] at ho3
          have HO3 := hid (fun X (b : Below w3.heap.size w3 X) => Kit.owns_below ho3 b (Nat.le_refl _))
          have hs3 := HC3.out.sz
          clear hW3 ho3
          go_wp2_with (at_builtin; refine wpList_append_own_at _ rfl (.tmp 65) (.tmp 69) 45 rfl w.heap.size 2 i8 _ 1 8 Try.underlying45 hi8 hz08 hz18 hz28 rfl (by decide) (.slice qa k qc) k (Kit.natVals ((nsOf l).take k)) rfl (HO3.out _ (by repeat' first | with_reducible exact Below.refl _ _ | with_reducible assumption | with_reducible refine belows_drewN ?_ _ | with_reducible refine Below.drew ?_ | with_reducible refine Below.setCell ?_ ?_ _ | with_reducible refine Below.alloc ?_ ?_ _ | omega | (simp; done) | (simp; omega))) ⟨w3.heap.size, 0, none⟩ 1 1 [.int .i64 ((x : Int) % 40)] rfl rfl (Kit.news_one w3 _ 2) (Kit.ones_one rfl) (by unfold maxLen; omega) (by omega) (by simp; omega) ?_; intro v5 w5 ho5 hg5 _ hk5; have HC5 := hid (HC3.out.app (n := x % 40) ((Below.refl _ _).alloc (Nat.le_refl _) (.cells #[.int .i64 ((x : Int) % 40)] 2)) hg5 (by rw [HLK.out, ← HMd.out]; exact ho5)); clear ho5 hg5 hk5)
          go_roundw
          case rel => exact ⟨k + 1, by omega, by go_num, by rw [take_next (nsOf_at HX.out (by omega))]; exact (by have := HC5.out; rw [take_next (nsOf_at HX.out (by omega))] at this; exact this)⟩
          case measure => simp [intOf] <;> omega
        · obtain rfl : k = l.length := by omega
          have htk : (nsOf l).take l.length = nsOf l := List.take_of_length_le (by omega)
          rw [htk] at HCk
          obtain ⟨NS, hNS⟩ : ∃ NS, NS = nsOf l := ⟨_, rfl⟩
          have hNl := nsOf_le l
          rw [← hNS] at HCk hm hNl
          have HNS := hid hNl
          have HM := hid hm
          clear htk hNS hNl HO ho hlk hm
          obtain ⟨gq, cq, hqe, -, -, -⟩ := own_cell HCk.out.own (by have := HM.out; omega)
          obtain ⟨rfl, -, -⟩ := Value.slice.inj hqe
          clear hqe
          go_wp2
          go_loopw [74] (fun i wr => ∃ (k m : Nat) (f : Int → Int → Int), k ≤ ops.length ∧ i = .int .i64 (k : Int) ∧ m ≤ k ∧ Hid (∀ a b, I8 (f a b)) ∧ Hid (CS w hb w2.heap.size NS NS m f f (.slice (some ⟨gq, 0, none⟩) l.length qc) wr)) (fun i _ => ops.length - (intOf i).toNat)
          case atStart => exact ⟨0, 0, fun _ _ => 0, by omega, rfl, by omega, fun _ _ => (show I8 0 by unfold I8; omega), HCk⟩
          case round =>
            clear HCk
            obtain ⟨k, m, f, hk, rfl, hmk, Hf, HCk2⟩ := hrel
            have hws2 := HCk2.out.sz
            by_cases hlt : k < ops.length
            · obtain ⟨x, hx⟩ : ∃ x, ops[k]? = some x := ⟨_, List.getElem?_eq_getElem hlt⟩
              have hgx := HG.out x (List.mem_of_getElem? hx)
              obtain ⟨b, o, cap, ka, kc, hsl, hbl2, hxx⟩ := ops_at HU.out HCk2.out.bel hx
              obtain ⟨rfl, -, rfl⟩ := Value.slice.inj hsl
              have y0 := hxx 0 _ rfl
              have y1 := hxx 1 _ rfl
              have y2 := hxx 2 _ rfl
              have y3 := hxx 3 _ rfl
              have y4 := hxx 4 _ rfl
              have y5 := hxx 5 _ rfl
              have y6 := hxx 6 _ rfl
              have y7 := hxx 7 _ rfl
              have y8 := hxx 8 _ rfl
              rw [Nat.add_zero] at y0
              obtain ⟨H3, hR, hH⟩ := HCk2.out.H
              have hSt := fun X (b : Below wr.heap.size wr X) => Store_any (hR.below b) (arrs_ok HNS.out.2 HNS.out.1) x.ref x.i ⟨2, x.v.n⟩ hgx.ref
              rw [hH] at hSt
              have HR := hid hR
              have HH := hid hH
              have hri := hgx.ref
              have hii := hgx.i
              have hni := hgx.n
              have HGx := hid hgx
              clear hsl hxx hx hR hH hgx
              by_cases c1 : 1 ≤ x.ref
              · obtain ⟨r, hr⟩ : ∃ r : Nat, x.ref = (r : Int) + 1 := ⟨(x.ref - 1).toNat, by omega⟩
                by_cases c2 : x.ref ≤ (l.length : Nat)
                · obtain ⟨nn, hnn⟩ : ∃ nn, NS[r]? = some nn := ⟨_, List.getElem?_eq_getElem (by have := HM.out; omega)⟩
                  have hth : (⟨10000, Hp.arrs NS f⟩ : Hp.Hs).thing x.ref = some ⟨-1, [Hp.tJ], (List.range nn).map fun j : Nat => ⟨2, f ((r : Int) + 1) (j : Int)⟩⟩ := by
                    unfold Hp.Hs.thing
                    rw [if_pos c1, show (x.ref - 1).toNat = r by omega]
                    exact Hp.arrs_at hnn
                  have hnb := HNS.out.2 nn (List.mem_of_getElem? hnn)
                  have hMl := HM.out
                  have hrr : r = x.ref.toNat - 1 := by omega
                  have d1 : decide (1 ≤ x.ref) = true := by simpa using c1
                  have d2 : decide (x.ref ≤ (l.length : Int)) = true := by simpa using c2
                  by_cases c3 : 0 ≤ x.i
                  · have d3 : decide (0 ≤ x.i) = true := by simpa using c3
                    by_cases c4 : x.i < nn
                    · have d4 : decide (x.i < (nn : Int)) = true := by simpa using c4
                      obtain ⟨j, hj⟩ : ∃ j : Nat, x.i = j := ⟨x.i.toNat, by omega⟩
                      have hjn : j < nn := by omega
                      have e2 := (Hp.el_ok (v := ⟨2, x.v.n⟩) (i := j) (u := ⟨2, f ((r : Int) + 1) (j : Int)⟩) hth rfl rfl (by simp [hjn])).2
                      rw [if_pos (by simp [fitsOf, zeroOf, Hp.tJ]), show (x.ref - 1).toNat = r by omega] at e2
                      have e3 := Hp.arrs_put (f := f) (x := x.v.n) hnn hjn
                      have e4 : ({ (⟨10000, Hp.arrs NS f⟩ : Hp.Hs) with l := (Hp.arrs NS f).set r ⟨-1, [Hp.tJ], ((List.range nn).map fun j : Nat => (⟨2, f ((r : Int) + 1) (j : Int)⟩ : Hp.Vl)).set j ⟨2, x.v.n⟩⟩ } : Hp.Hs) = ⟨10000, Hp.arrs NS (updI f x.ref x.i x.v.n)⟩ := by rw [e3, hr, hj]
                      rw [hj, e2] at hSt
                      have hSt2 := hSt
                      dsimp only at hSt2
                      rw [e4] at hSt2
                      unfold vA at hSt2
                      rw [← hj] at hSt2
                      have HSt := hid hSt2
                      have HNN := hid hnn
                      have HRR := hid hrr
                      clear e2 e3 e4 hSt hSt2 hth hnn hr hj hrr
                      go_wp2_with fail
                      refine (HSt.out _ (by repeat' first | with_reducible exact Below.refl _ _ | with_reducible assumption | with_reducible refine belows_drewN ?_ _ | with_reducible refine Below.drew ?_ | with_reducible refine Below.setCell ?_ ?_ _ | with_reducible refine Below.alloc ?_ ?_ _ | omega | (simp; done) | (simp; omega))).mono ?_
                      rintro e w3 ⟨rfl, hW3⟩
                      have HC3 := hid ((HCk2.out.below ((Below.refl _ _).alloc (Nat.le_refl _) (.cells #[.int .i64 x.f, .int .i64 x.c, .slice ka x.ts.length kc, .int .i64 x.el.k, .string x.el.s, .int .i64 x.ref, .int .i64 x.i, .int .i64 x.v.k, .int .i64 x.v.n] 37))).went (HR.out.alloc _) HH.out hW3)
                      have bx := (BX.new wr #[.int .i64 x.f, .int .i64 x.c, .slice ka x.ts.length kc, .int .i64 x.el.k, .string x.el.s, .int .i64 x.ref, .int .i64 x.i, .int .i64 x.v.k, .int .i64 x.v.n] 37).chg hW3.chg (fun e => by have := (HR.out.low _ e).2; omega)
                      have p5 : w3.cell? ⟨wr.heap.size, 5, none⟩ = some (.int .i64 x.ref) := bx.cell 5
                      have p6 : w3.cell? ⟨wr.heap.size, 6, none⟩ = some (.int .i64 x.i) := bx.cell 6
                      have p8 : w3.cell? ⟨wr.heap.size, 8, none⟩ = some (.int .i64 x.v.n) := bx.cell 8
                      have hbz := bx.sz
                      have p9 := (own_at HC3.out.own (g := gq) rfl).1 r _ (Kit.natVals_at HNN.out)
                      rw [HRR.out] at p9
                      have hq := fun d => (HC3.out.below (below_drewN w3 d)).wm.put x.ref x.i x.v.n hri hii hni (by unfold maxLen; omega)
                      obtain ⟨w6, hw6⟩ := Classical.skolem.1 hq
                      have hup := fun d => (hw6 d).1
                      have HW6 := hid (fun d => (hw6 d).2)
                      clear bx hW3 hq hw6
                      go_wp2
                      go_quiet (fail)
                      go_wp2
                      go_roundw
                      case rel => exact ⟨k + 1, m + 1, updI f x.ref x.i x.v.n, by omega, by go_num, by omega, fun a b => (by unfold updI; split; exact hni; exact Hf.out a b), (HC3.out.below (below_drewN w3 _)).upd (HW6.out _).2 (HW6.out _).1⟩
                      case measure => simp [intOf] <;> omega
                    · have e2 := (Hp.el_idx (i := x.i) (v := ⟨2, x.v.n⟩) hth rfl (.inr (by simpa using c4))).2
                      rw [e2] at hSt
                      unfold vA at hSt
                      have HSt := hid hSt
                      have d4 : decide (x.i < (nn : Int)) = false := by simpa using c4
                      have HNN := hid hnn
                      have HRR := hid hrr
                      clear e2 hSt hth hnn hr hrr
                      go_wp2_with fail
                      refine (HSt.out _ (by repeat' first | with_reducible exact Below.refl _ _ | with_reducible assumption | with_reducible refine belows_drewN ?_ _ | with_reducible refine Below.drew ?_ | with_reducible refine Below.setCell ?_ ?_ _ | with_reducible refine Below.alloc ?_ ?_ _ | omega | (simp; done) | (simp; omega))).mono ?_
                      rintro e w3 ⟨rfl, hW3⟩
                      have HC3 := hid ((HCk2.out.below ((Below.refl _ _).alloc (Nat.le_refl _) (.cells #[.int .i64 x.f, .int .i64 x.c, .slice ka x.ts.length kc, .int .i64 x.el.k, .string x.el.s, .int .i64 x.ref, .int .i64 x.i, .int .i64 x.v.k, .int .i64 x.v.n] 37))).went (HR.out.alloc _) HH.out hW3)
                      have bx := (BX.new wr #[.int .i64 x.f, .int .i64 x.c, .slice ka x.ts.length kc, .int .i64 x.el.k, .string x.el.s, .int .i64 x.ref, .int .i64 x.i, .int .i64 x.v.k, .int .i64 x.v.n] 37).chg hW3.chg (fun e => by have := (HR.out.low _ e).2; omega)
                      have p5 : w3.cell? ⟨wr.heap.size, 5, none⟩ = some (.int .i64 x.ref) := bx.cell 5
                      have p6 : w3.cell? ⟨wr.heap.size, 6, none⟩ = some (.int .i64 x.i) := bx.cell 6
                      have p8 : w3.cell? ⟨wr.heap.size, 8, none⟩ = some (.int .i64 x.v.n) := bx.cell 8
                      have hbz := bx.sz
                      have p9 := (own_at HC3.out.own (g := gq) rfl).1 r _ (Kit.natVals_at HNN.out)
                      rw [HRR.out] at p9
                      clear bx hW3
                      go_wp2
                      go_quiet (fail)
                      go_wp2
                      go_roundw
                      case rel => exact ⟨k + 1, m, f, by omega, by go_num, by omega, Hf, HC3.out.below (by repeat' first | with_reducible exact Below.refl _ _ | with_reducible assumption | with_reducible refine belows_drewN ?_ _ | with_reducible refine Below.drew ?_ | with_reducible refine Below.setCell ?_ ?_ _ | with_reducible refine Below.alloc ?_ ?_ _ | omega | (simp; done) | (simp; omega))⟩
                      case measure => simp [intOf] <;> omega
                  · have e2 := (Hp.el_idx (i := x.i) (v := ⟨2, x.v.n⟩) hth rfl (.inl (by omega))).2
                    rw [e2] at hSt
                    unfold vA at hSt
                    have HSt := hid hSt
                    have d3 : decide (0 ≤ x.i) = false := by simpa using c3
                    clear e2 hSt hth hnn hr hrr
                    go_wp2_with fail
                    refine (HSt.out _ (by repeat' first | with_reducible exact Below.refl _ _ | with_reducible assumption | with_reducible refine belows_drewN ?_ _ | with_reducible refine Below.drew ?_ | with_reducible refine Below.setCell ?_ ?_ _ | with_reducible refine Below.alloc ?_ ?_ _ | omega | (simp; done) | (simp; omega))).mono ?_
                    rintro e w3 ⟨rfl, hW3⟩
                    have HC3 := hid ((HCk2.out.below ((Below.refl _ _).alloc (Nat.le_refl _) (.cells #[.int .i64 x.f, .int .i64 x.c, .slice ka x.ts.length kc, .int .i64 x.el.k, .string x.el.s, .int .i64 x.ref, .int .i64 x.i, .int .i64 x.v.k, .int .i64 x.v.n] 37))).went (HR.out.alloc _) HH.out hW3)
                    have bx := (BX.new wr #[.int .i64 x.f, .int .i64 x.c, .slice ka x.ts.length kc, .int .i64 x.el.k, .string x.el.s, .int .i64 x.ref, .int .i64 x.i, .int .i64 x.v.k, .int .i64 x.v.n] 37).chg hW3.chg (fun e => by have := (HR.out.low _ e).2; omega)
                    have p5 : w3.cell? ⟨wr.heap.size, 5, none⟩ = some (.int .i64 x.ref) := bx.cell 5
                    have p6 : w3.cell? ⟨wr.heap.size, 6, none⟩ = some (.int .i64 x.i) := bx.cell 6
                    have p8 : w3.cell? ⟨wr.heap.size, 8, none⟩ = some (.int .i64 x.v.n) := bx.cell 8
                    have hbz := bx.sz
                    clear bx hW3
                    go_wp2
                    go_quiet (fail)
                    go_wp2
                    go_roundw
                    case rel => exact ⟨k + 1, m, f, by omega, by go_num, by omega, Hf, HC3.out.below (by repeat' first | with_reducible exact Below.refl _ _ | with_reducible assumption | with_reducible refine belows_drewN ?_ _ | with_reducible refine Below.drew ?_ | with_reducible refine Below.setCell ?_ ?_ _ | with_reducible refine Below.alloc ?_ ?_ _ | omega | (simp; done) | (simp; omega))⟩
                    case measure => simp [intOf] <;> omega
                · have e2 := (Hp.el_ref (s := ⟨10000, Hp.arrs NS f⟩) (ref := x.ref) (i := x.i) (v := ⟨2, x.v.n⟩) (fun t ht => by have h9 := (thing_at ht).2.1; rw [show (⟨10000, Hp.arrs NS f⟩ : Hp.Hs).l.length = NS.length from Hp.arrs_len NS f] at h9; have := HM.out; omega)).2
                  rw [e2] at hSt
                  unfold vA at hSt
                  have HSt := hid hSt
                  have d1 : decide (1 ≤ x.ref) = true := by simpa using c1
                  have d2 : decide (x.ref ≤ (l.length : Int)) = false := by simpa using c2
                  clear e2 hSt hr
                  go_wp2_with fail
                  refine (HSt.out _ (by repeat' first | with_reducible exact Below.refl _ _ | with_reducible assumption | with_reducible refine belows_drewN ?_ _ | with_reducible refine Below.drew ?_ | with_reducible refine Below.setCell ?_ ?_ _ | with_reducible refine Below.alloc ?_ ?_ _ | omega | (simp; done) | (simp; omega))).mono ?_
                  rintro e w3 ⟨rfl, hW3⟩
                  have HC3 := hid ((HCk2.out.below ((Below.refl _ _).alloc (Nat.le_refl _) (.cells #[.int .i64 x.f, .int .i64 x.c, .slice ka x.ts.length kc, .int .i64 x.el.k, .string x.el.s, .int .i64 x.ref, .int .i64 x.i, .int .i64 x.v.k, .int .i64 x.v.n] 37))).went (HR.out.alloc _) HH.out hW3)
                  have bx := (BX.new wr #[.int .i64 x.f, .int .i64 x.c, .slice ka x.ts.length kc, .int .i64 x.el.k, .string x.el.s, .int .i64 x.ref, .int .i64 x.i, .int .i64 x.v.k, .int .i64 x.v.n] 37).chg hW3.chg (fun e => by have := (HR.out.low _ e).2; omega)
                  have p5 : w3.cell? ⟨wr.heap.size, 5, none⟩ = some (.int .i64 x.ref) := bx.cell 5
                  have p6 : w3.cell? ⟨wr.heap.size, 6, none⟩ = some (.int .i64 x.i) := bx.cell 6
                  have p8 : w3.cell? ⟨wr.heap.size, 8, none⟩ = some (.int .i64 x.v.n) := bx.cell 8
                  have hbz := bx.sz
                  clear bx hW3
                  go_wp2
                  go_quiet (fail)
                  go_wp2
                  go_roundw
                  case rel => exact ⟨k + 1, m, f, by omega, by go_num, by omega, Hf, HC3.out.below (by repeat' first | with_reducible exact Below.refl _ _ | with_reducible assumption | with_reducible refine belows_drewN ?_ _ | with_reducible refine Below.drew ?_ | with_reducible refine Below.setCell ?_ ?_ _ | with_reducible refine Below.alloc ?_ ?_ _ | omega | (simp; done) | (simp; omega))⟩
                  case measure => simp [intOf] <;> omega
              · have e2 := (Hp.el_ref (s := ⟨10000, Hp.arrs NS f⟩) (ref := x.ref) (i := x.i) (v := ⟨2, x.v.n⟩) (fun t ht => absurd (thing_at ht).1 c1)).2
                rw [e2] at hSt
                unfold vA at hSt
                have HSt := hid hSt
                have d1 : decide (1 ≤ x.ref) = false := by simpa using c1
                clear e2 hSt c1
                go_wp2_with fail
                refine (HSt.out _ (by repeat' first | with_reducible exact Below.refl _ _ | with_reducible assumption | with_reducible refine belows_drewN ?_ _ | with_reducible refine Below.drew ?_ | with_reducible refine Below.setCell ?_ ?_ _ | with_reducible refine Below.alloc ?_ ?_ _ | omega | (simp; done) | (simp; omega))).mono ?_
                rintro e w3 ⟨rfl, hW3⟩
                have HC3 := hid ((HCk2.out.below ((Below.refl _ _).alloc (Nat.le_refl _) (.cells #[.int .i64 x.f, .int .i64 x.c, .slice ka x.ts.length kc, .int .i64 x.el.k, .string x.el.s, .int .i64 x.ref, .int .i64 x.i, .int .i64 x.v.k, .int .i64 x.v.n] 37))).went (HR.out.alloc _) HH.out hW3)
                have bx := (BX.new wr #[.int .i64 x.f, .int .i64 x.c, .slice ka x.ts.length kc, .int .i64 x.el.k, .string x.el.s, .int .i64 x.ref, .int .i64 x.i, .int .i64 x.v.k, .int .i64 x.v.n] 37).chg hW3.chg (fun e => by have := (HR.out.low _ e).2; omega)
                have p5 : w3.cell? ⟨wr.heap.size, 5, none⟩ = some (.int .i64 x.ref) := bx.cell 5
                have p6 : w3.cell? ⟨wr.heap.size, 6, none⟩ = some (.int .i64 x.i) := bx.cell 6
                have p8 : w3.cell? ⟨wr.heap.size, 8, none⟩ = some (.int .i64 x.v.n) := bx.cell 8
                have hbz := bx.sz
                clear bx hW3
                go_wp2
                go_quiet (fail)
                go_wp2
                go_roundw
                case rel => exact ⟨k + 1, m, f, by omega, by go_num, by omega, Hf, HC3.out.below (by repeat' first | with_reducible exact Below.refl _ _ | with_reducible assumption | with_reducible refine belows_drewN ?_ _ | with_reducible refine Below.drew ?_ | with_reducible refine Below.setCell ?_ ?_ _ | with_reducible refine Below.alloc ?_ ?_ _ | omega | (simp; done) | (simp; omega))⟩
                case measure => simp [intOf] <;> omega
            · obtain rfl : k = ops.length := by omega
              clear hlt hk
              go_wp2
              go_loopw [131] (fun i wr => ∃ k : Nat, k ≤ l.length ∧ i = .int .i64 (k : Int) ∧ Hid (CS w hb w2.heap.size NS NS m f f (.slice (some ⟨gq, 0, none⟩) l.length qc) wr)) (fun i _ => l.length - (intOf i).toNat)
              case atStart => exact ⟨0, by omega, rfl, HCk2⟩
              case round =>
                clear HCk2
                obtain ⟨k3, hk3, rfl, HC3⟩ := hrel
                by_cases hlt3 : k3 < l.length
                · obtain ⟨nn, hnn⟩ : ∃ nn, NS[k3]? = some nn := ⟨_, List.getElem?_eq_getElem (by have := HM.out; omega)⟩
                  have hnb := HNS.out.2 nn (List.mem_of_getElem? hnn)
                  have p9 := (own_at HC3.out.own (g := gq) rfl).1 k3 _ (Kit.natVals_at hnn)
                  have HNN := hid hnn
                  have d8 : decide ((k3 : Int) < (l.length : Int)) = true := by simp; omega
                  clear hnn
                  go_wp2
                  go_loopw [137] (fun i wr => ∃ j : Nat, j ≤ nn ∧ i = .int .i64 (j : Int) ∧ Hid (CS w hb w2.heap.size NS NS m f f (.slice (some ⟨gq, 0, none⟩) l.length qc) wr)) (fun i _ => nn - (intOf i).toNat)
                  case atStart => exact ⟨0, by omega, rfl, HC3⟩
                  case round =>
                    clear HC3 p9
                    obtain ⟨j, hj, rfl, HC4⟩ := hrel
                    by_cases hjn : j < nn
                    · obtain ⟨H3, hR, hH⟩ := HC4.out.H
                      have hth : (⟨10000, Hp.arrs NS f⟩ : Hp.Hs).thing ((k3 : Int) + 1) = some ⟨-1, [Hp.tJ], (List.range nn).map fun j : Nat => ⟨2, f ((k3 : Int) + 1) (j : Int)⟩⟩ := by
                        unfold Hp.Hs.thing
                        rw [if_pos (by omega), show ((k3 : Int) + 1 - 1).toNat = k3 by omega]
                        exact Hp.arrs_at HNN.out
                      have e1 := (Hp.el_ok (v := Hp.V0) (i := j) (u := ⟨2, f ((k3 : Int) + 1) (j : Int)⟩) hth rfl rfl (by simp [hjn])).1
                      have hLd := Load_any hR (arrs_ok HNS.out.2 HNS.out.1) ((k3 : Int) + 1) (j : Int) (by have := HNS.out.1; have := HM.out; omega)
                      rw [e1, hH] at hLd
                      unfold vA at hLd
                      dsimp only at hLd
                      have HL := hid hLd
                      clear hLd e1 hth hR hH
                      have hkb : k3 ≤ 20 := by have := HNS.out.1; have := HM.out; omega
                      go_wp2_with fail
                      refine HL.out.mono ?_
                      rintro e w3 ⟨rfl, hb3⟩
                      have HC5 := hid (HC4.out.below hb3)
                      have hlook := fun d => ((HC5.out.below ((Below.refl _ _).alloc (Nat.le_refl _) (.cells #[.int .i64 2, .int .i64 (f ((k3 : Int) + 1) (j : Int))] 35))).below (below_drewN _ d)).wm.look ((k3 : Int) + 1) (j : Int) (by unfold I8; omega) (by unfold I8; omega)
                      go_wp2
                      go_quiet (fail)
                      go_wp2
                      go_roundw
                      case rel => exact ⟨j + 1, by omega, by go_num, HC5.out.below (by repeat' first | with_reducible exact Below.refl _ _ | with_reducible assumption | with_reducible refine belows_drewN ?_ _ | with_reducible refine Below.drew ?_ | with_reducible refine Below.setCell ?_ ?_ _ | with_reducible refine Below.alloc ?_ ?_ _ | omega | (simp; done) | (simp; omega))⟩
                      case measure => simp [intOf] <;> omega
                    · obtain rfl : j = nn := by omega
                      go_wp2
                      go_roundw
                      case rel => exact ⟨k3 + 1, by omega, by go_num, HC4⟩
                      case measure => simp [intOf] <;> omega
                · go_wp2
                  go_ret
                  exact ⟨rfl, HC3.out.bel⟩
  · have hm : (nsOf l).length = 20 := by unfold nsOf; simp; omega
    go_wp2
    go_loopw [8, 43] (fun q i wr => ∃ k : Nat, k ≤ 20 ∧ i = .int .i64 (k : Int) ∧ Hid (CS w hb w2.heap.size ((nsOf l).take k) ((nsOf l).take k) 0 (fun _ _ => 0) (fun _ _ => 0) q wr)) (fun _ i _ => 20 - (intOf i).toNat)
    case atStart => exact ⟨0, by omega, rfl, HC⟩
    case round =>
      obtain ⟨k, hk, rfl, HCk⟩ := hrel
      have hlk : ((nsOf l).take k).length = k := by rw [List.length_take, hm]; omega
      have ho := HCk.out.own
      rw [hlk] at ho
      obtain ⟨qa, qc, rfl⟩ := own_form ho
      have HO := hid (fun X (b : Below wr.heap.size wr X) => Kit.owns_below ho b (Nat.le_refl _))
      have hws := HCk.out.sz
      by_cases hlt : k < 20
      · obtain ⟨x, hx⟩ : ∃ x, l[k]? = some x := ⟨_, List.getElem?_eq_getElem (by omega)⟩
        have hxb := HS.out x (List.mem_of_getElem? hx)
        obtain ⟨b, o, cap, hsl, -, hbl2, hxx⟩ := (HVl.out _ HCk.out.bel).some (by omega)
        obtain ⟨rfl, -, rfl⟩ := Value.slice.inj hsl
        have y0 := hxx k (.int .u8 (x : Int)) (by simp [u8L, hx])
        obtain ⟨H3, hR, hH⟩ := HCk.out.H
        have hle : ∀ z ∈ (nsOf l).take k, z ≤ 40 := fun z hz => (nsOf_le l).2 z (List.mem_of_mem_take hz)
        have hA := Array_any hR (arrs_ok hle (by omega)) Hp.tJ ((x : Int) % 40) (by omega)
        have hmod : (x : Int) % 40 = ((x % 40 : Nat) : Int) := by omega
        rw [hH] at hA
        rw [hmod, arr_next hle (by omega) (by omega), ← take_next (nsOf_at hx (by omega)), hlk] at hA
        rw [← hmod] at hA
        unfold OutPost tA Hp.tJ at hA
        dsimp only at hA
        have HA := hid hA
        have HR := hid hR
        have HH := hid hH
        have HX := hid hx
        have HLK := hid hlk
        have HMd := hid hmod
        have ho2 := hid ho
        clear hA hR hH hx hlk hmod ho hsl hxx hle
        go_wp2_with fail
        refine HA.out.mono ?_
        rintro e w3 ⟨H4, rfl, hW3⟩
        have HC3 := hid (HCk.out.went HR.out HH.out hW3)
        have ho3 := HC3.out.own
        rw [HLK.out] at ho3
        have HO3 := hid (fun X (b : Below w3.heap.size w3 X) => Kit.owns_below ho3 b (Nat.le_refl _))
        have hs3 := HC3.out.sz
        clear hW3 ho3
        go_wp2_with (at_builtin; refine wpList_append_own_at _ rfl (.tmp 65) (.tmp 69) 45 rfl w.heap.size 2 i8 _ 1 8 Try.underlying45 hi8 hz08 hz18 hz28 rfl (by decide) (.slice qa k qc) k (Kit.natVals ((nsOf l).take k)) rfl (HO3.out _ (by repeat' first | with_reducible exact Below.refl _ _ | with_reducible assumption | with_reducible refine belows_drewN ?_ _ | with_reducible refine Below.drew ?_ | with_reducible refine Below.setCell ?_ ?_ _ | with_reducible refine Below.alloc ?_ ?_ _ | omega | (simp; done) | (simp; omega))) ⟨w3.heap.size, 0, none⟩ 1 1 [.int .i64 ((x : Int) % 40)] rfl rfl (Kit.news_one w3 _ 2) (Kit.ones_one rfl) (by unfold maxLen; omega) (by omega) (by simp; omega) ?_; intro v5 w5 ho5 hg5 _ hk5; have HC5 := hid (HC3.out.app (n := x % 40) ((Below.refl _ _).alloc (Nat.le_refl _) (.cells #[.int .i64 ((x : Int) % 40)] 2)) hg5 (by rw [HLK.out, ← HMd.out]; exact ho5)); clear ho5 hg5 hk5)
        go_roundw
        case rel => exact ⟨k + 1, by omega, by go_num, by rw [take_next (nsOf_at HX.out (by omega))]; exact (by have := HC5.out; rw [take_next (nsOf_at HX.out (by omega))] at this; exact this)⟩
        case measure => simp [intOf] <;> omega
      · obtain rfl : k = 20 := by omega
        have htk : (nsOf l).take 20 = nsOf l := List.take_of_length_le (by omega)
        rw [htk] at HCk
        obtain ⟨NS, hNS⟩ : ∃ NS, NS = nsOf l := ⟨_, rfl⟩
        have hNl := nsOf_le l
        rw [← hNS] at HCk hm hNl
        have HNS := hid hNl
        have HM := hid hm
        clear htk hNS hNl HO ho hlk hm
        obtain ⟨gq, cq, hqe, -, -, -⟩ := own_cell HCk.out.own (by have := HM.out; omega)
        obtain ⟨rfl, -, -⟩ := Value.slice.inj hqe
        clear hqe
        go_wp2
        go_loopw [74] (fun i wr => ∃ (k m : Nat) (f : Int → Int → Int), k ≤ ops.length ∧ i = .int .i64 (k : Int) ∧ m ≤ k ∧ Hid (∀ a b, I8 (f a b)) ∧ Hid (CS w hb w2.heap.size NS NS m f f (.slice (some ⟨gq, 0, none⟩) 20 qc) wr)) (fun i _ => ops.length - (intOf i).toNat)
        case atStart => exact ⟨0, 0, fun _ _ => 0, by omega, rfl, by omega, fun _ _ => (show I8 0 by unfold I8; omega), HCk⟩
        case round =>
          clear HCk
          obtain ⟨k, m, f, hk, rfl, hmk, Hf, HCk2⟩ := hrel
          have hws2 := HCk2.out.sz
          by_cases hlt : k < ops.length
          · obtain ⟨x, hx⟩ : ∃ x, ops[k]? = some x := ⟨_, List.getElem?_eq_getElem hlt⟩
            have hgx := HG.out x (List.mem_of_getElem? hx)
            obtain ⟨b, o, cap, ka, kc, hsl, hbl2, hxx⟩ := ops_at HU.out HCk2.out.bel hx
            obtain ⟨rfl, -, rfl⟩ := Value.slice.inj hsl
            have y0 := hxx 0 _ rfl
            have y1 := hxx 1 _ rfl
            have y2 := hxx 2 _ rfl
            have y3 := hxx 3 _ rfl
            have y4 := hxx 4 _ rfl
            have y5 := hxx 5 _ rfl
            have y6 := hxx 6 _ rfl
            have y7 := hxx 7 _ rfl
            have y8 := hxx 8 _ rfl
            rw [Nat.add_zero] at y0
            obtain ⟨H3, hR, hH⟩ := HCk2.out.H
            have hSt := fun X (b : Below wr.heap.size wr X) => Store_any (hR.below b) (arrs_ok HNS.out.2 HNS.out.1) x.ref x.i ⟨2, x.v.n⟩ hgx.ref
            rw [hH] at hSt
            have HR := hid hR
            have HH := hid hH
            have hri := hgx.ref
            have hii := hgx.i
            have hni := hgx.n
            have HGx := hid hgx
            clear hsl hxx hx hR hH hgx
            by_cases c1 : 1 ≤ x.ref
            · obtain ⟨r, hr⟩ : ∃ r : Nat, x.ref = (r : Int) + 1 := ⟨(x.ref - 1).toNat, by omega⟩
              by_cases c2 : x.ref ≤ (20 : Nat)
              · obtain ⟨nn, hnn⟩ : ∃ nn, NS[r]? = some nn := ⟨_, List.getElem?_eq_getElem (by have := HM.out; omega)⟩
                have hth : (⟨10000, Hp.arrs NS f⟩ : Hp.Hs).thing x.ref = some ⟨-1, [Hp.tJ], (List.range nn).map fun j : Nat => ⟨2, f ((r : Int) + 1) (j : Int)⟩⟩ := by
                  unfold Hp.Hs.thing
                  rw [if_pos c1, show (x.ref - 1).toNat = r by omega]
                  exact Hp.arrs_at hnn
                have hnb := HNS.out.2 nn (List.mem_of_getElem? hnn)
                have hMl := HM.out
                have hrr : r = x.ref.toNat - 1 := by omega
                have d1 : decide (1 ≤ x.ref) = true := by simpa using c1
                have d2 : decide (x.ref ≤ (20 : Int)) = true := by simpa using c2
                by_cases c3 : 0 ≤ x.i
                · have d3 : decide (0 ≤ x.i) = true := by simpa using c3
                  by_cases c4 : x.i < nn
                  · have d4 : decide (x.i < (nn : Int)) = true := by simpa using c4
                    obtain ⟨j, hj⟩ : ∃ j : Nat, x.i = j := ⟨x.i.toNat, by omega⟩
                    have hjn : j < nn := by omega
                    have e2 := (Hp.el_ok (v := ⟨2, x.v.n⟩) (i := j) (u := ⟨2, f ((r : Int) + 1) (j : Int)⟩) hth rfl rfl (by simp [hjn])).2
                    rw [if_pos (by simp [fitsOf, zeroOf, Hp.tJ]), show (x.ref - 1).toNat = r by omega] at e2
                    have e3 := Hp.arrs_put (f := f) (x := x.v.n) hnn hjn
                    have e4 : ({ (⟨10000, Hp.arrs NS f⟩ : Hp.Hs) with l := (Hp.arrs NS f).set r ⟨-1, [Hp.tJ], ((List.range nn).map fun j : Nat => (⟨2, f ((r : Int) + 1) (j : Int)⟩ : Hp.Vl)).set j ⟨2, x.v.n⟩⟩ } : Hp.Hs) = ⟨10000, Hp.arrs NS (updI f x.ref x.i x.v.n)⟩ := by rw [e3, hr, hj]
                    rw [hj, e2] at hSt
                    have hSt2 := hSt
                    dsimp only at hSt2
                    rw [e4] at hSt2
                    unfold vA at hSt2
                    rw [← hj] at hSt2
                    have HSt := hid hSt2
                    have HNN := hid hnn
                    have HRR := hid hrr
                    clear e2 e3 e4 hSt hSt2 hth hnn hr hj hrr
                    go_wp2_with fail
                    refine (HSt.out _ (by repeat' first | with_reducible exact Below.refl _ _ | with_reducible assumption | with_reducible refine belows_drewN ?_ _ | with_reducible refine Below.drew ?_ | with_reducible refine Below.setCell ?_ ?_ _ | with_reducible refine Below.alloc ?_ ?_ _ | omega | (simp; done) | (simp; omega))).mono ?_
                    rintro e w3 ⟨rfl, hW3⟩
                    have HC3 := hid ((HCk2.out.below ((Below.refl _ _).alloc (Nat.le_refl _) (.cells #[.int .i64 x.f, .int .i64 x.c, .slice ka x.ts.length kc, .int .i64 x.el.k, .string x.el.s, .int .i64 x.ref, .int .i64 x.i, .int .i64 x.v.k, .int .i64 x.v.n] 37))).went (HR.out.alloc _) HH.out hW3)
                    have bx := (BX.new wr #[.int .i64 x.f, .int .i64 x.c, .slice ka x.ts.length kc, .int .i64 x.el.k, .string x.el.s, .int .i64 x.ref, .int .i64 x.i, .int .i64 x.v.k, .int .i64 x.v.n] 37).chg hW3.chg (fun e => by have := (HR.out.low _ e).2; omega)
                    have p5 : w3.cell? ⟨wr.heap.size, 5, none⟩ = some (.int .i64 x.ref) := bx.cell 5
                    have p6 : w3.cell? ⟨wr.heap.size, 6, none⟩ = some (.int .i64 x.i) := bx.cell 6
                    have p8 : w3.cell? ⟨wr.heap.size, 8, none⟩ = some (.int .i64 x.v.n) := bx.cell 8
                    have hbz := bx.sz
                    have p9 := (own_at HC3.out.own (g := gq) rfl).1 r _ (Kit.natVals_at HNN.out)
                    rw [HRR.out] at p9
                    have hq := fun d => (HC3.out.below (below_drewN w3 d)).wm.put x.ref x.i x.v.n hri hii hni (by unfold maxLen; omega)
                    obtain ⟨w6, hw6⟩ := Classical.skolem.1 hq
                    have hup := fun d => (hw6 d).1
                    have HW6 := hid (fun d => (hw6 d).2)
                    clear bx hW3 hq hw6
                    go_wp2
                    go_quiet (fail)
                    go_wp2
                    go_roundw
                    case rel => exact ⟨k + 1, m + 1, updI f x.ref x.i x.v.n, by omega, by go_num, by omega, fun a b => (by unfold updI; split; exact hni; exact Hf.out a b), (HC3.out.below (below_drewN w3 _)).upd (HW6.out _).2 (HW6.out _).1⟩
                    case measure => simp [intOf] <;> omega
                  · have e2 := (Hp.el_idx (i := x.i) (v := ⟨2, x.v.n⟩) hth rfl (.inr (by simpa using c4))).2
                    rw [e2] at hSt
                    unfold vA at hSt
                    have HSt := hid hSt
                    have d4 : decide (x.i < (nn : Int)) = false := by simpa using c4
                    have HNN := hid hnn
                    have HRR := hid hrr
                    clear e2 hSt hth hnn hr hrr
                    go_wp2_with fail
                    refine (HSt.out _ (by repeat' first | with_reducible exact Below.refl _ _ | with_reducible assumption | with_reducible refine belows_drewN ?_ _ | with_reducible refine Below.drew ?_ | with_reducible refine Below.setCell ?_ ?_ _ | with_reducible refine Below.alloc ?_ ?_ _ | omega | (simp; done) | (simp; omega))).mono ?_
                    rintro e w3 ⟨rfl, hW3⟩
                    have HC3 := hid ((HCk2.out.below ((Below.refl _ _).alloc (Nat.le_refl _) (.cells #[.int .i64 x.f, .int .i64 x.c, .slice ka x.ts.length kc, .int .i64 x.el.k, .string x.el.s, .int .i64 x.ref, .int .i64 x.i, .int .i64 x.v.k, .int .i64 x.v.n] 37))).went (HR.out.alloc _) HH.out hW3)
                    have bx := (BX.new wr #[.int .i64 x.f, .int .i64 x.c, .slice ka x.ts.length kc, .int .i64 x.el.k, .string x.el.s, .int .i64 x.ref, .int .i64 x.i, .int .i64 x.v.k, .int .i64 x.v.n] 37).chg hW3.chg (fun e => by have := (HR.out.low _ e).2; omega)
                    have p5 : w3.cell? ⟨wr.heap.size, 5, none⟩ = some (.int .i64 x.ref) := bx.cell 5
                    have p6 : w3.cell? ⟨wr.heap.size, 6, none⟩ = some (.int .i64 x.i) := bx.cell 6
                    have p8 : w3.cell? ⟨wr.heap.size, 8, none⟩ = some (.int .i64 x.v.n) := bx.cell 8
                    have hbz := bx.sz
                    have p9 := (own_at HC3.out.own (g := gq) rfl).1 r _ (Kit.natVals_at HNN.out)
                    rw [HRR.out] at p9
                    clear bx hW3
                    go_wp2
                    go_quiet (fail)
                    go_wp2
                    go_roundw
                    case rel => exact ⟨k + 1, m, f, by omega, by go_num, by omega, Hf, HC3.out.below (by repeat' first | with_reducible exact Below.refl _ _ | with_reducible assumption | with_reducible refine belows_drewN ?_ _ | with_reducible refine Below.drew ?_ | with_reducible refine Below.setCell ?_ ?_ _ | with_reducible refine Below.alloc ?_ ?_ _ | omega | (simp; done) | (simp; omega))⟩
                    case measure => simp [intOf] <;> omega
                · have e2 := (Hp.el_idx (i := x.i) (v := ⟨2, x.v.n⟩) hth rfl (.inl (by omega))).2
                  rw [e2] at hSt
                  unfold vA at hSt
                  have HSt := hid hSt
                  have d3 : decide (0 ≤ x.i) = false := by simpa using c3
                  clear e2 hSt hth hnn hr hrr
                  go_wp2_with fail
                  refine (HSt.out _ (by repeat' first | with_reducible exact Below.refl _ _ | with_reducible assumption | with_reducible refine belows_drewN ?_ _ | with_reducible refine Below.drew ?_ | with_reducible refine Below.setCell ?_ ?_ _ | with_reducible refine Below.alloc ?_ ?_ _ | omega | (simp; done) | (simp; omega))).mono ?_
                  rintro e w3 ⟨rfl, hW3⟩
                  have HC3 := hid ((HCk2.out.below ((Below.refl _ _).alloc (Nat.le_refl _) (.cells #[.int .i64 x.f, .int .i64 x.c, .slice ka x.ts.length kc, .int .i64 x.el.k, .string x.el.s, .int .i64 x.ref, .int .i64 x.i, .int .i64 x.v.k, .int .i64 x.v.n] 37))).went (HR.out.alloc _) HH.out hW3)
                  have bx := (BX.new wr #[.int .i64 x.f, .int .i64 x.c, .slice ka x.ts.length kc, .int .i64 x.el.k, .string x.el.s, .int .i64 x.ref, .int .i64 x.i, .int .i64 x.v.k, .int .i64 x.v.n] 37).chg hW3.chg (fun e => by have := (HR.out.low _ e).2; omega)
                  have p5 : w3.cell? ⟨wr.heap.size, 5, none⟩ = some (.int .i64 x.ref) := bx.cell 5
                  have p6 : w3.cell? ⟨wr.heap.size, 6, none⟩ = some (.int .i64 x.i) := bx.cell 6
                  have p8 : w3.cell? ⟨wr.heap.size, 8, none⟩ = some (.int .i64 x.v.n) := bx.cell 8
                  have hbz := bx.sz
                  clear bx hW3
                  go_wp2
                  go_quiet (fail)
                  go_wp2
                  go_roundw
                  case rel => exact ⟨k + 1, m, f, by omega, by go_num, by omega, Hf, HC3.out.below (by repeat' first | with_reducible exact Below.refl _ _ | with_reducible assumption | with_reducible refine belows_drewN ?_ _ | with_reducible refine Below.drew ?_ | with_reducible refine Below.setCell ?_ ?_ _ | with_reducible refine Below.alloc ?_ ?_ _ | omega | (simp; done) | (simp; omega))⟩
                  case measure => simp [intOf] <;> omega
              · have e2 := (Hp.el_ref (s := ⟨10000, Hp.arrs NS f⟩) (ref := x.ref) (i := x.i) (v := ⟨2, x.v.n⟩) (fun t ht => by have h9 := (thing_at ht).2.1; rw [show (⟨10000, Hp.arrs NS f⟩ : Hp.Hs).l.length = NS.length from Hp.arrs_len NS f] at h9; have := HM.out; omega)).2
                rw [e2] at hSt
                unfold vA at hSt
                have HSt := hid hSt
                have d1 : decide (1 ≤ x.ref) = true := by simpa using c1
                have d2 : decide (x.ref ≤ (20 : Int)) = false := by simpa using c2
                clear e2 hSt hr
                go_wp2_with fail
                refine (HSt.out _ (by repeat' first | with_reducible exact Below.refl _ _ | with_reducible assumption | with_reducible refine belows_drewN ?_ _ | with_reducible refine Below.drew ?_ | with_reducible refine Below.setCell ?_ ?_ _ | with_reducible refine Below.alloc ?_ ?_ _ | omega | (simp; done) | (simp; omega))).mono ?_
                rintro e w3 ⟨rfl, hW3⟩
                have HC3 := hid ((HCk2.out.below ((Below.refl _ _).alloc (Nat.le_refl _) (.cells #[.int .i64 x.f, .int .i64 x.c, .slice ka x.ts.length kc, .int .i64 x.el.k, .string x.el.s, .int .i64 x.ref, .int .i64 x.i, .int .i64 x.v.k, .int .i64 x.v.n] 37))).went (HR.out.alloc _) HH.out hW3)
                have bx := (BX.new wr #[.int .i64 x.f, .int .i64 x.c, .slice ka x.ts.length kc, .int .i64 x.el.k, .string x.el.s, .int .i64 x.ref, .int .i64 x.i, .int .i64 x.v.k, .int .i64 x.v.n] 37).chg hW3.chg (fun e => by have := (HR.out.low _ e).2; omega)
                have p5 : w3.cell? ⟨wr.heap.size, 5, none⟩ = some (.int .i64 x.ref) := bx.cell 5
                have p6 : w3.cell? ⟨wr.heap.size, 6, none⟩ = some (.int .i64 x.i) := bx.cell 6
                have p8 : w3.cell? ⟨wr.heap.size, 8, none⟩ = some (.int .i64 x.v.n) := bx.cell 8
                have hbz := bx.sz
                clear bx hW3
                go_wp2
                go_quiet (fail)
                go_wp2
                go_roundw
                case rel => exact ⟨k + 1, m, f, by omega, by go_num, by omega, Hf, HC3.out.below (by repeat' first | with_reducible exact Below.refl _ _ | with_reducible assumption | with_reducible refine belows_drewN ?_ _ | with_reducible refine Below.drew ?_ | with_reducible refine Below.setCell ?_ ?_ _ | with_reducible refine Below.alloc ?_ ?_ _ | omega | (simp; done) | (simp; omega))⟩
                case measure => simp [intOf] <;> omega
            · have e2 := (Hp.el_ref (s := ⟨10000, Hp.arrs NS f⟩) (ref := x.ref) (i := x.i) (v := ⟨2, x.v.n⟩) (fun t ht => absurd (thing_at ht).1 c1)).2
              rw [e2] at hSt
              unfold vA at hSt
              have HSt := hid hSt
              have d1 : decide (1 ≤ x.ref) = false := by simpa using c1
              clear e2 hSt c1
              go_wp2_with fail
              refine (HSt.out _ (by repeat' first | with_reducible exact Below.refl _ _ | with_reducible assumption | with_reducible refine belows_drewN ?_ _ | with_reducible refine Below.drew ?_ | with_reducible refine Below.setCell ?_ ?_ _ | with_reducible refine Below.alloc ?_ ?_ _ | omega | (simp; done) | (simp; omega))).mono ?_
              rintro e w3 ⟨rfl, hW3⟩
              have HC3 := hid ((HCk2.out.below ((Below.refl _ _).alloc (Nat.le_refl _) (.cells #[.int .i64 x.f, .int .i64 x.c, .slice ka x.ts.length kc, .int .i64 x.el.k, .string x.el.s, .int .i64 x.ref, .int .i64 x.i, .int .i64 x.v.k, .int .i64 x.v.n] 37))).went (HR.out.alloc _) HH.out hW3)
              have bx := (BX.new wr #[.int .i64 x.f, .int .i64 x.c, .slice ka x.ts.length kc, .int .i64 x.el.k, .string x.el.s, .int .i64 x.ref, .int .i64 x.i, .int .i64 x.v.k, .int .i64 x.v.n] 37).chg hW3.chg (fun e => by have := (HR.out.low _ e).2; omega)
              have p5 : w3.cell? ⟨wr.heap.size, 5, none⟩ = some (.int .i64 x.ref) := bx.cell 5
              have p6 : w3.cell? ⟨wr.heap.size, 6, none⟩ = some (.int .i64 x.i) := bx.cell 6
              have p8 : w3.cell? ⟨wr.heap.size, 8, none⟩ = some (.int .i64 x.v.n) := bx.cell 8
              have hbz := bx.sz
              clear bx hW3
              go_wp2
              go_quiet (fail)
              go_wp2
              go_roundw
              case rel => exact ⟨k + 1, m, f, by omega, by go_num, by omega, Hf, HC3.out.below (by repeat' first | with_reducible exact Below.refl _ _ | with_reducible assumption | with_reducible refine belows_drewN ?_ _ | with_reducible refine Below.drew ?_ | with_reducible refine Below.setCell ?_ ?_ _ | with_reducible refine Below.alloc ?_ ?_ _ | omega | (simp; done) | (simp; omega))⟩
              case measure => simp [intOf] <;> omega
          · obtain rfl : k = ops.length := by omega
            clear hlt hk
            go_wp2
            go_loopw [131] (fun i wr => ∃ k : Nat, k ≤ 20 ∧ i = .int .i64 (k : Int) ∧ Hid (CS w hb w2.heap.size NS NS m f f (.slice (some ⟨gq, 0, none⟩) 20 qc) wr)) (fun i _ => 20 - (intOf i).toNat)
            case atStart => exact ⟨0, by omega, rfl, HCk2⟩
            case round =>
              clear HCk2
              obtain ⟨k3, hk3, rfl, HC3⟩ := hrel
              by_cases hlt3 : k3 < 20
              · obtain ⟨nn, hnn⟩ : ∃ nn, NS[k3]? = some nn := ⟨_, List.getElem?_eq_getElem (by have := HM.out; omega)⟩
                have hnb := HNS.out.2 nn (List.mem_of_getElem? hnn)
                have p9 := (own_at HC3.out.own (g := gq) rfl).1 k3 _ (Kit.natVals_at hnn)
                have HNN := hid hnn
                have d8 : decide ((k3 : Int) < (20 : Int)) = true := by simp; omega
                clear hnn
                go_wp2
                go_loopw [137] (fun i wr => ∃ j : Nat, j ≤ nn ∧ i = .int .i64 (j : Int) ∧ Hid (CS w hb w2.heap.size NS NS m f f (.slice (some ⟨gq, 0, none⟩) 20 qc) wr)) (fun i _ => nn - (intOf i).toNat)
                case atStart => exact ⟨0, by omega, rfl, HC3⟩
                case round =>
                  clear HC3 p9
                  obtain ⟨j, hj, rfl, HC4⟩ := hrel
                  by_cases hjn : j < nn
                  · obtain ⟨H3, hR, hH⟩ := HC4.out.H
                    have hth : (⟨10000, Hp.arrs NS f⟩ : Hp.Hs).thing ((k3 : Int) + 1) = some ⟨-1, [Hp.tJ], (List.range nn).map fun j : Nat => ⟨2, f ((k3 : Int) + 1) (j : Int)⟩⟩ := by
                      unfold Hp.Hs.thing
                      rw [if_pos (by omega), show ((k3 : Int) + 1 - 1).toNat = k3 by omega]
                      exact Hp.arrs_at HNN.out
                    have e1 := (Hp.el_ok (v := Hp.V0) (i := j) (u := ⟨2, f ((k3 : Int) + 1) (j : Int)⟩) hth rfl rfl (by simp [hjn])).1
                    have hLd := Load_any hR (arrs_ok HNS.out.2 HNS.out.1) ((k3 : Int) + 1) (j : Int) (by have := HNS.out.1; have := HM.out; omega)
                    rw [e1, hH] at hLd
                    unfold vA at hLd
                    dsimp only at hLd
                    have HL := hid hLd
                    clear hLd e1 hth hR hH
                    have hkb : k3 ≤ 20 := by have := HNS.out.1; have := HM.out; omega
                    go_wp2_with fail
                    refine HL.out.mono ?_
                    rintro e w3 ⟨rfl, hb3⟩
                    have HC5 := hid (HC4.out.below hb3)
                    have hlook := fun d => ((HC5.out.below ((Below.refl _ _).alloc (Nat.le_refl _) (.cells #[.int .i64 2, .int .i64 (f ((k3 : Int) + 1) (j : Int))] 35))).below (below_drewN _ d)).wm.look ((k3 : Int) + 1) (j : Int) (by unfold I8; omega) (by unfold I8; omega)
                    go_wp2
                    go_quiet (fail)
                    go_wp2
                    go_roundw
                    case rel => exact ⟨j + 1, by omega, by go_num, HC5.out.below (by repeat' first | with_reducible exact Below.refl _ _ | with_reducible assumption | with_reducible refine belows_drewN ?_ _ | with_reducible refine Below.drew ?_ | with_reducible refine Below.setCell ?_ ?_ _ | with_reducible refine Below.alloc ?_ ?_ _ | omega | (simp; done) | (simp; omega))⟩
                    case measure => simp [intOf] <;> omega
                  · obtain rfl : j = nn := by omega
                    go_wp2
                    go_roundw
                    case rel => exact ⟨k3 + 1, by omega, by go_num, HC4⟩
                    case measure => simp [intOf] <;> omega
              · go_wp2
                go_ret
                exact ⟨rfl, HC3.out.bel⟩
end Go.Proofs.Ytkikdjphmnbmaaa
namespace Go.Proofs.Ytkikdjphmnbmaaa.heapCellsCard
open Go.ChangeShapes Go.WideShapes Go.ChangeAt Go.RowKit
theorem own : ownKnob Try.prog.godebug = none := by kernel_rfl
set_option maxRecDepth 100000 in
theorem contract (H : Type) (enc : TypeId × Value → H) (W : World) (base : Nat) (args : Array Value) (ds gs : List (DataW H)) (before : List MemPlace)
    (hval : ∀ (j : Nat) t v, Try.f4.params[j]? = some t → args[j]? = some v → Value.okWide Try.prog W .any base t v)
    (hW : DataW.Whole enc Try.prog Try.f4.params.toList Rows.heapCellsSpec.vars false W args.toList ds gs before)
    (hsz : (DataW.weightsEach Try.prog (Try.f4.params.toList ++ (OpenSpec.ofChange Rows.heapCellsSpec).bare.plain.varTypes Try.prog) (ds ++ gs)).all (· ≤ reachBytes) = true) :
    Calls Try.prog 4 args W fun e W' => ∃ v, e = .returned v ∧ Rows.heapCellsSpec.post enc Try.prog Try.f4 false true false false W args v W' := by
  have hW' := hW
  obtain ⟨p, q, hA0, hV, rfl, hfz, hnd⟩ := hW
  have hA : DataW.TrodAll enc Try.prog W 0 (fun _ => true) true Try.f4.params.toList args.toList ds p := hA0
  rw [Try.params4] at hA hval hsz
  obtain ⟨v0, vs0, d0, ds0, p0, q0, hargs, rfl, rfl, h0, r0⟩ := trodAll_cons hA
  obtain ⟨v1, vs1, d1, ds1, p1, q1, rfl, rfl, rfl, h1, r1⟩ := trodAll_cons r0
  obtain ⟨rfl, rfl, rfl⟩ := trodAll_nil r1
  obtain rfl : args = #[v0, v1] := by cases args; simp_all
  obtain ⟨rfl, rfl⟩ := trodVars_none hV
  obtain ⟨x0, wx0, wg0⟩ := open_u8 (hval 0 43 v0 rfl rfl) h0 (weights_eachT (j := 0) (t := 43) (d := d0) rfl rfl hsz)
  obtain ⟨x1, wx1, wg1⟩ := open_ops (hval 1 22 v1 rfl rfl) h1 (weights_eachT (j := 1) (t := 22) (d := d1) rfl rfl hsz)
  refine (cells_law x0 x1 _ _ W wx0 wg0 wx1 wg1).mono fun e W' ⟨he, hb⟩ => ?_
  subst he
  exact ⟨_, rfl, Kit.law_post rfl rfl Try.underlying4 (by kernel_rfl) (by decide +kernel) hW' rfl hb⟩
theorem reads (os : Os) {H : Type} (enc : TypeId × Value → H) : ∃ places, DataW.whole enc Try.prog ((World.holding Try.prog os ⟨#[], #[], []⟩).forCall (fun _ _ => 0) ⟨#[], #[.slice none 0 0, .slice none 0 0], []⟩).memory Try.f4.params.toList Rows.heapCellsSpec.vars false (#[.slice none 0 0, .slice none 0 0] : Array Value).toList 8 = some ([.nil, .nil], [], places) :=
  ⟨[], by kernel_rfl⟩
theorem laid_met (os : Os) : laidMet Try.prog Rows.heapCellsRow.laid ((World.holding Try.prog os ⟨#[], #[], []⟩).forCall (fun _ _ => 0) ⟨#[], #[.slice none 0 0, .slice none 0 0], []⟩).memory :=
  laidMet_of_run' 8 (by kernel_rfl) (by kernel_rfl)
set_option maxRecDepth 100000 in
theorem lifted (os : Os) (started : os.Started) (H : Type) (enc : TypeId × Value → H) (F : Stop.Interp) :
    ReturnsInHanded {} Try.checked os 4 .any ((OpenSpec.ofChange Rows.heapCellsSpec).preRow enc Try.prog Try.f4 Rows.heapCellsRow.domain false Rows.heapCellsRow.laid) (((OpenSpec.ofChange Rows.heapCellsSpec).at F).post enc Try.prog Try.f4 false true false false) := by
  obtain ⟨places, hx⟩ := reads os enc
  refine returnsInHanded_of_row (C := Try.checked) (s := (OpenSpec.ofChange Rows.heapCellsSpec)) own started (by kernel_rfl) Try.func4
    (witness_row_at (enc := enc) (C := Try.checked) false (World.holding Try.prog os ⟨#[], #[], []⟩) #[.slice none 0 0, .slice none 0 0] rfl (by kernel_rfl) (by kernel_rfl) (by kernel_rfl)
      (OpenSpec.preRow_of_cond 8 hx (by kernel_rfl) (fun k hk => by cases hk) (by kernel_rfl) (laid_met os))) ?_
  intro W base args ds gs before hval hW _ _ hsz _ _ _
  exact contract H enc W base args ds gs before hval hW hsz
theorem proved : Rows.HeapCellsSaid :=
  OpenClaim.holds_of_cond 4 Try.f4 rfl rfl rfl rfl rfl rfl rfl ⟨rfl, rfl, rfl, rfl, rfl⟩ rfl rfl rfl rfl rfl (by kernel_rfl) Try.func4 (by kernel_rfl)
    (of_decide_eq_true (by kernel_rfl)) (by unfold Func.isWrapper; first | (rw [if_pos (by decide +kernel)]; kernel_rfl) | (rw [if_neg (by decide +kernel)]; exact ⟨rfl, rfl⟩))
    (fun os started H enc _ F => by rw [OpenClaim.pre_eq_preRow]; exact lifted os started H enc F)
end Go.Proofs.Ytkikdjphmnbmaaa.heapCellsCard

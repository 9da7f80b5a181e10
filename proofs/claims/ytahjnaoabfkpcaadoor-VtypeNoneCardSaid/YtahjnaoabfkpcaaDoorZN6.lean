/- VtypeNone is true for all shapes, as long as the two tables of unicode/utf8 hold what the text of the program lays there (the card ties them). -/
import Derived.Test.YtahjnaoabfkpcaaDoorZN5
import Derived.Test.YtahjnaoabfkpcaaDoorRows
import Derived.ChangeSlices
namespace Go.Proofs.YtahjnaoabfkpcaaDoor
open Go Go.RowKit
open Ty (bl mk br T)
theorem Rw.nil (w : World) (B : Nat) : Rw w B (.slice none 0 0) 0 := ⟨[], rfl, .inl ⟨rfl, rfl⟩⟩
/-- What JoinAll begins with: both lists' room. -/
def JaS (W : World) (sB : Nat) (lv sv : Value) (X : World) : Prop := BX X sB #[lv, sv] 43 ∧ Rw X W.heap.size lv 0 ∧ Rw X W.heap.size sv 0 ∧ (∀ j, lv.ownBlock = some j → sv.ownBlock ≠ some j) ∧ W.heap.size ≤ sB ∧ Below W.heap.size W X
theorem Rw.keep {w w' : World} {base : Nat} {v : Value} {n : Nat} {S : Nat → Prop} (h : Rw w base v n) (hc : Chg S w w') (hs : ∀ j, v.ownBlock = some j → ¬ S j) : Rw w' base v n := by
  obtain ⟨xs, h⟩ := h
  exact ⟨xs, owns_chg h hc hs⟩
theorem Rw.low {w : World} {base : Nat} {v : Value} {n : Nat} (h : Rw w base v n) : ∀ j, v.ownBlock = some j → base ≤ j ∧ j < w.heap.size := by
  obtain ⟨xs, h⟩ := h
  exact fun j e => ⟨Kit.own_base h j e, Kit.own_lt h j e⟩
theorem JaS.alloc {W X : World} {lv sv : Value} (o1 : Rw X W.heap.size lv 0) (o2 : Rw X W.heap.size sv 0) (nd : ∀ j, lv.ownBlock = some j → sv.ownBlock ≠ some j) (hb : Below W.heap.size W X) : JaS W X.heap.size lv sv (X.alloc (.cells #[lv, sv] 43)) :=
  ⟨BX.new X _ _, o1.below ((Below.refl _ _).alloc (Nat.le_refl _) _), o2.below ((Below.refl _ _).alloc (Nat.le_refl _) _), nd, hb.size, hb.alloc hb.size _⟩
theorem JaS.store {W X : World} {wb : Nat} {u0 u1 lv sv : Value} (hw : BX X wb #[u0, u1] 43) (hl : W.heap.size ≤ wb) (o1 : Rw X W.heap.size lv 0) (o2 : Rw X W.heap.size sv 0) (nd : ∀ j, lv.ownBlock = some j → sv.ownBlock ≠ some j) (hb : Below W.heap.size W X) : JaS W wb lv sv ((X.setCell ⟨wb, 0, none⟩ lv).setCell ⟨wb, 1, none⟩ sv) := by
  have hcs : Chg (fun i => i = wb) X ((X.setCell ⟨wb, 0, none⟩ lv).setCell ⟨wb, 1, none⟩ sv) := ((Chg.refl (fun i => i = wb) X).set (p := ⟨wb, 0, none⟩) (.inl rfl) _).set (p := ⟨wb, 1, none⟩) (.inl rfl) _
  exact ⟨box_set (box_set hw 0 lv) 1 sv, o1.keep hcs (fun j e e2 => o1.apart hw (by decide) j e e2), o2.keep hcs (fun j e e2 => o2.apart hw (by decide) j e e2), nd, hl, (hb.setCell (p := ⟨wb, 0, none⟩) hl _).setCell (p := ⟨wb, 1, none⟩) hl _⟩
theorem JaS.drew {W X : World} {wb : Nat} {lv sv : Value} (h : JaS W wb lv sv X) : JaS W wb lv sv X.drew := by
  obtain ⟨h1, h2, h3, h4, h5, h6⟩ := h
  have hb : Below X.heap.size X X.drew := Below.drew (Below.refl _ _)
  exact ⟨h1.below hb, h2.below hb, h3.below hb, h4, h5, Below.drew h6⟩
/-- Where JoinAll stands in the locals. -/
def JaP (W4 W5 : World) (sB : Nat) (sv : Value) (i : Nat) (X : World) : Prop := Chg (fun q => q = sB ∨ W4.heap.size ≤ q ∧ sv.ownBlock ≠ some q) W5 X ∧ ∃ lv, BX X sB #[lv, sv] 43 ∧ Rw X W4.heap.size lv i ∧ (∀ j, lv.ownBlock = some j → sv.ownBlock ≠ some j)
/-- Where JoinAll stands in the stack. -/
def JaQ (W4 W5 : World) (sB i : Nat) (X : World) : Prop := Chg (fun q => q = sB ∨ W4.heap.size ≤ q) W5 X ∧ ∃ lv m sv, BX X sB #[lv, sv] 43 ∧ Rw X W4.heap.size sv i ∧ lv.oneCell' = true ∧ lv = .slice (m : Option Addr × Nat × Nat).1 m.2.1 m.2.2
theorem JaP.below {W4 W5 X Y : World} {sB i : Nat} {sv : Value} (h : JaP W4 W5 sB sv i X) (hb : Below X.heap.size X Y) : JaP W4 W5 sB sv i Y := by
  obtain ⟨h1, lv, h2, h3, h4⟩ := h
  exact ⟨h1.below hb, lv, h2.below hb, h3.below hb, h4⟩
theorem JaQ.below {W4 W5 X Y : World} {sB i : Nat} (h : JaQ W4 W5 sB i X) (hb : Below X.heap.size X Y) : JaQ W4 W5 sB i Y := by
  obtain ⟨h1, lv, m, sv, h2, h3, h4⟩ := h
  exact ⟨h1.below hb, lv, m, sv, h2.below hb, h3.below hb, h4⟩
theorem chg_bel {w W4 W5 X : World} {sB : Nat} {S : Nat → Prop} (hb4 : Below w.heap.size w W4) (hb : Below w.heap.size w W5) (hs : w.heap.size ≤ sB) (hS : ∀ q, S q → q = sB ∨ W4.heap.size ≤ q) (hc : Chg S W5 X) : Below w.heap.size w X :=
  hb.trans (hc.to_below (fun q e => by have := hb4.size; rcases hS q e with e | e <;> omega) hb.size)
theorem chg_tys {w W4 W5 X : World} {sB : Nat} {S : Nat → Prop} {v : Value} {l : List T} (h : TyS w v l) (hb4 : Below w.heap.size w W4) (hb : Below w.heap.size w W5) (hs : w.heap.size ≤ sB) (hS : ∀ q, S q → q = sB ∨ W4.heap.size ≤ q) (hc : Chg S W5 X) : TyS X v l := h.below (chg_bel hb4 hb hs hS hc)
set_option maxRecDepth 100000
set_option maxHeartbeats 2000000
theorem JoinAll_self {w : World} {v1 v2 : Value} {l1 l2 : List T} (h1 : TyS w v1 l1) (h2 : TyS w v2 l2) (n1 : ∀ x ∈ l1, x.n.size ≤ maxLen) (n2 : ∀ x ∈ l2, x.n.size ≤ maxLen) (b1 : l1.length * 24 ≤ 140737488355328) (b2 : l2.length * 24 ≤ 140737488355328) :
    Calls Tryd.prog 23 #[.pointer none, .agg #[v1, v2], .agg #[v1, v2]] w fun e w' => ∃ jl js b m, e = .returned (.tuple #[.agg #[jl, js], .bool b]) ∧ m ≤ l2.length ∧ Rw w' w.heap.size js m ∧ Below w.heap.size w w' ∧ ∃ a n c, jl = .slice a n c := by
  have H1 := hid h1
  have H2 := hid h2
  have N1 := hid n1
  have N2 := hid n2
  have B1 := hid b1
  have B2 := hid b2
  obtain ⟨a1, p1, rfl⟩ := Kit.IsS.len h1
  obtain ⟨a2, p2, rfl⟩ := Kit.IsS.len h2
  clear h1 h2 n1 n2 b1 b2
  go_enter Tryd.func23, Tryd.ntmps23
  go_upto_region 1 with fail
  refine region_named fun W hW => ?_
  have hb : Below w.heap.size w W := by rw [hW]; exact (by repeat' first | with_reducible exact Below.refl _ _ | with_reducible assumption | with_reducible refine belows_drewN ?_ _ | with_reducible refine Below.drew ?_ | with_reducible refine Below.setCell ?_ ?_ _ | with_reducible refine Below.alloc ?_ ?_ _ | omega | (simp; done) | (simp; omega))
  have hsz : W.heap.size = w.heap.size + 4 := by rw [hW]; simp
  have z0 : BX W w.heap.size #[.pointer none] 35 := by
    rw [hW]
    exact (BX.new w _ _).below (by repeat' first | with_reducible exact Below.refl _ _ | with_reducible assumption | with_reducible refine belows_drewN ?_ _ | with_reducible refine Below.drew ?_ | with_reducible refine Below.setCell ?_ ?_ _ | with_reducible refine Below.alloc ?_ ?_ _ | omega | (simp; done) | (simp; omega))
  have z1 : BX W (w.heap.size + 1) #[.slice a1 l1.length p1, .slice a2 l2.length p2] 43 := by
    rw [hW]
    have := BX.new (w.alloc (.cells #[.pointer none] 35)) #[.slice a1 l1.length p1, .slice a2 l2.length p2] 43
    simp only [World.size_alloc] at this
    exact this.below (by repeat' first | with_reducible exact Below.refl _ _ | with_reducible assumption | with_reducible refine belows_drewN ?_ _ | with_reducible refine Below.drew ?_ | with_reducible refine Below.setCell ?_ ?_ _ | with_reducible refine Below.alloc ?_ ?_ _ | omega | (simp; done) | (simp; omega))
  have z2 : BX W (w.heap.size + 1 + 1) #[.slice a1 l1.length p1, .slice a2 l2.length p2] 43 := by
    rw [hW]
    have := BX.new ((w.alloc (.cells #[.pointer none] 35)).alloc (.cells #[.slice a1 l1.length p1, .slice a2 l2.length p2] 43)) #[.slice a1 l1.length p1, .slice a2 l2.length p2] 43
    simp only [World.size_alloc] at this
    exact this.below (by repeat' first | with_reducible exact Below.refl _ _ | with_reducible assumption | with_reducible refine belows_drewN ?_ _ | with_reducible refine Below.drew ?_ | with_reducible refine Below.setCell ?_ ?_ _ | with_reducible refine Below.alloc ?_ ?_ _ | omega | (simp; done) | (simp; omega))
  have z3 : BX W (w.heap.size + 1 + 1 + 1) #[.slice none 0 0, .slice none 0 0] 43 := by
    rw [hW]
    have := BX.new (((w.alloc (.cells #[.pointer none] 35)).alloc (.cells #[.slice a1 l1.length p1, .slice a2 l2.length p2] 43)).alloc (.cells #[.slice a1 l1.length p1, .slice a2 l2.length p2] 43)) #[.slice none 0 0, .slice none 0 0] 43
    simp only [World.size_alloc] at this
    exact this
  clear hW
  obtain ⟨s0, hs0⟩ : ∃ s, w.heap.size = s := ⟨_, rfl⟩
  have HS0 := hid hs0
  rw [hs0] at hb hsz z0 z1 z2 z3 ⊢
  have hbw : Below w.heap.size w W := by rw [hs0]; exact hb
  obtain ⟨n1, hn1⟩ : ∃ n, l1.length = n := ⟨_, rfl⟩
  obtain ⟨n2, hn2⟩ : ∃ n, l2.length = n := ⟨_, rfl⟩
  have HN1 := hid hn1
  have HN2 := hid hn2
  have HG1 := hid (fun X => tgrow_any l1.length B1.out X)
  have HG2 := hid (fun X => tgrow_any l2.length B2.out X)
  rw [hn1] at HG1
  rw [hn2] at HG2
  rw [hn1, hn2] at z1 z2 ⊢
  have Z0 := hid z0
  have Z1 := hid z1
  have Z2 := hid z2
  have Z3 := hid z3
  have HBw := hid hbw
  have HSz := hid hsz
  have HSx := hid (fun X (hX : Below W.heap.size W X) => (⟨(Z1.out.below hX).cell 0, (Z1.out.below hX).cell 1⟩ : X.cell? ⟨s0 + 1, 0, none⟩ = some (.slice a1 n1 p1) ∧ X.cell? ⟨s0 + 1, 1, none⟩ = some (.slice a2 n2 p2)))
  have HBc : Hid (Below W.heap.size W W.drew) := Below.drew (Below.refl W.heap.size W)
  have x0 := HSx.out _ (Below.refl W.heap.size W)
  have hz : s0 + 1 < W.heap.size := z1.sz
  clear z0 z1 z2 z3 hb hbw hs0 hsz hn1 hn2
  go_cut [8] (fun s wx => ∃ (sB : Nat) (la : Option Addr) (lc : Nat) (sa : Option Addr) (sc : Nat), s = .pointer (some ⟨sB, 0, none⟩) ∧ Hid (JaS W sB (.slice la 0 lc) (.slice sa 0 sc) wx))
  case first =>
    go_region_held3 (fun X => X.cell? ⟨s0 + 1, 0, none⟩ = some (.slice a1 n1 p1) ∧ X.cell? ⟨s0 + 1, 1, none⟩ = some (.slice a2 n2 p2))
      (first | exact x0 | exact ⟨(bx_setCell (i := 1) (bx_setCell (i := 0) xs nb _) nb _).cell 0, (bx_setCell (i := 1) (bx_setCell (i := 0) xs nb _) nb _).cell 1⟩ | go_keep)
      (first
        | ((fail_if_success (have _g := HO1)); go_at_call 37; (with_reducible refine (HG1.out _).mono ?_); rintro e X ⟨va, rfl, ho, hb⟩; obtain ⟨la, lc, rfl⟩ := ho.form; first
            | (have hbc := belows HBc.out hb HBc.out.size; have HO1 := hid (ho.mono HBc.out.size); clear HBc ho hb; have HBc := hid hbc; clear hbc x0; have x0 := HSx.out _ HBc.out)
            | (have hbd : Below W.heap.size W ((W.alloc (.cells #[.slice none 0 0, .slice none 0 0] 43)).drew) := Below.drew ((Below.refl W.heap.size W).alloc (Nat.le_refl _) _); have hbc := belows hbd hb hbd.size; have HO1 := hid (ho.mono hbd.size); have HWb := hid (((BX.new W #[.slice none 0 0, .slice none 0 0] 43).below (Below.drew (Below.refl _ _))).below hb); have HWl : Hid (W.heap.size ≤ W.heap.size) := Nat.le_refl _; clear HBc ho hb; have HBc := hid hbc; clear hbc hbd x0; have x0 := HSx.out _ HBc.out; have r0 : X.cell? ⟨W.heap.size, 0, none⟩ = some (.slice none 0 0) := HWb.out.cell 0; have r1 : X.cell? ⟨W.heap.size, 1, none⟩ = some (.slice none 0 0) := HWb.out.cell 1; have g0 := HWb.out.frozen 0; have g1 := HWb.out.frozen 1))
        | (have _g := HO1; (fail_if_success (have _g := HWb)); go_at_call 37; (with_reducible refine (HG2.out _).mono ?_); rintro e X ⟨vb, rfl, ho, hb⟩; obtain ⟨sa, sc, rfl⟩ := ho.form; have hbc := belows HBc.out hb HBc.out.size; have HND := hid (fun j (e : (Value.slice la 0 lc).ownBlock = some j) (e2 : (Value.slice sa 0 sc).ownBlock = some j) => Nat.lt_irrefl _ (Nat.lt_of_lt_of_le (HO1.out.low j e).2 (ho.low j e2).1)); have HO2 := hid (ho.mono HBc.out.size); have HOq := hid (HO1.out.below hb); clear HO1; have HO1 := HOq; clear HOq HBc; clear ho hb; have HBc := hid hbc; clear hbc x0; have x0 := HSx.out _ HBc.out; have xs := Z1.out.below HBc.out)
        | (have _g := HO1; have _g := HWb; go_at_call 37; (with_reducible refine (HG2.out _).mono ?_); rintro e X ⟨vb, rfl, ho, hb⟩; obtain ⟨sa, sc, rfl⟩ := ho.form; have hbc := belows HBc.out hb HBc.out.size; have HND := hid (fun j (e : (Value.slice la 0 lc).ownBlock = some j) (e2 : (Value.slice sa 0 sc).ownBlock = some j) => Nat.lt_irrefl _ (Nat.lt_of_lt_of_le (HO1.out.low j e).2 (ho.low j e2).1)); have HO2 := hid (ho.mono HBc.out.size); have HOq := hid (HO1.out.below hb); clear HO1; have HO1 := HOq; clear HOq HBc; have HWq := hid (HWb.out.below hb); clear HWb r0 r1 g0 g1; have HWb := HWq; clear HWq; have r0 : X.cell? ⟨W.heap.size, 0, none⟩ = some (.slice none 0 0) := HWb.out.cell 0; have r1 : X.cell? ⟨W.heap.size, 1, none⟩ = some (.slice none 0 0) := HWb.out.cell 1; have g0 := HWb.out.frozen 0; have g1 := HWb.out.frozen 1; have nb : s0 + 1 ≠ W.heap.size := Nat.ne_of_lt hz; clear ho hb; have HBc := hid hbc; clear hbc x0; have x0 := HSx.out _ HBc.out; have xs := Z1.out.below HBc.out)
        | (have _g := HO1; (fail_if_success (have _g := HWb)); go_at_call 37; (with_reducible refine (HG2.out _).mono ?_); rintro e X ⟨vb, rfl, ho, hb⟩; obtain ⟨sa, sc, rfl⟩ := ho.form; have hbd := belows HBc.out ((Below.refl _ _).alloc (Nat.le_refl _) (.cells #[.slice none 0 0, .slice none 0 0] 43)) HBc.out.size; have hbc := belows hbd hb hbd.size; have HOa := hid (HO1.out.below ((Below.refl _ _).alloc (Nat.le_refl _) (.cells #[.slice none 0 0, .slice none 0 0] 43))); have HND := hid (fun j (e : (Value.slice la 0 lc).ownBlock = some j) (e2 : (Value.slice sa 0 sc).ownBlock = some j) => Nat.lt_irrefl _ (Nat.lt_of_lt_of_le (HOa.out.low j e).2 (ho.low j e2).1)); have HO2 := hid (ho.mono hbd.size); have HWb := hid ((BX.new _ #[.slice none 0 0, .slice none 0 0] 43).below hb); have HWl := hid HBc.out.size; clear HO1; have HO1 := hid (HOa.out.below hb); have nb := Nat.ne_of_lt (Nat.lt_of_lt_of_le hz HWl.out); have r0 : X.cell? ⟨_, 0, none⟩ = some (.slice none 0 0) := HWb.out.cell 0; have r1 : X.cell? ⟨_, 1, none⟩ = some (.slice none 0 0) := HWb.out.cell 1; have g0 := HWb.out.frozen 0; have g1 := HWb.out.frozen 1; clear HOa HBc hbd; clear ho hb; have HBc := hid hbc; clear hbc x0; have x0 := HSx.out _ HBc.out; have xs := Z1.out.below HBc.out))
    all_goals
      go_wp2
      go_meet
      first
        | exact ⟨_, _, _, _, _, rfl, hid (JaS.alloc HO1.out HO2.out HND.out HBc.out)⟩
        | exact ⟨_, _, _, _, _, rfl, hid (JaS.store HWb.out (HWl.out) HO1.out HO2.out HND.out HBc.out)⟩
  case rest =>
    obtain ⟨sB, la0, lc0, sa0, sc0, rfl, HJ⟩ := hcut
    obtain ⟨W5, hW5⟩ : ∃ W5, W5 = wc := ⟨_, rfl⟩
    rw [← hW5] at HJ ⊢
    clear hW5
    obtain ⟨z4, r1, r2, nd, hsB, hb5⟩ := HJ.out
    have e1 := HN1.out
    have e2 := HN2.out
    subst e1 e2
    have hsz := HSz.out
    have hs0 := HS0.out
    have hbw : Below w.heap.size w W5 := belows HBw.out hb5 HBw.out.size
    have hsB2 : w.heap.size ≤ sB := by omega
    have z0 := Z0.out.below hb5
    have z1 := Z1.out.below hb5
    have z2 := Z2.out.below hb5
    have z3 := Z3.out.below hb5
    have hS1 : ∀ q, (q = sB ∨ W.heap.size ≤ q ∧ (Value.slice sa0 0 sc0).ownBlock ≠ some q) → q = sB ∨ W.heap.size ≤ q := fun q e => e.imp_right And.left
    have HRk := hid (fun (X : World) (hc : Chg (fun q => q = sB ∨ W.heap.size ≤ q ∧ (Value.slice sa0 0 sc0).ownBlock ≠ some q) W5 X) => r2.keep hc (fun j e he => by
      rcases he with he | he
      · exact r2.apart z4 (by decide) j e he
      · exact he.2 e))
    have HP0 : Hid (JaP W W5 sB (.slice sa0 0 sc0) 0 W5) := ⟨Chg.refl _ _, _, z4, r1, nd⟩
    have HA1 := hid (alike1_any (w := W5) (v := .slice a1 l1.length p1) (l := l1) (c1 := .pointer (some ⟨sB, 0, none⟩)) (c2 := .pointer (some ⟨s0, 0, none⟩)) (JaP W W5 sB (.slice sa0 0 sc0)) (fun i X Y hP hb => hP.below hb) (fun i X hP => chg_tys H1.out HBw.out hbw hsB2 hS1 hP.1)
      (fun i x X hx hP => by
        obtain ⟨hc, lv, q1, q2, q3⟩ := hP
        have hi := (List.getElem?_eq_some_iff.1 hx).1
        have hb1 := B1.out
        refine (j1_any (N1.out x (List.mem_of_getElem? hx)) (z0.chg hc (by omega)) q1 q2 (Nat.le_trans hb5.size hc.size) (by omega)).mono ?_
        rintro e Y ⟨rfl, lv', y1, y2, y3, y4⟩
        refine ⟨true, rfl, hc.trans y3 (fun q e => .inl (e.imp_right (fun e => ⟨(q2.low q e).1, q3 q e⟩))), lv', y1, y2, fun j e => ?_⟩
        rcases y4 with y4 | ⟨g, y4, y5⟩
        · exact q3 j (y4 ▸ e)
        · intro e2
          have h1 := (r2.low j e2).2
          have h2 : g = j := by rw [y4] at e; simpa using e
          have h3 := hc.size
          omega) HP0.out)
    have HA2 := hid (fun (X1 : World) (hQ : JaQ W W5 sB 0 X1) => alike2_any (w := X1) (v := .slice a2 l2.length p2) (l := l2) (c1 := .pointer (some ⟨s0, 0, none⟩)) (c2 := .pointer (some ⟨sB, 0, none⟩)) (JaQ W W5 sB) (fun i X Y hP hb => hP.below hb) (fun i X hP => chg_tys H2.out HBw.out hbw hsB2 (fun _ e => e) hP.1)
      (fun i x X hx hP => by
        obtain ⟨hc, lv, m, sv, q1, q2, q3⟩ := hP
        have hi := (List.getElem?_eq_some_iff.1 hx).1
        have hb2 := B2.out
        refine (j2_any (N2.out x (List.mem_of_getElem? hx)) (z0.chg hc (by omega)) q1 q2 (Nat.le_trans hb5.size hc.size) (by omega)).mono ?_
        rintro e Y ⟨b, rfl, sv', y1, y2, y3⟩
        exact ⟨b, rfl, hc.trans y3 (fun q e => .inl e), lv, m, sv', y1, y2, q3⟩) hQ)
    have HFx := hid (fun (X : World) (hc : Chg (fun q => q = sB ∨ W.heap.size ≤ q) W5 X) => (⟨(z1.chg hc (by omega)).cell 1, (z2.chg hc (by omega)).cell 1, (z3.chg hc (by omega)).cell 0, (z3.chg hc (by omega)).cell 1, (z3.chg hc (by omega)).frozen 0, (z3.chg hc (by omega)).frozen 1, hc.size⟩ : X.cell? ⟨s0 + 1, 1, none⟩ = some (.slice a2 l2.length p2) ∧ X.cell? ⟨s0 + 1 + 1, 1, none⟩ = some (.slice a2 l2.length p2) ∧ X.cell? ⟨s0 + 1 + 1 + 1, 0, none⟩ = some (.slice none 0 0) ∧ X.cell? ⟨s0 + 1 + 1 + 1, 1, none⟩ = some (.slice none 0 0) ∧ X.frozen? ⟨s0 + 1 + 1 + 1, 0, none⟩ = false ∧ X.frozen? ⟨s0 + 1 + 1 + 1, 1, none⟩ = false ∧ W5.heap.size ≤ X.heap.size))
    have c0 : W5.cell? ⟨s0 + 1, 0, none⟩ = some (.slice a1 l1.length p1) := z1.cell 0
    have c1 : W5.cell? ⟨s0 + 1 + 1, 0, none⟩ = some (.slice a1 l1.length p1) := z2.cell 0
    have HB5 := hid hbw
    have HS1 := hid hS1
    have HSB2 := hid hsB2
    have hz5 : s0 + 1 + 1 + 1 < W5.heap.size := z3.sz
    clear z0 z1 z2 z3 z4 r1 r2 nd hsB hb5 hbw hsz hs0 hsB2 hS1 x0
    go_upto_region 4 with fail
    go_wp2_with (first
      | ((fail_if_success (have _g := HQ1)); go_at_call 40; (with_reducible refine HA1.out.mono ?_); rintro e X1 ⟨t1, m1, rfl, hm1, hc1, lv, q1, q2, q3⟩; obtain ⟨la, lc, rfl⟩ := q2.form; have hc2 := hc1.mono (fun q _ e => HS1.out q e); have HQ1 : Hid (JaQ W W5 sB 0 X1) := ⟨hc2, _, (la, m1, lc), _, q1, HRk.out _ hc1, rfl, rfl⟩; have HC1 := hid hc2; obtain ⟨d1, d2, d3, d4, d5, d6, d7⟩ := HFx.out X1 hc2; clear hc1 hc2 q1 q2 q3 hm1 c0 c1; rcases t1 with _ | _)
      | (have _g := HQ1; go_at_call 40; (with_reducible refine (HA2.out _ HQ1.out).mono ?_); rintro e X2 ⟨t2, m2, rfl, hm2, hc2, lv2, ⟨ka, kn, kc⟩, sv, q1, q2, q3, q4⟩; dsimp only at q4; subst q4; obtain ⟨ta, tc, rfl⟩ := q2.form; have HR2 := hid q2; have HC2 := hid hc2; have HM2 := hid hm2; have k0 : X2.cell? ⟨sB, 0, none⟩ = some (.slice ka kn kc) := q1.cell 0; have k1 : X2.cell? ⟨sB, 1, none⟩ = some (.slice ta m2 tc) := q1.cell 1; clear d1 d2 d3 d4 d5 d6 d7; obtain ⟨d1, d2, d3, d4, d5, d6, d7⟩ := HFx.out X2 hc2; clear hc2 q1 q2 q3 hm2; rcases t2 with _ | _))
    · have hbl := chg_bel HBw.out HB5.out HSB2.out (fun _ e => e) HC1.out
      have hs0 := HS0.out
      exact bodyPost_ret (v := .tuple #[.agg #[.slice none 0 0, .slice none 0 0], .bool false]) (by simp [results, Tryd.results23, go_sem, d3, d4]) rfl ⟨_, _, _, 0, rfl, Nat.zero_le _, Rw.nil _ _, (hbl.setCell (p := ⟨s0 + 1 + 1 + 1, 0, none⟩) (by show w.heap.size ≤ s0 + 1 + 1 + 1; omega) _).setCell (p := ⟨s0 + 1 + 1 + 1, 1, none⟩) (by show w.heap.size ≤ s0 + 1 + 1 + 1; omega) _, _, _, _, rfl⟩
    · have hbl := chg_bel HBw.out HB5.out HSB2.out (fun _ e => e) HC2.out
      have hs0 := HS0.out
      exact bodyPost_ret (v := .tuple #[.agg #[.slice none 0 0, .slice none 0 0], .bool false]) (by simp [results, Tryd.results23, go_sem, d3, d4]) rfl ⟨_, _, _, 0, rfl, Nat.zero_le _, Rw.nil _ _, (hbl.setCell (p := ⟨s0 + 1 + 1 + 1, 0, none⟩) (by show w.heap.size ≤ s0 + 1 + 1 + 1; omega) _).setCell (p := ⟨s0 + 1 + 1 + 1, 1, none⟩) (by show w.heap.size ≤ s0 + 1 + 1 + 1; omega) _, _, _, _, rfl⟩
    · have hbl := chg_bel HBw.out HB5.out HSB2.out (fun _ e => e) HC2.out
      have hs0 := HS0.out
      exact bodyPost_ret (v := .tuple #[.agg #[.slice ka kn kc, .slice ta m2 tc], .bool true]) (by simp [results, Tryd.results23, go_sem, d3, d4]) rfl ⟨_, _, _, m2, rfl, HM2.out, ((HR2.out.set _ 0 _).set _ 1 _).mono HBw.out.size, (hbl.setCell (p := ⟨s0 + 1 + 1 + 1, 0, none⟩) (by show w.heap.size ≤ s0 + 1 + 1 + 1; omega) _).setCell (p := ⟨s0 + 1 + 1 + 1, 1, none⟩) (by show w.heap.size ≤ s0 + 1 + 1 + 1; omega) _, _, _, _, rfl⟩
end Go.Proofs.YtahjnaoabfkpcaaDoor
namespace Go.Proofs.YtahjnaoabfkpcaaDoor
open Go Go.RowKit
open Ty (bl mk br T)
set_option maxRecDepth 100000
set_option maxHeartbeats 2000000
theorem both_yes {w : World} {lv : Value} {l : List Hi.Ln} (hl : Kit.IsS 2 w lv l.length (l.flatMap lnL)) (hs : ∀ x ∈ l, x.1.size ≤ maxLen ∧ x.2.size ≤ maxLen) (he : Hi.err l = 0) : Calls Tryd.prog 16 #[lv] w fun e w' =>
    ∃ H D rb, e = .returned (.tuple #[.pointer (some ⟨H.hb, 0, none⟩), .pointer (some ⟨rb, 0, none⟩), .bool true]) ∧ Below w.heap.size w w' ∧ HM w' w.heap.size H ∧ HOk H (Hi.sup (Hi.bl ++ l)) D ∧ H.names = Hi.nms (Hi.bl ++ l) ∧ H.nm = Hi.nmf (Hi.bl ++ l) ∧ H.n = 8 + l.length := by
  have H1 := hid (New_any hl hs)
  have H2 := hid (fun W (hW : Below w.heap.size w W) => rNew_any (hl.below hW (Nat.le_refl _)))
  unfold NewP at H1
  unfold RNewP at H2
  rw [he] at H1 H2
  clear hl hs he
  go_enter Tryd.func16, Tryd.ntmps16
  go_wp2_with (first | (go_at_call 30; go_loud (refine H1.out.mono ?_; rintro e w1 ⟨v1, rfl, hb1, -, h1⟩; obtain ⟨H, D, rfl, hm, ok, hn, hnm, hnf⟩ := h1 rfl; have HB1 := hid hb1; have HMM := hid hm; have HO := hid ok; have HNN := hid hnm; have HNF := hid hnf; have HNL := hid hn; clear hb1 h1 hm ok hnm hnf hn)) | (go_at_call 31; go_loud (refine (H2.out _ HB1.out).mono ?_; rintro e w2 ⟨v2, rfl, hb2, -, h2⟩; obtain ⟨rb, D2, rfl, -, -⟩ := h2 (by first | rfl | trivial); have HB2 := hid hb2; clear hb2 h2)))
  refine bodyPost_ret (v := .tuple #[.pointer (some ⟨H.hb, 0, none⟩), .pointer (some ⟨rb, 0, none⟩), .bool true]) (by simp [results, Tryd.results16, go_sem]) rfl ?_
  exact ⟨H, D, rb, rfl, belows HB1.out HB2.out HB1.out.size, HMM.out.below HB2.out, HO.out, HNN.out, HNF.out, HNL.out⟩
theorem live1_any (s : ByteArray) (w : World) : Calls Tryd.prog 29 #[.string s] w fun e w' => e = .returned (.agg #[.int .i64 4, .string s]) ∧ Below w.heap.size w w' := by
  go_enter Tryd.func29, Tryd.ntmps29
  go_wp2
  exact bodyPost_ret (v := .agg #[.int .i64 4, .string s]) (by simp [results, Tryd.results29, go_sem]) rfl ⟨rfl, (by repeat' first | with_reducible exact Below.refl _ _ | with_reducible assumption | with_reducible refine belows_drewN ?_ _ | with_reducible refine Below.drew ?_ | with_reducible refine Below.setCell ?_ ?_ _ | with_reducible refine Below.alloc ?_ ?_ _ | omega | (simp; done) | (simp; omega))⟩
/-- live's lines. -/
def lv3 : List Hi.Ln := [(⟨#[67]⟩, Hi.bO), (⟨#[65]⟩, ⟨#[67]⟩), (⟨#[66]⟩, ⟨#[67]⟩)]
def d3 : Nat → Nat := fun k => match k with | 0 => 0 | 1 => 1 | 8 => 1 | _ => 2
theorem tr3 : Hi.Tr 11 (Hi.sup (Hi.bl ++ lv3)) d3 := by
  refine ⟨by omega, fun k _ _ => Hi.sup_lt _ (by decide) k, rfl, fun k h1 hk => ?_⟩
  match k, h1, hk with
  | 1, _, _ | 2, _, _ | 3, _, _ | 4, _, _ | 5, _, _ | 6, _, _ | 7, _, _ | 8, _, _ | 9, _, _ | 10, _, _ => decide
theorem err3 : Hi.err lv3 = 0 := by
  refine err_ok (by decide) (by decide) (fun k x h1 hx => ?_) ⟨d3, tr3⟩
  have hk : k < 11 := (List.getElem?_eq_some_iff.1 hx).1
  match k, h1, hk with
  | 1, _, _ | 2, _, _ | 3, _, _ | 4, _, _ | 5, _, _ | 6, _, _ | 7, _, _ | 8, _, _ | 9, _, _ | 10, _, _ => cases hx; decide
theorem und3 {D : Nat → Nat} (t : Hi.Tr 11 (Hi.sup (Hi.bl ++ lv3)) D) {a b : Nat} (ha : a < 11) (hb : b < 11) : Hi.und (Hi.sup (Hi.bl ++ lv3)) D a b = Hi.und (Hi.sup (Hi.bl ++ lv3)) d3 a b := by
  have e1 := tr3.one t (d3 a) a ha rfl
  have e2 := tr3.one t (d3 b) b hb rfl
  unfold Hi.und
  rw [e1, e2]
theorem cm3 {D : Nat → Nat} (t : Hi.Tr 11 (Hi.sup (Hi.bl ++ lv3)) D) {a b : Nat} (ha : a < 11) (hb : b < 11) : Hi.cm (Hi.sup (Hi.bl ++ lv3)) D a b = Hi.cm (Hi.sup (Hi.bl ++ lv3)) d3 a b := by
  have e1 := tr3.one t (d3 a) a ha rfl
  have e2 := tr3.one t (d3 b) b hb rfl
  unfold Hi.cm
  rw [e1, e2]
def I3 (s : ByteArray) : Option Nat := Hi.idx s (Hi.nms (Hi.bl ++ lv3))
def tA : T := ⟨4, ⟨#[65]⟩⟩
def tB : T := ⟨4, ⟨#[66]⟩⟩
def tC : T := ⟨4, ⟨#[67]⟩⟩
def aA : T := ⟨4, ⟨#[91, 76, 65, 59]⟩⟩
def aB : T := ⟨4, ⟨#[91, 76, 66, 59]⟩⟩
theorem i3_A : I3 tA.n = some 9 := by decide
theorem i3_B : I3 tB.n = some 10 := by decide
theorem i3_C : I3 tC.n = some 8 := by decide
theorem i3_a : I3 aA.n = none := by decide
theorem i3_b : I3 aB.n = none := by decide
theorem e3_a : Ty.elP aA = tA := rfl
theorem e3_b : Ty.elP aB = tB := rfl
theorem v3_a : Ty.val I3 aA = true := by decide
theorem v3_b : Ty.val I3 aB = true := by decide
theorem fit3_1 (U : Nat → Nat → Bool) : Ty.Fit I3 U tA tC = U 9 8 := by
  have h1 : Ty.val I3 tA = true := by decide
  have h2 : Ty.val I3 tC = true := by decide
  have h3 : Ty.fit I3 U tA tC = U 9 8 := by
    unfold Ty.fit Ty.fitF
    rw [if_neg (by decide), if_neg (by decide), if_neg (by decide), if_pos (by decide)]
    unfold Ty.refF
    rw [i3_A, i3_C]
  unfold Ty.Fit
  rw [h1, h2, h3]; rfl
theorem fit3_2 (U : Nat → Nat → Bool) : Ty.Fit I3 U tC tA = U 8 9 := by
  have h1 : Ty.val I3 tA = true := by decide
  have h2 : Ty.val I3 tC = true := by decide
  have h3 : Ty.fit I3 U tC tA = U 8 9 := by
    unfold Ty.fit Ty.fitF
    rw [if_neg (by decide), if_neg (by decide), if_neg (by decide), if_pos (by decide)]
    unfold Ty.refF
    rw [i3_A, i3_C]
  unfold Ty.Fit
  rw [h1, h2, h3]; rfl
theorem live_any (w : World) : Calls Tryd.prog 11 #[] w fun e w' => e = .returned (.bool true) ∧ Below w.heap.size w w' := by
  have hl0 : Kit.IsS 2 (w.alloc (.cells (lv3.flatMap lnL).toArray 59)) (.slice (some ⟨w.heap.size, 0, none⟩) 3 3) lv3.length (lv3.flatMap lnL) :=
    ⟨rfl, by decide, .inr ⟨w.heap.size, 0, 3, rfl, by decide, by simp, fun i u hi => by rw [Nat.zero_add, BX.cell (BX.new w _ _)]; simpa using hi⟩⟩
  have HN := hid (both_yes hl0 (by intro x hx; have : x.1.size ≤ 100 ∧ x.2.size ≤ 100 := by revert x; decide
                                   unfold maxLen; omega) err3)
  clear hl0
  have hb0 : Below w.heap.size w (w.alloc (.cells (lv3.flatMap lnL).toArray 59)) := (Below.refl _ _).alloc (Nat.le_refl _) _
  have HB0 := hid hb0
  obtain ⟨W0, hW0⟩ : ∃ W0, W0 = w.alloc (.cells (lv3.flatMap lnL).toArray 59) := ⟨_, rfl⟩
  have HW0 := hid hW0
  rw [← hW0] at HN HB0
  clear hW0 hb0
  go_enter Tryd.func11, Tryd.ntmps11
  go_wp2_with fail
  change Calls _ _ _ (w.alloc (.cells (lv3.flatMap lnL).toArray 59)) _
  rw [← HW0.out]
  refine HN.out.mono ?_
  rintro e w1 ⟨H, D, rb, rfl, hb1, hm, ok, hnm, hnf, hn⟩
  have hB1 := belows HB0.out hb1 HB0.out.size
  have hq := hm.hq ok
  have hj := hm.hj ok
  have tr := ok.tr
  have hn11 : H.n = 11 := hn
  rw [hn11] at tr
  rw [hnm] at hq hj
  rw [hnf] at hj
  change HQ w1 _ I3 _ at hq
  change HJ w1 _ I3 _ _ at hj
  have hsA : tA.n.size ≤ maxLen := by unfold maxLen; decide
  have hsB : tB.n.size ≤ maxLen := by unfold maxLen; decide
  have hsC : tC.n.size ≤ maxLen := by unfold maxLen; decide
  have hsa : aA.n.size ≤ maxLen := by unfold maxLen; decide
  have hsb : aB.n.size ≤ maxLen := by unfold maxLen; decide
  have HF1 := hid (fun X hX => Fits_any hq hsA hsC X hX)
  have HF2 := hid (fun X hX => Fits_any hq hsC hsA X hX)
  rw [fit3_1, und3 tr (by omega) (by omega), show Hi.und (Hi.sup (Hi.bl ++ lv3)) d3 9 8 = true by decide] at HF1
  rw [fit3_2, und3 tr (by omega) (by omega), show Hi.und (Hi.sup (Hi.bl ++ lv3)) d3 8 9 = false by decide] at HF2
  have hcm : Hi.cm (Hi.sup (Hi.bl ++ lv3)) D 9 10 = 8 := by
    rw [cm3 tr (by omega) (by omega)]
    decide
  have HJC : ∀ X, Below w1.heap.size w1 X → Calls Tryd.prog 52 #[.pointer (some ⟨H.hb, 0, none⟩), tyA tA, tyA tB] X fun e w' => e = .returned (tyA tC) ∧ Below X.heap.size X w' := fun X hX => by
    have := joinC_any hj hsA hsB i3_A i3_B X hX
    rw [hcm, show Hi.nmf (Hi.bl ++ lv3) 8 = ⟨#[67]⟩ from rfl] at this
    exact this
  have HJ1 : ∀ X, Below w1.heap.size w1 X → Calls Tryd.prog 35 #[.pointer (some ⟨H.hb, 0, none⟩), tyA (Ty.elP aA), tyA (Ty.elP aB)] X fun e w' => e = .returned (tyA tC) ∧ Below X.heap.size X w' := fun X hX => by
    rw [e3_a, e3_b]
    exact join4_any (by decide) rfl rfl HJC X hX
  have HJ2 := hid (fun X hX => Join_any hj.find hsa hsb v3_a v3_b (fun X hX => join4_any (a := aA) (b := aB) (by decide) rfl rfl (fun X hX => joinA_any hj.find hsa hsb i3_a i3_b rfl rfl (by decide) HJ1 X hX) X hX) X hX)
  rw [show Ty.arP tC = ⟨4, ⟨#[91, 76, 67, 59]⟩⟩ from rfl] at HJ2
  have HT := hid (fun X => text_any tA X)
  rw [show Ty.tx tA = ⟨#[65]⟩ from rfl] at HT
  unfold tyA at HF1 HF2 HJ2 HT
  unfold tA tC at HF1 HF2
  unfold aA aB at HJ2
  unfold tA at HT
  dsimp only at HF1 HF2 HJ2 HT
  have HB1 := hid hB1
  obtain ⟨hb, hhb⟩ : ∃ hb, H.hb = hb := ⟨_, rfl⟩
  rw [hhb] at HF1 HF2 HJ2 ⊢
  have HB := hid (Below.refl w1.heap.size w1)
  clear hB1 hm ok hn hnm hnf hn11 tr hb1 hhb HN HB0 HW0 hq hj hsA hsB hsC hsa hsb hcm HJC HJ1
  go_wp2_with (first | (go_at_call 29; go_loud (refine (live1_any _ _).mono ?_; rintro e W ⟨rfl, hb⟩; have HB := hid (belows HB.out hb HB.out.size); clear hb)) | (go_at_call 19; go_loud (refine (HJ2.out _ HB.out).mono ?_; rintro e W ⟨rfl, hb⟩; have HB := hid (belows HB.out hb HB.out.size); clear hb)) | (go_at_call 18; (with_reducible refine (HF1.out _ HB.out).mono ?_); rintro e W ⟨rfl, hb⟩; have HB := hid (belows HB.out hb HB.out.size); clear hb) | (go_at_call 18; (with_reducible refine (HF2.out _ HB.out).mono ?_); rintro e W ⟨rfl, hb⟩; have HB := hid (belows HB.out hb HB.out.size); clear hb) | (go_at_call 12; go_loud (refine (HT.out _).mono ?_; rintro e W ⟨rfl, hb⟩; have HB := hid (belows HB.out hb HB.out.size); clear hb)))
  go_ret
  exact ⟨by simp, belows HB1.out HB.out HB1.out.size⟩
end Go.Proofs.YtahjnaoabfkpcaaDoor
namespace Go.Proofs.YtahjnaoabfkpcaaDoor
open Go Go.RowKit
open Ty (bl mk br T)
theorem hq_nil (w : World) : HQ w (.pointer none) (fun _ => none) (fun _ _ => false) := ⟨find_nil w, fun X _ s t x y hx => by cases hx⟩
def oT : T := ⟨4, ⟨#[106, 97, 118, 97, 47, 108, 97, 110, 103, 47, 79, 98, 106, 101, 99, 116]⟩⟩
def iT : T := ⟨1, ⟨#[]⟩⟩
theorem o_val : Ty.val (fun _ => none) oT = false := by decide
theorem o_fit : Ty.Fit (fun _ => none) (fun _ _ => false) oT oT = false := by unfold Ty.Fit; rw [o_val]; rfl
theorem o_join : jself oT = Ty.top := by unfold jself; rw [o_val]; rfl
theorem i_fit : Ty.Fit (fun _ => none) (fun _ _ => false) iT Ty.top = true := by decide
theorem bx_block {W : World} {b : Nat} {cs : Array Value} {t : TypeId} (h : BX W b cs t) : ∃ wb, b = wb ∧ BX W wb cs t := ⟨b, rfl, h⟩
set_option maxRecDepth 100000
set_option maxHeartbeats 4000000
theorem none_law {w : World} {k0 v1 v2 u1 u2 : Value} {l1 l2 : List T} (h1 : TyS w v1 l1) (h2 : TyS w v2 l2) (n1 : ∀ x ∈ l1, x.n.size ≤ 140737488351232) (n2 : ∀ x ∈ l2, x.n.size ≤ 140737488351232) (b1 : l1.length * 24 ≤ 140737488351232) (b2 : l2.length * 24 ≤ 140737488351232) :
    Calls Tryd.prog 6 #[.agg #[k0, v1, v2, u1, u2]] w fun e w' => e = .returned (.bool true) ∧ Below w.heap.size w w' := by
  have HT1 := hid (fun X (hX : Below w.heap.size w X) => tclone_any l1 v1 X (h1.below hX) (by omega))
  have HT2 := hid (fun X (hX : Below w.heap.size w X) => tclone_any l2 v2 X (h2.below hX) (by omega))
  have HCl := hid (fun X (hX : Below w.heap.size w X) => Clone_any (h1.below hX) (h2.below hX) (by omega) (by omega))
  have HJa := hid (fun X (hX : Below w.heap.size w X) => JoinAll_self (h1.below hX) (h2.below hX) (fun x hx => by have := n1 x hx; unfold maxLen; omega) (fun x hx => by have := n2 x hx; unfold maxLen; omega) (by omega) (by omega))
  have HV := hid (fun X (hX : Below w.heap.size w X) => valid_any (t := oT) (find_nil w) (by decide) hX)
  have HF1 := hid (fun X (hX : Below w.heap.size w X) => Fits_any (a := oT) (b := oT) (hq_nil w) (by decide) (by decide) X hX)
  have HF2 := hid (fun X (hX : Below w.heap.size w X) => Fits_any (a := iT) (b := Ty.top) (hq_nil w) (by decide) (by decide) X hX)
  have HJ := hid (fun X => Join_self oT (by decide) X)
  rw [o_val] at HV
  rw [o_fit] at HF1
  rw [i_fit] at HF2
  rw [o_join] at HJ
  unfold tyA oT at HV HF1 HJ
  unfold tyA iT at HF2
  unfold Ty.top at HF2 HJ
  dsimp only at HV HF1 HF2 HJ
  rw [show mk [] = (⟨#[]⟩ : ByteArray) from rfl] at HF2 HJ
  have H1 := hid h1
  have H2 := hid h2
  have B1 := hid b1
  have B2 := hid b2
  obtain ⟨a1, p1, rfl⟩ := Kit.IsS.len h1
  obtain ⟨a2, p2, rfl⟩ := Kit.IsS.len h2
  have hsb := BX.new w #[k0, .slice a1 l1.length p1, .slice a2 l2.length p2, u1, u2] 45
  have HSb := hid hsb
  have HB0 : Hid (Below w.heap.size w (w.alloc (.cells #[k0, .slice a1 l1.length p1, .slice a2 l2.length p2, u1, u2] 45))) := (Below.refl _ _).alloc (Nat.le_refl _) _
  clear h1 h2 n1 n2 b1 b2 hsb
  go_enter Tryd.func6, Tryd.ntmps6
  go_upto_region 3 with (go_at_call 11; (with_reducible refine (live_any _).mono ?_); rintro e V ⟨rfl, hb⟩; have HB1 := hid (belows HB0.out hb HB0.out.size); have HS1 := hid (HSb.out.below hb); clear hb)
  go_upto_region 4 with fail
  refine region_named fun W1 hW1 => ?_
  have hb1 : Below V.heap.size V W1 := by rw [hW1]; exact (by repeat' first | with_reducible exact Below.refl _ _ | with_reducible assumption | with_reducible refine belows_drewN ?_ _ | with_reducible refine Below.drew ?_ | with_reducible refine Below.setCell ?_ ?_ _ | with_reducible refine Below.alloc ?_ ?_ _ | omega | (simp; done) | (simp; omega))
  have ob : BX W1 V.heap.size #[.int .i64 4, .string ⟨#[106, 97, 118, 97, 47, 108, 97, 110, 103, 47, 79, 98, 106, 101, 99, 116]⟩] 23 := by rw [hW1]; exact BX.new V _ _
  have HBc := hid (belows HB1.out hb1 HB1.out.size)
  have HS2 := hid (HS1.out.below hb1)
  have HOx := hid (fun X (hX : Below W1.heap.size W1 X) => (⟨(ob.below hX).cell 0, (ob.below hX).cell 1⟩ : X.cell? ⟨V.heap.size, 0, none⟩ = some (.int .i64 4) ∧ X.cell? ⟨V.heap.size, 1, none⟩ = some (.string ⟨#[106, 97, 118, 97, 47, 108, 97, 110, 103, 47, 79, 98, 106, 101, 99, 116]⟩)))
  have HBd : Hid (Below W1.heap.size W1 W1) := Below.refl _ _
  obtain ⟨x0, x1⟩ := HOx.out _ HBd.out
  clear hW1 hb1 ob HB0 HB1 HSb HS1
  go_upto_region 6 with (first
    | (go_at_call 17; (with_reducible refine (HV.out _ HBc.out).mono ?_); rintro e X ⟨rfl, hb⟩; have HBn := hid (belows HBc.out hb HBc.out.size); clear HBc; have HBc := HBn; clear HBn; have HBe := hid (belows HBd.out hb HBd.out.size); clear HBd; have HBd := HBe; clear HBe hb x0 x1; obtain ⟨x0, x1⟩ := HOx.out _ HBd.out)
    | (go_at_call 18; (with_reducible refine (HF1.out _ HBc.out).mono ?_); rintro e X ⟨rfl, hb⟩; have HBn := hid (belows HBc.out hb HBc.out.size); clear HBc; have HBc := HBn; clear HBn; have HBe := hid (belows HBd.out hb HBd.out.size); clear HBd; have HBd := HBe; clear HBe hb x0 x1; obtain ⟨x0, x1⟩ := HOx.out _ HBd.out)
    | (go_at_call 19; (with_reducible refine (HJ.out _).mono ?_); rintro e X ⟨rfl, hb⟩; have HBn := hid (belows HBc.out hb HBc.out.size); clear HBc; have HBc := HBn; clear HBn; have HBe := hid (belows HBd.out hb HBd.out.size); clear HBd; have HBd := HBe; clear HBe hb x0 x1; obtain ⟨x0, x1⟩ := HOx.out _ HBd.out)
    | (go_at_call 18; (with_reducible refine (HF2.out _ HBc.out).mono ?_); rintro e X ⟨rfl, hb⟩; have HBn := hid (belows HBc.out hb HBc.out.size); clear HBc; have HBc := HBn; clear HBn; have HBe := hid (belows HBd.out hb HBd.out.size); clear HBd; have HBd := HBe; clear HBe hb x0 x1; obtain ⟨x0, x1⟩ := HOx.out _ HBd.out))
  refine region_named fun W hW => ?_
  have HWw : Hid (Below w.heap.size w W) := by
    show Below _ _ _
    rw [hW]
    exact HBc.out
  have HSw : Hid (BX W w.heap.size #[k0, .slice a1 l1.length p1, .slice a2 l2.length p2, u1, u2] 45) := by
    show BX _ _ _ _
    rw [hW]
    exact HS2.out.below HBd.out
  clear hW x0 x1 HBc HBd HS2 HOx HV HF1 HF2 HJ
  obtain ⟨n1, hn1⟩ : ∃ n, l1.length = n := ⟨_, rfl⟩
  obtain ⟨n2, hn2⟩ : ∃ n, l2.length = n := ⟨_, rfl⟩
  have HN1 := hid hn1
  have HN2 := hid hn2
  rw [hn1, hn2] at HCl HJa HSw
  rw [hn1] at HT1
  rw [hn2] at HT2
  rw [hn1, hn2]
  clear hn1 hn2
  have HSx := hid (fun X (hX : Below W.heap.size W X) => (⟨(HSw.out.below hX).cell 1, (HSw.out.below hX).cell 2⟩ : X.cell? ⟨w.heap.size, 1, none⟩ = some (.slice a1 n1 p1) ∧ X.cell? ⟨w.heap.size, 2, none⟩ = some (.slice a2 n2 p2)))
  have HBc : Hid (Below W.heap.size W W.drew) := Below.drew (Below.refl W.heap.size W)
  have x0 := HSx.out _ (Below.refl W.heap.size W)
  have hz : w.heap.size < W.heap.size := HSw.out.sz
  have HWs : Hid (w.heap.size ≤ W.heap.size) := HWw.out.size
  have HWz : Hid (W.heap.size ≤ W.heap.size) := Nat.le_refl _
  go_region_held3 (fun X => X.cell? ⟨w.heap.size, 1, none⟩ = some (.slice a1 n1 p1) ∧ X.cell? ⟨w.heap.size, 2, none⟩ = some (.slice a2 n2 p2))
    (first | exact x0 | exact ⟨(bx_setCell (i := 1) (bx_setCell (i := 0) xs nb _) nb _).cell 1, (bx_setCell (i := 1) (bx_setCell (i := 0) xs nb _) nb _).cell 2⟩ | go_keep)
    (first
      | (go_at_call 20; (with_reducible refine (HT1.out _ (belows HWw.out HBc.out HWw.out.size)).mono ?_); rintro e X ⟨va, rfl, ho, hb0⟩; obtain ⟨ra, rc, rfl⟩ := own_form ho; have hb := hb0; (try (have HWq := hid (HWb.out.below hb); clear HWb; have HWb := HWq; clear HWq)); (try (have HOq := hid (HO2.out.below hb); clear HO2; have HO2 := HOq; clear HOq)); have HO1 := hid (ho.mono (Nat.le_trans HWz.out HBc.out.size)); have HBn := hid (belows HBc.out hb HBc.out.size); clear HBc; have HBc := HBn; clear HBn ho hb hb0 x0; have x0 := HSx.out _ HBc.out; (try clear r0 r1 g0 g1 xs nb); (try (have r0 : X.cell? ⟨_, 0, none⟩ = some (.slice none 0 0) := HWb.out.cell 0; have r1 : X.cell? ⟨_, 1, none⟩ = some (.slice none 0 0) := HWb.out.cell 1; have g0 := HWb.out.frozen 0; have g1 := HWb.out.frozen 1; have xs := HSw.out.below HBc.out; have nb := bx_apart xs HWb.out (by decide))))
      | (go_at_call 20; (with_reducible refine (HT1.out _ (belows HWw.out (belows HBc.out ((Below.refl _ _).alloc (Nat.le_refl _) (.cells #[.slice none 0 0, .slice none 0 0] 43)) HBc.out.size) HWw.out.size)).mono ?_); rintro e X ⟨va, rfl, ho, hb0⟩; obtain ⟨ra, rc, rfl⟩ := own_form ho; have hb := belows ((Below.refl _ _).alloc (Nat.le_refl _) (.cells #[.slice none 0 0, .slice none 0 0] 43)) hb0 (by simp); have HWb := hid ((BX.new _ #[.slice none 0 0, .slice none 0 0] 43).below hb0); have HWl := HBc.out.size; (try (have HOq := hid (HO2.out.below hb); clear HO2; have HO2 := HOq; clear HOq)); have HO1 := hid (ho.mono (Nat.le_trans HWz.out (belows HBc.out ((Below.refl _ _).alloc (Nat.le_refl _) (.cells #[.slice none 0 0, .slice none 0 0] 43)) HBc.out.size).size)); have HBn := hid (belows HBc.out hb HBc.out.size); clear HBc; have HBc := HBn; clear HBn ho hb hb0 x0; have x0 := HSx.out _ HBc.out; (try clear r0 r1 g0 g1 xs nb); (try (have r0 : X.cell? ⟨_, 0, none⟩ = some (.slice none 0 0) := HWb.out.cell 0; have r1 : X.cell? ⟨_, 1, none⟩ = some (.slice none 0 0) := HWb.out.cell 1; have g0 := HWb.out.frozen 0; have g1 := HWb.out.frozen 1; have xs := HSw.out.below HBc.out; have nb := bx_apart xs HWb.out (by decide))))
      | (go_at_call 20; (with_reducible refine (HT1.out _ (belows HWw.out (Below.drew ((Below.refl W.heap.size W).alloc (Nat.le_refl _) (.cells #[.slice none 0 0, .slice none 0 0] 43))) HWw.out.size)).mono ?_); rintro e X ⟨va, rfl, ho, hb0⟩; obtain ⟨ra, rc, rfl⟩ := own_form ho; have HWb := hid (((BX.new W #[.slice none 0 0, .slice none 0 0] 43).below (Below.drew (Below.refl _ _))).below hb0); have HO1 := hid (ho.mono (Below.drew ((Below.refl W.heap.size W).alloc (Nat.le_refl _) (.cells #[.slice none 0 0, .slice none 0 0] 43))).size); have HBn := hid (belows (Below.drew ((Below.refl W.heap.size W).alloc (Nat.le_refl _) (.cells #[.slice none 0 0, .slice none 0 0] 43))) hb0 (Below.drew ((Below.refl W.heap.size W).alloc (Nat.le_refl _) (.cells #[.slice none 0 0, .slice none 0 0] 43))).size); clear HBc; have HBc := HBn; clear HBn ho hb0 x0; have x0 := HSx.out _ HBc.out; (try clear r0 r1 g0 g1 xs nb); (try (have r0 : X.cell? ⟨_, 0, none⟩ = some (.slice none 0 0) := HWb.out.cell 0; have r1 : X.cell? ⟨_, 1, none⟩ = some (.slice none 0 0) := HWb.out.cell 1; have g0 := HWb.out.frozen 0; have g1 := HWb.out.frozen 1; have xs := HSw.out.below HBc.out; have nb := bx_apart xs HWb.out (by decide))))
      | (go_at_call 20; (with_reducible refine (HT2.out _ (belows HWw.out HBc.out HWw.out.size)).mono ?_); rintro e X ⟨vb, rfl, ho, hb0⟩; obtain ⟨ta, tc, rfl⟩ := own_form ho; have hb := hb0; (try (have HWq := hid (HWb.out.below hb); clear HWb; have HWb := HWq; clear HWq)); (try (have HOq := hid (HO1.out.below hb); clear HO1; have HO1 := HOq; clear HOq)); have HO2 := hid (ho.mono (Nat.le_trans HWz.out HBc.out.size)); have HBn := hid (belows HBc.out hb HBc.out.size); clear HBc; have HBc := HBn; clear HBn ho hb hb0 x0; have x0 := HSx.out _ HBc.out; (try clear r0 r1 g0 g1 xs nb); (try (have r0 : X.cell? ⟨_, 0, none⟩ = some (.slice none 0 0) := HWb.out.cell 0; have r1 : X.cell? ⟨_, 1, none⟩ = some (.slice none 0 0) := HWb.out.cell 1; have g0 := HWb.out.frozen 0; have g1 := HWb.out.frozen 1; have xs := HSw.out.below HBc.out; have nb := bx_apart xs HWb.out (by decide))))
      | (go_at_call 20; (with_reducible refine (HT2.out _ (belows HWw.out (belows HBc.out ((Below.refl _ _).alloc (Nat.le_refl _) (.cells #[.slice none 0 0, .slice none 0 0] 43)) HBc.out.size) HWw.out.size)).mono ?_); rintro e X ⟨vb, rfl, ho, hb0⟩; obtain ⟨ta, tc, rfl⟩ := own_form ho; have hb := belows ((Below.refl _ _).alloc (Nat.le_refl _) (.cells #[.slice none 0 0, .slice none 0 0] 43)) hb0 (by simp); have HWb := hid ((BX.new _ #[.slice none 0 0, .slice none 0 0] 43).below hb0); have HWl := HBc.out.size; (try (have HOq := hid (HO1.out.below hb); clear HO1; have HO1 := HOq; clear HOq)); have HO2 := hid (ho.mono (Nat.le_trans HWz.out (belows HBc.out ((Below.refl _ _).alloc (Nat.le_refl _) (.cells #[.slice none 0 0, .slice none 0 0] 43)) HBc.out.size).size)); have HBn := hid (belows HBc.out hb HBc.out.size); clear HBc; have HBc := HBn; clear HBn ho hb hb0 x0; have x0 := HSx.out _ HBc.out; (try clear r0 r1 g0 g1 xs nb); (try (have r0 : X.cell? ⟨_, 0, none⟩ = some (.slice none 0 0) := HWb.out.cell 0; have r1 : X.cell? ⟨_, 1, none⟩ = some (.slice none 0 0) := HWb.out.cell 1; have g0 := HWb.out.frozen 0; have g1 := HWb.out.frozen 1; have xs := HSw.out.below HBc.out; have nb := bx_apart xs HWb.out (by decide)))))
  focus (
    have o1 := HO1.out
    have o2 := HO2.out
    obtain ⟨Wa, hWa⟩ : ∃ X2, X.alloc (.cells #[.slice ra l1.length rc, .slice ta l2.length tc] 43) = X2 := ⟨_, rfl⟩
    have hba : Below X.heap.size X Wa := by rw [← hWa]; exact (Below.refl _ _).alloc (Nat.le_refl _) _
    have hxb : BX Wa X.heap.size #[.slice ra l1.length rc, .slice ta l2.length tc] 43 := by rw [← hWa]; exact BX.new X _ _
    rw [hWa]
    obtain ⟨wb, hwb, hq⟩ := bx_block hxb
    rw [hwb]
    have HXb := hid hq
    have HR1 := hid (o1.below hba)
    have HR2 := hid (o2.below hba)
    have HBa := hid (belows HBc.out hba HBc.out.size)
    clear hWa hba hxb hq hwb o1 o2 HBc HO1 HO2 x0)
  rotate_left
  focus (
    obtain ⟨wb, hwb, hq⟩ := bx_block HWb.out
    rw [hwb]
    have o1 := HO1.out
    have o2 := HO2.out
    have hcs : Chg (fun i => i = wb) X ((X.setCell ⟨wb, 0, none⟩ (.slice ra l1.length rc)).setCell ⟨wb, 1, none⟩ (.slice ta l2.length tc)) := ((Chg.refl (fun i => i = wb) X).set (p := ⟨wb, 0, none⟩) (.inl rfl) _).set (p := ⟨wb, 1, none⟩) (.inl rfl) _
    have HXb : Hid (BX ((X.setCell ⟨wb, 0, none⟩ (.slice ra l1.length rc)).setCell ⟨wb, 1, none⟩ (.slice ta l2.length tc)) wb #[.slice ra l1.length rc, .slice ta l2.length tc] 43) := box_set (box_set hq 0 (.slice ra l1.length rc)) 1 (.slice ta l2.length tc)
    have HR1 : Hid (TyO ((X.setCell ⟨wb, 0, none⟩ (.slice ra l1.length rc)).setCell ⟨wb, 1, none⟩ (.slice ta l2.length tc)) W.heap.size (.slice ra l1.length rc) l1) := owns_chg o1 hcs (fun j e e2 => own_unlike_box o1 hq (by decide) (e2 ▸ e))
    have HR2 : Hid (TyO ((X.setCell ⟨wb, 0, none⟩ (.slice ra l1.length rc)).setCell ⟨wb, 1, none⟩ (.slice ta l2.length tc)) W.heap.size (.slice ta l2.length tc) l2) := owns_chg o2 hcs (fun j e e2 => own_unlike_box o2 hq (by decide) (e2 ▸ e))
    have hwl : W.heap.size ≤ wb := by rw [← hwb]; exact HWl
    have HBa : Hid (Below W.heap.size W ((X.setCell ⟨wb, 0, none⟩ (.slice ra l1.length rc)).setCell ⟨wb, 1, none⟩ (.slice ta l2.length tc))) := (HBc.out.setCell (p := ⟨wb, 0, none⟩) hwl _).setCell (p := ⟨wb, 1, none⟩) hwl _
    obtain ⟨Wa, hWa⟩ : ∃ X2, ((X.setCell ⟨wb, 0, none⟩ (.slice ra l1.length rc)).setCell ⟨wb, 1, none⟩ (.slice ta l2.length tc)) = X2 := ⟨_, rfl⟩
    rw [hWa] at HXb HR1 HR2 HBa ⊢
    clear hWa hcs hq hwb hwl o1 o2 HWb HBc HO1 HO2 x0)
  rotate_left
  focus (
    obtain ⟨wb, hwb, hq⟩ := bx_block HWb.out
    rw [hwb]
    have o1 := HO1.out
    have o2 := HO2.out
    have hcs : Chg (fun i => i = wb) X ((X.setCell ⟨wb, 0, none⟩ (.slice ra l1.length rc)).setCell ⟨wb, 1, none⟩ (.slice ta l2.length tc)) := ((Chg.refl (fun i => i = wb) X).set (p := ⟨wb, 0, none⟩) (.inl rfl) _).set (p := ⟨wb, 1, none⟩) (.inl rfl) _
    have HXb : Hid (BX ((X.setCell ⟨wb, 0, none⟩ (.slice ra l1.length rc)).setCell ⟨wb, 1, none⟩ (.slice ta l2.length tc)) wb #[.slice ra l1.length rc, .slice ta l2.length tc] 43) := box_set (box_set hq 0 (.slice ra l1.length rc)) 1 (.slice ta l2.length tc)
    have HR1 : Hid (TyO ((X.setCell ⟨wb, 0, none⟩ (.slice ra l1.length rc)).setCell ⟨wb, 1, none⟩ (.slice ta l2.length tc)) W.heap.size (.slice ra l1.length rc) l1) := owns_chg o1 hcs (fun j e e2 => own_unlike_box o1 hq (by decide) (e2 ▸ e))
    have HR2 : Hid (TyO ((X.setCell ⟨wb, 0, none⟩ (.slice ra l1.length rc)).setCell ⟨wb, 1, none⟩ (.slice ta l2.length tc)) W.heap.size (.slice ta l2.length tc) l2) := owns_chg o2 hcs (fun j e e2 => own_unlike_box o2 hq (by decide) (e2 ▸ e))
    have hwl : W.heap.size ≤ wb := by rw [← hwb]; exact Nat.le_refl _
    have HBa : Hid (Below W.heap.size W ((X.setCell ⟨wb, 0, none⟩ (.slice ra l1.length rc)).setCell ⟨wb, 1, none⟩ (.slice ta l2.length tc))) := (HBc.out.setCell (p := ⟨wb, 0, none⟩) hwl _).setCell (p := ⟨wb, 1, none⟩) hwl _
    obtain ⟨Wa, hWa⟩ : ∃ X2, ((X.setCell ⟨wb, 0, none⟩ (.slice ra l1.length rc)).setCell ⟨wb, 1, none⟩ (.slice ta l2.length tc)) = X2 := ⟨_, rfl⟩
    rw [hWa] at HXb HR1 HR2 HBa ⊢
    clear hWa hcs hq hwb hwl o1 o2 HWb HBc HO1 HO2 x0)
  rotate_left
  all_goals
    have HWa := hid (belows HWw.out HBa.out HWw.out.size)
    have HSa := hid (HSw.out.below HBa.out)
    have hb9 : l1.length ≤ 140737488351232 := by have := B1.out; omega
    have hb8 : l2.length ≤ 140737488351232 := by have := B2.out; omega
    have y1 : Wa.cell? ⟨w.heap.size, 1, none⟩ = some (.slice a1 n1 p1) := HSa.out.cell 1
    have y2 : Wa.cell? ⟨w.heap.size, 2, none⟩ = some (.slice a2 n2 p2) := HSa.out.cell 2
    go_upto_region 8 with (go_at_call 21; (with_reducible refine (HCl.out _ HWa.out).mono ?_); rintro e Y ⟨c1, c2, rfl, hc1, hc2, hby⟩; obtain ⟨q1, e1, rfl⟩ := own_form hc1; obtain ⟨q2, e2, rfl⟩ := own_form hc2; have HC1 := hid hc1; have HC2 := hid hc2; have HBy := hid hby; clear hc1 hc2 hby y1 y2)
    refine region_named fun U hU => ?_
    have hyu : Below Y.heap.size Y U := by rw [hU]; exact (Below.refl _ _).alloc (Nat.le_refl _) _
    have hcu : BX U Y.heap.size #[.slice q1 l1.length e1, .slice q2 l2.length e2] 43 := by rw [hU]; exact BX.new Y _ _
    clear hU
    obtain ⟨cb, hcb, hcu⟩ := bx_block hcu
    rw [hcb]
    have HCU := hid hcu
    have HBU := hid (belows HBy.out hyu HBy.out.size)
    have HX1 := hid (HC1.out.below hyu)
    have HX2 := hid (HC2.out.below hyu)
    have HBW := hid (belows HWa.out HBU.out HWa.out.size)
    have HXu := hid (HXb.out.below HBU.out)
    have z1 : U.cell? ⟨cb, 0, none⟩ = some (.slice q1 l1.length e1) := hcu.cell 0
    have z2 : U.cell? ⟨cb, 1, none⟩ = some (.slice q2 l2.length e2) := hcu.cell 1
    have z3 : U.cell? ⟨wb, 0, none⟩ = some (.slice ra l1.length rc) := HXu.out.cell 0
    have z4 : U.cell? ⟨wb, 1, none⟩ = some (.slice ta l2.length tc) := HXu.out.cell 1
    have HSm := hid (same_any (HX1.out.is (by omega)) (HX2.out.is (by omega)) ((HR1.out.below HBU.out).is (by omega)) ((HR2.out.below HBU.out).is (by omega)))
    clear hyu hcu hcb
    go_upto_region 10 with (go_at_call 22; (with_reducible refine HSm.out.mono ?_); rintro e Z ⟨rfl, hz⟩; have HZ := hid hz; clear hz z1 z2 z3 z4)
    have HB0 := hid (belows HBU.out HZ.out HBU.out.size)
    have HC0 := hid (HCU.out.below HZ.out)
    have HP1 : Hid (Rw Z Wa.heap.size (.slice q1 l1.length e1) l1.length) := Rw.below ⟨_, HX1.out⟩ HZ.out
    have HP2 : Hid (Rw Z Wa.heap.size (.slice q2 l2.length e2) l2.length) := Rw.below ⟨_, HX2.out⟩ HZ.out
    have z1 : Z.cell? ⟨cb, 0, none⟩ = some (.slice q1 l1.length e1) := HC0.out.cell 0
    go_wp2
    go_loopw [53] (fun v wr => ∃ i : Nat, v = .int .i64 (i : Int) ∧ i ≤ l1.length ∧ Hid (Below Wa.heap.size Wa wr) ∧ Hid (BX wr cb #[.slice q1 l1.length e1, .slice q2 l2.length e2] 43) ∧ Hid (Rw wr Wa.heap.size (.slice q1 l1.length e1) l1.length) ∧ Hid (Rw wr Wa.heap.size (.slice q2 l2.length e2) l2.length)) (fun v _ => l1.length - (intOf v).toNat)
    case atStart => exact ⟨0, rfl, Nat.zero_le _, HB0, HC0, HP1, HP2⟩
    case round =>
      clear HB0 HC0 HP1 HP2 z1
      obtain ⟨i, rfl, hi, HB0, HC0, HP1, HP2⟩ := hrel
      by_cases hlt : i < l1.length
      · obtain ⟨g, c, u, heq, hg, hcg, hfg, hgs⟩ := HP1.out.at hlt
        obtain ⟨rfl, -, rfl⟩ := Value.slice.inj heq
        have z1 : wr.cell? ⟨cb, 0, none⟩ = some (.slice (some ⟨g, 0, none⟩) l1.length e1) := HC0.out.cell 0
        have hli : (i : Int) < (l1.length : Int) := by omega
        have hne := HP1.out.apart HC0.out (by decide) g rfl
        have HC9 := hid (bx_setCell (i := i * 2) HC0.out (fun e => hne e.symm) (.int .i64 99))
        have HP9 := hid (HP1.out.set g (i * 2) (.int .i64 99))
        have HQ9 := hid (HP2.out.set g (i * 2) (.int .i64 99))
        have HB9 := hid (HB0.out.setCell (p := ⟨g, i * 2, none⟩) hg (.int .i64 99))
        clear heq hne
        go_wp2
        go_roundw
        case rel => exact ⟨i + 1, by go_num, by omega, HB9, HC9, HP9, HQ9⟩
        case measure => simp [intOf]; omega
      · obtain hie : i = l1.length := by omega
        have hli : ¬ (i : Int) < (l1.length : Int) := by omega
        have z2 : wr.cell? ⟨cb, 1, none⟩ = some (.slice q2 l2.length e2) := HC0.out.cell 1
        clear hie
        go_wp2
        obtain ⟨wo, rfl⟩ : ∃ wo : World, wo = wr := ⟨_, rfl⟩
        go_loopw [65] (fun v wr => ∃ i : Nat, v = .int .i64 (i : Int) ∧ i ≤ l2.length ∧ Hid (Below Wa.heap.size Wa wr) ∧ Hid (BX wr cb #[.slice q1 l1.length e1, .slice q2 l2.length e2] 43) ∧ Hid (Rw wr Wa.heap.size (.slice q2 l2.length e2) l2.length)) (fun v _ => l2.length - (intOf v).toNat)
        case atStart => exact ⟨0, rfl, Nat.zero_le _, HB0, HC0, HP2⟩
        case round =>
          clear HB0 HC0 HP1 HP2 z2 hli hlt hi
          obtain ⟨i, rfl, hi, HB0, HC0, HP2⟩ := hrel
          by_cases hlt : i < l2.length
          · obtain ⟨g, c, u, heq, hg, hcg, hfg, hgs⟩ := HP2.out.at hlt
            obtain ⟨rfl, -, rfl⟩ := Value.slice.inj heq
            have z1 : wr.cell? ⟨cb, 1, none⟩ = some (.slice (some ⟨g, 0, none⟩) l2.length e2) := HC0.out.cell 1
            have hli : (i : Int) < (l2.length : Int) := by omega
            have hne := HP2.out.apart HC0.out (by decide) g rfl
            have HC9 := hid (bx_setCell (i := i * 2) HC0.out (fun e => hne e.symm) (.int .i64 99))
            have HQ9 := hid (HP2.out.set g (i * 2) (.int .i64 99))
            have HB9 := hid (HB0.out.setCell (p := ⟨g, i * 2, none⟩) hg (.int .i64 99))
            clear heq hne
            go_wp2
            go_roundw
            case rel => exact ⟨i + 1, by go_num, by omega, HB9, HC9, HQ9⟩
            case measure => simp [intOf]; omega
          · have hli : ¬ (i : Int) < (l2.length : Int) := by omega
            have HBr := hid (belows HWa.out HB0.out HWa.out.size)
            have HSr := hid (HSa.out.below HB0.out)
            have y1 : wr.cell? ⟨w.heap.size, 1, none⟩ = some (.slice a1 n1 p1) := HSr.out.cell 1
            have y2 : wr.cell? ⟨w.heap.size, 2, none⟩ = some (.slice a2 n2 p2) := HSr.out.cell 2
            go_upto_region 21 with (go_at_call 23; (with_reducible refine (HJa.out _ HBr.out).mono ?_); rintro e J ⟨jl, js, jb, m, rfl, hm, hjr, hbj, ja, jn, jc, rfl⟩; obtain ⟨sa, sc, rfl⟩ := hjr.form; have HJR := hid hjr; have HBJ := hid hbj; have HM := hid hm; clear hjr hbj hm y1 y2)
            refine region_named fun T hT => ?_
            have hjt : Below J.heap.size J T := by rw [hT]; exact (Below.refl _ _).alloc (Nat.le_refl _) _
            have hjx : BX T J.heap.size #[.slice ja jn jc, .slice sa m sc] 43 := by rw [hT]; exact BX.new J _ _
            clear hT
            obtain ⟨jk, hjk, hjx⟩ := bx_block hjx
            rw [hjk]
            have HB5 := hid (belows HB0.out (belows HBJ.out hjt HBJ.out.size) HB0.out.size)
            have HJ5 : Hid (Rw T Wa.heap.size (.slice sa m sc) m) := (HJR.out.mono HB0.out.size).below hjt
            have HC5 := hid hjx
            have hm9 : m ≤ 140737488351232 := by have := HM.out; have := HN2.out; omega
            have z2 : T.cell? ⟨jk, 1, none⟩ = some (.slice sa m sc) := hjx.cell 1
            clear hjt hjx hjk hli hlt hi
            go_wp2
            obtain ⟨wp, rfl⟩ : ∃ wp : World, wp = wr := ⟨_, rfl⟩
            go_loopw [85] (fun v wr => ∃ i : Nat, v = .int .i64 (i : Int) ∧ i ≤ m ∧ Hid (Below Wa.heap.size Wa wr) ∧ Hid (BX wr jk #[.slice ja jn jc, .slice sa m sc] 43) ∧ Hid (Rw wr Wa.heap.size (.slice sa m sc) m)) (fun v _ => m - (intOf v).toNat)
            case atStart => exact ⟨0, rfl, Nat.zero_le _, HB5, HC5, HJ5⟩
            case round =>
              clear HB5 HC5 HJ5 z2
              obtain ⟨i, rfl, hi, HB5, HC5, HJ5⟩ := hrel
              by_cases hlt : i < m
              · obtain ⟨g, c, u, heq, hg, hcg, hfg, hgs⟩ := HJ5.out.at hlt
                obtain ⟨rfl, -, rfl⟩ := Value.slice.inj heq
                have z1 : wr.cell? ⟨jk, 1, none⟩ = some (.slice (some ⟨g, 0, none⟩) m sc) := HC5.out.cell 1
                have hli : (i : Int) < (m : Int) := by omega
                have hne := HJ5.out.apart HC5.out (by decide) g rfl
                have HC9 := hid (bx_setCell (i := i * 2) HC5.out (fun e => hne e.symm) (.int .i64 99))
                have HQ9 := hid (HJ5.out.set g (i * 2) (.int .i64 99))
                have HB9 := hid (HB5.out.setCell (p := ⟨g, i * 2, none⟩) hg (.int .i64 99))
                clear heq hne
                go_wp2
                go_roundw
                case rel => exact ⟨i + 1, by go_num, by omega, HB9, HC9, HQ9⟩
                case measure => simp [intOf]; omega
              · have hli : ¬ (i : Int) < (m : Int) := by omega
                have HBz := hid (belows HWa.out HB5.out HWa.out.size)
                have HSz := hid (HSa.out.below HB5.out)
                have HXz := hid (HXb.out.below HB5.out)
                have y1 : wr.cell? ⟨w.heap.size, 1, none⟩ = some (.slice a1 n1 p1) := HSz.out.cell 1
                have y2 : wr.cell? ⟨w.heap.size, 2, none⟩ = some (.slice a2 n2 p2) := HSz.out.cell 2
                have z3 : wr.cell? ⟨wb, 0, none⟩ = some (.slice ra l1.length rc) := HXz.out.cell 0
                have z4 : wr.cell? ⟨wb, 1, none⟩ = some (.slice ta l2.length tc) := HXz.out.cell 1
                have h1 := H1.out
                have h2 := H2.out
                rw [HN1.out] at h1
                rw [HN2.out] at h2
                have HSm2 := hid (same_any (h1.below HBz.out) (h2.below HBz.out) ((HR1.out.below HB5.out).is (by omega)) ((HR2.out.below HB5.out).is (by omega)))
                clear h1 h2
                go_wp2_with (go_at_call 22; (with_reducible refine HSm2.out.mono ?_); rintro e Zf ⟨rfl, hz⟩; have HZf := hid hz; clear hz)
                go_ret
                exact ⟨rfl, belows HBz.out HZf.out HBz.out.size⟩
end Go.Proofs.YtahjnaoabfkpcaaDoor
namespace Go.Proofs.YtahjnaoabfkpcaaDoor
open Go.ChangeShapes Go.WideShapes Go.ChangeAt Go.RowKit Go.WideMaps Go.WideElems
open Ty (T)
set_option maxRecDepth 100000
section
variable {H : Type} {enc : TypeId × Value → H}
theorem weights_allT {P : Program} {e : TypeId} : ∀ {ds : List (DataW H)} {d : DataW H}, d ∈ ds → (DataW.weightsAll P e ds).all (· ≤ reachBytes) = true → (d.weights P e).all (· ≤ reachBytes) = true
  | [], _, h, _ => by cases h
  | x :: r, d, h, hw => by
    simp only [DataW.weightsAll, List.all_append, Bool.and_eq_true] at hw
    rcases List.mem_cons.1 h with rfl | h
    · exact hw.1
    · exact weights_allT h hw.2
theorem bulk_pos (d : DataW H) : 1 ≤ Rows.uptoBulk d := by
  cases d with
  | lit l => cases l <;> simp [Rows.uptoBulk]
  | _ => simp [Rows.uptoBulk]
theorem bulk_len : ∀ l : List (DataW H), l.length ≤ Rows.uptoBulkAll l
  | [] => by simp [Rows.uptoBulkAll]
  | x :: r => by have h1 := bulk_pos x; have h2 := bulk_len r; simp only [Rows.uptoBulkAll, List.length_cons]; omega
theorem bulk_mem : ∀ {l : List (DataW H)} {d : DataW H}, d ∈ l → Rows.uptoBulk d ≤ Rows.uptoBulkAll l
  | [], _, h => by cases h
  | x :: r, d, h => by
    simp only [Rows.uptoBulkAll]
    rcases List.mem_cons.1 h with rfl | h
    · omega
    · have := bulk_mem h; omega
theorem A.cellsInt : Tryd.prog.cellsOf 3 = 1 := by kernel_rfl
theorem A.cellsStr : Tryd.prog.cellsOf 9 = 1 := by kernel_rfl
theorem A.cellsTy : Tryd.prog.cellsOf 23 = 2 := by kernel_rfl
theorem A.cellsTys : Tryd.prog.cellsOf 24 = 1 := by kernel_rfl
theorem A.cellsShp : Tryd.prog.cellsOf 43 = 2 := by kernel_rfl
set_option maxRecDepth 100000 in
/-- A list of things of so many cells each, in a cell. -/
theorem list_cell {α : Type} {W : World} {n : Nat} {k : Value} {y : DataW H × List MemPlace} {tS tE : TypeId} {s by_ : Nat} (G : DataW H → List Value → α → Prop) (hG : ∀ d cs x, G d cs x → cs.length = s) (hs : 0 < s)
    (hu : Tryd.prog.underlying tS = some (.slice tE)) (hco : Tryd.prog.cellsOf tE = s) (hby : Tryd.prog.bytesOf tE = by_) (hb0 : 0 < by_)
    (he : ∀ (m : Nat) (cs : List Value) (z : DataW H × List MemPlace), DataW.trod enc Tryd.prog W 0 (fun _ => true) true m tE cs = some z → (z.1.weights Tryd.prog tE).all (· ≤ reachBytes) = true → ∃ x, G z.1 cs x)
    (h : DataW.trod enc Tryd.prog W 0 (fun _ => true) true n tS [k] = some y) (hw : (y.1.weights Tryd.prog tS).all (· ≤ reachBytes) = true) :
    ∃ (xs : List α) (rs : List (List Value)), rs.length = xs.length ∧ (∀ (i : Nat) (r : List Value) (x : α), rs[i]? = some r → xs[i]? = some x → ∃ d, G d r x ∧ Rows.uptoBulk d ≤ Rows.uptoBulk y.1) ∧ Kit.IsS s W k xs.length rs.flatten ∧ xs.length * by_ ≤ 140737488351232 ∧ xs.length ≤ Rows.uptoBulk y.1 := by
  rcases DataW.trod_slice hu h with ⟨hcs, rfl⟩ | ⟨a, len, cap, elems, rest, m, -, hcs, rfl, -, hl, hm, hel, hcells, hsp, -⟩
  · obtain rfl : k = .slice none 0 0 := by simpa using hcs
    exact ⟨[], [], rfl, fun i r x hr => by simp at hr, ⟨by simp, by simp, .inl ⟨rfl, none, 0, rfl⟩⟩, by simp, by simp⟩
  · obtain rfl : k = .slice (some a) len cap := by simpa using hcs
    simp only [DataW.weights, hu, List.all_cons, List.all_append, Bool.and_eq_true, decide_eq_true_eq, hby] at hw
    have hcap : len * by_ ≤ 140737488351232 := by
      have h1 := hw.1
      simp only [List.length_map, reachBytes] at h1
      rw [hel] at h1
      exact Nat.le_trans (Nat.mul_le_mul_right _ (Nat.le_add_right _ _)) h1
    have hbl : len ≤ Rows.uptoBulk (.slice (elems.map (·.1)) (rest.map (·.1)) : DataW H) := by
      have := bulk_len (elems.map (·.1))
      rw [List.length_map, hel] at this
      simp only [Rows.uptoBulk]
      omega
    have each : ∀ i, ∃ q : List Value × Option α, i < len → q.1.length = s ∧ (∀ j, j < s → W.cell? ((a.add (i * s)).add j) = q.1[j]?) ∧ ∃ x d, q.2 = some x ∧ G d q.1 x ∧ Rows.uptoBulk d ≤ Rows.uptoBulk (.slice (elems.map (·.1)) (rest.map (·.1)) : DataW H) := by
      intro i
      by_cases hi : i < len
      · have h1 := hcells i hi
        rw [hco, List.getElem?_eq_getElem (by omega), Option.bind_eq_some_iff] at h1
        obtain ⟨cs, hcs', htr⟩ := h1
        have hmem : elems[i].1 ∈ elems.map (·.1) := List.mem_map_of_mem (List.getElem_mem _)
        obtain ⟨x, hx⟩ := he _ _ _ htr (weights_allT hmem hw.2.1)
        refine ⟨(cs, some x), fun _ => ⟨hG _ _ _ hx, fun j hj => (World.cells?_some hcs').2.2 j hj, x, _, rfl, hx, ?_⟩⟩
        have := bulk_mem hmem
        simp only [Rows.uptoBulk]
        omega
      · exact ⟨([], none), fun h => absurd h hi⟩
    obtain ⟨f, hfx⟩ := Classical.skolem.1 each
    have hxs : ∃ xs : List α, xs.length = len ∧ ∀ i, i < len → xs[i]? = (f i).2 := by
      have : ∀ m, m ≤ len → ∃ xs : List α, xs.length = m ∧ ∀ i, i < m → xs[i]? = (f i).2 := by
        intro m
        induction m with
        | zero => intro _; exact ⟨[], rfl, fun i hi => by omega⟩
        | succ m ih =>
          intro hm
          obtain ⟨xs, h1, h2⟩ := ih (by omega)
          obtain ⟨-, -, x, d, hx, -⟩ := hfx m (by omega)
          refine ⟨xs ++ [x], by simp [h1], fun i hi => ?_⟩
          by_cases e : i < m
          · rw [List.getElem?_append_left (by omega)]; exact h2 i e
          · obtain rfl : i = m := by omega
            rw [List.getElem?_append_right (by omega), h1, Nat.sub_self, hx]
            rfl
      exact this len (Nat.le_refl _)
    obtain ⟨xs, hxl, hxe⟩ := hxs
    have hrl : ∀ r ∈ (List.range len).map (fun i => (f i).1), r.length = s := by
      intro r hr
      obtain ⟨i, hi, rfl⟩ := List.mem_map.1 hr
      exact (hfx i (List.mem_range.1 hi)).1
    have hfl : ∀ (rs : List (List Value)), (∀ r ∈ rs, r.length = s) → rs.flatten.length = rs.length * s ∧ ∀ i r, rs[i]? = some r → ∀ j, j < s → rs.flatten[i * s + j]? = r[j]? := by
      intro rs
      induction rs with
      | nil => intro _; exact ⟨by simp, fun i r hr => by simp at hr⟩
      | cons r0 rs ih =>
        intro hr
        obtain ⟨h1, h2⟩ := ih (fun r h => hr r (List.mem_cons_of_mem _ h))
        have h0 := hr r0 (by simp)
        refine ⟨by rw [List.flatten_cons, List.length_append, h0, h1, List.length_cons, Nat.succ_mul]; omega, fun i r hi j hj => ?_⟩
        match i, hi with
        | 0, hi =>
          simp at hi
          subst hi
          rw [List.flatten_cons, List.getElem?_append_left (by omega)]
          simp
        | i + 1, hi =>
          rw [List.flatten_cons, List.getElem?_append_right (by rw [h0, Nat.succ_mul]; omega), h0, ← h2 i r (by simpa using hi) j hj]
          congr 1
          rw [Nat.succ_mul]
          omega
    obtain ⟨hfl1, hfl2⟩ := hfl _ hrl
    have hrlen : ((List.range len).map (fun i => (f i).1)).length = len := by simp
    refine ⟨xs, (List.range len).map (fun i => (f i).1), by rw [hrlen, hxl], fun i r x hr hx => ?_, ⟨by rw [hfl1, hrlen, hxl], by rw [hxl]; exact Nat.le_trans (Nat.le_trans (Nat.le_mul_of_pos_right _ hb0) hcap) (by decide), ?_⟩, by rw [hxl]; exact hcap, by rw [hxl]; exact hbl⟩
    · have hi : i < len := by
        have := (List.getElem?_eq_some_iff.1 hx).1
        omega
      obtain ⟨-, -, x', d, hx', hg, hb⟩ := hfx i hi
      rw [hxe i hi, hx'] at hx
      cases hx
      rw [List.getElem?_map, List.getElem?_range hi] at hr
      simp only [Option.map_some, Option.some.injEq] at hr
      subst hr
      exact ⟨d, hg, hb⟩
    · by_cases h0 : len = 0
      · exact .inl ⟨by rw [hxl, h0], some a, cap, by rw [h0]⟩
      · obtain ⟨b, o, spot⟩ := a
        have hsp0 : ∃ u, W.cell? (((⟨b, o, spot⟩ : Addr).add (0 * s)).add 0) = some u := by
          obtain ⟨h1, h2, -⟩ := hfx 0 (by omega)
          refine ⟨(f 0).1[0]'(by omega), ?_⟩
          rw [h2 0 hs, List.getElem?_eq_getElem]
        obtain ⟨u0, hsp0⟩ := hsp0
        have hspot : spot = none := by
          have := World.cell?_spot hsp0
          simpa [Addr.add] using this
        subst hspot
        have hat : ∀ i j, ((⟨b, o, none⟩ : Addr).add i).add j = ⟨b, o + (i + j), none⟩ := by
          intro i j
          rw [add_plain, add_plain]; congr 1; omega
        refine .inr ⟨b, o, cap, by rw [hxl], by rw [hxl]; exact hl, ?_, fun i u hi => ?_⟩
        · have := World.block_lt_of_cell? W _ hsp0
          simpa [Addr.add] using this
        · have hil : i < len * s := by
            have := (List.getElem?_eq_some_iff.1 hi).1
            rw [hfl1, hrlen] at this
            exact this
          have hq : i / s < len := Nat.div_lt_of_lt_mul (by rw [Nat.mul_comm]; exact hil)
          have hr : i % s < s := Nat.mod_lt _ hs
          have e : i / s * s + i % s = i := by rw [Nat.mul_comm]; exact Nat.div_add_mod i s
          have hget : ((List.range len).map (fun i => (f i).1))[i / s]? = some (f (i / s)).1 := by rw [List.getElem?_map, List.getElem?_range hq]; rfl
          have h1 := hfl2 (i / s) _ hget (i % s) hr
          rw [e] at h1
          have h2 := (hfx (i / s) hq).2.1 (i % s) hr
          rw [hat, e] at h2
          rw [h2, ← h1]
          exact hi
theorem rs_map {α : Type} {f : α → List Value} {xs : List α} {rs : List (List Value)} (hl : rs.length = xs.length) (h : ∀ (i : Nat) (r : List Value) (x : α), rs[i]? = some r → xs[i]? = some x → r = f x) : rs.flatten = xs.flatMap f := by
  have e : rs = xs.map f := by
    apply List.ext_getElem?
    intro i
    rw [List.getElem?_map]
    by_cases hi : i < xs.length
    · have h1 : rs[i]? = some rs[i] := List.getElem?_eq_getElem (by omega)
      have h2 : xs[i]? = some xs[i] := List.getElem?_eq_getElem hi
      rw [h1, h2, h i _ _ h1 h2]
      rfl
    · rw [List.getElem?_eq_none (by omega), List.getElem?_eq_none (by omega)]
      rfl
  rw [e, List.flatMap_def]
theorem ty_cells {W : World} {n : Nat} {cs : List Value} {y : DataW H × List MemPlace} (h : DataW.trod enc Tryd.prog W 0 (fun _ => true) true n 23 cs = some y) (hw : (y.1.weights Tryd.prog 23).all (· ≤ reachBytes) = true) : ∃ x : T, cs = tyL x ∧ x.n.size ≤ 140737488351232 := by
  obtain ⟨y0, y1, m, hx, hl, hy0, hy1⟩ := trod_struct2 Tryd.underlying23 h
  rw [A.cellsTy] at hl
  match cs, hl with
  | [c0, c1], _ =>
  obtain ⟨a, e0, rfl, wa⟩ := DataW.trod_int Tryd.underlying3 hy0
  obtain ⟨b, e1, rfl, wb⟩ := DataW.trod_string Tryd.underlying9 hy1
  simp [A.cellsInt, A.cellsStr] at e0 e1
  subst e0 e1
  subst hx
  simp [DataW.weights, Tryd.underlying23, DataW.weightsEach, reachBytes] at hw
  exact ⟨⟨a, b⟩, rfl, of_decide_eq_true hw⟩
theorem tys_cell {W : World} {n : Nat} {k : Value} {y : DataW H × List MemPlace} (h : DataW.trod enc Tryd.prog W 0 (fun _ => true) true n 24 [k] = some y) (hw : (y.1.weights Tryd.prog 24).all (· ≤ reachBytes) = true) :
    ∃ l : List T, TyS W k l ∧ (∀ x ∈ l, x.n.size ≤ 140737488351232) ∧ l.length * 24 ≤ 140737488351232 := by
  obtain ⟨xs, rs, h1, h2, h3, h4, h5⟩ := list_cell (s := 2) (by_ := 24) (tE := 23) (fun (_ : DataW H) cs (x : T) => cs = tyL x ∧ x.n.size ≤ 140737488351232) (fun _ _ x h => by rw [h.1]; rfl) (by decide) Tryd.underlying24 (by kernel_rfl) (by kernel_rfl) (by decide) (fun m cs z hz hw => ty_cells hz hw) h hw
  refine ⟨xs, ?_, fun c hc => ?_, h4⟩
  · unfold TyS
    rw [← rs_map h1 (fun i r x hr hx => by obtain ⟨d, hd, -⟩ := h2 i r x hr hx; exact hd.1)]
    exact h3
  · obtain ⟨i, hi⟩ := List.mem_iff_getElem?.1 hc
    have hlt : i < rs.length := by rw [h1]; exact (List.getElem?_eq_some_iff.1 hi).1
    obtain ⟨d, hd, -⟩ := h2 i _ c (List.getElem?_eq_getElem hlt) hi
    exact hd.2
theorem shape_cells {W : World} {n : Nat} {cs : List Value} {y : DataW H × List MemPlace} (h : DataW.trod enc Tryd.prog W 0 (fun _ => true) true n 43 cs = some y) (hw : (y.1.weights Tryd.prog 43).all (· ≤ reachBytes) = true) :
    ∃ (v1 v2 : Value) (l1 l2 : List T), cs = [v1, v2] ∧ TyS W v1 l1 ∧ TyS W v2 l2 ∧ (∀ x ∈ l1, x.n.size ≤ 140737488351232) ∧ (∀ x ∈ l2, x.n.size ≤ 140737488351232) ∧ l1.length * 24 ≤ 140737488351232 ∧ l2.length * 24 ≤ 140737488351232 := by
  obtain ⟨xs, m, -, hy, hl, hlen, hf⟩ := DataW.trod_struct Tryd.underlying43 h
  have hl2 : cs.length = 2 := hl.trans (by kernel_rfl)
  have hx2 : xs.length = 2 := hlen
  match xs, hx2 with
  | [x0, x1], _ =>
  match cs, hl2 with
  | [k0, k1], _ =>
  have f0 : DataW.trod enc Tryd.prog W 0 (fun _ => true) true m 24 (([k0, k1].drop 0).take (Tryd.prog.cellsOf 24)) = some x0 := hf 0 _ rfl
  have f1 : DataW.trod enc Tryd.prog W 0 (fun _ => true) true m 24 (([k0, k1].drop 1).take (Tryd.prog.cellsOf 24)) = some x1 := hf 1 _ rfl
  rw [A.cellsTys] at f0 f1
  simp only [List.take_succ_cons, List.take_zero, List.drop_succ_cons, List.drop_zero] at f0 f1
  subst hy
  simp only [DataW.weights, Tryd.underlying43, List.map_cons, List.map_nil, DataW.weightsEach, List.all_append, Bool.and_eq_true] at hw
  obtain ⟨l1, a1, a2, a3⟩ := tys_cell f0 (by simp_all)
  obtain ⟨l2, b1, b2, b3⟩ := tys_cell f1 (by simp_all)
  exact ⟨k0, k1, l1, l2, rfl, a1, b1, a2, b2, a3, b3⟩
theorem open_shapes {W : World} {base : Nat} {v : Value} {d : DataW H} {p : List MemPlace} (hv : Value.okWide Tryd.prog W .any base 45 v) (h : DataW.Trod enc Tryd.prog W 0 (fun _ => true) true 45 v d p) (hw : (d.weights Tryd.prog 45).all (· ≤ reachBytes) = true) :
    ∃ (k0 v1 v2 u1 u2 : Value) (l1 l2 : List T), v = .agg #[k0, v1, v2, u1, u2] ∧ TyS W v1 l1 ∧ TyS W v2 l2 ∧ (∀ x ∈ l1, x.n.size ≤ 140737488351232) ∧ (∀ x ∈ l2, x.n.size ≤ 140737488351232) ∧ l1.length * 24 ≤ 140737488351232 ∧ l2.length * 24 ≤ 140737488351232 := by
  obtain ⟨cs, rfl, hsz⟩ := okWide_struct Tryd.underlying45 hv
  obtain ⟨fuel, hf0⟩ := h
  obtain ⟨xs, m, -, hy, hl, hlen, hf⟩ := DataW.trod_struct Tryd.underlying45 hf0
  have hl5 : cs.toList.length = 5 := hl.trans (by kernel_rfl)
  have hx3 : xs.length = 3 := hlen
  obtain ⟨cs⟩ := cs
  match xs, hx3 with
  | [x0, x1, x2], _ =>
  match cs, hl5 with
  | [k0, k1, k2, k3, k4], _ =>
  have f1 : DataW.trod enc Tryd.prog W 0 (fun _ => true) true m 43 (([k0, k1, k2, k3, k4].drop 1).take (Tryd.prog.cellsOf 43)) = some x1 := hf 1 _ rfl
  rw [A.cellsShp] at f1
  simp only [List.take_succ_cons, List.take_zero, List.drop_succ_cons, List.drop_zero] at f1
  have hd := (Prod.mk.inj hy).1
  try dsimp only at hd
  subst hd
  simp only [DataW.weights, Tryd.underlying45, List.map_cons, List.map_nil, DataW.weightsEach, List.all_append, Bool.and_eq_true] at hw
  obtain ⟨v1, v2, l1, l2, hc, q1, q2, q3, q4, q5, q6⟩ := shape_cells f1 (by simp_all)
  simp only [List.cons.injEq, and_true] at hc
  obtain ⟨rfl, rfl⟩ := hc
  exact ⟨k0, k1, k2, k3, k4, l1, l2, rfl, q1, q2, q3, q4, q5, q6⟩
theorem weights_eachT {P : Program} : ∀ {ts : List TypeId} {ds : List (DataW H)} {j : Nat} {t : TypeId} {d : DataW H}, ts[j]? = some t → ds[j]? = some d → (DataW.weightsEach P ts ds).all (· ≤ reachBytes) = true → (d.weights P t).all (· ≤ reachBytes) = true
  | [], _, _, _, _, h, _, _ => by simp at h
  | _, [], _, _, _, _, h, _ => by simp at h
  | t :: ts, d :: ds, 0, _, _, h1, h2, h => by
    simp only [List.getElem?_cons_zero, Option.some.injEq] at h1 h2
    subst h1 h2
    simp only [DataW.weightsEach, List.all_append, Bool.and_eq_true] at h
    exact h.1
  | t :: ts, d :: ds, j + 1, _, _, h1, h2, h => by
    simp only [DataW.weightsEach, List.all_append, Bool.and_eq_true] at h
    exact weights_eachT (j := j) (by simpa using h1) (by simpa using h2) h.2
end
end Go.Proofs.YtahjnaoabfkpcaaDoor
namespace Go.Proofs.YtahjnaoabfkpcaaDoor.lawNone
open Go.ChangeShapes Go.WideShapes Go.ChangeAt Go.RowKit Go.WideMaps Go.WideElems
open Go.ChangeMaps (setBlock shut_map_nil open_string shut_string keptBut_setBlock frozen?_setBlock heap_setBlock_same)

set_option maxRecDepth 100000 in
theorem contract (H : Type) (enc : TypeId × Value → H) (W : World) (base : Nat) (args : Array Value) (ds gs : List (DataW H)) (before : List MemPlace)
    (hval : ∀ (j : Nat) t v, Tryd.f6.params[j]? = some t → args[j]? = some v → Value.okWide Tryd.prog W .any base t v)
    (hW : DataW.Whole enc Tryd.prog Tryd.f6.params.toList Rows.vtypeNoneSpec.vars false W args.toList ds gs before)
    (hsz : (DataW.weightsEach Tryd.prog (Tryd.f6.params.toList ++ (OpenSpec.ofChange Rows.vtypeNoneSpec).bare.plain.varTypes Tryd.prog) (ds ++ gs)).all (· ≤ reachBytes) = true)
    (_hL : laidMetH Tryd.prog Rows.vtypeNoneRow.laid W) :
    Calls Tryd.prog 6 args W fun e W' => ∃ v, e = .returned v ∧ Rows.vtypeNoneSpec.post enc Tryd.prog Tryd.f6 false true false false W args v W' := by
  have hW' := hW
  obtain ⟨p, q, hA0, hV, rfl, hfz, hnd⟩ := hW
  have hA : DataW.TrodAll enc Tryd.prog W 0 (fun _ => true) true Tryd.f6.params.toList args.toList ds p := hA0
  rw [Tryd.params6] at hA hval hsz
  obtain ⟨v0, vs0, d0, ds0, p0, q0, hargs, rfl, rfl, h0, r0⟩ := trodAll_cons hA
  obtain ⟨rfl, rfl, rfl⟩ := trodAll_nil r0
  obtain rfl : args = #[v0] := by cases args; simp_all
  obtain ⟨rfl, rfl⟩ := trodVars_none hV
  obtain ⟨k0, p0, q0, r0, s0, l0, m0, rfl, w10, w20, w30, w40, w50, w60⟩ := open_shapes (hval 0 45 v0 rfl rfl) h0 (weights_eachT (j := 0) (t := 45) (d := d0) rfl rfl hsz)
  refine (none_law w10 w20 w30 w40 w50 w60).mono fun e W' ⟨he, hb⟩ => ?_
  subst he
  exact ⟨_, rfl, Kit.law_post rfl rfl Tryd.underlying4 (by kernel_rfl) (by decide +kernel) hW' rfl hb⟩

theorem reads (os : Os) {H : Type} (enc : TypeId × Value → H) : ∃ places, DataW.whole enc Tryd.prog ((laidWorld os).forCall (fun _ _ => 0) ⟨#[], #[.agg #[.slice none 0 0, .slice none 0 0, .slice none 0 0, .slice none 0 0, .slice none 0 0]], []⟩).memory Tryd.f6.params.toList Rows.vtypeNoneSpec.vars false (#[.agg #[.slice none 0 0, .slice none 0 0, .slice none 0 0, .slice none 0 0, .slice none 0 0]] : Array Value).toList 8 = some ([.agg [.nil, .agg [.nil, .nil], .agg [.nil, .nil]]], [], places) :=
  ⟨[], by kernel_rfl⟩
theorem laid_met (os : Os) : laidMet Tryd.prog Rows.vtypeNoneRow.laid ((laidWorld os).forCall (fun _ _ => 0) ⟨#[], #[.agg #[.slice none 0 0, .slice none 0 0, .slice none 0 0, .slice none 0 0, .slice none 0 0]], []⟩).memory :=
  laidMet_of_run' 8 (by kernel_rfl) (by kernel_rfl)
set_option maxRecDepth 100000 in
theorem lifted (os : Os) (started : os.Started) (H : Type) (enc : TypeId × Value → H) (F : Stop.Interp) :
    ReturnsInHanded {} Tryd.checked os 6 .any ((OpenSpec.ofChange Rows.vtypeNoneSpec).preRow enc Tryd.prog Tryd.f6 Rows.vtypeNoneRow.domain false Rows.vtypeNoneRow.laid) (((OpenSpec.ofChange Rows.vtypeNoneSpec).at F).post enc Tryd.prog Tryd.f6 false true false false) := by
  obtain ⟨places, hx⟩ := reads os enc
  refine returnsInHanded_of_row (C := Tryd.checked) (s := (OpenSpec.ofChange Rows.vtypeNoneSpec)) own started (by kernel_rfl) Tryd.func6
    (witness_row_at (enc := enc) (C := Tryd.checked) false (laidWorld os) #[.agg #[.slice none 0 0, .slice none 0 0, .slice none 0 0, .slice none 0 0, .slice none 0 0]] rfl (by kernel_rfl) (by kernel_rfl) (by kernel_rfl)
      (OpenSpec.preRow_of_cond 8 hx (by kernel_rfl) (fun k hk => by cases hk) (by kernel_rfl) (laid_met os))) ?_
  intro W base args ds gs before hval hW _ _ hsz hL _ _
  exact contract H enc W base args ds gs before hval hW hsz hL
theorem said : Rows.VtypeNoneSaid :=
  OpenClaim.holds_of_cond 6 Tryd.f6 rfl rfl rfl rfl rfl rfl rfl ⟨rfl, rfl, rfl, rfl, rfl⟩ rfl rfl rfl rfl rfl (by kernel_rfl) Tryd.func6 (by kernel_rfl)
    (of_decide_eq_true (by kernel_rfl)) (by unfold Func.isWrapper; first | (rw [if_pos (by decide +kernel)]; kernel_rfl) | (rw [if_neg (by decide +kernel)]; exact ⟨rfl, rfl⟩))
    (fun os started H enc _ F => by rw [OpenClaim.pre_eq_preRow]; exact lifted os started H enc F)
theorem plain (f : FuncId) (fn : Func) (hf : Tryd.pinned.checked.prog.funcNamed "tabard/tabardlaw11.VtypeNone" = some f) (hfn : Tryd.pinned.checked.prog.funcs[f]? = some fn) :
    false = Tryd.pinned.checked.prog.looks [] ∧ ∀ (j : Nat) t, fn.params[j]? = some t → Tryd.pinned.checked.prog.wantsStandIn t = false := by
  obtain rfl : f = 6 := Option.some.inj ((show Tryd.prog.funcNamed "tabard/tabardlaw11.VtypeNone" = some 6 by kernel_rfl).symm.trans hf) |>.symm
  obtain rfl : fn = Tryd.f6 := (Option.some.inj (Tryd.func6.symm.trans hfn)).symm
  refine ⟨by kernel_rfl, fun j t ht => ?_⟩
  rw [Tryd.params6] at ht
  have hm := Array.mem_of_getElem? ht
  exact (show ∀ t ∈ #[45], Tryd.prog.wantsStandIn t = false by decide +kernel) t hm
/-- THE CARD. -/
theorem card : Rows.VtypeNoneCardSaid :=
  Claim7.holds_tied_plain_at .later [] _ _ _ _ said (fun _ h => by cases h) (by kernel_rfl) (fun _ h => by cases h) vtypeNone_row_tie rfl ⟨rfl, rfl⟩ (by kernel_rfl) rfl plain (by kernel_rfl)
end Go.Proofs.YtahjnaoabfkpcaaDoor.lawNone

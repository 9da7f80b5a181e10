/- Own texts for the claim, part 2. -/
import Derived.Test.YtehjindeggmfpaaGreatDoorZ1
namespace Go.Proofs.YtehjindeggmfpaaGreatDoor.L3
open Go.RowKit

theorem wd_out {k : Nat} (h : 13 ≤ k) : Cp.wd (k : Int) = (0, 0, 0, 0) ∧ Cp.knownB (k : Int) = false := by
  refine ⟨?_, ?_⟩
  · unfold Cp.wd
    rw [if_neg (by omega), if_neg (by omega), if_neg (by omega), if_neg (by omega), if_neg (by omega)]
  · unfold Cp.knownB
    rw [decide_eq_false_iff_not]
    omega
theorem widthsOf_any (k : Nat) (w : World) (ht : Tabs w) : Calls Tryz.prog 144 #[.int .i64 k] w fun e w' => e = .returned (.tuple #[.agg #[.int .i64 (Cp.wd k).1, .int .i64 (Cp.wd k).2.1, .int .i64 (Cp.wd k).2.2.1, .int .i64 (Cp.wd k).2.2.2], .bool (Cp.knownB k)]) ∧ Below w.heap.size w w' := by
  by_cases h : k < 13
  · exact widthsOf_in k w h ht
  · obtain ⟨h1, h2⟩ := wd_out (k := k) (by omega)
    rw [h1, h2]
    exact widthsOf_out k w (.inr (by omega))
theorem numI_one (c : UInt8) : Cp.numI [c] = (c.toNat : Int) := by
  have := Cp.u8_lt c
  unfold Cp.numI
  rw [List.foldl_cons, List.foldl_nil, Cp.w64]
  omega
/-- A number with its sign. -/
def sgn (z : Int) (k : Nat) : Int := if k = 0 then 0 else if k = 4 then IntKind.i32.wrap z else IntKind.i64.wrap z
theorem signed_any (z : Int) (k : Nat) (w : World) (hk : k = 0 ∨ k = 4 ∨ k = 8) : Calls Tryz.prog 202 #[.int .i64 z, .int .i64 k] w fun e w' => e = .returned (.int .i64 (sgn z k)) ∧ w = w' := by
  rcases hk with rfl | rfl | rfl
  · exact signed_0 z w
  · exact signed_4 z w
  · exact signed_8 z w
theorem wd_n (t : Int) : (Cp.wd t).2.1 = 0 ∨ (Cp.wd t).2.1 = 4 ∨ (Cp.wd t).2.1 = 8 := by
  unfold Cp.wd
  repeat' split
  all_goals simp
theorem wd_le (t : Int) : (Cp.wd t).1 ≤ 2 ∧ (Cp.wd t).2.1 ≤ 8 ∧ (Cp.wd t).2.2.1 ≤ 2 ∧ (Cp.wd t).2.2.2 ≤ 2 := by
  unfold Cp.wd
  repeat' split
  all_goals simp
/-- A block with these cells. -/
def BX (w : World) (B : Nat) (cs : Array Value) (T : TypeId) : Prop := w.heap[B]? = some (.cells cs T (0, 0))
theorem BX.new (w : World) (cs : Array Value) (T : TypeId) : BX (w.alloc (.cells cs T)) w.heap.size cs T := by
  show (w.heap.push _)[w.heap.size]? = _
  rw [Array.getElem?_push_size]
theorem BX.sz {w : World} {B : Nat} {cs : Array Value} {T : TypeId} (h : BX w B cs T) : B < w.heap.size := (Array.getElem?_eq_some_iff.1 h).1
theorem BX.below {w w' : World} {B n : Nat} {cs : Array Value} {T : TypeId} (h : BX w B cs T) (hb : Below n w w') (hn : B < n) : BX w' B cs T := (hb.block B hn).trans h
theorem BX.grown {w w' : World} {B : Nat} {cs : Array Value} {T : TypeId} {row : Option Nat} (h : BX w B cs T) (hg : w.grownBy w' row) (hne : row ≠ some B) : BX w' B cs T := (hg.block B h.sz (fun e => hne e.symm)).trans h
theorem BX.cell {w : World} {B : Nat} {cs : Array Value} {T : TypeId} (h : BX w B cs T) (j : Nat) : w.cell? ⟨B, j, none⟩ = cs[j]? := by simp [World.cell?, show w.heap[B]? = _ from h]
theorem BX.frozen {w : World} {B : Nat} {cs : Array Value} {T : TypeId} (h : BX w B cs T) (j : Nat) : w.frozen? ⟨B, j, none⟩ = false := by simp [World.frozen?, show w.heap[B]? = _ from h]
theorem BX.set {w : World} {B : Nat} {cs : Array Value} {T : TypeId} (h : BX w B cs T) (j : Nat) (u : Value) : BX (w.setCell ⟨B, j, none⟩ u) B (cs.setIfInBounds j u) T := by
  obtain ⟨hlt, hk⟩ := Array.getElem?_eq_some_iff.1 h
  show (w.heap.modify B _)[B]? = _
  rw [Array.getElem?_eq_getElem (by rw [Array.size_modify]; exact hlt), Array.getElem_modify_self, hk]
  rfl
theorem Rdr.grown {w w' : World} {pb : Nat} {bs : List UInt8} {row : Option Nat} (h : Rdr w pb bs) (hg : w.grownBy w' row) (hne : ∀ k, row = some k → pb < k) : Rdr w' pb bs := by
  have hs := h.sz
  obtain ⟨v, h, k⟩ := h
  have hb := fun b (hb : b ≤ pb) => hg.block b (by omega) (fun e => by have := hne b e.symm; omega)
  exact ⟨v, (hb pb (Nat.le_refl _)).trans h, k.same fun b o hl => World.cell?_of_block (hb b (by omega))⟩
theorem set_grown (w : World) (B j : Nat) (u : Value) : w.grownBy (w.setCell ⟨B, j, none⟩ u) (some B) := ⟨rfl, rfl, rfl, by simp, fun i _ hne => Below.heap_setCell _ _ _ i (fun e => hne (by rw [e]))⟩
/-- An entry's cells. -/
def cC (c : Cp.C) : Array Value := #[.int .i64 c.t, .string c.s, .int .i64 c.n, .int .i64 c.a, .int .i64 c.b]
/-- What entry holds while it reads. -/
structure EnSt (pb B4 B5 B6 : Nat) (w wr : World) (bs : List UInt8) (c : Cp.C) (x : Array Value) : Prop where
  rd : Rdr wr pb bs
  b4 : BX wr B4 (cC Cp.C0) 56
  b5 : BX wr B5 (cC c) 56
  b6 : BX wr B6 x 169
  gr : w.grownBy wr (some pb)
  l0 : pb < w.heap.size
  l4 : w.heap.size ≤ B4
  l45 : B4 < B5
  l56 : B5 < B6
theorem EnSt.stp {pb B4 B5 B6 : Nat} {w wr w' : World} {bs bs' : List UInt8} {c : Cp.C} {x : Array Value} (h : EnSt pb B4 B5 B6 w wr bs c x) (hs : Stp pb bs' wr w') : EnSt pb B4 B5 B6 w w' bs' c x := by
  have := h.l0; have := h.l4; have := h.l45; have := h.l56
  exact ⟨hs.2, h.b4.grown hs.1 (by simp; omega), h.b5.grown hs.1 (by simp; omega), h.b6.grown hs.1 (by simp; omega), grown_trans h.gr hs.1, h.l0, h.l4, h.l45, h.l56⟩
theorem EnSt.set {pb B4 B5 B6 : Nat} {w wr : World} {bs : List UInt8} {c : Cp.C} {x : Array Value} (h : EnSt pb B4 B5 B6 w wr bs c x) (j : Nat) (u : Value) (c' : Cp.C) (hc : (cC c).setIfInBounds j u = cC c') : EnSt pb B4 B5 B6 w (wr.setCell ⟨B5, j, none⟩ u) bs c' x := by
  have := h.l0; have := h.l4; have := h.l45; have := h.l56
  have hg := set_grown wr B5 j u
  refine ⟨h.rd.grown hg (fun k e => by have := Option.some.inj e; omega), h.b4.grown hg (by simp; omega), ?_, h.b6.grown hg (by simp; omega), ?_, h.l0, h.l4, h.l45, h.l56⟩
  · rw [← hc]; exact h.b5.set j u
  · exact ⟨h.gr.os, h.gr.tape, h.gr.output, by rw [World.size_setCell]; exact h.gr.size, fun i hi hne => (hg.block i (Nat.lt_of_lt_of_le hi h.gr.size) (fun e => by have := Option.some.inj e; omega)).trans (h.gr.block i hi hne)⟩
theorem EnSt.drew {pb B4 B5 B6 : Nat} {w wr : World} {bs : List UInt8} {c : Cp.C} {x : Array Value} (h : EnSt pb B4 B5 B6 w wr bs c x) : EnSt pb B4 B5 B6 w wr.drew bs c x :=
  ⟨h.rd.grown (row := none) ⟨rfl, rfl, rfl, Nat.le_refl _, fun _ _ _ => rfl⟩ (fun k e => by cases e), h.b4, h.b5, h.b6, ⟨h.gr.os, h.gr.tape, h.gr.output, h.gr.size, h.gr.block⟩, h.l0, h.l4, h.l45, h.l56⟩
/-- What entry reads. -/
def enP (room : Int) : List UInt8 → Except Int (Cp.C × List UInt8)
  | [] => .error 30
  | c :: r =>
    if Cp.knownB (c.toNat : Int) = false ∨ ((c.toNat : Int) = 5 ∧ room < 2) then .error 31
    else match txP (Cp.wd (c.toNat : Int)).1 r with
      | .error e => .error e
      | .ok (s, r1) =>
        if r1.length < (Cp.wd (c.toNat : Int)).2.1 then .error 30
        else if (r1.drop (Cp.wd (c.toNat : Int)).2.1).length < (Cp.wd (c.toNat : Int)).2.2.1 then .error 30
        else if ((r1.drop (Cp.wd (c.toNat : Int)).2.1).drop (Cp.wd (c.toNat : Int)).2.2.1).length < (Cp.wd (c.toNat : Int)).2.2.2 then .error 30
        else .ok (⟨(c.toNat : Int), ⟨s.toArray⟩, sgn (Cp.numI (r1.take (Cp.wd (c.toNat : Int)).2.1)) (Cp.wd (c.toNat : Int)).2.1, Cp.numI ((r1.drop (Cp.wd (c.toNat : Int)).2.1).take (Cp.wd (c.toNat : Int)).2.2.1), Cp.numI (((r1.drop (Cp.wd (c.toNat : Int)).2.1).drop (Cp.wd (c.toNat : Int)).2.2.1).take (Cp.wd (c.toNat : Int)).2.2.2)⟩,
          ((r1.drop (Cp.wd (c.toNat : Int)).2.1).drop (Cp.wd (c.toNat : Int)).2.2.1).drop (Cp.wd (c.toNat : Int)).2.2.2)
end Go.Proofs.YtehjindeggmfpaaGreatDoor.L3
namespace Go.Proofs.YtehjindeggmfpaaGreatDoor.L3
open Go.RowKit

theorem Tabs.grown {w w' : World} {row : Option Nat} (h : Tabs w) (hg : w.grownBy w' row) (hne : ∀ k, row = some k → 1 ≤ k) : Tabs w' := by
  have hs := h.size
  refine ⟨Nat.le_trans h.size hg.size, fun k hk => ?_⟩
  obtain ⟨a, b, c, d⟩ := h.cells k hk
  have hc := fun j => World.cell?_of_block (a := ⟨0, j, none⟩) (hg.block 0 (by omega) (fun e => by have := hne 0 e.symm; omega))
  exact ⟨(hc _).trans a, (hc _).trans b, (hc _).trans c, (hc _).trans d⟩
theorem EnSt.new {pb : Nat} {w w1 w2 : World} {r : List UInt8} {c : Int} {x : Array Value} (hp : pb < w.heap.size) (h1 : Stp pb r (w.alloc (.cells #[.int .i64 0, .string ⟨#[]⟩, .int .i64 0, .int .i64 0, .int .i64 0] 56)) w1)
    (h2 : Below (w1.alloc (.cells #[.int .i64 c, .string ⟨#[]⟩, .int .i64 0, .int .i64 0, .int .i64 0] 56)).heap.size (w1.alloc (.cells #[.int .i64 c, .string ⟨#[]⟩, .int .i64 0, .int .i64 0, .int .i64 0] 56)) w2) :
    EnSt pb w.heap.size w1.heap.size w2.heap.size w (w2.alloc (.cells x 169)) r ⟨c, ⟨#[]⟩, 0, 0, 0⟩ x := by
  have z1 := h1.1.size
  have z2 := h2.size
  simp only [World.size_alloc] at z1 z2
  have hb : Below w1.heap.size w1 (w2.alloc (.cells x 169)) := by
    have ha : Below w1.heap.size w1 w2 := ((Below.refl _ _).alloc (Nat.le_refl _) _).trans (h2.mono (by rw [World.size_alloc]; omega))
    exact ha.alloc (by omega) _
  have hb2 : Below (w1.heap.size + 1) (w1.alloc (.cells #[.int .i64 c, .string ⟨#[]⟩, .int .i64 0, .int .i64 0, .int .i64 0] 56)) (w2.alloc (.cells x 169)) := (h2.mono (by rw [World.size_alloc]; omega)).alloc (by omega) _
  have hg1 : w.grownBy w1 (some pb) := by
    have := h1.1
    exact ⟨this.os, this.tape, this.output, by omega, fun i hi hne => (this.block i (by rw [World.size_alloc]; omega) hne).trans (((Below.refl w.heap.size w).alloc (Nat.le_refl _) _).block i hi)⟩
  refine ⟨h1.2.below hb (by omega), ?_, ?_, BX.new _ _ _, ?_, hp, Nat.le_refl _, by omega, by omega⟩
  · exact ((BX.new w _ _).grown h1.1 (by simp; omega)).below hb (by omega)
  · exact (BX.new w1 _ _).below hb2 (by omega)
  · exact grown_trans hg1 (grown_of_below hb _)
def EnPost (pb : Nat) (x : Except Int (Cp.C × List UInt8)) (w : World) (e : Ending) (w' : World) : Prop := match x with
  | .error er => Bad pb er w e w'
  | .ok (c, r) => e = .returned (.agg (cC c)) ∧ Stp pb r w w'
theorem Stp.set {pb : Nat} {bs : List UInt8} {w wr : World} (h : Stp pb bs w wr) {B : Nat} (hB : w.heap.size ≤ B) (hp : pb < w.heap.size) (j : Nat) (u : Value) : Stp pb bs w (wr.setCell ⟨B, j, none⟩ u) := by
  have hg := set_grown wr B j u
  refine ⟨⟨h.1.os, h.1.tape, h.1.output, by rw [World.size_setCell]; exact h.1.size, fun i hi hne => (hg.block i (Nat.lt_of_lt_of_le hi h.1.size) (fun e => by have := Option.some.inj e; omega)).trans (h.1.block i hi hne)⟩, h.2.grown hg (fun k e => by have := Option.some.inj e; omega)⟩
theorem cf_number (u v : Value) (w : World) : (callFunc 213 #[u, v]).run Tryz.prog w = .ok (.enter 213 #[u, v]) w := by kernel_rfl
theorem cf_signed (u v : Value) (w : World) : (callFunc 202 #[u, v]).run Tryz.prog w = .ok (.enter 202 #[u, v]) w := by kernel_rfl
set_option maxRecDepth 100000 in
set_option maxHeartbeats 400000 in
theorem entry_ok (pb : Nat) (room : Int) (c : UInt8) (r r1 s : List UInt8) (x0 x1 x2 x3 : Nat) (w : World) (hp : 1 ≤ pb) (ht : Tabs w) (hr : Rdr w pb (c :: r))
    (hw : Cp.wd (c.toNat : Nat) = (x0, x1, x2, x3)) (hk : Cp.knownB (c.toNat : Nat) = true) (hlast : ¬ ((c.toNat : Int) = 5 ∧ room < 2)) (hx : txP x0 r = .ok (s, r1)) (h1 : x1 ≤ r1.length) (h2 : x2 ≤ (r1.drop x1).length) (h3 : x3 ≤ ((r1.drop x1).drop x2).length) :
    Calls Tryz.prog 214 #[.pointer (some ⟨pb, 0, none⟩), .int .i64 room] w (EnPost pb (.ok (⟨(c.toNat : Int), ⟨s.toArray⟩, sgn (Cp.numI (r1.take x1)) x1, Cp.numI ((r1.drop x1).take x2), Cp.numI (((r1.drop x1).drop x2).take x3)⟩, ((r1.drop x1).drop x2).drop x3)) w) := by
  unfold EnPost
  have hps := hr.sz
  have hwn := wd_n (c.toNat : Nat)
  have hwl := wd_le (c.toNat : Nat)
  have HW0 := fun W (h : Tabs W) => widthsOf_any c.toNat W h
  rw [hw] at HW0 hwn hwl
  rw [hk] at HW0
  dsimp only at HW0 hwn hwl
  have HW := hid HW0
  have HN0 := hid (fun W (h : Below w.heap.size w W) => number_ok pb 1 (c :: r) W (hr.below h hps) (by simp))
  rw [show (c :: r).take 1 = [c] from rfl, numI_one, show (c :: r).drop 1 = r from rfl] at HN0
  have HTx0 := fun W (h : Rdr W pb r) => text_any pb x0 r W h hwl.1
  rw [hx] at HTx0
  unfold TxPost at HTx0
  dsimp only at HTx0 ⊢
  have HTx := hid HTx0
  have HN1 := hid (fun W (h : Rdr W pb r1) => number_ok pb x1 r1 W h h1)
  have HN2 := hid (fun W (h : Rdr W pb (r1.drop x1)) => number_ok pb x2 _ W h h2)
  have HN3 := hid (fun W (h : Rdr W pb ((r1.drop x1).drop x2)) => number_ok pb x3 _ W h h3)
  obtain ⟨st, hst⟩ : ∃ st : ByteArray, st = ⟨s.toArray⟩ := ⟨_, rfl⟩
  obtain ⟨n1, hn1⟩ : ∃ z, z = Cp.numI (r1.take x1) := ⟨_, rfl⟩
  obtain ⟨r2, hr2⟩ : ∃ l, l = r1.drop x1 := ⟨_, rfl⟩
  rw [← hst] at HTx ⊢
  rw [← hn1] at HN1 ⊢
  rw [← hr2] at HN1 HN2 HN3 ⊢
  obtain ⟨n2, hn2⟩ : ∃ z, z = Cp.numI (r2.take x2) := ⟨_, rfl⟩
  obtain ⟨r3, hr3⟩ : ∃ l, l = r2.drop x2 := ⟨_, rfl⟩
  rw [← hn2] at HN2 ⊢
  rw [← hr3] at HN2 HN3 ⊢
  obtain ⟨n3, hn3⟩ : ∃ z, z = Cp.numI (r3.take x3) := ⟨_, rfl⟩
  obtain ⟨r4, hr4⟩ : ∃ l, l = r3.drop x3 := ⟨_, rfl⟩
  rw [← hn3] at HN3 ⊢
  rw [← hr4] at HN3 ⊢
  have HS := hid (fun W => signed_any n1 x1 W hwn)
  obtain ⟨sn, hsn⟩ : ∃ z, z = sgn n1 x1 := ⟨_, rfl⟩
  rw [← hsn] at HS ⊢
  have HSn := hid hsn
  have HTb := hid (fun W (h : w.grownBy W (some pb)) => ht.grown h (fun k e => by have := Option.some.inj e; omega))
  have hc5 : ((c.toNat : Int) == 5 && decide (room < 2)) = false := by
    rw [Bool.and_eq_false_iff]
    by_cases h5 : (c.toNat : Int) = 5
    · exact .inr (decide_eq_false (fun e => hlast ⟨h5, e⟩))
    · exact .inl (by simpa using h5)
  have hc5' : ((c.toNat : Int) == 5) = false ∨ (((c.toNat : Int) == 5) = true ∧ decide (room < 2) = false) := by
    cases h5 : ((c.toNat : Int) == 5) with
    | false => exact .inl rfl
    | true => rw [h5] at hc5; exact .inr ⟨rfl, by simpa using hc5⟩
  clear HW0 HTx0 hw hk hlast hx h1 h2 h3 hst hn1 hn2 hn3 hr2 hr3 hr4 hwn hwl hsn ht hr hc5
  rcases hc5' with hc5 | ⟨hc5, hroom⟩
  · go_enter Tryz.func214, Tryz.ntmps214
    go_wp2_with (first | (go_at_call 218; refine (HTx.out _ HSt.out.rd).mono ?_; rintro e w3 ⟨rfl, hs3⟩; have HSt3 := hid (HSt.out.stp hs3); have c51 := HSt3.out.b5.cell 1; have f51 := HSt3.out.b5.frozen 1; simp [cC] at c51) | (go_at_call 144; refine (HW.out _ (HTb.out _ ?_)).mono ?_; exact grown_trans (grown_trans (grown_of_below ((Below.refl _ w).alloc (Nat.le_refl _) _) _) hs1.1) (grown_of_below ((Below.refl _ w1).alloc (Nat.le_refl _) _) _); rintro e w2 ⟨rfl, hb2⟩; have HSt := hid (EnSt.new (x := #[.int .i64 x0, .int .i64 x1, .int .i64 x2, .int .i64 x3]) hps hs1 hb2); have c50 := hb2.cell (p := ⟨w1.heap.size, 0, none⟩) (by simp); simp [go_sem] at c50; have zz := hb2.size; simp only [World.size_alloc] at zz; have zz1 : w1.heap.size < w2.heap.size := (by omega); have zw := hs1.1.size; simp only [World.size_alloc] at zw; have zw1 : ¬ w.heap.size = w1.heap.size := (by omega); have zw2 : ¬ w1.heap.size = w2.heap.size := (by omega); have zw3 : ¬ w.heap.size = w2.heap.size := (by omega); clear zz zw) | (go_at_call 213; refine (HN0.out _ (by repeat' first | with_reducible exact Below.refl _ _ | with_reducible assumption | with_reducible refine belows_drewN ?_ _ | with_reducible refine Below.drew ?_ | with_reducible refine Below.setCell ?_ ?_ _ | with_reducible refine Below.alloc ?_ ?_ _ | omega | (simp; done) | (simp; omega))).mono ?_; rintro e w1 ⟨rfl, hs1⟩))
    have HSt4 := hid (HSt3.out.set 1 (.string st) ⟨c.toNat, st, 0, 0, 0⟩ rfl)
    obtain ⟨W, hW⟩ : ∃ W, W = w3.setCell ⟨w1.heap.size, 1, none⟩ (.string st) := ⟨_, rfl⟩
    rw [← hW] at HSt4 ⊢
    have y1 := HSt4.out.b6.cell 1
    have z2 := HSt4.out.b5.cell 2
    have f2 := HSt4.out.b5.frozen 2
    have hWs := HSt4.out.b5.sz
    have hWt := HSt4.out.b6.sz
    simp [cC] at y1 z2
    clear hW c50 c51 f51 hs1 hb2 hs3
    go_region_law (first | (have _g := hs4; refine Kit.step_call2 rfl 202 (.tmp 37) (.tmp 39) 2 3 rfl _ _ rfl rfl (cf_signed _ _ _) _ (HS.out _) ?_; rintro e w5 ⟨rfl, rfl⟩; refine ⟨_, rfl, ?_⟩) | (refine Kit.step_call2 rfl 213 (.tmp 34) (.tmp 36) 229 3 rfl _ _ rfl rfl (cf_number _ _ _) _ (HN1.out _ ?_) ?_; (first | with_reducible exact HSt4.out.rd | with_reducible exact HSt4.out.drew.rd); rintro e w4 ⟨rfl, hs4⟩; refine ⟨_, rfl, ?_⟩; have HSt5 := hid (HSt4.out.drew.stp hs4); have y1 := HSt5.out.b6.cell 1; have y2 := HSt5.out.b6.cell 2; have z2 := HSt5.out.b5.cell 2; have z3 := HSt5.out.b5.cell 3; have f2 := HSt5.out.b5.frozen 2; have f3 := HSt5.out.b5.frozen 3; have hWs := HSt5.out.b5.sz; have hWt := HSt5.out.b6.sz; simp [cC] at y1 y2 z2 z3))
    all_goals
      have HSt6 := hid (HSt5.out.set 2 (.int .i64 sn) ⟨c.toNat, st, sn, 0, 0⟩ rfl)
      go_wp2_with (first | (go_at_call 213; have _g := HSt8; (with_reducible refine (HN3.out _ HSt8.out.rd).mono ?_); rintro e w6 ⟨rfl, hs6⟩; have HSt9 := hid (HSt8.out.stp hs6); have y4 := HSt9.out.b5.frozen 4; have z0 := HSt9.out.b5.cell 0; have z1 := HSt9.out.b5.cell 1; have z2 := HSt9.out.b5.cell 2; have z3 := HSt9.out.b5.cell 3; have z4 := HSt9.out.b5.cell 4; have t0 := HSt9.out.b4.cell 0; have t1 := HSt9.out.b4.cell 1; have t2 := HSt9.out.b4.cell 2; have t3 := HSt9.out.b4.cell 3; have t4 := HSt9.out.b4.cell 4; have q0 := HSt9.out.b4.frozen 0; have q1 := HSt9.out.b4.frozen 1; have q2 := HSt9.out.b4.frozen 2; have q3 := HSt9.out.b4.frozen 3; have q4 := HSt9.out.b4.frozen 4; simp [cC, Cp.C0] at z0 z1 z2 z3 z4 t0 t1 t2 t3 t4) | (go_at_call 213; (with_reducible refine (HN2.out _ HSt6.out.rd).mono ?_); rintro e w5 ⟨rfl, hs5⟩; have HSt7 := hid (HSt6.out.stp hs5); have HSt8 := hid (HSt7.out.set 3 (.int .i64 n2) ⟨c.toNat, st, sn, n2, 0⟩ rfl); have y3 := HSt7.out.b6.cell 3; have z3 := HSt7.out.b5.cell 3; have z4 := HSt7.out.b5.cell 4; have f3 := HSt7.out.b5.frozen 3; have f4 := HSt7.out.b5.frozen 4; simp [cC] at y3 z3 z4))
      have HStA := hid (HSt9.out.set 4 (.int .i64 n3) ⟨c.toNat, st, sn, n2, n3⟩ rfl)
      have hS : Stp pb r4 w _ := ⟨HStA.out.gr, HStA.out.rd⟩
      have hZ := ((((hS.set (Nat.le_refl _) hps 0 (.int .i64 c.toNat)).set (Nat.le_refl _) hps 1 (.string st)).set (Nat.le_refl _) hps 2 (.int .i64 sn)).set (Nat.le_refl _) hps 3 (.int .i64 n2)).set (Nat.le_refl _) hps 4 (.int .i64 n3)
      exact bodyPost_ret (v := .agg #[.int .i64 c.toNat, .string st, .int .i64 sn, .int .i64 n2, .int .i64 n3]) (by simp [results, Tryz.results214, go_sem, t0, t1, t2, t3, t4]) rfl ⟨rfl, hZ⟩
  · go_enter Tryz.func214, Tryz.ntmps214
    go_wp2_with (first | (go_at_call 218; refine (HTx.out _ HSt.out.rd).mono ?_; rintro e w3 ⟨rfl, hs3⟩; have HSt3 := hid (HSt.out.stp hs3); have c51 := HSt3.out.b5.cell 1; have f51 := HSt3.out.b5.frozen 1; simp [cC] at c51) | (go_at_call 144; refine (HW.out _ (HTb.out _ ?_)).mono ?_; exact grown_trans (grown_trans (grown_of_below ((Below.refl _ w).alloc (Nat.le_refl _) _) _) hs1.1) (grown_of_below ((Below.refl _ w1).alloc (Nat.le_refl _) _) _); rintro e w2 ⟨rfl, hb2⟩; have HSt := hid (EnSt.new (x := #[.int .i64 x0, .int .i64 x1, .int .i64 x2, .int .i64 x3]) hps hs1 hb2); have c50 := hb2.cell (p := ⟨w1.heap.size, 0, none⟩) (by simp); simp [go_sem] at c50; have zz := hb2.size; simp only [World.size_alloc] at zz; have zz1 : w1.heap.size < w2.heap.size := (by omega); have zw := hs1.1.size; simp only [World.size_alloc] at zw; have zw1 : ¬ w.heap.size = w1.heap.size := (by omega); have zw2 : ¬ w1.heap.size = w2.heap.size := (by omega); have zw3 : ¬ w.heap.size = w2.heap.size := (by omega); clear zz zw) | (go_at_call 213; refine (HN0.out _ (by repeat' first | with_reducible exact Below.refl _ _ | with_reducible assumption | with_reducible refine belows_drewN ?_ _ | with_reducible refine Below.drew ?_ | with_reducible refine Below.setCell ?_ ?_ _ | with_reducible refine Below.alloc ?_ ?_ _ | omega | (simp; done) | (simp; omega))).mono ?_; rintro e w1 ⟨rfl, hs1⟩))
    have HSt4 := hid (HSt3.out.set 1 (.string st) ⟨c.toNat, st, 0, 0, 0⟩ rfl)
    obtain ⟨W, hW⟩ : ∃ W, W = w3.setCell ⟨w1.heap.size, 1, none⟩ (.string st) := ⟨_, rfl⟩
    rw [← hW] at HSt4 ⊢
    have y1 := HSt4.out.b6.cell 1
    have z2 := HSt4.out.b5.cell 2
    have f2 := HSt4.out.b5.frozen 2
    have hWs := HSt4.out.b5.sz
    have hWt := HSt4.out.b6.sz
    simp [cC] at y1 z2
    clear hW c50 c51 f51 hs1 hb2 hs3
    go_region_law (first | (have _g := hs4; refine Kit.step_call2 rfl 202 (.tmp 37) (.tmp 39) 2 3 rfl _ _ rfl rfl (cf_signed _ _ _) _ (HS.out _) ?_; rintro e w5 ⟨rfl, rfl⟩; refine ⟨_, rfl, ?_⟩) | (refine Kit.step_call2 rfl 213 (.tmp 34) (.tmp 36) 229 3 rfl _ _ rfl rfl (cf_number _ _ _) _ (HN1.out _ ?_) ?_; (first | with_reducible exact HSt4.out.rd | with_reducible exact HSt4.out.drew.rd); rintro e w4 ⟨rfl, hs4⟩; refine ⟨_, rfl, ?_⟩; have HSt5 := hid (HSt4.out.drew.stp hs4); have y1 := HSt5.out.b6.cell 1; have y2 := HSt5.out.b6.cell 2; have z2 := HSt5.out.b5.cell 2; have z3 := HSt5.out.b5.cell 3; have f2 := HSt5.out.b5.frozen 2; have f3 := HSt5.out.b5.frozen 3; have hWs := HSt5.out.b5.sz; have hWt := HSt5.out.b6.sz; simp [cC] at y1 y2 z2 z3))
    all_goals
      have HSt6 := hid (HSt5.out.set 2 (.int .i64 sn) ⟨c.toNat, st, sn, 0, 0⟩ rfl)
      go_wp2_with (first | (go_at_call 213; have _g := HSt8; (with_reducible refine (HN3.out _ HSt8.out.rd).mono ?_); rintro e w6 ⟨rfl, hs6⟩; have HSt9 := hid (HSt8.out.stp hs6); have y4 := HSt9.out.b5.frozen 4; have z0 := HSt9.out.b5.cell 0; have z1 := HSt9.out.b5.cell 1; have z2 := HSt9.out.b5.cell 2; have z3 := HSt9.out.b5.cell 3; have z4 := HSt9.out.b5.cell 4; have t0 := HSt9.out.b4.cell 0; have t1 := HSt9.out.b4.cell 1; have t2 := HSt9.out.b4.cell 2; have t3 := HSt9.out.b4.cell 3; have t4 := HSt9.out.b4.cell 4; have q0 := HSt9.out.b4.frozen 0; have q1 := HSt9.out.b4.frozen 1; have q2 := HSt9.out.b4.frozen 2; have q3 := HSt9.out.b4.frozen 3; have q4 := HSt9.out.b4.frozen 4; simp [cC, Cp.C0] at z0 z1 z2 z3 z4 t0 t1 t2 t3 t4) | (go_at_call 213; (with_reducible refine (HN2.out _ HSt6.out.rd).mono ?_); rintro e w5 ⟨rfl, hs5⟩; have HSt7 := hid (HSt6.out.stp hs5); have HSt8 := hid (HSt7.out.set 3 (.int .i64 n2) ⟨c.toNat, st, sn, n2, 0⟩ rfl); have y3 := HSt7.out.b6.cell 3; have z3 := HSt7.out.b5.cell 3; have z4 := HSt7.out.b5.cell 4; have f3 := HSt7.out.b5.frozen 3; have f4 := HSt7.out.b5.frozen 4; simp [cC] at y3 z3 z4))
      have HStA := hid (HSt9.out.set 4 (.int .i64 n3) ⟨c.toNat, st, sn, n2, n3⟩ rfl)
      have hS : Stp pb r4 w _ := ⟨HStA.out.gr, HStA.out.rd⟩
      have hZ := ((((hS.set (Nat.le_refl _) hps 0 (.int .i64 c.toNat)).set (Nat.le_refl _) hps 1 (.string st)).set (Nat.le_refl _) hps 2 (.int .i64 sn)).set (Nat.le_refl _) hps 3 (.int .i64 n2)).set (Nat.le_refl _) hps 4 (.int .i64 n3)
      exact bodyPost_ret (v := .agg #[.int .i64 c.toNat, .string st, .int .i64 sn, .int .i64 n2, .int .i64 n3]) (by simp [results, Tryz.results214, go_sem, t0, t1, t2, t3, t4]) rfl ⟨rfl, hZ⟩
set_option maxRecDepth 100000 in
set_option maxHeartbeats 400000 in
theorem entry_text (pb : Nat) (room : Int) (c : UInt8) (r : List UInt8) (er : Int) (x0 x1 x2 x3 : Nat) (w : World) (ht1 : 1 ≤ pb) (ht : Tabs w) (hr : Rdr w pb (c :: r))
    (hw : Cp.wd (c.toNat : Nat) = (x0, x1, x2, x3)) (hk : Cp.knownB (c.toNat : Nat) = true) (hlast : ¬ ((c.toNat : Int) = 5 ∧ room < 2)) (hx : txP x0 r = .error er) :
    Calls Tryz.prog 214 #[.pointer (some ⟨pb, 0, none⟩), .int .i64 room] w (EnPost pb (.error er) w) := by
  unfold EnPost Bad
  dsimp only
  have hps := hr.sz
  have hwn := wd_n (c.toNat : Nat)
  have hwl := wd_le (c.toNat : Nat)
  have HW0 := fun W (h : Tabs W) => widthsOf_any c.toNat W h
  rw [hw] at HW0 hwn hwl
  rw [hk] at HW0
  dsimp only at HW0 hwn hwl
  have HW := hid HW0
  have HN0 := hid (fun W (h : Below w.heap.size w W) => number_ok pb 1 (c :: r) W (hr.below h hps) (by simp))
  rw [show (c :: r).take 1 = [c] from rfl, numI_one, show (c :: r).drop 1 = r from rfl] at HN0
  have HTx0 := fun W (h : Rdr W pb r) => text_any pb x0 r W h hwl.1
  rw [hx] at HTx0
  unfold TxPost Bad at HTx0
  dsimp only at HTx0
  have HTx := hid HTx0
  have HTb := hid (fun W (h : w.grownBy W (some pb)) => ht.grown h (fun k e => by have := Option.some.inj e; omega))
  have hc5' : ((c.toNat : Int) == 5) = false ∨ (((c.toNat : Int) == 5) = true ∧ decide (room < 2) = false) := by
    by_cases h5 : (c.toNat : Int) = 5
    · exact .inr ⟨by simpa using h5, decide_eq_false (fun e => hlast ⟨h5, e⟩)⟩
    · exact .inl (by simpa using h5)
  unfold pan at HTx ⊢
  clear HW0 HTx0 hw hk hlast hx hwn hwl ht hr
  rcases hc5' with hc5 | ⟨hc5, hroom⟩
  · go_enter Tryz.func214, Tryz.ntmps214
    go_wp2_with (first | (go_at_call 218; refine (HTx.out _ HSt.out.rd).mono ?_; rintro e w3 ⟨rfl, hg3⟩) | (go_at_call 144; refine (HW.out _ (HTb.out _ ?_)).mono ?_; exact grown_trans (grown_trans (grown_of_below ((Below.refl _ w).alloc (Nat.le_refl _) _) _) hs1.1) (grown_of_below ((Below.refl _ w1).alloc (Nat.le_refl _) _) _); rintro e w2 ⟨rfl, hb2⟩; have HSt := hid (EnSt.new (x := #[.int .i64 x0, .int .i64 x1, .int .i64 x2, .int .i64 x3]) hps hs1 hb2); have c50 := hb2.cell (p := ⟨w1.heap.size, 0, none⟩) (by simp); simp [go_sem] at c50; have zz := hb2.size; simp only [World.size_alloc] at zz; have zz1 : w1.heap.size < w2.heap.size := (by omega); have zw := hs1.1.size; simp only [World.size_alloc] at zw; have zw1 : ¬ w.heap.size = w1.heap.size := (by omega); have zw2 : ¬ w1.heap.size = w2.heap.size := (by omega); have zw3 : ¬ w.heap.size = w2.heap.size := (by omega); clear zz zw) | (go_at_call 213; refine (HN0.out _ (by repeat' first | with_reducible exact Below.refl _ _ | with_reducible assumption | with_reducible refine belows_drewN ?_ _ | with_reducible refine Below.drew ?_ | with_reducible refine Below.setCell ?_ ?_ _ | with_reducible refine Below.alloc ?_ ?_ _ | omega | (simp; done) | (simp; omega))).mono ?_; rintro e w1 ⟨rfl, hs1⟩))
    exact ⟨rfl, rfl, grown_trans HSt.out.gr hg3⟩
  · go_enter Tryz.func214, Tryz.ntmps214
    go_wp2_with (first | (go_at_call 218; refine (HTx.out _ HSt.out.rd).mono ?_; rintro e w3 ⟨rfl, hg3⟩) | (go_at_call 144; refine (HW.out _ (HTb.out _ ?_)).mono ?_; exact grown_trans (grown_trans (grown_of_below ((Below.refl _ w).alloc (Nat.le_refl _) _) _) hs1.1) (grown_of_below ((Below.refl _ w1).alloc (Nat.le_refl _) _) _); rintro e w2 ⟨rfl, hb2⟩; have HSt := hid (EnSt.new (x := #[.int .i64 x0, .int .i64 x1, .int .i64 x2, .int .i64 x3]) hps hs1 hb2); have c50 := hb2.cell (p := ⟨w1.heap.size, 0, none⟩) (by simp); simp [go_sem] at c50; have zz := hb2.size; simp only [World.size_alloc] at zz; have zz1 : w1.heap.size < w2.heap.size := (by omega); have zw := hs1.1.size; simp only [World.size_alloc] at zw; have zw1 : ¬ w.heap.size = w1.heap.size := (by omega); have zw2 : ¬ w1.heap.size = w2.heap.size := (by omega); have zw3 : ¬ w.heap.size = w2.heap.size := (by omega); clear zz zw) | (go_at_call 213; refine (HN0.out _ (by repeat' first | with_reducible exact Below.refl _ _ | with_reducible assumption | with_reducible refine belows_drewN ?_ _ | with_reducible refine Below.drew ?_ | with_reducible refine Below.setCell ?_ ?_ _ | with_reducible refine Below.alloc ?_ ?_ _ | omega | (simp; done) | (simp; omega))).mono ?_; rintro e w1 ⟨rfl, hs1⟩))
    exact ⟨rfl, rfl, grown_trans HSt.out.gr hg3⟩
set_option maxRecDepth 100000 in
set_option maxHeartbeats 400000 in
theorem entry_n (pb : Nat) (room : Int) (c : UInt8) (r r1 s : List UInt8) (x0 x1 x2 x3 : Nat) (w : World) (ht1 : 1 ≤ pb) (ht : Tabs w) (hr : Rdr w pb (c :: r))
    (hw : Cp.wd (c.toNat : Nat) = (x0, x1, x2, x3)) (hk : Cp.knownB (c.toNat : Nat) = true) (hlast : ¬ ((c.toNat : Int) = 5 ∧ room < 2)) (hx : txP x0 r = .ok (s, r1)) (h1 : r1.length < x1) :
    Calls Tryz.prog 214 #[.pointer (some ⟨pb, 0, none⟩), .int .i64 room] w (EnPost pb (.error 30) w) := by
  unfold EnPost Bad
  dsimp only
  have hps := hr.sz
  have hwn := wd_n (c.toNat : Nat)
  have hwl := wd_le (c.toNat : Nat)
  have HW0 := fun W (h : Tabs W) => widthsOf_any c.toNat W h
  rw [hw] at HW0 hwn hwl
  rw [hk] at HW0
  dsimp only at HW0 hwn hwl
  have HW := hid HW0
  have HN0 := hid (fun W (h : Below w.heap.size w W) => number_ok pb 1 (c :: r) W (hr.below h hps) (by simp))
  rw [show (c :: r).take 1 = [c] from rfl, numI_one, show (c :: r).drop 1 = r from rfl] at HN0
  have HTx0 := fun W (h : Rdr W pb r) => text_any pb x0 r W h hwl.1
  rw [hx] at HTx0
  unfold TxPost at HTx0
  dsimp only at HTx0
  have HTx := hid HTx0
  have HTb := hid (fun W (h : w.grownBy W (some pb)) => ht.grown h (fun k e => by have := Option.some.inj e; omega))
  obtain ⟨st, hst⟩ : ∃ st : ByteArray, st = ⟨s.toArray⟩ := ⟨_, rfl⟩
  rw [← hst] at HTx
  have HN1 := hid (fun W (h : Rdr W pb r1) => number_bad pb x1 r1 W h h1 (by omega))
  have hc5' : ((c.toNat : Int) == 5) = false ∨ (((c.toNat : Int) == 5) = true ∧ decide (room < 2) = false) := by
    by_cases h5 : (c.toNat : Int) = 5
    · exact .inr ⟨by simpa using h5, decide_eq_false (fun e => hlast ⟨h5, e⟩)⟩
    · exact .inl (by simpa using h5)
  unfold pan at HN1 ⊢
  clear HW0 HTx0 hw hk hlast hx hwn hwl ht hr hst h1
  rcases hc5' with hc5 | ⟨hc5, hroom⟩
  · go_enter Tryz.func214, Tryz.ntmps214
    go_wp2_with (first | (go_at_call 218; refine (HTx.out _ HSt.out.rd).mono ?_; rintro e w3 ⟨rfl, hs3⟩; have HSt3 := hid (HSt.out.stp hs3); have c51 := HSt3.out.b5.cell 1; have f51 := HSt3.out.b5.frozen 1; simp [cC] at c51) | (go_at_call 144; refine (HW.out _ (HTb.out _ ?_)).mono ?_; exact grown_trans (grown_trans (grown_of_below ((Below.refl _ w).alloc (Nat.le_refl _) _) _) hs1.1) (grown_of_below ((Below.refl _ w1).alloc (Nat.le_refl _) _) _); rintro e w2 ⟨rfl, hb2⟩; have HSt := hid (EnSt.new (x := #[.int .i64 x0, .int .i64 x1, .int .i64 x2, .int .i64 x3]) hps hs1 hb2); have c50 := hb2.cell (p := ⟨w1.heap.size, 0, none⟩) (by simp); simp [go_sem] at c50; have zz := hb2.size; simp only [World.size_alloc] at zz; have zz1 : w1.heap.size < w2.heap.size := (by omega); have zw := hs1.1.size; simp only [World.size_alloc] at zw; have zw1 : ¬ w.heap.size = w1.heap.size := (by omega); have zw2 : ¬ w1.heap.size = w2.heap.size := (by omega); have zw3 : ¬ w.heap.size = w2.heap.size := (by omega); clear zz zw) | (go_at_call 213; refine (HN0.out _ (by repeat' first | with_reducible exact Below.refl _ _ | with_reducible assumption | with_reducible refine belows_drewN ?_ _ | with_reducible refine Below.drew ?_ | with_reducible refine Below.setCell ?_ ?_ _ | with_reducible refine Below.alloc ?_ ?_ _ | omega | (simp; done) | (simp; omega))).mono ?_; rintro e w1 ⟨rfl, hs1⟩))
    have HSt4 := hid (HSt3.out.set 1 (.string st) ⟨c.toNat, st, 0, 0, 0⟩ rfl)
    obtain ⟨W, hW⟩ : ∃ W, W = w3.setCell ⟨w1.heap.size, 1, none⟩ (.string st) := ⟨_, rfl⟩
    rw [← hW] at HSt4 ⊢
    have y1 := HSt4.out.b6.cell 1
    have z2 := HSt4.out.b5.cell 2
    have f2 := HSt4.out.b5.frozen 2
    have hWs := HSt4.out.b5.sz
    have hWt := HSt4.out.b6.sz
    simp [cC] at y1 z2
    clear hW c50 c51 f51 hs1 hb2 hs3
    go_region_dies
    all_goals
      refine (HN1.out _ (by first | with_reducible exact HSt4.out.rd | with_reducible exact HSt4.out.drew.rd)).mono ?_
      rintro e w4 ⟨rfl, rfl⟩
      try dsimp only
      try go_wp2
    all_goals exact ⟨rfl, rfl, HSt4.out.drew.gr⟩
  · go_enter Tryz.func214, Tryz.ntmps214
    go_wp2_with (first | (go_at_call 218; refine (HTx.out _ HSt.out.rd).mono ?_; rintro e w3 ⟨rfl, hs3⟩; have HSt3 := hid (HSt.out.stp hs3); have c51 := HSt3.out.b5.cell 1; have f51 := HSt3.out.b5.frozen 1; simp [cC] at c51) | (go_at_call 144; refine (HW.out _ (HTb.out _ ?_)).mono ?_; exact grown_trans (grown_trans (grown_of_below ((Below.refl _ w).alloc (Nat.le_refl _) _) _) hs1.1) (grown_of_below ((Below.refl _ w1).alloc (Nat.le_refl _) _) _); rintro e w2 ⟨rfl, hb2⟩; have HSt := hid (EnSt.new (x := #[.int .i64 x0, .int .i64 x1, .int .i64 x2, .int .i64 x3]) hps hs1 hb2); have c50 := hb2.cell (p := ⟨w1.heap.size, 0, none⟩) (by simp); simp [go_sem] at c50; have zz := hb2.size; simp only [World.size_alloc] at zz; have zz1 : w1.heap.size < w2.heap.size := (by omega); have zw := hs1.1.size; simp only [World.size_alloc] at zw; have zw1 : ¬ w.heap.size = w1.heap.size := (by omega); have zw2 : ¬ w1.heap.size = w2.heap.size := (by omega); have zw3 : ¬ w.heap.size = w2.heap.size := (by omega); clear zz zw) | (go_at_call 213; refine (HN0.out _ (by repeat' first | with_reducible exact Below.refl _ _ | with_reducible assumption | with_reducible refine belows_drewN ?_ _ | with_reducible refine Below.drew ?_ | with_reducible refine Below.setCell ?_ ?_ _ | with_reducible refine Below.alloc ?_ ?_ _ | omega | (simp; done) | (simp; omega))).mono ?_; rintro e w1 ⟨rfl, hs1⟩))
    have HSt4 := hid (HSt3.out.set 1 (.string st) ⟨c.toNat, st, 0, 0, 0⟩ rfl)
    obtain ⟨W, hW⟩ : ∃ W, W = w3.setCell ⟨w1.heap.size, 1, none⟩ (.string st) := ⟨_, rfl⟩
    rw [← hW] at HSt4 ⊢
    have y1 := HSt4.out.b6.cell 1
    have z2 := HSt4.out.b5.cell 2
    have f2 := HSt4.out.b5.frozen 2
    have hWs := HSt4.out.b5.sz
    have hWt := HSt4.out.b6.sz
    simp [cC] at y1 z2
    clear hW c50 c51 f51 hs1 hb2 hs3
    go_region_dies
    all_goals
      refine (HN1.out _ (by first | with_reducible exact HSt4.out.rd | with_reducible exact HSt4.out.drew.rd)).mono ?_
      rintro e w4 ⟨rfl, rfl⟩
      try dsimp only
      try go_wp2
    all_goals exact ⟨rfl, rfl, HSt4.out.drew.gr⟩
set_option maxRecDepth 100000 in
set_option maxHeartbeats 400000 in
theorem entry_a (pb : Nat) (room : Int) (c : UInt8) (r r1 s : List UInt8) (x0 x1 x2 x3 : Nat) (w : World) (ht1 : 1 ≤ pb) (ht : Tabs w) (hr : Rdr w pb (c :: r))
    (hw : Cp.wd (c.toNat : Nat) = (x0, x1, x2, x3)) (hk : Cp.knownB (c.toNat : Nat) = true) (hlast : ¬ ((c.toNat : Int) = 5 ∧ room < 2)) (hx : txP x0 r = .ok (s, r1)) (h1 : x1 ≤ r1.length) (h2 : (r1.drop x1).length < x2) :
    Calls Tryz.prog 214 #[.pointer (some ⟨pb, 0, none⟩), .int .i64 room] w (EnPost pb (.error 30) w) := by
  unfold EnPost Bad
  dsimp only
  have hps := hr.sz
  have hwn := wd_n (c.toNat : Nat)
  have hwl := wd_le (c.toNat : Nat)
  have HW0 := fun W (h : Tabs W) => widthsOf_any c.toNat W h
  rw [hw] at HW0 hwn hwl
  rw [hk] at HW0
  dsimp only at HW0 hwn hwl
  have HW := hid HW0
  have HN0 := hid (fun W (h : Below w.heap.size w W) => number_ok pb 1 (c :: r) W (hr.below h hps) (by simp))
  rw [show (c :: r).take 1 = [c] from rfl, numI_one, show (c :: r).drop 1 = r from rfl] at HN0
  have HTx0 := fun W (h : Rdr W pb r) => text_any pb x0 r W h hwl.1
  rw [hx] at HTx0
  unfold TxPost at HTx0
  dsimp only at HTx0
  have HTx := hid HTx0
  have HTb := hid (fun W (h : w.grownBy W (some pb)) => ht.grown h (fun k e => by have := Option.some.inj e; omega))
  obtain ⟨st, hst⟩ : ∃ st : ByteArray, st = ⟨s.toArray⟩ := ⟨_, rfl⟩
  rw [← hst] at HTx
  have HN1 := hid (fun W (h : Rdr W pb r1) => number_ok pb x1 r1 W h h1)
  obtain ⟨n1, hn1⟩ : ∃ z, z = Cp.numI (r1.take x1) := ⟨_, rfl⟩
  obtain ⟨r2, hr2⟩ : ∃ l, l = r1.drop x1 := ⟨_, rfl⟩
  rw [← hn1, ← hr2] at HN1
  rw [← hr2] at h2
  have HS := hid (fun W => signed_any n1 x1 W hwn)
  obtain ⟨sn, hsn⟩ : ∃ z, z = sgn n1 x1 := ⟨_, rfl⟩
  rw [← hsn] at HS
  have HN2 := hid (fun W (h : Rdr W pb r2) => number_bad pb x2 r2 W h h2 (by omega))
  have hc5' : ((c.toNat : Int) == 5) = false ∨ (((c.toNat : Int) == 5) = true ∧ decide (room < 2) = false) := by
    by_cases h5 : (c.toNat : Int) = 5
    · exact .inr ⟨by simpa using h5, decide_eq_false (fun e => hlast ⟨h5, e⟩)⟩
    · exact .inl (by simpa using h5)
  unfold pan at HN2 ⊢
  clear HW0 HTx0 hw hk hlast hx hwn hwl ht hr hst h1 h2 hn1 hr2 hsn
  rcases hc5' with hc5 | ⟨hc5, hroom⟩
  · go_enter Tryz.func214, Tryz.ntmps214
    go_wp2_with (first | (go_at_call 218; refine (HTx.out _ HSt.out.rd).mono ?_; rintro e w3 ⟨rfl, hs3⟩; have HSt3 := hid (HSt.out.stp hs3); have c51 := HSt3.out.b5.cell 1; have f51 := HSt3.out.b5.frozen 1; simp [cC] at c51) | (go_at_call 144; refine (HW.out _ (HTb.out _ ?_)).mono ?_; exact grown_trans (grown_trans (grown_of_below ((Below.refl _ w).alloc (Nat.le_refl _) _) _) hs1.1) (grown_of_below ((Below.refl _ w1).alloc (Nat.le_refl _) _) _); rintro e w2 ⟨rfl, hb2⟩; have HSt := hid (EnSt.new (x := #[.int .i64 x0, .int .i64 x1, .int .i64 x2, .int .i64 x3]) hps hs1 hb2); have c50 := hb2.cell (p := ⟨w1.heap.size, 0, none⟩) (by simp); simp [go_sem] at c50; have zz := hb2.size; simp only [World.size_alloc] at zz; have zz1 : w1.heap.size < w2.heap.size := (by omega); have zw := hs1.1.size; simp only [World.size_alloc] at zw; have zw1 : ¬ w.heap.size = w1.heap.size := (by omega); have zw2 : ¬ w1.heap.size = w2.heap.size := (by omega); have zw3 : ¬ w.heap.size = w2.heap.size := (by omega); clear zz zw) | (go_at_call 213; refine (HN0.out _ (by repeat' first | with_reducible exact Below.refl _ _ | with_reducible assumption | with_reducible refine belows_drewN ?_ _ | with_reducible refine Below.drew ?_ | with_reducible refine Below.setCell ?_ ?_ _ | with_reducible refine Below.alloc ?_ ?_ _ | omega | (simp; done) | (simp; omega))).mono ?_; rintro e w1 ⟨rfl, hs1⟩))
    have HSt4 := hid (HSt3.out.set 1 (.string st) ⟨c.toNat, st, 0, 0, 0⟩ rfl)
    obtain ⟨W, hW⟩ : ∃ W, W = w3.setCell ⟨w1.heap.size, 1, none⟩ (.string st) := ⟨_, rfl⟩
    rw [← hW] at HSt4 ⊢
    have y1 := HSt4.out.b6.cell 1
    have z2 := HSt4.out.b5.cell 2
    have f2 := HSt4.out.b5.frozen 2
    have hWs := HSt4.out.b5.sz
    have hWt := HSt4.out.b6.sz
    simp [cC] at y1 z2
    clear hW c50 c51 f51 hs1 hb2 hs3
    go_region_law (first | (have _g := hs4; refine Kit.step_call2 rfl 202 (.tmp 37) (.tmp 39) 2 3 rfl _ _ rfl rfl (cf_signed _ _ _) _ (HS.out _) ?_; rintro e w5 ⟨rfl, rfl⟩; refine ⟨_, rfl, ?_⟩) | (refine Kit.step_call2 rfl 213 (.tmp 34) (.tmp 36) 229 3 rfl _ _ rfl rfl (cf_number _ _ _) _ (HN1.out _ ?_) ?_; (first | with_reducible exact HSt4.out.rd | with_reducible exact HSt4.out.drew.rd); rintro e w4 ⟨rfl, hs4⟩; refine ⟨_, rfl, ?_⟩; have HSt5 := hid (HSt4.out.drew.stp hs4); have y1 := HSt5.out.b6.cell 1; have y2 := HSt5.out.b6.cell 2; have z2 := HSt5.out.b5.cell 2; have z3 := HSt5.out.b5.cell 3; have f2 := HSt5.out.b5.frozen 2; have f3 := HSt5.out.b5.frozen 3; have hWs := HSt5.out.b5.sz; have hWt := HSt5.out.b6.sz; simp [cC] at y1 y2 z2 z3))
    all_goals
      have HSt6 := hid (HSt5.out.set 2 (.int .i64 sn) ⟨c.toNat, st, sn, 0, 0⟩ rfl)
      go_wp2_with (first | (go_at_call 213; (with_reducible refine (HN2.out _ HSt6.out.rd).mono ?_); rintro e w5 ⟨rfl, rfl⟩))
      exact ⟨rfl, rfl, HSt6.out.gr⟩
  · go_enter Tryz.func214, Tryz.ntmps214
    go_wp2_with (first | (go_at_call 218; refine (HTx.out _ HSt.out.rd).mono ?_; rintro e w3 ⟨rfl, hs3⟩; have HSt3 := hid (HSt.out.stp hs3); have c51 := HSt3.out.b5.cell 1; have f51 := HSt3.out.b5.frozen 1; simp [cC] at c51) | (go_at_call 144; refine (HW.out _ (HTb.out _ ?_)).mono ?_; exact grown_trans (grown_trans (grown_of_below ((Below.refl _ w).alloc (Nat.le_refl _) _) _) hs1.1) (grown_of_below ((Below.refl _ w1).alloc (Nat.le_refl _) _) _); rintro e w2 ⟨rfl, hb2⟩; have HSt := hid (EnSt.new (x := #[.int .i64 x0, .int .i64 x1, .int .i64 x2, .int .i64 x3]) hps hs1 hb2); have c50 := hb2.cell (p := ⟨w1.heap.size, 0, none⟩) (by simp); simp [go_sem] at c50; have zz := hb2.size; simp only [World.size_alloc] at zz; have zz1 : w1.heap.size < w2.heap.size := (by omega); have zw := hs1.1.size; simp only [World.size_alloc] at zw; have zw1 : ¬ w.heap.size = w1.heap.size := (by omega); have zw2 : ¬ w1.heap.size = w2.heap.size := (by omega); have zw3 : ¬ w.heap.size = w2.heap.size := (by omega); clear zz zw) | (go_at_call 213; refine (HN0.out _ (by repeat' first | with_reducible exact Below.refl _ _ | with_reducible assumption | with_reducible refine belows_drewN ?_ _ | with_reducible refine Below.drew ?_ | with_reducible refine Below.setCell ?_ ?_ _ | with_reducible refine Below.alloc ?_ ?_ _ | omega | (simp; done) | (simp; omega))).mono ?_; rintro e w1 ⟨rfl, hs1⟩))
    have HSt4 := hid (HSt3.out.set 1 (.string st) ⟨c.toNat, st, 0, 0, 0⟩ rfl)
    obtain ⟨W, hW⟩ : ∃ W, W = w3.setCell ⟨w1.heap.size, 1, none⟩ (.string st) := ⟨_, rfl⟩
    rw [← hW] at HSt4 ⊢
    have y1 := HSt4.out.b6.cell 1
    have z2 := HSt4.out.b5.cell 2
    have f2 := HSt4.out.b5.frozen 2
    have hWs := HSt4.out.b5.sz
    have hWt := HSt4.out.b6.sz
    simp [cC] at y1 z2
    clear hW c50 c51 f51 hs1 hb2 hs3
    go_region_law (first | (have _g := hs4; refine Kit.step_call2 rfl 202 (.tmp 37) (.tmp 39) 2 3 rfl _ _ rfl rfl (cf_signed _ _ _) _ (HS.out _) ?_; rintro e w5 ⟨rfl, rfl⟩; refine ⟨_, rfl, ?_⟩) | (refine Kit.step_call2 rfl 213 (.tmp 34) (.tmp 36) 229 3 rfl _ _ rfl rfl (cf_number _ _ _) _ (HN1.out _ ?_) ?_; (first | with_reducible exact HSt4.out.rd | with_reducible exact HSt4.out.drew.rd); rintro e w4 ⟨rfl, hs4⟩; refine ⟨_, rfl, ?_⟩; have HSt5 := hid (HSt4.out.drew.stp hs4); have y1 := HSt5.out.b6.cell 1; have y2 := HSt5.out.b6.cell 2; have z2 := HSt5.out.b5.cell 2; have z3 := HSt5.out.b5.cell 3; have f2 := HSt5.out.b5.frozen 2; have f3 := HSt5.out.b5.frozen 3; have hWs := HSt5.out.b5.sz; have hWt := HSt5.out.b6.sz; simp [cC] at y1 y2 z2 z3))
    all_goals
      have HSt6 := hid (HSt5.out.set 2 (.int .i64 sn) ⟨c.toNat, st, sn, 0, 0⟩ rfl)
      go_wp2_with (first | (go_at_call 213; (with_reducible refine (HN2.out _ HSt6.out.rd).mono ?_); rintro e w5 ⟨rfl, rfl⟩))
      exact ⟨rfl, rfl, HSt6.out.gr⟩
set_option maxRecDepth 100000 in
set_option maxHeartbeats 400000 in
theorem entry_b (pb : Nat) (room : Int) (c : UInt8) (r r1 s : List UInt8) (x0 x1 x2 x3 : Nat) (w : World) (ht1 : 1 ≤ pb) (ht : Tabs w) (hr : Rdr w pb (c :: r))
    (hw : Cp.wd (c.toNat : Nat) = (x0, x1, x2, x3)) (hk : Cp.knownB (c.toNat : Nat) = true) (hlast : ¬ ((c.toNat : Int) = 5 ∧ room < 2)) (hx : txP x0 r = .ok (s, r1)) (h1 : x1 ≤ r1.length) (h2 : x2 ≤ (r1.drop x1).length) (h3 : ((r1.drop x1).drop x2).length < x3) :
    Calls Tryz.prog 214 #[.pointer (some ⟨pb, 0, none⟩), .int .i64 room] w (EnPost pb (.error 30) w) := by
  unfold EnPost Bad
  dsimp only
  have hps := hr.sz
  have hwn := wd_n (c.toNat : Nat)
  have hwl := wd_le (c.toNat : Nat)
  have HW0 := fun W (h : Tabs W) => widthsOf_any c.toNat W h
  rw [hw] at HW0 hwn hwl
  rw [hk] at HW0
  dsimp only at HW0 hwn hwl
  have HW := hid HW0
  have HN0 := hid (fun W (h : Below w.heap.size w W) => number_ok pb 1 (c :: r) W (hr.below h hps) (by simp))
  rw [show (c :: r).take 1 = [c] from rfl, numI_one, show (c :: r).drop 1 = r from rfl] at HN0
  have HTx0 := fun W (h : Rdr W pb r) => text_any pb x0 r W h hwl.1
  rw [hx] at HTx0
  unfold TxPost at HTx0
  dsimp only at HTx0
  have HTx := hid HTx0
  have HTb := hid (fun W (h : w.grownBy W (some pb)) => ht.grown h (fun k e => by have := Option.some.inj e; omega))
  obtain ⟨st, hst⟩ : ∃ st : ByteArray, st = ⟨s.toArray⟩ := ⟨_, rfl⟩
  rw [← hst] at HTx
  have HN1 := hid (fun W (h : Rdr W pb r1) => number_ok pb x1 r1 W h h1)
  obtain ⟨n1, hn1⟩ : ∃ z, z = Cp.numI (r1.take x1) := ⟨_, rfl⟩
  obtain ⟨r2, hr2⟩ : ∃ l, l = r1.drop x1 := ⟨_, rfl⟩
  rw [← hn1, ← hr2] at HN1
  rw [← hr2] at h2
  have HS := hid (fun W => signed_any n1 x1 W hwn)
  obtain ⟨sn, hsn⟩ : ∃ z, z = sgn n1 x1 := ⟨_, rfl⟩
  rw [← hsn] at HS
  have HN2 := hid (fun W (h : Rdr W pb r2) => number_ok pb x2 r2 W h h2)
  obtain ⟨n2, hn2⟩ : ∃ z, z = Cp.numI (r2.take x2) := ⟨_, rfl⟩
  rw [hr2.symm] at h3
  obtain ⟨r3, hr3⟩ : ∃ l, l = r2.drop x2 := ⟨_, rfl⟩
  rw [← hn2, ← hr3] at HN2
  rw [← hr3] at h3
  have HN3 := hid (fun W (h : Rdr W pb r3) => number_bad pb x3 r3 W h h3 (by omega))
  have hc5' : ((c.toNat : Int) == 5) = false ∨ (((c.toNat : Int) == 5) = true ∧ decide (room < 2) = false) := by
    by_cases h5 : (c.toNat : Int) = 5
    · exact .inr ⟨by simpa using h5, decide_eq_false (fun e => hlast ⟨h5, e⟩)⟩
    · exact .inl (by simpa using h5)
  unfold pan at HN3 ⊢
  clear HW0 HTx0 hw hk hlast hx hwn hwl ht hr hst h1 h2 h3 hn1 hr2 hsn hn2 hr3
  rcases hc5' with hc5 | ⟨hc5, hroom⟩
  · go_enter Tryz.func214, Tryz.ntmps214
    go_wp2_with (first | (go_at_call 218; refine (HTx.out _ HSt.out.rd).mono ?_; rintro e w3 ⟨rfl, hs3⟩; have HSt3 := hid (HSt.out.stp hs3); have c51 := HSt3.out.b5.cell 1; have f51 := HSt3.out.b5.frozen 1; simp [cC] at c51) | (go_at_call 144; refine (HW.out _ (HTb.out _ ?_)).mono ?_; exact grown_trans (grown_trans (grown_of_below ((Below.refl _ w).alloc (Nat.le_refl _) _) _) hs1.1) (grown_of_below ((Below.refl _ w1).alloc (Nat.le_refl _) _) _); rintro e w2 ⟨rfl, hb2⟩; have HSt := hid (EnSt.new (x := #[.int .i64 x0, .int .i64 x1, .int .i64 x2, .int .i64 x3]) hps hs1 hb2); have c50 := hb2.cell (p := ⟨w1.heap.size, 0, none⟩) (by simp); simp [go_sem] at c50; have zz := hb2.size; simp only [World.size_alloc] at zz; have zz1 : w1.heap.size < w2.heap.size := (by omega); have zw := hs1.1.size; simp only [World.size_alloc] at zw; have zw1 : ¬ w.heap.size = w1.heap.size := (by omega); have zw2 : ¬ w1.heap.size = w2.heap.size := (by omega); have zw3 : ¬ w.heap.size = w2.heap.size := (by omega); clear zz zw) | (go_at_call 213; refine (HN0.out _ (by repeat' first | with_reducible exact Below.refl _ _ | with_reducible assumption | with_reducible refine belows_drewN ?_ _ | with_reducible refine Below.drew ?_ | with_reducible refine Below.setCell ?_ ?_ _ | with_reducible refine Below.alloc ?_ ?_ _ | omega | (simp; done) | (simp; omega))).mono ?_; rintro e w1 ⟨rfl, hs1⟩))
    have HSt4 := hid (HSt3.out.set 1 (.string st) ⟨c.toNat, st, 0, 0, 0⟩ rfl)
    obtain ⟨W, hW⟩ : ∃ W, W = w3.setCell ⟨w1.heap.size, 1, none⟩ (.string st) := ⟨_, rfl⟩
    rw [← hW] at HSt4 ⊢
    have y1 := HSt4.out.b6.cell 1
    have z2 := HSt4.out.b5.cell 2
    have f2 := HSt4.out.b5.frozen 2
    have hWs := HSt4.out.b5.sz
    have hWt := HSt4.out.b6.sz
    simp [cC] at y1 z2
    clear hW c50 c51 f51 hs1 hb2 hs3
    go_region_law (first | (have _g := hs4; refine Kit.step_call2 rfl 202 (.tmp 37) (.tmp 39) 2 3 rfl _ _ rfl rfl (cf_signed _ _ _) _ (HS.out _) ?_; rintro e w5 ⟨rfl, rfl⟩; refine ⟨_, rfl, ?_⟩) | (refine Kit.step_call2 rfl 213 (.tmp 34) (.tmp 36) 229 3 rfl _ _ rfl rfl (cf_number _ _ _) _ (HN1.out _ ?_) ?_; (first | with_reducible exact HSt4.out.rd | with_reducible exact HSt4.out.drew.rd); rintro e w4 ⟨rfl, hs4⟩; refine ⟨_, rfl, ?_⟩; have HSt5 := hid (HSt4.out.drew.stp hs4); have y1 := HSt5.out.b6.cell 1; have y2 := HSt5.out.b6.cell 2; have z2 := HSt5.out.b5.cell 2; have z3 := HSt5.out.b5.cell 3; have f2 := HSt5.out.b5.frozen 2; have f3 := HSt5.out.b5.frozen 3; have hWs := HSt5.out.b5.sz; have hWt := HSt5.out.b6.sz; simp [cC] at y1 y2 z2 z3))
    all_goals
      have HSt6 := hid (HSt5.out.set 2 (.int .i64 sn) ⟨c.toNat, st, sn, 0, 0⟩ rfl)
      go_wp2_with (first | (go_at_call 213; have _g := HSt8; (with_reducible refine (HN3.out _ HSt8.out.rd).mono ?_); rintro e w6 ⟨rfl, rfl⟩) | (go_at_call 213; (with_reducible refine (HN2.out _ HSt6.out.rd).mono ?_); rintro e w5 ⟨rfl, hs5⟩; have HSt7 := hid (HSt6.out.stp hs5); have HSt8 := hid (HSt7.out.set 3 (.int .i64 n2) ⟨c.toNat, st, sn, n2, 0⟩ rfl); have y3 := HSt7.out.b6.cell 3; have z3 := HSt7.out.b5.cell 3; have z4 := HSt7.out.b5.cell 4; have f3 := HSt7.out.b5.frozen 3; have f4 := HSt7.out.b5.frozen 4; simp [cC] at y3 z3 z4))
      exact ⟨rfl, rfl, HSt8.out.gr⟩
  · go_enter Tryz.func214, Tryz.ntmps214
    go_wp2_with (first | (go_at_call 218; refine (HTx.out _ HSt.out.rd).mono ?_; rintro e w3 ⟨rfl, hs3⟩; have HSt3 := hid (HSt.out.stp hs3); have c51 := HSt3.out.b5.cell 1; have f51 := HSt3.out.b5.frozen 1; simp [cC] at c51) | (go_at_call 144; refine (HW.out _ (HTb.out _ ?_)).mono ?_; exact grown_trans (grown_trans (grown_of_below ((Below.refl _ w).alloc (Nat.le_refl _) _) _) hs1.1) (grown_of_below ((Below.refl _ w1).alloc (Nat.le_refl _) _) _); rintro e w2 ⟨rfl, hb2⟩; have HSt := hid (EnSt.new (x := #[.int .i64 x0, .int .i64 x1, .int .i64 x2, .int .i64 x3]) hps hs1 hb2); have c50 := hb2.cell (p := ⟨w1.heap.size, 0, none⟩) (by simp); simp [go_sem] at c50; have zz := hb2.size; simp only [World.size_alloc] at zz; have zz1 : w1.heap.size < w2.heap.size := (by omega); have zw := hs1.1.size; simp only [World.size_alloc] at zw; have zw1 : ¬ w.heap.size = w1.heap.size := (by omega); have zw2 : ¬ w1.heap.size = w2.heap.size := (by omega); have zw3 : ¬ w.heap.size = w2.heap.size := (by omega); clear zz zw) | (go_at_call 213; refine (HN0.out _ (by repeat' first | with_reducible exact Below.refl _ _ | with_reducible assumption | with_reducible refine belows_drewN ?_ _ | with_reducible refine Below.drew ?_ | with_reducible refine Below.setCell ?_ ?_ _ | with_reducible refine Below.alloc ?_ ?_ _ | omega | (simp; done) | (simp; omega))).mono ?_; rintro e w1 ⟨rfl, hs1⟩))
    have HSt4 := hid (HSt3.out.set 1 (.string st) ⟨c.toNat, st, 0, 0, 0⟩ rfl)
    obtain ⟨W, hW⟩ : ∃ W, W = w3.setCell ⟨w1.heap.size, 1, none⟩ (.string st) := ⟨_, rfl⟩
    rw [← hW] at HSt4 ⊢
    have y1 := HSt4.out.b6.cell 1
    have z2 := HSt4.out.b5.cell 2
    have f2 := HSt4.out.b5.frozen 2
    have hWs := HSt4.out.b5.sz
    have hWt := HSt4.out.b6.sz
    simp [cC] at y1 z2
    clear hW c50 c51 f51 hs1 hb2 hs3
    go_region_law (first | (have _g := hs4; refine Kit.step_call2 rfl 202 (.tmp 37) (.tmp 39) 2 3 rfl _ _ rfl rfl (cf_signed _ _ _) _ (HS.out _) ?_; rintro e w5 ⟨rfl, rfl⟩; refine ⟨_, rfl, ?_⟩) | (refine Kit.step_call2 rfl 213 (.tmp 34) (.tmp 36) 229 3 rfl _ _ rfl rfl (cf_number _ _ _) _ (HN1.out _ ?_) ?_; (first | with_reducible exact HSt4.out.rd | with_reducible exact HSt4.out.drew.rd); rintro e w4 ⟨rfl, hs4⟩; refine ⟨_, rfl, ?_⟩; have HSt5 := hid (HSt4.out.drew.stp hs4); have y1 := HSt5.out.b6.cell 1; have y2 := HSt5.out.b6.cell 2; have z2 := HSt5.out.b5.cell 2; have z3 := HSt5.out.b5.cell 3; have f2 := HSt5.out.b5.frozen 2; have f3 := HSt5.out.b5.frozen 3; have hWs := HSt5.out.b5.sz; have hWt := HSt5.out.b6.sz; simp [cC] at y1 y2 z2 z3))
    all_goals
      have HSt6 := hid (HSt5.out.set 2 (.int .i64 sn) ⟨c.toNat, st, sn, 0, 0⟩ rfl)
      go_wp2_with (first | (go_at_call 213; have _g := HSt8; (with_reducible refine (HN3.out _ HSt8.out.rd).mono ?_); rintro e w6 ⟨rfl, rfl⟩) | (go_at_call 213; (with_reducible refine (HN2.out _ HSt6.out.rd).mono ?_); rintro e w5 ⟨rfl, hs5⟩; have HSt7 := hid (HSt6.out.stp hs5); have HSt8 := hid (HSt7.out.set 3 (.int .i64 n2) ⟨c.toNat, st, sn, n2, 0⟩ rfl); have y3 := HSt7.out.b6.cell 3; have z3 := HSt7.out.b5.cell 3; have z4 := HSt7.out.b5.cell 4; have f3 := HSt7.out.b5.frozen 3; have f4 := HSt7.out.b5.frozen 4; simp [cC] at y3 z3 z4))
      exact ⟨rfl, rfl, HSt8.out.gr⟩
set_option maxRecDepth 100000 in
set_option maxHeartbeats 400000 in
theorem entry_nil (pb : Nat) (room : Int) (w : World) (hr : Rdr w pb []) :
    Calls Tryz.prog 214 #[.pointer (some ⟨pb, 0, none⟩), .int .i64 room] w (EnPost pb (.error 30) w) := by
  unfold EnPost Bad
  dsimp only
  have hps := hr.sz
  have HN0 := hid (fun W (h : Below w.heap.size w W) => number_bad pb 1 [] W (hr.below h hps) (by simp) (by omega))
  unfold pan at HN0 ⊢
  clear hr
  go_enter Tryz.func214, Tryz.ntmps214
  go_wp2_with (go_at_call 213; refine (HN0.out _ (by repeat' first | with_reducible exact Below.refl _ _ | with_reducible assumption | with_reducible refine belows_drewN ?_ _ | with_reducible refine Below.drew ?_ | with_reducible refine Below.setCell ?_ ?_ _ | with_reducible refine Below.alloc ?_ ?_ _ | omega | (simp; done) | (simp; omega))).mono ?_; rintro e w1 ⟨rfl, rfl⟩)
  exact ⟨rfl, rfl, grown_of_below (by repeat' first | with_reducible exact Below.refl _ _ | with_reducible assumption | with_reducible refine belows_drewN ?_ _ | with_reducible refine Below.drew ?_ | with_reducible refine Below.setCell ?_ ?_ _ | with_reducible refine Below.alloc ?_ ?_ _ | omega | (simp; done) | (simp; omega)) _⟩
set_option maxRecDepth 100000 in
set_option maxHeartbeats 400000 in
theorem entry_tag (pb : Nat) (room : Int) (c : UInt8) (r : List UInt8) (x0 x1 x2 x3 : Nat) (w : World) (ht1 : 1 ≤ pb) (ht : Tabs w) (hr : Rdr w pb (c :: r))
    (hw : Cp.wd (c.toNat : Nat) = (x0, x1, x2, x3)) (hk : Cp.knownB (c.toNat : Nat) = false ∨ ((c.toNat : Int) = 5 ∧ room < 2)) :
    Calls Tryz.prog 214 #[.pointer (some ⟨pb, 0, none⟩), .int .i64 room] w (EnPost pb (.error 31) w) := by
  unfold EnPost Bad
  dsimp only
  have hps := hr.sz
  have HW0 := fun W (h : Tabs W) => widthsOf_any c.toNat W h
  rw [hw] at HW0
  dsimp only at HW0
  have HN0 := hid (fun W (h : Below w.heap.size w W) => number_ok pb 1 (c :: r) W (hr.below h hps) (by simp))
  rw [show (c :: r).take 1 = [c] from rfl, numI_one, show (c :: r).drop 1 = r from rfl] at HN0
  have HTb := hid (fun W (h : w.grownBy W (some pb)) => ht.grown h (fun k e => by have := Option.some.inj e; omega))
  unfold pan
  cases hkk : Cp.knownB (c.toNat : Nat) with
  | false =>
    rw [hkk] at HW0
    have HW := hid HW0
    clear HW0 hw hk ht hr hkk
    go_enter Tryz.func214, Tryz.ntmps214
    go_wp2_with (first | (go_at_call 144; refine (HW.out _ (HTb.out _ ?_)).mono ?_; exact grown_trans (grown_trans (grown_of_below ((Below.refl _ w).alloc (Nat.le_refl _) _) _) hs1.1) (grown_of_below ((Below.refl _ w1).alloc (Nat.le_refl _) _) _); rintro e w2 ⟨rfl, hb2⟩; have HSt := hid (EnSt.new (x := #[.int .i64 x0, .int .i64 x1, .int .i64 x2, .int .i64 x3]) hps hs1 hb2); have c50 := hb2.cell (p := ⟨w1.heap.size, 0, none⟩) (by simp); simp [go_sem] at c50; have zz := hb2.size; simp only [World.size_alloc] at zz; have zz1 : w1.heap.size < w2.heap.size := (by omega); have zw := hs1.1.size; simp only [World.size_alloc] at zw; have zw1 : ¬ w.heap.size = w1.heap.size := (by omega); have zw2 : ¬ w1.heap.size = w2.heap.size := (by omega); have zw3 : ¬ w.heap.size = w2.heap.size := (by omega); clear zz zw) | (go_at_call 213; refine (HN0.out _ (by repeat' first | with_reducible exact Below.refl _ _ | with_reducible assumption | with_reducible refine belows_drewN ?_ _ | with_reducible refine Below.drew ?_ | with_reducible refine Below.setCell ?_ ?_ _ | with_reducible refine Below.alloc ?_ ?_ _ | omega | (simp; done) | (simp; omega))).mono ?_; rintro e w1 ⟨rfl, hs1⟩))
    exact ⟨rfl, rfl, HSt.out.gr⟩
  | true =>
    rw [hkk] at HW0
    have HW := hid HW0
    obtain ⟨h5, hrm⟩ := hk.resolve_left (by rw [hkk]; simp)
    have hc5 : ((c.toNat : Int) == 5) = true := by simpa using h5
    have hroom : decide (room < 2) = true := by simpa using hrm
    clear HW0 hw hk ht hr hkk h5 hrm
    go_enter Tryz.func214, Tryz.ntmps214
    go_wp2_with (first | (go_at_call 144; refine (HW.out _ (HTb.out _ ?_)).mono ?_; exact grown_trans (grown_trans (grown_of_below ((Below.refl _ w).alloc (Nat.le_refl _) _) _) hs1.1) (grown_of_below ((Below.refl _ w1).alloc (Nat.le_refl _) _) _); rintro e w2 ⟨rfl, hb2⟩; have HSt := hid (EnSt.new (x := #[.int .i64 x0, .int .i64 x1, .int .i64 x2, .int .i64 x3]) hps hs1 hb2); have c50 := hb2.cell (p := ⟨w1.heap.size, 0, none⟩) (by simp); simp [go_sem] at c50; have zz := hb2.size; simp only [World.size_alloc] at zz; have zz1 : w1.heap.size < w2.heap.size := (by omega); have zw := hs1.1.size; simp only [World.size_alloc] at zw; have zw1 : ¬ w.heap.size = w1.heap.size := (by omega); have zw2 : ¬ w1.heap.size = w2.heap.size := (by omega); have zw3 : ¬ w.heap.size = w2.heap.size := (by omega); clear zz zw) | (go_at_call 213; refine (HN0.out _ (by repeat' first | with_reducible exact Below.refl _ _ | with_reducible assumption | with_reducible refine belows_drewN ?_ _ | with_reducible refine Below.drew ?_ | with_reducible refine Below.setCell ?_ ?_ _ | with_reducible refine Below.alloc ?_ ?_ _ | omega | (simp; done) | (simp; omega))).mono ?_; rintro e w1 ⟨rfl, hs1⟩))
    exact ⟨rfl, rfl, HSt.out.gr⟩
end Go.Proofs.YtehjindeggmfpaaGreatDoor.L3

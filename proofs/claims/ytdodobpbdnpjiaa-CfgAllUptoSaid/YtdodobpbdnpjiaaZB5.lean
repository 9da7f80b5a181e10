/- Own texts for the claim, part 5. -/
import Derived.Test.YtdodobpbdnpjiaaZB4
import Derived.OrdersHeld
import Derived.Deep.RegionHeld
import Derived.OrdersIn
import Derived.RangeFuncCalls
import Derived.RangeFuncNested
import Derived.RangeFuncBound
import Derived.RangeFuncLeaves
import Derived.Shelf.Abstract
import Derived.Shelf.RegionOpen
import Derived.OwnWalkIn
import Derived.TacticsInMore
import Derived.LoopNIn
import Derived.LoopIn
namespace Go.Proofs.Ytdodobpbdnpjiaa
open Go Go.RowKit
open Kit (natVals)
open Cf (Op5 Ca opL caL)

theorem rev_any {w : World} {base : Nat} {v : Value} {l : List Nat} (h : w.ownsRow base 3 1 v l.length (natVals l)) (hl : l.length ≤ 4294967296) :
    Calls Try.prog 50 #[v] w fun e w' => e = .returned (.tuple #[]) ∧ w'.ownsRow base 3 1 v l.length (natVals l.reverse) ∧ Chg (fun i => v.ownBlock = some i) w w' := by
  rcases h.2 with ⟨rfl, h0⟩ | ⟨g, cap, cur, rfl, hg, hh, -⟩
  · obtain rfl : l = [] := List.length_eq_zero_iff.1 h0
    refine (Sh.slices_Reverse_int_empty none 0 w).mono ?_
    rintro e w' ⟨rfl, rfl⟩
    exact ⟨rfl, h, Chg.refl _ _⟩
  · have hc := Sh.slices_Reverse_int g 0 cap (Cf.casts l) w (holds_nats h) (by rw [Cf.casts_len]; omega)
    rw [Cf.casts_len] at hc
    refine hc.mono ?_
    rintro e w' ⟨rfl, n, rfl⟩
    have h1 := sortW_own (Value.int .i64) h n (Cf.casts l).reverse.toArray #[] (by simp [Cf.casts_len])
    have h2 := sortW_chg (Value.int .i64) (w := w) (blk := g) n (Cf.casts l).reverse.toArray #[]
    have e0 : sortWorld (Value.int .i64) w g 0 n (Cf.casts l).reverse.toArray #[] = Sort.putRow (Value.int .i64) (Sort.ahead w n) g 0 (Cf.casts l).reverse.toArray := by unfold sortWorld; rw [Sort.grow_empty]
    rw [e0] at h1 h2
    rw [show (((Cf.casts l).reverse.toArray).toList.map (Value.int .i64)) = natVals l.reverse by rw [← Cf.casts_vals]; unfold Cf.casts; simp] at h1
    exact ⟨rfl, h1, h2.mono (fun i _ e => by rw [e]; rfl)⟩
/-- Where walk stands behind the entering. -/
structure WkT (w1 : World) (gb rb base bb cap ob n k m : Nat) (O : List Nat) (ov sv : Value) (cur : List Value) (W : World) : Prop where
  box : BX W gb #[.slice (some ⟨bb, 0, none⟩) k cap, .slice (some ⟨ob, 0, none⟩) n n, ov, sv, Nil, Nil] 56
  ord : W.ownsRow w1.heap.size 3 1 ov O.length (natVals O)
  low : ∀ j, ov.ownBlock = some j → j < m
  spt : W.ownsRow m 3 1 sv k cur
  lm : w1.heap.size ≤ m
  ch : Chg (fun i => i = gb ∨ i = rb) w1 W
theorem WkT.set {w1 W : World} {gb rb base bb cap ob n k m s c : Nat} {O : List Nat} {ov : Value} {cur : List Value} (h : WkT w1 gb rb base bb cap ob n k m O ov (.slice (some ⟨s, 0, none⟩) k c) cur W) (x : Nat) (u : Value) : WkT w1 gb rb base bb cap ob n k m O ov (.slice (some ⟨s, 0, none⟩) k c) (cur.set x u) (W.setCell ⟨s, x, none⟩ u) := by
  have hc : Chg (fun i => i = s) W (W.setCell ⟨s, x, none⟩ u) := (Chg.refl (fun i => i = s) W).set (p := ⟨s, x, none⟩) (.inl rfl) u
  have hms := Kit.own_base h.spt s rfl
  refine ⟨h.box.chg hc (fun e => own_unlike_box h.spt h.box (by decide) (by rw [e]; rfl)), owns_chg h.ord hc (fun j e e2 => by have := h.low j e; omega), h.low, owns_set1 h.spt x u rfl, h.lm, h.ch.trans hc (fun i e => .inr (by have := h.lm; omega))⟩
theorem WkI.rep {w1 wc w6 w7 : World} {gb eb xb nb rb base bb cap ob n k : Nat} {L : List Op5} {B : Nat → Bool} {nv cv : Nat → Value} {cl : Nat → List Nat} {en lf O : List Nat} {ov sv : Value} {cur : List Value} (c : WkC w1 gb eb xb nb rb base bb cap ob L B k nv cv cl) (h : WkI w1 gb rb base bb cap ob n k en lf ov wc) (hO : O = lf.reverse)
    (h6 : w6.ownsRow w1.heap.size 3 1 ov lf.length (natVals lf.reverse)) (c6 : Chg (fun i => ov.ownBlock = some i) wc w6) {m : Nat} (hm : w6.heap.size ≤ m) (h7 : w7.ownsRow m 3 1 sv k cur) (hb67 : Below w6.heap.size w6 w7) :
    w7.cell? ⟨xb, 0, none⟩ = some (.pointer (some ⟨gb, 0, none⟩)) ∧ w7.cell? ⟨gb, 0, none⟩ = some (.slice (some ⟨bb, 0, none⟩) k cap) ∧ w7.cell? ⟨gb, 3, none⟩ = some Nil ∧ w7.frozen? ⟨gb, 3, none⟩ = false ∧ WkT w1 gb rb base bb cap ob n k w6.heap.size O ov sv cur (w7.setCell ⟨gb, 3, none⟩ sv) := by
  have c7 : Chg (fun i => i = gb ∨ i = rb) w1 w7 := (h.ch.trans c6 (fun i e => .inr (Kit.own_base h.ord i e))).below hb67
  have bx7 := (h.box.chg c6 (own_unlike_box h.ord h.box (by decide))).below hb67
  have hc8 : Chg (fun i => i = gb) w7 (w7.setCell ⟨gb, 3, none⟩ sv) := (Chg.refl (fun i => i = gb) w7).set (p := ⟨gb, 3, none⟩) (.inl rfl) sv
  have o7 := Kit.owns_below h6 hb67 (Nat.le_refl _)
  refine ⟨(c.boxes c7).2.1, bx7.cell 0, bx7.cell 3, bx7.frozen 3, ⟨box_set bx7 3 sv, ?_, fun j e => Kit.own_lt h6 j e, ?_, Nat.le_trans h.ch.size c6.size, c7.trans hc8 (fun i e => .inl (.inl e))⟩⟩
  · rw [hO, List.length_reverse]
    exact owns_chg o7 hc8 (fun j e e2 => own_unlike_box o7 bx7 (by decide) (e2 ▸ e))
  · exact Kit.owns_mono (owns_chg h7 hc8 (fun j e e2 => own_unlike_box h7 bx7 (by decide) (e2 ▸ e))) hm
/-- A graph in memory: blocks, edges, order. -/
structure GO (W : World) (base gb bb cap ob : Nat) (L : List Op5) (B : Nat → Bool) (k : Nat) (nv cv : Nat → Value) (cl : Nat → List Nat) (O : List Nat) (ov sv pv kv : Value) (cur : List Value) : Prop where
  box : BX W gb #[.slice (some ⟨bb, 0, none⟩) k cap, .slice (some ⟨ob, 0, none⟩) L.length L.length, ov, sv, pv, kv] 56
  bl : W.ownsRow base 36 4 (.slice (some ⟨bb, 0, none⟩) k cap) k ((List.range k).flatMap (Cf.bkV B L.length nv cv))
  of : W.ownsRow base 3 1 (.slice (some ⟨ob, 0, none⟩) L.length L.length) L.length (ivals (Cf.ofN B) L.length)
  nx : ∀ x, x < k → W.ownsRow base 3 1 (nv x) (Cf.nxs L B x).length (natVals (Cf.nxs L B x))
  ca : ∀ x, x < k → W.ownsRow base 3 1 (cv x) (cl x).length (natVals (cl x))
  ord : W.ownsRow base 3 1 ov O.length (natVals O)
  spt : W.ownsRow base 3 1 sv k cur
  spi : ∀ (i x : Nat), O[i]? = some x → cur[x]? = some (Value.int .i64 (i : Int))
  lo : base ≤ gb
section
variable {base gb bb cap ob k : Nat} {L : List Op5} {B : Nat → Bool} {nv cv : Nat → Value} {cl : Nat → List Nat}
set_option maxRecDepth 100000
set_option maxHeartbeats 4000000
theorem walk_any {w : World} (h : GB w base gb bb cap ob L B k nv cv cl) (hE : ∀ b, b < k → ∀ t ∈ edg L B cl b, t < k) (hl : ∀ b, b < k → (cl b).length ≤ 1048576) (hk : k ≤ 1048576) :
    Calls Try.prog 25 #[.pointer (some ⟨gb, 0, none⟩)] w fun e w' => e = .returned (.tuple #[]) ∧ Below base w w' ∧ ∃ ov sv cur, GO w' base gb bb cap ob L B k nv cv cl (Cf.ord (edg L B cl) k) ov sv Nil Nil cur := by
  have hmk := fun W => run_make_row' (P := Try.prog) 51 4 (.bool false) 1 (by kernel_rfl) (by kernel_rfl) rfl .i64 .i64 k (by omega) (by omega) W
  obtain ⟨k0, -, -⟩ := h.gw.cells
  have hgs := h.gw.box.sz
  have hbw : base ≤ w.heap.size := Nat.le_trans h.gw.lo (Nat.le_of_lt hgs)
  obtain ⟨w1, hw1⟩ : ∃ w1, w1 = (((w.alloc (.cells #[.pointer (some ⟨gb, 0, none⟩)] 29)).alloc (.cells (madeCells #[.bool false] k) 4)).alloc (.cells #[.slice (some ⟨w.heap.size + 1, 0, none⟩) k k] 51)).alloc (.cells #[enF (w.heap.size + 1 + 1) w.heap.size (w.heap.size + 1 + 1 + 1)] 92) := ⟨_, rfl⟩
  have hb1 : Below w.heap.size w w1 := by rw [hw1]; exact (by repeat' first | with_reducible exact Below.refl _ _ | with_reducible assumption | with_reducible refine belows_drewN ?_ _ | with_reducible refine Below.drew ?_ | with_reducible refine Below.setCell ?_ ?_ _ | with_reducible refine Below.alloc ?_ ?_ _ | omega | (simp; done) | (simp; omega))
  have hs1 : w1.heap.size = w.heap.size + 4 := by rw [hw1]; simp
  have bx0 := ((((BX.new w #[.pointer (some ⟨gb, 0, none⟩)] 29).below ((Below.refl _ _).alloc (Nat.le_refl _) (.cells (madeCells #[.bool false] k) 4))).below ((Below.refl _ _).alloc (Nat.le_refl _) (.cells #[.slice (some ⟨w.heap.size + 1, 0, none⟩) k k] 51))).below ((Below.refl _ _).alloc (Nat.le_refl _) (.cells #[enF (w.heap.size + 1 + 1) w.heap.size (w.heap.size + 1 + 1 + 1)] 92)))
  have o1 := Kit.owns_below (Kit.owns_below (owns_made (base := base) (w.alloc (.cells #[.pointer (some ⟨gb, 0, none⟩)] 29)) (by simp; omega) (.bool false) k (by unfold maxLen; omega) 4) ((Below.refl _ _).alloc (Nat.le_refl _) (.cells #[.slice (some ⟨w.heap.size + 1, 0, none⟩) k k] 51)) (Nat.le_refl _)) ((Below.refl _ _).alloc (Nat.le_refl _) (.cells #[enF (w.heap.size + 1 + 1) w.heap.size (w.heap.size + 1 + 1 + 1)] 92)) (Nat.le_refl _)
  have bx2 := (BX.new ((w.alloc (.cells #[.pointer (some ⟨gb, 0, none⟩)] 29)).alloc (.cells (madeCells #[.bool false] k) 4)) #[.slice (some ⟨w.heap.size + 1, 0, none⟩) k k] 51).below ((Below.refl _ _).alloc (Nat.le_refl _) (.cells #[enF (w.heap.size + 1 + 1) w.heap.size (w.heap.size + 1 + 1 + 1)] 92))
  have bx3 := BX.new (((w.alloc (.cells #[.pointer (some ⟨gb, 0, none⟩)] 29)).alloc (.cells (madeCells #[.bool false] k) 4)).alloc (.cells #[.slice (some ⟨w.heap.size + 1, 0, none⟩) k k] 51)) #[enF (w.heap.size + 1 + 1) w.heap.size (w.heap.size + 1 + 1 + 1)] 92
  rw [← hw1] at bx0 bx2 bx3 o1
  simp only [World.size_alloc] at bx2 bx3 o1
  rw [← bvals_no] at o1
  have g1 := h.gw.below hb1
  have HC : Hid (WkC w1 gb (w.heap.size + 1 + 1) w.heap.size (w.heap.size + 1 + 1 + 1) (w.heap.size + 1) base bb cap ob L B k nv cv cl) :=
    ⟨⟨_, g1.box⟩, bx2, bx0, bx3, ⟨_, o1⟩, g1.bl, fun x hx => Kit.owns_below (h.nx x hx) hb1 (Nat.le_refl _), fun x hx => Kit.owns_below (h.ca x hx) hb1 (Nat.le_refl _), h.gw.lo, by omega⟩
  have HI : Hid (WkI w1 gb (w.heap.size + 1) base bb cap ob L.length k [] [] Nil w1) := ⟨g1.box, ⟨rfl, .inl ⟨rfl, rfl⟩⟩, by rw [bvals_same (g := fun _ => false) (fun i _ => by simp)]; exact o1, Chg.refl _ _⟩
  have hst : (store ⟨w.heap.size + 1 + 1 + 1, 0, none⟩ (.func (.func 49) #[] #[.pointer (some ⟨w.heap.size + 1 + 1, 0, none⟩), .pointer (some ⟨w.heap.size, 0, none⟩), .pointer (some ⟨w.heap.size + 1 + 1 + 1, 0, none⟩)])).run Try.prog ((((w.alloc (.cells #[.pointer (some ⟨gb, 0, none⟩)] 29)).alloc (.cells (madeCells #[.bool false] k) 4)).alloc (.cells #[.slice (some ⟨w.heap.size + 1, 0, none⟩) k k] 51)).alloc (.cells #[.nilFunc] 92)) = .ok () w1 := by
    have bxn := BX.new (((w.alloc (.cells #[.pointer (some ⟨gb, 0, none⟩)] 29)).alloc (.cells (madeCells #[.bool false] k) 4)).alloc (.cells #[.slice (some ⟨w.heap.size + 1, 0, none⟩) k k] 51)) #[.nilFunc] 92
    simp only [World.size_alloc] at bxn
    have c0 := bxn.cell 0
    have c1 : World.cell? _ ⟨w.heap.size + 1 + 1 + 1, 0, none⟩ = some .nilFunc := c0
    rw [run_store _ _ _ _ _ rfl, c1]
    dsimp only
    rw [bxn.frozen 0, hw1]
    simp only [Bool.false_eq_true, if_false]
    rw [World.setCell_alloc_at _ _ _ _ _ (by simp only [World.size_alloc])]
    rfl
  have HH := hid h
  have HB1 := hid hb1
  have HW1 := hid hw1
  have HEn := hid (fun (hk0 : 0 < k) => enter_any (n := L.length) HC.out hE hl hk k 0 [] [] Nil w1 hk0 ⟨List.nodup_nil, fun x hx => by simp at hx, List.nodup_nil, fun x hx => by simp at hx⟩ (by simp) HI.out)
  have HO := hid (Cf.ord_ok hE)
  clear hw1 bx0 bx2 bx3 o1 g1 h hE hl hb1
  go_enter Try.func25, Try.ntmps25
  go_upto_region 4 with fail
  obtain ⟨-, x0, n0⟩ := HC.out.boxes HI.out.ch
  have g0 : w1.cell? ⟨gb, 0, none⟩ = some (.slice (some ⟨bb, 0, none⟩) k cap) := HI.out.box.cell 0
  unfold enF at n0
  clear k0 hst hmk
  go_upto_if 18 with fail
  go_cut [] (fun wx => ∃ en lf ov, Cf.ord (edg L B cl) k = lf.reverse ∧ Hid (WkI w1 gb (w.heap.size + 1) base bb cap ob L.length k en lf ov wx))
  case first =>
    by_cases hk0 : k = 0
    · have hkd : ¬ (0 < k) := by omega
      go_wp2
      go_meet
      exact ⟨[], [], Nil, by unfold Cf.ord; rw [if_pos hk0]; rfl, HI⟩
    · have hk1 : 0 < k := by omega
      have HCall := hid (HEn.out hk1)
      go_wp2_with (go_at_call 49; refine HCall.out.mono ?_; rintro e w5 ⟨rfl, ov5, h5⟩; have H5 := hid h5; clear h5)
      go_meet
      exact ⟨_, _, ov5, by unfold Cf.ord; rw [if_neg hk0], H5⟩
  case rest =>
    obtain ⟨en, lf, ov, hord, HI2⟩ := hcut
    have hOk : (Cf.ord (edg L B cl) k).Nodup := HO.out.1
    have hOl : ∀ x ∈ Cf.ord (edg L B cl) k, x < k := HO.out.2.1
    have hlen : lf.length = (Cf.ord (edg L B cl) k).length := by rw [hord, List.length_reverse]
    have hlk : (Cf.ord (edg L B cl) k).length ≤ k := by
      have := Cf.len_le hOk (b := List.range k) (fun x hx => List.mem_range.2 (hOl x hx))
      rwa [List.length_range] at this
    obtain ⟨O, hO⟩ : ∃ O, Cf.ord (edg L B cl) k = O := ⟨_, rfl⟩
    have HOeq := hid hO
    rw [hO] at hOk hOl hlen hlk hord
    have HR := hid (rev_any HI2.out.ord (by omega))
    have HOk := hid hOk
    have HOl := hid hOl
    clear x0 n0 g0 HEn HI hO hOk hOl
    obtain ⟨-, x0, -⟩ := HC.out.boxes HI2.out.ch
    obtain ⟨oa, oc, rfl⟩ := own_form HI2.out.ord
    have g2 : wc.cell? ⟨gb, 2, none⟩ = some (.slice oa lf.length oc) := HI2.out.box.cell 2
    have HOr := hid hord
    have HLen := hid hlen
    clear hord hlen
    go_upto_region 7 with (go_at_call 50; refine HR.out.mono ?_; rintro e w6 ⟨rfl, h6, c6⟩; have H6 := hid h6; have C6 := hid c6; clear h6 c6)
    have c16 : Chg (fun i => i = gb ∨ i = w.heap.size + 1) w1 w6 := HI2.out.ch.trans C6.out (fun i e => .inr (Kit.own_base HI2.out.ord i e))
    obtain ⟨-, x6, -⟩ := HC.out.boxes c16
    have bx6 := HI2.out.box.chg C6.out (own_unlike_box HI2.out.ord HI2.out.box (by decide))
    have g6 : w6.cell? ⟨gb, 0, none⟩ = some (.slice (some ⟨bb, 0, none⟩) k cap) := bx6.cell 0
    have hz6 := c16.size
    have hzx : w.heap.size < w6.heap.size := by omega
    have hzg : gb < w6.heap.size := by omega
    clear x0 g2 c16 bx6
    go_region_held3 (fun w' => w'.cell? ⟨w.heap.size, 0, none⟩ = some (.pointer (some ⟨gb, 0, none⟩)) ∧ w'.cell? ⟨gb, 0, none⟩ = some (.slice (some ⟨bb, 0, none⟩) k cap))
      (first | exact ⟨x6, g6⟩ | exact ⟨x7, g70⟩ | exact ⟨x8, g8⟩ | go_keep)
      (first | (go_at_call 51; go_loud (refine (repeat_any (c := -1) (by first | (simp; done) | (simp; rw [World.cell?_alloc_at _ _ _ _ (by simp)]; rfl)) hk).mono ?_; rintro e w7 ⟨rfl, cur, h7, hI7, hb7⟩; have hb67 : Below w6.heap.size w6 w7 := belows (a := w6) (by repeat' first | with_reducible exact Below.refl _ _ | with_reducible assumption | with_reducible refine belows_drewN ?_ _ | with_reducible refine Below.drew ?_ | with_reducible refine Below.setCell ?_ ?_ _ | with_reducible refine Below.alloc ?_ ?_ _ | omega | (simp; done) | (simp; omega)) hb7 (by simp); (try simp at h7); obtain ⟨x7, g70, g7, f7, hT⟩ := WkI.rep HC.out HI2.out HOr.out H6.out C6.out (by omega) h7 hb67; have HT := hid hT; have x8 := (HC.out.boxes hT.ch).2.1; have g8 := hT.box.cell 0; have HI7 := hid hI7; have hz7 := hb7.size; clear x6 g6 hT h7 hI7 hb7)))
    go_upto_region 8 with fail
    refine region_named fun W8 hW8 => ?_
    rw [← hW8] at HT
    clear hW8 x8 g8 x7 g70 g7 f7
    obtain ⟨ol, hol⟩ : ∃ ol, lf.length = ol := ⟨_, rfl⟩
    rw [hol] at HT HLen
    obtain ⟨-, x0, -⟩ := HC.out.boxes HT.out.ch
    have g2 : W8.cell? ⟨gb, 2, none⟩ = some (.slice oa ol oc) := HT.out.box.cell 2
    rw [hol]
    have hol2 : ol ≤ 1048576 := by rw [HLen.out]; omega
    have HS0 : Hid (∀ (j x : Nat), j < 0 → O[j]? = some x → cur[x]? = some (Value.int .i64 (j : Int))) := fun j x h => by omega
    clear hol
    go_wp2
    go_loopw [41] (fun v wr => ∃ (i : Nat) (cur : List Value), v = .int .i64 (i : Int) ∧ i ≤ ol ∧ Hid (WkT w1 gb (w.heap.size + 1) base bb cap ob L.length k w6.heap.size O (.slice oa ol oc) (.slice (some ⟨w6.heap.size + 1, 0, none⟩) k k) cur wr) ∧ Hid (IntL cur) ∧ Hid (∀ (j x : Nat), j < i → O[j]? = some x → cur[x]? = some (Value.int .i64 (j : Int)))) (fun v _ => ol - (intOf v).toNat)
    case atStart => exact ⟨0, cur, rfl, by omega, HT, HI7, HS0⟩
    case round =>
      clear HT HI7 HS0 x0 g2
      obtain ⟨i, cur, rfl, hio, HT, HI7, HS⟩ := hrel
      obtain ⟨-, x0, -⟩ := HC.out.boxes HT.out.ch
      by_cases hlt : i < ol
      · obtain ⟨x, hx⟩ : ∃ x, O[i]? = some x := ⟨_, List.getElem?_eq_getElem (by rw [← HLen.out]; exact hlt)⟩
        have hxk := HOl.out x (List.mem_of_getElem? hx)
        have hor := HT.out.ord
        rw [← HLen.out] at hor
        obtain ⟨qb, qc, hqv, hqb, hqc⟩ := own_at0 hor (by omega)
        obtain ⟨rfl, -, rfl⟩ := Value.slice.inj hqv
        have q0 := (hqc i _ (Kit.natVals_at hx)).1
        have g3 : wr.cell? ⟨gb, 3, none⟩ = some (.slice (some ⟨w6.heap.size + 1, 0, none⟩) k k) := HT.out.box.cell 3
        have hcl : cur.length = k := by have := HT.out.spt.1; omega
        obtain ⟨u, hu⟩ : ∃ u, cur[x]? = some u := ⟨_, List.getElem?_eq_getElem (by omega)⟩
        obtain ⟨y, rfl⟩ := HI7.out u (List.mem_of_getElem? hu)
        obtain ⟨s0, s1⟩ := own_cell HT.out.spt hu
        have HN := hid (HT.out.set x (.int .i64 (i : Int)))
        have HIN : Hid (IntL (cur.set x (.int .i64 (i : Int)))) := fun u hu => by
          rcases List.mem_or_eq_of_mem_set hu with h | h
          · exact HI7.out u h
          · exact ⟨_, h⟩
        have HSN : Hid (∀ (j z : Nat), j < i + 1 → O[j]? = some z → (cur.set x (.int .i64 (i : Int)))[z]? = some (Value.int .i64 (j : Int))) := fun j z hj hz => by
          rw [List.getElem?_set]
          by_cases e : x = z
          · subst e
            have hji : j = i := by
              obtain ⟨h1, e1⟩ := List.getElem?_eq_some_iff.1 hz
              obtain ⟨h2, e2⟩ := List.getElem?_eq_some_iff.1 hx
              exact (List.getElem_inj HOk.out).1 (e1.trans e2.symm)
            rw [if_pos rfl, if_pos (by omega), hji]
          · rw [if_neg e]
            have hji : j ≠ i := by
              rintro rfl
              rw [hx] at hz
              exact e (Option.some.inj hz)
            exact HS.out j z (by omega) hz
        clear hx hor hqv hqc hcl hu
        go_wp2
        go_roundw
        case rel => exact ⟨i + 1, _, by go_num, by omega, HN, HIN, HSN⟩
        case measure => simp [intOf]; omega
      · obtain rfl : i = ol := by omega
        go_wp2
        refine bodyPost_end (results_none rfl _ _ _) rfl ?_
        have hch := HT.out.ch
        have hbel : Below base w wr := (belows (Below.refl base w) HB1.out hbw).trans (hch.to_below (fun j e => by rcases e with rfl | rfl; exact HH.out.gw.lo; omega) (by omega))
        refine ⟨rfl, hbel, _, _, cur, ⟨HT.out.box, HC.out.keep hch HC.out.bl (by decide) (by decide), HC.out.keep hch (Kit.owns_below HH.out.gw.of HB1.out (Nat.le_refl _)) (by decide) (by decide), fun x hx => HC.out.keep hch (HC.out.nx x hx) (by decide) (by decide), fun x hx => HC.out.keep hch (HC.out.ca x hx) (by decide) (by decide), ?_, Kit.owns_mono HT.out.spt (by omega), ?_, HH.out.gw.lo⟩⟩
        · rw [HOeq.out]
          exact Kit.owns_mono HT.out.ord (by omega)
        · intro j x hj
          rw [HOeq.out] at hj
          exact HS.out j x (by rw [HLen.out]; exact (List.getElem?_eq_some_iff.1 hj).1) hj
end
end Go.Proofs.Ytdodobpbdnpjiaa
namespace Go.Proofs.Ytdodobpbdnpjiaa
open Go Go.RowKit
open Kit (natVals)
set_option maxRecDepth 100000
set_option maxHeartbeats 4000000
theorem edges_any {w : World} {gb bb k cap x : Nat} {v1 v2 : Value} {l1 l2 : List Nat} (c0 : w.cell? ⟨gb, 0, none⟩ = some (.slice (some ⟨bb, 0, none⟩) k cap)) (hx : x < k) (c2 : w.cell? ⟨bb, x * 4 + 2, none⟩ = some v1) (c3 : w.cell? ⟨bb, x * 4 + 3, none⟩ = some v2)
    (h1 : Kit.IsS 1 w v1 l1.length (natVals l1)) (h2 : Kit.IsS 1 w v2 l2.length (natVals l2)) (hl1 : l1.length ≤ 2000000) (hl2 : l2.length ≤ 2000000) :
    Calls Try.prog 52 #[.pointer (some ⟨gb, 0, none⟩), .int .i64 (x : Int)] w fun e w' => ∃ v, e = .returned v ∧ w'.ownsRow w.heap.size 3 1 v (Cf.rise (l1 ++ l2)).length (natVals (Cf.rise (l1 ++ l2))) ∧ Below w.heap.size w w' := by
  obtain ⟨a1, p1, rfl⟩ := h1.len
  obtain ⟨a2, p2, rfl⟩ := h2.len
  have hgs := World.block_lt_of_cell? w _ c0
  have hbs := World.block_lt_of_cell? w _ c2
  have hgs' : gb < w.heap.size := hgs
  have hbs' : bb < w.heap.size := hbs
  have HC := hid (fun W (hb : Below w.heap.size w W) (d0 : W.cell? ⟨w.heap.size, 0, none⟩ = some (.slice a1 l1.length p1)) (d1 : W.cell? ⟨w.heap.size, 1, none⟩ = some (.slice a2 l2.length p2)) => concat_any d0 d1 (h1.below hb (Nat.le_refl _)) (h2.below hb (Nat.le_refl _)) hl1 hl2)
  have HR := hid (fun (W : World) (base : Nat) (v : Value) (ho : W.ownsRow base 3 1 v (l1 ++ l2).length (natVals (l1 ++ l2))) => rising_any ho (by rw [List.length_append]; omega))
  clear h1 h2 hl1 hl2 hgs hbs
  go_enter Try.func52, Try.ntmps52
  go_upto_region 1 with fail
  go_region_held3 (fun w' => w'.cell? ⟨gb, 0, none⟩ = some (.slice (some ⟨bb, 0, none⟩) k cap) ∧ w'.cell? ⟨bb, x * 4 + 2, none⟩ = some (.slice a1 l1.length p1) ∧ w'.cell? ⟨bb, x * 4 + 3, none⟩ = some (.slice a2 l2.length p2))
    (first | exact ⟨c0, c2, c3⟩ | exact ⟨d0, d2, d3⟩ | exact ⟨e0, e2, e3⟩ | go_keep)
    (first | (go_at_call 61; go_loud (refine (HC.out _ (by repeat' first | with_reducible exact Below.refl _ _ | with_reducible assumption | with_reducible refine belows_drewN ?_ _ | with_reducible refine Below.drew ?_ | with_reducible refine Below.setCell ?_ ?_ _ | with_reducible refine Below.alloc ?_ ?_ _ | omega | (simp; done) | (simp; omega)) (by first | (simp; done) | (rw [World.cell?_alloc_at _ _ _ _ (by simp)]; rfl)) (by first | (simp; done) | (rw [World.cell?_alloc_at _ _ _ _ (by simp)]; rfl))).mono ?_; rintro e w1 ⟨u1, rfl, ho, hb⟩; have HO := hid ho; have HB : Hid (Below w.heap.size w w1) := belows (a := w) (by repeat' first | with_reducible exact Below.refl _ _ | with_reducible assumption | with_reducible refine belows_drewN ?_ _ | with_reducible refine Below.drew ?_ | with_reducible refine Below.setCell ?_ ?_ _ | with_reducible refine Below.alloc ?_ ?_ _ | omega | (simp; done) | (simp; omega)) hb (by simp); have d0 := (HB.out.cell (p := ⟨gb, 0, none⟩) hgs').trans c0; have d2 := (HB.out.cell (p := ⟨bb, x * 4 + 2, none⟩) hbs').trans c2; have d3 := (HB.out.cell (p := ⟨bb, x * 4 + 3, none⟩) hbs').trans c3; clear ho hb))
           | (go_at_call 37; go_loud (refine (HR.out _ _ _ HO.out).mono ?_; rintro e w2 ⟨u2, rfl, h2, hc2, -⟩; have H2 := hid h2; have HB2 : Hid (Below w.heap.size w w2) := HB.out.trans (hc2.to_below (fun j e => by have := Kit.own_base HO.out j e; (try simp at this); omega) HB.out.size); have e0 := (HB2.out.cell (p := ⟨gb, 0, none⟩) hgs').trans c0; have e2 := (HB2.out.cell (p := ⟨bb, x * 4 + 2, none⟩) hbs').trans c2; have e3 := (HB2.out.cell (p := ⟨bb, x * 4 + 3, none⟩) hbs').trans c3; clear h2 hc2)))
  go_wp2
  go_ret
  exact ⟨_, rfl, Kit.owns_mono H2.out (by simp), HB2.out⟩
end Go.Proofs.Ytdodobpbdnpjiaa
namespace Go.Proofs.Ytdodobpbdnpjiaa
open Go Go.RowKit

/-- What is left of a post: the way on alone. -/
def NormQ (Q : Exit → Act → World → Prop) : Exit → Act → World → Prop
  | .normal, a, w => Q .normal a w
  | _, _, _ => False
def plainOp (o : Oper) : Bool := match o.op with | .defer _ => false | _ => true
theorem plainOp_ne {o : Oper} (h : plainOp o = true) : ∀ c, o.op ≠ .defer c := by
  intro c e
  unfold plainOp at h
  rw [e] at h
  cases h
section
variable {P : Program} {ops : Array Oper} {Q : Exit → Act → World → Prop} {md : Region.Mode} {l n : Nat}
theorem normQ_lets : ¬ LetsOut (NormQ Q) := by
  rintro ⟨a, w, h⟩
  exact h
theorem op_round {o : Oper} {a : Act} {w : World} {K K' : Act → World → Prop} (hp : plainOp o = true) (hk : ∀ a w, K a w → K' a w) (h : o.wp P a w K (NormQ Q)) : o.wpIn (Fence.wide.inRound l) n P a w K' Q := by
  unfold Oper.wp at h
  unfold Oper.wpIn
  refine ⟨fun _ _ => trivial, ?_⟩
  rw [Oper.semAt_eq _ _ _ (plainOp_ne hp)]
  generalize (execOp a.eval o).run P w = r at *
  cases r with
  | ok x w' =>
    cases x <;> simp only [Oper.upon] at h <;> simp only [Oper.uponIn]
    case value u => exact hk _ _ h
    case skip => exact hk _ _ h
    case defer d => exact hk _ _ h
    case enter f args =>
      refine ⟨fun h => by simp [Fence.wide, Fence.inRound] at h, CallsIn.inRound l (callsIn_wide.2 (h.mono fun e w'' he => ?_))⟩
      cases e with
      | returned v => exact hk _ _ he
      | panicked c => exact he.elim
      | outgrown => exact (normQ_lets he).elim
    case row row args =>
      refine ⟨fun h => by simp [Fence.wide, Fence.inRound] at h, fun c cs _ => ?_⟩
      obtain ⟨v, w'', r, s⟩ := h c cs
      exact ⟨v, w'', hk _ _ r, stepsIn_wide.2 s⟩
  | halt x w' =>
    cases x <;> simp only [Oper.upon] at h
    case panic v => exact h.elim
theorem wpOp_round {i : Nat} {a : Act} {w : World} {K K' : Act → World → Prop} (hp : ∀ (i : Nat) (o : Oper), ops[i]? = some o → plainOp o = true) (hk : ∀ a w, K a w → K' a w) (h : wpOp P ops (NormQ Q) i K a w) : wpOpIn (Fence.wide.inRound l) n P ops Q i K' a w := by
  unfold wpOp at h
  unfold wpOpIn
  cases ho : ops[i]? with
  | none =>
    simp only [ho] at h
    exact hk _ _ h
  | some o =>
    simp only [ho] at h
    dsimp only
    split
    · rename_i hw
      simp only [hw, if_true] at h
      rcases h with h | ⟨-, h⟩
      · exact op_round (hp i o ho) hk h
      · exact (normQ_lets h).elim
    · rename_i hw
      simp only [hw] at h
      exact ⟨fun _ _ => trivial, hk _ _ h⟩
theorem any_round (hp : ∀ (i : Nat) (o : Oper), ops[i]? = some o → plainOp o = true) : ∀ (fuel : Nat) (listed : Array Bool) (a : Act) (w : World), wpAny P md ops (NormQ Q) fuel listed a w → wpAnyIn (Fence.wide.inRound l) n P md ops Q fuel listed a w
  | 0, _, _, _, h => h
  | fuel + 1, _, _, _, h => ⟨h.1, fun i hi => wpOp_round hp (fun a' w' h' => any_round hp fuel _ a' w' h') (h.2 i hi)⟩
theorem plain_all (h : ops.all plainOp = true) : ∀ (i : Nat) (o : Oper), ops[i]? = some o → plainOp o = true := fun i o ho => by
  obtain ⟨hi, e⟩ := Array.getElem?_eq_some_iff.1 ho
  rw [← e]
  exact (Array.all_eq_true.1 h) i hi
/-- The beginning of such a region: S as in go_region_held3. -/
theorem region_round {id : Nat} {a : Act} {w : World} (S : World → Prop) (hm : P.follows .mixedOrders = true) (hp : ops.all plainOp = true) (hS : S w.drew)
    (h : S w.drew → wpAnyH P .any ops (NormQ Q) S ops.size (Array.replicate ops.size false) a w.drew) : (Code.region id ops true).wpIn (Fence.wide.inRound l) n P Q a w :=
  wpIn_region_any hm (any_round (plain_all hp) _ _ _ _ (wpAny_of_held _ _ _ _ (h hS)))
theorem normQ_out {a : Act} {w : World} (h : Q .normal a w) : NormQ Q .normal a w := h
end
end Go.Proofs.Ytdodobpbdnpjiaa
namespace Go.Proofs.Ytdodobpbdnpjiaa
open Go Go.RowKit
open Kit (natVals)

attribute [local go_sem] Oper.semAt_some

set_option maxRecDepth 100000 in
theorem Order_any {w : World} {gb n c : Nat} {a : Option Addr} (k2 : w.cell? ⟨gb, 2, none⟩ = some (.slice a n c)) : Calls Try.prog 12 #[.pointer (some ⟨gb, 0, none⟩)] w fun e w' => e = .returned (.func (.func 34) #[] #[.pointer (some ⟨w.heap.size, 0, none⟩)]) ∧ w' = w.alloc (.cells #[.slice a n c] 34) := by
  have hgs := World.block_lt_of_cell? w _ k2
  have hbl : gb < w.heap.size := hgs
  clear hgs
  go_enter Try.func12, Try.ntmps12
  go_wp2
  go_ret
  exact ⟨rfl, rfl⟩
/-- Blocks that stay as they are. -/
def Ks (S : Nat → Prop) (A B : World) : Prop := A.heap.size ≤ B.heap.size ∧ ∀ k, S k → B.heap[k]? = A.heap[k]?
theorem Ks.refl (S : Nat → Prop) (A : World) : Ks S A A := ⟨Nat.le_refl _, fun _ _ => rfl⟩
theorem Ks.trans {S : Nat → Prop} {A B C : World} (h : Ks S A B) (k : Ks S B C) : Ks S A C := ⟨Nat.le_trans h.1 k.1, fun i h1 => (k.2 i h1).trans (h.2 i h1)⟩
theorem Ks.below {S : Nat → Prop} {n : Nat} {A B C : World} (h : Ks S A B) (hb : Below n B C) (hn : ∀ k, S k → k < n) : Ks S A C := h.trans ⟨hb.size, fun i h2 => hb.block i (hn i h2)⟩
theorem Ks.putObj {S : Nat → Prop} {w : World} (hn : ∀ k, S k → k < w.heap.size) (W : World) (l : Nat) (o o' : Obj) (hl : w.heap.size ≤ l) (h : W.heap[l]? = some o) (_ : o.isCells = false) (_ : o.isWalk = false) : Ks S W (W.putObj l o') :=
  ⟨(grownBy_putObj' W l o').size, fun i hi => (grownBy_putObj' W l o').block i (by have := hn i hi; have := (Array.getElem?_eq_some_iff.1 h).1; omega) (fun e => by cases e; have := hn _ hi; omega)⟩
/-- A number that is told, and its place. -/
abbrev Tx (l : List Nat) := { x : Nat × Nat // l[x.1]? = some x.2 }
/-- What is told: the first so many. -/
def told (l : List Nat) : Nat → List (Tx l)
  | 0 => []
  | k + 1 => told l k ++ (match h : l[k]? with | some c => [⟨(k, c), h⟩] | none => [])
theorem told_yes {l : List Nat} {k c : Nat} (h : l[k]? = some c) : told l (k + 1) = told l k ++ [⟨(k, c), h⟩] := by
  show told l k ++ _ = _
  congr 1
  split
  · rename_i d hd
    obtain rfl := Option.some.inj (hd.symm.trans h)
    rfl
  · rename_i hd
    rw [hd] at h
    cases h
theorem told_len (l : List Nat) : ∀ k, k ≤ l.length → (told l k).length = k
  | 0, _ => rfl
  | k + 1, h => by
    have hk : l[k]? = some l[k] := List.getElem?_eq_getElem (by omega)
    rw [told_yes hk, List.length_append, told_len l k (by omega)]
    rfl
theorem told_last {l : List Nat} {k : Nat} {pre : List (Tx l)} {x : Tx l} (hk : k ≤ l.length) (h : told l k = pre ++ [x]) : x.1.1 = pre.length := by
  cases k with
  | zero =>
    have := congrArg List.length h
    simp [told] at this
  | succ k =>
    have h1 : l[k]? = some l[k] := List.getElem?_eq_getElem (by omega)
    rw [told_yes h1] at h
    obtain ⟨e1, e2⟩ := List.append_inj' h rfl
    have e3 := told_len l k (by omega)
    rw [e1] at e3
    simp only [List.cons.injEq, and_true] at e2
    rw [← e2]
    exact e3.symm
def entE {l : List Nat} (x : Tx l) : Array Value := #[.int .i64 (x.1.2 : Int)]
set_option maxRecDepth 100000 in
set_option maxHeartbeats 1000000 in
theorem order1_stops (l : List Nat) (v : Value) (S : Nat → Prop) (Bs n : Nat) (w : World) (hn : 1 ≤ n) (hhi : ∀ k, S k → k < w.heap.size) (hb : ∀ X, Ks S w X → Kit.IsS 1 X v l.length (natVals l) ∧ X.cell? ⟨Bs, 0, none⟩ = some v) :
    SeqStopsK Fence.wide n Try.prog 34 #[.pointer (some ⟨Bs, 0, none⟩)] entE (Ks S) (fun ys => ys = told l l.length) (fun ys => ∃ k, k ≤ l.length ∧ ys = told l k) l.length w := fun D J Jx W hW hJ _ hY h0 => by
  have HB := hid hb
  obtain ⟨a, cap, hv⟩ := (hb w (Ks.refl _ _)).1.len
  subst hv
  have hlen := (hb w (Ks.refl _ _)).1.2.1
  have hKW : Ks S w W := (Ks.refl _ _).below hW hhi
  have hcW := (hb W hKW).2
  clear hb
  refine callsIn_of_wp Try.func34 rfl trivial ?_ rfl
  simp only [Try.ntmps34, List.size_toArray, List.length_cons, List.length_nil, Nat.reduceAdd, Nat.reduceSub, Array.replicate_succ, Array.replicate_zero, List.push_toArray, List.append_toArray, List.nil_append, List.cons_append]
  gi_wp2
  gi_loopw [7] (fun i wr => ∃ k : Nat, k ≤ l.length ∧ i = .int .i64 k ∧ J (told l k) wr ∧ W.heap.size ≤ wr.heap.size ∧ Ks S w wr) (fun i _ => l.length - (intOf i).toNat)
  case atStart => exact ⟨0, by omega, rfl, h0, Nat.le_refl _, hKW⟩
  case round =>
    obtain ⟨k, hk, rfl, hJs, hzW, hbl⟩ := hrel
    have hzr := hbl.1
    by_cases hlt : k < l.length
    · obtain ⟨c, hx⟩ : ∃ x, l[k]? = some x := ⟨l[k], List.getElem?_eq_getElem hlt⟩
      obtain ⟨b, o, cap', hv, -, hbb, hcs⟩ := (HB.out wr hbl).1.some (by omega)
      obtain ⟨rfl, -, rfl⟩ := Value.slice.inj hv
      have c0 := hcs k _ (Kit.natVals_at hx)
      have hki : (k : Int) < (l.length : Int) := by omega
      have HT := hid (told_yes hx)
      have hln : (told l k).length < l.length := by rw [told_len l k hk]; omega
      have HY := hid (hY (told l k) ⟨(k, c), hx⟩ wr hJs hln)
      clear hv hcs
      obtain ⟨fn, tmps, assign, body, hy, hR⟩ := HY.out
      unfold entE at hy
      dsimp only at hy
      gi_wp2
      refine hR.mono ?_
      rintro e W3 (⟨rfl, hJ3, hk3⟩ | ⟨rfl, hJx3⟩)
      · gi_wp2
        go_roundw
        case rel => exact ⟨k + 1, by omega, by go_num, by rw [HT.out]; exact hJ3, (by have := hk3.1; omega), hbl.trans hk3⟩
        case measure => simp [intOf]; omega
      · gi_wp2
        refine bodyPost_ret (results_none rfl _ _ _) rfl ?_
        exact ⟨⟨_, rfl⟩, .inr ⟨_, ⟨k + 1, by omega, HT.out.symm⟩, hJx3⟩⟩
    · obtain rfl : k = l.length := by omega
      gi_wp2
      refine bodyPost_end (results_none rfl _ _ _) rfl ?_
      exact ⟨⟨_, rfl⟩, .inl ⟨_, rfl, hJs⟩⟩
end Go.Proofs.Ytdodobpbdnpjiaa
namespace Go.Proofs.Ytdodobpbdnpjiaa
open Go Go.RowKit
open Kit (natVals)

/-- Of the edges gone over, those to a block: where they come from. -/
def Cf.psN (es : List (Nat × Nat)) (x : Nat) : List Nat := (es.filter (fun e => e.2 == x)).map (·.1)
def eVals (bs : List (Nat × Nat)) : List Value := bs.flatMap (fun e => [.int .i64 (e.1 : Int), .int .i64 (e.2 : Int)])
theorem eVals_snoc (bs : List (Nat × Nat)) (a x : Nat) : eVals (bs ++ [(a, x)]) = eVals bs ++ [.int .i64 (a : Int), .int .i64 (x : Int)] := by unfold eVals; rw [List.flatMap_append]; rfl
theorem Cf.psN_yes (es : List (Nat × Nat)) (a x : Nat) : psN (es ++ [(a, x)]) x = psN es x ++ [a] := by unfold psN; rw [List.filter_append, List.map_append]; simp
theorem Cf.psN_no (es : List (Nat × Nat)) (a : Nat) {x y : Nat} (h : y ≠ x) : psN (es ++ [(a, x)]) y = psN es y := by
  unfold psN
  have : (x == y) = false := by simpa using fun e => h e.symm
  rw [List.filter_append, List.map_append]
  simp [this]
theorem Cf.psN_len (es : List (Nat × Nat)) (x : Nat) : (psN es x).length ≤ es.length := by
  unfold psN
  rw [List.length_map]
  exact List.length_filter_le _ _
theorem below_keeps {W W' : World} (h : Below W.heap.size W W') : KeepsOthers W W' := ⟨h.size, fun k _ hk _ => (h.block k (Array.getElem?_eq_some_iff.1 hk).1).trans hk⟩
theorem own_keeps {W W' : World} {b : Nat} {e : TypeId} {s : Nat} {v : Value} {n : Nat} {xs : List Value} (h : W.ownsRow b e s v n xs) (hg : W.grownBy W' v.ownBlock) : KeepsOthers W W' :=
  KeepsOthers.of_grownBy hg (fun j o e1 e2 => by
    rcases h.2 with ⟨rfl, -⟩ | ⟨g, cap, cur, rfl, -, hh, -⟩
    · simp [Value.ownBlock] at e1
    · simp only [Value.ownBlock, Option.some.injEq] at e1
      subst e1
      rw [hh] at e2
      obtain rfl := Option.some.inj e2
      rfl)
theorem row_upd (pv : Nat → Value) (k x : Nat) (u : Value) : (((List.range k).map pv).toArray).setIfInBounds x u = ((List.range k).map (upd pv x u)).toArray := by
  apply Array.ext_getElem?
  intro i
  rw [Array.getElem?_setIfInBounds]
  by_cases hi : i < k
  · by_cases e : x = i
    · subst e
      rw [if_pos rfl, if_pos (by simp; exact hi)]
      simp [List.getElem?_range hi, upd_same]
    · rw [if_neg e]
      simp [List.getElem?_range hi, upd_other pv u (fun h => e h.symm)]
  · by_cases e : x = i
    · subst e
      rw [if_pos rfl, if_neg (by simp; omega)]
      simp [List.getElem?_eq_none (show (List.range k).length ≤ x by simp; omega)]
    · rw [if_neg e]
      simp [List.getElem?_eq_none (show (List.range k).length ≤ i by simp; omega)]
/-- What lies apart from a row of numbers keeps its block. -/
structure TuI (w3 : World) (gb pb k : Nat) (bl fv ov sv : Value) (es : List (Nat × Nat)) (pv : Nat → Value) (kv : Value) (bs : List (Nat × Nat)) (W : World) : Prop where
  box : BX W gb #[bl, fv, ov, sv, .slice (some ⟨pb, 0, none⟩) k k, kv] 56
  pr : BX W pb ((List.range k).map pv).toArray 34
  ro : ∀ x, x < k → W.ownsRow w3.heap.size 3 1 (pv x) (Cf.psN es x).length (natVals (Cf.psN es x))
  ap : ∀ x y, x < k → y < k → x ≠ y → ∀ j, (pv x).ownBlock = some j → (pv y).ownBlock ≠ some j
  bk : W.ownsRow w3.heap.size 77 2 kv bs.length (eVals bs)
  ch : Chg (fun i => i = gb ∨ i = pb) w3 W
  lg : gb < w3.heap.size
  lp : pb < w3.heap.size
  ne : gb ≠ pb
section
variable {w3 W W' : World} {gb pb k : Nat} {bl fv ov sv : Value} {es : List (Nat × Nat)} {pv : Nat → Value} {kv : Value} {bs : List (Nat × Nat)}
theorem TuI.below (h : TuI w3 gb pb k bl fv ov sv es pv kv bs W) (hb : Below W.heap.size W W') : TuI w3 gb pb k bl fv ov sv es pv kv bs W' :=
  ⟨h.box.below hb, h.pr.below hb, fun x hx => Kit.owns_below (h.ro x hx) hb (Nat.le_refl _), h.ap, Kit.owns_below h.bk hb (Nat.le_refl _), h.ch.below hb, h.lg, h.lp, h.ne⟩
theorem TuI.at (h : TuI w3 gb pb k bl fv ov sv es pv kv bs W) {x : Nat} (hx : x < k) : W.cell? ⟨pb, x, none⟩ = some (pv x) ∧ W.frozen? ⟨pb, x, none⟩ = false := by
  refine ⟨(h.pr.cell x).trans ?_, h.pr.frozen x⟩
  simp [List.getElem?_range hx]
theorem TuI.push {a x : Nat} {v2 : Value} {W2 w4 : World} (h : TuI w3 gb pb k bl fv ov sv es pv kv bs W) (hx : x < k) (hbl : Below W.heap.size W W2) (hg : W2.grownBy w4 (pv x).ownBlock)
    (hk : v2.ownBlock = (pv x).ownBlock ∨ v2.ownBlock = some W2.heap.size) (ho : w4.ownsRow w3.heap.size 3 1 v2 ((Cf.psN es x).length + 1) (natVals (Cf.psN es x) ++ [.int .i64 (a : Int)])) :
    BX w4 gb #[bl, fv, ov, sv, .slice (some ⟨pb, 0, none⟩) k k, kv] 56 ∧ w4.cell? ⟨pb, x, none⟩ = some (pv x) ∧ w4.frozen? ⟨pb, x, none⟩ = false ∧ Chg (fun i => i = gb ∨ i = pb) w3 w4 ∧ TuI w3 gb pb k bl fv ov sv (es ++ [(a, x)]) (upd pv x v2) kv bs (w4.setCell ⟨pb, x, none⟩ v2) ∧ KeepsOthers W (w4.setCell ⟨pb, x, none⟩ v2) ∧ Chg (fun i => (pv x).ownBlock = some i ∨ i = pb) W (w4.setCell ⟨pb, x, none⟩ v2) := by
  have hc3 : Chg (fun i => (pv x).ownBlock = some i) W w4 := (Chg.of_below hbl).grown hg (fun k e => .inl e)
  have hc4 : Chg (fun i => i = pb) w4 (w4.setCell ⟨pb, x, none⟩ v2) := (Chg.refl (fun i => i = pb) w4).set (p := ⟨pb, x, none⟩) (.inl rfl) v2
  have hlo : ∀ j, (pv x).ownBlock = some j → w3.heap.size ≤ j := fun j e => Kit.own_base (h.ro x hx) j e
  have hg4 := h.box.chg hc3 (fun e => by have := hlo _ e; have := h.lg; omega)
  have hp4 := h.pr.chg hc3 (fun e => by have := hlo _ e; have := h.lp; omega)
  have hW4 : Chg (fun i => i = gb ∨ i = pb) w3 w4 := h.ch.trans hc3 (fun i e => .inr (hlo i e))
  have bk4 := owns_chg h.bk hc3 (fun j e1 e2 => own_unlike (h.ro x hx) h.bk (by decide) j e2 e1)
  have hlb : ∀ {v : Value} {n : Nat} {e : TypeId} {s : Nat} {xs : List Value}, w4.ownsRow w3.heap.size e s v n xs → ∀ j, v.ownBlock = some j → ¬ j = pb := fun o j e e2 => by have := Kit.own_base o j e; have := h.lp; omega
  refine ⟨hg4, (hp4.cell x).trans (by simp [List.getElem?_range hx]), hp4.frozen x, hW4, ⟨hg4.chg hc4 h.ne, ?_, fun y hy => ?_, fun y z hy hz hne j e => ?_, owns_chg bk4 hc4 (hlb bk4), hW4.trans hc4 (fun i e => .inl (.inr e)), h.lg, h.lp, h.ne⟩, ?_, (hc3.mono (T := fun i => (pv x).ownBlock = some i ∨ i = pb) (fun _ _ e => .inl e)).trans hc4 (fun i e => .inl (.inr e))⟩
  · have := box_set hp4 x v2
    rw [row_upd] at this
    exact this
  · by_cases e : y = x
    · subst e
      rw [upd_same, Cf.psN_yes, List.length_append, Kit.natVals_snoc]
      exact owns_chg ho hc4 (hlb ho)
    · rw [upd_other _ _ e, Cf.psN_no _ _ e]
      have o3 := owns_chg (h.ro y hy) hc3 (fun j e1 e2 => h.ap y x hy hx e j e1 e2)
      exact owns_chg o3 hc4 (hlb o3)
  · have hnew : ∀ u, u < k → ∀ j, (pv u).ownBlock = some j → j < W2.heap.size := fun u hu j e => Nat.lt_of_lt_of_le (Kit.own_lt (h.ro u hu) j e) hbl.size
    by_cases ey : y = x
    · subst ey
      rw [upd_same] at e
      rw [upd_other _ _ (fun e2 => hne e2.symm)]
      intro e2
      rcases hk with hk | hk
      · exact h.ap y z hy hz hne j (by rw [← hk]; exact e) e2
      · rw [hk] at e
        have := hnew z hz j e2
        have := Option.some.inj e
        omega
    · rw [upd_other _ _ ey] at e
      by_cases ez : z = x
      · subst ez
        rw [upd_same]
        intro e2
        rcases hk with hk | hk
        · exact h.ap y z hy hz hne j e (by rw [← hk]; exact e2)
        · rw [hk] at e2
          have := hnew y hy j e
          have := Option.some.inj e2
          omega
      · rw [upd_other _ _ ez]
        exact h.ap y z hy hz hne j e
  · exact ((below_keeps hbl).trans (own_keeps (Kit.owns_below (h.ro x hx) hbl (Nat.le_refl _)) hg)).trans (KeepsOthers.setCell _ _ _)
theorem TuI.back {a x : Nat} {v2 : Value} {W2 w4 : World} (h : TuI w3 gb pb k bl fv ov sv es pv kv bs W) (hbl : Below W.heap.size W W2) (hg : W2.grownBy w4 kv.ownBlock)
    (ho : w4.ownsRow w3.heap.size 77 2 v2 (bs.length + 1) (eVals bs ++ [.int .i64 (a : Int), .int .i64 (x : Int)])) :
    w4.cell? ⟨gb, 5, none⟩ = some kv ∧ w4.frozen? ⟨gb, 5, none⟩ = false ∧ Chg (fun i => i = gb ∨ i = pb) w3 w4 ∧ TuI w3 gb pb k bl fv ov sv es pv v2 (bs ++ [(a, x)]) (w4.setCell ⟨gb, 5, none⟩ v2) ∧ KeepsOthers W (w4.setCell ⟨gb, 5, none⟩ v2) ∧ Chg (fun i => kv.ownBlock = some i ∨ i = gb) W (w4.setCell ⟨gb, 5, none⟩ v2) := by
  have hc3 : Chg (fun i => kv.ownBlock = some i) W w4 := (Chg.of_below hbl).grown hg (fun k e => .inl e)
  have hc4 : Chg (fun i => i = gb) w4 (w4.setCell ⟨gb, 5, none⟩ v2) := (Chg.refl (fun i => i = gb) w4).set (p := ⟨gb, 5, none⟩) (.inl rfl) v2
  have hlo : ∀ j, kv.ownBlock = some j → w3.heap.size ≤ j := fun j e => Kit.own_base h.bk j e
  have hg4 := h.box.chg hc3 (fun e => by have := hlo _ e; have := h.lg; omega)
  have hp4 := h.pr.chg hc3 (fun e => by have := hlo _ e; have := h.lp; omega)
  have hW4 : Chg (fun i => i = gb ∨ i = pb) w3 w4 := h.ch.trans hc3 (fun i e => .inr (hlo i e))
  have hlb : ∀ {v : Value} {n : Nat} {e : TypeId} {s : Nat} {xs : List Value}, w4.ownsRow w3.heap.size e s v n xs → ∀ j, v.ownBlock = some j → ¬ j = gb := fun o j e e2 => by have := Kit.own_base o j e; have := h.lg; omega
  refine ⟨hg4.cell 5, hg4.frozen 5, hW4, ⟨?_, hp4.chg hc4 (fun e => h.ne e.symm), fun y hy => ?_, h.ap, ?_, hW4.trans hc4 (fun i e => .inl (.inl e)), h.lg, h.lp, h.ne⟩, ?_, (hc3.mono (T := fun i => kv.ownBlock = some i ∨ i = gb) (fun _ _ e => .inl e)).trans hc4 (fun i e => .inl (.inr e))⟩
  · exact box_set hg4 5 v2
  · have o3 := owns_chg (h.ro y hy) hc3 (fun j e1 e2 => own_unlike (h.ro y hy) h.bk (by decide) j e1 e2)
    exact owns_chg o3 hc4 (hlb o3)
  · rw [eVals_snoc, List.length_append]
    exact owns_chg ho hc4 (hlb ho)
  · exact ((below_keeps hbl).trans (own_keeps (Kit.owns_below h.bk hbl (Nat.le_refl _)) hg)).trans (KeepsOthers.setCell _ _ _)
/-- Blocks that are no cells may turn. -/
theorem chg_non {A B : World} {row : Option Nat} {n : Nat} {e : TypeId} {s : Nat} {v : Value} {m : Nat} {xs : List Value} (h : A.ownsRow n e s v m xs) (hg : A.grownBy B row) (hr : ∀ r, row = some r → ∃ o : Obj, A.heap[r]? = some o ∧ o.isCells = false) : B.ownsRow n e s v m xs := by
  refine owns_chg h (Chg.of_grown (S := fun i => row = some i) hg (fun _ e => e)) (fun j e1 e2 => ?_)
  obtain ⟨o, ho, hc⟩ := hr j e2
  rcases h.2 with ⟨rfl, -⟩ | ⟨g, cap, cur, rfl, -, hh, -⟩
  · simp [Value.ownBlock] at e1
  · simp only [Value.ownBlock, Option.some.injEq] at e1
    subst e1
    rw [hh] at ho
    obtain rfl := Option.some.inj ho
    cases hc
theorem bx_non {A B : World} {row : Option Nat} {b : Nat} {cs : Array Value} {T : TypeId} (h : BX A b cs T) (hg : A.grownBy B row) (hr : ∀ r, row = some r → ∃ o : Obj, A.heap[r]? = some o ∧ o.isCells = false) : BX B b cs T := by
  refine h.chg (Chg.of_grown (S := fun i => row = some i) hg (fun _ e => e)) (fun e2 => ?_)
  obtain ⟨o, ho, hc⟩ := hr b e2
  rw [show A.heap[b]? = _ from h] at ho
  obtain rfl := Option.some.inj ho
  cases hc
theorem TuI.own (h : TuI w3 gb pb k bl fv ov sv es pv kv bs W) {row : Option Nat} (hg : W.grownBy W' row) (hr : ∀ r, row = some r → w3.heap.size ≤ r ∧ ∃ o : Obj, W.heap[r]? = some o ∧ o.isCells = false) : TuI w3 gb pb k bl fv ov sv es pv kv bs W' :=
  have hr2 := fun r e => (hr r e).2
  ⟨bx_non h.box hg hr2, bx_non h.pr hg hr2, fun x hx => chg_non (h.ro x hx) hg hr2, h.ap, chg_non h.bk hg hr2, h.ch.grown hg (fun r e => .inr (hr r e).1), h.lg, h.lp, h.ne⟩
end
theorem owns_same {w X : World} {base : Nat} {e : TypeId} {s : Nat} {v : Value} {n : Nat} {xs : List Value} (h : w.ownsRow base e s v n xs) (hx : ∀ j, v.ownBlock = some j → X.heap[j]? = w.heap[j]?) : X.ownsRow base e s v n xs := by
  refine ⟨h.1, ?_⟩
  rcases h.2 with h2 | ⟨g, cap, cur, rfl, hg, hh, k⟩
  · exact .inl h2
  · exact .inr ⟨g, cap, cur, rfl, hg, (hx g rfl).trans hh, k⟩
theorem own_at4 {W : World} {base bb cap k b : Nat} {R : Nat → List Value} {T : TypeId} (h : W.ownsRow base T 4 (.slice (some ⟨bb, 0, none⟩) k cap) k ((List.range k).flatMap R)) (hR : ∀ x, (R x).length = 4) (hb : b < k) : ∀ i u, i < 4 → (R b)[i]? = some u → W.cell? ⟨bb, b * 4 + i, none⟩ = some u := by
  have hl := h.1
  rcases h.2 with ⟨e, -⟩ | ⟨g, cap', cur, e, hg, hh, hc1, hc2, hc3, ht⟩
  · cases e
  · obtain ⟨e1, -, rfl⟩ := Value.slice.inj e
    obtain rfl : bb = g := by simpa using e1
    intro i u hi hu
    have hx := (Kit.flat_at hR (List.getElem?_range hb) i hi).trans hu
    rw [← ht, List.getElem?_take_of_lt (by have : b * 4 + 4 ≤ k * 4 := (by omega); omega)] at hx
    have : cur[b * 4 + i]? = some u := by simpa using hx
    simp [World.cell?, hh, this]
namespace Cf
/-- The edges of a list of blocks, in order. -/
def evs (E : Nat → List Nat) (l : List Nat) : List (Nat × Nat) := l.flatMap (fun a => (E a).map (fun b => (a, b)))
/-- Those that go back. -/
def bks (sp : Nat → Nat) (es : List (Nat × Nat)) : List (Nat × Nat) := es.filter (fun e => decide (sp e.2 ≤ sp e.1))
theorem evs_snoc (E : Nat → List Nat) (l : List Nat) (a : Nat) : evs E (l ++ [a]) = evs E l ++ (E a).map (fun b => (a, b)) := by unfold evs; simp
theorem bks_yes (sp : Nat → Nat) (es : List (Nat × Nat)) {a b : Nat} (h : sp b ≤ sp a) : bks sp (es ++ [(a, b)]) = bks sp es ++ [(a, b)] := by unfold bks; rw [List.filter_append]; simp [h]
theorem bks_no (sp : Nat → Nat) (es : List (Nat × Nat)) {a b : Nat} (h : ¬ sp b ≤ sp a) : bks sp (es ++ [(a, b)]) = bks sp es := by unfold bks; rw [List.filter_append]; simp [h]
theorem bks_len (sp : Nat → Nat) (es : List (Nat × Nat)) : (bks sp es).length ≤ es.length := List.length_filter_le _ _
theorem evs_len (E : Nat → List Nat) (m : Nat) : ∀ l : List Nat, (∀ a ∈ l, (E a).length ≤ m) → (evs E l).length ≤ l.length * m
  | [], _ => by simp [evs]
  | a :: l, h => by
    have h1 := evs_len E m l (fun x hx => h x (by simp [hx]))
    have h2 := h a (by simp)
    unfold evs at h1 ⊢
    rw [List.flatMap_cons, List.length_append, List.length_map, List.length_cons, Nat.succ_mul]
    omega
theorem take_snoc {α : Type} {l : List α} {j : Nat} {x : α} (h : l[j]? = some x) : l.take (j + 1) = l.take j ++ [x] := by
  rw [List.take_add_one, h]
  rfl
theorem rise_lt_len {l : List Nat} {k : Nat} (h : ∀ x ∈ l, x < k) : (rise l).length ≤ k := by
  have h1 : (rise l).Nodup := (rise_lt l).imp (fun h => by omega)
  have := len_le h1 (b := List.range k) (fun x hx => List.mem_range.2 (h x (mem_rise.1 hx)))
  rwa [List.length_range] at this
end Cf
/-- Where turn stands when it puts the rows in order. -/
structure SoI (w3 : World) (gb pb k : Nat) (bl fv ov sv : Value) (pv : Nat → Value) (kv : Value) (bs : List (Nat × Nat)) (W : World) : Prop where
  box : BX W gb #[bl, fv, ov, sv, .slice (some ⟨pb, 0, none⟩) k k, kv] 56
  pr : BX W pb ((List.range k).map pv).toArray 34
  ro : ∀ x, x < k → ∃ l : List Nat, l.length ≤ 1048576 ∧ W.ownsRow w3.heap.size 3 1 (pv x) l.length (natVals l)
  ap : ∀ x y, x < k → y < k → x ≠ y → ∀ j, (pv x).ownBlock = some j → (pv y).ownBlock ≠ some j
  bk : W.ownsRow w3.heap.size 77 2 kv bs.length (eVals bs)
  ch : Chg (fun i => i = gb ∨ i = pb) w3 W
  lg : gb < w3.heap.size
  lp : pb < w3.heap.size
theorem TuI.so {w3 W : World} {gb pb k : Nat} {bl fv ov sv : Value} {es : List (Nat × Nat)} {pv : Nat → Value} {kv : Value} {bs : List (Nat × Nat)} (h : TuI w3 gb pb k bl fv ov sv es pv kv bs W) (hl : ∀ x, (Cf.psN es x).length ≤ 1048576) : SoI w3 gb pb k bl fv ov sv pv kv bs W :=
  ⟨h.box, h.pr, fun x hx => ⟨_, hl x, h.ro x hx⟩, h.ap, h.bk, h.ch, h.lg, h.lp⟩
theorem SoI.sort {w3 W W' : World} {gb pb k : Nat} {bl fv ov sv : Value} {pv : Nat → Value} {kv : Value} {bs : List (Nat × Nat)} (h : SoI w3 gb pb k bl fv ov sv pv kv bs W) {x : Nat} (hx : x < k) {l : List Nat} (hl : l.length ≤ 1048576) (hr : RowPost w3.heap.size (pv x) l W W') : SoI w3 gb pb k bl fv ov sv pv kv bs W' ∧ KeepsOthers W W' := by
  obtain ⟨l0, -, h0⟩ := h.ro x hx
  have hlo : ∀ j, (pv x).ownBlock = some j → w3.heap.size ≤ j := fun j e => Kit.own_base h0 j e
  refine ⟨⟨h.box.chg hr.2 (fun e => by have := hlo _ e; have := h.lg; omega), h.pr.chg hr.2 (fun e => by have := hlo _ e; have := h.lp; omega), fun y hy => ?_, h.ap, owns_chg h.bk hr.2 (fun j e1 e2 => own_unlike h0 h.bk (by decide) j e2 e1), h.ch.trans hr.2 (fun i e => .inr (hlo i e)), h.lg, h.lp⟩, hr.2.size, fun q o hq ho => ?_⟩
  · by_cases e : y = x
    · subst e
      exact ⟨l, hl, hr.1⟩
    · obtain ⟨ly, hly, hy2⟩ := h.ro y hy
      exact ⟨ly, hly, owns_chg hy2 hr.2 (fun j e1 e2 => h.ap y x hy hx e j e1 e2)⟩
  · refine (hr.2.block q (Array.getElem?_eq_some_iff.1 hq).1 (fun e => ?_)).trans hq
    rcases h0.2 with ⟨e0, -⟩ | ⟨g, cap, cur, e0, -, hh, -⟩
    · rw [e0] at e
      simp [Value.ownBlock] at e
    · rw [e0] at e
      simp only [Value.ownBlock, Option.some.injEq] at e
      subst e
      rw [hh] at hq
      obtain rfl := Option.some.inj hq
      cases ho
theorem told_map (l : List Nat) : ∀ k, k ≤ l.length → (told l k).map (fun x : Tx l => x.1.2) = l.take k
  | 0, _ => by simp [told]
  | k + 1, h => by
    have hk : l[k]? = some l[k] := List.getElem?_eq_getElem (by omega)
    rw [told_yes hk, List.map_append, told_map l k (by omega), Cf.take_snoc hk]
    rfl
theorem Cf.psN_evs {E : Nat → List Nat} (hE : ∀ a, (E a).Nodup) (x : Nat) : ∀ l : List Nat, (psN (evs E l) x).length ≤ l.length
  | [] => by simp [evs, psN]
  | a :: l => by
    have h1 := psN_evs hE x l
    unfold psN evs at h1 ⊢
    rw [List.flatMap_cons, List.filter_append, List.map_append, List.length_append, List.length_cons]
    have h2 : ((((E a).map (fun b => (a, b))).filter (fun e => e.2 == x)).map (·.1)).length ≤ 1 := by
      rw [List.length_map, List.filter_map, List.length_map]
      have h3 : ((E a).filter ((fun e : Nat × Nat => e.2 == x) ∘ fun b => (a, b))).Nodup := (hE a).sublist List.filter_sublist
      have := len_le h3 (b := [x]) (fun y hy => by
        have := (List.mem_filter.1 hy).2
        simpa using this)
      simpa using this
    omega
open Cf (Op5 opL) in
/-- A graph in memory, whole. -/
structure GT (W : World) (base gb bb cap ob : Nat) (L : List Op5) (B : Nat → Bool) (k : Nat) (nv cv : Nat → Value) (cl : Nat → List Nat) (O : List Nat) (ov sv pv kv : Value) (bs : List (Nat × Nat)) : Prop where
  box : BX W gb #[.slice (some ⟨bb, 0, none⟩) k cap, .slice (some ⟨ob, 0, none⟩) L.length L.length, ov, sv, pv, kv] 56
  bl : W.ownsRow base 36 4 (.slice (some ⟨bb, 0, none⟩) k cap) k ((List.range k).flatMap (Cf.bkV B L.length nv cv))
  of : W.ownsRow base 3 1 (.slice (some ⟨ob, 0, none⟩) L.length L.length) L.length (ivals (Cf.ofN B) L.length)
  nx : ∀ x, x < k → W.ownsRow base 3 1 (nv x) (Cf.nxs L B x).length (natVals (Cf.nxs L B x))
  ca : ∀ x, x < k → W.ownsRow base 3 1 (cv x) (cl x).length (natVals (cl x))
  ord : W.ownsRow base 3 1 ov O.length (natVals O)
  bk : W.ownsRow base 77 2 kv bs.length (eVals bs)
  lo : base ≤ gb
end Go.Proofs.Ytdodobpbdnpjiaa

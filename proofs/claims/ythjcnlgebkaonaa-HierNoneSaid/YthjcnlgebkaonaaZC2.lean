/- Own texts for the claim, part 2. -/
import Derived.Test.YthjcnlgebkaonaaZC1
import Derived.Shelf.SlSortCmp.Whole1
import Derived.Lib.QuietBelow
import Derived.Deep.RegionHeld3
import Derived.Deep.Upon
import Derived.Deep.CutBlock
import Derived.Deep.DeepCutAuto
namespace Go.Proofs.Ythjcnlgebkaonaa
open Go Go.RowKit
open Kit (natVals)

def lnL (x : Hi.Ln) : List Value := [.string x.1, .string x.2]
theorem lnL_len (x : Hi.Ln) : (lnL x).length = 2 := rfl
/-- Lines in a row of the call's own. -/
def Lns (w : World) (base : Nat) (v : Value) (L : List Hi.Ln) : Prop := w.ownsRow base 56 2 v L.length (L.flatMap lnL)
theorem Lns.at {w : World} {base : Nat} {v : Value} {L : List Hi.Ln} (h : Lns w base v L) {k : Nat} {x : Hi.Ln} (hx : L[k]? = some x) : ∃ b p, v = .slice (some ⟨b, 0, none⟩) L.length p ∧ b < w.heap.size ∧ w.cell? ⟨b, k * 2, none⟩ = some (.string x.1) ∧ w.cell? ⟨b, k * 2 + 1, none⟩ = some (.string x.2) := by
  have hk := (List.getElem?_eq_some_iff.1 hx).1
  rcases h.2 with ⟨-, h2⟩ | ⟨g, cap, cur, h1, hg, hh, hc1, hc2, hc3, ht⟩
  · omega
  · refine ⟨g, cap, h1, (Array.getElem?_eq_some_iff.1 hh).1, ?_⟩
    have hl := h.1
    have hat : ∀ j, j < 2 → w.cell? ⟨g, k * 2 + j, none⟩ = (lnL x)[j]? := fun j hj => by
      have hx2 := Kit.flat_at lnL_len hx j hj
      have : cur[k * 2 + j]? = (lnL x)[j]? := by
        rw [← ht, List.getElem?_take_of_lt (by omega)] at hx2
        simpa using hx2
      simp [World.cell?, hh, this]
    exact ⟨hat 0 (by omega), hat 1 (by omega)⟩
theorem Lns.below {w w' : World} {base : Nat} {v : Value} {L : List Hi.Ln} (h : Lns w base v L) (hb : Below w.heap.size w w') : Lns w' base v L := Kit.owns_below h hb (Nat.le_refl _)
theorem infoC : (Try.prog.info? 67).map (fun i => (i.zero, i.size, i.bytes)) = some (some (.agg #[.string ⟨#[]⟩, .int .i64 0, .int .i64 0, .slice none 0 0]), 4, 56) := by kernel_rfl
/-- What nameAll begins with. -/
structure Bare (H : HV) (L : List Hi.Ln) : Prop where
  n : H.n = 0
  nm : H.nm = Hi.nmf L
  su : ∀ k, H.su k = -1
  dp : ∀ k, H.dp k = 0
  sv : ∀ k, H.sv k = .slice none 0 0
  sb : ∀ k, H.sb k = []
  od : H.od = []
/-- Where it stands. -/
structure NaI (w : World) (base : Nat) (H : HV) (lv : Value) (L : List Hi.Ln) (k : Nat) (cv : Value) (W : World) : Prop where
  hm : HM W base { H with cv := cv, n := k }
  ln : Lns W base lv L
  bel : Below base w W
  sz : w.heap.size ≤ W.heap.size
  nd : (Hi.nms (L.take k)).Nodup
theorem NaI.below {w W W' : World} {base : Nat} {H : HV} {lv cv : Value} {L : List Hi.Ln} {k : Nat} (h : NaI w base H lv L k cv W) (hb : Below W.heap.size W W') (hw : base ≤ w.heap.size) : NaI w base H lv L k cv W' :=
  ⟨h.hm.below hb, h.ln.below hb, belows h.bel hb (Nat.le_trans hw h.sz), Nat.le_trans h.sz hb.size, h.nd⟩
def NaPost (base : Nat) (H : HV) (lv : Value) (L : List Hi.Ln) (w : World) (e : Ending) (w' : World) : Prop :=
  Below base w w' ∧ w.heap.size ≤ w'.heap.size ∧ ((e = .returned (.bool false) ∧ ¬ (Hi.nms L).Nodup) ∨ (e = .returned (.bool true) ∧ (Hi.nms L).Nodup ∧ ∃ cv, HM w' base { H with cv := cv, n := L.length } ∧ Lns w' base lv L))
theorem take_snoc {L : List Hi.Ln} {k : Nat} {x : Hi.Ln} (hx : L[k]? = some x) : Hi.nms (L.take (k + 1)) = Hi.nms (L.take k) ++ [x.1] := by
  unfold Hi.nms
  rw [List.take_add_one, hx, List.map_append]
  rfl
theorem nodup_take {L : List Hi.Ln} (k : Nat) (h : (Hi.nms L).Nodup) : (Hi.nms (L.take k)).Nodup := by
  unfold Hi.nms at *
  rw [List.map_take]
  exact h.sublist (List.take_sublist _ _)
theorem NaI.step {w W1 w2 w2' w3 : World} {base : Nat} {H : HV} {lv cv v2 : Value} {L : List Hi.Ln} {k : Nat} {x : Hi.Ln} (h : NaI w base H lv L k cv W1) (hB : Bare H L) (hx : L[k]? = some x) (hr : none = Hi.idx x.1 ({ H with cv := cv, n := k } : HV).names)
    (hcg : Chg (fun i => i = H.mb) W1 w2) (hm : NmM w2 H.mb (({ H with cv := cv, n := k } : HV).names ++ [x.1])) (hb : Below w2.heap.size w2 w2') (hg : w2'.grownBy w3 cv.ownBlock)
    (ho : w3.ownsRow base 67 4 v2 (k + 1) (({ H with cv := cv, n := k } : HV).rows ++ [.string x.1, .int .i64 (-1), .int .i64 0, .slice none 0 0])) (hw : base ≤ w.heap.size) :
    w3.cell? ⟨H.hb, 0, none⟩ = some cv ∧ w3.frozen? ⟨H.hb, 0, none⟩ = false ∧ NaI w base H lv L (k + 1) v2 (w3.setCell ⟨H.hb, 0, none⟩ v2) := by
  have hmm := h.hm
  have hk := (List.getElem?_eq_some_iff.1 hx).1
  have hc23 := (Chg.of_below (S := fun i => cv.ownBlock = some i) hb).grown hg (fun j e => .inl e)
  have hc3 := ((hcg.mono (T := fun i => i = H.mb ∨ cv.ownBlock = some i) (fun i _ e => .inl e)).below hb).grown hg (fun j e => .inl (.inr e))
  have hbx : BX w3 H.hb #[cv, .map (some H.mb), H.ov] 48 := BX.chg (w := W1) hmm.box hc3 (by rintro (e | e); exact hmm.ne e; exact own_unlike_box hmm.cls hmm.box (by decide) e)
  have hm3 := hm.keep (hc23.block _ hm.lt (fun e => own_map hmm.cls hmm.map e))
  have hnx : H.nm k = x.1 := by rw [hB.nm]; unfold Hi.nmf; rw [hx]
  have hrow : ({ H with cv := cv, n := k } : HV).row k = [.string x.1, .int .i64 (-1), .int .i64 0, .slice none 0 0] := by
    unfold HV.row
    dsimp only
    rw [hnx, hB.su, hB.dp, hB.sv]
    rfl
  have hA := hmm.setCv hc3 (u := v2) (by rw [← hrow] at ho; exact ho) (by rw [← hnx] at hm3; exact hm3) (hB.sv k) (hB.sb k)
  have hS : Chg (fun i => i = H.mb ∨ cv.ownBlock = some i ∨ i = H.hb) W1 (w3.setCell ⟨H.hb, 0, none⟩ v2) := (hc3.mono (T := fun i => i = H.mb ∨ cv.ownBlock = some i ∨ i = H.hb) (fun i _ e => by rcases e with e | e; exact .inl e; exact .inr (.inl e))).set (.inl (.inr (.inr rfl))) _
  have hlow := hmm.low
  have hbW := Nat.le_trans hw h.sz
  refine ⟨hbx.cell 0, hbx.frozen 0, hA, owns_chg h.ln hS (fun j e => ?_), h.bel.trans (hS.to_below (fun j e => ?_) hbW), Nat.le_trans h.sz hS.size, ?_⟩
  · rintro (rfl | e2 | rfl)
    · exact own_map h.ln hmm.map e
    · exact own_unlike h.ln hmm.cls (by decide) j e e2
    · exact own_unlike_box h.ln hmm.box (by decide) e
  · rcases e with rfl | e2 | rfl
    · exact hmm.lm
    · exact Kit.own_base hmm.cls j e2
    · exact hmm.lh
  · rw [take_snoc hx, Hi.nodup_snoc]
    refine ⟨h.nd, ?_⟩
    rw [← Hi.idx_none, Hi.nmf_take L (by omega), ← hB.nm]
    exact hr.symm
set_option maxRecDepth 100000 in
set_option maxHeartbeats 1000000 in
theorem nameAll_any {w : World} {base : Nat} {H : HV} {lv : Value} {L : List Hi.Ln} (h : HM w base H) (hl : Lns w base lv L) (hB : Bare H L) (hn : L.length ≤ 72) (hs : ∀ x ∈ L, x.1.size ≤ maxLen) :
    Calls Try.prog 28 #[.pointer (some ⟨H.hb, 0, none⟩), lv] w (NaPost base H lv L w) := by
  obtain ⟨i0, hi, hz0, hz1, hz2⟩ := info_parts infoC
  have hbase := Nat.le_of_lt h.base_lt
  obtain ⟨a, p, rfl⟩ := own_form hl
  have H0 : NaI w base H (.slice a L.length p) L 0 H.cv w := ⟨by have e : ({ H with cv := H.cv, n := 0 } : HV) = H := (by rw [← hB.n]); rw [e]; exact h, hl, Below.refl _ _, Nat.le_refl _, by simp [Hi.nms]⟩
  have HI := hid H0
  have HS := hid hs
  have HBr := hid hB
  clear H0 hs h hl hB
  go_enter Try.func28, Try.ntmps28
  go_wp2
  go_loopw [11] (fun i wr => ∃ (k : Nat) (cv : Value), i = .int .i64 (k : Int) ∧ k ≤ L.length ∧ Hid (NaI w base H (.slice a L.length p) L k cv wr)) (fun i _ => L.length - (intOf i).toNat)
  case atStart => exact ⟨0, H.cv, rfl, by omega, HI⟩
  case round =>
    clear HI
    obtain ⟨k, cv, rfl, hk, HI⟩ := hrel
    by_cases hlt : k < L.length
    · obtain ⟨x, hx⟩ : ∃ x, L[k]? = some x := ⟨_, List.getElem?_eq_getElem hlt⟩
      obtain ⟨b, p', hv, hbl, y0, y1⟩ := HI.out.ln.at hx
      obtain ⟨rfl, -, rfl⟩ := Value.slice.inj hv
      have HX := hid hx
      have hxs := HS.out x (List.mem_of_getElem? hx)
      have hI1 := HI.out.below (W' := wr.alloc (.cells #[.string x.1, .string x.2] 56)) ((Below.refl _ _).alloc (Nat.le_refl _) _) hbase
      obtain ⟨k0, k1, k2⟩ := HI.out.hm.cells
      dsimp only at k0 k1 k2
      have hlk := fun m => (hI1.hm.drewN m).map.look x.1 hxs
      have hbw := HI.out.hm.hb_lt
      dsimp only at hbw hlk
      have HI1 := hid hI1
      have hne : (wr.alloc (.cells #[.string x.1, .string x.2] 56)).heap.size = wr.heap.size + 1 := by simp
      obtain ⟨r, hr⟩ : ∃ r, r = Hi.idx x.1 ({ H with cv := cv, n := k } : HV).names := ⟨_, rfl⟩
      rw [← hr] at hlk
      have HR := hid hr
      clear hv hx hI1 hr
      cases r with
      | none =>
        simp only [Option.isSome_none, Option.getD_none] at hlk
        go_wp2
        go_quiet (fail)
        obtain ⟨W1, hW1⟩ : ∃ W1, W1 = (wr.alloc (.cells #[.string x.1, .string x.2] 56)).drewN nq := ⟨_, rfl⟩
        have hI2 := HI1.out.below (W' := W1) (by rw [hW1]; exact below_drewN _ _) hbase
        have bx : BX W1 wr.heap.size #[.string x.1, .string x.2] 56 := by rw [hW1]; exact BX.new wr _ _
        have hkl : (({ H with cv := cv, n := k } : HV).names).length = k := by simp [HV.names]
        obtain ⟨w2, hup, k3, hg⟩ := (show HM W1.drew base { H with cv := cv, n := k } from hI2.hm.drewN 1).map.put x.1 hxs (by rw [hkl]; omega) HR.out.symm
        rw [hkl] at hup
        rw [← hW1]
        have hmm := hI2.hm
        obtain ⟨k0, k1, k2⟩ := hmm.cells
        obtain ⟨ca, cp, hcv⟩ := own_form hmm.cls
        dsimp only at k0 k1 k2 hup k3 hg hcv
        have x0 := bx.cell 0
        have hcg := (Chg.of_below (S := fun i => i = H.mb) ((below_drewN W1 1) : Below W1.heap.size W1 W1.drew)).grown hg (fun k e => .inl (by cases e; rfl))
        have bx2 := bx.chg hcg (fun e => by have h1 := HI.out.hm.mb_lt; dsimp only at h1; omega)
        have bh2 : BX w2 H.hb #[cv, .map (some H.mb), H.ov] 48 := BX.chg (w := W1) hmm.box hcg hmm.ne
        have HMM := hid hmm
        have HCG := hid hcg
        have HK3 := hid k3
        have HOc := hid (fun X (b : Below w2.heap.size w2 X) => Kit.owns_below (owns_chg hmm.cls hcg (fun j e e2 => own_map hmm.cls hmm.map (e2 ▸ e))) b (Nat.le_refl _))
        subst hcv
        have hw12 := hcg.size
        have HI2 := hid hI2
        have hsz1 := hI2.sz
        clear hW1 hI2 bx hg k3 hcg hmm k2
        go_wp2
        go_region
        obtain ⟨z0, z1, z2⟩ : w2.cell? ⟨H.hb, 0, none⟩ = some (.slice ca k cp) ∧ w2.frozen? ⟨H.hb, 0, none⟩ = false ∧ w2.cell? ⟨wr.heap.size, 0, none⟩ = some (.string x.1) := ⟨bh2.cell 0, bh2.frozen 0, bx2.cell 0⟩
        have hbs := bh2.sz
        have hbs2 := bx2.sz
        clear k0 k1 x0 bh2 bx2 hup
        go_wp2
        go_region_law (refine Kit.step_append_own rfl (.tmp 38) (.tmp 42) 45 rfl base 67 i0 _ 4 56 Try.underlying45 hi hz0 hz1 hz2 rfl (by decide) (.slice ca k cp) k _ rfl (HOc.out _ (by repeat' first | with_reducible exact Below.refl _ _ | with_reducible assumption | with_reducible refine belows_drewN ?_ _ | with_reducible refine Below.drew ?_ | with_reducible refine Below.setCell ?_ ?_ _ | with_reducible refine Below.alloc ?_ ?_ _ | omega | (simp; done) | (simp; omega))) ⟨w2.heap.size, 0, none⟩ 1 1 [.string x.1, .int .i64 (-1), .int .i64 0, .slice none 0 0] rfl rfl (news_of _ _ _) (by intro u hu; simp at hu; rcases hu with rfl | rfl | rfl | rfl <;> rfl) (by unfold maxLen; omega) (by omega) (by first | omega | (simp; omega)) ?_; intro v2 w3 ho3 hg3 hk3; obtain ⟨c3, y3, hN⟩ := HI2.out.step HBr.out HX.out HR.out HCG.out HK3.out (by repeat' first | with_reducible exact Below.refl _ _ | with_reducible assumption | with_reducible refine belows_drewN ?_ _ | with_reducible refine Below.drew ?_ | with_reducible refine Below.setCell ?_ ?_ _ | with_reducible refine Below.alloc ?_ ?_ _ | omega | (simp; done) | (simp; omega)) hg3 ho3 hbase; have HN := hid hN; obtain ⟨b2, q2, rfl⟩ := own_form ho3; clear ho3 hg3 hk3 hN)
        all_goals
          go_wp2
          go_roundw
          case rel => exact ⟨k + 1, _, by go_num, by omega, HN⟩
          case measure => simp [intOf]; omega
      | some j =>
        simp only [Option.isSome_some, Option.getD_some] at hlk
        go_wp2
        go_quiet (fail)
        go_wp2
        go_ret
        refine ⟨belows HI1.out.bel (below_drewN _ _) (Nat.le_trans hbase HI1.out.sz), Nat.le_trans HI1.out.sz (Nat.le_refl _), .inl ⟨rfl, fun hnd => ?_⟩⟩
        have h1 := nodup_take (k + 1) hnd
        rw [take_snoc HX.out, Hi.nodup_snoc, ← Hi.idx_none, Hi.nmf_take L hk, ← HBr.out.nm] at h1
        have h2 := HR.out
        rw [show ({ H with cv := cv, n := k } : HV).names = (List.range k).map H.nm from rfl, h1.2] at h2
        cases h2
    · obtain rfl : k = L.length := by omega
      go_wp2
      go_ret
      refine ⟨HI.out.bel, HI.out.sz, .inr ⟨rfl, by have := HI.out.nd; rwa [List.take_length] at this, cv, HI.out.hm, HI.out.ln⟩⟩
end Go.Proofs.Ythjcnlgebkaonaa
namespace Go.Proofs.Ythjcnlgebkaonaa
open Go Go.RowKit
open Kit (natVals)

theorem own_frz {w : World} {base : Nat} {e : TypeId} {size : Nat} {v : Value} {n : Nat} {xs : List Value} (h : w.ownsRow base e size v n xs) {g : Nat} (hg : v.ownBlock = some g) : ∀ i, w.frozen? ⟨g, i, none⟩ = false := by
  rcases h.2 with ⟨rfl, -⟩ | ⟨g', cap, cur, rfl, hb, hh, -⟩
  · simp [Value.ownBlock] at hg
  · simp only [Value.ownBlock, Option.some.injEq] at hg
    subst hg
    intro i
    simp [World.frozen?, hh]
def suK (L : List Hi.Ln) (k : Nat) : Nat → Int := fun j => if 1 ≤ j ∧ j < k then (Hi.sup L j : Int) else -1
def hung (H : HV) (L : List Hi.Ln) (k : Nat) (sv : Nat → Value) : HV := { H with su := suK L k, sv := sv, sb := Hi.ch k (Hi.sup L) }
/-- Where hangAll stands. -/
structure HaI (w : World) (base : Nat) (H : HV) (lv : Value) (L : List Hi.Ln) (k : Nat) (sv : Nat → Value) (W : World) : Prop where
  hm : HM W base (hung H L k sv)
  ln : Lns W base lv L
  bel : Below base w W
  sz : w.heap.size ≤ W.heap.size
  ok : ∀ j x, 1 ≤ j → j < k → L[j]? = some x → Hi.idx x.2 (Hi.nms L) ≠ none
theorem HaI.below {w W W' : World} {base : Nat} {H : HV} {lv : Value} {sv : Nat → Value} {L : List Hi.Ln} {k : Nat} (h : HaI w base H lv L k sv W) (hb : Below W.heap.size W W') (hw : base ≤ w.heap.size) : HaI w base H lv L k sv W' :=
  ⟨h.hm.below hb, h.ln.below hb, belows h.bel hb (Nat.le_trans hw h.sz), Nat.le_trans h.sz hb.size, h.ok⟩
theorem hung_one (H : HV) (L : List Hi.Ln) (sv : Nat → Value) : hung H L 1 sv = hung H L 0 sv := by
  unfold hung
  have e1 : suK L 1 = suK L 0 := by
    funext j
    unfold suK
    rw [if_neg (by omega), if_neg (by omega)]
  have e2 : Hi.ch 1 (Hi.sup L) = Hi.ch 0 (Hi.sup L) := by
    funext s
    rw [Hi.ch_one, Hi.ch_zero]
  rw [e1, e2]
theorem HaI.first {w W : World} {base : Nat} {H : HV} {lv : Value} {sv : Nat → Value} {L : List Hi.Ln} (h : HaI w base H lv L 0 sv W) : HaI w base H lv L 1 sv W :=
  ⟨by rw [hung_one]; exact h.hm, h.ln, h.bel, h.sz, fun j x h1 h2 => by omega⟩
/-- A super is written down. -/
theorem HaI.super {w W : World} {base : Nat} {H : HV} {lv : Value} {sv : Nat → Value} {L : List Hi.Ln} {k s g p : Nat} {x : Hi.Ln} (h : HaI w base H lv L k sv W) (hn : H.n = L.length) (hk : 1 ≤ k) (hx : L[k]? = some x) (hs : Hi.idx x.2 (Hi.nms L) = some s) (hv : H.cv = .slice (some ⟨g, 0, none⟩) H.n p) :
    HM (W.setCell ⟨g, k * 4 + 1, none⟩ (.int .i64 (s : Int))) base { hung H L k sv with su := suK L (k + 1) } ∧ Hi.sup L k = s := by
  have hlt := (List.getElem?_eq_some_iff.1 hx).1
  have hsup : Hi.sup L k = s := by unfold Hi.sup; rw [hx]; dsimp only; rw [hs]; rfl
  refine ⟨?_, hsup⟩
  refine h.hm.setRow (k := k) (i := 1) (u := .int .i64 (s : Int)) (su := suK L (k + 1)) (dp := H.dp) (by show k < H.n; omega) (by omega) hv ?_ (fun j hj => ⟨?_, rfl⟩)
  · unfold HV.row
    dsimp only
    unfold suK
    rw [if_pos (by omega), hsup]
    rfl
  · show suK L (k + 1) j = suK L k j
    unfold suK
    by_cases e : 1 ≤ j ∧ j < k
    · rw [if_pos e, if_pos (by omega)]
    · rw [if_neg e, if_neg (by omega)]
/-- One more class under its super. -/
theorem HaI.step {w W W1 W2 w3 : World} {base : Nat} {H : HV} {lv u : Value} {sv : Nat → Value} {L : List Hi.Ln} {k s g p : Nat} {x : Hi.Ln} (h : HaI w base H lv L k sv W) (hn : H.n = L.length) (hk : 1 ≤ k) (hx : L[k]? = some x) (hs : Hi.idx x.2 (Hi.nms L) = some s) (hv : H.cv = .slice (some ⟨g, 0, none⟩) H.n p)
    (hW1 : W1 = W.setCell ⟨g, k * 4 + 1, none⟩ (.int .i64 (s : Int))) (hb : Below W1.heap.size W1 W2) (hg : W2.grownBy w3 (sv s).ownBlock) (hu : u.ownBlock = (sv s).ownBlock ∨ u.ownBlock = some W2.heap.size)
    (ho : w3.ownsRow base 3 1 u ((Hi.ch k (Hi.sup L) s).length + 1) (natVals (Hi.ch k (Hi.sup L) s) ++ [.int .i64 (k : Int)])) (hw : base ≤ w.heap.size) :
    w3.cell? ⟨H.hb, 0, none⟩ = some H.cv ∧ w3.cell? ⟨g, s * 4 + 3, none⟩ = some (sv s) ∧ w3.frozen? ⟨g, s * 4 + 3, none⟩ = false ∧ HaI w base H lv L (k + 1) (upd sv s u) (w3.setCell ⟨g, s * 4 + 3, none⟩ u) := by
  obtain ⟨hM, hsup⟩ := h.super hn hk hx hs hv
  rw [← hW1] at hM
  have hsn : s < H.n := by have := Hi.idx_lt hs; rw [Hi.nms_len] at this; omega
  have hgb : H.cv.ownBlock = some g := by rw [hv]; rfl
  have hc13 := (Chg.of_below (S := fun i => (sv s).ownBlock = some i) hb).grown hg (fun j e => .inl e)
  have hsub : W1.ownsRow base 3 1 (sv s) _ _ := hM.sub s hsn
  have hcls1 := owns_chg hM.cls hc13 (fun j e e2 => own_unlike hM.cls hsub (by decide) j e e2)
  have hl1 : (Hi.ch k (Hi.sup L) s ++ [k]).length = (Hi.ch k (Hi.sup L) s).length + 1 := by simp
  have hA := hM.setSv (w1 := w3) (u := u) (l := Hi.ch k (Hi.sup L) s ++ [k]) hsn hv hc13 (by rw [hl1, Kit.natVals_snoc]; exact ho) (by
    rcases hu with e | e
    · exact .inl e
    · exact .inr ⟨_, hb.size, e⟩)
  have hSt : Chg (fun i => i = g ∨ (sv s).ownBlock = some i) W (w3.setCell ⟨g, s * 4 + 3, none⟩ u) := by
    have h1 : Chg (fun i => i = g ∨ (sv s).ownBlock = some i) W W1 := by rw [hW1]; exact (Chg.refl _ _).set (p := ⟨g, k * 4 + 1, none⟩) (.inl (.inl rfl)) _
    have h2 : Chg (fun i => i = g ∨ (sv s).ownBlock = some i) W w3 := h1.trans hc13 (fun i e => .inl (.inr e))
    exact h2.set (p := ⟨g, s * 4 + 3, none⟩) (.inl (.inl rfl)) _
  refine ⟨?_, ?_, own_frz hcls1 hgb _, ⟨?_, ?_, ?_, ?_, ?_⟩⟩
  · have hbx : BX w3 H.hb #[H.cv, .map (some H.mb), H.ov] 48 := BX.chg (w := W1) hM.box hc13 (own_unlike_box hsub hM.box (by decide))
    exact hbx.cell 0
  · have hHM1 : HV.at { hung H L k sv with su := suK L (k + 1) } (k := s) (j := 3) hsn (by omega) = HV.at { hung H L k sv with su := suK L (k + 1) } (k := s) (j := 3) hsn (by omega) := rfl
    have hat := HV.at { hung H L k sv with su := suK L (k + 1) } (k := s) (j := 3) hsn (by omega)
    rcases hcls1.2 with ⟨e, -⟩ | ⟨g', cap, cur, e, hgg, hh, c1, c2, c3, ht⟩
    · have e' : H.cv = .slice none 0 0 := e
      rw [hv] at e'; cases e'
    · have e' : H.cv = .slice (some ⟨g', 0, none⟩) H.n cap := e
      rw [hv] at e'
      obtain ⟨e1, -, rfl⟩ := Value.slice.inj e'
      obtain rfl : g = g' := by simpa using e1
      have hl := hcls1.1
      have hlt : s * 4 + 3 < ({ hung H L k sv with su := suK L (k + 1) } : HV).rows.length := by rw [hl]; show s * 4 + 3 < H.n * 4; omega
      have hc : cur[s * 4 + 3]? = some (sv s) := by
        rw [← ht, List.getElem?_take_of_lt (by show s * 4 + 3 < H.n * 4; omega)] at hat
        have : (HV.row { hung H L k sv with su := suK L (k + 1) } s)[3]? = some (sv s) := rfl
        rw [this] at hat
        simpa using hat
      simp [World.cell?, hh, hc]
  · have e : hung H L (k + 1) (upd sv s u) = { hung H L k sv with su := suK L (k + 1), sv := upd sv s u, sb := upd (Hi.ch k (Hi.sup L)) s (Hi.ch k (Hi.sup L) s ++ [k]) } := by
      unfold hung
      have e2 : Hi.ch (k + 1) (Hi.sup L) = upd (Hi.ch k (Hi.sup L)) s (Hi.ch k (Hi.sup L) s ++ [k]) := by
        funext j
        rw [Hi.ch_snoc, hsup]
        unfold upd
        by_cases e : j = s
        · subst e; rw [if_pos ⟨hk, rfl⟩, if_pos rfl]
        · rw [if_neg (fun e2 => e e2.2.symm), if_neg e]
      rw [e2]
    rw [e]
    exact hA
  · refine owns_chg h.ln hSt (fun j e => ?_)
    rintro (rfl | e2)
    · exact own_unlike h.ln h.hm.cls (by decide) j e hgb
    · exact own_unlike h.ln (h.hm.sub s hsn) (by decide) j e e2
  · refine h.bel.trans (hSt.to_below (fun j e => ?_) (Nat.le_trans hw h.sz))
    rcases e with rfl | e2
    · exact Kit.own_base h.hm.cls j hgb
    · exact Kit.own_base (h.hm.sub s hsn) j e2
  · exact Nat.le_trans h.sz hSt.size
  · intro j y h1 h2 hy
    by_cases e : j = k
    · subst e
      rw [hx] at hy
      cases hy
      rw [hs]; simp
    · exact h.ok j y h1 (by omega) hy
def HaPost (base : Nat) (H : HV) (L : List Hi.Ln) (w : World) (e : Ending) (w' : World) : Prop :=
  Below base w w' ∧ w.heap.size ≤ w'.heap.size ∧ ((e = .returned (.bool false) ∧ ∃ k x, 1 ≤ k ∧ L[k]? = some x ∧ Hi.idx x.2 (Hi.nms L) = none) ∨
    (e = .returned (.bool true) ∧ (∀ k x, 1 ≤ k → L[k]? = some x → Hi.idx x.2 (Hi.nms L) ≠ none) ∧ ∃ sv, HM w' base (hung H L L.length sv)))
set_option maxRecDepth 100000 in
set_option maxHeartbeats 1000000 in
theorem hangAll_any {w : World} {base : Nat} {H : HV} {lv : Value} {L : List Hi.Ln} (h : HM w base H) (hl : Lns w base lv L) (hn : H.n = L.length) (hn1 : L.length ≤ 72) (hnm : H.nm = Hi.nmf L) (hs : ∀ x ∈ L, x.2.size ≤ maxLen)
    (hsu : ∀ k, H.su k = -1) (hsb : ∀ k, H.sb k = []) :
    Calls Try.prog 29 #[.pointer (some ⟨H.hb, 0, none⟩), lv] w (HaPost base H L w) := by
  obtain ⟨i0, hi, hz0, hz1, hz2⟩ := info_parts infoI
  have hbase := Nat.le_of_lt h.base_lt
  obtain ⟨a, p, rfl⟩ := own_form hl
  have e0 : hung H L 0 H.sv = H := by
    unfold hung
    have e1 : suK L 0 = H.su := by funext j; rw [hsu]; unfold suK; rw [if_neg (by omega)]
    have e2 : Hi.ch 0 (Hi.sup L) = H.sb := by funext j; rw [hsb]; rfl
    rw [e1, e2]
  have H0 : HaI w base H (.slice a L.length p) L 0 H.sv w := ⟨by rw [e0]; exact h, hl, Below.refl _ _, Nat.le_refl _, fun j x h1 h2 => by omega⟩
  have hnames : H.names = Hi.nms L := by unfold HV.names; rw [hn, hnm]; exact (Hi.nms_eq L).symm
  have HI := hid H0
  have HS := hid hs
  have HN := hid hn
  have HNM := hid hnames
  have HC := hid (fun (hp : 1 ≤ H.n) => h.sight hp)
  clear H0 hs h hl e0 hsu hsb hnm hnames hn
  go_enter Try.func29, Try.ntmps29
  go_wp2
  go_loopw [11] (fun i wr => ∃ (k : Nat) (sv : Nat → Value), i = .int .i64 (k : Int) ∧ k ≤ L.length ∧ Hid (HaI w base H (.slice a L.length p) L k sv wr)) (fun i _ => L.length - (intOf i).toNat)
  case atStart => exact ⟨0, H.sv, rfl, by omega, HI⟩
  case round =>
    clear HI
    obtain ⟨k, sv, rfl, hk, HI⟩ := hrel
    by_cases hlt : k < L.length
    · obtain ⟨x, hx⟩ : ∃ x, L[k]? = some x := ⟨_, List.getElem?_eq_getElem hlt⟩
      obtain ⟨b, p', hv, hbl, y0, y1⟩ := HI.out.ln.at hx
      obtain ⟨rfl, -, rfl⟩ := Value.slice.inj hv
      have hI1 := HI.out.below (W' := wr.alloc (.cells #[.string x.1, .string x.2] 56)) ((Below.refl _ _).alloc (Nat.le_refl _) _) hbase
      have HI1 := hid hI1
      have HX := hid hx
      by_cases hk0 : k = 0
      · subst hk0
        clear hx hI1 hv
        go_wp2
        go_roundw
        case rel => exact ⟨1, sv, by go_num, by omega, HI1.out.first⟩
        case measure => simp [intOf]; omega
      · have hk1 : 1 ≤ k := by omega
        have hki : ¬ ((k : Int) = 0) := by omega
        have hxs := HS.out x (List.mem_of_getElem? hx)
        have hlk := fun m => (hI1.hm.drewN m).map.look x.2 hxs
        obtain ⟨k0, k1, k2⟩ := HI.out.hm.cells
        obtain ⟨r, hr⟩ : ∃ r, r = Hi.idx x.2 (hung H L k sv).names := ⟨_, rfl⟩
        rw [← hr] at hlk
        have hr2 : r = Hi.idx x.2 (Hi.nms L) := by rw [hr, ← HNM.out]; rfl
        have HR := hid hr2
        have hbw := HI.out.hm.hb_lt
        obtain ⟨g, pc, hcv, -, -⟩ := HC.out (by rw [HN.out]; omega)
        obtain ⟨g2, p2, e4, hgl, hsi⟩ := HI.out.hm.sight (by show 1 ≤ H.n; rw [HN.out]; omega)
        rw [show (hung H L k sv).cv = H.cv from rfl, hcv] at e4 k0
        obtain ⟨e5, -, rfl⟩ := Value.slice.inj e4
        rw [Option.some.injEq, Addr.mk.injEq] at e5
        obtain ⟨rfl, -, -⟩ := e5
        have hfr := own_frz HI.out.hm.cls (show H.cv.ownBlock = some g by rw [hcv]; rfl) (k * 4 + 1)
        have HCV := hid hcv
        rw [HN.out] at k0
        have hwl := HI.out.sz
        change wr.cell? ⟨H.hb, 1, none⟩ = some (.map (some H.mb)) at k1
        change wr.cell? ⟨H.hb, 0, none⟩ = _ at k0
        change H.hb < wr.heap.size at hbw
        change ∀ m, _ = _ at hlk
        have hsim : (hung H L k sv).mb = H.mb := rfl
        rw [hsim] at hlk
        clear hv hx hI1 hr hr2 e4 hsim hki
        have hki : ¬ ((k : Int) = 0) := by omega
        cases r with
        | none =>
          simp only [Option.isSome_none, Option.getD_none] at hlk
          clear hsi
          go_wp2
          go_quiet (fail)
          go_wp2
          go_ret
          exact ⟨belows HI1.out.bel (below_drewN _ _) (Nat.le_trans hbase HI1.out.sz), Nat.le_trans HI1.out.sz (Nat.le_refl _), .inl ⟨rfl, k, x, hk1, HX.out, HR.out.symm⟩⟩
        | some s =>
          simp only [Option.isSome_some, Option.getD_some] at hlk
          have hsn : s < L.length := by have := Hi.idx_lt HR.out.symm; rwa [Hi.nms_len] at this
          go_wp2
          obtain ⟨-, c1, -, -⟩ := hsi k (by show k < H.n; rw [HN.out]; exact hlt)
          clear hsi
          go_quiet (fail)
          go_wp2
          have HI2 := hid (HI1.out.below (W' := (wr.alloc (.cells #[.string x.1, .string x.2] 56)).drewN nq) (below_drewN _ _) hbase)
          obtain ⟨hM, -⟩ := HI2.out.super HN.out hk1 HX.out HR.out.symm HCV.out
          obtain ⟨W1, hW1⟩ : ∃ W1, W1 = ((wr.alloc (.cells #[.string x.1, .string x.2] 56)).drewN nq).setCell ⟨g, k * 4 + 1, none⟩ (.int .i64 (s : Int)) := ⟨_, rfl⟩
          have HW1 := hid hW1
          rw [← hW1] at hM ⊢
          obtain ⟨z0, -, -⟩ := hM.cells
          obtain ⟨g2, p2, e4, hg1, hsi⟩ := hM.sight (by show 1 ≤ H.n; rw [HN.out]; omega)
          change H.cv = _ at e4
          rw [HCV.out] at e4
          obtain ⟨e5, -, rfl⟩ := Value.slice.inj e4
          rw [Option.some.injEq, Addr.mk.injEq] at e5
          obtain ⟨rfl, -, -⟩ := e5
          obtain ⟨-, -, -, s3⟩ := hsi s (by show s < H.n; rw [HN.out]; exact hsn)
          change W1.cell? ⟨g, s * 4 + 3, none⟩ = some (sv s) at s3
          change W1.cell? ⟨H.hb, 0, none⟩ = some H.cv at z0
          rw [HCV.out, HN.out] at z0
          have hlen := Hi.ch_len k (Hi.sup L) s
          have HOw := hid (fun X (b : Below W1.heap.size W1 X) => Kit.owns_below (hM.sub s (by show s < H.n; rw [HN.out]; exact hsn)) b (Nat.le_refl _))
          have hbl1 := hM.hb_lt
          have hbb := hM.base_lt
          obtain ⟨u, hu⟩ : ∃ u, sv s = u := ⟨_, rfl⟩
          have HU := hid hu
          rw [hu] at s3
          change Hid (∀ X, Below W1.heap.size W1 X → X.ownsRow base 3 1 (sv s) (Hi.ch k (Hi.sup L) s).length (natVals (Hi.ch k (Hi.sup L) s))) at HOw
          rw [hu] at HOw
          obtain ⟨ua, ucap, rfl⟩ := own_form (HOw.out W1 (Below.refl _ _))
          clear hM hW1 hsi e4 hu k0 c1 hfr hlk y0 y1 k1
          change H.hb < W1.heap.size at hbl1
          go_region_law (refine Kit.step_append_own rfl (.tmp 50) (.tmp 52) 39 rfl base 3 i0 _ 1 8 Try.underlying39 hi hz0 hz1 hz2 rfl (by decide) (.slice ua (Hi.ch k (Hi.sup L) s).length ucap) (Hi.ch k (Hi.sup L) s).length _ rfl (HOw.out _ (by repeat' first | with_reducible exact Below.refl _ _ | with_reducible assumption | with_reducible refine belows_drewN ?_ _ | with_reducible refine Below.drew ?_ | with_reducible refine Below.setCell ?_ ?_ _ | with_reducible refine Below.alloc ?_ ?_ _ | omega | (simp; done) | (simp; omega))) ⟨W1.heap.size, 0, none⟩ 1 1 [.int .i64 (k : Int)] rfl rfl (by intro j u hj; exact Kit.news_one _ _ 3 j u hj) (Kit.ones_one rfl) (by unfold maxLen; omega) (by omega) (by first | omega | (simp; omega)) ?_; intro v2 w3 ho3 hg3 hk3; rw [← HU.out] at hg3 hk3; obtain ⟨c0, c3, y3, hN⟩ := HI2.out.step (u := v2) HN.out hk1 HX.out HR.out.symm HCV.out HW1.out (by repeat' first | with_reducible exact Below.refl _ _ | with_reducible assumption | with_reducible refine belows_drewN ?_ _ | with_reducible refine Below.drew ?_ | with_reducible refine Below.setCell ?_ ?_ _ | with_reducible refine Below.alloc ?_ ?_ _ | omega | (simp; done) | (simp; omega)) hg3 hk3 ho3 hbase; rw [HU.out] at c3; rw [HCV.out, HN.out] at c0; have HNx := hid hN; obtain ⟨b2, q2, rfl⟩ := own_form ho3; clear ho3 hg3 hk3 hN)
          all_goals
            go_wp2
            go_roundw
            case rel => exact ⟨k + 1, _, by go_num, by omega, HNx⟩
            case measure => simp [intOf]; omega
    · obtain rfl : k = L.length := by omega
      go_wp2
      go_ret
      refine ⟨HI.out.bel, HI.out.sz, .inr ⟨rfl, fun j y h1 hy => HI.out.ok j y h1 (List.getElem?_eq_some_iff.1 hy).1 hy, sv, HI.out.hm⟩⟩
end Go.Proofs.Ythjcnlgebkaonaa
namespace Go.Proofs.Ythjcnlgebkaonaa
open Go.Shelf
def Sh.sort_ren : Go.Shelf.Ren := ⟨fun | 6 => 39 | 14 => 43 | 15 => 44 | 20 => 46 | 21 => 47 | 22 => 48 | 23 => 49 | 24 => 50 | 25 => 51 | 26 => 52 | 27 => 53 | 28 => 54 | 29 => 55 | 46 => 56 | 47 => 57 | 48 => 58 | 49 => 59 | 50 => 60 | 57 => 61 | n => n, fun | 0 => 0 | 3 => 3 | 4 => 4 | 5 => 5 | 9 => 9 | 22 => 39 | 24 => 3 | 25 => 34 | 39 => 73 | 45 => 75 | 46 => 76 | 50 => 50 | 53 => 82 | 55 => 84 | 66 => 85 | 70 => 89 | 76 => 91 | 77 => 92 | n => n, fun | n => n⟩
theorem Sh.sort : Go.Proofs.SlLaysF.n6 Try.prog Sh.sort_ren := {
  mixed := by kernel_rfl
  f6 := ⟨"slices.SortFunc[[]int,int]", by decide, Try.func39.trans (congrArg some (by kernel_rfl))⟩
  f14 := ⟨"slices.pdqsortCmpFunc[int]", by decide, Try.func43.trans (congrArg some (by kernel_rfl))⟩
  f15 := Try.func44.trans (congrArg some (by kernel_rfl))
  f20 := ⟨"slices.insertionSortCmpFunc[int]", by decide, Try.func46.trans (congrArg some (by kernel_rfl))⟩
  f21 := ⟨"slices.heapSortCmpFunc[int]", by decide, Try.func47.trans (congrArg some (by kernel_rfl))⟩
  f22 := ⟨"slices.breakPatternsCmpFunc[int]", by decide, Try.func48.trans (congrArg some (by kernel_rfl))⟩
  f23 := ⟨"slices.choosePivotCmpFunc[int]", by decide, Try.func49.trans (congrArg some (by kernel_rfl))⟩
  f24 := ⟨"slices.reverseRangeCmpFunc[int]", by decide, Try.func50.trans (congrArg some (by kernel_rfl))⟩
  f25 := ⟨"slices.partialInsertionSortCmpFunc[int]", by decide, Try.func51.trans (congrArg some (by kernel_rfl))⟩
  f26 := ⟨"slices.partitionEqualCmpFunc[int]", by decide, Try.func52.trans (congrArg some (by kernel_rfl))⟩
  f27 := ⟨"slices.partitionCmpFunc[int]", by decide, Try.func53.trans (congrArg some (by kernel_rfl))⟩
  f28 := Try.func54.trans (congrArg some (by kernel_rfl))
  f29 := Try.func55.trans (congrArg some (by kernel_rfl))
  f46 := ⟨"slices.siftDownCmpFunc[int]", by decide, Try.func56.trans (congrArg some (by kernel_rfl))⟩
  f47 := Try.func57.trans (congrArg some (by kernel_rfl))
  f48 := Try.func58.trans (congrArg some (by kernel_rfl))
  f49 := ⟨"slices.medianAdjacentCmpFunc[int]", by decide, Try.func59.trans (congrArg some (by kernel_rfl))⟩
  f50 := ⟨"slices.medianCmpFunc[int]", by decide, Try.func60.trans (congrArg some (by kernel_rfl))⟩
  f57 := ⟨"slices.order2CmpFunc[int]", by decide, Try.func61.trans (congrArg some (by kernel_rfl))⟩
  t0 := Try.underlying0
  a0 := Try.isAgg0
  z0 := Try.sizeOf0
  v0 := Try.zeroValue0
  t3 := Try.underlying3
  a3 := Try.isAgg3
  z3 := Try.sizeOf3
  v3 := Try.zeroValue3
  t4 := Try.underlying4
  a4 := Try.isAgg4
  z4 := Try.sizeOf4
  v4 := Try.zeroValue4
  t5 := Try.underlying5
  a5 := Try.isAgg5
  z5 := Try.sizeOf5
  v5 := Try.zeroValue5
  t9 := Try.underlying9
  a9 := Try.isAgg9
  z9 := Try.sizeOf9
  v9 := Try.zeroValue9
  t22 := Try.underlying39
  a22 := Try.isAgg39
  z22 := Try.sizeOf39
  v22 := Try.zeroValue39
  a24 := Try.isAgg3
  z24 := Try.sizeOf3
  t25 := Try.underlying34
  a25 := Try.isAgg34
  z25 := Try.sizeOf34
  v25 := Try.zeroValue34
  t39 := Try.underlying73
  a39 := Try.isAgg73
  z39 := Try.sizeOf73
  v39 := Try.zeroValue73
  t45 := Try.underlying75
  a45 := Try.isAgg75
  z45 := Try.sizeOf75
  v45 := Try.zeroValue75
  t46 := Try.underlying76
  a46 := Try.isAgg76
  z46 := Try.sizeOf76
  v46 := Try.zeroValue76
  t50 := Try.underlying50
  a50 := Try.isAgg50
  z50 := Try.sizeOf50
  v50 := Try.zeroValue50
  t53 := Try.underlying82
  a53 := Try.isAgg82
  z53 := Try.sizeOf82
  v53 := Try.zeroValue82
  t55 := Try.underlying84
  a55 := Try.isAgg84
  z55 := Try.sizeOf84
  v55 := Try.zeroValue84
  t66 := Try.underlying85
  a66 := Try.isAgg85
  z66 := Try.sizeOf85
  v66 := Try.zeroValue85
  t70 := Try.underlying89
  a70 := Try.isAgg89
  z70 := Try.sizeOf89
  v70 := Try.zeroValue89
  t76 := Try.underlying91
  a76 := Try.isAgg91
  z76 := Try.sizeOf91
  v76 := Try.zeroValue91
  t77 := Try.underlying92
  a77 := Try.isAgg92
  z77 := Try.sizeOf92
  v77 := Try.zeroValue92 }
end Go.Proofs.Ythjcnlgebkaonaa
namespace Go.Proofs.Ythjcnlgebkaonaa
open Go Go.RowKit
open Kit (natVals)

set_option maxRecDepth 100000 in
theorem nan_any (x : Int) (w : World) : Calls Try.prog 45 #[.int .i64 x] w fun e w' => e = .returned (.bool false) ∧ w = w' := by
  go_enter Try.func45, Try.ntmps45
  go_wp2
  go_ret
  exact ⟨by simp, rfl⟩
set_option maxRecDepth 100000 in
theorem compare_any (x y : Int) (w : World) : Calls Try.prog 42 #[.int .i64 x, .int .i64 y] w fun e w' => e = .returned (.int .i64 (Lib.compareInt x y)) ∧ w = w' := by
  unfold Lib.compareInt
  have HN := fun x => nan_any x w
  by_cases h1 : x < y
  · rw [if_pos h1]
    go_enter Try.func42, Try.ntmps42
    go_wp2_with (go_at_call 45; refine (HN _).mono ?_; rintro e w' ⟨rfl, rfl⟩)
    go_ret
    exact ⟨rfl, rfl⟩
  · rw [if_neg h1]
    by_cases h2 : x > y
    · rw [if_pos h2]
      have h2' : y < x := h2
      go_enter Try.func42, Try.ntmps42
      go_wp2_with (go_at_call 45; refine (HN _).mono ?_; rintro e w' ⟨rfl, rfl⟩)
      go_ret
      exact ⟨rfl, rfl⟩
    · rw [if_neg h2]
      have h2' : ¬ y < x := h2
      go_enter Try.func42, Try.ntmps42
      go_wp2_with (go_at_call 45; refine (HN _).mono ?_; rintro e w' ⟨rfl, rfl⟩)
      go_ret
      exact ⟨rfl, rfl⟩
set_option maxRecDepth 100000 in
theorem or_any (c d : Int) (b cap : Nat) (w : World) (h0 : w.cell? ⟨b, 0, none⟩ = some (.int .i64 c)) (h1 : w.cell? ⟨b, 1, none⟩ = some (.int .i64 d)) :
    Calls Try.prog 41 #[.slice (some ⟨b, 0, none⟩) 2 cap] w fun e w' => e = .returned (.int .i64 (if c = 0 then d else c)) ∧ w = w' := by
  go_enter Try.func41, Try.ntmps41
  go_wp2
  go_loop [8] (fun i => ∃ k : Nat, i = .int .i64 (k : Int) ∧ k ≤ 2 ∧ Hid (1 ≤ k → c = 0) ∧ Hid (2 ≤ k → d = 0)) (fun i => 2 - (intOf i).toNat)
  case atStart => exact ⟨0, rfl, by omega, fun h => by omega, fun h => by omega⟩
  case round =>
    obtain ⟨k, rfl, hk, H1, H2⟩ := hrel
    by_cases k0 : k = 0
    · subst k0
      by_cases hc : c = 0
      · subst hc
        go_wp2
        go_round
        case rel => exact ⟨1, by go_num, by omega, fun _ => by first | rfl | trivial, fun h => by omega⟩
        case measure => simp [intOf]
      · go_wp2
        go_ret
        exact ⟨by simp, rfl⟩
    · by_cases k1 : k = 1
      · subst k1
        have hc : c = 0 := H1.out (by omega)
        subst hc
        by_cases hd : d = 0
        · subst hd
          go_wp2
          go_round
          case rel => exact ⟨2, by go_num, by omega, fun _ => by first | rfl | trivial, fun _ => by first | rfl | trivial⟩
          case measure => simp [intOf]
        · go_wp2
          go_ret
          exact ⟨by simp, rfl⟩
      · obtain rfl : k = 2 := by omega
        have hc : c = 0 := H1.out (by omega)
        have hd : d = 0 := H2.out (by omega)
        subst hc hd
        go_wp2
        go_ret
        exact ⟨by simp, rfl⟩
def cfO (D : Nat → Nat) (a b : Nat) : Int := if Lib.compareInt (D a) (D b) = 0 then Lib.compareInt a b else Lib.compareInt (D a) (D b)
theorem cf_cmp (v : Value) (v' : Value) (w : World) : (callFunc 42 #[v, v']).run Try.prog w = .ok (.enter 42 #[v, v']) w := enters_of Try.func42 (by kernel_rfl) rfl _ _
theorem cf_or (v : Value) (w : World) : (callFunc 41 #[v]).run Try.prog w = .ok (.enter 41 #[v]) w := enters_of Try.func41 (by kernel_rfl) rfl _ _
set_option maxRecDepth 100000 in
set_option maxHeartbeats 1000000 in
theorem clo_any {w : World} {hb bb g n p : Nat} (D : Nat → Nat) (h0 : w.cell? ⟨bb, 0, none⟩ = some (.pointer (some ⟨hb, 0, none⟩))) (h1 : w.cell? ⟨hb, 0, none⟩ = some (.slice (some ⟨g, 0, none⟩) n p)) (hs : ∀ k, k < n → w.cell? ⟨g, k * 4 + 2, none⟩ = some (.int .i64 (D k : Int)))
    (a b : Nat) (ha : a < n) (hb' : b < n) : Calls Try.prog 40 #[.int .i64 (a : Int), .int .i64 (b : Int), .pointer (some ⟨bb, 0, none⟩)] w fun e w' => e = .returned (.int .i64 (cfO D a b)) ∧ ∃ q o, w' = (w.drewN q).alloc o := by
  have ca := hs a ha
  have cb := hs b hb'
  have HC1 := fun W => compare_any (D a : Int) (D b : Int) W
  have HC2 := fun W => compare_any (a : Int) (b : Int) W
  unfold cfO
  obtain ⟨c, hc⟩ : ∃ c, Lib.compareInt (D a : Int) (D b : Int) = c := ⟨_, rfl⟩
  obtain ⟨d, hd⟩ : ∃ d, Lib.compareInt (a : Int) (b : Int) = d := ⟨_, rfl⟩
  rw [hc] at HC1 ⊢
  rw [hd] at HC2 ⊢
  obtain ⟨x, hx⟩ : ∃ x, D a = x := ⟨_, rfl⟩
  obtain ⟨y, hy⟩ : ∃ y, D b = y := ⟨_, rfl⟩
  rw [hx] at ca HC1
  rw [hy] at cb HC1
  have HH1 := hid HC1
  have HH2 := hid HC2
  have hbg := World.block_lt_of_cell? w _ ca
  have HOr := hid (fun W => or_any c d w.heap.size 2 W)
  obtain ⟨r, hr⟩ : ∃ r, (if c = 0 then d else c) = r := ⟨_, rfl⟩
  rw [hr] at HOr ⊢
  clear hs hc hd hx hy HC1 HC2 hr
  go_enter Try.func40, Try.ntmps40
  go_wp2
  go_region_law (first
    | (refine Kit.step_call1 rfl 41 (.tmp 26) 39 rfl (.slice (some ⟨w.heap.size, 0, none⟩) 2 2) (by first | with_reducible rfl | (simp [go_sem]; done) | rfl) (cf_or _ _) _ (HOr.out _ (by simp) (by simp)) ?_; rintro e w3 ⟨rfl, rfl⟩; refine ⟨_, rfl, ?_⟩)
    | (refine Kit.step_call2 rfl 42 (.tmp 13) (.tmp 21) 3 3 rfl (.int .i64 (x : Int)) (.int .i64 (y : Int)) (by first | with_reducible rfl | (simp [go_sem]; done) | rfl) (by first | with_reducible rfl | (simp [go_sem]; done) | rfl) (cf_cmp _ _ _) _ (HH1.out _) ?_; rintro e w3 ⟨rfl, rfl⟩; refine ⟨_, rfl, ?_⟩)
    | (refine Kit.step_call2 rfl 42 (.tmp 23) (.tmp 24) 3 3 rfl (.int .i64 (a : Int)) (.int .i64 (b : Int)) (by first | with_reducible rfl | (simp [go_sem]; done) | rfl) (by first | with_reducible rfl | (simp [go_sem]; done) | rfl) (cf_cmp _ _ _) _ (HH2.out _) ?_; rintro e w3 ⟨rfl, rfl⟩; refine ⟨_, rfl, ?_⟩))
  all_goals
    go_wp2
    go_ret
    exact ⟨rfl, _, _, rfl⟩
end Go.Proofs.Ythjcnlgebkaonaa
namespace Go.Proofs.Ythjcnlgebkaonaa
open Go Go.RowKit
open Kit (natVals)

theorem cmp_neg (x y : Int) : (Lib.compareInt x y < 0) ↔ x < y := by
  unfold Lib.compareInt
  split <;> (try split) <;> omega
theorem cmp_zero (x y : Int) : (Lib.compareInt x y = 0) ↔ x = y := by
  unfold Lib.compareInt
  split <;> (try split) <;> omega
theorem cf_lex (D : Nat → Nat) (a b : Nat) : (cfO D a b < 0) ↔ Hi.lex D a b := by
  unfold cfO Hi.lex
  by_cases h : Lib.compareInt (D a) (D b) = 0
  · rw [if_pos h, cmp_neg]
    rw [cmp_zero] at h
    omega
  · rw [if_neg h, cmp_neg]
    rw [cmp_zero] at h
    omega
/-- The numbers of n classes. -/
abbrev Cn (n : Nat) := { k : Nat // k < n }
def cfC (D : Nat → Nat) {n : Nat} (a b : Cn n) : Int := cfO D a.1 b.1
theorem lt_lex (D : Nat → Nat) {n : Nat} (a b : Cn n) : ltOf (cfC D) a b = true ↔ Hi.lex D a.1 b.1 := by
  unfold ltOf cfC
  rw [decide_eq_true_iff]
  exact cf_lex D a.1 b.1
theorem swo (D : Nat → Nat) (n : Nat) : Sort.SWO (ltOf (cfC D (n := n))) where
  irrefl x := by
    rw [Bool.eq_false_iff]
    intro h
    exact Hi.lex_irrefl D x.1 ((lt_lex D x x).1 h)
  trans x y z h1 h2 := (lt_lex D x z).2 (Hi.lex_trans D _ _ _ ((lt_lex D x y).1 h1) ((lt_lex D y z).1 h2))
  ntrans x y z h1 h2 := by
    rw [Bool.eq_false_iff] at *
    intro h
    have h := (lt_lex D x z).1 h
    have h1 : ¬ Hi.lex D x.1 y.1 := fun k => h1 ((lt_lex D x y).2 k)
    have h2 : ¬ Hi.lex D y.1 z.1 := fun k => h2 ((lt_lex D y z).2 k)
    unfold Hi.lex at *
    omega
theorem sortW_chg {α : Type} [Inhabited α] (enc : α → Value) {w : World} {blk : Nat} (m : Nat) (d : Array α) (os : Array Obj) : Chg (fun i => i = blk) w (sortWorld enc w blk 0 m d os) := by
  refine ⟨rfl, rfl, rfl, ?_, fun k hk hne => ?_⟩
  · unfold sortWorld
    rw [Sort.size_grow, size_putRow]
    show w.heap.size ≤ w.heap.size + _
    omega
  · unfold sortWorld
    rw [Sort.heap_grow_old _ _ (by rw [size_putRow]; exact hk)]
    unfold Sort.putRow Sort.mapBlock
    simp only [Array.getElem?_modify]
    rw [if_neg (fun e => hne e.symm)]
    rfl
theorem sortW_own {α : Type} [Inhabited α] (enc : α → Value) {w : World} {base blk n cap : Nat} {e : TypeId} {xs : List Value} (h : w.ownsRow base e 1 (.slice (some ⟨blk, 0, none⟩) n cap) n xs) (m : Nat) (d : Array α) (os : Array Obj) (hd : d.size = n) :
    (sortWorld enc w blk 0 m d os).ownsRow base e 1 (.slice (some ⟨blk, 0, none⟩) n cap) n (d.toList.map enc) := by
  refine ⟨by simp [hd], .inr ?_⟩
  rcases h.2 with ⟨h2, -⟩ | ⟨g', cap', cur, hv, hg, hh, h1, h2, h3, h4⟩
  · cases h2
  · obtain ⟨e1, -, rfl⟩ := Value.slice.inj hv
    obtain rfl : blk = g' := by simpa using e1
    have hlt := (Array.getElem?_eq_some_iff.1 hh).1
    refine ⟨blk, cap, Sort.putCells enc 0 d cur, rfl, hg, ?_, h1, h2, by simp [Sort.putCells, h3], ?_⟩
    · unfold sortWorld
      rw [Sort.heap_grow_old _ _ (by rw [size_putRow]; exact hlt)]
      unfold Sort.putRow Sort.mapBlock
      simp only [Array.getElem?_modify]
      rw [if_pos trivial]
      show Option.map _ w.heap[blk]? = _
      rw [hh]
      rfl
    · apply List.ext_getElem?
      intro k
      rw [List.getElem?_take, List.getElem?_map]
      by_cases hk : k < n * 1
      · rw [if_pos hk]
        have hk2 : k < d.size := by omega
        have hk3 : k < cur.size := by rw [h3]; omega
        rw [Array.getElem?_toList]
        unfold Sort.putCells
        rw [Array.getElem?_mapIdx, Array.getElem?_eq_getElem hk3, Option.map_some, if_pos ⟨by omega, by omega⟩, Array.getElem?_toList, Array.getElem?_eq_getElem hk2, Option.map_some, Nat.sub_zero, getElem!_pos d k hk2]
      · rw [if_neg hk, Array.getElem?_toList, Array.getElem?_eq_none (by omega)]
        rfl
theorem HM.setOd {w w1 : World} {base : Nat} {H : HV} (h : HM w base H) (hc : Chg (fun i => H.ov.ownBlock = some i) w w1) {l : List Nat} (ho : w1.ownsRow base 3 1 H.ov l.length (natVals l)) : HM w1 base { H with od := l } :=
  ⟨(hc.block _ h.hb_lt (own_unlike_box h.ord h.box (by decide))).trans h.box, h.map.keep (hc.block _ h.mb_lt (own_map h.ord h.map)), owns_chg h.cls hc (own_unlike h.cls h.ord (by decide)), ho,
   fun i hi => owns_chg (h.sub i hi) hc (fun j e e2 => h.apo i hi j e e2), h.ap, h.apo, h.lh, h.lm⟩
/-- Numbers of classes, out of a list of them. -/
def cnL {n : Nat} (O : List Nat) (h : ∀ x ∈ O, x < n) : List (Cn n) := O.pmap (fun k hk => ⟨k, hk⟩) h
theorem cnL_val {n : Nat} (O : List Nat) (h : ∀ x ∈ O, x < n) : (cnL O h).map (·.1) = O := by
  unfold cnL
  rw [List.map_pmap]
  exact List.pmap_eq_self.2 (fun _ _ => rfl)
def encC {n : Nat} (k : Cn n) : Value := .int .i64 (k.1 : Int)
theorem enc_vals {n : Nat} (l : List (Cn n)) : l.map encC = natVals (l.map (·.1)) := by
  unfold natVals
  rw [List.map_map]
  rfl
/-- What is sorted, is the order. -/
theorem sorted_ord {n : Nat} [Inhabited (Cn n)] {P D : Nat → Nat} (t : Hi.Tr n P D) {O : List Nat} (h : ∀ x ∈ O, x < n) (hnd : O.Nodup) (hall : ∀ x, x < n → x ∈ O) {d' : Array (Cn n)} (hp : Sort.PermIn 0 (cnL O h).toArray.size (cnL O h).toArray d') (hs : Sort.SortedIn (ltOf (cfC D)) 0 (cnL O h).toArray.size d') :
    d'.toList.map (·.1) = Hi.ordL n D ∧ d'.size = O.length := by
  have hsz : (cnL O h).toArray.size = O.length := by unfold cnL; simp
  obtain ⟨p1, -, p2⟩ := hp
  have e1 : (d'.extract 0 (cnL O h).toArray.size) = d' := by rw [← p1]; simp
  have e2 : ((cnL O h).toArray.extract 0 (cnL O h).toArray.size) = (cnL O h).toArray := by simp
  rw [e1, e2] at p2
  have p3 : (d'.toList.map (·.1)).Perm O := by
    have := p2.map (·.1)
    rwa [show (cnL O h).toArray.toList = cnL O h from rfl, cnL_val] at this
  refine ⟨Hi.ord_eq t ?_ (fun x => ⟨fun hx => h x (p3.mem_iff.1 hx), fun hx => p3.mem_iff.2 (hall x hx)⟩), by rw [p1, hsz]⟩
  have hnd' : (d'.toList.map (·.1)).Nodup := p3.nodup_iff.2 hnd
  rw [List.pairwise_iff_getElem]
  intro i j hi hj hij
  have hi' : i < d'.size := by simpa using hi
  have hj' : j < d'.size := by simpa using hj
  have h1 := hs i j (by omega) hij (by rw [← p1]; exact hj')
  rw [getElem!_pos d' i hi', getElem!_pos d' j hj', Bool.eq_false_iff] at h1
  have h2 : ¬ Hi.lex D d'[j].1 d'[i].1 := fun k => h1 ((lt_lex D _ _).2 k)
  have h3 : d'[i].1 ≠ d'[j].1 := by
    have := (List.pairwise_iff_getElem.1 hnd') i j hi hj hij
    simpa using this
  simp only [List.getElem_map, Array.getElem_toList]
  unfold Hi.lex at *
  omega
end Go.Proofs.Ythjcnlgebkaonaa
namespace Go.Proofs.Ythjcnlgebkaonaa
open Go Go.RowKit
open Kit (natVals)

theorem src_none1 (c : Nat) (w : World) : Src Try.prog 1 39 (.slice none 0 c) 0 [] w :=
  ⟨.inl ⟨_, Try.underlying39⟩, fun _ => rfl, rfl, rfl, rfl, fun u hu => by cases hu⟩
/-- An append of numbers that are read, as a step of a region that draws its order. -/
theorem step_ints {ops : Array Oper} {o : Oper} {a : Act} {w : World} {K : Act → World → Prop} {Q : Exit → Act → World → Prop} {E : Prop} (hgd : o.guard = none) (s x : Operand)
    (hop : o.op = Op.call { callee := Callee.builtin Builtin.append, args := #[s, x], argTypes := #[39, 39] })
    (B : Nat) (v : Value) (n : Nat) (xs : List Value) (hs : a.eval s = v) (hown : w.ownsRow B 3 1 v n xs) (hB : B ≤ w.heap.size)
    (xv : Value) (m : Nat) (news : List Value) (hx : a.eval x = xv) (hr : Kit.IsS 1 w xv m news) (h1 : ∀ u ∈ news, u.oneCell' = true) (hnm : n + m ≤ 10000000)
    (hK : ∀ v' w', w'.ownsRow B 3 1 v' (n + m) (xs ++ news) → w.grownBy w' v.ownBlock → (v'.ownBlock = v.ownBlock ∨ v'.ownBlock = some w.heap.size) → K (a.put o.dst v') w') :
    if Region.wanted o (yielded ops a.tmps) = true then Oper.wp Try.prog o a w K Q else E := by
  have hw : Region.wanted o (yielded ops a.tmps) = true := by simp [Region.wanted, hgd]
  rw [if_pos hw]
  obtain ⟨i0, hi, hz0, hz1, hz2⟩ := info_parts infoI
  have some' : ∀ ad c, xv = .slice (some ad) m c → (∀ j u, news[j]? = some u → w.cell? (ad.add j) = some u) → Oper.wp Try.prog o a w K Q := fun ad c he hc => by
    subst he
    obtain ⟨v', w', hr', h2, h3, -, h5⟩ := run_append_own_at (P := Try.prog) w B 39 o.type 3 i0 _ 1 8 Try.underlying39 hi hz0 hz1 hz2 rfl (by decide) v n xs hown ad m c news hr.1 hc h1 (by unfold maxLen; omega) (by omega) hB
    unfold Oper.wp execOp
    simp only [hop, resolve, invoke, builtin, Sem.run_bind, Sem.run_pure, Result.andThen_ok, List.map_toArray, List.map_cons, List.map_nil, hs, hx, hr']
    exact hK _ _ h2 h3 h5
  rcases hr.2.2 with ⟨h0, ad, c, he⟩ | ⟨b, ofs, c, he, -, -, hc⟩
  · subst h0
    have hn : news = [] := List.eq_nil_of_length_eq_zero (by simpa using hr.1)
    cases ad with
    | some ad => exact some' ad c he (fun j u hj => by rw [hn] at hj; simp at hj)
    | none =>
      subst hn he
      have hcap : ∃ ad' n' c', v = .slice ad' n' c' ∧ n' ≤ c' := by
        rcases hown.2 with ⟨h, -⟩ | ⟨g, cap, cur, h, -, -, h4, -⟩
        · exact ⟨none, 0, 0, h, Nat.le_refl _⟩
        · exact ⟨_, _, _, h, h4⟩
      obtain ⟨ad', n', c', he', hle⟩ := hcap
      have hr' := run_append_nothing (P := Try.prog) w 39 39 o.type 3 i0 Try.underlying39 hi ad' n' c' hle (.slice none 0 c) (by rw [hz1]; exact src_none1 c w)
      rw [← he'] at hr'
      unfold Oper.wp execOp
      simp only [hop, resolve, invoke, builtin, Sem.run_bind, Sem.run_pure, Result.andThen_ok, List.map_toArray, List.map_cons, List.map_nil, hs, hx, hr']
      exact hK _ _ (by simpa using hown) ⟨rfl, rfl, rfl, Nat.le_refl _, fun _ _ _ => rfl⟩ (.inl rfl)
  · exact some' _ c he (fun j u hj => by rw [Go.WideShapes.add_plain]; exact hc j u hj)
/-- Depths, of which the first j are written that stand under x. -/
def dj (n : Nat) (P d : Nat → Nat) (x j : Nat) : Nat → Nat := fun k => if k ∈ (Hi.ch n P x).take j then d x + 1 else d k
theorem dj_zero (n : Nat) (P d : Nat → Nat) (x : Nat) : dj n P d x 0 = d := by funext k; simp [dj]
theorem dj_all (n : Nat) (P d : Nat → Nat) (x : Nat) : dj n P d x (Hi.ch n P x).length = Hi.dn n P d x := by
  funext k
  unfold dj Hi.dn
  rw [List.take_length]
  by_cases h : 1 ≤ k ∧ k < n ∧ P k = x
  · rw [if_pos h, if_pos (Hi.mem_ch.2 h)]
  · rw [if_neg h, if_neg (fun e => h (Hi.mem_ch.1 e))]
/-- Where orderAll stands. -/
structure OaI (w : World) (base : Nat) (H : HV) (P : Nat → Nat) (bb : Nat) (O : List Nat) (d : Nat → Nat) (ov : Value) (W : World) : Prop where
  hm : HM W base { H with ov := ov, od := O, dp := d }
  bx : BX W bb #[.pointer (some ⟨H.hb, 0, none⟩)] 25
  bel : Below base w W
  sz : w.heap.size ≤ W.heap.size
  sb : ∀ k, k < H.n → H.sb k = Hi.ch H.n P k
  le : H.n ≤ 72
section
variable {w W W' : World} {base bb : Nat} {H : HV} {P : Nat → Nat} {O : List Nat} {d : Nat → Nat} {ov : Value}
theorem OaI.below (h : OaI w base H P bb O d ov W) (hb : Below W.heap.size W W') (hw : base ≤ w.heap.size) : OaI w base H P bb O d ov W' :=
  ⟨h.hm.below hb, h.bx.below hb, belows h.bel hb (Nat.le_trans hw h.sz), Nat.le_trans h.sz hb.size, h.sb, h.le⟩
/-- A depth is written. -/
theorem OaI.depth (h : OaI w base H P bb O d ov W) {k g p : Nat} (x : Nat) (hk : k < H.n) (hv : H.cv = .slice (some ⟨g, 0, none⟩) H.n p) (hw : base ≤ w.heap.size) :
    W.frozen? ⟨g, k * 4 + 2, none⟩ = false ∧ OaI w base H P bb O (upd d k x) ov (W.setCell ⟨g, k * 4 + 2, none⟩ (.int .i64 (x : Int))) := by
  have hgb : H.cv.ownBlock = some g := by rw [hv]; rfl
  have hM := h.hm.setRow (k := k) (i := 2) (u := .int .i64 (x : Int)) (su := H.su) (dp := upd d k x) hk (by omega) hv (by unfold HV.row; dsimp only; rw [upd_same]; rfl) (fun j hj => ⟨rfl, upd_other _ _ hj⟩)
  have hS : Chg (fun i => i = g) W (W.setCell ⟨g, k * 4 + 2, none⟩ (.int .i64 (x : Int))) := (Chg.refl (fun i => i = g) W).set (p := ⟨g, k * 4 + 2, none⟩) (.inl rfl) _
  refine ⟨own_frz h.hm.cls hgb _, hM, h.bx.chg hS (fun e => ?_), h.bel.trans (hS.to_below (fun j e => ?_) (Nat.le_trans hw h.sz)), Nat.le_trans h.sz hS.size, h.sb, h.le⟩
  · exact own_unlike_box h.hm.cls h.bx (by decide) (e ▸ hgb)
  · exact Kit.own_base h.hm.cls j (e ▸ hgb)
/-- Those under a class go behind the others. -/
theorem OaI.app (h : OaI w base H P bb O d ov W) {w2 w3 : World} {u : Value} {l : List Nat} (hb : Below W.heap.size W w2) (hg : w2.grownBy w3 ov.ownBlock) (hu : u.ownBlock = ov.ownBlock ∨ u.ownBlock = some w2.heap.size)
    (ho : w3.ownsRow base 3 1 u (O.length + l.length) (natVals O ++ natVals l)) (hw : base ≤ w.heap.size) :
    (∀ p : Addr, p.block < W.heap.size → ov.ownBlock ≠ some p.block → w3.cell? p = W.cell? p) ∧ w3.cell? ⟨bb, 0, none⟩ = some (.pointer (some ⟨H.hb, 0, none⟩)) ∧ w3.cell? ⟨H.hb, 2, none⟩ = some ov ∧ w3.frozen? ⟨H.hb, 2, none⟩ = false ∧ OaI w base H P bb (O ++ l) d u (w3.setCell ⟨H.hb, 2, none⟩ u) := by
  have hc := (Chg.of_below (S := fun i => ov.ownBlock = some i) hb).grown hg (fun j e => .inl e)
  have hbx : BX w3 H.hb #[H.cv, .map (some H.mb), ov] 48 := BX.chg (w := W) h.hm.box hc (own_unlike_box h.hm.ord h.hm.box (by decide))
  have hb3 := h.bx.chg hc (own_unlike_box h.hm.ord h.bx (by decide))
  have hA := h.hm.setOv hc (u := u) (l := O ++ l) (by rw [List.length_append]; unfold natVals at ho ⊢; rw [List.map_append]; exact ho) (by
    rcases hu with e | e
    · exact .inl e
    · exact .inr ⟨_, hb.size, e⟩)
  have hS : Chg (fun i => ov.ownBlock = some i ∨ i = H.hb) W (w3.setCell ⟨H.hb, 2, none⟩ u) := (hc.mono (T := fun i => ov.ownBlock = some i ∨ i = H.hb) (fun i _ e => .inl e)).set (.inl (.inr rfl)) _
  refine ⟨fun p hp hne => hc.cell hp hne, hb3.cell 0, hbx.cell 2, hbx.frozen 2, hA, h.bx.chg hS ?_, h.bel.trans (hS.to_below (fun j e => ?_) (Nat.le_trans hw h.sz)), Nat.le_trans h.sz hS.size, h.sb, h.le⟩
  · rintro (e | rfl)
    · exact own_unlike_box h.hm.ord h.bx (by decide) e
    · have h1 := h.hm.box
      have h2 := h.bx
      unfold BX at h2
      dsimp only at h1
      rw [h2] at h1
      simp at h1
  · rcases e with e | rfl
    · exact Kit.own_base h.hm.ord j e
    · exact h.hm.lh
end
end Go.Proofs.Ythjcnlgebkaonaa
namespace Go.Proofs.Ythjcnlgebkaonaa
open Go Go.RowKit
open Kit (natVals)

theorem own_at0 {w : World} {base : Nat} {e : TypeId} {v : Value} {n : Nat} {xs : List Value} (h : w.ownsRow base e 1 v n xs) (hn : 0 < n) : ∃ g cap, v = .slice (some ⟨g, 0, none⟩) n cap ∧ g < w.heap.size ∧ ∀ i u, xs[i]? = some u → w.cell? ⟨g, i, none⟩ = some u ∧ w.frozen? ⟨g, i, none⟩ = false := by
  obtain ⟨hl, h⟩ := h
  rcases h with ⟨-, h2⟩ | ⟨g, cap, cur, rfl, hg, hh, hc1, hc2, hc3, ht⟩
  · omega
  · refine ⟨g, cap, rfl, (Array.getElem?_eq_some_iff.1 hh).1, fun i u hi => ⟨?_, by simp [World.frozen?, hh]⟩⟩
    have hlt : i < xs.length := (List.getElem?_eq_some_iff.1 hi).1
    have : cur[i]? = some u := by
      rw [← ht, List.getElem?_take_of_lt (by omega)] at hi
      simpa using hi
    simp [World.cell?, hh, this]
theorem HM.sightAt {w : World} {base : Nat} {H : HV} (h : HM w base H) {g p : Nat} (hv : H.cv = .slice (some ⟨g, 0, none⟩) H.n p) (hn : 1 ≤ H.n) : g < w.heap.size ∧ ∀ k, k < H.n → w.cell? ⟨g, k * 4, none⟩ = some (.string (H.nm k)) ∧ w.cell? ⟨g, k * 4 + 1, none⟩ = some (.int .i64 (H.su k)) ∧
    w.cell? ⟨g, k * 4 + 2, none⟩ = some (.int .i64 (H.dp k : Int)) ∧ w.cell? ⟨g, k * 4 + 3, none⟩ = some (H.sv k) := by
  obtain ⟨g2, p2, h1, h2, h3⟩ := h.sight hn
  rw [hv] at h1
  obtain ⟨e, -, -⟩ := Value.slice.inj h1
  rw [Option.some.injEq, Addr.mk.injEq] at e
  obtain ⟨rfl, -, -⟩ := e
  exact ⟨h2, h3⟩
theorem holdsC {n : Nat} [Inhabited (Cn n)] {w : World} {og : Nat} {O : List Nat} (hlt : ∀ x ∈ O, x < n) (h : ∀ i u, (natVals O)[i]? = some u → w.cell? ⟨og, i, none⟩ = some u ∧ w.frozen? ⟨og, i, none⟩ = false) : Sort.Holds (encC (n := n)) w og 0 (cnL O hlt).toArray := by
  intro j hj
  have hjO : j < O.length := by have : (cnL O hlt).toArray.size = O.length := by unfold cnL; simp
                                omega
  have e1 : ((cnL O hlt).toArray[j]!).1 = O[j] := by
    have hL : j < (cnL O hlt).length := hj
    have h2 : ((cnL O hlt).map (·.1))[j]? = O[j]? := by rw [cnL_val]
    rw [List.getElem?_map, List.getElem?_eq_getElem hL, List.getElem?_eq_getElem hjO] at h2
    rw [getElem!_pos _ j hj]
    simpa using h2
  have h1 := h j (.int .i64 ((O[j] : Nat) : Int)) (Kit.natVals_at (List.getElem?_eq_getElem hjO))
  rw [Nat.zero_add]
  refine ⟨?_, h1.2⟩
  rw [h1.1]
  unfold encC
  rw [e1]
theorem dj_step {n : Nat} {P d : Nat → Nat} {x j s : Nat} (hs : (Hi.ch n P x)[j]? = some s) : upd (dj n P d x j) s (d x + 1) = dj n P d x (j + 1) := by
  funext k
  unfold upd dj
  rw [List.take_add_one, hs]
  by_cases e : k = s
  · subst e
    rw [if_pos rfl, if_pos (by simp)]
  · rw [if_neg e]
    by_cases h : k ∈ (Hi.ch n P x).take j
    · rw [if_pos h, if_pos (by simp [h])]
    · rw [if_neg h, if_neg (by simp [h, e])]
theorem dj_self {n : Nat} {P d : Nat → Nat} {O : List Nat} {i x : Nat} (h : Hi.Bf n P O i d) (hx : O[i]? = some x) (j : Nat) : dj n P d x j x = d x := by
  unfold dj
  rw [if_neg]
  intro e
  exact h.child hx (List.mem_of_mem_take e) (List.mem_of_getElem? hx)
section
variable {w W : World} {base bb : Nat} {H : HV} {P : Nat → Nat} {O : List Nat} {d : Nat → Nat} {ov : Value}
/-- The comparison, in each world that the sort passes through. -/
theorem OaI.cmp (h : OaI w base H P bb O d ov W) (hn : 1 ≤ H.n) [Inhabited (Cn H.n)] {blk cap : Nat} (hov : ov = .slice (some ⟨blk, 0, none⟩) O.length cap) (size : Nat) :
    CmpLays1 Try.prog 40 #[.pointer (some ⟨bb, 0, none⟩)] (encC (n := H.n)) (cfC d) blk 0 size W := by
  intro m os dk _ x y
  obtain ⟨g, p, hc, hg, hs⟩ := h.hm.sight hn
  obtain ⟨k0, -, -⟩ := h.hm.cells
  have hch := sortW_chg (encC (n := H.n)) (w := W) (blk := blk) m dk os
  have hob : ov.ownBlock = some blk := by rw [hov]; rfl
  have hgb : H.cv.ownBlock = some g := by rw [show H.cv = _ from hc]; rfl
  have n1 : bb ≠ blk := fun e => own_unlike_box h.hm.ord h.bx (by decide) (e ▸ hob)
  have n2 : H.hb ≠ blk := fun e => own_unlike_box h.hm.ord h.hm.box (by decide) (show ov.ownBlock = some H.hb by rw [e]; exact hob)
  have n3 : g ≠ blk := fun e => own_unlike h.hm.cls h.hm.ord (by decide) g hgb (show ov.ownBlock = some g by rw [e]; exact hob)
  have f0 := (hch.cell (p := ⟨bb, 0, none⟩) h.bx.sz n1).trans (h.bx.cell 0)
  have f1 := (hch.cell (p := ⟨H.hb, 0, none⟩) h.hm.hb_lt n2).trans k0
  rw [show ({ H with ov := ov, od := O, dp := d } : HV).cv = _ from hc] at f1
  refine (clo_any (n := H.n) d f0 f1 (fun k hk => (hch.cell (p := ⟨g, k * 4 + 2, none⟩) hg n3).trans (hs k hk).2.2.1) x.1 y.1 x.2 y.2).mono ?_
  rintro e w' ⟨rfl, q, o, rfl⟩
  exact ⟨rfl, q, #[o], Sort.alloc_eq_grow _ _⟩
end
def OrPost (base : Nat) (H : HV) (P : Nat → Nat) (w : World) (e : Ending) (w' : World) : Prop :=
  Below base w w' ∧ w.heap.size ≤ w'.heap.size ∧ ((e = .returned (.bool false) ∧ ¬ ∃ D, Hi.Tr H.n P D) ∨ (e = .returned (.bool true) ∧ ∃ D ov, Hi.Tr H.n P D ∧ HM w' base { H with ov := ov, od := Hi.ordL H.n D, dp := D }))
set_option maxRecDepth 100000 in
set_option maxHeartbeats 8000000 in
theorem orderAll_any {w : World} {base : Nat} {H : HV} {P : Nat → Nat} (h : HM w base H) (hn : 1 ≤ H.n) (hle : H.n ≤ 72) (hP : ∀ k, 1 ≤ k → k < H.n → P k < H.n) (hsb : ∀ k, k < H.n → H.sb k = Hi.ch H.n P k) (hod : H.od = []) (hdp : H.dp = fun _ => 0) :
    Calls Try.prog 30 #[.pointer (some ⟨H.hb, 0, none⟩)] w (OrPost base H P w) := by
  have hbase := Nat.le_of_lt h.base_lt
  have hbl := h.hb_lt
  obtain ⟨i0, hi, hz0, hz1, hz2⟩ := info_parts infoI
  obtain ⟨ov0, hov0⟩ : ∃ ov0, H.ov = ov0 := ⟨_, rfl⟩
  have H0 : OaI w base H P w.heap.size [] (fun _ => 0) ov0 (w.alloc (.cells #[.pointer (some ⟨H.hb, 0, none⟩)] 25)) :=
    ⟨by have e : ({ H with ov := ov0, od := [], dp := fun _ => 0 } : HV) = H := (by rw [← hod, ← hdp, ← hov0]); rw [e]; exact h.below ((Below.refl _ _).alloc (Nat.le_refl _) _), BX.new w _ _, (Below.refl _ _).alloc hbase _, by simp, hsb, hle⟩
  obtain ⟨W0, hW0⟩ : ∃ W0, W0 = w.alloc (.cells #[.pointer (some ⟨H.hb, 0, none⟩)] 25) := ⟨_, rfl⟩
  rw [← hW0] at H0
  obtain ⟨oa, op, hoo⟩ := own_form H0.hm.ord
  change ov0 = .slice oa 0 op at hoo
  subst hoo
  obtain ⟨-, -, k2⟩ := H0.hm.cells
  change W0.cell? ⟨H.hb, 2, none⟩ = some (.slice oa 0 op) at k2
  have kf := H0.hm.frozen 2
  change W0.frozen? ⟨H.hb, 2, none⟩ = false at kf
  have b0 : W0.cell? ⟨w.heap.size, 0, none⟩ = some (.pointer (some ⟨H.hb, 0, none⟩)) := H0.bx.cell 0
  have hl0 : H.hb < W0.heap.size := H0.hm.hb_lt
  have hl1 : w.heap.size < W0.heap.size := H0.bx.sz
  have hl2 : base < W0.heap.size := H0.hm.base_lt
  have HOw := hid (fun X (b : Below W0.heap.size W0 X) => Kit.owns_below H0.hm.ord b (Nat.le_refl _))
  change Hid (∀ X, Below W0.heap.size W0 X → X.ownsRow base 3 1 (.slice oa 0 op) 0 []) at HOw
  have HI0 := hid H0
  have HF := hid (Hi.Bf.start (P := P) hn)
  have HN := hid hn
  have HLe := hid hle
  have HP := hid hP
  obtain ⟨n, hnn⟩ : ∃ n, H.n = n := ⟨_, rfl⟩
  have HNN := hid hnn
  have hn1 : 1 ≤ n := by omega
  have hn72 : n ≤ 72 := by omega
  clear H0 h hsb hn hle hP hnn hov0 hod hdp
  go_enter Try.func30, Try.ntmps30
  go_wp2
  rw [← hW0]
  clear hW0
  go_cut [3] (fun _ wx => ∃ v2 : Value, Hid (OaI w base H P w.heap.size [0] (fun _ => 0) v2 wx))
  case first =>
    go_region_law (refine Kit.step_append_own rfl (.tmp 11) (.tmp 12) 39 rfl base 3 i0 _ 1 8 Try.underlying39 hi hz0 hz1 hz2 rfl (by decide) (.slice oa 0 op) 0 [] rfl (HOw.out _ (by repeat' first | with_reducible exact Below.refl _ _ | with_reducible assumption | with_reducible refine belows_drewN ?_ _ | with_reducible refine Below.drew ?_ | with_reducible refine Below.setCell ?_ ?_ _ | with_reducible refine Below.alloc ?_ ?_ _ | omega | (simp; done) | (simp; omega))) ⟨W0.heap.size, 0, none⟩ 1 1 [.int .i64 0] rfl rfl (news_of _ _ _) (by intro u hu; simp at hu; subst hu; rfl) (by unfold maxLen; omega) (by omega) (by first | omega | (simp; omega)) ?_; intro v2 w3 ho3 hg3 hk3; obtain ⟨-, q0, q2, qf, hA⟩ := HI0.out.app (l := [0]) (by repeat' first | with_reducible exact Below.refl _ _ | with_reducible assumption | with_reducible refine belows_drewN ?_ _ | with_reducible refine Below.drew ?_ | with_reducible refine Below.setCell ?_ ?_ _ | with_reducible refine Below.alloc ?_ ?_ _ | omega | (simp; done) | (simp; omega)) hg3 hk3 (by exact ho3) hbase; have HB := hid hA; obtain ⟨b2, p2, rfl⟩ := own_form ho3; clear ho3 hg3 hk3 hA)
    all_goals
      go_wp2
      go_meet
      exact ⟨_, HB⟩
  case rest =>
  obtain ⟨ov0, HB⟩ := hcut
  clear k2 kf b0 hl0 hl1 hl2 HOw HI0 hz0 hz1 hz2 hi i0
  go_wp2
  go_loopw [3] (fun v wr => ∃ (i : Nat) (O : List Nat) (d : Nat → Nat) (ov : Value), v = .int .i64 (i : Int) ∧ Hid (OaI w base H P w.heap.size O d ov wr) ∧ Hid (Hi.Bf H.n P O i d)) (fun v _ => n - (intOf v).toNat)
  case atStart => exact ⟨0, _, _, _, rfl, HB, HF⟩
  case round =>
    clear HB HF hbl
    obtain ⟨i, O, d, ov, rfl, HB, HF⟩ := hrel
    obtain ⟨wo, hwo⟩ : ∃ wo, wo = wr := ⟨_, rfl⟩
    rw [← hwo] at HB ⊢
    clear hwo
    have hOl := HF.out.len
    have hiO := HF.out.le
    rw [HNN.out] at hOl
    have hO1 : 1 ≤ O.length := List.length_pos_of_mem ((HF.out.mem 0).2 (.inl rfl))
    obtain ⟨og, oc, hov, hol, hoc⟩ := own_at0 HB.out.hm.ord (by show 0 < O.length; omega)
    change ov = .slice (some ⟨og, 0, none⟩) O.length oc at hov
    obtain ⟨k0, k1, k2⟩ := HB.out.hm.cells
    change wo.cell? ⟨H.hb, 0, none⟩ = some H.cv at k0
    change wo.cell? ⟨H.hb, 2, none⟩ = some ov at k2
    have b0 : wo.cell? ⟨w.heap.size, 0, none⟩ = some (.pointer (some ⟨H.hb, 0, none⟩)) := HB.out.bx.cell 0
    obtain ⟨g, pc, hcv, hgl, hsi⟩ := HB.out.hm.sight (by show 1 ≤ H.n; exact HN.out)
    change H.cv = .slice (some ⟨g, 0, none⟩) H.n pc at hcv
    rw [hcv, HNN.out] at k0
    have HCV := hid hcv
    have HOV := hid hov
    rw [hov] at k2
    clear hcv k1
    by_cases hlt : i < O.length
    · obtain ⟨x, hx⟩ : ∃ x, O[i]? = some x := ⟨_, List.getElem?_eq_getElem hlt⟩
      have hxn := HF.out.lt x (List.mem_of_getElem? hx)
      have o1 := (hoc i (.int .i64 (x : Int)) (Kit.natVals_at hx)).1
      obtain ⟨-, -, -, s3⟩ := hsi x hxn
      change wo.cell? ⟨g, x * 4 + 3, none⟩ = some (H.sv x) at s3
      have hown := HB.out.hm.sub x hxn
      change wo.ownsRow base 3 1 (H.sv x) (H.sb x).length (natVals (H.sb x)) at hown
      rw [HB.out.sb x hxn] at hown
      obtain ⟨sa, sc, hsv⟩ := own_form hown
      rw [hsv] at s3
      have HSV := hid hsv
      have hchl := Hi.ch_len H.n P x
      rw [HNN.out] at hchl hxn
      obtain ⟨cl, hcl⟩ : ∃ cl, (Hi.ch H.n P x).length = cl := ⟨_, rfl⟩
      have HCL := hid hcl
      have HX := hid hx
      rw [hcl] at s3
      rw [HNN.out] at hcl
      rw [hcl] at hchl
      clear hsi hoc hown hsv hov hx hcl
      go_upto_block 1 with fail
      go_cut [4, 6] (fun _ _ wx => ∃ v2 : Value, Hid (OaI w base H P w.heap.size (O ++ Hi.ch H.n P x) (Hi.dn H.n P d x) v2 wx))
      case first =>
        go_wp2
        go_loopw [41] (fun v wr2 => ∃ j : Nat, v = .int .i64 (j : Int) ∧ j ≤ cl ∧ Hid (OaI w base H P w.heap.size O (dj H.n P d x j) ov wr2)) (fun v _ => cl - (intOf v).toNat)
        case atStart => exact ⟨0, rfl, by omega, by rw [dj_zero]; exact HB⟩
        case round =>
          clear HB s3 k0 k2 b0 o1
          obtain ⟨j, rfl, hj, HB⟩ := hrel
          obtain ⟨k0, k1, k2⟩ := HB.out.hm.cells
          change wr.cell? ⟨H.hb, 0, none⟩ = some H.cv at k0
          change wr.cell? ⟨H.hb, 2, none⟩ = some ov at k2
          rw [HCV.out, HNN.out] at k0
          rw [HOV.out] at k2
          have b0 : wr.cell? ⟨w.heap.size, 0, none⟩ = some (.pointer (some ⟨H.hb, 0, none⟩)) := HB.out.bx.cell 0
          have hbs : w.heap.size < wr.heap.size := HB.out.bx.sz
          have hhl : H.hb < wr.heap.size := HB.out.hm.hb_lt
          obtain ⟨hgl2, hsi⟩ := HB.out.hm.sightAt HCV.out HN.out
          have hown := HB.out.hm.sub x (by show x < H.n; rw [HNN.out]; exact hxn)
          change wr.ownsRow base 3 1 (H.sv x) (H.sb x).length (natVals (H.sb x)) at hown
          rw [HB.out.sb x (by rw [HNN.out]; exact hxn), HCL.out] at hown
          clear k1
          by_cases hjl : j < cl
          · obtain ⟨s, hs⟩ : ∃ s, (Hi.ch H.n P x)[j]? = some s := ⟨_, List.getElem?_eq_getElem (by rw [HCL.out]; exact hjl)⟩
            have hsm := Hi.mem_ch.1 (List.mem_of_getElem? hs)
            obtain ⟨sb, scap, hsv2, hsbl, hcell⟩ := own_at0 hown (by omega)
            have hsv3 := HSV.out
            rw [HCL.out, hsv2] at hsv3
            obtain ⟨rfl, -, rfl⟩ := Value.slice.inj hsv3
            have e1 := (hcell j (.int .i64 (s : Int)) (Kit.natVals_at hs)).1
            obtain ⟨-, -, c1, -⟩ := hsi x (by rw [HNN.out]; exact hxn)
            obtain ⟨-, -, c2, -⟩ := hsi s hsm.2.1
            change wr.cell? ⟨g, x * 4 + 2, none⟩ = some (.int .i64 ((dj H.n P d x j x : Nat) : Int)) at c1
            change wr.cell? ⟨g, s * 4 + 2, none⟩ = some (.int .i64 ((dj H.n P d x j s : Nat) : Int)) at c2
            rw [dj_self HF.out HX.out] at c1
            have hdx := HF.out.dle x (List.mem_of_getElem? HX.out)
            have hD := (HB.out.below (W' := wr.drew) (Below.drew (Below.refl _ _)) hbase).depth (d x + 1) hsm.2.1 HCV.out hbase
            rw [dj_step hs] at hD
            have ecast : ((d x + 1 : Nat) : Int) = (d x : Int) + 1 := by omega
            rw [ecast] at hD
            obtain ⟨fz, hD2⟩ := hD
            have HD := hid hD2
            have hsn := hsm.2.1
            rw [HNN.out] at hsn
            obtain ⟨dx, hdxx⟩ : ∃ dx, d x = dx := ⟨_, rfl⟩
            rw [hdxx] at c1 HD hdx
            have fz2 : wr.frozen? ⟨g, s * 4 + 2, none⟩ = false := fz
            clear hD2 fz hsi hown hcell hsv2 hsv3 hs hsm hdxx ecast
            go_wp2
            go_region
            go_wp2
            go_roundw
            case rel => exact ⟨j + 1, by go_num, by omega, HD⟩
            case measure => simp [intOf]; omega
          · obtain rfl : j = cl := by omega
            obtain ⟨-, -, -, c3⟩ := hsi x (by rw [HNN.out]; exact hxn)
            change wr.cell? ⟨g, x * 4 + 3, none⟩ = some (H.sv x) at c3
            have HOw := hid (fun X (b : Below wr.heap.size wr X) => Kit.owns_below HB.out.hm.ord b (Nat.le_refl _))
            have HSw := hid (fun X (b : Below wr.heap.size wr X) => Kit.isS_of_owns (Kit.owns_below hown b (Nat.le_refl _)) (by omega))
            have hbb := HB.out.hm.base_lt
            change Hid (∀ X, Below wr.heap.size wr X → X.ownsRow base 3 1 ov O.length (natVals O)) at HOw
            rw [HOV.out] at HOw
            rw [HSV.out, HCL.out] at HSw c3
            clear hsi hown
            have hgne : ov.ownBlock ≠ some g := fun e => own_unlike HB.out.hm.cls HB.out.hm.ord (by decide) g (show H.cv.ownBlock = some g by rw [HCV.out]; rfl) e
            have hhne : ov.ownBlock ≠ some H.hb := own_unlike_box HB.out.hm.ord HB.out.hm.box (by decide)
            have HG1 := hid hgne
            have HG2 := hid hhne
            clear hgne hhne
            go_wp2
            go_region_law (refine step_ints rfl (.tmp 66) (.tmp 74) rfl base (.slice (some ⟨og, 0, none⟩) O.length oc) O.length (natVals O) rfl (HOw.out _ (by repeat' first | with_reducible exact Below.refl _ _ | with_reducible assumption | with_reducible refine belows_drewN ?_ _ | with_reducible refine Below.drew ?_ | with_reducible refine Below.setCell ?_ ?_ _ | with_reducible refine Below.alloc ?_ ?_ _ | omega | (simp; done) | (simp; omega))) (by first | omega | (simp; omega)) (.slice sa j sc) j (natVals (Hi.ch H.n P x)) rfl (HSw.out _ (by repeat' first | with_reducible exact Below.refl _ _ | with_reducible assumption | with_reducible refine belows_drewN ?_ _ | with_reducible refine Below.drew ?_ | with_reducible refine Below.setCell ?_ ?_ _ | with_reducible refine Below.alloc ?_ ?_ _ | omega | (simp; done) | (simp; omega))) (natVals_one _) (by omega) ?_; intro v2 w3 ho3 hg3 hk3; rw [← HOV.out] at hg3 hk3; obtain ⟨qq, q0, q2, qf, hA⟩ := HB.out.app (l := Hi.ch H.n P x) (by repeat' first | with_reducible exact Below.refl _ _ | with_reducible assumption | with_reducible refine belows_drewN ?_ _ | with_reducible refine Below.drew ?_ | with_reducible refine Below.setCell ?_ ?_ _ | with_reducible refine Below.alloc ?_ ?_ _ | omega | (simp; done) | (simp; omega)) hg3 hk3 (by rw [HCL.out]; exact ho3) hbase; rw [HOV.out] at q2; have q1 := (qq ⟨H.hb, 0, none⟩ hhl HG2.out).trans k0; have q3 := (qq ⟨g, x * 4 + 3, none⟩ hgl2 HG1.out).trans c3; have HA := hid hA; obtain ⟨b2, p2, rfl⟩ := own_form ho3; clear ho3 hg3 hk3 hA qq)
            all_goals
              go_wp2
              go_meet
              exact ⟨_, by rw [← dj_all, HCL.out]; exact HA⟩
      case rest =>
        obtain ⟨v2, HA⟩ := hcut
        clear HB k0 k2 b0 s3 o1
        go_wp2
        go_roundw
        case rel => exact ⟨i + 1, _, _, _, by go_num, HA, HF.out.step HX.out⟩
        case measure => simp [intOf]; omega
    · obtain rfl : i = O.length := by omega
      haveI : Inhabited (Cn H.n) := ⟨⟨0, HN.out⟩⟩
      have hltO := HF.out.lt
      have hsz : (cnL O hltO).toArray.size = O.length := by unfold cnL; simp
      have hcon := Any.slices_SortFunc Sh.sort (encC (n := H.n)) (fun _ => rfl) (cfC d) (swo d H.n) 40 #[.pointer (some ⟨w.heap.size, 0, none⟩)] og 0 oc (cnL O hltO).toArray wo (enters_of Try.func40 (by kernel_rfl) rfl) (HB.out.cmp HN.out HOV.out _) (holdsC hltO hoc) hol (by omega)
      change Calls Try.prog 39 _ _ _ at hcon
      have HCo := hid hcon
      rw [hsz] at HCo
      clear hcon hsi hoc
      have hbs := HB.out.bx.sz
      go_wp2_with (go_at_call 39; refine HCo.out.mono ?_; rintro e w3 ⟨rfl, d', m, os, hp, hs, hw3⟩; have HW3 := hid hw3; have HP3 := hid hp; have HS3 := hid hs; clear hw3 hp hs)
      have hd' : d'.size = O.length := by have := HP3.out.1; omega
      have hch := sortW_chg (encC (n := H.n)) (w := wo) (blk := og) m d' os
      rw [← HW3.out] at hch
      have hob : ov.ownBlock = some og := by rw [HOV.out]; rfl
      have ho0 := HB.out.hm.ord
      change wo.ownsRow base 3 1 ov O.length (natVals O) at ho0
      rw [HOV.out] at ho0
      have ho3 := sortW_own (encC (n := H.n)) ho0 m d' os hd'
      rw [← HW3.out, enc_vals, ← HOV.out] at ho3
      have hM3 := HB.out.hm.setOd (l := d'.toList.map (·.1)) (hch.mono (T := fun i => ov.ownBlock = some i) (fun j _ e => by rw [e]; exact hob)) (by rw [List.length_map, Array.length_toList, hd']; exact ho3)
      have bx3 := HB.out.bx.chg hch (fun e => own_unlike_box HB.out.hm.ord HB.out.bx (by decide) (show ov.ownBlock = _ by rw [e]; exact hob))
      have hB3 := HB.out.bel.trans (hch.to_below (fun j e => by rw [e]; exact Kit.own_base HB.out.hm.ord og hob) (Nat.le_trans hbase HB.out.sz))
      have hsz3 := Nat.le_trans HB.out.sz hch.size
      have b3 : w3.cell? ⟨w.heap.size, 0, none⟩ = some (.pointer (some ⟨H.hb, 0, none⟩)) := bx3.cell 0
      obtain ⟨z0, -, z2⟩ := hM3.cells
      change w3.cell? ⟨H.hb, 0, none⟩ = some H.cv at z0
      change w3.cell? ⟨H.hb, 2, none⟩ = some ov at z2
      rw [HCV.out, HNN.out] at z0
      rw [HOV.out] at z2
      have HM3 := hid hM3
      have HB3 := hid hB3
      clear hM3 hB3 hch ho3 ho0 bx3 k0 k2 b0 hob
      go_quiet (fail)
      go_wp2
      go_ret
      have HBq := belows HB3.out (below_drewN w3 nq) (Nat.le_trans hbase hsz3)
      by_cases hO : O.length = n
      · have tr := HF.out.full HN.out HP.out (by rw [HNN.out]; exact hO)
        have hso := sorted_ord tr hltO HF.out.nd (Hi.all_in HF.out.nd hltO (by rw [HNN.out]; exact hO)) (d' := d') (by rw [hsz]; exact HP3.out) (by rw [hsz]; exact HS3.out)
        refine ⟨HBq, hsz3, .inr ⟨by simp [hO], d, ov, tr, ?_⟩⟩
        have := HM3.out.drewN nq
        rw [hso.1] at this
        exact this
      · refine ⟨HBq, hsz3, .inl ⟨by simp; omega, ?_⟩⟩
        rintro ⟨D, tr⟩
        have := HF.out.all tr
        rw [HNN.out] at this
        exact hO this
end Go.Proofs.Ythjcnlgebkaonaa

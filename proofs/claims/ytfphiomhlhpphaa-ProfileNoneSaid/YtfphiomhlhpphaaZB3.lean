/- Own texts for the claim, part 3. -/
import Derived.Test.YtfphiomhlhpphaaZB2
import Derived.RangeFuncNested
import Derived.RangeFuncBound
import Derived.RangeFuncCalls
import Derived.RangeFuncLeaves
import Derived.Shelf.Abstract
import Derived.Shelf.RegionOpen
import Derived.OwnWalkIn
import Derived.TacticsInMore
import Derived.LoopNIn
import Derived.LoopIn
import Derived.Test.YtfphiomhlhpphaaRows
import Derived.ProofKit
import Derived.OpenShut
import Derived.ChangeSlices
namespace Go.Proofs.Ytfphiomhlhpphaa
open Go Go.RowKit
open Pf (Site Sn ix addk alt keys)
set_option maxRecDepth 100000
set_option maxHeartbeats 2000000
/-- The class that was seen most. -/
def mainC (c : List Sn × Bool) : Int × Bool := if c.2 = true then (0, false) else match Pf.srt c.1 with | [] => (0, false) | y :: _ => (y.1, true)
section
variable {w : World} {v : Value} {E : List Sn} {J : List (Site × Int)} {C : List (Site × Cl)} {me mj mc : Option Nat}
theorem main_any (h : Sees w v E J C me mj mc) {s : Site} (hs : TS.ok s) (h1 : ∀ y ∈ (Pf.look cl0 C s).2.1, 1 ≤ y.2) (hl : (Pf.look cl0 C s).2.1.length ≤ 4) :
    Calls Try.prog 23 #[v, sV s] w fun e w' => e = .returned (.tuple #[.int .i64 (mainC (Pf.look cl0 C s).2).1, .bool (mainC (Pf.look cl0 C s).2).2]) ∧ Below w.heap.size w w' := by
  obtain ⟨w1, hw1⟩ : ∃ w1, w1 = w.alloc (.cells #[.int .i64 s.1, .int .i64 s.2] 29) := ⟨_, rfl⟩
  have hb1 : Below w.heap.size w w1 := by rw [hw1]; exact (Below.refl _ _).alloc (Nat.le_refl _) _
  have bx : BX w1 w.heap.size #[.int .i64 s.1, .int .i64 s.2] 29 := by rw [hw1]; exact BX.new w _ _
  have hq := h.below hb1
  have HS := hid (fun W (hb : Below w1.heap.size w1 W) => hq.seen W hb)
  have HL := hid (fun W (hb : Below w1.heap.size w1 W) => (hq.hc.below hb).look ts uC cl0 (zC W) hs)
  have HX := hid (fun W (hb : Below w1.heap.size w1 W) => (show W.cell? ⟨w.heap.size, 0, none⟩ = some (.int .i64 s.1) ∧ W.cell? ⟨w.heap.size, 1, none⟩ = some (.int .i64 s.2) from ⟨(bx.below hb).cell 0, (bx.below hb).cell 1⟩))
  have hcl := hq.cl s
  obtain ⟨⟨mo, l, m⟩, hc⟩ : ∃ c, Pf.look cl0 C s = c := ⟨_, rfl⟩
  rw [hc] at HL h1 hl hcl ⊢
  dsimp only at h1 hl
  have HR := hid (fun W (hb : Below w1.heap.size w1 W) => ranked_any (show MO TI vI W mo l from hcl.below hb) (by omega) 1)
  have HN := hid (fun W (hb : Below w1.heap.size w1 W) => (hcl.below hb).len)
  unfold RkPost at HR
  rw [all_at1 h1] at HR
  unfold TS vC at HL
  unfold sV
  dsimp only at HL HN
  have f2 := fld2 me mj mc
  have HM : Hid (mainC (l, m) = if m = true then (0, false) else match Pf.srt l with | [] => (0, false) | y :: _ => (y.1, true)) := rfl
  show Calls _ _ _ _ fun e w' => e = .returned (.tuple #[.int .i64 (mainC (l, m)).1, .bool (mainC (l, m)).2]) ∧ Below w.heap.size w w'
  obtain ⟨mx, hmx⟩ : ∃ x, mainC (l, m) = x := ⟨_, rfl⟩
  rw [hmx] at HM ⊢
  have HLn := hid (Pf.srt_len l)
  obtain ⟨S, hS⟩ : ∃ S, Pf.srt l = S := ⟨_, rfl⟩
  rw [hS] at HR HLn HM
  have HL4 := hid hl
  obtain ⟨n, hn⟩ : ∃ n, l.length = n := ⟨_, rfl⟩
  rw [hn] at HN HLn HL4
  obtain ⟨x0, x1⟩ := HX.out w1 (Below.refl _ _)
  have HBc : Hid (Below w1.heap.size w1 w1) := Below.refl _ _
  have HB1 := hid hb1
  have HW1 := hid hw1
  have HWs : Hid (w.heap.size < w1.heap.size) := bx.sz
  clear h hs h1 hl hb1 bx hq hcl hc hS hw1 hmx hn
  go_enter Try.func23, Try.ntmps23
  go_upto_region 1 with fail
  rw [← HW1.out]
  go_region_held3 (fun X => X.cell? ⟨w.heap.size, 0, none⟩ = some (.int .i64 s.1) ∧ X.cell? ⟨w.heap.size, 1, none⟩ = some (.int .i64 s.2))
    (first | exact ⟨x0, x1⟩ | exact HX.out _ (Below.setCell (Below.setCell HBc.out (Nat.le_refl _) _) (Nat.le_refl _) _) | go_keep)
    (first
      | (go_at_call 44; first
          | ((with_reducible refine (HS.out _ (by first | exact HBc.out | exact Below.drew HBc.out)).mono ?_); rintro e X ⟨rfl, hb⟩; have hbc := belows (show Below w1.heap.size w1 _ from (by first | exact HBc.out | exact Below.drew HBc.out)) hb (by first | exact HBc.out.size | exact (Below.drew HBc.out).size); clear HBc hb x0 x1; have HBc := hid hbc; clear hbc; obtain ⟨x0, x1⟩ := HX.out _ HBc.out; have lk := HL.out _ HBc.out; have lk2 := HL.out (X.alloc (.cells #[.map none, .bool false] 85)) (HBc.out.alloc HBc.out.size _))
          | (have hbd : Below w1.heap.size w1 ((w1.alloc (.cells #[.map none, .bool false] 85)).drew) := Below.drew ((Below.refl w1.heap.size w1).alloc (Nat.le_refl _) _); (with_reducible refine (HS.out _ hbd).mono ?_); rintro e X ⟨rfl, hb⟩; have hbc := belows hbd hb hbd.size; have HWb := hid (((BX.new w1 #[.map none, .bool false] 85).below (Below.drew (Below.refl _ _))).below hb); clear HBc hb hbd x0 x1; have HBc := hid hbc; clear hbc; obtain ⟨x0, x1⟩ := HX.out _ HBc.out; have lk := HL.out _ HBc.out; have r0 : X.cell? ⟨w1.heap.size, 0, none⟩ = some (.map none) := HWb.out.cell 0; have r1 : X.cell? ⟨w1.heap.size, 1, none⟩ = some (.bool false) := HWb.out.cell 1; have g0 : X.frozen? ⟨w1.heap.size, 0, none⟩ = false := HWb.out.frozen 0; have g1 : X.frozen? ⟨w1.heap.size, 1, none⟩ = false := HWb.out.frozen 1; have gz := HWb.out.sz)))
  all_goals
    go_upto_region 2 with fail
    refine region_named fun W2 hW2 => ?_
    have HBw : Hid (Below w1.heap.size w1 W2) := by
      show Below _ _ _
      rw [hW2]
      first
        | exact Below.setCell (Below.setCell HBc.out (Nat.le_refl _) _) (Nat.le_refl _) _
        | exact HBc.out.alloc HBc.out.size _
    first
      | (have hbx : BX W2 X.heap.size #[.map mo, .bool m] 85 := (by rw [hW2]; exact BX.new X _ _); have y0 : W2.cell? ⟨X.heap.size, 0, none⟩ = some (.map mo) := hbx.cell 0; have y1 : W2.cell? ⟨X.heap.size, 1, none⟩ = some (.bool m) := hbx.cell 1; clear hbx; (try (clear lk2)))
      | (have hbx : BX W2 w1.heap.size #[.map mo, .bool m] 85 := (by rw [hW2]; exact box_set (box_set HWb.out 0 (.map mo)) 1 (.bool m)); have y0 : W2.cell? ⟨w1.heap.size, 0, none⟩ = some (.map mo) := hbx.cell 0; have y1 : W2.cell? ⟨w1.heap.size, 1, none⟩ = some (.bool m) := hbx.cell 1; clear hbx r0 r1 g0 g1; (try (clear gz HWb)))
    have ln := HN.out W2 HBw.out
    clear hW2 x0 x1 HBc
    try (clear lk)
    cases m
    · cases S with
      | nil =>
        obtain rfl : n = 0 := by have := HLn.out; simpa using this.symm
        have hx : mx = (0, false) := HM.out
        subst hx
        go_wp2
        go_ret2
        exact ⟨rfl, belows HB1.out HBw.out HB1.out.size⟩
      | cons y t =>
        have hx : mx = (y.1, true) := HM.out
        subst hx
        have hn0 : ((n : Int) == 0) = false := by have := HLn.out; simp only [List.length_cons] at this; simp; omega
        obtain ⟨k, q⟩ := y
        go_wp2_with (go_at_call 45; go_loud (refine (HR.out _ HBw.out).mono ?_; rintro e W3 ⟨v1, rfl, ho, hb⟩; obtain ⟨g, cap, hv, hg1, hg2, c0, c1⟩ := RwR.at ho (k := 0) (x := (k, q)) rfl; subst hv; have hpos : (0 : Int) < (((k, q) :: t).length : Int) := (by simp only [List.length_cons]; omega); rw [Nat.zero_mul] at c0 c1; have HB3 := hid (belows HBw.out hb HBw.out.size); clear ho hb hg1))
        go_ret2
        exact ⟨rfl, belows HB1.out HB3.out HB1.out.size⟩
    · have hx : mx = (0, false) := HM.out
      subst hx
      go_wp2
      go_ret2
      exact ⟨rfl, belows HB1.out HBw.out HB1.out.size⟩
end
end Go.Proofs.Ytfphiomhlhpphaa
namespace Go.Proofs.Ytfphiomhlhpphaa
open Go Go.RowKit
open Pf (Site Sn ix addk alt keys)
set_option maxRecDepth 100000
set_option maxHeartbeats 2000000
/-- A call's classes laid anew. -/
def IV.setC (p : IV) (s : Site) (b : Nat) (c : List Sn × Bool) : IV := { p with C := alt cl0 p.C s (fun _ => (some b, c)) }
def CallP (w : World) (base pb : Nat) (p : IV) (s : Site) (k : Int) (e : Ending) (w' : World) : Prop :=
  e = .returned (.int .i64 (Pf.kind (Pf.cnt (p.st.ca s) k 1))) ∧ ∃ b, PP w' base pb (p.setC s b (Pf.cnt (p.st.ca s) k 1)) ∧ Chg (fun i => i = p.cb ∨ (Pf.look cl0 p.C s).1 = some i) w w' ∧ ((Pf.look cl0 p.C s).1 = some b ∨ ((Pf.look cl0 p.C s).1 = none ∧ w.heap.size ≤ b))
theorem IP.clb {w : World} {base : Nat} {p : IV} (h : IP w base p) {s : Site} {b : Nat} (e : (Pf.look cl0 p.C s).1 = some b) : p.foot b := by
  by_cases hk : s ∈ keys p.C
  · exact .inr (.inr (.inr (.inr ⟨_, Pf.mem_look_iff (d := cl0) h.mc.nd hk, e⟩)))
  · rw [Pf.look_not hk] at e
    cases e
section
variable {w : World} {base pb : Nat} {p : IV}
theorem callp_yes (h : PP w base pb p) (hw : base ≤ w.heap.size) {s : Site} (hs : TS.ok s) {k : Int} (hk : I8 k) (hok : Pf.OkC (p.st.ca s)) (hl : p.C.length < maxLen) : Calls Try.prog 14 #[.pointer (some ⟨pb, 0, none⟩), sV s, .int .i64 k] w (CallP w base pb p s k) := by
  obtain ⟨w1, hw1⟩ : ∃ w1, w1 = w.alloc (.cells #[.int .i64 s.1, .int .i64 s.2] 29) := ⟨_, rfl⟩
  have hb1 : Below w.heap.size w w1 := by rw [hw1]; exact (Below.refl _ _).alloc (Nat.le_refl _) _
  have bx : BX w1 w.heap.size #[.int .i64 s.1, .int .i64 s.2] 29 := by rw [hw1]; exact BX.new w _ _
  have h1 := h.below hb1
  have HM := hid (made_yes h1)
  have HA := hid (fun W (hb : Below w1.heap.size w1 W) => call_any (h1.has.below hb) (Nat.le_trans hw (Nat.le_trans hb1.size hb.size)) hs hk Pf.bd1 hok hl)
  have HK := hid (fun W X (hb : Below w1.heap.size w1 W) (hc : Chg (fun i => i = p.cb ∨ (Pf.look cl0 p.C s).1 = some i) W X) => (show X.cell? ⟨pb, 0, none⟩ = some (.pointer (some ⟨p.ib, 0, none⟩)) ∧ X.cell? ⟨w.heap.size, 0, none⟩ = some (.int .i64 s.1) ∧ X.cell? ⟨w.heap.size, 1, none⟩ = some (.int .i64 s.2) from by
    have n1 : ¬ (pb = p.cb ∨ (Pf.look cl0 p.C s).1 = some pb) := fun e => h1.off (e.elim (fun e => .inr (.inr (.inr (.inl e)))) (fun e => h1.has.clb e))
    have n2 : ¬ (w.heap.size = p.cb ∨ (Pf.look cl0 p.C s).1 = some w.heap.size) := fun e => by
      have := h.has.lt w.heap.size (e.elim (fun e => .inr (.inr (.inr (.inl e)))) (fun e => h.has.clb e))
      omega
    exact ⟨((h1.box.below hb).chg hc n1).cell 0, ((bx.below hb).chg hc n2).cell 0, ((bx.below hb).chg hc n2).cell 1⟩))
  have HKd := hid (fun X p' (hX : PP X base pb p') => kindp_any hX.sees hs)
  have x0 : w1.cell? ⟨pb, 0, none⟩ = some (.pointer (some ⟨p.ib, 0, none⟩)) := h1.box.cell 0
  have x2 : w1.cell? ⟨w.heap.size, 0, none⟩ = some (.int .i64 s.1) := bx.cell 0
  have x3 : w1.cell? ⟨w.heap.size, 1, none⟩ = some (.int .i64 s.2) := bx.cell 1
  have HW1 := hid hw1
  have HB1 := hid hb1
  have HH := hid h
  have HH1 := hid h1
  unfold CallI at HA
  unfold sV at HA HKd ⊢
  clear h hs hk hok hl hw1 hb1 bx h1 hw
  go_enter Try.func14, Try.ntmps14
  go_upto_region 1 with fail
  rw [← HW1.out]
  go_upto_region 3 with (go_at_call 40; refine HM.out.mono ?_; rintro e w1 ⟨rfl, rfl⟩)
  go_region_held3 (fun X => X.cell? ⟨pb, 0, none⟩ = some (.pointer (some ⟨p.ib, 0, none⟩)) ∧ X.cell? ⟨w.heap.size, 0, none⟩ = some (.int .i64 s.1) ∧ X.cell? ⟨w.heap.size, 1, none⟩ = some (.int .i64 s.2))
    (first | exact ⟨x0, x2, x3⟩ | go_keep)
    (first | (go_at_call 43; refine (HA.out _ (by repeat' first | with_reducible exact Below.refl _ _ | with_reducible assumption | with_reducible refine belows_drewN ?_ _ | with_reducible refine Below.drew ?_ | with_reducible refine Below.setCell ?_ ?_ _ | with_reducible refine Below.alloc ?_ ?_ _ | omega | (simp; done) | (simp; omega))).mono ?_; rintro e w4 ⟨rfl, b, hi4, hc4, hb4⟩; obtain ⟨y0, y2, y3⟩ := HK.out _ _ (by repeat' first | with_reducible exact Below.refl _ _ | with_reducible assumption | with_reducible refine belows_drewN ?_ _ | with_reducible refine Below.drew ?_ | with_reducible refine Below.setCell ?_ ?_ _ | with_reducible refine Below.alloc ?_ ?_ _ | omega | (simp; done) | (simp; omega)) hc4; have HQ := hid (And.intro hi4 hb4); have HC4 : Hid (Chg (fun i => i = p.cb ∨ (Pf.look cl0 p.C s).1 = some i) w1 w4) := (Chg.of_below (show Below w1.heap.size w1 _ from (by repeat' first | with_reducible exact Below.refl _ _ | with_reducible assumption | with_reducible refine belows_drewN ?_ _ | with_reducible refine Below.drew ?_ | with_reducible refine Below.setCell ?_ ?_ _ | with_reducible refine Below.alloc ?_ ?_ _ | omega | (simp; done) | (simp; omega)))).trans hc4 (fun i e => .inl e); clear hi4 hc4 hb4 x0 x2 x3; have x0 := y0; have x2 := y2; have x3 := y3; clear y0 y2 y3))
  have hcw : Chg (fun i => i = p.cb ∨ (Pf.look cl0 p.C s).1 = some i) w w4 := (Chg.of_below HB1.out).trans HC4.out (fun i e => .inl e)
  have hpp : PP w4 base pb (p.setC s b (Pf.cnt (p.st.ca s) k 1)) := ⟨HH.out.box.chg hcw (fun e => HH.out.off (e.elim (fun e => .inr (.inr (.inr (.inl e)))) (fun e => HH.out.has.clb e))), by have := HQ.out.1; rw [Pf.alt_const] at this; exact this, HH.out.low⟩
  have HP := hid hpp
  have HCw := hid hcw
  have HKk := hid (HKd.out w4 _ hpp)
  have HE : Hid (Pf.look cl0 (p.setC s b (Pf.cnt (p.st.ca s) k 1)).C s = (some b, Pf.cnt (p.st.ca s) k 1)) := by show Pf.look cl0 (alt cl0 p.C s _) s = _; rw [Pf.look_alt, if_pos rfl]
  rw [HE.out] at HKk
  clear hcw hpp
  go_wp2_with (go_at_call 18; refine HKk.out.mono ?_; rintro e w5 ⟨rfl, hb5⟩; have HB5 := hid hb5; clear hb5)
  go_ret
  refine ⟨rfl, b, HP.out.below HB5.out, HCw.out.below HB5.out, ?_⟩
  have := HQ.out.2
  have hz := HB1.out.size
  exact this.imp_right fun ⟨e, l⟩ => ⟨e, Nat.le_trans hz (Nat.le_trans (Below.size (show Below w1.heap.size w1 _ from (by repeat' first | with_reducible exact Below.refl _ _ | with_reducible assumption | with_reducible refine belows_drewN ?_ _ | with_reducible refine Below.drew ?_ | with_reducible refine Below.setCell ?_ ?_ _ | with_reducible refine Below.alloc ?_ ?_ _ | omega | (simp; done) | (simp; omega)))) l)⟩
end
end Go.Proofs.Ytfphiomhlhpphaa
namespace Go.Proofs.Ytfphiomhlhpphaa
open Go Go.RowKit
open Pf (Site Sn ix addk alt keys)
set_option maxRecDepth 100000
set_option maxHeartbeats 2000000
theorem more_ge {y n : Int} (h : Pf.Bd y) (hn : 1 ≤ n ∧ n ≤ Pf.M) : 1 ≤ Pf.more y n ∧ Pf.more y n ≤ Pf.M := by
  unfold Pf.Bd Pf.more Pf.M at *
  split <;> omega
theorem bd_of {n : Int} (h : 1 ≤ n ∧ n ≤ Pf.M) : Pf.Bd n := ⟨by omega, h.2⟩
section
variable {p : IV} {n : Nat}
theorem bd_look {κ : Type} [DecidableEq κ] {L : List (κ × Int)} (h : (keys L).Nodup) (hb : ∀ x ∈ L, 1 ≤ x.2 ∧ x.2 ≤ Pf.M) (k : κ) : Pf.Bd (Pf.look 0 L k) := by
  by_cases hk : k ∈ keys L
  · exact bd_of (hb _ (Pf.mem_look_iff (d := (0 : Int)) h hk))
  · rw [Pf.look_not hk]
    exact Pf.bd0
theorem alt_bd {κ : Type} [DecidableEq κ] {L : List (κ × Int)} (h : (keys L).Nodup) (hb : ∀ x ∈ L, 1 ≤ x.2 ∧ x.2 ≤ Pf.M) (k : κ) {m : Int} (hm : 1 ≤ m ∧ m ≤ Pf.M) : ∀ x ∈ alt 0 L k (fun y => Pf.more y m), 1 ≤ x.2 ∧ x.2 ≤ Pf.M := by
  intro x hx
  rw [Pf.alt_const] at hx
  rcases alt_is h hx with ⟨-, e⟩ | ⟨-, hx⟩
  · rw [e]
    exact more_ge (bd_look h hb k) hm
  · exact hb x hx
theorem cl_ok (h : OkP p n) (hd : (keys p.C).Nodup) (s : Site) : Pf.OkC (p.st.ca s) ∧ ∀ y ∈ (p.st.ca s).1, 1 ≤ y.2 := by
  show Pf.OkC (Pf.look cl0 p.C s).2 ∧ ∀ y ∈ (Pf.look cl0 p.C s).2.1, 1 ≤ y.2
  by_cases hk : s ∈ keys p.C
  · have := h.bc _ (Pf.mem_look_iff (d := cl0) hd hk)
    exact ⟨this.1, this.2.2⟩
  · rw [Pf.look_not hk]
    exact ⟨Pf.okC0, fun y hy => by cases hy⟩
theorem cnt_fine {c : List Sn × Bool} {k m : Int} (h : Pf.OkC c) (h1 : ∀ y ∈ c.1, 1 ≤ y.2) (hm : 1 ≤ m ∧ m ≤ Pf.M) : Pf.OkC (Pf.cnt c k m) ∧ (Pf.cnt c k m).1 ≠ [] ∧ ∀ y ∈ (Pf.cnt c k m).1, 1 ≤ y.2 := by
  refine ⟨Pf.okC_cnt h (bd_of hm), ?_⟩
  unfold Pf.cnt
  by_cases hk : k ∈ keys c.1 ∨ c.1.length < 4
  · rw [if_pos hk]
    refine ⟨fun e => ?_, fun y hy => ?_⟩
    · have := (Pf.keys_alt_mem (d := (0 : Int)) (l := c.1) (k := k) (j := k) (g := fun y => Pf.more y m)).2 (.inr rfl)
      rw [show alt 0 c.1 k (fun y => Pf.more y m) = [] from e] at this
      cases this
    · have hb : ∀ x ∈ c.1, 1 ≤ x.2 ∧ x.2 ≤ Pf.M := fun x hx => ⟨h1 x hx, (h.bd x hx).2⟩
      exact (alt_bd h.nd hb k hm y hy).1
  · rw [if_neg hk]
    refine ⟨fun e => ?_, h1⟩
    rw [show c.1 = [] from e] at hk
    exact hk (.inr (by decide))
theorem OkP.ok (h : OkP p n) (he : (keys p.E).Nodup) (hj : (keys p.J).Nodup) (hc : (keys p.C).Nodup) : Pf.Ok p.st := ⟨bd_look he h.be, bd_look hj h.bj, fun s => (cl_ok h hc s).1⟩
theorem OkP.enter (h : OkP p n) (he : (keys p.E).Nodup) (f : Int) : OkP { p with E := alt 0 p.E f (fun y => Pf.more y 1) } (n + 1) :=
  ⟨alt_bd he h.be f ⟨by decide, by decide⟩, h.bj, h.bc, Nat.le_trans (Pf.alt_le p.E f _).2 (Nat.succ_le_succ h.le), Nat.le_succ_of_le h.lj, Nat.le_succ_of_le h.lc⟩
theorem OkP.back (h : OkP p n) (he : (keys p.J).Nodup) (s : Site) : OkP { p with J := alt 0 p.J s (fun y => Pf.more y 1) } (n + 1) :=
  ⟨h.be, alt_bd he h.bj s ⟨by decide, by decide⟩, h.bc, Nat.le_succ_of_le h.le, Nat.le_trans (Pf.alt_le p.J s _).2 (Nat.succ_le_succ h.lj), Nat.le_succ_of_le h.lc⟩
theorem OkP.setC (h : OkP p n) (hc : (keys p.C).Nodup) (s : Site) (b : Nat) {c : List Sn × Bool} (h1 : Pf.OkC c ∧ c.1 ≠ [] ∧ ∀ y ∈ c.1, 1 ≤ y.2) : OkP (p.setC s b c) (n + 1) :=
  ⟨h.be, h.bj, fun x hx => (alt_is hc hx).elim (fun e => by rw [e.2]; exact h1) (fun e => h.bc x e.2), Nat.le_succ_of_le h.le, Nat.le_succ_of_le h.lj, Nat.le_trans (Pf.alt_le p.C s _).2 (Nat.succ_le_succ h.lc)⟩
theorem OkP.mono (h : OkP p n) {m : Nat} (hm : n ≤ m) : OkP p m := ⟨h.be, h.bj, h.bc, Nat.le_trans h.le hm, Nat.le_trans h.lj hm, Nat.le_trans h.lc hm⟩
theorem st_enter (p : IV) (f : Int) : IV.st { p with E := alt 0 p.E f (fun y => Pf.more y 1) } = p.st.enter f := by
  show (⟨_, _, _⟩ : Pf.St) = ⟨_, _, _⟩
  congr 1
  funext g
  show Pf.look 0 (alt 0 p.E f _) g = _
  rw [Pf.look_alt]
  rfl
theorem st_setC (p : IV) (s : Site) (b : Nat) (k m : Int) : (p.setC s b (Pf.cnt (p.st.ca s) k m)).st = p.st.call s k m := by
  show (⟨_, _, _⟩ : Pf.St) = ⟨_, _, _⟩
  congr 1
  funext y
  show (Pf.look cl0 (alt cl0 p.C s _) y).2 = if y = s then _ else _
  rw [Pf.look_alt]
  by_cases e : y = s
  · rw [if_pos e, if_pos e]
  · rw [if_neg e, if_neg e]
    rfl
end
/-- A profile gone on with: what it has counted now; of what there was it has written its own blocks alone. -/
def Step (w w' : World) (base pb : Nat) (p : IV) (n : Nat) (t : Pf.St) : Prop := ∃ p', PP w' base pb p' ∧ OkP p' n ∧ p'.st = t ∧ Chg p.foot w w' ∧ ∀ i, p'.foot i → p.foot i ∨ w.heap.size ≤ i
section
variable {w : World} {base pb n : Nat} {p : IV}
theorem enterS (h : PP w base pb p) (ok : OkP p n) (hn : n < 2000000000000) {f : Int} (hf : I8 f) : Calls Try.prog 12 #[.pointer (some ⟨pb, 0, none⟩), .int .i64 f] w fun e w' =>
    e = .returned (.int .i64 (Pf.more (p.st.en f) 1)) ∧ Step w w' base pb p (n + 1) (p.st.enter f) := by
  refine (enter_yes h hf (bd_look h.has.me.nd ok.be f) (by have := ok.le; unfold maxLen; omega)).mono ?_
  rintro e w' ⟨rfl, h1, h2⟩
  exact ⟨rfl, _, h1, ok.enter h.has.me.nd f, st_enter p f, h2.mono (fun i _ e => .inr (.inl e)), fun i hi => .inl hi⟩
theorem setC_foot {s : Site} {b : Nat} {c : List Sn × Bool} (hd : (keys p.C).Nodup) {i : Nat} (hi : (p.setC s b c).foot i) : p.foot i ∨ i = b := by
  rcases hi with e | e | e | e | ⟨x, hx, e⟩
  · exact .inl (.inl e)
  · exact .inl (.inr (.inl e))
  · exact .inl (.inr (.inr (.inl e)))
  · exact .inl (.inr (.inr (.inr (.inl e))))
  · rcases alt_is hd hx with ⟨-, e2⟩ | ⟨-, hx⟩
    · rw [e2] at e
      exact .inr (Option.some.inj e).symm
    · exact .inl (.inr (.inr (.inr (.inr ⟨x, hx, e⟩))))
theorem callS (h : PP w base pb p) (hw : base ≤ w.heap.size) (ok : OkP p n) (hn : n < 2000000000000) {s : Site} (hs : TS.ok s) {k : Int} (hk : I8 k) : Calls Try.prog 14 #[.pointer (some ⟨pb, 0, none⟩), sV s, .int .i64 k] w fun e w' =>
    e = .returned (.int .i64 (Pf.kind (Pf.cnt (p.st.ca s) k 1))) ∧ Step w w' base pb p (n + 1) (p.st.call s k 1) := by
  have hc := cl_ok ok h.has.mc.nd s
  refine (callp_yes h hw hs hk hc.1 (by have := ok.lc; unfold maxLen; omega)).mono ?_
  rintro e w' ⟨rfl, b, h1, h2, h3⟩
  refine ⟨rfl, _, h1, ok.setC h.has.mc.nd s b (cnt_fine hc.1 hc.2 ⟨by decide, by decide⟩), st_setC p s b k 1, h2.mono (fun i _ e => e.elim (fun e => .inr (.inr (.inr (.inl e)))) (fun e => h.has.clb e)), fun i hi => ?_⟩
  rcases setC_foot h.has.mc.nd hi with e | rfl
  · exact .inl e
  · exact h3.imp (fun e => h.has.clb e) (fun e => e.2)
theorem mainS (h : PP w base pb p) (ok : OkP p n) {s : Site} (hs : TS.ok s) : Calls Try.prog 23 #[.pointer (some ⟨pb, 0, none⟩), sV s] w fun e w' => e = .returned (.tuple #[.int .i64 (mainC (p.st.ca s)).1, .bool (mainC (p.st.ca s)).2]) ∧ Below w.heap.size w w' :=
  main_any h.sees hs (cl_ok ok h.has.mc.nd s).2 (cl_ok ok h.has.mc.nd s).1.ln
theorem newS (w : World) : Calls Try.prog 7 #[] w fun e w' => ∃ (pb : Nat) (p : IV), e = .returned (.pointer (some ⟨pb, 0, none⟩)) ∧ PP w' w.heap.size pb p ∧ OkP p 0 ∧ p.st = Pf.st0 ∧ Below w.heap.size w w' := by
  refine (new_any w).mono ?_
  rintro e w' ⟨pb, p, h1, h2, h3, rfl, h4, h5⟩
  obtain ⟨ib, eb, jb, cb, E, J, C⟩ := p
  dsimp only at h1 h2 h3
  subst h1 h2 h3
  exact ⟨pb, _, rfl, h4, ⟨(fun x hx => by cases hx), (fun x hx => by cases hx), (fun x hx => by cases hx), Nat.le_refl _, Nat.le_refl _, Nat.le_refl _⟩, rfl, h5⟩
end
end Go.Proofs.Ytfphiomhlhpphaa
namespace Go.Proofs.Ytfphiomhlhpphaa
open Go Go.RowKit
open Pf (Site Sn ix addk alt keys)

attribute [local go_sem] Oper.semAt_some

theorem abides_new {β : Type} {B : Nat} {J : β → World → Prop} (h : AbidesFrom B J) {s : β} {W W' : World} (hs : J s W) (hb : Below W.heap.size W W') : J s W' :=
  h s W W' none hs ⟨hb.os, hb.tape, hb.output, hb.size, fun i hi _ => hb.block i hi⟩ (fun r e => by cases e)
/-- Blocks that stay as they are. -/
def Ks (S : Nat → Prop) (A B : World) : Prop := A.heap.size ≤ B.heap.size ∧ ∀ k, S k → B.heap[k]? = A.heap[k]?
theorem Ks.refl (S : Nat → Prop) (A : World) : Ks S A A := ⟨Nat.le_refl _, fun _ _ => rfl⟩
theorem Ks.trans {S : Nat → Prop} {A B C : World} (h : Ks S A B) (k : Ks S B C) : Ks S A C := ⟨Nat.le_trans h.1 k.1, fun i h1 => (k.2 i h1).trans (h.2 i h1)⟩
theorem Ks.below {S : Nat → Prop} {n : Nat} {A B C : World} (h : Ks S A B) (hb : Below n B C) (hn : ∀ k, S k → k < n) : Ks S A C := h.trans ⟨hb.size, fun i h2 => hb.block i (hn i h2)⟩
theorem Ks.putObj {S : Nat → Prop} {w : World} (hn : ∀ k, S k → k < w.heap.size) (W : World) (l : Nat) (o o' : Obj) (hl : w.heap.size ≤ l) (h : W.heap[l]? = some o) (_ : o.isCells = false) (_ : o.isWalk = false) : Ks S W (W.putObj l o') :=
  ⟨(grownBy_putObj' W l o').size, fun i hi => (grownBy_putObj' W l o').block i (by have := hn i hi; have := (Array.getElem?_eq_some_iff.1 h).1; omega) (fun e => by cases e; have := hn _ hi; omega)⟩
/-- A number that is told, and its place. -/
abbrev Tx (l : List Int) := { x : Nat × Int // l[x.1]? = some x.2 }
/-- What is told: the first so many. -/
def told (l : List Int) : Nat → List (Tx l)
  | 0 => []
  | k + 1 => told l k ++ (match h : l[k]? with | some c => [⟨(k, c), h⟩] | none => [])
theorem told_yes {l : List Int} {k : Nat} {c : Int} (h : l[k]? = some c) : told l (k + 1) = told l k ++ [⟨(k, c), h⟩] := by
  show told l k ++ _ = _
  congr 1
  split
  · rename_i d hd
    obtain rfl := Option.some.inj (hd.symm.trans h)
    rfl
  · rename_i hd
    rw [hd] at h
    cases h
theorem told_len (l : List Int) : ∀ k, k ≤ l.length → (told l k).length = k
  | 0, _ => rfl
  | k + 1, h => by
    have hk : l[k]? = some l[k] := List.getElem?_eq_getElem (by omega)
    rw [told_yes hk, List.length_append, told_len l k (by omega)]
    rfl
theorem told_last {l : List Int} {k : Nat} {pre : List (Tx l)} {x : Tx l} (hk : k ≤ l.length) (h : told l k = pre ++ [x]) : x.1.1 = pre.length := by
  cases k with
  | zero =>
    have := congrArg List.length h
    simp [told] at this
  | succ k =>
    have h1 : l[k]? = some l[k] := List.getElem?_eq_getElem (by omega)
    rw [told_yes h1] at h
    obtain ⟨e1, e2⟩ := List.append_inj' h rfl
    have e3 := told_len l k (by omega)
    rw [e1] at e3
    simp only [List.cons.injEq, and_true] at e2
    rw [← e2]
    exact e3.symm
def entE {l : List Int} (x : Tx l) : Array Value := #[.int .i64 x.1.2]
set_option maxRecDepth 100000 in
set_option maxHeartbeats 1000000 in
theorem hot1_stops (Rw : List Sn) (v : Value) (S : Nat → Prop) (Bs n : Nat) (w : World) (hn : 1 ≤ n) (hhi : ∀ k, S k → k < w.heap.size) (hln : Rw.length < 1000000000000000) (hb : ∀ X, Ks S w X → Kit.IsS 2 X v Rw.length (Rw.flatMap evL) ∧ X.cell? ⟨Bs, 0, none⟩ = some v) :
    SeqStopsK Fence.wide n Try.prog 51 #[.pointer (some ⟨Bs, 0, none⟩)] entE (Ks S) (fun ys => ys = told (Rw.map (·.1)) (Rw.map (·.1)).length) (fun ys => ∃ k, k ≤ (Rw.map (·.1)).length ∧ ys = told (Rw.map (·.1)) k) (Rw.map (·.1)).length w := fun D J Jx W hW hJ _ hY h0 => by
  have HB := hid hb
  have HMl : Hid ((Rw.map (·.1)).length = Rw.length) := List.length_map _
  obtain ⟨a, cap, hv⟩ := (hb w (Ks.refl _ _)).1.len
  subst hv
  have hKW : Ks S w W := (Ks.refl _ _).below hW hhi
  have hcW := (hb W hKW).2
  have HHi := hid (fun k h => Nat.lt_of_lt_of_le (hhi k h) hW.size)
  clear hb hhi
  refine callsIn_of_wp Try.func51 rfl trivial ?_ rfl
  simp only [Try.ntmps51, List.size_toArray, List.length_cons, List.length_nil, Nat.reduceAdd, Nat.reduceSub, Array.replicate_succ, Array.replicate_zero, List.push_toArray, List.append_toArray, List.nil_append, List.cons_append]
  gi_wp2
  gi_loopw [7] (fun i wr => ∃ k : Nat, k ≤ Rw.length ∧ i = .int .i64 k ∧ J (told (Rw.map (·.1)) k) wr ∧ W.heap.size ≤ wr.heap.size ∧ Ks S w wr) (fun i _ => Rw.length - (intOf i).toNat)
  case atStart => exact ⟨0, by omega, rfl, h0, Nat.le_refl _, hKW⟩
  case round =>
    obtain ⟨k, hk, rfl, hJs, hzW, hbl⟩ := hrel
    have hzr := hbl.1
    by_cases hlt : k < Rw.length
    · obtain ⟨⟨c, m⟩, hx⟩ : ∃ x, Rw[k]? = some x := ⟨Rw[k], List.getElem?_eq_getElem hlt⟩
      have hx2 : (Rw.map (·.1))[k]? = some c := by rw [List.getElem?_map, hx]; rfl
      obtain ⟨b, o, cap', hv, -, hbb, hcs⟩ := (HB.out wr hbl).1.some (by omega)
      obtain ⟨rfl, -, rfl⟩ := Value.slice.inj hv
      have c0 : wr.cell? ⟨b, o + k * 2, none⟩ = some (.int .i64 c) := hcs (k * 2) _ (Kit.flat_at evL_len hx 0 (by omega))
      have c1 : wr.cell? ⟨b, o + k * 2 + 1, none⟩ = some (.int .i64 m) := hcs (k * 2 + 1) _ (Kit.flat_at evL_len hx 1 (by omega))
      have hki : (k : Int) < (Rw.length : Int) := by omega
      have HT := hid (told_yes hx2)
      have hln2 : (told (Rw.map (·.1)) k).length < (Rw.map (·.1)).length := by rw [told_len _ k (by rw [HMl.out]; exact hk), HMl.out]; omega
      have hba : Below wr.heap.size wr (wr.alloc (.cells #[.int .i64 c, .int .i64 m] 87)) := (Below.refl _ _).alloc (Nat.le_refl _) _
      have hJ2 := abides_new hJ hJs hba
      have HY := hid (hY (told (Rw.map (·.1)) k) ⟨(k, c), hx2⟩ _ hJ2 hln2)
      have HK2 := hid (hbl.below hba (fun i hi => Nat.lt_of_lt_of_le (HHi.out i hi) hzW))
      have HZ2 : Hid (W.heap.size ≤ (wr.alloc (.cells #[.int .i64 c, .int .i64 m] 87)).heap.size) := Nat.le_trans hzW hba.size
      clear hv hcs hba hJ2 hJs hln2
      obtain ⟨fn, tmps, assign, body, hy, hR⟩ := HY.out
      unfold entE at hy
      dsimp only at hy
      gi_wp2
      refine hR.mono ?_
      rintro e W3 (⟨rfl, hJ3, hk3⟩ | ⟨rfl, hJx3⟩)
      · gi_wp2
        go_roundw
        case rel => exact ⟨k + 1, by omega, by go_num, by rw [HT.out]; exact hJ3, Nat.le_trans HZ2.out hk3.1, HK2.out.trans hk3⟩
        case measure => simp [intOf]; omega
      · gi_wp2
        refine bodyPost_ret (results_none rfl _ _ _) rfl ?_
        exact ⟨⟨_, rfl⟩, .inr ⟨_, ⟨k + 1, by rw [HMl.out]; omega, HT.out.symm⟩, hJx3⟩⟩
    · obtain rfl : k = Rw.length := by omega
      gi_wp2
      refine bodyPost_end (results_none rfl _ _ _) rfl ?_
      exact ⟨⟨_, rfl⟩, .inl ⟨_, rfl, by rw [HMl.out]; exact hJs⟩⟩
end Go.Proofs.Ytfphiomhlhpphaa
namespace Go.Proofs.Ytfphiomhlhpphaa
open Go Go.RowKit
open Pf (Site Sn ix addk alt keys)
attribute [local go_sem] Oper.semAt_some
theorem Ks.set {S : Nat → Prop} {A B : World} {b : Nat} (h : Ks S A B) (hp : ¬ S b) (u : Value) : Ks S A (B.setCell ⟨b, 0, none⟩ u) :=
  h.trans ⟨(set_grown B b 0 u).size, fun i hi => Below.heap_setCell _ _ _ i (fun e => hp (by have e2 : i = b := e; rw [← e2]; exact hi))⟩
def intV (l : List Int) : List Value := l.map (Value.int .i64)
theorem intV_at {l : List Int} {k : Nat} {c : Int} (h : l[k]? = some c) : (intV l)[k]? = some (.int .i64 c) := by unfold intV; rw [List.getElem?_map, h]; rfl
/-- Where the law's loop stands. -/
def TeJ {l : List Int} (v : Value) (hi : Nat) (w : World) (pre : List (Tx l)) (W : World) : Prop :=
  Boxed W w.heap.size 71 v ∧ Boxed W (w.heap.size + 1) 4 (.bool false) ∧ Boxed W (w.heap.size + 1 + 1) 3 (.int .i64 (pre.length : Nat)) ∧ Below w.heap.size w W ∧ hi ≤ W.heap.size
theorem TeJ.own {l : List Int} {v : Value} {hi n : Nat} {w : World} (hn : w.heap.size ≤ n) : OwnFrom n (TeJ (l := l) v hi w) := by
  rintro pre A B row ⟨h0, h2, h3, h5, h6⟩ hg hr
  exact ⟨boxed_own _ _ (fun _ : Unit => v) () A B row h0 hg (fun r e => (hr r e).2), boxed_own _ _ (fun _ : Unit => .bool false) () A B row h2 hg (fun r e => (hr r e).2), boxed_own _ _ (fun _ : Unit => .int .i64 (pre.length : Nat)) () A B row h3 hg (fun r e => (hr r e).2), h5.grown hg h5.size (fun k e => by have := (hr k e).1; omega), Nat.le_trans h6 hg.size⟩
/-- Where it stands when it stops. -/
def TeX {l : List Int} (w : World) (pre : List (Tx l)) (W : World) : Prop :=
  Hid (∃ b : Bool, Boxed W (w.heap.size + 1) 4 (.bool b) ∧ (b = false → ∃ p x, pre = p ++ [x] ∧ x.1.1 ≠ p.length)) ∧ Below w.heap.size w W
theorem TeX.own {l : List Int} {n : Nat} {w : World} (hn : w.heap.size ≤ n) : OwnFrom n (TeX (l := l) w) := by
  rintro pre A B row ⟨⟨b, h1, h2⟩, h7⟩ hg hr
  exact ⟨⟨b, boxed_own _ _ (fun _ : Unit => .bool b) () A B row h1 hg (fun r e => (hr r e).2), h2⟩, h7.grown hg h7.size (fun k e => by have := (hr k e).1; omega)⟩
theorem TeX.is {l : List Int} {w W : World} {k : Nat} (hk : k ≤ l.length) (h : TeX w (told l k) W) : Boxed W (w.heap.size + 1) 4 (.bool true) ∧ Below w.heap.size w W := by
  obtain ⟨⟨b, h1, h2⟩, h7⟩ := h
  refine ⟨?_, h7⟩
  cases b with
  | true => exact h1
  | false =>
    obtain ⟨p, x, h3, h4⟩ := h2 rfl
    exact absurd (told_last hk h3) h4
set_option maxRecDepth 100000 in
set_option maxHeartbeats 4000000 in
theorem told_any (Rw : List Sn) (l : List Int) (ov v : Value) (Bs : Nat) (w : World) (hl : l = Rw.map (·.1)) (hit : ∀ X, Ks (fun k => k < w.heap.size) w X → Kit.IsS 2 X ov Rw.length (Rw.flatMap evL) ∧ X.cell? ⟨Bs, 0, none⟩ = some ov) (hv : Kit.IsS 1 w v l.length (intV l)) (hn : Rw.length < 1000000000000000) :
    Calls Try.prog 24 #[.func (.func 51) #[] #[.pointer (some ⟨Bs, 0, none⟩)], v] w fun e w' => e = .returned (.bool true) ∧ Below w.heap.size w w' := by
  have HV := hid (fun W (h : Below w.heap.size w W) => hv.below h (Nat.le_refl _))
  obtain ⟨a, cap, hv2⟩ := hv.len
  subst hv2
  have hlR : l.length = Rw.length := by rw [hl, List.length_map]
  have hlen : l.length < 1000000000000000 := by omega
  have HIT := hid hit
  have HRn := hid hn
  have HLl := hid hl
  clear hv hit hlR hn hl
  refine (callsIn_wide (n := 5)).1 ?_
  refine callsIn_of_wp_marks Try.func24 rfl trivial ?_ rfl
  simp only [Try.ntmps24, List.size_toArray, List.length_cons, List.length_nil, Nat.reduceAdd, Nat.reduceSub, Array.replicate_succ, Array.replicate_zero, List.push_toArray, List.append_toArray, List.nil_append, List.cons_append]
  gi_wp2
  have b0 := ((Boxed.new w 71 (.slice a l.length cap)).alloc (.cells #[.bool false] 4)).alloc (.cells #[.int .i64 0] 3)
  have b2 := (Boxed.new (w.alloc (.cells #[.slice a l.length cap] 71)) 4 (.bool false)).alloc (.cells #[.int .i64 0] 3)
  have b3 := Boxed.new ((w.alloc (.cells #[.slice a l.length cap] 71)).alloc (.cells #[.bool false] 4)) 3 (.int .i64 0)
  simp only [World.size_alloc] at b0 b2 b3
  have hB0 : Below w.heap.size w (((w.alloc (.cells #[.slice a l.length cap] 71)).alloc (.cells #[.bool false] 4)).alloc (.cells #[.int .i64 0] 3)) := (((Below.refl _ w).alloc (Nat.le_refl _) (.cells #[.slice a l.length cap] 71)).alloc (by simp only [World.size_alloc]; omega) (.cells #[.bool false] 4)).alloc (by simp only [World.size_alloc]; omega) (.cells #[.int .i64 0] 3)
  have hsz : (((w.alloc (.cells #[.slice a l.length cap] 71)).alloc (.cells #[.bool false] 4)).alloc (.cells #[.int .i64 0] 3)).heap.size = w.heap.size + 3 := by simp only [World.size_alloc]
  obtain ⟨w3, hw3⟩ : ∃ w3, (((w.alloc (.cells #[.slice a l.length cap] 71)).alloc (.cells #[.bool false] 4)).alloc (.cells #[.int .i64 0] 3)) = w3 := ⟨_, rfl⟩
  rw [hw3] at b0 b2 b3 hB0 hsz ⊢
  clear hw3
  have hkX : Hid (∀ X, Ks (fun k => k < w.heap.size) w3 X → Kit.IsS 2 X ov Rw.length (Rw.flatMap evL) ∧ X.cell? ⟨Bs, 0, none⟩ = some ov) := fun X hX => HIT.out X ⟨Nat.le_trans hB0.size hX.1, fun k h2 => (hX.2 k h2).trans (hB0.block k h2)⟩
  have hst := hot1_stops Rw ov (fun k => k < w.heap.size) Bs (5 - 1) w3 (by omega) (fun k h => by omega) HRn.out hkX.out
  rw [← HLl.out] at hst
  have HSt := hid hst
  clear hst HLl hkX HIT HRn
  have hB3z := hB0.size
  refine wpIn_rangeFunc_ownH rfl (by omega) (gf := 51) (lb := #[.pointer (some ⟨Bs, 0, none⟩)]) rfl trivial (enters_of Try.func51 (by kernel_rfl) rfl)
    HSt.out (fun h k => Ks.trans h k) (Ks.putObj (fun k h => by omega)) (Below.refl _ _) (fun _ => rfl)
    (TeJ (.slice a l.length cap) w3.heap.size w) (fun c' pre W => c' = .ret ∧ TeX w pre W) (TeJ.own hB0.size) (fun c' pre A B row h hg hr => ⟨h.1, TeX.own hB0.size pre A B row h.2 hg hr⟩)
    ⟨b0, b2, b3, hB0, Nat.le_refl _⟩
    (fun x a' W => a' = { tmps := #[.func (.func 51) #[] #[.pointer (some ⟨Bs, 0, none⟩)], .slice a l.length cap, undef, .pointer (some ⟨w.heap.size, 0, none⟩), .pointer (some ⟨w.heap.size + 1, 0, none⟩), .pointer (some ⟨w.heap.size + 1 + 1, 0, none⟩), .int .i64 x.1.2, .func (.func 51) #[] #[.pointer (some ⟨Bs, 0, none⟩)], .int .i64 x.1.2, undef, undef, undef, undef, undef, undef, undef, undef, undef, undef, undef, undef, undef, undef, undef, undef, undef, undef], defers := [] })
    (fun x a' => Own.from (fun s A B row hs hg hr => hs) _) ?assign ?body ?done ?stop
  case assign =>
    rintro D pre ⟨⟨k, c⟩, hx⟩ W K hI hK
    unfold entE
    gi_wp2
    exact hK _ _ ((⟨Nat.le_refl _, fun _ _ h _ => h⟩ : KeepsOthers W W).from _) (Ks.refl _ W) hI rfl
  case body =>
    rintro D pre ⟨⟨k, c⟩, hx⟩ a' W hl ⟨r, hr⟩ ⟨i0, i2, i3, hB, hh⟩ rfl hlt
    have c0 := i0.cell
    have c2 := i2.cell
    have c3 := i3.cell
    have f2 := i2.frozen
    have f3 := i3.frozen
    have HW := hid (HV.out W hB)
    have hkl : k < l.length := (List.getElem?_eq_some_iff.1 hx).1
    dsimp only
    have hhz := hB.size
    by_cases hC : l[pre.length]? = some c
    · have hlp := (List.getElem?_eq_some_iff.1 hC).1
      obtain ⟨b, o, cap', hv, -, hbb, hcs⟩ := HW.out.some (by omega)
      obtain ⟨rfl, -, rfl⟩ := Value.slice.inj hv
      have d0 := hcs pre.length _ (intV_at hC)
      have hpl : IntKind.i64.wrap ((pre.length : Int) + 1) = (pre.length : Int) + 1 := IntWalk.i64_in _ (by omega)
      have hge : decide (l.length ≤ pre.length) = false := by simp; omega
      have hge2 : ¬ ((l.length : Int) ≤ (pre.length : Int)) := by omega
      have hge3 : (pre.length : Int) < (l.length : Int) := by omega
      have hcc : (c != c) = false := by simp
      clear hcs hv hC
      gi_wp2
      have el : (.int .i64 ((pre.length : Int) + 1) : Value) = .int .i64 (((pre ++ [(⟨(k, c), hx⟩ : Tx l)]).length : Nat) : Int) := by simp
      exact ⟨(KeepsOthers.setCell _ _ _).from _, (Ks.refl (fun k => k < w.heap.size) W).set (by omega) _, i0.other (by omega) _, i2.other (by omega) _, by rw [← el]; exact i3.set _, (by repeat' first | with_reducible exact hB | with_reducible exact Below.refl _ _ | with_reducible refine belows_drewN ?_ _ | with_reducible refine Below.drew ?_ | with_reducible refine Below.setCell ?_ ?_ _ | omega | (simp; omega)), by simp only [World.size_setCell]; omega⟩
    · have hne : k ≠ pre.length := by rintro rfl; exact hC hx
      have HNe := hid hne
      by_cases hlp : l.length ≤ pre.length
      · have hge : decide (l.length ≤ pre.length) = true := by simpa using hlp
        have HX := hid hx
        have hge2 : ((l.length : Int) ≤ (pre.length : Int)) := by omega
        clear hC hne hlp hge hlt hkl HX
        gi_wp2
        exact ⟨(KeepsOthers.setCell _ _ _).from _, rfl, ⟨false, i2.set _, fun _ => ⟨pre, _, rfl, HNe.out⟩⟩, hB.setCell (p := ⟨w.heap.size + 1, 0, none⟩) (by show w.heap.size ≤ w.heap.size + 1; omega) _⟩
      · obtain ⟨y, hy⟩ : ∃ y, l[pre.length]? = some y := ⟨_, List.getElem?_eq_getElem (by omega)⟩
        have hyc : (c != y) = true := by
          simp only [bne_iff_ne, ne_eq]
          intro e
          apply hC
          rw [hy, e]
        obtain ⟨b, o, cap', hv, -, hbb, hcs⟩ := HW.out.some (by omega)
        obtain ⟨rfl, -, rfl⟩ := Value.slice.inj hv
        have d0 := hcs pre.length _ (intV_at hy)
        have hge : decide (l.length ≤ pre.length) = false := by simp; omega
        have hge2 : ¬ ((l.length : Int) ≤ (pre.length : Int)) := by omega
        have hge3 : (pre.length : Int) < (l.length : Int) := by omega
        clear hcs hv hC hne hy
        gi_wp2
        exact ⟨(KeepsOthers.setCell _ _ _).from _, rfl, ⟨false, i2.set _, fun _ => ⟨pre, _, rfl, HNe.out⟩⟩, hB.setCell (p := ⟨w.heap.size + 1, 0, none⟩) (by show w.heap.size ≤ w.heap.size + 1; omega) _⟩
  case done =>
    rintro D ys W hD rfl ⟨i0, i2, i3, hB, hh⟩ hK
    have c0 := i0.cell
    have c2 := i2.cell
    have c3 := i3.cell
    have f2 := i2.frozen
    rw [told_len l l.length (Nat.le_refl _)] at c3
    have hd : ((l.length : Int) == (l.length : Int)) = true := by simp
    gi_wp2
    have hK' := (KeepsOthers.setCell W ⟨w.heap.size + 1, 0, none⟩ (.bool true)).same D _ hK rfl
    refine ⟨by simp, .inl ⟨_, _, rfl, run_takeDeferred hK', ?_⟩⟩
    have hc5 := cell_kept (World.cell?_setCell_same' W ⟨w.heap.size + 1, 0, none⟩ (.bool true) (by rw [c2]; rfl)) (grownBy_putObj' _ D (.deferred none)) (fun r e => by cases e; exact ⟨_, hK', rfl⟩)
    refine ⟨.bool true, ?_, rfl, (hB.setCell (p := ⟨w.heap.size + 1, 0, none⟩) (by show w.heap.size ≤ w.heap.size + 1; omega) _).trans (belowK_b (w := w) (Nat.le_refl _) _ D _ _ (by omega) hK' rfl rfl)⟩
    simp [results, Try.f24, go_sem, hc5]
  case stop =>
    rintro D c' pre W hD ⟨k, hk, rfl⟩ ⟨rfl, hX⟩ hK
    obtain ⟨i2, hB⟩ := hX.is hk
    clear hX
    gi_wp2
    refine ⟨by simp, .inl ⟨_, _, rfl, run_takeDeferred hK, ?_⟩⟩
    have hc2 := cell_kept i2.cell (grownBy_putObj' _ D (.deferred none)) (fun r e => by cases e; exact ⟨_, hK, rfl⟩)
    refine ⟨.bool true, ?_, rfl, hB.trans (belowK_b (w := w) (Nat.le_refl _) _ D _ _ (by omega) hK rfl rfl)⟩
    simp [results, Try.f24, go_sem, hc2]
end Go.Proofs.Ytfphiomhlhpphaa
namespace Go.Proofs.Ytfphiomhlhpphaa
open Go Go.RowKit
open Pf (Site Sn ix addk alt keys)
set_option maxRecDepth 100000
set_option maxHeartbeats 2000000
/-- What Hot answers. -/
def HotPost (w : World) (Rw : List Sn) (e : Ending) (w' : World) : Prop := ∃ (Bs : Nat) (rv : Value), e = .returned (.func (.func 51) #[] #[.pointer (some ⟨Bs, 0, none⟩)]) ∧ RwR w' w.heap.size rv Rw ∧ BX w' Bs #[rv] 82 ∧ Below w.heap.size w w'
section
variable {w : World} {v : Value} {E : List Sn} {J : List (Site × Int)} {C : List (Site × Cl)} {me mj mc : Option Nat}
theorem hot_any (h : Sees w v E J C me mj mc) (hl : E.length ≤ 2000000000000) (least : Int) : Calls Try.prog 25 #[v, .int .i64 least] w (HotPost w (Pf.srt (E.filter (atL least)))) := by
  have HS := hid (h.seen w (Below.refl _ _))
  have HR := hid (fun W (hb : Below w.heap.size w W) => ranked_any (h.he.below hb) hl least)
  have hf0 := fld0 me mj mc
  unfold RkPost at HR
  clear h hl
  go_enter Try.func25, Try.ntmps25
  go_wp2_with (first
    | (go_at_call 44; refine HS.out.mono ?_; rintro e W ⟨rfl, hb⟩; have HB := hid hb; clear hb)
    | (go_at_call 45; refine (HR.out _ HB.out).mono ?_; rintro e W2 ⟨rv, rfl, ho, hb⟩; have HO := hid ho; have HB2 := hid hb; obtain ⟨ra, rn, rc, hrv⟩ := own_form3 ho; subst hrv; clear ho hb))
  go_ret
  have hb2 := belows HB.out HB2.out HB.out.size
  have hb3 : Below W2.heap.size W2 (W2.alloc (.cells #[.slice ra rn rc] 82)) := (Below.refl _ _).alloc (Nat.le_refl _) _
  exact ⟨_, _, rfl, RwR.below (w := W2) (Kit.owns_mono HO.out HB.out.size) hb3, BX.new W2 _ _, belows hb2 hb3 hb2.size⟩
end
section
variable {w : World} {v : Value}
theorem forget_no (h : NoP w v) (f : Int) : Calls Try.prog 22 #[v, .int .i64 f] w fun e w' => e = .returned (.tuple #[]) ∧ w' = w := by
  have HM := hid (made_no h)
  clear h
  go_enter Try.func22, Try.ntmps22
  go_wp2_with (go_at_call 40; refine HM.out.mono ?_; rintro e w1 ⟨rfl, rfl⟩)
  go_end0
  exact ⟨rfl, rfl⟩
theorem add_no (h : NoP w v) (q : Value) : Calls Try.prog 20 #[v, q] w fun e w' => e = .returned (.int .i64 2) ∧ w' = w := by
  have HM := hid (made_no h)
  clear h
  go_enter Try.func20, Try.ntmps20
  go_wp2_with (go_at_call 40; refine HM.out.mono ?_; rintro e w1 ⟨rfl, rfl⟩)
  go_ret
  exact ⟨rfl, rfl⟩
theorem clone_no (h : NoP w v) : Calls Try.prog 26 #[v] w fun e w' => e = .returned (.pointer none) ∧ w' = w := by
  have HM := hid (made_no h)
  clear h
  go_enter Try.func26, Try.ntmps26
  go_wp2_with (go_at_call 40; refine HM.out.mono ?_; rintro e w1 ⟨rfl, rfl⟩)
  go_ret
  exact ⟨rfl, rfl⟩
theorem same_no (h : NoP w v) (q : Value) : Calls Try.prog 21 #[v, q] w fun e w' => e = .returned (.bool false) ∧ Below w.heap.size w w' := by
  have HM := hid (fun d os => Calls.regrown_of (d := d) (os := os) (w := w) ((made_no (h.below (below_regrown w d os))).mono (fun e w' ⟨a, b⟩ => ⟨a, b ▸ Below.refl _ _⟩)))
  clear h
  go_enter Try.func21, Try.ntmps21
  go_wp2_with fail
  refine wp_region_quiet_below (by kernel_rfl) (by kernel_rfl) ?_
  (repeat (go_big_quiet_step ((with_reducible exact HM.out _ _))))
  refine wpQuiet_nil ?_
  intro W hw'
  obtain ⟨⟨dq, osq⟩, hw''⟩ := hw'
  have hbq := below_regrown w dq osq
  rw [← hw''] at hbq
  clear hw''
  go_wp2
  go_ret
  exact ⟨rfl, hbq⟩
end
end Go.Proofs.Ytfphiomhlhpphaa
namespace Go.Proofs.Ytfphiomhlhpphaa
open Go Go.RowKit
open Pf (Site Sn ix addk alt keys)
set_option maxRecDepth 100000
set_option maxHeartbeats 2000000
def s12 : Site := (1, 2)
theorem s12_ok : TS.ok s12 := ⟨⟨by decide, by decide⟩, ⟨by decide, by decide⟩⟩
/-- A block of one's own beside a profile. -/
structure Bes (w : World) (base pb : Nat) (p : IV) (n : Nat) (t : Pf.St) (bs : Nat) : Prop where
  pp : PP w base pb p
  ok : OkP p n
  st : p.st = t
  bx : BX w bs #[.int .i64 1, .int .i64 2] 29
  off : ¬ p.foot bs
  lo : base ≤ w.heap.size
theorem Bes.step {w w' : World} {base pb bs n m : Nat} {p : IV} {t t' : Pf.St} (h : Bes w base pb p n t bs) (hs : Step w w' base pb p m t') : ∃ p', Bes w' base pb p' m t' bs ∧ Below base w w' := by
  obtain ⟨p', h1, h2, h3, h4, h5⟩ := hs
  refine ⟨p', ⟨h1, h2, h3, h.bx.chg h4 h.off, fun e => ?_, Nat.le_trans h.lo h4.size⟩, h4.to_below (fun k hk => h.pp.has.low k hk) h.lo⟩
  rcases h5 bs e with e | e
  · exact h.off e
  · have := h.bx.sz
    omega
theorem Bes.call {w : World} {base pb bs n : Nat} {p : IV} {t : Pf.St} (h : Bes w base pb p n t bs) (hn : n < 2000000000000) {k : Int} (hk : I8 k) {q : Int} (hq : Pf.kind (Pf.cnt (t.ca s12) k 1) = q) :
    Calls Try.prog 14 #[.pointer (some ⟨pb, 0, none⟩), .agg #[.int .i64 1, .int .i64 2], .int .i64 k] w fun e w' => e = .returned (.int .i64 q) ∧ ∃ p', Bes w' base pb p' (n + 1) (t.call s12 k 1) bs ∧ Below base w w' := by
  have := callS h.pp h.lo h.ok hn s12_ok hk
  rw [h.st] at this
  refine this.mono ?_
  rintro e w' ⟨rfl, hs⟩
  exact ⟨by rw [hq], h.step hs⟩
def b1 : Pf.St := Pf.st0.call s12 8 1
def b2 : Pf.St := b1.call s12 8 1
def b3 : Pf.St := b2.call s12 9 1
theorem begun_any (w : World) : Calls Try.prog 9 #[] w fun e w' => e = .returned (.bool true) ∧ Below w.heap.size w w' := by
  have HN := hid (newS w)
  have HC1 := hid (fun W pb p bs (h : Bes W w.heap.size pb p 0 Pf.st0 bs) => h.call (by decide) (k := 8) ⟨by decide, by decide⟩ (q := 1) (by decide))
  have HC2 := hid (fun W pb p bs (h : Bes W w.heap.size pb p 1 b1 bs) => h.call (by decide) (k := 8) ⟨by decide, by decide⟩ (q := 1) (by decide))
  have HC3 := hid (fun W pb p bs (h : Bes W w.heap.size pb p 2 b2 bs) => h.call (by decide) (k := 9) ⟨by decide, by decide⟩ (q := 2) (by decide))
  have HM := hid (fun W pb p bs (h : Bes W w.heap.size pb p 3 b3 bs) => (show Calls Try.prog 23 #[.pointer (some ⟨pb, 0, none⟩), .agg #[.int .i64 1, .int .i64 2]] W fun e w' => e = .returned (.tuple #[.int .i64 8, .bool true]) ∧ Below W.heap.size W w' from by
    have := mainS h.pp h.ok s12_ok
    rw [h.st] at this
    exact this))
  have HE1 := hid (fun W pb p n (h : PP W w.heap.size pb p) (ok : OkP p n) (hn : n < 100) (hs : p.st = b3) => (show Calls Try.prog 12 #[.pointer (some ⟨pb, 0, none⟩), .int .i64 3] W fun e w' => e = .returned (.int .i64 1) ∧ Step W w' w.heap.size pb p (n + 1) (b3.enter 3) from by
    have := enterS h ok (by omega) (f := 3) ⟨by decide, by decide⟩
    rw [hs] at this
    exact this))
  have HE2 := hid (fun W pb p n (h : PP W w.heap.size pb p) (ok : OkP p n) (hn : n < 100) (hs : p.st = b3.enter 3) => (show Calls Try.prog 12 #[.pointer (some ⟨pb, 0, none⟩), .int .i64 3] W fun e w' => e = .returned (.int .i64 2) ∧ Step W w' w.heap.size pb p (n + 1) ((b3.enter 3).enter 3) from by
    have := enterS h ok (by omega) (f := 3) ⟨by decide, by decide⟩
    rw [hs] at this
    exact this))
  go_enter Try.func9, Try.ntmps9
  go_upto_region 5 with (go_at_call 7; refine HN.out.mono ?_; rintro e w1 ⟨pb, p, rfl, h1, h2, h3, h4⟩; have HP := hid (And.intro h1 (And.intro h2 (And.intro h3 h4))); clear h1 h2 h3 h4)
  refine region_named fun W2 hW2 => ?_
  have hb2 : Below w1.heap.size w1 W2 := by rw [hW2]; exact (Below.refl _ _).alloc (Nat.le_refl _) _
  have bx : BX W2 w1.heap.size #[.int .i64 1, .int .i64 2] 29 := by rw [hW2]; exact BX.new w1 _ _
  have hbw := belows HP.out.2.2.2 hb2 HP.out.2.2.2.size
  have HB0 : Hid (Bes W2.drew w.heap.size pb p 0 Pf.st0 w1.heap.size ∧ Below w.heap.size w W2.drew) :=
    ⟨⟨(HP.out.1.below hb2).below (Below.drew (Below.refl _ _)), HP.out.2.1, HP.out.2.2.1, bx, fun e => by have := HP.out.1.has.lt _ e; omega, hbw.size⟩, Below.drew hbw⟩
  have x0 : W2.cell? ⟨w1.heap.size, 0, none⟩ = some (.int .i64 1) := bx.cell 0
  have x1 : W2.cell? ⟨w1.heap.size, 1, none⟩ = some (.int .i64 2) := bx.cell 1
  clear hW2 hb2 bx hbw HP
  go_region_held3 (fun X => X.cell? ⟨w1.heap.size, 0, none⟩ = some (.int .i64 1) ∧ X.cell? ⟨w1.heap.size, 1, none⟩ = some (.int .i64 2))
    (first | exact ⟨x0, x1⟩ | go_keep)
    (first
      | ((fail_if_success (have _g := HB1)); go_at_call 14; (with_reducible refine (HC1.out _ _ _ _ HB0.out.1).mono ?_); rintro e X1 ⟨rfl, p1, h1, hb⟩; have HB1 := hid (And.intro h1 (HB0.out.2.trans hb)); clear x0 x1; have x0 : X1.cell? ⟨w1.heap.size, 0, none⟩ = some (.int .i64 1) := h1.bx.cell 0; have x1 : X1.cell? ⟨w1.heap.size, 1, none⟩ = some (.int .i64 2) := h1.bx.cell 1; clear h1 hb)
      | (have _g := HB1; (fail_if_success (have _g := HB2)); go_at_call 14; (with_reducible refine (HC2.out _ _ _ _ HB1.out.1).mono ?_); rintro e X2 ⟨rfl, p2, h1, hb⟩; have HB2 := hid (And.intro h1 (HB1.out.2.trans hb)); clear x0 x1; have x0 : X2.cell? ⟨w1.heap.size, 0, none⟩ = some (.int .i64 1) := h1.bx.cell 0; have x1 : X2.cell? ⟨w1.heap.size, 1, none⟩ = some (.int .i64 2) := h1.bx.cell 1; clear h1 hb)
      | (have _g := HB2; go_at_call 14; (with_reducible refine (HC3.out _ _ _ _ HB2.out.1).mono ?_); rintro e X3 ⟨rfl, p3, h1, hb⟩; have HB3 := hid (And.intro h1 (HB2.out.2.trans hb)); clear x0 x1; have x0 : X3.cell? ⟨w1.heap.size, 0, none⟩ = some (.int .i64 1) := h1.bx.cell 0; have x1 : X3.cell? ⟨w1.heap.size, 1, none⟩ = some (.int .i64 2) := h1.bx.cell 1; clear h1 hb))
  go_wp2_with (first
    | (go_at_call 23; refine (HM.out _ _ _ _ HB3.out.1).mono ?_; rintro e X4 ⟨rfl, hb⟩; have HB4 : Hid (PP X4 w.heap.size pb p3 ∧ OkP p3 3 ∧ p3.st = b3 ∧ Below w.heap.size w X4) := ⟨HB3.out.1.pp.below hb, HB3.out.1.ok, HB3.out.1.st, belows HB3.out.2 hb HB3.out.2.size⟩; clear hb)
    | ((fail_if_success (have _g := HB5)); go_at_call 12; refine (HE1.out _ _ _ _ HB4.out.1 HB4.out.2.1 (by decide) HB4.out.2.2.1).mono ?_; rintro e X5 ⟨rfl, p5, h1, h2, h3, h4, h5⟩; have HB5 : Hid (PP X5 w.heap.size pb p5 ∧ OkP p5 4 ∧ p5.st = b3.enter 3 ∧ Below w.heap.size w X5) := ⟨h1, h2, h3, HB4.out.2.2.2.trans (h4.to_below (fun k hk => HB4.out.1.has.low k hk) HB4.out.2.2.2.size)⟩; clear h1 h2 h3 h4 h5)
    | (have _g := HB5; go_at_call 12; refine (HE2.out _ _ _ _ HB5.out.1 HB5.out.2.1 (by decide) HB5.out.2.2.1).mono ?_; rintro e X6 ⟨rfl, p6, h1, h2, h3, h4, h5⟩; have HB6 : Hid (Below w.heap.size w X6) := HB5.out.2.2.2.trans (h4.to_below (fun k hk => HB5.out.1.has.low k hk) HB5.out.2.2.2.size); clear h1 h2 h3 h4 h5))
  go_ret
  exact ⟨rfl, HB6.out⟩
end Go.Proofs.Ytfphiomhlhpphaa
namespace Go.Proofs.Ytfphiomhlhpphaa
open Go Go.RowKit Go.ChangeMaps Go.MapKept
open Go.WideElems (Fit rd_key)
open Pf (ix addk alt keys)
theorem setBlock_twice (w : World) (b : Nat) (x y : Obj) : setBlock (setBlock w b x) b y = setBlock w b y := by
  unfold setBlock
  simp
theorem heap_setBlock_at {w : World} {b : Nat} {o : Obj} (h : w.heap[b]? = some o) (o' : Obj) : (setBlock w b o').heap[b]? = some o' := by
  have := (Array.getElem?_eq_some_iff.1 h).1
  unfold setBlock
  simp [this]
theorem modify_push {α : Type} (xs : Array α) (x : α) (f : α → α) : (xs.push x).modify xs.size f = xs.push (f x) := by
  apply Array.ext
  · simp
  · intro i h1 h2
    simp only [Array.getElem_modify, Array.getElem_push]
    by_cases e : i < xs.size
    · rw [dif_pos e, dif_pos e, if_neg (by omega)]
    · rw [dif_neg e, dif_neg e, if_pos (by simp at h2; omega)]
theorem modify_eq_of {α : Type} {xs : Array α} {j : Nat} {f g : α → α} (h : ∀ x, xs[j]? = some x → f x = g x) : xs.modify j f = xs.modify j g := by
  apply Array.ext
  · simp
  · intro i h1 h2
    simp only [Array.getElem_modify]
    by_cases e : j = i
    · subst e
      rw [if_pos rfl, if_pos rfl]
      exact h _ (by rw [Array.getElem?_eq_getElem])
    · rw [if_neg e, if_neg e]
theorem modify_modify {α : Type} (xs : Array α) (j : Nat) (f g : α → α) : (xs.modify j f).modify j g = xs.modify j (fun x => g (f x)) := by
  apply Array.ext
  · simp
  · intro i h1 h2
    simp only [Array.getElem_modify]
    by_cases e : j = i
    · rw [if_pos e, if_pos e, if_pos e]
    · rw [if_neg e, if_neg e, if_neg e]
/-- The entry, then its element: what a store does. -/
theorem entry_runs {P : Program} {k t e : TypeId} {b : Nat} {w : World} {es : Array MapEntry} {clock : Nat} {H : Type} {R : Value → Option (DataW H × List MemPlace)} (K : Maps.Keyed P k) (ht : P.underlying t = some (.map k e)) (hb : w.heap[b]? = some (.map es clock)) (F : Fit P k R es clock)
    {key z : Value} {kl : Lit} (hkey : keyOf P k key = some kl) (hz : ∀ w, (zeroValue e).run P w = .ok z w) :
    ∃ (c : Nat) (u : Value) (w1 : World), (Instr.lookup t (.map (some b)) key false).run P w = .ok u w ∧ (Instr.mapEntry t (.map (some b)) key).run P w = .ok (.tuple #[u, .int .i64 (c : Int)]) w1 ∧ (Instr.mapUpdate t (.map (some b)) key u).run P w = .ok () w1 ∧
      ∀ v, (Instr.entryStore t (.map (some b)) (.int .i64 (c : Int)) v).run P w1 = (Instr.mapUpdate t (.map (some b)) key v).run P w := by
  have hst := (stamped_iff es clock).1 F.stamped
  rcases K.find w hkey es.toList F.keys with ⟨h1, h2⟩ | ⟨j, e0, h1, h2, h3⟩
  · refine ⟨clock, z, setBlock w b (.map (es.push ⟨key, z, clock⟩) (clock + 1)), ?_, ?_, ?_, fun v => ?_⟩
    · simp [Instr.lookup, run_underlying ht, MapKept.run_getObj_map hb, K.check w _ hkey, h1, hz, Result.andThen]
    · simp [Instr.mapEntry, run_underlying ht, MapKept.run_getObj_map hb, K.check w false hkey, h1, hz, MapKept.run_setObj_map _ hb, Result.andThen, setBlock, goInt]
    · simp [Instr.mapUpdate, run_underlying ht, MapKept.run_getObj_map hb, K.check w false hkey, h1, MapKept.run_setObj_map _ hb, Result.andThen, setBlock]
    · have hb1 := heap_setBlock_at hb (.map (es.push ⟨key, z, clock⟩) (clock + 1))
      have hfi : (es.push (⟨key, z, clock⟩ : MapEntry)).findIdx? (fun e => (e.born : Int) == (clock : Int)) = some es.size := by
        rw [Array.findIdx?_eq_some_iff_getElem]
        refine ⟨by simp, by simp, fun j hj => ?_⟩
        have := hst.1 es[j] (by simp)
        rw [Array.getElem_push_lt hj]
        simp
        omega
      have e1 : (Instr.entryStore t (.map (some b)) (.int .i64 (clock : Int)) v).run P (setBlock w b (.map (es.push ⟨key, z, clock⟩) (clock + 1))) = .ok () (setBlock w b (.map (es.push ⟨key, v, clock⟩) (clock + 1))) := by
        simp [Instr.entryStore, MapKept.run_getObj_map hb1, asInt, asIntOf, hfi, MapKept.run_setObj_map _ hb1, Result.andThen]
        rw [modify_push]
        exact setBlock_twice _ _ _ _
      rw [e1]
      simp [Instr.mapUpdate, run_underlying ht, MapKept.run_getObj_map hb, K.check w false hkey, h1, MapKept.run_setObj_map _ hb, Result.andThen, setBlock]
  · have hj : es[j]? = some e0 := by simpa using h2
    have hjs : j < es.size := (Array.getElem?_eq_some_iff.1 hj).1
    have hje : es[j] = e0 := (Array.getElem?_eq_some_iff.1 hj).2
    refine ⟨e0.born, e0.val, setBlock w b (.map (es.modify j fun e => { e with key }) clock), ?_, ?_, ?_, fun v => ?_⟩
    · simp [Instr.lookup, run_underlying ht, MapKept.run_getObj_map hb, K.check w _ hkey, h1, Result.andThen]
    · simp [Instr.mapEntry, run_underlying ht, MapKept.run_getObj_map hb, K.check w false hkey, h1, hj, h3, K.stays w hkey, MapKept.run_setObj_map _ hb, Result.andThen, setBlock, goInt]
    · simp [Instr.mapUpdate, run_underlying ht, MapKept.run_getObj_map hb, K.check w false hkey, h1, hj, h3, K.stays w hkey, MapKept.run_setObj_map _ hb, Result.andThen, setBlock]
      congr 2
      refine modify_eq_of fun x hx => ?_
      rw [hj] at hx
      obtain rfl := Option.some.inj hx
      rfl
    · have hb1 := heap_setBlock_at hb (.map (es.modify j fun e => { e with key }) clock)
      have hfi : (es.modify j fun e => { e with key }).findIdx? (fun e => (e.born : Int) == (e0.born : Int)) = some j := by
        rw [Array.findIdx?_eq_some_iff_getElem]
        refine ⟨by simpa using hjs, by simp [Array.getElem_modify, hje], fun i hi => ?_⟩
        have hlt : i < es.size := by omega
        have hne : es[i].born ≠ e0.born := fun e => by
          have h5 : (es.toList.map (·.born))[i]? = (es.toList.map (·.born))[j]? := by
            rw [List.getElem?_map, List.getElem?_map, Array.getElem?_toList, Array.getElem?_toList, hj, Array.getElem?_eq_getElem hlt, Option.map_some, Option.map_some, e]
          have := (List.getElem?_inj (by simpa using hlt) hst.2.1).1 h5
          omega
        simp only [Array.getElem_modify, beq_iff_eq]
        rw [if_neg (by omega)]
        omega
      have e1 : (Instr.entryStore t (.map (some b)) (.int .i64 (e0.born : Int)) v).run P (setBlock w b (.map (es.modify j fun e => { e with key }) clock)) = .ok () (setBlock w b (.map (es.modify j fun e => { e with key, val := v }) clock)) := by
        simp [Instr.entryStore, MapKept.run_getObj_map hb1, asInt, asIntOf, hfi, MapKept.run_setObj_map _ hb1, Result.andThen]
        rw [modify_modify]
        exact setBlock_twice _ _ _ _
      rw [e1]
      simp [Instr.mapUpdate, run_underlying ht, MapKept.run_getObj_map hb, K.check w false hkey, h1, hj, h3, K.stays w hkey, MapKept.run_setObj_map _ hb, Result.andThen, setBlock]
section
variable {κ β : Type} [DecidableEq κ] {T : KT κ} {val : β → Value} {w : World} {b : Nat} {L : List (κ × β)}
theorem MapL.entry (h : MapL T val w b L) (hT : T.Is) {t e : TypeId} (ht : Try.prog.underlying t = some (.map T.t e)) (d : β) (hz : ∀ w, (zeroValue e).run Try.prog w = .ok (val d) w) (hn : L.length < maxLen) {k : κ} (hk : T.ok k) :
    ∃ (c : Nat) (w1 : World), (Instr.mapEntry t (.map (some b)) (T.mkv k)).run Try.prog w = .ok (.tuple #[val (Pf.look d L k), .int .i64 (c : Int)]) w1 ∧ (Instr.lookup t (.map (some b)) (T.mkv k) false).run Try.prog w1 = .ok (val (Pf.look d L k)) w1 ∧ w.grownBy w1 (some b) ∧
      ∀ v : β, ∃ w2, (Instr.entryStore t (.map (some b)) (.int .i64 (c : Int)) (val v)).run Try.prog w1 = .ok () w2 ∧ MapL T val w2 b (alt d L k (fun _ => v)) ∧ w.grownBy w2 (some b) := by
  have hlk := h.look hT ht d (hz w) hk
  have hput := fun v => h.put hT ht d hn hk v
  obtain ⟨D, ⟨es, clock, hb, F, -, -⟩, -⟩ := h
  obtain ⟨c, u, w1, r1, r2, r3, r4⟩ := entry_runs hT.keyed ht hb F (hT.of hk) hz
  rw [hlk] at r1
  obtain rfl : u = val (Pf.look d L k) := by
    have := r1
    simp only [Result.ok.injEq] at this
    exact this.1.symm
  obtain ⟨w1', q1, q2, q3⟩ := hput (Pf.look d L k)
  rw [r3] at q1
  simp only [Result.ok.injEq, true_and] at q1
  subst q1
  refine ⟨c, w1, r2, ?_, q3, fun v => ?_⟩
  · have := q2.look hT ht d (hz w1) hk
    rw [Pf.look_alt, if_pos rfl] at this
    exact this
  · obtain ⟨w2, s1, s2, s3⟩ := hput v
    exact ⟨w2, (r4 _).trans s1, s2, s3⟩
end
end Go.Proofs.Ytfphiomhlhpphaa
namespace Go.Proofs.Ytfphiomhlhpphaa.Pf

/-- An operation of a script, as far as counting asks. -/
structure O where
  d : Int
  f : Int
  x : Site
  k : Int
  least : Int
def step1 (s : St) (o : O) : St := if o.d = 0 then s.enter o.f else if o.d = 1 then s.back o.x else s.call o.x o.k 1
def run (l : List O) : St := l.foldl step1 st0
def sat (n : Nat) : Int := if (n : Int) ≤ M then (n : Int) else M
def isE (f : Int) (o : O) : Bool := decide (o.d = 0 ∧ o.f = f)
def isJ (x : Site) (o : O) : Bool := decide (o.d = 1 ∧ o.x = x)
def isC (x : Site) (o : O) : Bool := decide (¬ o.d = 0 ∧ ¬ o.d = 1 ∧ o.x = x)
def isK (x : Site) (k : Int) (o : O) : Bool := decide (¬ o.d = 0 ∧ ¬ o.d = 1 ∧ o.x = x ∧ o.k = k)
def nE (l : List O) (f : Int) : Nat := l.countP (isE f)
def nJ (l : List O) (x : Site) : Nat := l.countP (isJ x)
def nC (l : List O) (x : Site) : Nat := l.countP (isC x)
def nK (l : List O) (x : Site) (k : Int) : Nat := l.countP (isK x k)
theorem M_pos : (0 : Int) < M := by unfold M; omega
theorem sat_more (n m : Nat) : more (sat n) (sat m) = sat (n + m) := by
  have := M_pos
  unfold more sat
  repeat' split
  all_goals omega
theorem sat_one : sat 1 = 1 := by
  unfold sat M
  omega
theorem count_snoc (p : O → Bool) (l : List O) (o : O) : (l ++ [o]).countP p = l.countP p + if p o = true then 1 else 0 := by
  rw [List.countP_append, List.countP_singleton]
def sum : List Sn → Int
  | [] => 0
  | y :: l => y.2 + sum l
theorem sum_alt : ∀ (l : List Sn) (k : Int) (g : Int → Int), sum (alt 0 l k g) = sum l - look 0 l k + g (look 0 l k)
  | [], k, g => by simp [alt, sum, look]
  | y :: l, k, g => by
    unfold alt look
    by_cases e : y.1 = k
    · rw [if_pos e, if_pos e]
      show g y.2 + sum l = y.2 + sum l - y.2 + g y.2
      omega
    · rw [if_neg e, if_neg e]
      show y.2 + sum (alt 0 l k g) = y.2 + sum l - _ + _
      rw [sum_alt l k g]
      omega
theorem sum_nonneg : ∀ {l : List Sn}, (∀ y ∈ l, Bd y.2) → 0 ≤ sum l
  | [], _ => Int.le_refl _
  | y :: l, h => by
    have h1 := (h y (by simp)).1
    have h2 := sum_nonneg (l := l) (fun z hz => h z (by simp [hz]))
    show 0 ≤ y.2 + sum l
    omega
theorem look_sum : ∀ {l : List Sn}, (∀ y ∈ l, Bd y.2) → ∀ k, look 0 l k ≤ sum l
  | [], _, k => Int.le_refl _
  | y :: l, h, k => by
    have h1 := (h y (by simp)).1
    have h2 := sum_nonneg (l := l) (fun z hz => h z (by simp [hz]))
    have h3 := look_sum (l := l) (fun z hz => h z (by simp [hz])) k
    unfold look
    show _ ≤ y.2 + sum l
    split <;> omega
theorem more_le {n : Int} (h : Bd n) : more n 1 ≤ n + 1 := by
  unfold Bd more at *
  split <;> omega
theorem more_one {n : Int} (h : n < M) : more n 1 = n + 1 := by
  unfold more
  rw [if_neg (by omega)]
/-- What a call's classes are behind a script. -/
structure CInv (c : List Sn × Bool) (done : List O) (x : Site) : Prop where
  ok : OkC c
  look : c.2 = false → ∀ k, look 0 c.1 k = sat (nK done x k)
  keys : c.2 = false → ∀ k, k ∈ keys c.1 ↔ 0 < nK done x k
  le : sum c.1 ≤ nC done x
  eq : c.2 = false → (nC done x : Int) ≤ M → sum c.1 = nC done x
theorem CInv.other {c : List Sn × Bool} {done : List O} {x : Site} {o : O} (h : CInv c done x) (hc : isC x o = false) : CInv c (done ++ [o]) x := by
  have e1 : nC (done ++ [o]) x = nC done x := by unfold nC; rw [count_snoc, hc]; rfl
  have e2 : ∀ k, nK (done ++ [o]) x k = nK done x k := fun k => by
    unfold nK
    rw [count_snoc, if_neg]
    · rfl
    · unfold isC at hc
      unfold isK
      simp only [decide_eq_false_iff_not, decide_eq_true_eq] at hc ⊢
      exact fun h => hc ⟨h.1, h.2.1, h.2.2.1⟩
  exact ⟨h.ok, fun hf k => by rw [e2]; exact h.look hf k, fun hf k => by rw [e2]; exact h.keys hf k, by rw [e1]; exact h.le, fun hf => by rw [e1]; exact h.eq hf⟩
theorem CInv.cnt {c : List Sn × Bool} {done : List O} {x : Site} {o : O} (h : CInv c done x) (hc : isC x o = true) : CInv (cnt c o.k 1) (done ++ [o]) x := by
  have e1 : nC (done ++ [o]) x = nC done x + 1 := by unfold nC; rw [count_snoc, hc]; rfl
  have hc' : ¬ o.d = 0 ∧ ¬ o.d = 1 ∧ o.x = x := by simpa [isC] using hc
  have e2 : ∀ k, nK (done ++ [o]) x k = nK done x k + if k = o.k then 1 else 0 := fun k => by
    unfold nK
    rw [count_snoc]
    by_cases e : k = o.k
    · rw [if_pos e, if_pos (by simp [isK, hc', e])]
    · rw [if_neg e, if_neg (by simp [isK, hc']; exact fun h => e h.symm)]
  have ok := okC_cnt h.ok (k := o.k) bd1
  unfold Pf.cnt at ok ⊢
  by_cases hk : o.k ∈ Pf.keys c.1 ∨ c.1.length < 4
  · rw [if_pos hk] at ok ⊢
    have hls := look_sum h.ok.bd o.k
    have hle := h.le
    have hb : Bd (Pf.look 0 c.1 o.k) := by
      by_cases hm : o.k ∈ Pf.keys c.1
      · obtain ⟨y, hy, e⟩ := List.mem_map.1 hm
        rw [← e, look_mem h.ok.nd hy]
        exact h.ok.bd y hy
      · rw [look_not hm]
        exact bd0
    refine ⟨ok, fun hf k => ?_, fun hf k => ?_, ?_, fun hf hM => ?_⟩
    · show Pf.look 0 (alt 0 c.1 o.k _) k = _
      rw [look_alt, e2, h.look hf, h.look hf]
      by_cases e : k = o.k
      · rw [if_pos e, if_pos e, e, ← sat_one, sat_more]
      · rw [if_neg e, if_neg e]
        rfl
    · show k ∈ Pf.keys (alt 0 c.1 o.k _) ↔ _
      rw [keys_alt, keys_addk, e2]
      have h1 := h.keys hf k
      by_cases e : k = o.k
      · subst e
        rw [if_pos rfl]
        constructor
        · intro _
          omega
        · intro _
          split
          · assumption
          · simp
      · rw [if_neg e, Nat.add_zero, ← h1]
        split
        · exact Iff.rfl
        · simp [e]
    · show sum (alt 0 c.1 o.k _) ≤ _
      rw [sum_alt, e1]
      have := more_le hb
      show sum c.1 - _ + more _ 1 ≤ _
      omega
    · show sum (alt 0 c.1 o.k _) = _
      rw [sum_alt, e1]
      rw [e1] at hM
      have h2 := h.eq hf (by omega)
      have := more_one (n := Pf.look 0 c.1 o.k) (by omega)
      show sum c.1 - _ + more _ 1 = _
      omega
  · rw [if_neg hk] at ok ⊢
    have hle := h.le
    exact ⟨ok, (fun hf => by cases hf), (fun hf => by cases hf), (by show sum c.1 ≤ _; rw [e1]; omega), (fun hf => by cases hf)⟩
end Go.Proofs.Ytfphiomhlhpphaa.Pf
namespace Go.Proofs.Ytfphiomhlhpphaa
open Go Go.RowKit
open Pf (Site Sn ix addk alt keys O)
set_option maxRecDepth 100000
set_option maxHeartbeats 2000000
/-- An operation's cells. -/
def oL (o : O) : List Value := [.int .i64 o.d, .int .i64 o.f, .int .i64 o.x.1, .int .i64 o.x.2, .int .i64 o.k, .int .i64 o.least]
structure GoodO (o : O) : Prop where
  d : I8 o.d
  f : I8 o.f
  x : TS.ok o.x
  k : I8 o.k
  least : I8 o.least
/-- A profile, and three maps beside it. -/
structure MI (w wr : World) (pb me mj mc : Nat) (p : IV) (n : Nat) (t : Pf.St) (Le : List Sn) (Lj Lc : List (Site × Int)) : Prop where
  pp : PP wr w.heap.size pb p
  ok : OkP p n
  st : p.st = t
  m1 : MapL TI vI wr me Le
  m2 : MapL TS vI wr mj Lj
  m3 : MapL TS vI wr mc Lc
  o1 : ¬ p.foot me
  o2 : ¬ p.foot mj
  o3 : ¬ p.foot mc
  n1 : me ≠ mj
  n2 : me ≠ mc
  n3 : mj ≠ mc
  l1 : w.heap.size ≤ me
  l2 : w.heap.size ≤ mj
  l3 : w.heap.size ≤ mc
  bl : Below w.heap.size w wr
section
variable {w wr w2 : World} {pb me mj mc n : Nat} {p : IV} {t : Pf.St} {Le : List Sn} {Lj Lc : List (Site × Int)}
theorem MI.below (h : MI w wr pb me mj mc p n t Le Lj Lc) (hb : Below wr.heap.size wr w2) : MI w w2 pb me mj mc p n t Le Lj Lc :=
  { h with pp := h.pp.below hb, m1 := h.m1.below hb, m2 := h.m2.below hb, m3 := h.m3.below hb, bl := belows h.bl hb h.bl.size }
theorem PP.grown {base : Nat} (h : PP wr base pb p) {m : Nat} (hg : wr.grownBy w2 (some m)) (hm : ¬ p.foot m) (h0 : m ≠ pb) : PP w2 base pb p := h.chg (grown_chg hg) (fun e => h0 e.symm) (fun k hk e => hm (e ▸ hk))
theorem MI.setE (h : MI w wr pb me mj mc p n t Le Lj Lc) (hg : wr.grownBy w2 (some me)) {L : List Sn} (hm : MapL TI vI w2 me L) : MI w w2 pb me mj mc p n t L Lj Lc :=
  { h with pp := h.pp.grown hg h.o1 (map_ne h.m1 h.pp.box), m1 := hm, m2 := h.m2.chg (grown_chg hg) (fun e => h.n1 e.symm), m3 := h.m3.chg (grown_chg hg) (fun e => h.n2 e.symm), bl := h.bl.grown hg h.bl.size (fun k e => by have := h.l1; have := Option.some.inj e; omega) }
theorem MI.setC (h : MI w wr pb me mj mc p n t Le Lj Lc) (hg : wr.grownBy w2 (some mc)) {L : List (Site × Int)} (hm : MapL TS vI w2 mc L) : MI w w2 pb me mj mc p n t Le Lj L :=
  { h with pp := h.pp.grown hg h.o3 (map_ne h.m3 h.pp.box), m1 := h.m1.chg (grown_chg hg) h.n2, m2 := h.m2.chg (grown_chg hg) h.n3, m3 := hm, bl := h.bl.grown hg h.bl.size (fun k e => by have := h.l3; have := Option.some.inj e; omega) }
theorem MI.step (h : MI w wr pb me mj mc p n t Le Lj Lc) {m : Nat} {t' : Pf.St} (hs : Step wr w2 w.heap.size pb p m t') : ∃ p', MI w w2 pb me mj mc p' m t' Le Lj Lc := by
  obtain ⟨p', h1, h2, h3, h4, h5⟩ := hs
  have off : ∀ k, ¬ p.foot k → k < wr.heap.size → ¬ p'.foot k := fun k hk hl e => (h5 k e).elim hk (fun e => by omega)
  exact ⟨p', { h with pp := h1, ok := h2, st := h3, m1 := h.m1.chg h4 h.o1, m2 := h.m2.chg h4 h.o2, m3 := h.m3.chg h4 h.o3, o1 := off _ h.o1 h.m1.lt, o2 := off _ h.o2 h.m2.lt, o3 := off _ h.o3 h.m3.lt, bl := h.bl.trans (h4.to_below (fun k hk => h.pp.has.low k hk) h.bl.size) }⟩
end
/-- What the law's own maps have counted. -/
structure CR (Le : List Sn) (Lj Lc : List (Site × Int)) (l : List O) : Prop where
  e : ∀ f, Pf.look 0 Le f = (Pf.nE l f : Int)
  j : ∀ x, Pf.look 0 Lj x = (Pf.nJ l x : Int)
  c : ∀ x, Pf.look 0 Lc x = (Pf.nC l x : Int)
  le : Le.length ≤ l.length
  lj : Lj.length ≤ l.length
  lc : Lc.length ≤ l.length
section
variable {Le : List Sn} {Lj Lc : List (Site × Int)} {l : List O} {o : O}
theorem CR.enter (h : CR Le Lj Lc l) (h0 : o.d = 0) : CR (alt 0 Le o.f (fun _ => Pf.look 0 Le o.f + 1)) Lj Lc (l ++ [o]) := by
  have hn : (l ++ [o]).length = l.length + 1 := by simp
  refine ⟨fun f => ?_, fun x => ?_, fun x => ?_, ?_, by have := h.lj; omega, by have := h.lc; omega⟩
  · rw [Pf.look_alt]
    unfold Pf.nE
    rw [Pf.count_snoc]
    by_cases e : f = o.f
    · rw [if_pos e, if_pos (by simp [Pf.isE, h0, e]), h.e, e]
      rfl
    · rw [if_neg e, if_neg (by simp [Pf.isE]; exact fun _ h => e h.symm), h.e]
      rfl
  · unfold Pf.nJ
    rw [Pf.count_snoc, if_neg (by simp [Pf.isJ, h0]), h.j]
    rfl
  · unfold Pf.nC
    rw [Pf.count_snoc, if_neg (by simp [Pf.isC, h0]), h.c]
    rfl
  · have := (Pf.alt_le (d := (0 : Int)) Le o.f (fun _ => Pf.look 0 Le o.f + 1)).2
    have := h.le
    omega
theorem CR.back (h : CR Le Lj Lc l) (h0 : ¬ o.d = 0) (h1 : o.d = 1) : CR Le (alt 0 Lj o.x (fun _ => Pf.look 0 Lj o.x + 1)) Lc (l ++ [o]) := by
  have hn : (l ++ [o]).length = l.length + 1 := by simp
  refine ⟨fun f => ?_, fun x => ?_, fun x => ?_, by have := h.le; omega, ?_, by have := h.lc; omega⟩
  · unfold Pf.nE
    rw [Pf.count_snoc, if_neg (by simp [Pf.isE, h0]), h.e]
    rfl
  · rw [Pf.look_alt]
    unfold Pf.nJ
    rw [Pf.count_snoc]
    by_cases e : x = o.x
    · rw [if_pos e, if_pos (by simp [Pf.isJ, h1, e]), h.j, e]
      rfl
    · rw [if_neg e, if_neg (by simp [Pf.isJ]; exact fun _ h => e h.symm), h.j]
      rfl
  · unfold Pf.nC
    rw [Pf.count_snoc, if_neg (by simp [Pf.isC, h1]), h.c]
    rfl
  · have := (Pf.alt_le (d := (0 : Int)) Lj o.x (fun _ => Pf.look 0 Lj o.x + 1)).2
    have := h.lj
    omega
theorem CR.call (h : CR Le Lj Lc l) (h0 : ¬ o.d = 0) (h1 : ¬ o.d = 1) : CR Le Lj (alt 0 Lc o.x (fun _ => Pf.look 0 Lc o.x + 1)) (l ++ [o]) := by
  have hn : (l ++ [o]).length = l.length + 1 := by simp
  refine ⟨fun f => ?_, fun x => ?_, fun x => ?_, by have := h.le; omega, by have := h.lj; omega, ?_⟩
  · unfold Pf.nE
    rw [Pf.count_snoc, if_neg (by simp [Pf.isE, h0]), h.e]
    rfl
  · unfold Pf.nJ
    rw [Pf.count_snoc, if_neg (by simp [Pf.isJ, h1]), h.j]
    rfl
  · rw [Pf.look_alt]
    unfold Pf.nC
    rw [Pf.count_snoc]
    by_cases e : x = o.x
    · rw [if_pos e, if_pos (by simp [Pf.isC, h0, h1, e]), h.c, e]
      rfl
    · rw [if_neg e, if_neg (by simp [Pf.isC]; exact fun _ _ h => e h.symm), h.c]
      rfl
  · have := (Pf.alt_le (d := (0 : Int)) Lc o.x (fun _ => Pf.look 0 Lc o.x + 1)).2
    have := h.lc
    omega
end
end Go.Proofs.Ytfphiomhlhpphaa
namespace Go.Proofs.Ytfphiomhlhpphaa
open Go Go.RowKit
open Pf (Site Sn ix addk alt keys O)
set_option maxRecDepth 100000
set_option maxHeartbeats 2000000
theorem box6 {W : World} {b : Nat} {a0 a1 a2 a3 a4 a5 : Value} {T : TypeId} (h : BX W b #[a0, a1, a2, a3, a4, a5] T) : W.cell? ⟨b, 0, none⟩ = some a0 ∧ W.cell? ⟨b, 1, none⟩ = some a1 ∧ W.cell? ⟨b, 2, none⟩ = some a2 ∧ W.cell? ⟨b, 3, none⟩ = some a3 ∧ W.cell? ⟨b, 4, none⟩ = some a4 ∧ W.cell? ⟨b, 5, none⟩ = some a5 := ⟨h.cell 0, h.cell 1, h.cell 2, h.cell 3, h.cell 4, h.cell 5⟩
end Go.Proofs.Ytfphiomhlhpphaa
namespace Go.Proofs.Ytfphiomhlhpphaa
open Go Go.RowKit
open Pf (Site Sn ix addk alt keys O)
set_option maxRecDepth 100000
set_option maxHeartbeats 4000000
theorem toldNone {w w' : World} {rv : Value} {Bs : Nat} (h : RwR w' w.heap.size rv []) (hx : BX w' Bs #[rv] 82) : Calls Try.prog 24 #[.func (.func 51) #[] #[.pointer (some ⟨Bs, 0, none⟩)], .slice none 0 0] w' fun e w2 => e = .returned (.bool true) ∧ Below w'.heap.size w' w2 := by
  refine told_any [] [] rv (.slice none 0 0) Bs w' rfl (fun X hX => ?_) ⟨rfl, by decide, .inl ⟨rfl, none, 0, rfl⟩⟩ (by decide)
  refine ⟨?_, ?_⟩
  · obtain ⟨a, c, e⟩ := own_form h
    rw [e]
    exact ⟨rfl, by decide, .inl ⟨rfl, a, c, rfl⟩⟩
  · have : BX X Bs #[rv] 82 := (hX.2 Bs hx.sz).trans hx
    exact this.cell 0
theorem none_law (o : O) (w : World) (hg : GoodO o) : Calls Try.prog 6 #[.agg (oL o).toArray] w fun e w' => e = .returned (.bool true) ∧ Below w.heap.size w w' := by
  have HBg := hid (fun W => begun_any W)
  have HNw := hid (fun W => newS W)
  have HG := hid hg
  obtain ⟨d, f, ⟨x1, x2⟩, q, ls⟩ := o
  unfold oL
  dsimp only
  have hbx : BX (w.alloc (.cells #[.int .i64 d, .int .i64 f, .int .i64 x1, .int .i64 x2, .int .i64 q, .int .i64 ls] 31)) w.heap.size #[.int .i64 d, .int .i64 f, .int .i64 x1, .int .i64 x2, .int .i64 q, .int .i64 ls] 31 := BX.new w _ _
  have HBX := hid hbx
  have HB1 : Hid (Below w.heap.size w (w.alloc (.cells #[.int .i64 d, .int .i64 f, .int .i64 x1, .int .i64 x2, .int .i64 q, .int .i64 ls] 31))) := (Below.refl _ _).alloc (Nat.le_refl _) _
  clear hbx hg
  go_enter Try.func6, Try.ntmps6
  go_upto_region 1 with fail
  refine region_named fun Wa hWa => ?_
  rw [← hWa] at HBX HB1
  clear hWa
  go_upto_region 3 with (go_at_call 9; refine (HBg.out _).mono ?_; rintro e w2 ⟨rfl, hb⟩; have HB2 := hid hb; clear hb)
  go_wp2
  obtain ⟨W3, hW3⟩ : ∃ W3, W3 = (w2.alloc (.cells #[.pointer none] 53)).alloc (.cells #[.pointer none, .pointer (some ⟨w2.heap.size, 0, none⟩)] 23) := ⟨_, rfl⟩
  rw [← hW3]
  have hb3 : Below w2.heap.size w2 W3 := by rw [hW3]; exact ((Below.refl _ _).alloc (Nat.le_refl _) _).alloc (by simp) _
  have hbs : BX W3 (w2.heap.size + 1) #[.pointer none, .pointer (some ⟨w2.heap.size, 0, none⟩)] 23 := by
    have := BX.new (w2.alloc (.cells #[.pointer none] 53)) #[.pointer none, .pointer (some ⟨w2.heap.size, 0, none⟩)] 23
    rw [World.size_alloc] at this
    rw [hW3]
    exact this
  have hnp : BX W3 w2.heap.size #[.pointer none] 53 := by
    rw [hW3]
    exact (BX.new w2 #[.pointer none] 53).below ((Below.refl _ _).alloc (Nat.le_refl _) _)
  have HB3 := hid hb3
  have HBs := hid hbs
  have HNp := hid hnp
  clear hb3 hbs hnp hW3
  go_loopw [13] (fun i wr => ∃ k : Nat, i = .int .i64 (k : Int) ∧ k ≤ 2 ∧ Hid (Below W3.heap.size W3 wr)) (fun i _ => 2 - (intOf i).toNat)
  case atStart => exact ⟨0, rfl, by omega, Below.refl _ _⟩
  case round =>
    obtain ⟨k, rfl, hk, HBr⟩ := hrel
    have c0 : wr.cell? ⟨w2.heap.size + 1, 0, none⟩ = some (.pointer none) := (HBs.out.below HBr.out).cell 0
    have c1 : wr.cell? ⟨w2.heap.size + 1, 1, none⟩ = some (.pointer (some ⟨w2.heap.size, 0, none⟩)) := (HBs.out.below HBr.out).cell 1
    by_cases hlt : k < 2
    · obtain ⟨pv, hc, hno⟩ : ∃ pv, wr.cell? ⟨w2.heap.size + 1, k, none⟩ = some pv ∧ ∀ X, Below wr.heap.size wr X → NoP X pv := by
        have D : k = 0 ∨ k = 1 := by omega
        rcases D with rfl | rfl
        · exact ⟨_, c0, fun X _ => .inl rfl⟩
        · exact ⟨_, c1, fun X hb => .inr ⟨_, rfl, (HNp.out.below HBr.out).below hb⟩⟩
      clear c0 c1
      have HNo := hid hno
      have HX := hid (fun X (hb : Below wr.heap.size wr X) => box6 (((HBX.out.below HB2.out).below (belows HB3.out HBr.out HB3.out.size)).below hb))
      have HMn := hid (fun X (hb : Below wr.heap.size wr X) => (show Calls Try.prog 23 #[pv, .agg #[.int .i64 x1, .int .i64 x2]] X fun e w' => e = .returned (.tuple #[.int .i64 0, .bool false]) ∧ Below X.heap.size X w' from main_any (hno X hb).sees (s := (x1, x2)) HG.out.x (fun y hy => by cases hy) (show 0 ≤ 4 by decide)))
      have HEd := hid (fun X (hb : Below wr.heap.size wr X) => (show Calls Try.prog 15 #[pv, .int .i64 f] X fun e w' => e = .returned (.int .i64 0) ∧ Below X.heap.size X w' from entered_any (hno X hb).sees HG.out.f))
      have HJd := hid (fun X (hb : Below wr.heap.size wr X) => (show Calls Try.prog 16 #[pv, .agg #[.int .i64 x1, .int .i64 x2]] X fun e w' => e = .returned (.int .i64 0) ∧ Below X.heap.size X w' from jumped_any (hno X hb).sees (s := (x1, x2)) HG.out.x))
      have HKd := hid (fun X (hb : Below wr.heap.size wr X) => (show Calls Try.prog 18 #[pv, .agg #[.int .i64 x1, .int .i64 x2]] X fun e w' => e = .returned (.int .i64 0) ∧ Below X.heap.size X w' from kindp_any (hno X hb).sees (s := (x1, x2)) HG.out.x))
      have HBk := hid (fun X (hb : Below wr.heap.size wr X) => (show Calls Try.prog 13 #[pv, .agg #[.int .i64 x1, .int .i64 x2]] X fun e w' => e = .returned (.int .i64 0) ∧ Below X.heap.size X w' from back_no (hno X hb) (x1, x2)))
      have HCp := hid (fun X (hb : Below wr.heap.size wr X) => (show Calls Try.prog 14 #[pv, .agg #[.int .i64 x1, .int .i64 x2], .int .i64 q] X fun e w' => e = .returned (.int .i64 0) ∧ Below X.heap.size X w' from callp_no (hno X hb) (x1, x2) q))
      have HCl := hid (fun X (hb : Below wr.heap.size wr X) => (show Calls Try.prog 17 #[pv, .agg #[.int .i64 x1, .int .i64 x2]] X (fun e w' => ∃ v, e = .returned v ∧ w'.ownsRow X.heap.size 44 2 v 0 ([] : List Value) ∧ Below X.heap.size X w') from classes_any (hno X hb).sees (s := (x1, x2)) HG.out.x (fun y hy => by cases hy) (show 0 ≤ 4 by decide)))
      have HHt := hid (fun X (hb : Below wr.heap.size wr X) => (show Calls Try.prog 25 #[pv, .int .i64 0] X (HotPost X []) from hot_any (hno X hb).sees (by decide) 0))
      unfold HotPost at HHt
      have HBc : Hid (Below wr.heap.size wr wr) := Below.refl _ _
      obtain ⟨y0, y1, y2, y3, y4, y5⟩ := HX.out _ HBc.out
      clear hno
      go_upto_region 8 with (first
        | (go_at_call 22; refine (forget_no (HNo.out _ HBc.out) _).mono ?_; rintro e X ⟨rfl, hXe⟩; replace hXe := hXe.symm; subst hXe)
        | (go_at_call 23; refine (HMn.out _ HBc.out).mono ?_; rintro e X ⟨rfl, hb⟩; have hbc := belows HBc.out hb HBc.out.size; clear HBc hb y0 y1 y2 y3 y4 y5; have HBc := hid hbc; clear hbc; obtain ⟨y0, y1, y2, y3, y4, y5⟩ := HX.out _ HBc.out))
      simp only [List.append_eq, List.cons_append, List.nil_append]
      go_region_held3 (fun X => X.cell? ⟨w.heap.size, 1, none⟩ = some (.int .i64 f) ∧ X.cell? ⟨w.heap.size, 2, none⟩ = some (.int .i64 x1) ∧ X.cell? ⟨w.heap.size, 3, none⟩ = some (.int .i64 x2) ∧ X.cell? ⟨w.heap.size, 4, none⟩ = some (.int .i64 q))
        (first | exact ⟨y1, y2, y3, y4⟩ | go_keep)
        (first
          | (go_at_call 12; refine (enter_no (HNo.out _ (by first | exact HBc.out | exact Below.drew HBc.out)) _).mono ?_; rintro e X ⟨rfl, hXe⟩; replace hXe := hXe.symm; subst hXe)
          | (go_at_call 13; refine (HBk.out _ (by first | exact HBc.out | exact Below.drew HBc.out)).mono ?_; rintro e X ⟨rfl, hb⟩; have hbc := belows (show Below wr.heap.size wr _ from (by first | exact HBc.out | exact Below.drew HBc.out)) hb (by first | exact HBc.out.size | exact (Below.drew HBc.out).size); clear HBc hb y0 y1 y2 y3 y4 y5; have HBc := hid hbc; clear hbc; obtain ⟨y0, y1, y2, y3, y4, y5⟩ := HX.out _ HBc.out)
          | (go_at_call 15; refine (HEd.out _ (by first | exact HBc.out | exact Below.drew HBc.out)).mono ?_; rintro e X ⟨rfl, hb⟩; have hbc := belows (show Below wr.heap.size wr _ from (by first | exact HBc.out | exact Below.drew HBc.out)) hb (by first | exact HBc.out.size | exact (Below.drew HBc.out).size); clear HBc hb y0 y1 y2 y3 y4 y5; have HBc := hid hbc; clear hbc; obtain ⟨y0, y1, y2, y3, y4, y5⟩ := HX.out _ HBc.out)
          | (go_at_call 16; refine (HJd.out _ (by first | exact HBc.out | exact Below.drew HBc.out)).mono ?_; rintro e X ⟨rfl, hb⟩; have hbc := belows (show Below wr.heap.size wr _ from (by first | exact HBc.out | exact Below.drew HBc.out)) hb (by first | exact HBc.out.size | exact (Below.drew HBc.out).size); clear HBc hb y0 y1 y2 y3 y4 y5; have HBc := hid hbc; clear hbc; obtain ⟨y0, y1, y2, y3, y4, y5⟩ := HX.out _ HBc.out)
          | (go_at_call 14; refine (HCp.out _ (by first | exact HBc.out | exact Below.drew HBc.out)).mono ?_; rintro e X ⟨rfl, hb⟩; have hbc := belows (show Below wr.heap.size wr _ from (by first | exact HBc.out | exact Below.drew HBc.out)) hb (by first | exact HBc.out.size | exact (Below.drew HBc.out).size); clear HBc hb y0 y1 y2 y3 y4 y5; have HBc := hid hbc; clear hbc; obtain ⟨y0, y1, y2, y3, y4, y5⟩ := HX.out _ HBc.out)
          | (go_at_call 18; refine (HKd.out _ (by first | exact HBc.out | exact Below.drew HBc.out)).mono ?_; rintro e X ⟨rfl, hb⟩; have hbc := belows (show Below wr.heap.size wr _ from (by first | exact HBc.out | exact Below.drew HBc.out)) hb (by first | exact HBc.out.size | exact (Below.drew HBc.out).size); clear HBc hb y0 y1 y2 y3 y4 y5; have HBc := hid hbc; clear hbc; obtain ⟨y0, y1, y2, y3, y4, y5⟩ := HX.out _ HBc.out)
          | (go_at_call 17; refine (HCl.out _ (by first | exact HBc.out | exact Below.drew HBc.out)).mono ?_; rintro e X ⟨v1, rfl, ho, hb⟩; obtain ⟨ra, rc, hrv⟩ := own_form ho; subst hrv; have hbc := belows (show Below wr.heap.size wr _ from (by first | exact HBc.out | exact Below.drew HBc.out)) hb (by first | exact HBc.out.size | exact (Below.drew HBc.out).size); clear HBc hb ho y0 y1 y2 y3 y4 y5; have HBc := hid hbc; clear hbc; obtain ⟨y0, y1, y2, y3, y4, y5⟩ := HX.out _ HBc.out)
          | (go_at_call 25; refine (HHt.out _ (by first | exact HBc.out | exact Below.drew HBc.out)).mono ?_; rintro e X ⟨Bs, rv, rfl, hr, hx, hb⟩; have HT := hid (toldNone hr hx); have hbc := belows (show Below wr.heap.size wr _ from (by first | exact HBc.out | exact Below.drew HBc.out)) hb (by first | exact HBc.out.size | exact (Below.drew HBc.out).size); clear HBc hb hr hx y0 y1 y2 y3 y4 y5; have HBc := hid hbc; clear hbc; obtain ⟨y0, y1, y2, y3, y4, y5⟩ := HX.out _ HBc.out)
          | (go_at_call 24; refine (HT.out).mono ?_; rintro e X ⟨rfl, hb⟩; have hbc := belows (show Below wr.heap.size wr _ from (by first | exact HBc.out | exact Below.drew HBc.out)) hb (by first | exact HBc.out.size | exact (Below.drew HBc.out).size); clear HBc hb y0 y1 y2 y3 y4 y5; have HBc := hid hbc; clear hbc; obtain ⟨y0, y1, y2, y3, y4, y5⟩ := HX.out _ HBc.out)
          | (go_at_call 7; refine (HNw.out _).mono ?_; rintro e X ⟨pb, p, rfl, -, -, -, hb⟩; have hbc := belows (show Below wr.heap.size wr _ from (by first | exact HBc.out | exact Below.drew HBc.out)) hb (by first | exact HBc.out.size | exact (Below.drew HBc.out).size); clear HBc hb y0 y1 y2 y3 y4 y5; have HBc := hid hbc; clear hbc; obtain ⟨y0, y1, y2, y3, y4, y5⟩ := HX.out _ HBc.out)
          | (go_at_call 20; refine (add_no (HNo.out _ (by first | exact HBc.out | exact Below.drew HBc.out)) _).mono ?_; rintro e X ⟨rfl, hXe⟩; replace hXe := hXe.symm; subst hXe)
          | (go_at_call 26; refine (clone_no (HNo.out _ (by first | exact HBc.out | exact Below.drew HBc.out))).mono ?_; rintro e X ⟨rfl, hXe⟩; replace hXe := hXe.symm; subst hXe)
          | (go_at_call 21; refine (same_no (HNo.out _ (by first | exact HBc.out | exact Below.drew HBc.out)) _).mono ?_; rintro e X ⟨rfl, hb⟩; have hbc := belows (show Below wr.heap.size wr _ from (by first | exact HBc.out | exact Below.drew HBc.out)) hb (by first | exact HBc.out.size | exact (Below.drew HBc.out).size); clear HBc hb y0 y1 y2 y3 y4 y5; have HBc := hid hbc; clear hbc; obtain ⟨y0, y1, y2, y3, y4, y5⟩ := HX.out _ HBc.out))
      go_wp2
      go_roundw
      case rel => exact ⟨k + 1, by go_num, by omega, belows HBr.out HBc.out HBr.out.size⟩
      case measure => simp [intOf]; omega
    · obtain rfl : k = 2 := by omega
      go_wp2
      go_ret
      exact ⟨rfl, belows (belows (belows HB1.out HB2.out HB1.out.size) HB3.out (Nat.le_trans HB1.out.size HB2.out.size)) HBr.out (Nat.le_trans HB1.out.size (Nat.le_trans HB2.out.size HB3.out.size))⟩
end Go.Proofs.Ytfphiomhlhpphaa
namespace Go.Proofs.Ytfphiomhlhpphaa
open Go.ChangeShapes Go.WideShapes Go.ChangeAt Go.RowKit Go.WideMaps Go.WideElems

set_option maxRecDepth 100000
section
variable {H : Type} {enc : TypeId × Value → H}
theorem A.cellsInt : Try.prog.cellsOf 3 = 1 := by kernel_rfl
theorem A.cellsI64 : Try.prog.cellsOf 2 = 1 := by kernel_rfl
theorem i8_of {a : Int} (h : (Lit.int .i64 a).wf = true) : I8 a := by
  simp [Lit.wf, IntKind.min, IntKind.max, IntKind.signed, IntKind.bits] at h
  unfold I8
  omega
theorem A.cellsSite : Try.prog.cellsOf 29 = 2 := by kernel_rfl
theorem site_cells {W : World} {n : Nat} {k0 k1 : Value} {y : DataW H × List MemPlace} (h : DataW.trod enc Try.prog W 0 (fun _ => true) true n 29 [k0, k1] = some y) : ∃ x : Int × Int, k0 = .int .i64 x.1 ∧ k1 = .int .i64 x.2 ∧ TS.ok x := by
  obtain ⟨xs, m, -, -, hl, hlen, hf⟩ := DataW.trod_struct Try.underlying29 h
  have hx2 : xs.length = 2 := hlen
  match xs, hx2 with
  | [x0, x1], _ =>
  obtain ⟨a, e0, -, w0⟩ := DataW.trod_int Try.underlying3 (hf 0 _ rfl)
  obtain ⟨b, e1, -, w1⟩ := DataW.trod_int Try.underlying3 (hf 1 _ rfl)
  have q0 : ([k0, k1].drop 0).take (Try.prog.cellsOf 3) = [.int .i64 a] := e0
  have q1 : ([k0, k1].drop 1).take (Try.prog.cellsOf 3) = [.int .i64 b] := e1
  rw [A.cellsInt] at q0 q1
  simp only [List.drop_zero, List.take_succ_cons, List.take_zero, List.cons.injEq, and_true, List.drop_succ_cons] at q0 q1
  exact ⟨(a, b), q0, q1, i8_of w0, i8_of w1⟩
theorem o_cells {W : World} {n : Nat} {cs : List Value} {y : DataW H × List MemPlace} (h : DataW.trod enc Try.prog W 0 (fun _ => true) true n 31 cs = some y) : ∃ x : Pf.O, cs = oL x ∧ GoodO x := by
  obtain ⟨xs, m, -, -, hl, hlen, hf⟩ := DataW.trod_struct Try.underlying31 h
  have hl6 : cs.length = 6 := hl.trans (by kernel_rfl)
  have hx5 : xs.length = 5 := hlen
  match xs, hx5 with
  | [x0, x1, x2, x3, x4], _ =>
  match cs, hl6 with
  | [k0, k1, k2, k3, k4, k5], _ =>
  obtain ⟨a, e0, -, w0⟩ := DataW.trod_int Try.underlying3 (hf 0 _ rfl)
  obtain ⟨b, e1, -, w1⟩ := DataW.trod_int Try.underlying3 (hf 1 _ rfl)
  obtain ⟨c, e3, -, w3⟩ := DataW.trod_int Try.underlying3 (hf 3 _ rfl)
  obtain ⟨d, e4, -, w4⟩ := DataW.trod_int Try.underlying2 (hf 4 _ rfl)
  have q0 : ([k0, k1, k2, k3, k4, k5].drop 0).take (Try.prog.cellsOf 3) = [.int .i64 a] := e0
  have q1 : ([k0, k1, k2, k3, k4, k5].drop 1).take (Try.prog.cellsOf 3) = [.int .i64 b] := e1
  have q3 : ([k0, k1, k2, k3, k4, k5].drop 4).take (Try.prog.cellsOf 3) = [.int .i64 c] := e3
  have q4 : ([k0, k1, k2, k3, k4, k5].drop 5).take (Try.prog.cellsOf 2) = [.int .i64 d] := e4
  have f2 : DataW.trod enc Try.prog W 0 (fun _ => true) true m 29 (([k0, k1, k2, k3, k4, k5].drop 2).take (Try.prog.cellsOf 29)) = some x2 := hf 2 _ rfl
  rw [A.cellsInt] at q0 q1 q3
  rw [A.cellsI64] at q4
  rw [A.cellsSite] at f2
  simp only [List.drop_zero, List.take_succ_cons, List.take_zero, List.cons.injEq, and_true, List.drop_succ_cons] at q0 q1 q3 q4 f2
  obtain ⟨s, rfl, rfl, hs⟩ := site_cells f2
  subst q0 q1 q3 q4
  exact ⟨⟨a, b, s, c, d⟩, rfl, i8_of w0, i8_of w1, hs, i8_of w3, i8_of w4⟩
theorem open_o {W : World} {v : Value} {d : DataW H} {ps : List MemPlace} {base : Nat}
    (hok : Value.okWide Try.prog W .any base 31 v) (h : DataW.Trod enc Try.prog W 0 (fun _ => true) true 31 v d ps) : ∃ x : Pf.O, v = .agg (oL x).toArray ∧ GoodO x := by
  obtain ⟨cs, rfl, hsz⟩ := okWide_struct Try.underlying31 hok
  obtain ⟨fuel, hf⟩ := h
  obtain ⟨x, hx, hg⟩ := o_cells (y := (d, ps)) hf
  refine ⟨x, ?_, hg⟩
  have hc2 : cs.toList = _ := hx
  rw [show cs = cs.toList.toArray by simp, hc2]
end
end Go.Proofs.Ytfphiomhlhpphaa

/- Own texts for the claim, part 3. -/
import Derived.Test.YtfphiomhlhpphaaZA2
namespace Go.Proofs.Ytfphiomhlhpphaa
open Go Go.RowKit
open Pf (Site Sn ix addk alt keys)
set_option maxRecDepth 100000
set_option maxHeartbeats 2000000
/-- The class that was seen most. -/
def mainC (c : List Sn × Bool) : Int × Bool := if c.2 = true then (0, false) else match Pf.srt c.1 with | [] => (0, false) | y :: _ => (y.1, true)
section
variable {w : World} {v : Value} {E : List Sn} {J : List (Site × Int)} {C : List (Site × Cl)} {me mj mc : Option Nat}
theorem main_any (h : Sees w v E J C me mj mc) {s : Site} (hs : TS.ok s) (h1 : ∀ y ∈ (Pf.look cl0 C s).2.1, 1 ≤ y.2) (hl : (Pf.look cl0 C s).2.1.length ≤ 4) :
    Calls Try.prog 23 #[v, sV s] w fun e w' => e = .returned (.tuple #[.int .i64 (mainC (Pf.look cl0 C s).2).1, .bool (mainC (Pf.look cl0 C s).2).2]) ∧ Below w.heap.size w w' := by
  obtain ⟨w1, hw1⟩ : ∃ w1, w1 = w.alloc (.cells #[.int .i64 s.1, .int .i64 s.2] 29) := ⟨_, rfl⟩
  have hb1 : Below w.heap.size w w1 := by rw [hw1]; exact (Below.refl _ _).alloc (Nat.le_refl _) _
  have bx : BX w1 w.heap.size #[.int .i64 s.1, .int .i64 s.2] 29 := by rw [hw1]; exact BX.new w _ _
  have hq := h.below hb1
  have HS := hid (fun W (hb : Below w1.heap.size w1 W) => hq.seen W hb)
  have HL := hid (fun W (hb : Below w1.heap.size w1 W) => (hq.hc.below hb).look ts uC cl0 (zC W) hs)
  have HX := hid (fun W (hb : Below w1.heap.size w1 W) => (show W.cell? ⟨w.heap.size, 0, none⟩ = some (.int .i64 s.1) ∧ W.cell? ⟨w.heap.size, 1, none⟩ = some (.int .i64 s.2) from ⟨(bx.below hb).cell 0, (bx.below hb).cell 1⟩))
  have hcl := hq.cl s
  obtain ⟨⟨mo, l, m⟩, hc⟩ : ∃ c, Pf.look cl0 C s = c := ⟨_, rfl⟩
  rw [hc] at HL h1 hl hcl ⊢
  dsimp only at h1 hl
  have HR := hid (fun W (hb : Below w1.heap.size w1 W) => ranked_any (show MO TI vI W mo l from hcl.below hb) (by omega) 1)
  have HN := hid (fun W (hb : Below w1.heap.size w1 W) => (hcl.below hb).len)
  unfold RkPost at HR
  rw [all_at1 h1] at HR
  unfold TS vC at HL
  unfold sV
  dsimp only at HL HN
  have f2 := fld2 me mj mc
  have HM : Hid (mainC (l, m) = if m = true then (0, false) else match Pf.srt l with | [] => (0, false) | y :: _ => (y.1, true)) := rfl
  show Calls _ _ _ _ fun e w' => e = .returned (.tuple #[.int .i64 (mainC (l, m)).1, .bool (mainC (l, m)).2]) ∧ Below w.heap.size w w'
  obtain ⟨mx, hmx⟩ : ∃ x, mainC (l, m) = x := ⟨_, rfl⟩
  rw [hmx] at HM ⊢
  have HLn := hid (Pf.srt_len l)
  obtain ⟨S, hS⟩ : ∃ S, Pf.srt l = S := ⟨_, rfl⟩
  rw [hS] at HR HLn HM
  have HL4 := hid hl
  obtain ⟨n, hn⟩ : ∃ n, l.length = n := ⟨_, rfl⟩
  rw [hn] at HN HLn HL4
  obtain ⟨x0, x1⟩ := HX.out w1 (Below.refl _ _)
  have HBc : Hid (Below w1.heap.size w1 w1) := Below.refl _ _
  have HB1 := hid hb1
  have HW1 := hid hw1
  have HWs : Hid (w.heap.size < w1.heap.size) := bx.sz
  clear h hs h1 hl hb1 bx hq hcl hc hS hw1 hmx hn
  go_enter Try.func23, Try.ntmps23
  go_upto_region 1 with fail
  rw [← HW1.out]
  go_region_held3 (fun X => X.cell? ⟨w.heap.size, 0, none⟩ = some (.int .i64 s.1) ∧ X.cell? ⟨w.heap.size, 1, none⟩ = some (.int .i64 s.2))
    (first | exact ⟨x0, x1⟩ | exact HX.out _ (Below.setCell (Below.setCell HBc.out (Nat.le_refl _) _) (Nat.le_refl _) _) | go_keep)
    (first
      | (go_at_call 44; first
          | ((with_reducible refine (HS.out _ (by first | exact HBc.out | exact Below.drew HBc.out)).mono ?_); rintro e X ⟨rfl, hb⟩; have hbc := belows (show Below w1.heap.size w1 _ from (by first | exact HBc.out | exact Below.drew HBc.out)) hb (by first | exact HBc.out.size | exact (Below.drew HBc.out).size); clear HBc hb x0 x1; have HBc := hid hbc; clear hbc; obtain ⟨x0, x1⟩ := HX.out _ HBc.out; have lk := HL.out _ HBc.out; have lk2 := HL.out (X.alloc (.cells #[.map none, .bool false] 85)) (HBc.out.alloc HBc.out.size _))
          | (have hbd : Below w1.heap.size w1 ((w1.alloc (.cells #[.map none, .bool false] 85)).drew) := Below.drew ((Below.refl w1.heap.size w1).alloc (Nat.le_refl _) _); (with_reducible refine (HS.out _ hbd).mono ?_); rintro e X ⟨rfl, hb⟩; have hbc := belows hbd hb hbd.size; have HWb := hid (((BX.new w1 #[.map none, .bool false] 85).below (Below.drew (Below.refl _ _))).below hb); clear HBc hb hbd x0 x1; have HBc := hid hbc; clear hbc; obtain ⟨x0, x1⟩ := HX.out _ HBc.out; have lk := HL.out _ HBc.out; have r0 : X.cell? ⟨w1.heap.size, 0, none⟩ = some (.map none) := HWb.out.cell 0; have r1 : X.cell? ⟨w1.heap.size, 1, none⟩ = some (.bool false) := HWb.out.cell 1; have g0 : X.frozen? ⟨w1.heap.size, 0, none⟩ = false := HWb.out.frozen 0; have g1 : X.frozen? ⟨w1.heap.size, 1, none⟩ = false := HWb.out.frozen 1; have gz := HWb.out.sz)))
  all_goals
    go_upto_region 2 with fail
    refine region_named fun W2 hW2 => ?_
    have HBw : Hid (Below w1.heap.size w1 W2) := by
      show Below _ _ _
      rw [hW2]
      first
        | exact Below.setCell (Below.setCell HBc.out (Nat.le_refl _) _) (Nat.le_refl _) _
        | exact HBc.out.alloc HBc.out.size _
    first
      | (have hbx : BX W2 X.heap.size #[.map mo, .bool m] 85 := (by rw [hW2]; exact BX.new X _ _); have y0 : W2.cell? ⟨X.heap.size, 0, none⟩ = some (.map mo) := hbx.cell 0; have y1 : W2.cell? ⟨X.heap.size, 1, none⟩ = some (.bool m) := hbx.cell 1; clear hbx; (try (clear lk2)))
      | (have hbx : BX W2 w1.heap.size #[.map mo, .bool m] 85 := (by rw [hW2]; exact box_set (box_set HWb.out 0 (.map mo)) 1 (.bool m)); have y0 : W2.cell? ⟨w1.heap.size, 0, none⟩ = some (.map mo) := hbx.cell 0; have y1 : W2.cell? ⟨w1.heap.size, 1, none⟩ = some (.bool m) := hbx.cell 1; clear hbx r0 r1 g0 g1; (try (clear gz HWb)))
    have ln := HN.out W2 HBw.out
    clear hW2 x0 x1 HBc
    try (clear lk)
    cases m
    · cases S with
      | nil =>
        obtain rfl : n = 0 := by have := HLn.out; simpa using this.symm
        have hx : mx = (0, false) := HM.out
        subst hx
        go_wp2
        go_ret2
        exact ⟨rfl, belows HB1.out HBw.out HB1.out.size⟩
      | cons y t =>
        have hx : mx = (y.1, true) := HM.out
        subst hx
        have hn0 : ((n : Int) == 0) = false := by have := HLn.out; simp only [List.length_cons] at this; simp; omega
        obtain ⟨k, q⟩ := y
        go_wp2_with (go_at_call 45; go_loud (refine (HR.out _ HBw.out).mono ?_; rintro e W3 ⟨v1, rfl, ho, hb⟩; obtain ⟨g, cap, hv, hg1, hg2, c0, c1⟩ := RwR.at ho (k := 0) (x := (k, q)) rfl; subst hv; have hpos : (0 : Int) < (((k, q) :: t).length : Int) := (by simp only [List.length_cons]; omega); rw [Nat.zero_mul] at c0 c1; have HB3 := hid (belows HBw.out hb HBw.out.size); clear ho hb hg1))
        go_ret2
        exact ⟨rfl, belows HB1.out HB3.out HB1.out.size⟩
    · have hx : mx = (0, false) := HM.out
      subst hx
      go_wp2
      go_ret2
      exact ⟨rfl, belows HB1.out HBw.out HB1.out.size⟩
end
end Go.Proofs.Ytfphiomhlhpphaa
namespace Go.Proofs.Ytfphiomhlhpphaa
open Go Go.RowKit
open Pf (Site Sn ix addk alt keys)
set_option maxRecDepth 100000
set_option maxHeartbeats 2000000
/-- A call's classes laid anew. -/
def IV.setC (p : IV) (s : Site) (b : Nat) (c : List Sn × Bool) : IV := { p with C := alt cl0 p.C s (fun _ => (some b, c)) }
def CallP (w : World) (base pb : Nat) (p : IV) (s : Site) (k : Int) (e : Ending) (w' : World) : Prop :=
  e = .returned (.int .i64 (Pf.kind (Pf.cnt (p.st.ca s) k 1))) ∧ ∃ b, PP w' base pb (p.setC s b (Pf.cnt (p.st.ca s) k 1)) ∧ Chg (fun i => i = p.cb ∨ (Pf.look cl0 p.C s).1 = some i) w w' ∧ ((Pf.look cl0 p.C s).1 = some b ∨ ((Pf.look cl0 p.C s).1 = none ∧ w.heap.size ≤ b))
theorem IP.clb {w : World} {base : Nat} {p : IV} (h : IP w base p) {s : Site} {b : Nat} (e : (Pf.look cl0 p.C s).1 = some b) : p.foot b := by
  by_cases hk : s ∈ keys p.C
  · exact .inr (.inr (.inr (.inr ⟨_, Pf.mem_look_iff (d := cl0) h.mc.nd hk, e⟩)))
  · rw [Pf.look_not hk] at e
    cases e
section
variable {w : World} {base pb : Nat} {p : IV}
theorem callp_yes (h : PP w base pb p) (hw : base ≤ w.heap.size) {s : Site} (hs : TS.ok s) {k : Int} (hk : I8 k) (hok : Pf.OkC (p.st.ca s)) (hl : p.C.length < maxLen) : Calls Try.prog 14 #[.pointer (some ⟨pb, 0, none⟩), sV s, .int .i64 k] w (CallP w base pb p s k) := by
  obtain ⟨w1, hw1⟩ : ∃ w1, w1 = w.alloc (.cells #[.int .i64 s.1, .int .i64 s.2] 29) := ⟨_, rfl⟩
  have hb1 : Below w.heap.size w w1 := by rw [hw1]; exact (Below.refl _ _).alloc (Nat.le_refl _) _
  have bx : BX w1 w.heap.size #[.int .i64 s.1, .int .i64 s.2] 29 := by rw [hw1]; exact BX.new w _ _
  have h1 := h.below hb1
  have HM := hid (made_yes h1)
  have HA := hid (fun W (hb : Below w1.heap.size w1 W) => call_any (h1.has.below hb) (Nat.le_trans hw (Nat.le_trans hb1.size hb.size)) hs hk Pf.bd1 hok hl)
  have HK := hid (fun W X (hb : Below w1.heap.size w1 W) (hc : Chg (fun i => i = p.cb ∨ (Pf.look cl0 p.C s).1 = some i) W X) => (show X.cell? ⟨pb, 0, none⟩ = some (.pointer (some ⟨p.ib, 0, none⟩)) ∧ X.cell? ⟨w.heap.size, 0, none⟩ = some (.int .i64 s.1) ∧ X.cell? ⟨w.heap.size, 1, none⟩ = some (.int .i64 s.2) from by
    have n1 : ¬ (pb = p.cb ∨ (Pf.look cl0 p.C s).1 = some pb) := fun e => h1.off (e.elim (fun e => .inr (.inr (.inr (.inl e)))) (fun e => h1.has.clb e))
    have n2 : ¬ (w.heap.size = p.cb ∨ (Pf.look cl0 p.C s).1 = some w.heap.size) := fun e => by
      have := h.has.lt w.heap.size (e.elim (fun e => .inr (.inr (.inr (.inl e)))) (fun e => h.has.clb e))
      omega
    exact ⟨((h1.box.below hb).chg hc n1).cell 0, ((bx.below hb).chg hc n2).cell 0, ((bx.below hb).chg hc n2).cell 1⟩))
  have HKd := hid (fun X p' (hX : PP X base pb p') => kindp_any hX.sees hs)
  have x0 : w1.cell? ⟨pb, 0, none⟩ = some (.pointer (some ⟨p.ib, 0, none⟩)) := h1.box.cell 0
  have x2 : w1.cell? ⟨w.heap.size, 0, none⟩ = some (.int .i64 s.1) := bx.cell 0
  have x3 : w1.cell? ⟨w.heap.size, 1, none⟩ = some (.int .i64 s.2) := bx.cell 1
  have HW1 := hid hw1
  have HB1 := hid hb1
  have HH := hid h
  have HH1 := hid h1
  unfold CallI at HA
  unfold sV at HA HKd ⊢
  clear h hs hk hok hl hw1 hb1 bx h1 hw
  go_enter Try.func14, Try.ntmps14
  go_upto_region 1 with fail
  rw [← HW1.out]
  go_upto_region 3 with (go_at_call 40; refine HM.out.mono ?_; rintro e w1 ⟨rfl, rfl⟩)
  go_region_held3 (fun X => X.cell? ⟨pb, 0, none⟩ = some (.pointer (some ⟨p.ib, 0, none⟩)) ∧ X.cell? ⟨w.heap.size, 0, none⟩ = some (.int .i64 s.1) ∧ X.cell? ⟨w.heap.size, 1, none⟩ = some (.int .i64 s.2))
    (first | exact ⟨x0, x2, x3⟩ | go_keep)
    (first | (go_at_call 43; refine (HA.out _ (by repeat' first | with_reducible exact Below.refl _ _ | with_reducible assumption | with_reducible refine belows_drewN ?_ _ | with_reducible refine Below.drew ?_ | with_reducible refine Below.setCell ?_ ?_ _ | with_reducible refine Below.alloc ?_ ?_ _ | omega | (simp; done) | (simp; omega))).mono ?_; rintro e w4 ⟨rfl, b, hi4, hc4, hb4⟩; obtain ⟨y0, y2, y3⟩ := HK.out _ _ (by repeat' first | with_reducible exact Below.refl _ _ | with_reducible assumption | with_reducible refine belows_drewN ?_ _ | with_reducible refine Below.drew ?_ | with_reducible refine Below.setCell ?_ ?_ _ | with_reducible refine Below.alloc ?_ ?_ _ | omega | (simp; done) | (simp; omega)) hc4; have HQ := hid (And.intro hi4 hb4); have HC4 : Hid (Chg (fun i => i = p.cb ∨ (Pf.look cl0 p.C s).1 = some i) w1 w4) := (Chg.of_below (show Below w1.heap.size w1 _ from (by repeat' first | with_reducible exact Below.refl _ _ | with_reducible assumption | with_reducible refine belows_drewN ?_ _ | with_reducible refine Below.drew ?_ | with_reducible refine Below.setCell ?_ ?_ _ | with_reducible refine Below.alloc ?_ ?_ _ | omega | (simp; done) | (simp; omega)))).trans hc4 (fun i e => .inl e); clear hi4 hc4 hb4 x0 x2 x3; have x0 := y0; have x2 := y2; have x3 := y3; clear y0 y2 y3))
  have hcw : Chg (fun i => i = p.cb ∨ (Pf.look cl0 p.C s).1 = some i) w w4 := (Chg.of_below HB1.out).trans HC4.out (fun i e => .inl e)
  have hpp : PP w4 base pb (p.setC s b (Pf.cnt (p.st.ca s) k 1)) := ⟨HH.out.box.chg hcw (fun e => HH.out.off (e.elim (fun e => .inr (.inr (.inr (.inl e)))) (fun e => HH.out.has.clb e))), by have := HQ.out.1; rw [Pf.alt_const] at this; exact this, HH.out.low⟩
  have HP := hid hpp
  have HCw := hid hcw
  have HKk := hid (HKd.out w4 _ hpp)
  have HE : Hid (Pf.look cl0 (p.setC s b (Pf.cnt (p.st.ca s) k 1)).C s = (some b, Pf.cnt (p.st.ca s) k 1)) := by show Pf.look cl0 (alt cl0 p.C s _) s = _; rw [Pf.look_alt, if_pos rfl]
  rw [HE.out] at HKk
  clear hcw hpp
  go_wp2_with (go_at_call 18; refine HKk.out.mono ?_; rintro e w5 ⟨rfl, hb5⟩; have HB5 := hid hb5; clear hb5)
  go_ret
  refine ⟨rfl, b, HP.out.below HB5.out, HCw.out.below HB5.out, ?_⟩
  have := HQ.out.2
  have hz := HB1.out.size
  exact this.imp_right fun ⟨e, l⟩ => ⟨e, Nat.le_trans hz (Nat.le_trans (Below.size (show Below w1.heap.size w1 _ from (by repeat' first | with_reducible exact Below.refl _ _ | with_reducible assumption | with_reducible refine belows_drewN ?_ _ | with_reducible refine Below.drew ?_ | with_reducible refine Below.setCell ?_ ?_ _ | with_reducible refine Below.alloc ?_ ?_ _ | omega | (simp; done) | (simp; omega)))) l)⟩
end
end Go.Proofs.Ytfphiomhlhpphaa
namespace Go.Proofs.Ytfphiomhlhpphaa
open Go Go.RowKit
open Pf (Site Sn ix addk alt keys)
set_option maxRecDepth 100000
set_option maxHeartbeats 2000000
theorem more_ge {y n : Int} (h : Pf.Bd y) (hn : 1 ≤ n ∧ n ≤ Pf.M) : 1 ≤ Pf.more y n ∧ Pf.more y n ≤ Pf.M := by
  unfold Pf.Bd Pf.more Pf.M at *
  split <;> omega
theorem bd_of {n : Int} (h : 1 ≤ n ∧ n ≤ Pf.M) : Pf.Bd n := ⟨by omega, h.2⟩
section
variable {p : IV} {n : Nat}
theorem bd_look {κ : Type} [DecidableEq κ] {L : List (κ × Int)} (h : (keys L).Nodup) (hb : ∀ x ∈ L, 1 ≤ x.2 ∧ x.2 ≤ Pf.M) (k : κ) : Pf.Bd (Pf.look 0 L k) := by
  by_cases hk : k ∈ keys L
  · exact bd_of (hb _ (Pf.mem_look_iff (d := (0 : Int)) h hk))
  · rw [Pf.look_not hk]
    exact Pf.bd0
theorem alt_bd {κ : Type} [DecidableEq κ] {L : List (κ × Int)} (h : (keys L).Nodup) (hb : ∀ x ∈ L, 1 ≤ x.2 ∧ x.2 ≤ Pf.M) (k : κ) {m : Int} (hm : 1 ≤ m ∧ m ≤ Pf.M) : ∀ x ∈ alt 0 L k (fun y => Pf.more y m), 1 ≤ x.2 ∧ x.2 ≤ Pf.M := by
  intro x hx
  rw [Pf.alt_const] at hx
  rcases alt_is h hx with ⟨-, e⟩ | ⟨-, hx⟩
  · rw [e]
    exact more_ge (bd_look h hb k) hm
  · exact hb x hx
theorem cl_ok (h : OkP p n) (hd : (keys p.C).Nodup) (s : Site) : Pf.OkC (p.st.ca s) ∧ ∀ y ∈ (p.st.ca s).1, 1 ≤ y.2 := by
  show Pf.OkC (Pf.look cl0 p.C s).2 ∧ ∀ y ∈ (Pf.look cl0 p.C s).2.1, 1 ≤ y.2
  by_cases hk : s ∈ keys p.C
  · have := h.bc _ (Pf.mem_look_iff (d := cl0) hd hk)
    exact ⟨this.1, this.2.2⟩
  · rw [Pf.look_not hk]
    exact ⟨Pf.okC0, fun y hy => by cases hy⟩
theorem cnt_fine {c : List Sn × Bool} {k m : Int} (h : Pf.OkC c) (h1 : ∀ y ∈ c.1, 1 ≤ y.2) (hm : 1 ≤ m ∧ m ≤ Pf.M) : Pf.OkC (Pf.cnt c k m) ∧ (Pf.cnt c k m).1 ≠ [] ∧ ∀ y ∈ (Pf.cnt c k m).1, 1 ≤ y.2 := by
  refine ⟨Pf.okC_cnt h (bd_of hm), ?_⟩
  unfold Pf.cnt
  by_cases hk : k ∈ keys c.1 ∨ c.1.length < 4
  · rw [if_pos hk]
    refine ⟨fun e => ?_, fun y hy => ?_⟩
    · have := (Pf.keys_alt_mem (d := (0 : Int)) (l := c.1) (k := k) (j := k) (g := fun y => Pf.more y m)).2 (.inr rfl)
      rw [show alt 0 c.1 k (fun y => Pf.more y m) = [] from e] at this
      cases this
    · have hb : ∀ x ∈ c.1, 1 ≤ x.2 ∧ x.2 ≤ Pf.M := fun x hx => ⟨h1 x hx, (h.bd x hx).2⟩
      exact (alt_bd h.nd hb k hm y hy).1
  · rw [if_neg hk]
    refine ⟨fun e => ?_, h1⟩
    rw [show c.1 = [] from e] at hk
    exact hk (.inr (by decide))
theorem OkP.ok (h : OkP p n) (he : (keys p.E).Nodup) (hj : (keys p.J).Nodup) (hc : (keys p.C).Nodup) : Pf.Ok p.st := ⟨bd_look he h.be, bd_look hj h.bj, fun s => (cl_ok h hc s).1⟩
theorem OkP.enter (h : OkP p n) (he : (keys p.E).Nodup) (f : Int) : OkP { p with E := alt 0 p.E f (fun y => Pf.more y 1) } (n + 1) :=
  ⟨alt_bd he h.be f ⟨by decide, by decide⟩, h.bj, h.bc, Nat.le_trans (Pf.alt_le p.E f _).2 (Nat.succ_le_succ h.le), Nat.le_succ_of_le h.lj, Nat.le_succ_of_le h.lc⟩
theorem OkP.back (h : OkP p n) (he : (keys p.J).Nodup) (s : Site) : OkP { p with J := alt 0 p.J s (fun y => Pf.more y 1) } (n + 1) :=
  ⟨h.be, alt_bd he h.bj s ⟨by decide, by decide⟩, h.bc, Nat.le_succ_of_le h.le, Nat.le_trans (Pf.alt_le p.J s _).2 (Nat.succ_le_succ h.lj), Nat.le_succ_of_le h.lc⟩
theorem OkP.setC (h : OkP p n) (hc : (keys p.C).Nodup) (s : Site) (b : Nat) {c : List Sn × Bool} (h1 : Pf.OkC c ∧ c.1 ≠ [] ∧ ∀ y ∈ c.1, 1 ≤ y.2) : OkP (p.setC s b c) (n + 1) :=
  ⟨h.be, h.bj, fun x hx => (alt_is hc hx).elim (fun e => by rw [e.2]; exact h1) (fun e => h.bc x e.2), Nat.le_succ_of_le h.le, Nat.le_succ_of_le h.lj, Nat.le_trans (Pf.alt_le p.C s _).2 (Nat.succ_le_succ h.lc)⟩
theorem OkP.mono (h : OkP p n) {m : Nat} (hm : n ≤ m) : OkP p m := ⟨h.be, h.bj, h.bc, Nat.le_trans h.le hm, Nat.le_trans h.lj hm, Nat.le_trans h.lc hm⟩
theorem st_enter (p : IV) (f : Int) : IV.st { p with E := alt 0 p.E f (fun y => Pf.more y 1) } = p.st.enter f := by
  show (⟨_, _, _⟩ : Pf.St) = ⟨_, _, _⟩
  congr 1
  funext g
  show Pf.look 0 (alt 0 p.E f _) g = _
  rw [Pf.look_alt]
  rfl
theorem st_back (p : IV) (s : Site) : IV.st { p with J := alt 0 p.J s (fun y => Pf.more y 1) } = p.st.back s := by
  show (⟨_, _, _⟩ : Pf.St) = ⟨_, _, _⟩
  congr 1
  funext g
  show Pf.look 0 (alt 0 p.J s _) g = _
  rw [Pf.look_alt]
  rfl
theorem st_setC (p : IV) (s : Site) (b : Nat) (k m : Int) : (p.setC s b (Pf.cnt (p.st.ca s) k m)).st = p.st.call s k m := by
  show (⟨_, _, _⟩ : Pf.St) = ⟨_, _, _⟩
  congr 1
  funext y
  show (Pf.look cl0 (alt cl0 p.C s _) y).2 = if y = s then _ else _
  rw [Pf.look_alt]
  by_cases e : y = s
  · rw [if_pos e, if_pos e]
  · rw [if_neg e, if_neg e]
    rfl
end
/-- A profile gone on with: what it has counted now; of what there was it has written its own blocks alone. -/
def Step (w w' : World) (base pb : Nat) (p : IV) (n : Nat) (t : Pf.St) : Prop := ∃ p', PP w' base pb p' ∧ OkP p' n ∧ p'.st = t ∧ Chg p.foot w w' ∧ ∀ i, p'.foot i → p.foot i ∨ w.heap.size ≤ i
section
variable {w : World} {base pb n : Nat} {p : IV}
theorem enterS (h : PP w base pb p) (ok : OkP p n) (hn : n < 2000000000000) {f : Int} (hf : I8 f) : Calls Try.prog 12 #[.pointer (some ⟨pb, 0, none⟩), .int .i64 f] w fun e w' =>
    e = .returned (.int .i64 (Pf.more (p.st.en f) 1)) ∧ Step w w' base pb p (n + 1) (p.st.enter f) := by
  refine (enter_yes h hf (bd_look h.has.me.nd ok.be f) (by have := ok.le; unfold maxLen; omega)).mono ?_
  rintro e w' ⟨rfl, h1, h2⟩
  exact ⟨rfl, _, h1, ok.enter h.has.me.nd f, st_enter p f, h2.mono (fun i _ e => .inr (.inl e)), fun i hi => .inl hi⟩
theorem backS (h : PP w base pb p) (ok : OkP p n) (hn : n < 2000000000000) {s : Site} (hs : TS.ok s) : Calls Try.prog 13 #[.pointer (some ⟨pb, 0, none⟩), sV s] w fun e w' =>
    e = .returned (.int .i64 (Pf.more (p.st.ju s) 1)) ∧ Step w w' base pb p (n + 1) (p.st.back s) := by
  refine (back_yes h hs (bd_look h.has.mj.nd ok.bj s) (by have := ok.lj; unfold maxLen; omega)).mono ?_
  rintro e w' ⟨rfl, h1, h2⟩
  exact ⟨rfl, _, h1, ok.back h.has.mj.nd s, st_back p s, h2.mono (fun i _ e => .inr (.inr (.inl e))), fun i hi => .inl hi⟩
theorem setC_foot {s : Site} {b : Nat} {c : List Sn × Bool} (hd : (keys p.C).Nodup) {i : Nat} (hi : (p.setC s b c).foot i) : p.foot i ∨ i = b := by
  rcases hi with e | e | e | e | ⟨x, hx, e⟩
  · exact .inl (.inl e)
  · exact .inl (.inr (.inl e))
  · exact .inl (.inr (.inr (.inl e)))
  · exact .inl (.inr (.inr (.inr (.inl e))))
  · rcases alt_is hd hx with ⟨-, e2⟩ | ⟨-, hx⟩
    · rw [e2] at e
      exact .inr (Option.some.inj e).symm
    · exact .inl (.inr (.inr (.inr (.inr ⟨x, hx, e⟩))))
theorem callS (h : PP w base pb p) (hw : base ≤ w.heap.size) (ok : OkP p n) (hn : n < 2000000000000) {s : Site} (hs : TS.ok s) {k : Int} (hk : I8 k) : Calls Try.prog 14 #[.pointer (some ⟨pb, 0, none⟩), sV s, .int .i64 k] w fun e w' =>
    e = .returned (.int .i64 (Pf.kind (Pf.cnt (p.st.ca s) k 1))) ∧ Step w w' base pb p (n + 1) (p.st.call s k 1) := by
  have hc := cl_ok ok h.has.mc.nd s
  refine (callp_yes h hw hs hk hc.1 (by have := ok.lc; unfold maxLen; omega)).mono ?_
  rintro e w' ⟨rfl, b, h1, h2, h3⟩
  refine ⟨rfl, _, h1, ok.setC h.has.mc.nd s b (cnt_fine hc.1 hc.2 ⟨by decide, by decide⟩), st_setC p s b k 1, h2.mono (fun i _ e => e.elim (fun e => .inr (.inr (.inr (.inl e)))) (fun e => h.has.clb e)), fun i hi => ?_⟩
  rcases setC_foot h.has.mc.nd hi with e | rfl
  · exact .inl e
  · exact h3.imp (fun e => h.has.clb e) (fun e => e.2)
theorem enteredS (h : PP w base pb p) {f : Int} (hf : I8 f) : Calls Try.prog 15 #[.pointer (some ⟨pb, 0, none⟩), .int .i64 f] w fun e w' => e = .returned (.int .i64 (p.st.en f)) ∧ Below w.heap.size w w' := entered_any h.sees hf
theorem jumpedS (h : PP w base pb p) {s : Site} (hs : TS.ok s) : Calls Try.prog 16 #[.pointer (some ⟨pb, 0, none⟩), sV s] w fun e w' => e = .returned (.int .i64 (p.st.ju s)) ∧ Below w.heap.size w w' := jumped_any h.sees hs
theorem kindS (h : PP w base pb p) {s : Site} (hs : TS.ok s) : Calls Try.prog 18 #[.pointer (some ⟨pb, 0, none⟩), sV s] w fun e w' => e = .returned (.int .i64 (Pf.kind (p.st.ca s))) ∧ Below w.heap.size w w' := kindp_any h.sees hs
theorem classesS (h : PP w base pb p) (ok : OkP p n) {s : Site} (hs : TS.ok s) : Calls Try.prog 17 #[.pointer (some ⟨pb, 0, none⟩), sV s] w (ClPost w (Pf.srt (p.st.ca s).1)) :=
  classes_any h.sees hs (cl_ok ok h.has.mc.nd s).2 (cl_ok ok h.has.mc.nd s).1.ln
theorem mainS (h : PP w base pb p) (ok : OkP p n) {s : Site} (hs : TS.ok s) : Calls Try.prog 23 #[.pointer (some ⟨pb, 0, none⟩), sV s] w fun e w' => e = .returned (.tuple #[.int .i64 (mainC (p.st.ca s)).1, .bool (mainC (p.st.ca s)).2]) ∧ Below w.heap.size w w' :=
  main_any h.sees hs (cl_ok ok h.has.mc.nd s).2 (cl_ok ok h.has.mc.nd s).1.ln
theorem newS (w : World) : Calls Try.prog 7 #[] w fun e w' => ∃ (pb : Nat) (p : IV), e = .returned (.pointer (some ⟨pb, 0, none⟩)) ∧ PP w' w.heap.size pb p ∧ OkP p 0 ∧ p.st = Pf.st0 ∧ Below w.heap.size w w' := by
  refine (new_any w).mono ?_
  rintro e w' ⟨pb, p, h1, h2, h3, rfl, h4, h5⟩
  obtain ⟨ib, eb, jb, cb, E, J, C⟩ := p
  dsimp only at h1 h2 h3
  subst h1 h2 h3
  exact ⟨pb, _, rfl, h4, ⟨(fun x hx => by cases hx), (fun x hx => by cases hx), (fun x hx => by cases hx), Nat.le_refl _, Nat.le_refl _, Nat.le_refl _⟩, rfl, h5⟩
end
end Go.Proofs.Ytfphiomhlhpphaa
namespace Go.Proofs.Ytfphiomhlhpphaa
open Go Go.RowKit
open Pf (Site Sn ix addk alt keys)
set_option maxRecDepth 100000
set_option maxHeartbeats 2000000
def s12 : Site := (1, 2)
theorem s12_ok : TS.ok s12 := ⟨⟨by decide, by decide⟩, ⟨by decide, by decide⟩⟩
/-- A block of one's own beside a profile. -/
structure Bes (w : World) (base pb : Nat) (p : IV) (n : Nat) (t : Pf.St) (bs : Nat) : Prop where
  pp : PP w base pb p
  ok : OkP p n
  st : p.st = t
  bx : BX w bs #[.int .i64 1, .int .i64 2] 29
  off : ¬ p.foot bs
  lo : base ≤ w.heap.size
theorem Bes.step {w w' : World} {base pb bs n m : Nat} {p : IV} {t t' : Pf.St} (h : Bes w base pb p n t bs) (hs : Step w w' base pb p m t') : ∃ p', Bes w' base pb p' m t' bs ∧ Below base w w' := by
  obtain ⟨p', h1, h2, h3, h4, h5⟩ := hs
  refine ⟨p', ⟨h1, h2, h3, h.bx.chg h4 h.off, fun e => ?_, Nat.le_trans h.lo h4.size⟩, h4.to_below (fun k hk => h.pp.has.low k hk) h.lo⟩
  rcases h5 bs e with e | e
  · exact h.off e
  · have := h.bx.sz
    omega
theorem Bes.call {w : World} {base pb bs n : Nat} {p : IV} {t : Pf.St} (h : Bes w base pb p n t bs) (hn : n < 2000000000000) {k : Int} (hk : I8 k) {q : Int} (hq : Pf.kind (Pf.cnt (t.ca s12) k 1) = q) :
    Calls Try.prog 14 #[.pointer (some ⟨pb, 0, none⟩), .agg #[.int .i64 1, .int .i64 2], .int .i64 k] w fun e w' => e = .returned (.int .i64 q) ∧ ∃ p', Bes w' base pb p' (n + 1) (t.call s12 k 1) bs ∧ Below base w w' := by
  have := callS h.pp h.lo h.ok hn s12_ok hk
  rw [h.st] at this
  refine this.mono ?_
  rintro e w' ⟨rfl, hs⟩
  exact ⟨by rw [hq], h.step hs⟩
def b1 : Pf.St := Pf.st0.call s12 8 1
def b2 : Pf.St := b1.call s12 8 1
def b3 : Pf.St := b2.call s12 9 1
theorem begun_any (w : World) : Calls Try.prog 9 #[] w fun e w' => e = .returned (.bool true) ∧ Below w.heap.size w w' := by
  have HN := hid (newS w)
  have HC1 := hid (fun W pb p bs (h : Bes W w.heap.size pb p 0 Pf.st0 bs) => h.call (by decide) (k := 8) ⟨by decide, by decide⟩ (q := 1) (by decide))
  have HC2 := hid (fun W pb p bs (h : Bes W w.heap.size pb p 1 b1 bs) => h.call (by decide) (k := 8) ⟨by decide, by decide⟩ (q := 1) (by decide))
  have HC3 := hid (fun W pb p bs (h : Bes W w.heap.size pb p 2 b2 bs) => h.call (by decide) (k := 9) ⟨by decide, by decide⟩ (q := 2) (by decide))
  have HM := hid (fun W pb p bs (h : Bes W w.heap.size pb p 3 b3 bs) => (show Calls Try.prog 23 #[.pointer (some ⟨pb, 0, none⟩), .agg #[.int .i64 1, .int .i64 2]] W fun e w' => e = .returned (.tuple #[.int .i64 8, .bool true]) ∧ Below W.heap.size W w' from by
    have := mainS h.pp h.ok s12_ok
    rw [h.st] at this
    exact this))
  have HE1 := hid (fun W pb p n (h : PP W w.heap.size pb p) (ok : OkP p n) (hn : n < 100) (hs : p.st = b3) => (show Calls Try.prog 12 #[.pointer (some ⟨pb, 0, none⟩), .int .i64 3] W fun e w' => e = .returned (.int .i64 1) ∧ Step W w' w.heap.size pb p (n + 1) (b3.enter 3) from by
    have := enterS h ok (by omega) (f := 3) ⟨by decide, by decide⟩
    rw [hs] at this
    exact this))
  have HE2 := hid (fun W pb p n (h : PP W w.heap.size pb p) (ok : OkP p n) (hn : n < 100) (hs : p.st = b3.enter 3) => (show Calls Try.prog 12 #[.pointer (some ⟨pb, 0, none⟩), .int .i64 3] W fun e w' => e = .returned (.int .i64 2) ∧ Step W w' w.heap.size pb p (n + 1) ((b3.enter 3).enter 3) from by
    have := enterS h ok (by omega) (f := 3) ⟨by decide, by decide⟩
    rw [hs] at this
    exact this))
  go_enter Try.func9, Try.ntmps9
  go_upto_region 5 with (go_at_call 7; refine HN.out.mono ?_; rintro e w1 ⟨pb, p, rfl, h1, h2, h3, h4⟩; have HP := hid (And.intro h1 (And.intro h2 (And.intro h3 h4))); clear h1 h2 h3 h4)
  refine region_named fun W2 hW2 => ?_
  have hb2 : Below w1.heap.size w1 W2 := by rw [hW2]; exact (Below.refl _ _).alloc (Nat.le_refl _) _
  have bx : BX W2 w1.heap.size #[.int .i64 1, .int .i64 2] 29 := by rw [hW2]; exact BX.new w1 _ _
  have hbw := belows HP.out.2.2.2 hb2 HP.out.2.2.2.size
  have HB0 : Hid (Bes W2.drew w.heap.size pb p 0 Pf.st0 w1.heap.size ∧ Below w.heap.size w W2.drew) :=
    ⟨⟨(HP.out.1.below hb2).below (Below.drew (Below.refl _ _)), HP.out.2.1, HP.out.2.2.1, bx, fun e => by have := HP.out.1.has.lt _ e; omega, hbw.size⟩, Below.drew hbw⟩
  have x0 : W2.cell? ⟨w1.heap.size, 0, none⟩ = some (.int .i64 1) := bx.cell 0
  have x1 : W2.cell? ⟨w1.heap.size, 1, none⟩ = some (.int .i64 2) := bx.cell 1
  clear hW2 hb2 bx hbw HP
  go_region_held3 (fun X => X.cell? ⟨w1.heap.size, 0, none⟩ = some (.int .i64 1) ∧ X.cell? ⟨w1.heap.size, 1, none⟩ = some (.int .i64 2))
    (first | exact ⟨x0, x1⟩ | go_keep)
    (first
      | ((fail_if_success (have _g := HB1)); go_at_call 14; (with_reducible refine (HC1.out _ _ _ _ HB0.out.1).mono ?_); rintro e X1 ⟨rfl, p1, h1, hb⟩; have HB1 := hid (And.intro h1 (HB0.out.2.trans hb)); clear x0 x1; have x0 : X1.cell? ⟨w1.heap.size, 0, none⟩ = some (.int .i64 1) := h1.bx.cell 0; have x1 : X1.cell? ⟨w1.heap.size, 1, none⟩ = some (.int .i64 2) := h1.bx.cell 1; clear h1 hb)
      | (have _g := HB1; (fail_if_success (have _g := HB2)); go_at_call 14; (with_reducible refine (HC2.out _ _ _ _ HB1.out.1).mono ?_); rintro e X2 ⟨rfl, p2, h1, hb⟩; have HB2 := hid (And.intro h1 (HB1.out.2.trans hb)); clear x0 x1; have x0 : X2.cell? ⟨w1.heap.size, 0, none⟩ = some (.int .i64 1) := h1.bx.cell 0; have x1 : X2.cell? ⟨w1.heap.size, 1, none⟩ = some (.int .i64 2) := h1.bx.cell 1; clear h1 hb)
      | (have _g := HB2; go_at_call 14; (with_reducible refine (HC3.out _ _ _ _ HB2.out.1).mono ?_); rintro e X3 ⟨rfl, p3, h1, hb⟩; have HB3 := hid (And.intro h1 (HB2.out.2.trans hb)); clear x0 x1; have x0 : X3.cell? ⟨w1.heap.size, 0, none⟩ = some (.int .i64 1) := h1.bx.cell 0; have x1 : X3.cell? ⟨w1.heap.size, 1, none⟩ = some (.int .i64 2) := h1.bx.cell 1; clear h1 hb))
  go_wp2_with (first
    | (go_at_call 23; refine (HM.out _ _ _ _ HB3.out.1).mono ?_; rintro e X4 ⟨rfl, hb⟩; have HB4 : Hid (PP X4 w.heap.size pb p3 ∧ OkP p3 3 ∧ p3.st = b3 ∧ Below w.heap.size w X4) := ⟨HB3.out.1.pp.below hb, HB3.out.1.ok, HB3.out.1.st, belows HB3.out.2 hb HB3.out.2.size⟩; clear hb)
    | ((fail_if_success (have _g := HB5)); go_at_call 12; refine (HE1.out _ _ _ _ HB4.out.1 HB4.out.2.1 (by decide) HB4.out.2.2.1).mono ?_; rintro e X5 ⟨rfl, p5, h1, h2, h3, h4, h5⟩; have HB5 : Hid (PP X5 w.heap.size pb p5 ∧ OkP p5 4 ∧ p5.st = b3.enter 3 ∧ Below w.heap.size w X5) := ⟨h1, h2, h3, HB4.out.2.2.2.trans (h4.to_below (fun k hk => HB4.out.1.has.low k hk) HB4.out.2.2.2.size)⟩; clear h1 h2 h3 h4 h5)
    | (have _g := HB5; go_at_call 12; refine (HE2.out _ _ _ _ HB5.out.1 HB5.out.2.1 (by decide) HB5.out.2.2.1).mono ?_; rintro e X6 ⟨rfl, p6, h1, h2, h3, h4, h5⟩; have HB6 : Hid (Below w.heap.size w X6) := HB5.out.2.2.2.trans (h4.to_below (fun k hk => HB5.out.1.has.low k hk) HB5.out.2.2.2.size); clear h1 h2 h3 h4 h5))
  go_ret
  exact ⟨rfl, HB6.out⟩
end Go.Proofs.Ytfphiomhlhpphaa
namespace Go.Proofs.Ytfphiomhlhpphaa
open Go Go.RowKit Go.ChangeMaps Go.MapKept
open Go.WideElems (Fit rd_key)
open Pf (ix addk alt keys)
theorem setBlock_twice (w : World) (b : Nat) (x y : Obj) : setBlock (setBlock w b x) b y = setBlock w b y := by
  unfold setBlock
  simp
theorem heap_setBlock_at {w : World} {b : Nat} {o : Obj} (h : w.heap[b]? = some o) (o' : Obj) : (setBlock w b o').heap[b]? = some o' := by
  have := (Array.getElem?_eq_some_iff.1 h).1
  unfold setBlock
  simp [this]
theorem modify_push {α : Type} (xs : Array α) (x : α) (f : α → α) : (xs.push x).modify xs.size f = xs.push (f x) := by
  apply Array.ext
  · simp
  · intro i h1 h2
    simp only [Array.getElem_modify, Array.getElem_push]
    by_cases e : i < xs.size
    · rw [dif_pos e, dif_pos e, if_neg (by omega)]
    · rw [dif_neg e, dif_neg e, if_pos (by simp at h2; omega)]
theorem modify_eq_of {α : Type} {xs : Array α} {j : Nat} {f g : α → α} (h : ∀ x, xs[j]? = some x → f x = g x) : xs.modify j f = xs.modify j g := by
  apply Array.ext
  · simp
  · intro i h1 h2
    simp only [Array.getElem_modify]
    by_cases e : j = i
    · subst e
      rw [if_pos rfl, if_pos rfl]
      exact h _ (by rw [Array.getElem?_eq_getElem])
    · rw [if_neg e, if_neg e]
theorem modify_modify {α : Type} (xs : Array α) (j : Nat) (f g : α → α) : (xs.modify j f).modify j g = xs.modify j (fun x => g (f x)) := by
  apply Array.ext
  · simp
  · intro i h1 h2
    simp only [Array.getElem_modify]
    by_cases e : j = i
    · rw [if_pos e, if_pos e, if_pos e]
    · rw [if_neg e, if_neg e, if_neg e]
/-- The entry, then its element: what a store does. -/
theorem entry_runs {P : Program} {k t e : TypeId} {b : Nat} {w : World} {es : Array MapEntry} {clock : Nat} {H : Type} {R : Value → Option (DataW H × List MemPlace)} (K : Maps.Keyed P k) (ht : P.underlying t = some (.map k e)) (hb : w.heap[b]? = some (.map es clock)) (F : Fit P k R es clock)
    {key z : Value} {kl : Lit} (hkey : keyOf P k key = some kl) (hz : ∀ w, (zeroValue e).run P w = .ok z w) :
    ∃ (c : Nat) (u : Value) (w1 : World), (Instr.lookup t (.map (some b)) key false).run P w = .ok u w ∧ (Instr.mapEntry t (.map (some b)) key).run P w = .ok (.tuple #[u, .int .i64 (c : Int)]) w1 ∧ (Instr.mapUpdate t (.map (some b)) key u).run P w = .ok () w1 ∧
      ∀ v, (Instr.entryStore t (.map (some b)) (.int .i64 (c : Int)) v).run P w1 = (Instr.mapUpdate t (.map (some b)) key v).run P w := by
  have hst := (stamped_iff es clock).1 F.stamped
  rcases K.find w hkey es.toList F.keys with ⟨h1, h2⟩ | ⟨j, e0, h1, h2, h3⟩
  · refine ⟨clock, z, setBlock w b (.map (es.push ⟨key, z, clock⟩) (clock + 1)), ?_, ?_, ?_, fun v => ?_⟩
    · simp [Instr.lookup, run_underlying ht, MapKept.run_getObj_map hb, K.check w _ hkey, h1, hz, Result.andThen]
    · simp [Instr.mapEntry, run_underlying ht, MapKept.run_getObj_map hb, K.check w false hkey, h1, hz, MapKept.run_setObj_map _ hb, Result.andThen, setBlock, goInt]
    · simp [Instr.mapUpdate, run_underlying ht, MapKept.run_getObj_map hb, K.check w false hkey, h1, MapKept.run_setObj_map _ hb, Result.andThen, setBlock]
    · have hb1 := heap_setBlock_at hb (.map (es.push ⟨key, z, clock⟩) (clock + 1))
      have hfi : (es.push (⟨key, z, clock⟩ : MapEntry)).findIdx? (fun e => (e.born : Int) == (clock : Int)) = some es.size := by
        rw [Array.findIdx?_eq_some_iff_getElem]
        refine ⟨by simp, by simp, fun j hj => ?_⟩
        have := hst.1 es[j] (by simp)
        rw [Array.getElem_push_lt hj]
        simp
        omega
      have e1 : (Instr.entryStore t (.map (some b)) (.int .i64 (clock : Int)) v).run P (setBlock w b (.map (es.push ⟨key, z, clock⟩) (clock + 1))) = .ok () (setBlock w b (.map (es.push ⟨key, v, clock⟩) (clock + 1))) := by
        simp [Instr.entryStore, MapKept.run_getObj_map hb1, asInt, asIntOf, hfi, MapKept.run_setObj_map _ hb1, Result.andThen]
        rw [modify_push]
        exact setBlock_twice _ _ _ _
      rw [e1]
      simp [Instr.mapUpdate, run_underlying ht, MapKept.run_getObj_map hb, K.check w false hkey, h1, MapKept.run_setObj_map _ hb, Result.andThen, setBlock]
  · have hj : es[j]? = some e0 := by simpa using h2
    have hjs : j < es.size := (Array.getElem?_eq_some_iff.1 hj).1
    have hje : es[j] = e0 := (Array.getElem?_eq_some_iff.1 hj).2
    refine ⟨e0.born, e0.val, setBlock w b (.map (es.modify j fun e => { e with key }) clock), ?_, ?_, ?_, fun v => ?_⟩
    · simp [Instr.lookup, run_underlying ht, MapKept.run_getObj_map hb, K.check w _ hkey, h1, Result.andThen]
    · simp [Instr.mapEntry, run_underlying ht, MapKept.run_getObj_map hb, K.check w false hkey, h1, hj, h3, K.stays w hkey, MapKept.run_setObj_map _ hb, Result.andThen, setBlock, goInt]
    · simp [Instr.mapUpdate, run_underlying ht, MapKept.run_getObj_map hb, K.check w false hkey, h1, hj, h3, K.stays w hkey, MapKept.run_setObj_map _ hb, Result.andThen, setBlock]
      congr 2
      refine modify_eq_of fun x hx => ?_
      rw [hj] at hx
      obtain rfl := Option.some.inj hx
      rfl
    · have hb1 := heap_setBlock_at hb (.map (es.modify j fun e => { e with key }) clock)
      have hfi : (es.modify j fun e => { e with key }).findIdx? (fun e => (e.born : Int) == (e0.born : Int)) = some j := by
        rw [Array.findIdx?_eq_some_iff_getElem]
        refine ⟨by simpa using hjs, by simp [Array.getElem_modify, hje], fun i hi => ?_⟩
        have hlt : i < es.size := by omega
        have hne : es[i].born ≠ e0.born := fun e => by
          have h5 : (es.toList.map (·.born))[i]? = (es.toList.map (·.born))[j]? := by
            rw [List.getElem?_map, List.getElem?_map, Array.getElem?_toList, Array.getElem?_toList, hj, Array.getElem?_eq_getElem hlt, Option.map_some, Option.map_some, e]
          have := (List.getElem?_inj (by simpa using hlt) hst.2.1).1 h5
          omega
        simp only [Array.getElem_modify, beq_iff_eq]
        rw [if_neg (by omega)]
        omega
      have e1 : (Instr.entryStore t (.map (some b)) (.int .i64 (e0.born : Int)) v).run P (setBlock w b (.map (es.modify j fun e => { e with key }) clock)) = .ok () (setBlock w b (.map (es.modify j fun e => { e with key, val := v }) clock)) := by
        simp [Instr.entryStore, MapKept.run_getObj_map hb1, asInt, asIntOf, hfi, MapKept.run_setObj_map _ hb1, Result.andThen]
        rw [modify_modify]
        exact setBlock_twice _ _ _ _
      rw [e1]
      simp [Instr.mapUpdate, run_underlying ht, MapKept.run_getObj_map hb, K.check w false hkey, h1, hj, h3, K.stays w hkey, MapKept.run_setObj_map _ hb, Result.andThen, setBlock]
section
variable {κ β : Type} [DecidableEq κ] {T : KT κ} {val : β → Value} {w : World} {b : Nat} {L : List (κ × β)}
theorem MapL.entry (h : MapL T val w b L) (hT : T.Is) {t e : TypeId} (ht : Try.prog.underlying t = some (.map T.t e)) (d : β) (hz : ∀ w, (zeroValue e).run Try.prog w = .ok (val d) w) (hn : L.length < maxLen) {k : κ} (hk : T.ok k) :
    ∃ (c : Nat) (w1 : World), (Instr.mapEntry t (.map (some b)) (T.mkv k)).run Try.prog w = .ok (.tuple #[val (Pf.look d L k), .int .i64 (c : Int)]) w1 ∧ (Instr.lookup t (.map (some b)) (T.mkv k) false).run Try.prog w1 = .ok (val (Pf.look d L k)) w1 ∧ w.grownBy w1 (some b) ∧
      ∀ v : β, ∃ w2, (Instr.entryStore t (.map (some b)) (.int .i64 (c : Int)) (val v)).run Try.prog w1 = .ok () w2 ∧ MapL T val w2 b (alt d L k (fun _ => v)) ∧ w.grownBy w2 (some b) := by
  have hlk := h.look hT ht d (hz w) hk
  have hput := fun v => h.put hT ht d hn hk v
  obtain ⟨D, ⟨es, clock, hb, F, -, -⟩, -⟩ := h
  obtain ⟨c, u, w1, r1, r2, r3, r4⟩ := entry_runs hT.keyed ht hb F (hT.of hk) hz
  rw [hlk] at r1
  obtain rfl : u = val (Pf.look d L k) := by
    have := r1
    simp only [Result.ok.injEq] at this
    exact this.1.symm
  obtain ⟨w1', q1, q2, q3⟩ := hput (Pf.look d L k)
  rw [r3] at q1
  simp only [Result.ok.injEq, true_and] at q1
  subst q1
  refine ⟨c, w1, r2, ?_, q3, fun v => ?_⟩
  · have := q2.look hT ht d (hz w1) hk
    rw [Pf.look_alt, if_pos rfl] at this
    exact this
  · obtain ⟨w2, s1, s2, s3⟩ := hput v
    exact ⟨w2, (r4 _).trans s1, s2, s3⟩
end
end Go.Proofs.Ytfphiomhlhpphaa
namespace Go.Proofs.Ytfphiomhlhpphaa.Pf

/-- An operation of a script, as far as counting asks. -/
structure O where
  d : Int
  f : Int
  x : Site
  k : Int
  least : Int
def step1 (s : St) (o : O) : St := if o.d = 0 then s.enter o.f else if o.d = 1 then s.back o.x else s.call o.x o.k 1
def run (l : List O) : St := l.foldl step1 st0
def sat (n : Nat) : Int := if (n : Int) ≤ M then (n : Int) else M
def isE (f : Int) (o : O) : Bool := decide (o.d = 0 ∧ o.f = f)
def isJ (x : Site) (o : O) : Bool := decide (o.d = 1 ∧ o.x = x)
def isC (x : Site) (o : O) : Bool := decide (¬ o.d = 0 ∧ ¬ o.d = 1 ∧ o.x = x)
def isK (x : Site) (k : Int) (o : O) : Bool := decide (¬ o.d = 0 ∧ ¬ o.d = 1 ∧ o.x = x ∧ o.k = k)
def nE (l : List O) (f : Int) : Nat := l.countP (isE f)
def nJ (l : List O) (x : Site) : Nat := l.countP (isJ x)
def nC (l : List O) (x : Site) : Nat := l.countP (isC x)
def nK (l : List O) (x : Site) (k : Int) : Nat := l.countP (isK x k)
theorem M_pos : (0 : Int) < M := by unfold M; omega
theorem sat_more (n m : Nat) : more (sat n) (sat m) = sat (n + m) := by
  have := M_pos
  unfold more sat
  repeat' split
  all_goals omega
theorem sat_one : sat 1 = 1 := by
  unfold sat M
  omega
theorem sat_zero : sat 0 = 0 := by
  unfold sat M
  omega
theorem sat_small {n : Nat} (h : (n : Int) ≤ M) : sat n = n := if_pos h
theorem count_snoc (p : O → Bool) (l : List O) (o : O) : (l ++ [o]).countP p = l.countP p + if p o = true then 1 else 0 := by
  rw [List.countP_append, List.countP_singleton]
def sum : List Sn → Int
  | [] => 0
  | y :: l => y.2 + sum l
theorem sum_perm {l l' : List Sn} (h : l.Perm l') : sum l = sum l' := by
  induction h with
  | nil => rfl
  | cons x _ ih => show _ + _ = _ + _; rw [ih]
  | swap x y l => show y.2 + (x.2 + sum l) = x.2 + (y.2 + sum l); omega
  | trans _ _ ih1 ih2 => exact ih1.trans ih2
theorem sum_alt : ∀ (l : List Sn) (k : Int) (g : Int → Int), sum (alt 0 l k g) = sum l - look 0 l k + g (look 0 l k)
  | [], k, g => by simp [alt, sum, look]
  | y :: l, k, g => by
    unfold alt look
    by_cases e : y.1 = k
    · rw [if_pos e, if_pos e]
      show g y.2 + sum l = y.2 + sum l - y.2 + g y.2
      omega
    · rw [if_neg e, if_neg e]
      show y.2 + sum (alt 0 l k g) = y.2 + sum l - _ + _
      rw [sum_alt l k g]
      omega
theorem sum_nonneg : ∀ {l : List Sn}, (∀ y ∈ l, Bd y.2) → 0 ≤ sum l
  | [], _ => Int.le_refl _
  | y :: l, h => by
    have h1 := (h y (by simp)).1
    have h2 := sum_nonneg (l := l) (fun z hz => h z (by simp [hz]))
    show 0 ≤ y.2 + sum l
    omega
theorem look_sum : ∀ {l : List Sn}, (∀ y ∈ l, Bd y.2) → ∀ k, look 0 l k ≤ sum l
  | [], _, k => Int.le_refl _
  | y :: l, h, k => by
    have h1 := (h y (by simp)).1
    have h2 := sum_nonneg (l := l) (fun z hz => h z (by simp [hz]))
    have h3 := look_sum (l := l) (fun z hz => h z (by simp [hz])) k
    unfold look
    show _ ≤ y.2 + sum l
    split <;> omega
theorem more_le {n : Int} (h : Bd n) : more n 1 ≤ n + 1 := by
  unfold Bd more at *
  split <;> omega
theorem more_one {n : Int} (h : n < M) : more n 1 = n + 1 := by
  unfold more
  rw [if_neg (by omega)]
/-- What a call's classes are behind a script. -/
structure CInv (c : List Sn × Bool) (done : List O) (x : Site) : Prop where
  ok : OkC c
  look : c.2 = false → ∀ k, look 0 c.1 k = sat (nK done x k)
  keys : c.2 = false → ∀ k, k ∈ keys c.1 ↔ 0 < nK done x k
  le : sum c.1 ≤ nC done x
  eq : c.2 = false → (nC done x : Int) ≤ M → sum c.1 = nC done x
structure Inv (s : St) (done : List O) : Prop where
  en : ∀ f, s.en f = sat (nE done f)
  ju : ∀ x, s.ju x = sat (nJ done x)
  ca : ∀ x, CInv (s.ca x) done x
theorem inv0 : Inv st0 [] :=
  ⟨fun _ => sat_zero.symm, fun _ => sat_zero.symm, fun _ => ⟨okC0, fun _ _ => sat_zero.symm, fun _ _ => by simp [st0, Pf.keys, nK], Int.le_refl _, fun _ _ => rfl⟩⟩
theorem CInv.other {c : List Sn × Bool} {done : List O} {x : Site} {o : O} (h : CInv c done x) (hc : isC x o = false) : CInv c (done ++ [o]) x := by
  have e1 : nC (done ++ [o]) x = nC done x := by unfold nC; rw [count_snoc, hc]; rfl
  have e2 : ∀ k, nK (done ++ [o]) x k = nK done x k := fun k => by
    unfold nK
    rw [count_snoc, if_neg]
    · rfl
    · unfold isC at hc
      unfold isK
      simp only [decide_eq_false_iff_not, decide_eq_true_eq] at hc ⊢
      exact fun h => hc ⟨h.1, h.2.1, h.2.2.1⟩
  exact ⟨h.ok, fun hf k => by rw [e2]; exact h.look hf k, fun hf k => by rw [e2]; exact h.keys hf k, by rw [e1]; exact h.le, fun hf => by rw [e1]; exact h.eq hf⟩
theorem CInv.cnt {c : List Sn × Bool} {done : List O} {x : Site} {o : O} (h : CInv c done x) (hc : isC x o = true) : CInv (cnt c o.k 1) (done ++ [o]) x := by
  have e1 : nC (done ++ [o]) x = nC done x + 1 := by unfold nC; rw [count_snoc, hc]; rfl
  have hc' : ¬ o.d = 0 ∧ ¬ o.d = 1 ∧ o.x = x := by simpa [isC] using hc
  have e2 : ∀ k, nK (done ++ [o]) x k = nK done x k + if k = o.k then 1 else 0 := fun k => by
    unfold nK
    rw [count_snoc]
    by_cases e : k = o.k
    · rw [if_pos e, if_pos (by simp [isK, hc', e])]
    · rw [if_neg e, if_neg (by simp [isK, hc']; exact fun h => e h.symm)]
  have ok := okC_cnt h.ok (k := o.k) bd1
  unfold Pf.cnt at ok ⊢
  by_cases hk : o.k ∈ Pf.keys c.1 ∨ c.1.length < 4
  · rw [if_pos hk] at ok ⊢
    have hls := look_sum h.ok.bd o.k
    have hle := h.le
    have hb : Bd (Pf.look 0 c.1 o.k) := by
      by_cases hm : o.k ∈ Pf.keys c.1
      · obtain ⟨y, hy, e⟩ := List.mem_map.1 hm
        rw [← e, look_mem h.ok.nd hy]
        exact h.ok.bd y hy
      · rw [look_not hm]
        exact bd0
    refine ⟨ok, fun hf k => ?_, fun hf k => ?_, ?_, fun hf hM => ?_⟩
    · show Pf.look 0 (alt 0 c.1 o.k _) k = _
      rw [look_alt, e2, h.look hf, h.look hf]
      by_cases e : k = o.k
      · rw [if_pos e, if_pos e, e, ← sat_one, sat_more]
      · rw [if_neg e, if_neg e]
        rfl
    · show k ∈ Pf.keys (alt 0 c.1 o.k _) ↔ _
      rw [keys_alt, keys_addk, e2]
      have h1 := h.keys hf k
      by_cases e : k = o.k
      · subst e
        rw [if_pos rfl]
        constructor
        · intro _
          omega
        · intro _
          split
          · assumption
          · simp
      · rw [if_neg e, Nat.add_zero, ← h1]
        split
        · exact Iff.rfl
        · simp [e]
    · show sum (alt 0 c.1 o.k _) ≤ _
      rw [sum_alt, e1]
      have := more_le hb
      show sum c.1 - _ + more _ 1 ≤ _
      omega
    · show sum (alt 0 c.1 o.k _) = _
      rw [sum_alt, e1]
      rw [e1] at hM
      have h2 := h.eq hf (by omega)
      have := more_one (n := Pf.look 0 c.1 o.k) (by omega)
      show sum c.1 - _ + more _ 1 = _
      omega
  · rw [if_neg hk] at ok ⊢
    have hle := h.le
    exact ⟨ok, (fun hf => by cases hf), (fun hf => by cases hf), (by show sum c.1 ≤ _; rw [e1]; omega), (fun hf => by cases hf)⟩
theorem inv_step {s : St} {done : List O} (h : Inv s done) (o : O) : Inv (step1 s o) (done ++ [o]) := by
  have hEn : ∀ f, nE (done ++ [o]) f = nE done f + if isE f o = true then 1 else 0 := fun f => count_snoc _ _ _
  have hJn : ∀ x, nJ (done ++ [o]) x = nJ done x + if isJ x o = true then 1 else 0 := fun x => count_snoc _ _ _
  unfold step1
  by_cases h0 : o.d = 0
  · rw [if_pos h0]
    refine ⟨fun f => ?_, fun x => ?_, fun x => (h.ca x).other (by simp [isC, h0])⟩
    · show (if f = o.f then _ else _) = _
      rw [hEn]
      by_cases e : f = o.f
      · rw [if_pos e, if_pos (by simp [isE, h0, e]), h.en, ← e, ← sat_one, sat_more]
      · rw [if_neg e, if_neg (by simp [isE]; exact fun _ h => e h.symm)]
        exact h.en f
    · rw [hJn, if_neg (by simp [isJ, h0])]
      exact h.ju x
  · rw [if_neg h0]
    by_cases h1 : o.d = 1
    · rw [if_pos h1]
      refine ⟨fun f => ?_, fun x => ?_, fun x => (h.ca x).other (by simp [isC, h1])⟩
      · rw [hEn, if_neg (by simp [isE, h0])]
        exact h.en f
      · show (if x = o.x then _ else _) = _
        rw [hJn]
        by_cases e : x = o.x
        · rw [if_pos e, if_pos (by simp [isJ, h1, e]), h.ju, ← e, ← sat_one, sat_more]
        · rw [if_neg e, if_neg (by simp [isJ]; exact fun _ h => e h.symm)]
          exact h.ju x
    · rw [if_neg h1]
      refine ⟨fun f => ?_, fun x => ?_, fun x => ?_⟩
      · rw [hEn, if_neg (by simp [isE, h0])]
        exact h.en f
      · rw [hJn, if_neg (by simp [isJ, h1])]
        exact h.ju x
      · show CInv (if x = o.x then _ else _) _ _
        by_cases e : x = o.x
        · rw [if_pos e, ← e]
          exact (h.ca x).cnt (by simp [isC, h0, h1, e])
        · rw [if_neg e]
          exact (h.ca x).other (by simp [isC]; exact fun _ _ h => e h.symm)
theorem inv_run : ∀ (l : List O) {s : St} {done : List O}, Inv s done → Inv (l.foldl step1 s) (done ++ l)
  | [], s, done, h => by simpa using h
  | o :: l, s, done, h => by
    have := inv_run l (inv_step h o)
    rw [List.append_assoc] at this
    exact this
theorem run_inv (l : List O) : Inv (run l) l := by
  have := inv_run l inv0
  rwa [List.nil_append] at this
end Go.Proofs.Ytfphiomhlhpphaa.Pf
namespace Go.Proofs.Ytfphiomhlhpphaa
open Go Go.RowKit
open Pf (Site Sn ix addk alt keys O)
set_option maxRecDepth 100000
set_option maxHeartbeats 2000000
/-- An operation's cells. -/
def oL (o : O) : List Value := [.int .i64 o.d, .int .i64 o.f, .int .i64 o.x.1, .int .i64 o.x.2, .int .i64 o.k, .int .i64 o.least]
theorem oL_len (o : O) : (oL o).length = 6 := rfl
structure GoodO (o : O) : Prop where
  d : I8 o.d
  f : I8 o.f
  x : TS.ok o.x
  k : I8 o.k
  least : I8 o.least
theorem oS_at {w : World} {v : Value} {l : List O} (h : Kit.IsS 6 w v l.length (l.flatMap oL)) {k : Nat} {x : O} (hx : l[k]? = some x) : ∃ b o cap, v = .slice (some ⟨b, o, none⟩) l.length cap ∧ b < w.heap.size ∧ w.cell? ⟨b, o + k * 6, none⟩ = some (.int .i64 x.d) ∧ w.cell? ⟨b, o + k * 6 + 1, none⟩ = some (.int .i64 x.f) ∧ w.cell? ⟨b, o + k * 6 + 2, none⟩ = some (.int .i64 x.x.1) ∧ w.cell? ⟨b, o + k * 6 + 3, none⟩ = some (.int .i64 x.x.2) ∧ w.cell? ⟨b, o + k * 6 + 4, none⟩ = some (.int .i64 x.k) ∧ w.cell? ⟨b, o + k * 6 + 5, none⟩ = some (.int .i64 x.least) := by
  have hk := (List.getElem?_eq_some_iff.1 hx).1
  obtain ⟨b, o, cap, hv, -, hb, hc⟩ := h.some (by omega)
  have hat : ∀ j, j < 6 → w.cell? ⟨b, o + k * 6 + j, none⟩ = (oL x)[j]? := fun j hj => by
    have h2 := Kit.flat_at oL_len hx j hj
    cases h3 : (oL x)[j]? with
    | none => rw [List.getElem?_eq_none_iff, oL_len] at h3; omega
    | some u =>
      rw [h3] at h2
      have := hc (k * 6 + j) u h2
      rw [← Nat.add_assoc] at this
      exact this
  exact ⟨b, o, cap, hv, hb, hat 0 (by omega), hat 1 (by omega), hat 2 (by omega), hat 3 (by omega), hat 4 (by omega), hat 5 (by omega)⟩
theorem uM : Try.prog.underlying 36 = some (.map TI.t 2) := Try.underlying36
theorem uN : Try.prog.underlying 37 = some (.map TS.t 2) := Try.underlying37
/-- A profile, and three maps beside it. -/
structure MI (w wr : World) (pb me mj mc : Nat) (p : IV) (n : Nat) (t : Pf.St) (Le : List Sn) (Lj Lc : List (Site × Int)) : Prop where
  pp : PP wr w.heap.size pb p
  ok : OkP p n
  st : p.st = t
  m1 : MapL TI vI wr me Le
  m2 : MapL TS vI wr mj Lj
  m3 : MapL TS vI wr mc Lc
  o1 : ¬ p.foot me
  o2 : ¬ p.foot mj
  o3 : ¬ p.foot mc
  n1 : me ≠ mj
  n2 : me ≠ mc
  n3 : mj ≠ mc
  l1 : w.heap.size ≤ me
  l2 : w.heap.size ≤ mj
  l3 : w.heap.size ≤ mc
  bl : Below w.heap.size w wr
section
variable {w wr w2 : World} {pb me mj mc n : Nat} {p : IV} {t : Pf.St} {Le : List Sn} {Lj Lc : List (Site × Int)}
theorem MI.below (h : MI w wr pb me mj mc p n t Le Lj Lc) (hb : Below wr.heap.size wr w2) : MI w w2 pb me mj mc p n t Le Lj Lc :=
  { h with pp := h.pp.below hb, m1 := h.m1.below hb, m2 := h.m2.below hb, m3 := h.m3.below hb, bl := belows h.bl hb h.bl.size }
theorem PP.grown {base : Nat} (h : PP wr base pb p) {m : Nat} (hg : wr.grownBy w2 (some m)) (hm : ¬ p.foot m) (h0 : m ≠ pb) : PP w2 base pb p := h.chg (grown_chg hg) (fun e => h0 e.symm) (fun k hk e => hm (e ▸ hk))
theorem MI.setE (h : MI w wr pb me mj mc p n t Le Lj Lc) (hg : wr.grownBy w2 (some me)) {L : List Sn} (hm : MapL TI vI w2 me L) : MI w w2 pb me mj mc p n t L Lj Lc :=
  { h with pp := h.pp.grown hg h.o1 (map_ne h.m1 h.pp.box), m1 := hm, m2 := h.m2.chg (grown_chg hg) (fun e => h.n1 e.symm), m3 := h.m3.chg (grown_chg hg) (fun e => h.n2 e.symm), bl := h.bl.grown hg h.bl.size (fun k e => by have := h.l1; have := Option.some.inj e; omega) }
theorem MI.setJ (h : MI w wr pb me mj mc p n t Le Lj Lc) (hg : wr.grownBy w2 (some mj)) {L : List (Site × Int)} (hm : MapL TS vI w2 mj L) : MI w w2 pb me mj mc p n t Le L Lc :=
  { h with pp := h.pp.grown hg h.o2 (map_ne h.m2 h.pp.box), m1 := h.m1.chg (grown_chg hg) h.n1, m2 := hm, m3 := h.m3.chg (grown_chg hg) (fun e => h.n3 e.symm), bl := h.bl.grown hg h.bl.size (fun k e => by have := h.l2; have := Option.some.inj e; omega) }
theorem MI.setC (h : MI w wr pb me mj mc p n t Le Lj Lc) (hg : wr.grownBy w2 (some mc)) {L : List (Site × Int)} (hm : MapL TS vI w2 mc L) : MI w w2 pb me mj mc p n t Le Lj L :=
  { h with pp := h.pp.grown hg h.o3 (map_ne h.m3 h.pp.box), m1 := h.m1.chg (grown_chg hg) h.n2, m2 := h.m2.chg (grown_chg hg) h.n3, m3 := hm, bl := h.bl.grown hg h.bl.size (fun k e => by have := h.l3; have := Option.some.inj e; omega) }
theorem MI.step (h : MI w wr pb me mj mc p n t Le Lj Lc) {m : Nat} {t' : Pf.St} (hs : Step wr w2 w.heap.size pb p m t') : ∃ p', MI w w2 pb me mj mc p' m t' Le Lj Lc := by
  obtain ⟨p', h1, h2, h3, h4, h5⟩ := hs
  have off : ∀ k, ¬ p.foot k → k < wr.heap.size → ¬ p'.foot k := fun k hk hl e => (h5 k e).elim hk (fun e => by omega)
  exact ⟨p', { h with pp := h1, ok := h2, st := h3, m1 := h.m1.chg h4 h.o1, m2 := h.m2.chg h4 h.o2, m3 := h.m3.chg h4 h.o3, o1 := off _ h.o1 h.m1.lt, o2 := off _ h.o2 h.m2.lt, o3 := off _ h.o3 h.m3.lt, bl := h.bl.trans (h4.to_below (fun k hk => h.pp.has.low k hk) h.bl.size) }⟩
end
/-- What the law's own maps have counted. -/
structure CR (Le : List Sn) (Lj Lc : List (Site × Int)) (l : List O) : Prop where
  e : ∀ f, Pf.look 0 Le f = (Pf.nE l f : Int)
  j : ∀ x, Pf.look 0 Lj x = (Pf.nJ l x : Int)
  c : ∀ x, Pf.look 0 Lc x = (Pf.nC l x : Int)
  le : Le.length ≤ l.length
  lj : Lj.length ≤ l.length
  lc : Lc.length ≤ l.length
theorem cr0 : CR [] [] [] [] := ⟨fun _ => rfl, fun _ => rfl, fun _ => rfl, Nat.le_refl _, Nat.le_refl _, Nat.le_refl _⟩
section
variable {Le : List Sn} {Lj Lc : List (Site × Int)} {l : List O} {o : O}
theorem CR.enter (h : CR Le Lj Lc l) (h0 : o.d = 0) : CR (alt 0 Le o.f (fun _ => Pf.look 0 Le o.f + 1)) Lj Lc (l ++ [o]) := by
  have hn : (l ++ [o]).length = l.length + 1 := by simp
  refine ⟨fun f => ?_, fun x => ?_, fun x => ?_, ?_, by have := h.lj; omega, by have := h.lc; omega⟩
  · rw [Pf.look_alt]
    unfold Pf.nE
    rw [Pf.count_snoc]
    by_cases e : f = o.f
    · rw [if_pos e, if_pos (by simp [Pf.isE, h0, e]), h.e, e]
      rfl
    · rw [if_neg e, if_neg (by simp [Pf.isE]; exact fun _ h => e h.symm), h.e]
      rfl
  · unfold Pf.nJ
    rw [Pf.count_snoc, if_neg (by simp [Pf.isJ, h0]), h.j]
    rfl
  · unfold Pf.nC
    rw [Pf.count_snoc, if_neg (by simp [Pf.isC, h0]), h.c]
    rfl
  · have := (Pf.alt_le (d := (0 : Int)) Le o.f (fun _ => Pf.look 0 Le o.f + 1)).2
    have := h.le
    omega
theorem CR.back (h : CR Le Lj Lc l) (h0 : ¬ o.d = 0) (h1 : o.d = 1) : CR Le (alt 0 Lj o.x (fun _ => Pf.look 0 Lj o.x + 1)) Lc (l ++ [o]) := by
  have hn : (l ++ [o]).length = l.length + 1 := by simp
  refine ⟨fun f => ?_, fun x => ?_, fun x => ?_, by have := h.le; omega, ?_, by have := h.lc; omega⟩
  · unfold Pf.nE
    rw [Pf.count_snoc, if_neg (by simp [Pf.isE, h0]), h.e]
    rfl
  · rw [Pf.look_alt]
    unfold Pf.nJ
    rw [Pf.count_snoc]
    by_cases e : x = o.x
    · rw [if_pos e, if_pos (by simp [Pf.isJ, h1, e]), h.j, e]
      rfl
    · rw [if_neg e, if_neg (by simp [Pf.isJ]; exact fun _ h => e h.symm), h.j]
      rfl
  · unfold Pf.nC
    rw [Pf.count_snoc, if_neg (by simp [Pf.isC, h1]), h.c]
    rfl
  · have := (Pf.alt_le (d := (0 : Int)) Lj o.x (fun _ => Pf.look 0 Lj o.x + 1)).2
    have := h.lj
    omega
theorem CR.call (h : CR Le Lj Lc l) (h0 : ¬ o.d = 0) (h1 : ¬ o.d = 1) : CR Le Lj (alt 0 Lc o.x (fun _ => Pf.look 0 Lc o.x + 1)) (l ++ [o]) := by
  have hn : (l ++ [o]).length = l.length + 1 := by simp
  refine ⟨fun f => ?_, fun x => ?_, fun x => ?_, by have := h.le; omega, by have := h.lj; omega, ?_⟩
  · unfold Pf.nE
    rw [Pf.count_snoc, if_neg (by simp [Pf.isE, h0]), h.e]
    rfl
  · unfold Pf.nJ
    rw [Pf.count_snoc, if_neg (by simp [Pf.isJ, h1]), h.j]
    rfl
  · rw [Pf.look_alt]
    unfold Pf.nC
    rw [Pf.count_snoc]
    by_cases e : x = o.x
    · rw [if_pos e, if_pos (by simp [Pf.isC, h0, h1, e]), h.c, e]
      rfl
    · rw [if_neg e, if_neg (by simp [Pf.isC]; exact fun _ _ h => e h.symm), h.c]
      rfl
  · have := (Pf.alt_le (d := (0 : Int)) Lc o.x (fun _ => Pf.look 0 Lc o.x + 1)).2
    have := h.lc
    omega
theorem cnt_le (p : O → Bool) (l : List O) : ((l.countP p : Nat) : Int) ≤ l.length := by have := List.countP_le_length (p := p) (l := l); omega
end
theorem run_snoc (l : List O) (o : O) : Pf.run (l ++ [o]) = Pf.step1 (Pf.run l) o := by unfold Pf.run; rw [List.foldl_append]; rfl
theorem take_snoc {α : Type} {l : List α} {k : Nat} {x : α} (h : l[k]? = some x) : l.take (k + 1) = l.take k ++ [x] := by rw [List.take_add_one, h]; rfl
end Go.Proofs.Ytfphiomhlhpphaa
namespace Go.Proofs.Ytfphiomhlhpphaa
open Go Go.RowKit
open Pf (Site Sn ix addk alt keys O)
set_option maxRecDepth 100000
set_option maxHeartbeats 2000000
theorem box6 {W : World} {b : Nat} {a0 a1 a2 a3 a4 a5 : Value} {T : TypeId} (h : BX W b #[a0, a1, a2, a3, a4, a5] T) : W.cell? ⟨b, 0, none⟩ = some a0 ∧ W.cell? ⟨b, 1, none⟩ = some a1 ∧ W.cell? ⟨b, 2, none⟩ = some a2 ∧ W.cell? ⟨b, 3, none⟩ = some a3 ∧ W.cell? ⟨b, 4, none⟩ = some a4 ∧ W.cell? ⟨b, 5, none⟩ = some a5 := ⟨h.cell 0, h.cell 1, h.cell 2, h.cell 3, h.cell 4, h.cell 5⟩
theorem sum_srt (l : List Sn) : Pf.sum (Pf.srt l) = Pf.sum l := Pf.sum_perm (Pf.srt_perm l)
theorem kind_mega {c : List Sn × Bool} (h : c.2 = true) : Pf.kind c = 3 := by
  unfold Pf.kind
  rw [if_pos h]
theorem kind_not {c : List Sn × Bool} (h : c.2 = false) : Pf.kind c = 0 ∨ Pf.kind c = 1 ∨ Pf.kind c = 2 := by
  unfold Pf.kind
  rw [if_neg (by rw [h]; decide)]
  split
  · simp
  · split <;> simp
theorem sum_app : ∀ a b : List Sn, Pf.sum (a ++ b) = Pf.sum a + Pf.sum b
  | [], b => by show Pf.sum b = 0 + Pf.sum b; omega
  | x :: a, b => by show x.2 + Pf.sum (a ++ b) = x.2 + Pf.sum a + Pf.sum b; rw [sum_app a b]; omega
theorem sum_part {S : List Sn} (h : ∀ y ∈ S, Pf.Bd y.2) (i : Nat) : 0 ≤ Pf.sum (S.take i) ∧ Pf.sum (S.take i) ≤ Pf.sum S := by
  have h1 := sum_app (S.take i) (S.drop i)
  rw [List.take_append_drop] at h1
  have h2 := Pf.sum_nonneg (l := S.take i) (fun y hy => h y (List.mem_of_mem_take hy))
  have h3 := Pf.sum_nonneg (l := S.drop i) (fun y hy => h y (List.mem_of_mem_drop hy))
  omega
theorem counts_law (l : List O) (v : Value) (w : World) (hv : Kit.IsS 6 w v l.length (l.flatMap oL)) (hg : ∀ o ∈ l, GoodO o) (hl : l.length ≤ 1048576) :
    Calls Try.prog 4 #[v] w fun e w' => e = .returned (.bool true) ∧ Below w.heap.size w w' := by
  obtain ⟨va, vc, rfl⟩ := hv.len
  have HN := hid (newS w)
  have HBg := hid (fun W => begun_any W)
  have HV := hid (fun W (hb : Below w.heap.size w W) => hv.below hb (Nat.le_refl _))
  have HG := hid hg
  have HL := hid hl
  have hm1 := fun W => run_makeMap (P := Try.prog) 36 W
  have hm2 := fun W => run_makeMap (P := Try.prog) 37 W
  clear hv hg
  go_enter Try.func4, Try.ntmps4
  go_upto_region 7 with (first
    | (go_at_call 7; refine HN.out.mono ?_; rintro e w1 ⟨pb, p, rfl, h1, h2, h3, h4⟩; have HP := hid (And.intro h1 (And.intro h2 (And.intro h3 h4))); clear h1 h2 h3 h4)
    | (go_at_call 9; refine (HBg.out _).mono ?_; rintro e w2 ⟨rfl, hb⟩; have HB2 := hid hb; clear hb))
  refine region_named fun W7 hW7 => ?_
  have HM0 : Hid (MI w W7 pb w2.heap.size (w2.heap.size + 1) (w2.heap.size + 1 + 1) p 0 Pf.st0 [] [] []) := by
    show MI w W7 pb w2.heap.size (w2.heap.size + 1) (w2.heap.size + 1 + 1) p 0 Pf.st0 [] [] []
    obtain ⟨wa, ea⟩ : ∃ x, x = w2.alloc (.map #[] 0) := ⟨_, rfl⟩
    obtain ⟨wb, eb⟩ : ∃ x, x = wa.alloc (.map #[] 0) := ⟨_, rfl⟩
    rw [← ea, ← eb] at hW7
    have za : wa.heap.size = w2.heap.size + 1 := by rw [ea]; simp
    have zb : wb.heap.size = w2.heap.size + 1 + 1 := by rw [eb]; simp [za]
    have ba : Below w2.heap.size w2 wa := by rw [ea]; exact (Below.refl _ _).alloc (Nat.le_refl _) _
    have bb : Below wa.heap.size wa wb := by rw [eb]; exact (Below.refl _ _).alloc (Nat.le_refl _) _
    have bc : Below wb.heap.size wb W7 := by rw [hW7]; exact (Below.refl _ _).alloc (Nat.le_refl _) _
    have m1 : MapL TI vI wa w2.heap.size [] := by rw [ea]; exact MapL.new w2
    have m2 : MapL TS vI wb (w2.heap.size + 1) [] := by rw [eb, ← za]; exact MapL.new wa
    have m3 : MapL TS vI W7 (w2.heap.size + 1 + 1) [] := by rw [hW7, ← zb]; exact MapL.new wb
    obtain ⟨h1, h2, h3, h4⟩ := HP.out
    have hz := HB2.out.size
    have hw := h4.size
    have off : ∀ k, w2.heap.size ≤ k → ¬ p.foot k := fun k hk e => by have := h1.has.lt k e; omega
    exact ⟨((((h1.below HB2.out).below ba).below bb).below bc), h2, h3, (m1.below bb).below bc, m2.below bc, m3, off _ (Nat.le_refl _), off _ (by omega), off _ (by omega), by omega, by omega, by omega, by omega, by omega, by omega,
      belows (belows (belows (belows h4 HB2.out h4.size) ba (by omega)) bb (by omega)) bc (by omega)⟩
  obtain ⟨me, hme⟩ : ∃ m, m = w2.heap.size := ⟨_, rfl⟩
  rw [← hme] at HM0 ⊢
  clear hW7 HP HB2 hme hm1 hm2
  go_wp2
  go_loopw [26] (fun i wr => ∃ k : Nat, i = .int .i64 (k : Int) ∧ k ≤ l.length ∧ Hid (∃ p Le Lj Lc, MI w wr pb me (me + 1) (me + 1 + 1) p k (Pf.run (l.take k)) Le Lj Lc ∧ CR Le Lj Lc (l.take k))) (fun i _ => l.length - (intOf i).toNat)
  case atStart => exact ⟨0, rfl, Nat.zero_le _, p, [], [], [], HM0.out, cr0⟩
  case round =>
    clear HM0
    obtain ⟨k, rfl, hk, HI⟩ := hrel
    obtain ⟨p1, Le, Lj, Lc, hM, hC⟩ := HI.out
    by_cases hlt : k < l.length
    · obtain ⟨x, hx⟩ : ∃ x, l[k]? = some x := ⟨_, List.getElem?_eq_getElem hlt⟩
      obtain ⟨b, o, cap, hv, hbl, c0, c1, c2, c3, c4, c5⟩ := oS_at (HV.out wr hM.bl) hx
      obtain ⟨rfl, -, rfl⟩ := Value.slice.inj hv
      have HGx := hid (HG.out x (List.mem_of_getElem? hx))
      have HT := hid (take_snoc hx)
      obtain ⟨d, f, ⟨x1, x2⟩, q, ls⟩ := x
      dsimp only at c0 c1 c2 c3 c4 c5
      have HTl : Hid ((l.take k).length = k) := by show _ = _; rw [List.length_take]; omega
      have HM := hid hM
      have HC := hid hC
      have hlt' : decide ((k : Int) < (l.length : Int)) = true := decide_eq_true (by omega)
      clear hM hC hv hx HI
      go_upto_region 10 with fail
      refine region_named fun Wb hWb => ?_
      have hbx : BX Wb wr.heap.size #[.int .i64 d, .int .i64 f, .int .i64 x1, .int .i64 x2, .int .i64 q, .int .i64 ls] 31 := by rw [hWb]; exact BX.new wr _ _
      have HBx := hid hbx
      have HB9 : Hid (Below wr.heap.size wr Wb) := by show Below _ _ _; rw [hWb]; exact (Below.refl _ _).alloc (Nat.le_refl _) _
      have HM1 := hid (HM.out.below HB9.out)
      obtain ⟨y0, y1, y2, y3, y4, y5⟩ := box6 hbx
      clear c0 c1 c2 c3 c4 c5 hWb hbx
      by_cases h0 : d = 0
      · subst h0
        have hbd : 0 ≤ Pf.look 0 Le f ∧ Pf.look 0 Le f ≤ 1048576 := by
          rw [HC.out.e]
          have := cnt_le (Pf.isE f) (l.take k)
          have := HTl.out
          unfold Pf.nE
          omega
        have lk := HM1.out.m1.look ti uM 0 (zI Wb) HGx.out.f
        obtain ⟨w2, hput, hm2, hg2⟩ := HM1.out.m1.put ti uM 0 (by have := HC.out.le; have := HTl.out; unfold maxLen; omega) HGx.out.f (Pf.look 0 Le f + 1)
        have HM2 := hid (HM1.out.setE hg2 hm2)
        have hb2 := HBx.out.chg (grown_chg hg2) (fun e => map_ne HM1.out.m1 HBx.out e.symm)
        obtain ⟨v0, v1, v2, v3, v4, v5⟩ := box6 hb2
        have HEn := hid (enterS HM2.out.pp HM2.out.ok (by have := HTl.out; omega) HGx.out.f)
        rw [HM2.out.st] at HEn
        have HCR := hid (HC.out.enter (o := ⟨0, f, (x1, x2), q, ls⟩) rfl)
        obtain ⟨z, hz⟩ : ∃ z, Pf.look 0 Le f = z := ⟨_, rfl⟩
        rw [hz] at lk hput hbd
        unfold TI vI at lk hput
        dsimp only at lk hput
        clear hm2 hg2 hb2 hz
        go_wp2_with (go_at_call 12; refine HEn.out.mono ?_; rintro e w4 ⟨rfl, hs⟩)
        obtain ⟨p2, hM4⟩ := HM2.out.step hs
        have HM4 : Hid (∃ p Le Lj Lc, MI w w4 pb me (me + 1) (me + 1 + 1) p (k + 1) (Pf.run (l.take (k + 1))) Le Lj Lc ∧ CR Le Lj Lc (l.take (k + 1))) := by
          refine ⟨p2, _, _, _, ?_, by rw [HT.out]; exact HCR.out⟩
          rw [HT.out, run_snoc]
          exact hM4
        clear hM4 hs HM1 HM HC y0 y1 y2 y3 y4 y5 HBx HB9
        go_roundw
        case rel => exact ⟨k + 1, by go_num, by omega, HM4.out⟩
        case measure => simp [intOf]; omega
      · have h0' : (d == 0) = false := by simpa using h0
        by_cases h1 : d = 1
        · subst h1
          have hbd : 0 ≤ Pf.look 0 Lj (x1, x2) ∧ Pf.look 0 Lj (x1, x2) ≤ 1048576 := by
            rw [HC.out.j]
            have := cnt_le (Pf.isJ (x1, x2)) (l.take k)
            have := HTl.out
            unfold Pf.nJ
            omega
          have HMd := hid (HM1.out.below (w2 := Wb.drew) (Below.drew (Below.refl _ _)))
          have lk := HMd.out.m2.look ts uN 0 (zI Wb.drew) HGx.out.x
          obtain ⟨ce, w2, hen, lk2, hge, hst⟩ := HMd.out.m2.entry ts uN 0 zI (by have := HC.out.lj; have := HTl.out; unfold maxLen; omega) HGx.out.x
          obtain ⟨w3, hes, hm3, hg3⟩ := hst (Pf.look 0 Lj (x1, x2) + 1)
          have HM2 := hid (HMd.out.setJ hg3 hm3)
          have hb2 := HBx.out.chg (S := fun i => i = me + 1) (w' := w3) (grown_chg (w := Wb) ⟨hg3.os, hg3.tape, hg3.output, hg3.size, hg3.block⟩) (fun e => map_ne HM1.out.m2 HBx.out e.symm)
          have hb1 := HBx.out.chg (S := fun i => i = me + 1) (w' := w2) (grown_chg (w := Wb) ⟨hge.os, hge.tape, hge.output, hge.size, hge.block⟩) (fun e => map_ne HM1.out.m2 HBx.out e.symm)
          obtain ⟨v0, v1, v2, v3, v4, v5⟩ := box6 hb2
          obtain ⟨u0, u1, u2, u3, u4, u5⟩ := box6 hb1
          have HEn := hid (backS HM2.out.pp HM2.out.ok (by have := HTl.out; omega) HGx.out.x)
          rw [HM2.out.st] at HEn
          have HCR := hid (HC.out.back (o := ⟨1, f, (x1, x2), q, ls⟩) (show ¬ (1 : Int) = 0 from by decide) rfl)
          obtain ⟨z, hz⟩ : ∃ z, Pf.look 0 Lj (x1, x2) = z := ⟨_, rfl⟩
          rw [hz] at lk hen lk2 hes hbd
          unfold TS vI at lk hen lk2
          unfold vI at hes
          unfold sV at HEn
          dsimp only at lk hen lk2 HEn
          clear hm3 hg3 hge hst hb1 hb2 hz
          go_upto_region 17 with fail
          go_region
          clear lk hen lk2 hes
          go_wp2_with (go_at_call 13; refine HEn.out.mono ?_; rintro e w4 ⟨rfl, hs⟩)
          obtain ⟨p2, hM4⟩ := HM2.out.step hs
          have HM4 : Hid (∃ p Le Lj Lc, MI w w4 pb me (me + 1) (me + 1 + 1) p (k + 1) (Pf.run (l.take (k + 1))) Le Lj Lc ∧ CR Le Lj Lc (l.take (k + 1))) := by
            refine ⟨p2, _, _, _, ?_, by rw [HT.out]; exact HCR.out⟩
            rw [HT.out, run_snoc]
            exact hM4
          clear hM4 hs HM1 HM HC y0 y1 y2 y3 y4 y5 HBx HB9
          go_roundw
          case rel => exact ⟨k + 1, by go_num, by omega, HM4.out⟩
          case measure => simp [intOf]; omega
        · have h1' : (d == 1) = false := by simpa using h1
          have hbd : 0 ≤ Pf.look 0 Lc (x1, x2) ∧ Pf.look 0 Lc (x1, x2) ≤ 1048576 := by
            rw [HC.out.c]
            have := cnt_le (Pf.isC (x1, x2)) (l.take k)
            have := HTl.out
            unfold Pf.nC
            omega
          have HMd := hid (HM1.out.below (w2 := Wb.drew) (Below.drew (Below.refl _ _)))
          have lk := HMd.out.m3.look ts uN 0 (zI Wb.drew) HGx.out.x
          obtain ⟨ce, w2, hen, lk2, hge, hst⟩ := HMd.out.m3.entry ts uN 0 zI (by have := HC.out.lc; have := HTl.out; unfold maxLen; omega) HGx.out.x
          obtain ⟨w3, hes, hm3, hg3⟩ := hst (Pf.look 0 Lc (x1, x2) + 1)
          have HM2 := hid (HMd.out.setC hg3 hm3)
          have hb2 := HBx.out.chg (S := fun i => i = me + 1 + 1) (w' := w3) (grown_chg (w := Wb) ⟨hg3.os, hg3.tape, hg3.output, hg3.size, hg3.block⟩) (fun e => map_ne HM1.out.m3 HBx.out e.symm)
          have hb1 := HBx.out.chg (S := fun i => i = me + 1 + 1) (w' := w2) (grown_chg (w := Wb) ⟨hge.os, hge.tape, hge.output, hge.size, hge.block⟩) (fun e => map_ne HM1.out.m3 HBx.out e.symm)
          obtain ⟨v0, v1, v2, v3, v4, v5⟩ := box6 hb2
          obtain ⟨u0, u1, u2, u3, u4, u5⟩ := box6 hb1
          have HEn := hid (callS HM2.out.pp HM2.out.bl.size HM2.out.ok (by have := HTl.out; omega) HGx.out.x HGx.out.k)
          rw [HM2.out.st] at HEn
          have HCR := hid (HC.out.call (o := ⟨d, f, (x1, x2), q, ls⟩) h0 h1)
          obtain ⟨z, hz⟩ : ∃ z, Pf.look 0 Lc (x1, x2) = z := ⟨_, rfl⟩
          rw [hz] at lk hen lk2 hes hbd
          unfold TS vI at lk hen lk2
          unfold vI at hes
          unfold sV at HEn
          dsimp only at lk hen lk2 HEn
          clear hm3 hg3 hge hst hb1 hb2 hz
          go_upto_region 11 with fail
          go_region
          clear lk hen lk2 hes
          go_wp2_with (go_at_call 14; refine HEn.out.mono ?_; rintro e w4 ⟨rfl, hs⟩)
          obtain ⟨p2, hM4⟩ := HM2.out.step hs
          have HM4 : Hid (∃ p Le Lj Lc, MI w w4 pb me (me + 1) (me + 1 + 1) p (k + 1) (Pf.run (l.take (k + 1))) Le Lj Lc ∧ CR Le Lj Lc (l.take (k + 1))) := by
            refine ⟨p2, _, _, _, ?_, by rw [HT.out]; exact HCR.out⟩
            rw [HT.out, run_snoc]
            rw [show Pf.step1 (Pf.run (l.take k)) ⟨d, f, (x1, x2), q, ls⟩ = (Pf.run (l.take k)).call (x1, x2) q 1 from (if_neg h0).trans (if_neg h1)]
            exact hM4
          clear hM4 hs HM1 HM HC y0 y1 y2 y3 y4 y5 HBx HB9
          go_roundw
          case rel => exact ⟨k + 1, by go_num, by omega, HM4.out⟩
          case measure => simp [intOf]; omega
    · obtain rfl : k = l.length := by omega
      rw [List.take_length] at hM hC
      have HM := hid hM
      have HC := hid hC
      have HIv := hid (Pf.run_inv l)
      obtain ⟨wo, rfl⟩ : ∃ wo, wo = wr := ⟨_, rfl⟩
      clear hM hC HI
      go_wp2
      go_loopw [72] (fun i wr => ∃ k : Nat, i = .int .i64 (k : Int) ∧ k ≤ l.length ∧ Hid (Below wo.heap.size wo wr)) (fun i _ => l.length - (intOf i).toNat)
      case atStart => exact ⟨0, rfl, Nat.zero_le _, Below.refl _ _⟩
      case round =>
        obtain ⟨k, rfl, hk2, HBr⟩ := hrel
        by_cases hlt : k < l.length
        · obtain ⟨x, hx⟩ : ∃ x, l[k]? = some x := ⟨_, List.getElem?_eq_getElem hlt⟩
          obtain ⟨b, o, cap, hv, hbl, c0, c1, c2, c3, c4, c5⟩ := oS_at (HV.out wr (belows HM.out.bl HBr.out HM.out.bl.size)) hx
          obtain ⟨rfl, -, rfl⟩ := Value.slice.inj hv
          have HGx := hid (HG.out x (List.mem_of_getElem? hx))
          obtain ⟨d, f, ⟨x1, x2⟩, q, ls⟩ := x
          dsimp only at c0 c1 c2 c3 c4 c5
          clear hv hx
          go_upto_region 23 with fail
          refine region_named fun Wb hWb => ?_
          have hbx : BX Wb wr.heap.size #[.int .i64 d, .int .i64 f, .int .i64 x1, .int .i64 x2, .int .i64 q, .int .i64 ls] 31 := by rw [hWb]; exact BX.new wr _ _
          have HBx := hid hbx
          have HB9 : Hid (Below wo.heap.size wo Wb) := by show Below _ _ _; rw [hWb]; exact HBr.out.alloc HBr.out.size _
          obtain ⟨y0, y1, y2, y3, y4, y5⟩ := box6 hbx
          have hM1 := HM.out.below HB9.out
          have HM1 := hid hM1
          have z1 := fun d os => cell_regrown y1 d os
          have z2 := fun d os => cell_regrown y2 d os
          have z3 := fun d os => cell_regrown y3 d os
          have len := HL.out
          have bE : (Pf.nE l f : Int) ≤ 1048576 := by have := cnt_le (Pf.isE f) l; unfold Pf.nE; omega
          have bJ : (Pf.nJ l (x1, x2) : Int) ≤ 1048576 := by have := cnt_le (Pf.isJ (x1, x2)) l; unfold Pf.nJ; omega
          have bC : (Pf.nC l (x1, x2) : Int) ≤ 1048576 := by have := cnt_le (Pf.isC (x1, x2)) l; unfold Pf.nC; omega
          have eE : (Pf.run l).en f = (Pf.nE l f : Int) := by rw [HIv.out.en, Pf.sat_small (by unfold Pf.M; omega)]
          have eJ : (Pf.run l).ju (x1, x2) = (Pf.nJ l (x1, x2) : Int) := by rw [HIv.out.ju, Pf.sat_small (by unfold Pf.M; omega)]
          have he := fun d os => Calls.regrown_of (d := d) (os := os) (w := Wb) (enteredS (hM1.pp.below (below_regrown Wb d os)) HGx.out.f)
          have hj := fun d os => Calls.regrown_of (d := d) (os := os) (w := Wb) (jumpedS (hM1.pp.below (below_regrown Wb d os)) HGx.out.x)
          rw [hM1.st, eE] at he
          rw [hM1.st, eJ] at hj
          have l1 := fun d os => (hM1.m1.below (below_regrown Wb d os)).look ti uM 0 (zI (Sort.grow (redrawn Wb d) os)) HGx.out.f
          have l2 := fun d os => (hM1.m2.below (below_regrown Wb d os)).look ts uN 0 (zI (Sort.grow (redrawn Wb d) os)) HGx.out.x
          rw [HC.out.e] at l1
          rw [HC.out.j] at l2
          obtain ⟨nE, hnE⟩ : ∃ n, (Pf.nE l f : Int) = n := ⟨_, rfl⟩
          obtain ⟨nJ, hnJ⟩ : ∃ n, (Pf.nJ l (x1, x2) : Int) = n := ⟨_, rfl⟩
          rw [hnE] at he l1
          rw [hnJ] at hj l2
          unfold TI vI at l1
          unfold TS vI at l2
          unfold sV at hj
          dsimp only at l1 l2 hj
          have HE := hid he
          have HJ := hid hj
          have hne : (nE != nE) = false := by simp
          have hnj : (nJ != nJ) = false := by simp
          clear he hj hM1 hbx hWb c0 c1 c2 c3 c4 c5 eE eJ bE bJ hnE hnJ
          refine wp_region_quiet_below (by kernel_rfl) (by kernel_rfl) ?_
          (repeat (go_big_quiet_step ((first | (with_reducible exact HE.out _ _) | (with_reducible exact HJ.out _ _)))))
          refine wpQuiet_nil ?_
          intro W hw'
          obtain ⟨⟨dq, osq⟩, hw''⟩ := hw'
          have hbq := below_regrown Wb dq osq
          rw [← hw''] at hbq
          clear hw'' l1 l2 z1 z2 z3 y0 y1 y2 y3 y4 y5
          have HBW : Hid (Below wo.heap.size wo W) := belows HB9.out hbq HB9.out.size
          have HBx2 := hid (HBx.out.below hbq)
          obtain ⟨y0, y1, y2, y3, y4, y5⟩ := box6 HBx2.out
          have hM2 := HM1.out.below hbq
          have hcl := classesS hM2.pp hM2.ok HGx.out.x
          rw [hM2.st] at hcl
          have HCv := hid (HIv.out.ca (x1, x2))
          obtain ⟨S, hS⟩ : ∃ S, Pf.srt ((Pf.run l).ca (x1, x2)).1 = S := ⟨_, rfl⟩
          rw [hS] at hcl
          have HS := hid hS
          have HCl := hid hcl
          unfold ClPost sV at HCl
          dsimp only at HCl
          have HSm : Hid (Pf.sum S = Pf.sum ((Pf.run l).ca (x1, x2)).1) := by show _ = _; rw [← hS]; exact sum_srt _
          have HS4 : Hid (S.length ≤ 4) := by show _ ≤ _; rw [← hS, Pf.srt_len]; exact HCv.out.ok.ln
          have HSb : Hid (∀ y ∈ S, Pf.Bd y.2) := fun y hy => HCv.out.ok.bd y ((Pf.srt_perm _).mem_iff.1 (hS ▸ hy))
          have HSt : Hid (Pf.sum S ≤ (Pf.nC l (x1, x2) : Int)) := by show _ ≤ _; rw [HSm.out]; exact HCv.out.le
          clear hM2 hcl hS hbq HBx
          go_wp2_with (go_at_call 17; refine HCl.out.mono ?_; rintro e W2 ⟨v1, rfl, ho, hb⟩; have HO := hid ho; have HB2 := hid hb; obtain ⟨ra, rc, hrv⟩ := own_form ho; subst hrv; clear ho hb)
          have HBW2 : Hid (Below wo.heap.size wo W2) := belows HBW.out HB2.out HBW.out.size
          have HBx3 := hid (HBx2.out.below HB2.out)
          clear y0 y1 y2 y3 y4 y5
          obtain ⟨wi, rfl⟩ : ∃ wi, wi = wr := ⟨_, rfl⟩
          go_loopw [101, 11] (fun j n wr3 => ∃ i : Nat, j = .int .i64 (i : Int) ∧ i ≤ S.length ∧ n = .int .i64 (Pf.sum (S.take i)) ∧ Hid (Below W2.heap.size W2 wr3)) (fun j _ _ => S.length - (intOf j).toNat)
          case atStart => exact ⟨0, rfl, Nat.zero_le _, rfl, Below.refl _ _⟩
          case round =>
            obtain ⟨i, rfl, hi, rfl, HBi⟩ := hrel
            by_cases hlt3 : i < S.length
            · obtain ⟨⟨ya, yb⟩, hy⟩ : ∃ y, S[i]? = some y := ⟨_, List.getElem?_eq_getElem hlt3⟩
              obtain ⟨g, cap2, hv2, hg1, hg2, hcs⟩ := row_at (f := evL) evL_len (Kit.owns_below HO.out HBi.out (Nat.le_refl _)) hy
              obtain ⟨rfl, -, rfl⟩ := Value.slice.inj hv2
              have c0 : wr.cell? ⟨g, i * 2, none⟩ = some (.int .i64 ya) := (hcs 0 (by omega)).1
              have c1 : wr.cell? ⟨g, i * 2 + 1, none⟩ = some (.int .i64 yb) := (hcs 1 (by omega)).1
              have hT : Pf.sum (S.take (i + 1)) = Pf.sum (S.take i) + yb := by rw [take_snoc hy, sum_app]; show _ + (yb + 0) = _; omega
              have h1 := sum_part HSb.out i
              have h2 := sum_part HSb.out (i + 1)
              have h3 := HSt.out
              have h4 := HS4.out
              rw [hT] at h2
              have HT3 := hid hT
              obtain ⟨sm, hsm⟩ : ∃ sm, Pf.sum (S.take i) = sm := ⟨_, rfl⟩
              rw [hsm] at h1 h2 HT3 ⊢
              have hl1 : 0 ≤ sm := h1.1
              have hl2 : 0 ≤ sm + yb := h2.1
              have hl3 : sm + yb ≤ 1048576 := by omega
              clear hcs hv2 hy hT h1 h2 h3 hsm
              go_wp2
              go_roundw
              case rel => exact ⟨i + 1, by go_num, by omega, by rw [HT3.out], HBi.out.alloc HBi.out.size _⟩
              case measure => simp [intOf]; omega
            · obtain rfl : i = S.length := by omega
              rw [List.take_length]
              have HBy := hid (HBx3.out.below HBi.out)
              obtain ⟨y0, y1, y2, y3, y4, y5⟩ := box6 HBy.out
              have HBf : Hid (Below wo.heap.size wo wr) := belows HBW2.out HBi.out HBW2.out.size
              have hM3 := HM.out.below HBf.out
              have lk := hM3.m3.look ts uN 0 (zI wr) HGx.out.x
              rw [HC.out.c] at lk
              have hkd := kindS hM3.pp HGx.out.x
              rw [hM3.st] at hkd
              have h3 := HSt.out
              have heq : ((Pf.run l).ca (x1, x2)).2 = false → Pf.sum S = (Pf.nC l (x1, x2) : Int) := fun e => by rw [HSm.out]; exact HCv.out.eq e (by unfold Pf.M; omega)
              have HEq := hid heq
              obtain ⟨nc, hnc⟩ : ∃ n, (Pf.nC l (x1, x2) : Int) = n := ⟨_, rfl⟩
              obtain ⟨sm, hsm⟩ : ∃ n, Pf.sum S = n := ⟨_, rfl⟩
              rw [hnc, hsm] at HEq h3
              rw [hnc] at lk
              rw [hsm]
              obtain ⟨kd, hkd2⟩ : ∃ n, Pf.kind ((Pf.run l).ca (x1, x2)) = n := ⟨_, rfl⟩
              rw [hkd2] at hkd
              have HKd := hid hkd
              have HK2 := hid hkd2
              unfold TS vI at lk
              unfold sV at HKd
              dsimp only at lk HKd
              have hgt : decide (nc < sm) = false := decide_eq_false (by omega)
              clear hM3 hkd heq hsm hkd2 h3 bC
              have HLk := hid (fun W (hb : Below wo.heap.size wo W) => by have := (HM.out.below hb).m3.look ts uN 0 (zI W) HGx.out.x; rw [HC.out.c, hnc] at this; unfold TS vI at this; dsimp only at this; exact this)
              clear hnc
              cases hm : ((Pf.run l).ca (x1, x2)).2
              · obtain rfl : sm = nc := HEq.out hm
                have hself : (sm != sm) = false := by simp
                rcases kind_not hm with h | h | h
                all_goals
                  obtain rfl := HK2.out.symm.trans h
                  clear h hm
                  go_wp2_with (go_at_call 18; refine HKd.out.mono ?_; rintro e W5 ⟨rfl, hb⟩; have HB5 := hid (belows HBf.out hb HBf.out.size); have lk2 := HLk.out _ HB5.out; have w0 := (HBy.out.below hb).cell 2; have w1 := (HBy.out.below hb).cell 3; clear hb)
                  go_roundw
                  case rel => exact ⟨k + 1, by go_num, by omega, HB5.out⟩
                  case measure => simp [intOf]; omega
              · obtain rfl := HK2.out.symm.trans (kind_mega hm)
                clear hm
                go_wp2_with (go_at_call 18; refine HKd.out.mono ?_; rintro e W5 ⟨rfl, hb⟩; have HB5 := hid (belows HBf.out hb HBf.out.size); clear hb)
                go_roundw
                case rel => exact ⟨k + 1, by go_num, by omega, HB5.out⟩
                case measure => simp [intOf]; omega
        · obtain rfl : k = l.length := by omega
          go_wp2
          go_ret
          exact ⟨rfl, belows HM.out.bl HBr.out HM.out.bl.size⟩
end Go.Proofs.Ytfphiomhlhpphaa

/- Own texts for the claim, part 4. -/
import Derived.Test.YtdodobpbdnpjiaaZF3
import Derived.Laws.CopyOwn
import Derived.WalkLawsBesides
import Derived.OrdersHeld
import Derived.Deep.RegionHeld
import Derived.OrdersIn
import Derived.RangeFuncCalls
namespace Go.Proofs.Ytdodobpbdnpjiaa
open Go Go.RowKit
open Kit (natVals)
open Cf (Op5 Ca opL caL)

/-- Where catch stands: the blocks, and the lists of handlers' blocks in rows of their own. -/
structure CaI (w2 : World) (base gb bb cap ob : Nat) (L : List Op5) (B : Nat → Bool) (k : Nat) (nv cv : Nat → Value) (cl : Nat → List Nat) (W : World) : Prop where
  gw : GW W base gb (.slice (some ⟨bb, 0, none⟩) k cap) (.slice (some ⟨ob, 0, none⟩) L.length L.length) k L.length (Cf.bkV B L.length nv cv) (Cf.ofN B)
  ca : ∀ x, x < k → W.ownsRow w2.heap.size 3 1 (cv x) (cl x).length (natVals (cl x))
  ap : ∀ x y, x < k → y < k → x ≠ y → ∀ j, (cv x).ownBlock = some j → (cv y).ownBlock ≠ some j
  lt : ∀ x, x < k → ∀ t, t ∈ cl x → t < k
  ch : Chg (fun i => i = bb) w2 W
section
variable {w2 W W' : World} {base gb bb cap ob : Nat} {L : List Op5} {B : Nat → Bool} {k : Nat} {nv cv : Nat → Value} {cl : Nat → List Nat}
theorem CaI.below (h : CaI w2 base gb bb cap ob L B k nv cv cl W) (hb : Below W.heap.size W W') : CaI w2 base gb bb cap ob L B k nv cv cl W' :=
  ⟨h.gw.below hb, fun x hx => Kit.owns_below (h.ca x hx) hb (Nat.le_refl _), h.ap, h.lt, h.ch.below hb⟩
theorem CaI.step {x t : Nat} {v2 : Value} {W2 w3 : World} (h : CaI w2 base gb bb cap ob L B k nv cv cl W) (hx : x < k) (ht : t < k) (hob : ob < w2.heap.size) (hbl : Below W.heap.size W W2) (hg : W2.grownBy w3 (cv x).ownBlock)
    (hk : v2.ownBlock = (cv x).ownBlock ∨ v2.ownBlock = some W2.heap.size) (ho3 : w3.ownsRow w2.heap.size 3 1 v2 ((cl x).length + 1) (natVals (cl x) ++ [.int .i64 (t : Int)])) :
    w3.cell? ⟨bb, x * 4 + 3, none⟩ = some (cv x) ∧ w3.frozen? ⟨bb, x * 4 + 3, none⟩ = false ∧ CaI w2 base gb bb cap ob L B k nv (upd cv x v2) (upd cl x (cl x ++ [t])) (w3.setCell ⟨bb, x * 4 + 3, none⟩ v2) ∧ Chg (fun i => (cv x).ownBlock = some i ∨ i = bb) W (w3.setCell ⟨bb, x * 4 + 3, none⟩ v2) := by
  obtain ⟨a1, a2, a3, a4, a5⟩ := h.gw.grow (i := 3) (v2 := v2) (R' := Cf.bkV B L.length nv (upd cv x v2)) (Cf.bkV_len _ _ _ _) hx (by omega) rfl (by unfold Cf.bkV; rw [upd_same]; rfl) (fun y _ hy => by unfold Cf.bkV; rw [upd_other _ _ hy]) (h.ca x hx) hob h.ch (Nat.le_refl _) hbl hg ho3
  have hc3 : Chg (fun i => (cv x).ownBlock = some i) W w3 := (Chg.of_below hbl).grown hg (fun k e => .inl e)
  have hc4 : Chg (fun i => i = bb) w3 (w3.setCell ⟨bb, x * 4 + 3, none⟩ v2) := (Chg.refl (fun i => i = bb) w3).set (p := ⟨bb, x * 4 + 3, none⟩) (.inl rfl) v2
  refine ⟨a1, a2, ⟨a3, fun y hy => ?_, fun y z hy hz hne j e => ?_, fun y hy s hs => ?_, a5⟩, (hc3.mono (T := fun i => (cv x).ownBlock = some i ∨ i = bb) (fun _ _ e => .inl e)).trans hc4 (fun i e => .inl (.inr e))⟩
  · by_cases e : y = x
    · subst e
      rw [upd_same, upd_same, List.length_append, Kit.natVals_snoc]
      exact a4
    · rw [upd_other _ _ e, upd_other _ _ e]
      have o3 := owns_chg (h.ca y hy) hc3 (fun j e1 e2 => h.ap y x hy hx e j e1 e2)
      exact owns_chg o3 hc4 (fun j e1 e2 => own_unlike (h.ca y hy) h.gw.bl (by decide) j e1 (by rw [e2]; rfl))
  · have hnew : ∀ u, u < k → ∀ j, (cv u).ownBlock = some j → j < W2.heap.size := fun u hu j e => Nat.lt_of_lt_of_le (Kit.own_lt (h.ca u hu) j e) hbl.size
    by_cases ey : y = x
    · subst ey
      rw [upd_same] at e
      rw [upd_other _ _ (fun e2 => hne e2.symm)]
      intro e2
      rcases hk with hk | hk
      · exact h.ap y z hy hz hne j (by rw [← hk]; exact e) e2
      · rw [hk] at e
        have := hnew z hz j e2
        have := Option.some.inj e
        omega
    · rw [upd_other _ _ ey] at e
      by_cases ez : z = x
      · subst ez
        rw [upd_same]
        intro e2
        rcases hk with hk | hk
        · exact h.ap y z hy hz hne j e (by rw [← hk]; exact e2)
        · rw [hk] at e2
          have := hnew y hy j e
          have := Option.some.inj e2
          omega
      · rw [upd_other _ _ ez]
        exact h.ap y z hy hz hne j e
  · by_cases e : y = x
    · subst e
      rw [upd_same] at hs
      rcases List.mem_append.1 hs with h1 | h1
      · exact h.lt y hy s h1
      · rw [List.mem_singleton] at h1; omega
    · rw [upd_other _ _ e] at hs
      exact h.lt y hy s hs
end
/-- What a call with a span has left: how long the lists are. -/
def LnJ (cl : Nat → List Nat) (k i t : Nat) : Prop := ∀ x, x < k → (cl x).length ≤ i ∨ ((cl x).length ≤ i + 1 ∧ (cl x).getLast? = some t)
theorem LnJ.step {cl : Nat → List Nat} {k i t x : Nat} (h : LnJ cl k i t) (hx : x < k) (hne : (cl x).getLast? ≠ some t) : LnJ (upd cl x (cl x ++ [t])) k i t := by
  intro y hy
  by_cases e : y = x
  · subst e
    rw [upd_same]
    rcases h y hy with h1 | h1
    · right
      simp
      exact h1
    · exact absurd h1.2 hne
  · rw [upd_other _ _ e]
    exact h y hy
/-- A graph's blocks and edges, in memory. -/
structure GB (W : World) (base gb bb cap ob : Nat) (L : List Op5) (B : Nat → Bool) (k : Nat) (nv cv : Nat → Value) (cl : Nat → List Nat) : Prop where
  gw : GW W base gb (.slice (some ⟨bb, 0, none⟩) k cap) (.slice (some ⟨ob, 0, none⟩) L.length L.length) k L.length (Cf.bkV B L.length nv cv) (Cf.ofN B)
  nx : ∀ x, x < k → W.ownsRow base 3 1 (nv x) (Cf.nxs L B x).length (natVals (Cf.nxs L B x))
  ca : ∀ x, x < k → W.ownsRow base 3 1 (cv x) (cl x).length (natVals (cl x))
  lt : ∀ x, x < k → ∀ t, t ∈ cl x → t < k
section
variable {cb : Nat} {cov pv : Value} {L : List Op5} {P : List Nat}
set_option maxRecDepth 100000
set_option maxHeartbeats 4000000
theorem catch_any (hP : Cf.Pl (Cf.adr L) L.length P) {base gb bb cap ob k : Nat} {B : Nat → Bool} {nv : Nat → Value} {cvv : Value} {C : List Ca} {w0 w : World} (h : GoI w0 base gb bb cap ob L B k k nv w) (hlow : ∀ X, Below base w X → Code X cb cov pv L P ∧ CaS X cvv C) (hbw : base ≤ w.heap.size) (hn : L.length ≤ 1048576) (hm : C.length ≤ 1048576) (hk : ∀ i, i < L.length → Cf.ofB B i < k) :
    Calls Try.prog 24 #[.pointer (some ⟨gb, 0, none⟩), .pointer (some ⟨cb, 0, none⟩), cvv] w fun e w' => e = .returned (.tuple #[]) ∧ Below base w w' ∧ ∃ cv cl, GB w' base gb bb cap ob L B k nv cv cl ∧ ∀ x, x < k → (cl x).length ≤ C.length := by
  obtain ⟨i0, hi, hy0, hy1, hy2⟩ := info_parts infoI
  have HI := hid h
  have HL := hid hlow
  obtain ⟨k0, k1, -⟩ := h.gw.cells
  have hgs := h.gw.box.sz
  have HE := hid (ends_any hP (hlow w (Below.refl _ _)).1 h.gw.of hn)
  have HS := hid (fun W (hb : Below w.heap.size w W) => spans_any (k := k) hP (hlow W (hb.mono hbw)).1 (hlow W (hb.mono hbw)).2 (Kit.owns_below h.gw.of hb (Nat.le_refl _)) hn hm hk)
  have HK := hid hk
  have HP := hid hP
  clear h hlow hP hk
  go_enter Try.func24, Try.ntmps24
  go_upto_block 1 with (first | (go_at_call 47; refine HE.out.mono ?_; rintro e w1 ⟨rfl, E, hE⟩; have HEn := hid hE; have hb1 := hE.2.2.1; have hb1' := hb1; have k0' := (HI.out.gw.below hb1).cells.1; have k1' := (HI.out.gw.below hb1).cells.2.1; clear hE) | (go_at_call 48; refine (HS.out _ hb1).mono ?_; rintro e w2 ⟨v2, S, rfl, hS⟩; have HSp := hid hS; obtain ⟨sa, scap, rfl⟩ := own_form hS.1; clear hS))
  have hb2 : Below w.heap.size w w2 := belows hb1 HSp.out.2.2.2 hb1.size
  have HB2 := hid hb2
  have HEw := hid (Kit.owns_below HEn.out.1 HSp.out.2.2.2 (Nat.le_refl _))
  have HC2 : Hid (CaI w2 base gb bb cap ob L B k nv (fun _ => Nil) (fun _ => []) w2) := ⟨HI.out.gw.below hb2, fun x _ => ⟨rfl, .inl ⟨rfl, rfl⟩⟩, fun x y _ _ _ j e => by simp [Value.ownBlock] at e, fun x _ t ht => by simp at ht, Chg.refl _ _⟩
  have HNx := hid (fun x hx => Kit.owns_below (HI.out.nx x hx) hb2 (Nat.le_refl _))
  have hob : ob < w2.heap.size := Nat.lt_of_lt_of_le (Kit.own_lt HI.out.gw.of ob rfl) hb2.size
  have HBs := hid (fun cv cl W (hc : CaI w2 base gb bb cap ob L B k nv cv cl W) => (belows (Below.refl base w) (hb2.mono (Nat.le_refl _)) hbw : Below base w w2).trans (hc.ch.to_below (fun j e => by rw [e]; exact Kit.own_base HI.out.gw.bl bb rfl) (Nat.le_trans hbw hb2.size)))
  have HEr := hid HEn.out.2.1
  have HBl2 := hid (Kit.owns_below HI.out.gw.bl hb2 (Nat.le_refl _))
  have HS1 := hid HSp.out.1
  have hSl := HSp.out.2.1
  have HSg := hid HSp.out.2.2.1
  have hz2 := hb2.size
  clear hb1 hb1' k0' k1' HEn HSp HS HE hb2 k0 k1
  go_loopw [28, 7, 8] (fun v tg dn wr => ∃ (i : Nat) (td : Int) (dd : Nat) (cv : Nat → Value) (cl : Nat → List Nat), v = .int .i64 (i : Int) ∧ tg = .int .i64 td ∧ dn = .int .i64 (dd : Int) ∧ dd ≤ L.length ∧ i ≤ S.length ∧ Hid (CaI w2 base gb bb cap ob L B k nv cv cl wr) ∧ Hid (∀ x, x < k → (cl x).length ≤ i)) (fun v _ _ _ => S.length - (intOf v).toNat)
  case atStart => exact ⟨0, -1, 0, _, _, rfl, rfl, rfl, by omega, by omega, HC2, fun x _ => by simp⟩
  case round =>
    clear HC2
    obtain ⟨i, td, dd, cv, cl, rfl, rfl, rfl, hdd, hin, HC, HLn⟩ := hrel
    by_cases hlt : i < S.length
    · obtain ⟨s, hs⟩ : ∃ s, S[i]? = some s := ⟨_, List.getElem?_eq_getElem hlt⟩
      obtain ⟨t, f, e, rfl, ht, hf, he⟩ := HSg.out s (List.mem_of_getElem? hs)
      have hSr : SpR wr _ (.slice sa S.length scap) S := owns_chg HS1.out HC.out.ch (fun j e1 e2 => own_unlike HS1.out HBl2.out (by decide) j e1 (by rw [e2]; rfl))
      obtain ⟨sb, sc, hsv, hsl, s0, s1, s2⟩ := hSr.at hs
      obtain ⟨rfl, -, rfl⟩ := Value.slice.inj hsv
      dsimp only at s0 s1 s2
      clear hsv hs
      go_upto_if 35 with fail
      go_cut [7, 8] (fun a b wx => a = .int .i64 (t : Int) ∧ ∃ d : Nat, d ≤ L.length ∧ b = .int .i64 (d : Int) ∧ wx = wr.alloc (.cells #[.int .i64 (t : Int), .int .i64 (f : Int), .int .i64 (e : Int)] 91))
      case first =>
        by_cases htd : (t : Int) = td
        · subst htd
          go_wp2
          go_meet
          exact ⟨rfl, dd, hdd, rfl, rfl⟩
        · go_wp2
          go_meet
          exact ⟨rfl, 0, by omega, rfl, rfl⟩
      case rest =>
        obtain ⟨rfl, d, hd, rfl, rfl⟩ := hcut
        go_upto_region 8 with fail
        obtain ⟨W1, hW1⟩ : ∃ W1, W1 = wr.alloc (.cells #[.int .i64 (t : Int), .int .i64 (f : Int), .int .i64 (e : Int)] 91) := ⟨_, rfl⟩
        have HC1 : Hid (CaI w2 base gb bb cap ob L B k nv cv cl W1) := by rw [hW1]; exact HC.out.below ((Below.refl _ _).alloc (Nat.le_refl _) _)
        have HX1 : Hid (BX W1 wr.heap.size #[.int .i64 (t : Int), .int .i64 (f : Int), .int .i64 (e : Int)] 91) := by rw [hW1]; exact BX.new wr _ _
        have HJ1 : Hid (LnJ cl k i t) := fun x hx => .inl (HLn.out x hx)
        have hwr := HC.out.ch.size
        rw [← hW1]
        obtain ⟨z, hz⟩ : ∃ z, wr.heap.size = z := ⟨_, rfl⟩
        rw [hz] at HX1 hwr ⊢
        clear hW1 hz s0 s1 s2 HC HLn hSr
        go_loopw [11] (fun v wx => ∃ (κ : Nat) (cv : Nat → Value) (cl : Nat → List Nat), v = .int .i64 (κ : Int) ∧ Hid (CaI w2 base gb bb cap ob L B k nv cv cl wx) ∧ Hid (LnJ cl k i t) ∧ Hid (BX wx z #[.int .i64 (t : Int), .int .i64 (f : Int), .int .i64 (e : Int)] 91)) (fun v _ => L.length + 1 - (intOf v).toNat)
        case atStart => exact ⟨max f d, cv, cl, congrArg _ (by omega), HC1, HJ1, HX1⟩
        case round =>
          clear HC1 HX1 HJ1
          obtain ⟨wx, rfl⟩ : ∃ wx : World, wx = wr := ⟨_, rfl⟩
          obtain ⟨κ, cv, cl, rfl, HC, HJ, HX⟩ := hrel
          have s2 := HX.out.cell 2
          have s3 : wx.cell? ⟨z, 2, none⟩ = some (.int .i64 (e : Int)) := s2
          by_cases hlt2 : κ < e
          · have hκn : κ < L.length := by omega
            have hCd := (HL.out wx (HBs.out cv cl wx HC.out)).1
            obtain ⟨pb, pc, hpv, hpl, hpc⟩ := own_at0 hCd.2.2.1 (by omega)
            obtain ⟨p, hp⟩ : ∃ p, P[κ]? = some p := ⟨_, List.getElem?_eq_getElem (by rw [HP.out.len]; exact hκn)⟩
            have hpn := (HP.out.mem p).1 (List.mem_of_getElem? hp)
            have p0 := (hpc κ _ (Kit.natVals_at hp)).1
            have q0 := hCd.1.cell 1
            have q1 : wx.cell? ⟨cb, 1, none⟩ = some (.slice (some ⟨pb, 0, none⟩) L.length pc) := by rw [← hpv]; exact q0
            obtain ⟨g0, g1, -⟩ := HC.out.gw.cells
            have o0 := (own_cell HC.out.gw.of (ivals_at hpn)).1
            have o1 : wx.cell? ⟨ob, p, none⟩ = some (.int .i64 (Cf.ofB B p : Int)) := o0
            have hxk := HK.out p hpn
            obtain ⟨x, hx⟩ : ∃ x, Cf.ofB B p = x := ⟨_, rfl⟩
            rw [hx] at o1 hxk
            obtain ⟨-, hat⟩ := HC.out.gw.at (Cf.bkV_len _ _ _ _) hxk
            have c3 := (hat 3 (cv x) (by omega) rfl).1
            have hEr := HEr.out κ (by omega) hκn
            have e0 := (own_cell (owns_chg HEw.out HC.out.ch (fun j e1 e2 => own_unlike HEw.out HBl2.out (by decide) j e1 (by rw [e2]; rfl))) (ivals_at hκn)).1
            obtain ⟨y, hy⟩ : ∃ y, E κ = y := ⟨_, rfl⟩
            rw [hy] at hEr e0
            have HY := hid hy
            obtain ⟨u, hu⟩ : ∃ u, cv x = u := ⟨_, rfl⟩
            have HU := hid hu
            rw [hu] at c3
            have hca := HC.out.ca x hxk
            rw [hu] at hca
            obtain ⟨ua, ucap, rfl⟩ := own_form hca
            have hlx := HJ.out x hxk
            have hll : (cl x).length ≤ 1048577 := by rcases hlx with h | h <;> omega
            obtain ⟨ln, hln⟩ : ∃ ln, (cl x).length = ln := ⟨_, rfl⟩
            have HLn := hid hln
            have HOw := hid (fun X (b : Below wx.heap.size wx X) => Kit.owns_below hca b (Nat.le_refl _))
            rw [hln] at c3 HOw hca hll HU
            have hws := HC.out.ch.size
            have hz1x : gb < wx.heap.size := HC.out.gw.box.sz
            have hz2x : bb < wx.heap.size := Kit.own_lt HC.out.gw.bl bb rfl
            have hz3x : z < wx.heap.size := HX.out.sz
            clear hat hpc hpv hp q0 o0 hx hu hlx hln hy hCd s2
            have HGo := hid (fun (v2 : Value) X Y (h1 : Below wx.heap.size wx X) h2 h3 h4 => HC.out.step (t := t) (v2 := v2) (W2 := X) (w3 := Y) hxk ht hob h1 h2 h3 h4)
            cases ln with
            | zero =>
              have HNe : Hid ((cl x).getLast? ≠ some t) := by show _ ≠ _; rw [List.length_eq_zero_iff.1 HLn.out]; simp
              go_wp2
              go_quiet (fail)
              go_upto_region 9 with (at_builtin; go_loud (refine wpList_append_own_at _ rfl (.tmp 91) (.tmp 93) 34 rfl w2.heap.size 3 i0 _ 1 8 Try.underlying34 hi hy0 hy1 hy2 rfl (by decide) (.slice ua (0) ucap) (0) _ rfl (HOw.out _ (by repeat' first | with_reducible exact Below.refl _ _ | with_reducible assumption | with_reducible refine belows_drewN ?_ _ | with_reducible refine Below.drew ?_ | with_reducible refine Below.setCell ?_ ?_ _ | with_reducible refine Below.alloc ?_ ?_ _ | omega | (simp; done) | (simp; omega))) ⟨wx.heap.size, 0, none⟩ 1 1 [.int .i64 (t : Int)] rfl rfl (Kit.news_one _ _ _) (Kit.ones_one rfl) (by unfold maxLen; omega) (by omega) (by first | omega | (simp; omega)) ?_; intro v2 w3 ho3 hg3 _ hk3; obtain ⟨c4, y4, hN, hcg⟩ := HGo.out v2 ((wx.drewN nq).alloc (.cells #[.int .i64 (t : Int)] 3)) _ (belows (below_drewN wx nq) ((Below.refl _ _).alloc (Nat.le_refl _) _) (Nat.le_refl _)) (by rw [HU.out]; exact hg3) (by rw [HU.out]; exact hk3) (by rw [HLn.out]; exact ho3); rw [HU.out] at c4; have HN := hid hN; have HXN := hid (HX.out.chg hcg (by rintro (e1 | e1); exact own_unlike_box (HC.out.ca x hxk) HX.out (by decide) e1; exact own_unlike_box HC.out.gw.bl HX.out (by decide) (by rw [e1]; rfl))); obtain ⟨b2, q2, rfl⟩ := own_form ho3; clear ho3 hg3 hk3 hN hcg))
              refine region_named fun W9 hW9 => ?_
              try rw [← hW9] at HN HXN
              have e9 := (own_cell (owns_chg HEw.out HN.out.ch (fun j e1 e2 => own_unlike HEw.out HBl2.out (by decide) j e1 (by rw [e2]; rfl))) (ivals_at hκn)).1
              rw [HY.out] at e9
              clear hW9
              go_wp2
              go_roundw
              case rel => exact ⟨y, _, _, rfl, HN, HJ.out.step hxk HNe.out, HXN⟩
              case measure => simp [intOf]; omega
            | succ l' =>
              obtain ⟨q, hq⟩ : ∃ q, (cl x)[l']? = some q := ⟨_, List.getElem?_eq_getElem (by rw [HLn.out]; omega)⟩
              have hlast : (cl x).getLast? = some q := by rw [List.getLast?_eq_getElem?, HLn.out]; exact hq
              obtain ⟨rb, rc, hrv, hrl, hrc⟩ := own_at0 hca (by omega)
              obtain ⟨rfl, -, rfl⟩ := Value.slice.inj hrv
              have r0 := (hrc l' _ (Kit.natVals_at hq)).1
              have hln0 : ¬ ((l' : Int) + 1 = 0) := by omega
              have hln1 : ((l' + 1 : Nat) : Int) - 1 = (l' : Int) := by omega
              have HLast := hid hlast
              clear hrv hrc hq hlast
              by_cases hqt : q = t
              · subst hqt
                go_wp2
                go_quiet (fail)
                go_wp2
                go_roundw
                case rel => exact ⟨y, cv, cl, rfl, HC.out.below (below_drewN wx _), HJ, HX.out.below (below_drewN wx _)⟩
                case measure => simp [intOf]; omega
              · have hqi : ((q : Int) != (t : Int)) = true := bne_iff_ne.2 (by omega)
                have HNe : Hid ((cl x).getLast? ≠ some t) := by show _ ≠ _; rw [HLast.out]; simpa using hqt
                go_wp2
                go_quiet (fail)
                go_upto_region 9 with (at_builtin; go_loud (refine wpList_append_own_at _ rfl (.tmp 91) (.tmp 93) 34 rfl w2.heap.size 3 i0 _ 1 8 Try.underlying34 hi hy0 hy1 hy2 rfl (by decide) (.slice (some ⟨rb, 0, none⟩) (l' + 1) ucap) (l' + 1) _ rfl (HOw.out _ (by repeat' first | with_reducible exact Below.refl _ _ | with_reducible assumption | with_reducible refine belows_drewN ?_ _ | with_reducible refine Below.drew ?_ | with_reducible refine Below.setCell ?_ ?_ _ | with_reducible refine Below.alloc ?_ ?_ _ | omega | (simp; done) | (simp; omega))) ⟨wx.heap.size, 0, none⟩ 1 1 [.int .i64 (t : Int)] rfl rfl (Kit.news_one _ _ _) (Kit.ones_one rfl) (by unfold maxLen; omega) (by omega) (by first | omega | (simp; omega)) ?_; intro v2 w3 ho3 hg3 _ hk3; obtain ⟨c4, y4, hN, hcg⟩ := HGo.out v2 ((wx.drewN nq).alloc (.cells #[.int .i64 (t : Int)] 3)) _ (belows (below_drewN wx nq) ((Below.refl _ _).alloc (Nat.le_refl _) _) (Nat.le_refl _)) (by rw [HU.out]; exact hg3) (by rw [HU.out]; exact hk3) (by rw [HLn.out]; exact ho3); rw [HU.out] at c4; have HN := hid hN; have HXN := hid (HX.out.chg hcg (by rintro (e1 | e1); exact own_unlike_box (HC.out.ca x hxk) HX.out (by decide) e1; exact own_unlike_box HC.out.gw.bl HX.out (by decide) (by rw [e1]; rfl))); obtain ⟨b2, q2, rfl⟩ := own_form ho3; clear ho3 hg3 hk3 hN hcg))
                refine region_named fun W9 hW9 => ?_
                try rw [← hW9] at HN HXN
                have e9 := (own_cell (owns_chg HEw.out HN.out.ch (fun j e1 e2 => own_unlike HEw.out HBl2.out (by decide) j e1 (by rw [e2]; rfl))) (ivals_at hκn)).1
                rw [HY.out] at e9
                clear hW9
                go_wp2
                go_roundw
                case rel => exact ⟨y, _, _, rfl, HN, HJ.out.step hxk HNe.out, HXN⟩
                case measure => simp [intOf]; omega
          · have HLN : Hid (∀ x, x < k → (cl x).length ≤ i + 1) := fun x hx => by rcases HJ.out x hx with h | h <;> omega
            go_wp2
            go_roundw
            case rel => exact ⟨i + 1, t, max d e, cv, cl, by go_num, rfl, congrArg _ (by omega), by omega, by omega, HC, HLN⟩
            case measure => simp [intOf]; omega
    · obtain rfl : i = S.length := by omega
      go_wp2
      refine bodyPost_end (results_none rfl _ _ _) rfl ?_
      refine ⟨rfl, HBs.out cv cl wr HC.out, cv, cl, ⟨HC.out.gw, fun x hx => owns_chg (by have := HNx.out x hx; rw [if_pos hx] at this; exact this) HC.out.ch (fun j e1 e2 => own_unlike (HNx.out x hx) HBl2.out (by decide) j e1 (by rw [e2]; rfl)), fun x hx => Kit.owns_mono (HC.out.ca x hx) (Nat.le_trans hbw hz2), HC.out.lt⟩, fun x hx => Nat.le_trans (HLn.out x hx) hSl⟩
end
end Go.Proofs.Ytdodobpbdnpjiaa
namespace Go.Proofs.Ytdodobpbdnpjiaa.Cf

/-- From a block on, depth first: which were entered, which were left, in order. -/
def vis (E : Nat → List Nat) : Nat → Nat → List Nat × List Nat → List Nat × List Nat
  | 0, _, s => s
  | m + 1, b, s => if b ∈ s.1 then s else
    let r := (E b).foldl (fun s t => vis E m t s) (b :: s.1, s.2)
    (r.1, r.2 ++ [b])
def visL (E : Nat → List Nat) (m : Nat) (T : List Nat) (s : List Nat × List Nat) : List Nat × List Nat := T.foldl (fun s t => vis E m t s) s
theorem visL_snoc (E : Nat → List Nat) (m : Nat) (T : List Nat) (t : Nat) (s : List Nat × List Nat) : visL E m (T ++ [t]) s = vis E m t (visL E m T s) := by unfold visL; rw [List.foldl_append]; rfl
theorem visL_cons (E : Nat → List Nat) (m : Nat) (t : Nat) (T : List Nat) (s : List Nat × List Nat) : visL E m (t :: T) s = visL E m T (vis E m t s) := rfl
theorem vis_in {E : Nat → List Nat} {m b : Nat} {s : List Nat × List Nat} (h : b ∈ s.1) : vis E m b s = s := by
  cases m with
  | zero => rfl
  | succ m => unfold vis; rw [if_pos h]
theorem vis_out {E : Nat → List Nat} {m b : Nat} {s : List Nat × List Nat} (h : b ∉ s.1) : vis E (m + 1) b s = ((visL E m (E b) (b :: s.1, s.2)).1, (visL E m (E b) (b :: s.1, s.2)).2 ++ [b]) := by
  rw [vis, if_neg h]
  rfl
inductive Rch (E : Nat → List Nat) : Nat → Nat → Prop
  | refl (a : Nat) : Rch E a a
  | step {a b c : Nat} : Rch E a b → c ∈ E b → Rch E a c
theorem Rch.trans {E : Nat → List Nat} {a b c : Nat} (h : Rch E a b) (k : Rch E b c) : Rch E a c := by
  induction k with
  | refl => exact h
  | step _ hc ih => exact .step ih hc
/-- What may be asked of one. -/
structure Ok (k : Nat) (s : List Nat × List Nat) : Prop where
  nd : s.1.Nodup
  lt : ∀ x ∈ s.1, x < k
  lnd : s.2.Nodup
  lsub : ∀ x ∈ s.2, x ∈ s.1
/-- What a walk has done. -/
structure VS (E : Nat → List Nat) (k : Nat) (T : List Nat) (s r : List Nat × List Nat) : Prop where
  ok : Ok k r
  sub : ∀ x ∈ s.1, x ∈ r.1
  all : ∀ t ∈ T, t ∈ r.1
  keep : ∃ q, r.2 = s.2 ++ q
  new : ∀ x ∈ r.1, x ∈ s.1 ∨ x ∈ r.2
  old : ∀ x ∈ r.2, x ∈ s.2 ∨ x ∉ s.1
  clo : ∀ x ∈ r.2, x ∉ s.2 → ∀ t ∈ E x, t ∈ r.1
  rch : ∀ x ∈ r.1, x ∈ s.1 ∨ ∃ t ∈ T, Rch E t x
theorem VS.len {E : Nat → List Nat} {k : Nat} {T : List Nat} {s r : List Nat × List Nat} (hs : Ok k s) (h : VS E k T s r) : s.1.length ≤ r.1.length := len_le hs.nd h.sub
theorem VS.refl {E : Nat → List Nat} {k : Nat} {T : List Nat} {s : List Nat × List Nat} (h : Ok k s) (hT : ∀ t ∈ T, t ∈ s.1) : VS E k T s s :=
  ⟨h, fun _ h => h, hT, ⟨[], by simp⟩, fun _ h => .inl h, fun _ h => .inl h, fun x h1 h2 => absurd h1 h2, fun _ h => .inl h⟩
theorem full {k : Nat} {l : List Nat} (h : l.Nodup) (hl : ∀ x ∈ l, x < k) (hk : k ≤ l.length) {b : Nat} (hb : b < k) : b ∈ l := by
  apply Classical.byContradiction
  intro hn
  have h1 : (b :: l).Nodup := List.nodup_cons.2 ⟨hn, h⟩
  have h2 := len_le (b := List.range k) h1 (fun x hx => by
    rcases List.mem_cons.1 hx with rfl | hx
    · exact List.mem_range.2 hb
    · exact List.mem_range.2 (hl x hx))
  rw [List.length_range, List.length_cons] at h2
  omega
theorem VS.cons {E : Nat → List Nat} {k t : Nat} {T : List Nat} {s r q : List Nat × List Nat} (h : VS E k [t] s r) (g : VS E k T r q) : VS E k (t :: T) s q := by
  refine ⟨g.ok, fun x hx => g.sub x (h.sub x hx), fun x hx => ?_, ?_, fun x hx => ?_, fun x hx => ?_, fun x hx hn => ?_, fun x hx => ?_⟩
  · rcases List.mem_cons.1 hx with rfl | hx
    · exact g.sub _ (h.all _ (by simp))
    · exact g.all x hx
  · obtain ⟨a, ha⟩ := h.keep
    obtain ⟨b, hb⟩ := g.keep
    exact ⟨a ++ b, by rw [hb, ha, List.append_assoc]⟩
  · rcases g.new x hx with h1 | h1
    · rcases h.new x h1 with h2 | h2
      · exact .inl h2
      · obtain ⟨b, hb⟩ := g.keep
        exact .inr (by rw [hb]; simp [h2])
    · exact .inr h1
  · rcases g.old x hx with h1 | h1
    · exact h.old x h1
    · exact .inr fun h2 => h1 (h.sub x h2)
  · by_cases h1 : x ∈ r.2
    · intro t ht
      exact g.sub t (h.clo x h1 hn t ht)
    · exact g.clo x hx h1
  · rcases g.rch x hx with h1 | ⟨u, hu, h1⟩
    · rcases h.rch x h1 with h2 | ⟨u, hu, h2⟩
      · exact .inl h2
      · exact .inr ⟨u, by rw [List.mem_singleton] at hu; simp [hu], h2⟩
    · exact .inr ⟨u, by simp [hu], h1⟩
/-- Each walk does what it should. -/
theorem visL_ok {E : Nat → List Nat} {k : Nat} (hE : ∀ b, b < k → ∀ t ∈ E b, t < k) : ∀ (m : Nat) (T : List Nat) (s : List Nat × List Nat), Ok k s → (∀ t ∈ T, t < k) → k ≤ s.1.length + m → VS E k T s (visL E m T s)
  | 0, T, s, hs, hT, hm => by
    have hall : ∀ t ∈ T, t ∈ s.1 := fun t ht => full hs.nd hs.lt (by omega) (hT t ht)
    have e : visL E 0 T s = s := by
      induction T generalizing s with
      | nil => rfl
      | cons t T ih =>
        rw [visL_cons]
        exact ih s hs (fun u hu => hT u (by simp [hu])) hm (fun u hu => hall u (by simp [hu]))
    rw [e]
    exact VS.refl hs hall
  | m + 1, T, s, hs, hT, hm => by
    induction T generalizing s with
    | nil => exact VS.refl hs (fun t ht => by simp at ht)
    | cons t T ih =>
      rw [visL_cons]
      have htk := hT t (by simp)
      have h1 : VS E k [t] s (vis E (m + 1) t s) := by
        by_cases ht : t ∈ s.1
        · rw [vis_in ht]
          exact VS.refl hs (fun u hu => by rw [List.mem_singleton] at hu; rw [hu]; exact ht)
        · rw [vis_out ht]
          have hs' : Ok k (t :: s.1, s.2) := ⟨List.nodup_cons.2 ⟨ht, hs.nd⟩, fun x hx => by
            rcases List.mem_cons.1 hx with rfl | hx
            · exact htk
            · exact hs.lt x hx, hs.lnd, fun x hx => List.mem_cons_of_mem _ (hs.lsub x hx)⟩
          have g := visL_ok hE m (E t) (t :: s.1, s.2) hs' (hE t htk) (by simp only [List.length_cons]; omega)
          obtain ⟨r, hr⟩ : ∃ r, visL E m (E t) (t :: s.1, s.2) = r := ⟨_, rfl⟩
          rw [hr] at g ⊢
          have htr : t ∈ r.1 := g.sub t (by simp)
          have htl : t ∉ r.2 := fun h => by
            rcases g.old t h with h1 | h1
            · exact ht (hs.lsub t h1)
            · exact h1 (by simp)
          refine ⟨⟨g.ok.nd, g.ok.lt, ?_, fun x hx => ?_⟩, fun x hx => g.sub x (by simp [hx]), fun u hu => by rw [List.mem_singleton] at hu; rw [hu]; exact htr, ?_, fun x hx => ?_, fun x hx => ?_, fun x hx hn => ?_, fun x hx => ?_⟩
          · show (r.2 ++ [t]).Nodup
            rw [List.nodup_append]
            exact ⟨g.ok.lnd, by simp, fun a ha b hb e => by rw [List.mem_singleton] at hb; rw [e, hb] at ha; exact htl ha⟩
          · rcases List.mem_append.1 hx with h | h
            · exact g.ok.lsub x h
            · rw [List.mem_singleton] at h; rw [h]; exact htr
          · obtain ⟨q, hq⟩ := g.keep
            exact ⟨q ++ [t], by show r.2 ++ [t] = _; rw [hq]; simp⟩
          · rcases g.new x hx with h | h
            · rcases List.mem_cons.1 h with rfl | h
              · exact .inr (by simp)
              · exact .inl h
            · exact .inr (by simp [h])
          · rcases List.mem_append.1 hx with h | h
            · rcases g.old x h with h2 | h2
              · exact .inl h2
              · exact .inr fun h3 => h2 (by simp [h3])
            · rw [List.mem_singleton] at h; rw [h]; exact .inr ht
          · rcases List.mem_append.1 hx with h | h
            · exact g.clo x h hn
            · rw [List.mem_singleton] at h; rw [h]; exact g.all
          · rcases g.rch x hx with h | ⟨u, hu, h⟩
            · rcases List.mem_cons.1 h with rfl | h
              · exact .inr ⟨x, by simp, .refl x⟩
              · exact .inl h
            · exact .inr ⟨t, by simp, Rch.trans (.step (.refl t) hu) h⟩
      refine h1.cons (ih (vis E (m + 1) t s) h1.ok (fun u hu => hT u (by simp [hu])) ?_)
      have := h1.len hs
      omega
/-- The order: the blocks to which a way goes, the one that was left last first. -/
def ord (E : Nat → List Nat) (k : Nat) : List Nat := if k = 0 then [] else (vis E k 0 ([], [])).2.reverse
theorem ord_ok {E : Nat → List Nat} {k : Nat} (hE : ∀ b, b < k → ∀ t ∈ E b, t < k) : (ord E k).Nodup ∧ (∀ x ∈ ord E k, x < k) ∧ (0 < k → 0 ∈ ord E k) ∧ (∀ x ∈ ord E k, ∀ t ∈ E x, t ∈ ord E k) ∧ ∀ x ∈ ord E k, Rch E 0 x := by
  unfold ord
  by_cases hk : k = 0
  · rw [if_pos hk]
    exact ⟨List.nodup_nil, fun x hx => by simp at hx, fun h => by omega, fun x hx => by simp at hx, fun x hx => by simp at hx⟩
  · rw [if_neg hk]
    have h := visL_ok hE k [0] ([], []) ⟨List.nodup_nil, fun x hx => by simp at hx, List.nodup_nil, fun x hx => by simp at hx⟩ (fun t ht => by rw [List.mem_singleton] at ht; omega) (by omega)
    rw [show visL E k [0] ([], []) = vis E k 0 ([], []) from rfl] at h
    obtain ⟨r, hr⟩ : ∃ r, vis E k 0 ([], []) = r := ⟨_, rfl⟩
    rw [hr] at h ⊢
    have hin : ∀ x, x ∈ r.1 → x ∈ r.2 := fun x hx => by
      rcases h.new x hx with h1 | h1
      · simp at h1
      · exact h1
    refine ⟨(List.reverse_perm _).nodup_iff.2 h.ok.lnd, fun x hx => h.ok.lt x (h.ok.lsub x (List.mem_reverse.1 hx)), fun _ => List.mem_reverse.2 (hin 0 (h.all 0 (by simp))), fun x hx t ht => List.mem_reverse.2 (hin t (h.clo x (List.mem_reverse.1 hx) (by simp) t ht)), fun x hx => ?_⟩
    rcases h.rch x (h.ok.lsub x (List.mem_reverse.1 hx)) with h1 | ⟨u, hu, h1⟩
    · simp at h1
    · rw [List.mem_singleton] at hu
      rw [← hu]; exact h1
end Go.Proofs.Ytdodobpbdnpjiaa.Cf
namespace Go.Proofs.Ytdodobpbdnpjiaa
open Go Go.RowKit
open Kit (natVals)
open Cf (Op5 Ca opL caL)

theorem bx_ne {w : World} {a b : Nat} {cs cs' : Array Value} {T T' : TypeId} (h : BX w a cs T) (h' : BX w b cs' T') (hT : T ≠ T') : a ≠ b := by
  rintro rfl
  unfold BX at h h'
  rw [h] at h'
  simp only [Option.some.injEq, Obj.cells.injEq] at h'
  exact hT h'.2.1
def enF (eb xb nb : Nat) : Value := .func (.func 49) #[] #[.pointer (some ⟨eb, 0, none⟩), .pointer (some ⟨xb, 0, none⟩), .pointer (some ⟨nb, 0, none⟩)]
/-- What stands while blocks are entered: the boxes that are captured, the blocks, their lists. -/
structure WkC (w1 : World) (gb eb xb nb rb base bb cap ob : Nat) (L : List Op5) (B : Nat → Bool) (k : Nat) (nv cv : Nat → Value) (cl : Nat → List Nat) : Prop where
  gbx : ∃ cs, BX w1 gb cs 56
  ebx : BX w1 eb #[.slice (some ⟨rb, 0, none⟩) k k] 51
  xbx : BX w1 xb #[.pointer (some ⟨gb, 0, none⟩)] 29
  nbx : BX w1 nb #[enF eb xb nb] 92
  row : ∃ xs, w1.ownsRow base 4 1 (.slice (some ⟨rb, 0, none⟩) k k) k xs
  bl : w1.ownsRow base 36 4 (.slice (some ⟨bb, 0, none⟩) k cap) k ((List.range k).flatMap (Cf.bkV B L.length nv cv))
  nx : ∀ x, x < k → w1.ownsRow base 3 1 (nv x) (Cf.nxs L B x).length (natVals (Cf.nxs L B x))
  ca : ∀ x, x < k → w1.ownsRow base 3 1 (cv x) (cl x).length (natVals (cl x))
  lo : base ≤ gb
  hb : base ≤ w1.heap.size
/-- Where it stands: who was entered, who was left. -/
structure WkI (w1 : World) (gb rb base bb cap ob n k : Nat) (en lf : List Nat) (ov : Value) (W : World) : Prop where
  box : BX W gb #[.slice (some ⟨bb, 0, none⟩) k cap, .slice (some ⟨ob, 0, none⟩) n n, ov, Nil, Nil, Nil] 56
  ord : W.ownsRow w1.heap.size 3 1 ov lf.length (natVals lf)
  row : W.ownsRow base 4 1 (.slice (some ⟨rb, 0, none⟩) k k) k (bvals (fun i => decide (i ∈ en)) k)
  ch : Chg (fun i => i = gb ∨ i = rb) w1 W
def edg (L : List Op5) (B : Nat → Bool) (cl : Nat → List Nat) (b : Nat) : List Nat := Cf.nxs L B b ++ cl b
section
variable {w1 W W' : World} {gb eb xb nb rb base bb cap ob n k : Nat} {L : List Op5} {B : Nat → Bool} {nv cv : Nat → Value} {cl : Nat → List Nat} {en lf : List Nat} {ov : Value}
theorem WkI.below (h : WkI w1 gb rb base bb cap ob n k en lf ov W) (hb : Below W.heap.size W W') : WkI w1 gb rb base bb cap ob n k en lf ov W' :=
  ⟨h.box.below hb, Kit.owns_below h.ord hb (Nat.le_refl _), Kit.owns_below h.row hb (Nat.le_refl _), h.ch.below hb⟩
/-- What has been there stays. -/
theorem WkC.boxes (c : WkC w1 gb eb xb nb rb base bb cap ob L B k nv cv cl) (hc : Chg (fun i => i = gb ∨ i = rb) w1 W) : W.cell? ⟨eb, 0, none⟩ = some (.slice (some ⟨rb, 0, none⟩) k k) ∧ W.cell? ⟨xb, 0, none⟩ = some (.pointer (some ⟨gb, 0, none⟩)) ∧ W.cell? ⟨nb, 0, none⟩ = some (enF eb xb nb) := by
  obtain ⟨cs, hg⟩ := c.gbx
  obtain ⟨xs, hr⟩ := c.row
  refine ⟨(c.ebx.chg hc ?_).cell 0, (c.xbx.chg hc ?_).cell 0, (c.nbx.chg hc ?_).cell 0⟩
  · rintro (e | e)
    · exact bx_ne c.ebx hg (by decide) e
    · exact own_unlike_box hr c.ebx (by decide) (by rw [e]; rfl)
  · rintro (e | e)
    · exact bx_ne c.xbx hg (by decide) e
    · exact own_unlike_box hr c.xbx (by decide) (by rw [e]; rfl)
  · rintro (e | e)
    · exact bx_ne c.nbx hg (by decide) e
    · exact own_unlike_box hr c.nbx (by decide) (by rw [e]; rfl)
theorem WkC.keep (c : WkC w1 gb eb xb nb rb base bb cap ob L B k nv cv cl) (hc : Chg (fun i => i = gb ∨ i = rb) w1 W) {b : Nat} {e : TypeId} {s m : Nat} {v : Value} {xs : List Value} (h : w1.ownsRow b e s v m xs) (h1 : e ≠ 56) (h2 : e ≠ 4) : W.ownsRow b e s v m xs := by
  obtain ⟨cs, hg⟩ := c.gbx
  obtain ⟨ys, hr⟩ := c.row
  refine owns_chg h hc fun j e1 => ?_
  rintro (rfl | rfl)
  · exact own_unlike_box h hg h1 e1
  · exact own_unlike h hr h2 j e1 rfl
/-- The cells of a block. -/
theorem WkC.at (c : WkC w1 gb eb xb nb rb base bb cap ob L B k nv cv cl) (hc : Chg (fun i => i = gb ∨ i = rb) w1 W) {b : Nat} (hb : b < k) : bb < w1.heap.size ∧ W.cell? ⟨bb, b * 4 + 2, none⟩ = some (nv b) ∧ W.cell? ⟨bb, b * 4 + 3, none⟩ = some (cv b) := by
  have h := c.keep hc c.bl (by decide) (by decide)
  have hl := Kit.own_lt c.bl bb rfl
  have hl2 := h.1
  rcases h.2 with ⟨e, -⟩ | ⟨g, cap', cur, e, hg, hh, hc1, hc2, hc3, ht⟩
  · cases e
  · obtain ⟨e1, -, rfl⟩ := Value.slice.inj e
    obtain rfl : bb = g := by simpa using e1
    have hat : ∀ i u, i < 4 → (Cf.bkV B L.length nv cv b)[i]? = some u → W.cell? ⟨bb, b * 4 + i, none⟩ = some u := fun i u hi hu => by
      have hx := (Kit.flat_at (Cf.bkV_len B L.length nv cv) (List.getElem?_range hb) i hi).trans hu
      rw [← ht, List.getElem?_take_of_lt (by have : b * 4 + 4 ≤ k * 4 := (by omega); omega)] at hx
      have : cur[b * 4 + i]? = some u := by simpa using hx
      simp [World.cell?, hh, this]
    exact ⟨hl, hat 2 _ (by omega) rfl, hat 3 _ (by omega) rfl⟩
/-- A block is entered. -/
theorem WkI.enter (c : WkC w1 gb eb xb nb rb base bb cap ob L B k nv cv cl) (h : WkI w1 gb rb base bb cap ob n k en lf ov W) (b : Nat) : WkI w1 gb rb base bb cap ob n k (b :: en) lf ov (W.setCell ⟨rb, b, none⟩ (.bool true)) := by
  have hc : Chg (fun i => i = rb) W (W.setCell ⟨rb, b, none⟩ (.bool true)) := (Chg.refl (fun i => i = rb) W).set (p := ⟨rb, b, none⟩) (.inl rfl) _
  refine ⟨h.box.chg hc (fun e => own_unlike_box h.row h.box (by decide) (by rw [e]; rfl)), owns_chg h.ord hc (fun j e e2 => own_unlike h.ord h.row (by decide) j e (by rw [e2]; rfl)), owns_set1 h.row b _ (bvals_set fun i _ => ?_), h.ch.trans hc (fun i e => .inl (.inr e))⟩
  by_cases e : i = b
  · simp [e]
  · simp [e]
/-- A block is left. -/
theorem WkI.leave {W2 w3 : World} {v2 : Value} {b : Nat} (c : WkC w1 gb eb xb nb rb base bb cap ob L B k nv cv cl) (h : WkI w1 gb rb base bb cap ob n k en lf ov W) (hbl : Below W.heap.size W W2) (hg : W2.grownBy w3 ov.ownBlock) (ho : w3.ownsRow w1.heap.size 3 1 v2 (lf.length + 1) (natVals lf ++ [.int .i64 (b : Int)])) :
    w3.cell? ⟨gb, 2, none⟩ = some ov ∧ w3.frozen? ⟨gb, 2, none⟩ = false ∧ WkI w1 gb rb base bb cap ob n k en (lf ++ [b]) v2 (w3.setCell ⟨gb, 2, none⟩ v2) ∧ w3.cell? ⟨xb, 0, none⟩ = some (.pointer (some ⟨gb, 0, none⟩)) := by
  have hc3 : Chg (fun i => ov.ownBlock = some i) W w3 := (Chg.of_below hbl).grown hg (fun k e => .inl e)
  have bx3 := h.box.chg hc3 (own_unlike_box h.ord h.box (by decide))
  have hc4 : Chg (fun i => i = gb) w3 (w3.setCell ⟨gb, 2, none⟩ v2) := (Chg.refl (fun i => i = gb) w3).set (p := ⟨gb, 2, none⟩) (.inl rfl) v2
  have r3 := owns_chg h.row hc3 (fun j e e2 => own_unlike h.row h.ord (by decide) j e e2)
  refine ⟨bx3.cell 2, bx3.frozen 2, ⟨box_set bx3 2 v2, ?_, owns_chg r3 hc4 (fun j e e2 => own_unlike_box r3 bx3 (by decide) (e2 ▸ e)), ?_⟩, (c.boxes (h.ch.trans hc3 (fun i e => .inr (Kit.own_base h.ord i e)))).2.1⟩
  · rw [List.length_append, Kit.natVals_snoc]
    exact owns_chg ho hc4 (fun j e e2 => own_unlike_box ho bx3 (by decide) (e2 ▸ e))
  · exact (h.ch.trans hc3 (fun i e => .inr (Kit.own_base h.ord i e))).trans hc4 (fun i e => .inl (.inl e))
set_option maxRecDepth 100000
set_option maxHeartbeats 4000000
theorem enter_any (c : WkC w1 gb eb xb nb rb base bb cap ob L B k nv cv cl) (hE : ∀ b, b < k → ∀ t ∈ edg L B cl b, t < k) (hl : ∀ b, b < k → (cl b).length ≤ 1048576) (hk : k ≤ 1048576) : ∀ (m b : Nat) (en lf : List Nat) (ov : Value) (W : World), b < k → Cf.Ok k (en, lf) → k ≤ en.length + m → WkI w1 gb rb base bb cap ob n k en lf ov W →
    Calls Try.prog 49 #[.int .i64 (b : Int), .pointer (some ⟨eb, 0, none⟩), .pointer (some ⟨xb, 0, none⟩), .pointer (some ⟨nb, 0, none⟩)] W fun e w' => e = .returned (.tuple #[]) ∧ ∃ ov', WkI w1 gb rb base bb cap ob n k (Cf.vis (edg L B cl) m b (en, lf)).1 (Cf.vis (edg L B cl) m b (en, lf)).2 ov' w' := by
  have hin : ∀ (m b : Nat) (en lf : List Nat) (ov : Value) (W : World), b < k → b ∈ en → WkI w1 gb rb base bb cap ob n k en lf ov W →
      Calls Try.prog 49 #[.int .i64 (b : Int), .pointer (some ⟨eb, 0, none⟩), .pointer (some ⟨xb, 0, none⟩), .pointer (some ⟨nb, 0, none⟩)] W fun e w' => e = .returned (.tuple #[]) ∧ ∃ ov', WkI w1 gb rb base bb cap ob n k (Cf.vis (edg L B cl) m b (en, lf)).1 (Cf.vis (edg L B cl) m b (en, lf)).2 ov' w' := by
    intro m b en lf ov W hb hen h
    obtain ⟨e0, -, -⟩ := c.boxes h.ch
    obtain ⟨r0, -⟩ := own_cell h.row (bvals_at hb)
    have hd : decide (b ∈ en) = true := by simpa using hen
    rw [hd] at r0
    rw [Cf.vis_in (s := (en, lf)) hen]
    have HH := hid h
    clear h hen hd hl hE
    go_enter Try.func49, Try.ntmps49
    go_wp2
    refine bodyPost_ret (results_none rfl _ _ _) rfl ?_
    exact ⟨rfl, ov, HH.out⟩
  intro m
  induction m with
  | zero =>
    intro b en lf ov W hb ho hm h
    exact hin 0 b en lf ov W hb (Cf.full ho.nd ho.lt (by omega) hb) h
  | succ m ih =>
    intro b en lf ov W hb ho hm h
    by_cases hen : b ∈ en
    · exact hin (m + 1) b en lf ov W hb hen h
    · obtain ⟨i0, hi, hy0, hy1, hy2⟩ := info_parts infoI
      obtain ⟨e0, -, -⟩ := c.boxes h.ch
      obtain ⟨r0, r1⟩ := own_cell h.row (bvals_at hb)
      have hd : decide (b ∈ en) = false := by simpa using hen
      rw [hd] at r0
      have HI := hid (h.enter c b)
      have HC := hid c
      rw [Cf.vis_out (s := (en, lf)) hen]
      have hs' : Cf.Ok k (b :: en, lf) := ⟨List.nodup_cons.2 ⟨hen, ho.nd⟩, fun x hx => by
        rcases List.mem_cons.1 hx with rfl | hx
        · exact hb
        · exact ho.lt x hx, ho.lnd, fun x hx => List.mem_cons_of_mem _ (ho.lsub x hx)⟩
      have HV := hid (fun (T : List Nat) (hT : ∀ t ∈ T, t ∈ edg L B cl b) => Cf.visL_ok hE m T (b :: en, lf) hs' (fun t ht => hE b hb t (hT t ht)) (by simp only [List.length_cons]; omega))
      have HIH : Hid (∀ (t : Nat) (T : List Nat), (∀ t ∈ T, t ∈ edg L B cl b) → t < k → ∀ (ov : Value) (W : World), WkI w1 gb rb base bb cap ob n k (Cf.visL (edg L B cl) m T (b :: en, lf)).1 (Cf.visL (edg L B cl) m T (b :: en, lf)).2 ov W → Calls Try.prog 49 #[.int .i64 (t : Int), .pointer (some ⟨eb, 0, none⟩), .pointer (some ⟨xb, 0, none⟩), .pointer (some ⟨nb, 0, none⟩)] W fun e w' => e = .returned (.tuple #[]) ∧ ∃ ov', WkI w1 gb rb base bb cap ob n k (Cf.visL (edg L B cl) m (T ++ [t]) (b :: en, lf)).1 (Cf.visL (edg L B cl) m (T ++ [t]) (b :: en, lf)).2 ov' w') := by
        intro t T hT ht ov W hw
        rw [Cf.visL_snoc]
        have hv := HV.out T hT
        obtain ⟨⟨s1, s2⟩, hs⟩ : ∃ s, Cf.visL (edg L B cl) m T (b :: en, lf) = s := ⟨_, rfl⟩
        rw [hs] at hv hw ⊢
        have hlen := hv.len hs'
        simp only [List.length_cons] at hlen
        exact ih t s1 s2 ov W ht hv.ok (by omega) hw
      have HEk := hid (hE b hb)
      have hlb := hl b hb
      have hnl := Cf.nxs_len L B b
      have eg := enters_of Try.func49 (by kernel_rfl) rfl
      clear h hen hd hl hE ih hin hs' ho hm c
      go_enter Try.func49, Try.ntmps49
      go_upto_region 2 with fail
      refine region_named fun W1 hW1 => ?_
      rw [← hW1] at HI
      clear hW1 r0 r1 e0
      obtain ⟨-, x0, -⟩ := HC.out.boxes HI.out.ch
      obtain ⟨-, c2, -⟩ := HC.out.at HI.out.ch hb
      have g0 : W1.cell? ⟨gb, 0, none⟩ = some (.slice (some ⟨bb, 0, none⟩) k cap) := HI.out.box.cell 0
      obtain ⟨na, nc, hnv⟩ := own_form (HC.out.nx b hb)
      rw [hnv] at c2
      have HNV := hid hnv
      obtain ⟨nl, hnl2⟩ : ∃ nl, (Cf.nxs L B b).length = nl := ⟨_, rfl⟩
      have HNL := hid hnl2
      rw [hnl2] at c2 HNV hnl
      clear hnv hnl2
      go_wp2
      go_loopw [25] (fun v wr => ∃ (j : Nat) (ov : Value), v = .int .i64 (j : Int) ∧ j ≤ nl ∧ Hid (WkI w1 gb rb base bb cap ob n k (Cf.visL (edg L B cl) m ((Cf.nxs L B b).take j) (b :: en, lf)).1 (Cf.visL (edg L B cl) m ((Cf.nxs L B b).take j) (b :: en, lf)).2 ov wr)) (fun v _ => nl - (intOf v).toNat)
      case atStart => exact ⟨0, ov, rfl, by omega, by rw [List.take_zero]; exact HI⟩
      case round =>
        clear HI x0 c2 g0
        obtain ⟨j, ov, rfl, hj, HI⟩ := hrel
        obtain ⟨-, x0, n0⟩ := HC.out.boxes HI.out.ch
        by_cases hlt : j < nl
        · obtain ⟨t, ht⟩ : ∃ t, (Cf.nxs L B b)[j]? = some t := ⟨_, List.getElem?_eq_getElem (by rw [HNL.out]; exact hlt)⟩
          have hrow := HC.out.keep HI.out.ch (HC.out.nx b hb) (by decide) (by decide)
          rw [HNV.out, HNL.out] at hrow
          obtain ⟨qb, qc, hqv, hqb, hqc⟩ := own_at0 hrow (by omega)
          obtain ⟨rfl, -, rfl⟩ := Value.slice.inj hqv
          have q0 := (hqc j _ (Kit.natVals_at ht)).1
          have htk := HEk.out t (List.mem_append_left _ (List.mem_of_getElem? ht))
          have HCall := hid (HIH.out t ((Cf.nxs L B b).take j) (fun u hu => List.mem_append_left _ (List.mem_of_mem_take hu)) htk ov wr HI.out)
          rw [← show (Cf.nxs L B b).take (j + 1) = (Cf.nxs L B b).take j ++ [t] by rw [List.take_add_one, ht]; rfl] at HCall
          unfold enF at n0
          clear hrow hqv hqc ht
          go_wp2_with (go_at_call 49; go_loud (refine HCall.out.mono ?_; rintro e w5 ⟨rfl, ov5, h5⟩; have H5 := hid h5; clear h5))
          go_roundw
          case rel => exact ⟨j + 1, ov5, by go_num, by omega, H5⟩
          case measure => simp [intOf]; omega
        · obtain rfl : j = nl := by omega
          have HI0 : Hid (WkI w1 gb rb base bb cap ob n k (Cf.visL (edg L B cl) m (Cf.nxs L B b ++ (cl b).take 0) (b :: en, lf)).1 (Cf.visL (edg L B cl) m (Cf.nxs L B b ++ (cl b).take 0) (b :: en, lf)).2 ov wr) := by
            have e := HI.out
            rw [List.take_of_length_le (by rw [HNL.out]; exact Nat.le_refl _)] at e
            rw [List.take_zero, List.append_nil]
            exact e
          obtain ⟨-, -, c3⟩ := HC.out.at HI.out.ch hb
          have g0 : wr.cell? ⟨gb, 0, none⟩ = some (.slice (some ⟨bb, 0, none⟩) k cap) := HI.out.box.cell 0
          obtain ⟨ca, cc, hcv⟩ := own_form (HC.out.ca b hb)
          rw [hcv] at c3
          have HCV := hid hcv
          obtain ⟨cn, hcn⟩ : ∃ cn, (cl b).length = cn := ⟨_, rfl⟩
          have HCN := hid hcn
          rw [hcn] at c3 HCV hlb
          clear hcv hcn HI
          obtain ⟨wo, rfl⟩ : ∃ wo : World, wo = wr := ⟨_, rfl⟩
          go_wp2
          go_loopw [42] (fun v wr => ∃ (j : Nat) (ov : Value), v = .int .i64 (j : Int) ∧ j ≤ cn ∧ Hid (WkI w1 gb rb base bb cap ob n k (Cf.visL (edg L B cl) m (Cf.nxs L B b ++ (cl b).take j) (b :: en, lf)).1 (Cf.visL (edg L B cl) m (Cf.nxs L B b ++ (cl b).take j) (b :: en, lf)).2 ov wr)) (fun v _ => cn - (intOf v).toNat)
          case atStart => exact ⟨0, ov, rfl, by omega, HI0⟩
          case round =>
            clear HI0 x0 n0 c3 g0
            obtain ⟨j, ov, rfl, hj, HI⟩ := hrel
            obtain ⟨-, x0, n0⟩ := HC.out.boxes HI.out.ch
            by_cases hlt : j < cn
            · obtain ⟨t, ht⟩ : ∃ t, (cl b)[j]? = some t := ⟨_, List.getElem?_eq_getElem (by rw [HCN.out]; exact hlt)⟩
              have hrow := HC.out.keep HI.out.ch (HC.out.ca b hb) (by decide) (by decide)
              rw [HCV.out, HCN.out] at hrow
              obtain ⟨qb, qc, hqv, hqb, hqc⟩ := own_at0 hrow (by omega)
              obtain ⟨rfl, -, rfl⟩ := Value.slice.inj hqv
              have q0 := (hqc j _ (Kit.natVals_at ht)).1
              have htk := HEk.out t (List.mem_append_right _ (List.mem_of_getElem? ht))
              have HCall := hid (HIH.out t (Cf.nxs L B b ++ (cl b).take j) (fun u hu => by
                rcases List.mem_append.1 hu with hu | hu
                · exact List.mem_append_left _ hu
                · exact List.mem_append_right _ (List.mem_of_mem_take hu)) htk ov wr HI.out)
              rw [List.append_assoc, ← show (cl b).take (j + 1) = (cl b).take j ++ [t] by rw [List.take_add_one, ht]; rfl] at HCall
              unfold enF at n0
              clear hrow hqv hqc ht
              go_wp2_with (go_at_call 49; refine HCall.out.mono ?_; rintro e w5 ⟨rfl, ov5, h5⟩; have H5 := hid h5; clear h5)
              go_roundw
              case rel => exact ⟨j + 1, ov5, by go_num, by omega, H5⟩
              case measure => simp [intOf]; omega
            · obtain rfl : j = cn := by omega
              have HF : Hid (WkI w1 gb rb base bb cap ob n k (Cf.visL (edg L B cl) m (edg L B cl b) (b :: en, lf)).1 (Cf.visL (edg L B cl) m (edg L B cl b) (b :: en, lf)).2 ov wr) := by
                have e := HI.out
                rw [List.take_of_length_le (by rw [HCN.out]; exact Nat.le_refl _)] at e
                exact e
              have hok := (HV.out _ (fun t ht => ht)).ok
              obtain ⟨⟨s1, s2⟩, hs⟩ : ∃ s, Cf.visL (edg L B cl) m (edg L B cl b) (b :: en, lf) = s := ⟨_, rfl⟩
              have HSQ := hid hs
              rw [hs] at HF hok
              dsimp only at HF
              have hs2 : s2.length ≤ k := Nat.le_trans (Cf.len_le hok.lnd (b := List.range k) (fun x hx => List.mem_range.2 (hok.lt x (hok.lsub x hx)))) (by simp)
              have g2 : wr.cell? ⟨gb, 2, none⟩ = some ov := HF.out.box.cell 2
              have hgs : gb < wr.heap.size := HF.out.box.sz
              obtain ⟨oa, oc, rfl⟩ := own_form HF.out.ord
              have HOw := hid (fun X (hb : Below wr.heap.size wr X) => Kit.owns_below HF.out.ord hb (Nat.le_refl _))
              have hws := HF.out.ch.size
              have hxs : xb < wr.heap.size := Nat.lt_of_lt_of_le HC.out.xbx.sz hws
              clear HI hs hok n0
              go_wp2
              go_region_law (refine Kit.step_append_own rfl (.tmp 54) (.tmp 56) 34 rfl w1.heap.size 3 i0 _ 1 8 Try.underlying34 hi hy0 hy1 hy2 rfl (by decide) (.slice oa s2.length oc) s2.length _ rfl (HOw.out _ (by repeat' first | with_reducible exact Below.refl _ _ | with_reducible assumption | with_reducible refine belows_drewN ?_ _ | with_reducible refine Below.drew ?_ | with_reducible refine Below.setCell ?_ ?_ _ | with_reducible refine Below.alloc ?_ ?_ _ | omega | (simp; done) | (simp; omega))) ⟨wr.heap.size, 0, none⟩ 1 1 [.int .i64 (b : Int)] rfl rfl (by intro j u hj; exact Kit.news_one _ _ 3 j u hj) (Kit.ones_one rfl) (by unfold maxLen; omega) (by omega) (by first | omega | (simp; omega)) ?_; intro v2 w3 ho3 hg3 hk3; obtain ⟨d0, d1, hN, d2⟩ := HF.out.leave HC.out (by repeat' first | with_reducible exact Below.refl _ _ | with_reducible assumption | with_reducible refine belows_drewN ?_ _ | with_reducible refine Below.drew ?_ | with_reducible refine Below.setCell ?_ ?_ _ | with_reducible refine Below.alloc ?_ ?_ _ | omega | (simp; done) | (simp; omega)) hg3 ho3; have HN := hid hN; obtain ⟨b2, q2, rfl⟩ := own_form ho3; clear ho3 hg3 hk3 hN)
              all_goals
                go_wp2
                refine bodyPost_end (results_none rfl _ _ _) rfl ?_
                refine ⟨rfl, .slice b2 (s2.length + 1) q2, ?_⟩
                rw [HSQ.out]
                exact HN.out
end
end Go.Proofs.Ytdodobpbdnpjiaa
namespace Go.Proofs.Ytdodobpbdnpjiaa
open Go Go.RowKit
open Kit (natVals)

/-- Cells that are numbers. -/
def IntL (cur : List Value) : Prop := ∀ u ∈ cur, ∃ x : Int, u = .int .i64 x
theorem IntL.one {cur : List Value} (h : IntL cur) : ∀ u ∈ cur, u.oneCell' = true := fun u hu => by obtain ⟨x, rfl⟩ := h u hu; rfl
theorem IntL.splice {L cs : List Value} (h : IntL L) (hc : IntL cs) (o : Nat) : IntL (splice L o cs) := by
  intro u hu
  unfold Go.splice at hu
  rcases List.mem_append.1 hu with h1 | h1
  · exact h u (List.mem_of_mem_take h1)
  · rcases List.mem_append.1 h1 with h2 | h2
    · exact hc u h2
    · exact h u (List.mem_of_mem_drop h2)
set_option maxRecDepth 100000
set_option maxHeartbeats 2000000
theorem repeat_any {sb : Nat} {c : Int} {k : Nat} {w : World} (h : w.cell? ⟨sb, 0, none⟩ = some (.int .i64 c)) (hk : k ≤ 1048576) :
    Calls Try.prog 51 #[.slice (some ⟨sb, 0, none⟩) 1 1, .int .i64 (k : Int)] w fun e w' => e = .returned (.slice (some ⟨w.heap.size, 0, none⟩) k k) ∧ ∃ cur, w'.ownsRow w.heap.size 3 1 (.slice (some ⟨w.heap.size, 0, none⟩) k k) k cur ∧ IntL cur ∧ Below w.heap.size w w' := by
  have hmk := fun W => run_make_row' (P := Try.prog) 34 3 (.int .i64 0) 8 (by kernel_rfl) (by kernel_rfl) rfl .i64 .i64 k (by omega) (by omega) W
  have hM := fun W => Sh.bits_Mul 1 k (by omega) (by omega) W
  rw [show 1 * k / 18446744073709551616 = 0 by omega, show 1 * k % 18446744073709551616 = k by omega] at hM
  have HM := hid hM
  have hkw : (k : Int) % 18446744073709551616 = (k : Int) := by omega
  have hsb := World.block_lt_of_cell? w _ h
  have hsz1 : (Try.prog.info? 3).map (·.size) = some 1 := by kernel_rfl
  clear hM
  have hrow : ∀ (W : World) (g : Nat) (cur : List Value), W.heap[g]? = some (.cells cur.toArray 3 (0, 0)) → ∀ j v, cur[j]? = some v → W.cell? ((⟨g, 0, none⟩ : Addr).add j) = some v := by
    intro W g cur hh j v hv
    rw [Go.WideShapes.add_plain, Nat.zero_add]
    simp [World.cell?, hh, hv]
  have hmade : ∀ W : World, (W.alloc (.cells (madeCells #[.int .i64 0] k) 3)).heap[W.heap.size]? = some (.cells (List.replicate k (.int .i64 0)).toArray 3 (0, 0)) := by
    intro W
    have e : madeCells #[.int .i64 0] k = (List.replicate k (.int .i64 0 : Value)).toArray := by
      rw [← toList_madeCells_one]
    rw [e]
    exact heap_alloc_new W _
  have hown : ∀ (W : World) (cur : List Value), cur.length = k → W.heap[w.heap.size]? = some (.cells cur.toArray 3 (0, 0)) → W.ownsRow w.heap.size 3 1 (.slice (some ⟨w.heap.size, 0, none⟩) k k) k cur := by
    intro W cur hl hh
    exact ⟨by omega, .inr ⟨w.heap.size, k, cur.toArray, rfl, Nat.le_refl _, hh, Nat.le_refl _, by unfold maxLen; omega, by simp [hl], by rw [Nat.mul_one, ← hl]; simp⟩⟩
  have HRow := hid hrow
  have HMade := hid hmade
  have HOwn := hid hown
  clear hrow hmade hown
  have hzero : IntL (List.replicate k (.int .i64 0)) := fun u hu => ⟨0, (List.mem_replicate.1 hu).2⟩
  have HZ := hid hzero
  clear hzero
  have HSrc : Hid (∀ (o : Obj) (j : Nat) (v : Value), [Value.int .i64 c][j]? = some v → (w.alloc o).cell? ((⟨sb, 0, none⟩ : Addr).add j) = some v) := by
    intro o j v hv
    match j, hv with
    | 0, hv =>
      simp at hv
      subst hv
      show (w.alloc o).cell? ⟨sb, 0, none⟩ = _
      rw [World.cell?_alloc_lt _ _ _ (by simpa using hsb)]
      exact h
    | j + 1, hv => simp at hv
  obtain ⟨w4, c1, cur0, hcp, HG4, HB4, HC1, HL4, HI4⟩ : ∃ (w4 : World) (c1 : Nat) (cur0 : List Value), (Builtin.copy_ #[34, 34] 3 #[.slice (some ⟨w.heap.size, 0, none⟩) k k, .slice (some ⟨sb, 0, none⟩) 1 1]).run Try.prog (w.alloc (.cells (madeCells #[.int .i64 0] k) 3)) = .ok (.int .i64 (c1 : Int)) w4 ∧ Hid (w4.heap[w.heap.size]? = some (.cells cur0.toArray 3 (0, 0))) ∧ Hid (Below w.heap.size w w4) ∧ Hid (c1 ≤ k ∧ (k = 0 ∨ 1 ≤ c1)) ∧ Hid (cur0.length = k) ∧ Hid (IntL cur0) := by
    by_cases hk0 : k = 0
    · exact ⟨_, 0, _, run_copy_none (P := Try.prog) _ _ _ _ 3 _ _ k k 1 1 Try.underlying34 hsz1 (by rw [hk0]; rfl), HMade.out w, (Below.refl _ _).alloc (Nat.le_refl _) _, ⟨by omega, .inl hk0⟩, (show _ = _ by simp), HZ.out⟩
    · have hr := run_copy_row (P := Try.prog) (w.alloc (.cells (madeCells #[.int .i64 0] k) 3)) 34 34 3 3 w.heap.size 0 k k ⟨sb, 0, none⟩ 1 1 (List.replicate k (.int .i64 0)).toArray 3 [.int .i64 c] Try.underlying34 hsz1 (HMade.out w) (by show 1 = min 1 k; omega) (HSrc.out _) (by simp; omega) (fun v hv => by simp at hv; rw [hv]; rfl)
      refine ⟨_, 1, splice (List.replicate k (.int .i64 0)) 0 [.int .i64 c], hr, ?_, below_setRow ((Below.refl _ _).alloc (Nat.le_refl _) _) (Nat.le_refl _) _, ⟨by omega, .inr (by omega)⟩, ?_, HZ.out.splice (fun u hu => by simp at hu; exact ⟨c, hu⟩) 0⟩
      · show _ = _
        simpa [splice] using setRow_heap _ _ _ _ _ _ (HMade.out w)
      · show _ = _
        rw [length_splice _ _ _ (by simp; omega)]; simp
  have hd1 : decide ((k : Int) < 0) = false := by simp
  have hd2 : decide (9223372036854775807 < (k : Int)) = false := by simp; omega
  clear HSrc h HZ
  go_enter Try.func51, Try.ntmps51
  go_wp2_with (go_at_call 60; refine (HM.out _).mono ?_; rintro e w1 ⟨rfl, rfl⟩)
  go_loopw [8] (fun v wr => ∃ (m : Nat) (cur : List Value), v = .int .i64 (m : Int) ∧ m ≤ k ∧ Hid (k = 0 ∨ 1 ≤ m) ∧ Hid (cur.length = k) ∧ Hid (IntL cur) ∧ Hid (wr.heap[w1.heap.size]? = some (.cells cur.toArray 3 (0, 0))) ∧ Hid (Below w1.heap.size w1 wr)) (fun v _ => k - (intOf v).toNat)
  case atStart => exact ⟨c1, cur0, rfl, HC1.out.1, HC1.out.2, HL4, HI4, HG4, HB4⟩
  case round =>
    clear HG4 HB4 HL4 HI4 hcp
    obtain ⟨m, cur, rfl, hmk, Hm1, HL, HI, HG, HB⟩ := hrel
    by_cases hlt : m < k
    · have hm1 : 1 ≤ m := by rcases Hm1.out with h | h <;> omega
      obtain ⟨cs, hcs⟩ : ∃ cs, cs = cur.take (min m (k - m)) := ⟨_, rfl⟩
      have hcl : cs.length = min m (k - m) := by rw [hcs, List.length_take, HL.out]; omega
      have HCI : Hid (IntL cs) := by rw [hcs]; exact fun u hu => HI.out u (List.mem_of_mem_take hu)
      have hCS : ∀ j v, cs[j]? = some v → cur[j]? = some v := fun j v hv => by
        rw [hcs, List.getElem?_take] at hv
        split at hv
        · exact hv
        · cases hv
      have hkm : ¬ k = m := by omega
      obtain ⟨w5, hcp, HG5, HB5⟩ : ∃ w5, (Builtin.copy_ #[34, 34] 3 #[.slice (some ⟨w1.heap.size, m, none⟩) (k - m) (k - m), .slice (some ⟨w1.heap.size, 0, none⟩) m k]).run Try.prog wr.drew = .ok (.int .i64 (cs.length : Int)) w5 ∧ Hid (w5.heap[w1.heap.size]? = some (.cells (splice cur m cs).toArray 3 (0, 0))) ∧ Hid (Below w1.heap.size w1 w5) := by
        have hr := run_copy_row (P := Try.prog) wr.drew 34 34 3 3 w1.heap.size m (k - m) (k - m) ⟨w1.heap.size, 0, none⟩ m k cur.toArray 3 cs Try.underlying34 hsz1 HG.out (by first | exact hcl | (rw [hcl]; rfl)) (fun j v hv => HRow.out wr _ _ HG.out j v (hCS j v hv)) (by rw [hcl]; first | (simp [HL.out]; done) | (simp [HL.out]; omega)) HCI.out.one
        refine ⟨_, hr, ?_, below_setRow (Below.drew HB.out) (Nat.le_refl _) _⟩
        show _ = _
        simpa [splice] using setRow_heap _ _ _ _ _ _ (show wr.drew.heap[w1.heap.size]? = _ from HG.out)
      have HL5 : Hid ((splice cur m cs).length = k) := by show _ = _; rw [length_splice _ _ _ (by rw [hcl, HL.out]; omega)]; exact HL.out
      obtain ⟨l, hl⟩ : ∃ l, cs.length = l := ⟨_, rfl⟩
      rw [hl] at hcp hcl
      have HIS := hid (HI.out.splice HCI.out m)
      clear hcs hCS hl
      go_wp2
      go_region
      go_wp2
      go_roundw
      case rel => exact ⟨m + l, _, by go_num, by omega, .inr (by omega), HL5, HIS, HG5, HB5⟩
      case measure => simp [intOf]; omega
    · obtain rfl : m = k := by omega
      go_wp2
      go_ret
      exact ⟨rfl, cur, HOwn.out _ cur HL.out HG.out, HI.out, HB.out⟩
end Go.Proofs.Ytdodobpbdnpjiaa
namespace Go.Proofs.Ytdodobpbdnpjiaa
open Go Go.RowKit
open Kit (natVals)
open Cf (Op5 Ca opL caL)

theorem rev_any {w : World} {base : Nat} {v : Value} {l : List Nat} (h : w.ownsRow base 3 1 v l.length (natVals l)) (hl : l.length ≤ 4294967296) :
    Calls Try.prog 50 #[v] w fun e w' => e = .returned (.tuple #[]) ∧ w'.ownsRow base 3 1 v l.length (natVals l.reverse) ∧ Chg (fun i => v.ownBlock = some i) w w' := by
  rcases h.2 with ⟨rfl, h0⟩ | ⟨g, cap, cur, rfl, hg, hh, -⟩
  · obtain rfl : l = [] := List.length_eq_zero_iff.1 h0
    refine (Sh.slices_Reverse_int_empty none 0 w).mono ?_
    rintro e w' ⟨rfl, rfl⟩
    exact ⟨rfl, h, Chg.refl _ _⟩
  · have hc := Sh.slices_Reverse_int g 0 cap (Cf.casts l) w (holds_nats h) (by rw [Cf.casts_len]; omega)
    rw [Cf.casts_len] at hc
    refine hc.mono ?_
    rintro e w' ⟨rfl, n, rfl⟩
    have h1 := sortW_own (Value.int .i64) h n (Cf.casts l).reverse.toArray #[] (by simp [Cf.casts_len])
    have h2 := sortW_chg (Value.int .i64) (w := w) (blk := g) n (Cf.casts l).reverse.toArray #[]
    have e0 : sortWorld (Value.int .i64) w g 0 n (Cf.casts l).reverse.toArray #[] = Sort.putRow (Value.int .i64) (Sort.ahead w n) g 0 (Cf.casts l).reverse.toArray := by unfold sortWorld; rw [Sort.grow_empty]
    rw [e0] at h1 h2
    rw [show (((Cf.casts l).reverse.toArray).toList.map (Value.int .i64)) = natVals l.reverse by rw [← Cf.casts_vals]; unfold Cf.casts; simp] at h1
    exact ⟨rfl, h1, h2.mono (fun i _ e => by rw [e]; rfl)⟩
/-- Where walk stands behind the entering. -/
structure WkT (w1 : World) (gb rb base bb cap ob n k m : Nat) (O : List Nat) (ov sv : Value) (cur : List Value) (W : World) : Prop where
  box : BX W gb #[.slice (some ⟨bb, 0, none⟩) k cap, .slice (some ⟨ob, 0, none⟩) n n, ov, sv, Nil, Nil] 56
  ord : W.ownsRow w1.heap.size 3 1 ov O.length (natVals O)
  low : ∀ j, ov.ownBlock = some j → j < m
  spt : W.ownsRow m 3 1 sv k cur
  lm : w1.heap.size ≤ m
  ch : Chg (fun i => i = gb ∨ i = rb) w1 W
theorem WkT.set {w1 W : World} {gb rb base bb cap ob n k m s c : Nat} {O : List Nat} {ov : Value} {cur : List Value} (h : WkT w1 gb rb base bb cap ob n k m O ov (.slice (some ⟨s, 0, none⟩) k c) cur W) (x : Nat) (u : Value) : WkT w1 gb rb base bb cap ob n k m O ov (.slice (some ⟨s, 0, none⟩) k c) (cur.set x u) (W.setCell ⟨s, x, none⟩ u) := by
  have hc : Chg (fun i => i = s) W (W.setCell ⟨s, x, none⟩ u) := (Chg.refl (fun i => i = s) W).set (p := ⟨s, x, none⟩) (.inl rfl) u
  have hms := Kit.own_base h.spt s rfl
  refine ⟨h.box.chg hc (fun e => own_unlike_box h.spt h.box (by decide) (by rw [e]; rfl)), owns_chg h.ord hc (fun j e e2 => by have := h.low j e; omega), h.low, owns_set1 h.spt x u rfl, h.lm, h.ch.trans hc (fun i e => .inr (by have := h.lm; omega))⟩
theorem WkI.rep {w1 wc w6 w7 : World} {gb eb xb nb rb base bb cap ob n k : Nat} {L : List Op5} {B : Nat → Bool} {nv cv : Nat → Value} {cl : Nat → List Nat} {en lf O : List Nat} {ov sv : Value} {cur : List Value} (c : WkC w1 gb eb xb nb rb base bb cap ob L B k nv cv cl) (h : WkI w1 gb rb base bb cap ob n k en lf ov wc) (hO : O = lf.reverse)
    (h6 : w6.ownsRow w1.heap.size 3 1 ov lf.length (natVals lf.reverse)) (c6 : Chg (fun i => ov.ownBlock = some i) wc w6) {m : Nat} (hm : w6.heap.size ≤ m) (h7 : w7.ownsRow m 3 1 sv k cur) (hb67 : Below w6.heap.size w6 w7) :
    w7.cell? ⟨xb, 0, none⟩ = some (.pointer (some ⟨gb, 0, none⟩)) ∧ w7.cell? ⟨gb, 0, none⟩ = some (.slice (some ⟨bb, 0, none⟩) k cap) ∧ w7.cell? ⟨gb, 3, none⟩ = some Nil ∧ w7.frozen? ⟨gb, 3, none⟩ = false ∧ WkT w1 gb rb base bb cap ob n k w6.heap.size O ov sv cur (w7.setCell ⟨gb, 3, none⟩ sv) := by
  have c7 : Chg (fun i => i = gb ∨ i = rb) w1 w7 := (h.ch.trans c6 (fun i e => .inr (Kit.own_base h.ord i e))).below hb67
  have bx7 := (h.box.chg c6 (own_unlike_box h.ord h.box (by decide))).below hb67
  have hc8 : Chg (fun i => i = gb) w7 (w7.setCell ⟨gb, 3, none⟩ sv) := (Chg.refl (fun i => i = gb) w7).set (p := ⟨gb, 3, none⟩) (.inl rfl) sv
  have o7 := Kit.owns_below h6 hb67 (Nat.le_refl _)
  refine ⟨(c.boxes c7).2.1, bx7.cell 0, bx7.cell 3, bx7.frozen 3, ⟨box_set bx7 3 sv, ?_, fun j e => Kit.own_lt h6 j e, ?_, Nat.le_trans h.ch.size c6.size, c7.trans hc8 (fun i e => .inl (.inl e))⟩⟩
  · rw [hO, List.length_reverse]
    exact owns_chg o7 hc8 (fun j e e2 => own_unlike_box o7 bx7 (by decide) (e2 ▸ e))
  · exact Kit.owns_mono (owns_chg h7 hc8 (fun j e e2 => own_unlike_box h7 bx7 (by decide) (e2 ▸ e))) hm
/-- A graph in memory: blocks, edges, order. -/
structure GO (W : World) (base gb bb cap ob : Nat) (L : List Op5) (B : Nat → Bool) (k : Nat) (nv cv : Nat → Value) (cl : Nat → List Nat) (O : List Nat) (ov sv pv kv : Value) (cur : List Value) : Prop where
  box : BX W gb #[.slice (some ⟨bb, 0, none⟩) k cap, .slice (some ⟨ob, 0, none⟩) L.length L.length, ov, sv, pv, kv] 56
  bl : W.ownsRow base 36 4 (.slice (some ⟨bb, 0, none⟩) k cap) k ((List.range k).flatMap (Cf.bkV B L.length nv cv))
  of : W.ownsRow base 3 1 (.slice (some ⟨ob, 0, none⟩) L.length L.length) L.length (ivals (Cf.ofN B) L.length)
  nx : ∀ x, x < k → W.ownsRow base 3 1 (nv x) (Cf.nxs L B x).length (natVals (Cf.nxs L B x))
  ca : ∀ x, x < k → W.ownsRow base 3 1 (cv x) (cl x).length (natVals (cl x))
  ord : W.ownsRow base 3 1 ov O.length (natVals O)
  spt : W.ownsRow base 3 1 sv k cur
  spi : ∀ (i x : Nat), O[i]? = some x → cur[x]? = some (Value.int .i64 (i : Int))
  lo : base ≤ gb
section
variable {base gb bb cap ob k : Nat} {L : List Op5} {B : Nat → Bool} {nv cv : Nat → Value} {cl : Nat → List Nat}
set_option maxRecDepth 100000
set_option maxHeartbeats 4000000
theorem walk_any {w : World} (h : GB w base gb bb cap ob L B k nv cv cl) (hE : ∀ b, b < k → ∀ t ∈ edg L B cl b, t < k) (hl : ∀ b, b < k → (cl b).length ≤ 1048576) (hk : k ≤ 1048576) :
    Calls Try.prog 25 #[.pointer (some ⟨gb, 0, none⟩)] w fun e w' => e = .returned (.tuple #[]) ∧ Below base w w' ∧ ∃ ov sv cur, GO w' base gb bb cap ob L B k nv cv cl (Cf.ord (edg L B cl) k) ov sv Nil Nil cur := by
  have hmk := fun W => run_make_row' (P := Try.prog) 51 4 (.bool false) 1 (by kernel_rfl) (by kernel_rfl) rfl .i64 .i64 k (by omega) (by omega) W
  obtain ⟨k0, -, -⟩ := h.gw.cells
  have hgs := h.gw.box.sz
  have hbw : base ≤ w.heap.size := Nat.le_trans h.gw.lo (Nat.le_of_lt hgs)
  obtain ⟨w1, hw1⟩ : ∃ w1, w1 = (((w.alloc (.cells #[.pointer (some ⟨gb, 0, none⟩)] 29)).alloc (.cells (madeCells #[.bool false] k) 4)).alloc (.cells #[.slice (some ⟨w.heap.size + 1, 0, none⟩) k k] 51)).alloc (.cells #[enF (w.heap.size + 1 + 1) w.heap.size (w.heap.size + 1 + 1 + 1)] 92) := ⟨_, rfl⟩
  have hb1 : Below w.heap.size w w1 := by rw [hw1]; exact (by repeat' first | with_reducible exact Below.refl _ _ | with_reducible assumption | with_reducible refine belows_drewN ?_ _ | with_reducible refine Below.drew ?_ | with_reducible refine Below.setCell ?_ ?_ _ | with_reducible refine Below.alloc ?_ ?_ _ | omega | (simp; done) | (simp; omega))
  have hs1 : w1.heap.size = w.heap.size + 4 := by rw [hw1]; simp
  have bx0 := ((((BX.new w #[.pointer (some ⟨gb, 0, none⟩)] 29).below ((Below.refl _ _).alloc (Nat.le_refl _) (.cells (madeCells #[.bool false] k) 4))).below ((Below.refl _ _).alloc (Nat.le_refl _) (.cells #[.slice (some ⟨w.heap.size + 1, 0, none⟩) k k] 51))).below ((Below.refl _ _).alloc (Nat.le_refl _) (.cells #[enF (w.heap.size + 1 + 1) w.heap.size (w.heap.size + 1 + 1 + 1)] 92)))
  have o1 := Kit.owns_below (Kit.owns_below (owns_made (base := base) (w.alloc (.cells #[.pointer (some ⟨gb, 0, none⟩)] 29)) (by simp; omega) (.bool false) k (by unfold maxLen; omega) 4) ((Below.refl _ _).alloc (Nat.le_refl _) (.cells #[.slice (some ⟨w.heap.size + 1, 0, none⟩) k k] 51)) (Nat.le_refl _)) ((Below.refl _ _).alloc (Nat.le_refl _) (.cells #[enF (w.heap.size + 1 + 1) w.heap.size (w.heap.size + 1 + 1 + 1)] 92)) (Nat.le_refl _)
  have bx2 := (BX.new ((w.alloc (.cells #[.pointer (some ⟨gb, 0, none⟩)] 29)).alloc (.cells (madeCells #[.bool false] k) 4)) #[.slice (some ⟨w.heap.size + 1, 0, none⟩) k k] 51).below ((Below.refl _ _).alloc (Nat.le_refl _) (.cells #[enF (w.heap.size + 1 + 1) w.heap.size (w.heap.size + 1 + 1 + 1)] 92))
  have bx3 := BX.new (((w.alloc (.cells #[.pointer (some ⟨gb, 0, none⟩)] 29)).alloc (.cells (madeCells #[.bool false] k) 4)).alloc (.cells #[.slice (some ⟨w.heap.size + 1, 0, none⟩) k k] 51)) #[enF (w.heap.size + 1 + 1) w.heap.size (w.heap.size + 1 + 1 + 1)] 92
  rw [← hw1] at bx0 bx2 bx3 o1
  simp only [World.size_alloc] at bx2 bx3 o1
  rw [← bvals_no] at o1
  have g1 := h.gw.below hb1
  have HC : Hid (WkC w1 gb (w.heap.size + 1 + 1) w.heap.size (w.heap.size + 1 + 1 + 1) (w.heap.size + 1) base bb cap ob L B k nv cv cl) :=
    ⟨⟨_, g1.box⟩, bx2, bx0, bx3, ⟨_, o1⟩, g1.bl, fun x hx => Kit.owns_below (h.nx x hx) hb1 (Nat.le_refl _), fun x hx => Kit.owns_below (h.ca x hx) hb1 (Nat.le_refl _), h.gw.lo, by omega⟩
  have HI : Hid (WkI w1 gb (w.heap.size + 1) base bb cap ob L.length k [] [] Nil w1) := ⟨g1.box, ⟨rfl, .inl ⟨rfl, rfl⟩⟩, by rw [bvals_same (g := fun _ => false) (fun i _ => by simp)]; exact o1, Chg.refl _ _⟩
  have hst : (store ⟨w.heap.size + 1 + 1 + 1, 0, none⟩ (.func (.func 49) #[] #[.pointer (some ⟨w.heap.size + 1 + 1, 0, none⟩), .pointer (some ⟨w.heap.size, 0, none⟩), .pointer (some ⟨w.heap.size + 1 + 1 + 1, 0, none⟩)])).run Try.prog ((((w.alloc (.cells #[.pointer (some ⟨gb, 0, none⟩)] 29)).alloc (.cells (madeCells #[.bool false] k) 4)).alloc (.cells #[.slice (some ⟨w.heap.size + 1, 0, none⟩) k k] 51)).alloc (.cells #[.nilFunc] 92)) = .ok () w1 := by
    have bxn := BX.new (((w.alloc (.cells #[.pointer (some ⟨gb, 0, none⟩)] 29)).alloc (.cells (madeCells #[.bool false] k) 4)).alloc (.cells #[.slice (some ⟨w.heap.size + 1, 0, none⟩) k k] 51)) #[.nilFunc] 92
    simp only [World.size_alloc] at bxn
    have c0 := bxn.cell 0
    have c1 : World.cell? _ ⟨w.heap.size + 1 + 1 + 1, 0, none⟩ = some .nilFunc := c0
    rw [run_store _ _ _ _ _ rfl, c1]
    dsimp only
    rw [bxn.frozen 0, hw1]
    simp only [Bool.false_eq_true, if_false]
    rw [World.setCell_alloc_at _ _ _ _ _ (by simp only [World.size_alloc])]
    rfl
  have HH := hid h
  have HB1 := hid hb1
  have HW1 := hid hw1
  have HEn := hid (fun (hk0 : 0 < k) => enter_any (n := L.length) HC.out hE hl hk k 0 [] [] Nil w1 hk0 ⟨List.nodup_nil, fun x hx => by simp at hx, List.nodup_nil, fun x hx => by simp at hx⟩ (by simp) HI.out)
  have HO := hid (Cf.ord_ok hE)
  clear hw1 bx0 bx2 bx3 o1 g1 h hE hl hb1
  go_enter Try.func25, Try.ntmps25
  go_upto_region 4 with fail
  obtain ⟨-, x0, n0⟩ := HC.out.boxes HI.out.ch
  have g0 : w1.cell? ⟨gb, 0, none⟩ = some (.slice (some ⟨bb, 0, none⟩) k cap) := HI.out.box.cell 0
  unfold enF at n0
  clear k0 hst hmk
  go_upto_if 18 with fail
  go_cut [] (fun wx => ∃ en lf ov, Cf.ord (edg L B cl) k = lf.reverse ∧ Hid (WkI w1 gb (w.heap.size + 1) base bb cap ob L.length k en lf ov wx))
  case first =>
    by_cases hk0 : k = 0
    · have hkd : ¬ (0 < k) := by omega
      go_wp2
      go_meet
      exact ⟨[], [], Nil, by unfold Cf.ord; rw [if_pos hk0]; rfl, HI⟩
    · have hk1 : 0 < k := by omega
      have HCall := hid (HEn.out hk1)
      go_wp2_with (go_at_call 49; refine HCall.out.mono ?_; rintro e w5 ⟨rfl, ov5, h5⟩; have H5 := hid h5; clear h5)
      go_meet
      exact ⟨_, _, ov5, by unfold Cf.ord; rw [if_neg hk0], H5⟩
  case rest =>
    obtain ⟨en, lf, ov, hord, HI2⟩ := hcut
    have hOk : (Cf.ord (edg L B cl) k).Nodup := HO.out.1
    have hOl : ∀ x ∈ Cf.ord (edg L B cl) k, x < k := HO.out.2.1
    have hlen : lf.length = (Cf.ord (edg L B cl) k).length := by rw [hord, List.length_reverse]
    have hlk : (Cf.ord (edg L B cl) k).length ≤ k := by
      have := Cf.len_le hOk (b := List.range k) (fun x hx => List.mem_range.2 (hOl x hx))
      rwa [List.length_range] at this
    obtain ⟨O, hO⟩ : ∃ O, Cf.ord (edg L B cl) k = O := ⟨_, rfl⟩
    have HOeq := hid hO
    rw [hO] at hOk hOl hlen hlk hord
    have HR := hid (rev_any HI2.out.ord (by omega))
    have HOk := hid hOk
    have HOl := hid hOl
    clear x0 n0 g0 HEn HI hO hOk hOl
    obtain ⟨-, x0, -⟩ := HC.out.boxes HI2.out.ch
    obtain ⟨oa, oc, rfl⟩ := own_form HI2.out.ord
    have g2 : wc.cell? ⟨gb, 2, none⟩ = some (.slice oa lf.length oc) := HI2.out.box.cell 2
    have HOr := hid hord
    have HLen := hid hlen
    clear hord hlen
    go_upto_region 7 with (go_at_call 50; refine HR.out.mono ?_; rintro e w6 ⟨rfl, h6, c6⟩; have H6 := hid h6; have C6 := hid c6; clear h6 c6)
    have c16 : Chg (fun i => i = gb ∨ i = w.heap.size + 1) w1 w6 := HI2.out.ch.trans C6.out (fun i e => .inr (Kit.own_base HI2.out.ord i e))
    obtain ⟨-, x6, -⟩ := HC.out.boxes c16
    have bx6 := HI2.out.box.chg C6.out (own_unlike_box HI2.out.ord HI2.out.box (by decide))
    have g6 : w6.cell? ⟨gb, 0, none⟩ = some (.slice (some ⟨bb, 0, none⟩) k cap) := bx6.cell 0
    have hz6 := c16.size
    have hzx : w.heap.size < w6.heap.size := by omega
    have hzg : gb < w6.heap.size := by omega
    clear x0 g2 c16 bx6
    go_region_held3 (fun w' => w'.cell? ⟨w.heap.size, 0, none⟩ = some (.pointer (some ⟨gb, 0, none⟩)) ∧ w'.cell? ⟨gb, 0, none⟩ = some (.slice (some ⟨bb, 0, none⟩) k cap))
      (first | exact ⟨x6, g6⟩ | exact ⟨x7, g70⟩ | exact ⟨x8, g8⟩ | go_keep)
      (first | (go_at_call 51; go_loud (refine (repeat_any (c := -1) (by first | (simp; done) | (simp; rw [World.cell?_alloc_at _ _ _ _ (by simp)]; rfl)) hk).mono ?_; rintro e w7 ⟨rfl, cur, h7, hI7, hb7⟩; have hb67 : Below w6.heap.size w6 w7 := belows (a := w6) (by repeat' first | with_reducible exact Below.refl _ _ | with_reducible assumption | with_reducible refine belows_drewN ?_ _ | with_reducible refine Below.drew ?_ | with_reducible refine Below.setCell ?_ ?_ _ | with_reducible refine Below.alloc ?_ ?_ _ | omega | (simp; done) | (simp; omega)) hb7 (by simp); (try simp at h7); obtain ⟨x7, g70, g7, f7, hT⟩ := WkI.rep HC.out HI2.out HOr.out H6.out C6.out (by omega) h7 hb67; have HT := hid hT; have x8 := (HC.out.boxes hT.ch).2.1; have g8 := hT.box.cell 0; have HI7 := hid hI7; have hz7 := hb7.size; clear x6 g6 hT h7 hI7 hb7)))
    go_upto_region 8 with fail
    refine region_named fun W8 hW8 => ?_
    rw [← hW8] at HT
    clear hW8 x8 g8 x7 g70 g7 f7
    obtain ⟨ol, hol⟩ : ∃ ol, lf.length = ol := ⟨_, rfl⟩
    rw [hol] at HT HLen
    obtain ⟨-, x0, -⟩ := HC.out.boxes HT.out.ch
    have g2 : W8.cell? ⟨gb, 2, none⟩ = some (.slice oa ol oc) := HT.out.box.cell 2
    rw [hol]
    have hol2 : ol ≤ 1048576 := by rw [HLen.out]; omega
    have HS0 : Hid (∀ (j x : Nat), j < 0 → O[j]? = some x → cur[x]? = some (Value.int .i64 (j : Int))) := fun j x h => by omega
    clear hol
    go_wp2
    go_loopw [41] (fun v wr => ∃ (i : Nat) (cur : List Value), v = .int .i64 (i : Int) ∧ i ≤ ol ∧ Hid (WkT w1 gb (w.heap.size + 1) base bb cap ob L.length k w6.heap.size O (.slice oa ol oc) (.slice (some ⟨w6.heap.size + 1, 0, none⟩) k k) cur wr) ∧ Hid (IntL cur) ∧ Hid (∀ (j x : Nat), j < i → O[j]? = some x → cur[x]? = some (Value.int .i64 (j : Int)))) (fun v _ => ol - (intOf v).toNat)
    case atStart => exact ⟨0, cur, rfl, by omega, HT, HI7, HS0⟩
    case round =>
      clear HT HI7 HS0 x0 g2
      obtain ⟨i, cur, rfl, hio, HT, HI7, HS⟩ := hrel
      obtain ⟨-, x0, -⟩ := HC.out.boxes HT.out.ch
      by_cases hlt : i < ol
      · obtain ⟨x, hx⟩ : ∃ x, O[i]? = some x := ⟨_, List.getElem?_eq_getElem (by rw [← HLen.out]; exact hlt)⟩
        have hxk := HOl.out x (List.mem_of_getElem? hx)
        have hor := HT.out.ord
        rw [← HLen.out] at hor
        obtain ⟨qb, qc, hqv, hqb, hqc⟩ := own_at0 hor (by omega)
        obtain ⟨rfl, -, rfl⟩ := Value.slice.inj hqv
        have q0 := (hqc i _ (Kit.natVals_at hx)).1
        have g3 : wr.cell? ⟨gb, 3, none⟩ = some (.slice (some ⟨w6.heap.size + 1, 0, none⟩) k k) := HT.out.box.cell 3
        have hcl : cur.length = k := by have := HT.out.spt.1; omega
        obtain ⟨u, hu⟩ : ∃ u, cur[x]? = some u := ⟨_, List.getElem?_eq_getElem (by omega)⟩
        obtain ⟨y, rfl⟩ := HI7.out u (List.mem_of_getElem? hu)
        obtain ⟨s0, s1⟩ := own_cell HT.out.spt hu
        have HN := hid (HT.out.set x (.int .i64 (i : Int)))
        have HIN : Hid (IntL (cur.set x (.int .i64 (i : Int)))) := fun u hu => by
          rcases List.mem_or_eq_of_mem_set hu with h | h
          · exact HI7.out u h
          · exact ⟨_, h⟩
        have HSN : Hid (∀ (j z : Nat), j < i + 1 → O[j]? = some z → (cur.set x (.int .i64 (i : Int)))[z]? = some (Value.int .i64 (j : Int))) := fun j z hj hz => by
          rw [List.getElem?_set]
          by_cases e : x = z
          · subst e
            have hji : j = i := by
              obtain ⟨h1, e1⟩ := List.getElem?_eq_some_iff.1 hz
              obtain ⟨h2, e2⟩ := List.getElem?_eq_some_iff.1 hx
              exact (List.getElem_inj HOk.out).1 (e1.trans e2.symm)
            rw [if_pos rfl, if_pos (by omega), hji]
          · rw [if_neg e]
            have hji : j ≠ i := by
              rintro rfl
              rw [hx] at hz
              exact e (Option.some.inj hz)
            exact HS.out j z (by omega) hz
        clear hx hor hqv hqc hcl hu
        go_wp2
        go_roundw
        case rel => exact ⟨i + 1, _, by go_num, by omega, HN, HIN, HSN⟩
        case measure => simp [intOf]; omega
      · obtain rfl : i = ol := by omega
        go_wp2
        refine bodyPost_end (results_none rfl _ _ _) rfl ?_
        have hch := HT.out.ch
        have hbel : Below base w wr := (belows (Below.refl base w) HB1.out hbw).trans (hch.to_below (fun j e => by rcases e with rfl | rfl; exact HH.out.gw.lo; omega) (by omega))
        refine ⟨rfl, hbel, _, _, cur, ⟨HT.out.box, HC.out.keep hch HC.out.bl (by decide) (by decide), HC.out.keep hch (Kit.owns_below HH.out.gw.of HB1.out (Nat.le_refl _)) (by decide) (by decide), fun x hx => HC.out.keep hch (HC.out.nx x hx) (by decide) (by decide), fun x hx => HC.out.keep hch (HC.out.ca x hx) (by decide) (by decide), ?_, Kit.owns_mono HT.out.spt (by omega), ?_, HH.out.gw.lo⟩⟩
        · rw [HOeq.out]
          exact Kit.owns_mono HT.out.ord (by omega)
        · intro j x hj
          rw [HOeq.out] at hj
          exact HS.out j x (by rw [HLen.out]; exact (List.getElem?_eq_some_iff.1 hj).1) hj
end
end Go.Proofs.Ytdodobpbdnpjiaa
namespace Go.Proofs.Ytdodobpbdnpjiaa
open Go Go.RowKit
open Kit (natVals)
set_option maxRecDepth 100000
set_option maxHeartbeats 4000000
theorem edges_any {w : World} {gb bb k cap x : Nat} {v1 v2 : Value} {l1 l2 : List Nat} (c0 : w.cell? ⟨gb, 0, none⟩ = some (.slice (some ⟨bb, 0, none⟩) k cap)) (hx : x < k) (c2 : w.cell? ⟨bb, x * 4 + 2, none⟩ = some v1) (c3 : w.cell? ⟨bb, x * 4 + 3, none⟩ = some v2)
    (h1 : Kit.IsS 1 w v1 l1.length (natVals l1)) (h2 : Kit.IsS 1 w v2 l2.length (natVals l2)) (hl1 : l1.length ≤ 2000000) (hl2 : l2.length ≤ 2000000) :
    Calls Try.prog 52 #[.pointer (some ⟨gb, 0, none⟩), .int .i64 (x : Int)] w fun e w' => ∃ v, e = .returned v ∧ w'.ownsRow w.heap.size 3 1 v (Cf.rise (l1 ++ l2)).length (natVals (Cf.rise (l1 ++ l2))) ∧ Below w.heap.size w w' := by
  obtain ⟨a1, p1, rfl⟩ := h1.len
  obtain ⟨a2, p2, rfl⟩ := h2.len
  have hgs := World.block_lt_of_cell? w _ c0
  have hbs := World.block_lt_of_cell? w _ c2
  have hgs' : gb < w.heap.size := hgs
  have hbs' : bb < w.heap.size := hbs
  have HC := hid (fun W (hb : Below w.heap.size w W) (d0 : W.cell? ⟨w.heap.size, 0, none⟩ = some (.slice a1 l1.length p1)) (d1 : W.cell? ⟨w.heap.size, 1, none⟩ = some (.slice a2 l2.length p2)) => concat_any d0 d1 (h1.below hb (Nat.le_refl _)) (h2.below hb (Nat.le_refl _)) hl1 hl2)
  have HR := hid (fun (W : World) (base : Nat) (v : Value) (ho : W.ownsRow base 3 1 v (l1 ++ l2).length (natVals (l1 ++ l2))) => rising_any ho (by rw [List.length_append]; omega))
  clear h1 h2 hl1 hl2 hgs hbs
  go_enter Try.func52, Try.ntmps52
  go_upto_region 1 with fail
  go_region_held3 (fun w' => w'.cell? ⟨gb, 0, none⟩ = some (.slice (some ⟨bb, 0, none⟩) k cap) ∧ w'.cell? ⟨bb, x * 4 + 2, none⟩ = some (.slice a1 l1.length p1) ∧ w'.cell? ⟨bb, x * 4 + 3, none⟩ = some (.slice a2 l2.length p2))
    (first | exact ⟨c0, c2, c3⟩ | exact ⟨d0, d2, d3⟩ | exact ⟨e0, e2, e3⟩ | go_keep)
    (first | (go_at_call 61; go_loud (refine (HC.out _ (by repeat' first | with_reducible exact Below.refl _ _ | with_reducible assumption | with_reducible refine belows_drewN ?_ _ | with_reducible refine Below.drew ?_ | with_reducible refine Below.setCell ?_ ?_ _ | with_reducible refine Below.alloc ?_ ?_ _ | omega | (simp; done) | (simp; omega)) (by first | (simp; done) | (rw [World.cell?_alloc_at _ _ _ _ (by simp)]; rfl)) (by first | (simp; done) | (rw [World.cell?_alloc_at _ _ _ _ (by simp)]; rfl))).mono ?_; rintro e w1 ⟨u1, rfl, ho, hb⟩; have HO := hid ho; have HB : Hid (Below w.heap.size w w1) := belows (a := w) (by repeat' first | with_reducible exact Below.refl _ _ | with_reducible assumption | with_reducible refine belows_drewN ?_ _ | with_reducible refine Below.drew ?_ | with_reducible refine Below.setCell ?_ ?_ _ | with_reducible refine Below.alloc ?_ ?_ _ | omega | (simp; done) | (simp; omega)) hb (by simp); have d0 := (HB.out.cell (p := ⟨gb, 0, none⟩) hgs').trans c0; have d2 := (HB.out.cell (p := ⟨bb, x * 4 + 2, none⟩) hbs').trans c2; have d3 := (HB.out.cell (p := ⟨bb, x * 4 + 3, none⟩) hbs').trans c3; clear ho hb))
           | (go_at_call 37; go_loud (refine (HR.out _ _ _ HO.out).mono ?_; rintro e w2 ⟨u2, rfl, h2, hc2, -⟩; have H2 := hid h2; have HB2 : Hid (Below w.heap.size w w2) := HB.out.trans (hc2.to_below (fun j e => by have := Kit.own_base HO.out j e; (try simp at this); omega) HB.out.size); have e0 := (HB2.out.cell (p := ⟨gb, 0, none⟩) hgs').trans c0; have e2 := (HB2.out.cell (p := ⟨bb, x * 4 + 2, none⟩) hbs').trans c2; have e3 := (HB2.out.cell (p := ⟨bb, x * 4 + 3, none⟩) hbs').trans c3; clear h2 hc2)))
  go_wp2
  go_ret
  exact ⟨_, rfl, Kit.owns_mono H2.out (by simp), HB2.out⟩
end Go.Proofs.Ytdodobpbdnpjiaa
namespace Go.Proofs.Ytdodobpbdnpjiaa
open Go Go.RowKit

/-- What is left of a post: the way on alone. -/
def NormQ (Q : Exit → Act → World → Prop) : Exit → Act → World → Prop
  | .normal, a, w => Q .normal a w
  | _, _, _ => False
def plainOp (o : Oper) : Bool := match o.op with | .defer _ => false | _ => true
theorem plainOp_ne {o : Oper} (h : plainOp o = true) : ∀ c, o.op ≠ .defer c := by
  intro c e
  unfold plainOp at h
  rw [e] at h
  cases h
section
variable {P : Program} {ops : Array Oper} {Q : Exit → Act → World → Prop} {md : Region.Mode} {l n : Nat}
theorem normQ_lets : ¬ LetsOut (NormQ Q) := by
  rintro ⟨a, w, h⟩
  exact h
theorem op_round {o : Oper} {a : Act} {w : World} {K K' : Act → World → Prop} (hp : plainOp o = true) (hk : ∀ a w, K a w → K' a w) (h : o.wp P a w K (NormQ Q)) : o.wpIn (Fence.wide.inRound l) n P a w K' Q := by
  unfold Oper.wp at h
  unfold Oper.wpIn
  refine ⟨fun _ _ => trivial, ?_⟩
  rw [Oper.semAt_eq _ _ _ (plainOp_ne hp)]
  generalize (execOp a.eval o).run P w = r at *
  cases r with
  | ok x w' =>
    cases x <;> simp only [Oper.upon] at h <;> simp only [Oper.uponIn]
    case value u => exact hk _ _ h
    case skip => exact hk _ _ h
    case defer d => exact hk _ _ h
    case enter f args =>
      refine ⟨fun h => by simp [Fence.wide, Fence.inRound] at h, CallsIn.inRound l (callsIn_wide.2 (h.mono fun e w'' he => ?_))⟩
      cases e with
      | returned v => exact hk _ _ he
      | panicked c => exact he.elim
      | outgrown => exact (normQ_lets he).elim
    case row row args =>
      refine ⟨fun h => by simp [Fence.wide, Fence.inRound] at h, fun c cs _ => ?_⟩
      obtain ⟨v, w'', r, s⟩ := h c cs
      exact ⟨v, w'', hk _ _ r, stepsIn_wide.2 s⟩
  | halt x w' =>
    cases x <;> simp only [Oper.upon] at h
    case panic v => exact h.elim
theorem wpOp_round {i : Nat} {a : Act} {w : World} {K K' : Act → World → Prop} (hp : ∀ (i : Nat) (o : Oper), ops[i]? = some o → plainOp o = true) (hk : ∀ a w, K a w → K' a w) (h : wpOp P ops (NormQ Q) i K a w) : wpOpIn (Fence.wide.inRound l) n P ops Q i K' a w := by
  unfold wpOp at h
  unfold wpOpIn
  cases ho : ops[i]? with
  | none =>
    simp only [ho] at h
    exact hk _ _ h
  | some o =>
    simp only [ho] at h
    dsimp only
    split
    · rename_i hw
      simp only [hw, if_true] at h
      rcases h with h | ⟨-, h⟩
      · exact op_round (hp i o ho) hk h
      · exact (normQ_lets h).elim
    · rename_i hw
      simp only [hw] at h
      exact ⟨fun _ _ => trivial, hk _ _ h⟩
theorem any_round (hp : ∀ (i : Nat) (o : Oper), ops[i]? = some o → plainOp o = true) : ∀ (fuel : Nat) (listed : Array Bool) (a : Act) (w : World), wpAny P md ops (NormQ Q) fuel listed a w → wpAnyIn (Fence.wide.inRound l) n P md ops Q fuel listed a w
  | 0, _, _, _, h => h
  | fuel + 1, _, _, _, h => ⟨h.1, fun i hi => wpOp_round hp (fun a' w' h' => any_round hp fuel _ a' w' h') (h.2 i hi)⟩
theorem plain_all (h : ops.all plainOp = true) : ∀ (i : Nat) (o : Oper), ops[i]? = some o → plainOp o = true := fun i o ho => by
  obtain ⟨hi, e⟩ := Array.getElem?_eq_some_iff.1 ho
  rw [← e]
  exact (Array.all_eq_true.1 h) i hi
/-- The beginning of such a region: S as in go_region_held3. -/
theorem region_round {id : Nat} {a : Act} {w : World} (S : World → Prop) (hm : P.follows .mixedOrders = true) (hp : ops.all plainOp = true) (hS : S w.drew)
    (h : S w.drew → wpAnyH P .any ops (NormQ Q) S ops.size (Array.replicate ops.size false) a w.drew) : (Code.region id ops true).wpIn (Fence.wide.inRound l) n P Q a w :=
  wpIn_region_any hm (any_round (plain_all hp) _ _ _ _ (wpAny_of_held _ _ _ _ (h hS)))
theorem normQ_out {a : Act} {w : World} (h : Q .normal a w) : NormQ Q .normal a w := h
end
end Go.Proofs.Ytdodobpbdnpjiaa

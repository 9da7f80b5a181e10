/- HierAsks and HierNone, side by side (so that one build serves both claims). -/
import Derived.Test.YthjcnlgebkaonaaZC4
namespace Go.Proofs.Ythjcnlgebkaonaa
open Go Go.RowKit
open Kit (natVals)

theorem own_cells {w : World} {base : Nat} {e : TypeId} {size : Nat} {v : Value} {n : Nat} {xs : List Value} (h : w.ownsRow base e size v n xs) (hn : 0 < n) : ∃ g cap, v = .slice (some ⟨g, 0, none⟩) n cap ∧ base ≤ g ∧ g < w.heap.size ∧ ∀ i, i < n * size → (∃ u, w.cell? ⟨g, i, none⟩ = some u) ∧ w.frozen? ⟨g, i, none⟩ = false := by
  obtain ⟨hl, h⟩ := h
  rcases h with ⟨-, h2⟩ | ⟨g, cap, cur, rfl, hg, hh, hc1, hc2, hc3, ht⟩
  · omega
  · refine ⟨g, cap, rfl, hg, (Array.getElem?_eq_some_iff.1 hh).1, fun i hi => ⟨?_, by simp [World.frozen?, hh]⟩⟩
    obtain ⟨u, hx⟩ : ∃ u, xs[i]? = some u := ⟨_, List.getElem?_eq_getElem (by omega : i < xs.length)⟩
    have hlt : i < xs.length := (List.getElem?_eq_some_iff.1 hx).1
    have : cur[i]? = some u := by
      rw [← ht, List.getElem?_take_of_lt (by omega)] at hx
      simpa using hx
    exact ⟨u, by simp [World.cell?, hh, this]⟩
/-- The last lines of the law: both tell the same name and the same subs. -/
def Last (w6 : World) (hp rb : Nat) (s : ByteArray) (n : Int) (L : List Nat) : Prop :=
  Hid (∀ X, Below w6.heap.size w6 X → Calls Try.prog 21 #[.pointer (some ⟨hp, 0, none⟩), .int .i64 n] X fun e w' => e = .returned (.string s) ∧ X = w') ∧
  Hid (∀ X, Below w6.heap.size w6 X → Calls Try.prog 24 #[.pointer (some ⟨rb, 0, none⟩), .int .i64 n] X fun e w' => e = .returned (.string s) ∧ X = w') ∧
  Hid (∀ X, Below w6.heap.size w6 X → Calls Try.prog 22 #[.pointer (some ⟨hp, 0, none⟩), .int .i64 0] X (ClonePost 3 1 L.length (natVals L) X)) ∧
  Hid (∀ X, Below w6.heap.size w6 X → Calls Try.prog 26 #[.pointer (some ⟨rb, 0, none⟩), .int .i64 0] X (ClonePost 3 1 L.length (natVals L) X)) ∧ Hid (L.length ≤ 1000)
theorem last_of {w6 : World} {b1 b2 rb : Nat} {H : HV} {P D : Nat → Nat} {N : List ByteArray} {S : List Int} (hm : HM w6 b1 H) (ok : HOk H P D) (rm : RM w6 b2 rb N S) (rok : ROk H.n P D N S) (hn : H.names = N) (n : Int) : ∃ s L, Last w6 H.hb rb s n L := by
  have hs : nameR N H.n n = H.nameO n := by
    unfold nameR HV.nameO
    split
    · rename_i h
      obtain ⟨k, rfl, hk⟩ := isC_yes h
      rw [← hn, Int.toNat_natCast]
      unfold HV.names
      rw [List.getElem?_map, List.getElem?_range hk]
      rfl
    · rfl
  have h0 : isC H.n 0 = true := isC_nat (j := 0) ok.tr.pos
  have hL : subP H.n P 0 H.n = H.subsO 0 := by
    unfold subP HV.subsO
    rw [if_pos h0, if_pos h0]
    exact (ok.sb _ ok.tr.pos).symm
  have hle : (H.subsO 0).length ≤ 72 := by
    rw [← hL]
    unfold subP
    rw [if_pos h0]
    exact Nat.le_trans (Hi.ch_len _ _ _) ok.le
  refine ⟨H.nameO n, H.subsO 0, fun X b => Name_any (hm.below b) n, fun X b => ?_, fun X b => Subs_any (hm.below b) (fun k hk => ?_) 0, fun X b => ?_, show _ ≤ 1000 by omega⟩
  · have := rName_any (rm.below b) rok n
    rw [hs] at this
    exact this
  · rw [ok.sb k hk]
    exact Nat.le_trans (Hi.ch_len _ _ _) (Nat.le_trans ok.le (by omega))
  · have := rSubs_any (rm.below b) rok 0
    rw [hL] at this
    exact this
set_option maxRecDepth 100000 in
set_option maxHeartbeats 2000000 in
theorem none_law {w : World} {lv : Value} {l : List Hi.Ln} (hl : Kit.IsS 2 w lv l.length (l.flatMap lnL)) (hs : ∀ x ∈ l, x.1.size ≤ maxLen ∧ x.2.size ≤ maxLen) (h32 : l.length * 32 ≤ 140737488355328) (n : Int) : Calls Try.prog 6 #[lv, .int .i64 n] w fun e w' => e = .returned (.bool true) ∧ Below w.heap.size w w' := by
  have hl0 := fun X (b : Below w.heap.size w X) => hl.below b (Nat.le_refl _)
  have HCL := hid (fun X (b : Below w.heap.size w X) => lclone_any _ _ _ X (hl0 X b) h32 (lnL_one l))
  have HRN := hid (fun X (b : Below w.heap.size w X) => rNew_any (hl0 X b))
  have HS := hid hs
  have Hf := hid (show (⟨#[106, 97, 118, 97, 47, 108, 97, 110, 103, 47, 79, 98, 106, 101, 99, 116]⟩ : ByteArray).size ≤ maxLen by unfold maxLen; decide)
  have H32 := hid h32
  clear hl hs hl0 h32
  go_enter Try.func6, Try.ntmps6
  go_wp2_with fail
  refine (live_any w).mono ?_
  rintro e w1 ⟨rfl, hb1⟩
  have HB1 := hid hb1
  clear hb1
  go_wp2_with fail
  go_loopw [23] (fun i wr => ∃ k : Nat, k ≤ 2 ∧ i = .int .i64 k ∧ Hid (Below w.heap.size w wr) ∧ Hid (BX wr w1.heap.size #[.slice none 0 0, .map none, .slice none 0 0] 48) ∧ Hid (BX wr (w1.heap.size + 1) #[.pointer none, .pointer (some ⟨w1.heap.size, 0, none⟩)] 25)) (fun i _ => 2 - (intOf i).toNat)
  case atStart =>
    refine ⟨0, by omega, rfl, belows HB1.out (((Below.refl _ _).alloc (Nat.le_refl _) _).alloc (by simp) _) HB1.out.size, ?_, ?_⟩
    · exact (BX.new w1 _ _).below ((Below.refl _ _).alloc (Nat.le_refl _) _)
    · have := BX.new (w1.alloc (.cells #[.slice none 0 0, .map none, .slice none 0 0] 48)) #[.pointer none, .pointer (some ⟨w1.heap.size, 0, none⟩)] 25
      rw [World.size_alloc] at this
      exact this
  case round =>
    obtain ⟨k, hk, rfl, HB2, HZ, HL⟩ := hrel
    by_cases hk2 : k < 2
    · obtain ⟨v, hv, hno⟩ : ∃ v, wr.cell? ⟨w1.heap.size + 1, k, none⟩ = some v ∧ No wr v := by
        match k, hk2 with
        | 0, _ => exact ⟨_, HL.out.cell 0, .inl rfl⟩
        | 1, _ => exact ⟨_, HL.out.cell 1, .inr ⟨_, rfl, HZ.out⟩⟩
      have NO := hid (fun X (b : Below wr.heap.size wr X) => hno.below b)
      have HBd := hid (Below.refl wr.heap.size wr)
      have hki : (k : Int) < 2 := by omega
      clear hno
      go_wp2_with (first | (go_at_call 20; refine (no_Find (NO.out _ (by first | exact HBc.out | exact HBd.out | exact (by repeat' first | with_reducible exact Below.refl _ _ | with_reducible assumption | with_reducible refine belows_drewN ?_ _ | with_reducible refine Below.drew ?_ | with_reducible refine Below.setCell ?_ ?_ _ | with_reducible refine Below.alloc ?_ ?_ _ | omega | (simp; done) | (simp; omega)))) _ Hf.out).mono ?_; rintro e w' ⟨rfl, rfl⟩) | (go_at_call 17; refine (no_Len (NO.out _ (by first | exact HBc.out | exact HBd.out | exact (by repeat' first | with_reducible exact Below.refl _ _ | with_reducible assumption | with_reducible refine belows_drewN ?_ _ | with_reducible refine Below.drew ?_ | with_reducible refine Below.setCell ?_ ?_ _ | with_reducible refine Below.alloc ?_ ?_ _ | omega | (simp; done) | (simp; omega))))).mono ?_; rintro e w' ⟨rfl, rfl⟩) | (go_at_call 21; refine (no_Name (NO.out _ (by first | exact HBc.out | exact HBd.out | exact (by repeat' first | with_reducible exact Below.refl _ _ | with_reducible assumption | with_reducible refine belows_drewN ?_ _ | with_reducible refine Below.drew ?_ | with_reducible refine Below.setCell ?_ ?_ _ | with_reducible refine Below.alloc ?_ ?_ _ | omega | (simp; done) | (simp; omega)))) n).mono ?_; rintro e w' ⟨rfl, rfl⟩) | (go_at_call 18; refine (no_Super (NO.out _ (by first | exact HBc.out | exact HBd.out | exact (by repeat' first | with_reducible exact Below.refl _ _ | with_reducible assumption | with_reducible refine belows_drewN ?_ _ | with_reducible refine Below.drew ?_ | with_reducible refine Below.setCell ?_ ?_ _ | with_reducible refine Below.alloc ?_ ?_ _ | omega | (simp; done) | (simp; omega)))) n).mono ?_; rintro e w' ⟨rfl, rfl⟩) | (go_at_call 10; refine (no_Under (NO.out _ (by first | exact HBc.out | exact HBd.out | exact (by repeat' first | with_reducible exact Below.refl _ _ | with_reducible assumption | with_reducible refine belows_drewN ?_ _ | with_reducible refine Below.drew ?_ | with_reducible refine Below.setCell ?_ ?_ _ | with_reducible refine Below.alloc ?_ ?_ _ | omega | (simp; done) | (simp; omega)))) n).mono ?_; rintro e wa ⟨rfl, hb⟩; have HBn := hid (belows (show Below wr.heap.size wr _ from (by first | exact HBc.out | exact HBd.out | exact (by repeat' first | with_reducible exact Below.refl _ _ | with_reducible assumption | with_reducible refine belows_drewN ?_ _ | with_reducible refine Below.drew ?_ | with_reducible refine Below.setCell ?_ ?_ _ | with_reducible refine Below.alloc ?_ ?_ _ | omega | (simp; done) | (simp; omega)))) hb (Below.size (show Below wr.heap.size wr _ from (by first | exact HBc.out | exact HBd.out | exact (by repeat' first | with_reducible exact Below.refl _ _ | with_reducible assumption | with_reducible refine belows_drewN ?_ _ | with_reducible refine Below.drew ?_ | with_reducible refine Below.setCell ?_ ?_ _ | with_reducible refine Below.alloc ?_ ?_ _ | omega | (simp; done) | (simp; omega)))))); (first | clear HBc | skip); have HBc := HBn; clear HBn hb) | (go_at_call 12; refine (no_Common (NO.out _ (by first | exact HBc.out | exact HBd.out | exact (by repeat' first | with_reducible exact Below.refl _ _ | with_reducible assumption | with_reducible refine belows_drewN ?_ _ | with_reducible refine Below.drew ?_ | with_reducible refine Below.setCell ?_ ?_ _ | with_reducible refine Below.alloc ?_ ?_ _ | omega | (simp; done) | (simp; omega)))) n).mono ?_; rintro e wb ⟨rfl, hb⟩; have HBn := hid (belows (show Below wr.heap.size wr _ from (by first | exact HBc.out | exact HBd.out | exact (by repeat' first | with_reducible exact Below.refl _ _ | with_reducible assumption | with_reducible refine belows_drewN ?_ _ | with_reducible refine Below.drew ?_ | with_reducible refine Below.setCell ?_ ?_ _ | with_reducible refine Below.alloc ?_ ?_ _ | omega | (simp; done) | (simp; omega)))) hb (Below.size (show Below wr.heap.size wr _ from (by first | exact HBc.out | exact HBd.out | exact (by repeat' first | with_reducible exact Below.refl _ _ | with_reducible assumption | with_reducible refine belows_drewN ?_ _ | with_reducible refine Below.drew ?_ | with_reducible refine Below.setCell ?_ ?_ _ | with_reducible refine Below.alloc ?_ ?_ _ | omega | (simp; done) | (simp; omega)))))); (first | clear HBc | skip); have HBc := HBn; clear HBn hb) | (go_at_call 19; refine (no_Depth (NO.out _ (by first | exact HBc.out | exact HBd.out | exact (by repeat' first | with_reducible exact Below.refl _ _ | with_reducible assumption | with_reducible refine belows_drewN ?_ _ | with_reducible refine Below.drew ?_ | with_reducible refine Below.setCell ?_ ?_ _ | with_reducible refine Below.alloc ?_ ?_ _ | omega | (simp; done) | (simp; omega)))) n).mono ?_; rintro e w' ⟨rfl, rfl⟩) | (go_at_call 22; refine (no_Subs (NO.out _ (by first | exact HBc.out | exact HBd.out | exact (by repeat' first | with_reducible exact Below.refl _ _ | with_reducible assumption | with_reducible refine belows_drewN ?_ _ | with_reducible refine Below.drew ?_ | with_reducible refine Below.setCell ?_ ?_ _ | with_reducible refine Below.alloc ?_ ?_ _ | omega | (simp; done) | (simp; omega)))) n).mono ?_; rintro e w' ⟨rfl, rfl⟩) | (go_at_call 15; refine (no_tells (NO.out _ (by first | exact HBc.out | exact HBd.out | exact (by repeat' first | with_reducible exact Below.refl _ _ | with_reducible assumption | with_reducible refine belows_drewN ?_ _ | with_reducible refine Below.drew ?_ | with_reducible refine Below.setCell ?_ ?_ _ | with_reducible refine Below.alloc ?_ ?_ _ | omega | (simp; done) | (simp; omega))))).mono ?_; rintro e wc ⟨B, rfl, hb, HT⟩; have HBn := hid (belows (show Below wr.heap.size wr _ from (by first | exact HBc.out | exact HBd.out | exact (by repeat' first | with_reducible exact Below.refl _ _ | with_reducible assumption | with_reducible refine belows_drewN ?_ _ | with_reducible refine Below.drew ?_ | with_reducible refine Below.setCell ?_ ?_ _ | with_reducible refine Below.alloc ?_ ?_ _ | omega | (simp; done) | (simp; omega)))) hb (Below.size (show Below wr.heap.size wr _ from (by first | exact HBc.out | exact HBd.out | exact (by repeat' first | with_reducible exact Below.refl _ _ | with_reducible assumption | with_reducible refine belows_drewN ?_ _ | with_reducible refine Below.drew ?_ | with_reducible refine Below.setCell ?_ ?_ _ | with_reducible refine Below.alloc ?_ ?_ _ | omega | (simp; done) | (simp; omega)))))); (first | clear HBc | skip); have HBc := HBn; clear HBn hb) | (go_at_call 14; refine (HT.out _ _ _ (Below.refl _ _) ⟨rfl, by simp, .inl ⟨rfl, _, _, rfl⟩⟩).mono ?_; rintro e wd ⟨rfl, hb⟩; clear HT; have HBn := hid (belows (show Below wr.heap.size wr _ from (by first | exact HBc.out | exact HBd.out | exact (by repeat' first | with_reducible exact Below.refl _ _ | with_reducible assumption | with_reducible refine belows_drewN ?_ _ | with_reducible refine Below.drew ?_ | with_reducible refine Below.setCell ?_ ?_ _ | with_reducible refine Below.alloc ?_ ?_ _ | omega | (simp; done) | (simp; omega)))) hb (Below.size (show Below wr.heap.size wr _ from (by first | exact HBc.out | exact HBd.out | exact (by repeat' first | with_reducible exact Below.refl _ _ | with_reducible assumption | with_reducible refine belows_drewN ?_ _ | with_reducible refine Below.drew ?_ | with_reducible refine Below.setCell ?_ ?_ _ | with_reducible refine Below.alloc ?_ ?_ _ | omega | (simp; done) | (simp; omega)))))); (first | clear HBc | skip); have HBc := HBn; clear HBn hb))
      have HBe := hid (belows HB2.out HBc.out HB2.out.size)
      have HZ2 := hid (HZ.out.below HBc.out)
      have HL2 := hid (HL.out.below HBc.out)
      go_roundw
      case rel => exact ⟨k + 1, by omega, by go_num, HBe, HZ2, HL2⟩
      case measure => simp [intOf]; omega
    · obtain rfl : k = 2 := by omega
      clear HZ HL
      go_wp2_with fail
      refine (HCL.out _ HB2.out).mono ?_
      rintro e w3 ⟨mv, rfl, hown, hb⟩
      have HB3 := hid (belows HB2.out hb HB2.out.size)
      have HI := hid (Kit.isS_of_owns hown (by have := H32.out; omega))
      have HO := hid hown
      have HOb := hid (Kit.own_lt hown)
      have HOg := hid (show ∀ k, mv.ownBlock = some k → w.heap.size ≤ k from fun k hk => Nat.le_trans HB2.out.size (Kit.own_base hown k hk))
      obtain ⟨ma, mc, rfl⟩ := own_form hown
      clear hown hb HB2 HCL
      by_cases he : Hi.err l = 0
      · have HE := hid he
        clear he
        go_wp2_with fail
        refine (New_yes HI.out HS.out HE.out).mono ?_
        rintro e w4 ⟨H, D, rfl, hb4, hm, ok, hn, hnm, -⟩
        have HB4 := hid (belows HB3.out hb4 HB3.out.size)
        have HM4 := hid hm
        have HO4 := hid (Kit.owns_below HO.out hb4 (Nat.le_refl _))
        have OK := hid ok
        have HNn := hid hn
        have HNa := hid hnm
        have HB34 := hid hb4
        clear hm ok hn hnm hb4 HO HB3
        go_wp2_with fail
        refine (HRN.out _ HB4.out).mono ?_
        rintro e w5 ⟨v, he2, hb5, -, h4⟩
        obtain ⟨rb, D2, rfl, rm, rok⟩ := h4 HE.out
        rw [HE.out] at he2
        subst he2
        have HM5 := hid (HM4.out.below hb5)
        have HB5 := hid (belows HB4.out hb5 HB4.out.size)
        have HO5 := hid (Kit.owns_below HO4.out hb5 (Nat.le_refl _))
        have RM5 := hid rm
        have ROK := hid rok
        have HB35 := hid (belows HB34.out hb5 HB34.out.size)
        have hz45 := hb5.size
        have hz34 := HB34.out.size
        clear h4 hb5 rm rok HB4 HO4 HRN HM4 HB34
        go_wp2_with fail
        go_loopw [101] (fun i W => ∃ k : Nat, k ≤ l.length ∧ i = .int .i64 k ∧ Hid (Chg (fun j => (Value.slice ma l.length mc).ownBlock = some j) w5 W) ∧ Hid (∃ bs xs, W.ownsRow bs 56 2 (.slice ma l.length mc) l.length xs)) (fun i _ => l.length - (intOf i).toNat)
        case atStart => exact ⟨0, by omega, rfl, Chg.refl _ _, _, _, HO5.out⟩
        case round =>
          obtain ⟨k, hk, rfl, HC, HX⟩ := hrel
          by_cases hlt : k < l.length
          · obtain ⟨bs, xs, hx⟩ := HX
            obtain ⟨g, cap, e, hbg, hgl, hc⟩ := own_cells hx (by omega)
            obtain ⟨rfl, -, rfl⟩ := Value.slice.inj e
            obtain ⟨⟨u, c0⟩, f0⟩ := hc (k * 2) (by omega)
            have hki : (k : Int) < (l.length : Int) := by omega
            have h25 := H32.out
            have HC2 := hid (HC.out.set (p := ⟨g, k * 2, none⟩) (.inl rfl) (.string ⟨#[63]⟩))
            have HX2 := hid (owns_set hx (k * 2) (.string ⟨#[63]⟩))
            clear hc e hx HC
            go_wp2_with fail
            go_roundw
            case rel => exact ⟨k + 1, by omega, by go_num, HC2, _, _, HX2.out⟩
            case measure => simp [intOf]; omega
          · obtain rfl : k = l.length := by omega
            have HM6 := hid (HM5.out.chg HC.out (fun j hf e => by have := HM5.out.low j hf; have := HOb.out j e; omega))
            have RM6 := hid (RM5.out.chg HC.out (fun j hj => by have := HOb.out j hj; omega))
            have HB6 := hid (HB5.out.trans (HC.out.to_below HOg.out HB5.out.size))
            have e : (Hi.bl ++ l).length = H.n := by rw [HNn.out, List.length_append]; rfl
            have rok := ROK.out
            rw [e] at rok
            obtain ⟨s, L, HNm, RNm, HSu, RSu, HLn⟩ := last_of HM6.out (OK.out.det rok.tr) RM6.out rok HNa.out n
            obtain ⟨hp, hhp⟩ : ∃ hp, H.hb = hp := ⟨_, rfl⟩
            rw [hhp] at HNm HSu ⊢
            clear HX HC HM5 RM5 HB5 e rok hhp HNn HNa OK ROK HOb HOg HI HE HO5 HB35 HM6 RM6
            obtain ⟨w6, rfl⟩ : ∃ w6, w6 = wr := ⟨_, rfl⟩
            go_wp2_with fail
            refine (HSu.out _ (Below.refl _ _)).mono ?_
            rintro e w7 ⟨sv, rfl, hown, hb7⟩
            have HS7 := hid hown
            have HB7 := hid hb7
            obtain ⟨sa, sc, rfl⟩ := own_form hown
            clear hown hb7
            go_wp2_with fail
            go_loopw [113] (fun i W => ∃ k : Nat, k ≤ L.length ∧ i = .int .i64 k ∧ Hid (Below w6.heap.size w6 W) ∧ Hid (∃ bs xs, w6.heap.size ≤ bs ∧ W.ownsRow bs 3 1 (.slice sa L.length sc) L.length xs)) (fun i _ => L.length - (intOf i).toNat)
            case atStart => exact ⟨0, by omega, rfl, HB7, _, _, Nat.le_refl _, HS7.out⟩
            case round =>
              obtain ⟨k, hk, rfl, HC, HX⟩ := hrel
              by_cases hlt : k < L.length
              · obtain ⟨bs, xs, hbs, hx⟩ := HX
                obtain ⟨g, cap, e, hbg, hgl, hc⟩ := own_cells hx (by omega)
                obtain ⟨rfl, -, rfl⟩ := Value.slice.inj e
                obtain ⟨⟨u, c0⟩, f0⟩ := hc k (by omega)
                have hki : (k : Int) < (L.length : Int) := by omega
                have hln := HLn.out
                have HC2 := hid (HC.out.setCell (p := ⟨g, k, none⟩) (show w6.heap.size ≤ g by omega) (.int .i64 (-9)))
                have HX2 := hid (owns_set hx k (.int .i64 (-9)))
                have HBs := hid hbs
                clear hc e hx HC
                go_wp2_with fail
                go_roundw
                case rel => exact ⟨k + 1, by omega, by go_num, HC2, _, _, HBs.out, HX2.out⟩
                case measure => simp [intOf]; omega
              · obtain rfl : k = L.length := by omega
                have HBc := HC
                have HBd := hid (Below.refl w6.heap.size w6)
                clear HX HC
                go_wp2_with (first | (go_at_call 21; refine (HNm.out _ (by first | exact HBc.out | exact HBd.out | exact (by repeat' first | with_reducible exact Below.refl _ _ | with_reducible assumption | with_reducible refine belows_drewN ?_ _ | with_reducible refine Below.drew ?_ | with_reducible refine Below.setCell ?_ ?_ _ | with_reducible refine Below.alloc ?_ ?_ _ | omega | (simp; done) | (simp; omega)))).mono ?_; rintro e w' ⟨rfl, rfl⟩) | (go_at_call 24; refine (RNm.out _ (by first | exact HBc.out | exact HBd.out | exact (by repeat' first | with_reducible exact Below.refl _ _ | with_reducible assumption | with_reducible refine belows_drewN ?_ _ | with_reducible refine Below.drew ?_ | with_reducible refine Below.setCell ?_ ?_ _ | with_reducible refine Below.alloc ?_ ?_ _ | omega | (simp; done) | (simp; omega)))).mono ?_; rintro e w' ⟨rfl, rfl⟩) | (go_at_call 22; refine (HSu.out _ (by first | exact HBc.out | exact HBd.out | exact (by repeat' first | with_reducible exact Below.refl _ _ | with_reducible assumption | with_reducible refine belows_drewN ?_ _ | with_reducible refine Below.drew ?_ | with_reducible refine Below.setCell ?_ ?_ _ | with_reducible refine Below.alloc ?_ ?_ _ | omega | (simp; done) | (simp; omega)))).mono ?_; rintro e wa ⟨va, rfl, hown, hb⟩; have HIa := hid (Kit.isS_of_owns hown (by have := HLn.out; omega)); obtain ⟨aa, ac, rfl⟩ := own_form hown; clear hown; have HBn := hid (belows (show Below w6.heap.size w6 _ from (by first | exact HBc.out | exact HBd.out | exact (by repeat' first | with_reducible exact Below.refl _ _ | with_reducible assumption | with_reducible refine belows_drewN ?_ _ | with_reducible refine Below.drew ?_ | with_reducible refine Below.setCell ?_ ?_ _ | with_reducible refine Below.alloc ?_ ?_ _ | omega | (simp; done) | (simp; omega)))) hb (Below.size (show Below w6.heap.size w6 _ from (by first | exact HBc.out | exact HBd.out | exact (by repeat' first | with_reducible exact Below.refl _ _ | with_reducible assumption | with_reducible refine belows_drewN ?_ _ | with_reducible refine Below.drew ?_ | with_reducible refine Below.setCell ?_ ?_ _ | with_reducible refine Below.alloc ?_ ?_ _ | omega | (simp; done) | (simp; omega)))))); (first | clear HBc | skip); have HBc := HBn; clear HBn hb) | (go_at_call 26; refine (RSu.out _ (by first | exact HBc.out | exact HBd.out | exact (by repeat' first | with_reducible exact Below.refl _ _ | with_reducible assumption | with_reducible refine belows_drewN ?_ _ | with_reducible refine Below.drew ?_ | with_reducible refine Below.setCell ?_ ?_ _ | with_reducible refine Below.alloc ?_ ?_ _ | omega | (simp; done) | (simp; omega)))).mono ?_; rintro e wb ⟨vb, rfl, hown, hb⟩; have HIb := hid (Kit.isS_of_owns hown (by have := HLn.out; omega)); have HIc := hid (HIa.out.below hb (Nat.le_refl _)); obtain ⟨ba, bc, rfl⟩ := own_form hown; clear hown; have HBn := hid (belows (show Below w6.heap.size w6 _ from (by first | exact HBc.out | exact HBd.out | exact (by repeat' first | with_reducible exact Below.refl _ _ | with_reducible assumption | with_reducible refine belows_drewN ?_ _ | with_reducible refine Below.drew ?_ | with_reducible refine Below.setCell ?_ ?_ _ | with_reducible refine Below.alloc ?_ ?_ _ | omega | (simp; done) | (simp; omega)))) hb (Below.size (show Below w6.heap.size w6 _ from (by first | exact HBc.out | exact HBd.out | exact (by repeat' first | with_reducible exact Below.refl _ _ | with_reducible assumption | with_reducible refine belows_drewN ?_ _ | with_reducible refine Below.drew ?_ | with_reducible refine Below.setCell ?_ ?_ _ | with_reducible refine Below.alloc ?_ ?_ _ | omega | (simp; done) | (simp; omega)))))); (first | clear HBc | skip); have HBc := HBn; clear HBn hb) | (go_at_call 25; refine (eqI_any _ _ _ _ HIc.out HIb.out).mono ?_; rintro e wc ⟨rfl, hb⟩; have HBn := hid (belows (show Below w6.heap.size w6 _ from (by first | exact HBc.out | exact HBd.out | exact (by repeat' first | with_reducible exact Below.refl _ _ | with_reducible assumption | with_reducible refine belows_drewN ?_ _ | with_reducible refine Below.drew ?_ | with_reducible refine Below.setCell ?_ ?_ _ | with_reducible refine Below.alloc ?_ ?_ _ | omega | (simp; done) | (simp; omega)))) hb (Below.size (show Below w6.heap.size w6 _ from (by first | exact HBc.out | exact HBd.out | exact (by repeat' first | with_reducible exact Below.refl _ _ | with_reducible assumption | with_reducible refine belows_drewN ?_ _ | with_reducible refine Below.drew ?_ | with_reducible refine Below.setCell ?_ ?_ _ | with_reducible refine Below.alloc ?_ ?_ _ | omega | (simp; done) | (simp; omega)))))); (first | clear HBc | skip); have HBc := HBn; clear HBn hb))
                go_ret
                exact ⟨by simp, belows HB6.out HBc.out HB6.out.size⟩
      · have HE := hid he
        have hne : (Hi.err l != 0) = true := by simpa using he
        obtain ⟨kk, hk⟩ : ∃ kk, Hi.err l = kk := ⟨_, rfl⟩
        have HK := hid hk
        have HN := hid (New_no HI.out HS.out he)
        rw [hk] at hne HN
        clear he hk HO HOb HOg
        go_wp2_with fail
        refine HN.out.mono ?_
        rintro e w4 ⟨rfl, hb4⟩
        have HB4 := hid (belows HB3.out hb4 HB3.out.size)
        clear hb4 HN HI HB3
        go_wp2_with fail
        refine (HRN.out _ HB4.out).mono ?_
        rintro e w5 ⟨v, he2, hb5, h3, -⟩
        obtain rfl := h3 HE.out
        rw [HK.out] at he2
        subst he2
        have HB5 := hid (belows HB4.out hb5 HB4.out.size)
        clear hb5 h3 HB4 HRN HE HK
        go_wp2
        go_ret
        exact ⟨by simp, HB5.out⟩
end Go.Proofs.Ythjcnlgebkaonaa
namespace Go.Proofs.Ythjcnlgebkaonaa.hierNoneCard
open Go.ChangeShapes Go.WideShapes Go.ChangeAt Go.RowKit
theorem own : ownKnob Try.prog.godebug = none := by kernel_rfl
set_option maxRecDepth 100000 in
theorem contract (H : Type) (enc : TypeId × Value → H) (W : World) (base : Nat) (args : Array Value) (ds gs : List (DataW H)) (before : List MemPlace)
    (hval : ∀ (j : Nat) t v, Try.f6.params[j]? = some t → args[j]? = some v → Value.okWide Try.prog W .any base t v)
    (hW : DataW.Whole enc Try.prog Try.f6.params.toList Rows.hierNoneSpec.vars false W args.toList ds gs before)
    (hsz : (DataW.weightsEach Try.prog (Try.f6.params.toList ++ (OpenSpec.ofChange Rows.hierNoneSpec).bare.plain.varTypes Try.prog) (ds ++ gs)).all (· ≤ reachBytes) = true) :
    Calls Try.prog 6 args W fun e W' => ∃ v, e = .returned v ∧ Rows.hierNoneSpec.post enc Try.prog Try.f6 false true false false W args v W' := by
  have hW' := hW
  obtain ⟨p, q, hA0, hV, rfl, hfz, hnd⟩ := hW
  have hA : DataW.TrodAll enc Try.prog W 0 (fun _ => true) true Try.f6.params.toList args.toList ds p := hA0
  rw [Try.params6] at hA hval hsz
  obtain ⟨v0, vs0, d0, ds0, p0, q0, hargs, rfl, rfl, h0, r0⟩ := trodAll_cons hA
  obtain ⟨v1, vs1, d1, ds1, p1, q1, rfl, rfl, rfl, h1, r1⟩ := trodAll_cons r0
  obtain ⟨rfl, rfl, rfl⟩ := trodAll_nil r1
  obtain rfl : args = #[v0, v1] := by cases args; simp_all
  obtain ⟨rfl, rfl⟩ := trodVars_none hV
  obtain ⟨x0, wx0, wg0, wh0⟩ := open_linesb (hval 0 22 v0 rfl rfl) h0 (weights_eachT (j := 0) (t := 22) (d := d0) rfl rfl hsz)
  obtain ⟨x1, rfl, rfl, rfl, wx1⟩ := open_int Try.underlying3 (hval 1 3 v1 rfl rfl) h1
  refine (none_law wx0 wg0 (by omega) x1).mono fun e W' ⟨he, hb⟩ => ?_
  subst he
  exact ⟨_, rfl, Kit.law_post rfl rfl Try.underlying4 (by kernel_rfl) (by decide +kernel) hW' rfl hb⟩
theorem reads (os : Os) {H : Type} (enc : TypeId × Value → H) : ∃ places, DataW.whole enc Try.prog ((World.holding Try.prog os ⟨#[], #[], []⟩).forCall (fun _ _ => 0) ⟨#[], #[.slice none 0 0, .int .i64 0], []⟩).memory Try.f6.params.toList Rows.hierNoneSpec.vars false (#[.slice none 0 0, .int .i64 0] : Array Value).toList 8 = some ([.nil, .lit (.int .i64 0)], [], places) :=
  ⟨[], by kernel_rfl⟩
theorem laid_met (os : Os) : laidMet Try.prog Rows.hierNoneRow.laid ((World.holding Try.prog os ⟨#[], #[], []⟩).forCall (fun _ _ => 0) ⟨#[], #[.slice none 0 0, .int .i64 0], []⟩).memory :=
  laidMet_of_run' 8 (by kernel_rfl) (by kernel_rfl)
set_option maxRecDepth 100000 in
theorem lifted (os : Os) (started : os.Started) (H : Type) (enc : TypeId × Value → H) (F : Stop.Interp) :
    ReturnsInHanded {} Try.checked os 6 .any ((OpenSpec.ofChange Rows.hierNoneSpec).preRow enc Try.prog Try.f6 Rows.hierNoneRow.domain false Rows.hierNoneRow.laid) (((OpenSpec.ofChange Rows.hierNoneSpec).at F).post enc Try.prog Try.f6 false true false false) := by
  obtain ⟨places, hx⟩ := reads os enc
  refine returnsInHanded_of_row (C := Try.checked) (s := (OpenSpec.ofChange Rows.hierNoneSpec)) own started (by kernel_rfl) Try.func6
    (witness_row_at (enc := enc) (C := Try.checked) false (World.holding Try.prog os ⟨#[], #[], []⟩) #[.slice none 0 0, .int .i64 0] rfl (by kernel_rfl) (by kernel_rfl) (by kernel_rfl)
      (OpenSpec.preRow_of_cond 8 hx (by kernel_rfl) (fun k hk => by cases hk) (by kernel_rfl) (laid_met os))) ?_
  intro W base args ds gs before hval hW _ _ hsz _ _ _
  exact contract H enc W base args ds gs before hval hW hsz
theorem proved : Rows.HierNoneSaid :=
  OpenClaim.holds_of_cond 6 Try.f6 rfl rfl rfl rfl rfl rfl rfl ⟨rfl, rfl, rfl, rfl, rfl⟩ rfl rfl rfl rfl rfl (by kernel_rfl) Try.func6 (by kernel_rfl)
    (of_decide_eq_true (by kernel_rfl)) (by unfold Func.isWrapper; first | (rw [if_pos (by decide +kernel)]; kernel_rfl) | (rw [if_neg (by decide +kernel)]; exact ⟨rfl, rfl⟩))
    (fun os started H enc _ F => by rw [OpenClaim.pre_eq_preRow]; exact lifted os started H enc F)
end Go.Proofs.Ythjcnlgebkaonaa.hierNoneCard
namespace Go.Proofs.Ythjcnlgebkaonaa
theorem all_asks : Rows.HierAsksSaid := hierAsksCard.proved
theorem all_none : Rows.HierNoneSaid := hierNoneCard.proved
end Go.Proofs.Ythjcnlgebkaonaa

/- Contracts of the document's One and Walk at any bytes. -/
import Derived.Test.YtihklojiionanaaDoorRoB
import Derived.Test.YtihklojiionanaaDoorOpQ
namespace Go.Proofs.YtihklojiionanaaDoor
open Go.RowKit

set_option maxRecDepth 100000 in
theorem rone_any (bs : List UInt8) (v : Value) (p : Int) (w : World) (hb : IsB w v bs) :
    Calls Tryd.prog 24 #[v, .int .i64 p] w fun e w' => e = .returned (oneV (Op1.one bs p)) ∧ Below w.heap.size w w' := by
  unfold Op1.one
  by_cases h0 : p < 0 ∨ (bs.length : Int) ≤ p
  · rw [if_pos h0]
    obtain ⟨a, cap, rfl⟩ := hb.len
    exact rone_out a _ cap p w h0
  · rw [if_neg h0]
    obtain ⟨k, rfl⟩ := Int.eq_ofNat_of_zero_le (show 0 ≤ p by omega)
    have hk : k < bs.length := by omega
    have hn := hb.1
    rcases hb.2 with ⟨rfl, -⟩ | ⟨b, o, cap, rfl, hcap, hlt, hc⟩
    · simp at hk
    · have hc0 := hc k hk
      simp only [Int.toNat_natCast]
      have h8 := Op1.at8_lt bs k
      by_cases hop : Op1.isOp (Op1.at8 bs k) = false
      · rw [if_pos hop]
        exact rone_noop b o _ cap k _ w hk h8 hc0 hop
      · rw [if_neg hop]
        have hop' : Op1.isOp (Op1.at8 bs k) = true := by simpa using hop
        have hf8 := Op1.formOf_le (Op1.at8 bs k)
        obtain ⟨f, hf⟩ : ∃ f, f = Op1.formOf (Op1.at8 bs k) := ⟨_, rfl⟩
        have hsz : Op1.szOf (Op1.at8 bs k) = 1 + Op1.bh f := by unfold Op1.szOf; rw [hop', hf]; rfl
        have hins : Op1.insAt bs k = ⟨k, Op1.at8 bs k, (Op1.abOf f k (Op1.at8 bs (k + 1)) (Op1.at8 bs (k + 2))).1, (Op1.abOf f k (Op1.at8 bs (k + 1)) (Op1.at8 bs (k + 2))).2⟩ := by unfold Op1.insAt; rw [hf]
        rw [← hf] at hf8
        rw [hsz, hins]
        by_cases hcut : (bs.length : Int) - k < ((1 + Op1.bh f : Nat) : Int)
        · rw [if_pos hcut]
          exact rone_cut b o _ cap k _ f _ w hk hn h8 hc0 hop' hf.symm (by omega) rfl (by omega)
        · rw [if_neg hcut]
          have h188 : Op1.at8 bs k = 188 ↔ f = 8 := by
            have hr := (Op1.isOp_range hop').2
            rw [hf]
            exact (show ∀ k, k < 200 → (k = 188 ↔ Op1.formOf ((k : Nat) : Int) = 8) by decide +kernel) (Op1.at8 bs k) (by omega)
          simp only [h188]
          have h1 := fun h => hc (k + 1) h
          have h2 := fun h => hc (k + 2) h
          have p8 := Op1.at8_lt bs (k + 1)
          have q8 := Op1.at8_lt bs (k + 2)
          have all : f = 0 ∨ f = 1 ∨ f = 2 ∨ f = 3 ∨ f = 4 ∨ f = 5 ∨ f = 6 ∨ f = 7 ∨ f = 8 := by omega
          rcases all with rfl | rfl | rfl | rfl | rfl | rfl | rfl | rfl | rfl
          · rw [show Op1.bh 0 = 0 by decide +kernel] at hcut ⊢
            rw [if_neg (by omega)]
            have := rone_f0 b o _ cap k _ w (by omega) hn h8 hc0 hop' hf.symm
            simpa [Op1.abOf] using this
          · rw [show Op1.bh 1 = 1 by decide +kernel] at hcut ⊢
            rw [if_neg (by omega)]
            have := rone_f1 b o _ cap k _ _ w (by omega) hn h8 hc0 p8 (h1 (by omega)) hop' hf.symm
            simpa [Op1.abOf, Int.add_assoc] using this
          · rw [show Op1.bh 2 = 1 by decide +kernel] at hcut ⊢
            rw [if_neg (by omega)]
            have := rone_f2 b o _ cap k _ _ w (by omega) hn h8 hc0 p8 (h1 (by omega)) hop' hf.symm
            simpa [Op1.abOf, Int.add_assoc] using this
          · rw [show Op1.bh 3 = 2 by decide +kernel] at hcut ⊢
            rw [if_neg (by omega)]
            have := rone_f3 b o _ cap k _ _ _ w (by omega) hn h8 hc0 p8 (h1 (by omega)) q8 (h2 (by omega)) hop' hf.symm
            simpa [Op1.abOf, Int.add_assoc] using this
          · rw [show Op1.bh 4 = 1 by decide +kernel] at hcut ⊢
            rw [if_neg (by omega)]
            have := rone_f4 b o _ cap k _ _ w (by omega) hn h8 hc0 p8 (h1 (by omega)) hop' hf.symm
            simpa [Op1.abOf, Int.add_assoc] using this
          · rw [show Op1.bh 5 = 2 by decide +kernel] at hcut ⊢
            rw [if_neg (by omega)]
            have := rone_f5 b o _ cap k _ _ _ w (by omega) hn h8 hc0 p8 (h1 (by omega)) q8 (h2 (by omega)) hop' hf.symm
            simpa [Op1.abOf, Int.add_assoc] using this
          · rw [show Op1.bh 6 = 2 by decide +kernel] at hcut ⊢
            rw [if_neg (by omega)]
            have := rone_f6 b o _ cap k _ _ _ w (by omega) hn h8 hc0 p8 (h1 (by omega)) q8 (h2 (by omega)) hop' hf.symm
            simpa [Op1.abOf, Int.add_assoc] using this
          · rw [show Op1.bh 7 = 2 by decide +kernel] at hcut ⊢
            rw [if_neg (by omega)]
            have := rone_f7 b o _ cap k _ _ _ w (by omega) hn h8 hc0 p8 (h1 (by omega)) q8 (h2 (by omega)) hop' hf.symm
            simpa [Op1.abOf, Int.add_assoc] using this
          · rw [show Op1.bh 8 = 1 by decide +kernel] at hcut ⊢
            by_cases e10 : Op1.at8 bs (k + 1) = 10
            · rw [if_neg (by omega)]
              have := rone_f8a b o _ cap k _ _ w (by omega) hn h8 hc0 p8 (h1 (by omega)) hop' hf.symm e10
              simpa [Op1.abOf, Int.add_assoc, e10] using this
            · by_cases e11 : Op1.at8 bs (k + 1) = 11
              · rw [if_neg (by omega)]
                have := rone_f8b b o _ cap k _ _ w (by omega) hn h8 hc0 p8 (h1 (by omega)) hop' hf.symm e11
                simpa [Op1.abOf, Int.add_assoc, e11] using this
              · rw [if_pos ⟨rfl, e10, e11⟩]
                exact rone_f8c b o _ cap k _ _ w (by omega) hn h8 hc0 p8 (h1 (by omega)) hop' hf.symm e10 e11
/-- What the document's Walk leaves. -/
def RWalkPost (bs : List UInt8) (w : World) (e : Ending) (w' : World) : Prop :=
  ∃ (v : Value) (l : List Op1.Ins) (p : Nat) (er : Int), e = .returned (.tuple #[v, .int .i64 er]) ∧ Op1.Pre bs l p ∧ Op1.errAt bs p ≠ 0 ∧ (er = 0 ↔ p = bs.length) ∧ (er ≠ 0 → er = Op1.errAt bs p) ∧ OwnI w' w.heap.size v l ∧ Below w.heap.size w w'
set_option maxRecDepth 100000 in
set_option maxHeartbeats 400000 in
theorem rwalk_any (bs : List UInt8) (v : Value) (w : World) (hb : IsB w v bs) (hsz : bs.length * 32 ≤ 140737488355328) :
    Calls Tryd.prog 25 #[v] w (RWalkPost bs w) := by
  have HB := hid hb
  have hlen := hb.1
  obtain ⟨a, cap, hv⟩ := hb.len
  subst hv
  clear hb
  obtain ⟨i0, hi, hz0, hz1, hz2⟩ := info_parts A.info35
  go_enter Tryd.func25, Tryd.ntmps25
  go_wp2
  go_loopw [4, 5] (fun v i wr => ∃ (l : List Op1.Ins) (p : Nat), i = .int .i64 p ∧ Op1.Pre bs l p ∧ OwnI wr w.heap.size v l ∧ Below w.heap.size w wr) (fun _ i _ => bs.length - (intOf i).toNat)
  case atStart => exact ⟨[], 0, rfl, .nil, nilI _ _, (by repeat' first | with_reducible exact Below.refl _ _ | with_reducible assumption | with_reducible refine belows_drewN ?_ _ | with_reducible refine Below.drew ?_ | with_reducible refine Below.setCell ?_ ?_ _ | with_reducible refine Below.alloc ?_ ?_ _ | omega | (simp; done) | (simp; omega))⟩
  case round =>
    obtain ⟨l, p, rfl, hpre, hown, hbl⟩ := hrel
    have hpl := hpre.le
    by_cases hlt : p < bs.length
    · have H1 := hid (fun W (h : Below wr.heap.size wr W) => rone_any bs _ p W ((HB.out.below hbl (Nat.le_refl _)).below h (Nat.le_refl _)))
      by_cases he : Op1.errAt bs p = 0
      · obtain ⟨ho, hn1, hn2⟩ := Op1.one_ok he
        rw [ho] at H1
        obtain ⟨x, hx⟩ : ∃ x, x = Op1.insAt bs p := ⟨_, rfl⟩
        rw [← hx] at H1
        unfold oneV insV at H1
        have HE := hid he
        have HPre := hid hpre
        have HX := hid hx
        have hlen2 : l.length ≤ bs.length := by omega
        have hlen3 : l.length < bs.length := by omega
        clear he ho hpre hx
        obtain ⟨q, hq⟩ : ∃ q, q = Op1.nxt bs p := ⟨_, rfl⟩
        rw [← hq] at H1 hn1 hn2
        have HQ := hid hq
        clear hq
        go_wp2_with (first
          | (go_at_call 24; refine (H1.out _ (by repeat' first | with_reducible exact Below.refl _ _ | with_reducible assumption | with_reducible refine belows_drewN ?_ _ | with_reducible refine Below.drew ?_ | with_reducible refine Below.setCell ?_ ?_ _ | with_reducible refine Below.alloc ?_ ?_ _ | omega | (simp; done) | (simp; omega))).mono ?_; rintro e w' ⟨rfl, hb⟩; have hown2 := Kit.owns_below hown hb (Nat.le_refl _))
          | (at_builtin; refine wpList_append_own _ rfl (.tmp 24) (.tmp 26) 30 rfl w.heap.size 35 i0 _ 4 32 Tryd.underlying30 hi hz0 hz1 hz2 rfl (by decide) _ l.length (insCells l) rfl ((hown2.alloc _).alloc _) ⟨w'.heap.size + 1, 0, none⟩ 1 1 [.int .i64 x.p, .int .i64 x.op, .int .i64 x.a, .int .i64 x.b] rfl rfl ?c1 ?c2 ?c3 ?c4 ?c5 ?_))
        case c1 =>
          intro j u hj
          match j, hj with
          | 0, hj => simp at hj; subst hj; simp [Addr.add, go_sem]
          | 1, hj => simp at hj; subst hj; simp [Addr.add, go_sem]
          | 2, hj => simp at hj; subst hj; simp [Addr.add, go_sem]
          | 3, hj => simp at hj; subst hj; simp [Addr.add, go_sem]
        case c2 => intro u hu; simp at hu; rcases hu with rfl | rfl | rfl | rfl <;> rfl
        case c3 => unfold maxLen; omega
        case c4 => omega
        case c5 => have := hbl.size; have := hb.size; simp; omega
        · intro v' w1 hown' hgrow _
          have hbw : Below w.heap.size w w1 := Kit.below_grown (belows hbl (hb.mono (Nat.le_refl _)) hbl.size |>.alloc (by have := hbl.size; have := hb.size; omega) _ |>.alloc (by have := hbl.size; have := hb.size; simp; omega) _) hgrow (by have := hbl.size; have := hb.size; simp; omega) (Kit.own_base hown)
          have hown3 : OwnI w1 w.heap.size v' (l ++ [x]) := by
            unfold OwnI
            rw [insCells_snoc]
            simpa [insC] using hown'
          clear hown' hgrow hown hown2 hb hbl
          go_wp2
          go_roundw
          case rel => exact ⟨l ++ [x], q, rfl, by rw [HX.out, HQ.out]; exact HPre.out.snoc HE.out, hown3, hbw⟩
          case measure => simp [intOf]; omega
      · have ho := Op1.one_err he
        rw [ho] at H1
        have hb1 : (Op1.errAt bs p != 0) = true := by simpa using he
        unfold oneV insV Op1.noIns at H1
        obtain ⟨er, her⟩ : ∃ er, er = Op1.errAt bs p := ⟨_, rfl⟩
        rw [← her] at H1 hb1
        have HF : Hid (Op1.Pre bs l p ∧ Op1.errAt bs p ≠ 0 ∧ (er = 0 ↔ p = bs.length) ∧ (er ≠ 0 → er = Op1.errAt bs p)) := ⟨hpre, he, ⟨fun h => absurd (her ▸ h) he, fun h => by omega⟩, fun _ => her⟩
        clear he ho hpre her
        go_wp2_with (go_at_call 24; refine (H1.out _ (by repeat' first | with_reducible exact Below.refl _ _ | with_reducible assumption | with_reducible refine belows_drewN ?_ _ | with_reducible refine Below.drew ?_ | with_reducible refine Below.setCell ?_ ?_ _ | with_reducible refine Below.alloc ?_ ?_ _ | omega | (simp; done) | (simp; omega))).mono ?_; rintro e w' ⟨rfl, hb⟩)
        go_ret2
        have hbw := belows hbl hb hbl.size
        have hz1 := hbl.size
        have hz2 := hb.size
        exact ⟨_, _, _, _, rfl, HF.out.1, HF.out.2.1, HF.out.2.2.1, HF.out.2.2.2, (Kit.owns_below hown hb (Nat.le_refl _)).alloc _, (by repeat' first | with_reducible exact Below.refl _ _ | with_reducible assumption | with_reducible refine belows_drewN ?_ _ | with_reducible refine Below.drew ?_ | with_reducible refine Below.setCell ?_ ?_ _ | with_reducible refine Below.alloc ?_ ?_ _ | omega | (simp; done) | (simp; omega))⟩
    · have hend : p = bs.length := by omega
      subst hend
      have HPre := hid hpre
      clear hpre
      go_wp2
      go_ret2
      exact ⟨_, _, _, _, rfl, HPre.out, by rw [Op1.errAt_end (Nat.le_refl _)]; decide, ⟨fun _ => rfl, fun _ => rfl⟩, fun h => absurd rfl h, hown, hbl⟩
end Go.Proofs.YtihklojiionanaaDoor

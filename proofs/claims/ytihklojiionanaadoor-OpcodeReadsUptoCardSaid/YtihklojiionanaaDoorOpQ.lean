/- Contract of Decode. -/
import Derived.Test.YtihklojiionanaaDoorOpP
import Derived.OwnWalk
namespace Go.Proofs.YtihklojiionanaaDoor
open Go.RowKit

/-- A list of instructions in memory of its own. -/
def OwnI (w : World) (base : Nat) (v : Value) (l : List Op1.Ins) : Prop := w.ownsRow base 35 4 v l.length (insCells l)
/-- What Decode leaves. -/
def DecPost (bs : List UInt8) (w : World) (e : Ending) (w' : World) : Prop :=
  ∃ (v : Value) (l : List Op1.Ins) (er : Int), e = .returned (.tuple #[v, .int .i64 er]) ∧ Op1.DecOut bs l er ∧ OwnI w' w.heap.size v l ∧ Below w.heap.size w w'
theorem nilI (w : World) (base : Nat) : OwnI w base (.slice none 0 0) [] := ⟨rfl, .inl ⟨rfl, rfl⟩⟩
theorem insCells_snoc (l : List Op1.Ins) (x : Op1.Ins) : insCells (l ++ [x]) = insCells l ++ insC x := by unfold insCells; simp
theorem A.info35 : (Tryd.prog.info? 35).map (fun i => (i.zero, i.size, i.bytes)) = some (some (.agg #[.int .i64 0, .int .i64 0, .int .i64 0, .int .i64 0]), 4, 32) := by kernel_rfl

set_option maxRecDepth 100000 in
set_option maxHeartbeats 400000 in
theorem decode_any (bs : List UInt8) (v : Value) (w : World) (ht : Tabs w) (hb : IsB w v bs) :
    Calls Tryd.prog 21 #[v] w (DecPost bs w) := by
  have HB := hid hb
  have HT := hid ht
  have hlen := hb.1
  obtain ⟨a, cap, hv⟩ := hb.len
  subst hv
  clear hb ht
  obtain ⟨i0, hi, hz0, hz1, hz2⟩ := info_parts A.info35
  by_cases h1 : 4096 < bs.length
  · have hd : decide (4096 < (bs.length : Int)) = true := by simp; omega
    go_enter Tryd.func21, Tryd.ntmps21
    go_wp2
    go_ret2
    exact ⟨_, _, _, rfl, .long h1, nilI _ _, (by repeat' first | with_reducible exact Below.refl _ _ | with_reducible assumption | with_reducible refine belows_drewN ?_ _ | with_reducible refine Below.drew ?_ | with_reducible refine Below.setCell ?_ ?_ _ | with_reducible refine Below.alloc ?_ ?_ _ | omega | (simp; done) | (simp; omega))⟩
  · have hd : decide (4096 < (bs.length : Int)) = false := by simp; omega
    by_cases h2 : bs.length = 0
    · have hd2 : ((bs.length : Int) == 0) = true := by rw [beq_iff_eq]; omega
      have H2 := hid h2
      clear h2
      go_enter Tryd.func21, Tryd.ntmps21
      go_wp2
      go_ret2
      exact ⟨_, _, _, rfl, .none H2.out, nilI _ _, (by repeat' first | with_reducible exact Below.refl _ _ | with_reducible assumption | with_reducible refine belows_drewN ?_ _ | with_reducible refine Below.drew ?_ | with_reducible refine Below.setCell ?_ ?_ _ | with_reducible refine Below.alloc ?_ ?_ _ | omega | (simp; done) | (simp; omega))⟩
    · have hd2 : ((bs.length : Int) == 0) = false := by rw [beq_eq_false_iff_ne]; omega
      have hle : bs.length ≤ 4096 := by omega
      have hpos : 0 < bs.length := by omega
      clear h1 h2
      go_enter Tryd.func21, Tryd.ntmps21
      go_wp2
      go_loopw [4, 5] (fun v i wr => ∃ (l : List Op1.Ins) (p : Nat), i = .int .i64 p ∧ Op1.Pre bs l p ∧ OwnI wr w.heap.size v l ∧ Below w.heap.size w wr) (fun _ i _ => bs.length - (intOf i).toNat)
      case atStart => exact ⟨[], 0, rfl, .nil, nilI _ _, (by repeat' first | with_reducible exact Below.refl _ _ | with_reducible assumption | with_reducible refine belows_drewN ?_ _ | with_reducible refine Below.drew ?_ | with_reducible refine Below.setCell ?_ ?_ _ | with_reducible refine Below.alloc ?_ ?_ _ | omega | (simp; done) | (simp; omega))⟩
      case round =>
        obtain ⟨l, p, rfl, hpre, hown, hbl⟩ := hrel
        by_cases hlt : p < bs.length
        · have H1 := hid (fun W (h : Below wr.heap.size wr W) => one_any bs _ p W ((HT.out.below hbl HT.out.size).below h (HT.out.below hbl HT.out.size).size) ((HB.out.below hbl (Nat.le_refl _)).below h (Nat.le_refl _)))
          by_cases he : Op1.errAt bs p = 0
          · obtain ⟨ho, hn1, hn2⟩ := Op1.one_ok he
            rw [ho] at H1
            obtain ⟨x, hx⟩ : ∃ x, x = Op1.insAt bs p := ⟨_, rfl⟩
            rw [← hx] at H1
            unfold oneV insV at H1
            have hpl := hpre.le
            have HE := hid he
            have HPre := hid hpre
            have HX := hid hx
            have hlen2 : l.length ≤ 4096 := by omega
            clear he ho hpre hx
            obtain ⟨q, hq⟩ : ∃ q, q = Op1.nxt bs p := ⟨_, rfl⟩
            rw [← hq] at H1 hn1 hn2
            have HQ := hid hq
            clear hq
            go_wp2_with (first
              | (go_at_call 23; refine (H1.out _ (by repeat' first | with_reducible exact Below.refl _ _ | with_reducible assumption | with_reducible refine belows_drewN ?_ _ | with_reducible refine Below.drew ?_ | with_reducible refine Below.setCell ?_ ?_ _ | with_reducible refine Below.alloc ?_ ?_ _ | omega | (simp; done) | (simp; omega))).mono ?_; rintro e w' ⟨rfl, hb⟩; have hown2 := Kit.owns_below hown hb (Nat.le_refl _))
              | (at_builtin; refine wpList_append_own _ rfl (.tmp 29) (.tmp 31) 30 rfl w.heap.size 35 i0 _ 4 32 Tryd.underlying30 hi hz0 hz1 hz2 rfl (by decide) _ l.length (insCells l) rfl ((hown2.alloc _).alloc _) ⟨w'.heap.size + 1, 0, none⟩ 1 1 [.int .i64 x.p, .int .i64 x.op, .int .i64 x.a, .int .i64 x.b] rfl rfl ?c1 ?c2 ?c3 ?c4 ?c5 ?_))
            case c1 =>
              intro j u hj
              match j, hj with
              | 0, hj => simp at hj; subst hj; simp [Addr.add, go_sem]
              | 1, hj => simp at hj; subst hj; simp [Addr.add, go_sem]
              | 2, hj => simp at hj; subst hj; simp [Addr.add, go_sem]
              | 3, hj => simp at hj; subst hj; simp [Addr.add, go_sem]
            case c2 => intro u hu; simp at hu; rcases hu with rfl | rfl | rfl | rfl <;> rfl
            case c3 => unfold maxLen; omega
            case c4 => omega
            case c5 => have := hbl.size; have := hb.size; simp; omega
            · intro v' w1 hown' hgrow _
              have hbw : Below w.heap.size w w1 := Kit.below_grown (belows hbl (hb.mono (Nat.le_refl _)) hbl.size |>.alloc (by have := hbl.size; have := hb.size; omega) _ |>.alloc (by have := hbl.size; have := hb.size; simp; omega) _) hgrow (by have := hbl.size; have := hb.size; simp; omega) (Kit.own_base hown)
              have hown3 : OwnI w1 w.heap.size v' (l ++ [x]) := by
                unfold OwnI
                rw [insCells_snoc]
                simpa [insC] using hown'
              clear hown' hgrow hown hown2 hb hbl
              go_wp2
              go_roundw
              case rel => exact ⟨l ++ [x], q, rfl, by rw [HX.out, HQ.out]; exact HPre.out.snoc HE.out, hown3, hbw⟩
              case measure => simp [intOf]; omega
          · have ho := Op1.one_err he
            rw [ho] at H1
            have hb1 : (Op1.errAt bs p != 0) = true := by simpa using he
            unfold oneV insV Op1.noIns at H1
            obtain ⟨er, her⟩ : ∃ er, er = Op1.errAt bs p := ⟨_, rfl⟩
            rw [← her] at H1 hb1
            have hbad := Op1.DecOut.bad hle hpre hlt he
            rw [← her] at hbad
            have HBad := hid hbad
            clear he ho hpre her hbad
            go_wp2_with (go_at_call 23; refine (H1.out _ (by repeat' first | with_reducible exact Below.refl _ _ | with_reducible assumption | with_reducible refine belows_drewN ?_ _ | with_reducible refine Below.drew ?_ | with_reducible refine Below.setCell ?_ ?_ _ | with_reducible refine Below.alloc ?_ ?_ _ | omega | (simp; done) | (simp; omega))).mono ?_; rintro e w' ⟨rfl, hb⟩)
            go_ret2
            have hbw := belows hbl hb hbl.size
            have hz1 := hbl.size
            have hz2 := hb.size
            exact ⟨_, _, _, rfl, HBad.out, nilI _ _, (by repeat' first | with_reducible exact Below.refl _ _ | with_reducible assumption | with_reducible refine belows_drewN ?_ _ | with_reducible refine Below.drew ?_ | with_reducible refine Below.setCell ?_ ?_ _ | with_reducible refine Below.alloc ?_ ?_ _ | omega | (simp; done) | (simp; omega))⟩
        · have hpl := hpre.le
          have HPre := hid hpre
          have hend : p = bs.length := by omega
          subst hend
          have hlq : l.length ≤ 140737488355328 := by omega
          have HJ := hid (fun W (h : Below wr.heap.size wr W) => jumpsLand_any l u4 bs.length W ((HT.out.below hbl HT.out.size).below h (HT.out.below hbl HT.out.size).size) ((Kit.isS_of_owns hown hlq).below h (Nat.le_refl _)) hpl.2.2 hlen)
          cases hL : landB l bs.length with
          | true =>
            rw [hL] at HJ
            have hok := Op1.DecOut.ok hle hpos hpre hL
            have HOk := hid hok
            clear hpl hL hpre hok
            go_wp2_with (go_at_call 43; refine (HJ.out _ (by repeat' first | with_reducible exact Below.refl _ _ | with_reducible assumption | with_reducible refine belows_drewN ?_ _ | with_reducible refine Below.drew ?_ | with_reducible refine Below.setCell ?_ ?_ _ | with_reducible refine Below.alloc ?_ ?_ _ | omega | (simp; done) | (simp; omega))).mono ?_; rintro e w' ⟨rfl, hb⟩)
            go_ret2
            exact ⟨_, _, _, rfl, HOk.out, Kit.owns_below hown hb (Nat.le_refl _), belows hbl hb hbl.size⟩
          | false =>
            rw [hL] at HJ
            have hok := Op1.DecOut.jump hle hpos hpre hL
            have HOk := hid hok
            clear hpl hL hpre hok
            go_wp2_with (go_at_call 43; refine (HJ.out _ (by repeat' first | with_reducible exact Below.refl _ _ | with_reducible assumption | with_reducible refine belows_drewN ?_ _ | with_reducible refine Below.drew ?_ | with_reducible refine Below.setCell ?_ ?_ _ | with_reducible refine Below.alloc ?_ ?_ _ | omega | (simp; done) | (simp; omega))).mono ?_; rintro e w' ⟨rfl, hb⟩)
            go_ret2
            exact ⟨_, _, _, rfl, HOk.out, nilI _ _, belows hbl hb hbl.size⟩
end Go.Proofs.YtihklojiionanaaDoor

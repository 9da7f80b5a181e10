/- Contract of Walk's iterator. -/
import Derived.RangeFuncNested
import Derived.RangeFuncBound
import Derived.RangeFuncCalls
import Derived.RangeFuncLeaves
import Derived.Shelf.Abstract
import Derived.Shelf.RegionOpen
import Derived.WalkKit
import Derived.OwnWalkIn
import Derived.TacticsInMore
import Derived.LoopNIn
import Derived.LoopIn
import Derived.Test.YtihklojiionanaaDoorOpZ
namespace Go.Proofs.YtihklojiionanaaDoor
open Go.RowKit

attribute [local go_sem] Oper.semAt_some

theorem abides_new {β : Type} {B : Nat} {J : β → World → Prop} (h : AbidesFrom B J) {s : β} {W W' : World} (hs : J s W) (hb : Below W.heap.size W W') : J s W' :=
  h s W W' none hs ⟨hb.os, hb.tape, hb.output, hb.size, fun i hi _ => hb.block i hi⟩ (fun r e => by cases e)
def insE (x : Op1.Ins) : Array Value := #[.int .i64 x.p, insV x]

set_option maxRecDepth 100000 in
set_option maxHeartbeats 2000000 in
theorem walk1_stops (bs : List UInt8) (v : Value) (Bs n : Nat) (w : World) (hn : 1 ≤ n) (ht : Tabs w) (hb : IsB w v bs) (hBs : Bs < w.heap.size) (hc : w.cell? ⟨Bs, 0, none⟩ = some v) :
    SeqStopsK Fence.wide n Tryd.prog 47 #[.pointer (some ⟨Bs, 0, none⟩)] insE (Below w.heap.size) (fun ys => ∃ p, Op1.Pre bs ys p ∧ Op1.errAt bs p ≠ 0) (fun ys => ∃ p, Op1.Pre bs ys p) bs.length w := fun l J Jx W hW hJ _ hY h0 => by
  have HT := hid (fun X (h : Below w.heap.size w X) => ht.below h ht.size)
  have HB := hid (fun X (h : Below w.heap.size w X) => hb.below h (Nat.le_refl _))
  have hc0 := fun X (h : Below w.heap.size w X) => (h.cell (p := ⟨Bs, 0, none⟩) hBs).trans hc
  have HC := hid hc0
  obtain ⟨a, cap, hv⟩ := hb.len
  subst hv
  clear hb ht hc0 hc
  refine callsIn_of_wp Tryd.func47 rfl trivial ?_ rfl
  simp only [Tryd.ntmps47, List.size_toArray, List.length_cons, List.length_nil, Nat.reduceAdd, Nat.reduceSub, Array.replicate_succ, Array.replicate_zero, List.push_toArray, List.append_toArray, List.nil_append, List.cons_append]
  gi_wp2
  gi_loopw [3] (fun i wr => ∃ (p : Nat) (ls : List Op1.Ins), i = .int .i64 p ∧ Op1.Pre bs ls p ∧ J ls wr ∧ W.heap.size ≤ wr.heap.size ∧ Below w.heap.size w wr) (fun i _ => bs.length - (intOf i).toNat)
  case atStart => exact ⟨0, [], rfl, .nil, h0, Nat.le_refl _, hW⟩
  case round =>
    obtain ⟨p, ls, rfl, hpre, hJs, hzW, hbl⟩ := hrel
    have hzr := hbl.size
    have hcx := HC.out wr hbl
    have H1 := hid (one_any bs _ p wr (HT.out wr hbl) (HB.out wr hbl))
    have hpl := hpre.le
    have hp1 := hpl.1
    have HPre := hid hpre
    by_cases he : Op1.errAt bs p = 0
    · obtain ⟨ho, hn1, hn2⟩ := Op1.one_ok he
      have hlen : ls.length < bs.length := by omega
      have HY := hid (fun X (h : Below wr.heap.size wr X) => hY ls (Op1.insAt bs p) X (abides_new hJ hJs h) hlen)
      have HPre2 := hid (hpre.snoc he)
      rw [ho] at H1
      have hxp : (Op1.insAt bs p).p = (p : Int) := rfl
      obtain ⟨x, hx⟩ : ∃ x, x = Op1.insAt bs p := ⟨_, rfl⟩
      rw [← hx] at H1 HY HPre2 hxp
      obtain ⟨q, hq⟩ : ∃ q, q = Op1.nxt bs p := ⟨_, rfl⟩
      rw [← hq] at H1 HPre2 hn1 hn2
      obtain ⟨xp, xop, xa, xb⟩ := x
      dsimp only at hxp
      subst hxp
      unfold oneV insV at H1
      unfold insE insV at HY
      clear he ho hx hq hpre hpl
      gi_wp2_with (refine ⟨trivial, ?_⟩; gi_at_call 23; refine (callsIn_wide.2 H1.out).mono ?_; rintro e w1 ⟨rfl, hb1⟩; have hz1 := hb1.size; obtain ⟨fn, tmps, assign, body, hy, hR⟩ := HY.out (w1.alloc (.cells #[.int .i64 p, .int .i64 xop, .int .i64 xa, .int .i64 xb] 35)) (hb1.alloc hz1 _); dsimp only at hy)
      refine hR.mono ?_
      rintro e W3 (⟨rfl, hJ3, hk3⟩ | ⟨rfl, hJx3⟩)
      · gi_wp2
        go_roundw
        case rel => exact ⟨q, _, rfl, HPre2.out, hJ3, (by have := hk3.size; simp only [World.size_alloc] at this; omega), (hbl.trans ((hb1.alloc hz1 _).mono hzr)).trans hk3⟩
        case measure => simp [intOf]; omega
      · gi_wp2
        refine bodyPost_ret (results_none rfl _ _ _) rfl ?_
        exact ⟨⟨_, rfl⟩, .inr ⟨_, ⟨q, HPre2.out⟩, hJx3⟩⟩
    · have ho := Op1.one_err he
      rw [ho] at H1
      have hb1 : (Op1.errAt bs p != 0) = true := by simpa using he
      unfold oneV insV Op1.noIns at H1
      have HJ := hid (fun X (h : Below wr.heap.size wr X) => abides_new hJ hJs h)
      have HE := hid he
      have HF : Hid (∀ X, Below wr.heap.size wr X → ∃ ys, (∃ p, Op1.Pre bs ys p ∧ Op1.errAt bs p ≠ 0) ∧ J ys X) := fun X h => ⟨ls, ⟨p, HPre.out, HE.out⟩, HJ.out X h⟩
      obtain ⟨er, her⟩ : ∃ er, er = Op1.errAt bs p := ⟨_, rfl⟩
      rw [← her] at H1 hb1
      clear he ho hpl hpre her HE HJ
      gi_wp2_with (refine ⟨trivial, ?_⟩; gi_at_call 23; refine (callsIn_wide.2 H1.out).mono ?_; rintro e w1 ⟨rfl, hb2⟩; have hz1 := hb2.size)
      refine ⟨fun _ h => (by cases h), ?_⟩
      gi_wp2
      refine bodyPost_ret (results_none rfl _ _ _) rfl ?_
      exact ⟨⟨_, rfl⟩, .inl (HF.out _ (hb2.alloc hz1 _))⟩
end Go.Proofs.YtihklojiionanaaDoor

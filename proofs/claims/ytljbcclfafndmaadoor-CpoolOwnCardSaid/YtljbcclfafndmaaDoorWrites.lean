/- CpoolWrites: what Put and Check answer is what the document's do. -/
import Derived.Test.YtljbcclfafndmaaDoorDi
import Derived.Test.YtljbcclfafndmaaDoorDj
import Derived.Test.YtljbcclfafndmaaDoorDd
import Derived.Test.YtljbcclfafndmaaDoorOpn
namespace Go.Proofs.YtljbcclfafndmaaDoor
open Go.RowKit

/-- The bytes that an answer of Put holds. -/
def outB (l : List Cp.C) (er : Int) : List Int := if er = 0 then putB l else []
theorem putB_len {l : List Cp.C} (h : CkIs l 0) : (putB l).length ≤ 2 + 300 * 4096 := by
  have h1 := ck_size h
  have h2 := encT_len h1.2 (told l l.length)
  have h3 := told_len l l.length
  unfold putB
  rw [List.length_append, bytesN_len]
  omega
theorem put_out {l : List Cp.C} {w : World} {e : Ending} {w' : World} (h : PutPost l w e w') : ∃ er v, CkIs l er ∧ e = .returned (.tuple #[v, .int .i64 er]) ∧ Kit.IsS 1 w' v (outB l er).length ((outB l er).map (Value.int .u8)) ∧ Below w.heap.size w w' := by
  obtain ⟨er, hck, h1, h2, hb⟩ := h
  by_cases h0 : er = 0
  · obtain ⟨v, he, ho⟩ := h2 h0
    subst h0
    have hn := putB_len hck
    refine ⟨0, v, hck, he, ?_, hb⟩
    show Kit.IsS 1 w' v (putB l).length ((putB l).map (Value.int .u8))
    exact Kit.isS_of_owns ho (by omega)
  · refine ⟨er, _, hck, h1 h0, ?_, hb⟩
    unfold outB
    rw [if_neg h0]
    exact ⟨by simp, by simp, .inl ⟨rfl, none, 0, rfl⟩⟩
set_option maxRecDepth 100000 in
set_option maxHeartbeats 2000000 in
theorem writes_law (l : List Cp.C) (v : Value) (w : World) (ht : Tabs w) (hv : Kit.IsS 5 w v l.length (l.flatMap cL)) (hg : ∀ c ∈ l, GoodC c) :
    Calls Tryd.prog 4 #[v] w fun e w' => e = .returned (.bool true) ∧ Below w.heap.size w w' := by
  have hs0 := ht.size
  have HT := hid (fun W (h : Below w.heap.size w W) => ht.below h ht.size)
  have HV := hid (fun W (h : Below w.heap.size w W) => hv.below h (Nat.le_refl _))
  have HG1 := hid (fun c (h : c ∈ l) => (hg c h).s)
  have HG2 := hid (fun c (h : c ∈ l) => (⟨(hg c h).s, (hg c h).n⟩ : c.s.size ≤ 140737488355328 ∧ I6 c.n))
  obtain ⟨a, cap, rfl⟩ := hv.len
  clear ht hv hg
  go_enter Tryd.func4, Tryd.ntmps4
  go_wp2_with (first
    | (go_at_call 14; refine (put_any l _ _ (HT.out _ (by repeat' first | with_reducible exact Below.refl _ _ | with_reducible assumption | with_reducible refine belows_drewN ?_ _ | with_reducible refine Below.drew ?_ | with_reducible refine Below.setCell ?_ ?_ _ | with_reducible refine Below.alloc ?_ ?_ _ | omega | (simp; done) | (simp; omega))) (HV.out _ (by repeat' first | with_reducible exact Below.refl _ _ | with_reducible assumption | with_reducible refine belows_drewN ?_ _ | with_reducible refine Below.drew ?_ | with_reducible refine Below.setCell ?_ ?_ _ | with_reducible refine Below.alloc ?_ ?_ _ | omega | (simp; done) | (simp; omega))) HG1.out).mono ?_; intro e w1 hp; obtain ⟨er, v1, hck, rfl, hi1, B1⟩ := put_out hp; have HI1 := hid hi1; have HK1 := hid hck; clear hp hi1 hck; obtain ⟨a1, cap1, hv1⟩ := HI1.out.len; subst hv1)
    | (go_at_call 15; refine (rput_any l _ _ (HV.out _ B1) HG2.out).mono ?_; intro e w2 hp; obtain ⟨er2, v2, hck, rfl, hi2, hb2⟩ := put_out hp; obtain rfl := CkIs.det hck HK1.out; have B2 := belows B1 hb2 B1.size; have HI2 := hid hi2; have HJ1 := hid (HI1.out.below hb2 (Nat.le_refl _)); clear hp hi2 hck; obtain ⟨a2, cap2, hv2⟩ := HI2.out.len; subst hv2)
    | (go_at_call 12; refine (live_any _ (HT.out _ B2)).mono ?_; rintro e w3 ⟨rfl, hb3⟩; have B3 := belows B2 hb3 B2.size)
    | (go_at_call 16; refine (bequal_any _ _ _ _ (HJ1.out.below hb3 (Nat.le_refl _)) (HI2.out.below hb3 (Nat.le_refl _))).mono ?_; rintro e w4 ⟨rfl, rfl⟩)
    | (go_at_call 17; refine (check_any l _ _ (HT.out _ B3) (HV.out _ B3) HG1.out).mono ?_; rintro e w5 ⟨er5, hck, rfl, hb5⟩; obtain rfl := CkIs.det hck HK1.out; have B5 := belows B3 hb5 B3.size; clear hck)
    | (go_at_call 18; refine (rcheck_any l _ _ (HV.out _ B5) HG2.out).mono ?_; rintro e w6 ⟨er6, hck, rfl, hb6⟩; obtain rfl := CkIs.det hck HK1.out; have B6 := belows B5 hb6 B5.size; clear hck))
  all_goals go_ret
  all_goals exact ⟨by simp, B6⟩
end Go.Proofs.YtljbcclfafndmaaDoor

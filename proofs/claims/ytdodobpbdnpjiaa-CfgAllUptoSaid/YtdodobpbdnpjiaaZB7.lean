/- Own texts for the claim, part 7. -/
import Derived.Test.YtdodobpbdnpjiaaZB6
import Derived.Test.YtdodobpbdnpjiaaRows
import Derived.ProofKit
import Derived.OpenShut
import Derived.ChangeSlices
namespace Go.Proofs.Ytdodobpbdnpjiaa
open Go Go.RowKit
open Kit (natVals)
open Cf (Op5 Ca opL caL)
attribute [local go_sem] Oper.semAt_some
set_option maxRecDepth 100000
set_option maxHeartbeats 2000000
theorem goOn0_any {w : World} {gb : Nat} {ba : Option Addr} {bc : Nat} {a1 a2 a3 a4 a5 cv : Value} (h : BX w gb #[.slice ba 0 bc, a1, a2, a3, a4, a5] 56) :
    Calls Try.prog 23 #[.pointer (some ⟨gb, 0, none⟩), cv] w fun e w' => e = .returned (.tuple #[]) ∧ w' = w := by
  have k0 := h.cell 0
  clear h
  go_enter Try.func23, Try.ntmps23
  go_wp2
  go_loopw [13] (fun v wr => v = .int .i64 0 ∧ wr = w) (fun _ _ => 0)
  case atStart => exact ⟨rfl, rfl⟩
  case round =>
    obtain ⟨rfl, rfl⟩ := hrel
    go_wp2
    refine bodyPost_end (results_none rfl _ _ _) rfl ?_
    exact ⟨rfl, rfl⟩
theorem catch0_any {cb : Nat} {cov pv : Value} {P : List Nat} (hP : Cf.Pl (Cf.adr []) 0 P) {base gb ob : Nat} {F : Nat → Int} {bv a2 a3 a4 a5 cvv : Value} {C : List Ca} {w : World} (h : BX w gb #[bv, .slice (some ⟨ob, 0, none⟩) 0 0, a2, a3, a4, a5] 56) (hof : w.ownsRow base 3 1 (.slice (some ⟨ob, 0, none⟩) 0 0) 0 (ivals F 0)) (hlow : ∀ X, Below w.heap.size w X → Code X cb cov pv [] P ∧ CaS X cvv C) (hm : C.length ≤ 1048576) :
    Calls Try.prog 24 #[.pointer (some ⟨gb, 0, none⟩), .pointer (some ⟨cb, 0, none⟩), cvv] w fun e w' => e = .returned (.tuple #[]) ∧ Below w.heap.size w w' := by
  have k1 := h.cell 1
  have HI := hid h
  have HE := hid (ends_any (L := []) hP (hlow w (Below.refl _ _)).1 hof (by decide))
  have HS := hid (fun W (hb : Below w.heap.size w W) => spans_any (L := []) (k := 0) (B := fun _ => false) hP (hlow W hb).1 (hlow W hb).2 (Kit.owns_below hof hb (Nat.le_refl _)) (by decide) hm (fun i hi => by cases hi))
  clear h hlow hP hof
  simp only [List.length_nil] at HE HS
  go_enter Try.func24, Try.ntmps24
  go_upto_block 1 with (first | (go_at_call 47; go_loud (refine HE.out.mono ?_; rintro e w1 ⟨rfl, E, hE⟩; have hb1 := hE.2.2.1; have k1' := (HI.out.below hb1).cell 1; clear hE)) | (go_at_call 48; go_loud (refine (HS.out _ hb1).mono ?_; rintro e w2 ⟨v2, S, rfl, hS⟩; have HSp := hid hS; obtain ⟨sa, scap, rfl⟩ := own_form hS.1; clear hS)))
  have hS0 : S.length = 0 := by
    rcases S with _ | ⟨s, S⟩
    · rfl
    · obtain ⟨t, f, e, -, ht, -⟩ := HSp.out.2.2.1 s (by simp)
      cases ht
  have hb2 : Below w.heap.size w w2 := belows hb1 HSp.out.2.2.2 hb1.size
  clear HSp HS HE hb1 k1' k1
  rw [hS0]
  go_loopw [28] (fun v wr => v = .int .i64 0 ∧ wr = w2) (fun _ _ => 0)
  case atStart => exact ⟨rfl, rfl⟩
  case round =>
    obtain ⟨rfl, rfl⟩ := hrel
    go_wp2
    refine bodyPost_end (results_none rfl _ _ _) rfl ?_
    exact ⟨rfl, hb2⟩
theorem walk0_any {w : World} {gb k : Nat} {ba : Option Addr} {bc : Nat} {fv : Value} (h : BX w gb #[.slice ba k bc, fv, Nil, Nil, Nil, Nil] 56) (hk : k = 0) :
    Calls Try.prog 25 #[.pointer (some ⟨gb, 0, none⟩)] w fun e w' => e = .returned (.tuple #[]) ∧ Below gb w w' ∧ ∃ sv, BX w' gb #[.slice ba k bc, fv, Nil, sv, Nil, Nil] 56 := by
  have hmk := fun W => run_make_row' (P := Try.prog) 51 4 (.bool false) 1 (by kernel_rfl) (by kernel_rfl) rfl .i64 .i64 k (by omega) (by omega) W
  have k0 := h.cell 0
  have hgs := h.sz
  obtain ⟨w1, hw1⟩ : ∃ w1, w1 = (((w.alloc (.cells #[.pointer (some ⟨gb, 0, none⟩)] 29)).alloc (.cells (madeCells #[.bool false] k) 4)).alloc (.cells #[.slice (some ⟨w.heap.size + 1, 0, none⟩) k k] 51)).alloc (.cells #[enF (w.heap.size + 1 + 1) w.heap.size (w.heap.size + 1 + 1 + 1)] 92) := ⟨_, rfl⟩
  have hb1 : Below w.heap.size w w1 := by rw [hw1]; exact (by repeat' first | with_reducible exact Below.refl _ _ | with_reducible assumption | with_reducible refine belows_drewN ?_ _ | with_reducible refine Below.drew ?_ | with_reducible refine Below.setCell ?_ ?_ _ | with_reducible refine Below.alloc ?_ ?_ _ | omega | (simp; done) | (simp; omega))
  have hs1 : w1.heap.size = w.heap.size + 4 := by rw [hw1]; simp
  have bx0 := ((((BX.new w #[.pointer (some ⟨gb, 0, none⟩)] 29).below ((Below.refl _ _).alloc (Nat.le_refl _) (.cells (madeCells #[.bool false] k) 4))).below ((Below.refl _ _).alloc (Nat.le_refl _) (.cells #[.slice (some ⟨w.heap.size + 1, 0, none⟩) k k] 51))).below ((Below.refl _ _).alloc (Nat.le_refl _) (.cells #[enF (w.heap.size + 1 + 1) w.heap.size (w.heap.size + 1 + 1 + 1)] 92)))
  rw [← hw1] at bx0
  have HX := hid bx0
  have HB1 := hid hb1
  have HG1 := hid (h.below hb1)
  have HN : Hid (k = 0) := hk
  have hst : (store ⟨w.heap.size + 1 + 1 + 1, 0, none⟩ (.func (.func 49) #[] #[.pointer (some ⟨w.heap.size + 1 + 1, 0, none⟩), .pointer (some ⟨w.heap.size, 0, none⟩), .pointer (some ⟨w.heap.size + 1 + 1 + 1, 0, none⟩)])).run Try.prog ((((w.alloc (.cells #[.pointer (some ⟨gb, 0, none⟩)] 29)).alloc (.cells (madeCells #[.bool false] k) 4)).alloc (.cells #[.slice (some ⟨w.heap.size + 1, 0, none⟩) k k] 51)).alloc (.cells #[.nilFunc] 92)) = .ok () w1 := by
    have bxn := BX.new (((w.alloc (.cells #[.pointer (some ⟨gb, 0, none⟩)] 29)).alloc (.cells (madeCells #[.bool false] k) 4)).alloc (.cells #[.slice (some ⟨w.heap.size + 1, 0, none⟩) k k] 51)) #[.nilFunc] 92
    simp only [World.size_alloc] at bxn
    have c0 := bxn.cell 0
    have c1 : World.cell? _ ⟨w.heap.size + 1 + 1 + 1, 0, none⟩ = some .nilFunc := c0
    rw [run_store _ _ _ _ _ rfl, c1]
    dsimp only
    rw [bxn.frozen 0, hw1]
    simp only [Bool.false_eq_true, if_false]
    rw [World.setCell_alloc_at _ _ _ _ _ (by simp only [World.size_alloc])]
    rfl
  have HW1 := hid hw1
  have HR := hid (rev_any (v := Nil) (l := []) (w := w1) (base := 0) ⟨rfl, .inl ⟨rfl, rfl⟩⟩ (by decide))
  clear hw1 bx0 h hb1 hk
  go_enter Try.func25, Try.ntmps25
  go_upto_region 4 with fail
  have x0 : w1.cell? ⟨w.heap.size, 0, none⟩ = some (.pointer (some ⟨gb, 0, none⟩)) := HX.out.cell 0
  have g0 : w1.cell? ⟨gb, 0, none⟩ = some (.slice ba k bc) := HG1.out.cell 0
  have g2 : w1.cell? ⟨gb, 2, none⟩ = some Nil := HG1.out.cell 2
  clear k0 hst hmk
  have hkd : ¬ (0 < k) := by have := HN.out; omega
  go_upto_region 7 with (go_at_call 50; go_loud (refine HR.out.mono ?_; rintro e w6 ⟨rfl, -, c6⟩; have C6 : Hid (Chg (fun _ => False) w1 w6) := c6.mono (fun i _ e => by cases e); clear c6))
  have b6 := HG1.out.chg C6.out id
  have xx6 := HX.out.chg C6.out id
  have x6 := xx6.cell 0
  have g6 : w6.cell? ⟨gb, 0, none⟩ = some (.slice ba k bc) := b6.cell 0
  have hz6 := C6.out.size
  have hzx : w.heap.size < w6.heap.size := by omega
  have hzg : gb < w6.heap.size := by omega
  have HB6 := hid b6
  have HX6 := hid xx6
  clear x0 g0 g2 b6 xx6
  go_region_held3 (fun w' => w'.cell? ⟨w.heap.size, 0, none⟩ = some (.pointer (some ⟨gb, 0, none⟩)) ∧ w'.cell? ⟨gb, 0, none⟩ = some (.slice ba k bc))
    (first | exact ⟨x6, g6⟩ | exact ⟨x7, g70⟩ | exact ⟨x8, g8⟩ | go_keep)
    (first | (go_at_call 51; go_loud (refine (repeat_any (c := -1) (by first | (simp; done) | (simp; rw [World.cell?_alloc_at _ _ _ _ (by simp)]; rfl)) (by have := HN.out; omega)).mono ?_; rintro e w7 ⟨rfl, cur, h7, hI7, hb7⟩; have hb67 : Below w6.heap.size w6 w7 := belows (a := w6) (by repeat' first | with_reducible exact Below.refl _ _ | with_reducible assumption | with_reducible refine belows_drewN ?_ _ | with_reducible refine Below.drew ?_ | with_reducible refine Below.setCell ?_ ?_ _ | with_reducible refine Below.alloc ?_ ?_ _ | omega | (simp; done) | (simp; omega)) hb7 (by simp); clear h7 hI7; have b7 := HB6.out.below hb67; have xx7 := HX6.out.below hb67; have x7 := xx7.cell 0; have g70 : w7.cell? ⟨gb, 0, none⟩ = some (.slice ba k bc) := b7.cell 0; have g7 := b7.cell 3; have f7 := b7.frozen 3; have HT := hid (box_set b7 3 (.slice (some ⟨w6.heap.size + 1, 0, none⟩) k k)); have hc78 : Chg (fun i => i = gb) w7 (w7.setCell ⟨gb, 3, none⟩ (.slice (some ⟨w6.heap.size + 1, 0, none⟩) k k)) := (Chg.refl (fun i => i = gb) w7).set (p := ⟨gb, 3, none⟩) (.inl rfl) _; have HC8 := hid (((C6.out.mono (T := fun i => i = gb) (fun i _ e => e.elim)).below hb67).trans hc78 (fun i e => .inl e)); have x8 := ((xx7.chg hc78 (by intro e; omega)).cell 0 : World.cell? _ ⟨w.heap.size, 0, none⟩ = some (.pointer (some ⟨gb, 0, none⟩))); have g8 := (BX.cell HT.out 0 : World.cell? _ ⟨gb, 0, none⟩ = some (.slice ba k bc)); have hz7 := hb7.size; clear x6 g6 b7 xx7 hc78 hb7 hb67)))
  go_upto_region 8 with fail
  refine region_named fun W8 hW8 => ?_
  rw [← hW8] at HT HC8
  clear hW8 x8 g8 x7 g70 g7 f7
  have HT2 : Hid (BX W8 gb #[.slice ba k bc, fv, Nil, .slice (some ⟨w6.heap.size + 1, 0, none⟩) k k, Nil, Nil] 56) := HT.out
  have x0 : W8.cell? ⟨w.heap.size, 0, none⟩ = some (.pointer (some ⟨gb, 0, none⟩)) := (HC8.out.cell (p := ⟨w.heap.size, 0, none⟩) (by show w.heap.size < _; omega) (by show ¬ (w.heap.size = gb); omega)).trans (HX.out.cell 0)
  have g2 : W8.cell? ⟨gb, 2, none⟩ = some Nil := HT2.out.cell 2
  clear HT
  go_wp2
  go_loopw [41] (fun v wr => v = .int .i64 0 ∧ wr = W8) (fun _ _ => 0)
  case atStart => exact ⟨rfl, rfl⟩
  case round =>
    obtain ⟨rfl, rfl⟩ := hrel
    go_wp2
    refine bodyPost_end (results_none rfl _ _ _) rfl ?_
    refine ⟨rfl, ?_, _, HT2.out⟩
    exact (HB1.out.mono (by omega)).trans (HC8.out.to_below (fun j e => by omega) (by omega))
theorem turn0_any {w : World} {gb k : Nat} {ba : Option Addr} {bc : Nat} {fv sv : Value} (h : BX w gb #[.slice ba k bc, fv, Nil, sv, Nil, Nil] 56) (hk : k = 0) :
    Calls Try.prog 26 #[.pointer (some ⟨gb, 0, none⟩)] w fun e w' => e = .returned (.tuple #[]) ∧ Below gb w w' ∧ ∃ pv, BX w' gb #[.slice ba k bc, fv, Nil, sv, pv, Nil] 56 := by
  have hmk := fun W => run_make_row' (P := Try.prog) 53 34 (.slice none 0 0) 24 (by kernel_rfl) (by kernel_rfl) rfl .i64 .i64 k (by omega) (by omega) W
  have k0 := h.cell 0
  have k2 := h.cell 2
  have k4 := h.cell 4
  have f4 := h.frozen 4
  simp only [List.getElem?_toArray, List.getElem?_cons_zero, List.getElem?_cons_succ] at k0 k2 k4
  have hgs := h.sz
  have HH := hid h
  have HN : Hid (k = 0) := hk
  clear h hk
  refine (callsIn_wide (n := 5)).1 ?_
  refine callsIn_of_wp_marks Try.func26 rfl trivial ?_ rfl
  refine wpIn_wide.2 ?_
  simp only [Try.ntmps26, List.size_toArray, List.length_cons, List.length_nil, Nat.reduceAdd, Nat.reduceSub, Array.replicate_succ, Array.replicate_zero, List.push_toArray, List.append_toArray, List.nil_append, List.cons_append]
  go_upto_region 1 with fail
  have x0 : (w.alloc (.cells #[.pointer (some ⟨gb, 0, none⟩)] 29)).cell? ⟨w.heap.size, 0, none⟩ = some (.pointer (some ⟨gb, 0, none⟩)) := (BX.new w #[.pointer (some ⟨gb, 0, none⟩)] 29).cell 0
  have g0 : (w.alloc (.cells #[.pointer (some ⟨gb, 0, none⟩)] 29)).cell? ⟨gb, 0, none⟩ = some (.slice ba k bc) := (HH.out.below ((Below.refl _ _).alloc (Nat.le_refl _) _)).cell 0
  obtain ⟨wa, hwa⟩ : ∃ wa, wa = (((w.setCell ⟨gb, 4, none⟩ (.slice (some ⟨w.heap.size + 1, 0, none⟩) k k)).alloc (.cells #[.pointer (some ⟨gb, 0, none⟩)] 29)).alloc (.cells (madeCells #[.slice none 0 0] k) 34)).drew := ⟨_, rfl⟩
  have hca : Chg (fun i => i = gb) w wa := by
    rw [hwa]
    exact (((Chg.refl (fun i => i = gb) w).set (p := ⟨gb, 4, none⟩) (.inl rfl) _).alloc _).alloc _ |>.drew
  have hsa : wa.heap.size = w.heap.size + 2 := by rw [hwa]; simp [World.drew]
  have bga : BX wa gb #[.slice ba k bc, fv, Nil, sv, .slice (some ⟨w.heap.size + 1, 0, none⟩) k k, Nil] 56 := by
    rw [hwa]
    have b0 : BX (w.setCell ⟨gb, 4, none⟩ (.slice (some ⟨w.heap.size + 1, 0, none⟩) k k)) gb #[.slice ba k bc, fv, Nil, sv, .slice (some ⟨w.heap.size + 1, 0, none⟩) k k, Nil] 56 := box_set HH.out 4 (.slice (some ⟨w.heap.size + 1, 0, none⟩) k k)
    exact ((b0.below ((Below.refl _ _).alloc (Nat.le_refl _) _)).below ((Below.refl _ _).alloc (Nat.le_refl _) _)).below (Below.drew (Below.refl _ _))
  have bxa : BX wa w.heap.size #[.pointer (some ⟨gb, 0, none⟩)] 29 := by
    rw [hwa]
    have := BX.new (w.setCell ⟨gb, 4, none⟩ (.slice (some ⟨w.heap.size + 1, 0, none⟩) k k)) #[.pointer (some ⟨gb, 0, none⟩)] 29
    rw [World.size_setCell] at this
    exact (this.below ((Below.refl _ _).alloc (Nat.le_refl _) _)).below (Below.drew (Below.refl _ _))
  have x1 := bxa.cell 0
  have g1 := bga.cell 0
  rw [hwa] at x1 g1
  go_region_held3 (fun w' => w'.cell? ⟨w.heap.size, 0, none⟩ = some (.pointer (some ⟨gb, 0, none⟩)) ∧ w'.cell? ⟨gb, 0, none⟩ = some (.slice ba k bc))
    (first | exact ⟨x0, g0⟩ | exact ⟨x1, g1⟩ | go_keep) (fail)
  rw [← hwa]
  clear hwa x0 g0 x1 g1 k0 k4 f4 k2
  have x0 : wa.cell? ⟨w.heap.size, 0, none⟩ = some (.pointer (some ⟨gb, 0, none⟩)) := bxa.cell 0
  have k2 : wa.cell? ⟨gb, 2, none⟩ = some Nil := bga.cell 2
  go_wp2_with (go_at_call 12; refine (Order_any k2).mono ?_; rintro e w3 ⟨rfl, hw3⟩)
  have hs3 : w3.heap.size = w.heap.size + 3 := by rw [hw3]; simp [hsa]
  have hc3 : Chg (fun i => i = gb) w w3 := by rw [hw3]; exact hca.alloc _
  have bg3 : BX w3 gb #[.slice ba k bc, fv, Nil, sv, .slice (some ⟨w.heap.size + 1, 0, none⟩) k k, Nil] 56 := by rw [hw3]; exact bga.below ((Below.refl _ _).alloc (Nat.le_refl _) _)
  have bx3 : BX w3 w.heap.size #[.pointer (some ⟨gb, 0, none⟩)] 29 := by rw [hw3]; exact bxa.below ((Below.refl _ _).alloc (Nat.le_refl _) _)
  have bo3 : BX w3 (w.heap.size + 2) #[Nil] 34 := by
    rw [hw3, ← hsa]
    exact BX.new wa _ _
  rw [← hw3]
  clear hw3 x0 k2 bga bxa hca hsa
  have hit : ∀ X, Ks (fun i => i < w3.heap.size) w3 X → Kit.IsS 1 X Nil ([] : List Nat).length (natVals []) ∧ X.cell? ⟨w.heap.size + 2, 0, none⟩ = some Nil := fun X hX => by
    refine ⟨⟨rfl, by decide, .inl ⟨rfl, _, _, rfl⟩⟩, ?_⟩
    have : X.cell? ⟨w.heap.size + 2, 0, none⟩ = w3.cell? ⟨w.heap.size + 2, 0, none⟩ := World.cell?_of_block (hX.2 (w.heap.size + 2) (by omega))
    exact this.trans (bo3.cell 0)
  refine (wpIn_wide (n := 5)).1 ?_
  refine wpIn_rangeFunc_ownH rfl (by omega) (gf := 34) (lb := #[.pointer (some ⟨w.heap.size + 2, 0, none⟩)]) (by first | rfl | (simp [hs3]; done)) trivial (enters_of Try.func34 (by kernel_rfl) rfl)
    (order1_stops [] Nil (fun i => i < w3.heap.size) (w.heap.size + 2) (5 - 1) w3 (by omega) (fun k h => h) hit) (fun h k => Ks.trans h k) (Ks.putObj (fun k h => h)) (Below.refl _ _) (fun _ => rfl)
    (fun (pre : List (Tx [])) W => Below w3.heap.size w3 W) (fun _ _ _ => False)
    (fun pre X Y row h hg hr => h.grown hg h.size (fun r e => (hr r e).1)) (fun _ _ _ _ _ h _ _ => h)
    (Below.refl _ _)
    (fun (x : Tx []) a' W => False)
    (fun x a' => Own.from (fun s A B row hs hg hr => hs) _) ?assign ?body ?done ?stop
  case assign =>
    rintro D pre ⟨⟨k', c⟩, hx⟩ W K hI hK
    simp at hx
  case body =>
    rintro D pre ⟨⟨i, a⟩, hx⟩ a' W hD ⟨r, hr⟩ hI hf hlt
    exact hf.elim
  case done =>
    rintro D ys W hD rfl HT hDf
    have HDf := hid hDf
    have HB := hid HT
    have x0 : W.cell? ⟨w.heap.size, 0, none⟩ = some (.pointer (some ⟨gb, 0, none⟩)) := (bx3.below HT).cell 0
    have g4 : W.cell? ⟨gb, 4, none⟩ = some (.slice (some ⟨w.heap.size + 1, 0, none⟩) k k) := (bg3.below HT).cell 4
    clear HT hDf hit
    dsimp only
    go_wp2
    go_loopw [76] (fun v wr => v = .int .i64 0 ∧ wr = W) (fun v _ => 0)
    case atStart => exact ⟨rfl, rfl⟩
    case round =>
      obtain ⟨rfl, rfl⟩ := hrel
      obtain rfl := HN.out
      go_wp2
      refine ⟨by simp, .inl ⟨_, _, rfl, run_takeDeferred HDf.out, ?_⟩⟩
      have hg := grownBy_putObj' wr D (.deferred none)
      have hr : ∀ r, some D = some r → ∃ o : Obj, wr.heap[r]? = some o ∧ o.isCells = false := fun r e => by
        cases e
        exact ⟨_, HDf.out, rfl⟩
      have hcZ : Chg (fun j => j = gb) w (wr.putObj D (.deferred none)) := (hc3.below HB.out).trans (Chg.of_grown (S := fun j => j = D) hg (fun r e => by cases e; rfl)) (fun j e => .inr (by omega))
      exact ⟨.tuple #[], results_none rfl _ _ _, rfl, hcZ.to_below (fun j e => by omega) (by omega), _, bx_non (bg3.below HB.out) hg hr⟩
  case stop =>
    rintro D c' pre W hD - hX hK
    exact hX.elim
/-- A graph of no blocks, as New leaves it. -/
def NewP0 (w w' : World) (gb : Nat) : Prop := w.heap.size ≤ gb ∧ Below w.heap.size w w' ∧ ∃ ba bc fv sv pv, BX w' gb #[.slice ba 0 bc, fv, Nil, sv, pv, Nil] 56
theorem New0_any {w : World} {f : Fc} {C : List Ca} (hO : OpS w f.ov []) (hC : CaS w f.cv C) (hm : C.length ≤ 1048576) :
    Calls Try.prog 6 #[.agg f.cs] w fun e w' => ∃ gb, e = .returned (.pointer (some ⟨gb, 0, none⟩)) ∧ NewP0 w w' gb := by
  have hn : ([] : List Op5).length ≤ 1048576 := by decide
  obtain ⟨oa, ocap, hov⟩ := hO.form
  obtain ⟨ca, ccap, hcv⟩ := Kit.IsS.len hC
  obtain ⟨a0, a1, a2, a3, a4, a5, a6, a7, a8, ov, cv, a11⟩ := f
  dsimp only [Fc.cs] at *
  subst hov
  subst hcv
  simp only [List.length_nil] at hO ⊢
  have hb1 : Below w.heap.size w (w.alloc (.cells #[a0, a1, a2, a3, a4, a5, a6, a7, a8, .slice oa 0 ocap, .slice ca C.length ccap, a11] 28)) := (Below.refl _ _).alloc (Nat.le_refl _) _
  have bf1 := BX.new w #[a0, a1, a2, a3, a4, a5, a6, a7, a8, .slice oa 0 ocap, .slice ca C.length ccap, a11] 28
  have HBA := hid (byAddress_any (hO.below hb1) hn)
  have HC1 := hid (hC.below hb1)
  have HF1 := hid bf1
  have HB1 := hid hb1
  have hz1 : (w.alloc (.cells #[a0, a1, a2, a3, a4, a5, a6, a7, a8, .slice oa 0 ocap, .slice ca C.length ccap, a11] 28)).heap.size = w.heap.size + 1 := by simp
  have x9 := bf1.cell 9
  rw [hz1] at HBA
  simp only [List.length_nil] at HBA
  clear hO hC hb1 bf1
  go_enter Try.func6, Try.ntmps6
  go_upto_region 3 with (go_at_call 20; go_loud (refine HBA.out.mono ?_; rintro e w2 ⟨rfl, P, pv, hcode, hpl, hb2⟩; have HCode := hid hcode; have HPl := hid hpl; have HB2 := hid hb2; clear hcode hpl hb2))
  refine region_named fun w3 hw3 => ?_
  have hb3 : Below w2.heap.size w2 w3 := by rw [hw3]; exact (Below.refl _ _).alloc (Nat.le_refl _) _
  have bg3 : BX w3 w2.heap.size #[Nil, Nil, Nil, Nil, Nil, Nil] 56 := by rw [hw3]; exact BX.new w2 _ _
  have hs3 : w3.heap.size = w2.heap.size + 1 := by rw [hw3]; simp
  clear hw3 x9
  have hz2 := HB2.out.size
  have hCode2 := HCode.out
  have hC2 : CaS w2 (.slice ca C.length ccap) C := HC1.out.below (hz1 ▸ HB2.out)
  have hF2 : BX w2 w.heap.size #[a0, a1, a2, a3, a4, a5, a6, a7, a8, .slice oa 0 ocap, .slice ca C.length ccap, a11] 28 := HF1.out.below (hz1 ▸ HB2.out)
  have HLow := hid (fun X (hX : Below w2.heap.size w2 X) => (⟨hCode2.below hX, hC2.below hX⟩ : Code X _ _ _ [] P ∧ CaS X _ C))
  have hbw2 : Below w.heap.size w w2 := belows HB1.out (hz1 ▸ HB2.out) HB1.out.size
  have HF := hid (find_any (cb := w.heap.size + 1 + 2) (ov := .slice oa 0 ocap) (pv := pv) HPl.out hn)
  have HBG := hid (begins_any HF.out (hCode2.below hb3) (hC2.below hb3) hn hm)
  simp only [List.length_nil] at HBG
  have x10 : w3.cell? ⟨w.heap.size, 10, none⟩ = some (.slice ca C.length ccap) := (hF2.below hb3).cell 10
  have HF2 := hid hF2
  have HG3 := hid bg3
  have HB3 := hid hb3
  have HBW2 := hid hbw2
  have HZ1 := hid hz1
  have HS3 := hid hs3
  clear hCode2 hC2 hF2 hz1 hbw2 bg3 hb3 hz2 hs3
  go_upto_region 4 with (first | (go_at_call 22; go_loud (refine HBG.out.mono ?_; rintro e w4 ⟨rfl, h4⟩; have HCut := hid (cut_any (B := Cf.Bg [] C) (HG3.out.below h4.2.1) (Kit.owns_mono h4.1 (by have := HS3.out; omega)) (Nat.le_refl _) (by decide) (fun h => by omega)); have H4 := hid h4; clear h4)) | (go_at_call 21; go_loud (refine HCut.out.mono ?_; rintro e w5 ⟨rfl, ob, bv, h5⟩; have H5 := hid h5; clear h5)))
  refine region_named fun W5 hW5 => ?_
  rw [← hW5] at H5
  clear hW5
  have hb25 : Below w2.heap.size w2 W5 := (belows HB3.out H4.out.2.1 HB3.out.size).trans H5.out.bel
  have hbl0 := H5.out.gw.bl
  obtain ⟨ba, bc, rfl⟩ := own_form hbl0
  have hG5 : BX W5 w2.heap.size #[.slice ba 0 bc, .slice (some ⟨ob, 0, none⟩) 0 0, Nil, Nil, Nil, Nil] 56 := H5.out.gw.box
  have hs5 : w2.heap.size ≤ W5.heap.size := hb25.size
  have HGO := hid (goOn0_any (cv := .pointer (some ⟨w.heap.size + 1 + 2, 0, none⟩)) hG5)
  have HB25 := hid hb25
  have HG5 := hid hG5
  have x10 : W5.cell? ⟨w.heap.size, 10, none⟩ = some (.slice ca C.length ccap) := (HF2.out.below hb25).cell 10
  have HCA := hid (catch0_any HPl.out hG5 H5.out.gw.of (fun X hX => HLow.out X (belows hb25 hX hs5)) hm)
  clear hb25 hs5 HBG HBA HCut hG5 hbl0
  go_upto_region 5 with (go_at_call 23; go_loud (refine HGO.out.mono ?_; rintro e w6 ⟨rfl, rfl⟩))
  go_upto_region 6 with (go_at_call 24; go_loud (refine HCA.out.mono ?_; rintro e w7 ⟨rfl, hb7⟩; have HB7 := hid hb7; clear hb7))
  clear x10 HCA
  have HWk := hid (walk0_any (HG5.out.below HB7.out) rfl)
  go_upto_region 7 with (go_at_call 25; go_loud (refine HWk.out.mono ?_; rintro e w8 ⟨rfl, hb8, sv, h8⟩; have H8 := hid h8; have HB8 := hid hb8; clear h8 hb8))
  clear HWk
  have HTu := hid (turn0_any H8.out rfl)
  go_wp2_with (go_at_call 26; go_loud (refine HTu.out.mono ?_; rintro e w9 ⟨rfl, hb9, pv9, h9⟩; have H9 := hid h9; have HB9 := hid hb9; clear h9 hb9))
  clear HTu
  go_ret
  exact ⟨_, rfl, HBW2.out.size, HBW2.out.trans (((belows HB25.out HB7.out HB25.out.size).trans HB8.out).trans HB9.out |>.mono HBW2.out.size), _, _, _, _, _, H9.out⟩
end Go.Proofs.Ytdodobpbdnpjiaa
namespace Go.Proofs.Ytdodobpbdnpjiaa
open Go Go.RowKit
namespace Cf
theorem visL_same {E E' : Nat → List Nat} {k m : Nat} (h : ∀ b s, b < k → vis E m b s = vis E' m b s) : ∀ (T : List Nat) (s : List Nat × List Nat), (∀ t ∈ T, t < k) → visL E m T s = visL E' m T s
  | [], _, _ => rfl
  | t :: T, s, hT => by
    rw [visL_cons, visL_cons, h t s (hT t (by simp)), visL_same h T _ (fun x hx => hT x (by simp [hx]))]
theorem vis_same {E E' : Nat → List Nat} {k : Nat} (hE : ∀ b, b < k → E b = E' b) (hc : ∀ b, b < k → ∀ t ∈ E b, t < k) : ∀ (m b : Nat) (s : List Nat × List Nat), b < k → vis E m b s = vis E' m b s
  | 0, _, _, _ => rfl
  | m + 1, b, s, hb => by
    have h := visL_same (vis_same hE hc m) (E b) (b :: s.1, s.2) (hc b hb)
    unfold visL at h
    unfold vis
    by_cases e : b ∈ s.1
    · rw [if_pos e, if_pos e]
    · rw [if_neg e, if_neg e, ← hE b hb]
      dsimp only
      rw [h]
theorem ord_same {E E' : Nat → List Nat} {k : Nat} (hE : ∀ b, b < k → E b = E' b) (hc : ∀ b, b < k → ∀ t ∈ E b, t < k) : ord E k = ord E' k := by
  unfold ord
  by_cases hk : k = 0
  · rw [if_pos hk, if_pos hk]
  · rw [if_neg hk, if_neg hk, vis_same hE hc k 0 _ (by omega)]
/-- begun's operations. -/
def L6 : List Op5 := [⟨0, 3, 0, 0, 0⟩, ⟨1, 32, 1, 0, 4⟩, ⟨2, 3, 0, 0, 0⟩, ⟨3, 37, 0, 0, 0⟩, ⟨4, 3, 0, 0, 0⟩, ⟨5, 37, 0, 0, 0⟩]
theorem L6_cnt : cnt (Bg L6 []) L6.length = 3 := by decide
theorem L6_nx : nxs L6 (Bg L6 []) 0 = [1, 2] := by decide
theorem L6_fr : frI (Bg L6 []) L6.length 2 = 4 := by decide
theorem L6_ord {cl : Nat → List Nat} (hcl : ∀ x, x < cnt (Bg L6 []) L6.length → (cl x).length ≤ 0) (hc : ∀ x, x < cnt (Bg L6 []) L6.length → ∀ t ∈ edg L6 (Bg L6 []) cl x, t < cnt (Bg L6 []) L6.length) : ord (edg L6 (Bg L6 []) cl) (cnt (Bg L6 []) L6.length) = [0, 2, 1] := by
  rw [ord_same (E' := edg L6 (Bg L6 []) (fun _ => [])) (fun b hb => by unfold edg; rw [List.eq_nil_of_length_eq_zero (Nat.le_zero.1 (hcl b hb))]) hc]
  decide
end Cf
end Go.Proofs.Ytdodobpbdnpjiaa
namespace Go.Proofs.Ytdodobpbdnpjiaa
open Go Go.RowKit
open Kit (natVals)
open Cf (Op5)
set_option maxRecDepth 100000 in
set_option maxHeartbeats 400000 in
theorem bclone_some (n : Nat) (xs : List Value) (ad : Addr) (cap : Nat) (w : World) (hx : xs.length = n * 4) (hn : n * 64 ≤ 140737488355328) (hc : ∀ j u, xs[j]? = some u → w.cell? (ad.add j) = some u) (h1c : ∀ u ∈ xs, u.oneCell' = true) : Calls Try.prog 27 #[.slice (some ad) n cap] w (ClonePost 36 4 n xs w) := by
  obtain ⟨i0, hi, hz0, hz1, hz2⟩ := info_parts infoB
  have hnil := fun (W : World) (a : Option Addr) (n c : Nat) => Lib.run_eql_slice_nil (P := Try.prog) W 32 36 a n c 0 0 Try.underlying32
  have hlt : ∀ j u, xs[j]? = some u → (w.alloc (.cells #[] 36)).cell? (ad.add j) = some u := fun j u h => by
    have h2 := hc j u h
    rw [World.cell?_alloc_lt _ _ _ (World.block_lt_of_cell? w _ h2)]
    exact h2
  have HL := hid hlt
  have HLen := hid hx
  have H1 := hid h1c
  clear hc hlt hx h1c
  go_enter Try.func27, Try.ntmps27
  go_wp2_with (at_builtin; go_loud (refine wpList_append_own _ rfl (.tmp 5) (.tmp 6) 32 rfl w.heap.size 36 i0 _ 4 64 Try.underlying32 hi hz0 hz1 hz2 rfl (by decide) _ 0 [] rfl (owns_empty (Nat.le_refl _)) ad n cap xs rfl HLen.out HL.out H1.out (by unfold maxLen; omega) (by omega) (by simp) ?_); intro v1 w1 hown1 hgrow1 _)
  go_ret
  refine ⟨_, rfl, by simpa using hown1, Kit.below_grown (by repeat' first | with_reducible exact Below.refl _ _ | with_reducible assumption | with_reducible refine belows_drewN ?_ _ | with_reducible refine Below.drew ?_ | with_reducible refine Below.setCell ?_ ?_ _ | with_reducible refine Below.alloc ?_ ?_ _ | omega | (simp; done) | (simp; omega)) hgrow1 (by simp) (fun k hk => ?_)⟩
  have : some w.heap.size = some k := hk
  exact Nat.le_of_eq (Option.some.inj this)
theorem bclone_nil (c : Nat) (w : World) : Calls Try.prog 27 #[.slice none 0 c] w (ClonePost 36 4 0 [] w) := by
  have hnil := fun (W : World) (a : Option Addr) (n c : Nat) => Lib.run_eql_slice_nil (P := Try.prog) W 32 36 a n c 0 0 Try.underlying32
  go_enter Try.func27, Try.ntmps27
  go_wp2
  go_ret
  exact ⟨_, rfl, ⟨rfl, .inl ⟨rfl, rfl⟩⟩, (by repeat' first | with_reducible exact Below.refl _ _ | with_reducible assumption | with_reducible refine belows_drewN ?_ _ | with_reducible refine Below.drew ?_ | with_reducible refine Below.setCell ?_ ?_ _ | with_reducible refine Below.alloc ?_ ?_ _ | omega | (simp; done) | (simp; omega))⟩
theorem bclone_any (n : Nat) (xs : List Value) (v : Value) (w : World) (hv : Kit.IsS 4 w v n xs) (hn : n * 64 ≤ 140737488355328) (h1c : ∀ u ∈ xs, u.oneCell' = true) : Calls Try.prog 27 #[v] w (ClonePost 36 4 n xs w) := by
  rcases hv.2.2 with ⟨rfl, a, cap, rfl⟩ | ⟨b, o, cap, rfl, hl, hlt, hc⟩
  · have hxs : xs = [] := List.length_eq_zero_iff.1 (by have := hv.1; omega)
    subst hxs
    cases a with
    | none => exact bclone_nil cap w
    | some ad => exact bclone_some 0 [] ad cap w rfl (by omega) (fun j u h => by simp at h) (fun u h => by cases h)
  · exact bclone_some n xs ⟨b, o, none⟩ cap w hv.1 hn (fun j u h => by rw [Go.WideShapes.add_plain]; exact hc j u h) h1c
/-- Numbers that read as they did, or that are the call's own. -/
def RdN (w W : World) (v : Value) (l : List Nat) : Prop := Kit.IsS 1 w v l.length (natVals l) ∨ W.ownsRow w.heap.size 3 1 v l.length (natVals l)
theorem RdN.is {w W : World} {v : Value} {l : List Nat} (h : RdN w W v l) (hb : Below w.heap.size w W) (hl : l.length ≤ 2000000) : Kit.IsS 1 W v l.length (natVals l) := by
  rcases h with h | h
  · exact h.below hb (Nat.le_refl _)
  · exact Kit.isS_of_owns h (by omega)
theorem RdN.below {w W W' : World} {v : Value} {l : List Nat} (h : RdN w W v l) (hb : Below W.heap.size W W') : RdN w W' v l := by
  rcases h with h | h
  · exact .inl h
  · exact .inr (Kit.owns_below h hb (Nat.le_refl _))
structure BlI (w : World) (lb cap k : Nat) (L : List Op5) (B : Nat → Bool) (cl : Nat → List Nat) (nv cv : Nat → Value) (W : World) : Prop where
  row : W.ownsRow w.heap.size 36 4 (.slice (some ⟨lb, 0, none⟩) k cap) k ((List.range k).flatMap (Cf.bkV B L.length nv cv))
  nx : ∀ x, x < k → RdN w W (nv x) (Cf.nxs L B x)
  ca : ∀ x, x < k → RdN w W (cv x) (cl x)
  bel : Below w.heap.size w W
section
variable {w W W' : World} {lb cap k b : Nat} {L : List Op5} {B : Nat → Bool} {cl : Nat → List Nat} {nv cv : Nat → Value}
theorem BlI.below (h : BlI w lb cap k L B cl nv cv W) (hb : Below W.heap.size W W') : BlI w lb cap k L B cl nv cv W' :=
  ⟨Kit.owns_below h.row hb (Nat.le_refl _), fun x hx => (h.nx x hx).below hb, fun x hx => (h.ca x hx).below hb, belows h.bel hb h.bel.size⟩
theorem BlI.at (h : BlI w lb cap k L B cl nv cv W) (hb : b < k) : W.cell? ⟨lb, b * 4 + 2, none⟩ = some (nv b) ∧ W.cell? ⟨lb, b * 4 + 3, none⟩ = some (cv b) ∧ (∀ i, W.frozen? ⟨lb, i, none⟩ = false) ∧ lb < W.heap.size :=
  ⟨own_at4 h.row (Cf.bkV_len _ _ _ _) hb 2 _ (by omega) rfl, own_at4 h.row (Cf.bkV_len _ _ _ _) hb 3 _ (by omega) rfl, own_frz h.row rfl, Kit.own_lt h.row lb rfl⟩
theorem RdN.set (h : BlI w lb cap k L B cl nv cv W) {v : Value} {l : List Nat} (hr : RdN w W v l) (i : Nat) (u : Value) : RdN w (W.setCell ⟨lb, i, none⟩ u) v l := by
  rcases hr with hr | hr
  · exact .inl hr
  · exact .inr (owns_chg hr ((Chg.refl (fun j => j = lb) W).set (p := ⟨lb, i, none⟩) (.inl rfl) u) (fun j e e2 => own_unlike hr h.row (by decide) j e (by rw [e2]; rfl)))
theorem BlI.setN (h : BlI w lb cap k L B cl nv cv W) (hb : b < k) {v2 : Value} (h2 : W.ownsRow w.heap.size 3 1 v2 (Cf.nxs L B b).length (natVals (Cf.nxs L B b))) : BlI w lb cap k L B cl (upd nv b v2) cv (W.setCell ⟨lb, b * 4 + 2, none⟩ v2) := by
  refine ⟨?_, fun x hx => ?_, fun x hx => (h.ca x hx).set h _ _, Below.setCell h.bel (Kit.own_base h.row lb rfl) _⟩
  · have := owns_set h.row (b * 4 + 2) v2
    rw [rows_set (f := Cf.bkV B L.length nv cv) (f' := Cf.bkV B L.length (upd nv b v2) cv) (s := 4) (Cf.bkV_len _ _ _ _) hb (by omega) (by unfold Cf.bkV; rw [upd_same]; rfl) (fun y _ hy => by unfold Cf.bkV; rw [upd_other _ _ hy])] at this
    exact this
  · by_cases e : x = b
    · subst e
      rw [upd_same]
      exact RdN.set h (.inr h2) _ _
    · rw [upd_other _ _ e]
      exact (h.nx x hx).set h _ _
theorem BlI.setC (h : BlI w lb cap k L B cl nv cv W) (hb : b < k) {v2 : Value} (h2 : W.ownsRow w.heap.size 3 1 v2 (cl b).length (natVals (cl b))) : BlI w lb cap k L B cl nv (upd cv b v2) (W.setCell ⟨lb, b * 4 + 3, none⟩ v2) := by
  refine ⟨?_, fun x hx => (h.nx x hx).set h _ _, fun x hx => ?_, Below.setCell h.bel (Kit.own_base h.row lb rfl) _⟩
  · have := owns_set h.row (b * 4 + 3) v2
    rw [rows_set (f := Cf.bkV B L.length nv cv) (f' := Cf.bkV B L.length nv (upd cv b v2)) (s := 4) (Cf.bkV_len _ _ _ _) hb (by omega) (by unfold Cf.bkV; rw [upd_same]; rfl) (fun y _ hy => by unfold Cf.bkV; rw [upd_other _ _ hy])] at this
    exact this
  · by_cases e : x = b
    · subst e
      rw [upd_same]
      exact RdN.set h (.inr h2) _ _
    · rw [upd_other _ _ e]
      exact (h.ca x hx).set h _ _
end
end Go.Proofs.Ytdodobpbdnpjiaa
namespace Go.Proofs.Ytdodobpbdnpjiaa
open Go Go.RowKit
open Kit (natVals)
open Cf (Op5)
set_option maxRecDepth 100000
set_option maxHeartbeats 1000000
theorem Blocks_any {w : World} {base gb bb cap ob k : Nat} {L : List Op5} {B : Nat → Bool} {nv cv : Nat → Value} {cl : Nat → List Nat} {O : List Nat} {ov sv pv kv : Value} {bs : List (Nat × Nat)} (h : GT w base gb bb cap ob L B k nv cv cl O ov sv pv kv bs) (hk0 : 0 < k) (hk : k ≤ 1048576) (hl : ∀ x, x < k → (cl x).length ≤ 1048576) :
    Calls Try.prog 8 #[.pointer (some ⟨gb, 0, none⟩)] w fun e w' => ∃ lb c nv' cv', e = .returned (.slice (some ⟨lb, 0, none⟩) k c) ∧ BlI w lb c k L B cl nv' cv' w' := by
  have g0 := h.box.cell 0
  have hone : ∀ u ∈ (List.range k).flatMap (Cf.bkV B L.length nv cv), u.oneCell' = true := fun u hu => by
    obtain ⟨x, hx, hu⟩ := List.mem_flatMap.1 hu
    have hx := List.mem_range.1 hx
    obtain ⟨a1, c1, e1⟩ := own_form (h.nx x hx)
    obtain ⟨a2, c2, e2⟩ := own_form (h.ca x hx)
    unfold Cf.bkV at hu
    rw [e1, e2] at hu
    simp only [List.mem_cons, List.not_mem_nil, or_false] at hu
    rcases hu with rfl | rfl | rfl | rfl <;> rfl
  have HCl := hid (bclone_any k _ _ w (Kit.isS_of_owns h.bl (by omega)) (by omega) hone)
  have HH := hid h
  clear h hone
  go_enter Try.func8, Try.ntmps8
  go_upto_region 4 with (go_at_call 27; go_loud (refine HCl.out.mono ?_; rintro e w1 ⟨v1, rfl, ho, hb⟩; have HO := hid ho; have HB := hid hb; clear ho hb))
  have hform : ∃ lb c, v1 = .slice (some ⟨lb, 0, none⟩) k c := by
    rcases HO.out.2 with ⟨-, e⟩ | ⟨g, c, cur, e, -⟩
    · omega
    · exact ⟨g, c, e⟩
  obtain ⟨lb, c, rfl⟩ := hform
  have HI : Hid (BlI w lb c k L B cl nv cv w1) := ⟨HO.out, fun x hx => .inl (Kit.isS_of_owns (HH.out.nx x hx) (by have := Cf.nxs_len L B x; omega)), fun x hx => .inl (Kit.isS_of_owns (HH.out.ca x hx) (by have := hl x hx; omega)), HB.out⟩
  have HL := hid hl
  clear HO HB HCl g0 hl
  go_wp2
  go_loopw [14] (fun v wr => ∃ (i : Nat) (nv cv : Nat → Value), v = .int .i64 (i : Int) ∧ i ≤ k ∧ Hid (BlI w lb c k L B cl nv cv wr)) (fun v _ => k - (intOf v).toNat)
  case atStart => exact ⟨0, nv, cv, rfl, by omega, HI⟩
  case round =>
    clear HI HH
    obtain ⟨i, nv, cv, rfl, hik, HI⟩ := hrel
    by_cases hlt : i < k
    · obtain ⟨c2, -, -, hlb⟩ := HI.out.at hlt
      have HN := hid (iclone_any _ _ (nv i) wr ((HI.out.nx i hlt).is HI.out.bel (by have := Cf.nxs_len L B i; omega)) (by have := Cf.nxs_len L B i; omega) (natVals_one _))
      obtain ⟨nq, hnq⟩ : ∃ q, nv i = q := ⟨_, rfl⟩
      rw [hnq] at HN c2
      clear hnq
      go_upto_region 8 with (go_at_call 14; go_loud (refine HN.out.mono ?_; rintro e w2 ⟨v2, rfl, ho2, hb2⟩; obtain ⟨xa, xc, rfl⟩ := own_form ho2; have hI2 := HI.out.below hb2; have HS := hid (hI2.setN hlt (Kit.owns_mono ho2 HI.out.bel.size)); obtain ⟨d2, -, d4, dlb⟩ := hI2.at hlt; have f2 := d4 (i * 4 + 2); clear hI2 ho2 hb2 d4))
      refine region_named fun W3 hW3 => ?_
      rw [← hW3] at HS
      clear hW3 c2 hlb d2 f2 dlb HN HI
      obtain ⟨-, c3, -, hlb⟩ := HS.out.at hlt
      have hcl := HL.out i hlt
      have HC := hid (iclone_any _ _ (cv i) W3 ((HS.out.ca i hlt).is HS.out.bel (by omega)) (by omega) (natVals_one _))
      obtain ⟨cq, hcq⟩ : ∃ q, cv i = q := ⟨_, rfl⟩
      rw [hcq] at HC c3
      clear hcq hcl
      go_upto_region 9 with (go_at_call 14; go_loud (refine HC.out.mono ?_; rintro e w4 ⟨v4, rfl, ho4, hb4⟩; obtain ⟨xa4, xc4, rfl⟩ := own_form ho4; have hI4 := HS.out.below hb4; have HS4 := hid (hI4.setC hlt (Kit.owns_mono ho4 HS.out.bel.size)); obtain ⟨-, d3, d4, dlb⟩ := hI4.at hlt; have f3 := d4 (i * 4 + 3); clear hI4 ho4 hb4 d4))
      refine region_named fun W5 hW5 => ?_
      rw [← hW5] at HS4
      clear hW5 c3 hlb d3 f3 dlb HC HS
      go_wp2
      go_roundw
      case rel => exact ⟨i + 1, _, _, by go_num, by omega, HS4⟩
      case measure => simp [intOf]; omega
    · obtain rfl : i = k := by omega
      go_wp2
      go_ret
      exact ⟨lb, c, nv, cv, rfl, HI.out⟩
end Go.Proofs.Ytdodobpbdnpjiaa
namespace Go.Proofs.Ytdodobpbdnpjiaa
open Go Go.RowKit
open Kit (natVals)
attribute [local go_sem] Oper.semAt_some
theorem Ks.set {S : Nat → Prop} {A B : World} {b : Nat} (h : Ks S A B) (hp : ¬ S b) (u : Value) : Ks S A (B.setCell ⟨b, 0, none⟩ u) :=
  h.trans ⟨(grownBy_setCell' B b u).size, fun i hi => Below.heap_setCell _ _ _ i (fun e => hp (by have e2 : i = b := e; rw [← e2]; exact hi))⟩
/-- Where the law's loop stands. -/
def TeJ {l : List Nat} (v : Value) (stop : Int) (hi : Nat) (w : World) (pre : List (Tx l)) (W : World) : Prop :=
  Boxed W w.heap.size 34 v ∧ Boxed W (w.heap.size + 1) 3 (.int .i64 stop) ∧ Boxed W (w.heap.size + 1 + 1) 4 (.bool false) ∧ Boxed W (w.heap.size + 1 + 1 + 1) 3 (.int .i64 (pre.length : Nat)) ∧ Below w.heap.size w W ∧ hi ≤ W.heap.size
theorem TeJ.own {l : List Nat} {v : Value} {stop : Int} {hi n : Nat} {w : World} (hn : w.heap.size ≤ n) : OwnFrom n (TeJ (l := l) v stop hi w) := by
  rintro pre A B row ⟨h0, h1, h2, h3, h5, h6⟩ hg hr
  exact ⟨boxed_own _ _ (fun _ : Unit => v) () A B row h0 hg (fun r e => (hr r e).2), boxed_own _ _ (fun _ : Unit => .int .i64 stop) () A B row h1 hg (fun r e => (hr r e).2), boxed_own _ _ (fun _ : Unit => .bool false) () A B row h2 hg (fun r e => (hr r e).2), boxed_own _ _ (fun _ : Unit => .int .i64 (pre.length : Nat)) () A B row h3 hg (fun r e => (hr r e).2), h5.grown hg h5.size (fun k e => by have := (hr k e).1; omega), Nat.le_trans h6 hg.size⟩
/-- Where it stands when it stops. -/
def TeX {l : List Nat} (w : World) (pre : List (Tx l)) (W : World) : Prop :=
  Hid (∃ b : Bool, Boxed W (w.heap.size + 1 + 1) 4 (.bool b) ∧ (b = false → ∃ p x, pre = p ++ [x] ∧ x.1.1 ≠ p.length)) ∧ Below w.heap.size w W
theorem TeX.own {l : List Nat} {n : Nat} {w : World} (hn : w.heap.size ≤ n) : OwnFrom n (TeX (l := l) w) := by
  rintro pre A B row ⟨⟨b, h1, h2⟩, h7⟩ hg hr
  exact ⟨⟨b, boxed_own _ _ (fun _ : Unit => .bool b) () A B row h1 hg (fun r e => (hr r e).2), h2⟩, h7.grown hg h7.size (fun k e => by have := (hr k e).1; omega)⟩
theorem TeX.is {l : List Nat} {w W : World} {k : Nat} (hk : k ≤ l.length) (h : TeX w (told l k) W) : Boxed W (w.heap.size + 1 + 1) 4 (.bool true) ∧ Below w.heap.size w W := by
  obtain ⟨⟨b, h1, h2⟩, h7⟩ := h
  refine ⟨?_, h7⟩
  cases b with
  | true => exact h1
  | false =>
    obtain ⟨p, x, h3, h4⟩ := h2 rfl
    exact absurd (told_last hk h3) h4
set_option maxRecDepth 100000 in
set_option maxHeartbeats 4000000 in
theorem tells_any (l : List Nat) (ov v : Value) (stop : Int) (Bs : Nat) (w : World) (hit : ∀ X, Ks (fun k => k < w.heap.size) w X → Kit.IsS 1 X ov l.length (natVals l) ∧ X.cell? ⟨Bs, 0, none⟩ = some ov) (hv : Kit.IsS 1 w v l.length (natVals l)) (hn : l.length ≤ 1000) :
    Calls Try.prog 15 #[.func (.func 34) #[] #[.pointer (some ⟨Bs, 0, none⟩)], v, .int .i64 stop] w fun e w' => e = .returned (.bool true) ∧ Below w.heap.size w w' := by
  have HV := hid (fun W (h : Below w.heap.size w W) => hv.below h (Nat.le_refl _))
  obtain ⟨a, cap, hv2⟩ := hv.len
  subst hv2
  have hlen := hv.2.1
  have HIT := hid hit
  clear hv hit
  refine (callsIn_wide (n := 5)).1 ?_
  refine callsIn_of_wp_marks Try.func15 rfl trivial ?_ rfl
  simp only [Try.ntmps15, List.size_toArray, List.length_cons, List.length_nil, Nat.reduceAdd, Nat.reduceSub, Array.replicate_succ, Array.replicate_zero, List.push_toArray, List.append_toArray, List.nil_append, List.cons_append]
  gi_wp2
  have b0 := (((Boxed.new w 34 (.slice a l.length cap)).alloc (.cells #[.int .i64 stop] 3)).alloc (.cells #[.bool false] 4)).alloc (.cells #[.int .i64 0] 3)
  have b1 := ((Boxed.new (w.alloc (.cells #[.slice a l.length cap] 34)) 3 (.int .i64 stop)).alloc (.cells #[.bool false] 4)).alloc (.cells #[.int .i64 0] 3)
  have b2 := (Boxed.new ((w.alloc (.cells #[.slice a l.length cap] 34)).alloc (.cells #[.int .i64 stop] 3)) 4 (.bool false)).alloc (.cells #[.int .i64 0] 3)
  have b3 := Boxed.new (((w.alloc (.cells #[.slice a l.length cap] 34)).alloc (.cells #[.int .i64 stop] 3)).alloc (.cells #[.bool false] 4)) 3 (.int .i64 0)
  simp only [World.size_alloc] at b0 b1 b2 b3
  have hB0 : Below w.heap.size w ((((w.alloc (.cells #[.slice a l.length cap] 34)).alloc (.cells #[.int .i64 stop] 3)).alloc (.cells #[.bool false] 4)).alloc (.cells #[.int .i64 0] 3)) := ((((Below.refl _ w).alloc (Nat.le_refl _) (.cells #[.slice a l.length cap] 34)).alloc (by simp only [World.size_alloc]; omega) (.cells #[.int .i64 stop] 3)).alloc (by simp only [World.size_alloc]; omega) (.cells #[.bool false] 4)).alloc (by simp only [World.size_alloc]; omega) (.cells #[.int .i64 0] 3)
  have hsz : ((((w.alloc (.cells #[.slice a l.length cap] 34)).alloc (.cells #[.int .i64 stop] 3)).alloc (.cells #[.bool false] 4)).alloc (.cells #[.int .i64 0] 3)).heap.size = w.heap.size + 4 := by simp only [World.size_alloc]
  obtain ⟨w3, hw3⟩ : ∃ w3, ((((w.alloc (.cells #[.slice a l.length cap] 34)).alloc (.cells #[.int .i64 stop] 3)).alloc (.cells #[.bool false] 4)).alloc (.cells #[.int .i64 0] 3)) = w3 := ⟨_, rfl⟩
  rw [hw3] at b0 b1 b2 b3 hB0 hsz ⊢
  clear hw3
  have hkX : Hid (∀ X, Ks (fun k => k < w.heap.size) w3 X → Kit.IsS 1 X ov l.length (natVals l) ∧ X.cell? ⟨Bs, 0, none⟩ = some ov) := fun X hX => HIT.out X ⟨Nat.le_trans hB0.size hX.1, fun k h2 => (hX.2 k h2).trans (hB0.block k h2)⟩
  have hB3z := hB0.size
  have hkp0 : Ks (fun k => k < w.heap.size) w3 w3 := Ks.refl _ _
  refine wpIn_rangeFunc_ownH rfl (by omega) (gf := 34) (lb := #[.pointer (some ⟨Bs, 0, none⟩)]) rfl trivial (enters_of Try.func34 (by kernel_rfl) rfl)
    (order1_stops l ov (fun k => k < w.heap.size) Bs (5 - 1) w3 (by omega) (fun k h => by omega) hkX.out) (fun h k => Ks.trans h k) (Ks.putObj (fun k h => by omega)) (Below.refl _ _) (fun _ => rfl)
    (TeJ (.slice a l.length cap) stop w3.heap.size w) (fun c' pre W => c' = .ret ∧ TeX w pre W) (TeJ.own hB0.size) (fun c' pre A B row h hg hr => ⟨h.1, TeX.own hB0.size pre A B row h.2 hg hr⟩)
    ⟨b0, b1, b2, b3, hB0, Nat.le_refl _⟩
    (fun x a' W => a' = { tmps := #[.func (.func 34) #[] #[.pointer (some ⟨Bs, 0, none⟩)], .slice a l.length cap, .int .i64 stop, undef, .pointer (some ⟨w.heap.size, 0, none⟩), .pointer (some ⟨w.heap.size + 1, 0, none⟩), .pointer (some ⟨w.heap.size + 1 + 1, 0, none⟩), .pointer (some ⟨w.heap.size + 1 + 1 + 1, 0, none⟩), .int .i64 (x.1.2 : Int), .func (.func 34) #[] #[.pointer (some ⟨Bs, 0, none⟩)], .int .i64 (x.1.2 : Int), undef, undef, undef, undef, undef, undef, undef, undef, undef, undef, undef, undef, undef, undef, undef, undef, undef, undef, undef, undef, undef], defers := [] })
    (fun x a' => Own.from (fun s A B row hs hg hr => hs) _) ?assign ?body ?done ?stop
  case assign =>
    rintro D pre ⟨⟨k, c⟩, hx⟩ W K hI hK
    unfold entE
    gi_wp2
    exact hK _ _ ((⟨Nat.le_refl _, fun _ _ h _ => h⟩ : KeepsOthers W W).from _) (Ks.refl _ W) hI rfl
  case body =>
    rintro D pre ⟨⟨k, c⟩, hx⟩ a' W hl ⟨r, hr⟩ ⟨i0, i1, i2, i3, hB, hh⟩ rfl hlt
    have c0 := i0.cell
    have c1 := i1.cell
    have c2 := i2.cell
    have c3 := i3.cell
    have f2 := i2.frozen
    have f3 := i3.frozen
    have HW := hid (HV.out W hB)
    have hkl : k < l.length := (List.getElem?_eq_some_iff.1 hx).1
    have hpl : IntKind.i64.wrap ((pre.length : Int) + 1) = (pre.length : Int) + 1 := IntWalk.i64_in _ (by omega)
    dsimp only
    have hhz := hB.size
    by_cases hC : l[pre.length]? = some c
    · have hlp := (List.getElem?_eq_some_iff.1 hC).1
      obtain ⟨b, o, cap', hv, -, hbb, hcs⟩ := HW.out.some (by omega)
      obtain ⟨rfl, -, rfl⟩ := Value.slice.inj hv
      have d0 := hcs pre.length _ (Kit.natVals_at hC)
      have hge : decide (l.length ≤ pre.length) = false := by simp; omega
      have hge2 : ¬ ((l.length : Int) ≤ (pre.length : Int)) := by omega
      have hge3 : (pre.length : Int) < (l.length : Int) := by omega
      clear hcs hv hC hlen
      gi_wp2
      · exact ⟨((KeepsOthers.setCell _ _ _).trans (KeepsOthers.setCell _ _ _)).from _, rfl, ⟨true, (i2.other (by omega) _).set _, fun h => by cases h⟩, (by repeat' first | with_reducible exact hB | with_reducible exact Below.refl _ _ | with_reducible refine belows_drewN ?_ _ | with_reducible refine Below.drew ?_ | with_reducible refine Below.setCell ?_ ?_ _ | omega | (simp; omega))⟩
      · have el : (.int .i64 ((pre.length : Int) + 1) : Value) = .int .i64 (((pre ++ [(⟨(k, c), hx⟩ : Tx l)]).length : Nat) : Int) := by simp
        exact ⟨(KeepsOthers.setCell _ _ _).from _, (Ks.refl (fun k => k < w.heap.size) W).set (by omega) _, i0.other (by omega) _, i1.other (by omega) _, i2.other (by omega) _, by rw [← el]; exact i3.set _, (by repeat' first | with_reducible exact hB | with_reducible exact Below.refl _ _ | with_reducible refine belows_drewN ?_ _ | with_reducible refine Below.drew ?_ | with_reducible refine Below.setCell ?_ ?_ _ | omega | (simp; omega)), by simp only [World.size_setCell]; omega⟩
    · have hne : k ≠ pre.length := by rintro rfl; exact hC hx
      have HNe := hid hne
      by_cases hlp : l.length ≤ pre.length
      · have hge : decide (l.length ≤ pre.length) = true := by simpa using hlp
        have HX := hid hx
        have hge2 : ((l.length : Int) ≤ (pre.length : Int)) := by omega
        clear hC hne hlen hlp hge hlt hkl hpl HX
        gi_wp2
        exact ⟨(KeepsOthers.setCell _ _ _).from _, rfl, ⟨false, i2.set _, fun _ => ⟨pre, _, rfl, HNe.out⟩⟩, (by repeat' first | with_reducible exact hB | with_reducible exact Below.refl _ _ | with_reducible refine belows_drewN ?_ _ | with_reducible refine Below.drew ?_ | with_reducible refine Below.setCell ?_ ?_ _ | omega | (simp; omega))⟩
      · obtain ⟨y, hy⟩ : ∃ y, l[pre.length]? = some y := ⟨_, List.getElem?_eq_getElem (by omega)⟩
        have hyc : ¬ ((c : Int) = (y : Int)) := by
          intro e
          apply hC
          rw [hy]
          congr 1
          omega
        obtain ⟨b, o, cap', hv, -, hbb, hcs⟩ := HW.out.some (by omega)
        obtain ⟨rfl, -, rfl⟩ := Value.slice.inj hv
        have d0 := hcs pre.length _ (Kit.natVals_at hy)
        have hge : decide (l.length ≤ pre.length) = false := by simp; omega
        have hge2 : ¬ ((l.length : Int) ≤ (pre.length : Int)) := by omega
        have hge3 : (pre.length : Int) < (l.length : Int) := by omega
        clear hcs hv hC hlen hne hy
        gi_wp2
        exact ⟨(KeepsOthers.setCell _ _ _).from _, rfl, ⟨false, i2.set _, fun _ => ⟨pre, _, rfl, HNe.out⟩⟩, (by repeat' first | with_reducible exact hB | with_reducible exact Below.refl _ _ | with_reducible refine belows_drewN ?_ _ | with_reducible refine Below.drew ?_ | with_reducible refine Below.setCell ?_ ?_ _ | omega | (simp; omega))⟩
  case done =>
    rintro D ys W hD rfl ⟨i0, i1, i2, i3, hB, hh⟩ hK
    have c0 := i0.cell
    have c2 := i2.cell
    have c3 := i3.cell
    have f2 := i2.frozen
    rw [told_len l l.length (Nat.le_refl _)] at c3
    have hd : ((l.length : Int) == (l.length : Int)) = true := by simp
    gi_wp2
    have hK' := (KeepsOthers.setCell W ⟨w.heap.size + 1 + 1, 0, none⟩ (.bool true)).same D _ hK rfl
    refine ⟨by simp, .inl ⟨_, _, rfl, run_takeDeferred hK', ?_⟩⟩
    have hc5 := cell_kept (World.cell?_setCell_same' W ⟨w.heap.size + 1 + 1, 0, none⟩ (.bool true) (by rw [c2]; rfl)) (grownBy_putObj' _ D (.deferred none)) (fun r e => by cases e; exact ⟨_, hK', rfl⟩)
    refine ⟨.bool true, ?_, rfl, (hB.setCell (p := ⟨w.heap.size + 1 + 1, 0, none⟩) (by show w.heap.size ≤ w.heap.size + 1 + 1; omega) _).trans (belowK_b (w := w) (Nat.le_refl _) _ D _ _ (by omega) hK' rfl rfl)⟩
    simp [results, Try.f15, go_sem, hc5]
  case stop =>
    rintro D c' pre W hD ⟨k, hk, rfl⟩ ⟨rfl, hX⟩ hK
    obtain ⟨i2, hB⟩ := hX.is hk
    clear hX
    gi_wp2
    refine ⟨by simp, .inl ⟨_, _, rfl, run_takeDeferred hK, ?_⟩⟩
    have hc2 := cell_kept i2.cell (grownBy_putObj' _ D (.deferred none)) (fun r e => by cases e; exact ⟨_, hK, rfl⟩)
    refine ⟨.bool true, ?_, rfl, hB.trans (belowK_b (w := w) (Nat.le_refl _) _ D _ _ (by omega) hK rfl rfl)⟩
    simp [results, Try.f15, go_sem, hc2]
end Go.Proofs.Ytdodobpbdnpjiaa
namespace Go.Proofs.Ytdodobpbdnpjiaa
open Go Go.RowKit
open Kit (natVals)
theorem same_nums {w : World} {v u : Value} {l : List Nat} (h1 : Kit.IsS 1 w v l.length (natVals l)) (h2 : Kit.IsS 1 w u l.length (natVals l)) (hl : l.length ≤ 4294967296) :
    Calls Try.prog 10 #[v, u] w fun e w' => e = .returned (.bool true) ∧ Below w.heap.size w w' := by
  by_cases h0 : l.length = 0
  · obtain ⟨a1, c1, rfl⟩ := h1.len
    obtain ⟨a2, c2, rfl⟩ := h2.len
    rw [h0]
    refine (Sh.slices_Equal_int_empty a1 a2 c1 0 c2 w (by omega)).mono ?_
    rintro e w' ⟨rfl, rfl⟩
    exact ⟨by simp, Below.refl _ _⟩
  · obtain ⟨b1, o1, c1, rfl, -, -, k1⟩ := h1.some (by omega)
    obtain ⟨b2, o2, c2, rfl, -, -, k2⟩ := h2.some (by omega)
    have hat : ∀ {b o : Nat}, (∀ j u, (natVals l)[j]? = some u → w.cell? ⟨b, o + j, none⟩ = some u) → ∀ j, j < (Cf.casts l).length → w.cell? ⟨b, o + j, none⟩ = some (.int .i64 ((Cf.casts l).getD j 0)) := fun hk j hj => by
      rw [Cf.casts_len] at hj
      have hx : l[j]? = some l[j] := List.getElem?_eq_getElem hj
      rw [hk j _ (Kit.natVals_at hx)]
      unfold Cf.casts
      simp [List.getD, hx]
    refine (Sh.slices_Equal_int b1 o1 l.length c1 b2 o2 l.length c2 (Cf.casts l) (Cf.casts l) w (by rw [Cf.casts_len]; omega) (by rw [Cf.casts_len]; omega) (by omega) (by omega) (hat k1) (hat k2)).mono ?_
    rintro e w' ⟨rfl, q, rfl⟩
    exact ⟨by simp, below_drewN w q⟩
theorem isS_bx {W : World} {b n size : Nat} {cs : Array Value} {T : TypeId} {xs : List Value} (h : BX W b cs T) (he : cs.toList = xs) (hx : xs.length = n * size) (hn : n ≤ 140737488355328) : Kit.IsS size W (.slice (some ⟨b, 0, none⟩) n n) n xs :=
  ⟨hx, hn, .inr ⟨b, 0, n, rfl, Nat.le_refl _, h.sz, fun j u hj => by
    rw [Nat.zero_add, h.cell j, ← Array.getElem?_toList, he]
    exact hj⟩⟩
theorem ks_order {W : World} {b : Nat} {base n : Nat} {e : TypeId} {v : Value} {xs : List Value} {T : TypeId} (h : W.ownsRow base e 1 v n xs) (hb : BX W b #[v] T) (hn : n ≤ 140737488355328) : ∀ X, Ks (fun k => k < W.heap.size) W X → Kit.IsS 1 X v n xs ∧ X.cell? ⟨b, 0, none⟩ = some v := fun X hX =>
  ⟨Kit.isS_of_owns (owns_same h (fun j e => hX.2 j (Kit.own_lt h j e))) hn, (World.cell?_of_block (hX.2 b hb.sz) : X.cell? ⟨b, 0, none⟩ = W.cell? ⟨b, 0, none⟩).trans (hb.cell 0)⟩
set_option maxRecDepth 100000
set_option maxHeartbeats 1000000
theorem begun_any (w : World) : Calls Try.prog 7 #[] w fun e w' => e = .returned (.bool true) ∧ Below w.heap.size w w' := by
  go_enter Try.func7, Try.ntmps7
  go_upto_region 2 with fail
  refine region_named fun W1 hW1 => ?_
  have hb1 : Below w.heap.size w W1 := by rw [hW1]; exact (by repeat' first | with_reducible exact Below.refl _ _ | with_reducible assumption | with_reducible refine belows_drewN ?_ _ | with_reducible refine Below.drew ?_ | with_reducible refine Below.setCell ?_ ?_ _ | with_reducible refine Below.alloc ?_ ?_ _ | omega | (simp; done) | (simp; omega))
  have bo1 : BX W1 w.heap.size (Cf.L6.flatMap Cf.opL).toArray 70 := by
    rw [hW1]
    exact (BX.new w (Cf.L6.flatMap Cf.opL).toArray 70).below ((Below.refl _ _).alloc (Nat.le_refl _) _)
  have hO : OpS W1 (.slice (some ⟨w.heap.size, 0, none⟩) 6 6) Cf.L6 := isS_bx bo1 (by simp) (by decide) (by decide)
  have hC : CaS W1 (.slice none 0 0) [] := ⟨rfl, by decide, .inl ⟨rfl, _, _, rfl⟩⟩
  have HNw := hid (New_any (f := ⟨.int .i64 0, .string ⟨#[]⟩, .string ⟨#[]⟩, .bool false, .slice none 0 0, .int .i64 0, .string ⟨#[]⟩, .int .i64 0, .int .i64 0, .slice (some ⟨w.heap.size, 0, none⟩) 6 6, .slice none 0 0, .int .i64 0⟩) hO hC (by decide) (by decide) (by decide))
  have HB1 := hid hb1
  rw [hW1] at HNw HB1
  clear bo1 hO hC hb1
  subst hW1
  go_upto_region 5 with (go_at_call 6; go_loud (refine HNw.out.mono ?_; rintro e w3 ⟨gb, rfl, hN⟩; have HN := hid hN; clear hN))
  obtain ⟨base, bb, cap, ob, nv, cv, cl, ov, sv, pv, kv, hbs, hG, hE, hcl, hbel⟩ := HN.out
  have ho := Cf.L6_ord hcl hE
  rw [ho, Cf.L6_cnt] at hG
  rw [Cf.L6_cnt] at hcl
  generalize Cf.bks _ _ = bs at hG
  have HBk := hid (Blocks_any hG (by decide) (by decide) (fun x hx => Nat.le_trans (hcl x hx) (by decide)))
  have HG := hid hG
  have HBel := hid (HB1.out.trans (hbel.mono HB1.out.size))
  obtain ⟨oa, oc, hov⟩ := own_form hG.ord
  rw [hov] at HG
  clear hG hE hcl hbel ho hov hbs HN HNw HB1
  go_upto_region 6 with (go_at_call 8; go_loud (refine HBk.out.mono ?_; rintro e w4 ⟨lb, c, nv', cv', rfl, hI⟩; have HI := hid hI; clear hI))
  have c8 : w4.cell? ⟨lb, 8, none⟩ = some (.int .i64 4) := own_at4 HI.out.row (Cf.bkV_len _ _ _ _) (b := 2) (by decide) 0 _ (by omega) (by unfold Cf.bkV; rw [Cf.L6_fr]; rfl)
  have c2 : w4.cell? ⟨lb, 2, none⟩ = some (nv' 0) := (HI.out.at (b := 0) (by decide)).1
  have hn0 := (HI.out.nx 0 (by decide)).is HI.out.bel (by rw [Cf.L6_nx]; decide)
  rw [Cf.L6_nx] at hn0
  have hg4 := HG.out.box.below HI.out.bel
  have k2 : w4.cell? ⟨gb, 2, none⟩ = some (.slice oa 3 oc) := hg4.cell 2
  have ho4 := Kit.owns_below HG.out.ord HI.out.bel (Nat.le_refl _)
  have HN0 := hid hn0
  have HG4 := hid hg4
  have HO4 := hid ho4
  clear HBk hn0 hg4 ho4
  go_wp2_with (first | (go_at_call 10; go_loud (refine (same_nums (l := [1, 2]) (HN0.out.below ((Below.refl _ _).alloc (Nat.le_refl _) _) (Nat.le_refl _)) (isS_bx (BX.new _ _ _) rfl (by decide) (by decide)) (by decide)).mono ?_; rintro e w5 ⟨rfl, hb5⟩; have HB5 : Hid (Below w4.heap.size w4 w5) := belows ((Below.refl _ _).alloc (Nat.le_refl _) _) hb5 (by simp); have k25 : w5.cell? ⟨gb, 2, none⟩ = some (.slice oa 3 oc) := (HG4.out.below HB5.out).cell 2; clear hb5)) | (go_at_call 12; go_loud (refine (Order_any k25).mono ?_; rintro e w6 ⟨rfl, hw6⟩; have HB6 : Hid (Below w5.heap.size w5 w6) := (by rw [hw6]; exact (Below.refl _ _).alloc (Nat.le_refl _) _); have HX6 : Hid (BX w6 w5.heap.size #[.slice oa 3 oc] 34) := (by rw [hw6]; exact BX.new _ _ _); have HO6 := hid (Kit.owns_below (Kit.owns_below HO4.out HB5.out (Nat.le_refl _)) HB6.out (Nat.le_refl _)); clear hw6)) | (go_at_call 15; go_loud (refine (tells_any [0, 2, 1] (.slice oa 3 oc) _ 0 _ _ (ks_order (Kit.owns_below HO6.out ((Below.refl _ _).alloc (Nat.le_refl _) _) (Nat.le_refl _)) (HX6.out.below ((Below.refl _ _).alloc (Nat.le_refl _) _)) (by decide)) (isS_bx (BX.new _ _ _) rfl (by decide) (by decide)) (by decide)).mono ?_; rintro e w7 ⟨rfl, hb7⟩; have HB7 : Hid (Below w6.heap.size w6 w7) := belows ((Below.refl _ _).alloc (Nat.le_refl _) _) hb7 (by simp); clear hb7)))
  go_ret
  have h4 := belows HBel.out HI.out.bel HBel.out.size
  have h5 := belows h4 HB5.out h4.size
  have h6 := belows h5 HB6.out h5.size
  exact ⟨rfl, belows h6 HB7.out h6.size⟩
end Go.Proofs.Ytdodobpbdnpjiaa
namespace Go.Proofs.Ytdodobpbdnpjiaa
open Go Go.RowKit
open Kit (natVals)
open Cf (Op5)
set_option maxRecDepth 100000
set_option maxHeartbeats 1000000
theorem Of_any {w : World} {base gb bb cap ob k : Nat} {L : List Op5} {B : Nat → Bool} {nv cv : Nat → Value} {cl : Nat → List Nat} {O : List Nat} {ov sv pv kv : Value} {bs : List (Nat × Nat)} (h : GT w base gb bb cap ob L B k nv cv cl O ov sv pv kv bs) {i : Nat} (hi : i < L.length) :
    Calls Try.prog 9 #[.pointer (some ⟨gb, 0, none⟩), .int .i64 (i : Int)] w fun e w' => e = .returned (.tuple #[.int .i64 ((Cf.ofB B i : Nat) : Int), .bool true]) ∧ Below w.heap.size w w' := by
  have g1 := h.box.cell 1
  have o1 := (own_cell h.of (ivals_at (f := Cf.ofN B) hi)).1
  have hx : Cf.ofN B i = ((Cf.ofB B i : Nat) : Int) := rfl
  rw [hx] at o1
  obtain ⟨n, hn⟩ : ∃ n, L.length = n := ⟨_, rfl⟩
  rw [hn] at g1 hi
  obtain ⟨q, hq⟩ : ∃ q, Cf.ofB B i = q := ⟨_, rfl⟩
  rw [hq] at o1 ⊢
  have h1 : decide ((i : Int) < 0) = false := by simp
  have h2 : decide ((n : Int) ≤ (i : Int)) = false := by simp; omega
  have h3 : ¬ ((n : Int) ≤ (i : Int)) := by omega
  have h4 : (i : Int) < (n : Int) := by omega
  clear h hn hx hq
  go_enter Try.func9, Try.ntmps9
  go_wp2
  go_ret2
  exact ⟨rfl, Below.refl _ _⟩
end Go.Proofs.Ytdodobpbdnpjiaa
namespace Go.Proofs.Ytdodobpbdnpjiaa
open Go Go.RowKit
open Kit (natVals)
open Cf (Op5 Ca opL caL)
namespace Cf
/-- Where the law stands ahead of a block. -/
def stA (B : Nat → Bool) (n b : Nat) : Nat := if b < cnt B n then frI B n b else n
theorem stA_at {B : Nat → Bool} {n b : Nat} (hb : b < cnt B n) : stA B n b = frI B n b := if_pos hb
theorem stA_next {B : Nat → Bool} {n b : Nat} (hb : b < cnt B n) : stA B n (b + 1) = toI B n b := by
  unfold stA
  by_cases h : b + 1 < cnt B n
  · rw [if_pos h, to_is h]
  · rw [if_neg h, to_last (by omega)]
theorem stA_end (B : Nat → Bool) (n : Nat) : stA B n (cnt B n) = n := if_neg (by omega)
theorem stA_zero {B : Nat → Bool} {n : Nat} (h0 : B 0 = true) (hn : 0 < n) : stA B n 0 = 0 := by
  have hk := cnt_pos h0 hn
  rw [stA_at hk]
  obtain ⟨-, -, h3⟩ := fr_is (B := B) (n := n) (b := 0) hk
  rcases Nat.eq_zero_or_pos (frI B n 0) with h | h
  · exact h
  · have := cnt_pos h0 h
    omega
end Cf
/-- A graph in a world that has grown. -/
theorem GT.below {W W' : World} {base gb bb cap ob k : Nat} {L : List Op5} {B : Nat → Bool} {nv cv : Nat → Value} {cl : Nat → List Nat} {O : List Nat} {ov sv pv kv : Value} {bs : List (Nat × Nat)} (h : GT W base gb bb cap ob L B k nv cv cl O ov sv pv kv bs) (hb : Below W.heap.size W W') : GT W' base gb bb cap ob L B k nv cv cl O ov sv pv kv bs :=
  ⟨h.box.below hb, Kit.owns_below h.bl hb (Nat.le_refl _), Kit.owns_below h.of hb (Nat.le_refl _), fun x hx => Kit.owns_below (h.nx x hx) hb (Nat.le_refl _), fun x hx => Kit.owns_below (h.ca x hx) hb (Nat.le_refl _), Kit.owns_below h.ord hb (Nat.le_refl _), Kit.owns_below h.bk hb (Nat.le_refl _), h.lo⟩
set_option maxRecDepth 100000
set_option maxHeartbeats 2000000
theorem blocks0_any {w : World} {gb : Nat} {ba : Option Addr} {bc : Nat} {a1 a2 a3 a4 a5 : Value} (h : BX w gb #[.slice ba 0 bc, a1, a2, a3, a4, a5] 56) :
    Calls Try.prog 8 #[.pointer (some ⟨gb, 0, none⟩)] w fun e w' => ∃ a c, e = .returned (.slice a 0 c) ∧ Below w.heap.size w w' := by
  have g0 := h.cell 0
  have HCl : Hid (Calls Try.prog 27 #[.slice ba 0 bc] w (ClonePost 36 4 0 [] w)) := by
    cases ba with
    | none => exact bclone_nil bc w
    | some ad => exact bclone_some 0 [] ad bc w rfl (by omega) (fun j u h => by simp at h) (fun u h => by cases h)
  clear h
  go_enter Try.func8, Try.ntmps8
  go_upto_region 4 with (go_at_call 27; go_loud (refine HCl.out.mono ?_; rintro e w1 ⟨v1, rfl, ho, hb⟩; obtain ⟨xa, xc, rfl⟩ := own_form ho; have HB := hid hb; clear ho hb))
  go_wp2
  go_loopw [14] (fun v wr => v = .int .i64 0 ∧ wr = w1) (fun _ _ => 0)
  case atStart => exact ⟨rfl, rfl⟩
  case round =>
    obtain ⟨rfl, rfl⟩ := hrel
    go_wp2
    go_ret
    exact ⟨_, _, rfl, HB.out⟩
theorem all0_law {w : World} {f : Fc} {C : List Ca} (hO : OpS w f.ov []) (hC : CaS w f.cv C) (hm : C.length ≤ 1048576) :
    Calls Try.prog 3 #[.agg f.cs] w fun e w' => e = .returned (.bool true) ∧ Below w.heap.size w w' := by
  have hb1 : Below w.heap.size w (w.alloc (.cells f.cs 28)) := (Below.refl _ _).alloc (Nat.le_refl _) _
  have HN := hid (New0_any (hO.below hb1) (hC.below hb1) hm)
  obtain ⟨oa, ocap, hov⟩ := hO.form
  obtain ⟨a0, a1, a2, a3, a4, a5, a6, a7, a8, ov, cv, a11⟩ := f
  dsimp only [Fc.cs] at *
  subst hov
  simp only [List.length_nil] at HN hO hb1 ⊢
  have HF := hid (BX.new w #[a0, a1, a2, a3, a4, a5, a6, a7, a8, .slice oa 0 ocap, cv, a11] 28)
  have HB1 := hid hb1
  obtain ⟨x0, x1, x2, x3, x4, x5, x6, x7, x8, x9, x10, x11⟩ := bx12 HF.out
  clear hO hC hb1
  go_enter Try.func3, Try.ntmps3
  go_wp2_with (first | (go_at_call 6; go_loud (refine HN.out.mono ?_; rintro e w2 ⟨gb, rfl, hs2, hb2, ba, bc, fv, sv, pv, hG⟩; have HB2 := hid (HB1.out.trans (hb2.mono HB1.out.size)); have HG := hid hG; have HF2 := hid (HF.out.below hb2); clear hs2 hb2 hG x0 x1 x2 x3 x4 x5 x6 x7 x8 x9 x10 x11)) | (go_at_call 7; go_loud (refine (begun_any _).mono ?_; rintro e w3 ⟨rfl, hb3⟩; have HB3 := hid (belows HB2.out hb3 HB2.out.size); have HG3 := hid (HG.out.below hb3); have HF3 := hid (HF2.out.below hb3); clear hb3)) | (go_at_call 8; go_loud (refine (blocks0_any HG3.out).mono ?_; rintro e w4 ⟨la, lc, rfl, hb4⟩; have HB4 := hid (belows HB3.out hb4 HB3.out.size); have x9 := (HF3.out.below hb4).cell 9; clear hb4)))
  go_loopw [21, 4] (fun v a wr => v = .int .i64 0 ∧ a = .int .i64 0 ∧ wr = w4) (fun _ _ _ => 0)
  case atStart => exact ⟨rfl, rfl, rfl⟩
  case round =>
    obtain ⟨rfl, rfl, rfl⟩ := hrel
    go_wp2
    go_ret
    exact ⟨rfl, HB4.out⟩
theorem all1_law {w : World} {f : Fc} {L : List Op5} {C : List Ca} (hO : OpS w f.ov L) (hC : CaS w f.cv C) (hn : L.length ≤ 1048576) (hm : C.length ≤ 1048576) (h0 : 0 < L.length) :
    Calls Try.prog 3 #[.agg f.cs] w fun e w' => e = .returned (.bool true) ∧ Below w.heap.size w w' := by
  have HBz : Hid (Cf.Bg L C 0 = true) := Cf.Bg_zero h0
  have hb1 : Below w.heap.size w (w.alloc (.cells f.cs 28)) := (Below.refl _ _).alloc (Nat.le_refl _) _
  have HN := hid (New_any (hO.below hb1) (hC.below hb1) hn hm h0)
  have HNx := hid (fun (W : World) (hb : Below w.heap.size w W) (i : Nat) (hi : i < L.length) => Next_any (f := f) (hO.below hb) hn hi)
  obtain ⟨oa, ocap, hov⟩ := hO.form
  obtain ⟨a0, a1, a2, a3, a4, a5, a6, a7, a8, ov, cv, a11⟩ := f
  dsimp only [Fc.cs] at *
  subst hov
  have HF := hid (BX.new w #[a0, a1, a2, a3, a4, a5, a6, a7, a8, .slice oa L.length ocap, cv, a11] 28)
  have HB1 := hid hb1
  have HSt := hid (Cf.stA_zero HBz.out h0)
  have HH0 := hid h0
  obtain ⟨k, hk⟩ : ∃ k, k = Cf.cnt (Cf.Bg L C) L.length := ⟨_, rfl⟩
  have HK := hid hk
  have HKn : Hid (0 < k ∧ k ≤ 1048576) := ⟨by rw [hk]; exact Cf.cnt_pos HBz.out h0, by rw [hk]; exact Nat.le_trans (Cf.cnt_le _ _) hn⟩
  have HNn := hid hn
  have HMm := hid hm
  clear hO hC hb1 hn hm h0 hk
  obtain ⟨x0, x1, x2, x3, x4, x5, x6, x7, x8, x9, x10, x11⟩ := bx12 HF.out
  go_enter Try.func3, Try.ntmps3
  go_upto_region 2 with (go_at_call 6; go_loud (refine HN.out.mono ?_; rintro e w2 ⟨gb, rfl, hN⟩; have HNP := hid hN; clear hN x0 x1 x2 x3 x4 x5 x6 x7 x8 x9 x10 x11))
  obtain ⟨base, bb, cap, ob, nv, cvv, cl, ordv, sv, pv, kv, hbs, hG, hE, hcl, hbel⟩ := HNP.out
  rw [← HK.out] at hG hcl
  generalize Cf.bks _ _ = bs at hG
  generalize Cf.ord _ _ = O at hG
  have HG := hid hG
  have HCl := hid hcl
  have HB2 := hid (HB1.out.trans (hbel.mono HB1.out.size))
  have HF2 := hid (HF.out.below hbel)
  clear hG hE hcl hbel hbs HNP HN
  go_wp2_with (first | (go_at_call 7; go_loud (refine (begun_any _).mono ?_; rintro e w3 ⟨rfl, hb3⟩; have HB3 := hid (belows HB2.out hb3 HB2.out.size); have HG3 := hid (HG.out.below hb3); have HF3 := hid (HF2.out.below hb3); clear hb3)) | (go_at_call 8; go_loud (refine (Blocks_any HG3.out HKn.out.1 HKn.out.2 (fun x hx => Nat.le_trans (HCl.out x hx) HMm.out)).mono ?_; rintro e w4 ⟨lb, lc, nq, cq, rfl, hI⟩; have HB4 := hid (belows HB3.out hI.bel HB3.out.size); have HF4 := hid (HF3.out.below hI.bel); have HG4 := hid (HG3.out.below hI.bel); have HR := hid hI.row; have HIW := hid hI; clear hI)))
  clear HG HG3 HF2 HF3 HB2 HB3 HF
  go_loopw [21, 4] (fun v a wr => ∃ b : Nat, v = .int .i64 (b : Int) ∧ a = .int .i64 (Cf.stA (Cf.Bg L C) L.length b : Int) ∧ b ≤ k ∧ Hid (Below w4.heap.size w4 wr)) (fun v _ _ => k - (intOf v).toNat)
  case atStart => exact ⟨0, rfl, by rw [HSt.out]; rfl, by omega, Below.refl _ _⟩
  case round =>
    obtain ⟨b, rfl, rfl, hbk, HBl⟩ := hrel
    by_cases hlt : b < k
    · have hbk2 : b < Cf.cnt (Cf.Bg L C) L.length := by rw [← HK.out]; exact hlt
      obtain ⟨x, hx⟩ : ∃ x, Cf.frI (Cf.Bg L C) L.length b = x := ⟨_, rfl⟩
      obtain ⟨y, hy⟩ : ∃ y, Cf.toI (Cf.Bg L C) L.length b = y := ⟨_, rfl⟩
      have hxy : x < y ∧ y ≤ L.length := by rw [← hx, ← hy]; exact Cf.to_le hbk2
      have HXY := hid hxy
      have HIn : Hid (∀ i, x ≤ i → i < y → Cf.ofB (Cf.Bg L C) i = b ∧ (i + 1 < y → Cf.nexts L i = [i + 1])) := fun i h1 h2 => by
        obtain ⟨q1, q2⟩ := Cf.in_block (B := Cf.Bg L C) (n := L.length) (i := i) hbk2 (by rw [hx]; exact h1) (by rw [hy]; exact h2)
        refine ⟨q1, fun h3 => Cf.nexts_one (by omega) (Cf.Bg_ahead (by omega) (q2 (by rw [hy]; exact h3)))⟩
      have HNe := hid (Cf.stA_next hbk2)
      rw [hy] at HNe
      have hst : Cf.stA (Cf.Bg L C) L.length b = x := by rw [Cf.stA_at hbk2, hx]
      have hR := Kit.owns_below HR.out HBl.out (Nat.le_refl _)
      have c0 := own_at4 hR (Cf.bkV_len _ _ _ _) hlt 0 _ (by omega) rfl
      have c1 := own_at4 hR (Cf.bkV_len _ _ _ _) hlt 1 _ (by omega) rfl
      have c2 := own_at4 hR (Cf.bkV_len _ _ _ _) hlt 2 _ (by omega) rfl
      have c3 := own_at4 hR (Cf.bkV_len _ _ _ _) hlt 3 _ (by omega) rfl
      rw [Nat.add_zero, hx] at c0
      rw [hy] at c1
      rw [hst]
      obtain ⟨u2a, u2c, hu2⟩ := ((HIW.out.nx b hlt).is HIW.out.bel (by have := Cf.nxs_len L (Cf.Bg L C) b; omega)).len
      obtain ⟨u3a, u3c, hu3⟩ := ((HIW.out.ca b hlt).is HIW.out.bel (by have := HCl.out b hlt; have := HMm.out; omega)).len
      obtain ⟨u2n, hu2n⟩ : ∃ n, (Cf.nxs L (Cf.Bg L C) b).length = n := ⟨_, rfl⟩
      obtain ⟨u3n, hu3n⟩ : ∃ n, (cl b).length = n := ⟨_, rfl⟩
      rw [hu2n] at hu2
      rw [hu3n] at hu3
      rw [hu2] at c2
      rw [hu3] at c3
      have hyx : ¬ ((y : Int) ≤ (x : Int)) := by omega
      have hyx2 : decide ((y : Int) ≤ (x : Int)) = false := by simpa using hyx
      have HX : Hid (BX (wr.alloc (.cells #[.int .i64 (x : Int), .int .i64 (y : Int), .slice u2a u2n u2c, .slice u3a u3n u3c] 36)) wr.heap.size #[.int .i64 (x : Int), .int .i64 (y : Int), .slice u2a u2n u2c, .slice u3a u3n u3c] 36) := BX.new _ _ _
      have HBa := hid (belows HBl.out ((Below.refl _ _).alloc (Nat.le_refl _) (.cells #[.int .i64 (x : Int), .int .i64 (y : Int), .slice u2a u2n u2c, .slice u3a u3n u3c] 36)) HBl.out.size)
      clear hx hy hst hR hbk2 hu2 hu3 hu2n hu3n hxy
      go_wp2
      clear c0 c1 c2 c3 hyx hyx2
      have hy9 : y ≤ 1048576 := by have := HXY.out; have := HNn.out; omega
      have hk9 : k ≤ 1048576 := HKn.out.2
      obtain ⟨z, hz⟩ : ∃ z, wr.heap.size = z := ⟨_, rfl⟩
      rw [hz] at HX ⊢
      clear hz
      go_loopw [7] (fun v wx => ∃ i : Nat, v = .int .i64 (i : Int) ∧ x ≤ i ∧ i ≤ y ∧ Hid (BX wx z #[.int .i64 (x : Int), .int .i64 (y : Int), .slice u2a u2n u2c, .slice u3a u3n u3c] 36) ∧ Hid (Below w4.heap.size w4 wx)) (fun v _ => y - (intOf v).toNat)
      case atStart => exact ⟨x, rfl, by omega, by have := HXY.out; omega, HX, HBa⟩
      case round =>
        clear HX HBa
        obtain ⟨wx, rfl⟩ : ∃ wx : World, wx = wr := ⟨_, rfl⟩
        obtain ⟨i, rfl, hxi, hiy, HX, HBx⟩ := hrel
        have y1 := HX.out.cell 1
        have y2 : wx.cell? ⟨z, 1, none⟩ = some (.int .i64 (y : Int)) := y1
        clear y1
        by_cases hlt2 : i < y
        · obtain ⟨hof, hnx⟩ := HIn.out i hxi hlt2
          have HOf := hid (Of_any (HG4.out.below HBx.out) (i := i) (by have := HXY.out; omega))
          rw [hof] at HOf
          have HNxt := hid hnx
          clear hof hnx
          by_cases h3 : i + 1 < y
          · have h4 : decide ((i : Int) + 1 < (y : Int)) = true := decide_eq_true (by omega)
            have h5 : (i : Int) + 1 < (y : Int) := by omega
            go_wp2_with (first | (go_at_call 9; go_loud (refine HOf.out.mono ?_; rintro e w6 ⟨rfl, hb6⟩; have HX6 := hid (HX.out.below hb6); have HB6 := hid (belows HBx.out hb6 HBx.out.size); have y6 : w6.cell? ⟨z, 1, none⟩ = some (.int .i64 (y : Int)) := HX6.out.cell 1; obtain ⟨x0, x1, x2, x3, x4, x5, x6, x7, x8, x9, x10, x11⟩ := bx12 (HF4.out.below HB6.out); clear hb6)) | (go_at_call 11; go_loud (refine (HNx.out w6 (belows HB4.out HB6.out HB4.out.size) i (by have := HXY.out; omega)).mono ?_; unfold NxPost; rintro e w7 ⟨v7, rfl, ho7, hb7⟩; rw [HNxt.out h3] at ho7; have HO7 := hid (Kit.isS_of_owns ho7 (by simp)); have HX7 := hid (HX6.out.below hb7); have HB7 := hid (belows HB6.out hb7 HB6.out.size); clear ho7 hb7)) | (go_at_call 10; go_loud (refine (same_nums (l := [i + 1]) (HO7.out.below ((Below.refl _ _).alloc (Nat.le_refl _) _) (Nat.le_refl _)) (isS_bx (BX.new _ _ _) rfl rfl (by simp)) (by simp)).mono ?_; rintro e w8 ⟨rfl, hb8⟩; have hb78 : Below w7.heap.size w7 w8 := belows ((Below.refl _ _).alloc (Nat.le_refl _) _) hb8 (by simp); have HX8 := hid (HX7.out.below hb78); have HB8 := hid (belows HB7.out hb78 HB7.out.size); clear hb78 hb8)))
            go_roundw
            case rel => exact ⟨i + 1, by go_num, by omega, by omega, HX8, HB8⟩
            case measure => simp [intOf]; omega
          · have h5 : ((i : Int) + 1 < (y : Int)) = False := eq_false (by omega)
            have h6 : (y : Int) ≤ (i : Int) + 1 := by omega
            have h7 : y ≤ i + 1 := by omega
            go_wp2_with (first | (go_at_call 9; go_loud (refine HOf.out.mono ?_; rintro e w6 ⟨rfl, hb6⟩; have HX6 := hid (HX.out.below hb6); have HB6 := hid (belows HBx.out hb6 HBx.out.size); have y6 : w6.cell? ⟨z, 1, none⟩ = some (.int .i64 (y : Int)) := HX6.out.cell 1; clear hb6)))
            go_roundw
            case rel => exact ⟨i + 1, by go_num, by omega, by omega, HX6, HB6⟩
            case measure => simp [intOf]; omega
        · obtain rfl : i = y := by omega
          go_wp2
          go_roundw
          case rel => exact ⟨b + 1, by go_num, by rw [HNe.out], by omega, HBx⟩
          case measure => simp [intOf]; omega
    · obtain rfl : b = k := by omega
      obtain ⟨-, -, -, -, -, -, -, -, -, x9, -, -⟩ := bx12 (HF4.out.below HBl.out)
      have hst : Cf.stA (Cf.Bg L C) L.length b = L.length := by rw [HK.out]; exact Cf.stA_end _ _
      rw [hst]
      clear hst
      go_wp2
      go_ret
      exact ⟨rfl, belows HB4.out HBl.out HB4.out.size⟩
theorem all_law {w : World} {f : Fc} {L : List Op5} {C : List Ca} (hO : OpS w f.ov L) (hC : CaS w f.cv C) (hn : L.length ≤ 1048576) (hm : C.length ≤ 1048576) :
    Calls Try.prog 3 #[.agg f.cs] w fun e w' => e = .returned (.bool true) ∧ Below w.heap.size w w' := by
  cases L with
  | nil => exact all0_law hO hC hm
  | cons x L => exact all1_law hO hC hn hm (by simp)
end Go.Proofs.Ytdodobpbdnpjiaa
namespace Go.Proofs.Ytdodobpbdnpjiaa
open Go.ChangeShapes Go.WideShapes Go.ChangeAt Go.RowKit Go.WideMaps Go.WideElems
open Cf (Op5 Ca opL caL)
set_option maxRecDepth 100000
section
variable {H : Type} {enc : TypeId × Value → H}
theorem weights_allT {P : Program} {e : TypeId} : ∀ {ds : List (DataW H)} {d : DataW H}, d ∈ ds → (DataW.weightsAll P e ds).all (· ≤ reachBytes) = true → (d.weights P e).all (· ≤ reachBytes) = true
  | [], _, h, _ => by cases h
  | x :: r, d, h, hw => by
    simp only [DataW.weightsAll, List.all_append, Bool.and_eq_true] at hw
    rcases List.mem_cons.1 h with rfl | h
    · exact hw.1
    · exact weights_allT h hw.2
theorem bulk_pos (d : DataW H) : 1 ≤ Rows.uptoBulk d := by
  cases d with
  | lit l => cases l <;> simp [Rows.uptoBulk]
  | _ => simp [Rows.uptoBulk]
theorem bulk_len : ∀ l : List (DataW H), l.length ≤ Rows.uptoBulkAll l
  | [] => by simp [Rows.uptoBulkAll]
  | x :: r => by have h1 := bulk_pos x; have h2 := bulk_len r; simp only [Rows.uptoBulkAll, List.length_cons]; omega
theorem bulk_mem : ∀ {l : List (DataW H)} {d : DataW H}, d ∈ l → Rows.uptoBulk d ≤ Rows.uptoBulkAll l
  | [], _, h => by cases h
  | x :: r, d, h => by
    simp only [Rows.uptoBulkAll]
    rcases List.mem_cons.1 h with rfl | h
    · omega
    · have := bulk_mem h; omega
theorem bulk_all {l : List (DataW H)} (h : Rows.uptoSmall H l = true) : Rows.uptoBulkAll l ≤ 1048576 := of_decide_eq_true h
theorem A.cellsInt : Try.prog.cellsOf 3 = 1 := by kernel_rfl
theorem A.cellsI64 : Try.prog.cellsOf 2 = 1 := by kernel_rfl
theorem A.cellsOps : Try.prog.cellsOf 25 = 1 := by kernel_rfl
theorem A.cellsCas : Try.prog.cellsOf 26 = 1 := by kernel_rfl
set_option maxRecDepth 100000 in
/-- A list of things of so many cells each, in a cell. -/
theorem list_cell {α : Type} {W : World} {n : Nat} {k : Value} {y : DataW H × List MemPlace} {tS tE : TypeId} {s by_ : Nat} (G : DataW H → List Value → α → Prop) (hG : ∀ d cs x, G d cs x → cs.length = s) (hs : 0 < s)
    (hu : Try.prog.underlying tS = some (.slice tE)) (hco : Try.prog.cellsOf tE = s) (hby : Try.prog.bytesOf tE = by_) (hb0 : 0 < by_)
    (he : ∀ (m : Nat) (cs : List Value) (z : DataW H × List MemPlace), DataW.trod enc Try.prog W 0 (fun _ => true) true m tE cs = some z → (z.1.weights Try.prog tE).all (· ≤ reachBytes) = true → ∃ x, G z.1 cs x)
    (h : DataW.trod enc Try.prog W 0 (fun _ => true) true n tS [k] = some y) (hw : (y.1.weights Try.prog tS).all (· ≤ reachBytes) = true) :
    ∃ (xs : List α) (rs : List (List Value)), rs.length = xs.length ∧ (∀ (i : Nat) (r : List Value) (x : α), rs[i]? = some r → xs[i]? = some x → ∃ d, G d r x ∧ Rows.uptoBulk d ≤ Rows.uptoBulk y.1) ∧ Kit.IsS s W k xs.length rs.flatten ∧ xs.length * by_ ≤ 140737488351232 ∧ xs.length ≤ Rows.uptoBulk y.1 := by
  rcases DataW.trod_slice hu h with ⟨hcs, rfl⟩ | ⟨a, len, cap, elems, rest, m, -, hcs, rfl, -, hl, hm, hel, hcells, hsp, -⟩
  · obtain rfl : k = .slice none 0 0 := by simpa using hcs
    exact ⟨[], [], rfl, fun i r x hr => by simp at hr, ⟨by simp, by simp, .inl ⟨rfl, none, 0, rfl⟩⟩, by simp, by simp⟩
  · obtain rfl : k = .slice (some a) len cap := by simpa using hcs
    simp only [DataW.weights, hu, List.all_cons, List.all_append, Bool.and_eq_true, decide_eq_true_eq, hby] at hw
    have hcap : len * by_ ≤ 140737488351232 := by
      have h1 := hw.1
      simp only [List.length_map, reachBytes] at h1
      rw [hel] at h1
      exact Nat.le_trans (Nat.mul_le_mul_right _ (Nat.le_add_right _ _)) h1
    have hbl : len ≤ Rows.uptoBulk (.slice (elems.map (·.1)) (rest.map (·.1)) : DataW H) := by
      have := bulk_len (elems.map (·.1))
      rw [List.length_map, hel] at this
      simp only [Rows.uptoBulk]
      omega
    have each : ∀ i, ∃ q : List Value × Option α, i < len → q.1.length = s ∧ (∀ j, j < s → W.cell? ((a.add (i * s)).add j) = q.1[j]?) ∧ ∃ x d, q.2 = some x ∧ G d q.1 x ∧ Rows.uptoBulk d ≤ Rows.uptoBulk (.slice (elems.map (·.1)) (rest.map (·.1)) : DataW H) := by
      intro i
      by_cases hi : i < len
      · have h1 := hcells i hi
        rw [hco, List.getElem?_eq_getElem (by omega), Option.bind_eq_some_iff] at h1
        obtain ⟨cs, hcs', htr⟩ := h1
        have hmem : elems[i].1 ∈ elems.map (·.1) := List.mem_map_of_mem (List.getElem_mem _)
        obtain ⟨x, hx⟩ := he _ _ _ htr (weights_allT hmem hw.2.1)
        refine ⟨(cs, some x), fun _ => ⟨hG _ _ _ hx, fun j hj => (World.cells?_some hcs').2.2 j hj, x, _, rfl, hx, ?_⟩⟩
        have := bulk_mem hmem
        simp only [Rows.uptoBulk]
        omega
      · exact ⟨([], none), fun h => absurd h hi⟩
    obtain ⟨f, hfx⟩ := Classical.skolem.1 each
    have hxs : ∃ xs : List α, xs.length = len ∧ ∀ i, i < len → xs[i]? = (f i).2 := by
      have : ∀ m, m ≤ len → ∃ xs : List α, xs.length = m ∧ ∀ i, i < m → xs[i]? = (f i).2 := by
        intro m
        induction m with
        | zero => intro _; exact ⟨[], rfl, fun i hi => by omega⟩
        | succ m ih =>
          intro hm
          obtain ⟨xs, h1, h2⟩ := ih (by omega)
          obtain ⟨-, -, x, d, hx, -⟩ := hfx m (by omega)
          refine ⟨xs ++ [x], by simp [h1], fun i hi => ?_⟩
          by_cases e : i < m
          · rw [List.getElem?_append_left (by omega)]; exact h2 i e
          · obtain rfl : i = m := by omega
            rw [List.getElem?_append_right (by omega), h1, Nat.sub_self, hx]
            rfl
      exact this len (Nat.le_refl _)
    obtain ⟨xs, hxl, hxe⟩ := hxs
    have hrl : ∀ r ∈ (List.range len).map (fun i => (f i).1), r.length = s := by
      intro r hr
      obtain ⟨i, hi, rfl⟩ := List.mem_map.1 hr
      exact (hfx i (List.mem_range.1 hi)).1
    have hfl : ∀ (rs : List (List Value)), (∀ r ∈ rs, r.length = s) → rs.flatten.length = rs.length * s ∧ ∀ i r, rs[i]? = some r → ∀ j, j < s → rs.flatten[i * s + j]? = r[j]? := by
      intro rs
      induction rs with
      | nil => intro _; exact ⟨by simp, fun i r hr => by simp at hr⟩
      | cons r0 rs ih =>
        intro hr
        obtain ⟨h1, h2⟩ := ih (fun r h => hr r (List.mem_cons_of_mem _ h))
        have h0 := hr r0 (by simp)
        refine ⟨by rw [List.flatten_cons, List.length_append, h0, h1, List.length_cons, Nat.succ_mul]; omega, fun i r hi j hj => ?_⟩
        match i, hi with
        | 0, hi =>
          simp at hi
          subst hi
          rw [List.flatten_cons, List.getElem?_append_left (by omega)]
          simp
        | i + 1, hi =>
          rw [List.flatten_cons, List.getElem?_append_right (by rw [h0, Nat.succ_mul]; omega), h0, ← h2 i r (by simpa using hi) j hj]
          congr 1
          rw [Nat.succ_mul]
          omega
    obtain ⟨hfl1, hfl2⟩ := hfl _ hrl
    have hrlen : ((List.range len).map (fun i => (f i).1)).length = len := by simp
    refine ⟨xs, (List.range len).map (fun i => (f i).1), by rw [hrlen, hxl], fun i r x hr hx => ?_, ⟨by rw [hfl1, hrlen, hxl], by rw [hxl]; exact Nat.le_trans (Nat.le_trans (Nat.le_mul_of_pos_right _ hb0) hcap) (by decide), ?_⟩, by rw [hxl]; exact hcap, by rw [hxl]; exact hbl⟩
    · have hi : i < len := by
        have := (List.getElem?_eq_some_iff.1 hx).1
        omega
      obtain ⟨-, -, x', d, hx', hg, hb⟩ := hfx i hi
      rw [hxe i hi, hx'] at hx
      cases hx
      rw [List.getElem?_map, List.getElem?_range hi] at hr
      simp only [Option.map_some, Option.some.injEq] at hr
      subst hr
      exact ⟨d, hg, hb⟩
    · by_cases h0 : len = 0
      · exact .inl ⟨by rw [hxl, h0], some a, cap, by rw [h0]⟩
      · obtain ⟨b, o, spot⟩ := a
        have hsp0 : ∃ u, W.cell? (((⟨b, o, spot⟩ : Addr).add (0 * s)).add 0) = some u := by
          obtain ⟨h1, h2, -⟩ := hfx 0 (by omega)
          refine ⟨(f 0).1[0]'(by omega), ?_⟩
          rw [h2 0 hs, List.getElem?_eq_getElem]
        obtain ⟨u0, hsp0⟩ := hsp0
        have hspot : spot = none := by
          have := World.cell?_spot hsp0
          simpa [Addr.add] using this
        subst hspot
        have hat : ∀ i j, ((⟨b, o, none⟩ : Addr).add i).add j = ⟨b, o + (i + j), none⟩ := by
          intro i j
          rw [add_plain, add_plain]; congr 1; omega
        refine .inr ⟨b, o, cap, by rw [hxl], by rw [hxl]; exact hl, ?_, fun i u hi => ?_⟩
        · have := World.block_lt_of_cell? W _ hsp0
          simpa [Addr.add] using this
        · have hil : i < len * s := by
            have := (List.getElem?_eq_some_iff.1 hi).1
            rw [hfl1, hrlen] at this
            exact this
          have hq : i / s < len := Nat.div_lt_of_lt_mul (by rw [Nat.mul_comm]; exact hil)
          have hr : i % s < s := Nat.mod_lt _ hs
          have e : i / s * s + i % s = i := by rw [Nat.mul_comm]; exact Nat.div_add_mod i s
          have hget : ((List.range len).map (fun i => (f i).1))[i / s]? = some (f (i / s)).1 := by rw [List.getElem?_map, List.getElem?_range hq]; rfl
          have h1 := hfl2 (i / s) _ hget (i % s) hr
          rw [e] at h1
          have h2 := (hfx (i / s) hq).2.1 (i % s) hr
          rw [hat, e] at h2
          rw [h2, ← h1]
          exact hi
theorem rs_map {α : Type} {f : α → List Value} {xs : List α} {rs : List (List Value)} (hl : rs.length = xs.length) (h : ∀ (i : Nat) (r : List Value) (x : α), rs[i]? = some r → xs[i]? = some x → r = f x) : rs.flatten = xs.flatMap f := by
  have e : rs = xs.map f := by
    apply List.ext_getElem?
    intro i
    rw [List.getElem?_map]
    by_cases hi : i < xs.length
    · have h1 : rs[i]? = some rs[i] := List.getElem?_eq_getElem (by omega)
      have h2 : xs[i]? = some xs[i] := List.getElem?_eq_getElem hi
      rw [h1, h2, h i _ _ h1 h2]
      rfl
    · rw [List.getElem?_eq_none (by omega), List.getElem?_eq_none (by omega)]
      rfl
  rw [e, List.flatMap_def]
theorem op5_cells {W : World} {n : Nat} {cs : List Value} {y : DataW H × List MemPlace} (h : DataW.trod enc Try.prog W 0 (fun _ => true) true n 70 cs = some y) : ∃ x : Op5, cs = opL x := by
  obtain ⟨xs, m, -, hy, hl, hlen, hf⟩ := DataW.trod_struct Try.underlying70 h
  have hl5 : cs.length = 5 := hl.trans (by kernel_rfl)
  have hx5 : xs.length = 5 := hlen
  match xs, hx5 with
  | [x0, x1, x2, x3, x4], _ =>
  match cs, hl5 with
  | [k0, k1, k2, k3, k4], _ =>
  obtain ⟨a, e0, -, -⟩ := DataW.trod_int Try.underlying3 (hf 0 _ rfl)
  obtain ⟨b, e1, -, -⟩ := DataW.trod_int Try.underlying3 (hf 1 _ rfl)
  obtain ⟨c, e2, -, -⟩ := DataW.trod_int Try.underlying3 (hf 2 _ rfl)
  obtain ⟨d, e3, -, -⟩ := DataW.trod_int Try.underlying2 (hf 3 _ rfl)
  obtain ⟨e, e4, -, -⟩ := DataW.trod_int Try.underlying3 (hf 4 _ rfl)
  have q0 : ([k0, k1, k2, k3, k4].drop 0).take (Try.prog.cellsOf 3) = [.int .i64 a] := e0
  have q1 : ([k0, k1, k2, k3, k4].drop 1).take (Try.prog.cellsOf 3) = [.int .i64 b] := e1
  have q2 : ([k0, k1, k2, k3, k4].drop 2).take (Try.prog.cellsOf 3) = [.int .i64 c] := e2
  have q3 : ([k0, k1, k2, k3, k4].drop 3).take (Try.prog.cellsOf 2) = [.int .i64 d] := e3
  have q4 : ([k0, k1, k2, k3, k4].drop 4).take (Try.prog.cellsOf 3) = [.int .i64 e] := e4
  rw [A.cellsInt] at q0 q1 q2 q4
  rw [A.cellsI64] at q3
  simp only [List.drop_zero, List.take_succ_cons, List.take_zero, List.cons.injEq, and_true, List.drop_succ_cons] at q0 q1 q2 q3 q4
  subst q0 q1 q2 q3 q4
  exact ⟨⟨a, b, c, d, e⟩, rfl⟩
theorem ca_cells {W : World} {n : Nat} {cs : List Value} {y : DataW H × List MemPlace} (h : DataW.trod enc Try.prog W 0 (fun _ => true) true n 86 cs = some y) : ∃ x : Ca, cs = caL x := by
  obtain ⟨xs, m, -, hy, hl, hlen, hf⟩ := DataW.trod_struct Try.underlying86 h
  have hl4 : cs.length = 4 := hl.trans (by kernel_rfl)
  have hx4 : xs.length = 4 := hlen
  match xs, hx4 with
  | [x0, x1, x2, x3], _ =>
  match cs, hl4 with
  | [k0, k1, k2, k3], _ =>
  obtain ⟨a, e0, -, -⟩ := DataW.trod_int Try.underlying3 (hf 0 _ rfl)
  obtain ⟨b, e1, -, -⟩ := DataW.trod_int Try.underlying3 (hf 1 _ rfl)
  obtain ⟨c, e2, -, -⟩ := DataW.trod_int Try.underlying3 (hf 2 _ rfl)
  obtain ⟨d, e3, -, -⟩ := DataW.trod_int Try.underlying3 (hf 3 _ rfl)
  have q0 : ([k0, k1, k2, k3].drop 0).take (Try.prog.cellsOf 3) = [.int .i64 a] := e0
  have q1 : ([k0, k1, k2, k3].drop 1).take (Try.prog.cellsOf 3) = [.int .i64 b] := e1
  have q2 : ([k0, k1, k2, k3].drop 2).take (Try.prog.cellsOf 3) = [.int .i64 c] := e2
  have q3 : ([k0, k1, k2, k3].drop 3).take (Try.prog.cellsOf 3) = [.int .i64 d] := e3
  rw [A.cellsInt] at q0 q1 q2 q3
  simp only [List.drop_zero, List.take_succ_cons, List.take_zero, List.cons.injEq, and_true, List.drop_succ_cons] at q0 q1 q2 q3
  subst q0 q1 q2 q3
  exact ⟨⟨a, b, c, d⟩, rfl⟩
theorem ops_cell {W : World} {n : Nat} {k : Value} {y : DataW H × List MemPlace} (h : DataW.trod enc Try.prog W 0 (fun _ => true) true n 25 [k] = some y) (hw : (y.1.weights Try.prog 25).all (· ≤ reachBytes) = true) :
    ∃ l : List Op5, OpS W k l ∧ l.length ≤ Rows.uptoBulk y.1 := by
  obtain ⟨xs, rs, h1, h2, h3, h4, h5⟩ := list_cell (s := 5) (by_ := 40) (tE := 70) (fun (_ : DataW H) cs (x : Op5) => cs = opL x) (fun _ _ x h => by rw [h]; rfl) (by decide) Try.underlying25 (by kernel_rfl) (by kernel_rfl) (by decide) (fun m cs z hz _ => op5_cells hz) h hw
  refine ⟨xs, ?_, h5⟩
  unfold OpS
  rw [← rs_map h1 (fun i r x hr hx => by obtain ⟨d, hd, -⟩ := h2 i r x hr hx; exact hd)]
  exact h3
theorem cas_cell {W : World} {n : Nat} {k : Value} {y : DataW H × List MemPlace} (h : DataW.trod enc Try.prog W 0 (fun _ => true) true n 26 [k] = some y) (hw : (y.1.weights Try.prog 26).all (· ≤ reachBytes) = true) :
    ∃ l : List Ca, CaS W k l ∧ l.length ≤ Rows.uptoBulk y.1 := by
  obtain ⟨xs, rs, h1, h2, h3, h4, h5⟩ := list_cell (s := 4) (by_ := 32) (tE := 86) (fun (_ : DataW H) cs (x : Ca) => cs = caL x) (fun _ _ x h => by rw [h]; rfl) (by decide) Try.underlying26 (by kernel_rfl) (by kernel_rfl) (by decide) (fun m cs z hz _ => ca_cells hz) h hw
  refine ⟨xs, ?_, h5⟩
  unfold CaS
  rw [← rs_map h1 (fun i r x hr hx => by obtain ⟨d, hd, -⟩ := h2 i r x hr hx; exact hd)]
  exact h3
theorem func_cells {W : World} {n : Nat} {cs : List Value} {y : DataW H × List MemPlace} (h : DataW.trod enc Try.prog W 0 (fun _ => true) true n 28 cs = some y) (hw : (y.1.weights Try.prog 28).all (· ≤ reachBytes) = true) :
    ∃ (f : Fc) (L : List Op5) (C : List Ca), cs = f.cs.toList ∧ OpS W f.ov L ∧ CaS W f.cv C ∧ L.length ≤ Rows.uptoBulk y.1 ∧ C.length ≤ Rows.uptoBulk y.1 := by
  obtain ⟨xs, m, -, hy, hl, hlen, hf⟩ := DataW.trod_struct Try.underlying28 h
  have hl12 : cs.length = 12 := hl.trans (by kernel_rfl)
  have hx11 : xs.length = 11 := hlen
  match xs, hx11 with
  | [x0, x1, x2, x3, x4, x5, x6, x7, x8, x9, x10], _ =>
  match cs, hl12 with
  | [k0, k1, k2, k3, k4, k5, k6, k7, k8, k9, k10, k11], _ =>
  have f8 : DataW.trod enc Try.prog W 0 (fun _ => true) true m 25 (([k0, k1, k2, k3, k4, k5, k6, k7, k8, k9, k10, k11].drop 9).take (Try.prog.cellsOf 25)) = some x8 := hf 8 _ rfl
  have f9 : DataW.trod enc Try.prog W 0 (fun _ => true) true m 26 (([k0, k1, k2, k3, k4, k5, k6, k7, k8, k9, k10, k11].drop 10).take (Try.prog.cellsOf 26)) = some x9 := hf 9 _ rfl
  rw [A.cellsOps] at f8
  rw [A.cellsCas] at f9
  simp only [List.take_succ_cons, List.take_zero, List.drop_succ_cons, List.drop_zero] at f8 f9
  subst hy
  simp only [DataW.weights, Try.underlying28, List.map_cons, List.map_nil, DataW.weightsEach, List.all_append, Bool.and_eq_true] at hw
  obtain ⟨L, hL, hL2⟩ := ops_cell f8 (by simp_all)
  obtain ⟨C, hC, hC2⟩ := cas_cell f9 (by simp_all)
  refine ⟨⟨k0, k1, k2, k3, k4, k5, k6, k7, k8, k9, k10, k11⟩, L, C, rfl, hL, hC, ?_, ?_⟩
  · refine Nat.le_trans hL2 ?_
    simp only [List.map_cons, List.map_nil, Rows.uptoBulk, Rows.uptoBulkAll]
    omega
  · refine Nat.le_trans hC2 ?_
    simp only [List.map_cons, List.map_nil, Rows.uptoBulk, Rows.uptoBulkAll]
    omega
theorem open_func {W : World} {base : Nat} {v : Value} {d : DataW H} {p : List MemPlace} (hv : Value.okWide Try.prog W .any base 28 v) (h : DataW.Trod enc Try.prog W 0 (fun _ => true) true 28 v d p) (hw : (d.weights Try.prog 28).all (· ≤ reachBytes) = true) (hb : Rows.uptoBulk d ≤ 1048576) :
    ∃ (f : Fc) (L : List Op5) (C : List Ca), v = .agg f.cs ∧ OpS W f.ov L ∧ CaS W f.cv C ∧ L.length ≤ 1048576 ∧ C.length ≤ 1048576 := by
  obtain ⟨cs, rfl, hsz⟩ := okWide_struct Try.underlying28 hv
  obtain ⟨fuel, hf⟩ := h
  obtain ⟨f, L, C, hc, h1, h2, h3, h4⟩ := func_cells (y := (d, p)) hf hw
  refine ⟨f, L, C, ?_, h1, h2, Nat.le_trans h3 hb, Nat.le_trans h4 hb⟩
  have hc2 : cs.toList = _ := hc
  rw [show cs = cs.toList.toArray by simp, hc2]
theorem weights_eachT {P : Program} : ∀ {ts : List TypeId} {ds : List (DataW H)} {j : Nat} {t : TypeId} {d : DataW H}, ts[j]? = some t → ds[j]? = some d → (DataW.weightsEach P ts ds).all (· ≤ reachBytes) = true → (d.weights P t).all (· ≤ reachBytes) = true
  | [], _, _, _, _, h, _, _ => by simp at h
  | _, [], _, _, _, _, h, _ => by simp at h
  | t :: ts, d :: ds, 0, _, _, h1, h2, h => by
    simp only [List.getElem?_cons_zero, Option.some.injEq] at h1 h2
    subst h1 h2
    simp only [DataW.weightsEach, List.all_append, Bool.and_eq_true] at h
    exact h.1
  | t :: ts, d :: ds, j + 1, _, _, h1, h2, h => by
    simp only [DataW.weightsEach, List.all_append, Bool.and_eq_true] at h
    exact weights_eachT (j := j) (by simpa using h1) (by simpa using h2) h.2
end
end Go.Proofs.Ytdodobpbdnpjiaa
namespace Go.Proofs.Ytdodobpbdnpjiaa.Kit
open Go Go.RowKit Go.ChangeShapes Go.WideShapes Go.ChangeAt

section
variable {H : Type} {enc : TypeId × Value → H} {P : Program}
/-- Arguments read in a later world as they did. -/
theorem trodAll_later (hl : laidOutB P = true) {W W' : World} (hb : Below W.heap.size W W') (sp : Nat → Bool) :
    ∀ {ts : List TypeId} {vs : List Value} {ds : List (DataW H)} {ps : List MemPlace}, (∀ t ∈ ts, P.readableRec t = true ∧ t < P.types.size) → DataW.TrodAll enc P W 0 (fun _ => true) true ts vs ds ps →
      (∀ x ∈ ps, x.block < W.heap.size) → (∀ x ∈ ps, sp x.block = true) → DataW.TrodAll enc P W' 0 sp true ts vs ds ps
  | [], vs, ds, ps, _, h, _, _ => by
    obtain ⟨rfl, rfl, rfl⟩ := trodAll_nil h
    exact trodAll_mk0
  | t :: ts, vs, ds, ps, hr, h, hlt, hsp => by
    obtain ⟨v, vs', d, ds', p, q, rfl, rfl, rfl, h0, h1⟩ := trodAll_cons h
    exact trodAll_cons_mk (WideElems.Trod_stays hl (hr t (by simp)).1 (hr t (by simp)).2 h0 (fun x hx => hb.same (hlt x (by simp [hx]))) (fun x hx => hsp x (by simp [hx])))
      (trodAll_later hl hb sp (fun t ht => hr t (by simp [ht])) h1 (fun x hx => hlt x (by simp [hx])) (fun x hx => hsp x (by simp [hx])))
/-- A law's answer: true; all that it was handed reads as it did. -/
theorem law_post {f : Func} {s : ChangeSpec} {apart fresh handsOn again : Bool} {W W' : World} {args : Array Value} {ds gs : List (DataW H)} {before : List MemPlace} {tb : TypeId}
    (hv : s.vars = []) (hr : f.resultTypes = #[tb]) (htb : P.underlying tb = some .bool) (hl : laidOutB P = true) (hrd : ∀ t ∈ f.params.toList, P.readableRec t = true ∧ t < P.types.size)
    (hW : DataW.Whole enc P f.params.toList s.vars apart W args.toList ds gs before)
    (hfn : s.fn H (ds ++ gs) = { results := [.lit (.bool true)], args := ds }) (hb : Below W.heap.size W W') :
    s.post enc P f apart fresh handsOn again W args (.bool true) W' := by
  have hlt : ∀ p ∈ before, p.block < W.heap.size := fun p hp => hW.lt p hp
  have hW' := hW
  obtain ⟨p, q, hA, hV, rfl, hfz, hnd⟩ := hW
  rw [hv] at hV
  obtain ⟨rfl, rfl⟩ := trodVars_none hV
  simp only [List.append_nil] at hlt hfz hnd hW' hfn ⊢
  have hres : ∀ (b : Nat) (sp : Nat → Bool) (hd : Bool), DataW.TrodAll enc P W' b sp hd f.resultTypes.toList ((Value.bool true).resultList f.resultTypes.size) (s.fn H ds).results [] := by
    intro b sp hd
    rw [hr, hfn]
    exact trodAll_cons_mk (shut_bool htb _) trodAll_mk0
  have hargs : ∀ sp : Nat → Bool, (∀ x ∈ p, sp x.block = true) → DataW.TrodAll enc P W' 0 sp true f.params.toList args.toList (s.fn H ds).args p := by
    intro sp hsp
    rw [hfn]
    exact trodAll_later hl hb sp hrd hA hlt hsp
  have hvs : ∀ sp : Nat → Bool, DataW.TrodVars enc P W' sp s.vars (s.fn H ds).vars [] := by
    intro sp
    rw [hv, hfn]
    rfl
  have hold : ∀ x ∈ p, (fun b => decide (b < W.heap.size)) x.block = true := fun x hx => by simpa using hlt x hx
  refine ⟨ds, [], p, [], p, [], hW', ?_, ?_, ?_, World.keptBut_mono (fun x hx => ⟨hx, .inr (.inl hx)⟩) (hb.frame (· ∈ p)), fun _ => ?_⟩
  · rw [List.append_nil]; exact hres _ _ _
  · rw [List.append_nil]; exact hargs _ hold
  · rw [List.append_nil]; exact hvs _
  · refine ⟨ok_one hr rfl (okWide_bool_mk htb _), _, _, ([] ++ p) ++ [], ⟨[] ++ p, [], trodAll_append (hargs _ (fun _ _ => rfl)) (hres _ _ _), hvs _, rfl, ?_, ?_⟩, ?_⟩
    · intro b off hp
      have hin : MemPlace.cell b off ∈ p := by simpa using hp
      have := hb.frozen (p := ⟨b, off, none⟩) (hlt _ hin)
      rw [this]
      exact hfz b off hin
    · intro ha
      simpa using hnd ha
    · intro x hx _
      simpa using hx
end
end Go.Proofs.Ytdodobpbdnpjiaa.Kit

/- Own texts for the claim, part 7. -/
import Derived.Test.YtdodobpbdnpjiaaZF6
namespace Go.Proofs.Ytdodobpbdnpjiaa
open Go Go.RowKit
open Kit (natVals)
open Cf (Op5 Ca opL caL)
attribute [local go_sem] Oper.semAt_some
set_option maxRecDepth 100000
set_option maxHeartbeats 2000000
theorem goOn0_any {w : World} {gb : Nat} {ba : Option Addr} {bc : Nat} {a1 a2 a3 a4 a5 cv : Value} (h : BX w gb #[.slice ba 0 bc, a1, a2, a3, a4, a5] 56) :
    Calls Try.prog 23 #[.pointer (some ⟨gb, 0, none⟩), cv] w fun e w' => e = .returned (.tuple #[]) ∧ w' = w := by
  have k0 := h.cell 0
  clear h
  go_enter Try.func23, Try.ntmps23
  go_wp2
  go_loopw [13] (fun v wr => v = .int .i64 0 ∧ wr = w) (fun _ _ => 0)
  case atStart => exact ⟨rfl, rfl⟩
  case round =>
    obtain ⟨rfl, rfl⟩ := hrel
    go_wp2
    refine bodyPost_end (results_none rfl _ _ _) rfl ?_
    exact ⟨rfl, rfl⟩
theorem catch0_any {cb : Nat} {cov pv : Value} {P : List Nat} (hP : Cf.Pl (Cf.adr []) 0 P) {base gb ob : Nat} {F : Nat → Int} {bv a2 a3 a4 a5 cvv : Value} {C : List Ca} {w : World} (h : BX w gb #[bv, .slice (some ⟨ob, 0, none⟩) 0 0, a2, a3, a4, a5] 56) (hof : w.ownsRow base 3 1 (.slice (some ⟨ob, 0, none⟩) 0 0) 0 (ivals F 0)) (hlow : ∀ X, Below w.heap.size w X → Code X cb cov pv [] P ∧ CaS X cvv C) (hm : C.length ≤ 1048576) :
    Calls Try.prog 24 #[.pointer (some ⟨gb, 0, none⟩), .pointer (some ⟨cb, 0, none⟩), cvv] w fun e w' => e = .returned (.tuple #[]) ∧ Below w.heap.size w w' := by
  have k1 := h.cell 1
  have HI := hid h
  have HE := hid (ends_any (L := []) hP (hlow w (Below.refl _ _)).1 hof (by decide))
  have HS := hid (fun W (hb : Below w.heap.size w W) => spans_any (L := []) (k := 0) (B := fun _ => false) hP (hlow W hb).1 (hlow W hb).2 (Kit.owns_below hof hb (Nat.le_refl _)) (by decide) hm (fun i hi => by cases hi))
  clear h hlow hP hof
  simp only [List.length_nil] at HE HS
  go_enter Try.func24, Try.ntmps24
  go_upto_block 1 with (first | (go_at_call 47; go_loud (refine HE.out.mono ?_; rintro e w1 ⟨rfl, E, hE⟩; have hb1 := hE.2.2.1; have k1' := (HI.out.below hb1).cell 1; clear hE)) | (go_at_call 48; go_loud (refine (HS.out _ hb1).mono ?_; rintro e w2 ⟨v2, S, rfl, hS⟩; have HSp := hid hS; obtain ⟨sa, scap, rfl⟩ := own_form hS.1; clear hS)))
  have hS0 : S.length = 0 := by
    rcases S with _ | ⟨s, S⟩
    · rfl
    · obtain ⟨t, f, e, -, ht, -⟩ := HSp.out.2.2.1 s (by simp)
      cases ht
  have hb2 : Below w.heap.size w w2 := belows hb1 HSp.out.2.2.2 hb1.size
  clear HSp HS HE hb1 k1' k1
  rw [hS0]
  go_loopw [28] (fun v wr => v = .int .i64 0 ∧ wr = w2) (fun _ _ => 0)
  case atStart => exact ⟨rfl, rfl⟩
  case round =>
    obtain ⟨rfl, rfl⟩ := hrel
    go_wp2
    refine bodyPost_end (results_none rfl _ _ _) rfl ?_
    exact ⟨rfl, hb2⟩
theorem walk0_any {w : World} {gb k : Nat} {ba : Option Addr} {bc : Nat} {fv : Value} (h : BX w gb #[.slice ba k bc, fv, Nil, Nil, Nil, Nil] 56) (hk : k = 0) :
    Calls Try.prog 25 #[.pointer (some ⟨gb, 0, none⟩)] w fun e w' => e = .returned (.tuple #[]) ∧ Below gb w w' ∧ ∃ sv, BX w' gb #[.slice ba k bc, fv, Nil, sv, Nil, Nil] 56 := by
  have hmk := fun W => run_make_row' (P := Try.prog) 51 4 (.bool false) 1 (by kernel_rfl) (by kernel_rfl) rfl .i64 .i64 k (by omega) (by omega) W
  have k0 := h.cell 0
  have hgs := h.sz
  obtain ⟨w1, hw1⟩ : ∃ w1, w1 = (((w.alloc (.cells #[.pointer (some ⟨gb, 0, none⟩)] 29)).alloc (.cells (madeCells #[.bool false] k) 4)).alloc (.cells #[.slice (some ⟨w.heap.size + 1, 0, none⟩) k k] 51)).alloc (.cells #[enF (w.heap.size + 1 + 1) w.heap.size (w.heap.size + 1 + 1 + 1)] 92) := ⟨_, rfl⟩
  have hb1 : Below w.heap.size w w1 := by rw [hw1]; exact (by repeat' first | with_reducible exact Below.refl _ _ | with_reducible assumption | with_reducible refine belows_drewN ?_ _ | with_reducible refine Below.drew ?_ | with_reducible refine Below.setCell ?_ ?_ _ | with_reducible refine Below.alloc ?_ ?_ _ | omega | (simp; done) | (simp; omega))
  have hs1 : w1.heap.size = w.heap.size + 4 := by rw [hw1]; simp
  have bx0 := ((((BX.new w #[.pointer (some ⟨gb, 0, none⟩)] 29).below ((Below.refl _ _).alloc (Nat.le_refl _) (.cells (madeCells #[.bool false] k) 4))).below ((Below.refl _ _).alloc (Nat.le_refl _) (.cells #[.slice (some ⟨w.heap.size + 1, 0, none⟩) k k] 51))).below ((Below.refl _ _).alloc (Nat.le_refl _) (.cells #[enF (w.heap.size + 1 + 1) w.heap.size (w.heap.size + 1 + 1 + 1)] 92)))
  rw [← hw1] at bx0
  have HX := hid bx0
  have HB1 := hid hb1
  have HG1 := hid (h.below hb1)
  have HN : Hid (k = 0) := hk
  have hst : (store ⟨w.heap.size + 1 + 1 + 1, 0, none⟩ (.func (.func 49) #[] #[.pointer (some ⟨w.heap.size + 1 + 1, 0, none⟩), .pointer (some ⟨w.heap.size, 0, none⟩), .pointer (some ⟨w.heap.size + 1 + 1 + 1, 0, none⟩)])).run Try.prog ((((w.alloc (.cells #[.pointer (some ⟨gb, 0, none⟩)] 29)).alloc (.cells (madeCells #[.bool false] k) 4)).alloc (.cells #[.slice (some ⟨w.heap.size + 1, 0, none⟩) k k] 51)).alloc (.cells #[.nilFunc] 92)) = .ok () w1 := by
    have bxn := BX.new (((w.alloc (.cells #[.pointer (some ⟨gb, 0, none⟩)] 29)).alloc (.cells (madeCells #[.bool false] k) 4)).alloc (.cells #[.slice (some ⟨w.heap.size + 1, 0, none⟩) k k] 51)) #[.nilFunc] 92
    simp only [World.size_alloc] at bxn
    have c0 := bxn.cell 0
    have c1 : World.cell? _ ⟨w.heap.size + 1 + 1 + 1, 0, none⟩ = some .nilFunc := c0
    rw [run_store _ _ _ _ _ rfl, c1]
    dsimp only
    rw [bxn.frozen 0, hw1]
    simp only [Bool.false_eq_true, if_false]
    rw [World.setCell_alloc_at _ _ _ _ _ (by simp only [World.size_alloc])]
    rfl
  have HW1 := hid hw1
  have HR := hid (rev_any (v := Nil) (l := []) (w := w1) (base := 0) ⟨rfl, .inl ⟨rfl, rfl⟩⟩ (by decide))
  clear hw1 bx0 h hb1 hk
  go_enter Try.func25, Try.ntmps25
  go_upto_region 4 with fail
  have x0 : w1.cell? ⟨w.heap.size, 0, none⟩ = some (.pointer (some ⟨gb, 0, none⟩)) := HX.out.cell 0
  have g0 : w1.cell? ⟨gb, 0, none⟩ = some (.slice ba k bc) := HG1.out.cell 0
  have g2 : w1.cell? ⟨gb, 2, none⟩ = some Nil := HG1.out.cell 2
  clear k0 hst hmk
  have hkd : ¬ (0 < k) := by have := HN.out; omega
  go_upto_region 7 with (go_at_call 50; go_loud (refine HR.out.mono ?_; rintro e w6 ⟨rfl, -, c6⟩; have C6 : Hid (Chg (fun _ => False) w1 w6) := c6.mono (fun i _ e => by cases e); clear c6))
  have b6 := HG1.out.chg C6.out id
  have xx6 := HX.out.chg C6.out id
  have x6 := xx6.cell 0
  have g6 : w6.cell? ⟨gb, 0, none⟩ = some (.slice ba k bc) := b6.cell 0
  have hz6 := C6.out.size
  have hzx : w.heap.size < w6.heap.size := by omega
  have hzg : gb < w6.heap.size := by omega
  have HB6 := hid b6
  have HX6 := hid xx6
  clear x0 g0 g2 b6 xx6
  go_region_held3 (fun w' => w'.cell? ⟨w.heap.size, 0, none⟩ = some (.pointer (some ⟨gb, 0, none⟩)) ∧ w'.cell? ⟨gb, 0, none⟩ = some (.slice ba k bc))
    (first | exact ⟨x6, g6⟩ | exact ⟨x7, g70⟩ | exact ⟨x8, g8⟩ | go_keep)
    (first | (go_at_call 51; go_loud (refine (repeat_any (c := -1) (by first | (simp; done) | (simp; rw [World.cell?_alloc_at _ _ _ _ (by simp)]; rfl)) (by have := HN.out; omega)).mono ?_; rintro e w7 ⟨rfl, cur, h7, hI7, hb7⟩; have hb67 : Below w6.heap.size w6 w7 := belows (a := w6) (by repeat' first | with_reducible exact Below.refl _ _ | with_reducible assumption | with_reducible refine belows_drewN ?_ _ | with_reducible refine Below.drew ?_ | with_reducible refine Below.setCell ?_ ?_ _ | with_reducible refine Below.alloc ?_ ?_ _ | omega | (simp; done) | (simp; omega)) hb7 (by simp); clear h7 hI7; have b7 := HB6.out.below hb67; have xx7 := HX6.out.below hb67; have x7 := xx7.cell 0; have g70 : w7.cell? ⟨gb, 0, none⟩ = some (.slice ba k bc) := b7.cell 0; have g7 := b7.cell 3; have f7 := b7.frozen 3; have HT := hid (box_set b7 3 (.slice (some ⟨w6.heap.size + 1, 0, none⟩) k k)); have hc78 : Chg (fun i => i = gb) w7 (w7.setCell ⟨gb, 3, none⟩ (.slice (some ⟨w6.heap.size + 1, 0, none⟩) k k)) := (Chg.refl (fun i => i = gb) w7).set (p := ⟨gb, 3, none⟩) (.inl rfl) _; have HC8 := hid (((C6.out.mono (T := fun i => i = gb) (fun i _ e => e.elim)).below hb67).trans hc78 (fun i e => .inl e)); have x8 := ((xx7.chg hc78 (by intro e; omega)).cell 0 : World.cell? _ ⟨w.heap.size, 0, none⟩ = some (.pointer (some ⟨gb, 0, none⟩))); have g8 := (BX.cell HT.out 0 : World.cell? _ ⟨gb, 0, none⟩ = some (.slice ba k bc)); have hz7 := hb7.size; clear x6 g6 b7 xx7 hc78 hb7 hb67)))
  go_upto_region 8 with fail
  refine region_named fun W8 hW8 => ?_
  rw [← hW8] at HT HC8
  clear hW8 x8 g8 x7 g70 g7 f7
  have HT2 : Hid (BX W8 gb #[.slice ba k bc, fv, Nil, .slice (some ⟨w6.heap.size + 1, 0, none⟩) k k, Nil, Nil] 56) := HT.out
  have x0 : W8.cell? ⟨w.heap.size, 0, none⟩ = some (.pointer (some ⟨gb, 0, none⟩)) := (HC8.out.cell (p := ⟨w.heap.size, 0, none⟩) (by show w.heap.size < _; omega) (by show ¬ (w.heap.size = gb); omega)).trans (HX.out.cell 0)
  have g2 : W8.cell? ⟨gb, 2, none⟩ = some Nil := HT2.out.cell 2
  clear HT
  go_wp2
  go_loopw [41] (fun v wr => v = .int .i64 0 ∧ wr = W8) (fun _ _ => 0)
  case atStart => exact ⟨rfl, rfl⟩
  case round =>
    obtain ⟨rfl, rfl⟩ := hrel
    go_wp2
    refine bodyPost_end (results_none rfl _ _ _) rfl ?_
    refine ⟨rfl, ?_, _, HT2.out⟩
    exact (HB1.out.mono (by omega)).trans (HC8.out.to_below (fun j e => by omega) (by omega))
theorem turn0_any {w : World} {gb k : Nat} {ba : Option Addr} {bc : Nat} {fv sv : Value} (h : BX w gb #[.slice ba k bc, fv, Nil, sv, Nil, Nil] 56) (hk : k = 0) :
    Calls Try.prog 26 #[.pointer (some ⟨gb, 0, none⟩)] w fun e w' => e = .returned (.tuple #[]) ∧ Below gb w w' ∧ ∃ pv, BX w' gb #[.slice ba k bc, fv, Nil, sv, pv, Nil] 56 := by
  have hmk := fun W => run_make_row' (P := Try.prog) 53 34 (.slice none 0 0) 24 (by kernel_rfl) (by kernel_rfl) rfl .i64 .i64 k (by omega) (by omega) W
  have k0 := h.cell 0
  have k2 := h.cell 2
  have k4 := h.cell 4
  have f4 := h.frozen 4
  simp only [List.getElem?_toArray, List.getElem?_cons_zero, List.getElem?_cons_succ] at k0 k2 k4
  have hgs := h.sz
  have HH := hid h
  have HN : Hid (k = 0) := hk
  clear h hk
  refine (callsIn_wide (n := 5)).1 ?_
  refine callsIn_of_wp_marks Try.func26 rfl trivial ?_ rfl
  refine wpIn_wide.2 ?_
  simp only [Try.ntmps26, List.size_toArray, List.length_cons, List.length_nil, Nat.reduceAdd, Nat.reduceSub, Array.replicate_succ, Array.replicate_zero, List.push_toArray, List.append_toArray, List.nil_append, List.cons_append]
  go_upto_region 1 with fail
  have x0 : (w.alloc (.cells #[.pointer (some ⟨gb, 0, none⟩)] 29)).cell? ⟨w.heap.size, 0, none⟩ = some (.pointer (some ⟨gb, 0, none⟩)) := (BX.new w #[.pointer (some ⟨gb, 0, none⟩)] 29).cell 0
  have g0 : (w.alloc (.cells #[.pointer (some ⟨gb, 0, none⟩)] 29)).cell? ⟨gb, 0, none⟩ = some (.slice ba k bc) := (HH.out.below ((Below.refl _ _).alloc (Nat.le_refl _) _)).cell 0
  obtain ⟨wa, hwa⟩ : ∃ wa, wa = (((w.setCell ⟨gb, 4, none⟩ (.slice (some ⟨w.heap.size + 1, 0, none⟩) k k)).alloc (.cells #[.pointer (some ⟨gb, 0, none⟩)] 29)).alloc (.cells (madeCells #[.slice none 0 0] k) 34)).drew := ⟨_, rfl⟩
  have hca : Chg (fun i => i = gb) w wa := by
    rw [hwa]
    exact (((Chg.refl (fun i => i = gb) w).set (p := ⟨gb, 4, none⟩) (.inl rfl) _).alloc _).alloc _ |>.drew
  have hsa : wa.heap.size = w.heap.size + 2 := by rw [hwa]; simp [World.drew]
  have bga : BX wa gb #[.slice ba k bc, fv, Nil, sv, .slice (some ⟨w.heap.size + 1, 0, none⟩) k k, Nil] 56 := by
    rw [hwa]
    have b0 : BX (w.setCell ⟨gb, 4, none⟩ (.slice (some ⟨w.heap.size + 1, 0, none⟩) k k)) gb #[.slice ba k bc, fv, Nil, sv, .slice (some ⟨w.heap.size + 1, 0, none⟩) k k, Nil] 56 := box_set HH.out 4 (.slice (some ⟨w.heap.size + 1, 0, none⟩) k k)
    exact ((b0.below ((Below.refl _ _).alloc (Nat.le_refl _) _)).below ((Below.refl _ _).alloc (Nat.le_refl _) _)).below (Below.drew (Below.refl _ _))
  have bxa : BX wa w.heap.size #[.pointer (some ⟨gb, 0, none⟩)] 29 := by
    rw [hwa]
    have := BX.new (w.setCell ⟨gb, 4, none⟩ (.slice (some ⟨w.heap.size + 1, 0, none⟩) k k)) #[.pointer (some ⟨gb, 0, none⟩)] 29
    rw [World.size_setCell] at this
    exact (this.below ((Below.refl _ _).alloc (Nat.le_refl _) _)).below (Below.drew (Below.refl _ _))
  have x1 := bxa.cell 0
  have g1 := bga.cell 0
  rw [hwa] at x1 g1
  go_region_held3 (fun w' => w'.cell? ⟨w.heap.size, 0, none⟩ = some (.pointer (some ⟨gb, 0, none⟩)) ∧ w'.cell? ⟨gb, 0, none⟩ = some (.slice ba k bc))
    (first | exact ⟨x0, g0⟩ | exact ⟨x1, g1⟩ | go_keep) (fail)
  rw [← hwa]
  clear hwa x0 g0 x1 g1 k0 k4 f4 k2
  have x0 : wa.cell? ⟨w.heap.size, 0, none⟩ = some (.pointer (some ⟨gb, 0, none⟩)) := bxa.cell 0
  have k2 : wa.cell? ⟨gb, 2, none⟩ = some Nil := bga.cell 2
  go_wp2_with (go_at_call 12; refine (Order_any k2).mono ?_; rintro e w3 ⟨rfl, hw3⟩)
  have hs3 : w3.heap.size = w.heap.size + 3 := by rw [hw3]; simp [hsa]
  have hc3 : Chg (fun i => i = gb) w w3 := by rw [hw3]; exact hca.alloc _
  have bg3 : BX w3 gb #[.slice ba k bc, fv, Nil, sv, .slice (some ⟨w.heap.size + 1, 0, none⟩) k k, Nil] 56 := by rw [hw3]; exact bga.below ((Below.refl _ _).alloc (Nat.le_refl _) _)
  have bx3 : BX w3 w.heap.size #[.pointer (some ⟨gb, 0, none⟩)] 29 := by rw [hw3]; exact bxa.below ((Below.refl _ _).alloc (Nat.le_refl _) _)
  have bo3 : BX w3 (w.heap.size + 2) #[Nil] 34 := by
    rw [hw3, ← hsa]
    exact BX.new wa _ _
  rw [← hw3]
  clear hw3 x0 k2 bga bxa hca hsa
  have hit : ∀ X, Ks (fun i => i < w3.heap.size) w3 X → Kit.IsS 1 X Nil ([] : List Nat).length (natVals []) ∧ X.cell? ⟨w.heap.size + 2, 0, none⟩ = some Nil := fun X hX => by
    refine ⟨⟨rfl, by decide, .inl ⟨rfl, _, _, rfl⟩⟩, ?_⟩
    have : X.cell? ⟨w.heap.size + 2, 0, none⟩ = w3.cell? ⟨w.heap.size + 2, 0, none⟩ := World.cell?_of_block (hX.2 (w.heap.size + 2) (by omega))
    exact this.trans (bo3.cell 0)
  refine (wpIn_wide (n := 5)).1 ?_
  refine wpIn_rangeFunc_ownH rfl (by omega) (gf := 34) (lb := #[.pointer (some ⟨w.heap.size + 2, 0, none⟩)]) (by first | rfl | (simp [hs3]; done)) trivial (enters_of Try.func34 (by kernel_rfl) rfl)
    (order1_stops [] Nil (fun i => i < w3.heap.size) (w.heap.size + 2) (5 - 1) w3 (by omega) (fun k h => h) hit) (fun h k => Ks.trans h k) (Ks.putObj (fun k h => h)) (Below.refl _ _) (fun _ => rfl)
    (fun (pre : List (Tx [])) W => Below w3.heap.size w3 W) (fun _ _ _ => False)
    (fun pre X Y row h hg hr => h.grown hg h.size (fun r e => (hr r e).1)) (fun _ _ _ _ _ h _ _ => h)
    (Below.refl _ _)
    (fun (x : Tx []) a' W => False)
    (fun x a' => Own.from (fun s A B row hs hg hr => hs) _) ?assign ?body ?done ?stop
  case assign =>
    rintro D pre ⟨⟨k', c⟩, hx⟩ W K hI hK
    simp at hx
  case body =>
    rintro D pre ⟨⟨i, a⟩, hx⟩ a' W hD ⟨r, hr⟩ hI hf hlt
    exact hf.elim
  case done =>
    rintro D ys W hD rfl HT hDf
    have HDf := hid hDf
    have HB := hid HT
    have x0 : W.cell? ⟨w.heap.size, 0, none⟩ = some (.pointer (some ⟨gb, 0, none⟩)) := (bx3.below HT).cell 0
    have g4 : W.cell? ⟨gb, 4, none⟩ = some (.slice (some ⟨w.heap.size + 1, 0, none⟩) k k) := (bg3.below HT).cell 4
    clear HT hDf hit
    dsimp only
    go_wp2
    go_loopw [76] (fun v wr => v = .int .i64 0 ∧ wr = W) (fun v _ => 0)
    case atStart => exact ⟨rfl, rfl⟩
    case round =>
      obtain ⟨rfl, rfl⟩ := hrel
      obtain rfl := HN.out
      go_wp2
      refine ⟨by simp, .inl ⟨_, _, rfl, run_takeDeferred HDf.out, ?_⟩⟩
      have hg := grownBy_putObj' wr D (.deferred none)
      have hr : ∀ r, some D = some r → ∃ o : Obj, wr.heap[r]? = some o ∧ o.isCells = false := fun r e => by
        cases e
        exact ⟨_, HDf.out, rfl⟩
      have hcZ : Chg (fun j => j = gb) w (wr.putObj D (.deferred none)) := (hc3.below HB.out).trans (Chg.of_grown (S := fun j => j = D) hg (fun r e => by cases e; rfl)) (fun j e => .inr (by omega))
      exact ⟨.tuple #[], results_none rfl _ _ _, rfl, hcZ.to_below (fun j e => by omega) (by omega), _, bx_non (bg3.below HB.out) hg hr⟩
  case stop =>
    rintro D c' pre W hD - hX hK
    exact hX.elim
/-- A graph of no blocks, as New leaves it. -/
def NewP0 (w w' : World) (gb : Nat) : Prop := w.heap.size ≤ gb ∧ Below w.heap.size w w' ∧ ∃ ba bc fv sv pv, BX w' gb #[.slice ba 0 bc, fv, Nil, sv, pv, Nil] 56
theorem New0_any {w : World} {f : Fc} {C : List Ca} (hO : OpS w f.ov []) (hC : CaS w f.cv C) (hm : C.length ≤ 1048576) :
    Calls Try.prog 6 #[.agg f.cs] w fun e w' => ∃ gb, e = .returned (.pointer (some ⟨gb, 0, none⟩)) ∧ NewP0 w w' gb := by
  have hn : ([] : List Op5).length ≤ 1048576 := by decide
  obtain ⟨oa, ocap, hov⟩ := hO.form
  obtain ⟨ca, ccap, hcv⟩ := Kit.IsS.len hC
  obtain ⟨a0, a1, a2, a3, a4, a5, a6, a7, a8, ov, cv, a11⟩ := f
  dsimp only [Fc.cs] at *
  subst hov
  subst hcv
  simp only [List.length_nil] at hO ⊢
  have hb1 : Below w.heap.size w (w.alloc (.cells #[a0, a1, a2, a3, a4, a5, a6, a7, a8, .slice oa 0 ocap, .slice ca C.length ccap, a11] 28)) := (Below.refl _ _).alloc (Nat.le_refl _) _
  have bf1 := BX.new w #[a0, a1, a2, a3, a4, a5, a6, a7, a8, .slice oa 0 ocap, .slice ca C.length ccap, a11] 28
  have HBA := hid (byAddress_any (hO.below hb1) hn)
  have HC1 := hid (hC.below hb1)
  have HF1 := hid bf1
  have HB1 := hid hb1
  have hz1 : (w.alloc (.cells #[a0, a1, a2, a3, a4, a5, a6, a7, a8, .slice oa 0 ocap, .slice ca C.length ccap, a11] 28)).heap.size = w.heap.size + 1 := by simp
  have x9 := bf1.cell 9
  rw [hz1] at HBA
  simp only [List.length_nil] at HBA
  clear hO hC hb1 bf1
  go_enter Try.func6, Try.ntmps6
  go_upto_region 3 with (go_at_call 20; go_loud (refine HBA.out.mono ?_; rintro e w2 ⟨rfl, P, pv, hcode, hpl, hb2⟩; have HCode := hid hcode; have HPl := hid hpl; have HB2 := hid hb2; clear hcode hpl hb2))
  refine region_named fun w3 hw3 => ?_
  have hb3 : Below w2.heap.size w2 w3 := by rw [hw3]; exact (Below.refl _ _).alloc (Nat.le_refl _) _
  have bg3 : BX w3 w2.heap.size #[Nil, Nil, Nil, Nil, Nil, Nil] 56 := by rw [hw3]; exact BX.new w2 _ _
  have hs3 : w3.heap.size = w2.heap.size + 1 := by rw [hw3]; simp
  clear hw3 x9
  have hz2 := HB2.out.size
  have hCode2 := HCode.out
  have hC2 : CaS w2 (.slice ca C.length ccap) C := HC1.out.below (hz1 ▸ HB2.out)
  have hF2 : BX w2 w.heap.size #[a0, a1, a2, a3, a4, a5, a6, a7, a8, .slice oa 0 ocap, .slice ca C.length ccap, a11] 28 := HF1.out.below (hz1 ▸ HB2.out)
  have HLow := hid (fun X (hX : Below w2.heap.size w2 X) => (⟨hCode2.below hX, hC2.below hX⟩ : Code X _ _ _ [] P ∧ CaS X _ C))
  have hbw2 : Below w.heap.size w w2 := belows HB1.out (hz1 ▸ HB2.out) HB1.out.size
  have HF := hid (find_any (cb := w.heap.size + 1 + 2) (ov := .slice oa 0 ocap) (pv := pv) HPl.out hn)
  have HBG := hid (begins_any HF.out (hCode2.below hb3) (hC2.below hb3) hn hm)
  simp only [List.length_nil] at HBG
  have x10 : w3.cell? ⟨w.heap.size, 10, none⟩ = some (.slice ca C.length ccap) := (hF2.below hb3).cell 10
  have HF2 := hid hF2
  have HG3 := hid bg3
  have HB3 := hid hb3
  have HBW2 := hid hbw2
  have HZ1 := hid hz1
  have HS3 := hid hs3
  clear hCode2 hC2 hF2 hz1 hbw2 bg3 hb3 hz2 hs3
  go_upto_region 4 with (first | (go_at_call 22; go_loud (refine HBG.out.mono ?_; rintro e w4 ⟨rfl, h4⟩; have HCut := hid (cut_any (B := Cf.Bg [] C) (HG3.out.below h4.2.1) (Kit.owns_mono h4.1 (by have := HS3.out; omega)) (Nat.le_refl _) (by decide) (fun h => by omega)); have H4 := hid h4; clear h4)) | (go_at_call 21; go_loud (refine HCut.out.mono ?_; rintro e w5 ⟨rfl, ob, bv, h5⟩; have H5 := hid h5; clear h5)))
  refine region_named fun W5 hW5 => ?_
  rw [← hW5] at H5
  clear hW5
  have hb25 : Below w2.heap.size w2 W5 := (belows HB3.out H4.out.2.1 HB3.out.size).trans H5.out.bel
  have hbl0 := H5.out.gw.bl
  obtain ⟨ba, bc, rfl⟩ := own_form hbl0
  have hG5 : BX W5 w2.heap.size #[.slice ba 0 bc, .slice (some ⟨ob, 0, none⟩) 0 0, Nil, Nil, Nil, Nil] 56 := H5.out.gw.box
  have hs5 : w2.heap.size ≤ W5.heap.size := hb25.size
  have HGO := hid (goOn0_any (cv := .pointer (some ⟨w.heap.size + 1 + 2, 0, none⟩)) hG5)
  have HB25 := hid hb25
  have HG5 := hid hG5
  have x10 : W5.cell? ⟨w.heap.size, 10, none⟩ = some (.slice ca C.length ccap) := (HF2.out.below hb25).cell 10
  have HCA := hid (catch0_any HPl.out hG5 H5.out.gw.of (fun X hX => HLow.out X (belows hb25 hX hs5)) hm)
  clear hb25 hs5 HBG HBA HCut hG5 hbl0
  go_upto_region 5 with (go_at_call 23; go_loud (refine HGO.out.mono ?_; rintro e w6 ⟨rfl, rfl⟩))
  go_upto_region 6 with (go_at_call 24; go_loud (refine HCA.out.mono ?_; rintro e w7 ⟨rfl, hb7⟩; have HB7 := hid hb7; clear hb7))
  clear x10 HCA
  have HWk := hid (walk0_any (HG5.out.below HB7.out) rfl)
  go_upto_region 7 with (go_at_call 25; go_loud (refine HWk.out.mono ?_; rintro e w8 ⟨rfl, hb8, sv, h8⟩; have H8 := hid h8; have HB8 := hid hb8; clear h8 hb8))
  clear HWk
  have HTu := hid (turn0_any H8.out rfl)
  go_wp2_with (go_at_call 26; go_loud (refine HTu.out.mono ?_; rintro e w9 ⟨rfl, hb9, pv9, h9⟩; have H9 := hid h9; have HB9 := hid hb9; clear h9 hb9))
  clear HTu
  go_ret
  exact ⟨_, rfl, HBW2.out.size, HBW2.out.trans (((belows HB25.out HB7.out HB25.out.size).trans HB8.out).trans HB9.out |>.mono HBW2.out.size), _, _, _, _, _, H9.out⟩
end Go.Proofs.Ytdodobpbdnpjiaa
namespace Go.Proofs.Ytdodobpbdnpjiaa
open Go Go.RowKit
namespace Cf
theorem visL_same {E E' : Nat → List Nat} {k m : Nat} (h : ∀ b s, b < k → vis E m b s = vis E' m b s) : ∀ (T : List Nat) (s : List Nat × List Nat), (∀ t ∈ T, t < k) → visL E m T s = visL E' m T s
  | [], _, _ => rfl
  | t :: T, s, hT => by
    rw [visL_cons, visL_cons, h t s (hT t (by simp)), visL_same h T _ (fun x hx => hT x (by simp [hx]))]
theorem vis_same {E E' : Nat → List Nat} {k : Nat} (hE : ∀ b, b < k → E b = E' b) (hc : ∀ b, b < k → ∀ t ∈ E b, t < k) : ∀ (m b : Nat) (s : List Nat × List Nat), b < k → vis E m b s = vis E' m b s
  | 0, _, _, _ => rfl
  | m + 1, b, s, hb => by
    have h := visL_same (vis_same hE hc m) (E b) (b :: s.1, s.2) (hc b hb)
    unfold visL at h
    unfold vis
    by_cases e : b ∈ s.1
    · rw [if_pos e, if_pos e]
    · rw [if_neg e, if_neg e, ← hE b hb]
      dsimp only
      rw [h]
theorem ord_same {E E' : Nat → List Nat} {k : Nat} (hE : ∀ b, b < k → E b = E' b) (hc : ∀ b, b < k → ∀ t ∈ E b, t < k) : ord E k = ord E' k := by
  unfold ord
  by_cases hk : k = 0
  · rw [if_pos hk, if_pos hk]
  · rw [if_neg hk, if_neg hk, vis_same hE hc k 0 _ (by omega)]
/-- begun's operations. -/
def L6 : List Op5 := [⟨0, 3, 0, 0, 0⟩, ⟨1, 32, 1, 0, 4⟩, ⟨2, 3, 0, 0, 0⟩, ⟨3, 37, 0, 0, 0⟩, ⟨4, 3, 0, 0, 0⟩, ⟨5, 37, 0, 0, 0⟩]
theorem L6_cnt : cnt (Bg L6 []) L6.length = 3 := by decide
theorem L6_nx : nxs L6 (Bg L6 []) 0 = [1, 2] := by decide
theorem L6_fr : frI (Bg L6 []) L6.length 2 = 4 := by decide
theorem L6_ord {cl : Nat → List Nat} (hcl : ∀ x, x < cnt (Bg L6 []) L6.length → (cl x).length ≤ 0) (hc : ∀ x, x < cnt (Bg L6 []) L6.length → ∀ t ∈ edg L6 (Bg L6 []) cl x, t < cnt (Bg L6 []) L6.length) : ord (edg L6 (Bg L6 []) cl) (cnt (Bg L6 []) L6.length) = [0, 2, 1] := by
  rw [ord_same (E' := edg L6 (Bg L6 []) (fun _ => [])) (fun b hb => by unfold edg; rw [List.eq_nil_of_length_eq_zero (Nat.le_zero.1 (hcl b hb))]) hc]
  decide
end Cf
end Go.Proofs.Ytdodobpbdnpjiaa
namespace Go.Proofs.Ytdodobpbdnpjiaa
open Go Go.RowKit
open Kit (natVals)
theorem same_nums {w : World} {v u : Value} {l : List Nat} (h1 : Kit.IsS 1 w v l.length (natVals l)) (h2 : Kit.IsS 1 w u l.length (natVals l)) (hl : l.length ≤ 4294967296) :
    Calls Try.prog 10 #[v, u] w fun e w' => e = .returned (.bool true) ∧ Below w.heap.size w w' := by
  by_cases h0 : l.length = 0
  · obtain ⟨a1, c1, rfl⟩ := h1.len
    obtain ⟨a2, c2, rfl⟩ := h2.len
    rw [h0]
    refine (Sh.slices_Equal_int_empty a1 a2 c1 0 c2 w (by omega)).mono ?_
    rintro e w' ⟨rfl, rfl⟩
    exact ⟨by simp, Below.refl _ _⟩
  · obtain ⟨b1, o1, c1, rfl, -, -, k1⟩ := h1.some (by omega)
    obtain ⟨b2, o2, c2, rfl, -, -, k2⟩ := h2.some (by omega)
    have hat : ∀ {b o : Nat}, (∀ j u, (natVals l)[j]? = some u → w.cell? ⟨b, o + j, none⟩ = some u) → ∀ j, j < (Cf.casts l).length → w.cell? ⟨b, o + j, none⟩ = some (.int .i64 ((Cf.casts l).getD j 0)) := fun hk j hj => by
      rw [Cf.casts_len] at hj
      have hx : l[j]? = some l[j] := List.getElem?_eq_getElem hj
      rw [hk j _ (Kit.natVals_at hx)]
      unfold Cf.casts
      simp [List.getD, hx]
    refine (Sh.slices_Equal_int b1 o1 l.length c1 b2 o2 l.length c2 (Cf.casts l) (Cf.casts l) w (by rw [Cf.casts_len]; omega) (by rw [Cf.casts_len]; omega) (by omega) (by omega) (hat k1) (hat k2)).mono ?_
    rintro e w' ⟨rfl, q, rfl⟩
    exact ⟨by simp, below_drewN w q⟩
theorem isS_bx {W : World} {b n size : Nat} {cs : Array Value} {T : TypeId} {xs : List Value} (h : BX W b cs T) (he : cs.toList = xs) (hx : xs.length = n * size) (hn : n ≤ 140737488355328) : Kit.IsS size W (.slice (some ⟨b, 0, none⟩) n n) n xs :=
  ⟨hx, hn, .inr ⟨b, 0, n, rfl, Nat.le_refl _, h.sz, fun j u hj => by
    rw [Nat.zero_add, h.cell j, ← Array.getElem?_toList, he]
    exact hj⟩⟩
theorem ks_order {W : World} {b : Nat} {base n : Nat} {e : TypeId} {v : Value} {xs : List Value} {T : TypeId} (h : W.ownsRow base e 1 v n xs) (hb : BX W b #[v] T) (hn : n ≤ 140737488355328) : ∀ X, Ks (fun k => k < W.heap.size) W X → Kit.IsS 1 X v n xs ∧ X.cell? ⟨b, 0, none⟩ = some v := fun X hX =>
  ⟨Kit.isS_of_owns (owns_same h (fun j e => hX.2 j (Kit.own_lt h j e))) hn, (World.cell?_of_block (hX.2 b hb.sz) : X.cell? ⟨b, 0, none⟩ = W.cell? ⟨b, 0, none⟩).trans (hb.cell 0)⟩
set_option maxRecDepth 100000
set_option maxHeartbeats 1000000
theorem begun_any (w : World) : Calls Try.prog 7 #[] w fun e w' => e = .returned (.bool true) ∧ Below w.heap.size w w' := by
  go_enter Try.func7, Try.ntmps7
  go_upto_region 2 with fail
  refine region_named fun W1 hW1 => ?_
  have hb1 : Below w.heap.size w W1 := by rw [hW1]; exact (by repeat' first | with_reducible exact Below.refl _ _ | with_reducible assumption | with_reducible refine belows_drewN ?_ _ | with_reducible refine Below.drew ?_ | with_reducible refine Below.setCell ?_ ?_ _ | with_reducible refine Below.alloc ?_ ?_ _ | omega | (simp; done) | (simp; omega))
  have bo1 : BX W1 w.heap.size (Cf.L6.flatMap Cf.opL).toArray 70 := by
    rw [hW1]
    exact (BX.new w (Cf.L6.flatMap Cf.opL).toArray 70).below ((Below.refl _ _).alloc (Nat.le_refl _) _)
  have hO : OpS W1 (.slice (some ⟨w.heap.size, 0, none⟩) 6 6) Cf.L6 := isS_bx bo1 (by simp) (by decide) (by decide)
  have hC : CaS W1 (.slice none 0 0) [] := ⟨rfl, by decide, .inl ⟨rfl, _, _, rfl⟩⟩
  have HNw := hid (New_any (f := ⟨.int .i64 0, .string ⟨#[]⟩, .string ⟨#[]⟩, .bool false, .slice none 0 0, .int .i64 0, .string ⟨#[]⟩, .int .i64 0, .int .i64 0, .slice (some ⟨w.heap.size, 0, none⟩) 6 6, .slice none 0 0, .int .i64 0⟩) hO hC (by decide) (by decide) (by decide))
  have HB1 := hid hb1
  rw [hW1] at HNw HB1
  clear bo1 hO hC hb1
  subst hW1
  go_upto_region 5 with (go_at_call 6; go_loud (refine HNw.out.mono ?_; rintro e w3 ⟨gb, rfl, hN⟩; have HN := hid hN; clear hN))
  obtain ⟨base, bb, cap, ob, nv, cv, cl, ov, sv, pv, kv, hbs, hG, hE, hcl, hbel⟩ := HN.out
  have ho := Cf.L6_ord hcl hE
  rw [ho, Cf.L6_cnt] at hG
  rw [Cf.L6_cnt] at hcl
  generalize Cf.bks _ _ = bs at hG
  have HBk := hid (Blocks_any hG (by decide) (by decide) (fun x hx => Nat.le_trans (hcl x hx) (by decide)))
  have HG := hid hG
  have HBel := hid (HB1.out.trans (hbel.mono HB1.out.size))
  obtain ⟨oa, oc, hov⟩ := own_form hG.ord
  rw [hov] at HG
  clear hG hE hcl hbel ho hov hbs HN HNw HB1
  go_upto_region 6 with (go_at_call 8; go_loud (refine HBk.out.mono ?_; rintro e w4 ⟨lb, c, nv', cv', rfl, hI⟩; have HI := hid hI; clear hI))
  have c8 : w4.cell? ⟨lb, 8, none⟩ = some (.int .i64 4) := own_at4 HI.out.row (Cf.bkV_len _ _ _ _) (b := 2) (by decide) 0 _ (by omega) (by unfold Cf.bkV; rw [Cf.L6_fr]; rfl)
  have c2 : w4.cell? ⟨lb, 2, none⟩ = some (nv' 0) := (HI.out.at (b := 0) (by decide)).1
  have hn0 := (HI.out.nx 0 (by decide)).is HI.out.bel (by rw [Cf.L6_nx]; decide)
  rw [Cf.L6_nx] at hn0
  have hg4 := HG.out.box.below HI.out.bel
  have k2 : w4.cell? ⟨gb, 2, none⟩ = some (.slice oa 3 oc) := hg4.cell 2
  have ho4 := Kit.owns_below HG.out.ord HI.out.bel (Nat.le_refl _)
  have HN0 := hid hn0
  have HG4 := hid hg4
  have HO4 := hid ho4
  clear HBk hn0 hg4 ho4
  go_wp2_with (first | (go_at_call 10; go_loud (refine (same_nums (l := [1, 2]) (HN0.out.below ((Below.refl _ _).alloc (Nat.le_refl _) _) (Nat.le_refl _)) (isS_bx (BX.new _ _ _) rfl (by decide) (by decide)) (by decide)).mono ?_; rintro e w5 ⟨rfl, hb5⟩; have HB5 : Hid (Below w4.heap.size w4 w5) := belows ((Below.refl _ _).alloc (Nat.le_refl _) _) hb5 (by simp); have k25 : w5.cell? ⟨gb, 2, none⟩ = some (.slice oa 3 oc) := (HG4.out.below HB5.out).cell 2; clear hb5)) | (go_at_call 12; go_loud (refine (Order_any k25).mono ?_; rintro e w6 ⟨rfl, hw6⟩; have HB6 : Hid (Below w5.heap.size w5 w6) := (by rw [hw6]; exact (Below.refl _ _).alloc (Nat.le_refl _) _); have HX6 : Hid (BX w6 w5.heap.size #[.slice oa 3 oc] 34) := (by rw [hw6]; exact BX.new _ _ _); have HO6 := hid (Kit.owns_below (Kit.owns_below HO4.out HB5.out (Nat.le_refl _)) HB6.out (Nat.le_refl _)); clear hw6)) | (go_at_call 15; go_loud (refine (tells_any [0, 2, 1] (.slice oa 3 oc) _ 0 _ _ (ks_order (Kit.owns_below HO6.out ((Below.refl _ _).alloc (Nat.le_refl _) _) (Nat.le_refl _)) (HX6.out.below ((Below.refl _ _).alloc (Nat.le_refl _) _)) (by decide)) (isS_bx (BX.new _ _ _) rfl (by decide) (by decide)) (by decide)).mono ?_; rintro e w7 ⟨rfl, hb7⟩; have HB7 : Hid (Below w6.heap.size w6 w7) := belows ((Below.refl _ _).alloc (Nat.le_refl _) _) hb7 (by simp); clear hb7)))
  go_ret
  have h4 := belows HBel.out HI.out.bel HBel.out.size
  have h5 := belows h4 HB5.out h4.size
  have h6 := belows h5 HB6.out h5.size
  exact ⟨rfl, belows h6 HB7.out h6.size⟩
end Go.Proofs.Ytdodobpbdnpjiaa
namespace Go.Proofs.Ytdodobpbdnpjiaa
open Go Go.RowKit
open Kit (natVals)
open Cf (Op5 Ca opL caL)
namespace Cf
end Cf
/-- A graph in a world that has grown. -/
theorem GT.below {W W' : World} {base gb bb cap ob k : Nat} {L : List Op5} {B : Nat → Bool} {nv cv : Nat → Value} {cl : Nat → List Nat} {O : List Nat} {ov sv pv kv : Value} {bs : List (Nat × Nat)} (h : GT W base gb bb cap ob L B k nv cv cl O ov sv pv kv bs) (hb : Below W.heap.size W W') : GT W' base gb bb cap ob L B k nv cv cl O ov sv pv kv bs :=
  ⟨h.box.below hb, Kit.owns_below h.bl hb (Nat.le_refl _), Kit.owns_below h.of hb (Nat.le_refl _), fun x hx => Kit.owns_below (h.nx x hx) hb (Nat.le_refl _), fun x hx => Kit.owns_below (h.ca x hx) hb (Nat.le_refl _), Kit.owns_below h.ord hb (Nat.le_refl _), Kit.owns_below h.bk hb (Nat.le_refl _), h.lo⟩
set_option maxRecDepth 100000
set_option maxHeartbeats 2000000
theorem blocks0_any {w : World} {gb : Nat} {ba : Option Addr} {bc : Nat} {a1 a2 a3 a4 a5 : Value} (h : BX w gb #[.slice ba 0 bc, a1, a2, a3, a4, a5] 56) :
    Calls Try.prog 8 #[.pointer (some ⟨gb, 0, none⟩)] w fun e w' => ∃ a c, e = .returned (.slice a 0 c) ∧ Below w.heap.size w w' := by
  have g0 := h.cell 0
  have HCl : Hid (Calls Try.prog 27 #[.slice ba 0 bc] w (ClonePost 36 4 0 [] w)) := by
    cases ba with
    | none => exact bclone_nil bc w
    | some ad => exact bclone_some 0 [] ad bc w rfl (by omega) (fun j u h => by simp at h) (fun u h => by cases h)
  clear h
  go_enter Try.func8, Try.ntmps8
  go_upto_region 4 with (go_at_call 27; go_loud (refine HCl.out.mono ?_; rintro e w1 ⟨v1, rfl, ho, hb⟩; obtain ⟨xa, xc, rfl⟩ := own_form ho; have HB := hid hb; clear ho hb))
  go_wp2
  go_loopw [14] (fun v wr => v = .int .i64 0 ∧ wr = w1) (fun _ _ => 0)
  case atStart => exact ⟨rfl, rfl⟩
  case round =>
    obtain ⟨rfl, rfl⟩ := hrel
    go_wp2
    go_ret
    exact ⟨_, _, rfl, HB.out⟩
end Go.Proofs.Ytdodobpbdnpjiaa
namespace Go.Proofs.Ytdodobpbdnpjiaa
open Go Go.RowKit
open Kit (natVals)
open Cf (Op5 Ca opL caL)
attribute [local go_sem] Oper.semAt_some
set_option maxRecDepth 100000
set_option maxHeartbeats 4000000
theorem fw1_law {w : World} {f : Fc} {L : List Op5} {C : List Ca} (hO : OpS w f.ov L) (hC : CaS w f.cv C) (hn : L.length ≤ 1048576) (hm : C.length ≤ 1048576) (h0 : 0 < L.length) :
    Calls Try.prog 4 #[.agg f.cs] w fun e w' => e = .returned (.bool true) ∧ Below w.heap.size w w' := by
  have HBz : Hid (Cf.Bg L C 0 = true) := Cf.Bg_zero h0
  have hb1 : Below w.heap.size w ((w.alloc (.cells f.cs 28)).alloc (.cells #[.bool false] 4)) := ((Below.refl _ _).alloc (Nat.le_refl _) _).alloc (by simp) _
  have HN := hid (New_any (hO.below hb1) (hC.below hb1) hn hm h0)
  obtain ⟨oa, ocap, hov⟩ := hO.form
  obtain ⟨a0, a1, a2, a3, a4, a5, a6, a7, a8, ov, cv, a11⟩ := f
  dsimp only [Fc.cs] at *
  subst hov
  have hbr := BX.new (w.alloc (.cells #[a0, a1, a2, a3, a4, a5, a6, a7, a8, .slice oa L.length ocap, cv, a11] 28)) #[.bool false] 4
  simp only [World.size_alloc] at hbr
  have HR1 := hid hbr
  have HB1 := hid hb1
  have HH0 := hid h0
  obtain ⟨k, hk⟩ : ∃ k, k = Cf.cnt (Cf.Bg L C) L.length := ⟨_, rfl⟩
  have HK := hid hk
  have HKn : Hid (0 < k ∧ k ≤ 1048576) := ⟨by rw [hk]; exact Cf.cnt_pos HBz.out h0, by rw [hk]; exact Nat.le_trans (Cf.cnt_le _ _) hn⟩
  have HNn := hid hn
  have HMm := hid hm
  clear hO hC hb1 hn hm h0 hk hbr
  refine (callsIn_wide (n := 5)).1 ?_
  refine callsIn_of_wp_marks Try.func4 rfl trivial ?_ rfl
  refine wpIn_wide.2 ?_
  simp only [Try.ntmps4, List.size_toArray, List.length_cons, List.length_nil, Nat.reduceAdd, Nat.reduceSub, Array.replicate_succ, Array.replicate_zero, List.push_toArray, List.append_toArray, List.nil_append, List.cons_append]
  go_upto_region 2 with (go_at_call 6; go_loud (refine HN.out.mono ?_; rintro e w2 ⟨gb, rfl, hN⟩; have HNP := hid hN; clear hN))
  obtain ⟨base, bb, cap, ob, nv, cvv, cl, ordv, sv, pv, kv, hbs, hG, hE, hcl, hbel⟩ := HNP.out
  rw [← HK.out] at hG hcl hE
  have hok := Cf.ord_ok hE
  obtain ⟨O, hOe⟩ : ∃ O, O = Cf.ord (edg L (Cf.Bg L C) cl) k := ⟨_, rfl⟩
  rw [← hOe] at hG hok
  obtain ⟨bs, hbse⟩ : ∃ bs, bs = Cf.bks (fun x => O.idxOf x) (Cf.evs (fun a => Cf.rise (edg L (Cf.Bg L C) cl a)) O) := ⟨_, rfl⟩
  rw [← hbse] at hG
  obtain ⟨oda, odc, rfl⟩ := own_form hG.ord
  obtain ⟨kva, kvc, rfl⟩ := own_form hG.bk
  have HOk := hid hok
  have HOl : Hid (O.length ≤ 1048576) := Nat.le_trans (Cf.len_le (b := List.range k) hok.1 (fun x hx => List.mem_range.2 (hok.2.1 x hx))) (by rw [List.length_range]; exact HKn.out.2)
  have HMb : Hid (∀ a b, (a, b) ∈ bs ↔ a ∈ O ∧ b ∈ edg L (Cf.Bg L C) cl a ∧ O.idxOf b ≤ O.idxOf a) := fun a b => by rw [hbse]; exact Cf.mem_bks
  have HBl : Hid (bs.length ≤ 140737488355328) := by
    have hOl := HOl.out
    have hk9 := HKn.out.2
    have h1 := Cf.evs_len (fun a => Cf.rise (edg L (Cf.Bg L C) cl a)) k O (fun a ha => Cf.rise_lt_len (fun x hx => hE a (hok.2.1 a ha) x hx))
    have h2 := Cf.bks_len (fun x => O.idxOf x) (Cf.evs (fun a => Cf.rise (edg L (Cf.Bg L C) cl a)) O)
    rw [← hbse] at h2
    have h3 := Nat.mul_le_mul hOl hk9
    show bs.length ≤ _
    omega
  have HG := hid hG
  have HE := hid hE
  have HCl := hid hcl
  have HB2 := hid (HB1.out.trans (hbel.mono HB1.out.size))
  have HR2 := hid (HR1.out.below (hbel.mono (by simp)))
  clear hG hE hcl hbel hbs HNP HN hok hOe hbse
  go_upto_region 5 with (first | (go_at_call 7; go_loud (refine (begun_any _).mono ?_; rintro e w3 ⟨rfl, hb3⟩; have HB3 := hid (belows HB2.out hb3 HB2.out.size); have HG3 := hid (HG.out.below hb3); have HR3 := hid (HR2.out.below hb3); clear hb3)) | (go_at_call 8; go_loud (refine (Blocks_any HG3.out HKn.out.1 HKn.out.2 (fun x hx => Nat.le_trans (HCl.out x hx) HMm.out)).mono ?_; rintro e w4 ⟨lb, lc, nq, cq, rfl, hI⟩; have HB4 := hid (belows HB3.out hI.bel HB3.out.size); have HR4 := hid (HR3.out.below hI.bel); have HG4 := hid (HG3.out.below hI.bel); have HIW := hid hI; clear hI)))
  have hmk := fun W => run_makeMap (P := Try.prog) 42 W
  go_upto_region 6 with fail
  refine region_named fun W5 hW5 => ?_
  have hb45 : Below w4.heap.size w4 W5 := by rw [hW5]; exact (((Below.refl _ _).alloc (Nat.le_refl _) _).alloc (by simp) _).alloc (by simp; omega) _
  have hs5 : W5.heap.size = w4.heap.size + 3 := by rw [hW5]; simp
  have hl5 : BX W5 w4.heap.size #[.slice (some ⟨lb, 0, none⟩) k lc] 32 := by rw [hW5]; exact ((BX.new w4 _ _).below ((Below.refl _ _).alloc (Nat.le_refl _) _)).below ((Below.refl _ _).alloc (Nat.le_refl _) _)
  have hp5 : BX W5 (w4.heap.size + 1 + 1) #[.map (some (w4.heap.size + 1))] 42 := by
    rw [hW5]
    have := BX.new ((w4.alloc (.cells #[.slice (some ⟨lb, 0, none⟩) k lc] 32)).alloc (.map #[] 0)) #[.map (some (w4.heap.size + 1))] 42
    simp only [World.size_alloc] at this
    exact this
  have hm5 : PlM W5 (w4.heap.size + 1) [] := by
    rw [hW5]
    have := PlM.new (w4.alloc (.cells #[.slice (some ⟨lb, 0, none⟩) k lc] 32))
    simp only [World.size_alloc] at this
    refine this.keep ?_
    exact Below.heap_alloc _ _ _ (by simp)
  have HZ4 : Hid (gb < w4.heap.size ∧ w.heap.size + 1 < w4.heap.size ∧ lb < w4.heap.size ∧ w3.heap.size ≤ w4.heap.size) := ⟨HG4.out.box.sz, HR4.out.sz, Kit.own_lt HIW.out.row lb rfl, HIW.out.bel.size⟩
  have HB5 := hid (belows HB4.out hb45 HB4.out.size)
  have HR5 := hid (HR4.out.below hb45)
  have HG5 := hid (HG4.out.below hb45)
  have HI5 := hid (HIW.out.below hb45)
  clear hW5 hb45 hmk HB1 HB2 HB3 HB4 HR1 HR2 HR3 HR4 HG HG3 HG4 HIW
  obtain ⟨lB, hlB⟩ : ∃ x, w4.heap.size = x := ⟨_, rfl⟩
  have HLB := hid hlB
  rw [hlB] at hs5 hl5 hp5 hm5 HZ4 ⊢
  obtain ⟨mB, hmB⟩ : ∃ x, lB + 1 = x := ⟨_, rfl⟩
  rw [hmB] at hp5 hm5 ⊢
  obtain ⟨pB, hpB⟩ : ∃ x, mB + 1 = x := ⟨_, rfl⟩
  rw [hpB] at hp5 ⊢
  have hk2 : W5.cell? ⟨gb, 2, none⟩ = some (.slice oda O.length odc) := HG5.out.box.cell 2
  have HL5 := hid hl5
  have HP5 := hid hp5
  have HM5 := hid hm5
  have hz5 : lB < mB ∧ mB < pB ∧ pB < W5.heap.size := by omega
  have HZ5 := hid hz5
  clear hl5 hp5 hm5 hlB hmB hpB hs5 hz5
  go_wp2_with (go_at_call 12; go_loud (refine (Order_any hk2).mono ?_; rintro e w6 ⟨rfl, hw6⟩))
  have hz6 := HZ5.out
  have hs6 : w6.heap.size = W5.heap.size + 1 := by rw [hw6]; simp
  have hb56 : Below W5.heap.size W5 w6 := by rw [hw6]; exact (Below.refl _ _).alloc (Nat.le_refl _) _
  have bo6 : BX w6 W5.heap.size #[.slice oda O.length odc] 34 := by rw [hw6]; exact BX.new _ _ _
  have hm6 : PlM w6 mB [] := HM5.out.keep (hb56.block mB (by omega))
  rw [← hw6]
  clear hw6 hk2
  have HL6 := hid (HL5.out.below hb56)
  have HP6 := hid (HP5.out.below hb56)
  have HG6 := hid (HG5.out.below hb56)
  have HB6 := hid (belows HB5.out hb56 HB5.out.size)
  have HR6 := hid (HR5.out.below hb56)
  have HI6 := hid (HI5.out.below hb56)
  clear HL5 HP5 HG5 HB5 HR5 HI5 HM5 hb56
  have hit : ∀ X, Ks (fun i => i < w6.heap.size ∧ i ≠ mB) w6 X → Kit.IsS 1 X (.slice oda O.length odc) O.length (natVals O) ∧ X.cell? ⟨W5.heap.size, 0, none⟩ = some (.slice oda O.length odc) := fun X hX => by
    refine ⟨Kit.isS_of_owns (owns_same HG6.out.ord (fun j e => hX.2 j ⟨Kit.own_lt HG6.out.ord j e, own_not_map HG6.out.ord hm6.is j e⟩)) (by have := HOl.out; omega), ?_⟩
    have : X.cell? ⟨W5.heap.size, 0, none⟩ = w6.cell? ⟨W5.heap.size, 0, none⟩ := World.cell?_of_block (hX.2 W5.heap.size ⟨by omega, by omega⟩)
    exact this.trans (bo6.cell 0)
  refine (wpIn_wide (n := 5)).1 ?_
  refine wpIn_rangeFunc_ownH rfl (by omega) (gf := 34) (lb := #[.pointer (some ⟨W5.heap.size, 0, none⟩)]) (by first | rfl | (simp; done)) trivial (enters_of Try.func34 (by kernel_rfl) rfl)
    (order1_stops O (.slice oda O.length odc) (fun i => i < w6.heap.size ∧ i ≠ mB) W5.heap.size (5 - 1) w6 (by omega) (fun k h => h.1) hit) (fun h k => Ks.trans h k) (Ks.putObj (fun k h => h.1)) (Below.refl _ _) (fun _ => rfl)
    (FwJ (O := O) w6 mB) (fun c pre _ => FwX c pre)
    (FwJ.own (by omega)) (fun _ _ _ _ _ h _ _ => h)
    ⟨Chg.refl _ _, hm6⟩
    (fun (x : Tx O) a' W => a' = { tmps := #[.agg #[a0, a1, a2, a3, a4, a5, a6, a7, a8, .slice oa L.length ocap, cv, a11], .pointer (some ⟨w.heap.size, 0, none⟩), .pointer (some ⟨w.heap.size + 1, 0, none⟩), .pointer (some ⟨gb, 0, none⟩), .pointer (some ⟨lB, 0, none⟩), .pointer (some ⟨pB, 0, none⟩), .int .i64 (x.1.2 : Int), undef, undef, undef, undef, undef, undef, undef, undef, undef, undef, undef, undef, undef, undef, undef, undef, undef, .agg #[a0, a1, a2, a3, a4, a5, a6, a7, a8, .slice oa L.length ocap, cv, a11], .pointer (some ⟨gb, 0, none⟩), .bool true, .bool false, .bool false, .pointer (some ⟨gb, 0, none⟩), .bool false, .bool false, .pointer (some ⟨gb, 0, none⟩), .slice (some ⟨lb, 0, none⟩) k lc, .map (some mB), .pointer (some ⟨gb, 0, none⟩), .func (.func 34) #[] #[.pointer (some ⟨W5.heap.size, 0, none⟩)], .int .i64 (x.1.2 : Int), undef, undef, undef, undef, undef, undef, undef, undef, undef, undef, undef, undef, undef, undef, undef, undef, undef, undef, undef, undef, undef, undef, undef, undef, undef, undef, undef, undef, undef, undef, undef, undef, undef, undef, undef, undef, undef, undef, undef, undef, undef, undef, undef, undef, undef, undef, undef, undef, undef, undef, undef, undef, undef, undef, undef, undef, undef, undef, undef, undef, undef, undef, undef, undef, undef, undef, undef, undef, undef, undef, undef, undef, undef, undef, undef, undef, undef, undef, undef, undef, undef, undef, undef, undef, undef, undef, undef, undef, undef, undef, undef, undef, undef, undef, undef, undef, undef, undef, undef, undef, undef, undef, undef, undef, undef, undef, undef, undef, undef, undef, undef, undef, undef, undef, undef, undef, undef, undef, undef, undef, undef], defers := [] })
    (fun x a' => Own.from (fun s A B row hs hg hr => hs) _) ?assign ?body ?done ?stop
  case assign =>
    rintro D pre ⟨⟨k', c⟩, hx⟩ W K hI hK
    unfold entE
    gi_wp2
    exact hK _ _ ((⟨Nat.le_refl _, fun _ _ h _ => h⟩ : KeepsOthers W W).from _) (Ks.refl _ W) hI rfl
  case body =>
    rintro D pre ⟨⟨i, a⟩, hx⟩ a' W hD ⟨r, hr⟩ ⟨hch, hpl⟩ rfl hlt
    have haO : a ∈ O := List.mem_of_getElem? hx
    have hak := HOk.out.2.1 a haO
    have p0 : W.cell? ⟨pB, 0, none⟩ = some (.map (some mB)) := (hch.cell (p := ⟨pB, 0, none⟩) (by show pB < _; omega) (by show ¬ (pB = mB); omega)).trans (HP6.out.cell 0)
    have l0 : W.cell? ⟨lB, 0, none⟩ = some (.slice (some ⟨lb, 0, none⟩) k lc) := (hch.cell (p := ⟨lB, 0, none⟩) (by show lB < _; omega) (by show ¬ (lB = mB); omega)).trans (HL6.out.cell 0)
    have ha9 : a < 1048577 := by have := HKn.out; omega
    obtain ⟨rr, hlk, -⟩ := hpl.look a ha9
    have HPl := hid hpl
    have HCh := hid hch
    have HXX := hid hx
    have hlen := hpl.len
    by_cases hin : a ∈ pre.map (fun x : Tx O => x.1.2)
    · have hd : decide (a ∈ pre.map (fun x : Tx O => x.1.2)) = true := by simpa using hin
      rw [hd] at hlk
      have HIn := hid hin
      have hbr := HR6.out.chg hch (by show ¬ (w.heap.size + 1 = mB); have := HZ4.out; omega)
      have c2 : W.cell? ⟨w.heap.size + 1, 0, none⟩ = some (.bool false) := hbr.cell 0
      have f2 : W.frozen? ⟨w.heap.size + 1, 0, none⟩ = false := hbr.frozen 0
      clear hit hin hd hpl hch hlt hbr
      gi_wp2
      exact ⟨(KeepsOthers.setCell _ _ _).from _, rfl, pre, _, rfl, HIn.out⟩
    · have hd : decide (a ∈ pre.map (fun x : Tx O => x.1.2)) = false := by simpa using hin
      rw [hd] at hlk
      obtain ⟨W2, hup, hp2, hg2⟩ := hpl.put a ha9 (by rw [List.length_map]; have := HOl.out; omega) hin
      rw [List.length_map] at hup hlen
      have hd1 : decide ((a : Int) < 0) = false := by simp
      have hd2 : decide ((k : Int) ≤ (a : Int)) = false := by simp; omega
      have HP2 := hid hp2
      have HG2 := hid hg2
      clear hit hin hd hpl hch hlt hp2 hg2
      gi_wp2
      exact ⟨KeepsFrom.of_grownBy HG2.out (fun j e => by cases e; omega), ⟨HG2.out.size, fun i hi => HG2.out.block i (by have := hi.1; have := HCh.out.size; omega) (fun e => hi.2 (by cases e; rfl))⟩, HCh.out.grown HG2.out (fun j e => .inl (by cases e; rfl)), by rw [List.map_append]; exact HP2.out⟩
  case done =>
    rintro D ys W hD rfl ⟨hch, hpl⟩ hDf
    rw [told_map O O.length (Nat.le_refl _), List.take_length] at hpl
    have hzW := hch.size
    have HZW : Hid (D < W.heap.size) := (Array.getElem?_eq_some_iff.1 hDf).1
    have HWD : Hid (w.heap.size ≤ D) := Nat.le_trans HB6.out.size hD
    have hz4 := HZ4.out
    have hGx : FwG w w3 base gb lb lc k lB mB pB #[.slice (some ⟨bb, 0, none⟩) k cap, .slice (some ⟨ob, 0, none⟩) L.length L.length, .slice oda O.length odc, sv, pv, .slice kva bs.length kvc] L (Cf.Bg L C) cl nq cq O (.slice kva bs.length kvc) bs W :=
      ⟨HB6.out.trans (hch.to_below (fun i e => by omega) HB6.out.size), HR6.out.chg hch (bx_not_map HR6.out hm6.is), HL6.out.chg hch (bx_not_map HL6.out hm6.is), HP6.out.chg hch (bx_not_map HP6.out hm6.is), HI6.out.map hm6.is (by omega) hch, HG6.out.box.chg hch (bx_not_map HG6.out.box hm6.is), owns_map HG6.out.bk hm6.is hch, hpl⟩
    have HGx := hid hGx
    have HDf := hid hDf
    have hmk := fun W => run_makeMap (P := Try.prog) 46 W
    clear hpl hDf hch hit hGx bo6 HG6 HB6 HR6 HL6 HP6 HI6 hm6 hz6 hz4
    dsimp only
    go_upto_region 13 with fail
    refine region_named fun W7 hW7 => ?_
    have hb7 : Below W.heap.size W W7 := by rw [hW7]; exact ((Below.refl _ _).alloc (Nat.le_refl _) _).alloc (by simp) _
    have hs7 : W7.heap.size = W.heap.size + 2 := by rw [hW7]; simp
    have hb27 : BX W7 (W.heap.size + 1) #[.map (some W.heap.size)] 46 := by
      rw [hW7]
      have := BX.new (W.alloc (.map #[] 0)) #[.map (some W.heap.size)] 46
      simp only [World.size_alloc] at this
      exact this
    have hm7 : BkM W7 W.heap.size 0 [] := by
      rw [hW7]
      exact (BkM.new W).keep (Below.heap_alloc _ _ _ (by simp))
    have HG7 := hid (HGx.out.below hb7)
    have hk5 : W7.cell? ⟨gb, 5, none⟩ = some (.slice kva bs.length kvc) := HG7.out.box.cell 5
    have HB27 := hid hb27
    have HM7 := hid hm7
    have HDf7 := hid (show W7.heap[D]? = some (.deferred (some [])) from (hb7.block D HZW.out).trans HDf.out)
    have HS7 := hid hs7
    clear hW7 hb7 hb27 hm7 hs7 hmk
    go_wp2_with (go_at_call 13; go_loud (refine (Back_any hk5).mono ?_; rintro e w8 ⟨rfl, hw8⟩))
    have hz7 := HZ5.out
    have hz4 := HZ4.out
    have hs7 := HS7.out
    have hs8 : w8.heap.size = W7.heap.size + 1 := by rw [hw8]; simp
    have hb78 : Below W7.heap.size W7 w8 := by rw [hw8]; exact (Below.refl _ _).alloc (Nat.le_refl _) _
    have bo8 : BX w8 W7.heap.size #[.slice kva bs.length kvc] 54 := by rw [hw8]; exact BX.new _ _ _
    rw [← hw8]
    clear hw8 hk5
    obtain ⟨b2, hb2⟩ : ∃ x, W.heap.size + 1 = x := ⟨_, rfl⟩
    have hbx2 := HB27.out
    have hmk7 := HM7.out
    rw [hb2] at hbx2 ⊢
    obtain ⟨m2, hm2⟩ : ∃ x, W.heap.size = x := ⟨_, rfl⟩
    rw [hm2] at hbx2 hmk7 ⊢
    have hm8 : BkM w8 m2 0 [] := hmk7.keep (hb78.block m2 (by omega))
    have HP8 := hid (hbx2.below hb78)
    have HG8 := hid (HG7.out.below hb78)
    have HDf8 := hid (show w8.heap[D]? = some (.deferred (some [])) from (hb78.block D (by have := HZW.out; omega)).trans HDf7.out)
    have hit : ∀ X, Ks (fun i => i < w8.heap.size ∧ i ≠ m2) w8 X → Kit.IsS 2 X (.slice kva bs.length kvc) bs.length (eVals bs) ∧ X.cell? ⟨W7.heap.size, 0, none⟩ = some (.slice kva bs.length kvc) := fun X hX => by
      refine ⟨Kit.isS_of_owns (owns_same HG8.out.bk (fun j e => hX.2 j ⟨Kit.own_lt HG8.out.bk j e, own_not_map HG8.out.bk hm8.is j e⟩)) (by have := HBl.out; omega), ?_⟩
      have : X.cell? ⟨W7.heap.size, 0, none⟩ = w8.cell? ⟨W7.heap.size, 0, none⟩ := World.cell?_of_block (hX.2 W7.heap.size ⟨by omega, by omega⟩)
      exact this.trans (bo8.cell 0)
    clear hbx2 hmk7 HB27 HM7 HG7 HDf7 hb78
    refine (wpIn_wide (n := 5)).1 ?_
    refine wpIn_rangeFunc_ownH rfl (by omega) (gf := 35) (lb := #[.pointer (some ⟨W7.heap.size, 0, none⟩)]) (by first | rfl | (simp; done)) trivial (enters_of Try.func35 (by kernel_rfl) rfl)
      (back1_stops bs (.slice kva bs.length kvc) (fun i => i < w8.heap.size ∧ i ≠ m2) W7.heap.size (5 - 1) w8 (by omega) (fun k h => h.1) hit) (fun h k => Ks.trans h k) (Ks.putObj (fun k h => h.1)) (Below.refl _ _) (fun _ => rfl)
      (FwK (bs := bs) w8 m2) (fun _ _ _ => False)
      (FwK.own (by omega)) (fun _ _ _ _ _ h _ _ => h)
      ⟨Chg.refl _ _, hm8⟩
      (fun (x : Ty bs) a' W => a' = { tmps := #[.agg #[a0, a1, a2, a3, a4, a5, a6, a7, a8, .slice oa L.length ocap, cv, a11], .pointer (some ⟨w.heap.size, 0, none⟩), .pointer (some ⟨w.heap.size + 1, 0, none⟩), .pointer (some ⟨gb, 0, none⟩), .pointer (some ⟨lB, 0, none⟩), .pointer (some ⟨pB, 0, none⟩), undef, undef, undef, .pointer (some ⟨b2, 0, none⟩), .int .i64 (x.1.2.1 : Int), .int .i64 (x.1.2.2 : Int), undef, undef, undef, undef, undef, undef, undef, undef, undef, undef, undef, undef, .agg #[a0, a1, a2, a3, a4, a5, a6, a7, a8, .slice oa L.length ocap, cv, a11], .pointer (some ⟨gb, 0, none⟩), .bool true, .bool false, .bool false, .pointer (some ⟨gb, 0, none⟩), .bool false, .bool false, .pointer (some ⟨gb, 0, none⟩), .slice (some ⟨lb, 0, none⟩) k lc, .map (some mB), .pointer (some ⟨gb, 0, none⟩), .func (.func 34) #[] #[.pointer (some ⟨W5.heap.size, 0, none⟩)], undef, undef, undef, undef, undef, undef, undef, undef, undef, undef, undef, undef, undef, undef, undef, undef, undef, undef, undef, undef, undef, undef, .map (some m2), .pointer (some ⟨gb, 0, none⟩), .func (.func 35) #[] #[.pointer (some ⟨W7.heap.size, 0, none⟩)], .int .i64 (x.1.2.1 : Int), .int .i64 (x.1.2.2 : Int), undef, undef, undef, undef, undef, undef, undef, undef, undef, undef, undef, undef, undef, undef, undef, undef, undef, undef, undef, undef, undef, undef, undef, undef, undef, undef, undef, undef, undef, undef, undef, undef, undef, undef, undef, undef, undef, undef, undef, undef, undef, undef, undef, undef, undef, undef, undef, undef, undef, undef, undef, undef, undef, undef, undef, undef, undef, undef, undef, undef, undef, undef, undef, undef, undef, undef, undef, undef, undef, undef, undef, undef, undef, undef, undef, undef, undef, undef, undef, undef, undef, undef, undef, undef, undef, undef, undef, undef, undef, undef, undef, undef, undef, undef, undef], defers := [] })
      (fun x a' => Own.from (fun s A B row hs hg hr => hs) _) ?assign2 ?body2 ?done2 ?stop2
    case assign2 =>
      rintro D2 pre ⟨⟨k', c, d⟩, hx⟩ W9 K hI hK
      unfold entY
      clear hs7 hs8 hit
      gi_wp2
      exact hK _ _ ((⟨Nat.le_refl _, fun _ _ h _ => h⟩ : KeepsOthers W9 W9).from _) (Ks.refl _ W9) hI rfl
    case body2 =>
      rintro D2 pre ⟨⟨i, a, b⟩, hx⟩ a' W9 hD2 ⟨r, hr⟩ ⟨hch, hbk⟩ rfl hlt
      obtain ⟨haO, hbE, -⟩ := (HMb.out a b).1 (List.mem_of_getElem? hx)
      have hak := HOk.out.2.1 a haO
      have hbk2 := HOk.out.2.1 b (HOk.out.2.2.2.1 a haO b hbE)
      have p0 : W9.cell? ⟨b2, 0, none⟩ = some (.map (some m2)) := (hch.cell (p := ⟨b2, 0, none⟩) (by show b2 < _; omega) (by show ¬ (b2 = m2); omega)).trans (HP8.out.cell 0)
      have hk9 := HKn.out.2
      obtain ⟨W2, hup, hp2, hg2⟩ := hbk.put a b (by omega) (by omega) (by have := HBl.out; unfold maxLen; omega)
      have HP2 := hid hp2
      have HG2 := hid hg2
      have HCh := hid hch
      clear hit hbk hch hlt hp2 hg2 hak hbk2 hk9 haO hbE
      gi_wp2
      exact ⟨KeepsFrom.of_grownBy HG2.out (fun j e => by cases e; omega), ⟨HG2.out.size, fun i hi => HG2.out.block i (by have := hi.1; have := HCh.out.size; omega) (fun e => hi.2 (by cases e; rfl))⟩, HCh.out.grown HG2.out (fun j e => .inl (by cases e; rfl)), by rw [List.map_append, List.length_append]; exact HP2.out⟩
    case done2 =>
      rintro D2 ys W9 hD2 rfl ⟨hch, hbk⟩ hDf2
      rw [tolde_map bs bs.length (Nat.le_refl _), List.take_length, tolde_len bs bs.length (Nat.le_refl _)] at hbk
      have HNe : Hid (D < D2 ∧ w.heap.size ≤ D2) := ⟨Nat.lt_of_lt_of_le (Array.getElem?_eq_some_iff.1 HDf8.out).1 hD2, Nat.le_trans HG8.out.bel.size hD2⟩
      have HG9 := hid (HG8.out.map hm8.is (by omega) (by omega) (by omega) hch)
      have HP9 := hid (HP8.out.chg hch (bx_not_map HP8.out hm8.is))
      have HDf9 := hid (show W9.heap[D]? = some (.deferred (some [])) from (hch.block D (Array.getElem?_eq_some_iff.1 HDf8.out).1 (by have := HZW.out; omega)).trans HDf8.out)
      have HDg9 := hid hDf2
      have HBk9 := hid hbk
      have hk9 := HKn.out
      have hmk := fun W => run_make_row' (P := Try.prog) 51 4 (.bool false) 1 (by kernel_rfl) (by kernel_rfl) rfl .i64 .i64 k (by omega) (by omega) W
      have hl9 : W9.cell? ⟨lB, 0, none⟩ = some (.slice (some ⟨lb, 0, none⟩) k lc) := HG9.out.lbx.cell 0
      have HZ9 : Hid (D < W9.heap.size ∧ D2 < W9.heap.size ∧ lB < W9.heap.size) := ⟨(Array.getElem?_eq_some_iff.1 HDf9.out).1, (Array.getElem?_eq_some_iff.1 HDg9.out).1, HG9.out.lbx.sz⟩
      clear hbk hch hDf2 hit HG8 HP8 HDf8 hm8 bo8 hs8 hs7 hz7 hz4 hzW hk9
      dsimp only
      go_upto_region 19 with fail
      refine region_named fun W10 hW10 => ?_
      have hb10 : Below W9.heap.size W9 W10 := by rw [hW10]; exact ((Below.refl _ _).alloc (Nat.le_refl _) _).alloc (by simp) _
      have hsn : SeenR W10 W9.heap.size W9.heap.size k [] := by
        rw [hW10]
        have := owns_made W9 (Nat.le_refl _) (.bool false) k (by have := HKn.out; unfold maxLen; omega) 4
        rw [← bvals_no] at this
        have h2 := Kit.owns_below this ((Below.refl _ _).alloc (Nat.le_refl _) (.cells #[] 3)) (Nat.le_refl _)
        unfold SeenR
        rw [bvals_same (g := fun _ => false) (fun i _ => by simp)]
        exact h2
      have hbt : BX W10 (W9.heap.size + 1) #[] 3 := by
        rw [hW10]
        have := BX.new (W9.alloc (.cells (madeCells #[.bool false] k) 4)) #[] 3
        simp only [World.size_alloc] at this
        exact this
      have hs10 : W10.heap.size = W9.heap.size + 2 := by rw [hW10]; simp
      have HB10 := hid hb10
      have hl10 : W10.cell? ⟨lB, 0, none⟩ = some (.slice (some ⟨lb, 0, none⟩) k lc) := (hb10.cell (p := ⟨lB, 0, none⟩) HZ9.out.2.2).trans hl9
      obtain ⟨q0, q1⟩ := hsn.at HKn.out.1
      have hk0 : (0 : Int) < (k : Int) := by have := HKn.out; omega
      have hk00 : 0 < k := HKn.out.1
      obtain ⟨sb, hsb⟩ : ∃ x, W9.heap.size = x := ⟨_, rfl⟩
      have HSB := hid hsb
      have hsn1 := hsn.set 0
      rw [hsb] at hsn1 q0 q1 hbt hs10 hb10 ⊢
      rw [hsb] at hsn
      have hc11 : Chg (fun i => i = sb) W10 (W10.setCell ⟨sb, 0, none⟩ (.bool true)) := (Chg.refl (fun i => i = sb) W10).set (p := ⟨sb, 0, none⟩) (.inl rfl) _
      have hbt1 := hbt.chg hc11 (by omega)
      have hB11 : Below sb W9 (W10.setCell ⟨sb, 0, none⟩ (.bool true)) := hb10.trans (hc11.to_below (fun i e => by omega) (by omega))
      have hown : (W10.setCell ⟨sb, 0, none⟩ (.bool true)).ownsRow sb 3 1 (.slice (some ⟨sb + 1, 0, none⟩) 0 0) 0 (natVals []) := ⟨rfl, .inr ⟨sb + 1, 0, #[], rfl, by omega, hbt1, Nat.le_refl _, by decide, by simp, by simp [natVals]⟩⟩
      have HSn1 := hid hsn1
      have HB11 := hid hB11
      have HC11 := hid hc11
      have HOw := hid hown
      have HS10 := hid hs10
      clear hW10 hb10 hl9 hmk hsn hbt hbt1 hsn1 hc11 hB11 hown
      have hlt1 : (W10.setCell ⟨sb, 0, none⟩ (.bool true)).heap.size = sb + 2 := by simp [hs10]
      clear hs10
      have HA0 : Hid (BX ((W10.setCell ⟨sb, 0, none⟩ (.bool true)).alloc (.cells #[.int .i64 0] 3)) (sb + 2) #[.int .i64 0] 3) := by
        have := BX.new (W10.setCell ⟨sb, 0, none⟩ (.bool true)) #[.int .i64 0] 3
        rw [hlt1] at this
        exact this
      have HSz : Hid (sb ≤ ((W10.setCell ⟨sb, 0, none⟩ (.bool true)).alloc (.cells #[.int .i64 0] 3)).heap.size) := by
        show _ ≤ _
        rw [World.size_alloc, hlt1]
        omega
      go_wp2_with (at_builtin; go_loud (refine wpList_ints rfl (.tmp 77) (.tmp 78) rfl sb (.slice (some ⟨sb + 1, 0, none⟩) 0 0) 0 (natVals []) rfl (Kit.owns_below HOw.out ((Below.refl _ _).alloc (Nat.le_refl _) _) (Nat.le_refl _)) HSz.out (.slice (some ⟨sb + 2, 0, none⟩) 1 1) 1 [.int .i64 0] (by first | rfl | (simp [hlt1]; done)) (isS_bx HA0.out rfl rfl (by decide)) (by simp [Value.oneCell']) (by omega) ?_; intro v1 w1 ho1 hg1 hk1; have HO1 := hid ho1; have HG1 := hid hg1; clear ho1 hg1 hk1))
      have ho1 : w1.ownsRow sb 3 1 v1 ([0] : List Nat).length (natVals [0]) := HO1.out
      have HQ1 : Hid (QS w1 sb v1 [0]) := QS.own ho1 (by
        obtain ⟨g, c, e, -⟩ := own_pos ho1 (by decide)
        exact ⟨g, 0, c, e⟩)
      have hcw : Chg (fun i => i = sb + 1) (W10.setCell ⟨sb, 0, none⟩ (.bool true)) w1 := ((Chg.refl (fun i => i = sb + 1) _).alloc (.cells #[.int .i64 0] 3)).grown HG1.out (fun j e => .inl (by simpa [Value.ownBlock] using e.symm))
      have HSn2 : Hid (SeenR w1 sb sb k [0]) := HSn1.out.chg hcw (by omega)
      have HB12 : Hid (Below sb W9 w1) := HB11.out.trans (hcw.to_below (fun i e => by omega) (by omega))
      clear ho1 hcw HO1 HG1 HA0 HOw HC11 HSn1 HB11 hlt1 hl10 q0 q1
      go_loopw [13] (fun u wr => ∃ en l, Hid (QS wr sb u l) ∧ Hid (SeenR wr sb sb k en) ∧ Hid (Cf.Bf (edg L (Cf.Bg L C) cl) O en l) ∧ Hid (Below sb W9 wr)) (fun u wr => 2 * (k - trues wr sb k) + slen u)
      case atStart => exact ⟨[0], [0], HQ1, HSn2, Cf.Bf.start (HOk.out.2.2.1 HKn.out.1), HB12⟩
      case round =>
        clear HQ1 HSn2 HB12
        obtain ⟨en, l, HQ, HSn, HBf, HB⟩ := hrel
        have HBb : Hid (Below W9.heap.size W9 wr) := by
          show Below _ _ _
          rw [HSB.out]
          exact HB.out
        have HGr := hid (HG9.out.below HBb.out)
        have hl0 : wr.cell? ⟨lB, 0, none⟩ = some (.slice (some ⟨lb, 0, none⟩) k lc) := HGr.out.lbx.cell 0
        have hp0 : wr.cell? ⟨pB, 0, none⟩ = some (.map (some mB)) := HGr.out.pbx.cell 0
        rcases l with _ | ⟨x, l'⟩
        · obtain ⟨tg, tf, tc, rfl⟩ := HQ.out.form
          have hfin := HBf.out.fin HOk.out.1 HOk.out.2.2.2.2
          have hcin : Cf.cin en k = O.length := (Cf.cin_all HBf.out.nd (fun y hy => HOk.out.2.1 y (HBf.out.sub y hy))).trans hfin
          have hlen := HGr.out.plm.len
          have HR := hid HGr.out.res
          have c2 : wr.cell? ⟨w.heap.size + 1, 0, none⟩ = some (.bool false) := HR.out.cell 0
          have f2 := HR.out.frozen 0
          have hk9 : k ≤ 1048576 := HKn.out.2
          obtain ⟨on, hon⟩ : ∃ n, O.length = n := ⟨_, rfl⟩
          rw [hon] at hcin hlen
          have HCn := hid hcin
          have HDx := hid (show wr.heap[D]? = some (.deferred (some [])) from (HBb.out.block D HZ9.out.1).trans HDf9.out)
          have HDy := hid (show wr.heap[D2]? = some (.deferred (some [])) from (HBb.out.block D2 HZ9.out.2.1).trans HDg9.out)
          clear hfin hcin hon
          simp only [List.length_nil]
          go_wp2
          obtain ⟨wo, rfl⟩ : ∃ wo : World, wo = wr := ⟨_, rfl⟩
          go_loopw [147, 21] (fun v c wx => ∃ i : Nat, v = .int .i64 (i : Int) ∧ c = .int .i64 (Cf.cin en i : Int) ∧ i ≤ k ∧ wx = wo) (fun v _ _ => k - (intOf v).toNat)
          case atStart => exact ⟨0, rfl, rfl, Nat.zero_le _, rfl⟩
          case round =>
            obtain ⟨i, rfl, rfl, hik, rfl⟩ := hrel
            by_cases hlt : i < k
            · obtain ⟨s0, -⟩ := HSn.out.at hlt
              have hcl := Cf.cin_le en i
              by_cases hin : i ∈ en
              · rw [decide_eq_true hin] at s0
                have HNx := hid (Cf.cin_yes hin)
                obtain ⟨c, hc⟩ : ∃ c, Cf.cin en i = c := ⟨_, rfl⟩
                rw [hc] at HNx hcl ⊢
                clear hin hc
                go_wp2
                go_roundw
                case rel => exact ⟨i + 1, by go_num, by rw [HNx.out]; go_num, by omega, by first | rfl | trivial⟩
                case measure => simp [intOf]; omega
              · rw [decide_eq_false hin] at s0
                have HNx := hid (Cf.cin_no hin)
                clear hin
                go_wp2
                go_roundw
                case rel => exact ⟨i + 1, by go_num, by rw [HNx.out], by omega, by first | rfl | trivial⟩
                case measure => simp [intOf]; omega
            · obtain rfl : i = k := by omega
              rw [HCn.out]
              go_wp2
              have hB := HGr.out.bel
              have hK2 := (KeepsOthers.setCell wr ⟨w.heap.size + 1, 0, none⟩ (.bool true)).same D2 _ HDy.out rfl
              have hK1 := (KeepsOthers.setCell wr ⟨w.heap.size + 1, 0, none⟩ (.bool true)).same D _ HDx.out rfl
              have hne := HNe.out
              have hwd := HWD.out
              have hK3 := ((grownBy_putObj' (wr.setCell ⟨w.heap.size + 1, 0, none⟩ (.bool true)) D2 (.deferred none)).block D (Array.getElem?_eq_some_iff.1 hK1).1 (fun e => by cases e; omega)).trans hK1
              refine ⟨by simp, .inl ⟨_, _, rfl, run_takeDeferred hK2, ?_⟩⟩
              refine ⟨by simp, .inl ⟨_, _, rfl, run_takeDeferred hK3, ?_⟩⟩
              have hc5 := cell_kept (World.cell?_setCell_same' wr ⟨w.heap.size + 1, 0, none⟩ (.bool true) (by rw [c2]; rfl)) (grownBy_putObj' _ D2 (.deferred none)) (fun r e => by cases e; exact ⟨_, hK2, rfl⟩)
              have hc6 := cell_kept hc5 (grownBy_putObj' _ D (.deferred none)) (fun r e => by cases e; exact ⟨_, hK3, rfl⟩)
              refine ⟨.bool true, ?_, rfl, ((hB.setCell (p := ⟨w.heap.size + 1, 0, none⟩) (by show w.heap.size ≤ w.heap.size + 1; omega) _).trans (belowK_b (w := w) (Nat.le_refl _) _ D2 _ _ (by omega) hK2 rfl rfl)).trans (belowK_b (w := w) (Nat.le_refl _) _ D _ _ (by omega) hK3 rfl rfl)⟩
              simp [results, Try.f4, go_sem, hc6]
        · obtain ⟨tg, tf, tc, rfl, htg, htc, v', hsl, hq', hob⟩ := HQ.out.head
          have HQ2 := hid hq'
          have HOb := hid hob
          have hxO := HBf.out.sub x (HBf.out.lin x (by simp))
          have hxk := HOk.out.2.1 x hxO
          have hk9 := HKn.out.2
          obtain ⟨rr, hlk, hrr⟩ := HGr.out.plm.look x (by omega)
          rw [decide_eq_true hxO] at hlk
          obtain rfl := hrr hxO
          obtain ⟨ix, hix⟩ : ∃ i, O.idxOf x = i := ⟨_, rfl⟩
          rw [hix] at hlk
          have HIx := hid hix
          have HXO := hid hxO
          obtain ⟨c2, c3, -, hlbz⟩ := HGr.out.it.at hxk
          have n1 := (HGr.out.it.nx x hxk).is HGr.out.it.bel (by have := Cf.nxs_len L (Cf.Bg L C) x; omega)
          have n2 := (HGr.out.it.ca x hxk).is HGr.out.it.bel (by have := HCl.out x hxk; have := HMm.out; omega)
          have hn1 := Cf.nxs_len L (Cf.Bg L C) x
          have hn2 := HCl.out x hxk
          have hC9 := HMm.out
          obtain ⟨na, nc, hnv⟩ := n1.len
          obtain ⟨ca, cc, hcv⟩ := n2.len
          have HCln := hid (iclone_any _ _ _ wr.drew (n1.below (Below.drew (Below.refl wr.heap.size wr)) (Nat.le_refl _)) (by omega) (natVals_one _))
          have HN2 := hid n2
          rw [hnv] at HCln c2
          rw [hcv] at HN2 c3
          obtain ⟨nn, hnn⟩ : ∃ n, (Cf.nxs L (Cf.Bg L C) x).length = n := ⟨_, rfl⟩
          obtain ⟨nm, hnm⟩ : ∃ n, (cl x).length = n := ⟨_, rfl⟩
          rw [hnn] at HCln c2 hn1
          rw [hnm] at HN2 c3 hn2
          have HNN := hid hnn
          have HNM := hid hnm
          have hnm9 : nm ≤ 1048576 := by omega
          obtain ⟨m, hm⟩ : ∃ m, l'.length + 1 = m := ⟨_, rfl⟩
          rw [hm] at hsl ⊢
          have hm0 : (0 : Int) < (m : Int) := by omega
          have HMl := hid hm
          have hxk2 : (x : Int) < (k : Int) := by omega
          clear hq' hob hrr hxO hix n1 n2 hnv hcv hnn hnm hm hC9
          go_upto_region 28 with fail
          have HKp : Hid (∀ W, Below wr.heap.size wr W → W.cell? ⟨lB, 0, none⟩ = some (.slice (some ⟨lb, 0, none⟩) k lc) ∧ W.cell? ⟨lb, x * 4 + 2, none⟩ = some (.slice na nn nc) ∧ W.cell? ⟨lb, x * 4 + 3, none⟩ = some (.slice ca nm cc)) := fun W hb =>
            ⟨(hb.cell (p := ⟨lB, 0, none⟩) HGr.out.lbx.sz).trans hl0, (hb.cell (p := ⟨lb, x * 4 + 2, none⟩) hlbz).trans c2, (hb.cell (p := ⟨lb, x * 4 + 3, none⟩) hlbz).trans c3⟩
          have S0 := HKp.out wr (Below.refl _ _)
          clear c2 c3 hl0 hlk hsl hp0 htc
          go_region_held3 (fun W => W.cell? ⟨lB, 0, none⟩ = some (.slice (some ⟨lb, 0, none⟩) k lc) ∧ W.cell? ⟨lb, x * 4 + 2, none⟩ = some (.slice na nn nc) ∧ W.cell? ⟨lb, x * 4 + 3, none⟩ = some (.slice ca nm cc))
            (first | exact S0 | exact S5 | exact S6 | go_keep)
            (first
              | (go_at_call 14; (refine HCln.out.mono ?_; rintro e w5 ⟨v5, rfl, ho5, hb5⟩; have HO5 : Hid (w5.ownsRow wr.heap.size 3 1 v5 nn (natVals (Cf.nxs L (Cf.Bg L C) x))) := ho5; have HB5 : Hid (Below wr.heap.size wr w5) := (Below.drew (Below.refl wr.heap.size wr)).trans hb5; have S5 := HKp.out w5 HB5.out; clear ho5 hb5))
              | (rw [if_pos (by rfl)]; (refine op_ints (.tmp 101) (.tmp 106) rfl wr.heap.size v5 nn _ rfl HO5.out HB5.out.size (.slice ca nm cc) nm _ rfl (HN2.out.below HB5.out (Nat.le_refl _)) (natVals_one _) (by omega) ?_; intro v6 w6x ho6 hg6 hk6; have hb6 := below_app2 HB5.out hg6 (fun j e => Kit.own_base HO5.out j e); obtain ⟨ea, ec, rfl⟩ := own_form ho6; have HO6 := hid ho6; have HB6 := hid hb6; have S6 := HKp.out w6x hb6; clear ho6 hb6 hg6 hk6 S5)))
          obtain ⟨ne, hne⟩ : ∃ n, nn + nm = n := ⟨_, rfl⟩
          have HEl : Hid ((edg L (Cf.Bg L C) cl x).length = ne) := by
            show (Cf.nxs L (Cf.Bg L C) x ++ cl x).length = ne
            rw [List.length_append, HNN.out, HNM.out, hne]
          have HO6e : Hid (w6x.ownsRow wr.heap.size 3 1 (.slice ea ne ec) ne (natVals (edg L (Cf.Bg L C) cl x))) := by
            have := HO6.out
            rw [hne, ← natVals_app] at this
            exact this
          have hneI : (nn : Int) + (nm : Int) = (ne : Int) := by omega
          rw [hne]
          (try simp only [hneI])
          have hne9 : ne ≤ 9000000 := by omega
          clear S6 S0 hne
          go_wp2
          clear hneI
          obtain ⟨wo, rfl⟩ : ∃ wo : World, wo = wr := ⟨_, rfl⟩
          have hzo : sb < wo.heap.size := Kit.own_lt (show World.ownsRow _ _ _ _ _ _ _ from HSn.out) sb rfl
          have HQ3 : Hid (QS w6x sb v' l') := HQ2.out.chg (Chg.of_below (S := fun _ => False) HB6.out) (fun _ _ e => e)
          have HSn3 : Hid (SeenR w6x sb sb k en) := HSn.out.chg (Chg.of_below (S := fun _ => False) HB6.out) (fun e => e)
          have HB3 : Hid (Below sb W9 w6x) := HB.out.trans (HB6.out.mono (by omega))
          have HAp : Hid (∀ q, v'.ownBlock = some q → (Value.slice ea ne ec).ownBlock ≠ some q) := fun q hq e => by
            rw [HOb.out] at hq
            have h1 : tg = q := by simpa [Value.ownBlock] using hq
            have h2 := Kit.own_base HO6e.out q e
            omega
          have HBj3 := hid HBf.out.take
          have HM3 : Hid (2 * (k - en.length) + l'.length ≤ 2 * (k - en.length) + l'.length) := Nat.le_refl _
          go_loopw [109, 13] (fun i u wx => ∃ (j : Nat) (en2 l2 : List Nat), i = .int .i64 (j : Int) ∧ j ≤ ne ∧ Hid (QS wx sb u l2) ∧ Hid (SeenR wx sb sb k en2) ∧ Hid (Cf.Bj (edg L (Cf.Bg L C) cl) O en2 l2 x j) ∧ Hid (wx.ownsRow wo.heap.size 3 1 (.slice ea ne ec) ne (natVals (edg L (Cf.Bg L C) cl x))) ∧ Hid (∀ q, u.ownBlock = some q → (Value.slice ea ne ec).ownBlock ≠ some q) ∧ Hid (Below sb W9 wx) ∧ Hid (2 * (k - en2.length) + l2.length ≤ 2 * (k - en.length) + l'.length)) (fun i _ _ => ne - (intOf i).toNat)
          case atStart => exact ⟨0, en, l', rfl, Nat.zero_le _, HQ3, HSn3, HBj3, HO6e, HAp, HB3, HM3⟩
          case round =>
            clear HQ3 HSn3 HBj3 HAp HB3 HM3
            obtain ⟨wx, rfl⟩ : ∃ wx : World, wx = wr := ⟨_, rfl⟩
            obtain ⟨j, en2, l2, rfl, hj, HQ3, HSn3, HBj3, HOe, HAp, HB3, HM3⟩ := hrel
            have HBb3 : Hid (Below W9.heap.size W9 wx) := by
              show Below _ _ _
              rw [HSB.out]
              exact HB3.out
            have hzx : sb < wx.heap.size := Kit.own_lt (show World.ownsRow _ _ _ _ _ _ _ from HSn3.out) sb rfl
            by_cases hlt : j < ne
            · obtain ⟨b, hb⟩ : ∃ b, (edg L (Cf.Bg L C) cl x)[j]? = some b := ⟨_, List.getElem?_eq_getElem (by rw [HEl.out]; exact hlt)⟩
              have hbE := List.mem_of_getElem? hb
              have hbO := HOk.out.2.2.2.1 x HXO.out b hbE
              have hbk := HOk.out.2.1 b hbO
              have HBe := hid hb
              have HBO := hid hbO
              obtain ⟨eg, ex, heq, heg⟩ := own_pos HOe.out (by omega)
              obtain ⟨rfl, -, rfl⟩ := Value.slice.inj heq
              have e0 := (own_cell HOe.out (Kit.natVals_at hb)).1
              have HGx2 := hid (HG9.out.below HBb3.out)
              have hp0 : wx.cell? ⟨pB, 0, none⟩ = some (.map (some mB)) := HGx2.out.pbx.cell 0
              have hb0 : wx.cell? ⟨b2, 0, none⟩ = some (.map (some m2)) := (HP9.out.below HBb3.out).cell 0
              obtain ⟨rb, hlk, hrb⟩ := HGx2.out.plm.look b (by omega)
              rw [decide_eq_true hbO] at hlk
              obtain rfl := hrb hbO
              obtain ⟨ib, hib⟩ : ∃ i, O.idxOf b = i := ⟨_, rfl⟩
              rw [hib] at hlk
              have hbl := (HBk9.out.keep (HBb3.out.block m2 HBk9.out.lt)).look x b (by omega) (by omega)
              have hcase : ((ib : Int) ≤ (ix : Int) ∧ decide ((ib : Int) ≤ (ix : Int)) = true ∧ decide ((x, b) ∈ bs) = true) ∨ (¬ (ib : Int) ≤ (ix : Int) ∧ decide ((ib : Int) ≤ (ix : Int)) = false ∧ decide ((x, b) ∈ bs) = false) := by
                have h1 := HMb.out x b
                rw [hib, HIx.out] at h1
                by_cases hle : ib ≤ ix
                · exact .inl ⟨by omega, decide_eq_true (by omega), decide_eq_true (h1.2 ⟨HXO.out, hbE, hle⟩)⟩
                · exact .inr ⟨by omega, decide_eq_false (by omega), decide_eq_false (fun h => hle (h1.1 h).2.2)⟩
              obtain ⟨s0, s1⟩ := HSn3.out.at hbk
              have hjl : (j : Int) < (ne : Int) := by omega
              have hbl2 : (b : Int) < (k : Int) := by omega
              have hel : l2.length ≤ 4000000 := by
                have h1 := HBj3.out.len
                have h2 := Cf.len_le (b := List.range k) HBj3.out.nd (fun y hy => List.mem_range.2 (HOk.out.2.1 y (HBj3.out.sub y hy)))
                rw [List.length_range] at h2
                omega
              have HEL := hid hel
              have hen : b ∉ en2 → en2.length + 1 ≤ k := fun hin => by
                have h2 := Cf.len_le (b := List.range k) (List.nodup_cons.2 ⟨hin, HBj3.out.nd⟩) (fun y hy => by
                  rcases List.mem_cons.1 hy with h3 | h3
                  · rw [h3]; exact List.mem_range.2 hbk
                  · exact List.mem_range.2 (HOk.out.2.1 y (HBj3.out.sub y h3)))
                simpa using h2
              have HEN := hid hen
              clear hel hen hrb hib heq
              rcases hcase with ⟨hle, hd, hbd⟩ | ⟨hle, hd, hbd⟩
              all_goals
                rw [hbd] at hbl
                clear hbd
                by_cases hin : b ∈ en2
                · rw [decide_eq_true hin] at s0
                  have HJ2 := hid (HBj3.out.seen hb hin)
                  clear hb hbE hbO hin
                  go_wp2
                  go_roundw
                  case rel => exact ⟨j + 1, en2, l2, by go_num, by omega, HQ3, HSn3, HJ2, HOe, HAp, HB3, HM3⟩
                  case measure => simp [intOf]; omega
                · rw [decide_eq_false hin] at s0
                  have HJ2 := hid (HBj3.out.add hb hin hbO)
                  have HEn := hid (HEN.out hin)
                  have hc1 : Chg (fun i => i = sb) wx (wx.setCell ⟨sb, b, none⟩ (.bool true)) := (Chg.refl (fun i => i = sb) wx).set (p := ⟨sb, b, none⟩) (.inl rfl) _
                  have hba : Below (wx.setCell ⟨sb, b, none⟩ (.bool true)).heap.size (wx.setCell ⟨sb, b, none⟩ (.bool true)) ((wx.setCell ⟨sb, b, none⟩ (.bool true)).alloc (.cells #[.int .i64 (b : Int)] 3)) := (Below.refl _ _).alloc (Nat.le_refl _) _
                  have hca := Chg.of_below (S := fun _ => False) hba
                  have HQ4 := hid ((HQ3.out.chg hc1 (fun q e e2 => HSn3.out.ne HQ3.out (e2 ▸ e))).chg hca (fun _ _ e => e))
                  have HSn4 := hid ((HSn3.out.set b).chg hca (fun e => e))
                  have HOe4 := hid (owns_chg (owns_chg HOe.out hc1 (fun q e e2 => own_unlike HOe.out (show World.ownsRow _ _ _ _ _ _ _ from HSn3.out) (by decide) q e (by rw [e2]; rfl))) hca (fun _ _ e => e))
                  have hza : ((wx.setCell ⟨sb, b, none⟩ (.bool true)).alloc (.cells #[.int .i64 (b : Int)] 3)).heap.size = wx.heap.size + 1 := by simp
                  have HZa := hid hza
                  have HA4 : Hid (((wx.setCell ⟨sb, b, none⟩ (.bool true)).alloc (.cells #[.int .i64 (b : Int)] 3)).cell? ⟨wx.heap.size, 0, none⟩ = some (.int .i64 (b : Int))) := by
                    have := (BX.new (wx.setCell ⟨sb, b, none⟩ (.bool true)) #[.int .i64 (b : Int)] 3).cell 0
                    rw [World.size_setCell] at this
                    exact this
                  have HB4 : Hid (Below sb W9 ((wx.setCell ⟨sb, b, none⟩ (.bool true)).alloc (.cells #[.int .i64 (b : Int)] 3))) := (HB3.out.trans (hc1.to_below (fun i e => by omega) (by have := HQ3.out; omega))).trans (hba.mono (by simp; omega))
                  clear hb hbE hbO hin hc1 hba hca hza
                  go_wp2_with (at_builtin; go_loud (refine wpList_qs rfl (.tmp 140) (.tmp 142) rfl sb u13 l2 rfl HQ4.out (by rw [HZa.out]; omega) b ⟨wx.heap.size, 0, none⟩ (by first | rfl | (simp; done)) HA4.out HEL.out ?_; intro v7 w7 hq7 hc7 ho7; have HQ7 := hid hq7; have HC7 := hid hc7; have HO7 := hid ho7; clear hq7 hc7 ho7))
                  have HSn7 := hid (HSn4.out.chg HC7.out (HSn3.out.ne HQ3.out))
                  have HOe7 := hid (owns_chg HOe4.out HC7.out (fun q e1 e2 => HAp.out q e2 e1))
                  have HAp7 : Hid (∀ q, v7.ownBlock = some q → (Value.slice (some ⟨eg, 0, none⟩) ne ec).ownBlock ≠ some q) := fun q hq e => by
                    rcases HO7.out q hq with h | h
                    · exact HAp.out q h e
                    · have := Kit.own_lt HOe4.out q e
                      omega
                  have HB7 : Hid (Below sb W9 w7) := HB4.out.trans (HC7.out.to_below (fun i e => HQ3.out.base e) (by rw [HZa.out]; omega))
                  have HM7 : Hid (2 * (k - (b :: en2).length) + (l2 ++ [b]).length ≤ 2 * (k - en.length) + l'.length) := by
                    have h1 := HM3.out
                    have h2 := HEn.out
                    show _ ≤ _
                    rw [List.length_append, List.length_cons, List.length_singleton]
                    omega
                  go_roundw
                  case rel => exact ⟨j + 1, b :: en2, l2 ++ [b], by go_num, by omega, HQ7, HSn7, HJ2, HOe7, HAp7, HB7, HM7⟩
                  case measure => simp [intOf]; omega
            · obtain rfl : j = ne := by omega
              have HBf2 : Hid (Cf.Bf (edg L (Cf.Bg L C) cl) O en2 l2) := by
                have := HBj3.out
                rw [← HEl.out] at this
                exact this.done
              go_wp2
              go_roundw
              case rel => exact ⟨en2, l2, HQ3, HSn3, HBf2, HB3⟩
              case measure =>
                have t1 : trues wx sb k = en2.length := HSn3.out.cin.trans (Cf.cin_all HBf2.out.nd (fun y hy => HOk.out.2.1 y (HBf2.out.sub y hy)))
                have t2 : trues wo sb k = en.length := HSn.out.cin.trans (Cf.cin_all HBf.out.nd (fun y hy => HOk.out.2.1 y (HBf.out.sub y hy)))
                have t3 := HQ3.out.slen
                have t4 := HM3.out
                have t5 := HMl.out
                rw [t1, t2, t3]
                show _ < _ + m
                omega
    case stop2 =>
      rintro D2 c' pre W9 hD2 - hX hK
      exact hX.elim
  case stop =>
    rintro D c' pre W hD ⟨q, hq, rfl⟩ hX hK
    exact (hX.no HOk.out.1 hq).elim
end Go.Proofs.Ytdodobpbdnpjiaa

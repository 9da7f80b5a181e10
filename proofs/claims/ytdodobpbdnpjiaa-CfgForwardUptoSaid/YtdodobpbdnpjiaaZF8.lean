/- CfgForward is true for every method that holds, all in all, at most 1048576 values and letters. -/
import Derived.Test.YtdodobpbdnpjiaaZF7
import Derived.Test.YtdodobpbdnpjiaaRows
import Derived.ProofKit
import Derived.OpenShut
import Derived.ChangeSlices
import Derived.Deep.DeepHandedRow
import Derived.Lib.LaidTab
namespace Go.Proofs.Ytdodobpbdnpjiaa
open Go Go.RowKit
open Kit (natVals)
open Cf (Op5 Ca opL caL)
attribute [local go_sem] Oper.semAt_some
set_option maxRecDepth 100000
set_option maxHeartbeats 4000000
theorem fw0_law {w : World} {f : Fc} {C : List Ca} (hO : OpS w f.ov []) (hC : CaS w f.cv C) (hm : C.length ≤ 1048576) :
    Calls Try.prog 4 #[.agg f.cs] w fun e w' => e = .returned (.bool true) ∧ Below w.heap.size w w' := by
  have hb1 : Below w.heap.size w ((w.alloc (.cells f.cs 28)).alloc (.cells #[.bool false] 4)) := ((Below.refl _ _).alloc (Nat.le_refl _) _).alloc (by simp) _
  have HN := hid (New0_any (hO.below hb1) (hC.below hb1) hm)
  obtain ⟨oa, ocap, hov⟩ := hO.form
  obtain ⟨a0, a1, a2, a3, a4, a5, a6, a7, a8, ov, cv, a11⟩ := f
  dsimp only [Fc.cs] at *
  subst hov
  simp only [List.length_nil] at HN hO hb1 ⊢
  have hbr := BX.new (w.alloc (.cells #[a0, a1, a2, a3, a4, a5, a6, a7, a8, .slice oa 0 ocap, cv, a11] 28)) #[.bool false] 4
  simp only [World.size_alloc] at hbr
  have HR1 := hid hbr
  have HB1 := hid hb1
  clear hO hC hb1 hm hbr
  refine (callsIn_wide (n := 5)).1 ?_
  refine callsIn_of_wp_marks Try.func4 rfl trivial ?_ rfl
  refine wpIn_wide.2 ?_
  simp only [Try.ntmps4, List.size_toArray, List.length_cons, List.length_nil, Nat.reduceAdd, Nat.reduceSub, Array.replicate_succ, Array.replicate_zero, List.push_toArray, List.append_toArray, List.nil_append, List.cons_append]
  go_upto_region 2 with (go_at_call 6; go_loud (refine HN.out.mono ?_; rintro e w2 ⟨gb, rfl, hs2, hb2, ba, bc, fv, sv, pv, hG⟩; have HB2 := hid (HB1.out.trans (hb2.mono HB1.out.size)); have HG := hid hG; have HR2 := hid (HR1.out.below (hb2.mono (by simp))); clear hs2 hb2 hG))
  go_upto_region 5 with (first | (go_at_call 7; go_loud (refine (begun_any _).mono ?_; rintro e w3 ⟨rfl, hb3⟩; have HB3 := hid (belows HB2.out hb3 HB2.out.size); have HG3 := hid (HG.out.below hb3); have HR3 := hid (HR2.out.below hb3); clear hb3)) | (go_at_call 8; go_loud (refine (blocks0_any HG3.out).mono ?_; rintro e w4 ⟨la, lc, rfl, hb4⟩; have HB4 := hid (belows HB3.out hb4 HB3.out.size); have HR4 := hid (HR3.out.below hb4); have HG4 := hid (HG3.out.below hb4); clear hb4)))
  have hmk := fun W => run_makeMap (P := Try.prog) 42 W
  go_upto_region 6 with fail
  refine region_named fun W5 hW5 => ?_
  have hb45 : Below w4.heap.size w4 W5 := by rw [hW5]; exact (((Below.refl _ _).alloc (Nat.le_refl _) _).alloc (by simp) _).alloc (by simp; omega) _
  have hs5 : W5.heap.size = w4.heap.size + 3 := by rw [hW5]; simp
  have hl5 : BX W5 w4.heap.size #[.slice la 0 lc] 32 := by rw [hW5]; exact ((BX.new w4 _ _).below ((Below.refl _ _).alloc (Nat.le_refl _) _)).below ((Below.refl _ _).alloc (Nat.le_refl _) _)
  have hp5 : BX W5 (w4.heap.size + 1 + 1) #[.map (some (w4.heap.size + 1))] 42 := by
    rw [hW5]
    have := BX.new ((w4.alloc (.cells #[.slice la 0 lc] 32)).alloc (.map #[] 0)) #[.map (some (w4.heap.size + 1))] 42
    simp only [World.size_alloc] at this
    exact this
  have hm5 : PlM W5 (w4.heap.size + 1) [] := by
    rw [hW5]
    have := PlM.new (w4.alloc (.cells #[.slice la 0 lc] 32))
    simp only [World.size_alloc] at this
    refine this.keep ?_
    exact Below.heap_alloc _ _ _ (by simp)
  have HB5 := hid (belows HB4.out hb45 HB4.out.size)
  have HR5 := hid (HR4.out.below hb45)
  have HG5 := hid (HG4.out.below hb45)
  clear hW5 hb45 hmk HB1 HB2 HB3 HB4 HR1 HR2 HR3 HR4 HG HG3 HG4
  obtain ⟨lB, hlB⟩ : ∃ x, w4.heap.size = x := ⟨_, rfl⟩
  rw [hlB] at hs5 hl5 hp5 hm5 ⊢
  obtain ⟨mB, hmB⟩ : ∃ x, lB + 1 = x := ⟨_, rfl⟩
  rw [hmB] at hp5 hm5 ⊢
  obtain ⟨pB, hpB⟩ : ∃ x, mB + 1 = x := ⟨_, rfl⟩
  rw [hpB] at hp5 ⊢
  have hk2 : W5.cell? ⟨gb, 2, none⟩ = some (.slice none 0 0) := HG5.out.cell 2
  have HL5 := hid hl5
  have HP5 := hid hp5
  have HM5 := hid hm5
  clear hl5 hp5 hm5 hlB hmB hpB hs5
  go_wp2_with (go_at_call 12; go_loud (refine (Order_any hk2).mono ?_; rintro e w6 ⟨rfl, hw6⟩))
  have hs6 : w6.heap.size = W5.heap.size + 1 := by rw [hw6]; simp
  have hb56 : Below W5.heap.size W5 w6 := by rw [hw6]; exact (Below.refl _ _).alloc (Nat.le_refl _) _
  have bo6 : BX w6 W5.heap.size #[Nil] 34 := by rw [hw6]; exact BX.new _ _ _
  rw [← hw6]
  clear hw6 hk2
  have HL6 := hid (HL5.out.below hb56)
  have HP6 := hid (HP5.out.below hb56)
  have HM6 := hid (HM5.out.keep (hb56.block mB HM5.out.lt))
  have HG6 := hid (HG5.out.below hb56)
  have HB6 := hid (belows HB5.out hb56 HB5.out.size)
  have HR6 := hid (HR5.out.below hb56)
  clear HL5 HP5 HG5 HB5 HR5 HM5 hb56
  have hit : ∀ X, Ks (fun i => i < w6.heap.size) w6 X → Kit.IsS 1 X Nil ([] : List Nat).length (natVals []) ∧ X.cell? ⟨W5.heap.size, 0, none⟩ = some Nil := fun X hX => by
    refine ⟨⟨rfl, by decide, .inl ⟨rfl, _, _, rfl⟩⟩, ?_⟩
    have : X.cell? ⟨W5.heap.size, 0, none⟩ = w6.cell? ⟨W5.heap.size, 0, none⟩ := World.cell?_of_block (hX.2 W5.heap.size (by omega))
    exact this.trans (bo6.cell 0)
  refine (wpIn_wide (n := 5)).1 ?_
  refine wpIn_rangeFunc_ownH rfl (by omega) (gf := 34) (lb := #[.pointer (some ⟨W5.heap.size, 0, none⟩)]) (by first | rfl | (simp; done)) trivial (enters_of Try.func34 (by kernel_rfl) rfl)
    (order1_stops [] Nil (fun i => i < w6.heap.size) W5.heap.size (5 - 1) w6 (by omega) (fun k h => h) hit) (fun h k => Ks.trans h k) (Ks.putObj (fun k h => h)) (Below.refl _ _) (fun _ => rfl)
    (fun (_ : List (Tx [])) W => Below w6.heap.size w6 W) (fun _ _ _ => False)
    (fun pre X Y row h hg hr => h.grown hg h.size (fun r e => (hr r e).1)) (fun _ _ _ _ _ h _ _ => h)
    (Below.refl _ _)
    (fun _ _ _ => True) (fun x a' => Own.from (fun s A B row hs hg hr => hs) _) ?assign ?body ?done ?stop
  case assign =>
    rintro D pre ⟨⟨k, c⟩, hx⟩
    exact absurd hx (by simp)
  case body =>
    rintro D pre ⟨⟨k, c⟩, hx⟩
    exact absurd hx (by simp)
  case done =>
    rintro D ys W hD rfl hbW hDf
    have HZW : Hid (D < W.heap.size) := (Array.getElem?_eq_some_iff.1 hDf).1
    have HWD : Hid (w.heap.size ≤ D) := Nat.le_trans HB6.out.size hD
    have HLw := hid (HL6.out.below hbW)
    have HPw := hid (HP6.out.below hbW)
    have HMw := hid (HM6.out.keep (hbW.block mB HM6.out.lt))
    have HGw := hid (HG6.out.below hbW)
    have HBw := hid (belows HB6.out hbW HB6.out.size)
    have HRw := hid (HR6.out.below hbW)
    have HDf := hid hDf
    have hmk := fun W => run_makeMap (P := Try.prog) 46 W
    clear hDf hbW hit bo6 HL6 HP6 HM6 HG6 HB6 HR6
    dsimp only
    go_upto_region 13 with fail
    refine region_named fun W7 hW7 => ?_
    have hb7 : Below W.heap.size W W7 := by rw [hW7]; exact ((Below.refl _ _).alloc (Nat.le_refl _) _).alloc (by simp) _
    have hk5 : W7.cell? ⟨gb, 5, none⟩ = some (.slice none 0 0) := (HGw.out.below hb7).cell 5
    have HB7 := hid hb7
    clear hW7 hb7 hmk
    go_wp2_with (go_at_call 13; go_loud (refine (Back_any hk5).mono ?_; rintro e w8 ⟨rfl, hw8⟩))
    have hs8 : w8.heap.size = W7.heap.size + 1 := by rw [hw8]; simp
    have hb78 : Below W7.heap.size W7 w8 := by rw [hw8]; exact (Below.refl _ _).alloc (Nat.le_refl _) _
    have bo8 : BX w8 W7.heap.size #[Nil] 54 := by rw [hw8]; exact BX.new _ _ _
    rw [← hw8]
    clear hw8 hk5
    have HB8 := hid (belows HB7.out hb78 HB7.out.size)
    have hit : ∀ X, Ks (fun i => i < w8.heap.size) w8 X → Kit.IsS 2 X Nil ([] : List (Nat × Nat)).length (eVals []) ∧ X.cell? ⟨W7.heap.size, 0, none⟩ = some Nil := fun X hX => by
      refine ⟨⟨rfl, by decide, .inl ⟨rfl, _, _, rfl⟩⟩, ?_⟩
      have : X.cell? ⟨W7.heap.size, 0, none⟩ = w8.cell? ⟨W7.heap.size, 0, none⟩ := World.cell?_of_block (hX.2 W7.heap.size (by omega))
      exact this.trans (bo8.cell 0)
    refine (wpIn_wide (n := 5)).1 ?_
    refine wpIn_rangeFunc_ownH rfl (by omega) (gf := 35) (lb := #[.pointer (some ⟨W7.heap.size, 0, none⟩)]) (by first | rfl | (simp; done)) trivial (enters_of Try.func35 (by kernel_rfl) rfl)
      (back1_stops [] Nil (fun i => i < w8.heap.size) W7.heap.size (5 - 1) w8 (by omega) (fun k h => h) hit) (fun h k => Ks.trans h k) (Ks.putObj (fun k h => h)) (Below.refl _ _) (fun _ => rfl)
      (fun (_ : List (Ty [])) W => Below w8.heap.size w8 W) (fun _ _ _ => False)
      (fun pre X Y row h hg hr => h.grown hg h.size (fun r e => (hr r e).1)) (fun _ _ _ _ _ h _ _ => h)
      (Below.refl _ _)
      (fun _ _ _ => True) (fun x a' => Own.from (fun s A B row hs hg hr => hs) _) ?assign2 ?body2 ?done2 ?stop2
    case assign2 =>
      rintro D2 pre ⟨⟨k, c⟩, hx⟩
      exact absurd hx (by simp)
    case body2 =>
      rintro D2 pre ⟨⟨k, c⟩, hx⟩
      exact absurd hx (by simp)
    case done2 =>
      rintro D2 ys W9 hD2 rfl hb9 hDf2
      have hbx := belows HB8.out hb9 HB8.out.size
      have HNe : Hid (D < D2 ∧ w.heap.size ≤ D2) := ⟨Nat.lt_of_lt_of_le HZW.out (Nat.le_trans HB8.out.size hD2), Nat.le_trans (Nat.le_trans HBw.out.size HB8.out.size) hD2⟩
      have HL9 := hid (HLw.out.below hbx)
      have HP9 := hid (HPw.out.below hbx)
      have HM9 := hid (HMw.out.keep (hbx.block mB HMw.out.lt))
      have HB9 := hid (belows HBw.out hbx HBw.out.size)
      have HR9 := hid (HRw.out.below hbx)
      have HDf9 := hid (show W9.heap[D]? = some (.deferred (some [])) from (hbx.block D HZW.out).trans HDf.out)
      have HDg9 := hid hDf2
      have hl9 : W9.cell? ⟨lB, 0, none⟩ = some (.slice la 0 lc) := HL9.out.cell 0
      have hmk := fun W => run_make_row' (P := Try.prog) 51 4 (.bool false) 1 (by kernel_rfl) (by kernel_rfl) rfl .i64 .i64 0 (by omega) (by omega) W
      simp only [Int.ofNat_zero] at hmk
      clear hbx hb9 hDf2 hit bo8 hs8 HLw HPw HMw HGw HBw HRw HB7 HB8
      dsimp only
      go_upto_region 19 with fail
      refine region_named fun W10 hW10 => ?_
      have hb10 : Below W9.heap.size W9 W10 := by rw [hW10]; exact ((Below.refl _ _).alloc (Nat.le_refl _) _).alloc (by simp) _
      clear hW10 hmk hl9
      have hl10 : W10.cell? ⟨lB, 0, none⟩ = some (.slice la 0 lc) := (HL9.out.below hb10).cell 0
      have hp10 : W10.cell? ⟨pB, 0, none⟩ = some (.map (some mB)) := (HP9.out.below hb10).cell 0
      have hlen := (HM9.out.keep (hb10.block mB HM9.out.lt)).len
      simp only [List.length_nil, Int.ofNat_zero] at hlen
      have HR := hid (HR9.out.below hb10)
      have c2 : W10.cell? ⟨w.heap.size + 1, 0, none⟩ = some (.bool false) := HR.out.cell 0
      have f2 := HR.out.frozen 0
      have HB := hid (belows HB9.out hb10 HB9.out.size)
      have HDx := hid (show W10.heap[D]? = some (.deferred (some [])) from (hb10.block D (Array.getElem?_eq_some_iff.1 HDf9.out).1).trans HDf9.out)
      have HDy := hid (show W10.heap[D2]? = some (.deferred (some [])) from (hb10.block D2 (Array.getElem?_eq_some_iff.1 HDg9.out).1).trans HDg9.out)
      clear hb10
      go_wp2
      go_loopw [13] (fun v wr => v = .slice (some ⟨W9.heap.size + 1, 0, none⟩) 0 0 ∧ wr = W10) (fun _ _ => 0)
      case atStart => exact ⟨rfl, rfl⟩
      case round =>
        obtain ⟨rfl, rfl⟩ := hrel
        go_wp2
        go_loopw [147, 21] (fun v c wx => v = .int .i64 0 ∧ c = .int .i64 0 ∧ wx = wr) (fun _ _ _ => 0)
        case atStart => exact ⟨rfl, rfl, rfl⟩
        case round =>
          obtain ⟨rfl, rfl, rfl⟩ := hrel
          go_wp2
          have hB := HB.out
          have hne := HNe.out
          have hwd := HWD.out
          have hK2 := (KeepsOthers.setCell wr ⟨w.heap.size + 1, 0, none⟩ (.bool true)).same D2 _ HDy.out rfl
          have hK1 := (KeepsOthers.setCell wr ⟨w.heap.size + 1, 0, none⟩ (.bool true)).same D _ HDx.out rfl
          have hK3 := ((grownBy_putObj' (wr.setCell ⟨w.heap.size + 1, 0, none⟩ (.bool true)) D2 (.deferred none)).block D (Array.getElem?_eq_some_iff.1 hK1).1 (fun e => by cases e; omega)).trans hK1
          refine ⟨by simp, .inl ⟨_, _, rfl, run_takeDeferred hK2, ?_⟩⟩
          refine ⟨by simp, .inl ⟨_, _, rfl, run_takeDeferred hK3, ?_⟩⟩
          have hc5 := cell_kept (World.cell?_setCell_same' wr ⟨w.heap.size + 1, 0, none⟩ (.bool true) (by rw [c2]; rfl)) (grownBy_putObj' _ D2 (.deferred none)) (fun r e => by cases e; exact ⟨_, hK2, rfl⟩)
          have hc6 := cell_kept hc5 (grownBy_putObj' _ D (.deferred none)) (fun r e => by cases e; exact ⟨_, hK3, rfl⟩)
          refine ⟨.bool true, ?_, rfl, ((hB.setCell (p := ⟨w.heap.size + 1, 0, none⟩) (by show w.heap.size ≤ w.heap.size + 1; omega) _).trans (belowK_b (w := w) (Nat.le_refl _) _ D2 _ _ (by omega) hK2 rfl rfl)).trans (belowK_b (w := w) (Nat.le_refl _) _ D _ _ (by omega) hK3 rfl rfl)⟩
          simp [results, Try.f4, go_sem, hc6]
    case stop2 =>
      rintro D2 c' pre W9 hD2 - hX hK
      exact hX.elim
  case stop =>
    rintro D c' pre W hD - hX hK
    exact hX.elim
theorem forward_law {w : World} {f : Fc} {L : List Op5} {C : List Ca} (hO : OpS w f.ov L) (hC : CaS w f.cv C) (hn : L.length ≤ 1048576) (hm : C.length ≤ 1048576) :
    Calls Try.prog 4 #[.agg f.cs] w fun e w' => e = .returned (.bool true) ∧ Below w.heap.size w w' := by
  cases L with
  | nil => exact fw0_law hO hC hm
  | cons x L => exact fw1_law hO hC hn hm (by simp)
end Go.Proofs.Ytdodobpbdnpjiaa
namespace Go.Proofs.Ytdodobpbdnpjiaa
open Go.ChangeShapes Go.WideShapes Go.ChangeAt Go.RowKit Go.WideMaps Go.WideElems
open Cf (Op5 Ca opL caL)
set_option maxRecDepth 100000
section
variable {H : Type} {enc : TypeId × Value → H}
theorem weights_allT {P : Program} {e : TypeId} : ∀ {ds : List (DataW H)} {d : DataW H}, d ∈ ds → (DataW.weightsAll P e ds).all (· ≤ reachBytes) = true → (d.weights P e).all (· ≤ reachBytes) = true
  | [], _, h, _ => by cases h
  | x :: r, d, h, hw => by
    simp only [DataW.weightsAll, List.all_append, Bool.and_eq_true] at hw
    rcases List.mem_cons.1 h with rfl | h
    · exact hw.1
    · exact weights_allT h hw.2
theorem bulk_pos (d : DataW H) : 1 ≤ Rows.uptoBulk d := by
  cases d with
  | lit l => cases l <;> simp [Rows.uptoBulk]
  | _ => simp [Rows.uptoBulk]
theorem bulk_len : ∀ l : List (DataW H), l.length ≤ Rows.uptoBulkAll l
  | [] => by simp [Rows.uptoBulkAll]
  | x :: r => by have h1 := bulk_pos x; have h2 := bulk_len r; simp only [Rows.uptoBulkAll, List.length_cons]; omega
theorem bulk_mem : ∀ {l : List (DataW H)} {d : DataW H}, d ∈ l → Rows.uptoBulk d ≤ Rows.uptoBulkAll l
  | [], _, h => by cases h
  | x :: r, d, h => by
    simp only [Rows.uptoBulkAll]
    rcases List.mem_cons.1 h with rfl | h
    · omega
    · have := bulk_mem h; omega
theorem bulk_all {l : List (DataW H)} (h : Rows.uptoSmall H l = true) : Rows.uptoBulkAll l ≤ 1048576 := of_decide_eq_true h
theorem A.cellsInt : Try.prog.cellsOf 3 = 1 := by kernel_rfl
theorem A.cellsI64 : Try.prog.cellsOf 2 = 1 := by kernel_rfl
theorem A.cellsOps : Try.prog.cellsOf 25 = 1 := by kernel_rfl
theorem A.cellsCas : Try.prog.cellsOf 26 = 1 := by kernel_rfl
set_option maxRecDepth 100000 in
/-- A list of things of so many cells each, in a cell. -/
theorem list_cell {α : Type} {W : World} {n : Nat} {k : Value} {y : DataW H × List MemPlace} {tS tE : TypeId} {s by_ : Nat} (G : DataW H → List Value → α → Prop) (hG : ∀ d cs x, G d cs x → cs.length = s) (hs : 0 < s)
    (hu : Try.prog.underlying tS = some (.slice tE)) (hco : Try.prog.cellsOf tE = s) (hby : Try.prog.bytesOf tE = by_) (hb0 : 0 < by_)
    (he : ∀ (m : Nat) (cs : List Value) (z : DataW H × List MemPlace), DataW.trod enc Try.prog W 0 (fun _ => true) true m tE cs = some z → (z.1.weights Try.prog tE).all (· ≤ reachBytes) = true → ∃ x, G z.1 cs x)
    (h : DataW.trod enc Try.prog W 0 (fun _ => true) true n tS [k] = some y) (hw : (y.1.weights Try.prog tS).all (· ≤ reachBytes) = true) :
    ∃ (xs : List α) (rs : List (List Value)), rs.length = xs.length ∧ (∀ (i : Nat) (r : List Value) (x : α), rs[i]? = some r → xs[i]? = some x → ∃ d, G d r x ∧ Rows.uptoBulk d ≤ Rows.uptoBulk y.1) ∧ Kit.IsS s W k xs.length rs.flatten ∧ xs.length * by_ ≤ 140737488351232 ∧ xs.length ≤ Rows.uptoBulk y.1 := by
  rcases DataW.trod_slice hu h with ⟨hcs, rfl⟩ | ⟨a, len, cap, elems, rest, m, -, hcs, rfl, -, hl, hm, hel, hcells, hsp, -⟩
  · obtain rfl : k = .slice none 0 0 := by simpa using hcs
    exact ⟨[], [], rfl, fun i r x hr => by simp at hr, ⟨by simp, by simp, .inl ⟨rfl, none, 0, rfl⟩⟩, by simp, by simp⟩
  · obtain rfl : k = .slice (some a) len cap := by simpa using hcs
    simp only [DataW.weights, hu, List.all_cons, List.all_append, Bool.and_eq_true, decide_eq_true_eq, hby] at hw
    have hcap : len * by_ ≤ 140737488351232 := by
      have h1 := hw.1
      simp only [List.length_map, reachBytes] at h1
      rw [hel] at h1
      exact Nat.le_trans (Nat.mul_le_mul_right _ (Nat.le_add_right _ _)) h1
    have hbl : len ≤ Rows.uptoBulk (.slice (elems.map (·.1)) (rest.map (·.1)) : DataW H) := by
      have := bulk_len (elems.map (·.1))
      rw [List.length_map, hel] at this
      simp only [Rows.uptoBulk]
      omega
    have each : ∀ i, ∃ q : List Value × Option α, i < len → q.1.length = s ∧ (∀ j, j < s → W.cell? ((a.add (i * s)).add j) = q.1[j]?) ∧ ∃ x d, q.2 = some x ∧ G d q.1 x ∧ Rows.uptoBulk d ≤ Rows.uptoBulk (.slice (elems.map (·.1)) (rest.map (·.1)) : DataW H) := by
      intro i
      by_cases hi : i < len
      · have h1 := hcells i hi
        rw [hco, List.getElem?_eq_getElem (by omega), Option.bind_eq_some_iff] at h1
        obtain ⟨cs, hcs', htr⟩ := h1
        have hmem : elems[i].1 ∈ elems.map (·.1) := List.mem_map_of_mem (List.getElem_mem _)
        obtain ⟨x, hx⟩ := he _ _ _ htr (weights_allT hmem hw.2.1)
        refine ⟨(cs, some x), fun _ => ⟨hG _ _ _ hx, fun j hj => (World.cells?_some hcs').2.2 j hj, x, _, rfl, hx, ?_⟩⟩
        have := bulk_mem hmem
        simp only [Rows.uptoBulk]
        omega
      · exact ⟨([], none), fun h => absurd h hi⟩
    obtain ⟨f, hfx⟩ := Classical.skolem.1 each
    have hxs : ∃ xs : List α, xs.length = len ∧ ∀ i, i < len → xs[i]? = (f i).2 := by
      have : ∀ m, m ≤ len → ∃ xs : List α, xs.length = m ∧ ∀ i, i < m → xs[i]? = (f i).2 := by
        intro m
        induction m with
        | zero => intro _; exact ⟨[], rfl, fun i hi => by omega⟩
        | succ m ih =>
          intro hm
          obtain ⟨xs, h1, h2⟩ := ih (by omega)
          obtain ⟨-, -, x, d, hx, -⟩ := hfx m (by omega)
          refine ⟨xs ++ [x], by simp [h1], fun i hi => ?_⟩
          by_cases e : i < m
          · rw [List.getElem?_append_left (by omega)]; exact h2 i e
          · obtain rfl : i = m := by omega
            rw [List.getElem?_append_right (by omega), h1, Nat.sub_self, hx]
            rfl
      exact this len (Nat.le_refl _)
    obtain ⟨xs, hxl, hxe⟩ := hxs
    have hrl : ∀ r ∈ (List.range len).map (fun i => (f i).1), r.length = s := by
      intro r hr
      obtain ⟨i, hi, rfl⟩ := List.mem_map.1 hr
      exact (hfx i (List.mem_range.1 hi)).1
    have hfl : ∀ (rs : List (List Value)), (∀ r ∈ rs, r.length = s) → rs.flatten.length = rs.length * s ∧ ∀ i r, rs[i]? = some r → ∀ j, j < s → rs.flatten[i * s + j]? = r[j]? := by
      intro rs
      induction rs with
      | nil => intro _; exact ⟨by simp, fun i r hr => by simp at hr⟩
      | cons r0 rs ih =>
        intro hr
        obtain ⟨h1, h2⟩ := ih (fun r h => hr r (List.mem_cons_of_mem _ h))
        have h0 := hr r0 (by simp)
        refine ⟨by rw [List.flatten_cons, List.length_append, h0, h1, List.length_cons, Nat.succ_mul]; omega, fun i r hi j hj => ?_⟩
        match i, hi with
        | 0, hi =>
          simp at hi
          subst hi
          rw [List.flatten_cons, List.getElem?_append_left (by omega)]
          simp
        | i + 1, hi =>
          rw [List.flatten_cons, List.getElem?_append_right (by rw [h0, Nat.succ_mul]; omega), h0, ← h2 i r (by simpa using hi) j hj]
          congr 1
          rw [Nat.succ_mul]
          omega
    obtain ⟨hfl1, hfl2⟩ := hfl _ hrl
    have hrlen : ((List.range len).map (fun i => (f i).1)).length = len := by simp
    refine ⟨xs, (List.range len).map (fun i => (f i).1), by rw [hrlen, hxl], fun i r x hr hx => ?_, ⟨by rw [hfl1, hrlen, hxl], by rw [hxl]; exact Nat.le_trans (Nat.le_trans (Nat.le_mul_of_pos_right _ hb0) hcap) (by decide), ?_⟩, by rw [hxl]; exact hcap, by rw [hxl]; exact hbl⟩
    · have hi : i < len := by
        have := (List.getElem?_eq_some_iff.1 hx).1
        omega
      obtain ⟨-, -, x', d, hx', hg, hb⟩ := hfx i hi
      rw [hxe i hi, hx'] at hx
      cases hx
      rw [List.getElem?_map, List.getElem?_range hi] at hr
      simp only [Option.map_some, Option.some.injEq] at hr
      subst hr
      exact ⟨d, hg, hb⟩
    · by_cases h0 : len = 0
      · exact .inl ⟨by rw [hxl, h0], some a, cap, by rw [h0]⟩
      · obtain ⟨b, o, spot⟩ := a
        have hsp0 : ∃ u, W.cell? (((⟨b, o, spot⟩ : Addr).add (0 * s)).add 0) = some u := by
          obtain ⟨h1, h2, -⟩ := hfx 0 (by omega)
          refine ⟨(f 0).1[0]'(by omega), ?_⟩
          rw [h2 0 hs, List.getElem?_eq_getElem]
        obtain ⟨u0, hsp0⟩ := hsp0
        have hspot : spot = none := by
          have := World.cell?_spot hsp0
          simpa [Addr.add] using this
        subst hspot
        have hat : ∀ i j, ((⟨b, o, none⟩ : Addr).add i).add j = ⟨b, o + (i + j), none⟩ := by
          intro i j
          rw [add_plain, add_plain]; congr 1; omega
        refine .inr ⟨b, o, cap, by rw [hxl], by rw [hxl]; exact hl, ?_, fun i u hi => ?_⟩
        · have := World.block_lt_of_cell? W _ hsp0
          simpa [Addr.add] using this
        · have hil : i < len * s := by
            have := (List.getElem?_eq_some_iff.1 hi).1
            rw [hfl1, hrlen] at this
            exact this
          have hq : i / s < len := Nat.div_lt_of_lt_mul (by rw [Nat.mul_comm]; exact hil)
          have hr : i % s < s := Nat.mod_lt _ hs
          have e : i / s * s + i % s = i := by rw [Nat.mul_comm]; exact Nat.div_add_mod i s
          have hget : ((List.range len).map (fun i => (f i).1))[i / s]? = some (f (i / s)).1 := by rw [List.getElem?_map, List.getElem?_range hq]; rfl
          have h1 := hfl2 (i / s) _ hget (i % s) hr
          rw [e] at h1
          have h2 := (hfx (i / s) hq).2.1 (i % s) hr
          rw [hat, e] at h2
          rw [h2, ← h1]
          exact hi
theorem rs_map {α : Type} {f : α → List Value} {xs : List α} {rs : List (List Value)} (hl : rs.length = xs.length) (h : ∀ (i : Nat) (r : List Value) (x : α), rs[i]? = some r → xs[i]? = some x → r = f x) : rs.flatten = xs.flatMap f := by
  have e : rs = xs.map f := by
    apply List.ext_getElem?
    intro i
    rw [List.getElem?_map]
    by_cases hi : i < xs.length
    · have h1 : rs[i]? = some rs[i] := List.getElem?_eq_getElem (by omega)
      have h2 : xs[i]? = some xs[i] := List.getElem?_eq_getElem hi
      rw [h1, h2, h i _ _ h1 h2]
      rfl
    · rw [List.getElem?_eq_none (by omega), List.getElem?_eq_none (by omega)]
      rfl
  rw [e, List.flatMap_def]
theorem op5_cells {W : World} {n : Nat} {cs : List Value} {y : DataW H × List MemPlace} (h : DataW.trod enc Try.prog W 0 (fun _ => true) true n 70 cs = some y) : ∃ x : Op5, cs = opL x := by
  obtain ⟨xs, m, -, hy, hl, hlen, hf⟩ := DataW.trod_struct Try.underlying70 h
  have hl5 : cs.length = 5 := hl.trans (by kernel_rfl)
  have hx5 : xs.length = 5 := hlen
  match xs, hx5 with
  | [x0, x1, x2, x3, x4], _ =>
  match cs, hl5 with
  | [k0, k1, k2, k3, k4], _ =>
  obtain ⟨a, e0, -, -⟩ := DataW.trod_int Try.underlying3 (hf 0 _ rfl)
  obtain ⟨b, e1, -, -⟩ := DataW.trod_int Try.underlying3 (hf 1 _ rfl)
  obtain ⟨c, e2, -, -⟩ := DataW.trod_int Try.underlying3 (hf 2 _ rfl)
  obtain ⟨d, e3, -, -⟩ := DataW.trod_int Try.underlying2 (hf 3 _ rfl)
  obtain ⟨e, e4, -, -⟩ := DataW.trod_int Try.underlying3 (hf 4 _ rfl)
  have q0 : ([k0, k1, k2, k3, k4].drop 0).take (Try.prog.cellsOf 3) = [.int .i64 a] := e0
  have q1 : ([k0, k1, k2, k3, k4].drop 1).take (Try.prog.cellsOf 3) = [.int .i64 b] := e1
  have q2 : ([k0, k1, k2, k3, k4].drop 2).take (Try.prog.cellsOf 3) = [.int .i64 c] := e2
  have q3 : ([k0, k1, k2, k3, k4].drop 3).take (Try.prog.cellsOf 2) = [.int .i64 d] := e3
  have q4 : ([k0, k1, k2, k3, k4].drop 4).take (Try.prog.cellsOf 3) = [.int .i64 e] := e4
  rw [A.cellsInt] at q0 q1 q2 q4
  rw [A.cellsI64] at q3
  simp only [List.drop_zero, List.take_succ_cons, List.take_zero, List.cons.injEq, and_true, List.drop_succ_cons] at q0 q1 q2 q3 q4
  subst q0 q1 q2 q3 q4
  exact ⟨⟨a, b, c, d, e⟩, rfl⟩
theorem ca_cells {W : World} {n : Nat} {cs : List Value} {y : DataW H × List MemPlace} (h : DataW.trod enc Try.prog W 0 (fun _ => true) true n 86 cs = some y) : ∃ x : Ca, cs = caL x := by
  obtain ⟨xs, m, -, hy, hl, hlen, hf⟩ := DataW.trod_struct Try.underlying86 h
  have hl4 : cs.length = 4 := hl.trans (by kernel_rfl)
  have hx4 : xs.length = 4 := hlen
  match xs, hx4 with
  | [x0, x1, x2, x3], _ =>
  match cs, hl4 with
  | [k0, k1, k2, k3], _ =>
  obtain ⟨a, e0, -, -⟩ := DataW.trod_int Try.underlying3 (hf 0 _ rfl)
  obtain ⟨b, e1, -, -⟩ := DataW.trod_int Try.underlying3 (hf 1 _ rfl)
  obtain ⟨c, e2, -, -⟩ := DataW.trod_int Try.underlying3 (hf 2 _ rfl)
  obtain ⟨d, e3, -, -⟩ := DataW.trod_int Try.underlying3 (hf 3 _ rfl)
  have q0 : ([k0, k1, k2, k3].drop 0).take (Try.prog.cellsOf 3) = [.int .i64 a] := e0
  have q1 : ([k0, k1, k2, k3].drop 1).take (Try.prog.cellsOf 3) = [.int .i64 b] := e1
  have q2 : ([k0, k1, k2, k3].drop 2).take (Try.prog.cellsOf 3) = [.int .i64 c] := e2
  have q3 : ([k0, k1, k2, k3].drop 3).take (Try.prog.cellsOf 3) = [.int .i64 d] := e3
  rw [A.cellsInt] at q0 q1 q2 q3
  simp only [List.drop_zero, List.take_succ_cons, List.take_zero, List.cons.injEq, and_true, List.drop_succ_cons] at q0 q1 q2 q3
  subst q0 q1 q2 q3
  exact ⟨⟨a, b, c, d⟩, rfl⟩
theorem ops_cell {W : World} {n : Nat} {k : Value} {y : DataW H × List MemPlace} (h : DataW.trod enc Try.prog W 0 (fun _ => true) true n 25 [k] = some y) (hw : (y.1.weights Try.prog 25).all (· ≤ reachBytes) = true) :
    ∃ l : List Op5, OpS W k l ∧ l.length ≤ Rows.uptoBulk y.1 := by
  obtain ⟨xs, rs, h1, h2, h3, h4, h5⟩ := list_cell (s := 5) (by_ := 40) (tE := 70) (fun (_ : DataW H) cs (x : Op5) => cs = opL x) (fun _ _ x h => by rw [h]; rfl) (by decide) Try.underlying25 (by kernel_rfl) (by kernel_rfl) (by decide) (fun m cs z hz _ => op5_cells hz) h hw
  refine ⟨xs, ?_, h5⟩
  unfold OpS
  rw [← rs_map h1 (fun i r x hr hx => by obtain ⟨d, hd, -⟩ := h2 i r x hr hx; exact hd)]
  exact h3
theorem cas_cell {W : World} {n : Nat} {k : Value} {y : DataW H × List MemPlace} (h : DataW.trod enc Try.prog W 0 (fun _ => true) true n 26 [k] = some y) (hw : (y.1.weights Try.prog 26).all (· ≤ reachBytes) = true) :
    ∃ l : List Ca, CaS W k l ∧ l.length ≤ Rows.uptoBulk y.1 := by
  obtain ⟨xs, rs, h1, h2, h3, h4, h5⟩ := list_cell (s := 4) (by_ := 32) (tE := 86) (fun (_ : DataW H) cs (x : Ca) => cs = caL x) (fun _ _ x h => by rw [h]; rfl) (by decide) Try.underlying26 (by kernel_rfl) (by kernel_rfl) (by decide) (fun m cs z hz _ => ca_cells hz) h hw
  refine ⟨xs, ?_, h5⟩
  unfold CaS
  rw [← rs_map h1 (fun i r x hr hx => by obtain ⟨d, hd, -⟩ := h2 i r x hr hx; exact hd)]
  exact h3
theorem func_cells {W : World} {n : Nat} {cs : List Value} {y : DataW H × List MemPlace} (h : DataW.trod enc Try.prog W 0 (fun _ => true) true n 28 cs = some y) (hw : (y.1.weights Try.prog 28).all (· ≤ reachBytes) = true) :
    ∃ (f : Fc) (L : List Op5) (C : List Ca), cs = f.cs.toList ∧ OpS W f.ov L ∧ CaS W f.cv C ∧ L.length ≤ Rows.uptoBulk y.1 ∧ C.length ≤ Rows.uptoBulk y.1 := by
  obtain ⟨xs, m, -, hy, hl, hlen, hf⟩ := DataW.trod_struct Try.underlying28 h
  have hl12 : cs.length = 12 := hl.trans (by kernel_rfl)
  have hx11 : xs.length = 11 := hlen
  match xs, hx11 with
  | [x0, x1, x2, x3, x4, x5, x6, x7, x8, x9, x10], _ =>
  match cs, hl12 with
  | [k0, k1, k2, k3, k4, k5, k6, k7, k8, k9, k10, k11], _ =>
  have f8 : DataW.trod enc Try.prog W 0 (fun _ => true) true m 25 (([k0, k1, k2, k3, k4, k5, k6, k7, k8, k9, k10, k11].drop 9).take (Try.prog.cellsOf 25)) = some x8 := hf 8 _ rfl
  have f9 : DataW.trod enc Try.prog W 0 (fun _ => true) true m 26 (([k0, k1, k2, k3, k4, k5, k6, k7, k8, k9, k10, k11].drop 10).take (Try.prog.cellsOf 26)) = some x9 := hf 9 _ rfl
  rw [A.cellsOps] at f8
  rw [A.cellsCas] at f9
  simp only [List.take_succ_cons, List.take_zero, List.drop_succ_cons, List.drop_zero] at f8 f9
  subst hy
  simp only [DataW.weights, Try.underlying28, List.map_cons, List.map_nil, DataW.weightsEach, List.all_append, Bool.and_eq_true] at hw
  obtain ⟨L, hL, hL2⟩ := ops_cell f8 (by simp_all)
  obtain ⟨C, hC, hC2⟩ := cas_cell f9 (by simp_all)
  refine ⟨⟨k0, k1, k2, k3, k4, k5, k6, k7, k8, k9, k10, k11⟩, L, C, rfl, hL, hC, ?_, ?_⟩
  · refine Nat.le_trans hL2 ?_
    simp only [List.map_cons, List.map_nil, Rows.uptoBulk, Rows.uptoBulkAll]
    omega
  · refine Nat.le_trans hC2 ?_
    simp only [List.map_cons, List.map_nil, Rows.uptoBulk, Rows.uptoBulkAll]
    omega
theorem open_func {W : World} {base : Nat} {v : Value} {d : DataW H} {p : List MemPlace} (hv : Value.okWide Try.prog W .any base 28 v) (h : DataW.Trod enc Try.prog W 0 (fun _ => true) true 28 v d p) (hw : (d.weights Try.prog 28).all (· ≤ reachBytes) = true) (hb : Rows.uptoBulk d ≤ 1048576) :
    ∃ (f : Fc) (L : List Op5) (C : List Ca), v = .agg f.cs ∧ OpS W f.ov L ∧ CaS W f.cv C ∧ L.length ≤ 1048576 ∧ C.length ≤ 1048576 := by
  obtain ⟨cs, rfl, hsz⟩ := okWide_struct Try.underlying28 hv
  obtain ⟨fuel, hf⟩ := h
  obtain ⟨f, L, C, hc, h1, h2, h3, h4⟩ := func_cells (y := (d, p)) hf hw
  refine ⟨f, L, C, ?_, h1, h2, Nat.le_trans h3 hb, Nat.le_trans h4 hb⟩
  have hc2 : cs.toList = _ := hc
  rw [show cs = cs.toList.toArray by simp, hc2]
theorem weights_eachT {P : Program} : ∀ {ts : List TypeId} {ds : List (DataW H)} {j : Nat} {t : TypeId} {d : DataW H}, ts[j]? = some t → ds[j]? = some d → (DataW.weightsEach P ts ds).all (· ≤ reachBytes) = true → (d.weights P t).all (· ≤ reachBytes) = true
  | [], _, _, _, _, h, _, _ => by simp at h
  | _, [], _, _, _, _, h, _ => by simp at h
  | t :: ts, d :: ds, 0, _, _, h1, h2, h => by
    simp only [List.getElem?_cons_zero, Option.some.injEq] at h1 h2
    subst h1 h2
    simp only [DataW.weightsEach, List.all_append, Bool.and_eq_true] at h
    exact h.1
  | t :: ts, d :: ds, j + 1, _, _, h1, h2, h => by
    simp only [DataW.weightsEach, List.all_append, Bool.and_eq_true] at h
    exact weights_eachT (j := j) (by simpa using h1) (by simpa using h2) h.2
end
end Go.Proofs.Ytdodobpbdnpjiaa
namespace Go.Proofs.Ytdodobpbdnpjiaa.Kit
open Go Go.RowKit Go.ChangeShapes Go.WideShapes Go.ChangeAt

section
variable {H : Type} {enc : TypeId × Value → H} {P : Program}
/-- Arguments read in a later world as they did. -/
theorem trodAll_later (hl : laidOutB P = true) {W W' : World} (hb : Below W.heap.size W W') (sp : Nat → Bool) :
    ∀ {ts : List TypeId} {vs : List Value} {ds : List (DataW H)} {ps : List MemPlace}, (∀ t ∈ ts, P.readableRec t = true ∧ t < P.types.size) → DataW.TrodAll enc P W 0 (fun _ => true) true ts vs ds ps →
      (∀ x ∈ ps, x.block < W.heap.size) → (∀ x ∈ ps, sp x.block = true) → DataW.TrodAll enc P W' 0 sp true ts vs ds ps
  | [], vs, ds, ps, _, h, _, _ => by
    obtain ⟨rfl, rfl, rfl⟩ := trodAll_nil h
    exact trodAll_mk0
  | t :: ts, vs, ds, ps, hr, h, hlt, hsp => by
    obtain ⟨v, vs', d, ds', p, q, rfl, rfl, rfl, h0, h1⟩ := trodAll_cons h
    exact trodAll_cons_mk (WideElems.Trod_stays hl (hr t (by simp)).1 (hr t (by simp)).2 h0 (fun x hx => hb.same (hlt x (by simp [hx]))) (fun x hx => hsp x (by simp [hx])))
      (trodAll_later hl hb sp (fun t ht => hr t (by simp [ht])) h1 (fun x hx => hlt x (by simp [hx])) (fun x hx => hsp x (by simp [hx])))
/-- A law's answer: true; all that it was handed reads as it did. -/
theorem law_post {f : Func} {s : ChangeSpec} {apart fresh handsOn again : Bool} {W W' : World} {args : Array Value} {ds gs : List (DataW H)} {before : List MemPlace} {tb : TypeId}
    (hv : s.vars = []) (hr : f.resultTypes = #[tb]) (htb : P.underlying tb = some .bool) (hl : laidOutB P = true) (hrd : ∀ t ∈ f.params.toList, P.readableRec t = true ∧ t < P.types.size)
    (hW : DataW.Whole enc P f.params.toList s.vars apart W args.toList ds gs before)
    (hfn : s.fn H (ds ++ gs) = { results := [.lit (.bool true)], args := ds }) (hb : Below W.heap.size W W') :
    s.post enc P f apart fresh handsOn again W args (.bool true) W' := by
  have hlt : ∀ p ∈ before, p.block < W.heap.size := fun p hp => hW.lt p hp
  have hW' := hW
  obtain ⟨p, q, hA, hV, rfl, hfz, hnd⟩ := hW
  rw [hv] at hV
  obtain ⟨rfl, rfl⟩ := trodVars_none hV
  simp only [List.append_nil] at hlt hfz hnd hW' hfn ⊢
  have hres : ∀ (b : Nat) (sp : Nat → Bool) (hd : Bool), DataW.TrodAll enc P W' b sp hd f.resultTypes.toList ((Value.bool true).resultList f.resultTypes.size) (s.fn H ds).results [] := by
    intro b sp hd
    rw [hr, hfn]
    exact trodAll_cons_mk (shut_bool htb _) trodAll_mk0
  have hargs : ∀ sp : Nat → Bool, (∀ x ∈ p, sp x.block = true) → DataW.TrodAll enc P W' 0 sp true f.params.toList args.toList (s.fn H ds).args p := by
    intro sp hsp
    rw [hfn]
    exact trodAll_later hl hb sp hrd hA hlt hsp
  have hvs : ∀ sp : Nat → Bool, DataW.TrodVars enc P W' sp s.vars (s.fn H ds).vars [] := by
    intro sp
    rw [hv, hfn]
    rfl
  have hold : ∀ x ∈ p, (fun b => decide (b < W.heap.size)) x.block = true := fun x hx => by simpa using hlt x hx
  refine ⟨ds, [], p, [], p, [], hW', ?_, ?_, ?_, World.keptBut_mono (fun x hx => ⟨hx, .inr (.inl hx)⟩) (hb.frame (· ∈ p)), fun _ => ?_⟩
  · rw [List.append_nil]; exact hres _ _ _
  · rw [List.append_nil]; exact hargs _ hold
  · rw [List.append_nil]; exact hvs _
  · refine ⟨ok_one hr rfl (okWide_bool_mk htb _), _, _, ([] ++ p) ++ [], ⟨[] ++ p, [], trodAll_append (hargs _ (fun _ _ => rfl)) (hres _ _ _), hvs _, rfl, ?_, ?_⟩, ?_⟩
    · intro b off hp
      have hin : MemPlace.cell b off ∈ p := by simpa using hp
      have := hb.frozen (p := ⟨b, off, none⟩) (hlt _ hin)
      rw [this]
      exact hfz b off hin
    · intro ha
      simpa using hnd ha
    · intro x hx _
      simpa using hx
end
end Go.Proofs.Ytdodobpbdnpjiaa.Kit
namespace Go.Proofs.Ytdodobpbdnpjiaa.cfgForwardCard
open Go.ChangeShapes Go.WideShapes Go.ChangeAt Go.RowKit
theorem own : ownKnob Try.prog.godebug = none := by kernel_rfl
set_option maxRecDepth 100000 in
theorem contract (H : Type) (enc : TypeId × Value → H) (W : World) (base : Nat) (args : Array Value) (ds gs : List (DataW H)) (before : List MemPlace)
    (hval : ∀ (j : Nat) t v, Try.f4.params[j]? = some t → args[j]? = some v → Value.okWide Try.prog W .any base t v)
    (hW : DataW.Whole enc Try.prog Try.f4.params.toList Rows.cfgForwardSpec.vars false W args.toList ds gs before) (hcond : Rows.uptoSmall H (ds ++ gs) = true)
    (hsz : (DataW.weightsEach Try.prog (Try.f4.params.toList ++ (OpenSpec.ofChange Rows.cfgForwardSpec).bare.plain.varTypes Try.prog) (ds ++ gs)).all (· ≤ reachBytes) = true) :
    Calls Try.prog 4 args W fun e W' => ∃ v, e = .returned v ∧ Rows.cfgForwardSpec.post enc Try.prog Try.f4 false true false false W args v W' := by
  have hW' := hW
  obtain ⟨p, q, hA0, hV, rfl, hfz, hnd⟩ := hW
  have hA : DataW.TrodAll enc Try.prog W 0 (fun _ => true) true Try.f4.params.toList args.toList ds p := hA0
  rw [Try.params4] at hA hval hsz
  obtain ⟨v0, vs0, d0, ds0, p0, q0, hargs, rfl, rfl, h0, r0⟩ := trodAll_cons hA
  obtain ⟨rfl, rfl, rfl⟩ := trodAll_nil r0
  obtain rfl : args = #[v0] := by cases args; simp_all
  obtain ⟨rfl, rfl⟩ := trodVars_none hV
  have hbulk := bulk_all hcond
  simp only [List.append_nil, Rows.uptoBulkAll] at hbulk
  obtain ⟨x0, l0, c0, rfl, wo0, wc0, wl0, wm0⟩ := open_func (hval 0 28 v0 rfl rfl) h0 (weights_eachT (j := 0) (t := 28) (d := d0) rfl rfl hsz) (by omega)
  refine (forward_law wo0 wc0 wl0 wm0).mono fun e W' ⟨he, hb⟩ => ?_
  subst he
  exact ⟨_, rfl, Kit.law_post rfl rfl Try.underlying4 (by kernel_rfl) (by decide +kernel) hW' rfl hb⟩
theorem reads (os : Os) {H : Type} (enc : TypeId × Value → H) : ∃ places, DataW.whole enc Try.prog ((World.holding Try.prog os ⟨#[], #[], []⟩).forCall (fun _ _ => 0) ⟨#[], #[.agg #[.int .i64 0, .string ⟨#[]⟩, .string ⟨#[]⟩, .bool false, .slice none 0 0, .int .i64 0, .string ⟨#[]⟩, .int .i64 0, .int .i64 0, .slice none 0 0, .slice none 0 0, .int .i64 0]], []⟩).memory Try.f4.params.toList Rows.cfgForwardSpec.vars false (#[.agg #[.int .i64 0, .string ⟨#[]⟩, .string ⟨#[]⟩, .bool false, .slice none 0 0, .int .i64 0, .string ⟨#[]⟩, .int .i64 0, .int .i64 0, .slice none 0 0, .slice none 0 0, .int .i64 0]] : Array Value).toList 8 = some ([.agg [.lit (.int .i64 0), .lit (.string []), .lit (.string []), .lit (.bool false), .nil, .agg [.lit (.int .i64 0), .lit (.string [])], .lit (.int .i64 0), .lit (.int .i64 0), .nil, .nil, .lit (.int .i64 0)]], [], places) :=
  ⟨[], by kernel_rfl⟩
theorem laid_met (os : Os) : laidMet Try.prog Rows.cfgForwardUptoRow.laid ((World.holding Try.prog os ⟨#[], #[], []⟩).forCall (fun _ _ => 0) ⟨#[], #[.agg #[.int .i64 0, .string ⟨#[]⟩, .string ⟨#[]⟩, .bool false, .slice none 0 0, .int .i64 0, .string ⟨#[]⟩, .int .i64 0, .int .i64 0, .slice none 0 0, .slice none 0 0, .int .i64 0]], []⟩).memory :=
  laidMet_of_run' 8 (by kernel_rfl) (by kernel_rfl)
set_option maxRecDepth 100000 in
theorem lifted (os : Os) (started : os.Started) (H : Type) (enc : TypeId × Value → H) (F : Stop.Interp) :
    ReturnsInHanded {} Try.checked os 4 .any ((Rows.OpenSpec.upto Rows.cfgForwardSpec).preRow enc Try.prog Try.f4 Rows.cfgForwardUptoRow.domain false Rows.cfgForwardUptoRow.laid) (((Rows.OpenSpec.upto Rows.cfgForwardSpec).at F).post enc Try.prog Try.f4 false true false false) := by
  obtain ⟨places, hx⟩ := reads os enc
  refine returnsInHanded_of_row (C := Try.checked) (s := (Rows.OpenSpec.upto Rows.cfgForwardSpec)) own started (by kernel_rfl) Try.func4
    (witness_row_at (enc := enc) (C := Try.checked) false (World.holding Try.prog os ⟨#[], #[], []⟩) #[.agg #[.int .i64 0, .string ⟨#[]⟩, .string ⟨#[]⟩, .bool false, .slice none 0 0, .int .i64 0, .string ⟨#[]⟩, .int .i64 0, .int .i64 0, .slice none 0 0, .slice none 0 0, .int .i64 0]] rfl (by kernel_rfl) (by kernel_rfl) (by kernel_rfl)
      (OpenSpec.preRow_of_cond 8 hx (by kernel_rfl) (fun k hk => by cases hk; kernel_rfl) (by kernel_rfl) (laid_met os))) ?_
  intro W base args ds gs before hval hW _ hcond hsz _ _ _
  exact contract H enc W base args ds gs before hval hW (hcond _ rfl) hsz
theorem proved : Rows.CfgForwardUptoSaid :=
  OpenClaim.holds_of_cond 4 Try.f4 rfl rfl rfl rfl rfl rfl rfl ⟨rfl, rfl, rfl, rfl, rfl⟩ rfl rfl rfl rfl rfl (by kernel_rfl) Try.func4 (by kernel_rfl)
    (of_decide_eq_true (by kernel_rfl)) (by unfold Func.isWrapper; first | (rw [if_pos (by decide +kernel)]; kernel_rfl) | (rw [if_neg (by decide +kernel)]; exact ⟨rfl, rfl⟩))
    (fun os started H enc _ F => by rw [OpenClaim.pre_eq_preRow]; exact lifted os started H enc F)
end Go.Proofs.Ytdodobpbdnpjiaa.cfgForwardCard

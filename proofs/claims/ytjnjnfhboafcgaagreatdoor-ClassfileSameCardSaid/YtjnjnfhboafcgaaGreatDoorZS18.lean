/- ClassfileSame is true for all classes, as long as the listed tables of packages opcode and cpool hold what the text of the program lays there (the card ties it). -/
import Derived.Test.YtjnjnfhboafcgaaGreatDoorZS17
import Derived.Test.YtjnjnfhboafcgaaGreatDoorRows
import Derived.ChangeSlices
namespace Go.Proofs.YtjnjnfhboafcgaaGreatDoor
open Go Go.RowKit

theorem Cf.Szc.sz {c : Cf.Cl} (h : Cf.Szc c) : Cf.Sz c := ⟨by have := h.1; omega, by have := h.2.1; omega, by have := h.2.2.1; omega⟩
set_option maxRecDepth 100000 in
set_option maxHeartbeats 2000000 in
theorem same_law (x y : Cf.Cl) (vs us : Array Value) (w : World) (t1 : L1.Tabs w) (t3 : L3.Tabs w) (hv : ClR w vs x) (hu : ClR w us y) (hz : Cf.Szc x) :
    Calls Tryz.prog 7 #[.agg vs, .agg us] w fun e w' => e = .returned (.bool true) ∧ Below w.heap.size w w' := by
  have HT := hid (And.intro t1 t3)
  have HSz := hid hz.sz
  have HA1' := fun W (k : Below w.heap.size w W) => sameG_any x y vs us W (hv.below k (Nat.le_refl _)) (hu.below k (Nat.le_refl _))
  have HA2' := fun W (k : Below w.heap.size w W) => rsameG_any x y vs us W (hv.below k (Nat.le_refl _)) (hu.below k (Nat.le_refl _))
  have HA3' := fun W (k : Below w.heap.size w W) => sameG_any x x vs vs W (hv.below k (Nat.le_refl _)) (hv.below k (Nat.le_refl _))
  have HA4' := fun us' W (k : Below w.heap.size w W) (h : ClR W us' x) => rsameG_any x x us' vs W h (hv.below k (Nat.le_refl _))
  have HCl' := fun W (k : Below w.heap.size w W) => clone_any x vs W (hv.below k (Nat.le_refl _)) hz
  obtain ⟨b, hb⟩ : ∃ b, b = decide (x = y) := ⟨_, rfl⟩
  rw [← hb] at HA1' HA2'
  rw [decide_eq_true rfl] at HA3' HA4'
  obtain ⟨pv, fv, mv, rfl, hp, hf, hm⟩ := hv
  obtain ⟨qv, gv, nv, rfl, kp, kf, km⟩ := hu
  obtain ⟨pa, pc, rfl⟩ := hp.len
  obtain ⟨fa, fc, rfl⟩ := hf.len
  obtain ⟨ma2, mc, rfl⟩ := hm.len
  obtain ⟨pa', pc', rfl⟩ := kp.len
  obtain ⟨fa', fc', rfl⟩ := kf.len
  obtain ⟨ma2', mc', rfl⟩ := km.len
  have HA1 := hid HA1'
  have HA2 := hid HA2'
  have HA3 := hid HA3'
  have HA4 := hid HA4'
  have HCl := hid HCl'
  clear t1 t3 hp hf hm kp kf km hz hb HA1' HA2' HA3' HA4' HCl'
  cases b
  all_goals
    go_enter Tryz.func7, Tryz.ntmps7
    go_wp2_with fail
    refine region_named fun W0 hW0 => ?_
    obtain ⟨bC, bD, hzW, B1⟩ := boxes2 (w := w) (w1 := W0) (by rw [hW0]; exact Below.refl _ _)
    have HBc := hid B1
    have BCc := hid bC
    have BDc := hid bD
    (have q0 := bC.cell 0; have q1 := bC.cell 1; have q2 := bC.cell 2; have q3 := bC.cell 3; have q4 := bC.cell 4; have q5 := bC.cell 5; have q6 := bC.cell 6; have q7 := bC.cell 7; simp at q0 q1 q2 q3 q4 q5 q6 q7; have r0 := bD.cell 0; have r1 := bD.cell 1; have r2 := bD.cell 2; have r3 := bD.cell 3; have r4 := bD.cell 4; have r5 := bD.cell 5; have r6 := bD.cell 6; have r7 := bD.cell 7; simp at r0 r1 r2 r3 r4 r5 r6 r7)
    clear hW0 bC bD B1
    go_region_held3 (fun w' => w'.cell? ⟨w.heap.size, 0, none⟩ = some (.int .i64 x.mi) ∧ w'.cell? ⟨w.heap.size, 1, none⟩ = some (.int .i64 x.ma) ∧ w'.cell? ⟨w.heap.size, 2, none⟩ = some (.slice pa x.pool.length pc) ∧ w'.cell? ⟨w.heap.size, 3, none⟩ = some (.int .i64 x.ac) ∧ w'.cell? ⟨w.heap.size, 4, none⟩ = some (.int .i64 x.th) ∧ w'.cell? ⟨w.heap.size, 5, none⟩ = some (.int .i64 x.su) ∧ w'.cell? ⟨w.heap.size, 6, none⟩ = some (.slice fa x.fs.length fc) ∧ w'.cell? ⟨w.heap.size, 7, none⟩ = some (.slice ma2 x.ms.length mc) ∧
        w'.cell? ⟨w.heap.size + 1, 0, none⟩ = some (.int .i64 y.mi) ∧ w'.cell? ⟨w.heap.size + 1, 1, none⟩ = some (.int .i64 y.ma) ∧ w'.cell? ⟨w.heap.size + 1, 2, none⟩ = some (.slice pa' y.pool.length pc') ∧ w'.cell? ⟨w.heap.size + 1, 3, none⟩ = some (.int .i64 y.ac) ∧ w'.cell? ⟨w.heap.size + 1, 4, none⟩ = some (.int .i64 y.th) ∧ w'.cell? ⟨w.heap.size + 1, 5, none⟩ = some (.int .i64 y.su) ∧ w'.cell? ⟨w.heap.size + 1, 6, none⟩ = some (.slice fa' y.fs.length fc') ∧ w'.cell? ⟨w.heap.size + 1, 7, none⟩ = some (.slice ma2' y.ms.length mc'))
      (first | exact ⟨q0, q1, q2, q3, q4, q5, q6, q7, r0, r1, r2, r3, r4, r5, r6, r7⟩ | go_keep)
      (first | (go_at_call 13; refine (begun_any _ (HT.out.1.below (by first | exact HBc.out | exact HBc.out.drew) HT.out.1.size) (HT.out.2.below (by first | exact HBc.out | exact HBc.out.drew) HT.out.2.size)).mono ?_; rintro e wn ⟨rfl, hbn⟩; ((first | (have h' := (by with_reducible exact below_undrew hbn)) | (have h' := hbn)); have HBn := hid (belows HBc.out h' HBc.out.size); have bC := BCc.out.below h' BCc.out.sz; have bD := BDc.out.below h' BDc.out.sz; (clear q0 q1 q2 q3 q4 q5 q6 q7 r0 r1 r2 r3 r4 r5 r6 r7); (have q0 := bC.cell 0; have q1 := bC.cell 1; have q2 := bC.cell 2; have q3 := bC.cell 3; have q4 := bC.cell 4; have q5 := bC.cell 5; have q6 := bC.cell 6; have q7 := bC.cell 7; simp at q0 q1 q2 q3 q4 q5 q6 q7; have r0 := bD.cell 0; have r1 := bD.cell 1; have r2 := bD.cell 2; have r3 := bD.cell 3; have r4 := bD.cell 4; have r5 := bD.cell 5; have r6 := bD.cell 6; have r7 := bD.cell 7; simp at r0 r1 r2 r3 r4 r5 r6 r7); clear HBc BCc BDc hbn h'; have HBc := HBn; have BCc := hid bC; have BDc := hid bD; clear HBn bC bD)) | (go_at_call 32; first | ((with_reducible refine (HA3.out _ ?_).mono ?_); exact (by first | exact HBc.out | exact HBc.out.drew); rintro e wn ⟨rfl, hbn⟩; ((first | (have h' := (by with_reducible exact below_undrew hbn)) | (have h' := hbn)); have HBn := hid (belows HBc.out h' HBc.out.size); have bC := BCc.out.below h' BCc.out.sz; have bD := BDc.out.below h' BDc.out.sz; (clear q0 q1 q2 q3 q4 q5 q6 q7 r0 r1 r2 r3 r4 r5 r6 r7); (have q0 := bC.cell 0; have q1 := bC.cell 1; have q2 := bC.cell 2; have q3 := bC.cell 3; have q4 := bC.cell 4; have q5 := bC.cell 5; have q6 := bC.cell 6; have q7 := bC.cell 7; simp at q0 q1 q2 q3 q4 q5 q6 q7; have r0 := bD.cell 0; have r1 := bD.cell 1; have r2 := bD.cell 2; have r3 := bD.cell 3; have r4 := bD.cell 4; have r5 := bD.cell 5; have r6 := bD.cell 6; have r7 := bD.cell 7; simp at r0 r1 r2 r3 r4 r5 r6 r7); clear HBc BCc BDc hbn h'; have HBc := HBn; have BCc := hid bC; have BDc := hid bD; clear HBn bC bD)) | ((with_reducible refine (HA1.out _ ?_).mono ?_); exact (by first | exact HBc.out | exact HBc.out.drew); rintro e wn ⟨rfl, hbn⟩; ((first | (have h' := (by with_reducible exact below_undrew hbn)) | (have h' := hbn)); have HBn := hid (belows HBc.out h' HBc.out.size); have bC := BCc.out.below h' BCc.out.sz; have bD := BDc.out.below h' BDc.out.sz; (clear q0 q1 q2 q3 q4 q5 q6 q7 r0 r1 r2 r3 r4 r5 r6 r7); (have q0 := bC.cell 0; have q1 := bC.cell 1; have q2 := bC.cell 2; have q3 := bC.cell 3; have q4 := bC.cell 4; have q5 := bC.cell 5; have q6 := bC.cell 6; have q7 := bC.cell 7; simp at q0 q1 q2 q3 q4 q5 q6 q7; have r0 := bD.cell 0; have r1 := bD.cell 1; have r2 := bD.cell 2; have r3 := bD.cell 3; have r4 := bD.cell 4; have r5 := bD.cell 5; have r6 := bD.cell 6; have r7 := bD.cell 7; simp at r0 r1 r2 r3 r4 r5 r6 r7); clear HBc BCc BDc hbn h'; have HBc := HBn; have BCc := hid bC; have BDc := hid bD; clear HBn bC bD))) | (go_at_call 14; first | ((with_reducible refine (HA2.out _ ?_).mono ?_); exact (by first | exact HBc.out | exact HBc.out.drew); rintro e wn ⟨rfl, hbn⟩; ((first | (have h' := (by with_reducible exact below_undrew hbn)) | (have h' := hbn)); have HBn := hid (belows HBc.out h' HBc.out.size); have bC := BCc.out.below h' BCc.out.sz; have bD := BDc.out.below h' BDc.out.sz; (clear q0 q1 q2 q3 q4 q5 q6 q7 r0 r1 r2 r3 r4 r5 r6 r7); (have q0 := bC.cell 0; have q1 := bC.cell 1; have q2 := bC.cell 2; have q3 := bC.cell 3; have q4 := bC.cell 4; have q5 := bC.cell 5; have q6 := bC.cell 6; have q7 := bC.cell 7; simp at q0 q1 q2 q3 q4 q5 q6 q7; have r0 := bD.cell 0; have r1 := bD.cell 1; have r2 := bD.cell 2; have r3 := bD.cell 3; have r4 := bD.cell 4; have r5 := bD.cell 5; have r6 := bD.cell 6; have r7 := bD.cell 7; simp at r0 r1 r2 r3 r4 r5 r6 r7); clear HBc BCc BDc hbn h'; have HBc := HBn; have BCc := hid bC; have BDc := hid bD; clear HBn bC bD)) | ((with_reducible refine (HA4.out _ _ ?_ ?_).mono ?_); exact (by first | exact HBc.out | exact HBc.out.drew); exact HR5.out; rintro e wn ⟨rfl, hbn⟩; ((first | (have h' := (by with_reducible exact below_undrew hbn)) | (have h' := hbn)); have HBn := hid (belows HBc.out h' HBc.out.size); have bC := BCc.out.below h' BCc.out.sz; have bD := BDc.out.below h' BDc.out.sz; (clear q0 q1 q2 q3 q4 q5 q6 q7 r0 r1 r2 r3 r4 r5 r6 r7); (have q0 := bC.cell 0; have q1 := bC.cell 1; have q2 := bC.cell 2; have q3 := bC.cell 3; have q4 := bC.cell 4; have q5 := bC.cell 5; have q6 := bC.cell 6; have q7 := bC.cell 7; simp at q0 q1 q2 q3 q4 q5 q6 q7; have r0 := bD.cell 0; have r1 := bD.cell 1; have r2 := bD.cell 2; have r3 := bD.cell 3; have r4 := bD.cell 4; have r5 := bD.cell 5; have r6 := bD.cell 6; have r7 := bD.cell 7; simp at r0 r1 r2 r3 r4 r5 r6 r7); clear HBc BCc BDc hbn h'; have HBc := HBn; have BCc := hid bC; have BDc := hid bD; clear HBn bC bD))) | (go_at_call 33; refine (HCl.out _ (by first | exact HBc.out | exact HBc.out.drew)).mono ?_; rintro e wn ⟨vs', rfl, hO, -, hbn⟩; have HR5 := hid (hO.reads HSz.out); clear hO; ((first | (have h' := (by with_reducible exact below_undrew hbn)) | (have h' := hbn)); have HBn := hid (belows HBc.out h' HBc.out.size); have bC := BCc.out.below h' BCc.out.sz; have bD := BDc.out.below h' BDc.out.sz; (clear q0 q1 q2 q3 q4 q5 q6 q7 r0 r1 r2 r3 r4 r5 r6 r7); (have q0 := bC.cell 0; have q1 := bC.cell 1; have q2 := bC.cell 2; have q3 := bC.cell 3; have q4 := bC.cell 4; have q5 := bC.cell 5; have q6 := bC.cell 6; have q7 := bC.cell 7; simp at q0 q1 q2 q3 q4 q5 q6 q7; have r0 := bD.cell 0; have r1 := bD.cell 1; have r2 := bD.cell 2; have r3 := bD.cell 3; have r4 := bD.cell 4; have r5 := bD.cell 5; have r6 := bD.cell 6; have r7 := bD.cell 7; simp at r0 r1 r2 r3 r4 r5 r6 r7); clear HBc BCc BDc hbn h'; have HBc := HBn; have BCc := hid bC; have BDc := hid bD; clear HBn bC bD)))
    all_goals
      go_wp2
      go_ret
      exact ⟨rfl, HBc.out⟩
end Go.Proofs.YtjnjnfhboafcgaaGreatDoor
namespace Go.Proofs.YtjnjnfhboafcgaaGreatDoor
open Go.ChangeShapes Go.WideShapes Go.ChangeAt Go.RowKit Go.WideMaps Go.WideElems

theorem i6_wf {z : Int} (h : (Lit.int .i64 z).wf = true) : L3.I6 z := by
  simp [Lit.wf, IntKind.min, IntKind.max, IntKind.signed, IntKind.bits] at h
  unfold L3.I6
  omega
section
variable {H : Type} {enc : TypeId × Value → H}
theorem weights_allT {P : Program} {e : TypeId} : ∀ {ds : List (DataW H)} {d : DataW H}, d ∈ ds → (DataW.weightsAll P e ds).all (· ≤ reachBytes) = true → (d.weights P e).all (· ≤ reachBytes) = true
  | [], _, h, _ => by cases h
  | x :: r, d, h, hw => by
    simp only [DataW.weightsAll, List.all_append, Bool.and_eq_true] at hw
    rcases List.mem_cons.1 h with rfl | h
    · exact hw.1
    · exact weights_allT h hw.2
theorem bulk_pos (d : DataW H) : 1 ≤ Rows.uptoBulk d := by
  cases d with
  | lit l => cases l <;> simp [Rows.uptoBulk]
  | _ => simp [Rows.uptoBulk]
theorem bulk_len : ∀ l : List (DataW H), l.length ≤ Rows.uptoBulkAll l
  | [] => by simp [Rows.uptoBulkAll]
  | x :: r => by have h1 := bulk_pos x; have h2 := bulk_len r; simp only [Rows.uptoBulkAll, List.length_cons]; omega
theorem bulk_mem : ∀ {l : List (DataW H)} {d : DataW H}, d ∈ l → Rows.uptoBulk d ≤ Rows.uptoBulkAll l
  | [], _, h => by cases h
  | x :: r, d, h => by
    simp only [Rows.uptoBulkAll]
    rcases List.mem_cons.1 h with rfl | h
    · omega
    · have := bulk_mem h; omega
theorem A.cellsInt : Tryz.prog.cellsOf 3 = 1 := by kernel_rfl
theorem A.cellsI64 : Tryz.prog.cellsOf 2 = 1 := by kernel_rfl
theorem A.cellsStr : Tryz.prog.cellsOf 9 = 1 := by kernel_rfl
theorem A.cellsU8 : Tryz.prog.cellsOf 5 = 1 := by kernel_rfl
theorem A.bytesU8 : Tryz.prog.bytesOf 5 = 1 := by kernel_rfl
/-- Bytes in a cell. -/
theorem bs_cell {W : World} {n : Nat} {k : Value} {y : DataW H × List MemPlace} (h : DataW.trod enc Tryz.prog W 0 (fun _ => true) true n 22 [k] = some y) (hw : (y.1.weights Tryz.prog 22).all (· ≤ reachBytes) = true) :
    ∃ bs : List UInt8, L3.Bs W.heap.size W k bs ∧ bs.length ≤ 140737488351232 ∧ bs.length ≤ Rows.uptoBulk y.1 := by
  rcases open_ints Tryz.underlying22 Tryz.underlying5 A.cellsU8 h with ⟨hcs, rfl⟩ | ⟨a, len, cap, zs, hcs, _, hl, hm, hz, rfl, hcell, hwz⟩
  · obtain rfl : k = .slice none 0 0 := by simpa using hcs
    exact ⟨[], ⟨by simp, .inl ⟨rfl, none, 0, rfl⟩⟩, by simp, by simp⟩
  · obtain rfl : k = .slice (some a) len cap := by simpa using hcs
    simp only [if_true] at hz
    simp only [DataW.weights, Tryz.underlying22, List.all_cons, Bool.and_eq_true, decide_eq_true_eq, A.bytesU8, Nat.mul_one] at hw
    have hcap : cap ≤ 140737488351232 := by
      have := hw.1
      simp [lits, reachBytes] at this
      omega
    have hbl : len ≤ Rows.uptoBulk (.slice (lits .u8 (zs.take len)) (lits .u8 (zs.drop len)) : DataW H) := by
      have := bulk_len (lits (H := H) .u8 (zs.take len))
      simp only [Rows.uptoBulk]
      simp [lits] at this ⊢
      omega
    refine ⟨(zs.take len).map fun z => UInt8.ofNat z.toNat, ⟨by simp; omega, ?_⟩, by simp; omega, by simp only [List.length_map, List.length_take]; omega⟩
    have hlen : ((zs.take len).map fun z => UInt8.ofNat z.toNat).length = len := by simp; omega
    by_cases h0 : len = 0
    · exact .inl ⟨by rw [h0]; rfl, some a, cap, by rw [h0]⟩
    · obtain ⟨b, off, rfl, hc⟩ := ints_at hcell (by omega)
      refine .inr ⟨b, off, cap, by rw [hlen], by rw [hlen]; exact hl, ?_, fun i c hi => ?_⟩
      · exact World.block_lt_of_cell? W _ (hc 0 (by omega))
      · have hil : i < len := by
          rw [List.getElem?_eq_some_iff] at hi
          have := hi.1
          omega
        rw [show W.cell? ⟨b, off + i, none⟩ = _ from hc i (by omega)]
        have hzi : zs[i]? = some (zs.getD i 0) := by simp [show i < zs.length by omega]
        have h1 := bounds_u8 (hwz _ (List.mem_of_getElem? hzi))
        rw [List.getElem?_map, List.getElem?_take_of_lt hil, hzi] at hi
        simp only [Option.map_some, Option.some.injEq] at hi
        subst hi
        unfold L3.bv
        rw [UInt8.toNat_ofNat']
        congr 3
        omega
set_option maxRecDepth 100000 in
/-- A list of things of so many cells each, in a cell. -/
theorem list_cell {α : Type} {W : World} {n : Nat} {k : Value} {y : DataW H × List MemPlace} {tS tE : TypeId} {s by_ : Nat} (G : DataW H → List Value → α → Prop) (hG : ∀ d cs x, G d cs x → cs.length = s) (hs : 0 < s)
    (hu : Tryz.prog.underlying tS = some (.slice tE)) (hco : Tryz.prog.cellsOf tE = s) (hby : Tryz.prog.bytesOf tE = by_) (hb0 : 0 < by_)
    (he : ∀ (m : Nat) (cs : List Value) (z : DataW H × List MemPlace), DataW.trod enc Tryz.prog W 0 (fun _ => true) true m tE cs = some z → (z.1.weights Tryz.prog tE).all (· ≤ reachBytes) = true → ∃ x, G z.1 cs x)
    (h : DataW.trod enc Tryz.prog W 0 (fun _ => true) true n tS [k] = some y) (hw : (y.1.weights Tryz.prog tS).all (· ≤ reachBytes) = true) :
    ∃ (xs : List α) (rs : List (List Value)), rs.length = xs.length ∧ (∀ (i : Nat) (r : List Value) (x : α), rs[i]? = some r → xs[i]? = some x → ∃ d, G d r x ∧ Rows.uptoBulk d ≤ Rows.uptoBulk y.1) ∧ Kit.IsS s W k xs.length rs.flatten ∧ xs.length * by_ ≤ 140737488351232 ∧ xs.length ≤ Rows.uptoBulk y.1 := by
  rcases DataW.trod_slice hu h with ⟨hcs, rfl⟩ | ⟨a, len, cap, elems, rest, m, -, hcs, rfl, -, hl, hm, hel, hcells, hsp, -⟩
  · obtain rfl : k = .slice none 0 0 := by simpa using hcs
    exact ⟨[], [], rfl, fun i r x hr => by simp at hr, ⟨by simp, by simp, .inl ⟨rfl, none, 0, rfl⟩⟩, by simp, by simp⟩
  · obtain rfl : k = .slice (some a) len cap := by simpa using hcs
    simp only [DataW.weights, hu, List.all_cons, List.all_append, Bool.and_eq_true, decide_eq_true_eq, hby] at hw
    have hcap : len * by_ ≤ 140737488351232 := by
      have h1 := hw.1
      simp only [List.length_map, reachBytes] at h1
      rw [hel] at h1
      exact Nat.le_trans (Nat.mul_le_mul_right _ (Nat.le_add_right _ _)) h1
    have hbl : len ≤ Rows.uptoBulk (.slice (elems.map (·.1)) (rest.map (·.1)) : DataW H) := by
      have := bulk_len (elems.map (·.1))
      rw [List.length_map, hel] at this
      simp only [Rows.uptoBulk]
      omega
    have each : ∀ i, ∃ q : List Value × Option α, i < len → q.1.length = s ∧ (∀ j, j < s → W.cell? ((a.add (i * s)).add j) = q.1[j]?) ∧ ∃ x d, q.2 = some x ∧ G d q.1 x ∧ Rows.uptoBulk d ≤ Rows.uptoBulk (.slice (elems.map (·.1)) (rest.map (·.1)) : DataW H) := by
      intro i
      by_cases hi : i < len
      · have h1 := hcells i hi
        rw [hco, List.getElem?_eq_getElem (by omega), Option.bind_eq_some_iff] at h1
        obtain ⟨cs, hcs', htr⟩ := h1
        have hmem : elems[i].1 ∈ elems.map (·.1) := List.mem_map_of_mem (List.getElem_mem _)
        obtain ⟨x, hx⟩ := he _ _ _ htr (weights_allT hmem hw.2.1)
        refine ⟨(cs, some x), fun _ => ⟨hG _ _ _ hx, fun j hj => (World.cells?_some hcs').2.2 j hj, x, _, rfl, hx, ?_⟩⟩
        have := bulk_mem hmem
        simp only [Rows.uptoBulk]
        omega
      · exact ⟨([], none), fun h => absurd h hi⟩
    obtain ⟨f, hfx⟩ := Classical.skolem.1 each
    have hxs : ∃ xs : List α, xs.length = len ∧ ∀ i, i < len → xs[i]? = (f i).2 := by
      have : ∀ m, m ≤ len → ∃ xs : List α, xs.length = m ∧ ∀ i, i < m → xs[i]? = (f i).2 := by
        intro m
        induction m with
        | zero => intro _; exact ⟨[], rfl, fun i hi => by omega⟩
        | succ m ih =>
          intro hm
          obtain ⟨xs, h1, h2⟩ := ih (by omega)
          obtain ⟨-, -, x, d, hx, -⟩ := hfx m (by omega)
          refine ⟨xs ++ [x], by simp [h1], fun i hi => ?_⟩
          by_cases e : i < m
          · rw [List.getElem?_append_left (by omega)]; exact h2 i e
          · obtain rfl : i = m := by omega
            rw [List.getElem?_append_right (by omega), h1, Nat.sub_self, hx]
            rfl
      exact this len (Nat.le_refl _)
    obtain ⟨xs, hxl, hxe⟩ := hxs
    have hrl : ∀ r ∈ (List.range len).map (fun i => (f i).1), r.length = s := by
      intro r hr
      obtain ⟨i, hi, rfl⟩ := List.mem_map.1 hr
      exact (hfx i (List.mem_range.1 hi)).1
    have hfl : ∀ (rs : List (List Value)), (∀ r ∈ rs, r.length = s) → rs.flatten.length = rs.length * s ∧ ∀ i r, rs[i]? = some r → ∀ j, j < s → rs.flatten[i * s + j]? = r[j]? := by
      intro rs
      induction rs with
      | nil => intro _; exact ⟨by simp, fun i r hr => by simp at hr⟩
      | cons r0 rs ih =>
        intro hr
        obtain ⟨h1, h2⟩ := ih (fun r h => hr r (List.mem_cons_of_mem _ h))
        have h0 := hr r0 (by simp)
        refine ⟨by rw [List.flatten_cons, List.length_append, h0, h1, List.length_cons, Nat.succ_mul]; omega, fun i r hi j hj => ?_⟩
        match i, hi with
        | 0, hi =>
          simp at hi
          subst hi
          rw [List.flatten_cons, List.getElem?_append_left (by omega)]
          simp
        | i + 1, hi =>
          rw [List.flatten_cons, List.getElem?_append_right (by rw [h0, Nat.succ_mul]; omega), h0, ← h2 i r (by simpa using hi) j hj]
          congr 1
          rw [Nat.succ_mul]
          omega
    obtain ⟨hfl1, hfl2⟩ := hfl _ hrl
    have hrlen : ((List.range len).map (fun i => (f i).1)).length = len := by simp
    refine ⟨xs, (List.range len).map (fun i => (f i).1), by rw [hrlen, hxl], fun i r x hr hx => ?_, ⟨by rw [hfl1, hrlen, hxl], by rw [hxl]; exact Nat.le_trans (Nat.le_trans (Nat.le_mul_of_pos_right _ hb0) hcap) (by decide), ?_⟩, by rw [hxl]; exact hcap, by rw [hxl]; exact hbl⟩
    · have hi : i < len := by
        have := (List.getElem?_eq_some_iff.1 hx).1
        omega
      obtain ⟨-, -, x', d, hx', hg, hb⟩ := hfx i hi
      rw [hxe i hi, hx'] at hx
      cases hx
      rw [List.getElem?_map, List.getElem?_range hi] at hr
      simp only [Option.map_some, Option.some.injEq] at hr
      subst hr
      exact ⟨d, hg, hb⟩
    · by_cases h0 : len = 0
      · exact .inl ⟨by rw [hxl, h0], some a, cap, by rw [h0]⟩
      · obtain ⟨b, o, spot⟩ := a
        have hsp0 : ∃ u, W.cell? (((⟨b, o, spot⟩ : Addr).add (0 * s)).add 0) = some u := by
          obtain ⟨h1, h2, -⟩ := hfx 0 (by omega)
          refine ⟨(f 0).1[0]'(by omega), ?_⟩
          rw [h2 0 hs, List.getElem?_eq_getElem]
        obtain ⟨u0, hsp0⟩ := hsp0
        have hspot : spot = none := by
          have := World.cell?_spot hsp0
          simpa [Addr.add] using this
        subst hspot
        have hat : ∀ i j, ((⟨b, o, none⟩ : Addr).add i).add j = ⟨b, o + (i + j), none⟩ := by
          intro i j
          rw [add_plain, add_plain]; congr 1; omega
        refine .inr ⟨b, o, cap, by rw [hxl], by rw [hxl]; exact hl, ?_, fun i u hi => ?_⟩
        · have := World.block_lt_of_cell? W _ hsp0
          simpa [Addr.add] using this
        · have hil : i < len * s := by
            have := (List.getElem?_eq_some_iff.1 hi).1
            rw [hfl1, hrlen] at this
            exact this
          have hq : i / s < len := Nat.div_lt_of_lt_mul (by rw [Nat.mul_comm]; exact hil)
          have hr : i % s < s := Nat.mod_lt _ hs
          have e : i / s * s + i % s = i := by rw [Nat.mul_comm]; exact Nat.div_add_mod i s
          have hget : ((List.range len).map (fun i => (f i).1))[i / s]? = some (f (i / s)).1 := by rw [List.getElem?_map, List.getElem?_range hq]; rfl
          have h1 := hfl2 (i / s) _ hget (i % s) hr
          rw [e] at h1
          have h2 := (hfx (i / s) hq).2.1 (i % s) hr
          rw [hat, e] at h2
          rw [h2, ← h1]
          exact hi
end
end Go.Proofs.YtjnjnfhboafcgaaGreatDoor
namespace Go.Proofs.YtjnjnfhboafcgaaGreatDoor
open Go.ChangeShapes Go.WideShapes Go.ChangeAt Go.RowKit Go.WideMaps Go.WideElems

set_option maxRecDepth 100000
section
variable {H : Type} {enc : TypeId × Value → H}
theorem rs_map {α : Type} {f : α → List Value} {xs : List α} {rs : List (List Value)} (hl : rs.length = xs.length) (h : ∀ (i : Nat) (r : List Value) (x : α), rs[i]? = some r → xs[i]? = some x → r = f x) : rs.flatten = xs.flatMap f := by
  have e : rs = xs.map f := by
    apply List.ext_getElem?
    intro i
    rw [List.getElem?_map]
    by_cases hi : i < xs.length
    · have h1 : rs[i]? = some rs[i] := List.getElem?_eq_getElem (by omega)
      have h2 : xs[i]? = some xs[i] := List.getElem?_eq_getElem hi
      rw [h1, h2, h i _ _ h1 h2]
      rfl
    · rw [List.getElem?_eq_none (by omega), List.getElem?_eq_none (by omega)]
      rfl
  rw [e, List.flatMap_def]
theorem hn_cells {W : World} {n : Nat} {cs : List Value} {y : DataW H × List MemPlace} (h : DataW.trod enc Tryz.prog W 0 (fun _ => true) true n 58 cs = some y) : ∃ x : Cf.Hn, cs = hL x := by
  obtain ⟨xs, m, -, hy, hl, hlen, hf⟩ := DataW.trod_struct Tryz.underlying58 h
  have hl4 : cs.length = 4 := hl.trans (by kernel_rfl)
  have hx4 : xs.length = 4 := hlen
  match xs, hx4 with
  | [x0, x1, x2, x3], _ =>
  match cs, hl4 with
  | [k0, k1, k2, k3], _ =>
  obtain ⟨a, e0, -, -⟩ := DataW.trod_int Tryz.underlying3 (hf 0 _ rfl)
  obtain ⟨b, e1, -, -⟩ := DataW.trod_int Tryz.underlying3 (hf 1 _ rfl)
  obtain ⟨c, e2, -, -⟩ := DataW.trod_int Tryz.underlying3 (hf 2 _ rfl)
  obtain ⟨d, e3, -, -⟩ := DataW.trod_int Tryz.underlying3 (hf 3 _ rfl)
  have q0 : ([k0, k1, k2, k3].drop 0).take (Tryz.prog.cellsOf 3) = [.int .i64 a] := e0
  have q1 : ([k0, k1, k2, k3].drop 1).take (Tryz.prog.cellsOf 3) = [.int .i64 b] := e1
  have q2 : ([k0, k1, k2, k3].drop 2).take (Tryz.prog.cellsOf 3) = [.int .i64 c] := e2
  have q3 : ([k0, k1, k2, k3].drop 3).take (Tryz.prog.cellsOf 3) = [.int .i64 d] := e3
  rw [A.cellsInt] at q0 q1 q2 q3
  simp only [List.drop_zero, List.take_succ_cons, List.take_zero, List.cons.injEq, and_true, List.drop_succ_cons] at q0 q1 q2 q3
  subst q0 q1 q2 q3
  exact ⟨⟨a, b, c, d⟩, rfl⟩
theorem hs_cell {W : World} {n : Nat} {k : Value} {y : DataW H × List MemPlace} (h : DataW.trod enc Tryz.prog W 0 (fun _ => true) true n 40 [k] = some y) (hw : (y.1.weights Tryz.prog 40).all (· ≤ reachBytes) = true) :
    ∃ hs : List Cf.Hn, Kit.IsS 4 W k hs.length (hs.flatMap hL) ∧ hs.length * 32 ≤ 140737488351232 ∧ hs.length ≤ Rows.uptoBulk y.1 := by
  obtain ⟨xs, rs, h1, h2, h3, h4, h5⟩ := list_cell (s := 4) (by_ := 32) (tE := 58) (fun (_ : DataW H) cs (x : Cf.Hn) => cs = hL x) (fun _ _ x h => by rw [h]; rfl) (by decide) Tryz.underlying40 (by kernel_rfl) (by kernel_rfl) (by decide) (fun m cs z hz _ => hn_cells hz) h hw
  refine ⟨xs, ?_, h4, h5⟩
  rw [← rs_map h1 (fun i r x hr hx => by obtain ⟨d, hd, -⟩ := h2 i r x hr hx; exact hd)]
  exact h3
theorem A.cellsBs : Tryz.prog.cellsOf 22 = 1 := by kernel_rfl
theorem A.cellsHs : Tryz.prog.cellsOf 40 = 1 := by kernel_rfl
/-- What a machine's memory can hold as a member; how great it is. -/
structure GoodM (m : Cf.Mb) (B : Nat) : Prop where
  ac : L3.I6 m.ac
  hs : m.hs.length * 32 ≤ 140737488351232
  cb : m.code.length ≤ B
  hb : m.hs.length ≤ B
theorem mb_cells {W : World} {n : Nat} {cs : List Value} {y : DataW H × List MemPlace} (h : DataW.trod enc Tryz.prog W 0 (fun _ => true) true n 42 cs = some y) (hw : (y.1.weights Tryz.prog 42).all (· ≤ reachBytes) = true) :
    ∃ m : Cf.Mb, MbR W cs m ∧ GoodM m (Rows.uptoBulk y.1) := by
  obtain ⟨xs, m, -, hy, hl, hlen, hf⟩ := DataW.trod_struct Tryz.underlying42 h
  have hl7 : cs.length = 7 := hl.trans (by kernel_rfl)
  have hx7 : xs.length = 7 := hlen
  match xs, hx7 with
  | [x0, x1, x2, x3, x4, x5, x6], _ =>
  match cs, hl7 with
  | [k0, k1, k2, k3, k4, k5, k6], _ =>
  obtain ⟨a, e0, g0, w0⟩ := DataW.trod_int Tryz.underlying3 (hf 0 _ rfl)
  obtain ⟨b, e1, g1, -⟩ := DataW.trod_int Tryz.underlying3 (hf 1 _ rfl)
  obtain ⟨c, e2, g2, -⟩ := DataW.trod_int Tryz.underlying3 (hf 2 _ rfl)
  obtain ⟨d, e3, g3, -⟩ := DataW.trod_int Tryz.underlying3 (hf 3 _ rfl)
  obtain ⟨e, e4, g4, -⟩ := DataW.trod_int Tryz.underlying3 (hf 4 _ rfl)
  have q0 : ([k0, k1, k2, k3, k4, k5, k6].drop 0).take (Tryz.prog.cellsOf 3) = [.int .i64 a] := e0
  have q1 : ([k0, k1, k2, k3, k4, k5, k6].drop 1).take (Tryz.prog.cellsOf 3) = [.int .i64 b] := e1
  have q2 : ([k0, k1, k2, k3, k4, k5, k6].drop 2).take (Tryz.prog.cellsOf 3) = [.int .i64 c] := e2
  have q3 : ([k0, k1, k2, k3, k4, k5, k6].drop 3).take (Tryz.prog.cellsOf 3) = [.int .i64 d] := e3
  have q4 : ([k0, k1, k2, k3, k4, k5, k6].drop 4).take (Tryz.prog.cellsOf 3) = [.int .i64 e] := e4
  have f5 : DataW.trod enc Tryz.prog W 0 (fun _ => true) true m 22 (([k0, k1, k2, k3, k4, k5, k6].drop 5).take (Tryz.prog.cellsOf 22)) = some x5 := hf 5 _ rfl
  have f6 : DataW.trod enc Tryz.prog W 0 (fun _ => true) true m 40 (([k0, k1, k2, k3, k4, k5, k6].drop 6).take (Tryz.prog.cellsOf 40)) = some x6 := hf 6 _ rfl
  rw [A.cellsInt] at q0 q1 q2 q3 q4
  rw [A.cellsBs] at f5
  rw [A.cellsHs] at f6
  simp only [List.drop_zero, List.take_succ_cons, List.take_zero, List.cons.injEq, and_true, List.drop_succ_cons] at q0 q1 q2 q3 q4 f5 f6
  subst q0 q1 q2 q3 q4
  subst hy
  simp only [DataW.weights, Tryz.underlying42, List.map_cons, List.map_nil, DataW.weightsEach, List.all_append, Bool.and_eq_true] at hw
  obtain ⟨bs, hb1, hb2, hb3⟩ := bs_cell f5 (by simp_all)
  obtain ⟨hs, hh1, hh2, hh3⟩ := hs_cell f6 (by simp_all)
  refine ⟨⟨a, b, c, d, e, bs, hs⟩, ⟨k5, k6, rfl, hb1, hh1, by show bs.length ≤ _; omega⟩, ⟨i6_wf w0, hh2, ?_, ?_⟩⟩
  · show bs.length ≤ _
    simp only [Rows.uptoBulk, Rows.uptoBulkAll, List.map_cons, List.map_nil]
    omega
  · show hs.length ≤ _
    simp only [Rows.uptoBulk, Rows.uptoBulkAll, List.map_cons, List.map_nil]
    omega
theorem msC_of {W : World} : ∀ {rs : List (List Value)} {ms : List Cf.Mb}, rs.length = ms.length → (∀ (i : Nat) (r : List Value) (m : Cf.Mb), rs[i]? = some r → ms[i]? = some m → MbR W r m) → MsC W rs ms
  | [], [], _, _ => trivial
  | r :: rs, m :: ms, hl, h => ⟨h 0 r m rfl rfl, msC_of (by simpa using hl) fun i x y hx hy => h (i + 1) x y (by simpa using hx) (by simpa using hy)⟩
  | [], _ :: _, hl, _ => by simp at hl
  | _ :: _, [], hl, _ => by simp at hl
theorem ms_cell {W : World} {n : Nat} {k : Value} {y : DataW H × List MemPlace} (h : DataW.trod enc Tryz.prog W 0 (fun _ => true) true n 24 [k] = some y) (hw : (y.1.weights Tryz.prog 24).all (· ≤ reachBytes) = true) :
    ∃ ms : List Cf.Mb, MsR W k ms ∧ (∀ m ∈ ms, GoodM m (Rows.uptoBulk y.1)) ∧ ms.length * 88 ≤ 140737488351232 ∧ ms.length ≤ Rows.uptoBulk y.1 := by
  obtain ⟨xs, rs, h1, h2, h3, h4, h5⟩ := list_cell (s := 7) (by_ := 88) (tE := 42) (fun (d : DataW H) cs (m : Cf.Mb) => MbR W cs m ∧ GoodM m (Rows.uptoBulk d)) (fun _ _ x h => h.1.len) (by decide) Tryz.underlying24 (by kernel_rfl) (by kernel_rfl) (by decide) (fun m cs z hz hw => mb_cells hz hw) h hw
  refine ⟨xs, ⟨rs, msC_of h1 fun i r x hr hx => ?_, h3⟩, fun m hm => ?_, h4, h5⟩
  · obtain ⟨d, hd, -⟩ := h2 i r x hr hx
    exact hd.1
  · obtain ⟨i, hi⟩ := List.mem_iff_getElem?.1 hm
    have hlt : i < rs.length := by rw [h1]; exact (List.getElem?_eq_some_iff.1 hi).1
    obtain ⟨d, hd, hb⟩ := h2 i _ m (List.getElem?_eq_getElem hlt) hi
    exact ⟨hd.2.ac, hd.2.hs, Nat.le_trans hd.2.cb hb, Nat.le_trans hd.2.hb hb⟩
end
end Go.Proofs.YtjnjnfhboafcgaaGreatDoor
namespace Go.Proofs.YtjnjnfhboafcgaaGreatDoor
open Go.ChangeShapes Go.WideShapes Go.ChangeAt Go.RowKit Go.WideMaps Go.WideElems

set_option maxRecDepth 100000
section
variable {H : Type} {enc : TypeId × Value → H}
/-- What a machine's memory can hold as an entry. -/
structure GoodC (c : L3.Cp.C) : Prop where
  s : c.s.size ≤ 140737488351232
  n : L3.I6 c.n
theorem c_cells {W : World} {n : Nat} {cs : List Value} {y : DataW H × List MemPlace} (h : DataW.trod enc Tryz.prog W 0 (fun _ => true) true n 56 cs = some y) (hw : (y.1.weights Tryz.prog 56).all (· ≤ reachBytes) = true) :
    ∃ c : L3.Cp.C, cs = L3.cL c ∧ GoodC c := by
  obtain ⟨xs, m, -, hy, hl, hlen, hf⟩ := DataW.trod_struct Tryz.underlying56 h
  have hl5 : cs.length = 5 := hl.trans (by kernel_rfl)
  have hx5 : xs.length = 5 := hlen
  match xs, hx5 with
  | [x0, x1, x2, x3, x4], _ =>
  match cs, hl5 with
  | [k0, k1, k2, k3, k4], _ =>
  obtain ⟨t, e0, g0, w0⟩ := DataW.trod_int Tryz.underlying3 (hf 0 _ rfl)
  obtain ⟨s, e1, g1, -⟩ := DataW.trod_string Tryz.underlying9 (hf 1 _ rfl)
  obtain ⟨nn, e2, g2, w2⟩ := DataW.trod_int Tryz.underlying2 (hf 2 _ rfl)
  obtain ⟨a, e3, g3, w3⟩ := DataW.trod_int Tryz.underlying3 (hf 3 _ rfl)
  obtain ⟨b, e4, g4, w4⟩ := DataW.trod_int Tryz.underlying3 (hf 4 _ rfl)
  have q0 : ([k0, k1, k2, k3, k4].drop 0).take (Tryz.prog.cellsOf 3) = [.int .i64 t] := e0
  have q1 : ([k0, k1, k2, k3, k4].drop 1).take (Tryz.prog.cellsOf 9) = [.string s] := e1
  have q2 : ([k0, k1, k2, k3, k4].drop 2).take (Tryz.prog.cellsOf 2) = [.int .i64 nn] := e2
  have q3 : ([k0, k1, k2, k3, k4].drop 3).take (Tryz.prog.cellsOf 3) = [.int .i64 a] := e3
  have q4 : ([k0, k1, k2, k3, k4].drop 4).take (Tryz.prog.cellsOf 3) = [.int .i64 b] := e4
  clear e0 e1 e2 e3 e4 hf
  rw [A.cellsInt] at q0 q3 q4
  rw [A.cellsStr] at q1
  rw [A.cellsI64] at q2
  simp only [List.drop_zero, List.take_succ_cons, List.take_zero, List.cons.injEq, and_true, List.drop_succ_cons] at q0 q1 q2 q3 q4
  subst q0 q1 q2 q3 q4
  subst g0 g1 g2 g3 g4 hy
  refine ⟨⟨t, s, nn, a, b⟩, rfl, ?_, i6_wf w2⟩
  simp [DataW.weights, Tryz.underlying56, DataW.weightsEach, reachBytes] at hw
  exact of_decide_eq_true hw
theorem cs_cell {W : World} {n : Nat} {k : Value} {y : DataW H × List MemPlace} (h : DataW.trod enc Tryz.prog W 0 (fun _ => true) true n 23 [k] = some y) (hw : (y.1.weights Tryz.prog 23).all (· ≤ reachBytes) = true) :
    ∃ l : List L3.Cp.C, Kit.IsS 5 W k l.length (l.flatMap L3.cL) ∧ (∀ c ∈ l, GoodC c) ∧ l.length * 48 ≤ 140737488351232 ∧ l.length ≤ Rows.uptoBulk y.1 := by
  obtain ⟨xs, rs, h1, h2, h3, h4, h5⟩ := list_cell (s := 5) (by_ := 48) (tE := 56) (fun (_ : DataW H) cs (x : L3.Cp.C) => cs = L3.cL x ∧ GoodC x) (fun _ _ x h => by rw [h.1]; rfl) (by decide) Tryz.underlying23 (by kernel_rfl) (by kernel_rfl) (by decide) (fun m cs z hz hw => c_cells hz hw) h hw
  refine ⟨xs, ?_, fun c hc => ?_, h4, h5⟩
  · rw [← rs_map h1 (fun i r x hr hx => by obtain ⟨d, hd, -⟩ := h2 i r x hr hx; exact hd.1)]
    exact h3
  · obtain ⟨i, hi⟩ := List.mem_iff_getElem?.1 hc
    have hlt : i < rs.length := by rw [h1]; exact (List.getElem?_eq_some_iff.1 hi).1
    obtain ⟨d, hd, -⟩ := h2 i _ c (List.getElem?_eq_getElem hlt) hi
    exact hd.2
theorem A.cellsCs : Tryz.prog.cellsOf 23 = 1 := by kernel_rfl
theorem A.cellsMs : Tryz.prog.cellsOf 24 = 1 := by kernel_rfl
/-- What a machine's memory can hold as a class; how great it is. -/
structure GoodCl (c : Cf.Cl) (B : Nat) : Prop where
  ac : L3.I6 c.ac
  pl : c.pool.length * 48 ≤ 140737488351232
  ps : ∀ x ∈ c.pool, GoodC x
  fl : c.fs.length * 88 ≤ 140737488351232
  ml : c.ms.length * 88 ≤ 140737488351232
  fs : ∀ m ∈ c.fs, GoodM m B
  ms : ∀ m ∈ c.ms, GoodM m B
  pB : c.pool.length ≤ B
  fB : c.fs.length ≤ B
  mB : c.ms.length ≤ B
theorem open_class {W : World} {base : Nat} {v : Value} {d : DataW H} {p : List MemPlace} (hv : Value.okWide Tryz.prog W .any base 26 v) (h : DataW.Trod enc Tryz.prog W 0 (fun _ => true) true 26 v d p) (hw : (d.weights Tryz.prog 26).all (· ≤ reachBytes) = true) :
    ∃ (c : Cf.Cl) (vs : Array Value), v = .agg vs ∧ ClR W vs c ∧ GoodCl c (Rows.uptoBulk d) := by
  obtain ⟨cs, rfl, hsz⟩ := okWide_struct Tryz.underlying26 hv
  obtain ⟨fuel, hf0⟩ := h
  obtain ⟨xs, m, -, hy, hl, hlen, hf⟩ := DataW.trod_struct Tryz.underlying26 hf0
  obtain ⟨cs⟩ := cs
  have hl8 : cs.length = 8 := hl.trans (by kernel_rfl)
  have hx8 : xs.length = 8 := hlen
  match xs, hx8 with
  | [x0, x1, x2, x3, x4, x5, x6, x7], _ =>
  match cs, hl8 with
  | [k0, k1, k2, k3, k4, k5, k6, k7], _ =>
  obtain ⟨a0, e0, g0, w0⟩ := DataW.trod_int Tryz.underlying3 (hf 0 _ rfl)
  obtain ⟨a1, e1, g1, w1⟩ := DataW.trod_int Tryz.underlying3 (hf 1 _ rfl)
  obtain ⟨a3, e3, g3, w3⟩ := DataW.trod_int Tryz.underlying3 (hf 3 _ rfl)
  obtain ⟨a4, e4, g4, w4⟩ := DataW.trod_int Tryz.underlying3 (hf 4 _ rfl)
  obtain ⟨a5, e5, g5, w5⟩ := DataW.trod_int Tryz.underlying3 (hf 5 _ rfl)
  have q0 : ([k0, k1, k2, k3, k4, k5, k6, k7].drop 0).take (Tryz.prog.cellsOf 3) = [.int .i64 a0] := e0
  have q1 : ([k0, k1, k2, k3, k4, k5, k6, k7].drop 1).take (Tryz.prog.cellsOf 3) = [.int .i64 a1] := e1
  have q3 : ([k0, k1, k2, k3, k4, k5, k6, k7].drop 3).take (Tryz.prog.cellsOf 3) = [.int .i64 a3] := e3
  have q4 : ([k0, k1, k2, k3, k4, k5, k6, k7].drop 4).take (Tryz.prog.cellsOf 3) = [.int .i64 a4] := e4
  have q5 : ([k0, k1, k2, k3, k4, k5, k6, k7].drop 5).take (Tryz.prog.cellsOf 3) = [.int .i64 a5] := e5
  have f2 : DataW.trod enc Tryz.prog W 0 (fun _ => true) true m 23 (([k0, k1, k2, k3, k4, k5, k6, k7].drop 2).take (Tryz.prog.cellsOf 23)) = some x2 := hf 2 _ rfl
  have f6 : DataW.trod enc Tryz.prog W 0 (fun _ => true) true m 24 (([k0, k1, k2, k3, k4, k5, k6, k7].drop 6).take (Tryz.prog.cellsOf 24)) = some x6 := hf 6 _ rfl
  have f7 : DataW.trod enc Tryz.prog W 0 (fun _ => true) true m 24 (([k0, k1, k2, k3, k4, k5, k6, k7].drop 7).take (Tryz.prog.cellsOf 24)) = some x7 := hf 7 _ rfl
  rw [A.cellsInt] at q0 q1 q3 q4 q5
  rw [A.cellsCs] at f2
  rw [A.cellsMs] at f6 f7
  simp only [List.drop_zero, List.take_succ_cons, List.take_zero, List.cons.injEq, and_true, List.drop_succ_cons] at q0 q1 q3 q4 q5 f2 f6 f7
  subst q0 q1 q3 q4 q5
  obtain ⟨rfl, -⟩ := Prod.mk.inj hy
  simp only [DataW.weights, Tryz.underlying26, List.map_cons, List.map_nil, DataW.weightsEach, List.all_append, Bool.and_eq_true] at hw
  obtain ⟨P, hp1, hp2, hp3, hp4⟩ := cs_cell f2 (by simp_all)
  obtain ⟨fs, hf1, hf2, hf3, hf4⟩ := ms_cell f6 (by simp_all)
  obtain ⟨ms, hm1, hm2, hm3, hm4⟩ := ms_cell f7 (by simp_all)
  have hB : Rows.uptoBulk x2.1 ≤ Rows.uptoBulk (.agg ([x0, x1, x2, x3, x4, x5, x6, x7].map (·.1)) : DataW H) ∧ Rows.uptoBulk x6.1 ≤ Rows.uptoBulk (.agg ([x0, x1, x2, x3, x4, x5, x6, x7].map (·.1)) : DataW H) ∧ Rows.uptoBulk x7.1 ≤ Rows.uptoBulk (.agg ([x0, x1, x2, x3, x4, x5, x6, x7].map (·.1)) : DataW H) := by
    simp only [Rows.uptoBulk, Rows.uptoBulkAll, List.map_cons, List.map_nil]
    omega
  refine ⟨⟨a0, a1, P, a3, a4, a5, fs, ms⟩, _, rfl, ⟨k2, k6, k7, rfl, hp1, hf1, hm1⟩, ⟨i6_wf w3, hp3, hp2, hf3, hm3, fun m hm => ?_, fun m hm => ?_, Nat.le_trans hp4 hB.1, Nat.le_trans hf4 hB.2.1, Nat.le_trans hm4 hB.2.2⟩⟩
  · have g := hf2 m hm
    exact ⟨g.ac, g.hs, Nat.le_trans g.cb hB.2.1, Nat.le_trans g.hb hB.2.1⟩
  · have g := hm2 m hm
    exact ⟨g.ac, g.hs, Nat.le_trans g.cb hB.2.2, Nat.le_trans g.hb hB.2.2⟩
end
end Go.Proofs.YtjnjnfhboafcgaaGreatDoor
namespace Go.Proofs.YtjnjnfhboafcgaaGreatDoor.lawSame
open Go.ChangeShapes Go.WideShapes Go.ChangeAt Go.RowKit Go.WideMaps Go.WideElems
open Go.ChangeMaps (setBlock shut_map_nil open_string shut_string keptBut_setBlock frozen?_setBlock heap_setBlock_same)

set_option maxRecDepth 100000 in
theorem contract (H : Type) (enc : TypeId × Value → H) (W : World) (base : Nat) (args : Array Value) (ds gs : List (DataW H)) (before : List MemPlace)
    (hval : ∀ (j : Nat) t v, Tryz.f7.params[j]? = some t → args[j]? = some v → Value.okWide Tryz.prog W .any base t v)
    (hW : DataW.Whole enc Tryz.prog Tryz.f7.params.toList Rows.classfileSameSpec.vars false W args.toList ds gs before)
    (hsz : (DataW.weightsEach Tryz.prog (Tryz.f7.params.toList ++ (OpenSpec.ofChange Rows.classfileSameSpec).bare.plain.varTypes Tryz.prog) (ds ++ gs)).all (· ≤ reachBytes) = true)
    (hL : laidMetH Tryz.prog Rows.classfileSameRow.laid W) :
    Calls Tryz.prog 7 args W fun e W' => ∃ v, e = .returned v ∧ Rows.classfileSameSpec.post enc Tryz.prog Tryz.f7 false true false false W args v W' := by
  have hW' := hW
  obtain ⟨p, q, hA0, hV, rfl, hfz, hnd⟩ := hW
  have hA : DataW.TrodAll enc Tryz.prog W 0 (fun _ => true) true Tryz.f7.params.toList args.toList ds p := hA0
  rw [Tryz.params7] at hA hval hsz
  obtain ⟨v0, vs0, d0, ds0, p0, q0, hargs, rfl, rfl, h0, r0⟩ := trodAll_cons hA
  obtain ⟨v1, vs1, d1, ds1, p1, q1, rfl, rfl, rfl, h1, r1⟩ := trodAll_cons r0
  obtain ⟨rfl, rfl, rfl⟩ := trodAll_nil r1
  obtain rfl : args = #[v0, v1] := by cases args; simp_all
  obtain ⟨rfl, rfl⟩ := trodVars_none hV
  obtain ⟨x0, y0, rfl, wx0, wg0⟩ := open_class (hval 0 26 v0 rfl rfl) h0 (weights_eachT (j := 0) (t := 26) (d := d0) rfl rfl hsz)
  obtain ⟨x1, y1, rfl, wx1, wg1⟩ := open_class (hval 1 26 v1 rfl rfl) h1 (weights_eachT (j := 1) (t := 26) (d := d1) rfl rfl hsz)
  refine (same_law x0 x1 _ _ W (tabs1_of_laid hL) (tabs3_of_laid hL) wx0 wx1 (by refine ⟨?_, ?_, ?_, fun m hm => ?_, fun m hm => ?_⟩; (have := wg0.pl; omega); (have := wg0.fl; omega); (have := wg0.ml; omega); (have := (wg0.fs m hm).hs; omega); (have := (wg0.ms m hm).hs; omega))).mono fun e W' ⟨he, hb⟩ => ?_
  subst he
  exact ⟨_, rfl, Kit.law_post rfl rfl Tryz.underlying4 (by kernel_rfl) (by decide +kernel) hW' rfl hb⟩

theorem reads (os : Os) {H : Type} (enc : TypeId × Value → H) : ∃ places, DataW.whole enc Tryz.prog ((laidWorld os).forCall (fun _ _ => 0) ⟨#[], #[.agg #[.int .i64 0, .int .i64 0, .slice none 0 0, .int .i64 0, .int .i64 0, .int .i64 0, .slice none 0 0, .slice none 0 0], .agg #[.int .i64 0, .int .i64 0, .slice none 0 0, .int .i64 0, .int .i64 0, .int .i64 0, .slice none 0 0, .slice none 0 0]], []⟩).memory Tryz.f7.params.toList Rows.classfileSameSpec.vars false (#[.agg #[.int .i64 0, .int .i64 0, .slice none 0 0, .int .i64 0, .int .i64 0, .int .i64 0, .slice none 0 0, .slice none 0 0], .agg #[.int .i64 0, .int .i64 0, .slice none 0 0, .int .i64 0, .int .i64 0, .int .i64 0, .slice none 0 0, .slice none 0 0]] : Array Value).toList 8 = some ([.agg [.lit (.int .i64 0), .lit (.int .i64 0), .nil, .lit (.int .i64 0), .lit (.int .i64 0), .lit (.int .i64 0), .nil, .nil], .agg [.lit (.int .i64 0), .lit (.int .i64 0), .nil, .lit (.int .i64 0), .lit (.int .i64 0), .lit (.int .i64 0), .nil, .nil]], [], places) :=
  ⟨[], by kernel_rfl⟩
theorem laid_met (os : Os) : laidMet Tryz.prog Rows.classfileSameRow.laid ((laidWorld os).forCall (fun _ _ => 0) ⟨#[], #[.agg #[.int .i64 0, .int .i64 0, .slice none 0 0, .int .i64 0, .int .i64 0, .int .i64 0, .slice none 0 0, .slice none 0 0], .agg #[.int .i64 0, .int .i64 0, .slice none 0 0, .int .i64 0, .int .i64 0, .int .i64 0, .slice none 0 0, .slice none 0 0]], []⟩).memory :=
  laidMet_of_run' 8 (by kernel_rfl) (by kernel_rfl)
set_option maxRecDepth 100000 in
theorem lifted (os : Os) (started : os.Started) (H : Type) (enc : TypeId × Value → H) (F : Stop.Interp) :
    ReturnsInHanded {} Tryz.checked os 7 .any ((OpenSpec.ofChange Rows.classfileSameSpec).preRow enc Tryz.prog Tryz.f7 Rows.classfileSameRow.domain false Rows.classfileSameRow.laid) (((OpenSpec.ofChange Rows.classfileSameSpec).at F).post enc Tryz.prog Tryz.f7 false true false false) := by
  obtain ⟨places, hx⟩ := reads os enc
  refine returnsInHanded_of_row (C := Tryz.checked) (s := (OpenSpec.ofChange Rows.classfileSameSpec)) own started (by kernel_rfl) Tryz.func7
    (witness_row_at (enc := enc) (C := Tryz.checked) false (laidWorld os) #[.agg #[.int .i64 0, .int .i64 0, .slice none 0 0, .int .i64 0, .int .i64 0, .int .i64 0, .slice none 0 0, .slice none 0 0], .agg #[.int .i64 0, .int .i64 0, .slice none 0 0, .int .i64 0, .int .i64 0, .int .i64 0, .slice none 0 0, .slice none 0 0]] rfl (by kernel_rfl) (by kernel_rfl) (by kernel_rfl)
      (OpenSpec.preRow_of_cond 8 hx (by kernel_rfl) (fun k hk => by cases hk) (by kernel_rfl) (laid_met os))) ?_
  intro W base args ds gs before hval hW _ _ hsz hL _ _
  exact contract H enc W base args ds gs before hval hW hsz hL
theorem said : Rows.ClassfileSameSaid :=
  OpenClaim.holds_of_cond 7 Tryz.f7 rfl rfl rfl rfl rfl rfl rfl ⟨rfl, rfl, rfl, rfl, rfl⟩ rfl rfl rfl rfl rfl (by kernel_rfl) Tryz.func7 (by kernel_rfl)
    (of_decide_eq_true (by kernel_rfl)) (by unfold Func.isWrapper; first | (rw [if_pos (by decide +kernel)]; kernel_rfl) | (rw [if_neg (by decide +kernel)]; exact ⟨rfl, rfl⟩))
    (fun os started H enc _ F => by rw [OpenClaim.pre_eq_preRow]; exact lifted os started H enc F)
theorem plain (f : FuncId) (fn : Func) (hf : Tryz.pinned.checked.prog.funcNamed "tabard/tabardlaw04.ClassfileSame" = some f) (hfn : Tryz.pinned.checked.prog.funcs[f]? = some fn) :
    true = Tryz.pinned.checked.prog.looks [] ∧ ∀ (j : Nat) t, fn.params[j]? = some t → Tryz.pinned.checked.prog.wantsStandIn t = false := by
  obtain rfl : f = 7 := Option.some.inj ((show Tryz.prog.funcNamed "tabard/tabardlaw04.ClassfileSame" = some 7 by kernel_rfl).symm.trans hf) |>.symm
  obtain rfl : fn = Tryz.f7 := (Option.some.inj (Tryz.func7.symm.trans hfn)).symm
  refine ⟨by kernel_rfl, fun j t ht => ?_⟩
  rw [Tryz.params7] at ht
  have hm := Array.mem_of_getElem? ht
  exact (show ∀ t ∈ #[26, 26], Tryz.prog.wantsStandIn t = false by decide +kernel) t hm
/-- THE CARD. -/
theorem card : Rows.ClassfileSameCardSaid :=
  Claim7.holds_tied_plain_at .later [] _ _ _ _ said (fun _ h => by cases h) (by kernel_rfl) (fun _ h => by cases h) classfileSame_row_tie rfl ⟨rfl, rfl⟩ (by kernel_rfl) rfl plain (by kernel_rfl)
end Go.Proofs.YtjnjnfhboafcgaaGreatDoor.lawSame

/- Own texts for the claim, part 8. -/
import Derived.Test.YtehjindeggmfpaaGreatDoorZ7
namespace Go.Proofs.YtehjindeggmfpaaGreatDoor.L3
open Go.RowKit

attribute [local go_sem] Oper.semAt_some

/-- A slice of no elements at the head of a new row. -/
theorem owns_empty {w : World} {base : Nat} {e : TypeId} {size : Nat} (hB : base ≤ w.heap.size) : (w.alloc (.cells #[] e)).ownsRow base e size (.slice (some ⟨w.heap.size, 0, none⟩) 0 0) 0 [] :=
  ⟨by simp, .inr ⟨w.heap.size, 0, #[], rfl, hB, heap_alloc_last w _, by omega, by unfold maxLen; omega, by simp, by simp⟩⟩
def ClonePost (l : List Cp.C) (w : World) (en : Ending) (w' : World) : Prop := ∃ v, en = .returned v ∧ OwnC w' w.heap.size v l ∧ Below w.heap.size w w'
set_option maxRecDepth 100000 in
set_option maxHeartbeats 400000 in
theorem cclone_some (l : List Cp.C) (ad : Addr) (cap : Nat) (w : World) (hn : l.length * 48 ≤ 140737488355328) (hc : ∀ j u, (l.flatMap cL)[j]? = some u → w.cell? (ad.add j) = some u) : Calls Tryz.prog 76 #[.slice (some ad) l.length cap] w (ClonePost l w) := by
  obtain ⟨i0, hi, hz0, hz1, hz2⟩ := info_parts infoC
  have hnil := fun (W : World) (a : Option Addr) (n c : Nat) => Lib.run_eql_slice_nil (P := Tryz.prog) W 23 56 a n c 0 0 Tryz.underlying23
  have hlt : ∀ j u, (l.flatMap cL)[j]? = some u → (w.alloc (.cells #[] 56)).cell? (ad.add j) = some u := fun j u h => by
    have h2 := hc j u h
    rw [World.cell?_alloc_lt _ _ _ (World.block_lt_of_cell? w _ h2)]
    exact h2
  have HL := hid hlt
  have hlen : (l.flatMap cL).length = l.length * 5 := Kit.flat_len cL_len l
  have HLen := hid hlen
  have h1c : ∀ u ∈ l.flatMap cL, u.oneCell' = true := by
    intro u hu
    rw [List.mem_flatMap] at hu
    obtain ⟨b, -, hb⟩ := hu
    exact ones_c b u hb
  have H1 := hid h1c
  clear hc hlt hlen h1c
  go_enter Tryz.func76, Tryz.ntmps76
  go_wp2_with (at_builtin; go_loud (refine wpList_append_own _ rfl (.tmp 5) (.tmp 6) 23 rfl w.heap.size 56 i0 _ 5 48 Tryz.underlying23 hi hz0 hz1 hz2 rfl (by decide) _ 0 [] rfl (owns_empty (Nat.le_refl _)) ad l.length cap (l.flatMap cL) rfl HLen.out HL.out H1.out (by unfold maxLen; omega) (by omega) (by simp) ?_); intro v1 w1 hown1 hgrow1 _)
  go_ret
  refine ⟨_, rfl, by unfold OwnC; simpa using hown1, Kit.below_grown (by repeat' first | with_reducible exact Below.refl _ _ | with_reducible assumption | with_reducible refine belows_drewN ?_ _ | with_reducible refine Below.drew ?_ | with_reducible refine Below.setCell ?_ ?_ _ | with_reducible refine Below.alloc ?_ ?_ _ | omega | (simp; done) | (simp; omega)) hgrow1 (by simp) (fun k hk => ?_)⟩
  have : some w.heap.size = some k := hk
  exact Nat.le_of_eq (Option.some.inj this)
theorem cclone_nil (c : Nat) (w : World) : Calls Tryz.prog 76 #[.slice none 0 c] w (ClonePost [] w) := by
  have hnil := fun (W : World) (a : Option Addr) (n c : Nat) => Lib.run_eql_slice_nil (P := Tryz.prog) W 23 56 a n c 0 0 Tryz.underlying23
  go_enter Tryz.func76, Tryz.ntmps76
  go_wp2
  go_ret
  exact ⟨_, rfl, ⟨rfl, .inl ⟨rfl, rfl⟩⟩, (by repeat' first | with_reducible exact Below.refl _ _ | with_reducible assumption | with_reducible refine belows_drewN ?_ _ | with_reducible refine Below.drew ?_ | with_reducible refine Below.setCell ?_ ?_ _ | with_reducible refine Below.alloc ?_ ?_ _ | omega | (simp; done) | (simp; omega))⟩
theorem cclone_any (l : List Cp.C) (v : Value) (w : World) (hl : Kit.IsS 5 w v l.length (l.flatMap cL)) (hn : l.length * 48 ≤ 140737488355328) : Calls Tryz.prog 76 #[v] w (ClonePost l w) := by
  rcases hl.2.2 with ⟨h0, a, cap, rfl⟩ | ⟨b, o, cap, rfl, hl, hlt, hc⟩
  · obtain rfl := List.length_eq_zero_iff.1 h0
    cases a with
    | none => exact cclone_nil cap w
    | some ad => exact cclone_some [] ad cap w (by simp) (fun j u h => by simp at h)
  · exact cclone_some l ⟨b, o, none⟩ cap w hn (fun j u h => by rw [Go.WideShapes.add_plain]; exact hc j u h)
/-- The blocks from lo on, ahead of hi, stay as they are. -/
def Kp (lo hi : Nat) (A B : World) : Prop := A.heap.size ≤ B.heap.size ∧ ∀ k, lo ≤ k → k < hi → B.heap[k]? = A.heap[k]?
theorem Kp.refl (lo hi : Nat) (A : World) : Kp lo hi A A := ⟨Nat.le_refl _, fun _ _ _ => rfl⟩
theorem Kp.trans {lo hi : Nat} {A B C : World} (h : Kp lo hi A B) (k : Kp lo hi B C) : Kp lo hi A C := ⟨Nat.le_trans h.1 k.1, fun i h1 h2 => (k.2 i h1 h2).trans (h.2 i h1 h2)⟩
theorem Kp.below {lo hi n : Nat} {A B C : World} (h : Kp lo hi A B) (hb : Below n B C) (hn : hi ≤ n) : Kp lo hi A C := h.trans ⟨hb.size, fun i _ h2 => hb.block i (by omega)⟩
theorem Kp.grown {lo hi : Nat} {A B C : World} {row : Option Nat} (h : Kp lo hi A B) (hg : B.grownBy C row) (hh : hi ≤ B.heap.size) (hr : ∀ k, row = some k → k < lo ∨ hi ≤ k) : Kp lo hi A C :=
  h.trans ⟨hg.size, fun i h1 h2 => hg.block i (by omega) (fun e => by have := hr i e.symm; omega)⟩
theorem Kp.putObj {lo hi : Nat} {w : World} (hn : hi ≤ w.heap.size) (W : World) (l : Nat) (o o' : Obj) (hl : w.heap.size ≤ l) (h : W.heap[l]? = some o) (_ : o.isCells = false) (_ : o.isWalk = false) : Kp lo hi W (W.putObj l o') :=
  (Kp.refl lo hi W).grown (grownBy_putObj' W l o') (by have := (Array.getElem?_eq_some_iff.1 h).1; omega) (fun k e => by cases e; omega)
/-- What All leaves: a function value over a box that holds a copy. -/
def AllPost (l : List Cp.C) (w : World) (e : Ending) (w' : World) : Prop :=
  ∃ v, e = .returned (.func (.func 143) #[] #[.pointer (some ⟨w.heap.size, 0, none⟩)]) ∧ (∀ X, Kp w.heap.size w'.heap.size w' X → Kit.IsS 5 X v l.length (l.flatMap cL) ∧ X.cell? ⟨w.heap.size, 0, none⟩ = some v) ∧ Below w.heap.size w w' ∧ w.heap.size < w'.heap.size
theorem owns_at {w w' : World} {base : Nat} {e : TypeId} {size : Nat} {v : Value} {n : Nat} {xs : List Value} (h : w.ownsRow base e size v n xs) (hk : ∀ k, base ≤ k → k < w.heap.size → w'.heap[k]? = w.heap[k]?) : w'.ownsRow base e size v n xs := by
  refine ⟨h.1, ?_⟩
  rcases h.2 with h2 | ⟨g, cap, cur, hv, hg, hh, k⟩
  · exact .inl h2
  · exact .inr ⟨g, cap, cur, hv, hg, (hk g hg (Array.getElem?_eq_some_iff.1 hh).1).trans hh, k⟩
set_option maxRecDepth 100000 in
theorem all_any (l : List Cp.C) (v : Value) (w : World) (hl : Kit.IsS 5 w v l.length (l.flatMap cL)) (hn : l.length * 48 ≤ 140737488355328) : Calls Tryz.prog 87 #[v] w (AllPost l w) := by
  have HB := hid (fun X (h : Below w.heap.size w X) => hl.below h (Nat.le_refl _))
  obtain ⟨a, cap, hv⟩ := hl.len
  subst hv
  clear hl
  go_enter Tryz.func87, Tryz.ntmps87
  go_wp2_with (go_at_call 76; refine (cclone_any l _ _ (HB.out _ (by repeat' first | with_reducible exact Below.refl _ _ | with_reducible assumption | with_reducible refine belows_drewN ?_ _ | with_reducible refine Below.drew ?_ | with_reducible refine Below.setCell ?_ ?_ _ | with_reducible refine Below.alloc ?_ ?_ _ | omega | (simp; done) | (simp; omega))) hn).mono ?_; rintro e w1 ⟨v1, rfl, o1, hb1⟩; obtain ⟨a1, cap1, hv1⟩ := (Kit.isS_of_owns o1 (by omega)).len; subst hv1; obtain ⟨hcc, hff⟩ := bcell hb1; have hz1 := hb1.size; simp only [World.size_alloc] at hz1)
  go_ret
  have hbox : Boxed w1 w.heap.size 23 (.slice a l.length cap) := (hb1.block w.heap.size (by simp)).trans (Boxed.new w _ _)
  have hb2 := (belows (a := w) (B := w.heap.size) (b := w.alloc (.cells #[.slice a l.length cap] 23)) (by repeat' first | with_reducible exact Below.refl _ _ | with_reducible assumption | with_reducible refine belows_drewN ?_ _ | with_reducible refine Below.drew ?_ | with_reducible refine Below.setCell ?_ ?_ _ | with_reducible refine Below.alloc ?_ ?_ _ | omega | (simp; done) | (simp; omega)) hb1 (by simp)).setCell (p := ⟨w.heap.size, 0, none⟩) (Nat.le_refl _) (.slice a1 l.length cap1)
  have hbx2 := hbox.set (.slice a1 l.length cap1)
  have o2 : OwnC (w1.setCell ⟨w.heap.size, 0, none⟩ (.slice a1 l.length cap1)) (w.heap.size + 1) (.slice a1 l.length cap1) l := owns_at (by have h9 := o1; unfold OwnC at h9; simpa using h9) (fun k h1 _ => Below.heap_setCell _ _ _ k (fun e => by have : k = w.heap.size := e; omega))
  have hsz : (w1.setCell ⟨w.heap.size, 0, none⟩ (.slice a1 l.length cap1)).heap.size = w1.heap.size := by simp
  refine ⟨_, rfl, fun X hX => ⟨Kit.isS_of_owns (owns_at o2 fun k h1 h2 => hX.2 k (by omega) h2) (by omega), ?_⟩, hb2, by omega⟩
  have h3 := hX.2 w.heap.size (Nat.le_refl _) (by omega)
  have h4 : Boxed X w.heap.size 23 (.slice a1 l.length cap1) := h3.trans hbx2
  exact h4.cell
/-- An entry that is told, and its index. -/
abbrev Tx (l : List Cp.C) := { x : Nat × Cp.C // l[x.1]? = some x.2 ∧ x.2.t ≠ 0 }
/-- What is told of the first so many entries. -/
def told (l : List Cp.C) : Nat → List (Tx l)
  | 0 => []
  | k + 1 => told l k ++ (match h : l[k]? with | some c => if hc : c.t = 0 then [] else [⟨(k, c), h, hc⟩] | none => [])
theorem told_yes {l : List Cp.C} {k : Nat} {c : Cp.C} (h : l[k]? = some c) (hc : c.t ≠ 0) : told l (k + 1) = told l k ++ [⟨(k, c), h, hc⟩] := by
  show told l k ++ _ = _
  congr 1
  split
  · rename_i d hd
    obtain rfl := Option.some.inj (hd.symm.trans h)
    rw [dif_neg hc]
  · rename_i hd
    rw [hd] at h
    cases h
theorem told_no {l : List Cp.C} {k : Nat} {c : Cp.C} (h : l[k]? = some c) (hc : c.t = 0) : told l (k + 1) = told l k := by
  show told l k ++ _ = _
  split
  · rename_i d hd
    obtain rfl := Option.some.inj (hd.symm.trans h)
    rw [dif_pos hc, List.append_nil]
  · rw [List.append_nil]
theorem told_len (l : List Cp.C) : ∀ k, (told l k).length ≤ k
  | 0 => Nat.le_refl _
  | k + 1 => by
    show (told l k ++ _).length ≤ _
    have := told_len l k
    rw [List.length_append]
    split
    · split <;> simp <;> omega
    · simp; omega
def entE {l : List Cp.C} (x : Tx l) : Array Value := #[.int .i64 (x.1.1 : Int), .agg (cC x.1.2)]
theorem abides_new {β : Type} {B : Nat} {J : β → World → Prop} (h : AbidesFrom B J) {s : β} {W W' : World} (hs : J s W) (hb : Below W.heap.size W W') : J s W' :=
  h s W W' none hs ⟨hb.os, hb.tape, hb.output, hb.size, fun i hi _ => hb.block i hi⟩ (fun r e => by cases e)
set_option maxRecDepth 100000 in
set_option maxHeartbeats 2000000 in
theorem all1_stops (l : List Cp.C) (v : Value) (lo Bs n : Nat) (w : World) (hn : 1 ≤ n) (hb : ∀ X, Kp lo w.heap.size w X → Kit.IsS 5 X v l.length (l.flatMap cL) ∧ X.cell? ⟨Bs, 0, none⟩ = some v) :
    SeqStopsK Fence.wide n Tryz.prog 143 #[.pointer (some ⟨Bs, 0, none⟩)] entE (Kp lo w.heap.size) (fun ys => ys = told l l.length) (fun ys => ∃ k, k ≤ l.length ∧ ys = told l k) l.length w := fun D J Jx W hW hJ _ hY h0 => by
  have HB := hid hb
  obtain ⟨a, cap, hv⟩ := (hb w (Kp.refl _ _ _)).1.len
  subst hv
  have hlen := (hb w (Kp.refl _ _ _)).1.2.1
  have hKW : Kp lo w.heap.size w W := (Kp.refl _ _ _).below hW (Nat.le_refl _)
  have hcW := (hb W hKW).2
  clear hb
  refine callsIn_of_wp Tryz.func143 rfl trivial ?_ rfl
  simp only [Tryz.ntmps143, List.size_toArray, List.length_cons, List.length_nil, Nat.reduceAdd, Nat.reduceSub, Array.replicate_succ, Array.replicate_zero, List.push_toArray, List.append_toArray, List.nil_append, List.cons_append]
  gi_wp2
  gi_loopw [7] (fun i wr => ∃ k : Nat, k ≤ l.length ∧ i = .int .i64 k ∧ J (told l k) wr ∧ W.heap.size ≤ wr.heap.size ∧ Kp lo w.heap.size w wr) (fun i _ => l.length - (intOf i).toNat)
  case atStart => exact ⟨0, by omega, rfl, h0, Nat.le_refl _, hKW⟩
  case round =>
    obtain ⟨k, hk, rfl, hJs, hzW, hbl⟩ := hrel
    have hzr := hbl.1
    by_cases hlt : k < l.length
    · obtain ⟨⟨ct, cs, cn, ca, cb⟩, hx⟩ : ∃ x, l[k]? = some x := ⟨l[k], List.getElem?_eq_getElem hlt⟩
      obtain ⟨b, o, cap', hv, hbb, c0, c1, c2, c3, c4⟩ := c_at (HB.out wr hbl).1 hx
      obtain ⟨rfl, -, rfl⟩ := Value.slice.inj hv
      dsimp only at c0 c1 c2 c3 c4
      have hki : (k : Int) < (l.length : Int) := by omega
      by_cases ht : ct = 0
      · have HT := hid (told_no hx ht)
        have hb1 : (ct != 0) = false := by simpa using ht
        have HJ := hid (fun X (h : Below wr.heap.size wr X) => abides_new hJ hJs h)
        clear hx hv ht
        gi_wp2
        refine ⟨fun _ h => (by cases h), ?_⟩
        gi_wp2
        go_roundw
        case rel => exact ⟨k + 1, by omega, by go_num, by rw [HT.out]; exact HJ.out _ (by repeat' first | with_reducible exact Below.refl _ _ | with_reducible assumption | with_reducible refine belows_drewN ?_ _ | with_reducible refine Below.drew ?_ | with_reducible refine Below.setCell ?_ ?_ _ | with_reducible refine Below.alloc ?_ ?_ _ | omega | (simp; done) | (simp; omega)), by simp only [World.size_alloc]; omega, hbl.below ((Below.refl wr.heap.size wr).alloc (Nat.le_refl _) _) hzr⟩
        case measure => simp [intOf]; omega
      · have HT := hid (told_yes hx ht)
        have hb1 : (ct != 0) = true := by simpa using ht
        have hln : (told l k).length < l.length := by have := told_len l k; omega
        have HY := hid (fun X (h : Below wr.heap.size wr X) => hY (told l k) ⟨(k, ⟨ct, cs, cn, ca, cb⟩), hx, ht⟩ X (abides_new hJ hJs h) hln)
        clear hv
        obtain ⟨fn, tmps, assign, body, hy, hR⟩ := HY.out (wr.alloc (.cells #[.int .i64 ct, .string cs, .int .i64 cn, .int .i64 ca, .int .i64 cb] 56)) (by repeat' first | with_reducible exact Below.refl _ _ | with_reducible assumption | with_reducible refine belows_drewN ?_ _ | with_reducible refine Below.drew ?_ | with_reducible refine Below.setCell ?_ ?_ _ | with_reducible refine Below.alloc ?_ ?_ _ | omega | (simp; done) | (simp; omega))
        unfold entE cC at hy
        dsimp only at hy
        gi_wp2
        refine hR.mono ?_
        rintro e W3 (⟨rfl, hJ3, hk3⟩ | ⟨rfl, hJx3⟩)
        · gi_wp2
          go_roundw
          case rel => exact ⟨k + 1, by omega, by go_num, by rw [HT.out]; exact hJ3, (by have := hk3.1; simp only [World.size_alloc] at this; omega), (hbl.below ((Below.refl wr.heap.size wr).alloc (Nat.le_refl _) _) hzr).trans hk3⟩
          case measure => simp [intOf]; omega
        · gi_wp2
          refine bodyPost_ret (results_none rfl _ _ _) rfl ?_
          exact ⟨⟨_, rfl⟩, .inr ⟨_, ⟨k + 1, by omega, HT.out.symm⟩, hJx3⟩⟩
    · obtain rfl : k = l.length := by omega
      gi_wp2
      refine bodyPost_end (results_none rfl _ _ _) rfl ?_
      exact ⟨⟨_, rfl⟩, .inl ⟨_, rfl, hJs⟩⟩
end Go.Proofs.YtehjindeggmfpaaGreatDoor.L3
namespace Go.Proofs.YtehjindeggmfpaaGreatDoor.L3
open Go.RowKit

attribute [local go_sem] Oper.semAt_some

/-- The bytes of entries that are told. -/
def encT {l : List Cp.C} (ys : List (Tx l)) : List Int := ys.flatMap fun x => encE x.1.2
theorem encT_snoc {l : List Cp.C} (ys : List (Tx l)) (x : Tx l) : encT (ys ++ [x]) = encT ys ++ encE x.1.2 := by
  unfold encT
  rw [List.flatMap_append]
  simp
/-- A pool's bytes. -/
def putB (l : List Cp.C) : List Int := bytesN l.length 2 ++ encT (told l l.length)
theorem encE_len (c : Cp.C) (h : c.s.size ≤ 255) : (encE c).length ≤ 300 := by
  unfold encE
  have := wd_le c.t
  simp only [List.length_cons, List.length_append, List.length_map, bytesN_len, bl_len]
  omega
theorem ck_size {l : List Cp.C} (h : CkIs l 0) : l.length ≤ 4096 ∧ ∀ (x : Tx l), ceOut x.1.2 = 0 := by
  rcases h with ⟨-, h⟩ | ⟨h1, ⟨-, h⟩ | ⟨-, -, -, h, -⟩⟩
  · omega
  · refine ⟨h1, fun x => ?_⟩
    obtain ⟨⟨k, c⟩, hx, ht⟩ := x
    dsimp only at hx ht ⊢
    have hk : k < l.length := by rw [List.getElem?_eq_some_iff] at hx; exact hx.1
    have h2 := h k hk
    unfold errAt at h2
    rw [hx] at h2
    dsimp only at h2
    by_cases hp : prevB l k = true
    · rw [if_pos hp] at h2
      by_cases hc : c = Cp.C0
      · rw [hc] at ht
        exact absurd rfl ht
      · rw [if_neg hc] at h2
        omega
    · rw [if_neg hp] at h2
      by_cases hl : c.t = 5 ∧ k = l.length - 1
      · rw [if_pos hl] at h2
        omega
      · rw [if_neg hl] at h2
        exact h2
  · exact absurd rfl h
theorem ce_size {c : Cp.C} (h : ceOut c = 0) : Cp.knownB c.t = true ∧ cutW c (Cp.wd c.t) = c ∧ c.s.size ≤ 255 ∧ Cp.plainB (Cp.bl c.s) = true := by
  unfold ceOut at h
  by_cases h1 : Cp.knownB c.t = false ∨ cutW c (Cp.wd c.t) ≠ c
  · rw [if_pos h1] at h
    omega
  · rw [if_neg h1] at h
    by_cases h2 : 255 < c.s.size ∨ Cp.plainB (Cp.bl c.s) = false
    · rw [if_pos h2] at h
      omega
    · refine ⟨?_, ?_, ?_, ?_⟩
      · cases h3 : Cp.knownB c.t
        · exact absurd (.inl h3) h1
        · rfl
      · exact Decidable.of_not_not fun h3 => h1 (.inr h3)
      · exact Nat.le_of_not_lt fun h3 => h2 (.inl h3)
      · cases h3 : Cp.plainB (Cp.bl c.s)
        · exact absurd (.inr h3) h2
        · rfl
theorem encT_len {l : List Cp.C} (h : ∀ (x : Tx l), ceOut x.1.2 = 0) : ∀ ys : List (Tx l), (encT ys).length ≤ 300 * ys.length
  | [] => by simp [encT]
  | x :: ys => by
    have h1 := encT_len h ys
    have h2 := encE_len x.1.2 (ce_size (h x)).2.2.1
    unfold encT at h1 ⊢
    rw [List.flatMap_cons, List.length_append, List.length_cons]
    omega
def PutPost (l : List Cp.C) (w : World) (e : Ending) (w' : World) : Prop :=
  ∃ er, CkIs l er ∧ (er ≠ 0 → e = .returned (.tuple #[.slice none 0 0, .int .i64 er])) ∧ (er = 0 → ∃ v, e = .returned (.tuple #[v, .int .i64 0]) ∧ OwnI w' w.heap.size v (putB l)) ∧ Below w.heap.size w w'
theorem own_others {w w' : World} {base : Nat} {v v' : Value} {l : List Int} (h : OwnI w base v l) (g : Kit.Grows w w' v v') : KeepsOthers w w' := by
  refine ⟨g.size, fun k o hk ho => ?_⟩
  refine (g.grown.block k (Array.getElem?_eq_some_iff.1 hk).1 ?_).trans hk
  intro e
  rcases h.2 with ⟨rfl, -⟩ | ⟨b, cap, cur, rfl, hg, hh, -⟩
  · simp [Value.ownBlock] at e
  · simp only [Value.ownBlock, Option.some.injEq] at e
    subst e
    rw [hh] at hk
    obtain rfl := Option.some.inj hk
    simp [Obj.isCells] at ho
/-- Memory that speaks of a row's cells. -/
theorem ownI_own {β : Type} (base : Nat) (v : β → Value) (l : β → List Int) : Own (fun s W => OwnI W base (v s) (l s)) := fun s X Y row hs hg hr => by
  refine World.ownsRow.kept hs hg ?_
  rcases hs.2 with ⟨h1, -⟩ | ⟨b, cap, cur, h1, hb, hh, -⟩
  · rw [h1]
    exact .inl rfl
  · rw [h1]
    refine .inr fun e => ?_
    obtain ⟨o, ho, hc⟩ := hr b (by rw [← e]; rfl)
    rw [hh] at ho
    obtain rfl := Option.some.inj ho
    simp [Obj.isCells] at hc
/-- Where Put's loop stands. -/
def PutI (l : List Cp.C) (B5 lo hi : Nat) (w : World) (pre : List (Tx l)) (W : World) : Prop :=
  ∃ u, Boxed W B5 22 u ∧ OwnI W w.heap.size u (bytesN l.length 2 ++ encT pre) ∧ (∀ k, u.ownBlock = some k → k ≠ B5 ∧ (k < lo ∨ hi ≤ k)) ∧ Below w.heap.size w W ∧ hi ≤ W.heap.size
theorem PutI.own {l : List Cp.C} {B5 lo hi n : Nat} {w : World} (hn : w.heap.size ≤ n) : OwnFrom n (PutI l B5 lo hi w) := by
  rintro pre A B row ⟨u, h1, h2, h3, h4, h5⟩ hg hr
  exact ⟨u, boxed_own _ _ (fun _ : Unit => u) () A B row h1 hg (fun r e => (hr r e).2), ownI_own _ (fun _ : Unit => u) (fun _ => _) () A B row h2 hg (fun r e => (hr r e).2), h3, h4.grown hg h4.size (fun k e => by have := (hr k e).1; omega), Nat.le_trans h5 hg.size⟩
theorem PutI.next {l : List Cp.C} {B5 lo hi : Nat} {w W W1 : World} {u u1 : Value} {L : List Int} {pre : List (Tx l)} {x : Tx l} (i5 : Boxed W B5 22 u) (ho : OwnI W w.heap.size u L) (hne : ∀ k, u.ownBlock = some k → k ≠ B5 ∧ (k < lo ∨ hi ≤ k))
    (hB : Below w.heap.size w W) (hh : hi ≤ W.heap.size) (hlo : B5 < lo) (hb5 : w.heap.size ≤ B5) (hL : L = bytesN l.length 2 ++ encT pre) (ho1 : OwnI W1 w.heap.size u1 (L ++ encE x.1.2)) (G : Kit.Grows W W1 u u1) :
    KeepsOthers W (W1.setCell ⟨B5, 0, none⟩ u1) ∧ Kp lo hi W (W1.setCell ⟨B5, 0, none⟩ u1) ∧ PutI l B5 lo hi w (pre ++ [x]) (W1.setCell ⟨B5, 0, none⟩ u1) := by
  have h5 : B5 < W.heap.size := (Array.getElem?_eq_some_iff.1 i5).1
  have hz := G.size
  have i5' : Boxed W1 B5 22 u := (G.grown.block B5 h5 (fun e => (hne B5 e.symm).1 rfl)).trans i5
  have hne1 : ∀ k, u1.ownBlock = some k → k ≠ B5 ∧ (k < lo ∨ hi ≤ k) := by
    intro k e
    rcases G.blk with e2 | ⟨j, hj, e2⟩
    · rw [e2] at e
      exact hne k e
    · rw [e2] at e
      have := Option.some.inj e
      omega
  refine ⟨(own_others ho G).trans (KeepsOthers.setCell _ _ _), ((Kp.refl lo hi W).grown G.grown hh (fun k e => (hne k e).2)).grown (grownBy_setCell' W1 ⟨B5, 0, none⟩ u1) (by omega) (fun k e => by cases e; exact .inl hlo), u1, i5'.set _, ?_, hne1, ?_, by rw [show (W1.setCell ⟨B5, 0, none⟩ u1).heap.size = W1.heap.size by simp]; omega⟩
  · rw [encT_snoc, ← List.append_assoc, ← hL]
    refine World.ownsRow.kept ho1 (grownBy_setCell' W1 ⟨B5, 0, none⟩ u1) (.inr fun e => ?_)
    exact (hne1 B5 e).1 rfl
  · exact (G.to_below hB hB.size (fun k e => Kit.own_base ho k e)).setCell (p := ⟨B5, 0, none⟩) hb5 _
set_option maxRecDepth 100000 in
set_option maxHeartbeats 2000000 in
theorem put_any (l : List Cp.C) (v : Value) (w : World) (ht : Tabs w) (hv : Kit.IsS 5 w v l.length (l.flatMap cL)) (hs : ∀ c ∈ l, c.s.size ≤ 140737488355328) : Calls Tryz.prog 44 #[v] w (PutPost l w) := by
  have hs0 := ht.size
  have HCk := hid (fun W (h : Below w.heap.size w W) => check_any l v W (ht.below h ht.size) (hv.below h (Nat.le_refl _)) hs)
  have HT := hid (fun W (h : Below w.heap.size w W) => ht.below h ht.size)
  have HV := hid (fun W (h : Below w.heap.size w W) => hv.below h (Nat.le_refl _))
  obtain ⟨a, cap, hv2⟩ := hv.len
  subst hv2
  have hlen := hv.2.1
  clear ht hv hs
  by_cases h0 : CkIs l 0
  case neg =>
    have H0 := hid h0
    clear h0
    go_enter Tryz.func44, Tryz.ntmps44
    go_wp2_with (go_at_call 85; refine (HCk.out _ (by repeat' first | with_reducible exact Below.refl _ _ | with_reducible assumption | with_reducible refine belows_drewN ?_ _ | with_reducible refine Below.drew ?_ | with_reducible refine Below.setCell ?_ ?_ _ | with_reducible refine Below.alloc ?_ ?_ _ | omega | (simp; done) | (simp; omega))).mono ?_; rintro e w1 ⟨er, hck, rfl, hb1⟩; have hne : (er != 0) = true := (by (simp; rintro rfl; exact H0.out hck)); have HK := hid hck; clear hck)
    go_ret2
    exact ⟨er, HK.out, fun _ => rfl, fun h => absurd (h ▸ HK.out) H0.out, (by repeat' first | with_reducible exact Below.refl _ _ | with_reducible assumption | with_reducible refine belows_drewN ?_ _ | with_reducible refine Below.drew ?_ | with_reducible refine Below.setCell ?_ ?_ _ | with_reducible refine Below.alloc ?_ ?_ _ | omega | (simp; done) | (simp; omega))⟩
  case pos =>
  have HS := hid (ck_size h0)
  have H0 := hid h0
  have hl4 := HS.out.1
  clear h0
  refine (callsIn_wide (n := 5)).1 ?_
  refine callsIn_of_wp_marks Tryz.func44 rfl trivial ?_ rfl
  simp only [Tryz.ntmps44, List.size_toArray, List.length_cons, List.length_nil, Nat.reduceAdd, Nat.reduceSub, Array.replicate_succ, Array.replicate_zero, List.push_toArray, List.append_toArray, List.nil_append, List.cons_append]
  gi_wp2_with (first
    | (refine ⟨trivial, ?_⟩; gi_at_call 85; refine (callsIn_wide.2 (HCk.out _ (by repeat' first | with_reducible exact Below.refl _ _ | with_reducible assumption | with_reducible refine belows_drewN ?_ _ | with_reducible refine Below.drew ?_ | with_reducible refine Below.setCell ?_ ?_ _ | with_reducible refine Below.alloc ?_ ?_ _ | omega | (simp; done) | (simp; omega)))).mono ?_; rintro e w1 ⟨er, hck, rfl, hb1⟩; obtain rfl := CkIs.det hck H0.out; clear hck; have hz1 := hb1.size)
    | (refine ⟨trivial, ?_⟩; gi_at_call 86; refine (callsIn_wide.2 (write_any w.heap.size [] _ l.length 2 w1 (nilI _ _) hz1 (by simp) (by omega))).mono ?_; rintro e w2 ⟨v2, rfl, ho2, G2⟩; rw [List.nil_append] at ho2; have hb2 := G2.to_below hb1 hz1 (by intro k hk; simp [Value.ownBlock] at hk); have hz2 := hb2.size; obtain ⟨g2, cap2, rfl⟩ := own_formI ho2 2 (bytesN_len _ _) (by decide))
    | (refine ⟨trivial, ?_⟩; gi_at_call 87; refine (callsIn_wide.2 (all_any l _ _ (HV.out _ (by repeat' first | with_reducible exact Below.refl _ _ | with_reducible assumption | with_reducible refine belows_drewN ?_ _ | with_reducible refine Below.drew ?_ | with_reducible refine Below.setCell ?_ ?_ _ | with_reducible refine Below.alloc ?_ ?_ _ | omega | (simp; done) | (simp; omega))) (by omega))).mono ?_; rintro e w3 ⟨v3, rfl, hX, hb3, hz3⟩))
  have j5 : Boxed w3 w2.heap.size 22 (.slice (some ⟨g2, 0, none⟩) 2 cap2) := (hb3.block w2.heap.size (by simp)).trans (Boxed.new w2 _ _)
  have hb3' := hb3
  simp only [World.size_alloc] at hb3' hz3 hX
  have o3 : OwnI w3 w.heap.size (.slice (some ⟨g2, 0, none⟩) 2 cap2) (bytesN l.length 2) := Kit.owns_below (World.ownsRow.alloc ho2 _) hb3 (Nat.le_refl _)
  have hg2 := Kit.own_lt ho2
  have hB3 : Below w.heap.size w w3 := belows (hb2.alloc hz2 _) hb3 (by simp only [World.size_alloc]; omega)
  have HW := hid (fun (x : Tx l) => (ce_size (HS.out.2 x)).2.2.1)
  have HL := hid (encT_len HS.out.2)
  have hkX : Hid (∀ X, Kp (w2.heap.size + 1) w3.heap.size w3 X → Kit.IsS 5 X v3 l.length (l.flatMap cL) ∧ X.cell? ⟨w2.heap.size + 1, 0, none⟩ = some v3) := hX
  have hB3z := hB3.size
  clear hX hb1 hb2 hb3 hb3' ho2 G2
  refine wpIn_rangeFunc_ownH rfl (by omega) (gf := 143) (lb := #[.pointer (some ⟨w2.heap.size + 1, 0, none⟩)]) rfl trivial (enters_of Tryz.func143 (by kernel_rfl) rfl)
    (all1_stops l v3 (w2.heap.size + 1) (w2.heap.size + 1) (5 - 1) w3 (by omega) hkX.out) (fun h k => Kp.trans h k) (Kp.putObj (Nat.le_refl _)) (Below.refl _ _) (fun _ => rfl)
    (PutI l w2.heap.size (w2.heap.size + 1) w3.heap.size w) (fun _ _ _ => False) (PutI.own hB3.size) (fun _ _ _ _ _ h _ _ => h)
    ⟨_, j5, by simpa [encT] using o3, fun k e => ?_, hB3, Nat.le_refl _⟩
    (fun x a' W => ∃ Bx, w3.heap.size ≤ Bx ∧ BX W Bx (cC x.1.2) 56 ∧ a' = { tmps := #[.slice a l.length cap, undef, .slice none 0 0, .int .i64 0, .int .i64 0, .pointer (some ⟨w2.heap.size, 0, none⟩), undef, .pointer (some ⟨Bx, 0, none⟩), .slice a l.length cap, .int .i64 0, .int .i64 0, .bool false, undef, .slice a l.length cap, .int .i64 l.length, .slice (some ⟨g2, 0, none⟩) 2 cap2, .slice a l.length cap, .func (.func 143) #[] #[.pointer (some ⟨w2.heap.size + 1, 0, none⟩)], .int .i64 (x.1.1 : Int), .agg (cC x.1.2), undef, undef, undef, undef], defers := [] })
    (fun x a' => Own.from (fun s A B row hs hg hr => by
      obtain ⟨Bx, h1, h2, h3⟩ := hs
      exact ⟨Bx, h1, (hg.block Bx h2.sz (fun e => by obtain ⟨o, ho, hc⟩ := hr Bx e.symm; rw [show A.heap[Bx]? = _ from h2] at ho; cases ho; cases hc)).trans h2, h3⟩) _) ?assign ?body ?done ?stop
  case assign =>
    rintro D pre ⟨⟨k, ct, cs, cn, ca, cb⟩, hx⟩ W K hI hK
    unfold entE cC
    gi_wp2
    exact hK _ _ ((KeepsOthers.alloc _ _).from _) ((Kp.refl _ _ W).below ((Below.refl W.heap.size W).alloc (Nat.le_refl _) _) (by obtain ⟨u, -, -, -, -, h⟩ := hI; exact h)) ((PutI.own hB3.size).alloc _ hI) ⟨W.heap.size, (by obtain ⟨u, -, -, -, -, h⟩ := hI; exact h), BX.new W _ _, rfl⟩
  case body =>
    rintro D pre ⟨⟨k, ct, cs, cn, ca, cb⟩, hx⟩ a' W hl ⟨r, hr⟩ ⟨u, i5, ho, hne, hB, hh⟩ ⟨Bx, hBx, bX, rfl⟩ hlt
    have hlb := HL.out pre
    have hcs := HW.out ⟨(k, ⟨ct, cs, cn, ca, cb⟩), hx⟩
    have H2 : (bytesN (l.length : Int) 2).length = 2 := bytesN_len _ _
    obtain ⟨L, hL⟩ : ∃ L, L = bytesN l.length 2 ++ encT pre := ⟨_, rfl⟩
    have hLl : L.length = 2 + (encT pre).length := by rw [hL, List.length_append, H2]
    rw [← hL] at ho
    obtain ⟨n, hn⟩ : ∃ n, L.length = n := ⟨_, rfl⟩
    obtain ⟨g5, cap5, rfl⟩ := own_formI ho n hn (by omega)
    have c5 := i5.cell
    have x0 := bX.cell 0
    have x1 := bX.cell 1
    have x2 := bX.cell 2
    have x3 := bX.cell 3
    have x4 := bX.cell 4
    have hbz := hB.size
    have HC := hid (writeEntry_any w.heap.size L (.slice (some ⟨g5, 0, none⟩) n cap5) ⟨ct, cs, cn, ca, cb⟩ W (HT.out W hB) ho hbz (by omega) hcs)
    have HN := hid (fun W1 u1 => PutI.next (l := l) (W1 := W1) (u1 := u1) (x := ⟨(k, ⟨ct, cs, cn, ca, cb⟩), hx⟩) i5 ho hne hB hh (Nat.lt_succ_self _) hz2 hL)
    have hf5 := hne
    have hne5 : g5 ≠ w2.heap.size := (hne g5 (by simp [Value.ownBlock])).1
    have h5lt := (Array.getElem?_eq_some_iff.1 i5).1
    have I5 := hid i5
    unfold cC at x0 x1 x2 x3 x4 HC ⊢
    simp at x0 x1 x2 x3 x4
    clear hne hL ho hr hlb hf5 hLl H2 i5 hlt bX
    dsimp only
    gi_wp2
    refine ⟨trivial, ?_⟩
    refine (CallsIn.inRound D (callsIn_wide.2 HC.out)).mono ?_
    rintro e W1 ⟨u1, rfl, ho1, G1⟩
    have HE := hid (HN.out W1 u1 ho1 G1)
    have hz7 := G1.size
    obtain ⟨g6, cap6, rfl⟩ := own_formI ho1 (n + (encE ⟨ct, cs, cn, ca, cb⟩).length) (by rw [List.length_append, hn]) (by unfold encE; rw [List.length_cons]; omega)
    have hne6 : some w2.heap.size ≠ (Value.slice (some ⟨g5, 0, none⟩) n cap5).ownBlock := by
      intro e
      have e2 : w2.heap.size = g5 := by simpa [Value.ownBlock] using e
      omega
    have i6 : Boxed W1 w2.heap.size 22 (.slice (some ⟨g5, 0, none⟩) n cap5) := (G1.grown.block w2.heap.size h5lt hne6).trans I5.out
    have c6 := i6.cell
    have f6 := i6.frozen
    gi_wp2
    exact ⟨HE.out.1.from _, HE.out.2.1, HE.out.2.2⟩
  case done =>
    rintro D ys W hD rfl ⟨u, i5, ho, hne, hB, hh⟩ hK
    have c5 := i5.cell
    have H2 : (bytesN (l.length : Int) 2).length = 2 := bytesN_len _ _
    obtain ⟨g5, cap5, rfl⟩ := own_formI ho _ rfl (by rw [List.length_append, H2]; omega)
    have HO := hid (fun W' (hg : W.grownBy W' (some D)) => ownI_own w.heap.size (fun _ : Unit => _) (fun _ => _) () W W' (some D) ho hg (fun r e => by cases e; exact ⟨_, hK, rfl⟩))
    obtain ⟨n, hn⟩ : ∃ n, (bytesN (l.length : Int) 2 ++ encT (told l l.length)).length = n := ⟨_, rfl⟩
    rw [hn] at c5 HO
    clear hne ho i5
    gi_wp2
    refine ⟨by simp, .inl ⟨_, _, rfl, run_takeDeferred hK, ?_⟩⟩
    refine ⟨.tuple #[.slice (some ⟨g5, 0, none⟩) n cap5, .int .i64 0], ?_, 0, H0.out, fun h => absurd rfl h, fun _ => ⟨_, rfl, HO.out _ (grownBy_putObj' _ D (.deferred none))⟩, hB.trans (belowK_b (w := w) (Nat.le_refl _) _ D _ _ (by omega) hK rfl rfl)⟩
    simp [results, Tryz.f44, go_sem]
  case stop =>
    rintro D c pre W hD _ h
    exact h.elim
  · have : g2 = k := by simpa [Value.ownBlock] using e
    have := hg2 k e
    omega
end Go.Proofs.YtehjindeggmfpaaGreatDoor.L3
namespace Go.Proofs.YtehjindeggmfpaaGreatDoor.L3
open Go.RowKit

/-- A number of 64 bits. -/
def I6 (z : Int) : Prop := -9223372036854775808 ≤ z ∧ z ≤ 9223372036854775807
/-- What the document asks of an entry's parts. -/
def eOk (t : Int) (s : ByteArray) (n a b : Int) : Prop := (n = 0 ∨ t = 5 ∨ (t = 3 ∧ n = IntKind.i32.wrap n)) ∧ (a = 0 ∨ (7 ≤ t ∧ 0 < a ∧ a ≤ 65535)) ∧ (b = 0 ∨ (7 < t ∧ 0 < b ∧ b ≤ 65535)) ∧ (t = 1 ∨ s = ⟨#[]⟩)
theorem sgn_0 (z : Int) : sgn z 0 = 0 := rfl
theorem sgn_4 (z : Int) : sgn z 4 = IntKind.i32.wrap z := rfl
theorem sgn_8 {z : Int} (h : I6 z) : sgn z 8 = z := by
  unfold I6 at h
  show IntKind.i64.wrap z = z
  exact IntWalk.i64_in _ (by omega)
theorem uns_2 (z : Int) : uns z 2 = z ↔ (z = 0 ∨ (0 < z ∧ z ≤ 65535)) := by
  show z % 65536 = z ↔ _
  omega
theorem cut_ok {t : Int} {s : ByteArray} {n a b : Int} (hk : Cp.knownB t = true) (hn : I6 n) : cutW ⟨t, s, n, a, b⟩ (Cp.wd t) = ⟨t, s, n, a, b⟩ ↔ eOk t s n a b := by
  unfold Cp.knownB at hk
  have hk2 := of_decide_eq_true hk
  unfold cutW eOk
  simp only [Cp.C.mk.injEq, true_and]
  have e8 := sgn_8 hn
  have e4 := sgn_4 n
  have e0 := sgn_0 n
  have u2 := uns_2 a
  have v2 := uns_2 b
  have u0 : uns a 0 = 0 := rfl
  have v0 : uns b 0 = 0 := rfl
  generalize hs0 : (⟨#[]⟩ : ByteArray) = s0
  have hw : (n = 0 ∨ n = IntKind.i32.wrap n) ↔ n = IntKind.i32.wrap n := by
    constructor
    · rintro (rfl | h)
      · rfl
      · exact h
    · exact .inr
  rcases hk2 with rfl | rfl | rfl | rfl | rfl | rfl | rfl
  all_goals simp [Cp.wd, e8, e4, e0, u2, v2, u0, v0, hw, eq_comm]
  all_goals simp only [and_comm, and_left_comm, and_assoc]
theorem ce_yes {t : Int} {s : ByteArray} {n a b : Int} (hk : Cp.knownB t = true) (hn : I6 n) (h : eOk t s n a b) : ceOut ⟨t, s, n, a, b⟩ = if (Cp.plainB (Cp.bl s) && decide (s.size ≤ 255)) = true then 0 else 32 := by
  unfold ceOut
  rw [if_neg (by rintro (e | e); rw [hk] at e; cases e; exact e ((cut_ok hk hn).2 h))]
  dsimp only
  cases Cp.plainB (Cp.bl s) with
  | false => simp
  | true =>
    by_cases h1 : s.size ≤ 255
    · rw [if_neg (by rintro (h | h); omega; cases h)]; simp [h1]
    · rw [if_pos (.inl (by omega))]; simp [h1]
end Go.Proofs.YtehjindeggmfpaaGreatDoor.L3
namespace Go.Proofs.YtehjindeggmfpaaGreatDoor.L3
open Go.RowKit

theorem bytesN_0 (z : Int) : bytesN z 0 = [] := rfl
theorem enc_text {t : Int} (s : ByteArray) (n a b : Int) (h : t = 1) : encE ⟨t, s, n, a, b⟩ = [t % 256] ++ bytesN s.size 2 ++ ((Cp.bl s).map fun b => (b.toNat : Int)) := by
  subst h
  unfold encE
  simp [Cp.wd, bytesN_0]
theorem enc_num {t : Int} (n a b : Int) (k : Nat) (h : Cp.wd t = (0, k, 0, 0)) : encE ⟨t, ⟨#[]⟩, n, a, b⟩ = [t % 256] ++ bytesN n k := by
  unfold encE
  simp [h, bytesN_0, Cp.bl]
theorem enc_one {t : Int} (n a b : Int) (h : t = 7) : encE ⟨t, ⟨#[]⟩, n, a, b⟩ = [t % 256] ++ bytesN a 2 := by
  subst h
  unfold encE
  simp [Cp.wd, bytesN_0, Cp.bl]
theorem enc_two {t : Int} (n a b : Int) (h : t = 9 ∨ t = 10 ∨ t = 12) : encE ⟨t, ⟨#[]⟩, n, a, b⟩ = [t % 256] ++ bytesN a 2 ++ bytesN b 2 := by
  unfold encE
  rcases h with rfl | rfl | rfl <;> simp [Cp.wd, bytesN_0, Cp.bl]
/-- Where writing an entry stands: the bytes so far, and the box. -/
structure PSt (w : World) (base : Nat) (v0 : Value) (C : Array Value) (W : World) (v : Value) (l : List Int) : Prop where
  own : OwnI W base v l
  gr : Kit.Grows w W v0 v
  bc : BX W w.heap.size C 56
  ne : ∀ k, v.ownBlock = some k → k ≠ w.heap.size
  le : base ≤ W.heap.size
theorem PSt.step {w : World} {base : Nat} {v0 : Value} {C : Array Value} {W W' : World} {v v' : Value} {l l' : List Int} (h : PSt w base v0 C W v l) (ho : OwnI W' base v' l') (g : Kit.Grows W W' v v') : PSt w base v0 C W' v' l' := by
  refine ⟨ho, h.gr.trans g, h.bc.grown g.grown ?_, ?_, Nat.le_trans h.le g.size⟩
  · intro e
    exact h.ne _ e rfl
  · intro k e
    have h1 := h.bc.sz
    rcases g.blk with e2 | ⟨j, hj, e2⟩
    · rw [e2] at e
      exact h.ne k e
    · rw [e2] at e
      have := Option.some.inj e
      omega
theorem PSt.drew {w : World} {base : Nat} {v0 : Value} {C : Array Value} {W : World} {v : Value} {l : List Int} (h : PSt w base v0 C W v l) : PSt w base v0 C W.drew v l :=
  ⟨World.ownsRow.drew h.own, ⟨⟨h.gr.grown.os, h.gr.grown.tape, h.gr.grown.output, h.gr.grown.size, h.gr.grown.block⟩, h.gr.blk⟩, h.bc, h.ne, h.le⟩
theorem PSt.cells {w : World} {base : Nat} {v0 : Value} {c0 c1 c2 c3 c4 : Value} {W : World} {v : Value} {l : List Int} (h : PSt w base v0 #[c0, c1, c2, c3, c4] W v l) :
    W.cell? ⟨w.heap.size, 0, none⟩ = some c0 ∧ W.cell? ⟨w.heap.size, 1, none⟩ = some c1 ∧ W.cell? ⟨w.heap.size, 2, none⟩ = some c2 ∧ W.cell? ⟨w.heap.size, 3, none⟩ = some c3 ∧ W.cell? ⟨w.heap.size, 4, none⟩ = some c4 :=
  ⟨h.bc.cell 0, h.bc.cell 1, h.bc.cell 2, h.bc.cell 3, h.bc.cell 4⟩
theorem PSt.first {w w2 : World} {base : Nat} {v v1 : Value} {l : List Int} {z : Int} {C : Array Value} (hb : base ≤ w.heap.size) (hlt : ∀ k, v.ownBlock = some k → k < w.heap.size) (ho : w2.ownsRow base 5 1 v1 (l.length + 1) (l.map (Value.int .u8) ++ [.int .u8 z])) (hg : ((w.alloc (.cells C 56)).alloc (.cells #[.int .u8 z] 5)).grownBy w2 v.ownBlock) (hk : v1.ownBlock = v.ownBlock ∨ v1.ownBlock = some (w.heap.size + 1 + 1)) : PSt w base v C w2 v1 (l ++ [z]) := by
  have B1 : Below w.heap.size w ((w.alloc (.cells C 56)).alloc (.cells #[.int .u8 z] 5)) := ((Below.refl _ w).alloc (Nat.le_refl _) _).alloc (by simp) _
  have hzg := hg.size
  simp only [World.size_alloc] at hzg
  have bc1 : BX ((w.alloc (.cells C 56)).alloc (.cells #[.int .u8 z] 5)) w.heap.size C 56 := (BX.new w C 56).below ((Below.refl (w.heap.size + 1) _).alloc (by simp) _) (by omega)
  refine ⟨OwnI.snoc ho, Kit.grows_append B1 hg (by simpa using hk), bc1.grown hg ?_, ?_, by omega⟩
  · intro e
    have := hlt _ e
    omega
  · intro k e
    rcases hk with h | h
    · rw [h] at e
      have := hlt _ e
      omega
    · rw [h] at e
      have := Option.some.inj e
      omega
theorem news_two (w : World) (o : Obj) (v : Value) (t : TypeId) : ∀ j u, [v][j]? = some u → ((w.alloc o).alloc (.cells #[v] t)).cell? ((⟨w.heap.size + 1, 0, none⟩ : Addr).add j) = some u := by
  have hn := Kit.news_one (w.alloc o) v t
  rw [World.size_alloc] at hn
  exact hn
end Go.Proofs.YtehjindeggmfpaaGreatDoor.L3
namespace Go.Proofs.YtehjindeggmfpaaGreatDoor.L3
open Go.RowKit

attribute [local go_sem] Oper.semAt_some

/-- What Find answers. -/
def FiIs (l : List Cp.C) (c : Cp.C) (r : Nat) (b : Bool) : Prop := (b = false ∧ r = 0 ∧ ∀ j, 1 ≤ j → c.t ≠ 0 → l[j]? ≠ some c) ∨ (b = true ∧ 1 ≤ r ∧ c.t ≠ 0 ∧ l[r]? = some c ∧ ∀ j, 1 ≤ j → j < r → l[j]? ≠ some c)
theorem FiIs.det {l : List Cp.C} {c : Cp.C} {r r' : Nat} {b b' : Bool} (h : FiIs l c r b) (k : FiIs l c r' b') : r = r' ∧ b = b' := by
  rcases h with ⟨rfl, rfl, h⟩ | ⟨rfl, h1, h2, h3, h⟩
  · rcases k with ⟨rfl, rfl, k⟩ | ⟨rfl, k1, k2, k3, k⟩
    · exact ⟨rfl, rfl⟩
    · exact absurd k3 (h _ k1 k2)
  · rcases k with ⟨rfl, rfl, k⟩ | ⟨rfl, k1, k2, k3, k⟩
    · exact absurd h3 (k _ h1 h2)
    · refine ⟨?_, rfl⟩
      rcases Nat.lt_trichotomy r r' with hlt | e | hlt
      · exact absurd h3 (k r h1 hlt)
      · exact e
      · exact absurd k3 (h r' k1 hlt)
theorem told_cases (l : List Cp.C) (k : Nat) : told l (k + 1) = told l k ∨ ∃ x : Tx l, x.1.1 = k ∧ told l (k + 1) = told l k ++ [x] := by
  cases h : l[k]? with
  | none =>
    refine .inl ?_
    show told l k ++ _ = _
    split
    · rename_i d hd
      rw [h] at hd
      cases hd
    · rw [List.append_nil]
  | some c =>
    by_cases hc : c.t = 0
    · exact .inl (told_no h hc)
    · exact .inr ⟨⟨(k, c), h, hc⟩, rfl, told_yes h hc⟩
/-- What is told ahead of an entry is all that lies ahead of it. -/
theorem told_last {l : List Cp.C} : ∀ {k : Nat} {pre : List (Tx l)} {x : Tx l}, told l k = pre ++ [x] → pre = told l x.1.1 ∧ x.1.1 < k
  | 0, pre, x, h => by
    have := congrArg List.length h
    simp [told] at this
  | k + 1, pre, x, h => by
    rcases told_cases l k with e | ⟨y, hy, e⟩
    · rw [e] at h
      have := told_last h
      exact ⟨this.1, by omega⟩
    · rw [e] at h
      obtain ⟨h1, h2⟩ := List.append_inj' h rfl
      obtain rfl : y = x := by simpa using h2
      rw [hy]
      exact ⟨h1.symm, by omega⟩
theorem told_mem {l : List Cp.C} {j : Nat} {c : Cp.C} (h : l[j]? = some c) (hc : c.t ≠ 0) : ∀ {k : Nat}, j < k → (⟨(j, c), h, hc⟩ : Tx l) ∈ told l k
  | 0, hk => absurd hk (by omega)
  | k + 1, hk => by
    by_cases hj : j = k
    · subst hj
      rw [told_yes h hc]
      simp
    · rcases told_cases l k with e | ⟨y, hy, e⟩
      · rw [e]; exact told_mem h hc (by omega)
      · rw [e]; exact List.mem_append_left _ (told_mem h hc (by omega))
/-- Two entries that differ. -/
theorem c_ne {x c : Cp.C} (h : x ≠ c) : (¬ x.t = c.t) ∨ (x.t = c.t ∧ (x.s.toList == c.s.toList) = false) ∨ (x.t = c.t ∧ x.s = c.s ∧ ¬ x.n = c.n) ∨ (x.t = c.t ∧ x.s = c.s ∧ x.n = c.n ∧ ¬ x.a = c.a) ∨ (x.t = c.t ∧ x.s = c.s ∧ x.n = c.n ∧ x.a = c.a ∧ ¬ x.b = c.b) := by
  obtain ⟨t, s, n, a, b⟩ := x
  obtain ⟨t', s', n', a', b'⟩ := c
  dsimp only
  by_cases e1 : t = t'
  · by_cases e2 : s = s'
    · by_cases e3 : n = n'
      · by_cases e4 : a = a'
        · by_cases e5 : b = b'
          · exact absurd (by rw [e1, e2, e3, e4, e5]) h
          · exact .inr (.inr (.inr (.inr ⟨e1, e2, e3, e4, e5⟩)))
        · exact .inr (.inr (.inr (.inl ⟨e1, e2, e3, e4⟩)))
      · exact .inr (.inr (.inl ⟨e1, e2, e3⟩))
    · refine .inr (.inl ⟨e1, ?_⟩)
      rw [beq_eq_false_iff_ne, ne_eq, ByteArray.toList_eq, ByteArray.toList_eq]
      intro e
      exact e2 (ba_ext e)
  · exact .inl e1
def FiPost (l : List Cp.C) (c : Cp.C) (w : World) (e : Ending) (w' : World) : Prop := ∃ (r : Nat) (b : Bool), FiIs l c r b ∧ e = .returned (.tuple #[.int .i64 (r : Nat), .bool b]) ∧ Below w.heap.size w w'
end Go.Proofs.YtehjindeggmfpaaGreatDoor.L3
namespace Go.Proofs.YtehjindeggmfpaaGreatDoor.L3
open Go.RowKit

attribute [local go_sem] Oper.semAt_some

theorem bx_own {β : Type} (B : Nat) (C : Array Value) (t : TypeId) : Own (fun (_ : β) W => BX W B C t) := fun s X Y row hs hg hr =>
  (hg.block B hs.sz (fun e => by obtain ⟨o, ho, hc⟩ := hr B e.symm; rw [show X.heap[B]? = _ from hs] at ho; cases ho; cases hc)).trans hs
/-- Where Find's loop stands. -/
def FiJ {l : List Cp.C} (c : Cp.C) (hi : Nat) (w : World) (pre : List (Tx l)) (W : World) : Prop :=
  BX W w.heap.size (cC c) 56 ∧ Boxed W (w.heap.size + 1) 3 (.int .i64 0) ∧ Boxed W (w.heap.size + 1 + 1) 4 (.bool false) ∧ Hid (∀ x ∈ pre, ¬ (0 < x.1.1 ∧ x.1.2 = c)) ∧ Below w.heap.size w W ∧ hi ≤ W.heap.size
theorem FiJ.own {l : List Cp.C} {c : Cp.C} {hi n : Nat} {w : World} (hn : w.heap.size ≤ n) : OwnFrom n (FiJ (l := l) c hi w) := by
  rintro pre A B row ⟨h0, h1, h2, h3, h4, h5⟩ hg hr
  exact ⟨bx_own _ _ _ () A B row h0 hg (fun r e => (hr r e).2), boxed_own _ _ (fun _ : Unit => .int .i64 0) () A B row h1 hg (fun r e => (hr r e).2), boxed_own _ _ (fun _ : Unit => .bool false) () A B row h2 hg (fun r e => (hr r e).2), h3, h4.grown hg h4.size (fun k e => by have := (hr k e).1; omega), Nat.le_trans h5 hg.size⟩
/-- Where Find's loop stands when it stops. -/
def FiX {l : List Cp.C} (c : Cp.C) (w : World) (pre : List (Tx l)) (W : World) : Prop :=
  ∃ x p, Boxed W (w.heap.size + 1) 3 (.int .i64 (x.1.1 : Nat)) ∧ Boxed W (w.heap.size + 1 + 1) 4 (.bool true) ∧ pre = p ++ [x] ∧ 0 < x.1.1 ∧ x.1.2 = c ∧ (∀ y ∈ p, ¬ (0 < y.1.1 ∧ y.1.2 = c)) ∧ Below w.heap.size w W
theorem FiX.own {l : List Cp.C} {c : Cp.C} {n : Nat} {w : World} (hn : w.heap.size ≤ n) : OwnFrom n (FiX (l := l) c w) := by
  rintro pre A B row ⟨x, p, h1, h2, h3, h4, h5, h6, h7⟩ hg hr
  exact ⟨x, p, boxed_own _ _ (fun _ : Unit => .int .i64 (x.1.1 : Nat)) () A B row h1 hg (fun r e => (hr r e).2), boxed_own _ _ (fun _ : Unit => .bool true) () A B row h2 hg (fun r e => (hr r e).2), h3, h4, h5, h6, h7.grown hg h7.size (fun k e => by have := (hr k e).1; omega)⟩
theorem FiX.is {l : List Cp.C} {c : Cp.C} {w W : World} {k : Nat} (h : FiX c w (told l k) W) : ∃ r, FiIs l c r true ∧ Boxed W (w.heap.size + 1) 3 (.int .i64 (r : Nat)) ∧ Boxed W (w.heap.size + 1 + 1) 4 (.bool true) ∧ Below w.heap.size w W := by
  obtain ⟨x, p, h1, h2, h3, h4, h5, h6, h7⟩ := h
  obtain ⟨hp, -⟩ := told_last h3
  refine ⟨x.1.1, .inr ⟨rfl, h4, h5 ▸ x.2.2, h5 ▸ x.2.1, fun j hj hlt hc => ?_⟩, h1, h2, h7⟩
  have hm := told_mem hc (h5 ▸ x.2.2) hlt
  rw [← hp] at hm
  exact h6 _ hm ⟨hj, rfl⟩
theorem FiJ.no {l : List Cp.C} {c : Cp.C} (h : ∀ x ∈ told l l.length, ¬ (0 < x.1.1 ∧ x.1.2 = c)) : FiIs l c 0 false := by
  refine .inl ⟨rfl, rfl, fun j hj ht hc => ?_⟩
  have hlt : j < l.length := by rw [List.getElem?_eq_some_iff] at hc; exact hc.1
  exact h _ (told_mem hc ht hlt) ⟨hj, rfl⟩
theorem fi_snoc {l : List Cp.C} {c : Cp.C} {pre : List (Tx l)} {x : Tx l} (h : ∀ y ∈ pre, ¬ (0 < y.1.1 ∧ y.1.2 = c)) (hx : ¬ (0 < x.1.1 ∧ x.1.2 = c)) : ∀ y ∈ pre ++ [x], ¬ (0 < y.1.1 ∧ y.1.2 = c) := by
  intro y hy
  rcases List.mem_append.1 hy with hy | hy
  · exact h y hy
  · obtain rfl : y = x := by simpa using hy
    exact hx
set_option maxRecDepth 100000 in
set_option maxHeartbeats 4000000 in
theorem find_any (l : List Cp.C) (c : Cp.C) (v : Value) (w : World) (hv : Kit.IsS 5 w v l.length (l.flatMap cL)) (hn : l.length * 48 ≤ 140737488355328) :
    Calls Tryz.prog 93 #[v, .agg (cC c)] w (FiPost l c w) := by
  have HV := hid (fun W (h : Below w.heap.size w W) => hv.below h (Nat.le_refl _))
  obtain ⟨a, cap, hv2⟩ := hv.len
  subst hv2
  have hlen := hv.2.1
  clear hv
  refine (callsIn_wide (n := 5)).1 ?_
  refine callsIn_of_wp_marks Tryz.func93 rfl trivial ?_ rfl
  simp only [Tryz.ntmps93, List.size_toArray, List.length_cons, List.length_nil, Nat.reduceAdd, Nat.reduceSub, Array.replicate_succ, Array.replicate_zero, List.push_toArray, List.append_toArray, List.nil_append, List.cons_append]
  obtain ⟨t, s, n, ca, cb⟩ := c
  unfold cC
  dsimp only
  gi_wp2_with (refine ⟨trivial, ?_⟩; gi_at_call 87; refine (callsIn_wide.2 (all_any l _ _ (HV.out _ (by repeat' first | with_reducible exact Below.refl _ _ | with_reducible assumption | with_reducible refine belows_drewN ?_ _ | with_reducible refine Below.drew ?_ | with_reducible refine Below.setCell ?_ ?_ _ | with_reducible refine Below.alloc ?_ ?_ _ | omega | (simp; done) | (simp; omega))) hn)).mono ?_; rintro e w3 ⟨v3, rfl, hX, hb3, hz3⟩)
  obtain ⟨C, hC⟩ : ∃ C : Array Value, C = #[.int .i64 t, .string s, .int .i64 n, .int .i64 ca, .int .i64 cb] := ⟨_, rfl⟩
  have hCc : cC ⟨t, s, n, ca, cb⟩ = C := hC.symm
  rw [← hC] at hX hb3 hz3
  have hbA : Below (w.heap.size + 1) (w.alloc (.cells C 56)) w3 := belows (((Below.refl (w.heap.size + 1) (w.alloc (.cells C 56))).alloc (by simp) _).alloc (by simp) _) hb3 (by simp only [World.size_alloc]; omega)
  have bc : BX w3 w.heap.size C 56 := (BX.new w C 56).below hbA (by omega)
  have i1 : Boxed w3 (w.heap.size + 1) 3 (.int .i64 0) := (hb3.block (w.heap.size + 1) (by simp only [World.size_alloc]; omega)).trans (by have := (Boxed.new (w.alloc (.cells C 56)) 3 (.int .i64 0)).alloc (.cells #[.bool false] 4); rw [World.size_alloc] at this; exact this)
  have i2 : Boxed w3 (w.heap.size + 1 + 1) 4 (.bool false) := (hb3.block (w.heap.size + 1 + 1) (by simp only [World.size_alloc]; omega)).trans (by have := Boxed.new ((w.alloc (.cells C 56)).alloc (.cells #[.int .i64 0] 3)) 4 (.bool false); rw [World.size_alloc, World.size_alloc] at this; exact this)
  simp only [World.size_alloc] at hz3 hX
  have hB3 : Below w.heap.size w w3 := belows ((Below.refl _ w).alloc (Nat.le_refl _) (.cells C 56)) (by rw [World.size_alloc]; exact hbA) (by rw [World.size_alloc]; omega)
  have hkX : Hid (∀ X, Kp (w.heap.size + 1 + 1 + 1) w3.heap.size w3 X → Kit.IsS 5 X v3 l.length (l.flatMap cL) ∧ X.cell? ⟨w.heap.size + 1 + 1 + 1, 0, none⟩ = some v3) := hX
  have hB3z := hB3.size
  clear hX hb3 hbA
  refine wpIn_rangeFunc_ownH rfl (by omega) (gf := 143) (lb := #[.pointer (some ⟨w.heap.size + 1 + 1 + 1, 0, none⟩)]) rfl trivial (enters_of Tryz.func143 (by kernel_rfl) rfl)
    (all1_stops l v3 (w.heap.size + 1 + 1 + 1) (w.heap.size + 1 + 1 + 1) (5 - 1) w3 (by omega) hkX.out) (fun h k => Kp.trans h k) (Kp.putObj (Nat.le_refl _)) (Below.refl _ _) (fun _ => rfl)
    (FiJ ⟨t, s, n, ca, cb⟩ w3.heap.size w) (fun c' pre W => c' = .ret ∧ FiX ⟨t, s, n, ca, cb⟩ w pre W) (FiJ.own hB3.size) (fun c' pre A B row h hg hr => ⟨h.1, FiX.own hB3.size pre A B row h.2 hg hr⟩)
    ⟨hCc ▸ bc, i1, i2, hid (fun x hx => by cases hx), hB3, Nat.le_refl _⟩
    (fun x a' W => ∃ Bx, w3.heap.size ≤ Bx ∧ BX W Bx (cC x.1.2) 56 ∧ a' = { tmps := #[.slice a l.length cap, .agg #[.int .i64 t, .string s, .int .i64 n, .int .i64 ca, .int .i64 cb], undef, .pointer (some ⟨w.heap.size, 0, none⟩), .pointer (some ⟨w.heap.size + 1, 0, none⟩), .pointer (some ⟨w.heap.size + 1 + 1, 0, none⟩), .int .i64 (x.1.1 : Int), .pointer (some ⟨Bx, 0, none⟩), .slice a l.length cap, .func (.func 143) #[] #[.pointer (some ⟨w.heap.size + 1 + 1 + 1, 0, none⟩)], .int .i64 (x.1.1 : Int), .agg (cC x.1.2), undef, undef, undef, undef, undef, undef, undef, undef], defers := [] })
    (fun x a' => Own.from (fun s A B row hs hg hr => by
      obtain ⟨Bx, h1, h2, h3⟩ := hs
      exact ⟨Bx, h1, bx_own _ _ _ s A B row h2 hg hr, h3⟩) _) ?assign ?body ?done ?stop
  case assign =>
    rintro D pre ⟨⟨k, xt, xs, xn, xa, xb⟩, hx⟩ W K hI hK
    unfold entE cC
    gi_wp2
    exact hK _ _ ((KeepsOthers.alloc _ _).from _) ((Kp.refl _ _ W).below ((Below.refl W.heap.size W).alloc (Nat.le_refl _) _) (by obtain ⟨-, -, -, -, -, h⟩ := hI; exact h)) ((FiJ.own hB3.size).alloc _ hI) ⟨W.heap.size, (by obtain ⟨-, -, -, -, -, h⟩ := hI; exact h), BX.new W _ _, rfl⟩
  case body =>
    rintro D pre ⟨⟨k, xt, xs, xn, xa, xb⟩, hx⟩ a' W hl ⟨r, hr⟩ ⟨bC, i1, i2, hp, hB, hh⟩ ⟨Bx, hBx, bX, rfl⟩ hlt
    have x0 := bX.cell 0
    have x1 := bX.cell 1
    have x2 := bX.cell 2
    have x3 := bX.cell 3
    have x4 := bX.cell 4
    rw [hCc, hC] at bC
    have c0 := bC.cell 0
    have c1 := bC.cell 1
    have c2 := bC.cell 2
    have c3 := bC.cell 3
    have c4 := bC.cell 4
    have b1 := i1.cell
    have b2 := i2.cell
    have f1 := i1.frozen
    have f2 := i2.frozen
    unfold cC at x0 x1 x2 x3 x4 ⊢
    simp at x0 x1 x2 x3 x4 c0 c1 c2 c3 c4
    dsimp only
    have HS := hid (fun h => fi_snoc (c := ⟨t, s, n, ca, cb⟩) (x := ⟨(k, ⟨xt, xs, xn, xa, xb⟩), hx⟩) hp.out h)
    have HbC := hid bC
    have bXs := bX.sz
    clear hr bC bX
    by_cases hk0 : 0 < k
    · have hd : decide ((0 : Int) < k) = true := by simp; omega
      by_cases hxc : (⟨xt, xs, xn, xa, xb⟩ : Cp.C) = ⟨t, s, n, ca, cb⟩
      · obtain ⟨rfl, rfl, rfl, rfl, rfl⟩ := Cp.C.mk.inj hxc
        clear hxc
        gi_wp2
        exact ⟨((KeepsOthers.setCell _ _ _).trans (KeepsOthers.setCell _ _ _)).from _, rfl, ⟨(k, ⟨xt, xs, xn, xa, xb⟩), hx⟩, pre, (i1.set _).other (by omega) _, (i2.other (by omega) _).set _, rfl, hk0, rfl, hp.out, (by repeat' first | with_reducible exact Below.refl _ _ | with_reducible assumption | with_reducible refine belows_drewN ?_ _ | with_reducible refine Below.drew ?_ | with_reducible refine Below.setCell ?_ ?_ _ | with_reducible refine Below.alloc ?_ ?_ _ | omega | (simp; done) | (simp; omega))⟩
      · have HN := hid (HS.out (fun e => hxc e.2))
        have hne := c_ne hxc
        dsimp only at hne
        clear hxc
        rcases hne with h | ⟨rfl, h⟩ | ⟨rfl, rfl, h⟩ | ⟨rfl, rfl, rfl, h⟩ | ⟨rfl, rfl, rfl, rfl, h⟩
        all_goals gi_wp2
        all_goals exact ⟨(KeepsOthers.refl _).from _, Kp.refl _ _ _, HbC.out, i1, i2, HN, hB, hh⟩
    · have HN := hid (HS.out (fun e => hk0 e.1))
      have hd : decide ((0 : Int) < k) = false := by simp; omega
      gi_wp2
      exact ⟨(KeepsOthers.refl _).from _, Kp.refl _ _ _, HbC.out, i1, i2, HN, hB, hh⟩
  case done =>
    rintro D ys W hD rfl ⟨bC, i1, i2, hp, hB, hh⟩ hK
    have HF := hid (FiJ.no hp.out)
    have b1 := i1.cell
    have b2 := i2.cell
    have f1 := i1.frozen
    have f2 := i2.frozen
    gi_wp2
    have hK' := ((KeepsOthers.setCell W ⟨w.heap.size + 1, 0, none⟩ (.int .i64 0)).trans (KeepsOthers.setCell _ ⟨w.heap.size + 1 + 1, 0, none⟩ (.bool false))).same D _ hK rfl
    refine ⟨by simp, .inl ⟨_, _, rfl, run_takeDeferred hK', ?_⟩⟩
    have j1 : Boxed ((W.setCell ⟨w.heap.size + 1, 0, none⟩ (.int .i64 0)).setCell ⟨w.heap.size + 1 + 1, 0, none⟩ (.bool false)) (w.heap.size + 1) 3 (.int .i64 0) := (i1.set _).other (by omega) _
    have j2 : Boxed ((W.setCell ⟨w.heap.size + 1, 0, none⟩ (.int .i64 0)).setCell ⟨w.heap.size + 1 + 1, 0, none⟩ (.bool false)) (w.heap.size + 1 + 1) 4 (.bool false) := (i2.other (by omega) _).set _
    have hc1 := cell_kept j1.cell (grownBy_putObj' _ D (.deferred none)) (fun r e => by cases e; exact ⟨_, hK', rfl⟩)
    have hc2 := cell_kept j2.cell (grownBy_putObj' _ D (.deferred none)) (fun r e => by cases e; exact ⟨_, hK', rfl⟩)
    have hBB : Below w.heap.size w ((W.setCell ⟨w.heap.size + 1, 0, none⟩ (.int .i64 0)).setCell ⟨w.heap.size + 1 + 1, 0, none⟩ (.bool false)) := (by repeat' first | with_reducible exact Below.refl _ _ | with_reducible assumption | with_reducible refine belows_drewN ?_ _ | with_reducible refine Below.drew ?_ | with_reducible refine Below.setCell ?_ ?_ _ | with_reducible refine Below.alloc ?_ ?_ _ | omega | (simp; done) | (simp; omega))
    refine ⟨.tuple #[.int .i64 0, .bool false], ?_, 0, false, HF.out, rfl, hBB.trans (belowK_b (w := w) (Nat.le_refl _) _ D _ _ (by omega) hK' rfl rfl)⟩
    simp [results, Tryz.f93, go_sem, hc1, hc2]
  case stop =>
    rintro D c' pre W hD ⟨k, hk, rfl⟩ ⟨rfl, hX⟩ hK
    obtain ⟨r, hF, i1, i2, hB⟩ := hX.is
    have HF := hid hF
    clear hF hX
    gi_wp2
    refine ⟨by simp, .inl ⟨_, _, rfl, run_takeDeferred hK, ?_⟩⟩
    have hc1 := cell_kept i1.cell (grownBy_putObj' _ D (.deferred none)) (fun r e => by cases e; exact ⟨_, hK, rfl⟩)
    have hc2 := cell_kept i2.cell (grownBy_putObj' _ D (.deferred none)) (fun r e => by cases e; exact ⟨_, hK, rfl⟩)
    refine ⟨.tuple #[.int .i64 r, .bool true], ?_, r, true, HF.out, rfl, hB.trans (belowK_b (w := w) (Nat.le_refl _) _ D _ _ (by omega) hK rfl rfl)⟩
    simp [results, Tryz.f93, go_sem, hc1, hc2]
end Go.Proofs.YtehjindeggmfpaaGreatDoor.L3

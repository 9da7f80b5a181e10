/- Own texts for the claim, part 8. -/
import Derived.Test.YtjnjnfhboafcgaaGreatDoorZG7
namespace Go.Proofs.YtjnjnfhboafcgaaGreatDoor.L2
open Go.RowKit

set_option maxRecDepth 100000 in
theorem slcut_none_any (t : ByteArray) (w : World) (h : Ds.cutC 59 (Ds.bl t) = none) : Calls Tryz.prog 204 #[.string t, .string ⟨#[59]⟩] w fun e w' => e = .returned (.tuple #[.string t, .string ⟨#[]⟩, .bool false]) ∧ w = w' := by
  have HI := Sh.stringslite_Index_one t 59 w
  rw [Ds.idx_none h] at HI
  have HI2 := hid HI
  clear HI h
  go_enter Tryz.func204, Tryz.ntmps204
  go_wp2_with (go_at_call 198; refine HI2.out.mono ?_; rintro e w1 ⟨rfl, rfl⟩)
  go_ret3
  exact ⟨rfl, rfl⟩
set_option maxRecDepth 100000 in
theorem slcut_some_any (t : ByteArray) (a b : List UInt8) (m : Nat) (w : World) (h : Ds.cutC 59 (Ds.bl t) = some (a, b)) (hm : a.length = m) (hs : t.size ≤ 9223372036854775000) :
    Calls Tryz.prog 204 #[.string t, .string ⟨#[59]⟩] w fun e w' => e = .returned (.tuple #[.string (t.extract 0 m), .string (t.extract (m + 1) t.size), .bool true]) ∧ ∃ nq, w.drewN nq = w' := by
  have HI := Sh.stringslite_Index_one t 59 w
  rw [Ds.idx_some h, hm] at HI
  have HI2 := hid HI
  have hl : m < t.size := by
    have := congrArg List.length (Ds.cut_eq h)
    rw [bl_len, List.length_append, List.length_cons] at this
    omega
  have hl' : (m : Int) < t.size := by omega
  clear HI h hm
  go_enter Tryz.func204, Tryz.ntmps204
  go_wp2_with (go_at_call 198; refine HI2.out.mono ?_; rintro e w1 ⟨rfl, rfl⟩)
  have hs1 : IntKind.i64.wrap ((m : Int) + 1) = (m : Int) + 1 := IntWalk.i64_in _ (by omega)
  have hs2 : (0 : Int) ≤ (m : Int) + 1 := by omega
  have hs3 : ((m : Int) + 1).toNat = m + 1 := by omega
  have hs4 : (m : Int) + 1 ≤ t.size := by omega
  go_quiet (fail)
  clear hs1 hs2 hs3 hs4
  go_wp2
  go_ret3
  exact ⟨rfl, _, rfl⟩
set_option maxRecDepth 100000 in
theorem cut_none_any (t : ByteArray) (w : World) (h : Ds.cutC 59 (Ds.bl t) = none) : Calls Tryz.prog 191 #[.string t, .string ⟨#[59]⟩] w fun e w' => e = .returned (.tuple #[.string t, .string ⟨#[]⟩, .bool false]) ∧ w = w' := by
  have HI2 := hid (slcut_none_any t w h)
  clear h
  go_enter Tryz.func191, Tryz.ntmps191
  go_wp2_with (go_at_call 204; refine HI2.out.mono ?_; rintro e w1 ⟨rfl, rfl⟩)
  go_ret3
  exact ⟨rfl, rfl⟩
set_option maxRecDepth 100000 in
theorem cut_some_any (t : ByteArray) (a b : List UInt8) (m : Nat) (w : World) (h : Ds.cutC 59 (Ds.bl t) = some (a, b)) (hm : a.length = m) (hs : t.size ≤ 9223372036854775000) :
    Calls Tryz.prog 191 #[.string t, .string ⟨#[59]⟩] w fun e w' => e = .returned (.tuple #[.string (t.extract 0 m), .string (t.extract (m + 1) t.size), .bool true]) ∧ ∃ nq, w.drewN nq = w' := by
  have HI2 := hid (slcut_some_any t a b m w h hm hs)
  clear h hm
  go_enter Tryz.func191, Tryz.ntmps191
  go_wp2_with (go_at_call 204; refine HI2.out.mono ?_; rintro e w1 ⟨rfl, nq, rfl⟩)
  go_ret3
  exact ⟨rfl, _, rfl⟩
/-- What a step of the reader leaves: nothing below it has turned; so much is left. -/
def Step (pb mb : Nat) (t' : ByteArray) (w w' : World) : Prop := w.grownBy w' (some pb) ∧ Rd w' pb mb t'
theorem grown_of_below {w w' : World} (h : Below w.heap.size w w') (row : Option Nat) : w.grownBy w' row := ⟨h.os, h.tape, h.output, h.size, fun i hi _ => h.block i hi⟩
theorem grown_trans {a b c : World} {r : Nat} (h : a.grownBy b (some r)) (k : b.grownBy c (some r)) : a.grownBy c (some r) :=
  ⟨k.os.trans h.os, k.tape.trans h.tape, k.output.trans h.output, Nat.le_trans h.size k.size, fun i hi hne => (k.block i (Nat.lt_of_lt_of_le hi h.size) hne).trans (h.block i hi hne)⟩
theorem Rd.keep {w w' : World} {pb mb r : Nat} {t : ByteArray} (h : Rd w pb mb t) (hg : w.grownBy w' (some r)) (hne : pb ≠ r) (hne2 : mb ≠ r) : Rd w' pb mb t := by
  refine ⟨(hg.block pb h.sz (fun e => hne (Option.some.inj e))).trans h.cells, ?_, h.lt⟩
  obtain ⟨es, clock, h1, h2, h3, h4⟩ := h.kmap
  exact ⟨es, clock, (hg.block mb (by have := h.sz; have := h.lt; omega) (fun e => hne2 (Option.some.inj e))).trans h1, h2, h3, h4⟩
theorem cut_parts {t : ByteArray} {a b : List UInt8} {m : Nat} (h : Ds.cutC 59 (Ds.bl t) = some (a, b)) (hm : a.length = m) : Ds.bl (t.extract 0 m) = a ∧ Ds.bl (t.extract (m + 1) t.size) = b ∧ m < t.size := by
  have hl : m < t.size := by
    have := congrArg List.length (Ds.cut_eq h)
    rw [bl_len, List.length_append, List.length_cons] at this
    omega
  refine ⟨by rw [bl_ext, Ds.cut_eq h, ← hm]; simp, ?_, hl⟩
  rw [bl_ext, ← bl_len, Ds.cut_eq h, ← hm]
  rw [show (a ++ 59 :: b).drop (a.length + 1) = b by rw [List.drop_append, List.drop_eq_nil_of_le (by omega)]; simp]
  exact List.take_of_length_le (by simp; omega)
theorem nameE_ok {l : List UInt8} (h : l.length ≤ 255) : nameE l = if Ds.classB l = true then 0 else 21 := by unfold nameE; rw [if_neg (by omega)]
set_option maxRecDepth 100000 in
set_option maxHeartbeats 400000 in
theorem name_ok (pb mb : Nat) (t : ByteArray) (a b : List UInt8) (m : Nat) (w : World) (hr : Rd w pb mb t) (h : Ds.cutC 59 (Ds.bl t) = some (a, b)) (hm : a.length = m) (hc : Ds.classB a = true) (hs : t.size ≤ 255) :
    Calls Tryz.prog 175 #[.pointer (some ⟨pb, 0, none⟩)] w fun e w' => e = .returned (.string (t.extract 0 m)) ∧ Step pb mb (t.extract (m + 1) t.size) w w' := by
  have cl := hr.left
  obtain ⟨p1, p2, p3⟩ := cut_parts h hm
  have HC := hid (cut_some_any t a b m w h hm (by omega))
  have hn : nameE (Ds.bl (t.extract 0 m)) = 0 := by rw [nameE_ok (by rw [bl_len]; have := ext_size t 0 m; omega), p1, hc]; rfl
  have HN := fun W => className_any (t.extract 0 m) W
  rw [hn] at HN
  have HN2 := hid HN
  have HR := hid hr
  have hsz := hr.sz
  clear HN h hm hc p1 p2 hn hr
  go_enter Tryz.func175, Tryz.ntmps175
  go_wp2_with (first
    | (go_at_call 191; refine HC.out.mono ?_; rintro e w0 ⟨rfl, nq, rfl⟩)
    | (go_at_call 68; refine (HN2.out _).mono ?_; rintro e w1 ⟨rfl, hb1⟩; have HR1 := hid (HR.out.below (n₀ := w.heap.size) (belows (b := w.drewN nq) (by repeat' first | with_reducible exact Below.refl _ _ | with_reducible assumption | with_reducible refine belows_drewN ?_ _ | with_reducible refine Below.drew ?_ | with_reducible refine Below.setCell ?_ ?_ _ | with_reducible refine Below.alloc ?_ ?_ _ | omega | (simp; done) | (simp; omega)) hb1 (Nat.le_refl _)) hsz); have cl1 := HR1.out.left; have fl1 := HR1.out.frozen 0))
  go_ret
  exact ⟨rfl, grown_trans (grown_of_below (belows (B := w.heap.size) (b := w.drewN nq) (by repeat' first | with_reducible exact Below.refl _ _ | with_reducible assumption | with_reducible refine belows_drewN ?_ _ | with_reducible refine Below.drew ?_ | with_reducible refine Below.setCell ?_ ?_ _ | with_reducible refine Below.alloc ?_ ?_ _ | omega | (simp; done) | (simp; omega)) hb1 (Nat.le_refl _)) _) (grownBy_setCell' _ _ _), HR1.out.set _⟩
set_option maxRecDepth 100000 in
set_option maxHeartbeats 400000 in
theorem name_bad (pb mb : Nat) (t : ByteArray) (w : World) (hr : Rd w pb mb t) (h : ∀ a b, Ds.cutC 59 (Ds.bl t) = some (a, b) → Ds.classB a = false) (hs : t.size ≤ 255) :
    Calls Tryz.prog 175 #[.pointer (some ⟨pb, 0, none⟩)] w fun e w' => e = bad ∧ Below w.heap.size w w' := by
  have cl := hr.left
  unfold bad
  cases hcut : Ds.cutC 59 (Ds.bl t) with
  | none =>
    have HC := hid (cut_none_any t w hcut)
    clear h hr hcut
    go_enter Tryz.func175, Tryz.ntmps175
    go_wp2_with (go_at_call 191; refine HC.out.mono ?_; rintro e w1 ⟨rfl, rfl⟩)
    exact ⟨rfl, rfl, (by repeat' first | with_reducible exact Below.refl _ _ | with_reducible assumption | with_reducible refine belows_drewN ?_ _ | with_reducible refine Below.drew ?_ | with_reducible refine Below.setCell ?_ ?_ _ | with_reducible refine Below.alloc ?_ ?_ _ | omega | (simp; done) | (simp; omega))⟩
  | some ab =>
    obtain ⟨a, b⟩ := ab
    have hc := h a b hcut
    obtain ⟨m, hm⟩ : ∃ m, a.length = m := ⟨_, rfl⟩
    obtain ⟨p1, p2, p3⟩ := cut_parts hcut hm
    have HC := hid (cut_some_any t a b m w hcut hm (by omega))
    have hn : nameE (Ds.bl (t.extract 0 m)) = 21 := by rw [nameE_ok (by rw [bl_len]; have := ext_size t 0 m; omega), p1, hc]; rfl
    have HN := fun W => className_any (t.extract 0 m) W
    rw [hn] at HN
    have HN2 := hid HN
    clear HN h hm hc p1 p2 hn hr hcut
    go_enter Tryz.func175, Tryz.ntmps175
    go_wp2_with (first
      | (go_at_call 191; refine HC.out.mono ?_; rintro e w0 ⟨rfl, nq, rfl⟩)
      | (go_at_call 68; refine (HN2.out _).mono ?_; rintro e w1 ⟨rfl, hb1⟩))
    exact ⟨rfl, rfl, belows (b := w.drewN nq) (by repeat' first | with_reducible exact Below.refl _ _ | with_reducible assumption | with_reducible refine belows_drewN ?_ _ | with_reducible refine Below.drew ?_ | with_reducible refine Below.setCell ?_ ?_ _ | with_reducible refine Below.alloc ?_ ?_ _ | omega | (simp; done) | (simp; omega)) hb1 (Nat.le_refl _)⟩
end Go.Proofs.YtjnjnfhboafcgaaGreatDoor.L2
namespace Go.Proofs.YtjnjnfhboafcgaaGreatDoor.L2.Ds

/-- Its kind, its name, how many bytes it has. -/
def rd : List UInt8 → Option (Int × List UInt8 × Nat)
  | [] => none
  | c :: l =>
    if c = 73 then some (1, [], 1)
    else if c = 74 then some (2, [], 1)
    else if c = 91 then match rd l with | none => none | some (_, _, n) => some (4, (c :: l).take (n + 1), n + 1)
    else if c = 76 then match cutC 59 l with | none => none | some (a, _) => if classB a = true then some (4, a, a.length + 2) else none
    else none
theorem rd_len : ∀ {l : List UInt8} {k : Int} {m : List UInt8} {n : Nat}, rd l = some (k, m, n) → 1 ≤ n ∧ n ≤ l.length
  | [], _, _, _, h => by cases h
  | c :: l, k, m, n, h => by
    unfold rd at h
    split at h
    · simp only [Option.some.injEq, Prod.mk.injEq] at h
      rw [List.length_cons]; omega
    · split at h
      · simp only [Option.some.injEq, Prod.mk.injEq] at h
        rw [List.length_cons]; omega
      · split at h
        · cases hr : rd l with
          | none => rw [hr] at h; cases h
          | some x =>
            obtain ⟨k', m', n'⟩ := x
            rw [hr] at h
            simp only [Option.some.injEq, Prod.mk.injEq] at h
            have := rd_len hr
            rw [List.length_cons]; omega
        · split at h
          · cases hr : cutC 59 l with
            | none => rw [hr] at h; cases h
            | some x =>
              obtain ⟨a, b⟩ := x
              rw [hr] at h
              dsimp only at h
              split at h
              · simp only [Option.some.injEq, Prod.mk.injEq] at h
                have := congrArg List.length (cut_eq hr)
                rw [List.length_append, List.length_cons] at this
                rw [List.length_cons]; omega
              · cases h
          · cases h
end Go.Proofs.YtjnjnfhboafcgaaGreatDoor.L2.Ds
namespace Go.Proofs.YtjnjnfhboafcgaaGreatDoor.L2
open Go.RowKit

theorem ba_ext {a b : ByteArray} (h : Ds.bl a = Ds.bl b) : a = b := by
  cases a; cases b
  simp only [Ds.bl, Array.toList_inj] at h
  rw [h]
theorem ba_of {a : ByteArray} {l : List UInt8} (h : Ds.bl a = l) : a = ⟨l.toArray⟩ := ba_ext (by rw [h])
/-- A type as a value. -/
def tyV (k : Int) (m : List UInt8) : Value := .agg #[.int .i64 k, .string ⟨m.toArray⟩]
/-- A result that has not been laid. -/
def RB (w : World) (B : Nat) : Prop := w.heap[B]? = some (.cells #[.int .i64 0, .string ⟨#[]⟩] 132 (0, 0))
theorem RB.new (w : World) : RB (w.alloc (.cells #[.int .i64 0, .string ⟨#[]⟩] 132)) w.heap.size := World.alloc_heap_new w _
theorem RB.sz {w : World} {B : Nat} (h : RB w B) : B < w.heap.size := (Array.getElem?_eq_some_iff.1 h).1
theorem RB.keep {w w' : World} {B r : Nat} (h : RB w B) (hg : w.grownBy w' (some r)) (hne : B ≠ r) : RB w' B := (hg.block B h.sz (fun e => hne (Option.some.inj e))).trans h
theorem RB.facts {w : World} {B : Nat} (h : RB w B) : w.cell? ⟨B, 0, none⟩ = some (.int .i64 0) ∧ w.cell? ⟨B, 1, none⟩ = some (.string ⟨#[]⟩) ∧ w.frozen? ⟨B, 0, none⟩ = false ∧ w.frozen? ⟨B, 1, none⟩ = false := by
  refine ⟨?_, ?_, ?_, ?_⟩ <;> simp [World.cell?, World.frozen?, show w.heap[B]? = _ from h]
theorem take_step (pb mb : Nat) (t : ByteArray) (c : UInt8) (l : List UInt8) (w : World) (hr : Rd w pb mb t) (h : Ds.bl t = c :: l) : Calls Tryz.prog 173 #[.pointer (some ⟨pb, 0, none⟩)] w fun e w' => e = .returned (.int .u8 (c.toNat : Nat)) ∧ Step pb mb (t.extract 1 t.size) w w' :=
  (take_ok pb mb t c l w hr h).mono fun _ _ ⟨he, hw⟩ => ⟨he, by subst hw; exact ⟨grownBy_setCell' _ _ _, hr.set _⟩⟩
set_option maxRecDepth 100000 in
theorem reference_any (s : ByteArray) (w : World) : Calls Tryz.prog 174 #[.string s] w fun e w' => e = .returned (.agg #[.int .i64 4, .string s]) ∧ Below w.heap.size w w' := by
  go_enter Tryz.func174, Tryz.ntmps174
  go_wp2
  exact bodyPost_ret (v := .agg #[.int .i64 4, .string s]) (by simp [results, Tryz.results174, go_sem]) rfl ⟨rfl, (by repeat' first | with_reducible exact Below.refl _ _ | with_reducible assumption | with_reducible refine belows_drewN ?_ _ | with_reducible refine Below.drew ?_ | with_reducible refine Below.setCell ?_ ?_ _ | with_reducible refine Below.alloc ?_ ?_ _ | omega | (simp; done) | (simp; omega))⟩
def FieldOk (pb mb : Nat) (k : Int) (m : List UInt8) (t' : ByteArray) (w : World) (e : Ending) (w' : World) : Prop := e = .returned (tyV k m) ∧ Step pb mb t' w w'
/-- The world behind the result's box. -/
theorem box_grown {w w' : World} {o : Obj} {r : Nat} (h : (w.alloc o).grownBy w' (some r)) : w.grownBy w' (some r) := grown_trans (grown_of_below ((Below.refl _ w).alloc (Nat.le_refl _) o) _) h
theorem store_grown {w w' : World} {B r : Nat} {a b : Value} (hB : w.heap.size ≤ B) (h : w.grownBy w' (some r)) : w.grownBy ((w'.setCell ⟨B, 0, none⟩ a).setCell ⟨B, 1, none⟩ b) (some r) := by
  refine ⟨h.os, h.tape, h.output, by simp; exact h.size, fun i hi hne => ?_⟩
  rw [Below.heap_setCell _ _ _ i (by show i ≠ B; omega), Below.heap_setCell _ _ _ i (by show i ≠ B; omega)]
  exact h.block i hi hne
theorem Rd.store {w : World} {pb mb B : Nat} {t : ByteArray} {a b : Value} (h : Rd w pb mb t) (h1 : pb ≠ B) (h2 : mb ≠ B) : Rd ((w.setCell ⟨B, 0, none⟩ a).setCell ⟨B, 1, none⟩ b) pb mb t := by
  have hg : ∀ (j : Nat) (u : World) (v : Value), u.grownBy (u.setCell ⟨B, j, none⟩ v) (some B) := fun j u v => ⟨rfl, rfl, rfl, by simp, fun i _ hne => Below.heap_setCell _ _ _ i (fun e => hne (by rw [e]))⟩
  exact (h.keep (hg 0 _ _) h1 h2).keep (hg 1 _ _) h1 h2
set_option maxRecDepth 100000 in
set_option maxHeartbeats 400000 in
theorem field_letter (pb mb : Nat) (t : ByteArray) (c : UInt8) (l : List UInt8) (w : World) (hr : Rd w pb mb t) (h : Ds.bl t = c :: l) (hk : isK c = true) (h91 : ((c.toNat : Int) == 91) = false) (h76 : ((c.toNat : Int) == 76) = false) :
    Calls Tryz.prog 149 #[.pointer (some ⟨pb, 0, none⟩)] w (FieldOk pb mb (kindOf c) [] (t.extract 1 t.size) w) := by
  unfold FieldOk tyV
  have cl := hr.left
  have hps := hr.sz
  have hmp := hr.lt
  have HT := hid (fun W (hW : Below w.heap.size w W) => take_step pb mb t c l W (hr.below hW hps) h)
  have hRB := RB.new w
  have HRB := hid hRB
  have HK := hid hk
  clear hr h hRB hk
  go_enter Tryz.func149, Tryz.ntmps149
  go_wp2_with (go_at_call 173; refine (HT.out _ (by repeat' first | with_reducible exact Below.refl _ _ | with_reducible assumption | with_reducible refine belows_drewN ?_ _ | with_reducible refine Below.drew ?_ | with_reducible refine Below.setCell ?_ ?_ _ | with_reducible refine Below.alloc ?_ ?_ _ | omega | (simp; done) | (simp; omega))).mono ?_; rintro e w1 ⟨rfl, hg1, hr1⟩; have HR1 := hid hr1; have cl1 := hr1.left; have ck1 := hr1.kinds; have hlk := kmap_look hr1.kmap c; rw [HK.out] at hlk; have HRB1 := hid (HRB.out.keep hg1 (by omega)); obtain ⟨b0, b1, f0, f1⟩ := HRB1.out.facts; have HG1 := hid hg1; clear hr1 hg1)
  exact bodyPost_ret (v := .agg #[.int .i64 (kindOf c), .string ⟨#[]⟩]) (by simp [results, Tryz.results149, go_sem, b0, b1]) rfl ⟨rfl, store_grown (Nat.le_refl _) (box_grown HG1.out), HR1.out.store (by omega) (by omega)⟩
theorem rest_size {t : ByteArray} {c : UInt8} {l : List UInt8} (h : Ds.bl t = c :: l) : (t.extract 1 t.size).size = l.length ∧ t.size = l.length + 1 := by
  have h1 := congrArg List.length (rest_at h)
  have h2 := congrArg List.length h
  rw [bl_len] at h1 h2
  exact ⟨h1, by rw [h2]; rfl⟩
set_option maxRecDepth 100000 in
set_option maxHeartbeats 400000 in
theorem field_obj (pb mb : Nat) (t : ByteArray) (l a b : List UInt8) (m : Nat) (w : World) (hr : Rd w pb mb t) (h : Ds.bl t = 76 :: l) (hcut : Ds.cutC 59 l = some (a, b)) (hm : a.length = m) (hcl : Ds.classB a = true) (hs : t.size ≤ 255) :
    Calls Tryz.prog 149 #[.pointer (some ⟨pb, 0, none⟩)] w (FieldOk pb mb 4 a (t.extract (m + 2) t.size) w) := by
  unfold FieldOk tyV
  have cl := hr.left
  have hps := hr.sz
  have hmp := hr.lt
  have HT := hid (fun W (hW : Below w.heap.size w W) => take_step pb mb t 76 l W (hr.below hW hps) h)
  obtain ⟨z1, z2⟩ := rest_size h
  have hb1 := rest_at h
  have hcut' : Ds.cutC 59 (Ds.bl (t.extract 1 t.size)) = some (a, b) := by rw [hb1]; exact hcut
  have HN := hid (fun W (hW : Rd W pb mb (t.extract 1 t.size)) => name_ok pb mb (t.extract 1 t.size) a b m W hW hcut' hm hcl (by omega))
  obtain ⟨p1, p2, p3⟩ := cut_parts hcut' hm
  have E1 := hid (ba_of p1)
  have E2 : Hid ((t.extract 1 t.size).extract (m + 1) (t.extract 1 t.size).size = t.extract (m + 2) t.size) := by
    refine ba_ext ?_
    rw [p2, bl_ext, h]
    have h2 := Ds.cut_eq hcut
    rw [h2, show (m + 2) = (a.length + 1) + 1 by omega, List.drop_succ_cons, List.drop_append, List.drop_eq_nil_of_le (by omega)]
    rw [show a.length + 1 - a.length = 1 by omega]
    rw [List.nil_append, List.drop_succ_cons, List.drop_zero]
    rw [List.take_of_length_le]
    rw [z2, h2, List.length_append, List.length_cons]; omega
  have hRB := RB.new w
  have HRB := hid hRB
  clear hr h hRB hcut hcut' hm hcl p1 p2 p3 hb1 z1 z2
  go_enter Tryz.func149, Tryz.ntmps149
  go_wp2_with (first
    | (go_at_call 173; refine (HT.out _ (by repeat' first | with_reducible exact Below.refl _ _ | with_reducible assumption | with_reducible refine belows_drewN ?_ _ | with_reducible refine Below.drew ?_ | with_reducible refine Below.setCell ?_ ?_ _ | with_reducible refine Below.alloc ?_ ?_ _ | omega | (simp; done) | (simp; omega))).mono ?_; rintro e w1 ⟨rfl, hg1, hr1⟩; have HR1 := hid hr1; have HRB1 := hid (HRB.out.keep hg1 (by omega)); have HG1 := hid hg1; clear hr1 hg1)
    | (go_at_call 175; refine (HN.out _ HR1.out).mono ?_; rintro e w2 ⟨rfl, hg2, hr2⟩; have HR2 := hid hr2; have HRB2 := hid (HRB1.out.keep hg2 (by omega)); have HG2 := hid hg2; clear hr2 hg2)
    | (go_at_call 174; refine (reference_any _ _).mono ?_; rintro e w3 ⟨rfl, hb3⟩; have HR3 := hid (HR2.out.below hb3 HR2.out.sz); have HRB3 := hid (HRB2.out.keep (grown_of_below hb3 (some pb)) (by omega)); obtain ⟨b0, b1, f0, f1⟩ := HRB3.out.facts; have HB3 := hid hb3; clear hb3))
  exact bodyPost_ret (v := .agg #[.int .i64 4, .string ((t.extract 1 t.size).extract 0 m)]) (by simp [results, Tryz.results149, go_sem, b0, b1]) rfl ⟨by rw [E1.out], store_grown (Nat.le_refl _) (box_grown (grown_trans (grown_trans HG1.out HG2.out) (grown_of_below HB3.out _))), by rw [← E2.out]; exact HR3.out.store (by omega) (by omega)⟩
set_option maxRecDepth 100000 in
set_option maxHeartbeats 400000 in
theorem field_arr (pb mb : Nat) (t q : ByteArray) (l : List UInt8) (n j : Nat) (k : Int) (x : List UInt8) (w : World) (hr : Rd w pb mb t) (h : Ds.bl t = 91 :: l) (hq : Ds.bl q = l.drop n) (hn : n ≤ l.length) (hj : n + 1 = j) (hs : t.size ≤ 255)
    (HF : ∀ W, Rd W pb mb (t.extract 1 t.size) → Calls Tryz.prog 149 #[.pointer (some ⟨pb, 0, none⟩)] W (FieldOk pb mb k x q W)) :
    Calls Tryz.prog 149 #[.pointer (some ⟨pb, 0, none⟩)] w (FieldOk pb mb 4 ((91 :: l).take j) q w) := by
  unfold FieldOk tyV at HF ⊢
  have cl := hr.left
  have hps := hr.sz
  have hmp := hr.lt
  have HT := hid (fun W (hW : Below w.heap.size w W) => take_step pb mb t 91 l W (hr.below hW hps) h)
  have HF2 := hid HF
  obtain ⟨z1, z2⟩ := rest_size h
  have z3 : q.size = l.length - n := by rw [← bl_len, hq, List.length_drop]
  have hs1 : IntKind.i64.wrap ((t.size : Int) - (q.size : Int)) = (j : Int) := by rw [show (t.size : Int) - (q.size : Int) = (j : Int) by omega]; exact IntWalk.i64_in _ (by omega)
  have hs2 : (j : Int) ≤ t.size := by omega
  have E1 := hid (show Ds.bl (t.extract 0 j) = (91 :: l).take j by rw [bl_ext, h]; simp)
  have E2 := hid (ba_of E1.out)
  have hRB := RB.new w
  have HRB := hid hRB
  clear hr h hRB HF z1 z2 z3 hj hn hq
  go_enter Tryz.func149, Tryz.ntmps149
  go_wp2_with (first
    | (go_at_call 173; refine (HT.out _ (by repeat' first | with_reducible exact Below.refl _ _ | with_reducible assumption | with_reducible refine belows_drewN ?_ _ | with_reducible refine Below.drew ?_ | with_reducible refine Below.setCell ?_ ?_ _ | with_reducible refine Below.alloc ?_ ?_ _ | omega | (simp; done) | (simp; omega))).mono ?_; rintro e w1 ⟨rfl, hg1, hr1⟩; have HR1 := hid hr1; have HRB1 := hid (HRB.out.keep hg1 (by omega)); have HG1 := hid hg1; clear hr1 hg1)
    | (go_at_call 149; refine (HF2.out _ HR1.out).mono ?_; rintro e w2 ⟨rfl, hg2, hr2⟩; have HR2 := hid hr2; have cl2 := hr2.left; have HRB2 := hid (HRB1.out.keep hg2 (by omega)); have HG2 := hid hg2; clear hr2 hg2)
    | (go_at_call 174; refine (reference_any _ _).mono ?_; rintro e w3 ⟨rfl, hb3⟩; have HR3 := hid (HR2.out.below hb3 HR2.out.sz); have HRB3 := hid (HRB2.out.keep (grown_of_below hb3 (some pb)) (by omega)); obtain ⟨b0, b1, f0, f1⟩ := HRB3.out.facts; have HB3 := hid hb3; clear hb3))
  exact bodyPost_ret (v := .agg #[.int .i64 4, .string (t.extract 0 j)]) (by simp [results, Tryz.results149, go_sem, b0, b1]) rfl ⟨by rw [E2.out], store_grown (Nat.le_refl _) (box_grown (grown_trans (grown_trans HG1.out HG2.out) (grown_of_below HB3.out _))), HR3.out.store (by omega) (by omega)⟩
/-- A text that is none: no more is told than that little has turned. -/
def Bad (pb : Nat) (w : World) (e : Ending) (w' : World) : Prop := e = bad ∧ w.grownBy w' (some pb)
set_option maxRecDepth 100000 in
set_option maxHeartbeats 400000 in
theorem field_bad0 (pb mb : Nat) (t : ByteArray) (w : World) (hr : Rd w pb mb t) (h : Ds.bl t = []) :
    Calls Tryz.prog 149 #[.pointer (some ⟨pb, 0, none⟩)] w (Bad pb w) := by
  unfold Bad bad
  have cl := hr.left
  have hps := hr.sz
  have hmp := hr.lt
  have HT := hid (fun W (hW : Below w.heap.size w W) => take_bad pb mb t W (hr.below hW hps) h)
  clear hr h
  unfold bad at HT
  go_enter Tryz.func149, Tryz.ntmps149
  go_wp2_with (first
    | (go_at_call 173; refine (HT.out _ (by repeat' first | with_reducible exact Below.refl _ _ | with_reducible assumption | with_reducible refine belows_drewN ?_ _ | with_reducible refine Below.drew ?_ | with_reducible refine Below.setCell ?_ ?_ _ | with_reducible refine Below.alloc ?_ ?_ _ | omega | (simp; done) | (simp; omega))).mono ?_; rintro e w1 ⟨rfl, rfl⟩))
  exact ⟨rfl, rfl, grown_of_below (by repeat' first | with_reducible exact Below.refl _ _ | with_reducible assumption | with_reducible refine belows_drewN ?_ _ | with_reducible refine Below.drew ?_ | with_reducible refine Below.setCell ?_ ?_ _ | with_reducible refine Below.alloc ?_ ?_ _ | omega | (simp; done) | (simp; omega)) _⟩
set_option maxRecDepth 100000 in
set_option maxHeartbeats 400000 in
theorem field_badK (pb mb : Nat) (t : ByteArray) (c : UInt8) (l : List UInt8) (w : World) (hr : Rd w pb mb t) (h : Ds.bl t = c :: l) (hk : isK c = false) (h91 : ((c.toNat : Int) == 91) = false) (h76 : ((c.toNat : Int) == 76) = false) :
    Calls Tryz.prog 149 #[.pointer (some ⟨pb, 0, none⟩)] w (Bad pb w) := by
  unfold Bad bad
  have cl := hr.left
  have hps := hr.sz
  have hmp := hr.lt
  have HT := hid (fun W (hW : Below w.heap.size w W) => take_step pb mb t c l W (hr.below hW hps) h)
  have HK := hid hk
  clear hr h hk
  go_enter Tryz.func149, Tryz.ntmps149
  go_wp2_with (go_at_call 173; refine (HT.out _ (by repeat' first | with_reducible exact Below.refl _ _ | with_reducible assumption | with_reducible refine belows_drewN ?_ _ | with_reducible refine Below.drew ?_ | with_reducible refine Below.setCell ?_ ?_ _ | with_reducible refine Below.alloc ?_ ?_ _ | omega | (simp; done) | (simp; omega))).mono ?_; rintro e w1 ⟨rfl, hg1, hr1⟩; have HR1 := hid hr1; have cl1 := hr1.left; have ck1 := hr1.kinds; have hlk := kmap_look hr1.kmap c; rw [HK.out] at hlk; have HG1 := hid hg1; clear hr1 hg1)
  exact ⟨rfl, rfl, box_grown HG1.out⟩
set_option maxRecDepth 100000 in
set_option maxHeartbeats 400000 in
theorem field_badN (pb mb : Nat) (t : ByteArray) (l : List UInt8) (w : World) (hr : Rd w pb mb t) (h : Ds.bl t = 76 :: l) (hn : ∀ a b, Ds.cutC 59 l = some (a, b) → Ds.classB a = false) (hs : t.size ≤ 255) :
    Calls Tryz.prog 149 #[.pointer (some ⟨pb, 0, none⟩)] w (Bad pb w) := by
  unfold Bad
  have cl := hr.left
  have hps := hr.sz
  have hmp := hr.lt
  have HT := hid (fun W (hW : Below w.heap.size w W) => take_step pb mb t 76 l W (hr.below hW hps) h)
  obtain ⟨z1, z2⟩ := rest_size h
  have hb1 := rest_at h
  rw [← hb1] at hn
  have HN := hid (fun W (hW : Rd W pb mb (t.extract 1 t.size)) => name_bad pb mb (t.extract 1 t.size) W hW hn (by omega))
  clear hr h hn hb1 z1 z2
  unfold bad at HN ⊢
  go_enter Tryz.func149, Tryz.ntmps149
  go_wp2_with (first
    | (go_at_call 173; refine (HT.out _ (by repeat' first | with_reducible exact Below.refl _ _ | with_reducible assumption | with_reducible refine belows_drewN ?_ _ | with_reducible refine Below.drew ?_ | with_reducible refine Below.setCell ?_ ?_ _ | with_reducible refine Below.alloc ?_ ?_ _ | omega | (simp; done) | (simp; omega))).mono ?_; rintro e w1 ⟨rfl, hg1, hr1⟩; have HR1 := hid hr1; have HG1 := hid hg1; clear hr1 hg1)
    | (go_at_call 175; refine (HN.out _ HR1.out).mono ?_; rintro e w2 ⟨rfl, hb2⟩; have HB2 := hid hb2; clear hb2))
  exact ⟨rfl, rfl, box_grown (grown_trans HG1.out (grown_of_below HB2.out _))⟩
set_option maxRecDepth 100000 in
set_option maxHeartbeats 400000 in
theorem field_badA (pb mb : Nat) (t : ByteArray) (l : List UInt8) (w : World) (hr : Rd w pb mb t) (h : Ds.bl t = 91 :: l)
    (HF : ∀ W, Rd W pb mb (t.extract 1 t.size) → Calls Tryz.prog 149 #[.pointer (some ⟨pb, 0, none⟩)] W (Bad pb W)) :
    Calls Tryz.prog 149 #[.pointer (some ⟨pb, 0, none⟩)] w (Bad pb w) := by
  unfold Bad bad at HF ⊢
  have cl := hr.left
  have hps := hr.sz
  have hmp := hr.lt
  have HT := hid (fun W (hW : Below w.heap.size w W) => take_step pb mb t 91 l W (hr.below hW hps) h)
  have HF2 := hid HF
  clear hr h HF
  go_enter Tryz.func149, Tryz.ntmps149
  go_wp2_with (first
    | (go_at_call 173; refine (HT.out _ (by repeat' first | with_reducible exact Below.refl _ _ | with_reducible assumption | with_reducible refine belows_drewN ?_ _ | with_reducible refine Below.drew ?_ | with_reducible refine Below.setCell ?_ ?_ _ | with_reducible refine Below.alloc ?_ ?_ _ | omega | (simp; done) | (simp; omega))).mono ?_; rintro e w1 ⟨rfl, hg1, hr1⟩; have HR1 := hid hr1; have HG1 := hid hg1; clear hr1 hg1)
    | (go_at_call 149; refine (HF2.out _ HR1.out).mono ?_; rintro e w2 ⟨rfl, hg2⟩; have HG2 := hid hg2; clear hg2))
  exact ⟨rfl, rfl, box_grown (grown_trans HG1.out HG2.out)⟩
/-- What field does: as the text says. -/
def FieldPost (pb mb : Nat) (t : ByteArray) (w : World) : Ending → World → Prop := match Ds.rd (Ds.bl t) with
  | none => Bad pb w
  | some (k, m, n) => FieldOk pb mb k m (t.extract n t.size) w
theorem ext_drop (t : ByteArray) (n : Nat) : Ds.bl (t.extract n t.size) = (Ds.bl t).drop n := by
  rw [bl_ext]
  exact List.take_of_length_le (by rw [List.length_drop, bl_len]; omega)
theorem ext_ext (t : ByteArray) (n m : Nat) : (t.extract n t.size).extract m (t.extract n t.size).size = t.extract (n + m) t.size := ba_ext (by rw [ext_drop, ext_drop, ext_drop, List.drop_drop])
theorem u8_ne {c k : UInt8} (h : ¬ c = k) : ((c.toNat : Int) == (k.toNat : Int)) = false := by
  rw [beq_eq_false_iff_ne]; intro e; exact h (UInt8.toNat_inj.1 (by omega))
theorem field_rd (pb mb : Nat) : ∀ (l : List UInt8) (t : ByteArray) (w : World), Rd w pb mb t → Ds.bl t = l → t.size ≤ 255 → Calls Tryz.prog 149 #[.pointer (some ⟨pb, 0, none⟩)] w (FieldPost pb mb t w)
  | [], t, w, hr, h, _ => by unfold FieldPost; rw [h]; exact field_bad0 pb mb t w hr h
  | c :: l, t, w, hr, h, hs => by
    have IH := field_rd pb mb l
    unfold FieldPost at IH ⊢
    obtain ⟨z1, z2⟩ := rest_size h
    have hb1 := rest_at h
    rw [h]
    unfold Ds.rd
    by_cases c1 : c = 73
    · subst c1; rw [if_pos rfl]
      exact field_letter pb mb t 73 l w hr h rfl rfl rfl
    rw [if_neg c1]
    by_cases c2 : c = 74
    · subst c2; rw [if_pos rfl]
      exact field_letter pb mb t 74 l w hr h rfl rfl rfl
    rw [if_neg c2]
    by_cases c3 : c = 91
    · subst c3; rw [if_pos rfl]
      have IH2 : ∀ W, Rd W pb mb (t.extract 1 t.size) → _ := fun W hW => IH (t.extract 1 t.size) W hW hb1 (by omega)
      rw [hb1] at IH2
      cases hrd : Ds.rd l with
      | none => rw [hrd] at IH2; exact field_badA pb mb t l w hr h IH2
      | some x =>
        obtain ⟨k, m, n⟩ := x
        rw [hrd] at IH2
        have hn := Ds.rd_len hrd
        have := field_arr pb mb t _ l n (n + 1) k m w hr h (by rw [ext_drop, hb1]) hn.2 rfl hs IH2
        rw [ext_ext, Nat.add_comm 1 n] at this
        exact this
    rw [if_neg c3]
    by_cases c4 : c = 76
    · subst c4; rw [if_pos rfl]
      cases hcut : Ds.cutC 59 l with
      | none => exact field_badN pb mb t l w hr h (fun a b e => by rw [hcut] at e; cases e) hs
      | some ab =>
        obtain ⟨a, b⟩ := ab
        dsimp only
        cases hc : Ds.classB a with
        | true => exact field_obj pb mb t l a b a.length w hr h hcut rfl hc hs
        | false => exact field_badN pb mb t l w hr h (fun a' b' e => by rw [hcut] at e; cases e; exact hc) hs
    rw [if_neg c4]
    exact field_badK pb mb t c l w hr h (by simp [isK, c1, c2]) (u8_ne c3) (u8_ne c4)
end Go.Proofs.YtjnjnfhboafcgaaGreatDoor.L2
namespace Go.Proofs.YtjnjnfhboafcgaaGreatDoor.L2.Ds

abbrev Ty := Int × List UInt8
def argsF : Nat → List UInt8 → Option (List Ty × List UInt8)
  | 0, _ => none
  | _ + 1, [] => none
  | f + 1, c :: l => if c = 41 then some ([], l) else match rd (c :: l) with
    | none => none
    | some (k, m, n) => match argsF f ((c :: l).drop n) with
      | none => none
      | some (a, r) => some ((k, m) :: a, r)
def retF : List UInt8 → Option (Ty × List UInt8)
  | [] => none
  | c :: l => if c = 86 then some ((0, []), l) else match rd (c :: l) with
    | none => none
    | some (k, m, n) => some ((k, m), (c :: l).drop n)
def retM (a : List Ty) (l : List UInt8) : Option (List Ty × Ty × List UInt8) := match retF l with | none => none | some (y, s) => some (a, y, s)
def mdA (xs : List Ty) (f : Nat) (l : List UInt8) : Option (List Ty × Ty × List UInt8) := match argsF f l with
  | none => none
  | some (a, r) => retM (xs ++ a) r
def md : List UInt8 → Option (List Ty × Ty × List UInt8)
  | [] => none
  | c :: l => if c = 40 then mdA [] (l.length + 1) l else none
theorem mdA_nil {xs : List Ty} {f : Nat} : mdA xs (f + 1) [] = none := rfl
theorem mdA_shut {xs : List Ty} {f : Nat} {l : List UInt8} : mdA xs (f + 1) (41 :: l) = retM xs l := by
  unfold mdA argsF
  rw [if_pos rfl]
  dsimp only
  rw [List.append_nil]
theorem mdA_bad {xs : List Ty} {f : Nat} {c : UInt8} {l : List UInt8} (hc : ¬ c = 41) (h : rd (c :: l) = none) : mdA xs (f + 1) (c :: l) = none := by
  unfold mdA argsF
  rw [if_neg hc, h]
theorem mdA_step {xs : List Ty} {f : Nat} {c : UInt8} {l : List UInt8} {k : Int} {m : List UInt8} {n : Nat} (hc : ¬ c = 41) (h : rd (c :: l) = some (k, m, n)) : mdA xs (f + 1) (c :: l) = mdA (xs ++ [(k, m)]) f ((c :: l).drop n) := by
  unfold mdA
  conv => lhs; unfold argsF
  rw [if_neg hc, h]
  dsimp only
  cases argsF f ((c :: l).drop n) with
  | none => rfl
  | some y => obtain ⟨a, r⟩ := y; dsimp only; rw [List.append_assoc]; rfl
end Go.Proofs.YtjnjnfhboafcgaaGreatDoor.L2.Ds
namespace Go.Proofs.YtjnjnfhboafcgaaGreatDoor.L2
open Go.RowKit

def tyC (y : Ds.Ty) : List Value := [.int .i64 y.1, .string ⟨y.2.toArray⟩]
/-- A list of types in memory of its own. -/
def OwnT (w : World) (base : Nat) (v : Value) (l : List Ds.Ty) : Prop := w.ownsRow base 132 2 v l.length (l.flatMap tyC)
theorem nilT (w : World) (base : Nat) : OwnT w base (.slice none 0 0) [] := ⟨rfl, .inl ⟨rfl, rfl⟩⟩
theorem A.infoTy : (Tryz.prog.info? 132).map (fun i => (i.zero, i.size, i.bytes)) = some (some (.agg #[.int .i64 0, .string ⟨#[]⟩]), 2, 24) := by kernel_rfl
/-- A signature's cells. -/
def MB (w : World) (B : Nat) (v : Value) (k : Int) (m : ByteArray) : Prop := w.heap[B]? = some (.cells #[v, .int .i64 k, .string m] 181 (0, 0))
theorem MB.sz {w : World} {B : Nat} {v : Value} {k : Int} {m : ByteArray} (h : MB w B v k m) : B < w.heap.size := (Array.getElem?_eq_some_iff.1 h).1
theorem MB.grown {w w' : World} {B : Nat} {v : Value} {k : Int} {m : ByteArray} {row : Option Nat} (h : MB w B v k m) (hg : w.grownBy w' row) (hne : row ≠ some B) : MB w' B v k m := (hg.block B h.sz (fun e => hne e.symm)).trans h
theorem MB.alloc {w : World} {B : Nat} {v : Value} {k : Int} {m : ByteArray} (h : MB w B v k m) (o : Obj) : MB (w.alloc o) B v k m := (Below.block ((Below.refl w.heap.size w).alloc (Nat.le_refl _) o) B h.sz).trans h
theorem MB.facts {w : World} {B : Nat} {v : Value} {k : Int} {m : ByteArray} (h : MB w B v k m) : w.cell? ⟨B, 0, none⟩ = some v ∧ w.cell? ⟨B, 1, none⟩ = some (.int .i64 k) ∧ w.cell? ⟨B, 2, none⟩ = some (.string m) ∧ w.frozen? ⟨B, 0, none⟩ = false ∧ w.frozen? ⟨B, 1, none⟩ = false ∧ w.frozen? ⟨B, 2, none⟩ = false := by
  refine ⟨?_, ?_, ?_, ?_, ?_, ?_⟩ <;> simp [World.cell?, World.frozen?, show w.heap[B]? = _ from h]
theorem MB.set0 {w : World} {B : Nat} {v : Value} {k : Int} {m : ByteArray} (h : MB w B v k m) (v' : Value) : MB (w.setCell ⟨B, 0, none⟩ v') B v' k m := by
  obtain ⟨hlt, hk⟩ := Array.getElem?_eq_some_iff.1 h
  show (w.heap.modify B _)[B]? = _
  rw [Array.getElem?_eq_getElem (by rw [Array.size_modify]; exact hlt), Array.getElem_modify_self, hk]
  rfl
theorem cf_field (v : Value) (w : World) : (callFunc 149 #[v]).run Tryz.prog w = .ok (.enter 149 #[v]) w := by kernel_rfl
def leftLen (pb : Nat) (w : World) : Nat := match w.cell? ⟨pb, 0, none⟩ with | some (.string t) => t.size | _ => 0
theorem Rd.leftLen {w : World} {pb mb : Nat} {t : ByteArray} (h : Rd w pb mb t) : leftLen pb w = t.size := by unfold Go.Proofs.YtjnjnfhboafcgaaGreatDoor.L2.leftLen; rw [h.left]
theorem Rd.grown {w w' : World} {pb mb : Nat} {t : ByteArray} {row : Option Nat} (h : Rd w pb mb t) (hg : w.grownBy w' row) (hne : row ≠ some pb) (hne2 : row ≠ some mb) : Rd w' pb mb t := by
  refine ⟨(hg.block pb h.sz (fun e => hne e.symm)).trans h.cells, ?_, h.lt⟩
  obtain ⟨es, clock, h1, h2, h3, h4⟩ := h.kmap
  exact ⟨es, clock, (hg.block mb (by have := h.sz; have := h.lt; omega) (fun e => hne2 e.symm)).trans h1, h2, h3, h4⟩
theorem set_grown (w : World) (B j : Nat) (u : Value) : w.grownBy (w.setCell ⟨B, j, none⟩ u) (some B) := ⟨rfl, rfl, rfl, by simp, fun i _ hne => Below.heap_setCell _ _ _ i (fun e => hne (by rw [e]))⟩
theorem skip_step (pb mb : Nat) (t : ByteArray) (c : UInt8) (l : List UInt8) (z : Int) (w : World) (hr : Rd w pb mb t) (h : Ds.bl t = c :: l) (he : (c.toNat : Int) = z) : Calls Tryz.prog 177 #[.pointer (some ⟨pb, 0, none⟩), .int .u8 z] w fun e w' => e = .returned (.bool true) ∧ Step pb mb (t.extract 1 t.size) w w' :=
  (skip_yes pb mb t c l z w hr h he).mono fun _ _ ⟨he, hw⟩ => ⟨he, by subst hw; exact ⟨grownBy_setCell' _ _ _, hr.set _⟩⟩
/-- What is held all along. -/
structure Fin (pb mb base : Nat) (w w' : World) (v : Value) (xs : List Ds.Ty) (q : ByteArray) : Prop where
  rd : Rd w' pb mb q
  own : OwnT w' base v xs
  grown : w.grownBy w' (some pb)
theorem Fin.set {pb mb base : Nat} {w w' : World} {v : Value} {xs : List Ds.Ty} {q : ByteArray} (h : Fin pb mb base w w' v xs q) (hp : pb < w.heap.size) {B : Nat} (hB : w.heap.size ≤ B) (hb : B < base) (j : Nat) (u : Value) : Fin pb mb base w (w'.setCell ⟨B, j, none⟩ u) v xs q := by
  have hm := h.rd.lt
  exact ⟨h.rd.grown (set_grown _ (B) j _) (by simp; omega) (by simp; omega), Kit.owns_grown h.own (set_grown _ (B) j _) hb, Kit.grown_own h.grown (set_grown _ (B) j _) (fun k e => by have := Option.some.inj e; omega)⟩
theorem Fin.below {pb mb base : Nat} {w w' w2 : World} {v : Value} {xs : List Ds.Ty} {q : ByteArray} (h : Fin pb mb base w w' v xs q) (hb : Below w'.heap.size w' w2) : Fin pb mb base w w2 v xs q :=
  ⟨h.rd.below hb h.rd.sz, Kit.owns_below h.own hb (Nat.le_refl _), grown_trans h.grown (grown_of_below hb _)⟩
theorem Fin.step {pb mb base : Nat} {w w' w2 : World} {v : Value} {xs : List Ds.Ty} {q q2 : ByteArray} (h : Fin pb mb base w w' v xs q) (hp : pb < base) (hs : Step pb mb q2 w' w2) : Fin pb mb base w w2 v xs q2 :=
  ⟨hs.2, Kit.owns_grown h.own hs.1 hp, grown_trans h.grown hs.1⟩
/-- The loop's state. -/
structure MSt (pb mb : Nat) (w w' : World) (v : Value) (xs : List Ds.Ty) (q : ByteArray) : Prop where
  fin : Fin pb mb (w.heap.size + 2) w w' v xs q
  box : MB w' (w.heap.size + 1) v 0 ⟨#[]⟩
  out : MB w' w.heap.size (.slice none 0 0) 0 ⟨#[]⟩
theorem MSt.below {pb mb : Nat} {w w' w2 : World} {v : Value} {xs : List Ds.Ty} {q : ByteArray} (h : MSt pb mb w w' v xs q) (hb : Below w'.heap.size w' w2) : MSt pb mb w w2 v xs q :=
  ⟨h.fin.below hb, h.box.grown (grown_of_below hb none) (by simp), h.out.grown (grown_of_below hb none) (by simp)⟩
theorem MSt.step {pb mb : Nat} {w w' w2 : World} {v : Value} {xs : List Ds.Ty} {q q2 : ByteArray} (h : MSt pb mb w w' v xs q) (hp : pb < w.heap.size) (hs : Step pb mb q2 w' w2) : MSt pb mb w w2 v xs q2 :=
  ⟨h.fin.step (by omega) hs, h.box.grown hs.1 (by simp; omega), h.out.grown hs.1 (by simp; omega)⟩
theorem own_block {w : World} {base : Nat} {e : TypeId} {size : Nat} {v : Value} {n : Nat} {xs : List Value} (h : w.ownsRow base e size v n xs) {b : Nat} (hb : b < base) : v.ownBlock ≠ some b := fun e => by have := Kit.own_base h b e; omega
theorem own_form {w : World} {base : Nat} {e : TypeId} {size : Nat} {v : Value} {n : Nat} {xs : List Value} (h : w.ownsRow base e size v n xs) : ∃ a cap, v = .slice a n cap := by
  rcases h.2 with ⟨rfl, rfl⟩ | ⟨g, cap, cur, rfl, -⟩
  · exact ⟨none, 0, rfl⟩
  · exact ⟨_, cap, rfl⟩
/-- Behind an append: before it is stored. -/
theorem MSt.append {pb mb : Nat} {w w' w2 : World} {v v' : Value} {xs : List Ds.Ty} {q : ByteArray} {y : Ds.Ty} (h : MSt pb mb w w' v xs q) (hp : pb < w.heap.size) (hg : w'.grownBy w2 v.ownBlock) (ho : w2.ownsRow (w.heap.size + 2) 132 2 v' (xs.length + 1) (xs.flatMap tyC ++ tyC y)) :
    Fin pb mb (w.heap.size + 2) w w2 v' (xs ++ [y]) q ∧ MB w2 (w.heap.size + 1) v 0 ⟨#[]⟩ ∧ MB w2 w.heap.size (.slice none 0 0) 0 ⟨#[]⟩ := by
  have hm := h.fin.rd.lt
  refine ⟨⟨h.fin.rd.grown hg (own_block h.fin.own (by omega)) (own_block h.fin.own (by omega)), ?_, Kit.grown_own h.fin.grown hg (fun j e => by have := Kit.own_base h.fin.own j e; omega)⟩, h.box.grown hg (own_block h.fin.own (by omega)), h.out.grown hg (own_block h.fin.own (by omega))⟩
  unfold OwnT
  rw [List.length_append, List.flatMap_append]
  simpa using ho
theorem MSt.close {pb mb : Nat} {w w2 : World} {v v' : Value} {xs : List Ds.Ty} {q : ByteArray} (h : Fin pb mb (w.heap.size + 2) w w2 v' xs q ∧ MB w2 (w.heap.size + 1) v 0 ⟨#[]⟩ ∧ MB w2 w.heap.size (.slice none 0 0) 0 ⟨#[]⟩) (hp : pb < w.heap.size) : MSt pb mb w (w2.setCell ⟨w.heap.size + 1, 0, none⟩ v') v' xs q :=
  ⟨h.1.set hp (by omega) (by omega) 0 _, h.2.1.set0 _, h.2.2.grown (set_grown _ (w.heap.size + 1) 0 _) (by simp)⟩
theorem news_ty (w : World) (k : Int) (m : ByteArray) : ∀ j u, [Value.int .i64 k, .string m][j]? = some u → (w.alloc (.cells #[.int .i64 k, .string m] 132)).cell? ((⟨w.heap.size, 0, none⟩ : Addr).add j) = some u := by
  intro j u hj
  match j, hj with
  | 0, hj => simp at hj; subst hj; simp [Addr.add, go_sem]
  | 1, hj => simp at hj; subst hj; simp [Addr.add, go_sem]
theorem ones_ty (k : Int) (m : ByteArray) : ∀ u ∈ [Value.int .i64 k, .string m], u.oneCell' = true := by
  intro u hu; simp at hu; rcases hu with rfl | rfl <;> rfl
theorem own_mono {w : World} {base base' : Nat} {e : TypeId} {size : Nat} {v : Value} {n : Nat} {xs : List Value} (h : w.ownsRow base e size v n xs) (hb : base' ≤ base) : w.ownsRow base' e size v n xs := by
  obtain ⟨h1, h2⟩ := h
  refine ⟨h1, ?_⟩
  rcases h2 with h2 | ⟨g, cap, cur, hv, hg, r⟩
  · exact .inl h2
  · exact .inr ⟨g, cap, cur, hv, by omega, r⟩
theorem fin_close {pb mb : Nat} {w w' : World} {v : Value} {xs : List Ds.Ty} {q : ByteArray} (h : Fin pb mb (w.heap.size + 2) w w' v xs q) (hp : pb < w.heap.size) (a b c d e : Value) :
    OwnT (((((w'.setCell ⟨w.heap.size + 1, 1, none⟩ a).setCell ⟨w.heap.size + 1, 2, none⟩ b).setCell ⟨w.heap.size, 0, none⟩ c).setCell ⟨w.heap.size, 1, none⟩ d).setCell ⟨w.heap.size, 2, none⟩ e) w.heap.size v xs ∧
    Step pb mb q w (((((w'.setCell ⟨w.heap.size + 1, 1, none⟩ a).setCell ⟨w.heap.size + 1, 2, none⟩ b).setCell ⟨w.heap.size, 0, none⟩ c).setCell ⟨w.heap.size, 1, none⟩ d).setCell ⟨w.heap.size, 2, none⟩ e) := by
  have h5 := ((((h.set hp (B := w.heap.size + 1) (by omega) (by omega) 1 a).set hp (B := w.heap.size + 1) (by omega) (by omega) 2 b).set hp (B := w.heap.size) (by omega) (by omega) 0 c).set hp (B := w.heap.size) (by omega) (by omega) 1 d).set hp (B := w.heap.size) (by omega) (by omega) 2 e
  exact ⟨own_mono h5.own (by omega), h5.grown, h5.rd⟩
/-- What method does, where the text says x. -/
def MdPost (pb mb : Nat) (w : World) (x : Option (List Ds.Ty × Ds.Ty × List UInt8)) (e : Ending) (w' : World) : Prop := match x with
  | none => Bad pb w e w'
  | some (a, y, s) => ∃ v q, e = .returned (.agg #[v, .int .i64 y.1, .string ⟨y.2.toArray⟩]) ∧ OwnT w' w.heap.size v a ∧ Ds.bl q = s ∧ Step pb mb q w w'
def MethodPost (pb mb : Nat) (t : ByteArray) (w : World) : Ending → World → Prop := MdPost pb mb w (Ds.md (Ds.bl t))
set_option maxRecDepth 100000 in
set_option maxHeartbeats 4000000 in
theorem method_open (pb mb : Nat) (t : ByteArray) (l : List UInt8) (w : World) (hr : Rd w pb mb t) (h : Ds.bl t = 40 :: l) (hs : t.size ≤ 255) :
    Calls Tryz.prog 151 #[.pointer (some ⟨pb, 0, none⟩)] w (MethodPost pb mb t w) := by
  have cl := hr.left
  have hps := hr.sz
  have hmp := hr.lt
  have HT := hid (fun W (hW : Below w.heap.size w W) => take_step pb mb t 40 l W (hr.below hW hps) h)
  rw [show MethodPost pb mb t w = MdPost pb mb w (Ds.mdA [] (l.length + 1) l) by unfold MethodPost; rw [h]; rfl]
  obtain ⟨z1, z2⟩ := rest_size h
  have hb1 := hid (rest_at h)
  obtain ⟨i0, hi, hz0, hz1, hz2⟩ := info_parts A.infoTy
  clear hr h
  go_enter Tryz.func151, Tryz.ntmps151
  go_wp2_with (go_at_call 173; refine (HT.out _ (by repeat' first | with_reducible exact Below.refl _ _ | with_reducible assumption | with_reducible refine belows_drewN ?_ _ | with_reducible refine Below.drew ?_ | with_reducible refine Below.setCell ?_ ?_ _ | with_reducible refine Below.alloc ?_ ?_ _ | omega | (simp; done) | (simp; omega))).mono ?_; rintro e w1 ⟨rfl, hg1, hr1⟩; have HR1 := hid hr1; have HG1 := hid hg1; clear hr1 hg1)
  go_loopw [] (fun wr => ∃ v xs q f, MSt pb mb w wr v xs q ∧ (Ds.bl q).length < f ∧ xs.length + q.size ≤ 255 ∧ Ds.mdA xs f (Ds.bl q) = Ds.mdA [] (l.length + 1) l) (fun wr => leftLen pb wr)
  case atStart =>
    refine ⟨_, [], _, l.length + 1, ⟨⟨HR1.out, nilT _ _, ?_⟩, ?_, ?_⟩, ?_, ?_, ?_⟩
    · exact box_grown (box_grown HG1.out)
    · have q1 := World.alloc_heap_new (w.alloc (.cells #[.slice none 0 0, .int .i64 0, .string ⟨#[]⟩] 181)) (.cells #[.slice none 0 0, .int .i64 0, .string ⟨#[]⟩] 181)
      rw [World.size_alloc] at q1
      exact (show MB _ _ _ _ _ from q1).grown HG1.out (by simp; omega)
    · exact ((show MB _ _ _ _ _ from World.alloc_heap_new _ _).alloc _).grown HG1.out (by simp; omega)
    · rw [hb1.out]; omega
    · rw [List.length_nil]; omega
    · rw [hb1.out]
  case round =>
    obtain ⟨v, xs, q, f, hst, hf, hsz, hmd⟩ := hrel
    obtain ⟨f, rfl⟩ : ∃ f', f = f' + 1 := ⟨f - 1, by omega⟩
    have HRd := hid (fun W (hW : Below wr.heap.size wr W) => hst.fin.rd.below hW hst.fin.rd.sz)
    have HSt := hid hst
    have HF0 := fun W (hW : Rd W pb mb q) => field_rd pb mb _ q W hW rfl (by omega)
    obtain ⟨c0, c1, c2, f0, f1, f2⟩ := hst.box.facts
    cases hq : Ds.bl q with
    | nil =>
      have HS := hid (fun W (hW : Rd W pb mb q) => skip_none pb mb q 41 W hW hq)
      unfold FieldPost at HF0
      rw [hq] at HF0 hmd
      rw [Ds.mdA_nil] at hmd
      have HF : Hid (∀ W, Rd W pb mb q → Calls Tryz.prog 149 #[.pointer (some ⟨pb, 0, none⟩)] W (Bad pb W)) := HF0
      have HMd := hid hmd
      unfold Bad bad at HF
      clear HF0 hmd hst hq
      go_wp2_with (go_at_call 177; refine (HS.out _ (HRd.out _ (by repeat' first | with_reducible exact Below.refl _ _ | with_reducible assumption | with_reducible refine belows_drewN ?_ _ | with_reducible refine Below.drew ?_ | with_reducible refine Below.setCell ?_ ?_ _ | with_reducible refine Below.alloc ?_ ?_ _ | omega | (simp; done) | (simp; omega)))).mono ?_; rintro e w2 ⟨rfl, rfl⟩)
      go_region_dies
      all_goals
        refine (HF.out _ (HRd.out _ (by repeat' first | with_reducible exact Below.refl _ _ | with_reducible assumption | with_reducible refine belows_drewN ?_ _ | with_reducible refine Below.drew ?_ | with_reducible refine Below.setCell ?_ ?_ _ | with_reducible refine Below.alloc ?_ ?_ _ | omega | (simp; done) | (simp; omega)))).mono ?_
        rintro e w2 ⟨rfl, hg2⟩
        try dsimp only
        try go_wp2
      all_goals exact ⟨rfl, by rw [← HMd.out]; exact ⟨rfl, grown_trans (grown_trans HSt.out.fin.grown (grown_of_below ((Below.refl _ _).drew) _)) hg2⟩⟩
    | cons c lq =>
      by_cases hc : c = 41
      · subst hc
        have HS := hid (fun W (hW : Rd W pb mb q) => skip_step pb mb q 41 lq 41 W hW hq rfl)
        rw [hq, Ds.mdA_shut] at hmd
        have hb2 := rest_at hq
        have hq1s := (rest_size hq).1
        obtain ⟨q1, hq1⟩ : ∃ q1, q1 = q.extract 1 q.size := ⟨_, rfl⟩
        rw [← hq1] at HS hb2 hq1s
        have hqs : q.size = lq.length + 1 := (rest_size hq).2
        have HF1 := fun W (hW : Rd W pb mb q1) => field_rd pb mb _ q1 W hW rfl (by omega)
        unfold FieldPost at HF1
        rw [hb2] at HF1
        have hps2 : w.heap.size < w.heap.size + 2 := by omega
        cases lq with
        | nil =>
          have HS2 := hid (fun W (hW : Rd W pb mb q1) => skip_none pb mb q1 86 W hW hb2)
          have HF : Hid (∀ W, Rd W pb mb q1 → Calls Tryz.prog 149 #[.pointer (some ⟨pb, 0, none⟩)] W (Bad pb W)) := HF1
          have HMd := hid hmd
          unfold Bad bad at HF
          clear HF0 HF1 hmd hst hq hq1 hb2
          go_wp2_with (first
            | (go_at_call 177; refine (HS2.out _ HSt2.out.fin.rd).mono ?_; rintro e w3 ⟨rfl, rfl⟩)
            | (go_at_call 177; refine (HS.out _ (HRd.out _ (by repeat' first | with_reducible exact Below.refl _ _ | with_reducible assumption | with_reducible refine belows_drewN ?_ _ | with_reducible refine Below.drew ?_ | with_reducible refine Below.setCell ?_ ?_ _ | with_reducible refine Below.alloc ?_ ?_ _ | omega | (simp; done) | (simp; omega)))).mono ?_; rintro e w2 ⟨rfl, hs2⟩; have HSt2 := hid (MSt.step HSt.out hps hs2); clear hs2)
            | (go_at_call 149; refine (HF.out _ HSt2.out.fin.rd).mono ?_; rintro e w3 ⟨rfl, hg3⟩))
          exact ⟨rfl, by rw [← HMd.out]; exact ⟨rfl, grown_trans HSt2.out.fin.grown hg3⟩⟩
        | cons c2 l2 =>
          obtain ⟨sa, sc, rfl⟩ := own_form hst.fin.own
          by_cases hc2 : c2 = 86
          · subst hc2
            have HS2 := hid (fun W (hW : Rd W pb mb q1) => skip_step pb mb q1 86 l2 86 W hW hb2 rfl)
            have HMd := hid hmd
            have HB2 := hid (rest_at hb2)
            clear HF0 HF1 hmd hst hq hq1 hb2
            go_wp2_with (first
              | (go_at_call 177; refine (HS2.out _ HSt2.out.fin.rd).mono ?_; rintro e w3 ⟨rfl, hs3⟩; have HSt3 := hid (MSt.step HSt2.out hps hs3); obtain ⟨d0, d1, d2, g0, g1, g2⟩ := HSt3.out.box.facts; obtain ⟨k0, k1, k2, j0, j1, j2⟩ := HSt3.out.out.facts; clear hs3)
              | (go_at_call 177; refine (HS.out _ (HRd.out _ (by repeat' first | with_reducible exact Below.refl _ _ | with_reducible assumption | with_reducible refine belows_drewN ?_ _ | with_reducible refine Below.drew ?_ | with_reducible refine Below.setCell ?_ ?_ _ | with_reducible refine Below.alloc ?_ ?_ _ | omega | (simp; done) | (simp; omega)))).mono ?_; rintro e w2 ⟨rfl, hs2⟩; have HSt2 := hid (MSt.step HSt.out hps hs2); clear hs2))
            have HC := fin_close HSt3.out.fin hps (.int .i64 0) (.string ⟨#[]⟩) (.slice sa xs.length sc) (.int .i64 0) (.string ⟨#[]⟩)
            exact bodyPost_ret (v := .agg #[.slice sa xs.length sc, .int .i64 0, .string ⟨#[]⟩]) (by simp [results, Tryz.results151, go_sem, k0, k1, k2]) rfl (by rw [← HMd.out, show Ds.retM xs (86 :: l2) = some (xs, ((0, []), l2)) from by simp [Ds.retM, Ds.retF]]; exact ⟨_, _, rfl, HC.1, HB2.out, HC.2⟩)
          · have HS2 := hid (fun W (hW : Rd W pb mb q1) => skip_other pb mb q1 c2 l2 86 W hW hb2 (fun e => hc2 (UInt8.toNat_inj.1 (by rw [show (86 : UInt8).toNat = 86 from rfl]; omega))))
            have hret : Ds.retM xs (c2 :: l2) = match Ds.rd (c2 :: l2) with | none => none | some (k, m, n) => some (xs, ((k, m), (c2 :: l2).drop n)) := by
              unfold Ds.retM Ds.retF
              dsimp only
              rw [if_neg hc2]
              cases Ds.rd (c2 :: l2) with
              | none => rfl
              | some y => rfl
            cases hrd : Ds.rd (c2 :: l2) with
            | none =>
              rw [hrd] at HF1 hret
              have HF : Hid (∀ W, Rd W pb mb q1 → Calls Tryz.prog 149 #[.pointer (some ⟨pb, 0, none⟩)] W (Bad pb W)) := HF1
              rw [hret] at hmd
              have HMd := hid hmd
              unfold Bad bad at HF
              clear HF0 HF1 hmd hst hq hq1 hb2 hret hrd
              go_wp2_with (first
                | (go_at_call 177; refine (HS2.out _ HSt2.out.fin.rd).mono ?_; rintro e w3 ⟨rfl, rfl⟩)
                | (go_at_call 177; refine (HS.out _ (HRd.out _ (by repeat' first | with_reducible exact Below.refl _ _ | with_reducible assumption | with_reducible refine belows_drewN ?_ _ | with_reducible refine Below.drew ?_ | with_reducible refine Below.setCell ?_ ?_ _ | with_reducible refine Below.alloc ?_ ?_ _ | omega | (simp; done) | (simp; omega)))).mono ?_; rintro e w2 ⟨rfl, hs2⟩; have HSt2 := hid (MSt.step HSt.out hps hs2); clear hs2)
                | (go_at_call 149; refine (HF.out _ HSt2.out.fin.rd).mono ?_; rintro e w3 ⟨rfl, hg3⟩))
              exact ⟨rfl, by rw [← HMd.out]; exact ⟨rfl, grown_trans HSt2.out.fin.grown hg3⟩⟩
            | some y =>
              obtain ⟨k, m, n⟩ := y
              rw [hrd] at HF1 hret
              dsimp only at HF1 hret
              have HF : Hid (∀ W, Rd W pb mb q1 → Calls Tryz.prog 149 #[.pointer (some ⟨pb, 0, none⟩)] W (FieldOk pb mb k m (q1.extract n q1.size) W)) := HF1
              rw [hret] at hmd
              have HMd := hid hmd
              have HB2 := hid (show Ds.bl (q1.extract n q1.size) = (c2 :: l2).drop n by rw [ext_drop, hb2])
              unfold FieldOk tyV at HF
              clear HF0 HF1 hmd hst hq hq1 hb2 hret hrd
              go_wp2_with (first
                | (go_at_call 177; refine (HS2.out _ HSt2.out.fin.rd).mono ?_; rintro e w3 ⟨rfl, rfl⟩)
                | (go_at_call 177; refine (HS.out _ (HRd.out _ (by repeat' first | with_reducible exact Below.refl _ _ | with_reducible assumption | with_reducible refine belows_drewN ?_ _ | with_reducible refine Below.drew ?_ | with_reducible refine Below.setCell ?_ ?_ _ | with_reducible refine Below.alloc ?_ ?_ _ | omega | (simp; done) | (simp; omega)))).mono ?_; rintro e w2 ⟨rfl, hs2⟩; have HSt2 := hid (MSt.step HSt.out hps hs2); clear hs2)
                | (go_at_call 149; refine (HF.out _ HSt2.out.fin.rd).mono ?_; rintro e w3 ⟨rfl, hs3⟩; have HSt3 := hid (MSt.step HSt2.out hps hs3); obtain ⟨d0, d1, d2, g0, g1, g2⟩ := HSt3.out.box.facts; obtain ⟨k0, k1, k2, j0, j1, j2⟩ := HSt3.out.out.facts; clear hs3))
              have HC := fin_close HSt3.out.fin hps (.int .i64 k) (.string ⟨m.toArray⟩) (.slice sa xs.length sc) (.int .i64 k) (.string ⟨m.toArray⟩)
              exact bodyPost_ret (v := .agg #[.slice sa xs.length sc, .int .i64 k, .string ⟨m.toArray⟩]) (by simp [results, Tryz.results151, go_sem, k0, k1, k2]) rfl (by rw [← HMd.out]; exact ⟨_, _, rfl, HC.1, HB2.out, HC.2⟩)
      · have HS := hid (fun W (hW : Rd W pb mb q) => skip_other pb mb q c lq 41 W hW hq (fun e => hc (UInt8.toNat_inj.1 (by rw [show (41 : UInt8).toNat = 41 from rfl]; omega))))
        unfold FieldPost at HF0
        rw [hq] at HF0 hmd hf
        cases hrd : Ds.rd (c :: lq) with
        | none =>
          rw [Ds.mdA_bad hc hrd] at hmd
          rw [hrd] at HF0
          have HF : Hid (∀ W, Rd W pb mb q → Calls Tryz.prog 149 #[.pointer (some ⟨pb, 0, none⟩)] W (Bad pb W)) := HF0
          have HMd := hid hmd
          unfold Bad bad at HF
          clear HF0 hmd hst hq hrd hc
          go_wp2_with (go_at_call 177; refine (HS.out _ (HRd.out _ (by repeat' first | with_reducible exact Below.refl _ _ | with_reducible assumption | with_reducible refine belows_drewN ?_ _ | with_reducible refine Below.drew ?_ | with_reducible refine Below.setCell ?_ ?_ _ | with_reducible refine Below.alloc ?_ ?_ _ | omega | (simp; done) | (simp; omega)))).mono ?_; rintro e w2 ⟨rfl, rfl⟩)
          go_region_dies
          all_goals
            refine (HF.out _ (HRd.out _ (by repeat' first | with_reducible exact Below.refl _ _ | with_reducible assumption | with_reducible refine belows_drewN ?_ _ | with_reducible refine Below.drew ?_ | with_reducible refine Below.setCell ?_ ?_ _ | with_reducible refine Below.alloc ?_ ?_ _ | omega | (simp; done) | (simp; omega)))).mono ?_
            rintro e w2 ⟨rfl, hg2⟩
            try dsimp only
            try go_wp2
          all_goals exact ⟨rfl, by rw [← HMd.out]; exact ⟨rfl, grown_trans (grown_trans HSt.out.fin.grown (grown_of_below ((Below.refl _ _).drew) _)) hg2⟩⟩
        | some y =>
          obtain ⟨k, m, n⟩ := y
          have hrl := Ds.rd_len hrd
          rw [Ds.mdA_step hc hrd, ← hq, ← ext_drop] at hmd
          rw [hrd] at HF0
          have hqs : (Ds.bl (q.extract n q.size)).length = q.size - n := by rw [ext_drop, List.length_drop, bl_len]
          obtain ⟨q2, hq2⟩ : ∃ q2, q2 = q.extract n q.size := ⟨_, rfl⟩
          rw [← hq2] at hmd hqs
          dsimp only at HF0
          rw [← hq2] at HF0
          have hql : q.size = (c :: lq).length := by rw [← hq, bl_len]
          have hq2l := bl_len q2
          have HF : Hid (∀ W, Rd W pb mb q → Calls Tryz.prog 149 #[.pointer (some ⟨pb, 0, none⟩)] W (FieldOk pb mb k m q2 W)) := HF0
          have HMd := hid hmd
          unfold FieldOk tyV at HF
          have HLl := hid hst.fin.rd.leftLen
          clear HF0 hmd hst hq hrd hc hq2
          go_wp2_with (go_at_call 177; refine (HS.out _ (HRd.out _ (by repeat' first | with_reducible exact Below.refl _ _ | with_reducible assumption | with_reducible refine belows_drewN ?_ _ | with_reducible refine Below.drew ?_ | with_reducible refine Below.setCell ?_ ?_ _ | with_reducible refine Below.alloc ?_ ?_ _ | omega | (simp; done) | (simp; omega)))).mono ?_; rintro e w2 ⟨rfl, rfl⟩)
          go_region_law (first
            | (refine Kit.step_append_own rfl (.tmp 12) (.tmp 15) 137 rfl (w.heap.size + 2) 132 i0 _ 2 24 Tryz.underlying137 hi hz0 hz1 hz2 rfl (by decide) v xs.length (xs.flatMap tyC) rfl (Kit.owns_below HSt2.out.fin.own ((Below.refl _ _).alloc (Nat.le_refl _) _) (Nat.le_refl _)) ⟨w2.heap.size, 0, none⟩ 1 1 [.int .i64 k, .string ⟨m.toArray⟩] rfl rfl (news_ty _ _ _) (ones_ty _ _) (by unfold maxLen; omega) (by omega) (by simp only [World.size_alloc]; omega) ?_; intro v' w3 ho3 hg3 hk3; have HA := hid (MSt.append (y := (k, m)) (HSt2.out.below ((Below.refl _ _).alloc (Nat.le_refl _) _)) hps hg3 ho3); obtain ⟨av, cv, rfl⟩ := own_form ho3; obtain ⟨e1, -, -, e0, -, -⟩ := HA.out.2.1.facts; clear ho3 hg3 hk3)
            | (refine Kit.step_call1 rfl 149 (.tmp 13) 177 rfl _ rfl (cf_field _ _) _ (HF.out _ ?_) ?_; exact HRd.out _ (by repeat' first | with_reducible exact Below.refl _ _ | with_reducible assumption | with_reducible refine belows_drewN ?_ _ | with_reducible refine Below.drew ?_ | with_reducible refine Below.setCell ?_ ?_ _ | with_reducible refine Below.alloc ?_ ?_ _ | omega | (simp; done) | (simp; omega)); rintro e w2 ⟨rfl, hs2⟩; refine ⟨_, rfl, ?_⟩; have HSt2 := hid (MSt.step (HSt.out.below ((Below.refl _ _).drew)) hps hs2); obtain ⟨d0, -, -, g0, -, -⟩ := HSt2.out.box.facts; have hsz2 := HSt2.out.box.sz; clear hs2))
          all_goals
            go_wp2
            go_roundw
            case rel => exact ⟨_, xs ++ [(k, m)], q2, f, MSt.close HA.out hps, by omega, by rw [List.length_append, List.length_singleton]; omega, HMd.out⟩
            case measure => rw [(MSt.close HA.out hps).fin.rd.leftLen, HLl.out]; omega
set_option maxRecDepth 100000 in
set_option maxHeartbeats 400000 in
theorem method_bad0 (pb mb : Nat) (t : ByteArray) (w : World) (hr : Rd w pb mb t) (h : Ds.bl t = []) :
    Calls Tryz.prog 151 #[.pointer (some ⟨pb, 0, none⟩)] w (Bad pb w) := by
  unfold Bad bad
  have hps := hr.sz
  have HT := hid (fun W (hW : Below w.heap.size w W) => take_bad pb mb t W (hr.below hW hps) h)
  clear hr h
  unfold bad at HT
  go_enter Tryz.func151, Tryz.ntmps151
  go_wp2_with (go_at_call 173; refine (HT.out _ (by repeat' first | with_reducible exact Below.refl _ _ | with_reducible assumption | with_reducible refine belows_drewN ?_ _ | with_reducible refine Below.drew ?_ | with_reducible refine Below.setCell ?_ ?_ _ | with_reducible refine Below.alloc ?_ ?_ _ | omega | (simp; done) | (simp; omega))).mono ?_; rintro e w1 ⟨rfl, rfl⟩)
  exact ⟨rfl, rfl, grown_of_below (by repeat' first | with_reducible exact Below.refl _ _ | with_reducible assumption | with_reducible refine belows_drewN ?_ _ | with_reducible refine Below.drew ?_ | with_reducible refine Below.setCell ?_ ?_ _ | with_reducible refine Below.alloc ?_ ?_ _ | omega | (simp; done) | (simp; omega)) _⟩
set_option maxRecDepth 100000 in
set_option maxHeartbeats 400000 in
theorem method_badK (pb mb : Nat) (t : ByteArray) (c : UInt8) (l : List UInt8) (w : World) (hr : Rd w pb mb t) (h : Ds.bl t = c :: l) (hk : ((c.toNat : Int) == 40) = false) :
    Calls Tryz.prog 151 #[.pointer (some ⟨pb, 0, none⟩)] w (Bad pb w) := by
  unfold Bad bad
  have hps := hr.sz
  have hkn : ((c.toNat : Int) != 40) = true := by rw [bne, hk]; rfl
  have HT := hid (fun W (hW : Below w.heap.size w W) => take_step pb mb t c l W (hr.below hW hps) h)
  clear hr h
  go_enter Tryz.func151, Tryz.ntmps151
  go_wp2_with (go_at_call 173; refine (HT.out _ (by repeat' first | with_reducible exact Below.refl _ _ | with_reducible assumption | with_reducible refine belows_drewN ?_ _ | with_reducible refine Below.drew ?_ | with_reducible refine Below.setCell ?_ ?_ _ | with_reducible refine Below.alloc ?_ ?_ _ | omega | (simp; done) | (simp; omega))).mono ?_; rintro e w1 ⟨rfl, hg1, hr1⟩)
  exact ⟨rfl, rfl, box_grown (box_grown hg1)⟩
theorem method_rd (pb mb : Nat) (t : ByteArray) (w : World) (hr : Rd w pb mb t) (hs : t.size ≤ 255) :
    Calls Tryz.prog 151 #[.pointer (some ⟨pb, 0, none⟩)] w (MethodPost pb mb t w) := by
  cases h : Ds.bl t with
  | nil =>
    have := method_bad0 pb mb t w hr h
    unfold MethodPost; rw [h]; exact this
  | cons c l =>
    by_cases hc : c = 40
    · subst hc; exact method_open pb mb t l w hr h hs
    · have := method_badK pb mb t c l w hr h (u8_ne hc)
      unfold MethodPost; rw [h]; unfold Ds.md; dsimp only; rw [if_neg hc]; exact this
end Go.Proofs.YtjnjnfhboafcgaaGreatDoor.L2
namespace Go.Proofs.YtjnjnfhboafcgaaGreatDoor.L2
open Go.RowKit

theorem A.eqBad (w : World) : (binOp .eql 20 (.iface 27 (.int .i64 20)) (.iface 27 (.int .i64 20))).run Tryz.prog w = .ok (.bool true) w := by kernel_rfl
theorem A.eqNone (w : World) : (binOp .eql 20 .nilIface (.iface 27 (.int .i64 20))).run Tryz.prog w = .ok (.bool false) w := by kernel_rfl
theorem A.neNone (w : World) : (binOp .neq 20 .nilIface .nilIface).run Tryz.prog w = .ok (.bool false) w := by kernel_rfl
set_option maxRecDepth 100000 in
theorem catchT_panicking (p : Addr) (x : Value) (older : List PanicEntry) (w : World) (hc : w.cell? p = some x) (hz : w.frozen? p = false) :
    CallsD Tryz.prog 171 #[.pointer (some p)] (.panicking ({ v := .iface 27 (.int .i64 20), recovered := false } :: older)) w fun e u' w' =>
      e = .returned (.tuple #[]) ∧ u' = .panicking ({ v := .iface 27 (.int .i64 20), recovered := true } :: older) ∧ w' = w.setCell p (.int .i64 20) := by
  refine callsD_of_wpS Tryz.func171 rfl fun c₀ cs hu => ?_
  apply wpS_seq
  apply wpS_region
  simp [wpOpsS, go_sem, recoverD, hu, Tryz.ntmps171, Exit.thenS]
  have q1 := A.eqBad
  refine wpS_of_wp ?_
  go_wp2
  simp [bodyPostS, results, Tryz.results171]
set_option maxRecDepth 100000 in
theorem catchT_idle (p : Addr) (w : World) :
    CallsD Tryz.prog 171 #[.pointer (some p)] .returning w fun e u' w' => e = .returned (.tuple #[]) ∧ u' = .returning ∧ w = w' := by
  refine callsD_of_wpS Tryz.func171 rfl fun c₀ cs hu => ?_
  apply wpS_seq
  apply wpS_region
  simp [wpOpsS, go_sem, recoverD, hu, Tryz.ntmps171, Exit.thenS]
  have q2 := A.eqNone
  have q3 := A.neNone
  refine wpS_of_wp ?_
  go_wp2
  cases c₀
  simp_all [bodyPostS, results, Tryz.results171]
/-- An errno's box. -/
def EB (w : World) (B : Nat) (z : Int) : Prop := w.heap[B]? = some (.cells #[.int .i64 z] 27 (0, 0))
theorem EB.new (w : World) (z : Int) : EB (w.alloc (.cells #[.int .i64 z] 27)) w.heap.size z := World.alloc_heap_new w _
theorem EB.sz {w : World} {B : Nat} {z : Int} (h : EB w B z) : B < w.heap.size := (Array.getElem?_eq_some_iff.1 h).1
theorem EB.grown {w w' : World} {B : Nat} {z : Int} {row : Option Nat} (h : EB w B z) (hg : w.grownBy w' row) (hne : row ≠ some B) : EB w' B z := (hg.block B h.sz (fun e => hne e.symm)).trans h
theorem EB.below {w w' : World} {B n : Nat} {z : Int} (h : EB w B z) (hb : Below n w w') (hn : B < n) : EB w' B z := (hb.block B hn).trans h
theorem EB.facts {w : World} {B : Nat} {z : Int} (h : EB w B z) : w.cell? ⟨B, 0, none⟩ = some (.int .i64 z) ∧ w.frozen? ⟨B, 0, none⟩ = false := by
  refine ⟨?_, ?_⟩ <;> simp [World.cell?, World.frozen?, show w.heap[B]? = _ from h]
theorem RB.below {w w' : World} {B n : Nat} (h : RB w B) (hb : Below n w w') (hn : B < n) : RB w' B := (hb.block B hn).trans h
theorem rd_new {w : World} {mb : Nat} (s : ByteArray) (hk : KMap w mb) (hm : mb < w.heap.size) : Rd (w.alloc (.cells #[.string s, .map (some mb)] 209)) w.heap.size mb s :=
  ⟨World.alloc_heap_new w _, hk.below ((Below.refl w.heap.size w).alloc (Nat.le_refl _) _) hm, hm⟩
/-- The two results' boxes, behind kinds and the reader's own box. -/
theorem boxes (w w1 : World) (h : Below (w.heap.size + 1 + 1) ((w.alloc (.cells #[.int .i64 0, .string ⟨#[]⟩] 132)).alloc (.cells #[.int .i64 0] 27)) w1) (o : Obj) :
    RB (w1.alloc o) w.heap.size ∧ EB (w1.alloc o) (w.heap.size + 1) 0 ∧ Below w.heap.size w (w1.alloc o) ∧ w.heap.size + 2 ≤ w1.heap.size := by
  have hz := h.size
  simp only [World.size_alloc] at hz
  have e1 := EB.new (w.alloc (.cells #[.int .i64 0, .string ⟨#[]⟩] 132)) 0
  rw [World.size_alloc] at e1
  have ha := (Below.refl w1.heap.size w1).alloc (Nat.le_refl _) o
  refine ⟨?_, ?_, ?_, by omega⟩
  · exact (((RB.new w).below (n := w.heap.size + 1) ((Below.refl _ _).alloc (by simp) _) (by omega)).below h (by omega)).below ha (by omega)
  · exact (e1.below h (by omega)).below ha (by omega)
  · exact (belows (b := (w.alloc (.cells #[.int .i64 0, .string ⟨#[]⟩] 132)).alloc (.cells #[.int .i64 0] 27)) (by repeat' first | with_reducible exact Below.refl _ _ | with_reducible assumption | with_reducible refine belows_drewN ?_ _ | with_reducible refine Below.drew ?_ | with_reducible refine Below.setCell ?_ ?_ _ | with_reducible refine Below.alloc ?_ ?_ _ | omega | (simp; done) | (simp; omega)) (h.mono (by simp only [World.size_alloc]; omega)) (by simp only [World.size_alloc]; omega)).alloc (by omega) _
/-- A result of two boxes. -/
theorem A.mkF (fn : Fn) (first cap : Array Value) (w : World) : (Instr.makeFunc fn first cap).run Tryz.prog w = .ok (.func fn first cap) w := rfl
def fieldFn : Value := .func (.func 149) #[] #[]
set_option maxRecDepth 100000 in
set_option maxHeartbeats 400000 in
theorem wholeT_long (s : ByteArray) (w : World) (hs : 255 < s.size) :
    Calls Tryz.prog 148 #[.string s, fieldFn] w fun e w' => e = .returned (.tuple #[tyV 0 [], .int .i64 3]) ∧ Below w.heap.size w w' := by
  unfold fieldFn tyV
  have hd : decide (255 < (s.size : Int)) = true := by simp; omega
  go_enter_defers Tryz.func148, Tryz.ntmps148
  go_wp2
  exact ⟨_, by simp [results, Tryz.results148, go_sem], rfl, (by repeat' first | with_reducible exact Below.refl _ _ | with_reducible assumption | with_reducible refine belows_drewN ?_ _ | with_reducible refine Below.drew ?_ | with_reducible refine Below.setCell ?_ ?_ _ | with_reducible refine Below.alloc ?_ ?_ _ | omega | (simp; done) | (simp; omega))⟩
set_option maxRecDepth 100000 in
set_option maxHeartbeats 400000 in
theorem wholeT_ok (s : ByteArray) (k : Int) (m : List UInt8) (w : World) (hs : s.size ≤ 255) (h : Ds.rd (Ds.bl s) = some (k, m, s.size)) :
    Calls Tryz.prog 148 #[.string s, fieldFn] w fun e w' => e = .returned (.tuple #[tyV k m, .int .i64 0]) ∧ Below w.heap.size w w' := by
  unfold fieldFn tyV
  have hd : decide (255 < (s.size : Int)) = false := by simp; omega
  have he : s.extract s.size s.size = ⟨#[]⟩ := ba_ext (by rw [ext_drop, List.drop_eq_nil_of_le (Nat.le_of_eq (bl_len s))])
  have HF0 : ∀ (pb mb : Nat) (W : World), Rd W pb mb s → Calls Tryz.prog 149 #[.pointer (some ⟨pb, 0, none⟩)] W (FieldOk pb mb k m ⟨#[]⟩ W) := by
    intro pb mb W hW
    have := field_rd pb mb _ s W hW rfl hs
    unfold FieldPost at this
    rw [h] at this
    rw [← he]
    exact this
  unfold FieldOk tyV at HF0
  have HF := hid HF0
  have hmf := A.mkF
  clear HF0 h he
  go_enter_defers Tryz.func148, Tryz.ntmps148
  go_wp2_with (first
    | (go_at_call 172; refine (kinds_any _).mono ?_; rintro e w1 ⟨rfl, hk1, hb1, hz1⟩; simp only [World.size_alloc] at hk1 hb1 hz1; have HK1 := hid hk1; have HB1 := hid hb1; clear hk1 hb1)
    | (go_at_call 149; refine (HF.out w1.heap.size (w.heap.size + 1 + 1) _ (rd_new s HK1.out hz1)).mono ?_; rintro e w2 ⟨rfl, hg2, hr2⟩; have HBx := hid (boxes w w1 HB1.out (.cells #[.string s, .map (some (w.heap.size + 1 + 1))] 209)); have hz2 := HBx.out.2.2.2; have HRB := hid (HBx.out.1.keep hg2 (by omega)); have HEB := hid (HBx.out.2.1.grown hg2 (by simp; omega)); have HW2 := hid (Below.grown HBx.out.2.2.1 hg2 (by simp; omega) (fun j e => by have := Option.some.inj e; omega)); obtain ⟨b0, b1, f0, f1⟩ := HRB.out.facts; obtain ⟨e0, e1⟩ := HEB.out.facts; have cl2 := hr2.left; have hs2 := hr2.sz; have hs3 := HEB.out.sz; have hs4 := HRB.out.sz; clear hg2 hr2))
  refine leaves_cons (f := 171) (args := #[.pointer (some ⟨w.heap.size + 1, 0, none⟩)]) (by simp) (by simp [go_sem]) ?_
  refine (catchT_idle ⟨w.heap.size + 1, 0, none⟩ _).mono ?_
  rintro e u' w'' ⟨rfl, rfl, rfl⟩
  refine ⟨.tuple #[.agg #[.int .i64 k, .string ⟨m.toArray⟩], .int .i64 0], by simp [results, Tryz.results148, go_sem, b0, b1, e0, hs3, hs4], rfl, ?_⟩
  have HW := HW2.out
  exact (by repeat' first | with_reducible exact Below.refl _ _ | with_reducible assumption | with_reducible refine belows_drewN ?_ _ | with_reducible refine Below.drew ?_ | with_reducible refine Below.setCell ?_ ?_ _ | with_reducible refine Below.alloc ?_ ?_ _ | omega | (simp; done) | (simp; omega))
set_option maxRecDepth 100000 in
set_option maxHeartbeats 400000 in
theorem wholeT_left (s : ByteArray) (k : Int) (m : List UInt8) (n : Nat) (w : World) (hs : s.size ≤ 255) (h : Ds.rd (Ds.bl s) = some (k, m, n)) (hn : n < s.size) :
    Calls Tryz.prog 148 #[.string s, fieldFn] w fun e w' => e = .returned (.tuple #[tyV 0 [], .int .i64 20]) ∧ Below w.heap.size w w' := by
  unfold fieldFn tyV
  have hd : decide (255 < (s.size : Int)) = false := by simp; omega
  obtain ⟨q, hq⟩ : ∃ q, q = s.extract n s.size := ⟨_, rfl⟩
  have HF0 : ∀ (pb mb : Nat) (W : World), Rd W pb mb s → Calls Tryz.prog 149 #[.pointer (some ⟨pb, 0, none⟩)] W (FieldOk pb mb k m q W) := by
    intro pb mb W hW
    have := field_rd pb mb _ s W hW rfl hs
    unfold FieldPost at this
    rw [h] at this
    rw [hq]
    exact this
  have hq0 : (q.toList.isEmpty) = false := by
    rw [ByteArray.toList_eq]
    have : (Ds.bl q).length ≠ 0 := by rw [hq, ext_drop, List.length_drop, bl_len]; omega
    cases hb : q.data.toList with
    | nil => exact absurd (by show q.data.toList.length = 0; rw [hb]; rfl) this
    | cons => rfl
  unfold FieldOk tyV at HF0
  have HF := hid HF0
  have hmf := A.mkF
  clear HF0 h hq
  go_enter_defers Tryz.func148, Tryz.ntmps148
  go_wp2_with (first
    | (go_at_call 172; refine (kinds_any _).mono ?_; rintro e w1 ⟨rfl, hk1, hb1, hz1⟩; simp only [World.size_alloc] at hk1 hb1 hz1; have HK1 := hid hk1; have HB1 := hid hb1; clear hk1 hb1)
    | (go_at_call 149; refine (HF.out w1.heap.size (w.heap.size + 1 + 1) _ (rd_new s HK1.out hz1)).mono ?_; rintro e w2 ⟨rfl, hg2, hr2⟩; have HBx := hid (boxes w w1 HB1.out (.cells #[.string s, .map (some (w.heap.size + 1 + 1))] 209)); have hz2 := HBx.out.2.2.2; have HRB := hid (HBx.out.1.keep hg2 (by omega)); have HEB := hid (HBx.out.2.1.grown hg2 (by simp; omega)); have HW2 := hid (Below.grown HBx.out.2.2.1 hg2 (by simp; omega) (fun j e => by have := Option.some.inj e; omega)); obtain ⟨b0, b1, f0, f1⟩ := HRB.out.facts; obtain ⟨e0, e1⟩ := HEB.out.facts; have cl2 := hr2.left; have hs2 := hr2.sz; have hs3 := HEB.out.sz; have hs4 := HRB.out.sz; clear hg2 hr2))
  refine leaves_cons (f := 171) (args := #[.pointer (some ⟨w.heap.size + 1, 0, none⟩)]) (by simp) (by simp [go_sem]) ?_
  refine (catchT_panicking ⟨w.heap.size + 1, 0, none⟩ (.int .i64 0) [] _ ?_ ?_).mono ?_
  · simp [go_sem, e0, hs3]
  · simp [go_sem, e1, hs3]
  rintro e u' w'' ⟨rfl, rfl, rfl⟩
  refine ⟨.tuple #[.agg #[.int .i64 0, .string ⟨#[]⟩], .int .i64 20], by simp [results, Tryz.results148, go_sem, b0, b1, e0, hs3, hs4], rfl, ?_⟩
  have HW := HW2.out
  exact (by repeat' first | with_reducible exact Below.refl _ _ | with_reducible assumption | with_reducible refine belows_drewN ?_ _ | with_reducible refine Below.drew ?_ | with_reducible refine Below.setCell ?_ ?_ _ | with_reducible refine Below.alloc ?_ ?_ _ | omega | (simp; done) | (simp; omega))
set_option maxRecDepth 100000 in
set_option maxHeartbeats 400000 in
theorem wholeT_bad (s : ByteArray) (w : World) (hs : s.size ≤ 255) (h : Ds.rd (Ds.bl s) = none) :
    Calls Tryz.prog 148 #[.string s, fieldFn] w fun e w' => e = .returned (.tuple #[tyV 0 [], .int .i64 20]) ∧ Below w.heap.size w w' := by
  unfold fieldFn tyV
  have hd : decide (255 < (s.size : Int)) = false := by simp; omega
  have HF0 : ∀ (pb mb : Nat) (W : World), Rd W pb mb s → Calls Tryz.prog 149 #[.pointer (some ⟨pb, 0, none⟩)] W (Bad pb W) := by
    intro pb mb W hW
    have := field_rd pb mb _ s W hW rfl hs
    unfold FieldPost at this
    rw [h] at this
    exact this
  unfold Bad bad at HF0
  have HF := hid HF0
  have hmf := A.mkF
  clear HF0 h
  go_enter_defers Tryz.func148, Tryz.ntmps148
  go_wp2_with (first
    | (go_at_call 172; refine (kinds_any _).mono ?_; rintro e w1 ⟨rfl, hk1, hb1, hz1⟩; simp only [World.size_alloc] at hk1 hb1 hz1; have HK1 := hid hk1; have HB1 := hid hb1; clear hk1 hb1)
    | (go_at_call 149; refine (HF.out w1.heap.size (w.heap.size + 1 + 1) _ (rd_new s HK1.out hz1)).mono ?_; rintro e w2 ⟨rfl, hg2⟩; have HBx := hid (boxes w w1 HB1.out (.cells #[.string s, .map (some (w.heap.size + 1 + 1))] 209)); have hz2 := HBx.out.2.2.2; have HRB := hid (HBx.out.1.keep hg2 (by omega)); have HEB := hid (HBx.out.2.1.grown hg2 (by simp; omega)); have HW2 := hid (Below.grown HBx.out.2.2.1 hg2 (by simp; omega) (fun j e => by have := Option.some.inj e; omega)); obtain ⟨b0, b1, f0, f1⟩ := HRB.out.facts; obtain ⟨e0, e1⟩ := HEB.out.facts; have hs3 := HEB.out.sz; have hs4 := HRB.out.sz; clear hg2))
  refine leaves_cons (f := 171) (args := #[.pointer (some ⟨w.heap.size + 1, 0, none⟩)]) (by simp) (by simp [go_sem]) ?_
  refine (catchT_panicking ⟨w.heap.size + 1, 0, none⟩ (.int .i64 0) [] _ ?_ ?_).mono ?_
  · exact e0
  · exact e1
  rintro e u' w'' ⟨rfl, rfl, rfl⟩
  refine ⟨.tuple #[.agg #[.int .i64 0, .string ⟨#[]⟩], .int .i64 20], by simp [results, Tryz.results148, go_sem, b0, b1, e0], rfl, ?_⟩
  have HW := HW2.out
  exact (by repeat' first | with_reducible exact Below.refl _ _ | with_reducible assumption | with_reducible refine belows_drewN ?_ _ | with_reducible refine Below.drew ?_ | with_reducible refine Below.setCell ?_ ?_ _ | with_reducible refine Below.alloc ?_ ?_ _ | omega | (simp; done) | (simp; omega))
/-- What a text is as a field's descriptor. -/
def fdOut (l : List UInt8) : Ds.Ty × Int := if 255 < l.length then ((0, []), 3) else match Ds.rd l with
  | none => ((0, []), 20)
  | some (k, m, n) => if n = l.length then ((k, m), 0) else ((0, []), 20)
theorem wholeT_any (s : ByteArray) (w : World) :
    Calls Tryz.prog 148 #[.string s, fieldFn] w fun e w' => e = .returned (.tuple #[tyV (fdOut (Ds.bl s)).1.1 (fdOut (Ds.bl s)).1.2, .int .i64 (fdOut (Ds.bl s)).2]) ∧ Below w.heap.size w w' := by
  unfold fdOut
  rw [bl_len]
  by_cases hs : 255 < s.size
  · rw [if_pos hs]; exact wholeT_long s w hs
  · rw [if_neg hs]
    cases h : Ds.rd (Ds.bl s) with
    | none => exact wholeT_bad s w (by omega) h
    | some y =>
      obtain ⟨k, m, n⟩ := y
      dsimp only
      have hl := Ds.rd_len h
      rw [bl_len] at hl
      by_cases hn : n = s.size
      · rw [if_pos hn]; subst hn; exact wholeT_ok s k m w (by omega) h
      · rw [if_neg hn]; exact wholeT_left s k m n w (by omega) h (by omega)
set_option maxRecDepth 100000 in
set_option maxHeartbeats 400000 in
theorem field_any (s : ByteArray) (w : World) :
    Calls Tryz.prog 106 #[.string s] w fun e w' => e = .returned (.tuple #[tyV (fdOut (Ds.bl s)).1.1 (fdOut (Ds.bl s)).1.2, .int .i64 (fdOut (Ds.bl s)).2]) ∧ Below w.heap.size w w' := by
  have HW := hid (fun W => wholeT_any s W)
  obtain ⟨k, hk⟩ : ∃ k, k = (fdOut (Ds.bl s)).1.1 := ⟨_, rfl⟩
  obtain ⟨m, hm⟩ : ∃ m, m = (fdOut (Ds.bl s)).1.2 := ⟨_, rfl⟩
  obtain ⟨er, he⟩ : ∃ er, er = (fdOut (Ds.bl s)).2 := ⟨_, rfl⟩
  rw [← hk, ← hm, ← he] at HW ⊢
  unfold fieldFn tyV at HW
  unfold tyV
  clear hk hm he
  go_enter Tryz.func106, Tryz.ntmps106
  go_wp2_with (go_at_call 148; refine (HW.out _).mono ?_; rintro e w1 ⟨rfl, hb1⟩; obtain ⟨hcc, hff⟩ := bcell hb1; have hz := hb1.size; simp only [World.size_alloc] at hz; have hz1 : w.heap.size < w1.heap.size := (by omega))
  have hb' := belows (B := w.heap.size) (a := w) (by repeat' first | with_reducible exact Below.refl _ _ | with_reducible assumption | with_reducible refine belows_drewN ?_ _ | with_reducible refine Below.drew ?_ | with_reducible refine Below.setCell ?_ ?_ _ | with_reducible refine Below.alloc ?_ ?_ _ | omega | (simp; done) | (simp; omega)) hb1 (by simp)
  exact bodyPost_ret (v := .tuple #[.agg #[.int .i64 k, .string ⟨m.toArray⟩], .int .i64 er]) (by simp [results, Tryz.results106, go_sem, hcc]) rfl ⟨rfl, (by repeat' first | with_reducible exact Below.refl _ _ | with_reducible assumption | with_reducible refine belows_drewN ?_ _ | with_reducible refine Below.drew ?_ | with_reducible refine Below.setCell ?_ ?_ _ | with_reducible refine Below.alloc ?_ ?_ _ | omega | (simp; done) | (simp; omega))⟩
end Go.Proofs.YtjnjnfhboafcgaaGreatDoor.L2

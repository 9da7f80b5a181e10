/- Contract of the document's Method. -/
import Derived.Test.YthhjenmgcbmphaaDoorRl
import Derived.Test.YthhjenmgcbmphaaDoorMe
import Derived.OwnWalk
namespace Go.Proofs.YthhjenmgcbmphaaDoor
open Go.RowKit

abbrev MdO := List Ds.Ty × Ds.Ty × Int
def finO (x : Option (List Ds.Ty × Ds.Ty × List UInt8)) : MdO := match x with
  | some (xs, y, []) => (xs, y, 0)
  | _ => ([], (0, []), 20)
def badO (er : Int) : MdO := ([], (0, []), er)
/-- What is answered, and where the list lies. -/
def RmP (o : MdO) (w : World) (e : Ending) (w' : World) : Prop := ∃ v, e = .returned (.tuple #[v, .agg #[.int .i64 o.2.1.1, .string ⟨o.2.1.2.toArray⟩], .int .i64 o.2.2]) ∧ OwnT w' w.heap.size v o.1 ∧ Below w.heap.size w w'
theorem mdOut_fin (l : List UInt8) : mdOut l = if 255 < l.length then badO 3 else finO (Ds.md l) := by
  unfold mdOut finO badO
  rfl
theorem finO_ret {xs : List Ds.Ty} {c : UInt8} {l : List UInt8} (hc : c ≠ 86) : finO (Ds.retM xs (c :: l)) = match Ds.rd (c :: l) with | none => badO 20 | some (k, m, n) => if n = (c :: l).length then (xs, (k, m), 0) else badO 20 := by
  unfold Ds.retM Ds.retF
  dsimp only
  rw [if_neg hc]
  cases hr : Ds.rd (c :: l) with
  | none => rfl
  | some y =>
    obtain ⟨k, m, n⟩ := y
    have hl := Ds.rd_len hr
    dsimp only
    by_cases hn : n = (c :: l).length
    · rw [if_pos hn, hn, List.drop_length]; rfl
    · rw [if_neg hn]
      cases hd : (c :: l).drop n with
      | nil => exact absurd (List.drop_eq_nil_iff.1 hd) (by omega)
      | cons a b => rfl
theorem finO_void {xs : List Ds.Ty} {l : List UInt8} : finO (Ds.retM xs (86 :: l)) = if l = [] then (xs, (0, []), 0) else badO 20 := by
  cases l with
  | nil => rfl
  | cons a b => rw [if_neg (by simp)]; rfl
theorem finO_nil {xs : List Ds.Ty} : finO (Ds.retM xs []) = badO 20 := rfl
theorem rd_void (l : List UInt8) : Ds.rd (86 :: l) = none := by unfold Ds.rd; rw [if_neg (by decide), if_neg (by decide), if_neg (by decide), if_neg (by decide)]
theorem finO_gen {xs : List Ds.Ty} {r : List UInt8} (hr : r ≠ [86]) : finO (Ds.retM xs r) = match Ds.rd r with | none => badO 20 | some (k, m, n) => if n = r.length then (xs, (k, m), 0) else badO 20 := by
  cases r with
  | nil => rfl
  | cons c t =>
    by_cases hc : c = 86
    · subst hc
      rw [finO_void, rd_void, if_neg (fun e => hr (by rw [e]))]
    · exact finO_ret hc
theorem RB.grown {w w' : World} {B : Nat} {row : Option Nat} (h : RB w B) (hg : w.grownBy w' row) (hne : row ≠ some B) : RB w' B := (hg.block B h.sz (fun e => hne e.symm)).trans h
set_option maxRecDepth 100000 in
set_option maxHeartbeats 400000 in
theorem rmethod_refuse (s : ByteArray) (w : World) (h : 255 < s.size ∨ (s.size ≤ 255 ∧ (Ds.bl s = [] ∨ ∃ c l, Ds.bl s = c :: l ∧ c ≠ 40))) :
    Calls Tryd.prog 10 #[.string s] w (RmP (badO (if 255 < s.size then 3 else 20)) w) := by
  unfold RmP badO
  rcases h with h | ⟨hs, h | ⟨c, l, h, hc⟩⟩
  · have hd : decide (255 < (s.size : Int)) = true := by simp; omega
    rw [if_pos h]
    clear h
    go_enter Tryd.func10, Tryd.ntmps10
    go_wp2
    exact bodyPost_ret (v := .tuple #[.slice none 0 0, .agg #[.int .i64 0, .string ⟨#[]⟩], .int .i64 3]) (by simp [results, Tryd.results10, go_sem]) rfl ⟨_, rfl, nilT _ _, (by repeat' first | with_reducible exact Below.refl _ _ | with_reducible assumption | with_reducible refine belows_drewN ?_ _ | with_reducible refine Below.drew ?_ | with_reducible refine Below.setCell ?_ ?_ _ | with_reducible refine Below.alloc ?_ ?_ _ | omega | (simp; done) | (simp; omega))⟩
  · have hd : decide (255 < (s.size : Int)) = false := by simp; omega
    rw [if_neg (by omega)]
    have h0 : (s.toList.isEmpty) = true := by rw [ByteArray.toList_eq]; exact List.isEmpty_iff.2 h
    clear h
    go_enter Tryd.func10, Tryd.ntmps10
    go_wp2
    exact bodyPost_ret (v := .tuple #[.slice none 0 0, .agg #[.int .i64 0, .string ⟨#[]⟩], .int .i64 20]) (by simp [results, Tryd.results10, go_sem]) rfl ⟨_, rfl, nilT _ _, (by repeat' first | with_reducible exact Below.refl _ _ | with_reducible assumption | with_reducible refine belows_drewN ?_ _ | with_reducible refine Below.drew ?_ | with_reducible refine Below.setCell ?_ ?_ _ | with_reducible refine Below.alloc ?_ ?_ _ | omega | (simp; done) | (simp; omega))⟩
  · have hd : decide (255 < (s.size : Int)) = false := by simp; omega
    rw [if_neg (by omega)]
    have h1 := size_pos h
    have h1' : (0 : Int) < s.size := by omega
    have h0 : (s.toList.isEmpty) = false := by
      rw [ByteArray.toList_eq]
      have : s.data.toList = c :: l := h
      rw [this]; rfl
    have HC : s[0]'h1 = c := first_at h
    have d1 : ((c.toNat : Int) == 40) = false := u8_ne hc
    clear h hc
    go_enter Tryd.func10, Tryd.ntmps10
    go_wp2
    exact bodyPost_ret (v := .tuple #[.slice none 0 0, .agg #[.int .i64 0, .string ⟨#[]⟩], .int .i64 20]) (by simp [results, Tryd.results10, go_sem]) rfl ⟨_, rfl, nilT _ _, (by repeat' first | with_reducible exact Below.refl _ _ | with_reducible assumption | with_reducible refine belows_drewN ?_ _ | with_reducible refine Below.drew ?_ | with_reducible refine Below.setCell ?_ ?_ _ | with_reducible refine Below.alloc ?_ ?_ _ | omega | (simp; done) | (simp; omega))⟩
set_option maxRecDepth 100000 in
set_option maxHeartbeats 400000 in
theorem rmethod_open (s : ByteArray) (l : List UInt8) (w : World) (h : Ds.bl s = 40 :: l) (hs : s.size ≤ 255) :
    Calls Tryd.prog 10 #[.string s] w (RmP (finO (Ds.md (Ds.bl s))) w) := by
  obtain ⟨o, ho⟩ : ∃ o, o = finO (Ds.md (Ds.bl s)) := ⟨_, rfl⟩
  have ho1 : finO (Ds.mdA [] (l.length + 1) l) = o := by rw [ho, h]; rfl
  have hl1 : l = (Ds.bl s).drop 1 := by rw [h]; rfl
  rw [← ho]
  unfold RmP
  have hd : decide (255 < (s.size : Int)) = false := by simp; omega
  have h1 := size_pos h
  have h1' : (0 : Int) < s.size := by omega
  have h0 : (s.toList.isEmpty) = false := by
    rw [ByteArray.toList_eq]
    have : s.data.toList = 40 :: l := h
    rw [this]; rfl
  have HC : s[0]'h1 = 40 := first_at h
  have hll : l.length + 1 = s.size := by rw [← bl_len, h]; rfl
  have HO1 := hid ho1
  have HL1 := hid hl1
  have HRd := hid (fun (p : Nat) W => rread_any _ (s.extract p s.size) W rfl (by have := ext_size s p s.size; omega))
  obtain ⟨i0, hi, hz0, hz1, hz2⟩ := info_parts A.infoTy
  clear ho h hl1 ho1
  go_enter Tryd.func10, Tryd.ntmps10
  go_wp2
  go_loopw [5, 6] (fun v i wr => ∃ (xs : List Ds.Ty) (p f : Nat), i = .int .i64 p ∧ 1 ≤ p ∧ p ≤ s.size ∧ OwnT wr (w.heap.size + 1) v xs ∧ RB wr w.heap.size ∧ Below w.heap.size w wr ∧ s.size - p < f ∧ xs.length + 1 ≤ p ∧ Hid (finO (Ds.mdA xs f ((Ds.bl s).drop p)) = o)) (fun _ i _ => s.size - (intOf i).toNat)
  case atStart => exact ⟨[], 1, l.length + 1, rfl, by omega, by omega, nilT _ _, RB.new w, (by repeat' first | with_reducible exact Below.refl _ _ | with_reducible assumption | with_reducible refine belows_drewN ?_ _ | with_reducible refine Below.drew ?_ | with_reducible refine Below.setCell ?_ ?_ _ | with_reducible refine Below.alloc ?_ ?_ _ | omega | (simp; done) | (simp; omega)), by omega, by simp, (by show finO _ = o; rw [← HL1.out]; exact HO1.out)⟩
  case round =>
    obtain ⟨xs, p, f, rfl, hp1, hp2, hown, hrb, hbl, hf, hxs, hmd⟩ := hrel
    obtain ⟨f, rfl⟩ : ∃ f', f = f' + 1 := ⟨f - 1, by omega⟩
    have hrs := hrb.sz
    have hpi0 : (0 : Int) ≤ p := by omega
    have hpi1 : (p : Int) ≤ s.size := by omega
    by_cases hlt : p < s.size
    · have hpi : (p : Int) < s.size := by omega
      have hdr : (Ds.bl s).drop p = s[p] :: (Ds.bl s).drop (p + 1) := by
        rw [List.drop_eq_getElem_cons (by rw [bl_len]; exact hlt)]
        have := bl_at s p hlt
        rw [List.getElem?_eq_getElem (by rw [bl_len]; exact hlt)] at this
        rw [Option.some.inj this]
      by_cases hc : s[p] = 41
      · have hcd : ((s[p].toNat : Int) != 41) = false := by rw [hc]; rfl
        have hne : ((p : Int) == (s.size : Int)) = false := by rw [beq_eq_false_iff_ne]; omega
        have hm := hmd.out
        rw [hdr, hc, Ds.mdA_shut] at hm
        have w1 : IntKind.i64.wrap ((p : Int) + 1) = (p : Int) + 1 := IntWalk.i64_in _ (by omega)
        have w2 : (0 : Int) ≤ (p : Int) + 1 := by omega
        have w3 : ((p : Int) + 1).toNat = p + 1 := by omega
        have w4 : (p : Int) + 1 ≤ s.size := by omega
        have hbx : Ds.bl (s.extract (p + 1) s.size) = (Ds.bl s).drop (p + 1) := ext_drop s (p + 1)
        have HR0 := fun W => HRd.out (p + 1) W
        unfold RrPost rrOut at HR0
        rw [hbx] at HR0
        have hlen : ((Ds.bl s).drop (p + 1)).length = s.size - (p + 1) := by rw [List.length_drop, bl_len]
        obtain ⟨r, hr⟩ : ∃ r, r = (Ds.bl s).drop (p + 1) := ⟨_, rfl⟩
        rw [← hr] at hm hbx HR0 hlen
        have HOwn := hid hown
        obtain ⟨sa, sc, rfl⟩ := own_form hown
        by_cases hV : r = [86]
        · rw [hV, finO_void, if_pos rfl] at hm
          have HM := hid hm
          have hqs : ((s.extract (p + 1) s.size).toList == [86]) = true := by rw [beq_iff_eq, str_eq, hbx, hV]
          obtain ⟨b0, b1, f0, f1⟩ := hrb.facts
          clear hm HR0 hV hbx hr hc hdr hown hmd
          go_wp2
          exact bodyPost_ret (v := .tuple #[.slice sa xs.length sc, .agg #[.int .i64 0, .string ⟨#[]⟩], .int .i64 0]) (by simp [results, Tryd.results10, go_sem, b0, b1]) rfl ⟨_, by rw [← HM.out], by rw [← HM.out]; exact own_mono (Kit.owns_grown (Kit.owns_grown HOwn.out (set_grown _ w.heap.size 0 _) (by omega)) (set_grown _ w.heap.size 1 _) (by omega)) (by omega), (by repeat' first | with_reducible exact Below.refl _ _ | with_reducible assumption | with_reducible refine belows_drewN ?_ _ | with_reducible refine Below.drew ?_ | with_reducible refine Below.setCell ?_ ?_ _ | with_reducible refine Below.alloc ?_ ?_ _ | omega | (simp; done) | (simp; omega))⟩
        · have hqv : ((s.extract (p + 1) s.size).toList == [86]) = false := by rw [beq_eq_false_iff_ne, ne_eq, str_eq, hbx]; exact hV
          rw [finO_gen hV] at hm
          cases hrd : Ds.rd r with
          | none =>
            rw [hrd] at hm HR0
            dsimp only at hm HR0
            unfold tyV at HR0
            have HR := hid HR0
            have HM := hid hm
            clear hm HR0 hV hbx hr hc hdr hown hmd hrd
            go_wp2_with (go_at_call 23; refine (HR.out _).mono ?_; rintro e w1 ⟨rfl, hb1⟩; have hz3 := hb1.size; have hrb1 := hrb.below hb1 hrs; obtain ⟨b0, b1, f0, f1⟩ := hrb1.facts; have hzw : w.heap.size < w1.heap.size := (by omega); have hbl1 := belows hbl hb1 hbl.size)
            exact bodyPost_ret (v := .tuple #[.slice none 0 0, .agg #[.int .i64 0, .string ⟨#[]⟩], .int .i64 20]) (by simp [results, Tryd.results10, go_sem, b0, b1, hzw]) rfl ⟨_, by rw [← HM.out]; rfl, by rw [← HM.out]; exact nilT _ _, (by repeat' first | with_reducible exact Below.refl _ _ | with_reducible assumption | with_reducible refine belows_drewN ?_ _ | with_reducible refine Below.drew ?_ | with_reducible refine Below.setCell ?_ ?_ _ | with_reducible refine Below.alloc ?_ ?_ _ | omega | (simp; done) | (simp; omega))⟩
          | some y =>
            obtain ⟨k, m, n⟩ := y
            have hrl := Ds.rd_len hrd
            rw [hrd] at hm HR0
            dsimp only at hm HR0
            unfold tyV at HR0
            have HR := hid HR0
            have hn0 : ((n : Int) == 0) = false := by rw [beq_eq_false_iff_ne]; omega
            have hs1 : IntKind.i64.wrap ((p : Int) + 1 + n) = (p : Int) + 1 + n := IntWalk.i64_in _ (by omega)
            by_cases hn : n = r.length
            · rw [if_pos hn] at hm
              have HM := hid hm
              have hne2 : ((p : Int) + 1 + n != (s.size : Int)) = false := by simp; omega
              clear hm HR0 hV hbx hr hc hdr hown hmd hrd hrl hlen hn
              go_wp2_with (go_at_call 23; refine (HR.out _).mono ?_; rintro e w1 ⟨rfl, hb1⟩; have hz3 := hb1.size; have hrb1 := hrb.below hb1 hrs; obtain ⟨b0, b1, f0, f1⟩ := hrb1.facts; have hzw : w.heap.size < w1.heap.size := (by omega); have hbl1 := belows hbl hb1 hbl.size)
              have hcl : (w1.alloc (.cells #[.int .i64 k, .string ⟨m.toArray⟩] 23)).heap[w1.heap.size]? = some (.cells #[.int .i64 k, .string ⟨m.toArray⟩] 23 (0, 0)) := World.alloc_heap_new w1 _
              have hba : Below w1.heap.size w1 (w1.alloc (.cells #[.int .i64 k, .string ⟨m.toArray⟩] 23)) := (Below.refl _ _).alloc (Nat.le_refl _) _
              have hrb2 := hrb1.below hba hzw
              have hown2 := Kit.owns_below (Kit.owns_below HOwn.out hb1 (Nat.le_refl _)) hba (Nat.le_refl _)
              have hbl2 := belows hbl1 hba hbl1.size
              obtain ⟨W, hW⟩ : ∃ W, W = w1.alloc (.cells #[.int .i64 k, .string ⟨m.toArray⟩] 23) := ⟨_, rfl⟩
              rw [← hW] at hcl hrb2 hown2 hbl2 ⊢
              obtain ⟨p0, p1, q0, q1⟩ := hrb2.facts
              have c0 : W.cell? ⟨w1.heap.size, 0, none⟩ = some (.int .i64 k) := by simp [World.cell?, hcl]
              have c1 : W.cell? ⟨w1.heap.size, 1, none⟩ = some (.string ⟨m.toArray⟩) := by simp [World.cell?, hcl]
              have HO2 := hid hown2
              have HB2 := hid hbl2
              have hne3 : ¬ w.heap.size = w1.heap.size := by omega
              clear hW hba hcl hrb2 hown2 hbl2 hb1 hrb1 hbl1 b0 b1 f0 f1 hrb hbl
              go_region
              go_wp2
              refine bodyPost_ret (v := .tuple #[.slice sa xs.length sc, .agg #[.int .i64 k, .string ⟨m.toArray⟩], .int .i64 0]) (by simp [results, Tryd.results10, go_sem, p0, p1]) rfl ⟨_, by rw [← HM.out], ?_, ?_⟩
              · rw [← HM.out]
                exact own_mono (Kit.owns_below (Kit.owns_grown (Kit.owns_grown HO2.out (set_grown _ w.heap.size 0 (.int .i64 k)) (by omega)) (set_grown _ w.heap.size 1 (.string ⟨m.toArray⟩)) (by omega)) ((Below.refl _ _).drew) (Nat.le_refl _)) (by omega)
              · have hx := HB2.out
                exact (by repeat' first | with_reducible exact Below.refl _ _ | with_reducible assumption | with_reducible refine belows_drewN ?_ _ | with_reducible refine Below.drew ?_ | with_reducible refine Below.setCell ?_ ?_ _ | with_reducible refine Below.alloc ?_ ?_ _ | omega | (simp; done) | (simp; omega))
            · rw [if_neg hn] at hm
              have HM := hid hm
              have hne2 : ((p : Int) + 1 + n != (s.size : Int)) = true := by simp; omega
              clear hm HR0 hV hbx hr hc hdr hown hmd hrd hrl hlen hn
              go_wp2_with (go_at_call 23; refine (HR.out _).mono ?_; rintro e w1 ⟨rfl, hb1⟩; have hz3 := hb1.size; have hrb1 := hrb.below hb1 hrs; obtain ⟨b0, b1, f0, f1⟩ := hrb1.facts; have hzw : w.heap.size < w1.heap.size := (by omega); have hbl1 := belows hbl hb1 hbl.size)
              exact bodyPost_ret (v := .tuple #[.slice none 0 0, .agg #[.int .i64 0, .string ⟨#[]⟩], .int .i64 20]) (by simp [results, Tryd.results10, go_sem, b0, b1, hzw]) rfl ⟨_, by rw [← HM.out]; rfl, by rw [← HM.out]; exact nilT _ _, (by repeat' first | with_reducible exact Below.refl _ _ | with_reducible assumption | with_reducible refine belows_drewN ?_ _ | with_reducible refine Below.drew ?_ | with_reducible refine Below.setCell ?_ ?_ _ | with_reducible refine Below.alloc ?_ ?_ _ | omega | (simp; done) | (simp; omega))⟩
      · have hcd : ((s[p].toNat : Int) != 41) = true := by (have hx : ((s[p].toNat : Int) == 41) = false := u8_ne hc); rw [bne, hx]; rfl
        have HR0 := fun W => HRd.out p W
        unfold RrPost rrOut at HR0
        rw [ext_drop] at HR0
        have hm := hmd.out
        cases hrd : Ds.rd ((Ds.bl s).drop p) with
        | none =>
          rw [hrd] at HR0
          rw [hdr] at hrd hm
          rw [Ds.mdA_bad hc hrd] at hm
          dsimp only at HR0
          unfold tyV at HR0
          have HR := hid HR0
          have HM := hid hm
          clear HR0 hm hmd hdr hc hrd hown
          go_wp2_with (go_at_call 23; refine (HR.out _).mono ?_; rintro e w1 ⟨rfl, hb1⟩; have hz3 := hb1.size; have hrb1 := hrb.below hb1 hrs; obtain ⟨b0, b1, f0, f1⟩ := hrb1.facts; have hzw : w.heap.size < w1.heap.size := (by omega); have hbl1 := belows hbl hb1 hbl.size)
          exact bodyPost_ret (v := .tuple #[.slice none 0 0, .agg #[.int .i64 0, .string ⟨#[]⟩], .int .i64 20]) (by simp [results, Tryd.results10, go_sem, b0, b1, hzw]) rfl ⟨_, by rw [← HM.out]; rfl, by rw [← HM.out]; exact nilT _ _, (by repeat' first | with_reducible exact Below.refl _ _ | with_reducible assumption | with_reducible refine belows_drewN ?_ _ | with_reducible refine Below.drew ?_ | with_reducible refine Below.setCell ?_ ?_ _ | with_reducible refine Below.alloc ?_ ?_ _ | omega | (simp; done) | (simp; omega))⟩
        | some y =>
          obtain ⟨k, m, n⟩ := y
          have hrl := Ds.rd_len hrd
          rw [List.length_drop, bl_len] at hrl
          rw [hrd] at HR0
          rw [hdr] at hrd hm
          rw [Ds.mdA_step hc hrd, ← hdr, List.drop_drop] at hm
          dsimp only at HR0
          unfold tyV at HR0
          have HR := hid HR0
          have HM := hid hm
          have hn0 : ((n : Int) == 0) = false := by rw [beq_eq_false_iff_ne]; omega
          have hpn : IntKind.i64.wrap ((p : Int) + n) = (p : Int) + n := IntWalk.i64_in _ (by omega)
          clear HR0 hm hmd hdr hc hrd
          go_wp2_with (first
            | (go_at_call 23; refine (HR.out _).mono ?_; rintro e w1 ⟨rfl, hb1⟩; have hz3 := hb1.size; have hrb1 := hrb.below hb1 hrs; obtain ⟨b0, b1, f0, f1⟩ := hrb1.facts; have hzw : w.heap.size < w1.heap.size := (by omega); have hbl1 := belows hbl hb1 hbl.size)
            | (at_builtin; refine wpList_append_own _ rfl (.tmp 43) (.tmp 45) 27 rfl (w.heap.size + 1) 23 i0 _ 2 24 Tryd.underlying27 hi hz0 hz1 hz2 rfl (by decide) _ xs.length (xs.flatMap tyC) rfl (((Kit.owns_below hown hb1 (Nat.le_refl _)).alloc _).alloc _) ⟨w1.heap.size + 1, 0, none⟩ 1 1 [.int .i64 k, .string ⟨m.toArray⟩] rfl rfl ?_ (ones_ty _ _) (by unfold maxLen; omega) (by omega) (by simp only [World.size_alloc]; omega) ?_))
          · intro j u hj
            match j, hj with
            | 0, hj => simp at hj; subst hj; simp [Addr.add, go_sem]
            | 1, hj => simp at hj; subst hj; simp [Addr.add, go_sem]
          · intro v' w3 ho3 hg3 _
            have hbA : Below wr.heap.size wr ((w1.alloc (.cells #[.int .i64 k, .string ⟨m.toArray⟩] 23)).alloc (.cells #[.int .i64 k, .string ⟨m.toArray⟩] 23)) := (hb1.alloc hz3 _).alloc (by simp only [World.size_alloc]; omega) _
            have hrb3 := (hrb.below hbA hrs).grown hg3 (own_block hown (by omega))
            have hbl3 : Below w.heap.size w w3 := Kit.below_grown (belows hbl hbA hbl.size) hg3 (by simp only [World.size_alloc]; omega) (fun j e => by have := Kit.own_base hown j e; omega)
            have hown3 : OwnT w3 (w.heap.size + 1) v' (xs ++ [(k, m)]) := by
              unfold OwnT
              rw [List.length_append, List.flatMap_append]
              simpa [tyC] using ho3
            have HX := hid (And.intro hown3 (And.intro hrb3 hbl3))
            clear hown3 hrb3 hbl3 ho3 hg3 hbA hb1 hrb1 hbl1
            go_wp2
            go_roundw
            case rel => exact ⟨xs ++ [(k, m)], p + n, f, by go_num, by omega, by omega, HX.out.1, HX.out.2.1, HX.out.2.2, by omega, by rw [List.length_append, List.length_singleton]; omega, HM⟩
            case measure => simp [intOf]; omega
    · obtain rfl : p = s.size := by omega
      have hm := hmd.out
      rw [List.drop_eq_nil_of_le (Nat.le_of_eq (bl_len s)), Ds.mdA_nil] at hm
      have HM := hid hm
      obtain ⟨b0, b1, f0, f1⟩ := hrb.facts
      clear hm hmd hown
      go_wp2
      exact bodyPost_ret (v := .tuple #[.slice none 0 0, .agg #[.int .i64 0, .string ⟨#[]⟩], .int .i64 20]) (by simp [results, Tryd.results10, go_sem, b0, b1]) rfl ⟨_, by rw [← HM.out]; rfl, by rw [← HM.out]; exact nilT _ _, (by repeat' first | with_reducible exact Below.refl _ _ | with_reducible assumption | with_reducible refine belows_drewN ?_ _ | with_reducible refine Below.drew ?_ | with_reducible refine Below.setCell ?_ ?_ _ | with_reducible refine Below.alloc ?_ ?_ _ | omega | (simp; done) | (simp; omega))⟩
theorem rmethod_any (s : ByteArray) (w : World) : Calls Tryd.prog 10 #[.string s] w (RmP (mdOut (Ds.bl s)) w) := by
  rw [mdOut_fin, bl_len]
  by_cases h : 255 < s.size
  · rw [if_pos h]
    have := rmethod_refuse s w (.inl h)
    rwa [if_pos h] at this
  · rw [if_neg h]
    cases hb : Ds.bl s with
    | nil =>
      have := rmethod_refuse s w (.inr ⟨by omega, .inl hb⟩)
      rwa [if_neg h] at this
    | cons c l =>
      by_cases hc : c = 40
      · subst hc
        rw [← hb]
        exact rmethod_open s l w hb (by omega)
      · have := rmethod_refuse s w (.inr ⟨by omega, .inr ⟨c, l, hb, hc⟩⟩)
        rw [if_neg h] at this
        have e : finO (Ds.md (c :: l)) = badO 20 := by unfold Ds.md; dsimp only; rw [if_neg hc]; rfl
        rw [e]
        exact this
theorem argsF_len : ∀ (f : Nat) (l : List UInt8) (a : List Ds.Ty) (r : List UInt8), Ds.argsF f l = some (a, r) → a.length ≤ l.length
  | 0, _, _, _, h => by cases h
  | _ + 1, [], _, _, h => by cases h
  | f + 1, c :: l, a, r, h => by
    unfold Ds.argsF at h
    split at h
    · simp only [Option.some.injEq, Prod.mk.injEq] at h
      obtain ⟨rfl, -⟩ := h
      simp
    · cases hr : Ds.rd (c :: l) with
      | none => rw [hr] at h; cases h
      | some x =>
        obtain ⟨k, m, n⟩ := x
        rw [hr] at h
        dsimp only at h
        have hl := Ds.rd_len hr
        cases hg : Ds.argsF f ((c :: l).drop n) with
        | none => rw [hg] at h; cases h
        | some x =>
          obtain ⟨a', r'⟩ := x
          rw [hg] at h
          simp only [Option.some.injEq, Prod.mk.injEq] at h
          obtain ⟨rfl, -⟩ := h
          have := argsF_len f _ _ _ hg
          rw [List.length_drop] at this
          rw [List.length_cons]
          omega
theorem mdOut_len {s : List UInt8} {a : List Ds.Ty} {r : Ds.Ty} {er : Int} (h : mdOut s = (a, r, er)) : a.length ≤ 140737488355328 := by
  unfold mdOut at h
  split at h
  · simp only [Prod.mk.injEq] at h
    obtain ⟨rfl, -⟩ := h
    simp
  · rename_i hs
    split at h
    · rename_i x xs y hm
      simp only [Prod.mk.injEq] at h
      obtain ⟨rfl, -, -⟩ := h
      cases s with
      | nil => cases hm
      | cons c l =>
        unfold Ds.md at hm
        dsimp only at hm
        split at hm
        · unfold Ds.mdA at hm
          cases hg : Ds.argsF (l.length + 1) l with
          | none => rw [hg] at hm; cases hm
          | some x =>
            obtain ⟨a', r'⟩ := x
            rw [hg] at hm
            dsimp only at hm
            unfold Ds.retM at hm
            cases hr : Ds.retF r' with
            | none => rw [hr] at hm; cases hm
            | some x =>
              obtain ⟨y', s'⟩ := x
              rw [hr] at hm
              simp only [Option.some.injEq, Prod.mk.injEq, List.nil_append] at hm
              obtain ⟨rfl, -, -⟩ := hm
              have := argsF_len _ _ _ _ hg
              rw [List.length_cons] at hs
              omega
        · cases hm
    · simp only [Prod.mk.injEq] at h
      obtain ⟨rfl, -⟩ := h
      simp
end Go.Proofs.YthhjenmgcbmphaaDoor

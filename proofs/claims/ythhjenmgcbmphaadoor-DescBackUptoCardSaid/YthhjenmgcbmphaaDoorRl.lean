/- The document's read at an object; read altogether. -/
import Derived.Test.YthhjenmgcbmphaaDoorRr
namespace Go.Proofs.YthhjenmgcbmphaaDoor
open Go.RowKit

theorem take_pred {s : ByteArray} {c : UInt8} {l : List UInt8} (h : Ds.bl s = c :: l) {j : Nat} (h1 : 1 ≤ j) (hj : j < s.size) : l = l.take (j - 1) ++ s[j] :: l.drop j := by
  have hb := bl_at s j hj
  rw [h] at hb
  obtain ⟨i, rfl⟩ : ∃ i, j = i + 1 := ⟨j - 1, by omega⟩
  rw [List.getElem?_cons_succ] at hb
  have hi := (List.getElem?_eq_some_iff.1 hb).1
  have e := (List.getElem?_eq_some_iff.1 hb).2
  rw [Nat.add_sub_cancel, ← e]
  rw [← List.drop_eq_getElem_cons hi]
  exact (List.take_append_drop i l).symm
set_option maxRecDepth 100000 in
set_option maxHeartbeats 1000000 in
theorem rread_obj (s : ByteArray) (l : List UInt8) (w : World) (h : Ds.bl s = 76 :: l) (hs : s.size ≤ 255) : Calls Tryd.prog 23 #[.string s] w (RrPost s w) := by
  unfold RrPost
  have h1 := size_pos h
  have h1' : (0 : Int) < s.size := by omega
  have h0 : (s.toList.isEmpty) = false := by
    rw [ByteArray.toList_eq]
    have : s.data.toList = 76 :: l := h
    rw [this]; rfl
  have HC : s[0]'h1 = 76 := first_at h
  have hsl : l.length = s.size - 1 := by have := (rest_size h).2; omega
  obtain ⟨o, ho⟩ : ∃ o, o = rrOut (Ds.bl s) := ⟨_, rfl⟩
  rw [← ho]
  have HO : Hid (o = match Ds.cutC 59 l with | none => ((0, []), 0) | some (a, _) => if Ds.classB a = true then ((4, a), ((a.length + 2 : Nat) : Int)) else ((0, []), 0)) := by
    show o = _
    rw [ho, h]
    unfold rrOut
    rw [show Ds.rd (76 :: l) = match Ds.cutC 59 l with | none => none | some (a, _) => if Ds.classB a = true then some (4, a, a.length + 2) else none from rfl]
    cases Ds.cutC 59 l with
    | none => rfl
    | some ab =>
      obtain ⟨a, b⟩ := ab
      dsimp only
      by_cases hc : Ds.classB a = true
      · rw [if_pos hc, if_pos hc]
      · rw [if_neg hc, if_neg hc]
  have HH := hid h
  have HL := hid hsl
  clear ho h hsl
  unfold tyV
  go_enter Tryd.func23, Tryd.ntmps23
  go_wp2
  go_loopw [6] (fun i wr => ∃ j : Nat, 1 ≤ j ∧ j ≤ s.size ∧ i = .int .i64 j ∧ Hid (∀ x ∈ l.take (j - 1), x ≠ 59) ∧ wr = w.alloc (.cells #[.int .i64 0, .string ⟨#[]⟩] 23)) (fun i _ => s.size - (intOf i).toNat)
  case atStart => exact ⟨1, by omega, by omega, rfl, (fun x hx => by simp at hx : ∀ x ∈ l.take (1 - 1), x ≠ 59), rfl⟩
  case round =>
    obtain ⟨j, hj1, hj2, rfl, hno, rfl⟩ := hrel
    by_cases hlt : j < s.size
    · have hE := hid (take_pred HH.out hj1 hlt)
      have hji : (j : Int) < s.size := by omega
      by_cases hc : s[j] = 59
      · have hd : ((s[j].toNat : Int) == 59) = true := by rw [hc]; rfl
        have hcut : Ds.cutC 59 l = some (l.take (j - 1), l.drop j) := by
          have := cut_pre (c := 59) (r := l.drop j) hno.out
          rw [← hc, ← hE.out] at this
          rw [← hc]
          exact this
        have HO2 := HO.out
        rw [hcut] at HO2
        dsimp only at HO2
        have hla : (l.take (j - 1)).length = j - 1 := by rw [List.length_take, HL.out]; omega
        have hex := hid (show Ds.bl (s.extract 1 j) = l.take (j - 1) by rw [bl_ext, HH.out]; simp)
        have HK := fun W => rclass_any (s.extract 1 j) W (by have := ext_size s 1 j; omega)
        rw [hex.out] at HK
        have hj1i : (1 : Int) ≤ j := by omega
        have hj2i : (j : Int) ≤ s.size := by omega
        have hw1 : IntKind.i64.wrap ((j : Int) + 1) = (j : Int) + 1 := IntWalk.i64_in _ (by omega)
        rw [hla] at HO2
        cases hcl : Ds.classB (l.take (j - 1)) with
        | true =>
          rw [hcl, if_pos rfl] at HO2
          rw [hcl] at HK
          have HKc := hid HK
          have HOo := hid HO2
          have hJ := hid (show ((j - 1 + 2 : Nat) : Int) = (j : Int) + 1 by omega)
          have hext := hid (ba_of hex.out)
          clear HK HO2 hcut hc hla hcl
          go_wp2_with (go_at_call 36; refine (HKc.out _).mono ?_; rintro e w1 ⟨rfl, hb1⟩; obtain ⟨hcc, hff⟩ := bcell hb1; have hz1 := hb1.size; simp only [World.size_alloc] at hz1; have hz2 : w.heap.size < w1.heap.size := (by omega))
          have hA := belows (B := w.heap.size) (a := w) (by repeat' first | with_reducible exact Below.refl _ _ | with_reducible assumption | with_reducible refine belows_drewN ?_ _ | with_reducible refine Below.drew ?_ | with_reducible refine Below.setCell ?_ ?_ _ | with_reducible refine Below.alloc ?_ ?_ _ | omega | (simp; done) | (simp; omega)) hb1 (by simp)
          rw [HOo.out]
          dsimp only
          rw [hJ.out, ← hext.out]
          exact bodyPost_ret (v := .tuple #[.agg #[.int .i64 4, .string (s.extract 1 j)], .int .i64 ((j : Int) + 1)]) (by simp [results, Tryd.results23, go_sem, hcc]) rfl ⟨rfl, (by repeat' first | with_reducible exact Below.refl _ _ | with_reducible assumption | with_reducible refine belows_drewN ?_ _ | with_reducible refine Below.drew ?_ | with_reducible refine Below.setCell ?_ ?_ _ | with_reducible refine Below.alloc ?_ ?_ _ | omega | (simp; done) | (simp; omega))⟩
        | false =>
          rw [hcl, if_neg (by simp)] at HO2
          rw [hcl] at HK
          have HKc := hid HK
          have HOo := hid HO2
          clear HK HO2 hcut hc hla hcl
          go_wp2_with (go_at_call 36; refine (HKc.out _).mono ?_; rintro e w1 ⟨rfl, hb1⟩; obtain ⟨hcc, hff⟩ := bcell hb1; have hz1 := hb1.size; simp only [World.size_alloc] at hz1; have hz2 : w.heap.size < w1.heap.size := (by omega))
          have hA := belows (B := w.heap.size) (a := w) (by repeat' first | with_reducible exact Below.refl _ _ | with_reducible assumption | with_reducible refine belows_drewN ?_ _ | with_reducible refine Below.drew ?_ | with_reducible refine Below.setCell ?_ ?_ _ | with_reducible refine Below.alloc ?_ ?_ _ | omega | (simp; done) | (simp; omega)) hb1 (by simp)
          rw [HOo.out]
          exact bodyPost_ret (v := .tuple #[.agg #[.int .i64 0, .string ⟨#[]⟩], .int .i64 0]) (by simp [results, Tryd.results23, go_sem, hcc]) rfl ⟨rfl, (by repeat' first | with_reducible exact Below.refl _ _ | with_reducible assumption | with_reducible refine belows_drewN ?_ _ | with_reducible refine Below.drew ?_ | with_reducible refine Below.setCell ?_ ?_ _ | with_reducible refine Below.alloc ?_ ?_ _ | omega | (simp; done) | (simp; omega))⟩
      · have hd : ((s[j].toNat : Int) == 59) = false := u8_ne hc
        have hno2 : Hid (∀ x ∈ l.take (j + 1 - 1), x ≠ 59) := by
          show ∀ x ∈ l.take (j + 1 - 1), x ≠ 59
          intro x hx
          have e := hE.out
          rw [Nat.add_sub_cancel] at hx
          have hl1 : (l.take (j - 1)).length = j - 1 := by rw [List.length_take, HL.out]; omega
          rw [e, List.take_append, hl1, show j - (j - 1) = 1 by omega] at hx
          rcases List.mem_append.1 hx with hx | hx
          · exact hno.out x (List.mem_of_mem_take hx)
          · simp at hx; rw [hx]; exact hc
        have hw1 : IntKind.i64.wrap ((j : Int) + 1) = (j : Int) + 1 := IntWalk.i64_in _ (by omega)
        clear hc
        go_wp2
        go_roundw
        case rel => exact ⟨j + 1, by omega, by omega, by go_num, hno2, by trivial⟩
        case measure => simp [intOf]; omega
    · obtain rfl : j = s.size := by omega
      have HO2 := HO.out
      rw [cut_none (pre := l) (by have := hno.out; rwa [List.take_of_length_le (by rw [HL.out]; exact Nat.le_refl _)] at this)] at HO2
      have HOo := hid HO2
      clear HO2
      go_wp2
      rw [HOo.out]
      exact bodyPost_ret (v := .tuple #[.agg #[.int .i64 0, .string ⟨#[]⟩], .int .i64 0]) (by simp [results, Tryd.results23, go_sem]) rfl ⟨rfl, (by repeat' first | with_reducible exact Below.refl _ _ | with_reducible assumption | with_reducible refine belows_drewN ?_ _ | with_reducible refine Below.drew ?_ | with_reducible refine Below.setCell ?_ ?_ _ | with_reducible refine Below.alloc ?_ ?_ _ | omega | (simp; done) | (simp; omega))⟩
theorem rread_any : ∀ (l : List UInt8) (s : ByteArray) (w : World), Ds.bl s = l → s.size ≤ 255 → Calls Tryd.prog 23 #[.string s] w (RrPost s w)
  | [], s, w, h, _ => rread_nil s w h
  | c :: l, s, w, h, hs => by
    by_cases c1 : c = 73
    · exact rread_letter s c l w h (.inl c1)
    by_cases c2 : c = 74
    · exact rread_letter s c l w h (.inr c2)
    by_cases c3 : c = 91
    · subst c3
      have z := rest_size h
      exact rread_arr s l w h hs fun W => rread_any l (s.extract 1 s.size) W (rest_at h) (by omega)
    by_cases c4 : c = 76
    · subst c4; exact rread_obj s l w h hs
    exact rread_other s c l w h c1 c2 c3 c4
end Go.Proofs.YthhjenmgcbmphaaDoor

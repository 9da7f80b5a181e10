/- Contracts of the document's PrintMethod and Slots. -/
import Derived.Test.YthhjenmgcbmphaaDoorPn
import Derived.Test.YthhjenmgcbmphaaDoorRp
namespace Go.Proofs.YthhjenmgcbmphaaDoor
open Go.RowKit

theorem cat_arr (a b : List UInt8) : (⟨a.toArray⟩ : ByteArray) ++ ⟨b.toArray⟩ = ⟨(a ++ b).toArray⟩ := by
  apply ba_ext
  show ((⟨a.toArray⟩ : ByteArray) ++ ⟨b.toArray⟩).data.toList = _
  simp
set_option maxRecDepth 100000 in
set_option maxHeartbeats 1000000 in
theorem rprintMethod_any (k : Int) (m : ByteArray) (l : List Ds.Ty) (v : Value) (w : World) (hs : m.size ≤ 140737488351232) (hv : Kit.IsS 2 w v l.length (l.flatMap tyC)) (hg : ∀ y ∈ l, GoodT y) (hl : l.length ≤ 1048576) :
    Calls Tryd.prog 18 #[.agg #[.int .i64 k, .string m], v] w (PmPost (k, Ds.bl m) l w) := by
  have HV := hid hv
  obtain ⟨a, cap, hv2⟩ := hv.len
  subst hv2
  have HG := hid hg
  have HR0 := fun W => rprint_any k m W hs
  unfold PrPost at HR0
  obtain ⟨r, hr⟩ : ∃ r, r = (k, Ds.bl m) := ⟨_, rfl⟩
  rw [← hr] at HR0 ⊢
  have HRR := hid hr
  clear hv hg hr
  go_enter Tryd.func18, Tryd.ntmps18
  go_wp2
  go_loopw [6, 7] (fun u i wr => ∃ j : Nat, j ≤ l.length ∧ i = .int .i64 j ∧ u = .string ⟨(40 :: (l.take j).flatMap draftOf).toArray⟩ ∧ Hid (ArgsP l j) ∧ TB wr w.heap.size k m ∧ Below w.heap.size w wr) (fun _ i _ => l.length - (intOf i).toNat)
  case atStart => exact ⟨0, by omega, rfl, rfl, fun y hy => by simp at hy, TB.new w k m, (by repeat' first | with_reducible exact Below.refl _ _ | with_reducible assumption | with_reducible refine belows_drewN ?_ _ | with_reducible refine Below.drew ?_ | with_reducible refine Below.setCell ?_ ?_ _ | with_reducible refine Below.alloc ?_ ?_ _ | omega | (simp; done) | (simp; omega))⟩
  case round =>
    obtain ⟨j, hj, rfl, rfl, hargs, htb, hbl⟩ := hrel
    have hrs := htb.sz
    have htl : ((l.take j).flatMap draftOf).length ≤ 255 * j := by
      have h1 := text_len (l := l.take j) hargs.out
      rw [List.length_take] at h1
      omega
    by_cases hlt : j < l.length
    · obtain ⟨x, hx⟩ : ∃ x, l[j]? = some x := ⟨l[j], List.getElem?_eq_getElem hlt⟩
      obtain ⟨b, o, cap', hv, hb, c0, c1⟩ := ty_at (HV.out.below hbl (Nat.le_refl _)) hx
      obtain ⟨rfl, -, rfl⟩ := Value.slice.inj hv
      have hgx := HG.out x (List.mem_of_getElem? hx)
      obtain ⟨xk, xm⟩ := x
      have HP0 := fun W => rprint_any xk ⟨xm.toArray⟩ W (by rw [str_size]; have := hgx.2; dsimp only at this; omega)
      unfold PrPost at HP0
      rw [show Ds.bl ⟨xm.toArray⟩ = xm from rfl] at HP0
      have hji : (j : Int) < l.length := by omega
      dsimp only at c0 c1
      by_cases hty : IsTy (xk, xm)
      · have hpo : prOut (xk, xm) = (draftOf (xk, xm), 0) := by unfold prOut; exact if_pos hty
        have hdl := isTy_len hty
        have hnext := hid (args_step hx hty hargs.out)
        have htext := hid (text_step hx)
        rw [hpo] at HP0
        obtain ⟨d, hd⟩ : ∃ d, d = draftOf (xk, xm) := ⟨_, rfl⟩
        rw [← hd] at HP0 hdl htext
        dsimp only at HP0
        have HP := hid HP0
        obtain ⟨T, hT⟩ : ∃ T, T = 40 :: (l.take j).flatMap draftOf := ⟨_, rfl⟩
        have hcat := cat_arr T d
        have hTl : T.length ≤ 1 + 255 * j := by rw [hT, List.length_cons]; omega
        have hTd : T.length + d.length ≤ 9223372036854775807 := by omega
        have hTm : T.length + d.length ≤ maxLen := by unfold maxLen; omega
        rw [← hT]
        have HT := hid hT
        clear hT HP0 hpo hx hv hd hty hgx HR0
        go_wp2_with (go_at_call 16; refine (HP.out _).mono ?_; rintro e w1 ⟨rfl, hb1⟩; have hzz := hb1.size)
        go_roundw
        case rel => exact ⟨j + 1, by omega, by go_num, by rw [htext.out, HT.out]; rfl, hnext, htb.below hb1 hrs, belows hbl hb1 hbl.size⟩
        case measure => simp [intOf]; omega
      · have hpo : prOut (xk, xm) = ([], 20) := by unfold prOut; exact if_neg hty
        have HE := hid (pm_bad (r := r) hx hty)
        rw [hpo] at HP0
        dsimp only at HP0
        have HP := hid HP0
        clear HP0 hpo hx hv hty hgx HR0
        go_wp2_with (go_at_call 16; refine (HP.out _).mono ?_; rintro e w1 ⟨rfl, hb1⟩; have hzz := hb1.size)
        go_ret2
        exact ⟨[], 20, by rw [HE.out], by rw [HE.out], rfl, belows hbl hb1 hbl.size⟩
    · obtain rfl : j = l.length := by omega
      obtain ⟨b0, b1⟩ := htb.facts
      rw [List.take_length] at htl ⊢
      have HAll : Hid (∀ y ∈ l, IsTy y) := by have := hargs.out; unfold ArgsP at this; rw [List.take_length] at this; exact this
      obtain ⟨T, hT⟩ : ∃ T, T = 40 :: l.flatMap draftOf := ⟨_, rfl⟩
      have hTl : T.length ≤ 1 + 255 * l.length := by rw [hT, List.length_cons]; omega
      rw [← hT]
      clear hargs
      by_cases hk0 : r = (0, [])
      · have hkm : k = 0 ∧ m = ⟨#[]⟩ := by
          have e := HRR.out
          rw [hk0] at e
          exact ⟨(Prod.mk.inj e).1.symm, ba_ext (Prod.mk.inj e).2.symm⟩
        obtain ⟨rfl, rfl⟩ := hkm
        have HOk := hid (show OkT r l from ⟨HAll.out, .inl hk0⟩)
        have HTx := hid (show txt r l = T ++ ([41] ++ [86]) by rw [hT, hk0]; unfold txt retT; simp)
        have hlx : (txt r l).length = T.length + 2 := by rw [HTx.out]; simp
        have HC := hid (show (⟨T.toArray⟩ : ByteArray) ++ (⟨#[41]⟩ ++ ⟨#[86]⟩) = ⟨(T ++ ([41] ++ [86])).toArray⟩ by rw [← cat_arr, ← cat_arr])
        have hTm : T.length + 2 ≤ maxLen := by unfold maxLen; omega
        by_cases hlen : 255 < T.length + 2
        · have HP := hid (show pmOut r l = ([], 3) by unfold pmOut; rw [if_pos HOk.out, if_pos (by omega)])
          have hd : decide (255 < ((T.length : Int) + 2)) = true := by simp; omega
          clear HR0 hk0 hT hlx
          go_wp2
          go_ret2
          exact ⟨[], 3, by rw [HP.out], by rw [HP.out], rfl, hbl⟩
        · have HP := hid (pm_of (r := r) (a := l) HOk.out (by omega))
          have hd : decide (255 < ((T.length : Int) + 2)) = false := by simp; omega
          clear HR0 hk0 hT hlx
          go_wp2
          go_ret2
          exact ⟨txt r l, 0, by rw [HP.out], by rw [HP.out], by rw [HTx.out, ← HC.out]; rfl, hbl⟩
      · have hkm : ¬ k = 0 ∨ (k = 0 ∧ (m.toList.isEmpty) = false) := by
          by_cases h0 : k = 0
          · refine .inr ⟨h0, ?_⟩
            rw [ByteArray.toList_eq]
            cases hb : m.data.toList with
            | nil => exact absurd (by rw [HRR.out, h0]; show ((0 : Int), m.data.toList) = _; rw [hb]) hk0
            | cons => rfl
          · exact .inl h0
        by_cases hty : IsTy r
        · have HOk := hid (show OkT r l from ⟨HAll.out, .inr hty⟩)
          have HTx := hid (show txt r l = T ++ ([41] ++ draftOf r) by rw [hT]; unfold txt retT; rw [if_neg hk0]; simp)
          have hdl := isTy_len hty
          have hlx : (txt r l).length = T.length + (1 + (draftOf r).length) := by rw [HTx.out]; simp; omega
          have hpo : prOut r = (draftOf r, 0) := by unfold prOut; exact if_pos hty
          have HOkl := hid (fun (h : ¬ 255 < (txt r l).length) => pm_of (r := r) (a := l) HOk.out (by omega))
          have HOkg := hid (fun (h : 255 < (txt r l).length) => show pmOut r l = ([], 3) by unfold pmOut; rw [if_pos HOk.out, if_pos h])
          rw [hpo] at HR0
          obtain ⟨d, hdd⟩ : ∃ d, d = draftOf r := ⟨_, rfl⟩
          rw [← hdd] at HR0 HTx hlx hdl
          dsimp only at HR0
          have HR := hid HR0
          have HC := hid (show (⟨T.toArray⟩ : ByteArray) ++ (⟨#[41]⟩ ++ ⟨d.toArray⟩) = ⟨(T ++ ([41] ++ d)).toArray⟩ by rw [← cat_arr, ← cat_arr])
          have hTm : T.length + (1 + d.length) ≤ maxLen := by unfold maxLen; omega
          by_cases hlen : 255 < T.length + (1 + d.length)
          · have HP := hid (HOkg.out (by omega))
            have hd : decide (255 < ((T.length : Int) + (1 + (d.length : Int)))) = true := by simp; omega
            clear HR0 hk0 hT hlx hpo hty hdd
            rcases hkm with hkn | ⟨rfl, hme⟩
            · go_wp2_with (go_at_call 16; refine (HR.out _).mono ?_; rintro e w1 ⟨rfl, hb1⟩; have hzz := hb1.size; obtain ⟨c0, c1⟩ := (htb.below hb1 hrs).facts)
              go_ret2
              exact ⟨[], 3, by rw [HP.out], by rw [HP.out], rfl, belows hbl hb1 hbl.size⟩
            · go_wp2_with (go_at_call 16; refine (HR.out _).mono ?_; rintro e w1 ⟨rfl, hb1⟩; have hzz := hb1.size; obtain ⟨c0, c1⟩ := (htb.below hb1 hrs).facts)
              go_ret2
              exact ⟨[], 3, by rw [HP.out], by rw [HP.out], rfl, belows hbl hb1 hbl.size⟩
          · have HP := hid (HOkl.out (by omega))
            have hd : decide (255 < ((T.length : Int) + (1 + (d.length : Int)))) = false := by simp; omega
            clear HR0 hk0 hT hlx hpo hty hdd
            rcases hkm with hkn | ⟨rfl, hme⟩
            · go_wp2_with (go_at_call 16; refine (HR.out _).mono ?_; rintro e w1 ⟨rfl, hb1⟩; have hzz := hb1.size; obtain ⟨c0, c1⟩ := (htb.below hb1 hrs).facts)
              go_ret2
              exact ⟨txt r l, 0, by rw [HP.out], by rw [HP.out], by rw [HTx.out, ← HC.out]; rfl, belows hbl hb1 hbl.size⟩
            · go_wp2_with (go_at_call 16; refine (HR.out _).mono ?_; rintro e w1 ⟨rfl, hb1⟩; have hzz := hb1.size; obtain ⟨c0, c1⟩ := (htb.below hb1 hrs).facts)
              go_ret2
              exact ⟨txt r l, 0, by rw [HP.out], by rw [HP.out], by rw [HTx.out, ← HC.out]; rfl, belows hbl hb1 hbl.size⟩
        · have hpo : prOut r = ([], 20) := by unfold prOut; exact if_neg hty
          have HE := hid (show pmOut r l = ([], 20) by unfold pmOut; rw [if_neg (fun e => e.2.elim hk0 hty)])
          rw [hpo] at HR0
          dsimp only at HR0
          have HR := hid HR0
          clear HR0 hk0 hT hpo hty
          rcases hkm with hkn | ⟨rfl, hme⟩
          · go_wp2_with (go_at_call 16; refine (HR.out _).mono ?_; rintro e w1 ⟨rfl, hb1⟩; have hzz := hb1.size; obtain ⟨c0, c1⟩ := (htb.below hb1 hrs).facts)
            go_ret2
            exact ⟨[], 20, by rw [HE.out], by rw [HE.out], rfl, belows hbl hb1 hbl.size⟩
          · go_wp2_with (go_at_call 16; refine (HR.out _).mono ?_; rintro e w1 ⟨rfl, hb1⟩; have hzz := hb1.size; obtain ⟨c0, c1⟩ := (htb.below hb1 hrs).facts)
            go_ret2
            exact ⟨[], 20, by rw [HE.out], by rw [HE.out], rfl, belows hbl hb1 hbl.size⟩
set_option maxRecDepth 100000 in
set_option maxHeartbeats 400000 in
theorem rslots_any (l : List Ds.Ty) (v : Value) (w : World) (hv : Kit.IsS 2 w v l.length (l.flatMap tyC)) :
    Calls Tryd.prog 20 #[v] w fun e w' => e = .returned (.int .i64 (slotsOf l)) ∧ Below w.heap.size w w' := by
  have HV := hid hv
  obtain ⟨a, cap, hv2⟩ := hv.len
  subst hv2
  have hlen := hv.2.1
  clear hv
  go_enter Tryd.func20, Tryd.ntmps20
  go_wp2
  go_loopw [3, 4] (fun n i wr => ∃ k : Nat, k ≤ l.length ∧ i = .int .i64 k ∧ n = .int .i64 ((l.length : Int) + longs (l.take k)) ∧ Below w.heap.size w wr) (fun _ i _ => l.length - (intOf i).toNat)
  case atStart => exact ⟨0, by omega, rfl, rfl, (by repeat' first | with_reducible exact Below.refl _ _ | with_reducible assumption | with_reducible refine belows_drewN ?_ _ | with_reducible refine Below.drew ?_ | with_reducible refine Below.setCell ?_ ?_ _ | with_reducible refine Below.alloc ?_ ?_ _ | omega | (simp; done) | (simp; omega))⟩
  case round =>
    obtain ⟨k, hk, rfl, rfl, hbl⟩ := hrel
    have hbz := hbl.size
    by_cases hlt : k < l.length
    · obtain ⟨x, hx⟩ : ∃ x, l[k]? = some x := ⟨l[k], List.getElem?_eq_getElem hlt⟩
      obtain ⟨b, o, cap', hv, hb, c0, c1⟩ := ty_at (HV.out.below hbl (Nat.le_refl _)) hx
      obtain ⟨rfl, -, rfl⟩ := Value.slice.inj hv
      have HStep := hid (longs_step hx)
      have hlg := longs_le (l.take k)
      rw [List.length_take] at hlg
      obtain ⟨c, hc⟩ : ∃ c, c = longs (l.take k) := ⟨_, rfl⟩
      rw [← hc] at hlg HStep ⊢
      obtain ⟨xk, xm⟩ := x
      dsimp only at c0 c1 HStep
      have hlt' : (k : Int) < l.length := by omega
      clear hx hv hc
      by_cases h2 : xk = 2
      · subst h2
        have HS := hid (show longs (l.take (k + 1)) = c + 1 from HStep.out)
        clear HStep
        go_wp2
        go_roundw
        case rel => exact ⟨k + 1, by omega, by go_num, by rw [HS.out]; go_num, (by repeat' first | with_reducible exact Below.refl _ _ | with_reducible assumption | with_reducible refine belows_drewN ?_ _ | with_reducible refine Below.drew ?_ | with_reducible refine Below.setCell ?_ ?_ _ | with_reducible refine Below.alloc ?_ ?_ _ | omega | (simp; done) | (simp; omega))⟩
        case measure => simp [intOf]; omega
      · have h2' : (xk == 2) = false := by simpa using h2
        have HS0 := HStep.out
        rw [h2', if_neg (by simp)] at HS0
        have HS := hid HS0
        clear HS0
        clear HStep h2
        go_wp2
        go_roundw
        case rel => exact ⟨k + 1, by omega, by go_num, by rw [HS.out]; go_num, (by repeat' first | with_reducible exact Below.refl _ _ | with_reducible assumption | with_reducible refine belows_drewN ?_ _ | with_reducible refine Below.drew ?_ | with_reducible refine Below.setCell ?_ ?_ _ | with_reducible refine Below.alloc ?_ ?_ _ | omega | (simp; done) | (simp; omega))⟩
        case measure => simp [intOf]; omega
    · obtain rfl : k = l.length := by omega
      rw [List.take_length]
      have HS := hid (show slotsOf l = (l.length : Int) + longs l from rfl)
      go_wp2
      go_ret
      exact ⟨by rw [HS.out]; rfl, (by repeat' first | with_reducible exact Below.refl _ _ | with_reducible assumption | with_reducible refine belows_drewN ?_ _ | with_reducible refine Below.drew ?_ | with_reducible refine Below.setCell ?_ ?_ _ | with_reducible refine Below.alloc ?_ ?_ _ | omega | (simp; done) | (simp; omega))⟩
end Go.Proofs.YthhjenmgcbmphaaDoor

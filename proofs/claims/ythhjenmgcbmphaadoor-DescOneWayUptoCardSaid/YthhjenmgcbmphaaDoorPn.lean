/- Contract of PrintMethod. -/
import Derived.Test.YthhjenmgcbmphaaDoorPm
namespace Go.Proofs.YthhjenmgcbmphaaDoor
open Go.RowKit

def PmPost (r : Ds.Ty) (l : List Ds.Ty) (w : World) (e : Ending) (w' : World) : Prop := ∃ p er, p = (pmOut r l).1 ∧ er = (pmOut r l).2 ∧ e = .returned (.tuple #[.string ⟨p.toArray⟩, .int .i64 er]) ∧ Below w.heap.size w w'
set_option maxRecDepth 100000 in
set_option maxHeartbeats 1000000 in
theorem printMethod_any (k : Int) (m : ByteArray) (l : List Ds.Ty) (v : Value) (w : World) (hk : (Lit.int .i64 k).wf = true) (hs : m.size ≤ 140737488351232) (hv : Kit.IsS 2 w v l.length (l.flatMap tyC)) (hg : ∀ y ∈ l, GoodT y) (hl : l.length ≤ 1048576) :
    Calls Tryd.prog 17 #[.agg #[.int .i64 k, .string m], v] w (PmPost (k, Ds.bl m) l w) := by
  have HV := hid hv
  obtain ⟨a, cap, hv2⟩ := hv.len
  subst hv2
  have HG := hid hg
  have HR0 := fun W => printReturn_any k m W hk hs
  have HRl := hid (prR_len (k, Ds.bl m))
  have hbad := hid (fun h => pm_badr (r := (k, Ds.bl m)) (a := l) h)
  have hok := hid (fun h => pr_ok (r := (k, Ds.bl m)) h)
  obtain ⟨r, hr⟩ : ∃ r, r = (k, Ds.bl m) := ⟨_, rfl⟩
  rw [← hr] at HR0 HRl hbad hok ⊢
  obtain ⟨⟨ra, re⟩, hre⟩ : ∃ x, x = prR r := ⟨_, rfl⟩
  rw [← hre] at HR0 HRl hbad hok
  dsimp only at HR0 HRl hbad hok
  have HR := hid HR0
  obtain ⟨i0, hi, hz0, hz1, hz2⟩ := info_parts A.infoB
  obtain ⟨i8, hi8, hy0, hy1, hy2⟩ := info_parts A.infoB
  clear hv hg HR0 hre hr
  go_enter Tryd.func17, Tryd.ntmps17
  go_wp2
  go_loopw [6, 16] (fun u i wr => ∃ j : Nat, j ≤ l.length ∧ i = .int .i64 j ∧ OwnB wr (w.heap.size + 1) u (40 :: (l.take j).flatMap draftOf) ∧ Hid (ArgsP l j) ∧ TB wr w.heap.size k m ∧ Below w.heap.size w wr) (fun _ i _ => l.length - (intOf i).toNat)
  case atStart =>
    refine ⟨0, by omega, rfl, ?_, fun y hy => by simp at hy, ?_, (by repeat' first | with_reducible exact Below.refl _ _ | with_reducible assumption | with_reducible refine belows_drewN ?_ _ | with_reducible refine Below.drew ?_ | with_reducible refine Below.setCell ?_ ?_ _ | with_reducible refine Below.alloc ?_ ?_ _ | omega | (simp; done) | (simp; omega))⟩
    · have := own_new (w.alloc (.cells #[.int .i64 k, .string m] 23)) (w.heap.size + 1) 40 (by simp)
      simpa [bv] using this
    · exact (TB.new w k m).below ((Below.refl _ _).alloc (Nat.le_refl _) _) (by simp)
  case round =>
    obtain ⟨j, hj, rfl, hown, hargs, htb, hbl⟩ := hrel
    have hrs := htb.sz
    have htl : ((l.take j).flatMap draftOf).length ≤ 255 * j := by
      have h1 := text_len (l := l.take j) hargs.out
      rw [List.length_take] at h1
      omega
    by_cases hlt : j < l.length
    · obtain ⟨x, hx⟩ : ∃ x, l[j]? = some x := ⟨l[j], List.getElem?_eq_getElem hlt⟩
      obtain ⟨b, o, cap', hv, hb, c0, c1⟩ := ty_at (HV.out.below hbl (Nat.le_refl _)) hx
      obtain ⟨rfl, -, rfl⟩ := Value.slice.inj hv
      have hgx := HG.out x (List.mem_of_getElem? hx)
      obtain ⟨xk, xm⟩ := x
      have HP0 := fun W => print_any xk ⟨xm.toArray⟩ W hgx.1 (by rw [str_size]; have := hgx.2; dsimp only at this; omega)
      rw [show Ds.bl ⟨xm.toArray⟩ = xm from rfl] at HP0
      have hji : (j : Int) < l.length := by omega
      have Hx := hid hx
      dsimp only at c0 c1
      by_cases hty : IsTy (xk, xm)
      · have hpo : prOut (xk, xm) = (draftOf (xk, xm), 0) := by unfold prOut; exact if_pos hty
        have hdl := isTy_len hty
        have hnext := hid (args_step hx hty hargs.out)
        have htext := hid (text_step hx)
        rw [hpo] at HP0
        obtain ⟨d, hd⟩ : ∃ d, d = draftOf (xk, xm) := ⟨_, rfl⟩
        rw [← hd] at HP0 hdl htext
        dsimp only at HP0
        have HP := hid HP0
        clear HP0 hpo hx hv hd hty hgx
        go_wp2_with (first
          | (go_at_call 15; refine (HP.out _).mono ?_; rintro e w1 ⟨rfl, hb1⟩; have hzz := hb1.size; simp only [World.size_alloc] at hzz; have hown1 := Kit.owns_below (World.ownsRow.alloc hown _) hb1 (Nat.le_refl _))
          | (at_builtin; refine Lib.wpList_append_own_string _ rfl (.tmp 28) (.tmp 29) 57 9 rfl (w.heap.size + 1) 5 i0 Tryd.underlying57 Tryd.underlying9 hi hz0 hz1 hz2 _ _ _ rfl hown1 ⟨d.toArray⟩ rfl (by rw [str_size, List.length_cons]; unfold maxLen; omega) (by rw [str_size, List.length_cons]; omega) (by omega) ?_; intro v' w2 ho2' hg2 _; have ho2 := OwnB.app ho2'; clear ho2'))
        have htb2 := (htb.below (chainX hb1) hrs).grown hg2 (own_block hown (by omega))
        have hbl2 : Below w.heap.size w w2 := Kit.below_grown (belows hbl (chainX hb1) hbl.size) hg2 (by omega) (fun j e => by have := Kit.own_base hown j e; omega)
        have hown2 : OwnB w2 (w.heap.size + 1) v' (40 :: (l.take (j + 1)).flatMap draftOf) := by
          rw [htext.out]
          exact ho2
        have HX := hid (And.intro hown2 (And.intro htb2 hbl2))
        clear hown2 htb2 hbl2 ho2 hg2 hb1 hown1
        go_wp2
        go_roundw
        case rel => exact ⟨j + 1, by omega, by go_num, HX.out.1, hnext, HX.out.2.1, HX.out.2.2⟩
        case measure => simp [intOf]; omega
      · have hpo : prOut (xk, xm) = ([], 20) := by unfold prOut; exact if_neg hty
        have HE := hid (pm_bad (r := r) hx hty)
        rw [hpo] at HP0
        dsimp only at HP0
        have HP := hid HP0
        clear HP0 hpo hx hv hty hgx
        go_wp2_with (go_at_call 15; refine (HP.out _).mono ?_; rintro e w1 ⟨rfl, hb1⟩; have hzz := hb1.size; simp only [World.size_alloc] at hzz)
        go_ret2
        exact ⟨[], 20, by rw [HE.out], by rw [HE.out], rfl, belows hbl (chainX hb1) hbl.size⟩
    · obtain rfl : j = l.length := by omega
      obtain ⟨b0, b1⟩ := htb.facts
      rw [List.take_length] at hown htl
      have HAll : Hid (∀ y ∈ l, IsTy y) := by have := hargs.out; unfold ArgsP at this; rw [List.take_length] at this; exact this
      clear hargs
      by_cases hre0 : re = 0
      · subst hre0
        obtain ⟨hra, hrt⟩ := hok.out rfl
        have HOk := hid (show OkT r l from ⟨HAll.out, hrt⟩)
        have HT := hid (show txt r l = 40 :: l.flatMap draftOf ++ [41] ++ ra by rw [hra]; unfold txt; simp)
        have HRl2 := HRl.out
        have HP1 := hid (fun (h : 255 < (txt r l).length) => show pmOut r l = ([], 3) by unfold pmOut; rw [if_pos HOk.out, if_pos h])
        have HP2 := hid (fun (h : ¬ 255 < (txt r l).length) => pm_of (r := r) (a := l) HOk.out (by omega))
        obtain ⟨T, hT⟩ : ∃ T, T = txt r l := ⟨_, rfl⟩
        rw [← hT] at HT HP1 HP2
        clear hra hrt hT
        by_cases hlen : 255 < T.length
        · have hd : decide (255 < (T.length : Int)) = true := by simp; omega
          have HP := hid (HP1.out hlen)
          clear HP1 HP2
          go_wp2_with (first
            | (at_builtin; refine Lib.wpList_append_own_string _ rfl (.tmp 42) (.tmp 43) 57 9 rfl (w.heap.size + 1) 5 i0 Tryd.underlying57 Tryd.underlying9 hi hz0 hz1 hz2 v1 _ _ rfl ho2 ⟨ra.toArray⟩ rfl (by rw [str_size]; unfold maxLen; simp only [List.length_append, List.length_cons, List.length_nil]; omega) (by rw [str_size]; simp only [List.length_append, List.length_cons, List.length_nil]; omega) (by omega) ?_; intro v2 w3 ho3' hg3 _; have ho3 : OwnB w3 (w.heap.size + 1) v2 T := (by rw [HT.out]; exact OwnB.app ho3'); obtain ⟨sa, sc, rfl⟩ := own_form ho3; have hcv := own_conv ho3; clear ho3')
            | (at_builtin; refine wpList_append_own _ rfl (.tmp 40) (.tmp 41) 57 rfl (w.heap.size + 1) 5 i8 _ 1 1 Tryd.underlying57 hi8 hy0 hy1 hy2 rfl (by decide) _ _ _ rfl (World.ownsRow.alloc (Kit.owns_below hown hb1 (Nat.le_refl _)) _) ⟨w1.heap.size, 0, none⟩ 1 1 [.int .u8 41] rfl rfl (Kit.news_one _ _ _) (Kit.ones_one rfl) (by unfold maxLen; simp only [List.length_cons]; omega) (by simp only [List.length_cons]; omega) (by simp only [World.size_alloc]; omega) ?_; intro v1 w2 ho2' hg2 _; have ho2 : OwnB w2 (w.heap.size + 1) v1 (40 :: l.flatMap draftOf ++ [41]) := own_snoc ho2'; have hz2' := hg2.size; simp only [World.size_alloc] at hz2')
            | (go_at_call 31; refine (HR.out _).mono ?_; rintro e w1 ⟨rfl, hb1⟩; have hzz := hb1.size))
          go_ret2
          exact ⟨[], 3, by rw [HP.out], by rw [HP.out], rfl, by (have hbl1 := belows hbl hb1 hbl.size; have hbl2 := Kit.below_grown (hbl1.alloc hbl1.size (.cells #[.int .u8 41] 5)) hg2 (by simp only [World.size_alloc]; omega) (fun j e => (by have := Kit.own_base hown j e; omega)); exact Kit.below_grown hbl2 hg3 hbl2.size (fun j e => (by have := Kit.own_base ho2 j e; omega)))⟩
        · have hd : decide (255 < (T.length : Int)) = false := by simp; omega
          have HP := hid (HP2.out hlen)
          clear HP1 HP2
          go_wp2_with (first
            | (at_builtin; refine Lib.wpList_append_own_string _ rfl (.tmp 42) (.tmp 43) 57 9 rfl (w.heap.size + 1) 5 i0 Tryd.underlying57 Tryd.underlying9 hi hz0 hz1 hz2 v1 _ _ rfl ho2 ⟨ra.toArray⟩ rfl (by rw [str_size]; unfold maxLen; simp only [List.length_append, List.length_cons, List.length_nil]; omega) (by rw [str_size]; simp only [List.length_append, List.length_cons, List.length_nil]; omega) (by omega) ?_; intro v2 w3 ho3' hg3 _; have ho3 : OwnB w3 (w.heap.size + 1) v2 T := (by rw [HT.out]; exact OwnB.app ho3'); obtain ⟨sa, sc, rfl⟩ := own_form ho3; have hcv := own_conv ho3; clear ho3')
            | (at_builtin; refine wpList_append_own _ rfl (.tmp 40) (.tmp 41) 57 rfl (w.heap.size + 1) 5 i8 _ 1 1 Tryd.underlying57 hi8 hy0 hy1 hy2 rfl (by decide) _ _ _ rfl (World.ownsRow.alloc (Kit.owns_below hown hb1 (Nat.le_refl _)) _) ⟨w1.heap.size, 0, none⟩ 1 1 [.int .u8 41] rfl rfl (Kit.news_one _ _ _) (Kit.ones_one rfl) (by unfold maxLen; simp only [List.length_cons]; omega) (by simp only [List.length_cons]; omega) (by simp only [World.size_alloc]; omega) ?_; intro v1 w2 ho2' hg2 _; have ho2 : OwnB w2 (w.heap.size + 1) v1 (40 :: l.flatMap draftOf ++ [41]) := own_snoc ho2'; have hz2' := hg2.size; simp only [World.size_alloc] at hz2')
            | (go_at_call 31; refine (HR.out _).mono ?_; rintro e w1 ⟨rfl, hb1⟩; have hzz := hb1.size))
          go_ret2
          exact ⟨T, 0, by rw [HP.out], by rw [HP.out], rfl, by (have hbl1 := belows hbl hb1 hbl.size; have hbl2 := Kit.below_grown (hbl1.alloc hbl1.size (.cells #[.int .u8 41] 5)) hg2 (by simp only [World.size_alloc]; omega) (fun j e => (by have := Kit.own_base hown j e; omega)); exact Kit.below_grown hbl2 hg3 hbl2.size (fun j e => (by have := Kit.own_base ho2 j e; omega)))⟩
      · have HE := hid (hbad.out hre0)
        have hne : (re != 0) = true := by simpa using hre0
        clear hre0
        go_wp2_with (go_at_call 31; refine (HR.out _).mono ?_; rintro e w1 ⟨rfl, hb1⟩; have hzz := hb1.size)
        go_ret2
        exact ⟨[], 20, by rw [HE.out.1], by rw [HE.out.1], by rw [HE.out.2]; rfl, belows hbl hb1 hbl.size⟩
end Go.Proofs.YthhjenmgcbmphaaDoor

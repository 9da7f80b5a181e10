/- VtypeParts is true for every type and every list of types, as long as the two tables of unicode/utf8 hold what the text of the program lays there (the card ties them). -/
import Derived.Test.YtahjnaoabfkpcaaDoorZP4
import Derived.Test.YtahjnaoabfkpcaaDoorRows
import Derived.ChangeSlices
namespace Go.Proofs.YtahjnaoabfkpcaaDoor
open Go Go.RowKit
open Ty (bl mk br T)
set_option maxRecDepth 100000
set_option maxHeartbeats 2000000
theorem u8_int {c : UInt8} {x : UInt8} : (((c.toNat : Int)) == (x.toNat : Int)) = decide (c = x) := by
  by_cases h : c = x
  · simp [h]
  · simp only [h, decide_false, beq_eq_false_iff_ne, ne_eq]
    intro e
    exact h (UInt8.toNat_inj.1 (by exact_mod_cast e))
theorem rclass_any (s : ByteArray) (w : World) : Calls Tryd.prog 27 #[.string s] w fun e w' => e = .returned (.bool (Ty.clsB (bl s))) ∧ w = w' := by
  unfold Ty.clsB
  cases hb : bl s with
  | nil =>
    have h0 : s = ⟨#[]⟩ := Ty.ba_ext hb
    subst h0
    clear hb
    go_enter Tryd.func27, Tryd.ntmps27
    go_wp2
    go_ret
    exact ⟨rfl, rfl⟩
  | cons c l =>
    have he : s.toList.isEmpty = false := by rw [Ty.str_eq, hb]; rfl
    have hne : ¬ s = ⟨#[]⟩ := fun e => by rw [e] at hb; cases hb
    have h0 := size_pos hb
    have hc0 : ((s[0]'h0).toNat : Int) = (c.toNat : Int) := by rw [byte_at hb h0]
    have h1 : decide (c :: l ≠ []) = true := by simp
    have h2 : decide (br (c :: l) = 0) = !decide (c = 91) := by
      by_cases e : c = 91
      · subst e; rw [Ty.br_yes]; simp
      · rw [Ty.br_no _ e]; simp [e]
    rw [h1, h2, Bool.true_and]
    have hq := u8_int (c := c) (x := 91)
    have hq2 : ((c.toNat : Int) == 91) = decide (c = 91) := hq
    have hq3 : ((c.toNat : Int) != 91) = !decide (c = 91) := by unfold bne; rw [hq2]
    obtain ⟨b, hb91⟩ : ∃ b, decide (c = 91) = b := ⟨_, rfl⟩
    rw [hb91] at hq2 hq3 ⊢
    clear hb h1 h2 hq hb91
    go_enter Tryd.func27, Tryd.ntmps27
    go_wp2
    go_ret
    exact ⟨by simp, rfl⟩
/-- The byte at the end. -/
theorem last_at {d : ByteArray} {l : List UInt8} {z : UInt8} (h : bl d = l ++ [z]) (h0 : d.size - 1 < d.size) : d[d.size - 1]'h0 = z := by
  have hs : d.size = l.length + 1 := by rw [← Ty.bl_len, h]; simp
  have h1 : d.data.toList[d.size - 1]? = some z := by rw [show d.data.toList = _ from h, hs]; simp
  have h2 : d.data.toList[d.size - 1]? = some (d[d.size - 1]'h0) := by
    rw [Array.getElem?_toList, Array.getElem?_eq_getElem (by simpa using h0)]
    rfl
  exact Option.some.inj (h2.symm.trans h1)
/-- What the document asks of a text that may stand for a class. -/
theorem wn_ref {d : ByteArray} {c : UInt8} {l : List UInt8} {z : UInt8} (h : bl d = c :: (l ++ [z])) (hl : l ≠ []) : Ty.wn (bl d) = if (decide (c = 76) && decide (z = 59) && Ty.clsB l) = true then some l else none := by
  rw [h]
  by_cases hc : c = 76
  · subst hc
    unfold Ty.wn Ty.clsB
    by_cases hz : z = 59
    · subst hz; simp [hl]
    · simp [hz]
  · cases hw : Ty.wn (c :: (l ++ [z])) with
    | none => simp [hc]
    | some q =>
      obtain ⟨e, -, -⟩ := Ty.wn_some.1 hw
      injection e with e
      exact absurd e hc
theorem wn_short {r : List UInt8} (h : r.length ≤ 2) : Ty.wn r = none := by
  cases hw : Ty.wn r with
  | none => rfl
  | some q =>
    obtain ⟨rfl, h2, -⟩ := Ty.wn_some.1 hw
    cases q with
    | nil => exact absurd rfl h2
    | cons => simp at h
theorem relement_any (t : T) (hs : t.n.size ≤ maxLen) (w : World) : Calls Tryd.prog 8 #[tyA t] w fun e w' => e = .returned (tyO (Ty.el t)) ∧ Below w.heap.size w w' := by
  obtain ⟨k, n⟩ := t
  dsimp only at hs
  unfold Ty.el
  dsimp only
  by_cases hk : k = 4
  · subst hk
    rw [if_pos rfl]
    cases hb : bl n with
    | nil =>
      have h0 : n = ⟨#[]⟩ := Ty.ba_ext hb
      subst h0
      rw [show Ty.elL [] = none from rfl]
      unfold tyO tyA
      clear hb
      go_enter Tryd.func8, Tryd.ntmps8
      go_wp2
      exact bodyPost_ret (v := .tuple #[.agg #[.int .i64 0, .string ⟨#[]⟩], .bool false]) (by simp [results, Tryd.results8, go_sem]) rfl ⟨rfl, (by repeat' first | with_reducible exact Below.refl _ _ | with_reducible assumption | with_reducible refine belows_drewN ?_ _ | with_reducible refine Below.drew ?_ | with_reducible refine Below.setCell ?_ ?_ _ | with_reducible refine Below.alloc ?_ ?_ _ | omega | (simp; done) | (simp; omega))⟩
    | cons c r =>
      have hnz : n.size = r.length + 1 := by rw [← Ty.bl_len, hb]; rfl
      by_cases hr0 : r = []
      · subst hr0
        have hel : Ty.elL [c] = none := by
          unfold Ty.elL
          split
          · rename_i x hx
            injection hx with hx1 hx2
            subst hx2
            simp [br, Ty.wn]
          · rfl
        rw [hel]
        have hlt : (n.size : Int) < 2 := by rw [hnz]; decide
        have hlt2 : decide ((n.size : Int) < 2) = true := decide_eq_true hlt
        unfold tyO tyA
        clear hb hel hnz
        go_enter Tryd.func8, Tryd.ntmps8
        go_wp2
        exact bodyPost_ret (v := .tuple #[.agg #[.int .i64 0, .string ⟨#[]⟩], .bool false]) (by simp [results, Tryd.results8, go_sem]) rfl ⟨rfl, (by repeat' first | with_reducible exact Below.refl _ _ | with_reducible assumption | with_reducible refine belows_drewN ?_ _ | with_reducible refine Below.drew ?_ | with_reducible refine Below.setCell ?_ ?_ _ | with_reducible refine Below.alloc ?_ ?_ _ | omega | (simp; done) | (simp; omega))⟩
      · have hrl : 0 < r.length := List.length_pos_iff.2 hr0
        have hlt : ¬ (n.size : Int) < 2 := by omega
        have hlt2 : decide ((n.size : Int) < 2) = false := decide_eq_false hlt
        have h0 := size_pos hb
        have hc0 : ((n[0]'h0).toNat : Int) = (c.toNat : Int) := by rw [byte_at hb h0]
        have hq2 : ((c.toNat : Int) == 91) = decide (c = 91) := u8_int (c := c) (x := 91)
        by_cases hc : c = 91
        · subst hc
          have hc1 : ((n[0]'h0).toNat : Int) = 91 := hc0
          obtain ⟨d, hd⟩ : ∃ d, n.extract 1 n.size = d := ⟨_, rfl⟩
          have hdr : bl d = r := by rw [← hd, Ty.bl_from, hb]; rfl
          have hq73 := str_dec d [73]
          have hq74 := str_dec d [74]
          rw [hdr] at hq73 hq74
          have hmd : mk r = d := (Ty.mk_of hdr).symm
          have hel : Ty.elL (91 :: r) = if r = [73] then some ⟨1, mk []⟩ else if r = [74] then some ⟨2, mk []⟩ else if 0 < br r then some ⟨4, d⟩ else (Ty.wn r).map (fun q => ⟨4, mk q⟩) := by rw [← hmd]; rfl
          rw [hel]
          have hn1 : 1 ≤ n.size := by omega
          have hle : (1 : Int) ≤ (n.size : Int) := by omega
          have HD : Hid (n.extract 1 n.size = d) := hd
          have hds : d.size = r.length := by rw [← Ty.bl_len, hdr]
          clear hel hmd hc0 hq2
          by_cases e1 : r = [73]
          · rw [if_pos e1]
            rw [decide_eq_true e1, ← hd] at hq73
            unfold tyO tyA
            clear e1 hd hb hdr hds hnz hr0 hrl hq74
            go_enter Tryd.func8, Tryd.ntmps8
            go_wp2
            exact bodyPost_ret (v := .tuple #[.agg #[.int .i64 1, .string ⟨#[]⟩], .bool true]) (by simp [results, Tryd.results8, go_sem]) rfl ⟨rfl, (by repeat' first | with_reducible exact Below.refl _ _ | with_reducible assumption | with_reducible refine belows_drewN ?_ _ | with_reducible refine Below.drew ?_ | with_reducible refine Below.setCell ?_ ?_ _ | with_reducible refine Below.alloc ?_ ?_ _ | omega | (simp; done) | (simp; omega))⟩
          · rw [if_neg e1]
            rw [decide_eq_false e1] at hq73
            by_cases e2 : r = [74]
            · rw [if_pos e2]
              rw [decide_eq_true e2, ← hd] at hq74
              rw [← hd] at hq73
              unfold tyO tyA
              clear e1 e2 hd hb hdr hds hnz hr0 hrl
              go_enter Tryd.func8, Tryd.ntmps8
              go_wp2
              exact bodyPost_ret (v := .tuple #[.agg #[.int .i64 2, .string ⟨#[]⟩], .bool true]) (by simp [results, Tryd.results8, go_sem]) rfl ⟨rfl, (by repeat' first | with_reducible exact Below.refl _ _ | with_reducible assumption | with_reducible refine belows_drewN ?_ _ | with_reducible refine Below.drew ?_ | with_reducible refine Below.setCell ?_ ?_ _ | with_reducible refine Below.alloc ?_ ?_ _ | omega | (simp; done) | (simp; omega))⟩
            · rw [if_neg e2]
              rw [decide_eq_false e2] at hq74
              cases r with
              | nil => exact absurd rfl hr0
              | cons x r =>
                have hd0 := size_pos hdr
                have hx0 : ((d[0]'hd0).toNat : Int) = (x.toNat : Int) := by rw [byte_at hdr hd0]
                have hx91 : ((x.toNat : Int) == 91) = decide (x = 91) := u8_int (c := x) (x := 91)
                by_cases e3 : x = 91
                · subst e3
                  rw [if_pos (by rw [Ty.br_yes]; omega)]
                  have hx1 : ((d[0]'hd0).toNat : Int) = 91 := hx0
                  unfold tyO tyA
                  clear e1 e2 hb hdr hds hnz hr0 hrl hx0 hx91
                  go_enter Tryd.func8, Tryd.ntmps8
                  go_wp2
                  exact bodyPost_ret (v := .tuple #[.agg #[.int .i64 4, .string d], .bool true]) (by simp [results, Tryd.results8, go_sem]) rfl ⟨rfl, (by repeat' first | with_reducible exact Below.refl _ _ | with_reducible assumption | with_reducible refine belows_drewN ?_ _ | with_reducible refine Below.drew ?_ | with_reducible refine Below.setCell ?_ ?_ _ | with_reducible refine Below.alloc ?_ ?_ _ | omega | (simp; done) | (simp; omega))⟩
                · rw [if_neg (by rw [Ty.br_no _ e3]; omega)]
                  rw [decide_eq_false e3] at hx91
                  have hx76 : ((x.toNat : Int) == 76) = decide (x = 76) := u8_int (c := x) (x := 76)
                  by_cases hL : 2 < d.size
                  · have hL1 : (2 : Int) < (d.size : Int) := by omega
                    obtain ⟨l, z, hlz⟩ : ∃ l z, r = l ++ [z] := by
                      rcases List.eq_nil_or_concat r with h | ⟨l, z, h⟩
                      · subst h; simp at hds; omega
                      · exact ⟨l, z, by rw [h, List.concat_eq_append]⟩
                    subst hlz
                    have hln : l ≠ [] := by rintro rfl; simp at hds; omega
                    have hll : d.size - 1 < d.size := by omega
                    have hz : ((d[d.size - 1]'hll).toNat : Int) = (z.toNat : Int) := by rw [last_at (l := x :: l) (by rw [hdr]; rfl) hll]
                    have hz59 : ((z.toNat : Int) == 59) = decide (z = 59) := u8_int (c := z) (x := 59)
                    obtain ⟨m, hm⟩ : ∃ m, d.extract 1 (d.size - 1) = m := ⟨_, rfl⟩
                    have hml : bl m = l := by
                      rw [← hm, Ty.bl_ext, hdr, hds]
                      simp
                    have hwn := wn_ref hdr hln
                    rw [hdr] at hwn
                    rw [hwn]
                    have HC := hid (fun W => rclass_any m W)
                    rw [hml] at HC
                    obtain ⟨b1, hb1⟩ : ∃ b, decide (x = 76) = b := ⟨_, rfl⟩
                    obtain ⟨b2, hb2⟩ : ∃ b, decide (z = 59) = b := ⟨_, rfl⟩
                    obtain ⟨b3, hb3⟩ : ∃ b, Ty.clsB l = b := ⟨_, rfl⟩
                    rw [hb1] at hx76
                    rw [hb2] at hz59
                    rw [hb3] at HC
                    rw [hb1, hb2, hb3]
                    have hmk : mk l = m := (Ty.mk_of hml).symm
                    have hr : tyO ((if (b1 && b2 && b3) = true then some l else none).map (fun q => (⟨4, mk q⟩ : T))) = if (b1 && b2 && b3) = true then .tuple #[.agg #[.int .i64 4, .string m], .bool true] else .tuple #[.agg #[.int .i64 0, .string ⟨#[]⟩], .bool false] := by
                      rw [← hmk]
                      by_cases h : (b1 && b2 && b3) = true
                      · rw [if_pos h, if_pos h]; rfl
                      · rw [if_neg h, if_neg h]; rfl
                    rw [hr]
                    unfold tyA
                    unfold maxLen at hs
                    have hdn : d.size ≤ n.size := by rw [hds, hnz]; omega
                    have hw1 : IntKind.i64.wrap ((d.size : Int) - 1) = ((d.size - 1 : Nat) : Int) := by rw [IntWalk.i64_in _ (by omega)]; omega
                    have hw2 : ((d.size : Int) - 1).toNat = d.size - 1 := by omega
                    have hw3 : (0 : Int) ≤ (d.size : Int) - 1 := by omega
                    have hw4 : (1 : Int) ≤ (d.size : Int) - 1 := by omega
                    have hw5 : (1 : Int) ≤ ((d.size - 1 : Nat) : Int) := by omega
                    have hw6 : ((d.size - 1 : Nat) : Int) ≤ (d.size : Int) := by omega
                    have hw7 : 1 ≤ d.size - 1 := by omega
                    have hw8 : d.size - 1 ≤ d.size := by omega
                    clear e1 e2 hb hdr hnz hr0 hrl hwn hml hmk hr hb1 hb2 hb3 hds hdn
                    have hq1' : (d.toList == [73]) = false := hq73
                    go_enter Tryd.func8, Tryd.ntmps8
                    go_upto_region 4 with fail
                    clear hd HD
                    subst hm
                    cases b1 <;> cases b2 <;> cases b3 <;>
                    · go_wp2_with (go_at_call 27; refine (HC.out _).mono ?_; rintro e w1 ⟨rfl, rfl⟩)
                      first
                        | exact bodyPost_ret (v := .tuple #[.agg #[.int .i64 0, .string ⟨#[]⟩], .bool false]) (by simp [results, Tryd.results8, go_sem]) rfl ⟨rfl, (by repeat' first | with_reducible exact Below.refl _ _ | with_reducible assumption | with_reducible refine belows_drewN ?_ _ | with_reducible refine Below.drew ?_ | with_reducible refine Below.setCell ?_ ?_ _ | with_reducible refine Below.alloc ?_ ?_ _ | omega | (simp; done) | (simp; omega))⟩
                        | exact bodyPost_ret (v := .tuple #[.agg #[.int .i64 4, .string (d.extract 1 (d.size - 1))], .bool true]) (by simp [results, Tryd.results8, go_sem]) rfl ⟨rfl, (by repeat' first | with_reducible exact Below.refl _ _ | with_reducible assumption | with_reducible refine belows_drewN ?_ _ | with_reducible refine Below.drew ?_ | with_reducible refine Below.setCell ?_ ?_ _ | with_reducible refine Below.alloc ?_ ?_ _ | omega | (simp; done) | (simp; omega))⟩
                  · have hL1 : ¬ (2 : Int) < (d.size : Int) := by omega
                    have hL2 : decide ((2 : Int) < (d.size : Int)) = false := decide_eq_false hL1
                    rw [wn_short (by rw [← hds]; omega)]
                    unfold tyO tyA
                    clear e1 e2 hb hdr hds hnz hr0 hrl
                    go_enter Tryd.func8, Tryd.ntmps8
                    go_wp2
                    exact bodyPost_ret (v := .tuple #[.agg #[.int .i64 0, .string ⟨#[]⟩], .bool false]) (by simp [results, Tryd.results8, go_sem]) rfl ⟨rfl, (by repeat' first | with_reducible exact Below.refl _ _ | with_reducible assumption | with_reducible refine belows_drewN ?_ _ | with_reducible refine Below.drew ?_ | with_reducible refine Below.setCell ?_ ?_ _ | with_reducible refine Below.alloc ?_ ?_ _ | omega | (simp; done) | (simp; omega))⟩
        · have hel : Ty.elL (c :: r) = none := by
            unfold Ty.elL
            split
            · rename_i x hx
              injection hx with hx1 hx2
              exact absurd hx1 hc
            · rfl
          rw [hel]
          rw [decide_eq_false hc] at hq2
          have hq3 : ((c.toNat : Int) != 91) = true := by unfold bne; rw [hq2]; rfl
          unfold tyO tyA
          clear hb hel hnz
          go_enter Tryd.func8, Tryd.ntmps8
          go_wp2
          exact bodyPost_ret (v := .tuple #[.agg #[.int .i64 0, .string ⟨#[]⟩], .bool false]) (by simp [results, Tryd.results8, go_sem]) rfl ⟨rfl, (by repeat' first | with_reducible exact Below.refl _ _ | with_reducible assumption | with_reducible refine belows_drewN ?_ _ | with_reducible refine Below.drew ?_ | with_reducible refine Below.setCell ?_ ?_ _ | with_reducible refine Below.alloc ?_ ?_ _ | omega | (simp; done) | (simp; omega))⟩
  · rw [if_neg hk]
    have hk2 : (k != 4) = true := by simpa using hk
    unfold tyO tyA
    go_enter Tryd.func8, Tryd.ntmps8
    go_wp2
    exact bodyPost_ret (v := .tuple #[.agg #[.int .i64 0, .string ⟨#[]⟩], .bool false]) (by simp [results, Tryd.results8, go_sem]) rfl ⟨rfl, (by repeat' first | with_reducible exact Below.refl _ _ | with_reducible assumption | with_reducible refine belows_drewN ?_ _ | with_reducible refine Below.drew ?_ | with_reducible refine Below.setCell ?_ ?_ _ | with_reducible refine Below.alloc ?_ ?_ _ | omega | (simp; done) | (simp; omega))⟩
end Go.Proofs.YtahjnaoabfkpcaaDoor
namespace Go.Proofs.YtahjnaoabfkpcaaDoor
open Go Go.RowKit
open Ty (bl mk br T)
set_option maxRecDepth 100000
set_option maxHeartbeats 2000000
theorem byte_get {t : ByteArray} {k : Nat} {c : UInt8} (h : (bl t)[k]? = some c) (hk : k < t.size) : t[k]'hk = c := by
  have h2 : t.data.toList[k]? = some (t[k]'hk) := by
    rw [Array.getElem?_toList, Array.getElem?_eq_getElem (by simpa using hk)]
    rfl
  exact Option.some.inj (h2.symm.trans h)
theorem rarray_any (t : T) (hs : t.n.size ≤ 140737488351232) (w : World) : Calls Tryd.prog 10 #[tyA t] w fun e w' => e = .returned (tyO (Ty.ar t)) ∧ Below w.heap.size w w' := by
  obtain ⟨k, n⟩ := t
  dsimp only at hs
  unfold Ty.ar
  dsimp only
  by_cases h1 : k = 1
  · subst h1
    rw [if_pos rfl]
    unfold tyO tyA
    go_enter Tryd.func10, Tryd.ntmps10
    go_wp2
    exact bodyPost_ret (v := .tuple #[.agg #[.int .i64 4, .string ⟨#[91, 73]⟩], .bool true]) (by simp [results, Tryd.results10, go_sem]) rfl ⟨rfl, (by repeat' first | with_reducible exact Below.refl _ _ | with_reducible assumption | with_reducible refine belows_drewN ?_ _ | with_reducible refine Below.drew ?_ | with_reducible refine Below.setCell ?_ ?_ _ | with_reducible refine Below.alloc ?_ ?_ _ | omega | (simp; done) | (simp; omega))⟩
  · rw [if_neg h1]
    by_cases h2 : k = 2
    · subst h2
      rw [if_pos rfl]
      unfold tyO tyA
      go_enter Tryd.func10, Tryd.ntmps10
      go_wp2
      exact bodyPost_ret (v := .tuple #[.agg #[.int .i64 4, .string ⟨#[91, 74]⟩], .bool true]) (by simp [results, Tryd.results10, go_sem]) rfl ⟨rfl, (by repeat' first | with_reducible exact Below.refl _ _ | with_reducible assumption | with_reducible refine belows_drewN ?_ _ | with_reducible refine Below.drew ?_ | with_reducible refine Below.setCell ?_ ?_ _ | with_reducible refine Below.alloc ?_ ?_ _ | omega | (simp; done) | (simp; omega))⟩
    · rw [if_neg h2]
      by_cases h4 : k = 4
      · subst h4
        rw [if_neg (fun h => h rfl)]
        cases hb : bl n with
        | nil =>
          have h0 : n = ⟨#[]⟩ := Ty.ba_ext hb
          subst h0
          rw [if_pos rfl]
          unfold tyO tyA
          clear hb
          go_enter Tryd.func10, Tryd.ntmps10
          go_wp2
          exact bodyPost_ret (v := .tuple #[.agg #[.int .i64 0, .string ⟨#[]⟩], .bool false]) (by simp [results, Tryd.results10, go_sem]) rfl ⟨rfl, (by repeat' first | with_reducible exact Below.refl _ _ | with_reducible assumption | with_reducible refine belows_drewN ?_ _ | with_reducible refine Below.drew ?_ | with_reducible refine Below.setCell ?_ ?_ _ | with_reducible refine Below.alloc ?_ ?_ _ | omega | (simp; done) | (simp; omega))⟩
        | cons c r =>
          have h0 := size_pos hb
          have hc0 : ((n[0]'h0).toNat : Int) = (c.toNat : Int) := by rw [byte_at hb h0]
          have hq2 : ((c.toNat : Int) == 91) = decide (c = 91) := u8_int (c := c) (x := 91)
          have hq3 : ((c.toNat : Int) != 91) = !decide (c = 91) := by unfold bne; rw [hq2]
          rw [← hb]
          have hne : bl n ≠ [] := by rw [hb]; simp
          rw [if_neg hne]
          have he : n.toList.isEmpty = false := by rw [Ty.str_eq, hb]; rfl
          have hn0 : ¬ n = ⟨#[]⟩ := fun e => hne (by rw [e])
          have ha1 := arr_text n
          have ha2 := arr_text1 n
          by_cases hc : c = 91
          · subst hc
            have hbr : br (bl n) ≠ 0 := by rw [hb, Ty.br_yes]; omega
            have hq4 : ((n[0]'h0).toNat : Int) = 91 := hc0
            rw [if_neg hbr, ← ha2]
            have hle := Ty.br_le (bl n)
            rw [Ty.bl_len] at hle
            have HI := hid (fun k (h : k < br (bl n)) => Ty.br_in h)
            have HE := hid (Ty.br_end (l := bl n))
            obtain ⟨b, hbk⟩ : ∃ b, br (bl n) = b := ⟨_, rfl⟩
            rw [hbk] at HI HE hle ⊢
            clear hb hne hbr ha1 ha2 hbk hc0 hq2 hq3
            obtain ⟨R, hR⟩ : ∃ R, (if b < 16 then some (⟨4, ⟨#[91]⟩ ++ n⟩ : T) else none) = R := ⟨_, rfl⟩
            rw [hR]
            have HR := hid hR
            clear hR
            unfold tyA
            go_enter Tryd.func10, Tryd.ntmps10
            go_wp2
            go_loop [4] (fun v => ∃ i : Nat, v = .int .i64 (i : Int) ∧ i ≤ b) (fun v => b - (intOf v).toNat)
            case atStart => exact ⟨0, rfl, by omega⟩
            case round =>
              obtain ⟨i, rfl, hib⟩ := hrel
              by_cases hlt : i < b
              · have hin : i < n.size := by omega
                have hin2 : (i : Int) < (n.size : Int) := by omega
                have hi0 : ((n[i]'hin).toNat : Int) = 91 := by rw [byte_get (HI.out i hlt) hin]; rfl
                go_wp2
                exact ⟨⟨i + 1, by go_num, by omega⟩, by simp [intOf]; omega⟩
              · obtain rfl : i = b := by omega
                by_cases hin : i < n.size
                · have hin2 : (i : Int) < (n.size : Int) := by omega
                  obtain ⟨x, hx⟩ : ∃ x, (bl n)[i]? = some x := ⟨_, List.getElem?_eq_getElem (by rw [Ty.bl_len]; exact hin)⟩
                  have hx0 : ((n[i]'hin).toNat : Int) = (x.toNat : Int) := by rw [byte_get hx hin]
                  have hx91 : ((x.toNat : Int) == 91) = false := by
                    refine (u8_int (c := x) (x := 91)).trans ?_
                    exact decide_eq_false (fun e => HE.out (by rw [hx, e]))
                  by_cases h16 : i < 16
                  · have hR : R = some ⟨4, ⟨#[91]⟩ ++ n⟩ := by rw [← HR.out, if_pos h16]
                    have h17 : decide ((16 : Int) ≤ (i : Int)) = false := decide_eq_false (by omega)
                    have h18 : ¬ (16 : Int) ≤ (i : Int) := by omega
                    clear hx
                    have HR2 := hid hR
                    clear hR
                    go_wp2
                    exact bodyPost_ret (v := .tuple #[.agg #[.int .i64 4, .string (⟨#[91]⟩ ++ n)], .bool true]) (by simp [results, Tryd.results10, go_sem]) rfl ⟨by rw [HR2.out]; rfl, (by repeat' first | with_reducible exact Below.refl _ _ | with_reducible assumption | with_reducible refine belows_drewN ?_ _ | with_reducible refine Below.drew ?_ | with_reducible refine Below.setCell ?_ ?_ _ | with_reducible refine Below.alloc ?_ ?_ _ | omega | (simp; done) | (simp; omega))⟩
                  · have hR : R = none := by rw [← HR.out, if_neg h16]
                    have h17 : decide ((16 : Int) ≤ (i : Int)) = true := decide_eq_true (by omega)
                    have h18 : (16 : Int) ≤ (i : Int) := by omega
                    clear hx
                    have HR2 := hid hR
                    clear hR
                    go_wp2
                    exact bodyPost_ret (v := .tuple #[.agg #[.int .i64 0, .string ⟨#[]⟩], .bool false]) (by simp [results, Tryd.results10, go_sem]) rfl ⟨by rw [HR2.out]; rfl, (by repeat' first | with_reducible exact Below.refl _ _ | with_reducible assumption | with_reducible refine belows_drewN ?_ _ | with_reducible refine Below.drew ?_ | with_reducible refine Below.setCell ?_ ?_ _ | with_reducible refine Below.alloc ?_ ?_ _ | omega | (simp; done) | (simp; omega))⟩
                · have hin2 : ¬ (i : Int) < (n.size : Int) := by omega
                  have hin3 : decide ((i : Int) < (n.size : Int)) = false := decide_eq_false hin2
                  by_cases h16 : i < 16
                  · have hR : R = some ⟨4, ⟨#[91]⟩ ++ n⟩ := by rw [← HR.out, if_pos h16]
                    have h17 : decide ((16 : Int) ≤ (i : Int)) = false := decide_eq_false (by omega)
                    have h18 : ¬ (16 : Int) ≤ (i : Int) := by omega
                    have HR2 := hid hR
                    clear hR
                    go_wp2
                    exact bodyPost_ret (v := .tuple #[.agg #[.int .i64 4, .string (⟨#[91]⟩ ++ n)], .bool true]) (by simp [results, Tryd.results10, go_sem]) rfl ⟨by rw [HR2.out]; rfl, (by repeat' first | with_reducible exact Below.refl _ _ | with_reducible assumption | with_reducible refine belows_drewN ?_ _ | with_reducible refine Below.drew ?_ | with_reducible refine Below.setCell ?_ ?_ _ | with_reducible refine Below.alloc ?_ ?_ _ | omega | (simp; done) | (simp; omega))⟩
                  · have hR : R = none := by rw [← HR.out, if_neg h16]
                    have h17 : decide ((16 : Int) ≤ (i : Int)) = true := decide_eq_true (by omega)
                    have h18 : (16 : Int) ≤ (i : Int) := by omega
                    have HR2 := hid hR
                    clear hR
                    go_wp2
                    exact bodyPost_ret (v := .tuple #[.agg #[.int .i64 0, .string ⟨#[]⟩], .bool false]) (by simp [results, Tryd.results10, go_sem]) rfl ⟨by rw [HR2.out]; rfl, (by repeat' first | with_reducible exact Below.refl _ _ | with_reducible assumption | with_reducible refine belows_drewN ?_ _ | with_reducible refine Below.drew ?_ | with_reducible refine Below.setCell ?_ ?_ _ | with_reducible refine Below.alloc ?_ ?_ _ | omega | (simp; done) | (simp; omega))⟩
          · have hbr : br (bl n) = 0 := by rw [hb, Ty.br_no _ hc]
            rw [if_pos hbr, ← ha1]
            rw [decide_eq_false hc] at hq2 hq3
            unfold tyO tyA
            clear hb hne hbr ha1 ha2
            go_enter Tryd.func10, Tryd.ntmps10
            go_wp2
            exact bodyPost_ret (v := .tuple #[.agg #[.int .i64 4, .string (⟨#[91, 76]⟩ ++ n ++ ⟨#[59]⟩)], .bool true]) (by simp [results, Tryd.results10, go_sem]) rfl ⟨rfl, (by repeat' first | with_reducible exact Below.refl _ _ | with_reducible assumption | with_reducible refine belows_drewN ?_ _ | with_reducible refine Below.drew ?_ | with_reducible refine Below.setCell ?_ ?_ _ | with_reducible refine Below.alloc ?_ ?_ _ | omega | (simp; done) | (simp; omega))⟩
      · rw [if_pos h4]
        have q1 : (k == 1) = false := by simpa using h1
        have q2 : (k == 2) = false := by simpa using h2
        have q4 : (k != 4) = true := by simpa using h4
        unfold tyO tyA
        go_enter Tryd.func10, Tryd.ntmps10
        go_wp2
        exact bodyPost_ret (v := .tuple #[.agg #[.int .i64 0, .string ⟨#[]⟩], .bool false]) (by simp [results, Tryd.results10, go_sem]) rfl ⟨rfl, (by repeat' first | with_reducible exact Below.refl _ _ | with_reducible assumption | with_reducible refine belows_drewN ?_ _ | with_reducible refine Below.drew ?_ | with_reducible refine Below.setCell ?_ ?_ _ | with_reducible refine Below.alloc ?_ ?_ _ | omega | (simp; done) | (simp; omega))⟩
end Go.Proofs.YtahjnaoabfkpcaaDoor
namespace Go.Proofs.YtahjnaoabfkpcaaDoor
open Go Go.RowKit
open Ty (bl mk br T)
def tyL (t : T) : List Value := [.int .i64 t.k, .string t.n]
/-- A list of types in memory. -/
def TyS (w : World) (v : Value) (l : List T) : Prop := Kit.IsS 2 w v l.length (l.flatMap tyL)
theorem TyS.below {w w' : World} {v : Value} {l : List T} (h : TyS w v l) (hb : Below w.heap.size w w') : TyS w' v l := Kit.IsS.below h hb (Nat.le_refl _)
theorem TyS.at {w : World} {v : Value} {l : List T} (h : TyS w v l) {k : Nat} {x : T} (hx : l[k]? = some x) : ∃ b o p, v = .slice (some ⟨b, o, none⟩) l.length p ∧ b < w.heap.size ∧ w.cell? ⟨b, o + k * 2, none⟩ = some (.int .i64 x.k) ∧ w.cell? ⟨b, o + k * 2 + 1, none⟩ = some (.string x.n) := by
  have hk : k < l.length := (List.getElem?_eq_some_iff.1 hx).1
  obtain ⟨b, o, p, rfl, -, hb, hc⟩ := Kit.IsS.some h (by omega)
  refine ⟨b, o, p, rfl, hb, ?_, ?_⟩
  · exact hc (k * 2) _ ((Kit.flat_at (f := tyL) (s := 2) (fun _ => rfl) hx 0 (by omega)).trans rfl)
  · have := hc (k * 2 + 1) _ ((Kit.flat_at (f := tyL) (s := 2) (fun _ => rfl) hx 1 (by omega)).trans rfl)
    rwa [← Nat.add_assoc] at this
def cn (l : List T) (i : Nat) : Nat := ((l.take i).filter (fun t => decide (t.k = 2))).length
theorem cn_zero (l : List T) : cn l 0 = 0 := by simp [cn]
theorem cn_next {l : List T} {i : Nat} {t : T} (h : l[i]? = some t) : cn l (i + 1) = cn l i + if t.k = 2 then 1 else 0 := Ty.filt_snoc h
theorem cn_le (l : List T) (i : Nat) : cn l i ≤ l.length := Nat.le_trans (List.length_filter_le _ _) (by rw [List.length_take]; omega)
theorem cn_all (l : List T) : l.length + cn l l.length = Ty.slots l := by unfold cn Ty.slots; rw [List.take_length]
set_option maxRecDepth 100000
set_option maxHeartbeats 2000000
theorem slots_any {w : World} {v : Value} {l : List T} (hv : TyS w v l) : Calls Tryd.prog 14 #[v] w fun e w' => e = .returned (.int .i64 (Ty.slots l : Int)) ∧ Below w.heap.size w w' := by
  obtain ⟨a, cap, rfl⟩ := Kit.IsS.len hv
  have hn := hv.2.1
  have HV := hid hv
  have HA := hid (cn_all l)
  have HZ := hid (cn_zero l)
  clear hv
  go_enter Tryd.func14, Tryd.ntmps14
  go_wp2
  go_loopw [10, 3] (fun v m wr => ∃ i : Nat, v = .int .i64 (i : Int) ∧ i ≤ l.length ∧ m = .int .i64 ((l.length + cn l i : Nat) : Int) ∧ Hid (Below w.heap.size w wr)) (fun v _ _ => l.length - (intOf v).toNat)
  case atStart => exact ⟨0, rfl, by omega, by rw [HZ.out]; rfl, Below.refl _ _⟩
  case round =>
    obtain ⟨i, rfl, hil, rfl, HB⟩ := hrel
    by_cases hlt : i < l.length
    · obtain ⟨x, hx⟩ : ∃ x, l[i]? = some x := ⟨_, List.getElem?_eq_getElem hlt⟩
      obtain ⟨b, o, p, he, hbl, c0, c1⟩ := (HV.out.below HB.out).at hx
      obtain ⟨rfl, -, rfl⟩ := Value.slice.inj he
      have HC := hid (cn_next hx)
      have hcl := cn_le l i
      obtain ⟨xk, xn⟩ := x
      dsimp only at c0 c1 HC
      obtain ⟨m, hm⟩ : ∃ m, l.length + cn l i = m := ⟨_, rfl⟩
      rw [hm]
      have HM := hid hm
      have hmb : m ≤ 281474976710656 := by omega
      have HB2 := hid (belows HB.out ((Below.refl _ _).alloc (Nat.le_refl _) (.cells #[.int .i64 xk, .string xn] 23)) HB.out.size)
      clear he hx hm hcl
      by_cases hk : xk = 2
      · subst hk
        rw [if_pos rfl] at HC
        go_wp2
        go_roundw
        case rel => exact ⟨i + 1, by go_num, by omega, by rw [HC.out, ← Nat.add_assoc, HM.out]; go_num, HB2⟩
        case measure => simp [intOf]; omega
      · rw [if_neg hk] at HC
        have hk2 : (xk == 2) = false := by simpa using hk
        go_wp2
        go_roundw
        case rel => exact ⟨i + 1, by go_num, by omega, by rw [HC.out, Nat.add_zero, HM.out], HB2⟩
        case measure => simp [intOf]; omega
    · obtain rfl : i = l.length := by omega
      rw [HA.out]
      go_wp2
      go_ret
      exact ⟨rfl, HB.out⟩
theorem rslots_any {w : World} {v : Value} {l : List T} (hv : TyS w v l) : Calls Tryd.prog 15 #[v] w fun e w' => e = .returned (.int .i64 (Ty.slots l : Int)) ∧ Below w.heap.size w w' := by
  obtain ⟨a, cap, rfl⟩ := Kit.IsS.len hv
  have hn := hv.2.1
  have HV := hid hv
  have HA := hid (cn_all l)
  have HZ := hid (cn_zero l)
  clear hv
  go_enter Tryd.func15, Tryd.ntmps15
  go_wp2
  go_loop [4, 3] (fun v m => ∃ i : Nat, v = .int .i64 (i : Int) ∧ i ≤ l.length ∧ m = .int .i64 ((l.length + cn l i : Nat) : Int)) (fun v _ => l.length - (intOf v).toNat)
  case atStart => exact ⟨0, rfl, by omega, by rw [HZ.out]; rfl⟩
  case round =>
    obtain ⟨i, rfl, hil, rfl⟩ := hrel
    by_cases hlt : i < l.length
    · obtain ⟨x, hx⟩ : ∃ x, l[i]? = some x := ⟨_, List.getElem?_eq_getElem hlt⟩
      obtain ⟨b, o, p, he, hbl, c0, c1⟩ := HV.out.at hx
      obtain ⟨rfl, -, rfl⟩ := Value.slice.inj he
      have HC := hid (cn_next hx)
      have hcl := cn_le l i
      obtain ⟨xk, xn⟩ := x
      dsimp only at c0 c1 HC
      obtain ⟨m, hm⟩ : ∃ m, l.length + cn l i = m := ⟨_, rfl⟩
      rw [hm]
      have HM := hid hm
      have hmb : m ≤ 281474976710656 := by omega
      clear he hx hm hcl
      by_cases hk : xk = 2
      · subst hk
        rw [if_pos rfl] at HC
        go_wp2
        exact ⟨⟨i + 1, by go_num, by omega, by rw [HC.out, ← Nat.add_assoc, HM.out]; go_num⟩, by simp [intOf]; omega⟩
      · rw [if_neg hk] at HC
        have hk2 : (xk == 2) = false := by simpa using hk
        go_wp2
        exact ⟨⟨i + 1, by go_num, by omega, by rw [HC.out, Nat.add_zero, HM.out]⟩, by simp [intOf]; omega⟩
    · obtain rfl : i = l.length := by omega
      rw [HA.out]
      go_wp2
      go_ret
      exact ⟨rfl, Below.refl _ _⟩
end Go.Proofs.YtahjnaoabfkpcaaDoor
namespace Go.Proofs.YtahjnaoabfkpcaaDoor
open Go Go.RowKit
open Ty (bl mk br T)
set_option maxRecDepth 100000
set_option maxHeartbeats 2000000
theorem both_yes {w : World} {lv : Value} {l : List Hi.Ln} (hl : Kit.IsS 2 w lv l.length (l.flatMap lnL)) (hs : ∀ x ∈ l, x.1.size ≤ maxLen ∧ x.2.size ≤ maxLen) (he : Hi.err l = 0) : Calls Tryd.prog 16 #[lv] w fun e w' =>
    ∃ H D rb, e = .returned (.tuple #[.pointer (some ⟨H.hb, 0, none⟩), .pointer (some ⟨rb, 0, none⟩), .bool true]) ∧ Below w.heap.size w w' ∧ HM w' w.heap.size H ∧ HOk H (Hi.sup (Hi.bl ++ l)) D ∧ H.names = Hi.nms (Hi.bl ++ l) ∧ H.nm = Hi.nmf (Hi.bl ++ l) ∧ H.n = 8 + l.length := by
  have H1 := hid (New_any hl hs)
  have H2 := hid (fun W (hW : Below w.heap.size w W) => rNew_any (hl.below hW (Nat.le_refl _)))
  unfold NewP at H1
  unfold RNewP at H2
  rw [he] at H1 H2
  clear hl hs he
  go_enter Tryd.func16, Tryd.ntmps16
  go_wp2_with (first | (go_at_call 30; go_loud (refine H1.out.mono ?_; rintro e w1 ⟨v1, rfl, hb1, -, h1⟩; obtain ⟨H, D, rfl, hm, ok, hn, hnm, hnf⟩ := h1 rfl; have HB1 := hid hb1; have HMM := hid hm; have HO := hid ok; have HNN := hid hnm; have HNF := hid hnf; have HNL := hid hn; clear hb1 h1 hm ok hnm hnf hn)) | (go_at_call 31; go_loud (refine (H2.out _ HB1.out).mono ?_; rintro e w2 ⟨v2, rfl, hb2, -, h2⟩; obtain ⟨rb, D2, rfl, -, -⟩ := h2 (by first | rfl | trivial); have HB2 := hid hb2; clear hb2 h2)))
  refine bodyPost_ret (v := .tuple #[.pointer (some ⟨H.hb, 0, none⟩), .pointer (some ⟨rb, 0, none⟩), .bool true]) (by simp [results, Tryd.results16, go_sem]) rfl ?_
  exact ⟨H, D, rb, rfl, belows HB1.out HB2.out HB1.out.size, HMM.out.below HB2.out, HO.out, HNN.out, HNF.out, HNL.out⟩
theorem live1_any (s : ByteArray) (w : World) : Calls Tryd.prog 29 #[.string s] w fun e w' => e = .returned (.agg #[.int .i64 4, .string s]) ∧ Below w.heap.size w w' := by
  go_enter Tryd.func29, Tryd.ntmps29
  go_wp2
  exact bodyPost_ret (v := .agg #[.int .i64 4, .string s]) (by simp [results, Tryd.results29, go_sem]) rfl ⟨rfl, (by repeat' first | with_reducible exact Below.refl _ _ | with_reducible assumption | with_reducible refine belows_drewN ?_ _ | with_reducible refine Below.drew ?_ | with_reducible refine Below.setCell ?_ ?_ _ | with_reducible refine Below.alloc ?_ ?_ _ | omega | (simp; done) | (simp; omega))⟩
/-- live's lines. -/
def lv3 : List Hi.Ln := [(⟨#[67]⟩, Hi.bO), (⟨#[65]⟩, ⟨#[67]⟩), (⟨#[66]⟩, ⟨#[67]⟩)]
def d3 : Nat → Nat := fun k => match k with | 0 => 0 | 1 => 1 | 8 => 1 | _ => 2
theorem tr3 : Hi.Tr 11 (Hi.sup (Hi.bl ++ lv3)) d3 := by
  refine ⟨by omega, fun k _ _ => Hi.sup_lt _ (by decide) k, rfl, fun k h1 hk => ?_⟩
  match k, h1, hk with
  | 1, _, _ | 2, _, _ | 3, _, _ | 4, _, _ | 5, _, _ | 6, _, _ | 7, _, _ | 8, _, _ | 9, _, _ | 10, _, _ => decide
theorem err3 : Hi.err lv3 = 0 := by
  refine err_ok (by decide) (by decide) (fun k x h1 hx => ?_) ⟨d3, tr3⟩
  have hk : k < 11 := (List.getElem?_eq_some_iff.1 hx).1
  match k, h1, hk with
  | 1, _, _ | 2, _, _ | 3, _, _ | 4, _, _ | 5, _, _ | 6, _, _ | 7, _, _ | 8, _, _ | 9, _, _ | 10, _, _ => cases hx; decide
theorem und3 {D : Nat → Nat} (t : Hi.Tr 11 (Hi.sup (Hi.bl ++ lv3)) D) {a b : Nat} (ha : a < 11) (hb : b < 11) : Hi.und (Hi.sup (Hi.bl ++ lv3)) D a b = Hi.und (Hi.sup (Hi.bl ++ lv3)) d3 a b := by
  have e1 := tr3.one t (d3 a) a ha rfl
  have e2 := tr3.one t (d3 b) b hb rfl
  unfold Hi.und
  rw [e1, e2]
theorem cm3 {D : Nat → Nat} (t : Hi.Tr 11 (Hi.sup (Hi.bl ++ lv3)) D) {a b : Nat} (ha : a < 11) (hb : b < 11) : Hi.cm (Hi.sup (Hi.bl ++ lv3)) D a b = Hi.cm (Hi.sup (Hi.bl ++ lv3)) d3 a b := by
  have e1 := tr3.one t (d3 a) a ha rfl
  have e2 := tr3.one t (d3 b) b hb rfl
  unfold Hi.cm
  rw [e1, e2]
def I3 (s : ByteArray) : Option Nat := Hi.idx s (Hi.nms (Hi.bl ++ lv3))
def tA : T := ⟨4, ⟨#[65]⟩⟩
def tB : T := ⟨4, ⟨#[66]⟩⟩
def tC : T := ⟨4, ⟨#[67]⟩⟩
def aA : T := ⟨4, ⟨#[91, 76, 65, 59]⟩⟩
def aB : T := ⟨4, ⟨#[91, 76, 66, 59]⟩⟩
theorem i3_A : I3 tA.n = some 9 := by decide
theorem i3_B : I3 tB.n = some 10 := by decide
theorem i3_C : I3 tC.n = some 8 := by decide
theorem i3_a : I3 aA.n = none := by decide
theorem i3_b : I3 aB.n = none := by decide
theorem e3_a : Ty.elP aA = tA := rfl
theorem e3_b : Ty.elP aB = tB := rfl
theorem v3_a : Ty.val I3 aA = true := by decide
theorem v3_b : Ty.val I3 aB = true := by decide
theorem fit3_1 (U : Nat → Nat → Bool) : Ty.Fit I3 U tA tC = U 9 8 := by
  have h1 : Ty.val I3 tA = true := by decide
  have h2 : Ty.val I3 tC = true := by decide
  have h3 : Ty.fit I3 U tA tC = U 9 8 := by
    unfold Ty.fit Ty.fitF
    rw [if_neg (by decide), if_neg (by decide), if_neg (by decide), if_pos (by decide)]
    unfold Ty.refF
    rw [i3_A, i3_C]
  unfold Ty.Fit
  rw [h1, h2, h3]; rfl
theorem fit3_2 (U : Nat → Nat → Bool) : Ty.Fit I3 U tC tA = U 8 9 := by
  have h1 : Ty.val I3 tA = true := by decide
  have h2 : Ty.val I3 tC = true := by decide
  have h3 : Ty.fit I3 U tC tA = U 8 9 := by
    unfold Ty.fit Ty.fitF
    rw [if_neg (by decide), if_neg (by decide), if_neg (by decide), if_pos (by decide)]
    unfold Ty.refF
    rw [i3_A, i3_C]
  unfold Ty.Fit
  rw [h1, h2, h3]; rfl
theorem live_any (w : World) : Calls Tryd.prog 11 #[] w fun e w' => e = .returned (.bool true) ∧ Below w.heap.size w w' := by
  have hl0 : Kit.IsS 2 (w.alloc (.cells (lv3.flatMap lnL).toArray 59)) (.slice (some ⟨w.heap.size, 0, none⟩) 3 3) lv3.length (lv3.flatMap lnL) :=
    ⟨rfl, by decide, .inr ⟨w.heap.size, 0, 3, rfl, by decide, by simp, fun i u hi => by rw [Nat.zero_add, BX.cell (BX.new w _ _)]; simpa using hi⟩⟩
  have HN := hid (both_yes hl0 (by intro x hx; have : x.1.size ≤ 100 ∧ x.2.size ≤ 100 := by revert x; decide
                                   unfold maxLen; omega) err3)
  clear hl0
  have hb0 : Below w.heap.size w (w.alloc (.cells (lv3.flatMap lnL).toArray 59)) := (Below.refl _ _).alloc (Nat.le_refl _) _
  have HB0 := hid hb0
  obtain ⟨W0, hW0⟩ : ∃ W0, W0 = w.alloc (.cells (lv3.flatMap lnL).toArray 59) := ⟨_, rfl⟩
  have HW0 := hid hW0
  rw [← hW0] at HN HB0
  clear hW0 hb0
  go_enter Tryd.func11, Tryd.ntmps11
  go_wp2_with fail
  change Calls _ _ _ (w.alloc (.cells (lv3.flatMap lnL).toArray 59)) _
  rw [← HW0.out]
  refine HN.out.mono ?_
  rintro e w1 ⟨H, D, rb, rfl, hb1, hm, ok, hnm, hnf, hn⟩
  have hB1 := belows HB0.out hb1 HB0.out.size
  have hq := hm.hq ok
  have hj := hm.hj ok
  have tr := ok.tr
  have hn11 : H.n = 11 := hn
  rw [hn11] at tr
  rw [hnm] at hq hj
  rw [hnf] at hj
  change HQ w1 _ I3 _ at hq
  change HJ w1 _ I3 _ _ at hj
  have hsA : tA.n.size ≤ maxLen := by unfold maxLen; decide
  have hsB : tB.n.size ≤ maxLen := by unfold maxLen; decide
  have hsC : tC.n.size ≤ maxLen := by unfold maxLen; decide
  have hsa : aA.n.size ≤ maxLen := by unfold maxLen; decide
  have hsb : aB.n.size ≤ maxLen := by unfold maxLen; decide
  have HF1 := hid (fun X hX => Fits_any hq hsA hsC X hX)
  have HF2 := hid (fun X hX => Fits_any hq hsC hsA X hX)
  rw [fit3_1, und3 tr (by omega) (by omega), show Hi.und (Hi.sup (Hi.bl ++ lv3)) d3 9 8 = true by decide] at HF1
  rw [fit3_2, und3 tr (by omega) (by omega), show Hi.und (Hi.sup (Hi.bl ++ lv3)) d3 8 9 = false by decide] at HF2
  have hcm : Hi.cm (Hi.sup (Hi.bl ++ lv3)) D 9 10 = 8 := by
    rw [cm3 tr (by omega) (by omega)]
    decide
  have HJC : ∀ X, Below w1.heap.size w1 X → Calls Tryd.prog 52 #[.pointer (some ⟨H.hb, 0, none⟩), tyA tA, tyA tB] X fun e w' => e = .returned (tyA tC) ∧ Below X.heap.size X w' := fun X hX => by
    have := joinC_any hj hsA hsB i3_A i3_B X hX
    rw [hcm, show Hi.nmf (Hi.bl ++ lv3) 8 = ⟨#[67]⟩ from rfl] at this
    exact this
  have HJ1 : ∀ X, Below w1.heap.size w1 X → Calls Tryd.prog 35 #[.pointer (some ⟨H.hb, 0, none⟩), tyA (Ty.elP aA), tyA (Ty.elP aB)] X fun e w' => e = .returned (tyA tC) ∧ Below X.heap.size X w' := fun X hX => by
    rw [e3_a, e3_b]
    exact join4_any (by decide) rfl rfl HJC X hX
  have HJ2 := hid (fun X hX => Join_any hj.find hsa hsb v3_a v3_b (fun X hX => join4_any (a := aA) (b := aB) (by decide) rfl rfl (fun X hX => joinA_any hj.find hsa hsb i3_a i3_b rfl rfl (by decide) HJ1 X hX) X hX) X hX)
  rw [show Ty.arP tC = ⟨4, ⟨#[91, 76, 67, 59]⟩⟩ from rfl] at HJ2
  have HT := hid (fun X => text_any tA X)
  rw [show Ty.tx tA = ⟨#[65]⟩ from rfl] at HT
  unfold tyA at HF1 HF2 HJ2 HT
  unfold tA tC at HF1 HF2
  unfold aA aB at HJ2
  unfold tA at HT
  dsimp only at HF1 HF2 HJ2 HT
  have HB1 := hid hB1
  obtain ⟨hb, hhb⟩ : ∃ hb, H.hb = hb := ⟨_, rfl⟩
  rw [hhb] at HF1 HF2 HJ2 ⊢
  have HB := hid (Below.refl w1.heap.size w1)
  clear hB1 hm ok hn hnm hnf hn11 tr hb1 hhb HN HB0 HW0 hq hj hsA hsB hsC hsa hsb hcm HJC HJ1
  go_wp2_with (first | (go_at_call 29; go_loud (refine (live1_any _ _).mono ?_; rintro e W ⟨rfl, hb⟩; have HB := hid (belows HB.out hb HB.out.size); clear hb)) | (go_at_call 19; go_loud (refine (HJ2.out _ HB.out).mono ?_; rintro e W ⟨rfl, hb⟩; have HB := hid (belows HB.out hb HB.out.size); clear hb)) | (go_at_call 18; (with_reducible refine (HF1.out _ HB.out).mono ?_); rintro e W ⟨rfl, hb⟩; have HB := hid (belows HB.out hb HB.out.size); clear hb) | (go_at_call 18; (with_reducible refine (HF2.out _ HB.out).mono ?_); rintro e W ⟨rfl, hb⟩; have HB := hid (belows HB.out hb HB.out.size); clear hb) | (go_at_call 12; go_loud (refine (HT.out _).mono ?_; rintro e W ⟨rfl, hb⟩; have HB := hid (belows HB.out hb HB.out.size); clear hb)))
  go_ret
  exact ⟨by simp, belows HB1.out HB.out HB1.out.size⟩
end Go.Proofs.YtahjnaoabfkpcaaDoor
namespace Go.Proofs.YtahjnaoabfkpcaaDoor
open Go Go.RowKit
open Ty (bl mk br T)
set_option maxRecDepth 100000
set_option maxHeartbeats 4000000
theorem parts_law {w : World} {a : T} {lv : Value} {l : List T} (ha : a.n.size ≤ 140737488351232) (hl : TyS w lv l) :
    Calls Tryd.prog 3 #[tyA a, lv] w fun e w' => e = .returned (.bool true) ∧ Below w.heap.size w w' := by
  have ham : a.n.size ≤ maxLen := by unfold maxLen; omega
  have H1 := hid (fun X => element_any a ham X)
  have H2 := hid (fun X => relement_any a ham X)
  have H3 := hid (fun X => array_any a ha X)
  have H4 := hid (fun X => rarray_any a ha X)
  have HT1 := hid (fun X => text_any a X)
  have HT2 := hid (fun X => rtext_any a X)
  have HS1 := hid (fun X (hX : Below w.heap.size w X) => slots_any (hl.below hX))
  have HS2 := hid (fun X (hX : Below w.heap.size w X) => rslots_any (hl.below hX))
  unfold tyO at H1 H2 H3 H4
  rw [show (Ty.el a).getD Ty.top = Ty.elP a from rfl] at H1 H2
  rw [show (Ty.ar a).getD Ty.top = Ty.arP a from rfl] at H3 H4
  obtain ⟨⟨ek, en⟩, he⟩ : ∃ x, Ty.elP a = x := ⟨_, rfl⟩
  obtain ⟨⟨rk, rn⟩, hr⟩ : ∃ x, Ty.arP a = x := ⟨_, rfl⟩
  obtain ⟨ep, hep⟩ : ∃ x, (Ty.el a).isSome = x := ⟨_, rfl⟩
  obtain ⟨rp, hrp⟩ : ∃ x, (Ty.ar a).isSome = x := ⟨_, rfl⟩
  obtain ⟨tx, htx⟩ : ∃ x, Ty.tx a = x := ⟨_, rfl⟩
  obtain ⟨sl, hsl⟩ : ∃ x, Ty.slots l = x := ⟨_, rfl⟩
  rw [he, hep] at H1 H2
  rw [hr, hrp] at H3 H4
  rw [htx] at HT1 HT2
  rw [hsl] at HS1 HS2
  obtain ⟨ak, an⟩ := a
  unfold tyA at H1 H2 H3 H4 HT1 HT2 ⊢
  dsimp only at H1 H2 H3 H4 HT1 HT2 ⊢
  clear he hr hep hrp htx hsl ham ha hl
  go_enter Tryd.func3, Tryd.ntmps3
  go_upto_region 5 with (first | (go_at_call 7; go_loud (refine (H1.out _).mono ?_; rintro e w1 ⟨rfl, hb1⟩; have HB1 : Hid (Below w.heap.size w w1) := belows (a := w) (by repeat' first | with_reducible exact Below.refl _ _ | with_reducible assumption | with_reducible refine belows_drewN ?_ _ | with_reducible refine Below.drew ?_ | with_reducible refine Below.setCell ?_ ?_ _ | with_reducible refine Below.alloc ?_ ?_ _ | omega | (simp; done) | (simp; omega)) hb1 (by simp); have X1 : Hid (BX w1 w.heap.size #[.int .i64 ak, .string an] 23) := (BX.new w _ _).below hb1; have d0 := X1.out.cell 0; have d1 := X1.out.cell 1; have hz1 := X1.out.sz; clear hb1)) | (go_at_call 8; go_loud (refine (H2.out _).mono ?_; rintro e w2 ⟨rfl, hb2⟩; have HT9 : Below w1.heap.size w1 w2 := belows (by repeat' first | with_reducible exact Below.refl _ _ | with_reducible assumption | with_reducible refine belows_drewN ?_ _ | with_reducible refine Below.drew ?_ | with_reducible refine Below.setCell ?_ ?_ _ | with_reducible refine Below.alloc ?_ ?_ _ | omega | (simp; done) | (simp; omega)) hb2 (by simp); have HB2 : Hid (Below w.heap.size w w2) := belows HB1.out HT9 HB1.out.size; clear HT9; have X2 : Hid (BX w2 w.heap.size #[.int .i64 ak, .string an] 23) := (X1.out.below ((Below.refl _ _).alloc (Nat.le_refl _) _)).below hb2; have Y5 : Hid (BX w2 w1.heap.size #[.int .i64 ek, .string en] 23) := (BX.new w1 _ _).below hb2; clear d0 d1; have d0 := X2.out.cell 0; have d1 := X2.out.cell 1; have hz2 := X2.out.sz; clear hb2)) | (go_at_call 9; go_loud (refine (H3.out _).mono ?_; rintro e w3 ⟨rfl, hb3⟩; have HT9 : Below w2.heap.size w2 w3 := belows (by repeat' first | with_reducible exact Below.refl _ _ | with_reducible assumption | with_reducible refine belows_drewN ?_ _ | with_reducible refine Below.drew ?_ | with_reducible refine Below.setCell ?_ ?_ _ | with_reducible refine Below.alloc ?_ ?_ _ | omega | (simp; done) | (simp; omega)) hb3 (by simp); have HB3 : Hid (Below w.heap.size w w3) := belows HB2.out HT9 HB2.out.size; clear HT9; have X3 : Hid (BX w3 w.heap.size #[.int .i64 ak, .string an] 23) := (X2.out.below ((Below.refl _ _).alloc (Nat.le_refl _) _)).below hb3; have Y53 : Hid (BX w3 w1.heap.size #[.int .i64 ek, .string en] 23) := ((Y5.out.below ((Below.refl _ _).alloc (Nat.le_refl _) _)).below hb3); have Y7 : Hid (BX w3 w2.heap.size #[.int .i64 ek, .string en] 23) := (BX.new w2 _ _).below hb3; clear d0 d1; have d0 := X3.out.cell 0; have d1 := X3.out.cell 1; have hz3 := X3.out.sz; clear hb3)) | (go_at_call 10; go_loud (refine (H4.out _).mono ?_; rintro e w4 ⟨rfl, hb4⟩; have HT9 : Below w3.heap.size w3 w4 := belows (by repeat' first | with_reducible exact Below.refl _ _ | with_reducible assumption | with_reducible refine belows_drewN ?_ _ | with_reducible refine Below.drew ?_ | with_reducible refine Below.setCell ?_ ?_ _ | with_reducible refine Below.alloc ?_ ?_ _ | omega | (simp; done) | (simp; omega)) hb4 (by simp); have HB4 : Hid (Below w.heap.size w w4) := belows HB3.out HT9 HB3.out.size; clear HT9; have X4 : Hid (BX w4 w.heap.size #[.int .i64 ak, .string an] 23) := (X3.out.below ((Below.refl _ _).alloc (Nat.le_refl _) _)).below hb4; have Y54 : Hid (BX w4 w1.heap.size #[.int .i64 ek, .string en] 23) := ((Y53.out.below ((Below.refl _ _).alloc (Nat.le_refl _) _)).below hb4); have Y74 : Hid (BX w4 w2.heap.size #[.int .i64 ek, .string en] 23) := ((Y7.out.below ((Below.refl _ _).alloc (Nat.le_refl _) _)).below hb4); have Y9 : Hid (BX w4 w3.heap.size #[.int .i64 rk, .string rn] 23) := (BX.new w3 _ _).below hb4; clear d0 d1; clear hb4)))
  refine region_named fun W hW => ?_
  have hWb : Below w4.heap.size w4 W := by rw [hW]; exact (by repeat' first | with_reducible exact Below.refl _ _ | with_reducible assumption | with_reducible refine belows_drewN ?_ _ | with_reducible refine Below.drew ?_ | with_reducible refine Below.setCell ?_ ?_ _ | with_reducible refine Below.alloc ?_ ?_ _ | omega | (simp; done) | (simp; omega))
  have y11 : BX W w4.heap.size #[.int .i64 rk, .string rn] 23 := by rw [hW]; exact BX.new w4 _ _
  have HBW := hid (belows HB4.out hWb HB4.out.size)
  have HS0 := hid (fun X (hX : Below W.heap.size W X) => (⟨((X4.out.below hWb).below hX).cell 0, ((X4.out.below hWb).below hX).cell 1, ((Y54.out.below hWb).below hX).cell 0, ((Y54.out.below hWb).below hX).cell 1, ((Y74.out.below hWb).below hX).cell 0, ((Y74.out.below hWb).below hX).cell 1, ((Y9.out.below hWb).below hX).cell 0, ((Y9.out.below hWb).below hX).cell 1, (y11.below hX).cell 0, (y11.below hX).cell 1⟩ : X.cell? ⟨w.heap.size, 0, none⟩ = some (.int .i64 ak) ∧ X.cell? ⟨w.heap.size, 1, none⟩ = some (.string an) ∧ X.cell? ⟨w1.heap.size, 0, none⟩ = some (.int .i64 ek) ∧ X.cell? ⟨w1.heap.size, 1, none⟩ = some (.string en) ∧ X.cell? ⟨w2.heap.size, 0, none⟩ = some (.int .i64 ek) ∧ X.cell? ⟨w2.heap.size, 1, none⟩ = some (.string en) ∧ X.cell? ⟨w3.heap.size, 0, none⟩ = some (.int .i64 rk) ∧ X.cell? ⟨w3.heap.size, 1, none⟩ = some (.string rn) ∧ X.cell? ⟨w4.heap.size, 0, none⟩ = some (.int .i64 rk) ∧ X.cell? ⟨w4.heap.size, 1, none⟩ = some (.string rn)))
  have HBc : Hid (Below W.heap.size W W.drew) := Below.drew (Below.refl W.heap.size W)
  obtain ⟨s, hs⟩ : ∃ s, w.heap.size = s := ⟨_, rfl⟩
  obtain ⟨s1, hs1⟩ : ∃ s, w1.heap.size = s := ⟨_, rfl⟩
  obtain ⟨s2, hs2⟩ : ∃ s, w2.heap.size = s := ⟨_, rfl⟩
  obtain ⟨s3, hs3⟩ : ∃ s, w3.heap.size = s := ⟨_, rfl⟩
  obtain ⟨s4, hs4⟩ : ∃ s, w4.heap.size = s := ⟨_, rfl⟩
  have HSZ := hid hs
  rw [hs, hs1, hs2, hs3, hs4] at HS0
  rw [hs, hs1, hs2, hs3, hs4]
  have x0 := HS0.out _ (Below.refl W.heap.size W)
  clear hW hWb y11 hs hs1 hs2 hs3 hs4 hz1 hz2 hz3
  go_region_held3 (fun w' => w'.cell? ⟨s, 0, none⟩ = some (.int .i64 ak) ∧ w'.cell? ⟨s, 1, none⟩ = some (.string an) ∧ w'.cell? ⟨s1, 0, none⟩ = some (.int .i64 ek) ∧ w'.cell? ⟨s1, 1, none⟩ = some (.string en) ∧ w'.cell? ⟨s2, 0, none⟩ = some (.int .i64 ek) ∧ w'.cell? ⟨s2, 1, none⟩ = some (.string en) ∧ w'.cell? ⟨s3, 0, none⟩ = some (.int .i64 rk) ∧ w'.cell? ⟨s3, 1, none⟩ = some (.string rn) ∧ w'.cell? ⟨s4, 0, none⟩ = some (.int .i64 rk) ∧ w'.cell? ⟨s4, 1, none⟩ = some (.string rn))
    (first | exact x0 | go_keep)
    (first | (go_at_call 11; go_loud (refine (live_any _).mono ?_; rintro e V ⟨rfl, hb⟩; have HBn := hid (belows HBc.out hb HBc.out.size); clear HBc; have HBc := HBn; clear HBn hb x0; have x0 := HS0.out _ HBc.out)) | (go_at_call 12; go_loud (refine (HT1.out _).mono ?_; rintro e V ⟨rfl, hb⟩; have HBn := hid (belows HBc.out hb HBc.out.size); clear HBc; have HBc := HBn; clear HBn hb x0; have x0 := HS0.out _ HBc.out)) | (go_at_call 13; go_loud (refine (HT2.out _).mono ?_; rintro e V ⟨rfl, hb⟩; have HBn := hid (belows HBc.out hb HBc.out.size); clear HBc; have HBc := HBn; clear HBn hb x0; have x0 := HS0.out _ HBc.out)) | (go_at_call 14; go_loud (refine (HS1.out _ (belows HBW.out HBc.out HBW.out.size)).mono ?_; rintro e V ⟨rfl, hb⟩; have HBn := hid (belows HBc.out hb HBc.out.size); clear HBc; have HBc := HBn; clear HBn hb x0; have x0 := HS0.out _ HBc.out)) | (go_at_call 15; go_loud (refine (HS2.out _ (belows HBW.out HBc.out HBW.out.size)).mono ?_; rintro e V ⟨rfl, hb⟩; have HBn := hid (belows HBc.out hb HBc.out.size); clear HBc; have HBc := HBn; clear HBn hb x0; have x0 := HS0.out _ HBc.out)))
  go_wp2
  go_ret
  exact ⟨by simp, belows HBW.out HBc.out HBW.out.size⟩
end Go.Proofs.YtahjnaoabfkpcaaDoor
namespace Go.Proofs.YtahjnaoabfkpcaaDoor
open Go.ChangeShapes Go.WideShapes Go.ChangeAt Go.RowKit Go.WideMaps Go.WideElems
open Ty (T)
set_option maxRecDepth 100000
section
variable {H : Type} {enc : TypeId × Value → H}
theorem weights_allT {P : Program} {e : TypeId} : ∀ {ds : List (DataW H)} {d : DataW H}, d ∈ ds → (DataW.weightsAll P e ds).all (· ≤ reachBytes) = true → (d.weights P e).all (· ≤ reachBytes) = true
  | [], _, h, _ => by cases h
  | x :: r, d, h, hw => by
    simp only [DataW.weightsAll, List.all_append, Bool.and_eq_true] at hw
    rcases List.mem_cons.1 h with rfl | h
    · exact hw.1
    · exact weights_allT h hw.2
theorem bulk_pos (d : DataW H) : 1 ≤ Rows.uptoBulk d := by
  cases d with
  | lit l => cases l <;> simp [Rows.uptoBulk]
  | _ => simp [Rows.uptoBulk]
theorem bulk_len : ∀ l : List (DataW H), l.length ≤ Rows.uptoBulkAll l
  | [] => by simp [Rows.uptoBulkAll]
  | x :: r => by have h1 := bulk_pos x; have h2 := bulk_len r; simp only [Rows.uptoBulkAll, List.length_cons]; omega
theorem bulk_mem : ∀ {l : List (DataW H)} {d : DataW H}, d ∈ l → Rows.uptoBulk d ≤ Rows.uptoBulkAll l
  | [], _, h => by cases h
  | x :: r, d, h => by
    simp only [Rows.uptoBulkAll]
    rcases List.mem_cons.1 h with rfl | h
    · omega
    · have := bulk_mem h; omega
theorem A.cellsInt : Tryd.prog.cellsOf 3 = 1 := by kernel_rfl
theorem A.cellsStr : Tryd.prog.cellsOf 9 = 1 := by kernel_rfl
theorem A.cellsTy : Tryd.prog.cellsOf 23 = 2 := by kernel_rfl
set_option maxRecDepth 100000 in
/-- A list of things of so many cells each, in a cell. -/
theorem list_cell {α : Type} {W : World} {n : Nat} {k : Value} {y : DataW H × List MemPlace} {tS tE : TypeId} {s by_ : Nat} (G : DataW H → List Value → α → Prop) (hG : ∀ d cs x, G d cs x → cs.length = s) (hs : 0 < s)
    (hu : Tryd.prog.underlying tS = some (.slice tE)) (hco : Tryd.prog.cellsOf tE = s) (hby : Tryd.prog.bytesOf tE = by_) (hb0 : 0 < by_)
    (he : ∀ (m : Nat) (cs : List Value) (z : DataW H × List MemPlace), DataW.trod enc Tryd.prog W 0 (fun _ => true) true m tE cs = some z → (z.1.weights Tryd.prog tE).all (· ≤ reachBytes) = true → ∃ x, G z.1 cs x)
    (h : DataW.trod enc Tryd.prog W 0 (fun _ => true) true n tS [k] = some y) (hw : (y.1.weights Tryd.prog tS).all (· ≤ reachBytes) = true) :
    ∃ (xs : List α) (rs : List (List Value)), rs.length = xs.length ∧ (∀ (i : Nat) (r : List Value) (x : α), rs[i]? = some r → xs[i]? = some x → ∃ d, G d r x ∧ Rows.uptoBulk d ≤ Rows.uptoBulk y.1) ∧ Kit.IsS s W k xs.length rs.flatten ∧ xs.length * by_ ≤ 140737488351232 ∧ xs.length ≤ Rows.uptoBulk y.1 := by
  rcases DataW.trod_slice hu h with ⟨hcs, rfl⟩ | ⟨a, len, cap, elems, rest, m, -, hcs, rfl, -, hl, hm, hel, hcells, hsp, -⟩
  · obtain rfl : k = .slice none 0 0 := by simpa using hcs
    exact ⟨[], [], rfl, fun i r x hr => by simp at hr, ⟨by simp, by simp, .inl ⟨rfl, none, 0, rfl⟩⟩, by simp, by simp⟩
  · obtain rfl : k = .slice (some a) len cap := by simpa using hcs
    simp only [DataW.weights, hu, List.all_cons, List.all_append, Bool.and_eq_true, decide_eq_true_eq, hby] at hw
    have hcap : len * by_ ≤ 140737488351232 := by
      have h1 := hw.1
      simp only [List.length_map, reachBytes] at h1
      rw [hel] at h1
      exact Nat.le_trans (Nat.mul_le_mul_right _ (Nat.le_add_right _ _)) h1
    have hbl : len ≤ Rows.uptoBulk (.slice (elems.map (·.1)) (rest.map (·.1)) : DataW H) := by
      have := bulk_len (elems.map (·.1))
      rw [List.length_map, hel] at this
      simp only [Rows.uptoBulk]
      omega
    have each : ∀ i, ∃ q : List Value × Option α, i < len → q.1.length = s ∧ (∀ j, j < s → W.cell? ((a.add (i * s)).add j) = q.1[j]?) ∧ ∃ x d, q.2 = some x ∧ G d q.1 x ∧ Rows.uptoBulk d ≤ Rows.uptoBulk (.slice (elems.map (·.1)) (rest.map (·.1)) : DataW H) := by
      intro i
      by_cases hi : i < len
      · have h1 := hcells i hi
        rw [hco, List.getElem?_eq_getElem (by omega), Option.bind_eq_some_iff] at h1
        obtain ⟨cs, hcs', htr⟩ := h1
        have hmem : elems[i].1 ∈ elems.map (·.1) := List.mem_map_of_mem (List.getElem_mem _)
        obtain ⟨x, hx⟩ := he _ _ _ htr (weights_allT hmem hw.2.1)
        refine ⟨(cs, some x), fun _ => ⟨hG _ _ _ hx, fun j hj => (World.cells?_some hcs').2.2 j hj, x, _, rfl, hx, ?_⟩⟩
        have := bulk_mem hmem
        simp only [Rows.uptoBulk]
        omega
      · exact ⟨([], none), fun h => absurd h hi⟩
    obtain ⟨f, hfx⟩ := Classical.skolem.1 each
    have hxs : ∃ xs : List α, xs.length = len ∧ ∀ i, i < len → xs[i]? = (f i).2 := by
      have : ∀ m, m ≤ len → ∃ xs : List α, xs.length = m ∧ ∀ i, i < m → xs[i]? = (f i).2 := by
        intro m
        induction m with
        | zero => intro _; exact ⟨[], rfl, fun i hi => by omega⟩
        | succ m ih =>
          intro hm
          obtain ⟨xs, h1, h2⟩ := ih (by omega)
          obtain ⟨-, -, x, d, hx, -⟩ := hfx m (by omega)
          refine ⟨xs ++ [x], by simp [h1], fun i hi => ?_⟩
          by_cases e : i < m
          · rw [List.getElem?_append_left (by omega)]; exact h2 i e
          · obtain rfl : i = m := by omega
            rw [List.getElem?_append_right (by omega), h1, Nat.sub_self, hx]
            rfl
      exact this len (Nat.le_refl _)
    obtain ⟨xs, hxl, hxe⟩ := hxs
    have hrl : ∀ r ∈ (List.range len).map (fun i => (f i).1), r.length = s := by
      intro r hr
      obtain ⟨i, hi, rfl⟩ := List.mem_map.1 hr
      exact (hfx i (List.mem_range.1 hi)).1
    have hfl : ∀ (rs : List (List Value)), (∀ r ∈ rs, r.length = s) → rs.flatten.length = rs.length * s ∧ ∀ i r, rs[i]? = some r → ∀ j, j < s → rs.flatten[i * s + j]? = r[j]? := by
      intro rs
      induction rs with
      | nil => intro _; exact ⟨by simp, fun i r hr => by simp at hr⟩
      | cons r0 rs ih =>
        intro hr
        obtain ⟨h1, h2⟩ := ih (fun r h => hr r (List.mem_cons_of_mem _ h))
        have h0 := hr r0 (by simp)
        refine ⟨by rw [List.flatten_cons, List.length_append, h0, h1, List.length_cons, Nat.succ_mul]; omega, fun i r hi j hj => ?_⟩
        match i, hi with
        | 0, hi =>
          simp at hi
          subst hi
          rw [List.flatten_cons, List.getElem?_append_left (by omega)]
          simp
        | i + 1, hi =>
          rw [List.flatten_cons, List.getElem?_append_right (by rw [h0, Nat.succ_mul]; omega), h0, ← h2 i r (by simpa using hi) j hj]
          congr 1
          rw [Nat.succ_mul]
          omega
    obtain ⟨hfl1, hfl2⟩ := hfl _ hrl
    have hrlen : ((List.range len).map (fun i => (f i).1)).length = len := by simp
    refine ⟨xs, (List.range len).map (fun i => (f i).1), by rw [hrlen, hxl], fun i r x hr hx => ?_, ⟨by rw [hfl1, hrlen, hxl], by rw [hxl]; exact Nat.le_trans (Nat.le_trans (Nat.le_mul_of_pos_right _ hb0) hcap) (by decide), ?_⟩, by rw [hxl]; exact hcap, by rw [hxl]; exact hbl⟩
    · have hi : i < len := by
        have := (List.getElem?_eq_some_iff.1 hx).1
        omega
      obtain ⟨-, -, x', d, hx', hg, hb⟩ := hfx i hi
      rw [hxe i hi, hx'] at hx
      cases hx
      rw [List.getElem?_map, List.getElem?_range hi] at hr
      simp only [Option.map_some, Option.some.injEq] at hr
      subst hr
      exact ⟨d, hg, hb⟩
    · by_cases h0 : len = 0
      · exact .inl ⟨by rw [hxl, h0], some a, cap, by rw [h0]⟩
      · obtain ⟨b, o, spot⟩ := a
        have hsp0 : ∃ u, W.cell? (((⟨b, o, spot⟩ : Addr).add (0 * s)).add 0) = some u := by
          obtain ⟨h1, h2, -⟩ := hfx 0 (by omega)
          refine ⟨(f 0).1[0]'(by omega), ?_⟩
          rw [h2 0 hs, List.getElem?_eq_getElem]
        obtain ⟨u0, hsp0⟩ := hsp0
        have hspot : spot = none := by
          have := World.cell?_spot hsp0
          simpa [Addr.add] using this
        subst hspot
        have hat : ∀ i j, ((⟨b, o, none⟩ : Addr).add i).add j = ⟨b, o + (i + j), none⟩ := by
          intro i j
          rw [add_plain, add_plain]; congr 1; omega
        refine .inr ⟨b, o, cap, by rw [hxl], by rw [hxl]; exact hl, ?_, fun i u hi => ?_⟩
        · have := World.block_lt_of_cell? W _ hsp0
          simpa [Addr.add] using this
        · have hil : i < len * s := by
            have := (List.getElem?_eq_some_iff.1 hi).1
            rw [hfl1, hrlen] at this
            exact this
          have hq : i / s < len := Nat.div_lt_of_lt_mul (by rw [Nat.mul_comm]; exact hil)
          have hr : i % s < s := Nat.mod_lt _ hs
          have e : i / s * s + i % s = i := by rw [Nat.mul_comm]; exact Nat.div_add_mod i s
          have hget : ((List.range len).map (fun i => (f i).1))[i / s]? = some (f (i / s)).1 := by rw [List.getElem?_map, List.getElem?_range hq]; rfl
          have h1 := hfl2 (i / s) _ hget (i % s) hr
          rw [e] at h1
          have h2 := (hfx (i / s) hq).2.1 (i % s) hr
          rw [hat, e] at h2
          rw [h2, ← h1]
          exact hi
theorem rs_map {α : Type} {f : α → List Value} {xs : List α} {rs : List (List Value)} (hl : rs.length = xs.length) (h : ∀ (i : Nat) (r : List Value) (x : α), rs[i]? = some r → xs[i]? = some x → r = f x) : rs.flatten = xs.flatMap f := by
  have e : rs = xs.map f := by
    apply List.ext_getElem?
    intro i
    rw [List.getElem?_map]
    by_cases hi : i < xs.length
    · have h1 : rs[i]? = some rs[i] := List.getElem?_eq_getElem (by omega)
      have h2 : xs[i]? = some xs[i] := List.getElem?_eq_getElem hi
      rw [h1, h2, h i _ _ h1 h2]
      rfl
    · rw [List.getElem?_eq_none (by omega), List.getElem?_eq_none (by omega)]
      rfl
  rw [e, List.flatMap_def]
theorem ty_cells {W : World} {n : Nat} {cs : List Value} {y : DataW H × List MemPlace} (h : DataW.trod enc Tryd.prog W 0 (fun _ => true) true n 23 cs = some y) (hw : (y.1.weights Tryd.prog 23).all (· ≤ reachBytes) = true) : ∃ x : T, cs = tyL x ∧ x.n.size ≤ 140737488351232 := by
  obtain ⟨y0, y1, m, hx, hl, hy0, hy1⟩ := trod_struct2 Tryd.underlying23 h
  rw [A.cellsTy] at hl
  match cs, hl with
  | [c0, c1], _ =>
  obtain ⟨a, e0, rfl, wa⟩ := DataW.trod_int Tryd.underlying3 hy0
  obtain ⟨b, e1, rfl, wb⟩ := DataW.trod_string Tryd.underlying9 hy1
  simp [A.cellsInt, A.cellsStr] at e0 e1
  subst e0 e1
  subst hx
  simp [DataW.weights, Tryd.underlying23, DataW.weightsEach, reachBytes] at hw
  exact ⟨⟨a, b⟩, rfl, of_decide_eq_true hw⟩
theorem open_ty {W : World} {base : Nat} {v : Value} {d : DataW H} {p : List MemPlace} (hv : Value.okWide Tryd.prog W .any base 23 v) (h : DataW.Trod enc Tryd.prog W 0 (fun _ => true) true 23 v d p) (hw : (d.weights Tryd.prog 23).all (· ≤ reachBytes) = true) : ∃ x : T, v = tyA x ∧ x.n.size ≤ 140737488351232 := by
  obtain ⟨cs, rfl, hsz⟩ := okWide_struct Tryd.underlying23 hv
  obtain ⟨fuel, hf⟩ := h
  obtain ⟨x, hc, hs⟩ := ty_cells (y := (d, p)) hf hw
  refine ⟨x, ?_, hs⟩
  have hc2 : cs.toList = _ := hc
  rw [show cs = cs.toList.toArray by simp, hc2]
  rfl
theorem tys_cell {W : World} {n : Nat} {k : Value} {y : DataW H × List MemPlace} (h : DataW.trod enc Tryd.prog W 0 (fun _ => true) true n 24 [k] = some y) (hw : (y.1.weights Tryd.prog 24).all (· ≤ reachBytes) = true) :
    ∃ l : List T, TyS W k l ∧ (∀ x ∈ l, x.n.size ≤ 140737488351232) ∧ l.length * 24 ≤ 140737488351232 := by
  obtain ⟨xs, rs, h1, h2, h3, h4, h5⟩ := list_cell (s := 2) (by_ := 24) (tE := 23) (fun (_ : DataW H) cs (x : T) => cs = tyL x ∧ x.n.size ≤ 140737488351232) (fun _ _ x h => by rw [h.1]; rfl) (by decide) Tryd.underlying24 (by kernel_rfl) (by kernel_rfl) (by decide) (fun m cs z hz hw => ty_cells hz hw) h hw
  refine ⟨xs, ?_, fun c hc => ?_, h4⟩
  · unfold TyS
    rw [← rs_map h1 (fun i r x hr hx => by obtain ⟨d, hd, -⟩ := h2 i r x hr hx; exact hd.1)]
    exact h3
  · obtain ⟨i, hi⟩ := List.mem_iff_getElem?.1 hc
    have hlt : i < rs.length := by rw [h1]; exact (List.getElem?_eq_some_iff.1 hi).1
    obtain ⟨d, hd, -⟩ := h2 i _ c (List.getElem?_eq_getElem hlt) hi
    exact hd.2
theorem open_tys {W : World} {v : Value} {d : DataW H} {ps : List MemPlace} {base : Nat}
    (hok : Value.okWide Tryd.prog W .any base 24 v) (h : DataW.Trod enc Tryd.prog W 0 (fun _ => true) true 24 v d ps) (hw : (d.weights Tryd.prog 24).all (· ≤ reachBytes) = true) : ∃ l : List T, TyS W v l ∧ (∀ x ∈ l, x.n.size ≤ 140737488351232) ∧ l.length * 24 ≤ 140737488351232 := by
  obtain ⟨a0, len, cap, rfl⟩ := okWide_slice Tryd.underlying24 hok
  obtain ⟨fuel, hf⟩ := h
  exact tys_cell (y := (d, ps)) hf hw
theorem weights_eachT {P : Program} : ∀ {ts : List TypeId} {ds : List (DataW H)} {j : Nat} {t : TypeId} {d : DataW H}, ts[j]? = some t → ds[j]? = some d → (DataW.weightsEach P ts ds).all (· ≤ reachBytes) = true → (d.weights P t).all (· ≤ reachBytes) = true
  | [], _, _, _, _, h, _, _ => by simp at h
  | _, [], _, _, _, _, h, _ => by simp at h
  | t :: ts, d :: ds, 0, _, _, h1, h2, h => by
    simp only [List.getElem?_cons_zero, Option.some.injEq] at h1 h2
    subst h1 h2
    simp only [DataW.weightsEach, List.all_append, Bool.and_eq_true] at h
    exact h.1
  | t :: ts, d :: ds, j + 1, _, _, h1, h2, h => by
    simp only [DataW.weightsEach, List.all_append, Bool.and_eq_true] at h
    exact weights_eachT (j := j) (by simpa using h1) (by simpa using h2) h.2
end
end Go.Proofs.YtahjnaoabfkpcaaDoor
namespace Go.Proofs.YtahjnaoabfkpcaaDoor.lawParts
open Go.ChangeShapes Go.WideShapes Go.ChangeAt Go.RowKit Go.WideMaps Go.WideElems
open Go.ChangeMaps (setBlock shut_map_nil open_string shut_string keptBut_setBlock frozen?_setBlock heap_setBlock_same)

set_option maxRecDepth 100000 in
theorem contract (H : Type) (enc : TypeId × Value → H) (W : World) (base : Nat) (args : Array Value) (ds gs : List (DataW H)) (before : List MemPlace)
    (hval : ∀ (j : Nat) t v, Tryd.f3.params[j]? = some t → args[j]? = some v → Value.okWide Tryd.prog W .any base t v)
    (hW : DataW.Whole enc Tryd.prog Tryd.f3.params.toList Rows.vtypePartsSpec.vars false W args.toList ds gs before)
    (hsz : (DataW.weightsEach Tryd.prog (Tryd.f3.params.toList ++ (OpenSpec.ofChange Rows.vtypePartsSpec).bare.plain.varTypes Tryd.prog) (ds ++ gs)).all (· ≤ reachBytes) = true)
    (_hL : laidMetH Tryd.prog Rows.vtypePartsRow.laid W) :
    Calls Tryd.prog 3 args W fun e W' => ∃ v, e = .returned v ∧ Rows.vtypePartsSpec.post enc Tryd.prog Tryd.f3 false true false false W args v W' := by
  have hW' := hW
  obtain ⟨p, q, hA0, hV, rfl, hfz, hnd⟩ := hW
  have hA : DataW.TrodAll enc Tryd.prog W 0 (fun _ => true) true Tryd.f3.params.toList args.toList ds p := hA0
  rw [Tryd.params3] at hA hval hsz
  obtain ⟨v0, vs0, d0, ds0, p0, q0, hargs, rfl, rfl, h0, r0⟩ := trodAll_cons hA
  obtain ⟨v1, vs1, d1, ds1, p1, q1, rfl, rfl, rfl, h1, r1⟩ := trodAll_cons r0
  obtain ⟨rfl, rfl, rfl⟩ := trodAll_nil r1
  obtain rfl : args = #[v0, v1] := by cases args; simp_all
  obtain ⟨rfl, rfl⟩ := trodVars_none hV
  obtain ⟨x0, rfl, wx0⟩ := open_ty (hval 0 23 v0 rfl rfl) h0 (weights_eachT (j := 0) (t := 23) (d := d0) rfl rfl hsz)
  obtain ⟨x1, wx1, wy1, wl1⟩ := open_tys (hval 1 24 v1 rfl rfl) h1 (weights_eachT (j := 1) (t := 24) (d := d1) rfl rfl hsz)
  refine (parts_law wx0 wx1).mono fun e W' ⟨he, hb⟩ => ?_
  subst he
  exact ⟨_, rfl, Kit.law_post rfl rfl Tryd.underlying4 (by kernel_rfl) (by decide +kernel) hW' rfl hb⟩

theorem reads (os : Os) {H : Type} (enc : TypeId × Value → H) : ∃ places, DataW.whole enc Tryd.prog ((laidWorld os).forCall (fun _ _ => 0) ⟨#[], #[.agg #[.int .i64 0, .string ⟨#[]⟩], .slice none 0 0], []⟩).memory Tryd.f3.params.toList Rows.vtypePartsSpec.vars false (#[.agg #[.int .i64 0, .string ⟨#[]⟩], .slice none 0 0] : Array Value).toList 8 = some ([.agg [.lit (.int .i64 0), .lit (.string [])], .nil], [], places) :=
  ⟨[], by kernel_rfl⟩
theorem laid_met (os : Os) : laidMet Tryd.prog Rows.vtypePartsRow.laid ((laidWorld os).forCall (fun _ _ => 0) ⟨#[], #[.agg #[.int .i64 0, .string ⟨#[]⟩], .slice none 0 0], []⟩).memory :=
  laidMet_of_run' 8 (by kernel_rfl) (by kernel_rfl)
set_option maxRecDepth 100000 in
theorem lifted (os : Os) (started : os.Started) (H : Type) (enc : TypeId × Value → H) (F : Stop.Interp) :
    ReturnsInHanded {} Tryd.checked os 3 .any ((OpenSpec.ofChange Rows.vtypePartsSpec).preRow enc Tryd.prog Tryd.f3 Rows.vtypePartsRow.domain false Rows.vtypePartsRow.laid) (((OpenSpec.ofChange Rows.vtypePartsSpec).at F).post enc Tryd.prog Tryd.f3 false true false false) := by
  obtain ⟨places, hx⟩ := reads os enc
  refine returnsInHanded_of_row (C := Tryd.checked) (s := (OpenSpec.ofChange Rows.vtypePartsSpec)) own started (by kernel_rfl) Tryd.func3
    (witness_row_at (enc := enc) (C := Tryd.checked) false (laidWorld os) #[.agg #[.int .i64 0, .string ⟨#[]⟩], .slice none 0 0] rfl (by kernel_rfl) (by kernel_rfl) (by kernel_rfl)
      (OpenSpec.preRow_of_cond 8 hx (by kernel_rfl) (fun k hk => by cases hk) (by kernel_rfl) (laid_met os))) ?_
  intro W base args ds gs before hval hW _ _ hsz hL _ _
  exact contract H enc W base args ds gs before hval hW hsz hL
theorem said : Rows.VtypePartsSaid :=
  OpenClaim.holds_of_cond 3 Tryd.f3 rfl rfl rfl rfl rfl rfl rfl ⟨rfl, rfl, rfl, rfl, rfl⟩ rfl rfl rfl rfl rfl (by kernel_rfl) Tryd.func3 (by kernel_rfl)
    (of_decide_eq_true (by kernel_rfl)) (by unfold Func.isWrapper; first | (rw [if_pos (by decide +kernel)]; kernel_rfl) | (rw [if_neg (by decide +kernel)]; exact ⟨rfl, rfl⟩))
    (fun os started H enc _ F => by rw [OpenClaim.pre_eq_preRow]; exact lifted os started H enc F)
theorem plain (f : FuncId) (fn : Func) (hf : Tryd.pinned.checked.prog.funcNamed "tabard/tabardlaw11.VtypeParts" = some f) (hfn : Tryd.pinned.checked.prog.funcs[f]? = some fn) :
    false = Tryd.pinned.checked.prog.looks [] ∧ ∀ (j : Nat) t, fn.params[j]? = some t → Tryd.pinned.checked.prog.wantsStandIn t = false := by
  obtain rfl : f = 3 := Option.some.inj ((show Tryd.prog.funcNamed "tabard/tabardlaw11.VtypeParts" = some 3 by kernel_rfl).symm.trans hf) |>.symm
  obtain rfl : fn = Tryd.f3 := (Option.some.inj (Tryd.func3.symm.trans hfn)).symm
  refine ⟨by kernel_rfl, fun j t ht => ?_⟩
  rw [Tryd.params3] at ht
  have hm := Array.mem_of_getElem? ht
  exact (show ∀ t ∈ #[23, 24], Tryd.prog.wantsStandIn t = false by decide +kernel) t hm
/-- THE CARD. -/
theorem card : Rows.VtypePartsCardSaid :=
  Claim7.holds_tied_plain_at .later [] _ _ _ _ said (fun _ h => by cases h) (by kernel_rfl) (fun _ h => by cases h) vtypeParts_row_tie rfl ⟨rfl, rfl⟩ (by kernel_rfl) rfl plain (by kernel_rfl)
end Go.Proofs.YtahjnaoabfkpcaaDoor.lawParts

/- Own texts for the claim, part 4. -/
import Derived.Test.YtahjnaoabfkpcaaDoorZN3
namespace Go.Proofs.YtahjnaoabfkpcaaDoor
open Go Go.RowKit
open Ty (bl mk br T)
def tyA (t : T) : Value := .agg #[.int .i64 t.k, .string t.n]
/-- What Element and Array answer. -/
def tyO (r : Option T) : Value := .tuple #[tyA (r.getD Ty.top), .bool r.isSome]
theorem bcell {W w1 : World} (hb : Below W.heap.size W w1) : (∀ b o, b < W.heap.size → w1.cell? ⟨b, o, none⟩ = W.cell? ⟨b, o, none⟩) ∧ (∀ b o, b < W.heap.size → w1.frozen? ⟨b, o, none⟩ = W.frozen? ⟨b, o, none⟩) := ⟨fun b o h => hb.cell (p := ⟨b, o, none⟩) h, fun b o h => hb.frozen (p := ⟨b, o, none⟩) h⟩
set_option maxRecDepth 100000
set_option maxHeartbeats 2000000
theorem reference_any (s : ByteArray) (w : World) : Calls Tryd.prog 25 #[.string s] w fun e w' => e = .returned (.agg #[.int .i64 4, .string s]) ∧ Below w.heap.size w w' := by
  go_enter Tryd.func25, Tryd.ntmps25
  go_wp2
  exact bodyPost_ret (v := .agg #[.int .i64 4, .string s]) (by simp [results, Tryd.results25, go_sem]) rfl ⟨rfl, (by repeat' first | with_reducible exact Below.refl _ _ | with_reducible assumption | with_reducible refine belows_drewN ?_ _ | with_reducible refine Below.drew ?_ | with_reducible refine Below.setCell ?_ ?_ _ | with_reducible refine Below.alloc ?_ ?_ _ | omega | (simp; done) | (simp; omega))⟩
/-- The text behind the first byte. -/
theorem str_dec (t : ByteArray) (l : List UInt8) : (t.toList == l) = decide (bl t = l) := by
  rw [Ty.str_eq]
  by_cases h : bl t = l <;> simp [h]
theorem element_any (t : T) (hs : t.n.size ≤ maxLen) (w : World) : Calls Tryd.prog 7 #[tyA t] w fun e w' => e = .returned (tyO (Ty.el t)) ∧ Below w.heap.size w w' := by
  obtain ⟨k, n⟩ := t
  dsimp only at hs
  unfold Ty.el
  dsimp only
  by_cases hk : k = 4
  · subst hk
    rw [if_pos rfl]
    have H1 := hid (fun W => brackets_any n hs W)
    have hbr : br (bl n) = 0 ∨ ∃ r, bl n = 91 :: r := by
      cases hb : bl n with
      | nil => exact .inl rfl
      | cons c r =>
        by_cases e : c = 91
        · exact .inr ⟨r, by rw [e]⟩
        · exact .inl (Ty.br_no r e)
    rcases hbr with h0 | ⟨r, hr⟩
    · have hel : Ty.elL (bl n) = none := by
        unfold Ty.elL
        split
        · rename_i r hr
          rw [hr, Ty.br_yes] at h0; omega
        · rfl
      rw [hel]
      rw [h0] at H1
      unfold tyO tyA
      clear h0 hel
      go_enter Tryd.func7, Tryd.ntmps7
      go_wp2_with (go_at_call 24; refine (H1.out _).mono ?_; rintro e w1 ⟨rfl, rfl⟩)
      exact bodyPost_ret (v := .tuple #[.agg #[.int .i64 0, .string ⟨#[]⟩], .bool false]) (by simp [results, Tryd.results7, go_sem]) rfl ⟨rfl, (by repeat' first | with_reducible exact Below.refl _ _ | with_reducible assumption | with_reducible refine belows_drewN ?_ _ | with_reducible refine Below.drew ?_ | with_reducible refine Below.setCell ?_ ?_ _ | with_reducible refine Below.alloc ?_ ?_ _ | omega | (simp; done) | (simp; omega))⟩
    · have h1 : br (bl n) = br r + 1 := by rw [hr, Ty.br_yes]
      rw [h1] at H1
      obtain ⟨b1, hb1⟩ : ∃ b1, br r + 1 = b1 := ⟨_, rfl⟩
      have hpos : ¬ ((b1 : Int) = 0) := by omega
      have hpos2 : ((b1 : Int) == 0) = false := by rw [beq_eq_false_iff_ne]; omega
      rw [hb1] at H1
      obtain ⟨d, hd⟩ : ∃ d, n.extract 1 n.size = d := ⟨_, rfl⟩
      have hdr : bl d = r := by rw [← hd, Ty.bl_from, hr]; rfl
      have hn1 : 1 ≤ n.size := size_pos hr
      have hds : d.size ≤ maxLen := by rw [← Ty.bl_len, hdr]; have := congrArg List.length hr; rw [Ty.bl_len, List.length_cons] at this; omega
      have H2 := hid (fun W => brackets_any d hds W)
      have H3 := hid (fun W => within_any d hds W)
      rw [hdr] at H2 H3
      have hq1 := str_dec d [73]
      have hq2 := str_dec d [74]
      rw [hdr] at hq1 hq2
      have hmd : mk r = d := (Ty.mk_of hdr).symm
      have hel : Ty.elL (bl n) = if r = [73] then some ⟨1, mk []⟩ else if r = [74] then some ⟨2, mk []⟩ else if 0 < br r then some ⟨4, d⟩ else (Ty.wn r).map (fun q => ⟨4, mk q⟩) := by rw [hr, ← hmd]; rfl
      rw [hel]
      have hle : (1 : Int) ≤ (n.size : Int) := by omega
      have HD : Hid (n.extract 1 n.size = d) := hd
      clear h1 hb1 hel hmd hdr
      by_cases e1 : r = [73]
      · rw [if_pos e1]
        rw [decide_eq_true e1, ← hd] at hq1
        unfold tyO tyA
        clear e1 hd hr H2 H3
        go_enter Tryd.func7, Tryd.ntmps7
        go_wp2_with (go_at_call 24; refine (H1.out _).mono ?_; rintro e w1 ⟨rfl, rfl⟩)
        exact bodyPost_ret (v := .tuple #[.agg #[.int .i64 1, .string ⟨#[]⟩], .bool true]) (by simp [results, Tryd.results7, go_sem]) rfl ⟨rfl, (by repeat' first | with_reducible exact Below.refl _ _ | with_reducible assumption | with_reducible refine belows_drewN ?_ _ | with_reducible refine Below.drew ?_ | with_reducible refine Below.setCell ?_ ?_ _ | with_reducible refine Below.alloc ?_ ?_ _ | omega | (simp; done) | (simp; omega))⟩
      · rw [if_neg e1]
        rw [decide_eq_false e1] at hq1
        by_cases e2 : r = [74]
        · rw [if_pos e2]
          rw [decide_eq_true e2, ← hd] at hq2
          rw [← hd] at hq1
          unfold tyO tyA
          clear e1 e2 hd hr H2 H3
          go_enter Tryd.func7, Tryd.ntmps7
          go_wp2_with (go_at_call 24; refine (H1.out _).mono ?_; rintro e w1 ⟨rfl, rfl⟩)
          exact bodyPost_ret (v := .tuple #[.agg #[.int .i64 2, .string ⟨#[]⟩], .bool true]) (by simp [results, Tryd.results7, go_sem]) rfl ⟨rfl, (by repeat' first | with_reducible exact Below.refl _ _ | with_reducible assumption | with_reducible refine belows_drewN ?_ _ | with_reducible refine Below.drew ?_ | with_reducible refine Below.setCell ?_ ?_ _ | with_reducible refine Below.alloc ?_ ?_ _ | omega | (simp; done) | (simp; omega))⟩
        · rw [if_neg e2]
          rw [decide_eq_false e2] at hq2
          obtain ⟨b2, hb2⟩ : ∃ b2, br r = b2 := ⟨_, rfl⟩
          obtain ⟨q, hq⟩ : ∃ q, Ty.wn r = q := ⟨_, rfl⟩
          rw [hb2] at H2 ⊢
          rw [hq] at H3 ⊢
          rw [← hd] at hq1 hq2 H2 H3
          clear e1 e2 hr hb2 hq
          by_cases e3 : 0 < b2
          · rw [if_pos e3, ← hd]
            have e4 : (0 : Int) < (b2 : Int) := by omega
            unfold tyO tyA
            clear hd H3 HD
            go_enter Tryd.func7, Tryd.ntmps7
            go_wp2_with (first | (go_at_call 24; (with_reducible refine (H1.out _).mono ?_); rintro e w1 ⟨rfl, rfl⟩) | (go_at_call 24; (with_reducible refine (H2.out _).mono ?_); rintro e w1 ⟨rfl, rfl⟩) | (go_at_call 25; refine (reference_any _ _).mono ?_; rintro e w2 ⟨rfl, hb2⟩; obtain ⟨hcc, hff⟩ := bcell hb2; have hz2 := hb2.size; simp only [World.size_alloc] at hz2; have hz3 : w.heap.size + 1 < w2.heap.size := (by omega); have hA2 := belows (B := w.heap.size) (a := w) (by repeat' first | with_reducible exact Below.refl _ _ | with_reducible assumption | with_reducible refine belows_drewN ?_ _ | with_reducible refine Below.drew ?_ | with_reducible refine Below.setCell ?_ ?_ _ | with_reducible refine Below.alloc ?_ ?_ _ | omega | (simp; done) | (simp; omega)) hb2 (by simp only [World.size_alloc]; omega)))
            exact bodyPost_ret (v := .tuple #[.agg #[.int .i64 4, .string (n.extract 1 n.size)], .bool true]) (by simp [results, Tryd.results7, go_sem, hcc]) rfl ⟨rfl, (by repeat' first | with_reducible exact Below.refl _ _ | with_reducible assumption | with_reducible refine belows_drewN ?_ _ | with_reducible refine Below.drew ?_ | with_reducible refine Below.setCell ?_ ?_ _ | with_reducible refine Below.alloc ?_ ?_ _ | omega | (simp; done) | (simp; omega))⟩
          · rw [if_neg e3]
            obtain rfl : b2 = 0 := by omega
            clear hd HD e3
            cases q with
            | none =>
              unfold tyO tyA
              unfold wiV at H3
              go_enter Tryd.func7, Tryd.ntmps7
              go_wp2_with (first | (go_at_call 24; (with_reducible refine (H1.out _).mono ?_); rintro e w1 ⟨rfl, rfl⟩) | (go_at_call 24; (with_reducible refine (H2.out _).mono ?_); rintro e w1 ⟨rfl, rfl⟩) | (go_at_call 26; refine (H3.out _).mono ?_; rintro e w1 ⟨rfl, rfl⟩) | (go_at_call 25; refine (reference_any _ _).mono ?_; rintro e w2 ⟨rfl, hb2⟩; obtain ⟨hcc, hff⟩ := bcell hb2; have hz2 := hb2.size; simp only [World.size_alloc] at hz2; have hz3 : w.heap.size + 1 < w2.heap.size := (by omega); have hA2 := belows (B := w.heap.size) (a := w) (by repeat' first | with_reducible exact Below.refl _ _ | with_reducible assumption | with_reducible refine belows_drewN ?_ _ | with_reducible refine Below.drew ?_ | with_reducible refine Below.setCell ?_ ?_ _ | with_reducible refine Below.alloc ?_ ?_ _ | omega | (simp; done) | (simp; omega)) hb2 (by simp only [World.size_alloc]; omega)))
              exact bodyPost_ret (v := .tuple #[.agg #[.int .i64 0, .string ⟨#[]⟩], .bool false]) (by simp [results, Tryd.results7, go_sem]) rfl ⟨rfl, (by repeat' first | with_reducible exact Below.refl _ _ | with_reducible assumption | with_reducible refine belows_drewN ?_ _ | with_reducible refine Below.drew ?_ | with_reducible refine Below.setCell ?_ ?_ _ | with_reducible refine Below.alloc ?_ ?_ _ | omega | (simp; done) | (simp; omega))⟩
            | some q =>
              unfold tyO tyA
              unfold wiV at H3
              obtain ⟨z, hz⟩ : ∃ z, mk q = z := ⟨_, rfl⟩
              simp only [Option.getD_some, Option.isSome_some, Option.map_some, hz] at H3 ⊢
              clear hz
              go_enter Tryd.func7, Tryd.ntmps7
              go_wp2_with (first | (go_at_call 24; (with_reducible refine (H1.out _).mono ?_); rintro e w1 ⟨rfl, rfl⟩) | (go_at_call 24; (with_reducible refine (H2.out _).mono ?_); rintro e w1 ⟨rfl, rfl⟩) | (go_at_call 26; refine (H3.out _).mono ?_; rintro e w1 ⟨rfl, rfl⟩) | (go_at_call 25; refine (reference_any _ _).mono ?_; rintro e w2 ⟨rfl, hb2⟩; obtain ⟨hcc, hff⟩ := bcell hb2; have hz2 := hb2.size; simp only [World.size_alloc] at hz2; have hz3 : w.heap.size + 1 < w2.heap.size := (by omega); have hA2 := belows (B := w.heap.size) (a := w) (by repeat' first | with_reducible exact Below.refl _ _ | with_reducible assumption | with_reducible refine belows_drewN ?_ _ | with_reducible refine Below.drew ?_ | with_reducible refine Below.setCell ?_ ?_ _ | with_reducible refine Below.alloc ?_ ?_ _ | omega | (simp; done) | (simp; omega)) hb2 (by simp only [World.size_alloc]; omega)))
              exact bodyPost_ret (v := .tuple #[.agg #[.int .i64 4, .string z], .bool true]) (by simp [results, Tryd.results7, go_sem, hcc]) rfl ⟨rfl, (by repeat' first | with_reducible exact Below.refl _ _ | with_reducible assumption | with_reducible refine belows_drewN ?_ _ | with_reducible refine Below.drew ?_ | with_reducible refine Below.setCell ?_ ?_ _ | with_reducible refine Below.alloc ?_ ?_ _ | omega | (simp; done) | (simp; omega))⟩
  · rw [if_neg hk]
    have hk2 : (k != 4) = true := by simpa using hk
    unfold tyO tyA
    go_enter Tryd.func7, Tryd.ntmps7
    go_wp2
    exact bodyPost_ret (v := .tuple #[.agg #[.int .i64 0, .string ⟨#[]⟩], .bool false]) (by simp [results, Tryd.results7, go_sem]) rfl ⟨rfl, (by repeat' first | with_reducible exact Below.refl _ _ | with_reducible assumption | with_reducible refine belows_drewN ?_ _ | with_reducible refine Below.drew ?_ | with_reducible refine Below.setCell ?_ ?_ _ | with_reducible refine Below.alloc ?_ ?_ _ | omega | (simp; done) | (simp; omega))⟩
end Go.Proofs.YtahjnaoabfkpcaaDoor
namespace Go.Proofs.YtahjnaoabfkpcaaDoor
open Go Go.RowKit
open Ty (bl mk br T)
set_option maxRecDepth 100000
set_option maxHeartbeats 2000000
theorem arr_text (n : ByteArray) : (⟨#[91, 76]⟩ : ByteArray) ++ n ++ (⟨#[59]⟩ : ByteArray) = mk (91 :: 76 :: (bl n ++ [59])) := Ty.ba_ext (by rw [Ty.bl_app, Ty.bl_app, Ty.bl_mk]; rfl)
theorem arr_text1 (n : ByteArray) : (⟨#[91]⟩ : ByteArray) ++ n = mk (91 :: bl n) := Ty.ba_ext (by rw [Ty.bl_app, Ty.bl_mk]; rfl)
theorem array_any (t : T) (hs : t.n.size ≤ 140737488351232) (w : World) : Calls Tryd.prog 9 #[tyA t] w fun e w' => e = .returned (tyO (Ty.ar t)) ∧ Below w.heap.size w w' := by
  have hsm : t.n.size ≤ maxLen := by unfold maxLen; omega
  obtain ⟨k, n⟩ := t
  dsimp only at hs hsm
  unfold Ty.ar
  dsimp only
  by_cases h1 : k = 1
  · subst h1
    rw [if_pos rfl]
    unfold tyO tyA
    go_enter Tryd.func9, Tryd.ntmps9
    go_wp2_with (go_at_call 25; refine (reference_any _ _).mono ?_; rintro e w2 ⟨rfl, hb2⟩; obtain ⟨hcc, hff⟩ := bcell hb2; have hz2 := hb2.size; simp only [World.size_alloc] at hz2; have hz3 : w.heap.size + 1 < w2.heap.size := (by omega); have hA2 := belows (B := w.heap.size) (a := w) (by repeat' first | with_reducible exact Below.refl _ _ | with_reducible assumption | with_reducible refine belows_drewN ?_ _ | with_reducible refine Below.drew ?_ | with_reducible refine Below.setCell ?_ ?_ _ | with_reducible refine Below.alloc ?_ ?_ _ | omega | (simp; done) | (simp; omega)) hb2 (by simp only [World.size_alloc]; omega))
    exact bodyPost_ret (v := .tuple #[.agg #[.int .i64 4, .string ⟨#[91, 73]⟩], .bool true]) (by simp [results, Tryd.results9, go_sem, hcc]) rfl ⟨rfl, (by repeat' first | with_reducible exact Below.refl _ _ | with_reducible assumption | with_reducible refine belows_drewN ?_ _ | with_reducible refine Below.drew ?_ | with_reducible refine Below.setCell ?_ ?_ _ | with_reducible refine Below.alloc ?_ ?_ _ | omega | (simp; done) | (simp; omega))⟩
  · rw [if_neg h1]
    by_cases h2 : k = 2
    · subst h2
      rw [if_pos rfl]
      unfold tyO tyA
      go_enter Tryd.func9, Tryd.ntmps9
      go_wp2_with (go_at_call 25; refine (reference_any _ _).mono ?_; rintro e w2 ⟨rfl, hb2⟩; obtain ⟨hcc, hff⟩ := bcell hb2; have hz2 := hb2.size; simp only [World.size_alloc] at hz2; have hz3 : w.heap.size + 1 < w2.heap.size := (by omega); have hA2 := belows (B := w.heap.size) (a := w) (by repeat' first | with_reducible exact Below.refl _ _ | with_reducible assumption | with_reducible refine belows_drewN ?_ _ | with_reducible refine Below.drew ?_ | with_reducible refine Below.setCell ?_ ?_ _ | with_reducible refine Below.alloc ?_ ?_ _ | omega | (simp; done) | (simp; omega)) hb2 (by simp only [World.size_alloc]; omega))
      exact bodyPost_ret (v := .tuple #[.agg #[.int .i64 4, .string ⟨#[91, 74]⟩], .bool true]) (by simp [results, Tryd.results9, go_sem, hcc]) rfl ⟨rfl, (by repeat' first | with_reducible exact Below.refl _ _ | with_reducible assumption | with_reducible refine belows_drewN ?_ _ | with_reducible refine Below.drew ?_ | with_reducible refine Below.setCell ?_ ?_ _ | with_reducible refine Below.alloc ?_ ?_ _ | omega | (simp; done) | (simp; omega))⟩
    · rw [if_neg h2]
      by_cases h4 : k = 4
      · subst h4
        rw [if_neg (fun h => h rfl)]
        have H1 := hid (fun W => isClass_any n hsm W)
        have H2 := hid (fun W => brackets_any n hsm W)
        cases hb : bl n with
        | nil =>
          have h0 : n = ⟨#[]⟩ := Ty.ba_ext hb
          subst h0
          rw [if_pos rfl]
          rw [show Ty.clsB (bl ⟨#[]⟩) = false by rfl] at H1
          unfold tyO tyA
          clear hb
          go_enter Tryd.func9, Tryd.ntmps9
          go_wp2_with (go_at_call 28; refine (H1.out _).mono ?_; rintro e w1 ⟨rfl, rfl⟩)
          exact bodyPost_ret (v := .tuple #[.agg #[.int .i64 0, .string ⟨#[]⟩], .bool false]) (by simp [results, Tryd.results9, go_sem]) rfl ⟨rfl, (by repeat' first | with_reducible exact Below.refl _ _ | with_reducible assumption | with_reducible refine belows_drewN ?_ _ | with_reducible refine Below.drew ?_ | with_reducible refine Below.setCell ?_ ?_ _ | with_reducible refine Below.alloc ?_ ?_ _ | omega | (simp; done) | (simp; omega))⟩
        | cons c r =>
          rw [← hb]
          have hne : bl n ≠ [] := by rw [hb]; simp
          rw [if_neg hne]
          have he : n.toList.isEmpty = false := by rw [Ty.str_eq, hb]; rfl
          have hn0 : ¬ n = ⟨#[]⟩ := fun e => hne (by rw [e])
          have ha1 := arr_text n
          have ha2 := arr_text1 n
          by_cases hc : br (bl n) = 0
          · rw [if_pos hc]
            rw [show Ty.clsB (bl n) = true by unfold Ty.clsB; simp [hne, hc]] at H1
            rw [← ha1]
            unfold tyO tyA
            clear hb hne hc ha1 ha2
            go_enter Tryd.func9, Tryd.ntmps9
            go_wp2_with (first | (go_at_call 28; refine (H1.out _).mono ?_; rintro e w1 ⟨rfl, rfl⟩) | (go_at_call 25; refine (reference_any _ _).mono ?_; rintro e w2 ⟨rfl, hb2⟩; obtain ⟨hcc, hff⟩ := bcell hb2; have hz2 := hb2.size; simp only [World.size_alloc] at hz2; have hz3 : w.heap.size + 1 < w2.heap.size := (by omega); have hA2 := belows (B := w.heap.size) (a := w) (by repeat' first | with_reducible exact Below.refl _ _ | with_reducible assumption | with_reducible refine belows_drewN ?_ _ | with_reducible refine Below.drew ?_ | with_reducible refine Below.setCell ?_ ?_ _ | with_reducible refine Below.alloc ?_ ?_ _ | omega | (simp; done) | (simp; omega)) hb2 (by simp only [World.size_alloc]; omega)))
            exact bodyPost_ret (v := .tuple #[.agg #[.int .i64 4, .string (⟨#[91, 76]⟩ ++ n ++ ⟨#[59]⟩)], .bool true]) (by simp [results, Tryd.results9, go_sem, hcc]) rfl ⟨rfl, (by repeat' first | with_reducible exact Below.refl _ _ | with_reducible assumption | with_reducible refine belows_drewN ?_ _ | with_reducible refine Below.drew ?_ | with_reducible refine Below.setCell ?_ ?_ _ | with_reducible refine Below.alloc ?_ ?_ _ | omega | (simp; done) | (simp; omega))⟩
          · rw [if_neg hc]
            rw [show Ty.clsB (bl n) = false by unfold Ty.clsB; simp [hc]] at H1
            rw [← ha2]
            obtain ⟨b, hbk⟩ : ∃ b, br (bl n) = b := ⟨_, rfl⟩
            rw [hbk] at H2 ⊢
            clear hb hne hc ha1 ha2 hbk
            by_cases h16 : b < 16
            · rw [if_pos h16]
              have h17 : decide ((b : Int) < 16) = true := decide_eq_true (by omega)
              have h18 : (b : Int) < 16 := by omega
              unfold tyO tyA
              go_enter Tryd.func9, Tryd.ntmps9
              go_wp2_with (first | (go_at_call 28; refine (H1.out _).mono ?_; rintro e w1 ⟨rfl, rfl⟩) | (go_at_call 24; refine (H2.out _).mono ?_; rintro e w1 ⟨rfl, rfl⟩) | (go_at_call 25; refine (reference_any _ _).mono ?_; rintro e w2 ⟨rfl, hb2⟩; obtain ⟨hcc, hff⟩ := bcell hb2; have hz2 := hb2.size; simp only [World.size_alloc] at hz2; have hz3 : w.heap.size + 1 < w2.heap.size := (by omega); have hA2 := belows (B := w.heap.size) (a := w) (by repeat' first | with_reducible exact Below.refl _ _ | with_reducible assumption | with_reducible refine belows_drewN ?_ _ | with_reducible refine Below.drew ?_ | with_reducible refine Below.setCell ?_ ?_ _ | with_reducible refine Below.alloc ?_ ?_ _ | omega | (simp; done) | (simp; omega)) hb2 (by simp only [World.size_alloc]; omega)))
              exact bodyPost_ret (v := .tuple #[.agg #[.int .i64 4, .string (⟨#[91]⟩ ++ n)], .bool true]) (by simp [results, Tryd.results9, go_sem, hcc]) rfl ⟨rfl, (by repeat' first | with_reducible exact Below.refl _ _ | with_reducible assumption | with_reducible refine belows_drewN ?_ _ | with_reducible refine Below.drew ?_ | with_reducible refine Below.setCell ?_ ?_ _ | with_reducible refine Below.alloc ?_ ?_ _ | omega | (simp; done) | (simp; omega))⟩
            · rw [if_neg h16]
              have h17 : decide ((b : Int) < 16) = false := decide_eq_false (by omega)
              have h18 : ¬ (b : Int) < 16 := by omega
              unfold tyO tyA
              go_enter Tryd.func9, Tryd.ntmps9
              go_wp2_with (first | (go_at_call 28; refine (H1.out _).mono ?_; rintro e w1 ⟨rfl, rfl⟩) | (go_at_call 24; refine (H2.out _).mono ?_; rintro e w1 ⟨rfl, rfl⟩) | (go_at_call 25; refine (reference_any _ _).mono ?_; rintro e w2 ⟨rfl, hb2⟩; obtain ⟨hcc, hff⟩ := bcell hb2; have hz2 := hb2.size; simp only [World.size_alloc] at hz2; have hz3 : w.heap.size + 1 < w2.heap.size := (by omega); have hA2 := belows (B := w.heap.size) (a := w) (by repeat' first | with_reducible exact Below.refl _ _ | with_reducible assumption | with_reducible refine belows_drewN ?_ _ | with_reducible refine Below.drew ?_ | with_reducible refine Below.setCell ?_ ?_ _ | with_reducible refine Below.alloc ?_ ?_ _ | omega | (simp; done) | (simp; omega)) hb2 (by simp only [World.size_alloc]; omega)))
              exact bodyPost_ret (v := .tuple #[.agg #[.int .i64 0, .string ⟨#[]⟩], .bool false]) (by simp [results, Tryd.results9, go_sem]) rfl ⟨rfl, (by repeat' first | with_reducible exact Below.refl _ _ | with_reducible assumption | with_reducible refine belows_drewN ?_ _ | with_reducible refine Below.drew ?_ | with_reducible refine Below.setCell ?_ ?_ _ | with_reducible refine Below.alloc ?_ ?_ _ | omega | (simp; done) | (simp; omega))⟩
      · rw [if_pos h4]
        have q1 : (k == 1) = false := by simpa using h1
        have q2 : (k == 2) = false := by simpa using h2
        have q4 : (k != 4) = true := by simpa using h4
        unfold tyO tyA
        go_enter Tryd.func9, Tryd.ntmps9
        go_wp2
        exact bodyPost_ret (v := .tuple #[.agg #[.int .i64 0, .string ⟨#[]⟩], .bool false]) (by simp [results, Tryd.results9, go_sem]) rfl ⟨rfl, (by repeat' first | with_reducible exact Below.refl _ _ | with_reducible assumption | with_reducible refine belows_drewN ?_ _ | with_reducible refine Below.drew ?_ | with_reducible refine Below.setCell ?_ ?_ _ | with_reducible refine Below.alloc ?_ ?_ _ | omega | (simp; done) | (simp; omega))⟩
theorem text_any (t : T) (w : World) : Calls Tryd.prog 12 #[tyA t] w fun e w' => e = .returned (.string (Ty.tx t)) ∧ Below w.heap.size w w' := by
  obtain ⟨k, n⟩ := t
  unfold Ty.tx tyA
  dsimp only
  by_cases h0 : k = 0 <;> by_cases h1 : k = 1 <;> by_cases h2 : k = 2 <;> by_cases h3 : k = 3 <;> by_cases h4 : k = 4 <;> (try (exfalso; omega)) <;>
  · have q0 : (k == 0) = decide (k = 0) := by by_cases e : k = 0 <;> simp [e]
    have q1 : (k == 1) = decide (k = 1) := by by_cases e : k = 1 <;> simp [e]
    have q2 : (k == 2) = decide (k = 2) := by by_cases e : k = 2 <;> simp [e]
    have q3 : (k == 3) = decide (k = 3) := by by_cases e : k = 3 <;> simp [e]
    have q4 : (k == 4) = decide (k = 4) := by by_cases e : k = 4 <;> simp [e]
    try simp only [h0, h1, h2, h3, h4] at *
    try simp only [if_true, if_false, reduceIte, decide_true, decide_false] at *
    go_enter Tryd.func12, Tryd.ntmps12
    go_wp2
    go_ret
    exact ⟨rfl, (by repeat' first | with_reducible exact Below.refl _ _ | with_reducible assumption | with_reducible refine belows_drewN ?_ _ | with_reducible refine Below.drew ?_ | with_reducible refine Below.setCell ?_ ?_ _ | with_reducible refine Below.alloc ?_ ?_ _ | omega | (simp; done) | (simp; omega))⟩
end Go.Proofs.YtahjnaoabfkpcaaDoor
namespace Go.Proofs.YtahjnaoabfkpcaaDoor
open Go Go.RowKit
open Ty (bl mk br T)
def tyL (t : T) : List Value := [.int .i64 t.k, .string t.n]
/-- A list of types in memory. -/
def TyS (w : World) (v : Value) (l : List T) : Prop := Kit.IsS 2 w v l.length (l.flatMap tyL)
theorem TyS.below {w w' : World} {v : Value} {l : List T} (h : TyS w v l) (hb : Below w.heap.size w w') : TyS w' v l := Kit.IsS.below h hb (Nat.le_refl _)
theorem TyS.at {w : World} {v : Value} {l : List T} (h : TyS w v l) {k : Nat} {x : T} (hx : l[k]? = some x) : ∃ b o p, v = .slice (some ⟨b, o, none⟩) l.length p ∧ b < w.heap.size ∧ w.cell? ⟨b, o + k * 2, none⟩ = some (.int .i64 x.k) ∧ w.cell? ⟨b, o + k * 2 + 1, none⟩ = some (.string x.n) := by
  have hk : k < l.length := (List.getElem?_eq_some_iff.1 hx).1
  obtain ⟨b, o, p, rfl, -, hb, hc⟩ := Kit.IsS.some h (by omega)
  refine ⟨b, o, p, rfl, hb, ?_, ?_⟩
  · exact hc (k * 2) _ ((Kit.flat_at (f := tyL) (s := 2) (fun _ => rfl) hx 0 (by omega)).trans rfl)
  · have := hc (k * 2 + 1) _ ((Kit.flat_at (f := tyL) (s := 2) (fun _ => rfl) hx 1 (by omega)).trans rfl)
    rwa [← Nat.add_assoc] at this
def cn (l : List T) (i : Nat) : Nat := ((l.take i).filter (fun t => decide (t.k = 2))).length
set_option maxRecDepth 100000
set_option maxHeartbeats 2000000
end Go.Proofs.YtahjnaoabfkpcaaDoor
namespace Go.Proofs.YtahjnaoabfkpcaaDoor
open Go Go.RowKit
open Ty (bl mk br T)
/-- A hierarchy's Find answers so, in this world and all that grow out of it. -/
def FindH (w : World) (pv : Value) (I : ByteArray → Option Nat) : Prop := ∀ X, Below w.heap.size w X → ∀ s : ByteArray, s.size ≤ maxLen → Calls Tryd.prog 50 #[pv, .string s] X fun e w' => e = .returned (.tuple #[.int .i64 (((I s).getD 0 : Nat) : Int), .bool (I s).isSome]) ∧ X = w'
theorem FindH.below {w W : World} {pv : Value} {I : ByteArray → Option Nat} (h : FindH w pv I) (hb : Below w.heap.size w W) : FindH W pv I := fun X hX s hs => h X (belows hb hX hb.size) s hs
theorem HM.find {w : World} {base : Nat} {H : HV} (h : HM w base H) : FindH w (.pointer (some ⟨H.hb, 0, none⟩)) (fun s => Hi.idx s H.names) := fun _ hX s hs => Find_any (h.below hX) s hs
set_option maxRecDepth 100000
set_option maxHeartbeats 2000000
theorem find_nil (w : World) : FindH w (.pointer none) (fun _ => none) := fun X hX s hs => by
  go_enter Tryd.func50, Tryd.ntmps50
  go_wp2
  go_ret2
  exact ⟨rfl, rfl⟩
section
variable {w : World} {pv : Value} {I : ByteArray → Option Nat}
theorem vhas_any (hF : FindH w pv I) {s : ByteArray} (hs : s.size ≤ maxLen) {X : World} (hX : Below w.heap.size w X) : Calls Tryd.prog 32 #[pv, .string s] X fun e w' => e = .returned (.bool (I s).isSome) ∧ X = w' := by
  have H := hid (hF X hX s hs)
  obtain ⟨k, hk⟩ : ∃ k, (I s).getD 0 = k := ⟨_, rfl⟩
  obtain ⟨b, hb⟩ : ∃ b, (I s).isSome = b := ⟨_, rfl⟩
  rw [hk, hb] at H
  rw [hb]
  clear hk hb hF hX
  go_enter Tryd.func32, Tryd.ntmps32
  go_wp2_with (go_at_call 50; refine H.out.mono ?_; rintro e w1 ⟨rfl, rfl⟩)
  go_ret
  exact ⟨rfl, rfl⟩
theorem hasArr_any (hF : FindH w pv I) {s : ByteArray} (hs : s.size ≤ maxLen) {X : World} (hX : Below w.heap.size w X) : Calls Tryd.prog 33 #[pv, .string s] X fun e w' => e = .returned (.bool (Ty.arr I (bl s))) ∧ X = w' := by
  have H1 := hid (fun W => brackets_any s hs W)
  unfold Ty.arr
  have hle := Ty.br_le (bl s)
  rw [Ty.bl_len] at hle
  by_cases h0 : br (bl s) = 0
  · rw [if_pos (.inl h0)]
    rw [h0] at H1
    clear h0 hle
    go_enter Tryd.func33, Tryd.ntmps33
    go_wp2_with (go_at_call 24; refine (H1.out _).mono ?_; rintro e w1 ⟨rfl, rfl⟩)
    go_ret
    exact ⟨rfl, rfl⟩
  · by_cases h16 : 16 < br (bl s)
    · rw [if_pos (.inr h16)]
      obtain ⟨k, hk⟩ : ∃ k, br (bl s) = k := ⟨_, rfl⟩
      rw [hk] at H1 h0 h16
      have q1 : ((k : Int) == 0) = false := by rw [beq_eq_false_iff_ne]; omega
      have q2 : decide ((16 : Int) < (k : Int)) = true := decide_eq_true (by omega)
      have q3 : (16 : Int) < (k : Int) := by omega
      have q4 : ¬ (k : Int) = 0 := by omega
      clear hk hle
      go_enter Tryd.func33, Tryd.ntmps33
      go_wp2_with (go_at_call 24; refine (H1.out _).mono ?_; rintro e w1 ⟨rfl, rfl⟩)
      go_ret
      exact ⟨rfl, rfl⟩
    · rw [if_neg (by omega)]
      obtain ⟨k, hk⟩ : ∃ k, br (bl s) = k := ⟨_, rfl⟩
      rw [hk] at H1 h0 h16 hle ⊢
      have q1 : ((k : Int) == 0) = false := by rw [beq_eq_false_iff_ne]; omega
      have q2 : decide ((16 : Int) < (k : Int)) = false := decide_eq_false (by omega)
      have q3 : ¬ (16 : Int) < (k : Int) := by omega
      have q4 : ¬ (k : Int) = 0 := by omega
      have q5 : (k : Int) ≤ (s.size : Int) := by omega
      obtain ⟨d, hd⟩ : ∃ d, s.extract k s.size = d := ⟨_, rfl⟩
      have hdl : bl d = (bl s).drop k := by rw [← hd, Ty.bl_from]
      have hds : d.size ≤ maxLen := by rw [← Ty.bl_len, hdl, List.length_drop, Ty.bl_len]; omega
      have q73 := str_dec d [73]
      have q74 := str_dec d [74]
      rw [← hdl]
      have H2 := hid (fun W => within_any d hds W)
      clear hk hdl
      by_cases e1 : bl d = [73]
      · rw [if_pos (.inl e1)]
        rw [decide_eq_true e1] at q73
        clear e1 q74 H2 hds
        go_enter Tryd.func33, Tryd.ntmps33
        go_wp2_with (go_at_call 24; refine (H1.out _).mono ?_; rintro e w1 ⟨rfl, rfl⟩)
        go_ret
        exact ⟨rfl, rfl⟩
      · rw [decide_eq_false e1] at q73
        by_cases e2 : bl d = [74]
        · rw [if_pos (.inr e2)]
          rw [decide_eq_true e2] at q74
          clear e1 e2 H2 hds
          go_enter Tryd.func33, Tryd.ntmps33
          go_wp2_with (go_at_call 24; refine (H1.out _).mono ?_; rintro e w1 ⟨rfl, rfl⟩)
          go_ret
          exact ⟨rfl, rfl⟩
        · rw [if_neg (by rintro (h | h); exact e1 h; exact e2 h)]
          rw [decide_eq_false e2] at q74
          have hqs : ∀ q, Ty.wn (bl d) = some q → (mk q).size ≤ maxLen := fun q hq => by
            obtain ⟨e, -, -⟩ := Ty.wn_some.1 hq
            have := congrArg List.length e
            rw [Ty.bl_len] at this
            rw [Ty.mk_size]
            simp at this
            omega
          obtain ⟨r, hr⟩ : ∃ r, Ty.wn (bl d) = r := ⟨_, rfl⟩
          rw [hr] at H2 hqs ⊢
          unfold wiV at H2
          clear hr e1 e2 hds
          cases r with
          | none =>
            go_enter Tryd.func33, Tryd.ntmps33
            go_wp2_with (first | (go_at_call 24; refine (H1.out _).mono ?_; rintro e w1 ⟨rfl, rfl⟩) | (go_at_call 26; refine (H2.out _).mono ?_; rintro e w1 ⟨rfl, rfl⟩))
            go_ret
            exact ⟨rfl, rfl⟩
          | some q =>
            have H3 := hid (vhas_any hF (hqs q rfl) hX)
            dsimp only
            obtain ⟨b, hb⟩ : ∃ b, (I (mk q)).isSome = b := ⟨_, rfl⟩
            rw [hb] at H3 ⊢
            obtain ⟨z, hz⟩ : ∃ z, mk q = z := ⟨_, rfl⟩
            simp only [Option.getD_some, Option.isSome_some, hz] at H2 H3
            clear hb hz hqs
            go_enter Tryd.func33, Tryd.ntmps33
            go_wp2_with (first | (go_at_call 24; refine (H1.out _).mono ?_; rintro e w1 ⟨rfl, rfl⟩) | (go_at_call 26; refine (H2.out _).mono ?_; rintro e w1 ⟨rfl, rfl⟩) | (go_at_call 32; refine H3.out.mono ?_; rintro e w1 ⟨rfl, rfl⟩))
            go_ret
            exact ⟨by simp, rfl⟩
theorem valid_any (hF : FindH w pv I) {t : T} (hs : t.n.size ≤ maxLen) {X : World} (hX : Below w.heap.size w X) : Calls Tryd.prog 17 #[pv, tyA t] X fun e w' => e = .returned (.bool (Ty.val I t)) ∧ Below X.heap.size X w' := by
  have hz := str_dec t.n []
  have hz2 : decide (t.n = mk []) = decide (bl t.n = []) := by
    by_cases e : bl t.n = []
    · rw [decide_eq_true e, decide_eq_true (Ty.mk_of e)]
    · rw [decide_eq_false e, decide_eq_false (fun h => e (by rw [h, Ty.bl_mk]))]
  obtain ⟨k, n⟩ := t
  dsimp only at hs hz hz2
  unfold Ty.val
  dsimp only
  rw [hz2]
  by_cases h3 : k = 0 ∨ k = 1 ∨ k = 2 ∨ k = 3
  · rw [if_pos h3]
    clear hz2 hF hX
    by_cases e : bl n = []
    · obtain rfl : n = ⟨#[]⟩ := Ty.mk_of e
      rw [decide_eq_true e]
      clear hz e
      unfold tyA
      rcases h3 with rfl | rfl | rfl | rfl <;>
      · go_enter Tryd.func17, Tryd.ntmps17
        go_wp2
        go_ret
        exact ⟨rfl, (by repeat' first | with_reducible exact Below.refl _ _ | with_reducible assumption | with_reducible refine belows_drewN ?_ _ | with_reducible refine Below.drew ?_ | with_reducible refine Below.setCell ?_ ?_ _ | with_reducible refine Below.alloc ?_ ?_ _ | omega | (simp; done) | (simp; omega))⟩
    · rw [decide_eq_false e] at hz ⊢
      have he : n.toList.isEmpty = false := by
        rw [Ty.str_eq]
        cases hb : bl n with
        | nil => exact absurd hb e
        | cons => rfl
      have hne : ¬ n = ⟨#[]⟩ := fun h => e (by rw [h])
      clear e
      unfold tyA
      rcases h3 with rfl | rfl | rfl | rfl <;>
      · go_enter Tryd.func17, Tryd.ntmps17
        go_wp2
        go_ret
        exact ⟨rfl, (by repeat' first | with_reducible exact Below.refl _ _ | with_reducible assumption | with_reducible refine belows_drewN ?_ _ | with_reducible refine Below.drew ?_ | with_reducible refine Below.setCell ?_ ?_ _ | with_reducible refine Below.alloc ?_ ?_ _ | omega | (simp; done) | (simp; omega))⟩
  · rw [if_neg h3]
    clear hz hz2
    by_cases h4 : k = 4
    · subst h4
      rw [if_pos rfl]
      have hXb : Below w.heap.size w ((X.alloc (.cells #[.int .i64 4, .string n] 23))) := belows hX ((Below.refl _ _).alloc (Nat.le_refl _) _) hX.size
      have H1 := hid (vhas_any hF hs hXb)
      have H2 := hid (hasArr_any hF hs hXb)
      obtain ⟨b1, hb1⟩ : ∃ b, (I n).isSome = b := ⟨_, rfl⟩
      obtain ⟨b2, hb2⟩ : ∃ b, Ty.arr I (bl n) = b := ⟨_, rfl⟩
      rw [hb1] at H1 ⊢
      rw [hb2] at H2 ⊢
      clear hb1 hb2 hF hX hXb
      unfold tyA
      cases b1 <;>
      · go_enter Tryd.func17, Tryd.ntmps17
        go_wp2_with (first | (go_at_call 32; refine H1.out.mono ?_; rintro e w1 ⟨rfl, rfl⟩) | (go_at_call 33; refine H2.out.mono ?_; rintro e w1 ⟨rfl, rfl⟩))
        go_ret
        exact ⟨by simp, (by repeat' first | with_reducible exact Below.refl _ _ | with_reducible assumption | with_reducible refine belows_drewN ?_ _ | with_reducible refine Below.drew ?_ | with_reducible refine Below.setCell ?_ ?_ _ | with_reducible refine Below.alloc ?_ ?_ _ | omega | (simp; done) | (simp; omega))⟩
    · rw [if_neg h4]
      have q0 : (k == 0) = false := by rw [beq_eq_false_iff_ne]; omega
      have q1 : (k == 1) = false := by rw [beq_eq_false_iff_ne]; omega
      have q2 : (k == 2) = false := by rw [beq_eq_false_iff_ne]; omega
      have q3 : (k == 3) = false := by rw [beq_eq_false_iff_ne]; omega
      have q4 : (k == 4) = false := by rw [beq_eq_false_iff_ne]; omega
      unfold tyA
      go_enter Tryd.func17, Tryd.ntmps17
      go_wp2
      go_ret
      exact ⟨rfl, (by repeat' first | with_reducible exact Below.refl _ _ | with_reducible assumption | with_reducible refine belows_drewN ?_ _ | with_reducible refine Below.drew ?_ | with_reducible refine Below.setCell ?_ ?_ _ | with_reducible refine Below.alloc ?_ ?_ _ | omega | (simp; done) | (simp; omega))⟩
end
end Go.Proofs.YtahjnaoabfkpcaaDoor
namespace Go.Proofs.YtahjnaoabfkpcaaDoor
open Go Go.RowKit
open Ty (bl mk br T)
namespace Ty
theorem elP_size (t : T) : (elP t).n.size ≤ t.n.size := by
  unfold elP
  cases h : el t with
  | none => exact Nat.zero_le _
  | some u =>
    show u.n.size ≤ t.n.size
    by_cases hk : u.k = 4
    · exact Nat.le_of_lt (el_size h hk)
    · have : u.n.size = 0 := by
        unfold el at h
        split at h
        · unfold elL at h
          split at h
          · split at h
            · obtain rfl := Option.some.inj h; rfl
            · split at h
              · obtain rfl := Option.some.inj h; rfl
              · split at h
                · obtain rfl := Option.some.inj h; exact absurd rfl hk
                · obtain ⟨q, -, rfl⟩ := Option.map_eq_some_iff.1 h
                  exact absurd rfl hk
          · cases h
        · cases h
      omega
theorem elP_lt {t : T} (h : (elP t).k = 4) : (elP t).n.size < t.n.size := by
  unfold elP at h ⊢
  cases he : el t with
  | none => rw [he] at h; cases h
  | some u => rw [he] at h; exact el_size he h
section
variable (I : ByteArray → Option Nat) (U : Nat → Nat → Bool)
def refF (fit : T → T → Bool) (a b : T) : Bool :=
  match I a.n, I b.n with
  | some x, some y => U x y
  | some _, none => false
  | none, some y => decide (y = 0)
  | none, none => if (elP a).k = 4 ∧ (elP b).k = 4 then fit (elP a) (elP b) else false
def fitF : Nat → T → T → Bool
  | 0, _, _ => false
  | m + 1, a, b => if b.k = 0 ∨ (a.k = b.k ∧ a.n = b.n) then true else if b.k ≠ 4 then false else if a.k = 3 then true else if a.k = 4 then refF I U (fitF m) a b else false
end
/-- To fit, of two types. -/
def fit (I : ByteArray → Option Nat) (U : Nat → Nat → Bool) (a b : T) : Bool := fitF I U (a.n.size + 1) a b
end Ty
theorem region_named {P : Program} {id : Nat} {ops : Array Oper} {b : Bool} {Q : Exit → Act → World → Prop} {a : Act} {w : World} (h : ∀ W, W = w → (Code.region id ops b).wp P Q a W) : (Code.region id ops b).wp P Q a w := h w rfl
set_option maxRecDepth 100000
set_option maxHeartbeats 2000000
theorem two_set {W : World} {p q : Nat} {a b c d x0 x1 y0 y1 : Value} (z2 : BX W p #[x0, x1] 23) (z3 : BX W q #[y0, y1] 23) (hne : q ≠ p) :
    BX (((((W.setCell ⟨p, 0, none⟩ a).setCell ⟨p, 1, none⟩ b).setCell ⟨q, 0, none⟩ c).setCell ⟨q, 1, none⟩ d).drew) p #[a, b] 23 ∧ BX (((((W.setCell ⟨p, 0, none⟩ a).setCell ⟨p, 1, none⟩ b).setCell ⟨q, 0, none⟩ c).setCell ⟨q, 1, none⟩ d).drew) q #[c, d] 23 := by
  have h1 : BX ((W.setCell ⟨p, 0, none⟩ a).setCell ⟨p, 1, none⟩ b) p #[a, b] 23 := box_set (box_set z2 0 a) 1 b
  have c1 : Chg (fun i => i = p) W ((W.setCell ⟨p, 0, none⟩ a).setCell ⟨p, 1, none⟩ b) := ((Chg.refl (fun i => i = p) W).set (p := ⟨p, 0, none⟩) (.inl rfl) _).set (p := ⟨p, 1, none⟩) (.inl rfl) _
  have h3 := z3.chg c1 hne
  obtain ⟨W1, hW1⟩ : ∃ W1, (W.setCell ⟨p, 0, none⟩ a).setCell ⟨p, 1, none⟩ b = W1 := ⟨_, rfl⟩
  rw [hW1] at h1 h3 ⊢
  have c2 : Chg (fun i => i = q) W1 ((W1.setCell ⟨q, 0, none⟩ c).setCell ⟨q, 1, none⟩ d) := ((Chg.refl (fun i => i = q) W1).set (p := ⟨q, 0, none⟩) (.inl rfl) _).set (p := ⟨q, 1, none⟩) (.inl rfl) _
  exact ⟨(h1.chg c2 (fun e => hne e.symm)).below (Below.drew (Below.refl _ _)), (show BX ((W1.setCell ⟨q, 0, none⟩ c).setCell ⟨q, 1, none⟩ d) q #[c, d] 23 from box_set (box_set h3 0 c) 1 d).below (Below.drew (Below.refl _ _))⟩
theorem two_setn {W : World} {p q : Nat} {a b c d x0 x1 y0 y1 : Value} (z2 : BX W p #[x0, x1] 23) (z3 : BX W q #[y0, y1] 23) (hne : q ≠ p) :
    BX ((((W.setCell ⟨p, 0, none⟩ a).setCell ⟨p, 1, none⟩ b).setCell ⟨q, 0, none⟩ c).setCell ⟨q, 1, none⟩ d) p #[a, b] 23 ∧ BX ((((W.setCell ⟨p, 0, none⟩ a).setCell ⟨p, 1, none⟩ b).setCell ⟨q, 0, none⟩ c).setCell ⟨q, 1, none⟩ d) q #[c, d] 23 := by
  have h1 : BX ((W.setCell ⟨p, 0, none⟩ a).setCell ⟨p, 1, none⟩ b) p #[a, b] 23 := box_set (box_set z2 0 a) 1 b
  have c1 : Chg (fun i => i = p) W ((W.setCell ⟨p, 0, none⟩ a).setCell ⟨p, 1, none⟩ b) := ((Chg.refl (fun i => i = p) W).set (p := ⟨p, 0, none⟩) (.inl rfl) _).set (p := ⟨p, 1, none⟩) (.inl rfl) _
  have h3 := z3.chg c1 hne
  obtain ⟨W1, hW1⟩ : ∃ W1, (W.setCell ⟨p, 0, none⟩ a).setCell ⟨p, 1, none⟩ b = W1 := ⟨_, rfl⟩
  rw [hW1] at h1 h3 ⊢
  have c2 : Chg (fun i => i = q) W1 ((W1.setCell ⟨q, 0, none⟩ c).setCell ⟨q, 1, none⟩ d) := ((Chg.refl (fun i => i = q) W1).set (p := ⟨q, 0, none⟩) (.inl rfl) _).set (p := ⟨q, 1, none⟩) (.inl rfl) _
  exact ⟨h1.chg c2 (fun e => hne e.symm), box_set (box_set h3 0 c) 1 d⟩
theorem elements_any (a b : T) (ha : a.n.size ≤ maxLen) (hb : b.n.size ≤ maxLen) (w : World) : Calls Tryd.prog 64 #[tyA a, tyA b] w fun e w' => e = .returned (.tuple #[tyA (Ty.elP a), tyA (Ty.elP b), .bool (decide ((Ty.elP a).k = 4) && decide ((Ty.elP b).k = 4))]) ∧ Below w.heap.size w w' := by
  have H1 := hid (fun W => element_any a ha W)
  have H2 := hid (fun W => element_any b hb W)
  unfold tyO at H1 H2
  rw [show (Ty.el a).getD Ty.top = Ty.elP a from rfl] at H1
  rw [show (Ty.el b).getD Ty.top = Ty.elP b from rfl] at H2
  obtain ⟨ak, an⟩ := a
  obtain ⟨bk, bn⟩ := b
  obtain ⟨⟨xk, xn⟩, hx⟩ : ∃ x, Ty.elP ⟨ak, an⟩ = x := ⟨_, rfl⟩
  obtain ⟨⟨yk, yn⟩, hy⟩ : ∃ y, Ty.elP ⟨bk, bn⟩ = y := ⟨_, rfl⟩
  rw [hx] at H1 ⊢
  rw [hy] at H2 ⊢
  obtain ⟨p, hp⟩ : ∃ p, (Ty.el ⟨ak, an⟩).isSome = p := ⟨_, rfl⟩
  obtain ⟨q, hq⟩ : ∃ q, (Ty.el ⟨bk, bn⟩).isSome = q := ⟨_, rfl⟩
  rw [hp] at H1
  rw [hq] at H2
  unfold tyA at H1 H2 ⊢
  dsimp only at H1 H2 ⊢
  have q1 : (xk == 4) = decide (xk = 4) := by by_cases e : xk = 4 <;> simp [e]
  have q2 : (yk == 4) = decide (yk = 4) := by by_cases e : yk = 4 <;> simp [e]
  obtain ⟨b1, hb1⟩ : ∃ b, decide (xk = 4) = b := ⟨_, rfl⟩
  obtain ⟨b2, hb2⟩ : ∃ b, decide (yk = 4) = b := ⟨_, rfl⟩
  rw [hb1] at q1 ⊢
  rw [hb2] at q2 ⊢
  clear hx hy hp hq hb1 hb2 ha hb
  have HQ1 := hid q1
  have HQ2 := hid q2
  clear q1 q2
  have hw0 : ∃ w0, w0 = (((w.alloc (.cells #[.int .i64 ak, .string an] 23)).alloc (.cells #[.int .i64 bk, .string bn] 23)).alloc (.cells #[.int .i64 0, .string ⟨#[]⟩] 23)).alloc (.cells #[.int .i64 0, .string ⟨#[]⟩] 23) := ⟨_, rfl⟩
  obtain ⟨w0, hw0⟩ := hw0
  have hb0 : Below w.heap.size w w0 := by rw [hw0]; exact (by repeat' first | with_reducible exact Below.refl _ _ | with_reducible assumption | with_reducible refine belows_drewN ?_ _ | with_reducible refine Below.drew ?_ | with_reducible refine Below.setCell ?_ ?_ _ | with_reducible refine Below.alloc ?_ ?_ _ | omega | (simp; done) | (simp; omega))
  have hs0 : w0.heap.size = w.heap.size + 4 := by rw [hw0]; simp
  have x0 : BX w0 w.heap.size #[.int .i64 ak, .string an] 23 := by
    rw [hw0]
    exact (((BX.new w _ _).below ((Below.refl _ _).alloc (Nat.le_refl _) _)).below ((Below.refl _ _).alloc (Nat.le_refl _) _)).below ((Below.refl _ _).alloc (Nat.le_refl _) _)
  have x1 : BX w0 (w.heap.size + 1) #[.int .i64 bk, .string bn] 23 := by
    have := (((BX.new (w.alloc (.cells #[.int .i64 ak, .string an] 23)) #[.int .i64 bk, .string bn] 23).below ((Below.refl _ _).alloc (Nat.le_refl _) (.cells #[.int .i64 0, .string ⟨#[]⟩] 23))).below ((Below.refl _ _).alloc (Nat.le_refl _) (.cells #[.int .i64 0, .string ⟨#[]⟩] 23)))
    rw [← hw0, World.size_alloc] at this
    exact this
  have x2 : BX w0 (w.heap.size + 2) #[.int .i64 0, .string ⟨#[]⟩] 23 := by
    have := ((BX.new ((w.alloc (.cells #[.int .i64 ak, .string an] 23)).alloc (.cells #[.int .i64 bk, .string bn] 23)) #[.int .i64 0, .string ⟨#[]⟩] 23).below ((Below.refl _ _).alloc (Nat.le_refl _) (.cells #[.int .i64 0, .string ⟨#[]⟩] 23)))
    rw [← hw0, World.size_alloc, World.size_alloc] at this
    exact this
  have x3 : BX w0 (w.heap.size + 3) #[.int .i64 0, .string ⟨#[]⟩] 23 := by
    have := BX.new (((w.alloc (.cells #[.int .i64 ak, .string an] 23)).alloc (.cells #[.int .i64 bk, .string bn] 23)).alloc (.cells #[.int .i64 0, .string ⟨#[]⟩] 23)) #[.int .i64 0, .string ⟨#[]⟩] 23
    rw [← hw0, World.size_alloc, World.size_alloc, World.size_alloc] at this
    exact this
  have HB0 := hid hb0
  have HS0 := hid hs0
  have X0 := hid x0
  have X1 := hid x1
  have X2 := hid x2
  have X3 := hid x3
  have HW0 := hid hw0
  clear hw0 hb0 hs0 x0 x1 x2 x3
  go_enter Tryd.func64, Tryd.ntmps64
  go_upto_region 2 with (go_at_call 7; go_loud (refine (H1.out _).mono ?_; rintro e w1 ⟨rfl, hb1⟩; rw [← HW0.out] at hb1; have HB1 := hid hb1; have hz1 := hb1.size; have hs0 := HS0.out; have g20 := (X0.out.below hb1).cell 0; have g21 := (X0.out.below hb1).cell 1; have f20 := (X0.out.below hb1).frozen 0; have f21 := (X0.out.below hb1).frozen 1; clear hb1))
  refine region_named fun W1 hW1 => ?_
  have c1 : Chg (fun i => i = w.heap.size) w1 W1 := by rw [hW1]; exact ((Chg.refl (fun i => i = w.heap.size) w1).set (p := ⟨w.heap.size, 0, none⟩) (.inl rfl) _).set (p := ⟨w.heap.size, 1, none⟩) (.inl rfl) _
  have y0 : BX W1 w.heap.size #[.int .i64 xk, .string xn] 23 := by rw [hW1]; exact box_set (box_set (X0.out.below HB1.out) 0 (.int .i64 xk)) 1 (.string xn)
  have y1 := (X1.out.below HB1.out).chg c1 (by omega)
  have C1 := hid c1
  have Y0 := hid y0
  have Y1 := hid y1
  have Y2 := hid ((X2.out.below HB1.out).chg c1 (by omega))
  have Y3 := hid ((X3.out.below HB1.out).chg c1 (by omega))
  have g10 := y1.cell 0
  have g11 := y1.cell 1
  have hz2 := c1.size
  have hl1 : w.heap.size + 1 < W1.heap.size := y1.sz
  clear hW1 c1 y0 y1 g20 g21 f20 f21
  go_upto_region 3 with (go_at_call 7; go_loud (refine (H2.out _).mono ?_; rintro e w2 ⟨rfl, hb2⟩; have HB2 := hid hb2; have hz3 := hb2.size; have g20 := (Y1.out.below hb2).cell 0; have g21 := (Y1.out.below hb2).cell 1; have f20 := (Y1.out.below hb2).frozen 0; have f21 := (Y1.out.below hb2).frozen 1; clear hb2))
  refine region_named fun W2 hW2 => ?_
  have c2 : Chg (fun i => i = w.heap.size + 1) w2 W2 := by rw [hW2]; exact ((Chg.refl (fun i => i = w.heap.size + 1) w2).set (p := ⟨w.heap.size + 1, 0, none⟩) (.inl rfl) _).set (p := ⟨w.heap.size + 1, 1, none⟩) (.inl rfl) _
  have z1 : BX W2 (w.heap.size + 1) #[.int .i64 yk, .string yn] 23 := by rw [hW2]; exact box_set (box_set (Y1.out.below HB2.out) 0 (.int .i64 yk)) 1 (.string yn)
  have z0 := (Y0.out.below HB2.out).chg c2 (by omega)
  have z2 := (Y2.out.below HB2.out).chg c2 (by omega)
  have z3 := (Y3.out.below HB2.out).chg c2 (by omega)
  have hbw2 : Below w.heap.size w W2 := ((HB0.out.trans ((HB1.out.mono (by omega)).trans (C1.out.to_below (fun j e => by omega) (by omega)))).trans (HB2.out.mono (by omega))).trans (c2.to_below (fun j e => by omega) (by omega))
  have HBW := hid hbw2
  have a0 := z0.cell 0
  have a1 := z0.cell 1
  have b0 := z1.cell 0
  have b1' := z1.cell 1
  have fr2 := z2.frozen 0
  have fr21 := z2.frozen 1
  have e20 : W2.cell? ⟨w.heap.size + 2, 0, none⟩ = some (.int .i64 0) := z2.cell 0
  have e21 : W2.cell? ⟨w.heap.size + 2, 1, none⟩ = some (.string ⟨#[]⟩) := z2.cell 1
  have fr3 := z3.frozen 0
  have fr31 := z3.frozen 1
  have e30 : W2.cell? ⟨w.heap.size + 3, 0, none⟩ = some (.int .i64 0) := z3.cell 0
  have e31 : W2.cell? ⟨w.heap.size + 3, 1, none⟩ = some (.string ⟨#[]⟩) := z3.cell 1
  have hl3 : w.heap.size + 3 < W2.heap.size := z3.sz
  have HF := hid (two_set (p := w.heap.size + 1 + 1) (q := w.heap.size + 1 + 1 + 1) (a := .int .i64 xk) (b := .string xn) (c := .int .i64 yk) (d := .string yn) z2 z3 (by omega))
  clear hW2 c2 z0 z1 z2 z3 hbw2 g20 g21 f20 f21 g10 g11 hl1 hz1 hz2 hz3
  have q1 := HQ1.out
  have q2 := HQ2.out
  cases b1 with
  | false =>
    go_region
    go_wp2
    obtain ⟨k2, k3⟩ := HF.out
    have k20 := k2.cell 0
    have k21 := k2.cell 1
    have k30 := k3.cell 0
    have k31 := k3.cell 1
    obtain ⟨E, hE⟩ : ∃ E, (((((W2.setCell ⟨w.heap.size + 1 + 1, 0, none⟩ (.int .i64 xk)).setCell ⟨w.heap.size + 1 + 1, 1, none⟩ (.string xn)).setCell ⟨w.heap.size + 1 + 1 + 1, 0, none⟩ (.int .i64 yk)).setCell ⟨w.heap.size + 1 + 1 + 1, 1, none⟩ (.string yn)).drew) = E := ⟨_, rfl⟩
    have hbE : Below w.heap.size w E := by rw [← hE]; exact Below.drew (Below.setCell (Below.setCell (Below.setCell (Below.setCell HBW.out (by simp; omega) _) (by simp; omega) _) (by simp; omega) _) (by simp; omega) _)
    rw [hE] at k20 k21 k30 k31 ⊢
    clear hE k2 k3
    exact bodyPost_ret (v := .tuple #[.agg #[.int .i64 xk, .string xn], .agg #[.int .i64 yk, .string yn], .bool false]) (by simp [results, Tryd.results64, go_sem, k20, k21, k30, k31]) rfl ⟨rfl, hbE⟩
  | true =>
    go_region
    go_wp2
    obtain ⟨k2, k3⟩ := HF.out
    have k20 := k2.cell 0
    have k21 := k2.cell 1
    have k30 := k3.cell 0
    have k31 := k3.cell 1
    obtain ⟨E, hE⟩ : ∃ E, (((((W2.setCell ⟨w.heap.size + 1 + 1, 0, none⟩ (.int .i64 xk)).setCell ⟨w.heap.size + 1 + 1, 1, none⟩ (.string xn)).setCell ⟨w.heap.size + 1 + 1 + 1, 0, none⟩ (.int .i64 yk)).setCell ⟨w.heap.size + 1 + 1 + 1, 1, none⟩ (.string yn)).drew) = E := ⟨_, rfl⟩
    have hbE : Below w.heap.size w E := by rw [← hE]; exact Below.drew (Below.setCell (Below.setCell (Below.setCell (Below.setCell HBW.out (by simp; omega) _) (by simp; omega) _) (by simp; omega) _) (by simp; omega) _)
    rw [hE] at k20 k21 k30 k31 ⊢
    clear hE k2 k3
    exact bodyPost_ret (v := .tuple #[.agg #[.int .i64 xk, .string xn], .agg #[.int .i64 yk, .string yn], .bool b2]) (by simp [results, Tryd.results64, go_sem, k20, k21, k30, k31]) rfl ⟨rfl, hbE⟩
end Go.Proofs.YtahjnaoabfkpcaaDoor
namespace Go.Proofs.YtahjnaoabfkpcaaDoor
open Go Go.RowKit
open Ty (bl mk br T)
/-- A hierarchy that can be asked who stands under whom. -/
structure HQ (w : World) (pv : Value) (I : ByteArray → Option Nat) (U : Nat → Nat → Bool) : Prop where
  find : FindH w pv I
  under : ∀ X, Below w.heap.size w X → ∀ (s t : ByteArray) (x y : Nat), I s = some x → I t = some y → Calls Tryd.prog 63 #[pv, .int .i64 (x : Int), .int .i64 (y : Int)] X fun e w' => e = .returned (.bool (U x y)) ∧ X = w'
theorem HM.hq {w : World} {base : Nat} {H : HV} {P D : Nat → Nat} (h : HM w base H) (ok : HOk H P D) : HQ w (.pointer (some ⟨H.hb, 0, none⟩)) (fun s => Hi.idx s H.names) (Hi.und P D) := ⟨h.find, fun X hX s t x y hx hy => by
  have hn : H.names.length = H.n := by simp [HV.names]
  have h1 := Hi.idx_lt hx
  have h2 := Hi.idx_lt hy
  have := Under_any (h.below hX) ok (x : Int) (y : Int)
  unfold HV.underO at this
  rw [isC_nat (by omega), isC_nat (by omega), Bool.true_and, Bool.true_and, Int.toNat_natCast, Int.toNat_natCast] at this
  exact this⟩
section
variable {w : World} {pv : Value} {I : ByteArray → Option Nat} {U : Nat → Nat → Bool}
set_option maxRecDepth 100000
set_option maxHeartbeats 2000000
theorem refFits_any (h : HQ w pv I U) {a b : T} {fit : T → T → Bool} (ha : a.n.size ≤ maxLen) (hb : b.n.size ≤ maxLen)
    (hrec : ∀ X, Below w.heap.size w X → (Ty.elP a).k = 4 → (Ty.elP b).k = 4 → Calls Tryd.prog 34 #[pv, tyA (Ty.elP a), tyA (Ty.elP b)] X fun e w' => e = .returned (.bool (fit (Ty.elP a) (Ty.elP b))) ∧ Below X.heap.size X w')
    (X : World) (hX : Below w.heap.size w X) : Calls Tryd.prog 51 #[pv, tyA a, tyA b] X fun e w' => e = .returned (.bool (Ty.refF I U fit a b)) ∧ Below X.heap.size X w' := by
  have HE := hid (fun W => elements_any a b ha hb W)
  obtain ⟨X2, hX2⟩ : ∃ X2, X2 = (X.alloc (.cells #[.int .i64 a.k, .string a.n] 23)).alloc (.cells #[.int .i64 b.k, .string b.n] 23) := ⟨_, rfl⟩
  have hX0 : Below X.heap.size X X2 := by rw [hX2]; exact (by repeat' first | with_reducible exact Below.refl _ _ | with_reducible assumption | with_reducible refine belows_drewN ?_ _ | with_reducible refine Below.drew ?_ | with_reducible refine Below.setCell ?_ ?_ _ | with_reducible refine Below.alloc ?_ ?_ _ | omega | (simp; done) | (simp; omega))
  have hXb := belows hX hX0 hX.size
  have F1 := hid (h.find X2 hXb a.n ha)
  have F2 := hid (h.find X2 hXb b.n hb)
  have HU := hid (h.under X2 hXb a.n b.n)
  have HR := hid hrec
  have x0 : BX X2 X.heap.size #[.int .i64 a.k, .string a.n] 23 := by rw [hX2]; exact (BX.new X _ _).below ((Below.refl _ _).alloc (Nat.le_refl _) _)
  have x1 : BX X2 (X.heap.size + 1) #[.int .i64 b.k, .string b.n] 23 := by
    have := BX.new (X.alloc (.cells #[.int .i64 a.k, .string a.n] 23)) #[.int .i64 b.k, .string b.n] 23
    rw [← hX2, World.size_alloc] at this
    exact this
  have X0 := hid x0
  have X1 := hid x1
  have HX2 := hid hX2
  have HB2 := hid hX0
  have HXB := hid hXb
  have hs2 : X2.heap.size = X.heap.size + 2 := by rw [hX2]; simp
  unfold Ty.refF
  obtain ⟨ak, an⟩ := a
  obtain ⟨bk, bn⟩ := b
  dsimp only at F1 F2 HU HX2 X0 X1 ⊢
  unfold tyA at HE HR ⊢
  dsimp only at HE HR ⊢
  rw [HX2.out] at F1 F2 HU
  clear hrec ha hb hX0 hXb h x0 x1 hX2
  cases e1 : I an with
  | some x =>
    rw [e1] at F1
    cases e2 : I bn with
    | some y =>
      rw [e2] at F2
      have HU2 := hid (HU.out x y e1 e2)
      clear e1 e2 HU
      go_enter Tryd.func51, Tryd.ntmps51
      go_wp2_with (first | (go_at_call 50; (with_reducible refine F1.out.mono ?_); rintro e w1 ⟨rfl, rfl⟩) | (go_at_call 50; (with_reducible refine F2.out.mono ?_); rintro e w1 ⟨rfl, rfl⟩) | (go_at_call 63; refine HU2.out.mono ?_; rintro e w1 ⟨rfl, rfl⟩))
      go_ret
      exact ⟨rfl, (by repeat' first | with_reducible exact Below.refl _ _ | with_reducible assumption | with_reducible refine belows_drewN ?_ _ | with_reducible refine Below.drew ?_ | with_reducible refine Below.setCell ?_ ?_ _ | with_reducible refine Below.alloc ?_ ?_ _ | omega | (simp; done) | (simp; omega))⟩
    | none =>
      rw [e2] at F2
      clear e1 e2 HU
      go_enter Tryd.func51, Tryd.ntmps51
      go_wp2_with (first | (go_at_call 50; (with_reducible refine F1.out.mono ?_); rintro e w1 ⟨rfl, rfl⟩) | (go_at_call 50; (with_reducible refine F2.out.mono ?_); rintro e w1 ⟨rfl, rfl⟩))
      go_ret
      exact ⟨rfl, (by repeat' first | with_reducible exact Below.refl _ _ | with_reducible assumption | with_reducible refine belows_drewN ?_ _ | with_reducible refine Below.drew ?_ | with_reducible refine Below.setCell ?_ ?_ _ | with_reducible refine Below.alloc ?_ ?_ _ | omega | (simp; done) | (simp; omega))⟩
  | none =>
    rw [e1] at F1
    cases e2 : I bn with
    | some y =>
      rw [e2] at F2
      have hy : ((y : Int) == 0) = decide (y = 0) := by by_cases e : y = 0 <;> simp [e]
      dsimp only
      obtain ⟨c, hc⟩ : ∃ c, decide (y = 0) = c := ⟨_, rfl⟩
      rw [hc] at hy ⊢
      clear e1 e2 HU hc
      go_enter Tryd.func51, Tryd.ntmps51
      go_wp2_with (first | (go_at_call 50; (with_reducible refine F1.out.mono ?_); rintro e w1 ⟨rfl, rfl⟩) | (go_at_call 50; (with_reducible refine F2.out.mono ?_); rintro e w1 ⟨rfl, rfl⟩))
      go_ret
      exact ⟨by simp, (by repeat' first | with_reducible exact Below.refl _ _ | with_reducible assumption | with_reducible refine belows_drewN ?_ _ | with_reducible refine Below.drew ?_ | with_reducible refine Below.setCell ?_ ?_ _ | with_reducible refine Below.alloc ?_ ?_ _ | omega | (simp; done) | (simp; omega))⟩
    | none =>
      rw [e2] at F2
      dsimp only
      obtain ⟨⟨xk, xn⟩, hx⟩ : ∃ x, Ty.elP ⟨ak, an⟩ = x := ⟨_, rfl⟩
      obtain ⟨⟨yk, yn⟩, hy⟩ : ∃ y, Ty.elP ⟨bk, bn⟩ = y := ⟨_, rfl⟩
      rw [hx, hy] at HE HR ⊢
      dsimp only at HE HR ⊢
      clear hx hy e1 e2 HU
      by_cases hk : xk = 4 ∧ yk = 4
      · rw [if_pos hk]
        rw [decide_eq_true hk.1, decide_eq_true hk.2, Bool.true_and] at HE
        have HR2 := hid (fun W hW => HR.out W hW hk.1 hk.2)
        obtain ⟨c, hc⟩ : ∃ c, fit ⟨xk, xn⟩ ⟨yk, yn⟩ = c := ⟨_, rfl⟩
        rw [hc] at HR2 ⊢
        clear hk hc HR
        go_enter Tryd.func51, Tryd.ntmps51
        go_upto_region 10 with (first | (go_at_call 50; (with_reducible refine F1.out.mono ?_); rintro e w1 ⟨rfl, rfl⟩) | (go_at_call 50; (with_reducible refine F2.out.mono ?_); rintro e w1 ⟨rfl, rfl⟩) | (go_at_call 64; go_loud (refine (HE.out _).mono ?_; rintro e w1 ⟨rfl, hb1⟩; rw [← HX2.out] at hb1; have HB1 := hid hb1; have z0 := X0.out.below hb1; have z1 := X1.out.below hb1; have c00 := z0.cell 0; have c01 := z0.cell 1; have c10 := z1.cell 0; have c11 := z1.cell 1; have f00 := z0.frozen 0; have f01 := z0.frozen 1; have f10 := z1.frozen 0; have f11 := z1.frozen 1; have HTS := hid (two_setn (a := .int .i64 xk) (b := .string xn) (c := .int .i64 yk) (d := .string yn) z0 z1 (by omega)); clear z0 z1)))
        refine region_named fun W hW => ?_
        rw [← hW] at HTS
        have hbW : Below w.heap.size w W := by
          have hX1 := hX.size
          have hb3 := HB1.out.size
          rw [hW]
          exact Below.setCell (Below.setCell (Below.setCell (Below.setCell (belows HXB.out HB1.out HXB.out.size) (by simp; omega) _) (by simp; omega) _) (by simp; omega) _) (by simp; omega) _
        have hbXW : Below X.heap.size X W := by
          have hb3 := HB1.out.size
          rw [hW]
          exact Below.setCell (Below.setCell (Below.setCell (Below.setCell (belows HB2.out HB1.out HB2.out.size) (by first | (simp; done) | (simp; omega)) _) (by first | (simp; done) | (simp; omega)) _) (by first | (simp; done) | (simp; omega)) _) (by first | (simp; done) | (simp; omega)) _
        have k00 := HTS.out.1.cell 0
        have k01 := HTS.out.1.cell 1
        have k10 := HTS.out.2.cell 0
        have k11 := HTS.out.2.cell 1
        have HBW := hid hbW
        have HBX := hid hbXW
        clear hW hbW hbXW c00 c01 c10 c11 f00 f01 f10 f11
        go_wp2_with (go_at_call 34; go_loud (refine (HR2.out _ HBW.out).mono ?_; rintro e w3 ⟨rfl, hb3⟩))
        go_ret
        exact ⟨by simp, belows HBX.out hb3 HBX.out.size⟩
      · rw [if_neg hk]
        rw [show (decide (xk = 4) && decide (yk = 4)) = false by by_cases q1 : xk = 4 <;> by_cases q2 : yk = 4 <;> simp_all] at HE
        clear hk HR
        go_enter Tryd.func51, Tryd.ntmps51
        go_upto_region 10 with (first | (go_at_call 50; (with_reducible refine F1.out.mono ?_); rintro e w1 ⟨rfl, rfl⟩) | (go_at_call 50; (with_reducible refine F2.out.mono ?_); rintro e w1 ⟨rfl, rfl⟩) | (go_at_call 64; go_loud (refine (HE.out _).mono ?_; rintro e w1 ⟨rfl, hb1⟩; rw [← HX2.out] at hb1; have HB1 := hid hb1; have z0 := X0.out.below hb1; have z1 := X1.out.below hb1; have c00 := z0.cell 0; have c01 := z0.cell 1; have c10 := z1.cell 0; have c11 := z1.cell 1; have f00 := z0.frozen 0; have f01 := z0.frozen 1; have f10 := z1.frozen 0; have f11 := z1.frozen 1; clear z0 z1)))
        refine region_named fun W hW => ?_
        have hbXW : Below X.heap.size X W := by
          have hb3 := HB1.out.size
          rw [hW]
          exact Below.setCell (Below.setCell (Below.setCell (Below.setCell (belows HB2.out HB1.out HB2.out.size) (by first | (simp; done) | (simp; omega)) _) (by first | (simp; done) | (simp; omega)) _) (by first | (simp; done) | (simp; omega)) _) (by first | (simp; done) | (simp; omega)) _
        have HBX := hid hbXW
        clear hW hbXW c00 c01 c10 c11 f00 f01 f10 f11
        go_wp2
        go_ret
        exact ⟨by simp, HBX.out⟩
end
end Go.Proofs.YtahjnaoabfkpcaaDoor
namespace Go.Proofs.YtahjnaoabfkpcaaDoor
open Go Go.RowKit
open Ty (bl mk br T)
theorem ty_ne {ak bk : Int} {an bn : ByteArray} (h : ¬ (ak = bk ∧ an = bn)) : (ak == bk) = false ∨ (ak = bk ∧ (an.toList == bn.toList) = false) := by
  by_cases e : ak = bk
  · right
    refine ⟨e, ?_⟩
    rw [beq_eq_false_iff_ne, ne_eq, Ty.str_eq, Ty.str_eq]
    intro h2
    exact h ⟨e, Ty.ba_ext h2⟩
  · left
    simpa using e
section
variable {w : World} {pv : Value} {I : ByteArray → Option Nat} {U : Nat → Nat → Bool}
set_option maxRecDepth 100000
set_option maxHeartbeats 2000000
theorem fits_any (h : HQ w pv I U) : ∀ (m : Nat) (a b : T), a.n.size ≤ maxLen → b.n.size ≤ maxLen → a.n.size < m → ∀ X, Below w.heap.size w X → Calls Tryd.prog 34 #[pv, tyA a, tyA b] X fun e w' => e = .returned (.bool (Ty.fitF I U m a b)) ∧ Below X.heap.size X w'
  | 0, _, _, _, _, hm, _, _ => by omega
  | m + 1, a, b, ha, hb, hm, X, hX => by
    have HR := hid (fun X hX => refFits_any h (a := a) (b := b) (fit := Ty.fitF I U m) ha hb (fun X hX h1 h2 => fits_any h m (Ty.elP a) (Ty.elP b) (Nat.le_trans (Ty.elP_size a) ha) (Nat.le_trans (Ty.elP_size b) hb) (by have := Ty.elP_lt h1; omega) X hX) X hX)
    unfold Ty.fitF
    obtain ⟨R, hR⟩ : ∃ R, Ty.refF I U (Ty.fitF I U m) a b = R := ⟨_, rfl⟩
    rw [hR] at HR ⊢
    obtain ⟨ak, an⟩ := a
    obtain ⟨bk, bn⟩ := b
    unfold tyA at HR ⊢
    dsimp only at HR ⊢
    clear hR ha hb hm h
    by_cases hb0 : bk = 0
    · subst hb0
      rw [if_pos (.inl rfl)]
      go_enter Tryd.func34, Tryd.ntmps34
      go_wp2
      go_ret
      exact ⟨rfl, (by repeat' first | with_reducible exact Below.refl _ _ | with_reducible assumption | with_reducible refine belows_drewN ?_ _ | with_reducible refine Below.drew ?_ | with_reducible refine Below.setCell ?_ ?_ _ | with_reducible refine Below.alloc ?_ ?_ _ | omega | (simp; done) | (simp; omega))⟩
    · have q0 : (bk == 0) = false := by simpa using hb0
      by_cases hab : ak = bk ∧ an = bn
      · rw [if_pos (.inr hab)]
        obtain ⟨rfl, rfl⟩ := hab
        go_enter Tryd.func34, Tryd.ntmps34
        go_wp2
        go_ret
        exact ⟨rfl, (by repeat' first | with_reducible exact Below.refl _ _ | with_reducible assumption | with_reducible refine belows_drewN ?_ _ | with_reducible refine Below.drew ?_ | with_reducible refine Below.setCell ?_ ?_ _ | with_reducible refine Below.alloc ?_ ?_ _ | omega | (simp; done) | (simp; omega))⟩
      · rw [if_neg (by rintro (h | h); exact hb0 h; exact hab h)]
        by_cases hb4 : bk = 4
        · subst hb4
          rw [if_neg (fun h => h rfl)]
          by_cases ha3 : ak = 3
          · subst ha3
            rw [if_pos rfl]
            go_enter Tryd.func34, Tryd.ntmps34
            go_wp2
            go_ret
            exact ⟨rfl, (by repeat' first | with_reducible exact Below.refl _ _ | with_reducible assumption | with_reducible refine belows_drewN ?_ _ | with_reducible refine Below.drew ?_ | with_reducible refine Below.setCell ?_ ?_ _ | with_reducible refine Below.alloc ?_ ?_ _ | omega | (simp; done) | (simp; omega))⟩
          · rw [if_neg ha3]
            have q3 : (ak == 3) = false := by simpa using ha3
            by_cases ha4 : ak = 4
            · subst ha4
              rw [if_pos rfl]
              have hne : (an.toList == bn.toList) = false := by
                rcases ty_ne hab with h | h
                · simp at h
                · exact h.2
              have hne2 : ¬ an = bn := fun e => hab ⟨rfl, e⟩
              clear hab
              go_enter Tryd.func34, Tryd.ntmps34
              go_wp2_with (go_at_call 51; go_loud (refine (HR.out _ (belows hX (by repeat' first | with_reducible exact Below.refl _ _ | with_reducible assumption | with_reducible refine belows_drewN ?_ _ | with_reducible refine Below.drew ?_ | with_reducible refine Below.setCell ?_ ?_ _ | with_reducible refine Below.alloc ?_ ?_ _ | omega | (simp; done) | (simp; omega)) hX.size)).mono ?_; rintro e w1 ⟨rfl, hb1⟩))
              go_ret
              exact ⟨by simp, belows (a := X) (by repeat' first | with_reducible exact Below.refl _ _ | with_reducible assumption | with_reducible refine belows_drewN ?_ _ | with_reducible refine Below.drew ?_ | with_reducible refine Below.setCell ?_ ?_ _ | with_reducible refine Below.alloc ?_ ?_ _ | omega | (simp; done) | (simp; omega)) hb1 (by simp; omega)⟩
            · rw [if_neg ha4]
              have q4 : (ak == 4) = false := by simpa using ha4
              clear hab
              go_enter Tryd.func34, Tryd.ntmps34
              go_wp2
              go_ret
              exact ⟨rfl, (by repeat' first | with_reducible exact Below.refl _ _ | with_reducible assumption | with_reducible refine belows_drewN ?_ _ | with_reducible refine Below.drew ?_ | with_reducible refine Below.setCell ?_ ?_ _ | with_reducible refine Below.alloc ?_ ?_ _ | omega | (simp; done) | (simp; omega))⟩
        · rw [if_pos hb4]
          have q4 : (bk != 4) = true := by simpa using hb4
          rcases ty_ne hab with h | ⟨rfl, h⟩
          · clear hab
            go_enter Tryd.func34, Tryd.ntmps34
            go_wp2
            go_ret
            exact ⟨rfl, (by repeat' first | with_reducible exact Below.refl _ _ | with_reducible assumption | with_reducible refine belows_drewN ?_ _ | with_reducible refine Below.drew ?_ | with_reducible refine Below.setCell ?_ ?_ _ | with_reducible refine Below.alloc ?_ ?_ _ | omega | (simp; done) | (simp; omega))⟩
          · have hne2 : ¬ an = bn := fun e => hab ⟨rfl, e⟩
            clear hab
            go_enter Tryd.func34, Tryd.ntmps34
            go_wp2
            go_ret
            exact ⟨rfl, (by repeat' first | with_reducible exact Below.refl _ _ | with_reducible assumption | with_reducible refine belows_drewN ?_ _ | with_reducible refine Below.drew ?_ | with_reducible refine Below.setCell ?_ ?_ _ | with_reducible refine Below.alloc ?_ ?_ _ | omega | (simp; done) | (simp; omega))⟩
/-- What Fits answers. -/
def Ty.Fit (I : ByteArray → Option Nat) (U : Nat → Nat → Bool) (a b : T) : Bool := Ty.val I a && Ty.val I b && Ty.fit I U a b
theorem Fits_any (h : HQ w pv I U) {a b : T} (ha : a.n.size ≤ maxLen) (hb : b.n.size ≤ maxLen) (X : World) (hX : Below w.heap.size w X) : Calls Tryd.prog 18 #[pv, tyA a, tyA b] X fun e w' => e = .returned (.bool (Ty.Fit I U a b)) ∧ Below X.heap.size X w' := by
  have H1 := hid (fun W (hW : Below X.heap.size X W) => valid_any h.find ha (belows hX hW hX.size))
  have H2 := hid (fun W (hW : Below X.heap.size X W) => valid_any h.find hb (belows hX hW hX.size))
  have H3 := hid (fun W (hW : Below X.heap.size X W) => fits_any h (a.n.size + 1) a b ha hb (by omega) W (belows hX hW hX.size))
  unfold Ty.Fit
  rw [show Ty.fitF I U (a.n.size + 1) a b = Ty.fit I U a b from rfl] at H3
  obtain ⟨b1, hb1⟩ : ∃ c, Ty.val I a = c := ⟨_, rfl⟩
  obtain ⟨b2, hb2⟩ : ∃ c, Ty.val I b = c := ⟨_, rfl⟩
  obtain ⟨b3, hb3⟩ : ∃ c, Ty.fit I U a b = c := ⟨_, rfl⟩
  rw [hb1] at H1 ⊢
  rw [hb2] at H2 ⊢
  rw [hb3] at H3 ⊢
  clear hb1 hb2 hb3
  have HBA := hid (BX.new X #[.int .i64 a.k, .string a.n] 23)
  have HBB := hid (BX.new (X.alloc (.cells #[.int .i64 a.k, .string a.n] 23)) #[.int .i64 b.k, .string b.n] 23)
  obtain ⟨ak, an⟩ := a
  obtain ⟨bk, bn⟩ := b
  unfold tyA at H1 H2 H3 ⊢
  dsimp only at H1 H2 H3 HBA HBB ⊢
  have HA2 : Hid (BX ((X.alloc (.cells #[.int .i64 ak, .string an] 23)).alloc (.cells #[.int .i64 bk, .string bn] 23)) X.heap.size #[.int .i64 ak, .string an] 23) := HBA.out.below ((Below.refl _ _).alloc (Nat.le_refl _) _)
  have hs : (X.alloc (.cells #[.int .i64 ak, .string an] 23)).heap.size = X.heap.size + 1 := by simp
  rw [hs] at HBB
  clear ha hb h HBA hs
  obtain ⟨X2, hX2⟩ : ∃ X2, X2 = ((X.alloc (.cells #[.int .i64 ak, .string an] 23)).alloc (.cells #[.int .i64 bk, .string bn] 23)) := ⟨_, rfl⟩
  have hb2 : Below X.heap.size X X2 := by rw [hX2]; exact (by repeat' first | with_reducible exact Below.refl _ _ | with_reducible assumption | with_reducible refine belows_drewN ?_ _ | with_reducible refine Below.drew ?_ | with_reducible refine Below.setCell ?_ ?_ _ | with_reducible refine Below.alloc ?_ ?_ _ | omega | (simp; done) | (simp; omega))
  rw [← hX2] at HA2 HBB
  have HX2 := hid hX2
  have HB2 := hid hb2
  clear hX2 hb2
  cases b1 <;> cases b2 <;>
  · go_enter Tryd.func18, Tryd.ntmps18
    go_upto_region 1 with fail
    rw [← HX2.out]
    obtain ⟨c0, c1⟩ : X2.cell? ⟨X.heap.size, 0, none⟩ = some (.int .i64 ak) ∧ X2.cell? ⟨X.heap.size, 1, none⟩ = some (.string an) := ⟨HA2.out.cell 0, HA2.out.cell 1⟩
    go_wp2_with (first | (go_at_call 17; (fail_if_success (have _g := HV1)); go_loud (refine (H1.out _ HB2.out).mono ?_; rintro e w1 ⟨rfl, hb1⟩; have HV1 := hid hb1; have HW1 := hid (belows HB2.out hb1 HB2.out.size); have d0 := (HBB.out.below hb1).cell 0; have d1 := (HBB.out.below hb1).cell 1; clear hb1)) | (go_at_call 17; have _g := HV1; go_loud (refine (H2.out _ HW1.out).mono ?_; rintro e w2 ⟨rfl, hb2⟩; have HW2 := hid (belows HW1.out hb2 HW1.out.size); have hc := hid (HV1.out.trans (hb2.mono HV1.out.size)); have e0 := (HA2.out.below hc.out).cell 0; have e1 := (HA2.out.below hc.out).cell 1; have e2 := (HBB.out.below hc.out).cell 0; have e3 := (HBB.out.below hc.out).cell 1; clear hb2)) | (go_at_call 34; go_loud (refine (H3.out _ HW2.out).mono ?_; rintro e w3 ⟨rfl, hb3⟩; have HW3 := hid (belows HW2.out hb3 HW2.out.size); clear hb3)))
    go_ret
    exact ⟨by simp, by first | exact HW3.out | exact HW2.out | exact HW1.out⟩
end
end Go.Proofs.YtahjnaoabfkpcaaDoor
namespace Go.Proofs.YtahjnaoabfkpcaaDoor
open Go Go.RowKit
open Ty (bl mk br T)
/-- A hierarchy that can be asked what two have in common. -/
structure HJ (w : World) (pv : Value) (I : ByteArray → Option Nat) (cm : Nat → Nat → Nat) (nm : Nat → ByteArray) : Prop where
  find : FindH w pv I
  common : ∀ X, Below w.heap.size w X → ∀ (s t : ByteArray) (x y : Nat), I s = some x → I t = some y → Calls Tryd.prog 66 #[pv, .int .i64 (x : Int), .int .i64 (y : Int)] X fun e w' => e = .returned (.int .i64 (cm x y : Int)) ∧ Below X.heap.size X w'
  name : ∀ X, Below w.heap.size w X → ∀ (s t : ByteArray) (x y : Nat), I s = some x → I t = some y → Calls Tryd.prog 65 #[pv, .int .i64 (cm x y : Int)] X fun e w' => e = .returned (.string (nm (cm x y))) ∧ X = w'
theorem HM.hj {w : World} {base : Nat} {H : HV} {P D : Nat → Nat} (h : HM w base H) (ok : HOk H P D) : HJ w (.pointer (some ⟨H.hb, 0, none⟩)) (fun s => Hi.idx s H.names) (Hi.cm P D) H.nm := by
  have hn : H.names.length = H.n := by simp [HV.names]
  refine ⟨h.find, fun X hX s t x y hx hy => ?_, fun X hX s t x y hx hy => ?_⟩
  · have h1 := Hi.idx_lt hx
    have h2 := Hi.idx_lt hy
    have := Common_any (h.below hX) ok (x : Int) (y : Int)
    unfold HV.commonO at this
    rw [isC_nat (by omega), isC_nat (by omega), Bool.true_and, if_pos rfl, Int.toNat_natCast, Int.toNat_natCast] at this
    refine this.mono ?_
    rintro e w' ⟨rfl, m, rfl⟩
    exact ⟨rfl, below_drewN _ _⟩
  · have h1 := Hi.idx_lt hx
    have h2 := Hi.idx_lt hy
    have h3 := (ok.tr.cm_ok (a := x) (b := y) (by omega) (by omega)).2.2.1
    have := Name_any (h.below hX) (Hi.cm P D x y : Int)
    unfold HV.nameO at this
    rw [isC_nat h3, if_pos rfl, Int.toNat_natCast] at this
    refine this.mono ?_
    rintro e w' ⟨rfl, h⟩
    exact ⟨rfl, h⟩
/-- The boxes of two types and of the result. -/
theorem boxes3 (w : World) (a0 a1 b0 b1 : Value) : ∃ W, W = ((w.alloc (.cells #[a0, a1] 23)).alloc (.cells #[b0, b1] 23)).alloc (.cells #[.int .i64 0, .string ⟨#[]⟩] 23) ∧ Below w.heap.size w W ∧ W.heap.size = w.heap.size + 3 ∧ BX W w.heap.size #[a0, a1] 23 ∧ BX W (w.heap.size + 1) #[b0, b1] 23 ∧ BX W (w.heap.size + 1 + 1) #[.int .i64 0, .string ⟨#[]⟩] 23 := by
  refine ⟨_, rfl, (by repeat' first | with_reducible exact Below.refl _ _ | with_reducible assumption | with_reducible refine belows_drewN ?_ _ | with_reducible refine Below.drew ?_ | with_reducible refine Below.setCell ?_ ?_ _ | with_reducible refine Below.alloc ?_ ?_ _ | omega | (simp; done) | (simp; omega)), by simp, ?_, ?_, ?_⟩
  · exact ((BX.new w _ _).below ((Below.refl _ _).alloc (Nat.le_refl _) _)).below ((Below.refl _ _).alloc (Nat.le_refl _) _)
  · have := (BX.new (w.alloc (.cells #[a0, a1] 23)) #[b0, b1] 23).below ((Below.refl _ _).alloc (Nat.le_refl _) (.cells #[.int .i64 0, .string ⟨#[]⟩] 23))
    rw [World.size_alloc] at this
    exact this
  · have := BX.new ((w.alloc (.cells #[a0, a1] 23)).alloc (.cells #[b0, b1] 23)) #[.int .i64 0, .string ⟨#[]⟩] 23
    rw [World.size_alloc, World.size_alloc] at this
    exact this
section
variable {w0 : World} {pv : Value} {I : ByteArray → Option Nat} {cm : Nat → Nat → Nat} {nm : Nat → ByteArray}
set_option maxRecDepth 100000
set_option maxHeartbeats 2000000
/-- Of two classes. -/
theorem joinC_any (h : HJ w0 pv I cm nm) {a b : T} {x y : Nat} (ha : a.n.size ≤ maxLen) (hb : b.n.size ≤ maxLen) (hx : I a.n = some x) (hy : I b.n = some y) (w : World) (hw : Below w0.heap.size w0 w) :
    Calls Tryd.prog 52 #[pv, tyA a, tyA b] w fun e w' => e = .returned (tyA ⟨4, nm (cm x y)⟩) ∧ Below w.heap.size w w' := by
  obtain ⟨w3, hw3, hb3, hs3, x0, x1, x2⟩ := boxes3 w (.int .i64 a.k) (.string a.n) (.int .i64 b.k) (.string b.n)
  have hb03 := belows hw hb3 hw.size
  have F1 := h.find w3 hb03 a.n ha
  have F2 := h.find w3 hb03 b.n hb
  rw [hx] at F1
  rw [hy] at F2
  have F1 := hid F1
  have F2 := hid F2
  have HC := hid (h.common w3 hb03 a.n b.n x y hx hy)
  have HN := hid (fun X hX => h.name X hX a.n b.n x y hx hy)
  have HW3 := hid hw3
  have HB3 := hid hb3
  have HB03 := hid hb03
  have X2 := hid x2
  obtain ⟨z, hz⟩ : ∃ z, nm (cm x y) = z := ⟨_, rfl⟩
  obtain ⟨c, hc⟩ : ∃ c, cm x y = c := ⟨_, rfl⟩
  rw [hz] at HN ⊢
  rw [hc] at HC HN
  obtain ⟨ak, an⟩ := a
  obtain ⟨bk, bn⟩ := b
  unfold tyA
  dsimp only at F1 F2 HW3 ⊢
  rw [HW3.out] at F1 F2
  clear hw3 hb3 hb03 x0 x1 x2 hz hc hx hy h ha hb
  go_enter Tryd.func52, Tryd.ntmps52
  go_wp2_with (first | (go_at_call 50; (with_reducible refine F1.out.mono ?_); rintro e w1 ⟨rfl, rfl⟩) | (go_at_call 50; (with_reducible refine F2.out.mono ?_); rintro e w1 ⟨rfl, rfl⟩) | (go_at_call 66; rw [← HW3.out]; go_loud (refine HC.out.mono ?_; rintro e w4 ⟨rfl, hb4⟩; have HB4 := hid hb4; have X24 := hid (X2.out.below hb4); clear hb4)) | (go_at_call 65; go_loud (refine (HN.out _ (belows HB03.out HB4.out HB03.out.size)).mono ?_; rintro e w1 ⟨rfl, rfl⟩)) | (go_at_call 25; go_loud (refine (reference_any _ _).mono ?_; rintro e w5 ⟨rfl, hb5⟩; have HB5 := hid hb5; have X25 := hid (X24.out.below hb5); have k60 := X25.out.cell 0; have k61 := X25.out.cell 1; have f60 := X25.out.frozen 0; have f61 := X25.out.frozen 1; have hz5 : w.heap.size + 1 + 1 < w5.heap.size := X25.out.sz; clear hb5)))
  have hb5 : Below w.heap.size w w5 := belows (belows HB3.out HB4.out HB3.out.size) HB5.out (belows HB3.out HB4.out HB3.out.size).size
  exact bodyPost_ret (v := .agg #[.int .i64 4, .string z]) (by simp [results, Tryd.results52, go_sem, k60, k61]) rfl ⟨rfl, (by repeat' first | with_reducible exact Below.refl _ _ | with_reducible assumption | with_reducible refine belows_drewN ?_ _ | with_reducible refine Below.drew ?_ | with_reducible refine Below.setCell ?_ ?_ _ | with_reducible refine Below.alloc ?_ ?_ _ | omega | (simp; done) | (simp; omega))⟩
/-- Of two references, whatever joinRefs answers. -/
theorem join4_any {a b t : T} (hab : ¬ a.n = b.n) (ha : a.k = 4) (hb : b.k = 4) (hR : ∀ X, Below w0.heap.size w0 X → Calls Tryd.prog 52 #[pv, tyA a, tyA b] X fun e w' => e = .returned (tyA t) ∧ Below X.heap.size X w') (w : World) (hw : Below w0.heap.size w0 w) :
    Calls Tryd.prog 35 #[pv, tyA a, tyA b] w fun e w' => e = .returned (tyA t) ∧ Below w.heap.size w w' := by
  obtain ⟨w3, hw3, hb3, hs3, x0, x1, x2⟩ := boxes3 w (.int .i64 a.k) (.string a.n) (.int .i64 b.k) (.string b.n)
  have HR := hid (hR w3 (belows hw hb3 hw.size))
  have HW3 := hid hw3
  have HB3 := hid hb3
  have X2 := hid x2
  have hne : (a.n.toList == b.n.toList) = false := by
    rw [beq_eq_false_iff_ne, ne_eq, Ty.str_eq, Ty.str_eq]
    exact fun h => hab (Ty.ba_ext h)
  obtain ⟨ak, an⟩ := a
  obtain ⟨bk, bn⟩ := b
  obtain ⟨tk, tn⟩ := t
  dsimp only at ha hb hne hab
  subst ha hb
  unfold tyA at HR ⊢
  dsimp only at HR HW3 ⊢
  clear hw3 hb3 x0 x1 x2 hR hw
  go_enter Tryd.func35, Tryd.ntmps35
  go_wp2_with (go_at_call 52; rw [← HW3.out]; go_loud (refine HR.out.mono ?_; rintro e w4 ⟨rfl, hb4⟩; have HB4 := hid hb4; have X24 := hid (X2.out.below hb4); have k60 := X24.out.cell 0; have k61 := X24.out.cell 1; have f60 := X24.out.frozen 0; have f61 := X24.out.frozen 1; have hz4 : w.heap.size + 1 + 1 < w4.heap.size := X24.out.sz; clear hb4))
  have hb4 : Below w.heap.size w w4 := belows HB3.out HB4.out HB3.out.size
  exact bodyPost_ret (v := .agg #[.int .i64 tk, .string tn]) (by simp [results, Tryd.results35, go_sem, k60, k61]) rfl ⟨rfl, (by repeat' first | with_reducible exact Below.refl _ _ | with_reducible assumption | with_reducible refine belows_drewN ?_ _ | with_reducible refine Below.drew ?_ | with_reducible refine Below.setCell ?_ ?_ _ | with_reducible refine Below.alloc ?_ ?_ _ | omega | (simp; done) | (simp; omega))⟩
/-- Of two arrays of references. -/
theorem joinA_any (h : FindH w0 pv I) {a b j : T} (ha : a.n.size ≤ maxLen) (hb : b.n.size ≤ maxLen) (hx : I a.n = none) (hy : I b.n = none) (h1 : (Ty.elP a).k = 4) (h2 : (Ty.elP b).k = 4) (hjn : j.n.size ≤ 140737488351232)
    (hJ : ∀ X, Below w0.heap.size w0 X → Calls Tryd.prog 35 #[pv, tyA (Ty.elP a), tyA (Ty.elP b)] X fun e w' => e = .returned (tyA j) ∧ Below X.heap.size X w') (w : World) (hw : Below w0.heap.size w0 w) :
    Calls Tryd.prog 52 #[pv, tyA a, tyA b] w fun e w' => e = .returned (tyA (Ty.arP j)) ∧ Below w.heap.size w w' := by
  obtain ⟨w3, hw3, hb3, hs3, x0, x1, x2⟩ := boxes3 w (.int .i64 a.k) (.string a.n) (.int .i64 b.k) (.string b.n)
  have hb03 := belows hw hb3 hw.size
  have F1 := h w3 hb03 a.n ha
  have F2 := h w3 hb03 b.n hb
  rw [hx] at F1
  rw [hy] at F2
  have F1 := hid F1
  have F2 := hid F2
  have HE := hid (elements_any a b ha hb w3)
  rw [decide_eq_true h1, decide_eq_true h2, Bool.true_and] at HE
  have HA := hid (fun W => array_any j hjn W)
  unfold tyO at HA
  rw [show (Ty.ar j).getD Ty.top = Ty.arP j from rfl] at HA
  have HJ := hid hJ
  have HW3 := hid hw3
  have HB3 := hid hb3
  have HB03 := hid hb03
  have X2 := hid x2
  obtain ⟨⟨uk, un⟩, hu⟩ : ∃ u, Ty.elP a = u := ⟨_, rfl⟩
  obtain ⟨⟨vk, vn⟩, hv⟩ : ∃ u, Ty.elP b = u := ⟨_, rfl⟩
  obtain ⟨⟨qk, qn⟩, hq⟩ : ∃ u, Ty.arP j = u := ⟨_, rfl⟩
  obtain ⟨g, hg⟩ : ∃ g, (Ty.ar j).isSome = g := ⟨_, rfl⟩
  rw [hu, hv] at HE HJ
  rw [hq, hg] at HA
  rw [hq]
  obtain ⟨ak, an⟩ := a
  obtain ⟨bk, bn⟩ := b
  obtain ⟨jk, jn⟩ := j
  unfold tyA at HE HJ HA ⊢
  dsimp only at F1 F2 HW3 HE HJ HA ⊢
  rw [HW3.out] at F1 F2
  clear hw3 hb3 hb03 x0 x1 x2 hx hy h ha hb h1 h2 hJ hu hv hq hg hjn
  go_enter Tryd.func52, Tryd.ntmps52
  go_upto_region 8 with (first | (go_at_call 50; (with_reducible refine F1.out.mono ?_); rintro e w1 ⟨rfl, rfl⟩) | (go_at_call 50; (with_reducible refine F2.out.mono ?_); rintro e w1 ⟨rfl, rfl⟩) | (go_at_call 64; rw [← HW3.out]; go_loud (refine HE.out.mono ?_; rintro e w4 ⟨rfl, hb4⟩; have HB4 := hid hb4; clear hb4)))
  refine region_named fun W hW => ?_
  have hWb : Below w4.heap.size w4 W := by rw [hW]; exact (by repeat' first | with_reducible exact Below.refl _ _ | with_reducible assumption | with_reducible refine belows_drewN ?_ _ | with_reducible refine Below.drew ?_ | with_reducible refine Below.setCell ?_ ?_ _ | with_reducible refine Below.alloc ?_ ?_ _ | omega | (simp; done) | (simp; omega))
  have hWs : W.heap.size = w4.heap.size + 2 := by rw [hW]; simp
  have y0 : BX W w4.heap.size #[.int .i64 uk, .string un] 23 := by
    rw [hW]
    exact (BX.new w4 _ _).below ((Below.refl _ _).alloc (Nat.le_refl _) _)
  have y1 : BX W (w4.heap.size + 1) #[.int .i64 vk, .string vn] 23 := by
    have := BX.new (w4.alloc (.cells #[.int .i64 uk, .string un] 23)) #[.int .i64 vk, .string vn] 23
    rw [← hW, World.size_alloc] at this
    exact this
  have c0 := y0.cell 0
  have c1 := y0.cell 1
  have c2 := y1.cell 0
  have c3 := y1.cell 1
  have hb04W : Below w0.heap.size w0 W := belows (belows HB03.out HB4.out HB03.out.size) hWb (belows HB03.out HB4.out HB03.out.size).size
  have hbwW : Below w.heap.size w W := belows (belows HB3.out HB4.out HB3.out.size) hWb (belows HB3.out HB4.out HB3.out.size).size
  have X2W := hid ((X2.out.below HB4.out).below hWb)
  have HW0 := hid hb04W
  have HWw := hid hbwW
  clear hW hWb hWs y0 y1 hb04W hbwW
  go_upto_region 9 with (first | (go_at_call 35; go_loud (refine (HJ.out _ HW0.out).mono ?_; rintro e w5 ⟨rfl, hb5⟩; have HB5 := hid hb5; clear hb5)) | (go_at_call 9; go_loud (refine (HA.out _).mono ?_; rintro e w6 ⟨rfl, hb6⟩; have HB6 := hid hb6; clear hb6)))
  refine region_named fun V hV => ?_
  have hVb : Below w6.heap.size w6 V := by rw [hV]; exact (by repeat' first | with_reducible exact Below.refl _ _ | with_reducible assumption | with_reducible refine belows_drewN ?_ _ | with_reducible refine Below.drew ?_ | with_reducible refine Below.setCell ?_ ?_ _ | with_reducible refine Below.alloc ?_ ?_ _ | omega | (simp; done) | (simp; omega))
  have y0 : BX V w6.heap.size #[.int .i64 qk, .string qn] 23 := by rw [hV]; exact BX.new w6 _ _
  have hwV : Below W.heap.size W V := belows (belows HB5.out HB6.out HB5.out.size) hVb (belows HB5.out HB6.out HB5.out.size).size
  have X2V := X2W.out.below hwV
  have c4 := y0.cell 0
  have c5 := y0.cell 1
  have k60 := X2V.cell 0
  have k61 := X2V.cell 1
  have f60 := X2V.frozen 0
  have f61 := X2V.frozen 1
  have hzV : w.heap.size + 1 + 1 < V.heap.size := X2V.sz
  have hbwV : Below w.heap.size w V := belows HWw.out hwV HWw.out.size
  clear hV hVb y0 hwV X2V c0 c1 c2 c3
  go_wp2
  exact bodyPost_ret (v := .agg #[.int .i64 qk, .string qn]) (by simp [results, Tryd.results52, go_sem, k60, k61]) rfl ⟨rfl, (by repeat' first | with_reducible exact Below.refl _ _ | with_reducible assumption | with_reducible refine belows_drewN ?_ _ | with_reducible refine Below.drew ?_ | with_reducible refine Below.setCell ?_ ?_ _ | with_reducible refine Below.alloc ?_ ?_ _ | omega | (simp; done) | (simp; omega))⟩
/-- Join, of two that may be, whatever join answers. -/
theorem Join_any (h : FindH w0 pv I) {a b t : T} (ha : a.n.size ≤ maxLen) (hb : b.n.size ≤ maxLen) (h1 : Ty.val I a = true) (h2 : Ty.val I b = true) (hJ : ∀ X, Below w0.heap.size w0 X → Calls Tryd.prog 35 #[pv, tyA a, tyA b] X fun e w' => e = .returned (tyA t) ∧ Below X.heap.size X w') (w : World) (hw : Below w0.heap.size w0 w) :
    Calls Tryd.prog 19 #[pv, tyA a, tyA b] w fun e w' => e = .returned (tyA t) ∧ Below w.heap.size w w' := by
  obtain ⟨w3, hw3, hb3, hs3, x0, x1, x2⟩ := boxes3 w (.int .i64 a.k) (.string a.n) (.int .i64 b.k) (.string b.n)
  have hb03 := belows hw hb3 hw.size
  have V1 := valid_any h ha hb03
  rw [h1] at V1
  have V1 := hid V1
  have V2 := hid (fun X (hX : Below w3.heap.size w3 X) => valid_any h hb (belows hb03 hX hb03.size))
  rw [h2] at V2
  have HR := hid (fun X (hX : Below w3.heap.size w3 X) => hJ X (belows hb03 hX hb03.size))
  have HW3 := hid hw3
  have HB3 := hid hb3
  have X0 := hid x0
  have X1 := hid x1
  have X2 := hid x2
  obtain ⟨ak, an⟩ := a
  obtain ⟨bk, bn⟩ := b
  obtain ⟨tk, tn⟩ := t
  unfold tyA at HR V1 V2 ⊢
  dsimp only at HR HW3 V1 V2 X0 X1 ⊢
  clear hw3 hb3 hb03 x0 x1 x2 hJ hw h ha hb h1 h2
  have hc : (ak = bk ∧ an = bn) ∨ (¬ ak = bk) ∨ (ak = bk ∧ (an.toList == bn.toList) = false) := by
    by_cases e : ak = bk
    · by_cases e2 : an = bn
      · exact .inl ⟨e, e2⟩
      · refine .inr (.inr ⟨e, ?_⟩)
        rw [beq_eq_false_iff_ne, ne_eq, Ty.str_eq, Ty.str_eq]
        exact fun h => e2 (Ty.ba_ext h)
    · exact .inr (.inl e)
  rcases hc with ⟨rfl, rfl⟩ | hne | ⟨rfl, hne⟩
  all_goals
    go_enter Tryd.func19, Tryd.ntmps19
    go_wp2_with (first | (go_at_call 17; (fail_if_success (have _g := HV1)); rw [← HW3.out]; go_loud (refine V1.out.mono ?_; rintro e w4 ⟨rfl, hb4⟩; have HV1 := hid hb4; have HVx := hid hb4; have e0 := (X0.out.below hb4).cell 0; have e1 := (X0.out.below hb4).cell 1; have e2 := (X1.out.below hb4).cell 0; have e3 := (X1.out.below hb4).cell 1; clear hb4)) | (go_at_call 17; have _g := HV1; go_loud (refine (V2.out _ HV1.out).mono ?_; rintro e w5 ⟨rfl, hb5⟩; have HVx := hid (belows HV1.out hb5 HV1.out.size); clear e0 e1 e2 e3; have e0 := (X0.out.below HVx.out).cell 0; have e1 := (X0.out.below HVx.out).cell 1; have e2 := (X1.out.below HVx.out).cell 0; have e3 := (X1.out.below HVx.out).cell 1; clear hb5)) | (go_at_call 35; go_loud (refine (HR.out _ HVx.out).mono ?_; rintro e w6 ⟨rfl, hb6⟩; have HV3 := hid (belows HVx.out hb6 HVx.out.size); have k60 := (X2.out.below HV3.out).cell 0; have k61 := (X2.out.below HV3.out).cell 1; have f60 := (X2.out.below HV3.out).frozen 0; have f61 := (X2.out.below HV3.out).frozen 1; have hz6 : w.heap.size + 1 + 1 < w6.heap.size := (X2.out.below HV3.out).sz; clear hb6)))
    have hb6 : Below w.heap.size w w6 := belows HB3.out HV3.out HB3.out.size
    exact bodyPost_ret (v := .agg #[.int .i64 tk, .string tn]) (by simp [results, Tryd.results19, go_sem, k60, k61]) rfl ⟨rfl, (by repeat' first | with_reducible exact Below.refl _ _ | with_reducible assumption | with_reducible refine belows_drewN ?_ _ | with_reducible refine Below.drew ?_ | with_reducible refine Below.setCell ?_ ?_ _ | with_reducible refine Below.alloc ?_ ?_ _ | omega | (simp; done) | (simp; omega))⟩
end
end Go.Proofs.YtahjnaoabfkpcaaDoor

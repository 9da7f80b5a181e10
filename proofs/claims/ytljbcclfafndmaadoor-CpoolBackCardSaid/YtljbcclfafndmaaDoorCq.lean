/- Contract of the document's Take. -/
import Derived.Test.YtljbcclfafndmaaDoorCp
namespace Go.Proofs.YtljbcclfafndmaaDoor
open Go.RowKit

theorem tk_short {bs : List UInt8} (h : bs.length < 2) : tkOut bs = ([], 0, 30) := by
  unfold tkOut plP; rw [if_pos h]
theorem tk_long {bs : List UInt8} (h : ¬ bs.length < 2) (h2 : 4096 < Cp.numI (bs.take 2)) : tkOut bs = ([], 0, 3) := by
  unfold tkOut plP; rw [if_neg h, if_pos h2]
theorem tk_none {bs : List UInt8} (h : ¬ bs.length < 2) (h2 : Cp.numI (bs.take 2) = 0) : tkOut bs = ([], 2, 0) := by
  unfold tkOut plP
  rw [if_neg h, h2, if_neg (by decide), if_pos rfl]
  dsimp only
  rw [List.length_drop, show ((bs.length : Int) - ((bs.length - 2 : Nat) : Int)) = 2 by omega]
/-- What Take answers, of what the loop comes to. -/
def tkO (n : Nat) (x : Except Int (List Cp.C × List UInt8)) : List Cp.C × Int × Int := match x with
  | .error er => ([], 0, er)
  | .ok (l, r) => (l, (n : Int) - (r.length : Int), 0)
theorem tk_loop {bs : List UInt8} {n : Nat} (h : ¬ bs.length < 2) (hn : Cp.numI (bs.take 2) = n) (h1 : 1 ≤ n) (h2 : n ≤ 4096) : tkOut bs = tkO bs.length (plGo n n [Cp.C0] (bs.drop 2)) := by
  unfold tkOut plP
  rw [if_neg h, hn, if_neg (by omega), if_neg (by omega), show ((n : Int)).toNat = n by omega]
  rfl
set_option maxRecDepth 100000 in
set_option maxHeartbeats 400000 in
theorem rtake_small (bs : List UInt8) (v : Value) (w : World) (hv : Bs w.heap.size w v bs) (hn : bs.length < 2 ∨ 4096 < Cp.numI (bs.take 2) ∨ Cp.numI (bs.take 2) = 0) :
    Calls Tryd.prog 11 #[v] w (TkPost (tkOut bs) w) := by
  unfold TkPost
  have hbl := hv.1
  by_cases h2 : bs.length < 2
  · rw [tk_short h2]
    obtain ⟨a, cap, rfl⟩ := hv.len
    have hd : decide ((bs.length : Int) < 2) = true := by simp; omega
    clear hv hn h2
    go_enter Tryd.func11, Tryd.ntmps11
    go_wp2
    exact bodyPost_ret (v := .tuple #[.slice none 0 0, .int .i64 0, .int .i64 30]) (by simp [results, Tryd.results11, go_sem]) rfl ⟨_, rfl, nilC _ _, (by repeat' first | with_reducible exact Below.refl _ _ | with_reducible assumption | with_reducible refine belows_drewN ?_ _ | with_reducible refine Below.drew ?_ | with_reducible refine Below.setCell ?_ ?_ _ | with_reducible refine Below.alloc ?_ ?_ _ | omega | (simp; done) | (simp; omega))⟩
  · obtain ⟨a, cap, rfl⟩ := hv.len
    obtain ⟨c, hc⟩ : ∃ c, bs[0]? = some c := ⟨bs[0]'(by omega), List.getElem?_eq_getElem _⟩
    obtain ⟨b, o, rfl, hb, hcell⟩ := hv.at hc
    have hsub := sub_bs hv (i := 0) (j := 2) (by omega) (by omega)
    simp only [Nat.add_zero, Nat.sub_zero, List.drop_zero] at hsub
    have HG := hid (fun W (h : Below w.heap.size w W) => get_any w.heap.size (bs.take 2) _ W (hsub.below h (Nat.le_refl _)))
    have hcap : bs.length ≤ cap := by
      rcases hv.2 with ⟨rfl, -⟩ | ⟨b', o', cap', h, hc, -⟩
      · simp at h2
      · obtain ⟨-, -, rfl⟩ := Value.slice.inj h; exact hc
    have hd : decide ((bs.length : Int) < 2) = false := by simp; omega
    have hc2 : (2 : Int) ≤ (cap : Int) := by omega
    have hn2 := hn.resolve_left h2
    by_cases hbig : 4096 < Cp.numI (bs.take 2)
    · rw [tk_long h2 hbig]
      obtain ⟨z, hz⟩ : ∃ z, z = Cp.numI (bs.take 2) := ⟨_, rfl⟩
      rw [← hz] at HG hbig
      have hd2 : decide (4096 < z) = true := by simpa using hbig
      clear hv hn hn2 h2 hc hcell hsub hcap hz hbig
      go_enter Tryd.func11, Tryd.ntmps11
      go_wp2_with (go_at_call 36; refine (HG.out _ (by repeat' first | with_reducible exact Below.refl _ _ | with_reducible assumption | with_reducible refine belows_drewN ?_ _ | with_reducible refine Below.drew ?_ | with_reducible refine Below.setCell ?_ ?_ _ | with_reducible refine Below.alloc ?_ ?_ _ | omega | (simp; done) | (simp; omega))).mono ?_; rintro e w1 ⟨rfl, rfl⟩)
      exact bodyPost_ret (v := .tuple #[.slice none 0 0, .int .i64 0, .int .i64 3]) (by simp [results, Tryd.results11, go_sem]) rfl ⟨_, rfl, nilC _ _, (by repeat' first | with_reducible exact Below.refl _ _ | with_reducible assumption | with_reducible refine belows_drewN ?_ _ | with_reducible refine Below.drew ?_ | with_reducible refine Below.setCell ?_ ?_ _ | with_reducible refine Below.alloc ?_ ?_ _ | omega | (simp; done) | (simp; omega))⟩
    · have h0 := hn2.resolve_left hbig
      rw [tk_none h2 h0]
      rw [h0] at HG
      clear hv hn hn2 h2 hc hcell hsub hcap hbig h0
      go_enter Tryd.func11, Tryd.ntmps11
      go_wp2_with (go_at_call 36; refine (HG.out _ (by repeat' first | with_reducible exact Below.refl _ _ | with_reducible assumption | with_reducible refine belows_drewN ?_ _ | with_reducible refine Below.drew ?_ | with_reducible refine Below.setCell ?_ ?_ _ | with_reducible refine Below.alloc ?_ ?_ _ | omega | (simp; done) | (simp; omega))).mono ?_; rintro e w1 ⟨rfl, rfl⟩)
      exact bodyPost_ret (v := .tuple #[.slice none 0 0, .int .i64 2, .int .i64 0]) (by simp [results, Tryd.results11, go_sem]) rfl ⟨_, rfl, nilC _ _, (by repeat' first | with_reducible exact Below.refl _ _ | with_reducible assumption | with_reducible refine belows_drewN ?_ _ | with_reducible refine Below.drew ?_ | with_reducible refine Below.setCell ?_ ?_ _ | with_reducible refine Below.alloc ?_ ?_ _ | omega | (simp; done) | (simp; omega))⟩
set_option maxRecDepth 100000 in
set_option maxHeartbeats 400000 in
theorem rtake_loop (bs : List UInt8) (n : Nat) (v : Value) (w : World) (hv : Bs w.heap.size w v bs) (h2 : ¬ bs.length < 2) (hn : Cp.numI (bs.take 2) = n) (h1 : 1 ≤ n) (hn2 : n ≤ 4096) :
    Calls Tryd.prog 11 #[v] w (TkPost (tkO bs.length (plGo n n [Cp.C0] (bs.drop 2))) w) := by
  unfold TkPost
  have hbl := hv.1
  obtain ⟨a, cap, rfl⟩ := hv.len
  obtain ⟨c, hc⟩ : ∃ c, bs[0]? = some c := ⟨bs[0]'(by omega), List.getElem?_eq_getElem _⟩
  obtain ⟨b, o, rfl, hb, hcell⟩ := hv.at hc
  have hsub := sub_bs hv (i := 0) (j := 2) (by omega) (by omega)
  simp only [Nat.add_zero, Nat.sub_zero, List.drop_zero] at hsub
  have HG0 := fun W (h : Below w.heap.size w W) => get_any w.heap.size (bs.take 2) _ W (hsub.below h (Nat.le_refl _))
  rw [hn] at HG0
  have HG := hid HG0
  have hcap : bs.length ≤ cap := by
    rcases hv.2 with ⟨rfl, -⟩ | ⟨b', o', cap', h, hc, -⟩
    · simp at h2
    · obtain ⟨-, -, rfl⟩ := Value.slice.inj h; exact hc
  have HB := hid (fun (p : Nat) (h : p ≤ bs.length) => sub_bs hv (i := p) (j := bs.length) h (Nat.le_refl _))
  have hd : decide ((bs.length : Int) < 2) = false := by simp; omega
  have hd2 : decide (4096 < (n : Int)) = false := by simp; omega
  have hd3 : ((n : Int) == 0) = false := by rw [beq_eq_false_iff_ne]; omega
  have hc2 : (2 : Int) ≤ (cap : Int) := by omega
  have hw1 : IntKind.i64.wrap ((n : Int) - 1) = (n : Int) - 1 := IntWalk.i64_in _ (by omega)
  obtain ⟨x, hx⟩ : ∃ x, x = plGo n n [Cp.C0] (bs.drop 2) := ⟨_, rfl⟩
  rw [← hx]
  have HX := hid hx
  obtain ⟨i0, hi, hz0, hz1, hz2⟩ := info_parts infoC
  have HL2 := hid h2
  clear hv hn hc hcell hsub HG0 hx h2
  go_enter Tryd.func11, Tryd.ntmps11
  go_wp2_with (go_at_call 36; refine (HG.out _ (by repeat' first | with_reducible exact Below.refl _ _ | with_reducible assumption | with_reducible refine belows_drewN ?_ _ | with_reducible refine Below.drew ?_ | with_reducible refine Below.setCell ?_ ?_ _ | with_reducible refine Below.alloc ?_ ?_ _ | omega | (simp; done) | (simp; omega))).mono ?_; rintro e w1 ⟨rfl, rfl⟩)
  go_loopw [6, 7] (fun i u wr => ∃ (xs : List Cp.C) (p f : Nat), i = .int .i64 p ∧ p ≤ bs.length ∧ OwnC wr w.heap.size u xs ∧ Below w.heap.size w wr ∧ n - xs.length < f ∧ xs.length ≤ n + 1 ∧ Hid (x = plGo f n xs (bs.drop p))) (fun _ u _ => n - lenV u)
  case atStart =>
    refine ⟨[Cp.C0], 2, n, rfl, by have := HL2.out; omega, own_newC w w.heap.size (Nat.le_refl _), (by repeat' first | with_reducible exact Below.refl _ _ | with_reducible assumption | with_reducible refine belows_drewN ?_ _ | with_reducible refine Below.drew ?_ | with_reducible refine Below.setCell ?_ ?_ _ | with_reducible refine Below.alloc ?_ ?_ _ | omega | (simp; done) | (simp; omega)), ?_, ?_, HX.out⟩
    · rw [List.length_singleton]; omega
    · rw [List.length_singleton]; omega
  case round =>
    obtain ⟨xs, p, f, rfl, hp, hown, hblw, hf, hxl, hxe⟩ := hrel
    obtain ⟨f, rfl⟩ : ∃ f', f = f' + 1 := ⟨f - 1, by omega⟩
    obtain ⟨sa, sc, rfl⟩ := own_form hown
    have hbz := hblw.size
    by_cases hlt : xs.length < n
    · have hlti : (xs.length : Int) < (n : Int) := by omega
      have hp0 : (0 : Int) ≤ p := by omega
      have hp1 : (p : Int) ≤ bs.length := by omega
      have hp2 : (p : Int) ≤ cap := by omega
      have hxe1 := hxe.out
      unfold plGo at hxe1
      rw [if_pos hlt] at hxe1
      obtain ⟨last, hla⟩ : ∃ last : Bool, ((xs.length : Int) == (n : Int) - 1) = last := ⟨_, rfl⟩
      have hroom : ((n : Int) - (xs.length : Int) < 2) ↔ ((if last then 1 else 2 : Int) < 2) := by
        rw [← hla]
        by_cases h : (xs.length : Int) = (n : Int) - 1
        · rw [beq_iff_eq.2 h]; simp; omega
        · rw [beq_eq_false_iff_ne.2 h]; simp; omega
      rw [enP_room hroom] at hxe1
      have HOn0 := fun W (h : Below wr.heap.size wr W) (u : Value) (hu : Bs w.heap.size W u (bs.drop p)) => one_any last (bs.drop p) u W (hu.mono (by have := h.size; omega))
      unfold OnPost oneO at HOn0
      have hsl : (cap = p ∧ ∀ W : World, Bs w.heap.size W (.slice (some ⟨b, o, none⟩) (bs.length - p) 0) (bs.drop p)) ∨ (¬ cap = p) := by
        by_cases h : cap = p
        · refine .inl ⟨h, fun W => ⟨by rw [List.length_drop]; omega, .inl ⟨List.drop_eq_nil_of_le (by omega), _, _, by rw [show bs.length - p = 0 by omega]⟩⟩⟩
        · exact .inr h
      have hsl2 : Bs w.heap.size w (.slice (some ⟨b, o + p, none⟩) (bs.length - p) (cap - p)) (bs.drop p) := by
        have := HB.out p hp
        rwa [List.take_of_length_le (by rw [List.length_drop]; exact Nat.le_refl _)] at this
      cases he : enP (if last then 1 else 2) (bs.drop p) with
      | error er =>
        have hne := enP_err he
        rw [he] at HOn0 hxe1
        unfold cC Cp.C0 at HOn0
        dsimp only at HOn0 hxe1
        have HOn := hid HOn0
        have HXE := hid hxe1
        have hd5 : (er != 0) = true := by simpa using hne
        rcases hsl with ⟨hcp, hsl⟩ | hcp
        · obtain rfl : p = bs.length := by omega
          subst hcp
          have HS2 := hid (fun W (_ : Below w.heap.size w W) => show Bs w.heap.size W (.slice (some ⟨b, o, none⟩) 0 0) (bs.drop bs.length) from ⟨by rw [List.length_drop]; omega, .inl ⟨List.drop_eq_nil_of_le (Nat.le_refl _), _, _, rfl⟩⟩)
          clear HOn0 hxe1 he hsl2 hne hroom hxe hsl
          go_wp2_with (go_at_call 37; (with_reducible refine (HOn.out _ (by repeat' first | with_reducible exact Below.refl _ _ | with_reducible assumption | with_reducible refine belows_drewN ?_ _ | with_reducible refine Below.drew ?_ | with_reducible refine Below.setCell ?_ ?_ _ | with_reducible refine Below.alloc ?_ ?_ _ | omega | (simp; done) | (simp; omega)) _ (HS2.out _ hblw)).mono ?_); rintro e w2 ⟨rfl, hb2⟩; have hzz := hb2.size)
          exact bodyPost_ret (v := .tuple #[.slice none 0 0, .int .i64 0, .int .i64 er]) (by simp [results, Tryd.results11, go_sem]) rfl ⟨_, by rw [HXE.out]; rfl, by rw [HXE.out]; exact nilC _ _, by (have h9 := belows hblw hb2 hbz); exact (by repeat' first | with_reducible exact Below.refl _ _ | with_reducible assumption | with_reducible refine belows_drewN ?_ _ | with_reducible refine Below.drew ?_ | with_reducible refine Below.setCell ?_ ?_ _ | with_reducible refine Below.alloc ?_ ?_ _ | omega | (simp; done) | (simp; omega))⟩
        · have HS2 := hid (fun W (h : Below w.heap.size w W) => hsl2.below h (Nat.le_refl _))
          clear HOn0 hxe1 he hsl2 hne hroom hxe
          go_wp2_with (go_at_call 37; (with_reducible refine (HOn.out _ (by repeat' first | with_reducible exact Below.refl _ _ | with_reducible assumption | with_reducible refine belows_drewN ?_ _ | with_reducible refine Below.drew ?_ | with_reducible refine Below.setCell ?_ ?_ _ | with_reducible refine Below.alloc ?_ ?_ _ | omega | (simp; done) | (simp; omega)) _ (HS2.out _ hblw)).mono ?_); rintro e w2 ⟨rfl, hb2⟩; have hzz := hb2.size)
          exact bodyPost_ret (v := .tuple #[.slice none 0 0, .int .i64 0, .int .i64 er]) (by simp [results, Tryd.results11, go_sem]) rfl ⟨_, by rw [HXE.out]; rfl, by rw [HXE.out]; exact nilC _ _, by (have h9 := belows hblw hb2 hbz); exact (by repeat' first | with_reducible exact Below.refl _ _ | with_reducible assumption | with_reducible refine belows_drewN ?_ _ | with_reducible refine Below.drew ?_ | with_reducible refine Below.setCell ?_ ?_ _ | with_reducible refine Below.alloc ?_ ?_ _ | omega | (simp; done) | (simp; omega))⟩
      | ok y =>
        obtain ⟨c, r'⟩ := y
        obtain ⟨j, hj1, hj2, rfl⟩ := enP_suf he
        rw [he] at HOn0 hxe1
        unfold cC at HOn0
        dsimp only at HOn0 hxe1
        rw [List.length_drop] at hj2
        rw [List.length_drop, List.length_drop, List.length_drop, show (((bs.length - p : Nat) : Int) - ((bs.length - p - j : Nat) : Int)) = (j : Int) by omega] at HOn0
        rw [List.drop_drop] at hxe1
        have HOn := hid HOn0
        have hwj : IntKind.i64.wrap ((p : Int) + j) = (p : Int) + j := IntWalk.i64_in _ (by omega)
        unfold appE at hxe1
        rcases hsl with ⟨rfl, hsl⟩ | hcp
        · exfalso; omega
        · have HS2 := hid (fun W (h : Below w.heap.size w W) => hsl2.below h (Nat.le_refl _))
          by_cases h5 : c.t = 5
          · have hd5 : (c.t == 5) = true := by simpa using h5
            rw [if_pos h5] at hxe1
            have HXE := hid hxe1
            clear HOn0 hxe1 he hsl2 hroom hxe h5
            go_wp2_with (first | (at_builtin; have _g := ho3; refine wpList_append_own _ rfl (.tmp 54) (.tmp 56) 23 rfl w.heap.size 46 i0 _ 5 48 Tryd.underlying23 hi hz0 hz1 hz2 rfl (by decide) v3 _ _ rfl (World.ownsRow.alloc ho3 _) ⟨w3.heap.size, 0, none⟩ 1 1 (cL Cp.C0) rfl rfl (news_c w3 Cp.C0) (ones_c _) (by unfold maxLen; rw [List.length_append]; simp only [List.length_cons, List.length_nil]; omega) (by rw [List.length_append]; simp only [List.length_cons, List.length_nil]; omega) (by simp only [World.size_alloc]; omega) ?_; intro v4 w4 ho4' hg4 _; have ho4 := OwnC.snoc ho4'; have hb4 : Below w.heap.size w w4 := Kit.below_grown (hb3.alloc hz3 (.cells #[.int .i64 0, .string ⟨#[]⟩, .int .i64 0, .int .i64 0, .int .i64 0] 46)) hg4 (by simp only [World.size_alloc]; omega) (fun k e => Kit.own_base ho3 k e)) | (at_builtin; refine wpList_append_own _ rfl (.tmp 47) (.tmp 49) 23 rfl w.heap.size 46 i0 _ 5 48 Tryd.underlying23 hi hz0 hz1 hz2 rfl (by decide) _ _ _ rfl (World.ownsRow.alloc (World.ownsRow.alloc (Kit.owns_below hown hb2 (Nat.le_refl _)) _) _) ⟨w2.heap.size + 1, 0, none⟩ 1 1 (cL c) rfl rfl (by (have hn := news_c (w2.alloc (.cells #[.int .i64 c.t, .string c.s, .int .i64 c.n, .int .i64 c.a, .int .i64 c.b] 46)) c); rw [World.size_alloc] at hn; exact hn) (ones_c _) (by unfold maxLen; omega) (by omega) (by simp only [World.size_alloc]; omega) ?_; intro v3 w3 ho3' hg3 _; have ho3 := OwnC.snoc ho3'; have hbx := ((BX.new w2 #[.int .i64 c.t, .string c.s, .int .i64 c.n, .int .i64 c.a, .int .i64 c.b] 46).below ((Below.refl _ _).alloc (Nat.le_refl _) (.cells #[.int .i64 c.t, .string c.s, .int .i64 c.n, .int .i64 c.a, .int .i64 c.b] 46)) (by simp only [World.size_alloc]; omega)).grown hg3 (fun e => by (have := Kit.own_lt hown _ e); omega); have c0 := hbx.cell 0; simp at c0; have hb3 : Below w.heap.size w w3 := Kit.below_grown (((belows hblw hb2 hbz).alloc (by omega) (.cells #[.int .i64 c.t, .string c.s, .int .i64 c.n, .int .i64 c.a, .int .i64 c.b] 46)).alloc (by simp only [World.size_alloc]; omega) (.cells #[.int .i64 c.t, .string c.s, .int .i64 c.n, .int .i64 c.a, .int .i64 c.b] 46)) hg3 (by simp only [World.size_alloc]; omega) (fun k e => Kit.own_base hown k e); have hz3 := hb3.size; clear ho3') | (go_at_call 37; (with_reducible refine (HOn.out _ (by repeat' first | with_reducible exact Below.refl _ _ | with_reducible assumption | with_reducible refine belows_drewN ?_ _ | with_reducible refine Below.drew ?_ | with_reducible refine Below.setCell ?_ ?_ _ | with_reducible refine Below.alloc ?_ ?_ _ | omega | (simp; done) | (simp; omega)) _ (HS2.out _ hblw)).mono ?_); rintro e w2 ⟨rfl, hb2⟩; have hzz := hb2.size))
            obtain ⟨sb, scb, rfl⟩ := own_form ho4
            go_roundw
            case rel => exact ⟨xs ++ [c] ++ [Cp.C0], p + j, f, by go_num, by omega, ho4, hb4, by simp only [List.length_append, List.length_cons, List.length_nil]; omega, by simp only [List.length_append, List.length_cons, List.length_nil]; omega, HXE⟩
            case measure => show n - (xs ++ [c] ++ [Cp.C0]).length < n - xs.length; simp only [List.length_append, List.length_cons, List.length_nil]; omega
          · have hd5 : (c.t == 5) = false := by simpa using h5
            rw [if_neg h5] at hxe1
            have HXE := hid hxe1
            clear HOn0 hxe1 he hsl2 hroom hxe h5
            go_wp2_with (first | (at_builtin; have _g := ho3; refine wpList_append_own _ rfl (.tmp 54) (.tmp 56) 23 rfl w.heap.size 46 i0 _ 5 48 Tryd.underlying23 hi hz0 hz1 hz2 rfl (by decide) v3 _ _ rfl (World.ownsRow.alloc ho3 _) ⟨w3.heap.size, 0, none⟩ 1 1 (cL Cp.C0) rfl rfl (news_c w3 Cp.C0) (ones_c _) (by unfold maxLen; rw [List.length_append]; simp only [List.length_cons, List.length_nil]; omega) (by rw [List.length_append]; simp only [List.length_cons, List.length_nil]; omega) (by simp only [World.size_alloc]; omega) ?_; intro v4 w4 ho4' hg4 _; have ho4 := OwnC.snoc ho4'; have hb4 : Below w.heap.size w w4 := Kit.below_grown (hb3.alloc hz3 (.cells #[.int .i64 0, .string ⟨#[]⟩, .int .i64 0, .int .i64 0, .int .i64 0] 46)) hg4 (by simp only [World.size_alloc]; omega) (fun k e => Kit.own_base ho3 k e)) | (at_builtin; refine wpList_append_own _ rfl (.tmp 47) (.tmp 49) 23 rfl w.heap.size 46 i0 _ 5 48 Tryd.underlying23 hi hz0 hz1 hz2 rfl (by decide) _ _ _ rfl (World.ownsRow.alloc (World.ownsRow.alloc (Kit.owns_below hown hb2 (Nat.le_refl _)) _) _) ⟨w2.heap.size + 1, 0, none⟩ 1 1 (cL c) rfl rfl (by (have hn := news_c (w2.alloc (.cells #[.int .i64 c.t, .string c.s, .int .i64 c.n, .int .i64 c.a, .int .i64 c.b] 46)) c); rw [World.size_alloc] at hn; exact hn) (ones_c _) (by unfold maxLen; omega) (by omega) (by simp only [World.size_alloc]; omega) ?_; intro v3 w3 ho3' hg3 _; have ho3 := OwnC.snoc ho3'; have hbx := ((BX.new w2 #[.int .i64 c.t, .string c.s, .int .i64 c.n, .int .i64 c.a, .int .i64 c.b] 46).below ((Below.refl _ _).alloc (Nat.le_refl _) (.cells #[.int .i64 c.t, .string c.s, .int .i64 c.n, .int .i64 c.a, .int .i64 c.b] 46)) (by simp only [World.size_alloc]; omega)).grown hg3 (fun e => by (have := Kit.own_lt hown _ e); omega); have c0 := hbx.cell 0; simp at c0; have hb3 : Below w.heap.size w w3 := Kit.below_grown (((belows hblw hb2 hbz).alloc (by omega) (.cells #[.int .i64 c.t, .string c.s, .int .i64 c.n, .int .i64 c.a, .int .i64 c.b] 46)).alloc (by simp only [World.size_alloc]; omega) (.cells #[.int .i64 c.t, .string c.s, .int .i64 c.n, .int .i64 c.a, .int .i64 c.b] 46)) hg3 (by simp only [World.size_alloc]; omega) (fun k e => Kit.own_base hown k e); have hz3 := hb3.size; clear ho3') | (go_at_call 37; (with_reducible refine (HOn.out _ (by repeat' first | with_reducible exact Below.refl _ _ | with_reducible assumption | with_reducible refine belows_drewN ?_ _ | with_reducible refine Below.drew ?_ | with_reducible refine Below.setCell ?_ ?_ _ | with_reducible refine Below.alloc ?_ ?_ _ | omega | (simp; done) | (simp; omega)) _ (HS2.out _ hblw)).mono ?_); rintro e w2 ⟨rfl, hb2⟩; have hzz := hb2.size))
            obtain ⟨sb, scb, rfl⟩ := own_form ho3
            go_roundw
            case rel => exact ⟨xs ++ [c], p + j, f, by go_num, by omega, ho3, hb3, by simp only [List.length_append, List.length_cons, List.length_nil]; omega, by simp only [List.length_append, List.length_cons, List.length_nil]; omega, HXE⟩
            case measure => show n - (xs ++ [c]).length < n - xs.length; simp only [List.length_append, List.length_cons, List.length_nil]; omega
    · have hxe1 := hxe.out
      unfold plGo at hxe1
      rw [if_neg hlt] at hxe1
      have HXE := hid hxe1
      have hge : decide ((xs.length : Int) < (n : Int)) = false := by simp; omega
      have HO := hid hown
      clear hxe1 hown hxe
      go_wp2
      refine bodyPost_ret (v := .tuple #[.slice sa xs.length sc, .int .i64 p, .int .i64 0]) (by simp [results, Tryd.results11, go_sem]) rfl ⟨.slice sa xs.length sc, ?_, ?_, hblw⟩
      · rw [HXE.out]
        unfold tkO
        dsimp only
        rw [List.length_drop, show ((bs.length : Int) - ((bs.length - p : Nat) : Int)) = (p : Int) by omega]
      · rw [HXE.out]; exact HO.out
theorem rtake_any (bs : List UInt8) (v : Value) (w : World) (hv : Bs w.heap.size w v bs) : Calls Tryd.prog 11 #[v] w (TkPost (tkOut bs) w) := by
  by_cases h2 : bs.length < 2
  · exact rtake_small bs v w hv (.inl h2)
  · obtain ⟨hr0, hr1⟩ := numI_2 (l := bs.take 2) (by rw [List.length_take]; omega)
    by_cases hb : 4096 < Cp.numI (bs.take 2)
    · exact rtake_small bs v w hv (.inr (.inl hb))
    · by_cases h0 : Cp.numI (bs.take 2) = 0
      · exact rtake_small bs v w hv (.inr (.inr h0))
      · obtain ⟨n, hn⟩ := Int.eq_ofNat_of_zero_le hr0
        rw [tk_loop h2 hn (by omega) (by omega)]
        exact rtake_loop bs n v w hv h2 hn (by omega) (by omega)
end Go.Proofs.YtljbcclfafndmaaDoor

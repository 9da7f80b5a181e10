/- Contract of the document's Encode. -/
import Derived.Test.YtknacnbicmafjaaDoorOpFb
namespace Go.Proofs.YtknacnbicmafjaaDoor
open Go.RowKit

theorem fits_any (x : Op1.Ins) (n : Nat) (f : Nat) (w : World) (hf : f ≤ 8) (hp : x.p = (n : Int)) (hn : n ≤ 140737488355328) :
    Calls Tryd.prog 49 #[insV x, .int .i64 f] w fun e w' => e = .returned (.bool (fitB f x)) ∧ Below w.heap.size w w' := by
  obtain ⟨xp, xop, xa, xb⟩ := x
  dsimp only at hp
  subst hp
  have all : f = 0 ∨ f = 1 ∨ f = 2 ∨ f = 3 ∨ f = 4 ∨ f = 5 ∨ f = 6 ∨ f = 7 ∨ f = 8 := by omega
  have key : ∀ {b c : Bool}, b = c → (Calls Tryd.prog 49 #[insV ⟨n, xop, xa, xb⟩, .int .i64 f] w fun e w' => e = .returned (.bool b) ∧ Below w.heap.size w w') →
      Calls Tryd.prog 49 #[insV ⟨n, xop, xa, xb⟩, .int .i64 f] w fun e w' => e = .returned (.bool c) ∧ Below w.heap.size w w' := by
    intro b c h1 h2; rw [← h1]; exact h2
  have bc : ∀ a b : Bool, (a && b) = (b && a) := by decide
  rcases all with rfl | rfl | rfl | rfl | rfl | rfl | rfl | rfl | rfl
  · refine key ?_ (fits_f0 n xop xa xb w)
    rw [Bool.eq_iff_iff]; simp [fitB]; omega
  · exact key (bc _ _) (fits_f1 n xop xa xb w)
  · exact key (bc _ _) (fits_f2 n xop xa xb w)
  · exact key (bc _ _) (fits_f3 n xop xa xb w)
  · exact key (bc _ _) (fits_f4 n xop xa xb w)
  · exact key (bc _ _) (fits_f5 n xop xa xb w)
  · refine key ?_ (fits_f6 n xop xa xb w hn)
    rw [Bool.eq_iff_iff]; simp [fitB]; omega
  · exact fits_f7 n xop xa xb w
  · exact key (bc _ _) (fits_f8 n xop xa xb w)
set_option maxRecDepth 100000 in
set_option maxHeartbeats 2000000 in
theorem rencode_any (l : List Op1.Ins) (v : Value) (w : World) (hl : Kit.IsS 4 w v l.length (insCells l)) (hn : l.length * 32 ≤ 140737488355328) :
    Calls Tryd.prog 30 #[v] w (EncPost l w) := by
  have HL := hid hl
  obtain ⟨a, cap, hv⟩ := hl.len
  subst hv
  clear hl
  obtain ⟨i0, hi, hz0, hz1, hz2⟩ := info_parts A.info5
  go_enter Tryd.func30, Tryd.ntmps30
  go_wp2
  go_loopw [5, 4] (fun i v wr => ∃ (k : Nat) (bs : List UInt8), k ≤ l.length ∧ i = .int .i64 k ∧ OwnB wr w.heap.size v bs ∧ Hid (encGo l [] = encGo (l.drop k) bs) ∧ bs.length ≤ 3 * k ∧ Below w.heap.size w wr) (fun i _ _ => l.length - (intOf i).toNat)
  case atStart => exact ⟨0, [], by omega, rfl, nilB _ _, rfl, by simp, (by repeat' first | with_reducible exact Below.refl _ _ | with_reducible assumption | with_reducible refine belows_drewN ?_ _ | with_reducible refine Below.drew ?_ | with_reducible refine Below.setCell ?_ ?_ _ | with_reducible refine Below.alloc ?_ ?_ _ | omega | (simp; done) | (simp; omega))⟩
  case round =>
    obtain ⟨k, bs, hk, rfl, hown, henc, h3, hbl⟩ := hrel
    have hzr := hbl.size
    obtain ⟨a1, cap1, hv1⟩ := (Kit.isS_of_owns hown (by omega)).len
    subst hv1
    by_cases hlt : k < l.length
    · obtain ⟨x, hx⟩ : ∃ x, l[k]? = some x := ⟨l[k], List.getElem?_eq_getElem hlt⟩
      obtain ⟨b, o, cap', hv, hb, c0, c1, c2, c3⟩ := ins_at (HL.out.below hbl (Nat.le_refl _)) hx
      obtain ⟨rfl, -, rfl⟩ := Value.slice.inj hv
      have hdrop : l.drop k = x :: l.drop (k + 1) := by
        rw [List.drop_eq_getElem_cons hlt]
        rw [List.getElem?_eq_getElem hlt] at hx
        rw [Option.some.inj hx]
      have henc' := henc.out
      rw [hdrop, encGo_cons] at henc'
      have HForm := hid (fun W => rform_any x.op W)
      unfold isV at HForm
      have hownlt := Kit.own_lt hown
      by_cases hop : Op1.isOp x.op = false
      · rw [if_pos hop] at henc'
        rw [hop] at HForm
        have HE := hid henc'
        generalize Op1.formOf x.op = f at *
        obtain ⟨xp, xop, xa, xb⟩ := x
        dsimp only at c0 c1 c2 c3 HForm
        clear henc' hdrop hx hv hop henc
        go_wp2_with (go_at_call 11; refine (HForm.out _).mono ?_; rintro e w3 ⟨rfl, hb3⟩)
        go_ret2
        exact ⟨_, _, _, rfl, HE.out, nilB _ _, belows (belows hbl ((Below.refl _ _).alloc (Nat.le_refl _) _) hzr) hb3 (by simp only [World.size_alloc]; omega)⟩
      · rw [if_neg hop] at henc'
        have hop' : Op1.isOp x.op = true := by simpa using hop
        rw [hop'] at HForm
        have hf8 := Op1.formOf_le x.op
        by_cases hp : x.p = (bs.length : Int)
        · have hgood : goodI x bs.length = fitB (Op1.formOf x.op) x := by unfold goodI; simp [hp]
          rw [hgood] at henc'
          have HFit := hid (fun W => fits_any x bs.length (Op1.formOf x.op) W hf8 hp (by omega))
          have hel : (bs ++ enc1 x).length ≤ 3 * (k + 1) := by
            rw [List.length_append, enc1_len]
            have := bh_le (Op1.formOf x.op)
            omega
          have HBeh := hid (fun W => rbehind_any (Op1.formOf x.op) W hf8)
          have henc1 : enc1 x = by8 x.op :: tail8 (Op1.formOf x.op) x := rfl
          obtain ⟨f, hf⟩ : ∃ f, f = Op1.formOf x.op := ⟨_, rfl⟩
          rw [← hf] at HForm HFit HBeh henc' henc1 hf8
          obtain ⟨xp, xop, xa, xb⟩ := x
          dsimp only at c0 c1 c2 c3 HForm hp HFit henc1
          have hpb : (xp != (bs.length : Int)) = false := by simpa using hp
          have HP := hid hp
          unfold insV at HFit
          cases hfit : fitB f ⟨xp, xop, xa, xb⟩ with
          | false =>
            rw [if_pos hfit] at henc'
            rw [hfit] at HFit
            have HE := hid henc'
            clear henc' hdrop hx hv hop henc hp hgood hop' hf henc1 hfit hf8
            go_wp2_with (first | (go_at_call 11; refine (HForm.out _).mono ?_; rintro e w3 ⟨rfl, hb3⟩; obtain ⟨hcc, hff⟩ := bcell hb3; have hz3 := hb3.size; simp only [World.size_alloc] at hz3; have hz4 : wr.heap.size < w3.heap.size := (by omega)) | (go_at_call 49; refine (HFit.out _).mono ?_; rintro e w4 ⟨rfl, hb4⟩; obtain ⟨hcc4, hff4⟩ := bcell hb4; have hz5 := hb4.size; have hz6 : wr.heap.size < w4.heap.size := (by omega); have hb4' := belows (belows (belows hbl ((Below.refl _ wr).alloc (Nat.le_refl _) _) hzr) hb3 (by simp only [World.size_alloc]; omega)) hb4 (by omega); have hown4 := Kit.owns_below (Kit.owns_below (Kit.owns_below hown ((Below.refl _ wr).alloc (Nat.le_refl _) _) (Nat.le_refl _)) hb3 (Nat.le_refl _)) hb4 (Nat.le_refl _)))
            go_ret2
            have hbz := belows (belows hbl ((Below.refl _ _).alloc (Nat.le_refl _) _) hzr) hb3 (by simp only [World.size_alloc]; omega)
            exact ⟨_, _, _, rfl, HE.out, nilB _ _, belows hbz hb4 (by omega)⟩
          | true =>
            rw [if_neg (by rw [hfit]; simp)] at henc'
            rw [hfit] at HFit
            have HE := hid henc'
            have HEn := hid henc1
            have hob : (bs ++ enc1 ⟨xp, xop, xa, xb⟩).length ≤ 3 * (k + 1) := hel
            have all : f = 0 ∨ (f = 1 ∨ f = 2 ∨ f = 4 ∨ f = 8) ∨ (f = 3 ∨ f = 5) ∨ f = 6 ∨ f = 7 := by omega
            clear henc' hdrop hx hv hop henc hp hgood hop' hf henc1 hfit hf8 hel
            rcases all with rfl | (rfl | rfl | rfl | rfl) | (rfl | rfl) | rfl | rfl
            · go_wp2_with (first | (go_at_call 11; refine (HForm.out _).mono ?_; rintro e w3 ⟨rfl, hb3⟩; obtain ⟨hcc, hff⟩ := bcell hb3; have hz3 := hb3.size; simp only [World.size_alloc] at hz3; have hz4 : wr.heap.size < w3.heap.size := (by omega)) | (go_at_call 49; refine (HFit.out _).mono ?_; rintro e w4 ⟨rfl, hb4⟩; obtain ⟨hcc4, hff4⟩ := bcell hb4; have hz5 := hb4.size; have hz6 : wr.heap.size < w4.heap.size := (by omega); have hb4' := belows (belows (belows hbl ((Below.refl _ wr).alloc (Nat.le_refl _) _) hzr) hb3 (by simp only [World.size_alloc]; omega)) hb4 (by omega); have hown4 := Kit.owns_below (Kit.owns_below (Kit.owns_below hown ((Below.refl _ wr).alloc (Nat.le_refl _) _) (Nat.le_refl _)) hb3 (Nat.le_refl _)) hb4 (Nat.le_refl _)) | (go_at_call 40; refine (HBeh.out _).mono ?_; rintro e w9 ⟨rfl, rfl⟩) | (at_builtin; refine wpList_append_own_at _ rfl (.tmp 48) (.tmp 52) 29 rfl w.heap.size 5 i0 _ 1 1 Tryd.underlying29 hi hz0 hz1 hz2 rfl (by decide) _ _ _ rfl (hown4.alloc _) ⟨w4.heap.size, 0, none⟩ 1 1 [.int .u8 (xop % 256)] rfl rfl (Kit.news_one w4 (.int .u8 (xop % 256)) 5) (Kit.ones_one rfl) (by unfold maxLen; omega) (by omega) (by simp only [World.size_alloc]; omega) ?_; intro v1 w5 hown5 hgrow5 _ hk5; have hg5 := Kit.grows_append ((Below.refl _ w4).alloc (Nat.le_refl _) _) hgrow5 hk5; have hz7 := hg5.size; have hz8 : wr.heap.size < w5.heap.size := (by omega); have hc5 : ∀ j, w5.cell? ⟨wr.heap.size, j, none⟩ = w4.cell? ⟨wr.heap.size, j, none⟩ := (fun j => hg5.cell hz6 (fun g hg => by have := hownlt g hg; omega) j); clear hgrow5 hk5))
              have hb5' := hg5.to_below hb4' (by omega) (Kit.own_base hown4)
              have hz6 := hb5'.size
              have hob5 : OwnB w5 w.heap.size v1 (bs ++ enc1 ⟨xp, xop, xa, xb⟩) := by rw [HEn.out]; exact ownB_app hown5 (by simp [tail8]) (by simp [byteVals, by8_nat, tail8])
              go_roundw
              case rel => exact ⟨k + 1, bs ++ enc1 ⟨xp, xop, xa, xb⟩, by omega, by go_num, hob5, HE, hob, hb5'⟩
              case measure => simp [intOf]; omega
            · go_wp2_with (first | (go_at_call 11; refine (HForm.out _).mono ?_; rintro e w3 ⟨rfl, hb3⟩; obtain ⟨hcc, hff⟩ := bcell hb3; have hz3 := hb3.size; simp only [World.size_alloc] at hz3; have hz4 : wr.heap.size < w3.heap.size := (by omega)) | (go_at_call 49; refine (HFit.out _).mono ?_; rintro e w4 ⟨rfl, hb4⟩; obtain ⟨hcc4, hff4⟩ := bcell hb4; have hz5 := hb4.size; have hz6 : wr.heap.size < w4.heap.size := (by omega); have hb4' := belows (belows (belows hbl ((Below.refl _ wr).alloc (Nat.le_refl _) _) hzr) hb3 (by simp only [World.size_alloc]; omega)) hb4 (by omega); have hown4 := Kit.owns_below (Kit.owns_below (Kit.owns_below hown ((Below.refl _ wr).alloc (Nat.le_refl _) _) (Nat.le_refl _)) hb3 (Nat.le_refl _)) hb4 (Nat.le_refl _)) | (go_at_call 40; refine (HBeh.out _).mono ?_; rintro e w9 ⟨rfl, rfl⟩) | (at_builtin; refine wpList_append_own_at _ rfl (.tmp 48) (.tmp 52) 29 rfl w.heap.size 5 i0 _ 1 1 Tryd.underlying29 hi hz0 hz1 hz2 rfl (by decide) _ _ _ rfl (hown4.alloc _) ⟨w4.heap.size, 0, none⟩ 1 1 [.int .u8 (xop % 256)] rfl rfl (Kit.news_one w4 (.int .u8 (xop % 256)) 5) (Kit.ones_one rfl) (by unfold maxLen; omega) (by omega) (by simp only [World.size_alloc]; omega) ?_; intro v1 w5 hown5 hgrow5 _ hk5; have hg5 := Kit.grows_append ((Below.refl _ w4).alloc (Nat.le_refl _) _) hgrow5 hk5; have hz7 := hg5.size; have hz8 : wr.heap.size < w5.heap.size := (by omega); have hc5 : ∀ j, w5.cell? ⟨wr.heap.size, j, none⟩ = w4.cell? ⟨wr.heap.size, j, none⟩ := (fun j => hg5.cell hz6 (fun g hg => by have := hownlt g hg; omega) j); clear hgrow5 hk5) | (at_builtin; refine wpList_append_own_at _ rfl (.tmp 82) (.tmp 85) 29 rfl w.heap.size 5 i0 _ 1 1 Tryd.underlying29 hi hz0 hz1 hz2 rfl (by decide) _ _ _ rfl (hown5.alloc _) ⟨w5.heap.size, 0, none⟩ 1 1 [.int .u8 (xa % 256)] rfl rfl (Kit.news_one w5 (.int .u8 (xa % 256)) 5) (Kit.ones_one rfl) (by unfold maxLen; omega) (by omega) (by simp only [World.size_alloc]; omega) ?_; intro v2 w6 hown6 hgrow6 _ hk6))
              have hb5' := hg5.to_below hb4' (by omega) (Kit.own_base hown4)
              have hg6 := Kit.grows_append ((Below.refl _ w5).alloc (Nat.le_refl _) _) hgrow6 hk6
              have hb6' := hg6.to_below hb5' (by omega) (Kit.own_base hown5)
              have hob6 : OwnB w6 w.heap.size v2 (bs ++ enc1 ⟨xp, xop, xa, xb⟩) := by rw [HEn.out]; exact ownB_app hown6 (by simp [tail8]) (by simp [byteVals, by8_nat, tail8])
              go_roundw
              case rel => exact ⟨k + 1, bs ++ enc1 ⟨xp, xop, xa, xb⟩, by omega, by go_num, hob6, HE, hob, hb6'⟩
              case measure => simp [intOf]; omega
            · go_wp2_with (first | (go_at_call 11; refine (HForm.out _).mono ?_; rintro e w3 ⟨rfl, hb3⟩; obtain ⟨hcc, hff⟩ := bcell hb3; have hz3 := hb3.size; simp only [World.size_alloc] at hz3; have hz4 : wr.heap.size < w3.heap.size := (by omega)) | (go_at_call 49; refine (HFit.out _).mono ?_; rintro e w4 ⟨rfl, hb4⟩; obtain ⟨hcc4, hff4⟩ := bcell hb4; have hz5 := hb4.size; have hz6 : wr.heap.size < w4.heap.size := (by omega); have hb4' := belows (belows (belows hbl ((Below.refl _ wr).alloc (Nat.le_refl _) _) hzr) hb3 (by simp only [World.size_alloc]; omega)) hb4 (by omega); have hown4 := Kit.owns_below (Kit.owns_below (Kit.owns_below hown ((Below.refl _ wr).alloc (Nat.le_refl _) _) (Nat.le_refl _)) hb3 (Nat.le_refl _)) hb4 (Nat.le_refl _)) | (go_at_call 40; refine (HBeh.out _).mono ?_; rintro e w9 ⟨rfl, rfl⟩) | (at_builtin; refine wpList_append_own_at _ rfl (.tmp 48) (.tmp 52) 29 rfl w.heap.size 5 i0 _ 1 1 Tryd.underlying29 hi hz0 hz1 hz2 rfl (by decide) _ _ _ rfl (hown4.alloc _) ⟨w4.heap.size, 0, none⟩ 1 1 [.int .u8 (xop % 256)] rfl rfl (Kit.news_one w4 (.int .u8 (xop % 256)) 5) (Kit.ones_one rfl) (by unfold maxLen; omega) (by omega) (by simp only [World.size_alloc]; omega) ?_; intro v1 w5 hown5 hgrow5 _ hk5; have hg5 := Kit.grows_append ((Below.refl _ w4).alloc (Nat.le_refl _) _) hgrow5 hk5; have hz7 := hg5.size; have hz8 : wr.heap.size < w5.heap.size := (by omega); have hc5 : ∀ j, w5.cell? ⟨wr.heap.size, j, none⟩ = w4.cell? ⟨wr.heap.size, j, none⟩ := (fun j => hg5.cell hz6 (fun g hg => by have := hownlt g hg; omega) j); clear hgrow5 hk5) | (at_builtin; refine wpList_append_own_at _ rfl (.tmp 82) (.tmp 85) 29 rfl w.heap.size 5 i0 _ 1 1 Tryd.underlying29 hi hz0 hz1 hz2 rfl (by decide) _ _ _ rfl (hown5.alloc _) ⟨w5.heap.size, 0, none⟩ 1 1 [.int .u8 (xa % 256)] rfl rfl (Kit.news_one w5 (.int .u8 (xa % 256)) 5) (Kit.ones_one rfl) (by unfold maxLen; omega) (by omega) (by simp only [World.size_alloc]; omega) ?_; intro v2 w6 hown6 hgrow6 _ hk6))
              have hb5' := hg5.to_below hb4' (by omega) (Kit.own_base hown4)
              have hg6 := Kit.grows_append ((Below.refl _ w5).alloc (Nat.le_refl _) _) hgrow6 hk6
              have hb6' := hg6.to_below hb5' (by omega) (Kit.own_base hown5)
              have hob6 : OwnB w6 w.heap.size v2 (bs ++ enc1 ⟨xp, xop, xa, xb⟩) := by rw [HEn.out]; exact ownB_app hown6 (by simp [tail8]) (by simp [byteVals, by8_nat, tail8])
              go_roundw
              case rel => exact ⟨k + 1, bs ++ enc1 ⟨xp, xop, xa, xb⟩, by omega, by go_num, hob6, HE, hob, hb6'⟩
              case measure => simp [intOf]; omega
            · go_wp2_with (first | (go_at_call 11; refine (HForm.out _).mono ?_; rintro e w3 ⟨rfl, hb3⟩; obtain ⟨hcc, hff⟩ := bcell hb3; have hz3 := hb3.size; simp only [World.size_alloc] at hz3; have hz4 : wr.heap.size < w3.heap.size := (by omega)) | (go_at_call 49; refine (HFit.out _).mono ?_; rintro e w4 ⟨rfl, hb4⟩; obtain ⟨hcc4, hff4⟩ := bcell hb4; have hz5 := hb4.size; have hz6 : wr.heap.size < w4.heap.size := (by omega); have hb4' := belows (belows (belows hbl ((Below.refl _ wr).alloc (Nat.le_refl _) _) hzr) hb3 (by simp only [World.size_alloc]; omega)) hb4 (by omega); have hown4 := Kit.owns_below (Kit.owns_below (Kit.owns_below hown ((Below.refl _ wr).alloc (Nat.le_refl _) _) (Nat.le_refl _)) hb3 (Nat.le_refl _)) hb4 (Nat.le_refl _)) | (go_at_call 40; refine (HBeh.out _).mono ?_; rintro e w9 ⟨rfl, rfl⟩) | (at_builtin; refine wpList_append_own_at _ rfl (.tmp 48) (.tmp 52) 29 rfl w.heap.size 5 i0 _ 1 1 Tryd.underlying29 hi hz0 hz1 hz2 rfl (by decide) _ _ _ rfl (hown4.alloc _) ⟨w4.heap.size, 0, none⟩ 1 1 [.int .u8 (xop % 256)] rfl rfl (Kit.news_one w4 (.int .u8 (xop % 256)) 5) (Kit.ones_one rfl) (by unfold maxLen; omega) (by omega) (by simp only [World.size_alloc]; omega) ?_; intro v1 w5 hown5 hgrow5 _ hk5; have hg5 := Kit.grows_append ((Below.refl _ w4).alloc (Nat.le_refl _) _) hgrow5 hk5; have hz7 := hg5.size; have hz8 : wr.heap.size < w5.heap.size := (by omega); have hc5 : ∀ j, w5.cell? ⟨wr.heap.size, j, none⟩ = w4.cell? ⟨wr.heap.size, j, none⟩ := (fun j => hg5.cell hz6 (fun g hg => by have := hownlt g hg; omega) j); clear hgrow5 hk5) | (at_builtin; refine wpList_append_own_at _ rfl (.tmp 82) (.tmp 85) 29 rfl w.heap.size 5 i0 _ 1 1 Tryd.underlying29 hi hz0 hz1 hz2 rfl (by decide) _ _ _ rfl (hown5.alloc _) ⟨w5.heap.size, 0, none⟩ 1 1 [.int .u8 (xa % 256)] rfl rfl (Kit.news_one w5 (.int .u8 (xa % 256)) 5) (Kit.ones_one rfl) (by unfold maxLen; omega) (by omega) (by simp only [World.size_alloc]; omega) ?_; intro v2 w6 hown6 hgrow6 _ hk6))
              have hb5' := hg5.to_below hb4' (by omega) (Kit.own_base hown4)
              have hg6 := Kit.grows_append ((Below.refl _ w5).alloc (Nat.le_refl _) _) hgrow6 hk6
              have hb6' := hg6.to_below hb5' (by omega) (Kit.own_base hown5)
              have hob6 : OwnB w6 w.heap.size v2 (bs ++ enc1 ⟨xp, xop, xa, xb⟩) := by rw [HEn.out]; exact ownB_app hown6 (by simp [tail8]) (by simp [byteVals, by8_nat, tail8])
              go_roundw
              case rel => exact ⟨k + 1, bs ++ enc1 ⟨xp, xop, xa, xb⟩, by omega, by go_num, hob6, HE, hob, hb6'⟩
              case measure => simp [intOf]; omega
            · go_wp2_with (first | (go_at_call 11; refine (HForm.out _).mono ?_; rintro e w3 ⟨rfl, hb3⟩; obtain ⟨hcc, hff⟩ := bcell hb3; have hz3 := hb3.size; simp only [World.size_alloc] at hz3; have hz4 : wr.heap.size < w3.heap.size := (by omega)) | (go_at_call 49; refine (HFit.out _).mono ?_; rintro e w4 ⟨rfl, hb4⟩; obtain ⟨hcc4, hff4⟩ := bcell hb4; have hz5 := hb4.size; have hz6 : wr.heap.size < w4.heap.size := (by omega); have hb4' := belows (belows (belows hbl ((Below.refl _ wr).alloc (Nat.le_refl _) _) hzr) hb3 (by simp only [World.size_alloc]; omega)) hb4 (by omega); have hown4 := Kit.owns_below (Kit.owns_below (Kit.owns_below hown ((Below.refl _ wr).alloc (Nat.le_refl _) _) (Nat.le_refl _)) hb3 (Nat.le_refl _)) hb4 (Nat.le_refl _)) | (go_at_call 40; refine (HBeh.out _).mono ?_; rintro e w9 ⟨rfl, rfl⟩) | (at_builtin; refine wpList_append_own_at _ rfl (.tmp 48) (.tmp 52) 29 rfl w.heap.size 5 i0 _ 1 1 Tryd.underlying29 hi hz0 hz1 hz2 rfl (by decide) _ _ _ rfl (hown4.alloc _) ⟨w4.heap.size, 0, none⟩ 1 1 [.int .u8 (xop % 256)] rfl rfl (Kit.news_one w4 (.int .u8 (xop % 256)) 5) (Kit.ones_one rfl) (by unfold maxLen; omega) (by omega) (by simp only [World.size_alloc]; omega) ?_; intro v1 w5 hown5 hgrow5 _ hk5; have hg5 := Kit.grows_append ((Below.refl _ w4).alloc (Nat.le_refl _) _) hgrow5 hk5; have hz7 := hg5.size; have hz8 : wr.heap.size < w5.heap.size := (by omega); have hc5 : ∀ j, w5.cell? ⟨wr.heap.size, j, none⟩ = w4.cell? ⟨wr.heap.size, j, none⟩ := (fun j => hg5.cell hz6 (fun g hg => by have := hownlt g hg; omega) j); clear hgrow5 hk5) | (at_builtin; refine wpList_append_own_at _ rfl (.tmp 82) (.tmp 85) 29 rfl w.heap.size 5 i0 _ 1 1 Tryd.underlying29 hi hz0 hz1 hz2 rfl (by decide) _ _ _ rfl (hown5.alloc _) ⟨w5.heap.size, 0, none⟩ 1 1 [.int .u8 (xa % 256)] rfl rfl (Kit.news_one w5 (.int .u8 (xa % 256)) 5) (Kit.ones_one rfl) (by unfold maxLen; omega) (by omega) (by simp only [World.size_alloc]; omega) ?_; intro v2 w6 hown6 hgrow6 _ hk6))
              have hb5' := hg5.to_below hb4' (by omega) (Kit.own_base hown4)
              have hg6 := Kit.grows_append ((Below.refl _ w5).alloc (Nat.le_refl _) _) hgrow6 hk6
              have hb6' := hg6.to_below hb5' (by omega) (Kit.own_base hown5)
              have hob6 : OwnB w6 w.heap.size v2 (bs ++ enc1 ⟨xp, xop, xa, xb⟩) := by rw [HEn.out]; exact ownB_app hown6 (by simp [tail8]) (by simp [byteVals, by8_nat, tail8])
              go_roundw
              case rel => exact ⟨k + 1, bs ++ enc1 ⟨xp, xop, xa, xb⟩, by omega, by go_num, hob6, HE, hob, hb6'⟩
              case measure => simp [intOf]; omega
            · go_wp2_with (first | (go_at_call 11; refine (HForm.out _).mono ?_; rintro e w3 ⟨rfl, hb3⟩; obtain ⟨hcc, hff⟩ := bcell hb3; have hz3 := hb3.size; simp only [World.size_alloc] at hz3; have hz4 : wr.heap.size < w3.heap.size := (by omega)) | (go_at_call 49; refine (HFit.out _).mono ?_; rintro e w4 ⟨rfl, hb4⟩; obtain ⟨hcc4, hff4⟩ := bcell hb4; have hz5 := hb4.size; have hz6 : wr.heap.size < w4.heap.size := (by omega); have hb4' := belows (belows (belows hbl ((Below.refl _ wr).alloc (Nat.le_refl _) _) hzr) hb3 (by simp only [World.size_alloc]; omega)) hb4 (by omega); have hown4 := Kit.owns_below (Kit.owns_below (Kit.owns_below hown ((Below.refl _ wr).alloc (Nat.le_refl _) _) (Nat.le_refl _)) hb3 (Nat.le_refl _)) hb4 (Nat.le_refl _)) | (go_at_call 40; refine (HBeh.out _).mono ?_; rintro e w9 ⟨rfl, rfl⟩) | (at_builtin; refine wpList_append_own_at _ rfl (.tmp 48) (.tmp 52) 29 rfl w.heap.size 5 i0 _ 1 1 Tryd.underlying29 hi hz0 hz1 hz2 rfl (by decide) _ _ _ rfl (hown4.alloc _) ⟨w4.heap.size, 0, none⟩ 1 1 [.int .u8 (xop % 256)] rfl rfl (Kit.news_one w4 (.int .u8 (xop % 256)) 5) (Kit.ones_one rfl) (by unfold maxLen; omega) (by omega) (by simp only [World.size_alloc]; omega) ?_; intro v1 w5 hown5 hgrow5 _ hk5; have hg5 := Kit.grows_append ((Below.refl _ w4).alloc (Nat.le_refl _) _) hgrow5 hk5; have hz7 := hg5.size; have hz8 : wr.heap.size < w5.heap.size := (by omega); have hc5 : ∀ j, w5.cell? ⟨wr.heap.size, j, none⟩ = w4.cell? ⟨wr.heap.size, j, none⟩ := (fun j => hg5.cell hz6 (fun g hg => by have := hownlt g hg; omega) j); clear hgrow5 hk5) | (at_builtin; refine wpList_append_own_at _ rfl (.tmp 70) (.tmp 76) 29 rfl w.heap.size 5 i0 _ 1 1 Tryd.underlying29 hi hz0 hz1 hz2 rfl (by decide) _ _ _ rfl (hown5.alloc _) ⟨w5.heap.size, 0, none⟩ 2 2 [.int .u8 (xa / 256 % 256), .int .u8 (xa % 256)] rfl rfl (news_two w5 (.int .u8 (xa / 256 % 256)) (.int .u8 (xa % 256)) 5) (ones_two rfl rfl) (by unfold maxLen; omega) (by omega) (by simp only [World.size_alloc]; omega) ?_; intro v2 w6 hown6 hgrow6 _ hk6))
              have hb5' := hg5.to_below hb4' (by omega) (Kit.own_base hown4)
              have hg6 := Kit.grows_append ((Below.refl _ w5).alloc (Nat.le_refl _) _) hgrow6 hk6
              have hb6' := hg6.to_below hb5' (by omega) (Kit.own_base hown5)
              have hob6 : OwnB w6 w.heap.size v2 (bs ++ enc1 ⟨xp, xop, xa, xb⟩) := by rw [HEn.out]; exact ownB_app hown6 (by simp [tail8]) (by simp [byteVals, by8_nat, tail8])
              go_roundw
              case rel => exact ⟨k + 1, bs ++ enc1 ⟨xp, xop, xa, xb⟩, by omega, by go_num, hob6, HE, hob, hb6'⟩
              case measure => simp [intOf]; omega
            · go_wp2_with (first | (go_at_call 11; refine (HForm.out _).mono ?_; rintro e w3 ⟨rfl, hb3⟩; obtain ⟨hcc, hff⟩ := bcell hb3; have hz3 := hb3.size; simp only [World.size_alloc] at hz3; have hz4 : wr.heap.size < w3.heap.size := (by omega)) | (go_at_call 49; refine (HFit.out _).mono ?_; rintro e w4 ⟨rfl, hb4⟩; obtain ⟨hcc4, hff4⟩ := bcell hb4; have hz5 := hb4.size; have hz6 : wr.heap.size < w4.heap.size := (by omega); have hb4' := belows (belows (belows hbl ((Below.refl _ wr).alloc (Nat.le_refl _) _) hzr) hb3 (by simp only [World.size_alloc]; omega)) hb4 (by omega); have hown4 := Kit.owns_below (Kit.owns_below (Kit.owns_below hown ((Below.refl _ wr).alloc (Nat.le_refl _) _) (Nat.le_refl _)) hb3 (Nat.le_refl _)) hb4 (Nat.le_refl _)) | (go_at_call 40; refine (HBeh.out _).mono ?_; rintro e w9 ⟨rfl, rfl⟩) | (at_builtin; refine wpList_append_own_at _ rfl (.tmp 48) (.tmp 52) 29 rfl w.heap.size 5 i0 _ 1 1 Tryd.underlying29 hi hz0 hz1 hz2 rfl (by decide) _ _ _ rfl (hown4.alloc _) ⟨w4.heap.size, 0, none⟩ 1 1 [.int .u8 (xop % 256)] rfl rfl (Kit.news_one w4 (.int .u8 (xop % 256)) 5) (Kit.ones_one rfl) (by unfold maxLen; omega) (by omega) (by simp only [World.size_alloc]; omega) ?_; intro v1 w5 hown5 hgrow5 _ hk5; have hg5 := Kit.grows_append ((Below.refl _ w4).alloc (Nat.le_refl _) _) hgrow5 hk5; have hz7 := hg5.size; have hz8 : wr.heap.size < w5.heap.size := (by omega); have hc5 : ∀ j, w5.cell? ⟨wr.heap.size, j, none⟩ = w4.cell? ⟨wr.heap.size, j, none⟩ := (fun j => hg5.cell hz6 (fun g hg => by have := hownlt g hg; omega) j); clear hgrow5 hk5) | (at_builtin; refine wpList_append_own_at _ rfl (.tmp 70) (.tmp 76) 29 rfl w.heap.size 5 i0 _ 1 1 Tryd.underlying29 hi hz0 hz1 hz2 rfl (by decide) _ _ _ rfl (hown5.alloc _) ⟨w5.heap.size, 0, none⟩ 2 2 [.int .u8 (xa / 256 % 256), .int .u8 (xa % 256)] rfl rfl (news_two w5 (.int .u8 (xa / 256 % 256)) (.int .u8 (xa % 256)) 5) (ones_two rfl rfl) (by unfold maxLen; omega) (by omega) (by simp only [World.size_alloc]; omega) ?_; intro v2 w6 hown6 hgrow6 _ hk6))
              have hb5' := hg5.to_below hb4' (by omega) (Kit.own_base hown4)
              have hg6 := Kit.grows_append ((Below.refl _ w5).alloc (Nat.le_refl _) _) hgrow6 hk6
              have hb6' := hg6.to_below hb5' (by omega) (Kit.own_base hown5)
              have hob6 : OwnB w6 w.heap.size v2 (bs ++ enc1 ⟨xp, xop, xa, xb⟩) := by rw [HEn.out]; exact ownB_app hown6 (by simp [tail8]) (by simp [byteVals, by8_nat, tail8])
              go_roundw
              case rel => exact ⟨k + 1, bs ++ enc1 ⟨xp, xop, xa, xb⟩, by omega, by go_num, hob6, HE, hob, hb6'⟩
              case measure => simp [intOf]; omega
            · go_wp2_with (first | (go_at_call 11; refine (HForm.out _).mono ?_; rintro e w3 ⟨rfl, hb3⟩; obtain ⟨hcc, hff⟩ := bcell hb3; have hz3 := hb3.size; simp only [World.size_alloc] at hz3; have hz4 : wr.heap.size < w3.heap.size := (by omega)) | (go_at_call 49; refine (HFit.out _).mono ?_; rintro e w4 ⟨rfl, hb4⟩; obtain ⟨hcc4, hff4⟩ := bcell hb4; have hz5 := hb4.size; have hz6 : wr.heap.size < w4.heap.size := (by omega); have hb4' := belows (belows (belows hbl ((Below.refl _ wr).alloc (Nat.le_refl _) _) hzr) hb3 (by simp only [World.size_alloc]; omega)) hb4 (by omega); have hown4 := Kit.owns_below (Kit.owns_below (Kit.owns_below hown ((Below.refl _ wr).alloc (Nat.le_refl _) _) (Nat.le_refl _)) hb3 (Nat.le_refl _)) hb4 (Nat.le_refl _)) | (go_at_call 40; refine (HBeh.out _).mono ?_; rintro e w9 ⟨rfl, rfl⟩) | (at_builtin; refine wpList_append_own_at _ rfl (.tmp 48) (.tmp 52) 29 rfl w.heap.size 5 i0 _ 1 1 Tryd.underlying29 hi hz0 hz1 hz2 rfl (by decide) _ _ _ rfl (hown4.alloc _) ⟨w4.heap.size, 0, none⟩ 1 1 [.int .u8 (xop % 256)] rfl rfl (Kit.news_one w4 (.int .u8 (xop % 256)) 5) (Kit.ones_one rfl) (by unfold maxLen; omega) (by omega) (by simp only [World.size_alloc]; omega) ?_; intro v1 w5 hown5 hgrow5 _ hk5; have hg5 := Kit.grows_append ((Below.refl _ w4).alloc (Nat.le_refl _) _) hgrow5 hk5; have hz7 := hg5.size; have hz8 : wr.heap.size < w5.heap.size := (by omega); have hc5 : ∀ j, w5.cell? ⟨wr.heap.size, j, none⟩ = w4.cell? ⟨wr.heap.size, j, none⟩ := (fun j => hg5.cell hz6 (fun g hg => by have := hownlt g hg; omega) j); clear hgrow5 hk5) | (at_builtin; refine wpList_append_own_at _ rfl (.tmp 70) (.tmp 76) 29 rfl w.heap.size 5 i0 _ 1 1 Tryd.underlying29 hi hz0 hz1 hz2 rfl (by decide) _ _ _ rfl (hown5.alloc _) ⟨w5.heap.size, 0, none⟩ 2 2 [.int .u8 (wrap64 (xa - xp) / 256 % 256), .int .u8 (wrap64 (xa - xp) % 256)] rfl rfl (news_two w5 (.int .u8 (wrap64 (xa - xp) / 256 % 256)) (.int .u8 (wrap64 (xa - xp) % 256)) 5) (ones_two rfl rfl) (by unfold maxLen; omega) (by omega) (by simp only [World.size_alloc]; omega) ?_; intro v2 w6 hown6 hgrow6 _ hk6))
              have hb5' := hg5.to_below hb4' (by omega) (Kit.own_base hown4)
              have hg6 := Kit.grows_append ((Below.refl _ w5).alloc (Nat.le_refl _) _) hgrow6 hk6
              have hb6' := hg6.to_below hb5' (by omega) (Kit.own_base hown5)
              have hob6 : OwnB w6 w.heap.size v2 (bs ++ enc1 ⟨xp, xop, xa, xb⟩) := by rw [HEn.out]; exact ownB_app hown6 (by simp [tail8]) (by simp [byteVals, by8_nat, tail8])
              go_roundw
              case rel => exact ⟨k + 1, bs ++ enc1 ⟨xp, xop, xa, xb⟩, by omega, by go_num, hob6, HE, hob, hb6'⟩
              case measure => simp [intOf]; omega
            · go_wp2_with (first | (go_at_call 11; refine (HForm.out _).mono ?_; rintro e w3 ⟨rfl, hb3⟩; obtain ⟨hcc, hff⟩ := bcell hb3; have hz3 := hb3.size; simp only [World.size_alloc] at hz3; have hz4 : wr.heap.size < w3.heap.size := (by omega)) | (go_at_call 49; refine (HFit.out _).mono ?_; rintro e w4 ⟨rfl, hb4⟩; obtain ⟨hcc4, hff4⟩ := bcell hb4; have hz5 := hb4.size; have hz6 : wr.heap.size < w4.heap.size := (by omega); have hb4' := belows (belows (belows hbl ((Below.refl _ wr).alloc (Nat.le_refl _) _) hzr) hb3 (by simp only [World.size_alloc]; omega)) hb4 (by omega); have hown4 := Kit.owns_below (Kit.owns_below (Kit.owns_below hown ((Below.refl _ wr).alloc (Nat.le_refl _) _) (Nat.le_refl _)) hb3 (Nat.le_refl _)) hb4 (Nat.le_refl _)) | (go_at_call 40; refine (HBeh.out _).mono ?_; rintro e w9 ⟨rfl, rfl⟩) | (at_builtin; refine wpList_append_own_at _ rfl (.tmp 48) (.tmp 52) 29 rfl w.heap.size 5 i0 _ 1 1 Tryd.underlying29 hi hz0 hz1 hz2 rfl (by decide) _ _ _ rfl (hown4.alloc _) ⟨w4.heap.size, 0, none⟩ 1 1 [.int .u8 (xop % 256)] rfl rfl (Kit.news_one w4 (.int .u8 (xop % 256)) 5) (Kit.ones_one rfl) (by unfold maxLen; omega) (by omega) (by simp only [World.size_alloc]; omega) ?_; intro v1 w5 hown5 hgrow5 _ hk5; have hg5 := Kit.grows_append ((Below.refl _ w4).alloc (Nat.le_refl _) _) hgrow5 hk5; have hz7 := hg5.size; have hz8 : wr.heap.size < w5.heap.size := (by omega); have hc5 : ∀ j, w5.cell? ⟨wr.heap.size, j, none⟩ = w4.cell? ⟨wr.heap.size, j, none⟩ := (fun j => hg5.cell hz6 (fun g hg => by have := hownlt g hg; omega) j); clear hgrow5 hk5) | (at_builtin; refine wpList_append_own_at _ rfl (.tmp 57) (.tmp 64) 29 rfl w.heap.size 5 i0 _ 1 1 Tryd.underlying29 hi hz0 hz1 hz2 rfl (by decide) _ _ _ rfl (hown5.alloc _) ⟨w5.heap.size, 0, none⟩ 2 2 [.int .u8 (xa % 256), .int .u8 (xb % 256)] rfl rfl (news_two w5 (.int .u8 (xa % 256)) (.int .u8 (xb % 256)) 5) (ones_two rfl rfl) (by unfold maxLen; omega) (by omega) (by simp only [World.size_alloc]; omega) ?_; intro v2 w6 hown6 hgrow6 _ hk6))
              have hb5' := hg5.to_below hb4' (by omega) (Kit.own_base hown4)
              have hg6 := Kit.grows_append ((Below.refl _ w5).alloc (Nat.le_refl _) _) hgrow6 hk6
              have hb6' := hg6.to_below hb5' (by omega) (Kit.own_base hown5)
              have hob6 : OwnB w6 w.heap.size v2 (bs ++ enc1 ⟨xp, xop, xa, xb⟩) := by rw [HEn.out]; exact ownB_app hown6 (by simp [tail8]) (by simp [byteVals, by8_nat, tail8])
              go_roundw
              case rel => exact ⟨k + 1, bs ++ enc1 ⟨xp, xop, xa, xb⟩, by omega, by go_num, hob6, HE, hob, hb6'⟩
              case measure => simp [intOf]; omega
        · have hgood : goodI x bs.length = false := by unfold goodI; simp [hp]
          rw [if_pos hgood] at henc'
          have HE := hid henc'
          have hpb : (x.p != (bs.length : Int)) = true := by simpa using hp
          generalize Op1.formOf x.op = f at *
          obtain ⟨xp, xop, xa, xb⟩ := x
          dsimp only at c0 c1 c2 c3 HForm hpb
          clear henc' hdrop hx hv hop henc hp hgood hop'
          go_wp2_with (go_at_call 11; refine (HForm.out _).mono ?_; rintro e w3 ⟨rfl, hb3⟩; obtain ⟨hcc, hff⟩ := bcell hb3; have hz3 := hb3.size; simp only [World.size_alloc] at hz3; have hz4 : wr.heap.size < w3.heap.size := (by omega))
          go_ret2
          exact ⟨_, _, _, rfl, HE.out, nilB _ _, belows (belows hbl ((Below.refl _ _).alloc (Nat.le_refl _) _) hzr) hb3 (by simp only [World.size_alloc]; omega)⟩
    · have hk' : k = l.length := by omega
      have hd : l.drop k = [] := by rw [hk']; simp
      have henc' := henc.out
      rw [hd] at henc'
      have hgo : encGo [] bs = if 4096 < bs.length then ([], 3) else (bs, 0) := rfl
      rw [hgo] at henc'
      subst hk'
      by_cases hbig : 4096 < bs.length
      · rw [if_pos hbig] at henc'
        have HE := hid henc'
        clear henc' henc hgo hd
        have hd1 : decide (4096 < (bs.length : Int)) = true := by simp; omega
        go_wp2
        go_ret2
        exact ⟨_, _, _, rfl, HE.out, nilB _ _, (by repeat' first | with_reducible exact Below.refl _ _ | with_reducible assumption | with_reducible refine belows_drewN ?_ _ | with_reducible refine Below.drew ?_ | with_reducible refine Below.setCell ?_ ?_ _ | with_reducible refine Below.alloc ?_ ?_ _ | omega | (simp; done) | (simp; omega))⟩
      · rw [if_neg hbig] at henc'
        have HE := hid henc'
        clear henc' henc hgo hd
        have hd1 : decide (4096 < (bs.length : Int)) = false := by simp; omega
        go_wp2
        go_ret2
        exact ⟨_, _, _, rfl, HE.out, hown, (by repeat' first | with_reducible exact Below.refl _ _ | with_reducible assumption | with_reducible refine belows_drewN ?_ _ | with_reducible refine Below.drew ?_ | with_reducible refine Below.setCell ?_ ?_ _ | with_reducible refine Below.alloc ?_ ?_ _ | omega | (simp; done) | (simp; omega))⟩
end Go.Proofs.YtknacnbicmafjaaDoor

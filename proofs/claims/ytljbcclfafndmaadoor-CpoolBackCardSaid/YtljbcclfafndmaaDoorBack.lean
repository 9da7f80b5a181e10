/- What the law of reading and writing back asks of the pure facts. -/
import Derived.Test.YtljbcclfafndmaaDoorDv
import Derived.Test.YtljbcclfafndmaaDoorDw
import Derived.Test.YtljbcclfafndmaaDoorDj
import Derived.Test.YtljbcclfafndmaaDoorDd
import Derived.Test.YtljbcclfafndmaaDoorOpn
import Derived.Deep.DeepAppendWide
namespace Go.Proofs.YtljbcclfafndmaaDoor
open Go.RowKit

theorem take_eq {bs : List UInt8} {v : Value} {w : World} {o : List Cp.C × Int × Int} (ht : Tabs w) (hv : Bs w.heap.size w v bs) (ho : tkOut bs = o) : Calls Tryd.prog 10 #[v] w (TkPost o w) := by
  subst ho
  exact take_any bs v w ht hv
theorem ck_sizes {l : List Cp.C} (h : CkIs l 0) : ∀ c ∈ l, c.s.size ≤ 140737488355328 := by
  intro c hc
  obtain ⟨k, hk, hkc⟩ := List.getElem_of_mem hc
  have hk2 : l[k]? = some c := by rw [List.getElem?_eq_getElem hk, hkc]
  have h1 := (ck_all.1 h).2 k hk
  cases hp : prevB l k with
  | true =>
    obtain rfl := err_none h1 hk2 hp
    show 0 ≤ 140737488355328
    omega
  | false =>
    have := (ce_size (err_some h1 hk2 hp).1).2.2.1
    omega
theorem putB_pos (l : List Cp.C) : 2 ≤ (putB l).length := by
  unfold putB
  rw [List.length_append, bytesN_len]
  omega
theorem byt_bytes (ms : List UInt8) : Byt (ms.map fun b => (b.toNat : Int)) := fun x hx => by
  obtain ⟨b, -, rfl⟩ := List.mem_map.1 hx
  have := b.toNat_lt
  omega
theorem putB_max {l : List Cp.C} (h : CkIs l 0) : (putB l).length ≤ 2000000 := by
  have h1 := ck_size h
  have h2 := encT_len h1.2 (told l l.length)
  have h3 := told_len l l.length
  unfold putB
  rw [List.length_append, bytesN_len]
  omega
theorem tk_of {bs r : List UInt8} {l : List Cp.C} {n : Int} (h : plP bs = .ok (l, r)) (hn : (bs.length : Int) - (r.length : Int) = n) : tkOut bs = (l, n, 0) := by
  subst hn
  unfold tkOut
  rw [h]
theorem tk_back {l : List Cp.C} (h : CkIs l 0) (hn : ∀ c ∈ l, I6 c.n) {ms : List UInt8} {Z : List Int} (hZ : bsOf Z = bsOf (putB l) ++ ms) {N : Int} (hN : ((putB l).length : Int) = N) : tkOut (bsOf Z) = (l, N, 0) := by
  refine tk_of (r := ms) (by rw [hZ]; exact pl_back h hn ms) ?_
  have e : (bsOf Z).length = (putB l).length + ms.length := by rw [hZ, List.length_append, bsOf_len]
  omega
theorem tk_forth {bs r : List UInt8} {l : List Cp.C} (h : plP bs = .ok (l, r)) : tkOut bs = (l, ((putB l).length : Int), 0) ∧ bs.length = (putB l).length + r.length := by
  have h3 : bs.length = (putB l).length + r.length := by
    have := congrArg List.length (pl_forth h).2.2
    rwa [List.length_append, bsOf_len] at this
  exact ⟨tk_of h (by omega), h3⟩
/-- The head of bytes that were handed in. -/
theorem is_head {W : World} {b o cap : Nat} {bs r : List UInt8} {zs : List Int} (hz : Byt zs) (hb : bs = bsOf zs ++ r) (_ : 0 < zs.length) (hn : zs.length ≤ 140737488355328) (hcap : bs.length ≤ cap) (hlt : b < W.heap.size) (hc : ∀ i c, bs[i]? = some c → W.cell? ⟨b, o + i, none⟩ = some (bv c)) : Kit.IsS 1 W (.slice (some ⟨b, o, none⟩) zs.length cap) zs.length (zs.map (Value.int .u8)) := by
  have hle : zs.length ≤ bs.length := by rw [hb, List.length_append, bsOf_len]; omega
  refine ⟨by simp, hn, .inr ⟨b, o, cap, rfl, by omega, hlt, fun i u hu => ?_⟩⟩
  rw [List.getElem?_map, Option.map_eq_some_iff] at hu
  obtain ⟨z, hzi, rfl⟩ := hu
  have hi : i < zs.length := (List.getElem?_eq_some_iff.1 hzi).1
  rw [hc i (UInt8.ofNat z.toNat) (by rw [hb, List.getElem?_append_left (by rw [bsOf_len]; exact hi)]; unfold bsOf; rw [List.getElem?_map, hzi]; rfl), bv_of (hz z (List.mem_of_getElem? hzi))]
set_option maxRecDepth 100000 in
set_option maxHeartbeats 4000000 in
theorem back_some (l : List Cp.C) (bs ms : List UInt8) (v u : Value) (ad : Addr) (capm : Nat) (w : World) (ht : Tabs w) (hv : Kit.IsS 5 w v l.length (l.flatMap cL)) (hg : ∀ x ∈ l, GoodC x) (hb : Bs w.heap.size w u bs) (hml : ms.length ≤ 140737488351232) (hc : ∀ j y, ((ms.map fun b => (b.toNat : Int)).map (Value.int .u8))[j]? = some y → w.cell? (ad.add j) = some y) :
    Calls Tryd.prog 7 #[v, u, .slice (some ad) ms.length capm] w fun e w' => e = .returned (.bool true) ∧ Below w.heap.size w w' := by
  have hs0 := ht.size
  have HT := hid (fun W (h : Below w.heap.size w W) => ht.below h ht.size)
  have HV := hid (fun W (h : Below w.heap.size w W) => hv.below h (Nat.le_refl _))
  have HU := hid (fun W (h : Below w.heap.size w W) => (hb.below h (Nat.le_refl _)).mono h.size)
  have HG := hid (fun c (h : c ∈ l) => (hg c h).s)
  have HGn := hid (fun c (h : c ∈ l) => (hg c h).n)
  obtain ⟨i0, hi, hz0, hz1, hz2⟩ := info_parts infoB
  obtain ⟨a, cap, rfl⟩ := hv.len
  have hbs := hb.1
  obtain ⟨ms', hms⟩ : ∃ ms' : List Int, ms' = ms.map fun b => (b.toNat : Int) := ⟨_, rfl⟩
  have hms1 : ms'.length = ms.length := by rw [hms]; simp
  have HM1 := hid hms1
  have HMs := hid hms
  have HMc := hid (fun W (h : Below w.heap.size w W) j y (hj : (ms'.map (Value.int .u8))[j]? = some y) => (show W.cell? (ad.add j) = some y by rw [h.cell (World.block_lt_of_cell? w _ (hc j y (hms ▸ hj)))]; exact hc j y (hms ▸ hj)))
  have H1 := hid (show ∀ y ∈ ms'.map (Value.int .u8), y.oneCell' = true by
    intro y hy
    obtain ⟨z, -, rfl⟩ := List.mem_map.1 hy
    rfl)
  clear hc
  clear ht hv hg
  by_cases h0 : CkIs l 0
  case neg =>
    have H0 := hid h0
    clear h0 hms hms1
    cases hpl : plP bs with
    | error er2 =>
      have hne3 : (er2 != 0) = true := by simpa using plP_err hpl
      have HTk2 := hid (show tkOut bs = ([], 0, er2) by unfold tkOut; rw [hpl])
      obtain ⟨ua, ucap, rfl⟩ := hb.len
      clear hpl hb
      go_enter Tryd.func7, Tryd.ntmps7
      go_wp2_with (first
        | (go_at_call 10; have _g := B2; refine (take_eq (HT.out _ B2) (HU.out _ B2) HTk2.out).mono ?_; rintro e w7 ⟨v7, rfl, o7, hb7⟩; dsimp only at o7; have B7 := belows B2 hb7 B2.size; clear o7 hb7)
        | (go_at_call 12; refine (live_any _ (HT.out _ (by repeat' first | with_reducible exact Below.refl _ _ | with_reducible assumption | with_reducible refine belows_drewN ?_ _ | with_reducible refine Below.drew ?_ | with_reducible refine Below.setCell ?_ ?_ _ | with_reducible refine Below.alloc ?_ ?_ _ | omega | (simp; done) | (simp; omega)))).mono ?_; rintro e w1 ⟨rfl, B1⟩)
        | (go_at_call 14; refine (put_any l _ _ (HT.out _ B1) (HV.out _ B1) HG.out).mono ?_; rintro e w2 ⟨er, hck, h1, -, hb2⟩; have hne : er ≠ 0 := (by rintro rfl; exact H0.out hck); have he := h1 hne; subst he; have hne2 : (er == 0) = false := (by simpa using hne); have B2 := belows B1 hb2 B1.size; clear hck h1 hb2 hne))
      all_goals go_ret
      all_goals exact ⟨rfl, B7⟩
    | ok y =>
      obtain ⟨l2, r⟩ := y
      obtain ⟨k1, k2, k3⟩ := pl_forth hpl
      obtain ⟨k4, k5⟩ := tk_forth hpl
      have hl2 := (ck_size k1).1
      have hN2a := putB_max k1
      have hN2b := putB_pos l2
      have HK2 := hid k1
      have HG2 := hid (ck_sizes k1)
      have hb0 := hb.2.resolve_left (by rintro ⟨rfl, -⟩; rw [List.length_nil] at k5; omega)
      obtain ⟨b, o, ucap, rfl, q1, q2, q3⟩ := hb0
      obtain ⟨N2, hN2⟩ : ∃ N2, (putB l2).length = N2 := ⟨_, rfl⟩
      have HEq := hid (fun W g8 cap8 (h : Below w.heap.size w W) (h8 : Kit.IsS 1 W (.slice (some ⟨g8, 0, none⟩) N2 cap8) (putB l2).length ((putB l2).map (Value.int .u8))) => show Calls Tryd.prog 16 #[.slice (some ⟨g8, 0, none⟩) N2 cap8, .slice (some ⟨b, o, none⟩) N2 ucap] W (fun e w' => e = .returned (.bool true) ∧ W = w') by
        have hh := is_head (W := W) (b := b) (o := o) (cap := ucap) (bs := bs) (r := r) (byt_putB l2) k3 (by omega) (by omega) q1 (by have := h.size; omega) (fun i c hc => by rw [h.cell (p := ⟨b, o + i, none⟩) q2]; exact q3 i c hc)
        rw [hN2] at hh
        refine bequal_any (putB l2) _ _ W h8 ?_
        rw [hN2]
        exact hh)
      rw [hN2] at k4 k5 hN2a hN2b
      have HTk2 := hid k4
      have HN2 := hid hN2
      have s1 : decide (N2 ≤ bs.length) = true := by simp; omega
      have s2 : (0 : Int) ≤ (N2 : Int) := by omega
      have s3 : (N2 : Int) ≤ (ucap : Int) := by omega
      have s4 : ¬ ucap = 0 := by omega
      have s5 : decide ((N2 : Int) ≤ (bs.length : Int)) = true := by simp; omega
      clear hpl k1 k3 k4 k5 hN2 hb q3
      go_enter Tryd.func7, Tryd.ntmps7
      go_wp2_with (first
        | (go_at_call 10; have _g := B2; refine (take_eq (HT.out _ B2) (HU.out _ B2) HTk2.out).mono ?_; rintro e w7 ⟨v7, rfl, o7, hb7⟩; dsimp only at o7; obtain ⟨a7, cap7, rfl⟩ := own_form o7; have B7 := belows B2 hb7 B2.size; have HS7 := hid (Kit.isS_of_owns o7 (by omega)); clear o7 hb7)
        | (go_at_call 12; refine (live_any _ (HT.out _ (by repeat' first | with_reducible exact Below.refl _ _ | with_reducible assumption | with_reducible refine belows_drewN ?_ _ | with_reducible refine Below.drew ?_ | with_reducible refine Below.setCell ?_ ?_ _ | with_reducible refine Below.alloc ?_ ?_ _ | omega | (simp; done) | (simp; omega)))).mono ?_; rintro e w1 ⟨rfl, B1⟩)
        | (go_at_call 14; have _g := B7; refine (put_any l2 _ _ (HT.out _ B7) HS7.out HG2.out).mono ?_; rintro e w8 ⟨er8, hck, -, h2, hb8⟩; obtain rfl := CkIs.det hck HK2.out; obtain ⟨v8, rfl, o8⟩ := h2 rfl; obtain ⟨g8, cap8, rfl⟩ := own_formI o8 N2 HN2.out (by omega); have B8 := belows B7 hb8 B7.size; have HS8 := hid (Kit.isS_of_owns o8 (by (have := HN2.out; omega))); clear hck h2 hb8 o8)
        | (go_at_call 16; refine (HEq.out _ _ _ B8 HS8.out).mono ?_; rintro e w9 ⟨rfl, rfl⟩)
        | (go_at_call 14; refine (put_any l _ _ (HT.out _ B1) (HV.out _ B1) HG.out).mono ?_; rintro e w2 ⟨er, hck, h1, -, hb2⟩; have hne : er ≠ 0 := (by rintro rfl; exact H0.out hck); have he := h1 hne; subst he; have hne2 : (er == 0) = false := (by simpa using hne); have B2 := belows B1 hb2 B1.size; clear hck h1 hb2 hne))
      all_goals go_ret
      all_goals exact ⟨rfl, B8⟩
  case pos =>
    have hl4 := (ck_size h0).1
    have hNa := putB_max h0
    have hNb := putB_pos l
    have H0 := hid h0
    obtain ⟨N, hN⟩ : ∃ N, (putB l).length = N := ⟨_, rfl⟩
    obtain ⟨Z, hZ⟩ : ∃ Z, Z = putB l ++ ms' := ⟨_, rfl⟩
    have hNZ : Z.length = N + ms.length := by rw [hZ, List.length_append, hN, hms1]
    have htk := tk_back (N := (N : Int)) h0 HGn.out (ms := ms) (Z := Z) (by rw [hZ, hms, bsOf_app, bsOf_text]) (by rw [hN])
    rw [hN] at hNa hNb
    have HTk := hid htk
    have HN := hid hN
    have HZ := hid (show Z = putB l ++ ms' from hZ)
    have HBy := hid (show Byt Z by rw [hZ, hms]; exact byt_app (byt_putB l) (byt_bytes ms))
    obtain ⟨NZ, hNZ2⟩ : ∃ NZ, NZ = N + ms.length := ⟨_, rfl⟩
    have HNZ := hid (show Z.length = NZ by rw [hNZ, hNZ2])
    have hz5 : 0 < NZ := by omega
    have hz6 : NZ ≤ 140737488351232 + 2000000 := by omega
    clear h0 htk hN hZ hNZ hNZ2 hms hms1
    cases hpl : plP bs with
    | error er2 =>
      have hne3 : (er2 != 0) = true := by simpa using plP_err hpl
      have HTk2 := hid (show tkOut bs = ([], 0, er2) by unfold tkOut; rw [hpl])
      obtain ⟨ua, ucap, rfl⟩ := hb.len
      clear hpl hb
      go_enter Tryd.func7, Tryd.ntmps7
      go_wp2_with (first
        | (go_at_call 10; have _g := B6; refine (take_eq (HT.out _ B6) (HU.out _ B6) HTk2.out).mono ?_; rintro e w7 ⟨v7, rfl, o7, hb7⟩; dsimp only at o7; have B7 := belows B6 hb7 B6.size; clear o7 hb7)
        | (go_at_call 12; refine (live_any _ (HT.out _ (by repeat' first | with_reducible exact Below.refl _ _ | with_reducible assumption | with_reducible refine belows_drewN ?_ _ | with_reducible refine Below.drew ?_ | with_reducible refine Below.setCell ?_ ?_ _ | with_reducible refine Below.alloc ?_ ?_ _ | omega | (simp; done) | (simp; omega)))).mono ?_; rintro e w1 ⟨rfl, B1⟩)
        | (go_at_call 14; refine (put_any l _ _ (HT.out _ B1) (HV.out _ B1) HG.out).mono ?_; rintro e w2 ⟨er, hck, -, h2, hb2⟩; obtain rfl := CkIs.det hck H0.out; obtain ⟨v2, rfl, o2⟩ := h2 rfl; obtain ⟨g2, cap2, rfl⟩ := own_formI o2 N HN.out (by omega); have B2 := belows B1 hb2 B1.size; have O2 := hid o2; clear hck h2 hb2 o2)
        | (go_at_call 32; refine (bclone_own _ (putB l) g2 cap2 N _ O2.out HN.out (by omega) (by (have := HN.out; omega))).mono ?_; rintro e w3 ⟨v3, rfl, o3, hb3⟩; obtain ⟨g3, cap3, rfl⟩ := own_formI o3 N HN.out (by omega); have B3 := belows B2 hb3 B2.size; have O3 := hid o3; have hz3 := hb3.size; clear hb3 o3)
        | (at_builtin; refine wpList_append_own_wide _ rfl (.tmp 27) (.tmp 28) 22 rfl w2.heap.size 5 i0 _ 1 1 Tryd.underlying22 hi hz0 hz1 hz2 rfl (by decide) _ N ((putB l).map (Value.int .u8)) rfl (O3.out.at_len N HN.out) ad ms.length capm (ms'.map (Value.int .u8)) rfl (by rw [List.length_map, HM1.out, Nat.mul_one]) (HMc.out w3 B3) H1.out (by unfold maxLen; omega) (by omega) hz3 ?_; intro v4 w4 o4' hg4 _; have o4 : OwnI w4 w2.heap.size v4 Z := (by rw [HZ.out]; unfold OwnI; rw [List.length_append, HN.out, List.map_append, HM1.out]; exact o4'); have B4 := B3.grown hg4 B3.size (fun k e => by (have := Kit.own_base O3.out k e; have := B2.size; omega)); have hbs4 := bs_of_own o4 HBy.out (by (have := HNZ.out; omega)); obtain ⟨g4, cap4, rfl⟩ := own_formI o4 NZ HNZ.out (by omega); have HBs4 := hid hbs4; clear o4 o4' hg4 hbs4)
        | (go_at_call 10; refine (take_eq (HT.out _ B4) HBs4.out HTk.out).mono ?_; rintro e w5 ⟨v5, rfl, o5, hb5⟩; dsimp only at o5; obtain ⟨a5, cap5, rfl⟩ := own_form o5; have B5 := belows B4 hb5 B4.size; have HS5 := hid (Kit.isS_of_owns o5 (by omega)); clear o5 hb5)
        | (go_at_call 13; refine (same_any l _ _ _ HS5.out (HV.out _ B5)).mono ?_; rintro e w6 ⟨rfl, hb6⟩; have B6 := belows B5 hb6 B5.size; clear hb6))
      all_goals go_ret
      all_goals exact ⟨rfl, B7⟩
    | ok y =>
      obtain ⟨l2, r⟩ := y
      obtain ⟨k1, k2, k3⟩ := pl_forth hpl
      obtain ⟨k4, k5⟩ := tk_forth hpl
      have hl2 := (ck_size k1).1
      have hN2a := putB_max k1
      have hN2b := putB_pos l2
      have HK2 := hid k1
      have HG2 := hid (ck_sizes k1)
      have hb0 := hb.2.resolve_left (by rintro ⟨rfl, -⟩; rw [List.length_nil] at k5; omega)
      obtain ⟨b, o, ucap, rfl, q1, q2, q3⟩ := hb0
      obtain ⟨N2, hN2⟩ : ∃ N2, (putB l2).length = N2 := ⟨_, rfl⟩
      have HEq := hid (fun W g8 cap8 (h : Below w.heap.size w W) (h8 : Kit.IsS 1 W (.slice (some ⟨g8, 0, none⟩) N2 cap8) (putB l2).length ((putB l2).map (Value.int .u8))) => show Calls Tryd.prog 16 #[.slice (some ⟨g8, 0, none⟩) N2 cap8, .slice (some ⟨b, o, none⟩) N2 ucap] W (fun e w' => e = .returned (.bool true) ∧ W = w') by
        have hh := is_head (W := W) (b := b) (o := o) (cap := ucap) (bs := bs) (r := r) (byt_putB l2) k3 (by omega) (by omega) q1 (by have := h.size; omega) (fun i c hc => by rw [h.cell (p := ⟨b, o + i, none⟩) q2]; exact q3 i c hc)
        rw [hN2] at hh
        refine bequal_any (putB l2) _ _ W h8 ?_
        rw [hN2]
        exact hh)
      rw [hN2] at k4 k5 hN2a hN2b
      have HTk2 := hid k4
      have HN2 := hid hN2
      have s1 : decide (N2 ≤ bs.length) = true := by simp; omega
      have s2 : (0 : Int) ≤ (N2 : Int) := by omega
      have s3 : (N2 : Int) ≤ (ucap : Int) := by omega
      have s4 : ¬ ucap = 0 := by omega
      have s5 : decide ((N2 : Int) ≤ (bs.length : Int)) = true := by simp; omega
      clear hpl k1 k3 k4 k5 hN2 hb q3
      go_enter Tryd.func7, Tryd.ntmps7
      go_wp2_with (first
        | (go_at_call 10; have _g := B6; refine (take_eq (HT.out _ B6) (HU.out _ B6) HTk2.out).mono ?_; rintro e w7 ⟨v7, rfl, o7, hb7⟩; dsimp only at o7; obtain ⟨a7, cap7, rfl⟩ := own_form o7; have B7 := belows B6 hb7 B6.size; have HS7 := hid (Kit.isS_of_owns o7 (by omega)); clear o7 hb7)
        | (go_at_call 14; have _g := B7; refine (put_any l2 _ _ (HT.out _ B7) HS7.out HG2.out).mono ?_; rintro e w8 ⟨er8, hck, -, h2, hb8⟩; obtain rfl := CkIs.det hck HK2.out; obtain ⟨v8, rfl, o8⟩ := h2 rfl; obtain ⟨g8, cap8, rfl⟩ := own_formI o8 N2 HN2.out (by omega); have B8 := belows B7 hb8 B7.size; have HS8 := hid (Kit.isS_of_owns o8 (by (have := HN2.out; omega))); clear hck h2 hb8 o8)
        | (go_at_call 16; refine (HEq.out _ _ _ B8 HS8.out).mono ?_; rintro e w9 ⟨rfl, rfl⟩)
        | (go_at_call 12; refine (live_any _ (HT.out _ (by repeat' first | with_reducible exact Below.refl _ _ | with_reducible assumption | with_reducible refine belows_drewN ?_ _ | with_reducible refine Below.drew ?_ | with_reducible refine Below.setCell ?_ ?_ _ | with_reducible refine Below.alloc ?_ ?_ _ | omega | (simp; done) | (simp; omega)))).mono ?_; rintro e w1 ⟨rfl, B1⟩)
        | (go_at_call 14; refine (put_any l _ _ (HT.out _ B1) (HV.out _ B1) HG.out).mono ?_; rintro e w2 ⟨er, hck, -, h2, hb2⟩; obtain rfl := CkIs.det hck H0.out; obtain ⟨v2, rfl, o2⟩ := h2 rfl; obtain ⟨g2, cap2, rfl⟩ := own_formI o2 N HN.out (by omega); have B2 := belows B1 hb2 B1.size; have O2 := hid o2; clear hck h2 hb2 o2)
        | (go_at_call 32; refine (bclone_own _ (putB l) g2 cap2 N _ O2.out HN.out (by omega) (by (have := HN.out; omega))).mono ?_; rintro e w3 ⟨v3, rfl, o3, hb3⟩; obtain ⟨g3, cap3, rfl⟩ := own_formI o3 N HN.out (by omega); have B3 := belows B2 hb3 B2.size; have O3 := hid o3; have hz3 := hb3.size; clear hb3 o3)
        | (at_builtin; refine wpList_append_own_wide _ rfl (.tmp 27) (.tmp 28) 22 rfl w2.heap.size 5 i0 _ 1 1 Tryd.underlying22 hi hz0 hz1 hz2 rfl (by decide) _ N ((putB l).map (Value.int .u8)) rfl (O3.out.at_len N HN.out) ad ms.length capm (ms'.map (Value.int .u8)) rfl (by rw [List.length_map, HM1.out, Nat.mul_one]) (HMc.out w3 B3) H1.out (by unfold maxLen; omega) (by omega) hz3 ?_; intro v4 w4 o4' hg4 _; have o4 : OwnI w4 w2.heap.size v4 Z := (by rw [HZ.out]; unfold OwnI; rw [List.length_append, HN.out, List.map_append, HM1.out]; exact o4'); have B4 := B3.grown hg4 B3.size (fun k e => by (have := Kit.own_base O3.out k e; have := B2.size; omega)); have hbs4 := bs_of_own o4 HBy.out (by (have := HNZ.out; omega)); obtain ⟨g4, cap4, rfl⟩ := own_formI o4 NZ HNZ.out (by omega); have HBs4 := hid hbs4; clear o4 o4' hg4 hbs4)
        | (go_at_call 10; refine (take_eq (HT.out _ B4) HBs4.out HTk.out).mono ?_; rintro e w5 ⟨v5, rfl, o5, hb5⟩; dsimp only at o5; obtain ⟨a5, cap5, rfl⟩ := own_form o5; have B5 := belows B4 hb5 B4.size; have HS5 := hid (Kit.isS_of_owns o5 (by omega)); clear o5 hb5)
        | (go_at_call 13; refine (same_any l _ _ _ HS5.out (HV.out _ B5)).mono ?_; rintro e w6 ⟨rfl, hb6⟩; have B6 := belows B5 hb6 B5.size; clear hb6))
      all_goals go_ret
      all_goals exact ⟨rfl, B8⟩
set_option maxRecDepth 100000 in
set_option maxHeartbeats 4000000 in
theorem back_none (l : List Cp.C) (bs ms : List UInt8) (v u : Value) (capm : Nat) (w : World) (ht : Tabs w) (hv : Kit.IsS 5 w v l.length (l.flatMap cL)) (hg : ∀ x ∈ l, GoodC x) (hb : Bs w.heap.size w u bs) (hml : ms.length ≤ 140737488351232) (hm0 : ms.length = 0) :
    Calls Tryd.prog 7 #[v, u, .slice none 0 capm] w fun e w' => e = .returned (.bool true) ∧ Below w.heap.size w w' := by
  have hs0 := ht.size
  have HT := hid (fun W (h : Below w.heap.size w W) => ht.below h ht.size)
  have HV := hid (fun W (h : Below w.heap.size w W) => hv.below h (Nat.le_refl _))
  have HU := hid (fun W (h : Below w.heap.size w W) => (hb.below h (Nat.le_refl _)).mono h.size)
  have HG := hid (fun c (h : c ∈ l) => (hg c h).s)
  have HGn := hid (fun c (h : c ∈ l) => (hg c h).n)
  obtain ⟨i0, hi, hz0, hz1, hz2⟩ := info_parts infoB
  obtain ⟨a, cap, rfl⟩ := hv.len
  have hbs := hb.1
  obtain ⟨ms', hms⟩ : ∃ ms' : List Int, ms' = ms.map fun b => (b.toNat : Int) := ⟨_, rfl⟩
  have hms1 : ms'.length = ms.length := by rw [hms]; simp
  have HM1 := hid hms1
  have HMs := hid hms
  have HM0 := hid (List.length_eq_zero_iff.1 hm0)
  clear hm0
  clear ht hv hg
  by_cases h0 : CkIs l 0
  case neg =>
    have H0 := hid h0
    clear h0 hms hms1
    cases hpl : plP bs with
    | error er2 =>
      have hne3 : (er2 != 0) = true := by simpa using plP_err hpl
      have HTk2 := hid (show tkOut bs = ([], 0, er2) by unfold tkOut; rw [hpl])
      obtain ⟨ua, ucap, rfl⟩ := hb.len
      clear hpl hb
      go_enter Tryd.func7, Tryd.ntmps7
      go_wp2_with (first
        | (go_at_call 10; have _g := B2; refine (take_eq (HT.out _ B2) (HU.out _ B2) HTk2.out).mono ?_; rintro e w7 ⟨v7, rfl, o7, hb7⟩; dsimp only at o7; have B7 := belows B2 hb7 B2.size; clear o7 hb7)
        | (go_at_call 12; refine (live_any _ (HT.out _ (by repeat' first | with_reducible exact Below.refl _ _ | with_reducible assumption | with_reducible refine belows_drewN ?_ _ | with_reducible refine Below.drew ?_ | with_reducible refine Below.setCell ?_ ?_ _ | with_reducible refine Below.alloc ?_ ?_ _ | omega | (simp; done) | (simp; omega)))).mono ?_; rintro e w1 ⟨rfl, B1⟩)
        | (go_at_call 14; refine (put_any l _ _ (HT.out _ B1) (HV.out _ B1) HG.out).mono ?_; rintro e w2 ⟨er, hck, h1, -, hb2⟩; have hne : er ≠ 0 := (by rintro rfl; exact H0.out hck); have he := h1 hne; subst he; have hne2 : (er == 0) = false := (by simpa using hne); have B2 := belows B1 hb2 B1.size; clear hck h1 hb2 hne))
      all_goals go_ret
      all_goals exact ⟨rfl, B7⟩
    | ok y =>
      obtain ⟨l2, r⟩ := y
      obtain ⟨k1, k2, k3⟩ := pl_forth hpl
      obtain ⟨k4, k5⟩ := tk_forth hpl
      have hl2 := (ck_size k1).1
      have hN2a := putB_max k1
      have hN2b := putB_pos l2
      have HK2 := hid k1
      have HG2 := hid (ck_sizes k1)
      have hb0 := hb.2.resolve_left (by rintro ⟨rfl, -⟩; rw [List.length_nil] at k5; omega)
      obtain ⟨b, o, ucap, rfl, q1, q2, q3⟩ := hb0
      obtain ⟨N2, hN2⟩ : ∃ N2, (putB l2).length = N2 := ⟨_, rfl⟩
      have HEq := hid (fun W g8 cap8 (h : Below w.heap.size w W) (h8 : Kit.IsS 1 W (.slice (some ⟨g8, 0, none⟩) N2 cap8) (putB l2).length ((putB l2).map (Value.int .u8))) => show Calls Tryd.prog 16 #[.slice (some ⟨g8, 0, none⟩) N2 cap8, .slice (some ⟨b, o, none⟩) N2 ucap] W (fun e w' => e = .returned (.bool true) ∧ W = w') by
        have hh := is_head (W := W) (b := b) (o := o) (cap := ucap) (bs := bs) (r := r) (byt_putB l2) k3 (by omega) (by omega) q1 (by have := h.size; omega) (fun i c hc => by rw [h.cell (p := ⟨b, o + i, none⟩) q2]; exact q3 i c hc)
        rw [hN2] at hh
        refine bequal_any (putB l2) _ _ W h8 ?_
        rw [hN2]
        exact hh)
      rw [hN2] at k4 k5 hN2a hN2b
      have HTk2 := hid k4
      have HN2 := hid hN2
      have s1 : decide (N2 ≤ bs.length) = true := by simp; omega
      have s2 : (0 : Int) ≤ (N2 : Int) := by omega
      have s3 : (N2 : Int) ≤ (ucap : Int) := by omega
      have s4 : ¬ ucap = 0 := by omega
      have s5 : decide ((N2 : Int) ≤ (bs.length : Int)) = true := by simp; omega
      clear hpl k1 k3 k4 k5 hN2 hb q3
      go_enter Tryd.func7, Tryd.ntmps7
      go_wp2_with (first
        | (go_at_call 10; have _g := B2; refine (take_eq (HT.out _ B2) (HU.out _ B2) HTk2.out).mono ?_; rintro e w7 ⟨v7, rfl, o7, hb7⟩; dsimp only at o7; obtain ⟨a7, cap7, rfl⟩ := own_form o7; have B7 := belows B2 hb7 B2.size; have HS7 := hid (Kit.isS_of_owns o7 (by omega)); clear o7 hb7)
        | (go_at_call 12; refine (live_any _ (HT.out _ (by repeat' first | with_reducible exact Below.refl _ _ | with_reducible assumption | with_reducible refine belows_drewN ?_ _ | with_reducible refine Below.drew ?_ | with_reducible refine Below.setCell ?_ ?_ _ | with_reducible refine Below.alloc ?_ ?_ _ | omega | (simp; done) | (simp; omega)))).mono ?_; rintro e w1 ⟨rfl, B1⟩)
        | (go_at_call 14; have _g := B7; refine (put_any l2 _ _ (HT.out _ B7) HS7.out HG2.out).mono ?_; rintro e w8 ⟨er8, hck, -, h2, hb8⟩; obtain rfl := CkIs.det hck HK2.out; obtain ⟨v8, rfl, o8⟩ := h2 rfl; obtain ⟨g8, cap8, rfl⟩ := own_formI o8 N2 HN2.out (by omega); have B8 := belows B7 hb8 B7.size; have HS8 := hid (Kit.isS_of_owns o8 (by (have := HN2.out; omega))); clear hck h2 hb8 o8)
        | (go_at_call 16; refine (HEq.out _ _ _ B8 HS8.out).mono ?_; rintro e w9 ⟨rfl, rfl⟩)
        | (go_at_call 14; refine (put_any l _ _ (HT.out _ B1) (HV.out _ B1) HG.out).mono ?_; rintro e w2 ⟨er, hck, h1, -, hb2⟩; have hne : er ≠ 0 := (by rintro rfl; exact H0.out hck); have he := h1 hne; subst he; have hne2 : (er == 0) = false := (by simpa using hne); have B2 := belows B1 hb2 B1.size; clear hck h1 hb2 hne))
      all_goals go_ret
      all_goals exact ⟨rfl, B8⟩
  case pos =>
    have hl4 := (ck_size h0).1
    have hNa := putB_max h0
    have hNb := putB_pos l
    have H0 := hid h0
    obtain ⟨N, hN⟩ : ∃ N, (putB l).length = N := ⟨_, rfl⟩
    obtain ⟨Z, hZ⟩ : ∃ Z, Z = putB l ++ ms' := ⟨_, rfl⟩
    have hNZ : Z.length = N + ms.length := by rw [hZ, List.length_append, hN, hms1]
    have htk := tk_back (N := (N : Int)) h0 HGn.out (ms := ms) (Z := Z) (by rw [hZ, hms, bsOf_app, bsOf_text]) (by rw [hN])
    rw [hN] at hNa hNb
    have HTk := hid htk
    have HN := hid hN
    have HZ := hid (show Z = putB l ++ ms' from hZ)
    have HBy := hid (show Byt Z by rw [hZ, hms]; exact byt_app (byt_putB l) (byt_bytes ms))
    obtain ⟨NZ, hNZ2⟩ : ∃ NZ, NZ = N + ms.length := ⟨_, rfl⟩
    have HNZ := hid (show Z.length = NZ by rw [hNZ, hNZ2])
    have hz5 : 0 < NZ := by omega
    have hz6 : NZ ≤ 140737488351232 + 2000000 := by omega
    clear h0 htk hN hZ hNZ hNZ2 hms hms1
    have HZ : Hid (Z = putB l) := (by show Z = putB l; rw [HZ.out, HMs.out, HM0.out]; simp)
    cases hpl : plP bs with
    | error er2 =>
      have hne3 : (er2 != 0) = true := by simpa using plP_err hpl
      have HTk2 := hid (show tkOut bs = ([], 0, er2) by unfold tkOut; rw [hpl])
      obtain ⟨ua, ucap, rfl⟩ := hb.len
      clear hpl hb
      go_enter Tryd.func7, Tryd.ntmps7
      go_wp2_with (first
        | (go_at_call 10; have _g := B6; refine (take_eq (HT.out _ B6) (HU.out _ B6) HTk2.out).mono ?_; rintro e w7 ⟨v7, rfl, o7, hb7⟩; dsimp only at o7; have B7 := belows B6 hb7 B6.size; clear o7 hb7)
        | (go_at_call 12; refine (live_any _ (HT.out _ (by repeat' first | with_reducible exact Below.refl _ _ | with_reducible assumption | with_reducible refine belows_drewN ?_ _ | with_reducible refine Below.drew ?_ | with_reducible refine Below.setCell ?_ ?_ _ | with_reducible refine Below.alloc ?_ ?_ _ | omega | (simp; done) | (simp; omega)))).mono ?_; rintro e w1 ⟨rfl, B1⟩)
        | (go_at_call 14; refine (put_any l _ _ (HT.out _ B1) (HV.out _ B1) HG.out).mono ?_; rintro e w2 ⟨er, hck, -, h2, hb2⟩; obtain rfl := CkIs.det hck H0.out; obtain ⟨v2, rfl, o2⟩ := h2 rfl; obtain ⟨g2, cap2, rfl⟩ := own_formI o2 N HN.out (by omega); have B2 := belows B1 hb2 B1.size; have O2 := hid o2; clear hck h2 hb2 o2)
        | (go_at_call 32; refine (bclone_own _ (putB l) g2 cap2 N _ O2.out HN.out (by omega) (by (have := HN.out; omega))).mono ?_; rintro e w3 ⟨v3, rfl, o3, hb3⟩; obtain ⟨g3, cap3, rfl⟩ := own_formI o3 N HN.out (by omega); have B3 := belows B2 hb3 B2.size; have O3 := hid o3; have hz3 := hb3.size; clear hb3 o3)
        | (at_builtin; refine wpList_append_nothing rfl (.tmp 27) (.tmp 28) rfl (some ⟨g3, 0, none⟩) N cap3 capm (by (obtain ⟨x1, x2, x3, x4, x5, -, -⟩ := (Kit.isS_of_owns O3.out (by (have := HN.out; omega))).some (by (have := HN.out; omega)); obtain ⟨-, -, rfl⟩ := Value.slice.inj x4; have := HN.out; omega)) rfl rfl ?_; obtain ⟨w4, hw4⟩ : ∃ w4, w4 = w3 := ⟨_, rfl⟩; rw [← hw4] at B3 O3 ⊢; have B4 := B3; have o4 : OwnI w4 w2.heap.size (.slice (some ⟨g3, 0, none⟩) N cap3) Z := (by rw [HZ.out]; exact O3.out); have hbs4 := bs_of_own o4 HBy.out (by (have := HNZ.out; omega)); have HBs4 := hid hbs4; clear o4 hbs4 hw4)
        | (go_at_call 10; refine (take_eq (HT.out _ B4) HBs4.out HTk.out).mono ?_; rintro e w5 ⟨v5, rfl, o5, hb5⟩; dsimp only at o5; obtain ⟨a5, cap5, rfl⟩ := own_form o5; have B5 := belows B4 hb5 B4.size; have HS5 := hid (Kit.isS_of_owns o5 (by omega)); clear o5 hb5)
        | (go_at_call 13; refine (same_any l _ _ _ HS5.out (HV.out _ B5)).mono ?_; rintro e w6 ⟨rfl, hb6⟩; have B6 := belows B5 hb6 B5.size; clear hb6))
      all_goals go_ret
      all_goals exact ⟨rfl, B7⟩
    | ok y =>
      obtain ⟨l2, r⟩ := y
      obtain ⟨k1, k2, k3⟩ := pl_forth hpl
      obtain ⟨k4, k5⟩ := tk_forth hpl
      have hl2 := (ck_size k1).1
      have hN2a := putB_max k1
      have hN2b := putB_pos l2
      have HK2 := hid k1
      have HG2 := hid (ck_sizes k1)
      have hb0 := hb.2.resolve_left (by rintro ⟨rfl, -⟩; rw [List.length_nil] at k5; omega)
      obtain ⟨b, o, ucap, rfl, q1, q2, q3⟩ := hb0
      obtain ⟨N2, hN2⟩ : ∃ N2, (putB l2).length = N2 := ⟨_, rfl⟩
      have HEq := hid (fun W g8 cap8 (h : Below w.heap.size w W) (h8 : Kit.IsS 1 W (.slice (some ⟨g8, 0, none⟩) N2 cap8) (putB l2).length ((putB l2).map (Value.int .u8))) => show Calls Tryd.prog 16 #[.slice (some ⟨g8, 0, none⟩) N2 cap8, .slice (some ⟨b, o, none⟩) N2 ucap] W (fun e w' => e = .returned (.bool true) ∧ W = w') by
        have hh := is_head (W := W) (b := b) (o := o) (cap := ucap) (bs := bs) (r := r) (byt_putB l2) k3 (by omega) (by omega) q1 (by have := h.size; omega) (fun i c hc => by rw [h.cell (p := ⟨b, o + i, none⟩) q2]; exact q3 i c hc)
        rw [hN2] at hh
        refine bequal_any (putB l2) _ _ W h8 ?_
        rw [hN2]
        exact hh)
      rw [hN2] at k4 k5 hN2a hN2b
      have HTk2 := hid k4
      have HN2 := hid hN2
      have s1 : decide (N2 ≤ bs.length) = true := by simp; omega
      have s2 : (0 : Int) ≤ (N2 : Int) := by omega
      have s3 : (N2 : Int) ≤ (ucap : Int) := by omega
      have s4 : ¬ ucap = 0 := by omega
      have s5 : decide ((N2 : Int) ≤ (bs.length : Int)) = true := by simp; omega
      clear hpl k1 k3 k4 k5 hN2 hb q3
      go_enter Tryd.func7, Tryd.ntmps7
      go_wp2_with (first
        | (go_at_call 10; have _g := B6; refine (take_eq (HT.out _ B6) (HU.out _ B6) HTk2.out).mono ?_; rintro e w7 ⟨v7, rfl, o7, hb7⟩; dsimp only at o7; obtain ⟨a7, cap7, rfl⟩ := own_form o7; have B7 := belows B6 hb7 B6.size; have HS7 := hid (Kit.isS_of_owns o7 (by omega)); clear o7 hb7)
        | (go_at_call 14; have _g := B7; refine (put_any l2 _ _ (HT.out _ B7) HS7.out HG2.out).mono ?_; rintro e w8 ⟨er8, hck, -, h2, hb8⟩; obtain rfl := CkIs.det hck HK2.out; obtain ⟨v8, rfl, o8⟩ := h2 rfl; obtain ⟨g8, cap8, rfl⟩ := own_formI o8 N2 HN2.out (by omega); have B8 := belows B7 hb8 B7.size; have HS8 := hid (Kit.isS_of_owns o8 (by (have := HN2.out; omega))); clear hck h2 hb8 o8)
        | (go_at_call 16; refine (HEq.out _ _ _ B8 HS8.out).mono ?_; rintro e w9 ⟨rfl, rfl⟩)
        | (go_at_call 12; refine (live_any _ (HT.out _ (by repeat' first | with_reducible exact Below.refl _ _ | with_reducible assumption | with_reducible refine belows_drewN ?_ _ | with_reducible refine Below.drew ?_ | with_reducible refine Below.setCell ?_ ?_ _ | with_reducible refine Below.alloc ?_ ?_ _ | omega | (simp; done) | (simp; omega)))).mono ?_; rintro e w1 ⟨rfl, B1⟩)
        | (go_at_call 14; refine (put_any l _ _ (HT.out _ B1) (HV.out _ B1) HG.out).mono ?_; rintro e w2 ⟨er, hck, -, h2, hb2⟩; obtain rfl := CkIs.det hck H0.out; obtain ⟨v2, rfl, o2⟩ := h2 rfl; obtain ⟨g2, cap2, rfl⟩ := own_formI o2 N HN.out (by omega); have B2 := belows B1 hb2 B1.size; have O2 := hid o2; clear hck h2 hb2 o2)
        | (go_at_call 32; refine (bclone_own _ (putB l) g2 cap2 N _ O2.out HN.out (by omega) (by (have := HN.out; omega))).mono ?_; rintro e w3 ⟨v3, rfl, o3, hb3⟩; obtain ⟨g3, cap3, rfl⟩ := own_formI o3 N HN.out (by omega); have B3 := belows B2 hb3 B2.size; have O3 := hid o3; have hz3 := hb3.size; clear hb3 o3)
        | (at_builtin; refine wpList_append_nothing rfl (.tmp 27) (.tmp 28) rfl (some ⟨g3, 0, none⟩) N cap3 capm (by (obtain ⟨x1, x2, x3, x4, x5, -, -⟩ := (Kit.isS_of_owns O3.out (by (have := HN.out; omega))).some (by (have := HN.out; omega)); obtain ⟨-, -, rfl⟩ := Value.slice.inj x4; have := HN.out; omega)) rfl rfl ?_; obtain ⟨w4, hw4⟩ : ∃ w4, w4 = w3 := ⟨_, rfl⟩; rw [← hw4] at B3 O3 ⊢; have B4 := B3; have o4 : OwnI w4 w2.heap.size (.slice (some ⟨g3, 0, none⟩) N cap3) Z := (by rw [HZ.out]; exact O3.out); have hbs4 := bs_of_own o4 HBy.out (by (have := HNZ.out; omega)); have HBs4 := hid hbs4; clear o4 hbs4 hw4)
        | (go_at_call 10; refine (take_eq (HT.out _ B4) HBs4.out HTk.out).mono ?_; rintro e w5 ⟨v5, rfl, o5, hb5⟩; dsimp only at o5; obtain ⟨a5, cap5, rfl⟩ := own_form o5; have B5 := belows B4 hb5 B4.size; have HS5 := hid (Kit.isS_of_owns o5 (by omega)); clear o5 hb5)
        | (go_at_call 13; refine (same_any l _ _ _ HS5.out (HV.out _ B5)).mono ?_; rintro e w6 ⟨rfl, hb6⟩; have B6 := belows B5 hb6 B5.size; clear hb6))
      all_goals go_ret
      all_goals exact ⟨rfl, B8⟩
theorem back_law (l : List Cp.C) (bs ms : List UInt8) (v u x : Value) (w : World) (ht : Tabs w) (hv : Kit.IsS 5 w v l.length (l.flatMap cL)) (hg : ∀ x ∈ l, GoodC x) (hb : Bs w.heap.size w u bs) (hm : Bs w.heap.size w x ms) (hml : ms.length ≤ 140737488351232) :
    Calls Tryd.prog 7 #[v, u, x] w fun e w' => e = .returned (.bool true) ∧ Below w.heap.size w w' := by
  rcases hm.2 with ⟨rfl, a, cap, rfl⟩ | ⟨b, o, cap, rfl, h1, h2, h3⟩
  · cases a with
    | none => exact back_none l bs [] v u cap w ht hv hg hb (by simp) rfl
    | some ad => exact back_some l bs [] v u ad cap w ht hv hg hb (by simp) (fun j y hj => by simp at hj)
  · refine back_some l bs ms v u ⟨b, o, none⟩ cap w ht hv hg hb hml (fun j y hj => ?_)
    rw [List.getElem?_map, Option.map_eq_some_iff] at hj
    obtain ⟨z, hz, rfl⟩ := hj
    rw [List.getElem?_map, Option.map_eq_some_iff] at hz
    obtain ⟨c, hc, rfl⟩ := hz
    rw [Go.WideShapes.add_plain]
    exact h3 j c hc
end Go.Proofs.YtljbcclfafndmaaDoor

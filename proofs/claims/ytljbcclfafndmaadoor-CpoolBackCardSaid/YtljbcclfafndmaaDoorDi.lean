/- Contract of the document's Put. -/
import Derived.Test.YtljbcclfafndmaaDoorDc
import Derived.Test.YtljbcclfafndmaaDoorDg
import Derived.Test.YtljbcclfafndmaaDoorDh
namespace Go.Proofs.YtljbcclfafndmaaDoor
open Go.RowKit

theorem bytesN_0 (z : Int) : bytesN z 0 = [] := rfl
theorem enc_text {t : Int} (s : ByteArray) (n a b : Int) (h : t = 1) : encE ⟨t, s, n, a, b⟩ = [t % 256] ++ bytesN s.size 2 ++ ((Cp.bl s).map fun b => (b.toNat : Int)) := by
  subst h
  unfold encE
  simp [Cp.wd, bytesN_0]
theorem enc_num {t : Int} (n a b : Int) (k : Nat) (h : Cp.wd t = (0, k, 0, 0)) : encE ⟨t, ⟨#[]⟩, n, a, b⟩ = [t % 256] ++ bytesN n k := by
  unfold encE
  simp [h, bytesN_0, Cp.bl]
theorem enc_one {t : Int} (n a b : Int) (h : t = 7) : encE ⟨t, ⟨#[]⟩, n, a, b⟩ = [t % 256] ++ bytesN a 2 := by
  subst h
  unfold encE
  simp [Cp.wd, bytesN_0, Cp.bl]
theorem enc_two {t : Int} (n a b : Int) (h : t = 9 ∨ t = 10 ∨ t = 12) : encE ⟨t, ⟨#[]⟩, n, a, b⟩ = [t % 256] ++ bytesN a 2 ++ bytesN b 2 := by
  unfold encE
  rcases h with rfl | rfl | rfl <;> simp [Cp.wd, bytesN_0, Cp.bl]
/-- Where writing an entry stands: the bytes so far, and the box. -/
structure PSt (w : World) (base : Nat) (v0 : Value) (C : Array Value) (W : World) (v : Value) (l : List Int) : Prop where
  own : OwnI W base v l
  gr : Kit.Grows w W v0 v
  bc : BX W w.heap.size C 46
  ne : ∀ k, v.ownBlock = some k → k ≠ w.heap.size
  le : base ≤ W.heap.size
theorem PSt.step {w : World} {base : Nat} {v0 : Value} {C : Array Value} {W W' : World} {v v' : Value} {l l' : List Int} (h : PSt w base v0 C W v l) (ho : OwnI W' base v' l') (g : Kit.Grows W W' v v') : PSt w base v0 C W' v' l' := by
  refine ⟨ho, h.gr.trans g, h.bc.grown g.grown ?_, ?_, Nat.le_trans h.le g.size⟩
  · intro e
    exact h.ne _ e rfl
  · intro k e
    have h1 := h.bc.sz
    rcases g.blk with e2 | ⟨j, hj, e2⟩
    · rw [e2] at e
      exact h.ne k e
    · rw [e2] at e
      have := Option.some.inj e
      omega
theorem PSt.drew {w : World} {base : Nat} {v0 : Value} {C : Array Value} {W : World} {v : Value} {l : List Int} (h : PSt w base v0 C W v l) : PSt w base v0 C W.drew v l :=
  ⟨World.ownsRow.drew h.own, ⟨⟨h.gr.grown.os, h.gr.grown.tape, h.gr.grown.output, h.gr.grown.size, h.gr.grown.block⟩, h.gr.blk⟩, h.bc, h.ne, h.le⟩
theorem PSt.cells {w : World} {base : Nat} {v0 : Value} {c0 c1 c2 c3 c4 : Value} {W : World} {v : Value} {l : List Int} (h : PSt w base v0 #[c0, c1, c2, c3, c4] W v l) :
    W.cell? ⟨w.heap.size, 0, none⟩ = some c0 ∧ W.cell? ⟨w.heap.size, 1, none⟩ = some c1 ∧ W.cell? ⟨w.heap.size, 2, none⟩ = some c2 ∧ W.cell? ⟨w.heap.size, 3, none⟩ = some c3 ∧ W.cell? ⟨w.heap.size, 4, none⟩ = some c4 :=
  ⟨h.bc.cell 0, h.bc.cell 1, h.bc.cell 2, h.bc.cell 3, h.bc.cell 4⟩
theorem PSt.first {w w2 : World} {base : Nat} {v v1 : Value} {l : List Int} {z : Int} {C : Array Value} (hb : base ≤ w.heap.size) (hlt : ∀ k, v.ownBlock = some k → k < w.heap.size) (ho : w2.ownsRow base 5 1 v1 (l.length + 1) (l.map (Value.int .u8) ++ [.int .u8 z])) (hg : ((w.alloc (.cells C 46)).alloc (.cells #[.int .u8 z] 5)).grownBy w2 v.ownBlock) (hk : v1.ownBlock = v.ownBlock ∨ v1.ownBlock = some (w.heap.size + 1 + 1)) : PSt w base v C w2 v1 (l ++ [z]) := by
  have B1 : Below w.heap.size w ((w.alloc (.cells C 46)).alloc (.cells #[.int .u8 z] 5)) := ((Below.refl _ w).alloc (Nat.le_refl _) _).alloc (by simp) _
  have hzg := hg.size
  simp only [World.size_alloc] at hzg
  have bc1 : BX ((w.alloc (.cells C 46)).alloc (.cells #[.int .u8 z] 5)) w.heap.size C 46 := (BX.new w C 46).below ((Below.refl (w.heap.size + 1) _).alloc (by simp) _) (by omega)
  refine ⟨OwnI.snoc ho, Kit.grows_append B1 hg (by simpa using hk), bc1.grown hg ?_, ?_, by omega⟩
  · intro e
    have := hlt _ e
    omega
  · intro k e
    rcases hk with h | h
    · rw [h] at e
      have := hlt _ e
      omega
    · rw [h] at e
      have := Option.some.inj e
      omega
theorem news_two (w : World) (o : Obj) (v : Value) (t : TypeId) : ∀ j u, [v][j]? = some u → ((w.alloc o).alloc (.cells #[v] t)).cell? ((⟨w.heap.size + 1, 0, none⟩ : Addr).add j) = some u := by
  have hn := Kit.news_one (w.alloc o) v t
  rw [World.size_alloc] at hn
  exact hn
theorem cf_rwrite (u v x : Value) (w : World) : (callFunc 41 #[u, v, x]).run Tryd.prog w = .ok (.enter 41 #[u, v, x]) w := by kernel_rfl
set_option maxRecDepth 100000 in
set_option maxHeartbeats 2000000 in
theorem rput_any (l : List Cp.C) (v : Value) (w : World) (hv : Kit.IsS 5 w v l.length (l.flatMap cL)) (hs : ∀ c ∈ l, c.s.size ≤ 140737488355328 ∧ I6 c.n) : Calls Tryd.prog 15 #[v] w (PutPost l w) := by
  have HCk := hid (fun W (h : Below w.heap.size w W) => rcheck_any l v W (hv.below h (Nat.le_refl _)) hs)
  have HV := hid (fun W (h : Below w.heap.size w W) => hv.below h (Nat.le_refl _))
  have HG := hid (fun c (h : c ∈ l) => (hs c h).2)
  obtain ⟨a, cap, hv2⟩ := hv.len
  subst hv2
  have hlen := hv.2.1
  clear hv hs
  by_cases h0 : CkIs l 0
  case neg =>
    have H0 := hid h0
    clear h0
    go_enter Tryd.func15, Tryd.ntmps15
    go_wp2_with (go_at_call 18; refine (HCk.out _ (by repeat' first | with_reducible exact Below.refl _ _ | with_reducible assumption | with_reducible refine belows_drewN ?_ _ | with_reducible refine Below.drew ?_ | with_reducible refine Below.setCell ?_ ?_ _ | with_reducible refine Below.alloc ?_ ?_ _ | omega | (simp; done) | (simp; omega))).mono ?_; rintro e w1 ⟨er, hck, rfl, hb1⟩; have hne : (er != 0) = true := (by (simp; rintro rfl; exact H0.out hck)); have HK := hid hck; clear hck)
    go_ret2
    exact ⟨er, HK.out, fun _ => rfl, fun h => absurd (h ▸ HK.out) H0.out, (by repeat' first | with_reducible exact Below.refl _ _ | with_reducible assumption | with_reducible refine belows_drewN ?_ _ | with_reducible refine Below.drew ?_ | with_reducible refine Below.setCell ?_ ?_ _ | with_reducible refine Below.alloc ?_ ?_ _ | omega | (simp; done) | (simp; omega))⟩
  case pos =>
  have HS := hid (ck_size h0)
  have H0 := hid h0
  have hl4 := HS.out.1
  have HL := hid (encT_len HS.out.2)
  have HI := info_parts infoB
  obtain ⟨i0, hi, hz0, hz1, hz2⟩ := HI
  clear h0
  go_enter Tryd.func15, Tryd.ntmps15
  go_wp2_with (first
    | (go_at_call 18; refine (HCk.out _ (by repeat' first | with_reducible exact Below.refl _ _ | with_reducible assumption | with_reducible refine belows_drewN ?_ _ | with_reducible refine Below.drew ?_ | with_reducible refine Below.setCell ?_ ?_ _ | with_reducible refine Below.alloc ?_ ?_ _ | omega | (simp; done) | (simp; omega))).mono ?_; rintro e w1 ⟨er, hck, rfl, hb1⟩; obtain rfl := CkIs.det hck H0.out; clear hck; have hz1' := hb1.size)
    | (go_at_call 41; refine (rwrite_any w.heap.size [] _ l.length 2 w1 (nilI _ _) hz1' (by simp) (by omega)).mono ?_; rintro e w2 ⟨v2, rfl, ho2, G2⟩; rw [List.nil_append] at ho2; have hb2 := G2.to_below hb1 hz1' (by intro k hk; simp [Value.ownBlock] at hk); have hz2' := hb2.size; clear G2))
  go_loopw [5, 6] (fun u i wr => ∃ k : Nat, k ≤ l.length ∧ i = .int .i64 k ∧ OwnI wr w.heap.size u (bytesN l.length 2 ++ encT (told l k)) ∧ Below w.heap.size w wr) (fun _ i _ => l.length - (intOf i).toNat)
  case atStart => exact ⟨0, by omega, rfl, by simpa [encT, told] using ho2, hb2⟩
  case round =>
    obtain ⟨k, hk, rfl, hown, hbl⟩ := hrel
    have hbz := hbl.size
    by_cases hlt : k < l.length
    · obtain ⟨c, hc⟩ : ∃ c, l[k]? = some c := ⟨l[k], List.getElem?_eq_getElem hlt⟩
      obtain ⟨b, o, cap', hv', hb, c0, c1, c2, c3, c4⟩ := c_at (HV.out wr hbl) hc
      obtain ⟨rfl, -, rfl⟩ := Value.slice.inj hv'
      have hki : (k : Int) < l.length := by omega
      by_cases hct : c.t = 0
      · have HN := hid (told_no hc hct)
        obtain ⟨ct, cs, cn, ca, cb⟩ := c
        dsimp only at c0 c1 c2 c3 c4 hct
        subst hct
        clear hc hv'
        go_wp2
        go_roundw
        case rel => exact ⟨k + 1, by omega, by go_num, by rw [HN.out]; exact World.ownsRow.alloc hown _, (by repeat' first | with_reducible exact Below.refl _ _ | with_reducible assumption | with_reducible refine belows_drewN ?_ _ | with_reducible refine Below.drew ?_ | with_reducible refine Below.setCell ?_ ?_ _ | with_reducible refine Below.alloc ?_ ?_ _ | omega | (simp; done) | (simp; omega))⟩
        case measure => simp [intOf]; omega
      · have HN := hid (told_yes hc hct)
        have hgood := ce_size (HS.out.2 ⟨(k, c), hc, hct⟩)
        have hI6 := HG.out c (List.mem_of_getElem? hc)
        obtain ⟨ct, cs, cn, ca, cb⟩ := c
        dsimp only at c0 c1 c2 c3 c4 hct hgood hI6
        have hse : ct = 1 ∨ cs = ⟨#[]⟩ := ((cut_ok hgood.1 hI6).1 hgood.2.1).2.2.2
        have hcs := hgood.2.2.1
        have hkn := of_decide_eq_true hgood.1
        have hlb := HL.out (told l k)
        have htl := told_len l k
        obtain ⟨L, hL⟩ : ∃ L, L = bytesN l.length 2 ++ encT (told l k) := ⟨_, rfl⟩
        have hLl : L.length ≤ 2 + 300 * 4096 := by rw [hL, List.length_append, bytesN_len]; omega
        rw [← hL] at hown
        have HE := hid (show ∀ W' v' X, OwnI W' w.heap.size v' X → X = L ++ encE ⟨ct, cs, cn, ca, cb⟩ → OwnI W' w.heap.size v' (bytesN l.length 2 ++ encT (told l (k + 1))) by
          intro W' v' X ho hX
          rw [HN.out, encT_snoc, ← List.append_assoc, ← hL]
          rw [hX] at ho
          exact ho)
        have hzd : (ct == 0) = false := by simpa using hct
        have hlt' := Kit.own_lt hown
        have HF := hid (fun v1 w2 ho hg hk => PSt.first (l := L) (C := #[.int .i64 ct, .string cs, .int .i64 cn, .int .i64 ca, .int .i64 cb]) (v1 := v1) (w2 := w2) (z := ct % 256) hbz hlt' ho hg hk)
        have HO := hid hown
        clear hgood hI6 hc hv' hL hlb htl hct HN
        have hown := HO.out
        clear HO
        rcases hkn with ht | ht | ht | ht | ht
        · have t1 : (ct == 1) = true := by simpa using ht
          have HX := hid (enc_text cs cn ca cb ht)
          clear ht hse
          go_wp2_with (at_builtin; refine wpList_append_own_at _ rfl (.tmp 29) (.tmp 33) 22 rfl w.heap.size 5 i0 _ 1 1 Tryd.underlying22 hi hz0 hz1 hz2 rfl (by decide) _ _ _ rfl (World.ownsRow.alloc (World.ownsRow.alloc hown _) _) ⟨wr.heap.size + 1, 0, none⟩ 1 1 [.int .u8 (ct % 256)] rfl rfl ?_ (Kit.ones_one rfl) (by unfold maxLen; omega) (by omega) (by simp only [World.size_alloc]; omega) ?_)
          · exact news_two _ _ _ _
          · (intro v1 w2 ho1' hg1 _ hk1; have hs1 := HF.out v1 w2 ho1' hg1 hk1; obtain ⟨g1, cap1, rfl⟩ := own_formI hs1.own (L.length + 1) (by simp) (by omega); obtain ⟨d0, d1, d2, d3, d4⟩ := hs1.cells; clear ho1' hg1 hk1)
            have hs1' := hs1.drew
            go_wp2
            go_region_law (first
              | (refine Kit.step_call3 rfl 41 (.tmp 46) (.tmp 49) (.const (.int .i64 2)) 22 2 3 rfl _ (.int .i64 cs.size) (.int .i64 2) rfl rfl rfl (cf_rwrite _ _ _ _) _ (rwrite_any w.heap.size _ _ cs.size 2 _ hs1'.own hs1'.le (by simp; omega) (by omega)) ?_; rintro e w3 ⟨v3, rfl, ho3, G3⟩; have hs3 := hs1'.step ho3 G3; obtain ⟨g3, cap3, rfl⟩ := own_formI hs3.own (L.length + 1 + 2) (by simp [bytesN_len]) (by omega); obtain ⟨e0, e1, e2, e3, e4⟩ := hs3.cells; refine ⟨_, rfl, ?_⟩)
              | (have _g := hs3; refine Kit.step_append_str rfl (.tmp 50) (.tmp 52) 22 9 rfl w.heap.size 5 i0 Tryd.underlying22 Tryd.underlying9 hi hz0 hz1 hz2 g3 (L.length + 1 + 2) cap3 _ rfl (hs3.own.at_len (L.length + 1 + 2) (by simp [bytesN_len])) cs rfl (by unfold maxLen; omega) (by omega) hs3.le ?_; intro v4 w4 ho4' hg4 hk4; have hs4 := hs3.step (OwnI.app_len ho4' (by simp [bytesN_len])) (Kit.grows_append (Below.refl _ _) hg4 hk4)))
            all_goals go_wp2
            all_goals have hO := HE.out _ _ _ hs4.own (by rw [HX.out]; simp only [List.append_assoc])
            all_goals go_roundw
            all_goals first
              | (case rel => exact ⟨k + 1, by omega, by go_num, hO, hs4.gr.to_below hbl hbz (fun k e => Kit.own_base hown k e)⟩)
              | (case measure => simp [intOf] <;> omega)
        · have hcz : cs = ⟨#[]⟩ := hse.resolve_left (by omega)
          have t1 : (ct == 1) = false := by rw [beq_eq_false_iff_ne]; omega
          have t3 : (ct == 3) = true := by simpa using ht
          subst hcz
          have HX := hid (enc_num (t := ct) cn ca cb 4 (by rw [ht]; rfl))
          clear ht hse
          go_wp2_with (at_builtin; refine wpList_append_own_at _ rfl (.tmp 29) (.tmp 33) 22 rfl w.heap.size 5 i0 _ 1 1 Tryd.underlying22 hi hz0 hz1 hz2 rfl (by decide) _ _ _ rfl (World.ownsRow.alloc (World.ownsRow.alloc hown _) _) ⟨wr.heap.size + 1, 0, none⟩ 1 1 [.int .u8 (ct % 256)] rfl rfl ?_ (Kit.ones_one rfl) (by unfold maxLen; omega) (by omega) (by simp only [World.size_alloc]; omega) ?_)
          · exact news_two _ _ _ _
          · (intro v1 w2 ho1' hg1 _ hk1; have hs1 := HF.out v1 w2 ho1' hg1 hk1; obtain ⟨g1, cap1, rfl⟩ := own_formI hs1.own (L.length + 1) (by simp) (by omega); obtain ⟨d0, d1, d2, d3, d4⟩ := hs1.cells; clear ho1' hg1 hk1)
            go_wp2_with (go_at_call 41; refine (rwrite_any w.heap.size _ _ cn 4 _ hs1.own hs1.le (by simp; omega) (by omega)).mono ?_; rintro e w3 ⟨v3, rfl, ho3, G3⟩; have hs3 := hs1.step ho3 G3)
            have hO := HE.out _ _ _ hs3.own (by rw [HX.out]; simp only [List.append_assoc])
            go_roundw
            case rel => exact ⟨k + 1, by omega, by go_num, hO, hs3.gr.to_below hbl hbz (fun k e => Kit.own_base hown k e)⟩
            case measure => simp [intOf] <;> omega
        · have hcz : cs = ⟨#[]⟩ := hse.resolve_left (by omega)
          have t1 : (ct == 1) = false := by rw [beq_eq_false_iff_ne]; omega
          have t3 : (ct == 3) = false := by rw [beq_eq_false_iff_ne]; omega
          have t5 : (ct == 5) = true := by simpa using ht
          subst hcz
          have HX := hid (enc_num (t := ct) cn ca cb 8 (by rw [ht]; rfl))
          clear ht hse
          go_wp2_with (at_builtin; refine wpList_append_own_at _ rfl (.tmp 29) (.tmp 33) 22 rfl w.heap.size 5 i0 _ 1 1 Tryd.underlying22 hi hz0 hz1 hz2 rfl (by decide) _ _ _ rfl (World.ownsRow.alloc (World.ownsRow.alloc hown _) _) ⟨wr.heap.size + 1, 0, none⟩ 1 1 [.int .u8 (ct % 256)] rfl rfl ?_ (Kit.ones_one rfl) (by unfold maxLen; omega) (by omega) (by simp only [World.size_alloc]; omega) ?_)
          · exact news_two _ _ _ _
          · (intro v1 w2 ho1' hg1 _ hk1; have hs1 := HF.out v1 w2 ho1' hg1 hk1; obtain ⟨g1, cap1, rfl⟩ := own_formI hs1.own (L.length + 1) (by simp) (by omega); obtain ⟨d0, d1, d2, d3, d4⟩ := hs1.cells; clear ho1' hg1 hk1)
            go_wp2_with (go_at_call 41; refine (rwrite_any w.heap.size _ _ cn 8 _ hs1.own hs1.le (by simp; omega) (by omega)).mono ?_; rintro e w3 ⟨v3, rfl, ho3, G3⟩; have hs3 := hs1.step ho3 G3)
            have hO := HE.out _ _ _ hs3.own (by rw [HX.out]; simp only [List.append_assoc])
            go_roundw
            case rel => exact ⟨k + 1, by omega, by go_num, hO, hs3.gr.to_below hbl hbz (fun k e => Kit.own_base hown k e)⟩
            case measure => simp [intOf] <;> omega
        · have hcz : cs = ⟨#[]⟩ := hse.resolve_left (by omega)
          have t1 : (ct == 1) = false := by rw [beq_eq_false_iff_ne]; omega
          have t3 : (ct == 3) = false := by rw [beq_eq_false_iff_ne]; omega
          have t5 : (ct == 5) = false := by rw [beq_eq_false_iff_ne]; omega
          have t7 : (ct == 7) = true := by simpa using ht
          subst hcz
          have HX := hid (enc_one cn ca cb ht)
          clear ht hse
          go_wp2_with (at_builtin; refine wpList_append_own_at _ rfl (.tmp 29) (.tmp 33) 22 rfl w.heap.size 5 i0 _ 1 1 Tryd.underlying22 hi hz0 hz1 hz2 rfl (by decide) _ _ _ rfl (World.ownsRow.alloc (World.ownsRow.alloc hown _) _) ⟨wr.heap.size + 1, 0, none⟩ 1 1 [.int .u8 (ct % 256)] rfl rfl ?_ (Kit.ones_one rfl) (by unfold maxLen; omega) (by omega) (by simp only [World.size_alloc]; omega) ?_)
          · exact news_two _ _ _ _
          · (intro v1 w2 ho1' hg1 _ hk1; have hs1 := HF.out v1 w2 ho1' hg1 hk1; obtain ⟨g1, cap1, rfl⟩ := own_formI hs1.own (L.length + 1) (by simp) (by omega); obtain ⟨d0, d1, d2, d3, d4⟩ := hs1.cells; clear ho1' hg1 hk1)
            go_wp2_with (go_at_call 41; refine (rwrite_any w.heap.size _ _ ca 2 _ hs1.own hs1.le (by simp; omega) (by omega)).mono ?_; rintro e w3 ⟨v3, rfl, ho3, G3⟩; have hs3 := hs1.step ho3 G3)
            have hO := HE.out _ _ _ hs3.own (by rw [HX.out]; simp only [List.append_assoc])
            go_roundw
            case rel => exact ⟨k + 1, by omega, by go_num, hO, hs3.gr.to_below hbl hbz (fun k e => Kit.own_base hown k e)⟩
            case measure => simp [intOf] <;> omega
        · have hcz : cs = ⟨#[]⟩ := hse.resolve_left (by omega)
          have t1 : (ct == 1) = false := by rw [beq_eq_false_iff_ne]; omega
          have t3 : (ct == 3) = false := by rw [beq_eq_false_iff_ne]; omega
          have t5 : (ct == 5) = false := by rw [beq_eq_false_iff_ne]; omega
          have t7 : (ct == 7) = false := by rw [beq_eq_false_iff_ne]; omega
          subst hcz
          have HX := hid (enc_two cn ca cb ht)
          clear ht hse
          go_wp2_with (at_builtin; refine wpList_append_own_at _ rfl (.tmp 29) (.tmp 33) 22 rfl w.heap.size 5 i0 _ 1 1 Tryd.underlying22 hi hz0 hz1 hz2 rfl (by decide) _ _ _ rfl (World.ownsRow.alloc (World.ownsRow.alloc hown _) _) ⟨wr.heap.size + 1, 0, none⟩ 1 1 [.int .u8 (ct % 256)] rfl rfl ?_ (Kit.ones_one rfl) (by unfold maxLen; omega) (by omega) (by simp only [World.size_alloc]; omega) ?_)
          · exact news_two _ _ _ _
          · (intro v1 w2 ho1' hg1 _ hk1; have hs1 := HF.out v1 w2 ho1' hg1 hk1; obtain ⟨g1, cap1, rfl⟩ := own_formI hs1.own (L.length + 1) (by simp) (by omega); obtain ⟨d0, d1, d2, d3, d4⟩ := hs1.cells; clear ho1' hg1 hk1)
            have hs1' := hs1.drew
            go_wp2
            go_region_law (first
              | (have _g := hs3; refine Kit.step_call3 rfl 41 (.tmp 40) (.tmp 42) (.const (.int .i64 2)) 22 2 3 rfl _ (.int .i64 cb) (.int .i64 2) rfl rfl rfl (cf_rwrite _ _ _ _) _ (rwrite_any w.heap.size _ _ cb 2 _ hs3.own hs3.le (by simp [bytesN_len]; omega) (by omega)) ?_; rintro e w4 ⟨v4, rfl, ho4, G4⟩; have hs4 := hs3.step ho4 G4; refine ⟨_, rfl, ?_⟩)
              | (refine Kit.step_call3 rfl 41 (.tmp 37) (.tmp 39) (.const (.int .i64 2)) 22 2 3 rfl _ (.int .i64 ca) (.int .i64 2) rfl rfl rfl (cf_rwrite _ _ _ _) _ (rwrite_any w.heap.size _ _ ca 2 _ hs1'.own hs1'.le (by simp; omega) (by omega)) ?_; rintro e w3 ⟨v3, rfl, ho3, G3⟩; have hs3 := hs1'.step ho3 G3; obtain ⟨e0, e1, e2, e3, e4⟩ := hs3.cells; refine ⟨_, rfl, ?_⟩))
            all_goals go_wp2
            all_goals have hO := HE.out _ _ _ hs4.own (by rw [HX.out]; simp only [List.append_assoc])
            all_goals go_roundw
            all_goals first
              | (case rel => exact ⟨k + 1, by omega, by go_num, hO, hs4.gr.to_below hbl hbz (fun k e => Kit.own_base hown k e)⟩)
              | (case measure => simp [intOf] <;> omega)
    · obtain rfl : k = l.length := by omega
      go_wp2
      go_ret2
      exact ⟨0, H0.out, fun h => absurd rfl h, fun _ => ⟨_, rfl, hown⟩, hbl⟩
end Go.Proofs.YtljbcclfafndmaaDoor

/- Own texts for the claim, part 4. -/
import Derived.Test.YthjcnlgebkaonaaZC3
import Derived.Test.YthjcnlgebkaonaaRows
import Derived.ProofKit
import Derived.OpenShut
import Derived.ChangeSlices
import Derived.Deep.DeepHandedRow
import Derived.Lib.LaidTab
import Derived.BigQuiet
namespace Go.Proofs.Ythjcnlgebkaonaa
open Go Go.RowKit
open Kit (natVals)

theorem infoS : (Try.prog.info? 9).map (fun i => (i.zero, i.size, i.bytes)) = some (some (.string ⟨#[]⟩), 1, 16) := by kernel_rfl
set_option maxRecDepth 100000 in
theorem built_any (w : World) : Calls Try.prog 31 #[] w fun e w' => e = .returned (.slice (some ⟨w.heap.size, 0, none⟩) 8 8) ∧ w' = w.alloc (.cells (strV (Hi.nms Hi.bl)).toArray 9) := by
  go_enter Try.func31, Try.ntmps31
  go_wp2
  go_ret
  exact ⟨rfl, rfl⟩
/-- What the document's New answers. -/
def RNewP (l : List Hi.Ln) (w : World) (e : Ending) (w' : World) : Prop :=
  ∃ v, e = .returned (.tuple #[v, .int .i64 (Hi.err l)]) ∧ Below w.heap.size w w' ∧ (Hi.err l ≠ 0 → v = .pointer none) ∧
    (Hi.err l = 0 → ∃ rb D, v = .pointer (some ⟨rb, 0, none⟩) ∧ RM w' w.heap.size rb (Hi.nms (Hi.bl ++ l)) (supS (Hi.nms (Hi.bl ++ l)) l) ∧ ROk (Hi.bl ++ l).length (Hi.sup (Hi.bl ++ l)) D (Hi.nms (Hi.bl ++ l)) (supS (Hi.nms (Hi.bl ++ l)) l))
theorem RNewP.bad {l : List Hi.Ln} {w w' : World} {k : Int} (he : Hi.err l = k) (hk : k ≠ 0) (hb : Below w.heap.size w w') : RNewP l w (.returned (.tuple #[.pointer none, .int .i64 k])) w' :=
  ⟨_, by rw [he], hb, fun _ => rfl, fun h => absurd (he.symm.trans h) hk⟩
theorem bl_found (l : List Hi.Ln) : ∀ k x, k < 8 → 1 ≤ k → (Hi.bl ++ l)[k]? = some x → Hi.idx x.2 (Hi.nms (Hi.bl ++ l)) ≠ none := by
  intro k x hk h1 hx
  rw [List.getElem?_append_left (by exact hk)] at hx
  rw [ne_eq, Hi.idx_none, Classical.not_not]
  have : x.2 ∈ Hi.nms Hi.bl := by
    match k, hk, h1 with
    | 1, _, _ | 2, _, _ | 3, _, _ | 4, _, _ | 5, _, _ | 6, _, _ | 7, _, _ => cases hx; show _ ∈ Hi.bO :: Hi.bT :: Hi.nms Hi.bl.tail.tail; first | exact List.mem_cons_self | exact List.mem_cons_of_mem _ List.mem_cons_self
  unfold Hi.nms at *
  rw [List.map_append]
  exact List.mem_append_left _ this
theorem nms_snoc {l : List Hi.Ln} {i : Nat} {x : Hi.Ln} (hx : l[i]? = some x) : Hi.nms (Hi.bl ++ l.take (i + 1)) = Hi.nms (Hi.bl ++ l.take i) ++ [x.1] := by
  unfold Hi.nms
  rw [List.take_add_one, hx, ← List.append_assoc, List.map_append]
  rfl
theorem nodup_pre {l : List Hi.Ln} (i : Nat) (h : (Hi.nms (Hi.bl ++ l)).Nodup) : (Hi.nms (Hi.bl ++ l.take i)).Nodup := by
  unfold Hi.nms at *
  exact h.sublist (((List.Sublist.refl _).append (List.take_sublist _ _)).map _)
theorem idxI_neg {s : ByteArray} {N : List ByteArray} : idxI s N < 0 ↔ Hi.idx s N = none := by
  unfold idxI
  cases Hi.idx s N with
  | none => simp
  | some k => simp
theorem supS_snoc {l : List Hi.Ln} {N : List ByteArray} {i : Nat} {x : Hi.Ln} (hx : l[i]? = some x) : supS N (l.take (i + 1)) = supS N (l.take i) ++ [idxI x.2 N] := by
  unfold supS
  rw [List.take_add_one, hx, List.map_append, List.append_assoc]
  rfl
theorem owns_newL (W : World) {base : Nat} (hB : base ≤ W.heap.size) (xs : List Value) (t : TypeId) (hx : xs.length ≤ 1000 := by decide) : (W.alloc (.cells xs.toArray t)).ownsRow base t 1 (.slice (some ⟨W.heap.size, 0, none⟩) xs.length xs.length) xs.length xs :=
  ⟨by simp, .inr ⟨W.heap.size, xs.length, xs.toArray, rfl, hB, heap_alloc_last W _, Nat.le_refl _, by unfold maxLen; omega, by simp, by simp⟩⟩
theorem own_at0' {w : World} {base : Nat} {e : TypeId} {v : Value} {S : List Int} (h : w.ownsRow base e 1 v S.length (intV S)) (hn : 0 < S.length) : ∃ g cap, v = .slice (some ⟨g, 0, none⟩) S.length cap ∧ g < w.heap.size ∧ ∀ (i : Nat) (x : Int), S[i]? = some x → w.cell? ⟨g, i, none⟩ = some (.int .i64 x) := by
  obtain ⟨g, cap, h1, h2, h3⟩ := own_at0 h hn
  exact ⟨g, cap, h1, h2, fun i x hi => (h3 i _ (by simp [hi])).1⟩
/-- Where the document's New stands: so many names, so many supers. -/
structure RnI (w : World) (rb : Nat) (nv sv : Value) (N : List ByteArray) (S : List Int) (W : World) : Prop where
  rx : RX W w.heap.size rb nv sv N S
  bel : Below w.heap.size w W
theorem RnI.below {w W W' : World} {rb : Nat} {nv sv : Value} {N : List ByteArray} {S : List Int} (h : RnI w rb nv sv N S W) (hb : Below W.heap.size W W') : RnI w rb nv sv N S W' := ⟨h.rx.below hb, belows h.bel hb h.bel.size⟩
theorem quiet_find {w : World} {v : Value} {N : List ByteArray} (hv : Kit.IsS 1 w v N.length (N.map Value.string)) (s : ByteArray) : Calls Try.prog 32 #[v, .string s] w fun e w' => e = .returned (.int .i64 (idxI s N)) ∧ w' = w :=
  (find_any hv s).mono fun _ _ h => ⟨h.1, h.2.symm⟩
theorem IsS.drewN {sz n : Nat} {w : World} {v : Value} {xs : List Value} (h : Kit.IsS sz w v n xs) (m : Nat) : Kit.IsS sz (w.drewN m) v n xs := h.below (below_drewN w m) (Nat.le_refl _)
set_option maxRecDepth 100000 in
set_option maxHeartbeats 4000000 in
theorem rNew_any {w : World} {lv : Value} {l : List Hi.Ln} (hl : Kit.IsS 2 w lv l.length (l.flatMap lnL)) : Calls Try.prog 8 #[lv] w (RNewP l w) := by
  obtain ⟨i0, hi, hz0, hz1, hz2⟩ := info_parts infoS
  obtain ⟨i9, hi9, hz09, hz19, hz29⟩ := info_parts infoI
  have hll := hl.2.1
  obtain ⟨la, lc, rfl⟩ := hl.len
  have HL := hid (fun X (b : Below w.heap.size w X) => hl.below b (Nat.le_refl _))
  clear hl
  by_cases h64 : 64 < l.length
  · have H64 := hid (err_long h64)
    have h64i : (64 : Int) < (l.length : Int) := by omega
    go_enter Try.func8, Try.ntmps8
    go_wp2
    exact bodyPost_ret (v := .tuple #[.pointer none, .int .i64 3]) (by simp [results, Try.results8, go_sem]) rfl (RNewP.bad H64.out (by decide) (Below.refl _ _))
  · have H64 := hid h64
    have hl64 : l.length ≤ 64 := by omega
    have HBu := hid (built_any w)
    clear h64
    go_enter Try.func8, Try.ntmps8
    go_wp2_with (go_at_call 31; refine HBu.out.mono ?_; rintro e w1 ⟨rfl, rfl⟩)
    have hR0 : RnI w (w.heap.size + 2) (.slice (some ⟨w.heap.size, 0, none⟩) 8 8) (.slice (some ⟨w.heap.size + 1, 0, none⟩) 8 8) (Hi.nms (Hi.bl ++ l.take 0)) blS (((w.alloc (.cells (strV (Hi.nms Hi.bl)).toArray 9)).alloc (.cells (intV blS).toArray 3)).alloc (.cells #[.slice (some ⟨w.heap.size, 0, none⟩) 8 8, .slice (some ⟨w.heap.size + 1, 0, none⟩) 8 8] 63)) := by
      refine ⟨⟨?_, ?_, ?_, by omega⟩, (((Below.refl _ w).alloc (Nat.le_refl _) _).alloc (by simp) _).alloc (by simp; omega) _⟩
      · have := BX.new ((w.alloc (.cells (strV (Hi.nms Hi.bl)).toArray 9)).alloc (.cells (intV blS).toArray 3)) #[.slice (some ⟨w.heap.size, 0, none⟩) 8 8, .slice (some ⟨w.heap.size + 1, 0, none⟩) 8 8] 63
        simp only [World.size_alloc] at this
        exact this
      · exact ((owns_newL w (Nat.le_refl _) (strV (Hi.nms Hi.bl)) 9).alloc _).alloc _
      · have := (owns_newL (w.alloc (.cells (strV (Hi.nms Hi.bl)).toArray 9)) (base := w.heap.size) (by simp) (intV blS) 3).alloc (.cells #[.slice (some ⟨w.heap.size, 0, none⟩) 8 8, .slice (some ⟨w.heap.size + 1, 0, none⟩) 8 8] 63)
        rw [World.size_alloc] at this
        exact this
    have HR0 := hid hR0
    clear hR0 HBu
    obtain ⟨rb, hrb⟩ : ∃ rb, rb = w.heap.size + 2 := ⟨_, rfl⟩
    rw [← hrb] at HR0 ⊢
    have hrb2 : w.heap.size ≤ rb := by omega
    clear hrb
    go_loopw [5] (fun v wr => ∃ (i : Nat) (nv sv : Value), v = .int .i64 (i : Int) ∧ i ≤ l.length ∧ Hid (RnI w rb nv sv (Hi.nms (Hi.bl ++ l.take i)) blS wr) ∧ Hid (Hi.nms (Hi.bl ++ l.take i)).Nodup) (fun v _ => l.length - (intOf v).toNat)
    case atStart => exact ⟨0, _, _, rfl, by omega, HR0, hid (by simpa using Hi.bl_nodup)⟩
    case round =>
      clear HR0
      obtain ⟨i, nv, sv, rfl, hil, HR, HND⟩ := hrel
      have hNl : (Hi.nms (Hi.bl ++ l.take i)).length = 8 + i := by rw [Hi.nms_len, List.length_append, List.length_take, Hi.bl_len]; omega
      have HNl := hid hNl
      have hbx : BX wr rb #[nv, sv] 63 := HR.out.rx.box
      have k0 := hbx.cell 0
      have hI := Kit.isS_of_owns HR.out.rx.nms (by omega)
      have HI := hid hI
      obtain ⟨na, np, hnv⟩ := hI.len
      rw [HNl.out] at hnv
      have HNV := hid hnv
      simp only [List.getElem?_toArray, List.getElem?_cons_zero] at k0
      have hbs := hbx.sz
      clear hbx hI hNl
      by_cases hlt : i < l.length
      · obtain ⟨x, hx⟩ : ∃ x, l[i]? = some x := ⟨_, List.getElem?_eq_getElem hlt⟩
        obtain ⟨b, o, p, hsl, hbl, y0, y1⟩ := lines_at (HL.out wr HR.out.bel) hx
        obtain ⟨rfl, -, rfl⟩ := Value.slice.inj hsl
        have HX := hid hx
        have HQ := hid (fun m => quiet_find (IsS.drewN HI.out m) x.1)
        rw [HNV.out] at k0 HQ
        obtain ⟨rr, hrr⟩ : ∃ rr, idxI x.1 (Hi.nms (Hi.bl ++ l.take i)) = rr := ⟨_, rfl⟩
        rw [hrr] at HQ
        have HRR := hid hrr
        clear hsl hx hrr hnv
        by_cases hneg : 0 ≤ rr
        · have hd : decide (0 ≤ rr) = true := by simpa using hneg
          go_wp2
          go_quiet ((go_at_call 32; exact Calls.quiet_of_same (HQ.out _)))
          go_wp2
          have hbad : Hi.err l = 70 := err_name H64.out (fun hnd => by
            have h1 := nodup_pre (i + 1) hnd
            rw [nms_snoc HX.out, Hi.nodup_snoc, ← Hi.idx_none, ← idxI_neg, HRR.out] at h1
            omega)
          exact bodyPost_ret (v := .tuple #[.pointer none, .int .i64 70]) (by simp [results, Try.results8, go_sem]) rfl (RNewP.bad hbad (by decide) (belows HR.out.bel (below_drewN _ _) HR.out.bel.size))
        · have hd : decide (0 ≤ rr) = false := by simpa using hneg
          go_wp2
          go_quiet ((go_at_call 32; exact Calls.quiet_of_same (HQ.out _)))
          obtain ⟨W1, hW1⟩ : ∃ W1, W1 = wr.drewN nq := ⟨_, rfl⟩
          have HR1 := hid (HR.out.below (W' := W1) (by rw [hW1]; exact below_drewN _ _))
          have z0 : W1.cell? ⟨rb, 0, none⟩ = some (.slice na (8 + i) np) := by rw [hW1]; exact k0
          have z1 : W1.cell? ⟨b, o + i * 2, none⟩ = some (.string x.1) := by rw [hW1]; exact y0
          have hbs1 : rb < W1.heap.size := by rw [hW1]; exact hbs
          have hbl1 : b < W1.heap.size := by rw [hW1]; exact hbl
          have hwz := HR1.out.bel.size
          rw [← hW1]
          have HOw := hid (fun X (k : Below W1.heap.size W1 X) => Kit.owns_below HR1.out.rx.nms k (Nat.le_refl _))
          rw [HNV.out, HNl.out] at HOw
          clear hW1 k0 y0 y1 hbs hbl hneg
          go_wp2
          go_region_law (refine Kit.step_append_own rfl (.tmp 39) (.tmp 45) 60 rfl w.heap.size 9 i0 _ 1 16 Try.underlying60 hi hz0 hz1 hz2 rfl (by decide) (.slice na (8 + i) np) (8 + i) _ rfl (HOw.out _ (by repeat' first | with_reducible exact Below.refl _ _ | with_reducible assumption | with_reducible refine belows_drewN ?_ _ | with_reducible refine Below.drew ?_ | with_reducible refine Below.setCell ?_ ?_ _ | with_reducible refine Below.alloc ?_ ?_ _ | omega | (simp; done) | (simp; omega))) ⟨W1.heap.size, 0, none⟩ 1 1 [.string x.1] rfl rfl (by intro j u hj; exact Kit.news_one _ _ 9 j u hj) (Kit.ones_one rfl) (by unfold maxLen; omega) (by omega) (by first | omega | (simp; omega)) ?_; intro v2 w3 ho3 hg3 hk3; rw [← HNV.out] at hg3; obtain ⟨c3, y3, hN, hBn, hSz⟩ := HR1.out.rx.name HR1.out.bel hwz (by repeat' first | with_reducible exact Below.refl _ _ | with_reducible assumption | with_reducible refine belows_drewN ?_ _ | with_reducible refine Below.drew ?_ | with_reducible refine Below.setCell ?_ ?_ _ | with_reducible refine Below.alloc ?_ ?_ _ | omega | (simp; done) | (simp; omega)) hg3 (by rw [HNl.out]; exact ho3); rw [HNV.out] at c3; have HNx := hid (RnI.mk hN hBn); obtain ⟨b2, q2, rfl⟩ := own_form ho3; clear ho3 hg3 hk3 hN hBn hSz)
          all_goals
            go_wp2
            go_roundw
            case rel => exact ⟨i + 1, _, _, by go_num, by omega, by rw [nms_snoc HX.out]; exact HNx, by rw [nms_snoc HX.out]; exact Hi.nodup_snoc.2 ⟨HND.out, by rw [← Hi.idx_none, ← idxI_neg, HRR.out]; simpa using hd⟩⟩
            case measure => simp [intOf]; omega
      · obtain rfl : i = l.length := by omega
        rw [List.take_length] at HR HND HNl HI
        have hN0 : (Hi.bl ++ l).length = 8 + l.length := by rw [List.length_append, Hi.bl_len]
        obtain ⟨N, hN⟩ : ∃ N, N = Hi.nms (Hi.bl ++ l) := ⟨_, rfl⟩
        have HN := hid hN
        rw [← hN] at HR HND HNl HI
        have HN0 := hid hN0
        clear hbs k0 hN hlt hil hN0
        go_wp2
        go_loopw [6] (fun v wr => ∃ (j : Nat) (sv : Value), v = .int .i64 (j : Int) ∧ j ≤ l.length ∧ Hid (RnI w rb nv sv N (supS N (l.take j)) wr) ∧ Hid (∀ k x, k < j → l[k]? = some x → Hi.idx x.2 N ≠ none)) (fun v _ => l.length - (intOf v).toNat)
        case atStart => exact ⟨0, sv, rfl, by omega, HR, fun k x hk => by omega⟩
        case round =>
          clear HR HI
          obtain ⟨j, sv, rfl, hjl, HR, HF⟩ := hrel
          have hSl : (supS N (l.take j)).length = 8 + j := by unfold supS; rw [List.length_append, List.length_map, List.length_take, show blS.length = 8 from rfl]; omega
          have HSl := hid hSl
          have hbx : BX wr rb #[nv, sv] 63 := HR.out.rx.box
          have k0 : wr.cell? ⟨rb, 0, none⟩ = some nv := hbx.cell 0
          have k1 : wr.cell? ⟨rb, 1, none⟩ = some sv := hbx.cell 1
          have HI := hid (Kit.isS_of_owns HR.out.rx.nms (by rw [HNl.out]; omega))
          rw [HNV.out] at k0
          obtain ⟨sa, sp, hsv⟩ := own_form HR.out.rx.sup
          rw [HSl.out] at hsv
          have HSV := hid hsv
          rw [hsv] at k1
          have hbs := hbx.sz
          clear hbx hSl hsv
          by_cases hlt : j < l.length
          · obtain ⟨x, hx⟩ : ∃ x, l[j]? = some x := ⟨_, List.getElem?_eq_getElem hlt⟩
            obtain ⟨b, o, p, hsl, hbl, y0, y1⟩ := lines_at (HL.out wr HR.out.bel) hx
            obtain ⟨rfl, -, rfl⟩ := Value.slice.inj hsl
            have HX := hid hx
            have HQ := hid (fun m => quiet_find (IsS.drewN HI.out m) x.2)
            rw [HNV.out] at HQ
            obtain ⟨rr, hrr⟩ : ∃ rr, idxI x.2 N = rr := ⟨_, rfl⟩
            rw [hrr] at HQ
            have HRR := hid hrr
            clear hsl hx hrr
            by_cases hneg : rr < 0
            · have hd : decide (rr < 0) = true := by simpa using hneg
              go_wp2
              go_quiet ((go_at_call 32; exact Calls.quiet_of_same (HQ.out _)))
              go_wp2
              have hbad : Hi.err l = 71 := err_super H64.out (by rw [← HN.out]; exact HND.out) ⟨8 + j, x, by omega, by rw [List.getElem?_append_right (by rw [Hi.bl_len]; omega), Hi.bl_len, show 8 + j - 8 = j by omega]; exact HX.out, by rw [← HN.out, ← idxI_neg, HRR.out]; exact hneg⟩
              exact bodyPost_ret (v := .tuple #[.pointer none, .int .i64 71]) (by simp [results, Try.results8, go_sem]) rfl (RNewP.bad hbad (by decide) (belows HR.out.bel (below_drewN _ _) HR.out.bel.size))
            · have hd : decide (rr < 0) = false := by simpa using hneg
              go_wp2
              go_quiet ((go_at_call 32; exact Calls.quiet_of_same (HQ.out _)))
              obtain ⟨W1, hW1⟩ : ∃ W1, W1 = wr.drewN nq := ⟨_, rfl⟩
              have HR1 := hid (HR.out.below (W' := W1) (by rw [hW1]; exact below_drewN _ _))
              have z1 : W1.cell? ⟨rb, 1, none⟩ = some (.slice sa (8 + j) sp) := by rw [hW1]; exact k1
              have hbs1 : rb < W1.heap.size := by rw [hW1]; exact hbs
              have hwz := HR1.out.bel.size
              rw [← hW1]
              have HOw := hid (fun X (k : Below W1.heap.size W1 X) => Kit.owns_below HR1.out.rx.sup k (Nat.le_refl _))
              rw [HSV.out, HSl.out] at HOw
              clear hW1 k0 k1 y0 y1 hbs hbl hneg
              go_wp2_with (at_builtin; refine wpList_append_own_at _ rfl (.tmp 71) (.tmp 73) 39 rfl w.heap.size 3 i9 _ 1 8 Try.underlying39 hi9 hz09 hz19 hz29 rfl (by decide) (.slice sa (8 + j) sp) (8 + j) _ rfl (HOw.out _ (by repeat' first | with_reducible exact Below.refl _ _ | with_reducible assumption | with_reducible refine belows_drewN ?_ _ | with_reducible refine Below.drew ?_ | with_reducible refine Below.setCell ?_ ?_ _ | with_reducible refine Below.alloc ?_ ?_ _ | omega | (simp; done) | (simp; omega))) ⟨W1.heap.size, 0, none⟩ 1 1 [.int .i64 rr] rfl rfl (Kit.news_one _ _ _) (Kit.ones_one rfl) (by unfold maxLen; omega) (by omega) (by simp only [World.size_alloc]; omega) ?_; intro v2 w3 ho3 hg3 _ hk3; rw [← HSV.out] at hg3; obtain ⟨c3, y3, hN, hBn, hSz⟩ := HR1.out.rx.super HR1.out.bel hwz (by repeat' first | with_reducible exact Below.refl _ _ | with_reducible assumption | with_reducible refine belows_drewN ?_ _ | with_reducible refine Below.drew ?_ | with_reducible refine Below.setCell ?_ ?_ _ | with_reducible refine Below.alloc ?_ ?_ _ | omega | (simp; done) | (simp; omega)) hg3 (by rw [HSl.out]; exact ho3); rw [HSV.out] at c3; have HNx := hid (RnI.mk hN hBn); obtain ⟨b2, q2, rfl⟩ := own_form ho3; clear ho3 hg3 hk3 hN hBn hSz)
              all_goals
                go_wp2
                go_roundw
                case rel => exact ⟨j + 1, _, by go_num, by omega, by rw [supS_snoc HX.out, HRR.out]; exact HNx, fun k y hk hy => by
                  by_cases ek : k = j
                  · subst ek
                    have := HX.out.symm.trans hy
                    cases this
                    intro e
                    have := idxI_neg.2 e
                    rw [HRR.out] at this
                    simp at hd
                    omega
                  · exact HF.out k y (by omega) hy⟩
                case measure => simp [intOf]; omega
          · obtain rfl : j = l.length := by omega
            rw [List.take_length] at HR HSl
            have hfound : ∀ k x, 1 ≤ k → (Hi.bl ++ l)[k]? = some x → Hi.idx x.2 (Hi.nms (Hi.bl ++ l)) ≠ none := fun k x h1 hx => by
              by_cases h8 : k < 8
              · exact bl_found l k x h8 h1 hx
              · rw [List.getElem?_append_right (by rw [Hi.bl_len]; omega), Hi.bl_len] at hx
                rw [← HN.out]
                exact HF.out (k - 8) x (List.getElem?_eq_some_iff.1 hx).1 hx
            have HFo := hid hfound
            obtain ⟨n, hn⟩ : ∃ n, n = (Hi.bl ++ l).length := ⟨_, rfl⟩
            have HNn := hid hn
            have hSat := hid (fun (k : Nat) (hk : k < n) => supS_at hfound (k := k) (by rw [← hn]; exact hk))
            rw [← HN.out] at hSat
            have hn8 : n = 8 + l.length := by rw [hn, HN0.out]
            have HPn := hid (show ∀ k, 1 ≤ k → k < n → Hi.sup (Hi.bl ++ l) k < n from fun k _ _ => by rw [hn]; exact Hi.sup_lt _ (by rw [List.length_append, Hi.bl_len]; omega) k)
            obtain ⟨sg, sp2, hsv2, hsg, hsc⟩ := own_at0' HR.out.rx.sup (by rw [HSl.out]; omega)
            rw [HSl.out, ← hn8] at hsv2
            have hS := hid (fun (k : Nat) (hk : k < n) => (hsc k _ (hSat.out k hk)))
            have k1' : wr.cell? ⟨rb, 1, none⟩ = some (.slice (some ⟨sg, 0, none⟩) n sp2) := by rw [k1, ← HSV.out, hsv2]
            have hnp : 1 ≤ n := by omega
            have hn72 : n ≤ 72 := by omega
            obtain ⟨P, hP⟩ : ∃ P, P = Hi.sup (Hi.bl ++ l) := ⟨_, rfl⟩
            have HPe := hid hP
            rw [← hP] at HPn hS
            clear k1 k0 hfound hn hSat hsc hsv2 hP hlt hjl
            have HRf := HR
            clear HR HI
            go_wp2
            go_loop [8] (fun v => ∃ i : Nat, v = .int .i64 (i : Int) ∧ i ≤ n ∧ Hid (∀ k, k < i → Hi.ends P n k = true)) (fun v => n - (intOf v).toNat)
            case atStart => exact ⟨0, rfl, by omega, fun k h => by omega⟩
            case round =>
              obtain ⟨i, rfl, hile, HE⟩ := hrel
              by_cases hin : i < n
              · go_wp2
                go_loop [9, 10] (fun c v => ∃ (a : Nat) (x : Int), c = .int .i64 (a : Int) ∧ v = .int .i64 x ∧ a ≤ n ∧ Hid ((x = -1 ∧ Hi.ends P n i = true) ∨ (∃ m : Nat, x = (m : Int) ∧ m < n ∧ Hi.ends P (n - a) m = Hi.ends P n i))) (fun c _ => n - (intOf c).toNat)
                case atStart => exact ⟨0, i, rfl, rfl, by omega, .inr ⟨i, rfl, hin, by rw [Nat.sub_zero]⟩⟩
                case round =>
                  obtain ⟨a, x, rfl, rfl, han, HR⟩ := hrel
                  rcases HR.out with ⟨rfl, he⟩ | ⟨m, rfl, hm, he⟩
                  · have HE1 := hid he
                    clear he HR
                    go_wp2
                    go_round
                    case rel => exact ⟨i + 1, by go_num, by omega, fun k hk => by
                      by_cases ek : k = i
                      · subst ek; exact HE1.out
                      · exact HE.out k (by omega)⟩
                    case measure => simp [intOf]; omega
                  · have c1 := hS.out m hm
                    by_cases hend : a = n
                    · have hbad : Hi.err l = 72 := err_cycle H64.out (by rw [← HN.out]; exact HND.out) HFo.out (fun ⟨D, tr⟩ => by
                        rw [← HNn.out, ← HPe.out] at tr
                        have h1 := tr.ends hin
                        rw [← he, hend, Nat.sub_self] at h1
                        simp [Hi.ends] at h1)
                      have HBd := hid hbad
                      clear he HR hbad c1
                      subst hend
                      go_wp2
                      exact bodyPost_ret (v := .tuple #[.pointer none, .int .i64 72]) (by simp [results, Try.results8, go_sem]) rfl (RNewP.bad HBd.out (by decide) HRf.out.bel)
                    · have hna : n - a = (n - (a + 1)) + 1 := by omega
                      rw [hna] at he
                      rw [show Hi.ends P (n - (a + 1) + 1) m = (decide (m = 0) || Hi.ends P (n - (a + 1)) (P m)) from rfl] at he
                      by_cases hm0 : m = 0
                      · subst hm0
                        rw [if_pos rfl] at c1
                        have HE1 := hid (show Hi.ends P n i = true by rw [← he]; simp)
                        clear he HR hna
                        go_wp2
                        go_round
                        case rel => exact ⟨a + 1, -1, by go_num, rfl, by omega, .inl ⟨rfl, HE1.out⟩⟩
                        case measure => simp [intOf]; omega
                      · rw [if_neg hm0] at c1
                        rw [decide_eq_false hm0, Bool.false_or] at he
                        have HE1 := hid he
                        have HP1 := hid (HPn.out m (by omega) hm)
                        clear he HR hna
                        obtain ⟨q, hq⟩ : ∃ q, P m = q := ⟨_, rfl⟩
                        rw [hq] at c1 HE1 HP1
                        clear hq
                        go_wp2
                        go_round
                        case rel => exact ⟨a + 1, q, by go_num, rfl, by omega, .inr ⟨q, rfl, HP1.out, HE1.out⟩⟩
                        case measure => simp [intOf]; omega
              · obtain rfl : i = n := by omega
                obtain ⟨D0, htr⟩ : ∃ D, Hi.Tr i P D := ⟨_, Hi.tr_of_ends hnp HPn.out HE.out⟩
                have HTr := hid htr
                have hok0 := err_ok H64.out (by rw [← HN.out]; exact HND.out) HFo.out ⟨_, by rw [← HNn.out, ← HPe.out]; exact htr⟩
                have HOk := hid hok0
                clear htr hok0 hin hile
                go_wp2
                refine bodyPost_ret (v := .tuple #[.pointer (some ⟨rb, 0, none⟩), .int .i64 0]) (by simp [results, Try.results8, go_sem]) rfl ⟨.pointer (some ⟨rb, 0, none⟩), by rw [HOk.out], HRf.out.bel, fun h => absurd HOk.out h, fun _ => ⟨rb, D0, rfl, ?_, ?_⟩⟩
                · rw [← HN.out]
                  exact HRf.out.rx.rm
                · rw [← HN.out, ← HPe.out, ← HNn.out]
                  exact ⟨HTr.out, hn72, by rw [HNl.out, hn8], by rw [HSl.out, hn8], fun k hk => by
                    have := supS_at HFo.out (k := k) (by rw [← HNn.out]; exact hk)
                    rw [← HN.out, ← HPe.out] at this
                    exact this⟩
end Go.Proofs.Ythjcnlgebkaonaa
namespace Go.Proofs.Ythjcnlgebkaonaa
open Go Go.RowKit
open Kit (natVals)

theorem HOk.det {H : HV} {P D D' : Nat → Nat} (h : HOk H P D) (t : Hi.Tr H.n P D') : HOk H P D' := by
  have e : ∀ k, k < H.n → D' k = D k := fun k hk => h.tr.one t (D k) k hk rfl
  refine ⟨t, h.le, h.su, fun k hk => (h.dp k hk).trans (e k hk).symm, h.sb, ?_⟩
  rw [h.od]
  unfold Hi.ordL
  congr 1
  funext d
  refine List.filter_congr fun i hi => ?_
  rw [e i (List.mem_range.1 hi)]
theorem isS_kp {z : Nat} {W X : World} {v : Value} {n : Nat} {xs : List Value} (h : Kit.IsS z W v n xs) (k : Kp 0 W.heap.size W X) : Kit.IsS z X v n xs := by
  refine ⟨h.1, h.2.1, ?_⟩
  rcases h.2.2 with h | ⟨b, o, cap, hv, hl, hlt, hc⟩
  · exact .inl h
  · exact .inr ⟨b, o, cap, hv, hl, Nat.lt_of_lt_of_le hlt k.1, fun i u hi => (World.cell?_of_block (a := ⟨b, o + i, none⟩) (k.2 b (Nat.zero_le _) hlt)).trans (hc i u hi)⟩
/-- The loop of the law, where the order is told as it stands in a box. -/
theorem tells_box {W0 W : World} {base : Nat} {H : HV} (h : HM W0 base H) (hn : H.od.length ≤ 1000) (hb : Below (W0.alloc (.cells #[H.ov] 39)).heap.size (W0.alloc (.cells #[H.ov] 39)) W) {v : Value} (hv : Kit.IsS 1 W v H.od.length (natVals H.od)) (stop : Int) :
    Calls Try.prog 14 #[.func (.func 36) #[] #[.pointer (some ⟨W0.heap.size, 0, none⟩)], v, .int .i64 stop] W fun e w' => e = .returned (.bool true) ∧ Below W.heap.size W w' := by
  have hI : Kit.IsS 1 W0 H.ov H.od.length (natVals H.od) := Kit.isS_of_owns h.ord (by omega)
  have hI2 : Kit.IsS 1 W H.ov H.od.length (natVals H.od) := (hI.below ((Below.refl _ _).alloc (Nat.le_refl _) _) (Nat.le_refl _)).below hb (Nat.le_refl _)
  have hX := (BX.new W0 #[H.ov] 39).below hb
  have hc : W.cell? ⟨W0.heap.size, 0, none⟩ = some H.ov := hX.cell 0
  have hW := hX.sz
  refine tells_any H.od H.ov v stop 0 W0.heap.size W (fun X hX => ⟨isS_kp hI2 hX, ?_⟩) hv hn
  exact (World.cell?_of_block (a := ⟨W0.heap.size, 0, none⟩) (hX.2 _ (Nat.zero_le _) hW)).trans hc
theorem ordL_len {n : Nat} (D : Nat → Nat) (h : n ≤ 72) : (Hi.ordL n D).length ≤ 72 := by
  have := ordP_len (n := n) (D := D) (d := n + 1) (j := 0) (Nat.zero_le _)
  rw [ordP_all] at this
  omega
/-- What Order leaves: what the law's loop then says of it. -/
def OrdP (L : List Nat) (W : World) (e : Ending) (w' : World) : Prop :=
  ∃ B, e = .returned (.func (.func 36) #[] #[.pointer (some ⟨B, 0, none⟩)]) ∧ Below W.heap.size W w' ∧ Hid (∀ (Y : World) (v : Value) (stop : Int), Below w'.heap.size w' Y → Kit.IsS 1 Y v L.length (natVals L) →
    Calls Try.prog 14 #[.func (.func 36) #[] #[.pointer (some ⟨B, 0, none⟩)], v, .int .i64 stop] Y fun e w' => e = .returned (.bool true) ∧ Below Y.heap.size Y w')
theorem Order_tells {X : World} {base : Nat} {H : HV} (h : HM X base H) (hn : H.od.length ≤ 1000) : Calls Try.prog 15 #[.pointer (some ⟨H.hb, 0, none⟩)] X (OrdP H.od X) :=
  (Order_any h).mono fun e w' ⟨h1, h2⟩ => ⟨_, h1, by rw [h2]; exact (Below.refl _ _).alloc (Nat.le_refl _) _, fun Y v stop hb hv => tells_box h hn (by rw [← h2]; exact hb) hv stop⟩
set_option maxRecDepth 100000 in
set_option maxHeartbeats 2000000 in
theorem asks_law {w : World} {lv : Value} {l : List Hi.Ln} (hl : Kit.IsS 2 w lv l.length (l.flatMap lnL)) (hs : ∀ x ∈ l, x.1.size ≤ maxLen ∧ x.2.size ≤ maxLen) (pa pb ps : Int) : Calls Try.prog 3 #[lv, .agg #[.int .i64 pa, .int .i64 pb, .int .i64 ps]] w fun e w' => e = .returned (.bool true) ∧ Below w.heap.size w w' := by
  have hl0 := fun X (b : Below w.heap.size w X) => hl.below b (Nat.le_refl _)
  have hbx := BX.new w #[.int .i64 pa, .int .i64 pb, .int .i64 ps] 24
  have hB0 : Below w.heap.size w (w.alloc (.cells #[.int .i64 pa, .int .i64 pb, .int .i64 ps] 24)) := (Below.refl _ _).alloc (Nat.le_refl _) _
  have HB0 := hid hB0
  have HBX := hid hbx
  obtain ⟨W0, hW0⟩ : ∃ W0, W0 = w.alloc (.cells #[.int .i64 pa, .int .i64 pb, .int .i64 ps] 24) := ⟨_, rfl⟩
  have HW0 := hid hW0
  by_cases he : Hi.err l = 0
  · have HN := hid (New_yes (hl0 _ hB0) hs he)
    have HRN := hid (fun X (b : Below w.heap.size w X) => rNew_any (hl0 X b))
    have HE := hid he
    rw [← hW0] at HN HB0 HBX
    clear hl hs he hl0 hB0 hbx hW0
    go_enter Try.func3, Try.ntmps3
    go_wp2_with fail
    rw [← HW0.out]
    refine HN.out.mono ?_
    rintro e w1 ⟨H, D, rfl, hb1, hm, ok, hn, -, -⟩
    have HM1 := hid hm
    have HB1 := hid (belows HB0.out hb1 HB0.out.size)
    have HX1 := hid (HBX.out.below hb1)
    have OK := hid ok
    have HNn := hid hn
    clear hm hb1 ok hn HN HW0 HBX
    go_wp2_with fail
    refine (HRN.out _ HB1.out).mono ?_
    rintro e w2 ⟨v, he2, hb2, -, h4⟩
    obtain ⟨rb, D2, rfl, rm, rok⟩ := h4 HE.out
    rw [HE.out] at he2
    subst he2
    have HM2 := hid (HM1.out.below hb2)
    have HB2 := hid (belows HB1.out hb2 HB1.out.size)
    have HX2 := hid (HX1.out.below hb2)
    have RM2 := hid rm
    have ROK := hid rok
    clear h4 hb2 rm rok HM1 HB1 HX1 HRN HE
    go_wp2_with fail
    refine (live_any w2).mono ?_
    rintro e w3 ⟨rfl, hb3⟩
    have HM3 := hid (HM2.out.below hb3)
    have HB3 := hid (belows HB2.out hb3 HB2.out.size)
    have RM3 := hid (RM2.out.below hb3)
    have hX3 := HX2.out.below hb3
    have HX3 := hid hX3
    have HBd := hid (Below.refl w3.heap.size w3)
    have e : (Hi.bl ++ l).length = H.n := by rw [HNn.out, List.length_append]; rfl
    have rok := ROK.out
    rw [e] at rok
    have ok2 := OK.out.det rok.tr
    have hln := ordL_len D2 rok.le
    have hod := ok2.od
    have HU := hid (fun X (b : Below w3.heap.size w3 X) => Under_any (HM3.out.below b) ok2 pa pb)
    have RU := hid (fun X (b : Below w3.heap.size w3 X) => rUnder_any (RM3.out.below b) rok pa pb)
    have HC := hid (fun X (b : Below w3.heap.size w3 X) => (Common_any (HM3.out.below b) ok2 pa pb).mono fun e w' h => (show e = _ ∧ Below X.heap.size X w' from ⟨h.1, by obtain ⟨-, m, h⟩ := h; rw [h]; exact below_drewN _ _⟩))
    have RC := hid (fun X (b : Below w3.heap.size w3 X) => rCommon_any (RM3.out.below b) rok pa pb)
    have HO := hid (fun X (b : Below w3.heap.size w3 X) => Order_tells (HM3.out.below b) (by rw [hod]; omega))
    have RO := hid (fun X (b : Below w3.heap.size w3 X) => rOrder_any (RM3.out.below b) rok)
    unfold HV.underO at HU
    unfold HV.commonO at HC
    rw [hod] at HO
    obtain ⟨u, hu⟩ : ∃ u, (isC H.n pa && isC H.n pb && Hi.und (Hi.sup (Hi.bl ++ l)) D2 pa.toNat pb.toNat) = u := ⟨_, rfl⟩
    obtain ⟨c, hc⟩ : ∃ c : Int, (if (isC H.n pa && isC H.n pb) = true then ((Hi.cm (Hi.sup (Hi.bl ++ l)) D2 pa.toNat pb.toNat : Nat) : Int) else -1) = c := ⟨_, rfl⟩
    obtain ⟨L, hL⟩ : ∃ L, Hi.ordL H.n D2 = L := ⟨_, rfl⟩
    obtain ⟨hp, hhp⟩ : ∃ hp, H.hb = hp := ⟨_, rfl⟩
    rw [hu] at HU RU
    rw [hc] at HC RC
    rw [hL] at HO RO hln
    rw [hhp] at HU HC HO ⊢
    have HLn := hid (show L.length ≤ 1000 by omega)
    have x0 : w3.cell? ⟨w.heap.size, 0, none⟩ = some (.int .i64 pa) := hX3.cell 0
    have x1 : w3.cell? ⟨w.heap.size, 1, none⟩ = some (.int .i64 pb) := hX3.cell 1
    have x2 : w3.cell? ⟨w.heap.size, 2, none⟩ = some (.int .i64 ps) := hX3.cell 2
    clear hb3 HM2 HB2 HX2 RM2 HM3 RM3 e rok ok2 hln hod hu hc hL hhp OK ROK HNn hX3
    go_wp2_with fail
    go_region_held3 (fun w' => w'.cell? ⟨w.heap.size, 0, none⟩ = some (.int .i64 pa) ∧ w'.cell? ⟨w.heap.size, 1, none⟩ = some (.int .i64 pb) ∧ w'.cell? ⟨w.heap.size, 2, none⟩ = some (.int .i64 ps))
      (first | exact ⟨x0, x1, x2⟩ | go_keep)
      (first | (go_at_call 10; refine (HU.out _ (by first | exact HBc.out | exact HBd.out | exact (by repeat' first | with_reducible exact Below.refl _ _ | with_reducible assumption | with_reducible refine belows_drewN ?_ _ | with_reducible refine Below.drew ?_ | with_reducible refine Below.setCell ?_ ?_ _ | with_reducible refine Below.alloc ?_ ?_ _ | omega | (simp; done) | (simp; omega)))).mono ?_; rintro e w' ⟨rfl, rfl⟩) | (go_at_call 11; refine (RU.out _ (by first | exact HBc.out | exact HBd.out | exact (by repeat' first | with_reducible exact Below.refl _ _ | with_reducible assumption | with_reducible refine belows_drewN ?_ _ | with_reducible refine Below.drew ?_ | with_reducible refine Below.setCell ?_ ?_ _ | with_reducible refine Below.alloc ?_ ?_ _ | omega | (simp; done) | (simp; omega)))).mono ?_; rintro e w' ⟨rfl, rfl⟩) | (go_at_call 12; refine (HC.out _ (by first | exact HBc.out | exact HBd.out | exact (by repeat' first | with_reducible exact Below.refl _ _ | with_reducible assumption | with_reducible refine belows_drewN ?_ _ | with_reducible refine Below.drew ?_ | with_reducible refine Below.setCell ?_ ?_ _ | with_reducible refine Below.alloc ?_ ?_ _ | omega | (simp; done) | (simp; omega)))).mono ?_; rintro e w4 ⟨rfl, hb⟩; have HBn := hid (belows (show Below w3.heap.size w3 _ from (by first | exact HBc.out | exact HBd.out | exact (by repeat' first | with_reducible exact Below.refl _ _ | with_reducible assumption | with_reducible refine belows_drewN ?_ _ | with_reducible refine Below.drew ?_ | with_reducible refine Below.setCell ?_ ?_ _ | with_reducible refine Below.alloc ?_ ?_ _ | omega | (simp; done) | (simp; omega)))) hb (Below.size (show Below w3.heap.size w3 _ from (by first | exact HBc.out | exact HBd.out | exact (by repeat' first | with_reducible exact Below.refl _ _ | with_reducible assumption | with_reducible refine belows_drewN ?_ _ | with_reducible refine Below.drew ?_ | with_reducible refine Below.setCell ?_ ?_ _ | with_reducible refine Below.alloc ?_ ?_ _ | omega | (simp; done) | (simp; omega)))))); (first | clear HBc | skip); have HBc := HBn; clear HBn hb; have hX := HX3.out.below HBc.out; clear x0 x1 x2; have x0 : w4.cell? ⟨w.heap.size, 0, none⟩ = some (.int .i64 pa) := hX.cell 0; have x1 : w4.cell? ⟨w.heap.size, 1, none⟩ = some (.int .i64 pb) := hX.cell 1; have x2 : w4.cell? ⟨w.heap.size, 2, none⟩ = some (.int .i64 ps) := hX.cell 2; clear hX) | (go_at_call 13; refine (RC.out _ (by first | exact HBc.out | exact HBd.out | exact (by repeat' first | with_reducible exact Below.refl _ _ | with_reducible assumption | with_reducible refine belows_drewN ?_ _ | with_reducible refine Below.drew ?_ | with_reducible refine Below.setCell ?_ ?_ _ | with_reducible refine Below.alloc ?_ ?_ _ | omega | (simp; done) | (simp; omega)))).mono ?_; rintro e w' ⟨rfl, rfl⟩) | (go_at_call 15; refine (HO.out _ (by first | exact HBc.out | exact HBd.out | exact (by repeat' first | with_reducible exact Below.refl _ _ | with_reducible assumption | with_reducible refine belows_drewN ?_ _ | with_reducible refine Below.drew ?_ | with_reducible refine Below.setCell ?_ ?_ _ | with_reducible refine Below.alloc ?_ ?_ _ | omega | (simp; done) | (simp; omega)))).mono ?_; rintro e w5 ⟨B, rfl, hb, HT⟩; have HBn := hid (belows (show Below w3.heap.size w3 _ from (by first | exact HBc.out | exact HBd.out | exact (by repeat' first | with_reducible exact Below.refl _ _ | with_reducible assumption | with_reducible refine belows_drewN ?_ _ | with_reducible refine Below.drew ?_ | with_reducible refine Below.setCell ?_ ?_ _ | with_reducible refine Below.alloc ?_ ?_ _ | omega | (simp; done) | (simp; omega)))) hb (Below.size (show Below w3.heap.size w3 _ from (by first | exact HBc.out | exact HBd.out | exact (by repeat' first | with_reducible exact Below.refl _ _ | with_reducible assumption | with_reducible refine belows_drewN ?_ _ | with_reducible refine Below.drew ?_ | with_reducible refine Below.setCell ?_ ?_ _ | with_reducible refine Below.alloc ?_ ?_ _ | omega | (simp; done) | (simp; omega)))))); (first | clear HBc | skip); have HBc := HBn; clear HBn hb; have hX := HX3.out.below HBc.out; clear x0 x1 x2; have x0 : w5.cell? ⟨w.heap.size, 0, none⟩ = some (.int .i64 pa) := hX.cell 0; have x1 : w5.cell? ⟨w.heap.size, 1, none⟩ = some (.int .i64 pb) := hX.cell 1; have x2 : w5.cell? ⟨w.heap.size, 2, none⟩ = some (.int .i64 ps) := hX.cell 2; clear hX) | (go_at_call 16; refine (RO.out _ (by first | exact HBc.out | exact HBd.out | exact (by repeat' first | with_reducible exact Below.refl _ _ | with_reducible assumption | with_reducible refine belows_drewN ?_ _ | with_reducible refine Below.drew ?_ | with_reducible refine Below.setCell ?_ ?_ _ | with_reducible refine Below.alloc ?_ ?_ _ | omega | (simp; done) | (simp; omega)))).mono ?_; rintro e w6 ⟨v, rfl, hown, hb⟩; have HBo := hid hb; have HIs := hid (Kit.isS_of_owns hown (by have := HLn.out; omega)); obtain ⟨va, vc, rfl⟩ := own_form hown; clear hown; have HBn := hid (belows (show Below w3.heap.size w3 _ from (by first | exact HBc.out | exact HBd.out | exact (by repeat' first | with_reducible exact Below.refl _ _ | with_reducible assumption | with_reducible refine belows_drewN ?_ _ | with_reducible refine Below.drew ?_ | with_reducible refine Below.setCell ?_ ?_ _ | with_reducible refine Below.alloc ?_ ?_ _ | omega | (simp; done) | (simp; omega)))) hb (Below.size (show Below w3.heap.size w3 _ from (by first | exact HBc.out | exact HBd.out | exact (by repeat' first | with_reducible exact Below.refl _ _ | with_reducible assumption | with_reducible refine belows_drewN ?_ _ | with_reducible refine Below.drew ?_ | with_reducible refine Below.setCell ?_ ?_ _ | with_reducible refine Below.alloc ?_ ?_ _ | omega | (simp; done) | (simp; omega)))))); (first | clear HBc | skip); have HBc := HBn; clear HBn hb; have hX := HX3.out.below HBc.out; clear x0 x1 x2; have x0 : w6.cell? ⟨w.heap.size, 0, none⟩ = some (.int .i64 pa) := hX.cell 0; have x1 : w6.cell? ⟨w.heap.size, 1, none⟩ = some (.int .i64 pb) := hX.cell 1; have x2 : w6.cell? ⟨w.heap.size, 2, none⟩ = some (.int .i64 ps) := hX.cell 2; clear hX) | (go_at_call 14; refine (HT.out _ _ _ HBo.out HIs.out).mono ?_; rintro e w7 ⟨rfl, hb⟩; clear HT HBo HIs; have HBn := hid (belows (show Below w3.heap.size w3 _ from (by first | exact HBc.out | exact HBd.out | exact (by repeat' first | with_reducible exact Below.refl _ _ | with_reducible assumption | with_reducible refine belows_drewN ?_ _ | with_reducible refine Below.drew ?_ | with_reducible refine Below.setCell ?_ ?_ _ | with_reducible refine Below.alloc ?_ ?_ _ | omega | (simp; done) | (simp; omega)))) hb (Below.size (show Below w3.heap.size w3 _ from (by first | exact HBc.out | exact HBd.out | exact (by repeat' first | with_reducible exact Below.refl _ _ | with_reducible assumption | with_reducible refine belows_drewN ?_ _ | with_reducible refine Below.drew ?_ | with_reducible refine Below.setCell ?_ ?_ _ | with_reducible refine Below.alloc ?_ ?_ _ | omega | (simp; done) | (simp; omega)))))); (first | clear HBc | skip); have HBc := HBn; clear HBn hb; have hX := HX3.out.below HBc.out; clear x0 x1 x2; have x0 : w7.cell? ⟨w.heap.size, 0, none⟩ = some (.int .i64 pa) := hX.cell 0; have x1 : w7.cell? ⟨w.heap.size, 1, none⟩ = some (.int .i64 pb) := hX.cell 1; have x2 : w7.cell? ⟨w.heap.size, 2, none⟩ = some (.int .i64 ps) := hX.cell 2; clear hX))
    go_wp2
    go_ret
    exact ⟨by simp, belows HB3.out HBc.out HB3.out.size⟩
  · have HN := hid (New_no (hl0 _ hB0) hs he)
    have HRN := hid (fun X (b : Below w.heap.size w X) => rNew_any (hl0 X b))
    have HE := hid he
    obtain ⟨k, hk⟩ : ∃ k, Hi.err l = k := ⟨_, rfl⟩
    have HK := hid hk
    rw [hk] at HN he
    have hne : (k != 0) = true := by simpa using he
    rw [← hW0] at HN HB0
    clear hl hs hk he hl0 hB0 hbx hW0 HBX
    go_enter Try.func3, Try.ntmps3
    go_wp2_with fail
    rw [← HW0.out]
    refine HN.out.mono ?_
    rintro e w1 ⟨rfl, hb1⟩
    have HB1 := hid (belows HB0.out hb1 HB0.out.size)
    clear hb1 HN HW0
    go_wp2_with fail
    refine (HRN.out _ HB1.out).mono ?_
    rintro e w2 ⟨v, he2, hb2, h3, -⟩
    obtain rfl := h3 HE.out
    rw [HK.out] at he2
    subst he2
    have HB2 := hid (belows HB1.out hb2 HB1.out.size)
    clear hb2 h3 HB1 HRN HE HK
    go_wp2_with fail
    refine (live_any w2).mono ?_
    rintro e w3 ⟨rfl, hb3⟩
    have HB3 := hid (belows HB2.out hb3 HB2.out.size)
    clear hb3 HB2
    go_wp2
    go_ret
    exact ⟨rfl, HB3.out⟩
end Go.Proofs.Ythjcnlgebkaonaa
namespace Go.Proofs.Ythjcnlgebkaonaa
open Go.ChangeShapes Go.WideShapes Go.ChangeAt Go.RowKit Go.WideMaps Go.WideElems

set_option maxRecDepth 100000
section
variable {H : Type} {enc : TypeId × Value → H}
theorem weights_allT {P : Program} {e : TypeId} : ∀ {ds : List (DataW H)} {d : DataW H}, d ∈ ds → (DataW.weightsAll P e ds).all (· ≤ reachBytes) = true → (d.weights P e).all (· ≤ reachBytes) = true
  | [], _, h, _ => by cases h
  | x :: r, d, h, hw => by
    simp only [DataW.weightsAll, List.all_append, Bool.and_eq_true] at hw
    rcases List.mem_cons.1 h with rfl | h
    · exact hw.1
    · exact weights_allT h hw.2
theorem bulk_pos (d : DataW H) : 1 ≤ Rows.uptoBulk d := by
  cases d with
  | lit l => cases l <;> simp [Rows.uptoBulk]
  | _ => simp [Rows.uptoBulk]
theorem bulk_len : ∀ l : List (DataW H), l.length ≤ Rows.uptoBulkAll l
  | [] => by simp [Rows.uptoBulkAll]
  | x :: r => by have h1 := bulk_pos x; have h2 := bulk_len r; simp only [Rows.uptoBulkAll, List.length_cons]; omega
theorem bulk_mem : ∀ {l : List (DataW H)} {d : DataW H}, d ∈ l → Rows.uptoBulk d ≤ Rows.uptoBulkAll l
  | [], _, h => by cases h
  | x :: r, d, h => by
    simp only [Rows.uptoBulkAll]
    rcases List.mem_cons.1 h with rfl | h
    · omega
    · have := bulk_mem h; omega
theorem A.cellsStr : Try.prog.cellsOf 9 = 1 := by kernel_rfl
set_option maxRecDepth 100000 in
/-- A list of things of so many cells each, in a cell. -/
theorem list_cell {α : Type} {W : World} {n : Nat} {k : Value} {y : DataW H × List MemPlace} {tS tE : TypeId} {s by_ : Nat} (G : DataW H → List Value → α → Prop) (hG : ∀ d cs x, G d cs x → cs.length = s) (hs : 0 < s)
    (hu : Try.prog.underlying tS = some (.slice tE)) (hco : Try.prog.cellsOf tE = s) (hby : Try.prog.bytesOf tE = by_) (hb0 : 0 < by_)
    (he : ∀ (m : Nat) (cs : List Value) (z : DataW H × List MemPlace), DataW.trod enc Try.prog W 0 (fun _ => true) true m tE cs = some z → (z.1.weights Try.prog tE).all (· ≤ reachBytes) = true → ∃ x, G z.1 cs x)
    (h : DataW.trod enc Try.prog W 0 (fun _ => true) true n tS [k] = some y) (hw : (y.1.weights Try.prog tS).all (· ≤ reachBytes) = true) :
    ∃ (xs : List α) (rs : List (List Value)), rs.length = xs.length ∧ (∀ (i : Nat) (r : List Value) (x : α), rs[i]? = some r → xs[i]? = some x → ∃ d, G d r x ∧ Rows.uptoBulk d ≤ Rows.uptoBulk y.1) ∧ Kit.IsS s W k xs.length rs.flatten ∧ xs.length * by_ ≤ 140737488351232 ∧ xs.length ≤ Rows.uptoBulk y.1 := by
  rcases DataW.trod_slice hu h with ⟨hcs, rfl⟩ | ⟨a, len, cap, elems, rest, m, -, hcs, rfl, -, hl, hm, hel, hcells, hsp, -⟩
  · obtain rfl : k = .slice none 0 0 := by simpa using hcs
    exact ⟨[], [], rfl, fun i r x hr => by simp at hr, ⟨by simp, by simp, .inl ⟨rfl, none, 0, rfl⟩⟩, by simp, by simp⟩
  · obtain rfl : k = .slice (some a) len cap := by simpa using hcs
    simp only [DataW.weights, hu, List.all_cons, List.all_append, Bool.and_eq_true, decide_eq_true_eq, hby] at hw
    have hcap : len * by_ ≤ 140737488351232 := by
      have h1 := hw.1
      simp only [List.length_map, reachBytes] at h1
      rw [hel] at h1
      exact Nat.le_trans (Nat.mul_le_mul_right _ (Nat.le_add_right _ _)) h1
    have hbl : len ≤ Rows.uptoBulk (.slice (elems.map (·.1)) (rest.map (·.1)) : DataW H) := by
      have := bulk_len (elems.map (·.1))
      rw [List.length_map, hel] at this
      simp only [Rows.uptoBulk]
      omega
    have each : ∀ i, ∃ q : List Value × Option α, i < len → q.1.length = s ∧ (∀ j, j < s → W.cell? ((a.add (i * s)).add j) = q.1[j]?) ∧ ∃ x d, q.2 = some x ∧ G d q.1 x ∧ Rows.uptoBulk d ≤ Rows.uptoBulk (.slice (elems.map (·.1)) (rest.map (·.1)) : DataW H) := by
      intro i
      by_cases hi : i < len
      · have h1 := hcells i hi
        rw [hco, List.getElem?_eq_getElem (by omega), Option.bind_eq_some_iff] at h1
        obtain ⟨cs, hcs', htr⟩ := h1
        have hmem : elems[i].1 ∈ elems.map (·.1) := List.mem_map_of_mem (List.getElem_mem _)
        obtain ⟨x, hx⟩ := he _ _ _ htr (weights_allT hmem hw.2.1)
        refine ⟨(cs, some x), fun _ => ⟨hG _ _ _ hx, fun j hj => (World.cells?_some hcs').2.2 j hj, x, _, rfl, hx, ?_⟩⟩
        have := bulk_mem hmem
        simp only [Rows.uptoBulk]
        omega
      · exact ⟨([], none), fun h => absurd h hi⟩
    obtain ⟨f, hfx⟩ := Classical.skolem.1 each
    have hxs : ∃ xs : List α, xs.length = len ∧ ∀ i, i < len → xs[i]? = (f i).2 := by
      have : ∀ m, m ≤ len → ∃ xs : List α, xs.length = m ∧ ∀ i, i < m → xs[i]? = (f i).2 := by
        intro m
        induction m with
        | zero => intro _; exact ⟨[], rfl, fun i hi => by omega⟩
        | succ m ih =>
          intro hm
          obtain ⟨xs, h1, h2⟩ := ih (by omega)
          obtain ⟨-, -, x, d, hx, -⟩ := hfx m (by omega)
          refine ⟨xs ++ [x], by simp [h1], fun i hi => ?_⟩
          by_cases e : i < m
          · rw [List.getElem?_append_left (by omega)]; exact h2 i e
          · obtain rfl : i = m := by omega
            rw [List.getElem?_append_right (by omega), h1, Nat.sub_self, hx]
            rfl
      exact this len (Nat.le_refl _)
    obtain ⟨xs, hxl, hxe⟩ := hxs
    have hrl : ∀ r ∈ (List.range len).map (fun i => (f i).1), r.length = s := by
      intro r hr
      obtain ⟨i, hi, rfl⟩ := List.mem_map.1 hr
      exact (hfx i (List.mem_range.1 hi)).1
    have hfl : ∀ (rs : List (List Value)), (∀ r ∈ rs, r.length = s) → rs.flatten.length = rs.length * s ∧ ∀ i r, rs[i]? = some r → ∀ j, j < s → rs.flatten[i * s + j]? = r[j]? := by
      intro rs
      induction rs with
      | nil => intro _; exact ⟨by simp, fun i r hr => by simp at hr⟩
      | cons r0 rs ih =>
        intro hr
        obtain ⟨h1, h2⟩ := ih (fun r h => hr r (List.mem_cons_of_mem _ h))
        have h0 := hr r0 (by simp)
        refine ⟨by rw [List.flatten_cons, List.length_append, h0, h1, List.length_cons, Nat.succ_mul]; omega, fun i r hi j hj => ?_⟩
        match i, hi with
        | 0, hi =>
          simp at hi
          subst hi
          rw [List.flatten_cons, List.getElem?_append_left (by omega)]
          simp
        | i + 1, hi =>
          rw [List.flatten_cons, List.getElem?_append_right (by rw [h0, Nat.succ_mul]; omega), h0, ← h2 i r (by simpa using hi) j hj]
          congr 1
          rw [Nat.succ_mul]
          omega
    obtain ⟨hfl1, hfl2⟩ := hfl _ hrl
    have hrlen : ((List.range len).map (fun i => (f i).1)).length = len := by simp
    refine ⟨xs, (List.range len).map (fun i => (f i).1), by rw [hrlen, hxl], fun i r x hr hx => ?_, ⟨by rw [hfl1, hrlen, hxl], by rw [hxl]; exact Nat.le_trans (Nat.le_trans (Nat.le_mul_of_pos_right _ hb0) hcap) (by decide), ?_⟩, by rw [hxl]; exact hcap, by rw [hxl]; exact hbl⟩
    · have hi : i < len := by
        have := (List.getElem?_eq_some_iff.1 hx).1
        omega
      obtain ⟨-, -, x', d, hx', hg, hb⟩ := hfx i hi
      rw [hxe i hi, hx'] at hx
      cases hx
      rw [List.getElem?_map, List.getElem?_range hi] at hr
      simp only [Option.map_some, Option.some.injEq] at hr
      subst hr
      exact ⟨d, hg, hb⟩
    · by_cases h0 : len = 0
      · exact .inl ⟨by rw [hxl, h0], some a, cap, by rw [h0]⟩
      · obtain ⟨b, o, spot⟩ := a
        have hsp0 : ∃ u, W.cell? (((⟨b, o, spot⟩ : Addr).add (0 * s)).add 0) = some u := by
          obtain ⟨h1, h2, -⟩ := hfx 0 (by omega)
          refine ⟨(f 0).1[0]'(by omega), ?_⟩
          rw [h2 0 hs, List.getElem?_eq_getElem]
        obtain ⟨u0, hsp0⟩ := hsp0
        have hspot : spot = none := by
          have := World.cell?_spot hsp0
          simpa [Addr.add] using this
        subst hspot
        have hat : ∀ i j, ((⟨b, o, none⟩ : Addr).add i).add j = ⟨b, o + (i + j), none⟩ := by
          intro i j
          rw [add_plain, add_plain]; congr 1; omega
        refine .inr ⟨b, o, cap, by rw [hxl], by rw [hxl]; exact hl, ?_, fun i u hi => ?_⟩
        · have := World.block_lt_of_cell? W _ hsp0
          simpa [Addr.add] using this
        · have hil : i < len * s := by
            have := (List.getElem?_eq_some_iff.1 hi).1
            rw [hfl1, hrlen] at this
            exact this
          have hq : i / s < len := Nat.div_lt_of_lt_mul (by rw [Nat.mul_comm]; exact hil)
          have hr : i % s < s := Nat.mod_lt _ hs
          have e : i / s * s + i % s = i := by rw [Nat.mul_comm]; exact Nat.div_add_mod i s
          have hget : ((List.range len).map (fun i => (f i).1))[i / s]? = some (f (i / s)).1 := by rw [List.getElem?_map, List.getElem?_range hq]; rfl
          have h1 := hfl2 (i / s) _ hget (i % s) hr
          rw [e] at h1
          have h2 := (hfx (i / s) hq).2.1 (i % s) hr
          rw [hat, e] at h2
          rw [h2, ← h1]
          exact hi
theorem rs_map {α : Type} {f : α → List Value} {xs : List α} {rs : List (List Value)} (hl : rs.length = xs.length) (h : ∀ (i : Nat) (r : List Value) (x : α), rs[i]? = some r → xs[i]? = some x → r = f x) : rs.flatten = xs.flatMap f := by
  have e : rs = xs.map f := by
    apply List.ext_getElem?
    intro i
    rw [List.getElem?_map]
    by_cases hi : i < xs.length
    · have h1 : rs[i]? = some rs[i] := List.getElem?_eq_getElem (by omega)
      have h2 : xs[i]? = some xs[i] := List.getElem?_eq_getElem hi
      rw [h1, h2, h i _ _ h1 h2]
      rfl
    · rw [List.getElem?_eq_none (by omega), List.getElem?_eq_none (by omega)]
      rfl
  rw [e, List.flatMap_def]
theorem i64_of {a : Int} (h : (Lit.int .i64 a).wf = true) : -9223372036854775808 ≤ a ∧ a ≤ 9223372036854775807 := by
  simp [Lit.wf, IntKind.min, IntKind.max, IntKind.signed, IntKind.bits] at h
  omega
theorem A.cellsInt : Try.prog.cellsOf 3 = 1 := by kernel_rfl
theorem ln_cells {W : World} {n : Nat} {cs : List Value} {y : DataW H × List MemPlace} (h : DataW.trod enc Try.prog W 0 (fun _ => true) true n 56 cs = some y) (hw : (y.1.weights Try.prog 56).all (· ≤ reachBytes) = true) :
    ∃ x : Hi.Ln, cs = lnL x ∧ x.1.size ≤ maxLen ∧ x.2.size ≤ maxLen := by
  obtain ⟨xs, m, -, hy, hl, hlen, hf⟩ := DataW.trod_struct Try.underlying56 h
  have hl3 : cs.length = 2 := hl.trans (by kernel_rfl)
  have hx3 : xs.length = 2 := hlen
  match xs, hx3 with
  | [x0, x1], _ =>
  match cs, hl3 with
  | [k0, k1], _ =>
  obtain ⟨a, e0, g0, -⟩ := DataW.trod_string Try.underlying9 (hf 0 _ rfl)
  obtain ⟨b, e1, g1, -⟩ := DataW.trod_string Try.underlying9 (hf 1 _ rfl)
  have q0 : ([k0, k1].drop 0).take (Try.prog.cellsOf 9) = [.string a] := e0
  have q1 : ([k0, k1].drop 1).take (Try.prog.cellsOf 9) = [.string b] := e1
  clear e0 e1 hf
  rw [A.cellsStr] at q0 q1
  simp only [List.drop_zero, List.take_succ_cons, List.take_zero, List.cons.injEq, and_true, List.drop_succ_cons] at q0 q1
  subst q0 q1
  subst g0 g1 hy
  refine ⟨(a, b), rfl, ?_⟩
  simp [DataW.weights, Try.underlying56, DataW.weightsEach, reachBytes] at hw
  have h1 : a.size ≤ 140737488351232 := of_decide_eq_true hw.1
  have h2 : b.size ≤ 140737488351232 := of_decide_eq_true hw.2
  exact ⟨show a.size ≤ _ by unfold maxLen; omega, show b.size ≤ _ by unfold maxLen; omega⟩
theorem open_linesb {W : World} {v : Value} {d : DataW H} {ps : List MemPlace} {base : Nat}
    (hok : Value.okWide Try.prog W .any base 22 v) (h : DataW.Trod enc Try.prog W 0 (fun _ => true) true 22 v d ps) (hw : (d.weights Try.prog 22).all (· ≤ reachBytes) = true) :
    ∃ l : List Hi.Ln, Kit.IsS 2 W v l.length (l.flatMap lnL) ∧ (∀ x ∈ l, x.1.size ≤ maxLen ∧ x.2.size ≤ maxLen) ∧ l.length * 32 ≤ 140737488351232 := by
  obtain ⟨a0, len, cap, rfl⟩ := okWide_slice Try.underlying22 hok
  obtain ⟨fuel, hf⟩ := h
  obtain ⟨xs, rs, h1, h2, h3, h4, h5⟩ := list_cell (s := 2) (by_ := 32) (tE := 56) (fun (_ : DataW H) cs (x : Hi.Ln) => cs = lnL x ∧ x.1.size ≤ maxLen ∧ x.2.size ≤ maxLen) (fun _ _ x h => by rw [h.1]; rfl) (by decide) Try.underlying22 (by kernel_rfl) (by kernel_rfl) (by decide) (fun m cs z hz hw => ln_cells hz hw) (y := (d, ps)) hf hw
  refine ⟨xs, ?_, fun c hc => ?_, h4⟩
  · rw [← rs_map h1 (fun i r x hr hx => by obtain ⟨d, hd, -⟩ := h2 i r x hr hx; exact hd.1)]
    exact h3
  · obtain ⟨i, hi⟩ := List.mem_iff_getElem?.1 hc
    have hlt : i < rs.length := by rw [h1]; exact (List.getElem?_eq_some_iff.1 hi).1
    obtain ⟨d, hd, -⟩ := h2 i _ c (List.getElem?_eq_getElem hlt) hi
    exact hd.2
theorem open_lines {W : World} {v : Value} {d : DataW H} {ps : List MemPlace} {base : Nat}
    (hok : Value.okWide Try.prog W .any base 22 v) (h : DataW.Trod enc Try.prog W 0 (fun _ => true) true 22 v d ps) (hw : (d.weights Try.prog 22).all (· ≤ reachBytes) = true) :
    ∃ l : List Hi.Ln, Kit.IsS 2 W v l.length (l.flatMap lnL) ∧ (∀ x ∈ l, x.1.size ≤ maxLen ∧ x.2.size ≤ maxLen) := by
  obtain ⟨l, h1, h2, -⟩ := open_linesb hok h hw
  exact ⟨l, h1, h2⟩
theorem open_pair {W : World} {base : Nat} {v : Value} {d : DataW H} {p : List MemPlace} (hv : Value.okWide Try.prog W .any base 24 v) (h : DataW.Trod enc Try.prog W 0 (fun _ => true) true 24 v d p) (_hw : (d.weights Try.prog 24).all (· ≤ reachBytes) = true) :
    ∃ (a b s : Int), v = .agg #[.int .i64 a, .int .i64 b, .int .i64 s] ∧ (-9223372036854775808 ≤ a ∧ a ≤ 9223372036854775807) ∧ (-9223372036854775808 ≤ b ∧ b ≤ 9223372036854775807) ∧ -9223372036854775808 ≤ s ∧ s ≤ 9223372036854775807 := by
  obtain ⟨cs, rfl, hsz⟩ := okWide_struct Try.underlying24 hv
  obtain ⟨fuel, hf0⟩ := h
  obtain ⟨xs, m, -, hy, hl, hlen, hf⟩ := DataW.trod_struct Try.underlying24 hf0
  have hl3 : cs.toList.length = 3 := hl.trans (by kernel_rfl)
  have hx3 : xs.length = 3 := hlen
  obtain ⟨cs⟩ := cs
  match xs, hx3 with
  | [x0, x1, x2], _ =>
  match cs, hl3 with
  | [k0, k1, k2], _ =>
  obtain ⟨a, e0, g0, w0⟩ := DataW.trod_int Try.underlying3 (hf 0 _ rfl)
  obtain ⟨b, e1, g1, w1⟩ := DataW.trod_int Try.underlying3 (hf 1 _ rfl)
  obtain ⟨c, e2, g2, w2⟩ := DataW.trod_int Try.underlying3 (hf 2 _ rfl)
  have q0 : ([k0, k1, k2].drop 0).take (Try.prog.cellsOf 3) = [.int .i64 a] := e0
  have q1 : ([k0, k1, k2].drop 1).take (Try.prog.cellsOf 3) = [.int .i64 b] := e1
  have q2 : ([k0, k1, k2].drop 2).take (Try.prog.cellsOf 3) = [.int .i64 c] := e2
  clear e0 e1 e2 hf
  rw [A.cellsInt] at q0 q1 q2
  simp only [List.drop_zero, List.take_succ_cons, List.take_zero, List.cons.injEq, and_true, List.drop_succ_cons] at q0 q1 q2
  subst q0 q1 q2
  exact ⟨a, b, c, rfl, i64_of w0, i64_of w1, i64_of w2⟩
theorem weights_eachT {P : Program} : ∀ {ts : List TypeId} {ds : List (DataW H)} {j : Nat} {t : TypeId} {d : DataW H}, ts[j]? = some t → ds[j]? = some d → (DataW.weightsEach P ts ds).all (· ≤ reachBytes) = true → (d.weights P t).all (· ≤ reachBytes) = true
  | [], _, _, _, _, h, _, _ => by simp at h
  | _, [], _, _, _, _, h, _ => by simp at h
  | t :: ts, d :: ds, 0, _, _, h1, h2, h => by
    simp only [List.getElem?_cons_zero, Option.some.injEq] at h1 h2
    subst h1 h2
    simp only [DataW.weightsEach, List.all_append, Bool.and_eq_true] at h
    exact h.1
  | t :: ts, d :: ds, j + 1, _, _, h1, h2, h => by
    simp only [DataW.weightsEach, List.all_append, Bool.and_eq_true] at h
    exact weights_eachT (j := j) (by simpa using h1) (by simpa using h2) h.2
end
end Go.Proofs.Ythjcnlgebkaonaa
namespace Go.Proofs.Ythjcnlgebkaonaa.Kit
open Go Go.RowKit Go.ChangeShapes Go.WideShapes Go.ChangeAt

section
variable {H : Type} {enc : TypeId × Value → H} {P : Program}
/-- Arguments read in a later world as they did. -/
theorem trodAll_later (hl : laidOutB P = true) {W W' : World} (hb : Below W.heap.size W W') (sp : Nat → Bool) :
    ∀ {ts : List TypeId} {vs : List Value} {ds : List (DataW H)} {ps : List MemPlace}, (∀ t ∈ ts, P.readableRec t = true ∧ t < P.types.size) → DataW.TrodAll enc P W 0 (fun _ => true) true ts vs ds ps →
      (∀ x ∈ ps, x.block < W.heap.size) → (∀ x ∈ ps, sp x.block = true) → DataW.TrodAll enc P W' 0 sp true ts vs ds ps
  | [], vs, ds, ps, _, h, _, _ => by
    obtain ⟨rfl, rfl, rfl⟩ := trodAll_nil h
    exact trodAll_mk0
  | t :: ts, vs, ds, ps, hr, h, hlt, hsp => by
    obtain ⟨v, vs', d, ds', p, q, rfl, rfl, rfl, h0, h1⟩ := trodAll_cons h
    exact trodAll_cons_mk (WideElems.Trod_stays hl (hr t (by simp)).1 (hr t (by simp)).2 h0 (fun x hx => hb.same (hlt x (by simp [hx]))) (fun x hx => hsp x (by simp [hx])))
      (trodAll_later hl hb sp (fun t ht => hr t (by simp [ht])) h1 (fun x hx => hlt x (by simp [hx])) (fun x hx => hsp x (by simp [hx])))
/-- A law's answer: true; all that it was handed reads as it did. -/
theorem law_post {f : Func} {s : ChangeSpec} {apart fresh handsOn again : Bool} {W W' : World} {args : Array Value} {ds gs : List (DataW H)} {before : List MemPlace} {tb : TypeId}
    (hv : s.vars = []) (hr : f.resultTypes = #[tb]) (htb : P.underlying tb = some .bool) (hl : laidOutB P = true) (hrd : ∀ t ∈ f.params.toList, P.readableRec t = true ∧ t < P.types.size)
    (hW : DataW.Whole enc P f.params.toList s.vars apart W args.toList ds gs before)
    (hfn : s.fn H (ds ++ gs) = { results := [.lit (.bool true)], args := ds }) (hb : Below W.heap.size W W') :
    s.post enc P f apart fresh handsOn again W args (.bool true) W' := by
  have hlt : ∀ p ∈ before, p.block < W.heap.size := fun p hp => hW.lt p hp
  have hW' := hW
  obtain ⟨p, q, hA, hV, rfl, hfz, hnd⟩ := hW
  rw [hv] at hV
  obtain ⟨rfl, rfl⟩ := trodVars_none hV
  simp only [List.append_nil] at hlt hfz hnd hW' hfn ⊢
  have hres : ∀ (b : Nat) (sp : Nat → Bool) (hd : Bool), DataW.TrodAll enc P W' b sp hd f.resultTypes.toList ((Value.bool true).resultList f.resultTypes.size) (s.fn H ds).results [] := by
    intro b sp hd
    rw [hr, hfn]
    exact trodAll_cons_mk (shut_bool htb _) trodAll_mk0
  have hargs : ∀ sp : Nat → Bool, (∀ x ∈ p, sp x.block = true) → DataW.TrodAll enc P W' 0 sp true f.params.toList args.toList (s.fn H ds).args p := by
    intro sp hsp
    rw [hfn]
    exact trodAll_later hl hb sp hrd hA hlt hsp
  have hvs : ∀ sp : Nat → Bool, DataW.TrodVars enc P W' sp s.vars (s.fn H ds).vars [] := by
    intro sp
    rw [hv, hfn]
    rfl
  have hold : ∀ x ∈ p, (fun b => decide (b < W.heap.size)) x.block = true := fun x hx => by simpa using hlt x hx
  refine ⟨ds, [], p, [], p, [], hW', ?_, ?_, ?_, World.keptBut_mono (fun x hx => ⟨hx, .inr (.inl hx)⟩) (hb.frame (· ∈ p)), fun _ => ?_⟩
  · rw [List.append_nil]; exact hres _ _ _
  · rw [List.append_nil]; exact hargs _ hold
  · rw [List.append_nil]; exact hvs _
  · refine ⟨ok_one hr rfl (okWide_bool_mk htb _), _, _, ([] ++ p) ++ [], ⟨[] ++ p, [], trodAll_append (hargs _ (fun _ _ => rfl)) (hres _ _ _), hvs _, rfl, ?_, ?_⟩, ?_⟩
    · intro b off hp
      have hin : MemPlace.cell b off ∈ p := by simpa using hp
      have := hb.frozen (p := ⟨b, off, none⟩) (hlt _ hin)
      rw [this]
      exact hfz b off hin
    · intro ha
      simpa using hnd ha
    · intro x hx _
      simpa using hx
end
end Go.Proofs.Ythjcnlgebkaonaa.Kit
namespace Go.Proofs.Ythjcnlgebkaonaa.hierAsksCard
open Go.ChangeShapes Go.WideShapes Go.ChangeAt Go.RowKit
theorem own : ownKnob Try.prog.godebug = none := by kernel_rfl
set_option maxRecDepth 100000 in
theorem contract (H : Type) (enc : TypeId × Value → H) (W : World) (base : Nat) (args : Array Value) (ds gs : List (DataW H)) (before : List MemPlace)
    (hval : ∀ (j : Nat) t v, Try.f3.params[j]? = some t → args[j]? = some v → Value.okWide Try.prog W .any base t v)
    (hW : DataW.Whole enc Try.prog Try.f3.params.toList Rows.hierAsksSpec.vars false W args.toList ds gs before)
    (hsz : (DataW.weightsEach Try.prog (Try.f3.params.toList ++ (OpenSpec.ofChange Rows.hierAsksSpec).bare.plain.varTypes Try.prog) (ds ++ gs)).all (· ≤ reachBytes) = true) :
    Calls Try.prog 3 args W fun e W' => ∃ v, e = .returned v ∧ Rows.hierAsksSpec.post enc Try.prog Try.f3 false true false false W args v W' := by
  have hW' := hW
  obtain ⟨p, q, hA0, hV, rfl, hfz, hnd⟩ := hW
  have hA : DataW.TrodAll enc Try.prog W 0 (fun _ => true) true Try.f3.params.toList args.toList ds p := hA0
  rw [Try.params3] at hA hval hsz
  obtain ⟨v0, vs0, d0, ds0, p0, q0, hargs, rfl, rfl, h0, r0⟩ := trodAll_cons hA
  obtain ⟨v1, vs1, d1, ds1, p1, q1, rfl, rfl, rfl, h1, r1⟩ := trodAll_cons r0
  obtain ⟨rfl, rfl, rfl⟩ := trodAll_nil r1
  obtain rfl : args = #[v0, v1] := by cases args; simp_all
  obtain ⟨rfl, rfl⟩ := trodVars_none hV
  obtain ⟨x0, wx0, wg0⟩ := open_lines (hval 0 22 v0 rfl rfl) h0 (weights_eachT (j := 0) (t := 22) (d := d0) rfl rfl hsz)
  obtain ⟨pa, pb, ps, rfl, wpa, wpb, wps⟩ := open_pair (hval 1 24 v1 rfl rfl) h1 (weights_eachT (j := 1) (t := 24) (d := d1) rfl rfl hsz)
  refine (asks_law wx0 wg0 pa pb ps).mono fun e W' ⟨he, hb⟩ => ?_
  subst he
  exact ⟨_, rfl, Kit.law_post rfl rfl Try.underlying4 (by kernel_rfl) (by decide +kernel) hW' rfl hb⟩
theorem reads (os : Os) {H : Type} (enc : TypeId × Value → H) : ∃ places, DataW.whole enc Try.prog ((World.holding Try.prog os ⟨#[], #[], []⟩).forCall (fun _ _ => 0) ⟨#[], #[.slice none 0 0, .agg #[.int .i64 0, .int .i64 0, .int .i64 0]], []⟩).memory Try.f3.params.toList Rows.hierAsksSpec.vars false (#[.slice none 0 0, .agg #[.int .i64 0, .int .i64 0, .int .i64 0]] : Array Value).toList 8 = some ([.nil, .agg [.lit (.int .i64 0), .lit (.int .i64 0), .lit (.int .i64 0)]], [], places) :=
  ⟨[], by kernel_rfl⟩
theorem laid_met (os : Os) : laidMet Try.prog Rows.hierAsksRow.laid ((World.holding Try.prog os ⟨#[], #[], []⟩).forCall (fun _ _ => 0) ⟨#[], #[.slice none 0 0, .agg #[.int .i64 0, .int .i64 0, .int .i64 0]], []⟩).memory :=
  laidMet_of_run' 8 (by kernel_rfl) (by kernel_rfl)
set_option maxRecDepth 100000 in
theorem lifted (os : Os) (started : os.Started) (H : Type) (enc : TypeId × Value → H) (F : Stop.Interp) :
    ReturnsInHanded {} Try.checked os 3 .any ((OpenSpec.ofChange Rows.hierAsksSpec).preRow enc Try.prog Try.f3 Rows.hierAsksRow.domain false Rows.hierAsksRow.laid) (((OpenSpec.ofChange Rows.hierAsksSpec).at F).post enc Try.prog Try.f3 false true false false) := by
  obtain ⟨places, hx⟩ := reads os enc
  refine returnsInHanded_of_row (C := Try.checked) (s := (OpenSpec.ofChange Rows.hierAsksSpec)) own started (by kernel_rfl) Try.func3
    (witness_row_at (enc := enc) (C := Try.checked) false (World.holding Try.prog os ⟨#[], #[], []⟩) #[.slice none 0 0, .agg #[.int .i64 0, .int .i64 0, .int .i64 0]] rfl (by kernel_rfl) (by kernel_rfl) (by kernel_rfl)
      (OpenSpec.preRow_of_cond 8 hx (by kernel_rfl) (fun k hk => by cases hk) (by kernel_rfl) (laid_met os))) ?_
  intro W base args ds gs before hval hW _ _ hsz _ _ _
  exact contract H enc W base args ds gs before hval hW hsz
theorem proved : Rows.HierAsksSaid :=
  OpenClaim.holds_of_cond 3 Try.f3 rfl rfl rfl rfl rfl rfl rfl ⟨rfl, rfl, rfl, rfl, rfl⟩ rfl rfl rfl rfl rfl (by kernel_rfl) Try.func3 (by kernel_rfl)
    (of_decide_eq_true (by kernel_rfl)) (by unfold Func.isWrapper; first | (rw [if_pos (by decide +kernel)]; kernel_rfl) | (rw [if_neg (by decide +kernel)]; exact ⟨rfl, rfl⟩))
    (fun os started H enc _ F => by rw [OpenClaim.pre_eq_preRow]; exact lifted os started H enc F)
end Go.Proofs.Ythjcnlgebkaonaa.hierAsksCard
namespace Go.Proofs.Ythjcnlgebkaonaa
open Go Go.RowKit
open Kit (natVals)

/-- A hierarchy that no call made. -/
def No (w : World) (v : Value) : Prop := v = .pointer none ∨ ∃ b, v = .pointer (some ⟨b, 0, none⟩) ∧ BX w b #[.slice none 0 0, .map none, .slice none 0 0] 48
theorem No.below {w w' : World} {v : Value} (h : No w v) (hb : Below w.heap.size w w') : No w' v := by
  rcases h with h | ⟨b, h, k⟩
  · exact .inl h
  · exact .inr ⟨b, h, k.below hb⟩
section
variable {w : World} {v : Value}
theorem no_has (h : No w v) (n : Int) : Calls Try.prog 33 #[v, .int .i64 n] w fun e w' => e = .returned (.bool false) ∧ w = w' := by
  rcases h with rfl | ⟨b, rfl, h⟩
  · go_enter Try.func33, Try.ntmps33
    go_wp2
    go_ret
    exact ⟨by simp, rfl⟩
  · have k0 : w.cell? ⟨b, 0, none⟩ = some (.slice none 0 0) := h.cell 0
    clear h
    by_cases hn : 0 ≤ n
    · have d : decide (n < 0) = false := by simpa using hn
      have d2 : ¬ n < 0 := by omega
      go_enter Try.func33, Try.ntmps33
      go_wp2
      go_ret
      exact ⟨by simp, rfl⟩
    · go_enter Try.func33, Try.ntmps33
      go_wp2
      go_ret
      exact ⟨by simp, rfl⟩
theorem no_Len (h : No w v) : Calls Try.prog 17 #[v] w fun e w' => e = .returned (.int .i64 0) ∧ w = w' := by
  rcases h with rfl | ⟨b, rfl, h⟩
  · go_enter Try.func17, Try.ntmps17
    go_wp2
    go_ret
    exact ⟨rfl, rfl⟩
  · have k0 : w.cell? ⟨b, 0, none⟩ = some (.slice none 0 0) := h.cell 0
    clear h
    go_enter Try.func17, Try.ntmps17
    go_wp2
    go_ret
    exact ⟨rfl, rfl⟩
theorem no_Find (h : No w v) (s : ByteArray) (hs : s.size ≤ maxLen) : Calls Try.prog 20 #[v, .string s] w fun e w' => e = .returned (.tuple #[.int .i64 0, .bool false]) ∧ w = w' := by
  rcases h with rfl | ⟨b, rfl, h⟩
  · go_enter Try.func20, Try.ntmps20
    go_wp2
    refine bodyPost_ret (v := .tuple #[.int .i64 0, .bool false]) ?fst rfl ?snd
    case fst => simp [results, Try.results20, go_sem]
    case snd => exact ⟨rfl, rfl⟩
  · have k1 : w.cell? ⟨b, 1, none⟩ = some (.map none) := h.cell 1
    have hk : (Instr.lookup 46 (.map none) (.string s) true).run Try.prog w = .ok (.tuple #[.int .i64 0, .bool false]) w := by simpa using Maps.look_nil (w := w) true (Maps.string_keyed Try.underlying9) Try.underlying46 (A.zeroI w) (key_of s hs)
    clear h
    go_enter Try.func20, Try.ntmps20
    go_wp2
    refine bodyPost_ret (v := .tuple #[.int .i64 0, .bool false]) ?fst rfl ?snd
    case fst => simp [results, Try.results20, go_sem]
    case snd => exact ⟨rfl, rfl⟩
theorem no_Name (h : No w v) (n : Int) : Calls Try.prog 21 #[v, .int .i64 n] w fun e w' => e = .returned (.string ⟨#[]⟩) ∧ w = w' := by
  have HA := hid (no_has h n)
  clear h
  go_enter Try.func21, Try.ntmps21
  go_wp2_with (go_at_call 33; refine HA.out.mono ?_; rintro e w' ⟨rfl, rfl⟩)
  go_ret
  exact ⟨rfl, rfl⟩
theorem no_Super (h : No w v) (n : Int) : Calls Try.prog 18 #[v, .int .i64 n] w fun e w' => e = .returned (.int .i64 (-1)) ∧ w = w' := by
  have HA := hid (no_has h n)
  clear h
  go_enter Try.func18, Try.ntmps18
  go_wp2_with (go_at_call 33; refine HA.out.mono ?_; rintro e w' ⟨rfl, rfl⟩)
  go_ret
  exact ⟨rfl, rfl⟩
theorem no_Depth (h : No w v) (n : Int) : Calls Try.prog 19 #[v, .int .i64 n] w fun e w' => e = .returned (.int .i64 (-1)) ∧ w = w' := by
  have HA := hid (no_has h n)
  clear h
  go_enter Try.func19, Try.ntmps19
  go_wp2_with (go_at_call 33; refine HA.out.mono ?_; rintro e w' ⟨rfl, rfl⟩)
  go_ret
  exact ⟨rfl, rfl⟩
theorem no_Subs (h : No w v) (n : Int) : Calls Try.prog 22 #[v, .int .i64 n] w fun e w' => e = .returned (.slice none 0 0) ∧ w = w' := by
  have HA := hid (no_has h n)
  clear h
  go_enter Try.func22, Try.ntmps22
  go_wp2_with (go_at_call 33; refine HA.out.mono ?_; rintro e w' ⟨rfl, rfl⟩)
  go_ret
  exact ⟨rfl, rfl⟩
theorem no_Under (h : No w v) (n : Int) : Calls Try.prog 10 #[v, .int .i64 n, .int .i64 n] w fun e w' => e = .returned (.bool false) ∧ Below w.heap.size w w' := by
  have HA := hid (fun X (b : Below w.heap.size w X) => no_has (h.below b) n)
  clear h
  go_enter Try.func10, Try.ntmps10
  go_wp2_with (go_at_call 33; refine (HA.out _ (by repeat' first | with_reducible exact Below.refl _ _ | with_reducible assumption | with_reducible refine belows_drewN ?_ _ | with_reducible refine Below.drew ?_ | with_reducible refine Below.setCell ?_ ?_ _ | with_reducible refine Below.alloc ?_ ?_ _ | omega | (simp; done) | (simp; omega))).mono ?_; rintro e w' ⟨rfl, rfl⟩)
  go_ret
  exact ⟨rfl, (by repeat' first | with_reducible exact Below.refl _ _ | with_reducible assumption | with_reducible refine belows_drewN ?_ _ | with_reducible refine Below.drew ?_ | with_reducible refine Below.setCell ?_ ?_ _ | with_reducible refine Below.alloc ?_ ?_ _ | omega | (simp; done) | (simp; omega))⟩
theorem no_Common (h : No w v) (n : Int) : Calls Try.prog 12 #[v, .int .i64 n, .int .i64 n] w fun e w' => e = .returned (.int .i64 (-1)) ∧ Below w.heap.size w w' := by
  have HA := hid (fun X (b : Below w.heap.size w X) => no_has (h.below b) n)
  clear h
  go_enter Try.func12, Try.ntmps12
  go_wp2_with (go_at_call 33; refine (HA.out _ (by repeat' first | with_reducible exact Below.refl _ _ | with_reducible assumption | with_reducible refine belows_drewN ?_ _ | with_reducible refine Below.drew ?_ | with_reducible refine Below.setCell ?_ ?_ _ | with_reducible refine Below.alloc ?_ ?_ _ | omega | (simp; done) | (simp; omega))).mono ?_; rintro e w' ⟨rfl, rfl⟩)
  go_ret
  exact ⟨rfl, (by repeat' first | with_reducible exact Below.refl _ _ | with_reducible assumption | with_reducible refine belows_drewN ?_ _ | with_reducible refine Below.drew ?_ | with_reducible refine Below.setCell ?_ ?_ _ | with_reducible refine Below.alloc ?_ ?_ _ | omega | (simp; done) | (simp; omega))⟩
theorem no_Order (h : No w v) : Calls Try.prog 15 #[v] w fun e w' => e = .returned (.func (.func 36) #[] #[.pointer (some ⟨w.heap.size, 0, none⟩)]) ∧ w' = w.alloc (.cells #[.slice none 0 0] 39) := by
  rcases h with rfl | ⟨b, rfl, h⟩
  · go_enter Try.func15, Try.ntmps15
    go_wp2
    go_ret
    exact ⟨rfl, rfl⟩
  · have k2 : w.cell? ⟨b, 2, none⟩ = some (.slice none 0 0) := h.cell 2
    have hbl := h.sz
    clear h
    go_enter Try.func15, Try.ntmps15
    go_wp2
    go_ret
    exact ⟨rfl, rfl⟩
/-- What Order leaves there, and the law's loop over it. -/
theorem no_tells (h : No w v) : Calls Try.prog 15 #[v] w (OrdP [] w) :=
  (no_Order h).mono fun e w' ⟨h1, h2⟩ => ⟨_, h1, by rw [h2]; exact (Below.refl _ _).alloc (Nat.le_refl _) _, fun Y u stop hb hv => by
    rw [h2] at hb
    have hX := (BX.new w #[.slice none 0 0] 39).below hb
    have hW := hX.sz
    refine tells_any [] (.slice none 0 0) u stop 0 w.heap.size Y (fun X hk => ⟨⟨rfl, by simp, .inl ⟨rfl, _, _, rfl⟩⟩, ?_⟩) hv (by simp)
    exact (World.cell?_of_block (a := ⟨w.heap.size, 0, none⟩) (hk.2 _ (Nat.zero_le _) hW)).trans (hX.cell 0)⟩
end
end Go.Proofs.Ythjcnlgebkaonaa
namespace Go.Proofs.Ythjcnlgebkaonaa
open Go Go.RowKit
open Kit (natVals)

theorem infoLine : (Try.prog.info? 56).map (fun i => (i.zero, i.size, i.bytes)) = some (some (.agg #[.string ⟨#[]⟩, .string ⟨#[]⟩]), 2, 32) := by kernel_rfl
set_option maxRecDepth 100000 in
set_option maxHeartbeats 400000 in
theorem lclone_some (n : Nat) (xs : List Value) (ad : Addr) (cap : Nat) (w : World) (hx : xs.length = n * 2) (hn : n * 32 ≤ 140737488355328) (hc : ∀ j u, xs[j]? = some u → w.cell? (ad.add j) = some u) (h1c : ∀ u ∈ xs, u.oneCell' = true) : Calls Try.prog 23 #[.slice (some ad) n cap] w (ClonePost 56 2 n xs w) := by
  obtain ⟨i0, hi, hz0, hz1, hz2⟩ := info_parts infoLine
  have hnil := fun (W : World) (a : Option Addr) (n c : Nat) => Lib.run_eql_slice_nil (P := Try.prog) W 22 56 a n c 0 0 Try.underlying22
  have hlt : ∀ j u, xs[j]? = some u → (w.alloc (.cells #[] 56)).cell? (ad.add j) = some u := fun j u h => by
    have h2 := hc j u h
    rw [World.cell?_alloc_lt _ _ _ (World.block_lt_of_cell? w _ h2)]
    exact h2
  have HL := hid hlt
  have HLen := hid hx
  have H1 := hid h1c
  clear hc hlt hx h1c
  go_enter Try.func23, Try.ntmps23
  go_wp2_with (at_builtin; go_loud (refine wpList_append_own _ rfl (.tmp 5) (.tmp 6) 22 rfl w.heap.size 56 i0 _ 2 32 Try.underlying22 hi hz0 hz1 hz2 rfl (by decide) _ 0 [] rfl (owns_empty (Nat.le_refl _)) ad n cap xs rfl HLen.out HL.out H1.out (by unfold maxLen; omega) (by omega) (by simp) ?_); intro v1 w1 hown1 hgrow1 _)
  go_ret
  refine ⟨_, rfl, by simpa using hown1, Kit.below_grown (by repeat' first | with_reducible exact Below.refl _ _ | with_reducible assumption | with_reducible refine belows_drewN ?_ _ | with_reducible refine Below.drew ?_ | with_reducible refine Below.setCell ?_ ?_ _ | with_reducible refine Below.alloc ?_ ?_ _ | omega | (simp; done) | (simp; omega)) hgrow1 (by simp) (fun k hk => ?_)⟩
  have : some w.heap.size = some k := hk
  exact Nat.le_of_eq (Option.some.inj this)
theorem lclone_nil (c : Nat) (w : World) : Calls Try.prog 23 #[.slice none 0 c] w (ClonePost 56 2 0 [] w) := by
  have hnil := fun (W : World) (a : Option Addr) (n c : Nat) => Lib.run_eql_slice_nil (P := Try.prog) W 22 56 a n c 0 0 Try.underlying22
  go_enter Try.func23, Try.ntmps23
  go_wp2
  go_ret
  exact ⟨_, rfl, ⟨rfl, .inl ⟨rfl, rfl⟩⟩, (by repeat' first | with_reducible exact Below.refl _ _ | with_reducible assumption | with_reducible refine belows_drewN ?_ _ | with_reducible refine Below.drew ?_ | with_reducible refine Below.setCell ?_ ?_ _ | with_reducible refine Below.alloc ?_ ?_ _ | omega | (simp; done) | (simp; omega))⟩
theorem lclone_any (n : Nat) (xs : List Value) (v : Value) (w : World) (hv : Kit.IsS 2 w v n xs) (hn : n * 32 ≤ 140737488355328) (h1c : ∀ u ∈ xs, u.oneCell' = true) : Calls Try.prog 23 #[v] w (ClonePost 56 2 n xs w) := by
  rcases hv.2.2 with ⟨rfl, a, cap, rfl⟩ | ⟨b, o, cap, rfl, hl, hlt, hc⟩
  · have hxs : xs = [] := List.length_eq_zero_iff.1 (by have := hv.1; omega)
    subst hxs
    cases a with
    | none => exact lclone_nil cap w
    | some ad => exact lclone_some 0 [] ad cap w rfl (by omega) (fun j u h => by simp at h) (fun u h => by cases h)
  · exact lclone_some n xs ⟨b, o, none⟩ cap w hv.1 hn (fun j u h => by rw [Go.WideShapes.add_plain]; exact hc j u h) h1c
theorem lnL_one (l : List Hi.Ln) : ∀ u ∈ l.flatMap lnL, u.oneCell' = true := by
  intro u hu
  obtain ⟨x, -, hx⟩ := List.mem_flatMap.1 hu
  simp [lnL] at hx
  rcases hx with rfl | rfl <;> rfl
set_option maxRecDepth 100000 in
set_option maxHeartbeats 400000 in
theorem eqI_any (l : List Nat) (v u : Value) (w : World) (hv : Kit.IsS 1 w v l.length (natVals l)) (hu : Kit.IsS 1 w u l.length (natVals l)) :
    Calls Try.prog 25 #[v, u] w fun e w' => e = .returned (.bool true) ∧ Below w.heap.size w w' := by
  have HV := hid hv
  have HU := hid hu
  obtain ⟨a1, cap1, hv2⟩ := hv.len
  obtain ⟨a2, cap2, hu2⟩ := hu.len
  subst hv2 hu2
  have hlen := hv.2.1
  clear hv hu
  go_enter Try.func25, Try.ntmps25
  go_wp2
  go_loopw [13] (fun i wr => ∃ k : Nat, k ≤ l.length ∧ i = .int .i64 k ∧ Below w.heap.size w wr) (fun i _ => l.length - (intOf i).toNat)
  case atStart => exact ⟨0, by omega, rfl, (by repeat' first | with_reducible exact Below.refl _ _ | with_reducible assumption | with_reducible refine belows_drewN ?_ _ | with_reducible refine Below.drew ?_ | with_reducible refine Below.setCell ?_ ?_ _ | with_reducible refine Below.alloc ?_ ?_ _ | omega | (simp; done) | (simp; omega))⟩
  case round =>
    obtain ⟨k, hk, rfl, hbl⟩ := hrel
    have hbz := hbl.size
    by_cases hlt : k < l.length
    · obtain ⟨x, hx⟩ : ∃ x, l[k]? = some x := ⟨l[k], List.getElem?_eq_getElem hlt⟩
      obtain ⟨b, o, cap', hv, -, -, hc⟩ := (HV.out.below hbl (Nat.le_refl _)).some (by omega)
      obtain ⟨rfl, -, rfl⟩ := Value.slice.inj hv
      have p0 := hc k _ (Kit.natVals_at hx)
      obtain ⟨b', o', cap', hv', -, -, hc'⟩ := (HU.out.below hbl (Nat.le_refl _)).some (by omega)
      obtain ⟨rfl, -, rfl⟩ := Value.slice.inj hv'
      have q0 := hc' k _ (Kit.natVals_at hx)
      have i1 : (k : Int) < (l.length : Int) := by omega
      clear hx hv hv' hc hc'
      go_wp2
      go_quiet (fail)
      go_wp2
      go_roundw
      case rel => exact ⟨k + 1, by omega, by go_num, (by repeat' first | with_reducible exact Below.refl _ _ | with_reducible assumption | with_reducible refine belows_drewN ?_ _ | with_reducible refine Below.drew ?_ | with_reducible refine Below.setCell ?_ ?_ _ | with_reducible refine Below.alloc ?_ ?_ _ | omega | (simp; done) | (simp; omega))⟩
      case measure => simp [intOf]; omega
    · obtain rfl : k = l.length := by omega
      go_wp2
      go_ret
      exact ⟨rfl, (by repeat' first | with_reducible exact Below.refl _ _ | with_reducible assumption | with_reducible refine belows_drewN ?_ _ | with_reducible refine Below.drew ?_ | with_reducible refine Below.setCell ?_ ?_ _ | with_reducible refine Below.alloc ?_ ?_ _ | omega | (simp; done) | (simp; omega))⟩
theorem RM.chg {w w' : World} {base rb : Nat} {N : List ByteArray} {S : List Int} {T : Nat → Prop} (h : RM w base rb N S) (hc : Chg T w w') (hT : ∀ k, T k → k < base) : RM w' base rb N S := by
  have hlt := h.lt
  have hlb := h.lb
  obtain ⟨nv, sv, h1, h2, h3⟩ := h.ex
  refine ⟨⟨nv, sv, (hc.block _ hlt (fun e => by have := hT _ e; omega)).trans h1, owns_chg h2 hc (fun k hk e => ?_), owns_chg h3 hc (fun k hk e => ?_)⟩, hlb⟩
  · have := hT _ e
    have := Kit.own_base h2 k hk
    omega
  · have := hT _ e
    have := Kit.own_base h3 k hk
    omega
end Go.Proofs.Ythjcnlgebkaonaa

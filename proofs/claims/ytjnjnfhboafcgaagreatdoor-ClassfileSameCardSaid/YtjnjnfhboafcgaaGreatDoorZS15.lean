/- Own texts for the claim, part 15. -/
import Derived.Test.YtjnjnfhboafcgaaGreatDoorZS14
namespace Go.Proofs.YtjnjnfhboafcgaaGreatDoor
open Go.RowKit

theorem ones_rows {w : World} : ∀ {rs : List (List Value)} {ms : List Cf.Mb}, MsC w rs ms → ∀ u ∈ rs.flatten, u.oneCell' = true
  | [], [], _, u, hu => by simp at hu
  | r :: rs, m :: ms, h, u, hu => by
    rw [List.flatten_cons, List.mem_append] at hu
    rcases hu with hu | hu
    · obtain ⟨cv, hv, rfl, hb, hh, -⟩ := h.1
      obtain ⟨a, c, rfl⟩ := hb.len
      obtain ⟨a2, c2, rfl⟩ := hh.len
      simp at hu
      rcases hu with rfl | rfl | rfl | rfl | rfl | rfl | rfl <;> rfl
    · exact ones_rows h.2 u hu
  | [], _ :: _, h, _, _ => h.elim
  | _ :: _, [], h, _, _ => h.elim
theorem Half.step {w0 w w' : World} {base k : Nat} {ms : List Cf.Mb} {rs : List (List Value)} {m : Cf.Mb} {r : List Value} (h : Half w0 w base ms k rs) (hm : ms[k]? = some m) (hr : OMb w' base r m) (hk : ∀ x y, OMb w base x y → OMb w' base x y) : Half w0 w' base ms (k + 1) (rs.set k r) := by
  refine ⟨by rw [List.length_set]; exact h.1, fun j x y hx hy => ?_⟩
  by_cases e : j = k
  · subst e
    rw [hm] at hy
    cases hy
    have hlt : j < rs.length := by rw [h.1]; exact (List.getElem?_eq_some_iff.1 hm).1
    rw [List.getElem?_set_self hlt] at hx
    cases hx
    exact ⟨fun _ => hr, fun hj => by omega⟩
  · rw [List.getElem?_set_ne (fun e2 => e e2.symm)] at hx
    obtain ⟨h1, h2⟩ := h.2 j x y hx hy
    exact ⟨fun hj => hk _ _ (h1 (by omega)), fun hj => h2 (by omega)⟩
theorem own_frozen {w : World} {base : Nat} {e : TypeId} {size g n cap : Nat} {xs : List Value} (h : w.ownsRow base e size (.slice (some ⟨g, 0, none⟩) n cap) n xs) (j : Nat) : w.frozen? ⟨g, j, none⟩ = false := by
  rcases h.2 with ⟨h1, -⟩ | ⟨g2, cap2, cur, h1, -, hh, -⟩
  · cases h1
  · obtain ⟨h2, -, -⟩ := Value.slice.inj h1
    obtain rfl : g = g2 := by simpa using h2
    simp [World.frozen?, hh]
theorem own_cells {w : World} {base : Nat} {e : TypeId} {size g n cap : Nat} {xs : List Value} (h : w.ownsRow base e size (.slice (some ⟨g, 0, none⟩) n cap) n xs) (j : Nat) (u : Value) (hj : xs[j]? = some u) : w.cell? ⟨g, j, none⟩ = some u := by
  have h2 := h.cells (g := g) rfl j u hj
  have h3 : (⟨g, 0, none⟩ : Addr).add j = ⟨g, j, none⟩ := by
    unfold Addr.add
    split <;> simp_all
  rwa [h3] at h2
theorem steps7 {W : World} {base : Nat} {e : TypeId} {size g n cap p : Nat} {xs : List Value} (h : W.ownsRow base e size (.slice (some ⟨g, 0, none⟩) n cap) n xs) (hp : p + 7 ≤ xs.length) (a0 a1 a2 a3 a4 a5 : Value) :
    ∃ x0 x1 x2 x3 x4 x5 x6, W.cell? ⟨g, p, none⟩ = some x0 ∧ (W.setCell ⟨g, p, none⟩ a0).cell? ⟨g, p + 1, none⟩ = some x1 ∧
      ((W.setCell ⟨g, p, none⟩ a0).setCell ⟨g, p + 1, none⟩ a1).cell? ⟨g, p + 2, none⟩ = some x2 ∧
      (((W.setCell ⟨g, p, none⟩ a0).setCell ⟨g, p + 1, none⟩ a1).setCell ⟨g, p + 2, none⟩ a2).cell? ⟨g, p + 3, none⟩ = some x3 ∧
      ((((W.setCell ⟨g, p, none⟩ a0).setCell ⟨g, p + 1, none⟩ a1).setCell ⟨g, p + 2, none⟩ a2).setCell ⟨g, p + 3, none⟩ a3).cell? ⟨g, p + 4, none⟩ = some x4 ∧
      (((((W.setCell ⟨g, p, none⟩ a0).setCell ⟨g, p + 1, none⟩ a1).setCell ⟨g, p + 2, none⟩ a2).setCell ⟨g, p + 3, none⟩ a3).setCell ⟨g, p + 4, none⟩ a4).cell? ⟨g, p + 5, none⟩ = some x5 ∧
      ((((((W.setCell ⟨g, p, none⟩ a0).setCell ⟨g, p + 1, none⟩ a1).setCell ⟨g, p + 2, none⟩ a2).setCell ⟨g, p + 3, none⟩ a3).setCell ⟨g, p + 4, none⟩ a4).setCell ⟨g, p + 5, none⟩ a5).cell? ⟨g, p + 6, none⟩ = some x6 := by
  have h1 := owns_set h p a0
  have h2 := owns_set h1 (p + 1) a1
  have h3 := owns_set h2 (p + 2) a2
  have h4 := owns_set h3 (p + 3) a3
  have h5 := owns_set h4 (p + 4) a4
  have h6 := owns_set h5 (p + 5) a5
  exact ⟨_, _, _, _, _, _, _, own_cells h p _ (List.getElem?_eq_getElem (by omega)), own_cells h1 (p + 1) _ (List.getElem?_eq_getElem (by simp only [List.length_set]; omega)), own_cells h2 (p + 2) _ (List.getElem?_eq_getElem (by simp only [List.length_set]; omega)), own_cells h3 (p + 3) _ (List.getElem?_eq_getElem (by simp only [List.length_set]; omega)), own_cells h4 (p + 4) _ (List.getElem?_eq_getElem (by simp only [List.length_set]; omega)), own_cells h5 (p + 5) _ (List.getElem?_eq_getElem (by simp only [List.length_set]; omega)), own_cells h6 (p + 6) _ (List.getElem?_eq_getElem (by simp only [List.length_set]; omega))⟩
theorem flat7_len : ∀ {rs : List (List Value)} {k : Nat}, (∀ x ∈ rs, x.length = 7) → k < rs.length → k * 7 + 7 ≤ rs.flatten.length
  | [], k, _, h => by simp at h
  | x :: rs, 0, hl, _ => by rw [List.flatten_cons, List.length_append, hl x (by simp)]; omega
  | x :: rs, k + 1, hl, h => by
    have := flat7_len (rs := rs) (k := k) (fun y hy => hl y (List.mem_cons_of_mem _ hy)) (by simpa using h)
    rw [List.flatten_cons, List.length_append, hl x (by simp)]
    omega
theorem half_put {w wr W2 : World} {base b n cap k : Nat} {ms : List Cf.Mb} {rs : List (List Value)} {m : Cf.Mb} {cv hv : Value} (h : Half w wr base ms k rs) (hm : ms[k]? = some m) (hb : Below wr.heap.size wr W2) (hw : base ≤ wr.heap.size) (ho : OMb W2 wr.heap.size (mL m cv hv) m)
    (hO : W2.ownsRow base 42 7 (.slice (some ⟨b, 0, none⟩) n cap) n rs.flatten) :
    Half w (((((((W2.setCell ⟨b, k * 7, none⟩ (.int .i64 m.ac)).setCell ⟨b, k * 7 + 1, none⟩ (.int .i64 m.nm)).setCell ⟨b, k * 7 + 2, none⟩ (.int .i64 m.ds)).setCell ⟨b, k * 7 + 3, none⟩ (.int .i64 m.st)).setCell ⟨b, k * 7 + 4, none⟩ (.int .i64 m.lc)).setCell ⟨b, k * 7 + 5, none⟩ cv).setCell ⟨b, k * 7 + 6, none⟩ hv) base ms (k + 1) (rs.set k (mL m cv hv)) ∧
      (((((((W2.setCell ⟨b, k * 7, none⟩ (.int .i64 m.ac)).setCell ⟨b, k * 7 + 1, none⟩ (.int .i64 m.nm)).setCell ⟨b, k * 7 + 2, none⟩ (.int .i64 m.ds)).setCell ⟨b, k * 7 + 3, none⟩ (.int .i64 m.st)).setCell ⟨b, k * 7 + 4, none⟩ (.int .i64 m.lc)).setCell ⟨b, k * 7 + 5, none⟩ cv).setCell ⟨b, k * 7 + 6, none⟩ hv).ownsRow base 42 7 (.slice (some ⟨b, 0, none⟩) n cap) n (rs.set k (mL m cv hv)).flatten := by
  have hlt : k < rs.length := by rw [h.1]; exact (List.getElem?_eq_some_iff.1 hm).1
  have hg : W2.grownBy (((((((W2.setCell ⟨b, k * 7, none⟩ (.int .i64 m.ac)).setCell ⟨b, k * 7 + 1, none⟩ (.int .i64 m.nm)).setCell ⟨b, k * 7 + 2, none⟩ (.int .i64 m.ds)).setCell ⟨b, k * 7 + 3, none⟩ (.int .i64 m.st)).setCell ⟨b, k * 7 + 4, none⟩ (.int .i64 m.lc)).setCell ⟨b, k * 7 + 5, none⟩ cv).setCell ⟨b, k * 7 + 6, none⟩ hv) (some b) :=
    L3.grown_trans (L3.grown_trans (L3.grown_trans (L3.grown_trans (L3.grown_trans (L3.grown_trans (L3.grownBy_setCell' _ _ _) (L3.grownBy_setCell' _ _ _)) (L3.grownBy_setCell' _ _ _)) (L3.grownBy_setCell' _ _ _)) (L3.grownBy_setCell' _ _ _)) (L3.grownBy_setCell' _ _ _)) (L3.grownBy_setCell' _ _ _)
  refine ⟨h.step hm ((ho.mono hw).apart hO (by simpa [Value.ownBlock] using hg)) fun x y hx => (hx.below hb (Nat.le_refl _)).apart hO (by simpa [Value.ownBlock] using hg), ?_⟩
  have h7 := owns_set (owns_set (owns_set (owns_set (owns_set (owns_set (owns_set hO (k * 7) (.int .i64 m.ac)) (k * 7 + 1) (.int .i64 m.nm)) (k * 7 + 2) (.int .i64 m.ds)) (k * 7 + 3) (.int .i64 m.st)) (k * 7 + 4) (.int .i64 m.lc)) (k * 7 + 5) cv) (k * 7 + 6) hv
  rw [set7 h.lens hlt] at h7
  exact h7
def cmFn : Value := .func (.func 78) #[] #[]
theorem flat7 {w0 w : World} {base k : Nat} {ms : List Cf.Mb} : ∀ {rs : List (List Value)} {j : Nat} {r : List Value}, (∀ x ∈ rs, x.length = 7) → rs[j]? = some r → ∀ i, i < 7 → rs.flatten[j * 7 + i]? = r[i]?
  | [], _, _, _, h, _, _ => by simp at h
  | x :: rs, 0, r, hl, h, i, hi => by
    simp at h
    subst h
    rw [List.flatten_cons, List.getElem?_append_left (by have := hl x (by simp); omega)]
    simp
  | x :: rs, j + 1, r, hl, h, i, hi => by
    have hx := hl x (by simp)
    rw [List.flatten_cons, List.getElem?_append_right (by omega), hx, ← flat7 (w0 := w0) (w := w) (base := base) (k := k) (ms := ms) (fun y hy => hl y (List.mem_cons_of_mem _ hy)) (by simpa using h) i hi]
    congr 1
    omega
set_option maxRecDepth 100000 in
set_option maxHeartbeats 2000000 in
theorem cloneEach_any (ms : List Cf.Mb) (v : Value) (w : World) (h : MsR w v ms) (hn : ms.length * 88 ≤ 140737488355328) (hh : ∀ m ∈ ms, m.hs.length * 32 ≤ 140737488355328) :
    Calls Tryz.prog 77 #[v, cmFn] w fun e w' => ∃ v', e = .returned v' ∧ OMs w' w.heap.size v' ms ∧ Below w.heap.size w w' := by
  obtain ⟨rs, hC, hS⟩ := h
  have HC := hid (mclone_any ms.length rs.flatten v w hS hn (ones_rows hC))
  have HN := hid (fun (W : World) => half_new (w := W) (base := w.heap.size) hC)
  have HH := hid hh
  unfold ClonePost at HC
  obtain ⟨a, cap, rfl⟩ := hS.len
  unfold cmFn
  clear hC hS hh
  go_enter Tryz.func77, Tryz.ntmps77
  go_wp2_with (go_at_call 128; refine HC.out.mono ?_; rintro e w1 ⟨v1, rfl, o1, hb1⟩; obtain ⟨g0, c0, rfl⟩ := L3.own_form o1)
  go_loopw [11] (fun i wr => ∃ (k : Nat) (rs' : List (List Value)), k ≤ ms.length ∧ i = .int .i64 k ∧ Half w wr w.heap.size ms k rs' ∧ wr.ownsRow w.heap.size 42 7 (.slice g0 ms.length c0) ms.length rs'.flatten ∧ Below w.heap.size w wr) (fun i _ => ms.length - (intOf i).toNat)
  case atStart => exact ⟨0, rs, by omega, rfl, HN.out _, o1, hb1⟩
  case round =>
    obtain ⟨k, rs', hk, rfl, hHf, hO, hbl⟩ := hrel
    have hzr := hbl.size
    by_cases hlt : k < ms.length
    · obtain ⟨m, hx⟩ : ∃ x, ms[k]? = some x := ⟨ms[k], List.getElem?_eq_getElem hlt⟩
      obtain ⟨r, hr⟩ : ∃ r, rs'[k]? = some r := ⟨rs'[k]'(by rw [hHf.1]; exact hlt), List.getElem?_eq_getElem _⟩
      obtain ⟨-, hrd⟩ := hHf.2 k r m hr hx
      obtain ⟨-, cv, hv, rfl, hB, hHs, hcl⟩ := hrd (Nat.le_refl _)
      obtain ⟨xa, xc, rfl⟩ := hB.len
      obtain ⟨ya, yc, rfl⟩ := hHs.len
      obtain ⟨b, o, cap', hv2, -, hbb, hc⟩ := (Kit.isS_of_owns hO (by omega)).some (by omega)
      obtain ⟨rfl, -, rfl⟩ := Value.slice.inj hv2
      have ho0 : o = 0 := by
        rcases hO.2 with ⟨h1, -⟩ | ⟨g', cap2, cur, h1, -⟩
        · cases h1
        · obtain ⟨h2, -, -⟩ := Value.slice.inj h1
          have h3 : b = g' ∧ o = 0 := by simpa using h2
          exact h3.2
      subst ho0
      have hf := fun i hi => flat7 (w0 := w) (w := wr) (base := w.heap.size) (k := k) (ms := ms) hHf.lens hr i hi
      simp only [Nat.zero_add] at hc
      have c0 := hc (k * 7) (.int .i64 m.ac) (by have := hf 0 (by omega); simpa using this)
      have c1 := hc (k * 7 + 1) (.int .i64 m.nm) (by have := hf 1 (by omega); simpa using this)
      have c2 := hc (k * 7 + 2) (.int .i64 m.ds) (by have := hf 2 (by omega); simpa using this)
      have c3 := hc (k * 7 + 3) (.int .i64 m.st) (by have := hf 3 (by omega); simpa using this)
      have c4 := hc (k * 7 + 4) (.int .i64 m.lc) (by have := hf 4 (by omega); simpa using this)
      have c5 := hc (k * 7 + 5) _ (by have := hf 5 (by omega); simpa using this)
      have c6 := hc (k * 7 + 6) _ (by have := hf 6 (by omega); simpa using this)
      have hki : (k : Int) < (ms.length : Int) := by omega
      have HCm := hid (fun W (q : Below w.heap.size w W) => cloneMember_any m _ _ W ((hB.below q (Nat.le_refl _)).mono q.size) (hHs.below q (Nat.le_refl _)) hcl (HH.out m (List.mem_of_getElem? hx)))
      unfold mbV at HCm
      have HX := hid hx
      have HHf := hid hHf
      have HO := hid hO
      have HL := hid (flat7_len hHf.lens (by rw [hHf.1]; exact hlt))
      have hgb : w.heap.size ≤ b := Kit.own_base hO b (by simp [Value.ownBlock])
      clear hr hrd hv2 hf hc hB hHs hx hHf hO
      go_wp2_with (go_at_call 78; refine (HCm.out _ (by repeat' first | with_reducible exact Below.refl _ _ | with_reducible assumption | with_reducible refine belows_drewN ?_ _ | with_reducible refine Below.drew ?_ | with_reducible refine Below.setCell ?_ ?_ _ | with_reducible refine Below.alloc ?_ ?_ _ | omega | (simp; done) | (simp; omega))).mono ?_; rintro e W2 ⟨cv2, hv2, rfl, hom, hb2⟩; have hsz2 := hb2.size; simp only [World.size_alloc] at hsz2; have Bw : Below wr.heap.size wr W2 := belows ((Below.refl _ _).alloc (Nat.le_refl _) _) hb2 (by simp only [World.size_alloc]; omega); have HO2 := hid (Kit.owns_below HO.out Bw (Nat.le_refl _)); have HOm := hid hom; have HBw := hid Bw; have fz : ∀ j, W2.frozen? ⟨b, j, none⟩ = false := own_frozen HO2.out; have hvs := HOm.out; obtain ⟨cv3, hv3, he3, oc, oh, -⟩ := hvs; obtain ⟨rfl, rfl⟩ : cv2 = cv3 ∧ hv2 = hv3 := (by simpa [mL] using he3); obtain ⟨g3, c3', rfl⟩ := L3.own_form oc; obtain ⟨g4, c4', rfl⟩ := L3.own_form oh; obtain ⟨x0, x1, x2, x3, x4, x5, x6, e0, e1, e2, e3, e4, e5, e6⟩ := steps7 HO2.out HL.out (.int .i64 m.ac) (.int .i64 m.nm) (.int .i64 m.ds) (.int .i64 m.st) (.int .i64 m.lc) (.slice g3 m.code.length c3'); clear hb2 hom Bw he3 oc oh)
      obtain ⟨hH2, hO2⟩ := half_put HHf.out HX.out HBw.out hbl.size (HOm.out.mono (by simp)) HO2.out
      have hbw : Below w.heap.size w W2 := belows hbl HBw.out hbl.size
      exact ⟨⟨k + 1, _, by omega, by simp, hH2, hO2, (by repeat' first | with_reducible exact Below.refl _ _ | with_reducible assumption | with_reducible refine belows_drewN ?_ _ | with_reducible refine Below.drew ?_ | with_reducible refine Below.setCell ?_ ?_ _ | with_reducible refine Below.alloc ?_ ?_ _ | omega | (simp; done) | (simp; omega))⟩, by simp [intOf]; omega⟩
    · obtain rfl : k = ms.length := by omega
      go_wp2
      go_ret
      exact ⟨_, rfl, ⟨rs', half_all hHf, hO⟩, hbl⟩
end Go.Proofs.YtjnjnfhboafcgaaGreatDoor
namespace Go.Proofs.YtjnjnfhboafcgaaGreatDoor
open Go.RowKit

/-- How long a class's lists may be to be cloned. -/
def Cf.Szc (c : Cf.Cl) : Prop := c.pool.length * 48 ≤ 140737488355328 ∧ c.fs.length * 88 ≤ 140737488355328 ∧ c.ms.length * 88 ≤ 140737488355328 ∧ (∀ m ∈ c.fs, m.hs.length * 32 ≤ 140737488355328) ∧ ∀ m ∈ c.ms, m.hs.length * 32 ≤ 140737488355328
theorem OMs.form {w : World} {base : Nat} {v : Value} {ms : List Cf.Mb} (h : OMs w base v ms) : ∃ a cap, v = .slice a ms.length cap := by
  obtain ⟨rs, -, h2⟩ := h
  exact L3.own_form h2
/-- Fields and methods lie apart. -/
def ApV (vs : Array Value) : Prop := ∀ k, (vs.getD 6 (.bool false)).ownBlock = some k → (vs.getD 7 (.bool false)).ownBlock ≠ some k
theorem OMs.lt {w : World} {base : Nat} {v : Value} {ms : List Cf.Mb} (h : OMs w base v ms) : ∀ k, v.ownBlock = some k → k < w.heap.size := by
  obtain ⟨rs, -, h2⟩ := h
  exact Kit.own_lt h2
theorem OMs.ge {w : World} {base : Nat} {v : Value} {ms : List Cf.Mb} (h : OMs w base v ms) : ∀ k, v.ownBlock = some k → base ≤ k := by
  obtain ⟨rs, -, h2⟩ := h
  exact Kit.own_base h2
set_option maxRecDepth 100000 in
set_option maxHeartbeats 2000000 in
theorem clone_any (c : Cf.Cl) (vs : Array Value) (w : World) (h : ClR w vs c) (hs : Cf.Szc c) :
    Calls Tryz.prog 33 #[.agg vs] w fun e w' => ∃ vs', e = .returned (.agg vs') ∧ OCl w' w.heap.size vs' c ∧ ApV vs' ∧ Below w.heap.size w w' := by
  obtain ⟨pv, fv, mv, rfl, hP, hF, hM⟩ := h
  have HP := hid (fun W (k : Below w.heap.size w W) => L3.cclone_any c.pool pv W (hP.below k (Nat.le_refl _)) hs.1)
  have HF := hid (fun W (k : Below w.heap.size w W) => cloneEach_any c.fs fv W (hF.below k (Nat.le_refl _)) hs.2.1 hs.2.2.2.1)
  have HM := hid (fun W (k : Below w.heap.size w W) => cloneEach_any c.ms mv W (hM.below k (Nat.le_refl _)) hs.2.2.1 hs.2.2.2.2)
  unfold L3.ClonePost at HP
  unfold cmFn at HF HM
  obtain ⟨xa, xc, rfl⟩ := hP.len
  obtain ⟨_, -, hf2⟩ := hF
  obtain ⟨ya, yc, rfl⟩ := hf2.len
  obtain ⟨_, -, hm2⟩ := hM
  obtain ⟨za, zc, rfl⟩ := hm2.len
  obtain ⟨mi, ma, pool, ac, th, su, fs, ms⟩ := c
  dsimp only at HP HF HM hs ⊢
  clear hP hf2 hm2 hs
  go_enter Tryz.func33, Tryz.ntmps33
  go_wp2_with (first
    | (go_at_call 77; have _g := O2; have Bx3 : Below w.heap.size w (w2.setCell ⟨w.heap.size, 6, none⟩ (.slice fa fs.length fc)) := (by repeat' first | with_reducible exact Below.refl _ _ | with_reducible assumption | with_reducible refine belows_drewN ?_ _ | with_reducible refine Below.drew ?_ | with_reducible refine Below.setCell ?_ ?_ _ | with_reducible refine Below.alloc ?_ ?_ _ | omega | (simp; done) | (simp; omega)); refine (HM.out _ Bx3).mono ?_; rintro e w3 ⟨v3, rfl, o3, hb3⟩; obtain ⟨ga, gc, rfl⟩ := OMs.form o3; have B3 := belows Bx3 hb3 Bx3.size; have hz3 := hb3.size; simp only [World.size_setCell] at hz3 o3; have O3 := hid o3; have O1c := hid (Kit.owns_below (Kit.owns_grown O1b.out (L3.set_grown _ w.heap.size 6 _) (by omega)) hb3 (Nat.le_refl _)); have O2c := hid ((O2.out.grown (L3.set_grown _ w.heap.size 6 _) (by omega)).below hb3 (Nat.le_refl _)); have bM := (BM2.out.set 6 (.slice fa fs.length fc)).below hb3 (by simp only [World.size_setCell]; omega); have bR := (BR2.out.grown (L3.set_grown w2 w.heap.size 6 (.slice fa fs.length fc)) (fun e => by (have := Option.some.inj e; omega))).below hb3 (by simp only [World.size_setCell]; omega); clear m0 m1 m2 m3 m4 m5 m6 m7 g6 g7; have m0 := bM.cell 0; have m1 := bM.cell 1; have m2 := bM.cell 2; have m3 := bM.cell 3; have m4 := bM.cell 4; have m5 := bM.cell 5; have m6 := bM.cell 6; have m7 := bM.cell 7; have g7 := bM.frozen 7; simp at m0 m1 m2 m3 m4 m5 m6 m7; have r0 := bR.cell 0; have r1 := bR.cell 1; have r2 := bR.cell 2; have r3 := bR.cell 3; have r4 := bR.cell 4; have r5 := bR.cell 5; have r6 := bR.cell 6; have r7 := bR.cell 7; simp at r0 r1 r2 r3 r4 r5 r6 r7; have f0 := bR.frozen 0; have f1 := bR.frozen 1; have f2 := bR.frozen 2; have f3 := bR.frozen 3; have f4 := bR.frozen 4; have f5 := bR.frozen 5; have f6 := bR.frozen 6; have f7 := bR.frozen 7; clear hb3 bM bR o3)
    | (go_at_call 77; have Bx : Below w.heap.size w (w1.setCell ⟨w.heap.size, 2, none⟩ (.slice pa pool.length pc)) := (by repeat' first | with_reducible exact Below.refl _ _ | with_reducible assumption | with_reducible refine belows_drewN ?_ _ | with_reducible refine Below.drew ?_ | with_reducible refine Below.setCell ?_ ?_ _ | with_reducible refine Below.alloc ?_ ?_ _ | omega | (simp; done) | (simp; omega)); refine (HF.out _ Bx).mono ?_; rintro e w2 ⟨v2, rfl, o2, hb2⟩; obtain ⟨fa, fc, rfl⟩ := OMs.form o2; have B2 := belows Bx hb2 Bx.size; have hz2 := hb2.size; simp only [World.size_setCell] at hz2 o2; have O2 := hid o2; have O1b := hid (Kit.owns_below (Kit.owns_grown O1.out (L3.set_grown _ w.heap.size 2 _) (by omega)) hb2 (Nat.le_refl _)); have bM := (BM.out.set 2 (.slice pa pool.length pc)).below hb2 (by simp only [World.size_setCell]; omega); have bR := (BR.out.grown (L3.set_grown w1 w.heap.size 2 (.slice pa pool.length pc)) (fun e => by (have := Option.some.inj e; omega))).below hb2 (by simp only [World.size_setCell]; omega); clear m0 m1 m2 m3 m4 m5 m6 m7 g2 g6 g7; have m0 := bM.cell 0; have m1 := bM.cell 1; have m2 := bM.cell 2; have m3 := bM.cell 3; have m4 := bM.cell 4; have m5 := bM.cell 5; have m6 := bM.cell 6; have m7 := bM.cell 7; have g6 := bM.frozen 6; have g7 := bM.frozen 7; simp at m0 m1 m2 m3 m4 m5 m6 m7; have BM2 := hid bM; have BR2 := hid bR; clear hb2 bM bR o2)
    | (go_at_call 76; refine (HP.out _ (by repeat' first | with_reducible exact Below.refl _ _ | with_reducible assumption | with_reducible refine belows_drewN ?_ _ | with_reducible refine Below.drew ?_ | with_reducible refine Below.setCell ?_ ?_ _ | with_reducible refine Below.alloc ?_ ?_ _ | omega | (simp; done) | (simp; omega))).mono ?_; rintro e w1 ⟨v1, rfl, o1, hb1⟩; obtain ⟨pa, pc, rfl⟩ := L3.own_form o1; obtain ⟨bM, bR, hz1, B1⟩ := boxes2 hb1; unfold L3.OwnC at o1; simp only [World.size_alloc] at o1; have O1 := hid o1; have BM := hid bM; have BR := hid bR; have m0 := bM.cell 0; have m1 := bM.cell 1; have m2 := bM.cell 2; have m3 := bM.cell 3; have m4 := bM.cell 4; have m5 := bM.cell 5; have m6 := bM.cell 6; have m7 := bM.cell 7; have g2 := bM.frozen 2; have g6 := bM.frozen 6; have g7 := bM.frozen 7; simp at m0 m1 m2 m3 m4 m5 m6 m7; clear hb1 bM bR o1))
  refine bodyPost_ret (v := .agg #[.int .i64 mi, .int .i64 ma, .slice pa pool.length pc, .int .i64 ac, .int .i64 th, .int .i64 su, .slice fa fs.length fc, .slice ga ms.length gc]) (by simp [results, Tryz.results33, go_sem, r0, r1, r2, r3, r4, r5, r6, r7]) rfl ⟨_, rfl, ⟨_, _, _, rfl, ?_, ?_, ?_⟩, fun k hk e9 => by (have q1 := OMs.lt O2.out k hk; have q2 := OMs.ge O3.out k e9; omega), (by repeat' first | with_reducible exact Below.refl _ _ | with_reducible assumption | with_reducible refine belows_drewN ?_ _ | with_reducible refine Below.drew ?_ | with_reducible refine Below.setCell ?_ ?_ _ | with_reducible refine Below.alloc ?_ ?_ _ | omega | (simp; done) | (simp; omega))⟩
  · have hlt2 : w.heap.size < w.heap.size + 1 + 1 := by omega
    have hlt : w.heap.size + 1 < w.heap.size + 1 + 1 := by omega
    refine L3.own_mono (base := w.heap.size + 1 + 1) ?_ (by omega)
    (iterate 8 (refine Kit.owns_grown ?_ (L3.set_grown _ _ _ _) hlt))
    exact Kit.owns_grown O1c.out (L3.set_grown _ _ _ _) hlt2
  · have hlt2 : w.heap.size < w1.heap.size := by omega
    have hlt : w.heap.size + 1 < w1.heap.size := by omega
    refine OMs.mono (base := w1.heap.size) ?_ (by omega)
    (iterate 8 (refine OMs.grown ?_ (L3.set_grown _ _ _ _) hlt))
    exact O2c.out.grown (L3.set_grown _ _ _ _) hlt2
  · have hlt2 : w.heap.size < w2.heap.size := by omega
    have hlt : w.heap.size + 1 < w2.heap.size := by omega
    refine OMs.mono (base := w2.heap.size) ?_ (by omega)
    (iterate 8 (refine OMs.grown ?_ (L3.set_grown _ _ _ _) hlt))
    exact O3.out.grown (L3.set_grown _ _ _ _) hlt2
end Go.Proofs.YtjnjnfhboafcgaaGreatDoor
namespace Go.Proofs.YtjnjnfhboafcgaaGreatDoor
open Go.RowKit

/-- Two handlers that differ. -/
theorem h_ne {x y : Cf.Hn} (h : x ≠ y) : (¬ x.f = y.f) ∨ (x.f = y.f ∧ ¬ x.t = y.t) ∨ (x.f = y.f ∧ x.t = y.t ∧ ¬ x.a = y.a) ∨ (x.f = y.f ∧ x.t = y.t ∧ x.a = y.a ∧ ¬ x.y = y.y) := by
  obtain ⟨f, t, a, z⟩ := x
  obtain ⟨f', t', a', z'⟩ := y
  dsimp only
  by_cases e1 : f = f'
  · by_cases e2 : t = t'
    · by_cases e3 : a = a'
      · by_cases e4 : z = z'
        · exact absurd (by rw [e1, e2, e3, e4]) h
        · exact .inr (.inr (.inr ⟨e1, e2, e3, e4⟩))
      · exact .inr (.inr (.inl ⟨e1, e2, e3⟩))
    · exact .inr (.inl ⟨e1, e2⟩)
  · exact .inl e1
theorem take_step {α : Type} {a b : List α} {j : Nat} {x : α} (h : a.take j = b.take j) (ha : a[j]? = some x) (hb : b[j]? = some x) : a.take (j + 1) = b.take (j + 1) := by
  rw [List.take_add_one, List.take_add_one, h, ha, hb]
theorem ne_at {α : Type} [DecidableEq α] {a b : List α} {j : Nat} {x y : α} (ha : a[j]? = some x) (hb : b[j]? = some y) (hne : x ≠ y) : decide (a = b) = false := by
  rw [decide_eq_false_iff_not]
  rintro rfl
  rw [ha] at hb
  exact hne (Option.some.inj hb)
set_option maxRecDepth 100000 in
set_option maxHeartbeats 1000000 in
theorem rscG_any (l l2 : List L3.Cp.C) (v u : Value) (w : World) (hv : Kit.IsS 5 w v l.length (l.flatMap L3.cL)) (hu : Kit.IsS 5 w u l2.length (l2.flatMap L3.cL)) :
    Calls Tryz.prog 42 #[v, u] w fun e w' => e = .returned (.bool (decide (l = l2))) ∧ Below w.heap.size w w' := by
  by_cases hlen2 : l.length = l2.length
  · have HV := hid hv
    have HU := hid hu
    obtain ⟨a1, cap1, hv2⟩ := hv.len
    obtain ⟨a2, cap2, hu2⟩ := hu.len
    rw [← hlen2] at hu2
    subst hv2 hu2
    have hlen := hv.2.1
    obtain ⟨r, hr⟩ : ∃ r, r = decide (l = l2) := ⟨_, rfl⟩
    rw [← hr]
    have HR := hid hr
    have HL2 := hid hlen2
    clear hv hu hr hlen2
    go_enter Tryz.func42, Tryz.ntmps42
    go_wp2
    go_loopw [5] (fun i wr => ∃ k : Nat, k ≤ l.length ∧ i = .int .i64 k ∧ Hid (l.take k = l2.take k) ∧ Below w.heap.size w wr) (fun i _ => l.length - (intOf i).toNat)
    case atStart => exact ⟨0, by omega, rfl, rfl, (by repeat' first | with_reducible exact Below.refl _ _ | with_reducible assumption | with_reducible refine belows_drewN ?_ _ | with_reducible refine Below.drew ?_ | with_reducible refine Below.setCell ?_ ?_ _ | with_reducible refine Below.alloc ?_ ?_ _ | omega | (simp; done) | (simp; omega))⟩
    case round =>
      obtain ⟨k, hk, rfl, htk, hbl⟩ := hrel
      have hbz := hbl.size
      by_cases hlt : k < l.length
      · obtain ⟨x, hx⟩ : ∃ x, l[k]? = some x := ⟨l[k], List.getElem?_eq_getElem hlt⟩
        obtain ⟨y, hy⟩ : ∃ y, l2[k]? = some y := ⟨l2[k]'(by rw [← HL2.out]; exact hlt), List.getElem?_eq_getElem _⟩
        obtain ⟨b, o, cap', hv, hb, c0, c1, c2, c3, c4⟩ := L3.c_at (HV.out.below hbl (Nat.le_refl _)) hx
        obtain ⟨rfl, -, rfl⟩ := Value.slice.inj hv
        obtain ⟨b', o', cap', hv', hb', d0, d1, d2, d3, d4⟩ := L3.c_at (HU.out.below hbl (Nat.le_refl _)) hy
        obtain ⟨rfl, -, rfl⟩ := Value.slice.inj hv'
        have i1 : (k : Int) < (l.length : Int) := by omega
        by_cases hxy : x = y
        · subst hxy
          have hnext := hid (take_step htk.out hx hy)
          clear hx hy hv hv'
          go_wp2
          go_quiet (fail)
          go_wp2
          go_roundw
          case rel => exact ⟨k + 1, by omega, by go_num, hnext, (by repeat' first | with_reducible exact Below.refl _ _ | with_reducible assumption | with_reducible refine belows_drewN ?_ _ | with_reducible refine Below.drew ?_ | with_reducible refine Below.setCell ?_ ?_ _ | with_reducible refine Below.alloc ?_ ?_ _ | omega | (simp; done) | (simp; omega))⟩
          case measure => simp [intOf]; omega
        · have HF := hid (HR.out.trans (ne_at hx hy hxy))
          have hc := L3.c_ne hxy
          clear hx hy hv hv' hxy
          obtain ⟨xt, xs, xn, xa, xb⟩ := x
          obtain ⟨yt, ys, yn, ya, yb⟩ := y
          dsimp only at c0 d0 c1 d1 c2 d2 c3 d3 c4 d4 hc
          rcases hc with hne | ⟨rfl, hne⟩ | ⟨rfl, rfl, hne⟩ | ⟨rfl, rfl, rfl, hne⟩ | ⟨rfl, rfl, rfl, rfl, hne⟩
          all_goals
            go_wp2
            go_quiet (fail)
            go_wp2
            go_ret
            exact ⟨by rw [HF.out]; rfl, (by repeat' first | with_reducible exact Below.refl _ _ | with_reducible assumption | with_reducible refine belows_drewN ?_ _ | with_reducible refine Below.drew ?_ | with_reducible refine Below.setCell ?_ ?_ _ | with_reducible refine Below.alloc ?_ ?_ _ | omega | (simp; done) | (simp; omega))⟩
      · obtain rfl : k = l.length := by omega
        have HF : Hid (r = true) := by
          show r = true
          rw [HR.out, decide_eq_true_iff]
          have := htk.out
          rwa [List.take_length, HL2.out, List.take_length] at this
        go_wp2
        go_ret
        exact ⟨by rw [HF.out]; rfl, (by repeat' first | with_reducible exact Below.refl _ _ | with_reducible assumption | with_reducible refine belows_drewN ?_ _ | with_reducible refine Below.drew ?_ | with_reducible refine Below.setCell ?_ ?_ _ | with_reducible refine Below.alloc ?_ ?_ _ | omega | (simp; done) | (simp; omega))⟩
  · obtain ⟨a1, cap1, hv2⟩ := hv.len
    obtain ⟨a2, cap2, hu2⟩ := hu.len
    subst hv2 hu2
    have hd : ((l.length : Int) != (l2.length : Int)) = true := by simp; omega
    rw [decide_eq_false (fun e => hlen2 (by rw [e]))]
    clear hv hu hlen2
    go_enter Tryz.func42, Tryz.ntmps42
    go_wp2
    go_ret
    exact ⟨rfl, (by repeat' first | with_reducible exact Below.refl _ _ | with_reducible assumption | with_reducible refine belows_drewN ?_ _ | with_reducible refine Below.drew ?_ | with_reducible refine Below.setCell ?_ ?_ _ | with_reducible refine Below.alloc ?_ ?_ _ | omega | (simp; done) | (simp; omega))⟩
set_option maxRecDepth 100000 in
set_option maxHeartbeats 1000000 in
theorem rshG_any (l l2 : List Cf.Hn) (v u : Value) (w : World) (hv : Kit.IsS 4 w v l.length (l.flatMap hL)) (hu : Kit.IsS 4 w u l2.length (l2.flatMap hL)) :
    Calls Tryz.prog 84 #[v, u] w fun e w' => e = .returned (.bool (decide (l = l2))) ∧ Below w.heap.size w w' := by
  by_cases hlen2 : l.length = l2.length
  · have HV := hid hv
    have HU := hid hu
    obtain ⟨a1, cap1, hv2⟩ := hv.len
    obtain ⟨a2, cap2, hu2⟩ := hu.len
    rw [← hlen2] at hu2
    subst hv2 hu2
    have hlen := hv.2.1
    obtain ⟨r, hr⟩ : ∃ r, r = decide (l = l2) := ⟨_, rfl⟩
    rw [← hr]
    have HR := hid hr
    have HL2 := hid hlen2
    clear hv hu hr hlen2
    go_enter Tryz.func84, Tryz.ntmps84
    go_wp2
    go_loopw [5] (fun i wr => ∃ k : Nat, k ≤ l.length ∧ i = .int .i64 k ∧ Hid (l.take k = l2.take k) ∧ Below w.heap.size w wr) (fun i _ => l.length - (intOf i).toNat)
    case atStart => exact ⟨0, by omega, rfl, rfl, (by repeat' first | with_reducible exact Below.refl _ _ | with_reducible assumption | with_reducible refine belows_drewN ?_ _ | with_reducible refine Below.drew ?_ | with_reducible refine Below.setCell ?_ ?_ _ | with_reducible refine Below.alloc ?_ ?_ _ | omega | (simp; done) | (simp; omega))⟩
    case round =>
      obtain ⟨k, hk, rfl, htk, hbl⟩ := hrel
      have hbz := hbl.size
      by_cases hlt : k < l.length
      · obtain ⟨x, hx⟩ : ∃ x, l[k]? = some x := ⟨l[k], List.getElem?_eq_getElem hlt⟩
        obtain ⟨y, hy⟩ : ∃ y, l2[k]? = some y := ⟨l2[k]'(by rw [← HL2.out]; exact hlt), List.getElem?_eq_getElem _⟩
        obtain ⟨b, o, cap', hv, hb, c0, c1, c2, c3⟩ := h_at (HV.out.below hbl (Nat.le_refl _)) hx
        obtain ⟨rfl, -, rfl⟩ := Value.slice.inj hv
        obtain ⟨b', o', cap', hv', hb', d0, d1, d2, d3⟩ := h_at (HU.out.below hbl (Nat.le_refl _)) hy
        obtain ⟨rfl, -, rfl⟩ := Value.slice.inj hv'
        have i1 : (k : Int) < (l.length : Int) := by omega
        by_cases hxy : x = y
        · subst hxy
          have hnext := hid (take_step htk.out hx hy)
          clear hx hy hv hv'
          go_wp2
          go_quiet (fail)
          go_wp2
          go_roundw
          case rel => exact ⟨k + 1, by omega, by go_num, hnext, (by repeat' first | with_reducible exact Below.refl _ _ | with_reducible assumption | with_reducible refine belows_drewN ?_ _ | with_reducible refine Below.drew ?_ | with_reducible refine Below.setCell ?_ ?_ _ | with_reducible refine Below.alloc ?_ ?_ _ | omega | (simp; done) | (simp; omega))⟩
          case measure => simp [intOf]; omega
        · have HF := hid (HR.out.trans (ne_at hx hy hxy))
          have hc := h_ne hxy
          clear hx hy hv hv' hxy
          obtain ⟨xf, xt, xa, xy⟩ := x
          obtain ⟨yf, yt, ya, yy⟩ := y
          dsimp only at c0 d0 c1 d1 c2 d2 c3 d3 hc
          rcases hc with hne | ⟨rfl, hne⟩ | ⟨rfl, rfl, hne⟩ | ⟨rfl, rfl, rfl, hne⟩
          all_goals
            go_wp2
            go_quiet (fail)
            go_wp2
            go_ret
            exact ⟨by rw [HF.out]; rfl, (by repeat' first | with_reducible exact Below.refl _ _ | with_reducible assumption | with_reducible refine belows_drewN ?_ _ | with_reducible refine Below.drew ?_ | with_reducible refine Below.setCell ?_ ?_ _ | with_reducible refine Below.alloc ?_ ?_ _ | omega | (simp; done) | (simp; omega))⟩
      · obtain rfl : k = l.length := by omega
        have HF : Hid (r = true) := by
          show r = true
          rw [HR.out, decide_eq_true_iff]
          have := htk.out
          rwa [List.take_length, HL2.out, List.take_length] at this
        go_wp2
        go_ret
        exact ⟨by rw [HF.out]; rfl, (by repeat' first | with_reducible exact Below.refl _ _ | with_reducible assumption | with_reducible refine belows_drewN ?_ _ | with_reducible refine Below.drew ?_ | with_reducible refine Below.setCell ?_ ?_ _ | with_reducible refine Below.alloc ?_ ?_ _ | omega | (simp; done) | (simp; omega))⟩
  · obtain ⟨a1, cap1, hv2⟩ := hv.len
    obtain ⟨a2, cap2, hu2⟩ := hu.len
    subst hv2 hu2
    have hd : ((l.length : Int) != (l2.length : Int)) = true := by simp; omega
    rw [decide_eq_false (fun e => hlen2 (by rw [e]))]
    clear hv hu hlen2
    go_enter Tryz.func84, Tryz.ntmps84
    go_wp2
    go_ret
    exact ⟨rfl, (by repeat' first | with_reducible exact Below.refl _ _ | with_reducible assumption | with_reducible refine belows_drewN ?_ _ | with_reducible refine Below.drew ?_ | with_reducible refine Below.setCell ?_ ?_ _ | with_reducible refine Below.alloc ?_ ?_ _ | omega | (simp; done) | (simp; omega))⟩
end Go.Proofs.YtjnjnfhboafcgaaGreatDoor
namespace Go.Proofs.YtjnjnfhboafcgaaGreatDoor
open Go.RowKit

set_option maxRecDepth 100000 in
set_option maxHeartbeats 1000000 in
theorem equalC_any (l l2 : List L3.Cp.C) (v u : Value) (w : World) (hv : Kit.IsS 5 w v l.length (l.flatMap L3.cL)) (hu : Kit.IsS 5 w u l2.length (l2.flatMap L3.cL)) :
    Calls Tryz.prog 73 #[v, u] w fun e w' => e = .returned (.bool (decide (l = l2))) ∧ Below w.heap.size w w' := by
  by_cases hlen2 : l.length = l2.length
  · have HV := hid hv
    have HU := hid hu
    obtain ⟨a1, cap1, hv2⟩ := hv.len
    obtain ⟨a2, cap2, hu2⟩ := hu.len
    rw [← hlen2] at hu2
    subst hv2 hu2
    have hlen := hv.2.1
    obtain ⟨r, hr⟩ : ∃ r, r = decide (l = l2) := ⟨_, rfl⟩
    rw [← hr]
    have HR := hid hr
    have HL2 := hid hlen2
    clear hv hu hr hlen2
    go_enter Tryz.func73, Tryz.ntmps73
    go_wp2
    go_loopw [13] (fun i wr => ∃ k : Nat, k ≤ l.length ∧ i = .int .i64 k ∧ Hid (l.take k = l2.take k) ∧ Below w.heap.size w wr) (fun i _ => l.length - (intOf i).toNat)
    case atStart => exact ⟨0, by omega, rfl, rfl, (by repeat' first | with_reducible exact Below.refl _ _ | with_reducible assumption | with_reducible refine belows_drewN ?_ _ | with_reducible refine Below.drew ?_ | with_reducible refine Below.setCell ?_ ?_ _ | with_reducible refine Below.alloc ?_ ?_ _ | omega | (simp; done) | (simp; omega))⟩
    case round =>
      obtain ⟨k, hk, rfl, htk, hbl⟩ := hrel
      have hbz := hbl.size
      by_cases hlt : k < l.length
      · obtain ⟨x, hx⟩ : ∃ x, l[k]? = some x := ⟨l[k], List.getElem?_eq_getElem hlt⟩
        obtain ⟨y, hy⟩ : ∃ y, l2[k]? = some y := ⟨l2[k]'(by rw [← HL2.out]; exact hlt), List.getElem?_eq_getElem _⟩
        obtain ⟨b, o, cap', hv, hb, c0, c1, c2, c3, c4⟩ := L3.c_at (HV.out.below hbl (Nat.le_refl _)) hx
        obtain ⟨rfl, -, rfl⟩ := Value.slice.inj hv
        obtain ⟨b', o', cap', hv', hb', d0, d1, d2, d3, d4⟩ := L3.c_at (HU.out.below hbl (Nat.le_refl _)) hy
        obtain ⟨rfl, -, rfl⟩ := Value.slice.inj hv'
        have i1 : (k : Int) < (l.length : Int) := by omega
        by_cases hxy : x = y
        · subst hxy
          have hnext := hid (take_step htk.out hx hy)
          clear hx hy hv hv'
          go_wp2
          go_quiet (fail)
          go_wp2
          go_roundw
          case rel => exact ⟨k + 1, by omega, by go_num, hnext, (by repeat' first | with_reducible exact Below.refl _ _ | with_reducible assumption | with_reducible refine belows_drewN ?_ _ | with_reducible refine Below.drew ?_ | with_reducible refine Below.setCell ?_ ?_ _ | with_reducible refine Below.alloc ?_ ?_ _ | omega | (simp; done) | (simp; omega))⟩
          case measure => simp [intOf]; omega
        · have HF := hid (HR.out.trans (ne_at hx hy hxy))
          have hc := L3.c_ne hxy
          clear hx hy hv hv' hxy
          obtain ⟨xt, xs, xn, xa, xb⟩ := x
          obtain ⟨yt, ys, yn, ya, yb⟩ := y
          dsimp only at c0 d0 c1 d1 c2 d2 c3 d3 c4 d4 hc
          rcases hc with hne | ⟨rfl, hne⟩ | ⟨rfl, rfl, hne⟩ | ⟨rfl, rfl, rfl, hne⟩ | ⟨rfl, rfl, rfl, rfl, hne⟩
          all_goals
            go_wp2
            go_quiet (fail)
            go_wp2
            go_ret
            exact ⟨by rw [HF.out]; rfl, (by repeat' first | with_reducible exact Below.refl _ _ | with_reducible assumption | with_reducible refine belows_drewN ?_ _ | with_reducible refine Below.drew ?_ | with_reducible refine Below.setCell ?_ ?_ _ | with_reducible refine Below.alloc ?_ ?_ _ | omega | (simp; done) | (simp; omega))⟩
      · obtain rfl : k = l.length := by omega
        have HF : Hid (r = true) := by
          show r = true
          rw [HR.out, decide_eq_true_iff]
          have := htk.out
          rwa [List.take_length, HL2.out, List.take_length] at this
        go_wp2
        go_ret
        exact ⟨by rw [HF.out]; rfl, (by repeat' first | with_reducible exact Below.refl _ _ | with_reducible assumption | with_reducible refine belows_drewN ?_ _ | with_reducible refine Below.drew ?_ | with_reducible refine Below.setCell ?_ ?_ _ | with_reducible refine Below.alloc ?_ ?_ _ | omega | (simp; done) | (simp; omega))⟩
  · obtain ⟨a1, cap1, hv2⟩ := hv.len
    obtain ⟨a2, cap2, hu2⟩ := hu.len
    subst hv2 hu2
    have hd : ((l.length : Int) != (l2.length : Int)) = true := by simp; omega
    rw [decide_eq_false (fun e => hlen2 (by rw [e]))]
    clear hv hu hlen2
    go_enter Tryz.func73, Tryz.ntmps73
    go_wp2
    go_ret
    exact ⟨rfl, (by repeat' first | with_reducible exact Below.refl _ _ | with_reducible assumption | with_reducible refine belows_drewN ?_ _ | with_reducible refine Below.drew ?_ | with_reducible refine Below.setCell ?_ ?_ _ | with_reducible refine Below.alloc ?_ ?_ _ | omega | (simp; done) | (simp; omega))⟩
set_option maxRecDepth 100000 in
set_option maxHeartbeats 1000000 in
theorem equalH_any (l l2 : List Cf.Hn) (v u : Value) (w : World) (hv : Kit.IsS 4 w v l.length (l.flatMap hL)) (hu : Kit.IsS 4 w u l2.length (l2.flatMap hL)) :
    Calls Tryz.prog 127 #[v, u] w fun e w' => e = .returned (.bool (decide (l = l2))) ∧ Below w.heap.size w w' := by
  by_cases hlen2 : l.length = l2.length
  · have HV := hid hv
    have HU := hid hu
    obtain ⟨a1, cap1, hv2⟩ := hv.len
    obtain ⟨a2, cap2, hu2⟩ := hu.len
    rw [← hlen2] at hu2
    subst hv2 hu2
    have hlen := hv.2.1
    obtain ⟨r, hr⟩ : ∃ r, r = decide (l = l2) := ⟨_, rfl⟩
    rw [← hr]
    have HR := hid hr
    have HL2 := hid hlen2
    clear hv hu hr hlen2
    go_enter Tryz.func127, Tryz.ntmps127
    go_wp2
    go_loopw [13] (fun i wr => ∃ k : Nat, k ≤ l.length ∧ i = .int .i64 k ∧ Hid (l.take k = l2.take k) ∧ Below w.heap.size w wr) (fun i _ => l.length - (intOf i).toNat)
    case atStart => exact ⟨0, by omega, rfl, rfl, (by repeat' first | with_reducible exact Below.refl _ _ | with_reducible assumption | with_reducible refine belows_drewN ?_ _ | with_reducible refine Below.drew ?_ | with_reducible refine Below.setCell ?_ ?_ _ | with_reducible refine Below.alloc ?_ ?_ _ | omega | (simp; done) | (simp; omega))⟩
    case round =>
      obtain ⟨k, hk, rfl, htk, hbl⟩ := hrel
      have hbz := hbl.size
      by_cases hlt : k < l.length
      · obtain ⟨x, hx⟩ : ∃ x, l[k]? = some x := ⟨l[k], List.getElem?_eq_getElem hlt⟩
        obtain ⟨y, hy⟩ : ∃ y, l2[k]? = some y := ⟨l2[k]'(by rw [← HL2.out]; exact hlt), List.getElem?_eq_getElem _⟩
        obtain ⟨b, o, cap', hv, hb, c0, c1, c2, c3⟩ := h_at (HV.out.below hbl (Nat.le_refl _)) hx
        obtain ⟨rfl, -, rfl⟩ := Value.slice.inj hv
        obtain ⟨b', o', cap', hv', hb', d0, d1, d2, d3⟩ := h_at (HU.out.below hbl (Nat.le_refl _)) hy
        obtain ⟨rfl, -, rfl⟩ := Value.slice.inj hv'
        have i1 : (k : Int) < (l.length : Int) := by omega
        by_cases hxy : x = y
        · subst hxy
          have hnext := hid (take_step htk.out hx hy)
          clear hx hy hv hv'
          go_wp2
          go_quiet (fail)
          go_wp2
          go_roundw
          case rel => exact ⟨k + 1, by omega, by go_num, hnext, (by repeat' first | with_reducible exact Below.refl _ _ | with_reducible assumption | with_reducible refine belows_drewN ?_ _ | with_reducible refine Below.drew ?_ | with_reducible refine Below.setCell ?_ ?_ _ | with_reducible refine Below.alloc ?_ ?_ _ | omega | (simp; done) | (simp; omega))⟩
          case measure => simp [intOf]; omega
        · have HF := hid (HR.out.trans (ne_at hx hy hxy))
          have hc := h_ne hxy
          clear hx hy hv hv' hxy
          obtain ⟨xf, xt, xa, xy⟩ := x
          obtain ⟨yf, yt, ya, yy⟩ := y
          dsimp only at c0 d0 c1 d1 c2 d2 c3 d3 hc
          rcases hc with hne | ⟨rfl, hne⟩ | ⟨rfl, rfl, hne⟩ | ⟨rfl, rfl, rfl, hne⟩
          all_goals
            go_wp2
            go_quiet (fail)
            go_wp2
            go_ret
            exact ⟨by rw [HF.out]; rfl, (by repeat' first | with_reducible exact Below.refl _ _ | with_reducible assumption | with_reducible refine belows_drewN ?_ _ | with_reducible refine Below.drew ?_ | with_reducible refine Below.setCell ?_ ?_ _ | with_reducible refine Below.alloc ?_ ?_ _ | omega | (simp; done) | (simp; omega))⟩
      · obtain rfl : k = l.length := by omega
        have HF : Hid (r = true) := by
          show r = true
          rw [HR.out, decide_eq_true_iff]
          have := htk.out
          rwa [List.take_length, HL2.out, List.take_length] at this
        go_wp2
        go_ret
        exact ⟨by rw [HF.out]; rfl, (by repeat' first | with_reducible exact Below.refl _ _ | with_reducible assumption | with_reducible refine belows_drewN ?_ _ | with_reducible refine Below.drew ?_ | with_reducible refine Below.setCell ?_ ?_ _ | with_reducible refine Below.alloc ?_ ?_ _ | omega | (simp; done) | (simp; omega))⟩
  · obtain ⟨a1, cap1, hv2⟩ := hv.len
    obtain ⟨a2, cap2, hu2⟩ := hu.len
    subst hv2 hu2
    have hd : ((l.length : Int) != (l2.length : Int)) = true := by simp; omega
    rw [decide_eq_false (fun e => hlen2 (by rw [e]))]
    clear hv hu hlen2
    go_enter Tryz.func127, Tryz.ntmps127
    go_wp2
    go_ret
    exact ⟨rfl, (by repeat' first | with_reducible exact Below.refl _ _ | with_reducible assumption | with_reducible refine belows_drewN ?_ _ | with_reducible refine Below.drew ?_ | with_reducible refine Below.setCell ?_ ?_ _ | with_reducible refine Below.alloc ?_ ?_ _ | omega | (simp; done) | (simp; omega))⟩
end Go.Proofs.YtjnjnfhboafcgaaGreatDoor
namespace Go.Proofs.YtjnjnfhboafcgaaGreatDoor
open Go.RowKit

/-- Two members that differ. -/
theorem m_ne {x y : Cf.Mb} (h : x ≠ y) : (¬ x.ac = y.ac) ∨ (x.ac = y.ac ∧ ¬ x.nm = y.nm) ∨ (x.ac = y.ac ∧ x.nm = y.nm ∧ ¬ x.ds = y.ds) ∨ (x.ac = y.ac ∧ x.nm = y.nm ∧ x.ds = y.ds ∧ ¬ x.st = y.st) ∨ (x.ac = y.ac ∧ x.nm = y.nm ∧ x.ds = y.ds ∧ x.st = y.st ∧ ¬ x.lc = y.lc) ∨
    (x.ac = y.ac ∧ x.nm = y.nm ∧ x.ds = y.ds ∧ x.st = y.st ∧ x.lc = y.lc ∧ ¬ x.code = y.code) ∨ (x.ac = y.ac ∧ x.nm = y.nm ∧ x.ds = y.ds ∧ x.st = y.st ∧ x.lc = y.lc ∧ x.code = y.code ∧ ¬ x.hs = y.hs) := by
  obtain ⟨a1, a2, a3, a4, a5, a6, a7⟩ := x
  obtain ⟨b1, b2, b3, b4, b5, b6, b7⟩ := y
  dsimp only
  by_cases e1 : a1 = b1
  · by_cases e2 : a2 = b2
    · by_cases e3 : a3 = b3
      · by_cases e4 : a4 = b4
        · by_cases e5 : a5 = b5
          · by_cases e6 : a6 = b6
            · exact .inr (.inr (.inr (.inr (.inr (.inr ⟨e1, e2, e3, e4, e5, e6, fun e7 => h (by rw [e1, e2, e3, e4, e5, e6, e7])⟩)))))
            · exact .inr (.inr (.inr (.inr (.inr (.inl ⟨e1, e2, e3, e4, e5, e6⟩)))))
          · exact .inr (.inr (.inr (.inr (.inl ⟨e1, e2, e3, e4, e5⟩))))
        · exact .inr (.inr (.inr (.inl ⟨e1, e2, e3, e4⟩)))
      · exact .inr (.inr (.inl ⟨e1, e2, e3⟩))
    · exact .inr (.inl ⟨e1, e2⟩)
  · exact .inl e1
def bst (l : List UInt8) : ByteArray := ⟨l.toArray⟩
theorem bst_ne {a b : List UInt8} (h : ¬ a = b) : ((bst a).toList == (bst b).toList) = false := by
  rw [beq_eq_false_iff_ne, ne_eq, ByteArray.toList_eq, ByteArray.toList_eq]
  unfold bst
  simpa using h
theorem bst_dec (a b : List UInt8) : ((bst a).toList == (bst b).toList) = decide (a = b) := by
  by_cases h : a = b
  · subst h; simp
  · rw [bst_ne h, decide_eq_false h]
set_option maxRecDepth 100000 in
theorem bequalG_any (a b : List UInt8) (v u : Value) (w : World) (hv : L3.Bs w.heap.size w v a) (hu : L3.Bs w.heap.size w u b) :
    Calls Tryz.prog 19 #[v, u] w fun e w' => e = .returned (.bool (decide (a = b))) ∧ w = w' := by
  have h1 : (convert 22 9 v).run Tryz.prog w = .ok (.string (bst a)) w := L3.bs_conv hv
  have h2 : (convert 22 9 u).run Tryz.prog w = .ok (.string (bst b)) w := L3.bs_conv hu
  have h3 := bst_dec a b
  obtain ⟨s, hs⟩ : ∃ s, s = bst a := ⟨_, rfl⟩
  obtain ⟨t, ht⟩ : ∃ s, s = bst b := ⟨_, rfl⟩
  obtain ⟨d, hd⟩ : ∃ d, d = decide (a = b) := ⟨_, rfl⟩
  rw [← hs] at h1 h3
  rw [← ht] at h2 h3
  rw [← hd] at h3 ⊢
  clear hv hu hs ht hd
  go_enter Tryz.func19, Tryz.ntmps19
  go_wp2
  go_ret
  exact ⟨by simp [h3], rfl⟩
set_option maxRecDepth 100000 in
set_option maxHeartbeats 2000000 in
theorem rsmG_any (ms ns : List Cf.Mb) (v u : Value) (w : World) (hv : MsR w v ms) (hu : MsR w u ns) :
    Calls Tryz.prog 43 #[v, u] w fun e w' => e = .returned (.bool (decide (ms = ns))) ∧ Below w.heap.size w w' := by
  by_cases hlen2 : ms.length = ns.length
  · have HV := hid hv
    have HU := hid hu
    obtain ⟨a1, cap1, hv2⟩ := hv.len
    obtain ⟨a2, cap2, hu2⟩ := hu.len
    rw [← hlen2] at hu2
    subst hv2 hu2
    have hlen := hv.size
    obtain ⟨r, hr⟩ : ∃ r, r = decide (ms = ns) := ⟨_, rfl⟩
    rw [← hr]
    have HR := hid hr
    have HL2 := hid hlen2
    clear hv hu hr hlen2
    go_enter Tryz.func43, Tryz.ntmps43
    go_wp2
    go_loopw [5] (fun i wr => ∃ k : Nat, k ≤ ms.length ∧ i = .int .i64 k ∧ Hid (ms.take k = ns.take k) ∧ Below w.heap.size w wr) (fun i _ => ms.length - (intOf i).toNat)
    case atStart => exact ⟨0, by omega, rfl, rfl, (by repeat' first | with_reducible exact Below.refl _ _ | with_reducible assumption | with_reducible refine belows_drewN ?_ _ | with_reducible refine Below.drew ?_ | with_reducible refine Below.setCell ?_ ?_ _ | with_reducible refine Below.alloc ?_ ?_ _ | omega | (simp; done) | (simp; omega))⟩
    case round =>
      obtain ⟨k, hk, rfl, htk, hbl⟩ := hrel
      have hbz := hbl.size
      by_cases hlt : k < ms.length
      · obtain ⟨x, hx⟩ : ∃ x, ms[k]? = some x := ⟨ms[k], List.getElem?_eq_getElem hlt⟩
        obtain ⟨y, hy⟩ : ∃ y, ns[k]? = some y := ⟨ns[k]'(by rw [← HL2.out]; exact hlt), List.getElem?_eq_getElem _⟩
        obtain ⟨b, o, cap', cv, hw, hv2, hbb, hB, hH, hcl, c0, c1, c2, c3, c4, c5, c6⟩ := (HV.out.below hbl (Nat.le_refl _)).at hx
        obtain ⟨b2, o2, cap2', cv2, hw2, hu2, hbb2, hB2, hH2, -, d0, d1, d2, d3, d4, d5, d6⟩ := (HU.out.below hbl (Nat.le_refl _)).at hy
        obtain ⟨rfl, -, rfl⟩ := Value.slice.inj hv2
        obtain ⟨rfl, -, rfl⟩ := Value.slice.inj hu2
        have hki : (k : Int) < (ms.length : Int) := by omega
        have HHs := hid (fun W (k : Below wr.heap.size wr W) => rshG_any x.hs y.hs _ _ W (hH.below k (Nat.le_refl _)) (hH2.below k (Nat.le_refl _)))
        obtain ⟨xa, xc, rfl⟩ := hB.len
        obtain ⟨ya, yc, rfl⟩ := hH.len
        obtain ⟨xa2, xc2, rfl⟩ := hB2.len
        obtain ⟨ya2, yc2, rfl⟩ := hH2.len
        have HCv := hid (fun W (q : Below wr.heap.size wr W) => (show (convert 22 9 (.slice xa x.code.length xc)).run Tryz.prog W = .ok (.string (bst x.code)) W ∧ (convert 22 9 (.slice xa2 y.code.length xc2)).run Tryz.prog W = .ok (.string (bst y.code)) W from ⟨L3.bs_conv ((hB.below q (Nat.le_refl _)).mono q.size), L3.bs_conv ((hB2.below q (Nat.le_refl _)).mono q.size)⟩))
        have HHd := hid (show decide (x.hs = y.hs) = decide (x.hs = y.hs) from rfl)
        by_cases hxy : x = y
        · subst hxy
          have hnext := hid (take_step htk.out hx hy)
          obtain ⟨ac, nm, ds, st, lc, co, hs9⟩ := x
          dsimp only at c0 c1 c2 c3 c4 c5 c6 d0 d1 d2 d3 d4 d5 d6 HHs HCv
          obtain ⟨s, hs⟩ : ∃ s, s = bst co := ⟨_, rfl⟩
          rw [← hs] at HCv
          have B7 : Below wr.heap.size wr ((wr.alloc (.cells #[.int .i64 ac, .int .i64 nm, .int .i64 ds, .int .i64 st, .int .i64 lc, .slice xa co.length xc, .slice ya hs9.length yc] 42)).alloc (.cells #[.int .i64 ac, .int .i64 nm, .int .i64 ds, .int .i64 st, .int .i64 lc, .slice xa2 co.length xc2, .slice ya2 hs9.length yc2] 42)) := (by repeat' first | with_reducible exact Below.refl _ _ | with_reducible assumption | with_reducible refine belows_drewN ?_ _ | with_reducible refine Below.drew ?_ | with_reducible refine Below.setCell ?_ ?_ _ | with_reducible refine Below.alloc ?_ ?_ _ | omega | (simp; done) | (simp; omega))
          obtain ⟨hv7, hu7⟩ := HCv.out _ B7
          have hdd : decide (hs9 = hs9) = true := decide_eq_true rfl
          rw [hdd] at HHs
          clear hx hy hv2 hu2 hB hH hB2 hH2 hcl HHd hs hdd
          go_wp2_with (go_at_call 84; refine (HHs.out _ B7).mono ?_; rintro e W8 ⟨rfl, hb8⟩; have B8 := belows B7 hb8 B7.size)
          go_roundw
          case rel => exact ⟨k + 1, by omega, by go_num, hnext, belows hbl B8 hbz⟩
          case measure => simp [intOf]; omega
        · have HF := hid (HR.out.trans (ne_at hx hy hxy))
          have hc := m_ne hxy
          clear hx hy hv2 hu2 hB hH hB2 hH2 hcl HHd hxy
          obtain ⟨ac, nm, ds, st, lc, co, hs9⟩ := x
          obtain ⟨ac', nm', ds', st', lc', co', hs9'⟩ := y
          dsimp only at c0 c1 c2 c3 c4 c5 c6 d0 d1 d2 d3 d4 d5 d6 HHs HCv hc
          have B7 : Below wr.heap.size wr ((wr.alloc (.cells #[.int .i64 ac, .int .i64 nm, .int .i64 ds, .int .i64 st, .int .i64 lc, .slice xa co.length xc, .slice ya hs9.length yc] 42)).alloc (.cells #[.int .i64 ac', .int .i64 nm', .int .i64 ds', .int .i64 st', .int .i64 lc', .slice xa2 co'.length xc2, .slice ya2 hs9'.length yc2] 42)) := (by repeat' first | with_reducible exact Below.refl _ _ | with_reducible assumption | with_reducible refine belows_drewN ?_ _ | with_reducible refine Below.drew ?_ | with_reducible refine Below.setCell ?_ ?_ _ | with_reducible refine Below.alloc ?_ ?_ _ | omega | (simp; done) | (simp; omega))
          rcases hc with hne | ⟨rfl, hne⟩ | ⟨rfl, rfl, hne⟩ | ⟨rfl, rfl, rfl, hne⟩ | ⟨rfl, rfl, rfl, rfl, hne⟩ | ⟨rfl, rfl, rfl, rfl, rfl, hne⟩ | ⟨rfl, rfl, rfl, rfl, rfl, rfl, hne⟩
          rotate_left 5
          · obtain ⟨hv7, hu7⟩ := HCv.out _ B7
            have hb := bst_ne hne
            obtain ⟨s, hs⟩ : ∃ s, s = bst co := ⟨_, rfl⟩
            obtain ⟨t, ht⟩ : ∃ s, s = bst co' := ⟨_, rfl⟩
            rw [← hs] at hv7 hb
            rw [← ht] at hu7 hb
            clear HCv hs ht hne
            go_wp2
            go_ret
            exact ⟨by rw [HF.out]; rfl, belows hbl B7 hbz⟩
          · obtain ⟨hv7, hu7⟩ := HCv.out _ B7
            obtain ⟨s, hs⟩ : ∃ s, s = bst co := ⟨_, rfl⟩
            rw [← hs] at hv7 hu7
            rw [decide_eq_false hne] at HHs
            clear HCv hs hne
            go_wp2_with (go_at_call 84; refine (HHs.out _ B7).mono ?_; rintro e W8 ⟨rfl, hb8⟩; have B8 := belows B7 hb8 B7.size)
            go_ret
            exact ⟨by rw [HF.out]; rfl, belows hbl B8 hbz⟩
          all_goals
            clear HCv
            go_wp2
            go_ret
            exact ⟨by rw [HF.out]; rfl, belows hbl B7 hbz⟩
      · obtain rfl : k = ms.length := by omega
        have HF : Hid (r = true) := by
          show r = true
          rw [HR.out, decide_eq_true_iff]
          have := htk.out
          rwa [List.take_length, HL2.out, List.take_length] at this
        go_wp2
        go_ret
        exact ⟨by rw [HF.out]; rfl, (by repeat' first | with_reducible exact Below.refl _ _ | with_reducible assumption | with_reducible refine belows_drewN ?_ _ | with_reducible refine Below.drew ?_ | with_reducible refine Below.setCell ?_ ?_ _ | with_reducible refine Below.alloc ?_ ?_ _ | omega | (simp; done) | (simp; omega))⟩
  · obtain ⟨a1, cap1, hv2⟩ := hv.len
    obtain ⟨a2, cap2, hu2⟩ := hu.len
    subst hv2 hu2
    have hd : ((ms.length : Int) != (ns.length : Int)) = true := by simp; omega
    rw [decide_eq_false (fun e => hlen2 (by rw [e]))]
    clear hv hu hlen2
    go_enter Tryz.func43, Tryz.ntmps43
    go_wp2
    go_ret
    exact ⟨rfl, (by repeat' first | with_reducible exact Below.refl _ _ | with_reducible assumption | with_reducible refine belows_drewN ?_ _ | with_reducible refine Below.drew ?_ | with_reducible refine Below.setCell ?_ ?_ _ | with_reducible refine Below.alloc ?_ ?_ _ | omega | (simp; done) | (simp; omega))⟩
end Go.Proofs.YtjnjnfhboafcgaaGreatDoor
namespace Go.Proofs.YtjnjnfhboafcgaaGreatDoor
open Go.RowKit

set_option maxRecDepth 100000 in
set_option maxHeartbeats 2000000 in
theorem sameMember_any (x y : Cf.Mb) (cv hv cv2 hv2 : Value) (w : World) (hB : L3.Bs w.heap.size w cv x.code) (hH : Kit.IsS 4 w hv x.hs.length (x.hs.flatMap hL)) (hB2 : L3.Bs w.heap.size w cv2 y.code) (hH2 : Kit.IsS 4 w hv2 y.hs.length (y.hs.flatMap hL)) :
    Calls Tryz.prog 75 #[mbV x cv hv, mbV y cv2 hv2] w fun e w' => e = .returned (.bool (decide (x = y))) ∧ Below w.heap.size w w' := by
  have HE := fun W (q : Below w.heap.size w W) => bequalG_any x.code y.code cv cv2 W ((hB.below q (Nat.le_refl _)).mono q.size) ((hB2.below q (Nat.le_refl _)).mono q.size)
  have HH := fun W (q : Below w.heap.size w W) => equalH_any x.hs y.hs hv hv2 W (hH.below q (Nat.le_refl _)) (hH2.below q (Nat.le_refl _))
  obtain ⟨xa, xc, rfl⟩ := hB.len
  obtain ⟨ya, yc, rfl⟩ := hH.len
  obtain ⟨xa2, xc2, rfl⟩ := hB2.len
  obtain ⟨ya2, yc2, rfl⟩ := hH2.len
  obtain ⟨r, hr⟩ : ∃ r, r = decide (x = y) := ⟨_, rfl⟩
  rw [← hr]
  have hc : (x = y) ∨ _ := (Decidable.em (x = y)).imp id m_ne
  obtain ⟨ac, nm, ds, st, lc, co, hs9⟩ := x
  obtain ⟨ac', nm', ds', st', lc', co', hs9'⟩ := y
  unfold mbV
  dsimp only at hc HE HH ⊢
  clear hB hH hB2 hH2
  rcases hc with hc | hne | ⟨rfl, hne⟩ | ⟨rfl, rfl, hne⟩ | ⟨rfl, rfl, rfl, hne⟩ | ⟨rfl, rfl, rfl, rfl, hne⟩ | ⟨rfl, rfl, rfl, rfl, rfl, hne⟩ | ⟨rfl, rfl, rfl, rfl, rfl, rfl, hne⟩
  · cases hc
    obtain rfl : r = true := by rw [hr]; simp
    rw [decide_eq_true rfl] at HE HH
    have HE := hid HE
    have HH := hid HH
    clear hr
    go_enter Tryz.func75, Tryz.ntmps75
    go_wp2_with (first | (go_at_call 19; refine (HE.out _ (by repeat' first | with_reducible exact Below.refl _ _ | with_reducible assumption | with_reducible refine belows_drewN ?_ _ | with_reducible refine Below.drew ?_ | with_reducible refine Below.setCell ?_ ?_ _ | with_reducible refine Below.alloc ?_ ?_ _ | omega | (simp; done) | (simp; omega))).mono ?_; rintro e w1 ⟨rfl, rfl⟩) | (go_at_call 127; refine (HH.out _ (by repeat' first | with_reducible exact Below.refl _ _ | with_reducible assumption | with_reducible refine belows_drewN ?_ _ | with_reducible refine Below.drew ?_ | with_reducible refine Below.setCell ?_ ?_ _ | with_reducible refine Below.alloc ?_ ?_ _ | omega | (simp; done) | (simp; omega))).mono ?_; rintro e w2 ⟨rfl, hb2⟩; obtain ⟨bC, bM, hz1, B1⟩ := boxes2 hb2))
    all_goals go_ret
    all_goals exact ⟨rfl, (by repeat' first | with_reducible exact Below.refl _ _ | with_reducible assumption | with_reducible refine belows_drewN ?_ _ | with_reducible refine Below.drew ?_ | with_reducible refine Below.setCell ?_ ?_ _ | with_reducible refine Below.alloc ?_ ?_ _ | omega | (simp; done) | (simp; omega))⟩
  rotate_left 5
  · obtain rfl : r = false := by rw [hr]; simp [hne]
    rw [decide_eq_false hne] at HE
    have HE := hid HE
    clear hr HH hne
    go_enter Tryz.func75, Tryz.ntmps75
    go_wp2_with (go_at_call 19; refine (HE.out _ (by repeat' first | with_reducible exact Below.refl _ _ | with_reducible assumption | with_reducible refine belows_drewN ?_ _ | with_reducible refine Below.drew ?_ | with_reducible refine Below.setCell ?_ ?_ _ | with_reducible refine Below.alloc ?_ ?_ _ | omega | (simp; done) | (simp; omega))).mono ?_; rintro e w1 ⟨rfl, rfl⟩)
    all_goals go_ret
    all_goals exact ⟨rfl, (by repeat' first | with_reducible exact Below.refl _ _ | with_reducible assumption | with_reducible refine belows_drewN ?_ _ | with_reducible refine Below.drew ?_ | with_reducible refine Below.setCell ?_ ?_ _ | with_reducible refine Below.alloc ?_ ?_ _ | omega | (simp; done) | (simp; omega))⟩
  · obtain rfl : r = false := by rw [hr]; simp [hne]
    rw [decide_eq_true rfl] at HE
    rw [decide_eq_false hne] at HH
    have HE := hid HE
    have HH := hid HH
    clear hr hne
    go_enter Tryz.func75, Tryz.ntmps75
    go_wp2_with (first | (go_at_call 19; refine (HE.out _ (by repeat' first | with_reducible exact Below.refl _ _ | with_reducible assumption | with_reducible refine belows_drewN ?_ _ | with_reducible refine Below.drew ?_ | with_reducible refine Below.setCell ?_ ?_ _ | with_reducible refine Below.alloc ?_ ?_ _ | omega | (simp; done) | (simp; omega))).mono ?_; rintro e w1 ⟨rfl, rfl⟩) | (go_at_call 127; refine (HH.out _ (by repeat' first | with_reducible exact Below.refl _ _ | with_reducible assumption | with_reducible refine belows_drewN ?_ _ | with_reducible refine Below.drew ?_ | with_reducible refine Below.setCell ?_ ?_ _ | with_reducible refine Below.alloc ?_ ?_ _ | omega | (simp; done) | (simp; omega))).mono ?_; rintro e w2 ⟨rfl, hb2⟩; obtain ⟨bC, bM, hz1, B1⟩ := boxes2 hb2))
    all_goals go_ret
    all_goals exact ⟨rfl, (by repeat' first | with_reducible exact Below.refl _ _ | with_reducible assumption | with_reducible refine belows_drewN ?_ _ | with_reducible refine Below.drew ?_ | with_reducible refine Below.setCell ?_ ?_ _ | with_reducible refine Below.alloc ?_ ?_ _ | omega | (simp; done) | (simp; omega))⟩
  all_goals
    obtain rfl : r = false := by rw [hr]; simp [hne]
    clear hr HE HH
    go_enter Tryz.func75, Tryz.ntmps75
    go_wp2
    all_goals go_ret
    all_goals exact ⟨rfl, (by repeat' first | with_reducible exact Below.refl _ _ | with_reducible assumption | with_reducible refine belows_drewN ?_ _ | with_reducible refine Below.drew ?_ | with_reducible refine Below.setCell ?_ ?_ _ | with_reducible refine Below.alloc ?_ ?_ _ | omega | (simp; done) | (simp; omega))⟩
def smFn : Value := .func (.func 75) #[] #[]
set_option maxRecDepth 100000 in
set_option maxHeartbeats 2000000 in
theorem equalM_any (ms ns : List Cf.Mb) (v u : Value) (w : World) (hv : MsR w v ms) (hu : MsR w u ns) :
    Calls Tryz.prog 74 #[v, u, smFn] w fun e w' => e = .returned (.bool (decide (ms = ns))) ∧ Below w.heap.size w w' := by
  unfold smFn
  by_cases hlen2 : ms.length = ns.length
  · have HV := hid hv
    have HU := hid hu
    obtain ⟨a1, cap1, hv2⟩ := hv.len
    obtain ⟨a2, cap2, hu2⟩ := hu.len
    rw [← hlen2] at hu2
    subst hv2 hu2
    have hlen := hv.size
    obtain ⟨r, hr⟩ : ∃ r, r = decide (ms = ns) := ⟨_, rfl⟩
    rw [← hr]
    have HR := hid hr
    have HL2 := hid hlen2
    clear hv hu hr hlen2
    go_enter Tryz.func74, Tryz.ntmps74
    go_wp2
    go_loopw [17] (fun i wr => ∃ k : Nat, k ≤ ms.length ∧ i = .int .i64 k ∧ Hid (ms.take k = ns.take k) ∧ Below w.heap.size w wr) (fun i _ => ms.length - (intOf i).toNat)
    case atStart => exact ⟨0, by omega, rfl, rfl, (by repeat' first | with_reducible exact Below.refl _ _ | with_reducible assumption | with_reducible refine belows_drewN ?_ _ | with_reducible refine Below.drew ?_ | with_reducible refine Below.setCell ?_ ?_ _ | with_reducible refine Below.alloc ?_ ?_ _ | omega | (simp; done) | (simp; omega))⟩
    case round =>
      obtain ⟨k, hk, rfl, htk, hbl⟩ := hrel
      have hbz := hbl.size
      by_cases hlt : k < ms.length
      · obtain ⟨x, hx⟩ : ∃ x, ms[k]? = some x := ⟨ms[k], List.getElem?_eq_getElem hlt⟩
        obtain ⟨y, hy⟩ : ∃ y, ns[k]? = some y := ⟨ns[k]'(by rw [← HL2.out]; exact hlt), List.getElem?_eq_getElem _⟩
        obtain ⟨b, o, cap', cv, hw, hv2, hbb, hB, hH, hcl, c0, c1, c2, c3, c4, c5, c6⟩ := (HV.out.below hbl (Nat.le_refl _)).at hx
        obtain ⟨b2, o2, cap2', cv2, hw2, hu2, hbb2, hB2, hH2, -, d0, d1, d2, d3, d4, d5, d6⟩ := (HU.out.below hbl (Nat.le_refl _)).at hy
        obtain ⟨rfl, -, rfl⟩ := Value.slice.inj hv2
        obtain ⟨rfl, -, rfl⟩ := Value.slice.inj hu2
        have hki : (k : Int) < (ms.length : Int) := by omega
        have HSm' := fun W (q : Below wr.heap.size wr W) => sameMember_any x y cv hw cv2 hw2 W ((hB.below q (Nat.le_refl _)).mono q.size) (hH.below q (Nat.le_refl _)) ((hB2.below q (Nat.le_refl _)).mono q.size) (hH2.below q (Nat.le_refl _))
        unfold mbV at HSm'
        obtain ⟨xa, xc, rfl⟩ := hB.len
        obtain ⟨ya, yc, rfl⟩ := hH.len
        obtain ⟨xa2, xc2, rfl⟩ := hB2.len
        obtain ⟨ya2, yc2, rfl⟩ := hH2.len
        by_cases hxy : x = y
        · subst hxy
          have hnext := hid (take_step htk.out hx hy)
          rw [decide_eq_true rfl] at HSm'
          have HSm := hid HSm'
          clear hx hy hv2 hu2 hB hH hB2 hH2 hcl HSm'
          go_wp2_with (go_at_call 75; refine (HSm.out _ (by repeat' first | with_reducible exact Below.refl _ _ | with_reducible assumption | with_reducible refine belows_drewN ?_ _ | with_reducible refine Below.drew ?_ | with_reducible refine Below.setCell ?_ ?_ _ | with_reducible refine Below.alloc ?_ ?_ _ | omega | (simp; done) | (simp; omega))).mono ?_; rintro e W8 ⟨rfl, hb8⟩; have B8 : Below wr.heap.size wr W8 := belows (B := wr.heap.size) (a := wr) (by repeat' first | with_reducible exact Below.refl _ _ | with_reducible assumption | with_reducible refine belows_drewN ?_ _ | with_reducible refine Below.drew ?_ | with_reducible refine Below.setCell ?_ ?_ _ | with_reducible refine Below.alloc ?_ ?_ _ | omega | (simp; done) | (simp; omega)) hb8 (by simp only [World.size_alloc, World.size_setCell]; omega))
          go_roundw
          case rel => exact ⟨k + 1, by omega, by go_num, hnext, belows hbl B8 hbz⟩
          case measure => simp [intOf]; omega
        · have HF := hid (HR.out.trans (ne_at hx hy hxy))
          rw [decide_eq_false hxy] at HSm'
          have HSm := hid HSm'
          clear hx hy hv2 hu2 hB hH hB2 hH2 hcl HSm' hxy
          go_wp2_with (go_at_call 75; refine (HSm.out _ (by repeat' first | with_reducible exact Below.refl _ _ | with_reducible assumption | with_reducible refine belows_drewN ?_ _ | with_reducible refine Below.drew ?_ | with_reducible refine Below.setCell ?_ ?_ _ | with_reducible refine Below.alloc ?_ ?_ _ | omega | (simp; done) | (simp; omega))).mono ?_; rintro e W8 ⟨rfl, hb8⟩; have B8 : Below wr.heap.size wr W8 := belows (B := wr.heap.size) (a := wr) (by repeat' first | with_reducible exact Below.refl _ _ | with_reducible assumption | with_reducible refine belows_drewN ?_ _ | with_reducible refine Below.drew ?_ | with_reducible refine Below.setCell ?_ ?_ _ | with_reducible refine Below.alloc ?_ ?_ _ | omega | (simp; done) | (simp; omega)) hb8 (by simp only [World.size_alloc, World.size_setCell]; omega))
          go_ret
          exact ⟨by rw [HF.out]; rfl, belows hbl B8 hbz⟩
      · obtain rfl : k = ms.length := by omega
        have HF : Hid (r = true) := by
          show r = true
          rw [HR.out, decide_eq_true_iff]
          have := htk.out
          rwa [List.take_length, HL2.out, List.take_length] at this
        go_wp2
        go_ret
        exact ⟨by rw [HF.out]; rfl, (by repeat' first | with_reducible exact Below.refl _ _ | with_reducible assumption | with_reducible refine belows_drewN ?_ _ | with_reducible refine Below.drew ?_ | with_reducible refine Below.setCell ?_ ?_ _ | with_reducible refine Below.alloc ?_ ?_ _ | omega | (simp; done) | (simp; omega))⟩
  · obtain ⟨a1, cap1, hv2⟩ := hv.len
    obtain ⟨a2, cap2, hu2⟩ := hu.len
    subst hv2 hu2
    have hd : ((ms.length : Int) != (ns.length : Int)) = true := by simp; omega
    rw [decide_eq_false (fun e => hlen2 (by rw [e]))]
    clear hv hu hlen2
    go_enter Tryz.func74, Tryz.ntmps74
    go_wp2
    go_ret
    exact ⟨rfl, (by repeat' first | with_reducible exact Below.refl _ _ | with_reducible assumption | with_reducible refine belows_drewN ?_ _ | with_reducible refine Below.drew ?_ | with_reducible refine Below.setCell ?_ ?_ _ | with_reducible refine Below.alloc ?_ ?_ _ | omega | (simp; done) | (simp; omega))⟩
end Go.Proofs.YtjnjnfhboafcgaaGreatDoor
namespace Go.Proofs.YtjnjnfhboafcgaaGreatDoor
open Go.RowKit

/-- Two classes that differ. -/
theorem two_cl {x y : Cf.Cl} (h : x ≠ y) : (¬ x.mi = y.mi) ∨ (x.mi = y.mi ∧ ¬ x.ma = y.ma) ∨ (x.mi = y.mi ∧ x.ma = y.ma ∧ ¬ x.ac = y.ac) ∨ (x.mi = y.mi ∧ x.ma = y.ma ∧ x.ac = y.ac ∧ ¬ x.th = y.th) ∨ (x.mi = y.mi ∧ x.ma = y.ma ∧ x.ac = y.ac ∧ x.th = y.th ∧ ¬ x.su = y.su) ∨ (x.mi = y.mi ∧ x.ma = y.ma ∧ x.ac = y.ac ∧ x.th = y.th ∧ x.su = y.su ∧ ¬ x.pool = y.pool) ∨ (x.mi = y.mi ∧ x.ma = y.ma ∧ x.ac = y.ac ∧ x.th = y.th ∧ x.su = y.su ∧ x.pool = y.pool ∧ ¬ x.fs = y.fs) ∨ (x.mi = y.mi ∧ x.ma = y.ma ∧ x.ac = y.ac ∧ x.th = y.th ∧ x.su = y.su ∧ x.pool = y.pool ∧ x.fs = y.fs ∧ ¬ x.ms = y.ms) := by
  obtain ⟨a1, a2, a6, a3, a4, a5, a7, a8⟩ := x
  obtain ⟨b1, b2, b6, b3, b4, b5, b7, b8⟩ := y
  dsimp only
  by_cases e1 : a1 = b1
  · by_cases e2 : a2 = b2
    · by_cases e3 : a3 = b3
      · by_cases e4 : a4 = b4
        · by_cases e5 : a5 = b5
          · by_cases e6 : a6 = b6
            · by_cases e7 : a7 = b7
              · exact .inr (.inr (.inr (.inr (.inr (.inr (.inr (⟨e1, e2, e3, e4, e5, e6, e7, fun e8 => h (by rw [e1, e2, e3, e4, e5, e6, e7, e8])⟩)))))))
              · exact .inr (.inr (.inr (.inr (.inr (.inr (.inl ⟨e1, e2, e3, e4, e5, e6, e7⟩))))))
            · exact .inr (.inr (.inr (.inr (.inr (.inl ⟨e1, e2, e3, e4, e5, e6⟩)))))
          · exact .inr (.inr (.inr (.inr (.inl ⟨e1, e2, e3, e4, e5⟩))))
        · exact .inr (.inr (.inr (.inl ⟨e1, e2, e3, e4⟩)))
      · exact .inr (.inr (.inl ⟨e1, e2, e3⟩))
    · exact .inr (.inl ⟨e1, e2⟩)
  · exact .inl e1
set_option maxRecDepth 100000 in
set_option maxHeartbeats 2000000 in
theorem rsameG_any (x y : Cf.Cl) (vs us : Array Value) (w : World) (hv : ClR w vs x) (hu : ClR w us y) :
    Calls Tryz.prog 14 #[.agg vs, .agg us] w fun e w' => e = .returned (.bool (decide (x = y))) ∧ Below w.heap.size w w' := by
  obtain ⟨pv, fv, mv, rfl, hp, hf, hm⟩ := hv
  obtain ⟨qv, gv, nv, rfl, kp, kf, km⟩ := hu
  have HP' := fun W (k : Below w.heap.size w W) => rscG_any x.pool y.pool pv qv W (hp.below k (Nat.le_refl _)) (kp.below k (Nat.le_refl _))
  have HF' := fun W (k : Below w.heap.size w W) => rsmG_any x.fs y.fs fv gv W (hf.below k (Nat.le_refl _)) (kf.below k (Nat.le_refl _))
  have HM' := fun W (k : Below w.heap.size w W) => rsmG_any x.ms y.ms mv nv W (hm.below k (Nat.le_refl _)) (km.below k (Nat.le_refl _))
  obtain ⟨pa, pc, rfl⟩ := hp.len
  obtain ⟨fa, fc, rfl⟩ := hf.len
  obtain ⟨ma2, mc, rfl⟩ := hm.len
  obtain ⟨pa', pc', rfl⟩ := kp.len
  obtain ⟨fa', fc', rfl⟩ := kf.len
  obtain ⟨ma2', mc', rfl⟩ := km.len
  clear hp hf hm kp kf km
  obtain ⟨r, hr⟩ : ∃ r, r = decide (x = y) := ⟨_, rfl⟩
  rw [← hr]
  have hc : (x = y) ∨ _ := (Decidable.em (x = y)).imp id two_cl
  obtain ⟨mi, ma, P, ac, th, su, fs, ms⟩ := x
  obtain ⟨mi', ma', P', ac', th', su', fs', ms'⟩ := y
  dsimp only at hc HP' HF' HM' ⊢
  rcases hc with hc | hne | ⟨rfl, hne⟩ | ⟨rfl, rfl, hne⟩ | ⟨rfl, rfl, rfl, hne⟩ | ⟨rfl, rfl, rfl, rfl, hne⟩ | ⟨rfl, rfl, rfl, rfl, rfl, hne⟩ | ⟨rfl, rfl, rfl, rfl, rfl, rfl, hne⟩ | ⟨rfl, rfl, rfl, rfl, rfl, rfl, rfl, hne⟩
  · cases hc
    obtain rfl : r = true := by rw [hr]; simp
    rw [decide_eq_true rfl] at HP' HF' HM'
    have HP := hid HP'
    have HF := hid HF'
    have HM := hid HM'
    clear hr HP' HF' HM'
    go_enter Tryz.func14, Tryz.ntmps14
    go_wp2_with (first | (go_at_call 42; refine (HP.out _ (by repeat' first | with_reducible exact Below.refl _ _ | with_reducible assumption | with_reducible refine belows_drewN ?_ _ | with_reducible refine Below.drew ?_ | with_reducible refine Below.setCell ?_ ?_ _ | with_reducible refine Below.alloc ?_ ?_ _ | omega | (simp; done) | (simp; omega))).mono ?_; rintro e w1 ⟨rfl, hb1⟩; obtain ⟨bC, bD, hz1, B1⟩ := boxes2 hb1; have q6 := bC.cell 6; have r6 := bD.cell 6; have q7 := bC.cell 7; have r7 := bD.cell 7; simp at q6 q7 r6 r7; have bC1 := bC; have bD1 := bD; clear hb1) | (go_at_call 43; have _g := B2; refine (HM.out _ B2).mono ?_; rintro e w3 ⟨rfl, hb3⟩; have B3 := belows B2 hb3 B2.size) | (go_at_call 43; refine (HF.out _ B1).mono ?_; rintro e w2 ⟨rfl, hb2⟩; have B2 := belows B1 hb2 B1.size; have bC := bC1.below hb2 bC1.sz; have bD := bD1.below hb2 bD1.sz; have q7 := bC.cell 7; have r7 := bD.cell 7; simp at q7 r7))
    all_goals go_ret
    all_goals exact ⟨rfl, by first | exact B3 | exact B2 | exact B1⟩
  rotate_left 5
  · obtain rfl : r = false := by rw [hr]; simp [hne]
    rw [decide_eq_false hne] at HP'
    have HP := hid HP'
    have HF := hid HF'
    have HM := hid HM'
    clear hr HP' HF' HM' hne
    go_enter Tryz.func14, Tryz.ntmps14
    go_wp2_with (first | (go_at_call 42; refine (HP.out _ (by repeat' first | with_reducible exact Below.refl _ _ | with_reducible assumption | with_reducible refine belows_drewN ?_ _ | with_reducible refine Below.drew ?_ | with_reducible refine Below.setCell ?_ ?_ _ | with_reducible refine Below.alloc ?_ ?_ _ | omega | (simp; done) | (simp; omega))).mono ?_; rintro e w1 ⟨rfl, hb1⟩; obtain ⟨bC, bD, hz1, B1⟩ := boxes2 hb1; have q6 := bC.cell 6; have r6 := bD.cell 6; have q7 := bC.cell 7; have r7 := bD.cell 7; simp at q6 q7 r6 r7; have bC1 := bC; have bD1 := bD; clear hb1) | (go_at_call 43; have _g := B2; refine (HM.out _ B2).mono ?_; rintro e w3 ⟨rfl, hb3⟩; have B3 := belows B2 hb3 B2.size) | (go_at_call 43; refine (HF.out _ B1).mono ?_; rintro e w2 ⟨rfl, hb2⟩; have B2 := belows B1 hb2 B1.size; have bC := bC1.below hb2 bC1.sz; have bD := bD1.below hb2 bD1.sz; have q7 := bC.cell 7; have r7 := bD.cell 7; simp at q7 r7))
    all_goals go_ret
    all_goals exact ⟨rfl, B1⟩
  · obtain rfl : r = false := by rw [hr]; simp [hne]
    rw [decide_eq_true rfl] at HP'
    rw [decide_eq_false hne] at HF'
    have HP := hid HP'
    have HF := hid HF'
    have HM := hid HM'
    clear hr HP' HF' HM' hne
    go_enter Tryz.func14, Tryz.ntmps14
    go_wp2_with (first | (go_at_call 42; refine (HP.out _ (by repeat' first | with_reducible exact Below.refl _ _ | with_reducible assumption | with_reducible refine belows_drewN ?_ _ | with_reducible refine Below.drew ?_ | with_reducible refine Below.setCell ?_ ?_ _ | with_reducible refine Below.alloc ?_ ?_ _ | omega | (simp; done) | (simp; omega))).mono ?_; rintro e w1 ⟨rfl, hb1⟩; obtain ⟨bC, bD, hz1, B1⟩ := boxes2 hb1; have q6 := bC.cell 6; have r6 := bD.cell 6; have q7 := bC.cell 7; have r7 := bD.cell 7; simp at q6 q7 r6 r7; have bC1 := bC; have bD1 := bD; clear hb1) | (go_at_call 43; have _g := B2; refine (HM.out _ B2).mono ?_; rintro e w3 ⟨rfl, hb3⟩; have B3 := belows B2 hb3 B2.size) | (go_at_call 43; refine (HF.out _ B1).mono ?_; rintro e w2 ⟨rfl, hb2⟩; have B2 := belows B1 hb2 B1.size; have bC := bC1.below hb2 bC1.sz; have bD := bD1.below hb2 bD1.sz; have q7 := bC.cell 7; have r7 := bD.cell 7; simp at q7 r7))
    all_goals go_ret
    all_goals exact ⟨rfl, B2⟩
  · obtain rfl : r = false := by rw [hr]; simp [hne]
    rw [decide_eq_true rfl] at HP'
    rw [decide_eq_true rfl] at HF'
    rw [decide_eq_false hne] at HM'
    have HP := hid HP'
    have HF := hid HF'
    have HM := hid HM'
    clear hr HP' HF' HM' hne
    go_enter Tryz.func14, Tryz.ntmps14
    go_wp2_with (first | (go_at_call 42; refine (HP.out _ (by repeat' first | with_reducible exact Below.refl _ _ | with_reducible assumption | with_reducible refine belows_drewN ?_ _ | with_reducible refine Below.drew ?_ | with_reducible refine Below.setCell ?_ ?_ _ | with_reducible refine Below.alloc ?_ ?_ _ | omega | (simp; done) | (simp; omega))).mono ?_; rintro e w1 ⟨rfl, hb1⟩; obtain ⟨bC, bD, hz1, B1⟩ := boxes2 hb1; have q6 := bC.cell 6; have r6 := bD.cell 6; have q7 := bC.cell 7; have r7 := bD.cell 7; simp at q6 q7 r6 r7; have bC1 := bC; have bD1 := bD; clear hb1) | (go_at_call 43; have _g := B2; refine (HM.out _ B2).mono ?_; rintro e w3 ⟨rfl, hb3⟩; have B3 := belows B2 hb3 B2.size) | (go_at_call 43; refine (HF.out _ B1).mono ?_; rintro e w2 ⟨rfl, hb2⟩; have B2 := belows B1 hb2 B1.size; have bC := bC1.below hb2 bC1.sz; have bD := bD1.below hb2 bD1.sz; have q7 := bC.cell 7; have r7 := bD.cell 7; simp at q7 r7))
    all_goals go_ret
    all_goals exact ⟨rfl, B3⟩
  all_goals
    obtain rfl : r = false := by rw [hr]; simp [hne]
    clear hr HP' HF' HM'
    go_enter Tryz.func14, Tryz.ntmps14
    go_wp2
    all_goals go_ret
    all_goals exact ⟨rfl, (by repeat' first | with_reducible exact Below.refl _ _ | with_reducible assumption | with_reducible refine belows_drewN ?_ _ | with_reducible refine Below.drew ?_ | with_reducible refine Below.setCell ?_ ?_ _ | with_reducible refine Below.alloc ?_ ?_ _ | omega | (simp; done) | (simp; omega))⟩
set_option maxRecDepth 100000 in
set_option maxHeartbeats 2000000 in
theorem sameG_any (x y : Cf.Cl) (vs us : Array Value) (w : World) (hv : ClR w vs x) (hu : ClR w us y) :
    Calls Tryz.prog 32 #[.agg vs, .agg us] w fun e w' => e = .returned (.bool (decide (x = y))) ∧ Below w.heap.size w w' := by
  obtain ⟨pv, fv, mv, rfl, hp, hf, hm⟩ := hv
  obtain ⟨qv, gv, nv, rfl, kp, kf, km⟩ := hu
  have HP' := fun W (k : Below w.heap.size w W) => equalC_any x.pool y.pool pv qv W (hp.below k (Nat.le_refl _)) (kp.below k (Nat.le_refl _))
  have HF' := fun W (k : Below w.heap.size w W) => equalM_any x.fs y.fs fv gv W (hf.below k (Nat.le_refl _)) (kf.below k (Nat.le_refl _))
  have HM' := fun W (k : Below w.heap.size w W) => equalM_any x.ms y.ms mv nv W (hm.below k (Nat.le_refl _)) (km.below k (Nat.le_refl _))
  obtain ⟨pa, pc, rfl⟩ := hp.len
  obtain ⟨fa, fc, rfl⟩ := hf.len
  obtain ⟨ma2, mc, rfl⟩ := hm.len
  obtain ⟨pa', pc', rfl⟩ := kp.len
  obtain ⟨fa', fc', rfl⟩ := kf.len
  obtain ⟨ma2', mc', rfl⟩ := km.len
  clear hp hf hm kp kf km
  obtain ⟨r, hr⟩ : ∃ r, r = decide (x = y) := ⟨_, rfl⟩
  rw [← hr]
  have hc : (x = y) ∨ _ := (Decidable.em (x = y)).imp id two_cl
  obtain ⟨mi, ma, P, ac, th, su, fs, ms⟩ := x
  obtain ⟨mi', ma', P', ac', th', su', fs', ms'⟩ := y
  dsimp only at hc HP' HF' HM' ⊢
  rcases hc with hc | hne | ⟨rfl, hne⟩ | ⟨rfl, rfl, hne⟩ | ⟨rfl, rfl, rfl, hne⟩ | ⟨rfl, rfl, rfl, rfl, hne⟩ | ⟨rfl, rfl, rfl, rfl, rfl, hne⟩ | ⟨rfl, rfl, rfl, rfl, rfl, rfl, hne⟩ | ⟨rfl, rfl, rfl, rfl, rfl, rfl, rfl, hne⟩
  · cases hc
    obtain rfl : r = true := by rw [hr]; simp
    rw [decide_eq_true rfl] at HP' HF' HM'
    have HP := hid HP'
    have HF := hid HF'
    have HM := hid HM'
    clear hr HP' HF' HM'
    go_enter Tryz.func32, Tryz.ntmps32
    go_wp2_with (first | (go_at_call 73; refine (HP.out _ (by repeat' first | with_reducible exact Below.refl _ _ | with_reducible assumption | with_reducible refine belows_drewN ?_ _ | with_reducible refine Below.drew ?_ | with_reducible refine Below.setCell ?_ ?_ _ | with_reducible refine Below.alloc ?_ ?_ _ | omega | (simp; done) | (simp; omega))).mono ?_; rintro e w1 ⟨rfl, hb1⟩; obtain ⟨bC, bD, hz1, B1⟩ := boxes2 hb1; have q6 := bC.cell 6; have r6 := bD.cell 6; have q7 := bC.cell 7; have r7 := bD.cell 7; simp at q6 q7 r6 r7; have bC1 := bC; have bD1 := bD; clear hb1) | (go_at_call 74; have _g := B2; refine (HM.out _ B2).mono ?_; rintro e w3 ⟨rfl, hb3⟩; have B3 := belows B2 hb3 B2.size) | (go_at_call 74; refine (HF.out _ B1).mono ?_; rintro e w2 ⟨rfl, hb2⟩; have B2 := belows B1 hb2 B1.size; have bC := bC1.below hb2 bC1.sz; have bD := bD1.below hb2 bD1.sz; have q7 := bC.cell 7; have r7 := bD.cell 7; simp at q7 r7))
    all_goals go_ret
    all_goals exact ⟨rfl, by first | exact B3 | exact B2 | exact B1⟩
  rotate_left 5
  · obtain rfl : r = false := by rw [hr]; simp [hne]
    rw [decide_eq_false hne] at HP'
    have HP := hid HP'
    have HF := hid HF'
    have HM := hid HM'
    clear hr HP' HF' HM' hne
    go_enter Tryz.func32, Tryz.ntmps32
    go_wp2_with (first | (go_at_call 73; refine (HP.out _ (by repeat' first | with_reducible exact Below.refl _ _ | with_reducible assumption | with_reducible refine belows_drewN ?_ _ | with_reducible refine Below.drew ?_ | with_reducible refine Below.setCell ?_ ?_ _ | with_reducible refine Below.alloc ?_ ?_ _ | omega | (simp; done) | (simp; omega))).mono ?_; rintro e w1 ⟨rfl, hb1⟩; obtain ⟨bC, bD, hz1, B1⟩ := boxes2 hb1; have q6 := bC.cell 6; have r6 := bD.cell 6; have q7 := bC.cell 7; have r7 := bD.cell 7; simp at q6 q7 r6 r7; have bC1 := bC; have bD1 := bD; clear hb1) | (go_at_call 74; have _g := B2; refine (HM.out _ B2).mono ?_; rintro e w3 ⟨rfl, hb3⟩; have B3 := belows B2 hb3 B2.size) | (go_at_call 74; refine (HF.out _ B1).mono ?_; rintro e w2 ⟨rfl, hb2⟩; have B2 := belows B1 hb2 B1.size; have bC := bC1.below hb2 bC1.sz; have bD := bD1.below hb2 bD1.sz; have q7 := bC.cell 7; have r7 := bD.cell 7; simp at q7 r7))
    all_goals go_ret
    all_goals exact ⟨rfl, B1⟩
  · obtain rfl : r = false := by rw [hr]; simp [hne]
    rw [decide_eq_true rfl] at HP'
    rw [decide_eq_false hne] at HF'
    have HP := hid HP'
    have HF := hid HF'
    have HM := hid HM'
    clear hr HP' HF' HM' hne
    go_enter Tryz.func32, Tryz.ntmps32
    go_wp2_with (first | (go_at_call 73; refine (HP.out _ (by repeat' first | with_reducible exact Below.refl _ _ | with_reducible assumption | with_reducible refine belows_drewN ?_ _ | with_reducible refine Below.drew ?_ | with_reducible refine Below.setCell ?_ ?_ _ | with_reducible refine Below.alloc ?_ ?_ _ | omega | (simp; done) | (simp; omega))).mono ?_; rintro e w1 ⟨rfl, hb1⟩; obtain ⟨bC, bD, hz1, B1⟩ := boxes2 hb1; have q6 := bC.cell 6; have r6 := bD.cell 6; have q7 := bC.cell 7; have r7 := bD.cell 7; simp at q6 q7 r6 r7; have bC1 := bC; have bD1 := bD; clear hb1) | (go_at_call 74; have _g := B2; refine (HM.out _ B2).mono ?_; rintro e w3 ⟨rfl, hb3⟩; have B3 := belows B2 hb3 B2.size) | (go_at_call 74; refine (HF.out _ B1).mono ?_; rintro e w2 ⟨rfl, hb2⟩; have B2 := belows B1 hb2 B1.size; have bC := bC1.below hb2 bC1.sz; have bD := bD1.below hb2 bD1.sz; have q7 := bC.cell 7; have r7 := bD.cell 7; simp at q7 r7))
    all_goals go_ret
    all_goals exact ⟨rfl, B2⟩
  · obtain rfl : r = false := by rw [hr]; simp [hne]
    rw [decide_eq_true rfl] at HP'
    rw [decide_eq_true rfl] at HF'
    rw [decide_eq_false hne] at HM'
    have HP := hid HP'
    have HF := hid HF'
    have HM := hid HM'
    clear hr HP' HF' HM' hne
    go_enter Tryz.func32, Tryz.ntmps32
    go_wp2_with (first | (go_at_call 73; refine (HP.out _ (by repeat' first | with_reducible exact Below.refl _ _ | with_reducible assumption | with_reducible refine belows_drewN ?_ _ | with_reducible refine Below.drew ?_ | with_reducible refine Below.setCell ?_ ?_ _ | with_reducible refine Below.alloc ?_ ?_ _ | omega | (simp; done) | (simp; omega))).mono ?_; rintro e w1 ⟨rfl, hb1⟩; obtain ⟨bC, bD, hz1, B1⟩ := boxes2 hb1; have q6 := bC.cell 6; have r6 := bD.cell 6; have q7 := bC.cell 7; have r7 := bD.cell 7; simp at q6 q7 r6 r7; have bC1 := bC; have bD1 := bD; clear hb1) | (go_at_call 74; have _g := B2; refine (HM.out _ B2).mono ?_; rintro e w3 ⟨rfl, hb3⟩; have B3 := belows B2 hb3 B2.size) | (go_at_call 74; refine (HF.out _ B1).mono ?_; rintro e w2 ⟨rfl, hb2⟩; have B2 := belows B1 hb2 B1.size; have bC := bC1.below hb2 bC1.sz; have bD := bD1.below hb2 bD1.sz; have q7 := bC.cell 7; have r7 := bD.cell 7; simp at q7 r7))
    all_goals go_ret
    all_goals exact ⟨rfl, B3⟩
  all_goals
    obtain rfl : r = false := by rw [hr]; simp [hne]
    clear hr HP' HF' HM'
    go_enter Tryz.func32, Tryz.ntmps32
    go_wp2
    all_goals go_ret
    all_goals exact ⟨rfl, (by repeat' first | with_reducible exact Below.refl _ _ | with_reducible assumption | with_reducible refine belows_drewN ?_ _ | with_reducible refine Below.drew ?_ | with_reducible refine Below.setCell ?_ ?_ _ | with_reducible refine Below.alloc ?_ ?_ _ | omega | (simp; done) | (simp; omega))⟩
end Go.Proofs.YtjnjnfhboafcgaaGreatDoor

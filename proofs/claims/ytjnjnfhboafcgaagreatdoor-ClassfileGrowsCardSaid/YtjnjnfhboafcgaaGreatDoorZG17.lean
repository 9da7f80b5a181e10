/- Own texts for the claim, part 17. -/
import Derived.Test.YtjnjnfhboafcgaaGreatDoorZG16
import Derived.Deep.RegionHeld3
namespace Go.Proofs.YtjnjnfhboafcgaaGreatDoor
open Go.RowKit

theorem own_app {w : World} {base k : Nat} {v : Value} {l ns : List Int} {news : List Value} (hn : news = ns.map (Value.int .u8)) (hk : k = ns.length) (h : w.ownsRow base 5 1 v (l.length + k) (l.map (Value.int .u8) ++ news)) : L3.OwnI w base v (l ++ ns) := by
  subst hn hk
  unfold L3.OwnI
  rw [List.length_append, List.map_append]
  exact h
theorem cB_vals (l : List UInt8) : l.map L3.bv = (Cf.cB l).map (Value.int .u8) := by
  unfold Cf.cB
  rw [List.map_map]
  rfl
theorem ones_i (l : List Int) : ∀ u ∈ l.map (Value.int .u8), u.oneCell' = true := by
  intro u hu
  rw [List.mem_map] at hu
  obtain ⟨z, -, rfl⟩ := hu
  rfl
/-- Bytes of which there is one at least: where they lie. -/
theorem bs_some {lim : Nat} {w : World} {v : Value} {bs : List UInt8} (h : L3.Bs lim w v bs) (hn : 0 < bs.length) : ∃ b o cap, v = .slice (some ⟨b, o, none⟩) bs.length cap ∧ b < lim ∧ ∀ j u, (bs.map L3.bv)[j]? = some u → w.cell? ⟨b, o + j, none⟩ = some u := by
  rcases h.2 with ⟨rfl, -⟩ | ⟨b, o, cap, rfl, -, hb, hc⟩
  · simp at hn
  · refine ⟨b, o, cap, rfl, hb, fun j u hj => ?_⟩
    rw [List.getElem?_map, Option.map_eq_some_iff] at hj
    obtain ⟨c, hc2, rfl⟩ := hj
    exact hc j c hc2
/-- A row of bytes of which there is one at least. -/
theorem own_some {w : World} {base : Nat} {v : Value} {l : List Int} (h : L3.OwnI w base v l) (hn : 0 < l.length) : ∃ g cap, v = .slice (some ⟨g, 0, none⟩) l.length cap ∧ g < w.heap.size ∧ ∀ j u, (l.map (Value.int .u8))[j]? = some u → w.cell? ((⟨g, 0, none⟩ : Addr).add j) = some u := by
  rcases h.2 with ⟨rfl, h2⟩ | ⟨g, cap, cur, rfl, hg, hh, -⟩
  · omega
  · exact ⟨g, cap, rfl, (Array.getElem?_eq_some_iff.1 hh).1, fun j u hj => h.cells (g := g) rfl j u hj⟩
theorem add_at (b o j : Nat) : (⟨b, o, none⟩ : Addr).add j = ⟨b, o + j, none⟩ := Go.WideShapes.add_plain b o j
theorem attr_parts (m : Cf.Mb) : ([] ++ [m.st, m.lc].flatMap Cf.w2 ++ Cf.w4 m.code.length ++ Cf.cB m.code ++ Cf.w2 m.hs.length ++ m.hs.flatMap Cf.hnB) ++ [0].flatMap Cf.w2 = Cf.attrB m := by
  unfold Cf.attrB
  simp [List.append_assoc]
theorem me_parts (l : List Int) (code : Nat) (m : Cf.Mb) : l ++ [m.ac, m.nm, m.ds, 1, (code : Int)].flatMap Cf.w2 ++ Cf.w4 (Cf.attrB m).length ++ Cf.attrB m = l ++ Cf.meB code m := by
  unfold Cf.meB
  simp [List.append_assoc]
/-- As WP, the list kept out of sight. -/
def WPo (w0 w : World) (v : Value) (l' : List Int) (e : Ending) (w' : World) : Prop := ∃ v' L, e = .returned v' ∧ Wr w0 w' v' L ∧ Hid (L = l') ∧ Kit.Grows w w' v v'
theorem wpo {f : FuncId} {args : Array Value} {w0 w wv : World} {v : Value} {l' : List Int} (h : Calls Tryz.prog f args wv (WP w0 w v l')) : Calls Tryz.prog f args wv (WPo w0 w v l') :=
  h.mono fun _ _ ⟨v', h1, h2, h3⟩ => ⟨v', l', h1, h2, rfl, h3⟩
theorem Wr.opq {w0 w : World} {v : Value} {l : List Int} (h : Wr w0 w v l) : ∃ L, Hid (L = l) ∧ Wr w0 w v L := ⟨l, rfl, h⟩
set_option maxRecDepth 100000 in
set_option maxHeartbeats 4000000 in
theorem wmethod_any (w0 : World) (v : Value) (l : List Int) (m : Cf.Mb) (cv hv : Value) (code : Nat) (w : World) (h : Wr w0 w v l) (hB : L3.Bs w0.heap.size w0 cv m.code) (hH : Kit.IsS 4 w0 hv m.hs.length (m.hs.flatMap hL)) (hc : 0 < m.code.length)
    (hl : l.length + 26 + m.code.length + 8 * m.hs.length ≤ 1099511627776) :
    Calls Tryz.prog 96 #[v, mbV m cv hv, .int .i64 (code : Nat)] w (WP w0 w v (l ++ Cf.meB code m)) := by
  obtain ⟨i0, hi, hz0, hz1, hz2⟩ := info_parts infoB
  obtain ⟨xb, xo, xc, rfl, hxb, hxc⟩ := bs_some hB hc
  obtain ⟨ya, yc, rfl⟩ := hH.len
  obtain ⟨va, vc, rfl⟩ := h.form
  have HW := hid h
  have HS := hid hH
  have HL := hid hl
  have HXC := hid hxc
  have HAt := hid (Cf.attr_len m)
  have HAp := hid (attr_parts m)
  have HMp := hid (me_parts l code m)
  obtain ⟨AL, hAL⟩ : ∃ L, L = Cf.attrB m := ⟨_, rfl⟩
  rw [← hAL] at HAt HAp HMp
  obtain ⟨ML, hML⟩ : ∃ L, L = l ++ Cf.meB code m := ⟨_, rfl⟩
  rw [← hML] at HMp ⊢
  clear hAL hML
  obtain ⟨ac, nm, ds, st, lc, co, hs9⟩ := m
  dsimp only at HS HL HXC HAt hc HAp HMp hl
  unfold mbV
  dsimp only
  have hcl : co.length ≤ 1099511627776 := by omega
  have hhl : hs9.length ≤ 1099511627776 := by omega
  clear h hB hH hl hxc
  go_enter Tryz.func96, Tryz.ntmps96
  go_wp2_with fail
  have bX := L3.BX.new w #[.int .i64 ac, .int .i64 nm, .int .i64 ds, .int .i64 st, .int .i64 lc, .slice (some ⟨xb, xo, none⟩) co.length xc, .slice ya hs9.length yc] 42
  have HW1 := hid (HW.out.alloc (.cells #[.int .i64 ac, .int .i64 nm, .int .i64 ds, .int .i64 st, .int .i64 lc, .slice (some ⟨xb, xo, none⟩) co.length xc, .slice ya hs9.length yc] 42))
  have hzW : (w.alloc (.cells #[.int .i64 ac, .int .i64 nm, .int .i64 ds, .int .i64 st, .int .i64 lc, .slice (some ⟨xb, xo, none⟩) co.length xc, .slice ya hs9.length yc] 42)).heap.size = w.heap.size + 1 := World.size_alloc _ _
  have G1 := hid ((Kit.Grows.refl w (.slice va l.length vc)).below ((Below.refl _ _).alloc (Nat.le_refl _) (.cells #[.int .i64 ac, .int .i64 nm, .int .i64 ds, .int .i64 st, .int .i64 lc, .slice (some ⟨xb, xo, none⟩) co.length xc, .slice ya hs9.length yc] 42)))
  obtain ⟨W1, hW1⟩ : ∃ W1, W1 = w.alloc (.cells #[.int .i64 ac, .int .i64 nm, .int .i64 ds, .int .i64 st, .int .i64 lc, .slice (some ⟨xb, xo, none⟩) co.length xc, .slice ya hs9.length yc] 42) := ⟨_, rfl⟩
  rw [← hW1] at bX HW1 hzW G1 ⊢
  rw [← hzW]
  have BX := hid bX
  have HS1 := hid (HS.out.below HW1.out.2 (Nat.le_refl _))
  clear hW1 bX
  (go_wp2_with (first | (go_at_call 90; have _g := HA5; have HB5 := HW1.out.below HA5.out.2; refine (wpo (wu2_k w0 _ l [ac, nm, ds, 1, (code : Int)] _ _ 5 5 _ _ HB5 rfl (by (have := HL.out; omega)) rfl rfl)).mono ?_; rintro e W6 ⟨v6, L6, rfl, h6, HL6, g6⟩; have ha := grows_owns g6 HA5.out.1 (fun k hk e9 => by (have q1 := Kit.own_base HA5.out.1 k hk; have q2 := Kit.own_lt HW1.out.1 k e9; omega)); have HA6 := hid ha; have G6 := hid ((G1.out.below HA5.out.2).trans g6); have HE6 := hid (show L6.length = l.length + 10 from by (rw [HL6.out, List.length_append]; rfl)); obtain ⟨a6, k6, c6, rfl⟩ := own_form3 h6.1; have HB6 := hid h6; clear h6 g6 ha HB5) | (go_at_call 90; have _g := HA4; (fail_if_success (have _g := HA5)); refine (wpo (wu2_k W1 _ _ [(0 : Int)] _ _ 1 1 _ _ HA4.out rfl (by (have := HE4.out; omega)) rfl rfl)).mono ?_; rintro e W5 ⟨v5, L5, rfl, h5, HL5, g5⟩; have hL5 : L5 = AL := (by (rw [HL5.out, HL4.out, HL3.out, HL2.out, HL1.out]; exact HAp.out)); subst hL5; obtain ⟨g, gc, rfl, hgl, -⟩ := own_some h5.1 (by (rw [HAt.out]; omega)); have HB9 := h5.2; have bX := BX.out.below HB9 BX.out.sz; have m0 := bX.cell 0; have m1 := bX.cell 1; have m2 := bX.cell 2; have m5 := bX.cell 5; have m6 := bX.cell 6; simp at m0 m1 m2 m5 m6; clear bX HB9; have HA5 := hid h5; clear h5 g5 hgl) | (go_at_call 90; (fail_if_success (have _g := HA1)); refine (wpo (wu2_k W1 _ [] [st, lc] _ _ 2 2 _ _ (Wr.nil W1 W1 (Below.refl _ _)) rfl (by decide) rfl rfl)).mono ?_; rintro e Wa ⟨v1, L1, rfl, h1, HL1, g1⟩; have HE1 := hid (show L1.length = 4 from by (rw [HL1.out]; rfl)); obtain ⟨a1, k1, c1, rfl⟩ := own_form3 h1.1; have HB9 := h1.2; have bX := BX.out.below HB9 BX.out.sz; have m0 := bX.cell 0; have m1 := bX.cell 1; have m2 := bX.cell 2; have m5 := bX.cell 5; have m6 := bX.cell 6; simp at m0 m1 m2 m5 m6; clear bX HB9; have HA1 := hid h1; clear h1 g1) | (go_at_call 89; have _g := HB6; refine (wpo (wu4_wr w0 _ _ _ _ HB6.out (by (have := HL.out; have := HE6.out; omega)))).mono ?_; rintro e W7 ⟨v7, L7, rfl, h7, HL7, g7⟩; have ha := grows_owns g7 HA6.out.1 HA6.out.2; have HA7 := hid ha; have G7 := hid (G6.out.trans g7); have HE7 := hid (show L7.length = l.length + 14 from by (have h9 := congrArg List.length HL7.out; rw [List.length_append, HE6.out, Cf.w4_len] at h9; omega)); obtain ⟨a7, k7, c7, rfl⟩ := own_form3 h7.1; have HB7 := hid h7; clear h7 g7 ha) | (go_at_call 89; (fail_if_success (have _g := HA2)); refine (wpo (wu4_wr W1 _ _ _ _ HA1.out (by (have := HE1.out; omega)))).mono ?_; rintro e W2 ⟨v2, L2, rfl, h2, HL2, g2⟩; have HE2 := hid (show L2.length = 8 from by (rw [HL2.out, List.length_append, HE1.out, Cf.w4_len])); obtain ⟨a2, k2, c2, rfl⟩ := own_form3 h2.1; have HB9 := h2.2; have bX := BX.out.below HB9 BX.out.sz; have m0 := bX.cell 0; have m1 := bX.cell 1; have m2 := bX.cell 2; have m5 := bX.cell 5; have m6 := bX.cell 6; simp at m0 m1 m2 m5 m6; clear bX HB9; have HA2 := hid h2; clear h2 g2) | (go_at_call 145; refine (wpo (whs_any W1 _ _ hs9 _ _ HA3.out HS1.out (by (have := HL.out; have := HE3.out; omega)))).mono ?_; rintro e W4 ⟨v4, L4, rfl, h4, HL4, g4⟩; have HE4 := hid (show L4.length = 10 + co.length + 8 * hs9.length from by (rw [HL4.out, List.length_append, List.length_append, HE3.out, Cf.w2_len, hns_len]; omega)); obtain ⟨a4, k4, c4, rfl⟩ := own_form3 h4.1; have HB9 := h4.2; have bX := BX.out.below HB9 BX.out.sz; have m0 := bX.cell 0; have m1 := bX.cell 1; have m2 := bX.cell 2; have m5 := bX.cell 5; have m6 := bX.cell 6; simp at m0 m1 m2 m5 m6; clear bX HB9; have HA4 := hid h4; clear h4 g4) | (at_builtin; have _g := HB7; refine wpList_append_own_at _ rfl (.tmp 44) (.tmp 45) 22 rfl w0.heap.size 5 i0 _ 1 1 Tryz.underlying22 hi hz0 hz1 hz2 rfl (by decide) _ _ _ rfl HB7.out.1 ⟨g, 0, none⟩ L5.length gc (L5.map (Value.int .u8)) rfl (by rw [List.length_map, Nat.mul_one]) (fun j u hj => HA7.out.1.cells (g := g) rfl j u hj) (ones_i _) (by (have := HL.out; have := HAt.out; have := HE7.out; unfold maxLen; omega)) (by (have := HL.out; have := HAt.out; have := HE7.out; omega)) HB7.out.2.size ?_; intro v8 W8 ho8 hg8 _ hk8; have h8 := own_app rfl rfl ho8; rw [HL7.out, HL6.out, HMp.out] at h8; have g8 := Kit.grows_append (Below.refl _ _) hg8 hk8; have G8 := hid (G7.out.trans g8); have H8 := hid (HB7.out.grow h8 g8); obtain ⟨a8, k8, c8, rfl⟩ := own_form3 h8; clear h8 g8 ho8 hg8 hk8) | (at_builtin; (fail_if_success (have _g := HA3)); refine wpList_append_own_at _ rfl (.tmp 19) (.tmp 21) 22 rfl W1.heap.size 5 i0 _ 1 1 Tryz.underlying22 hi hz0 hz1 hz2 rfl (by decide) _ _ _ rfl HA2.out.1 ⟨xb, xo, none⟩ co.length xc (co.map L3.bv) rfl (by rw [List.length_map, Nat.mul_one]) (fun j u hj => by (rw [add_at]; exact ((belows HW1.out.2 HA2.out.2 HW1.out.2.size).cell (p := ⟨xb, xo + j, none⟩) (by simpa using hxb)).trans (HXC.out j u hj))) (ones_b co) (by (have := HE2.out; unfold maxLen; omega)) (by (have := HE2.out; omega)) HA2.out.2.size ?_; intro v3 W3 ho3 hg3 _ hk3; obtain ⟨Lc, HL3, h3⟩ := Wr.opq (HA2.out.grow (own_app (cB_vals co) (by simp [Cf.cB]) ho3) (Kit.grows_append (Below.refl _ _) hg3 hk3)); have HE3 := hid (show Lc.length = 8 + co.length from by (rw [HL3.out, List.length_append, HE2.out]; simp [Cf.cB])); obtain ⟨a3, k3, c3, rfl⟩ := own_form3 h3.1; have HB9 := h3.2; have bX := BX.out.below HB9 BX.out.sz; have m0 := bX.cell 0; have m1 := bX.cell 1; have m2 := bX.cell 2; have m5 := bX.cell 5; have m6 := bX.cell 6; simp at m0 m1 m2 m5 m6; clear bX HB9; have HA3 := hid h3; clear h3 ho3 hg3 hk3)); go_ret; exact ⟨_, rfl, H8.out, G8.out⟩)
end Go.Proofs.YtjnjnfhboafcgaaGreatDoor
namespace Go.Proofs.YtjnjnfhboafcgaaGreatDoor
open Go.RowKit

theorem hne_grow {w w' : World} {v v' : Value} {pb : Nat} (hg : Kit.Grows w w' v v') (hp : pb < w.heap.size) (hne : ∀ k, v.ownBlock = some k → k ≠ pb) : ∀ k, v'.ownBlock = some k → k ≠ pb := by
  intro k hk
  rcases hg.blk with e | ⟨j, hj, e⟩
  · exact hne k (by rw [← e]; exact hk)
  · rw [e] at hk
    have := Option.some.inj hk
    omega
/-- The number that the closure has. -/
structure Cel (w : World) (v : Value) (pb : Nat) (code : Nat) : Prop where
  lt : pb < w.heap.size
  at0 : w.cell? ⟨pb, 0, none⟩ = some (.int .i64 (code : Nat))
  ne : ∀ k, v.ownBlock = some k → k ≠ pb
theorem Cel.grow {w w' : World} {v v' : Value} {pb code : Nat} (h : Cel w v pb code) (hg : Kit.Grows w w' v v') : Cel w' v' pb code := ⟨Nat.lt_of_lt_of_le h.lt hg.size, (hg.cell h.lt h.ne 0).trans h.at0, hne_grow hg h.lt h.ne⟩
theorem Cel.alloc {w : World} {v : Value} {pb code : Nat} (h : Cel w v pb code) (o : Obj) : Cel (w.alloc o) v pb code :=
  ⟨by rw [World.size_alloc]; exact Nat.lt_succ_of_lt h.lt, (((Below.refl w.heap.size w).alloc (Nat.le_refl _) o).cell (p := ⟨pb, 0, none⟩) h.lt).trans h.at0, h.ne⟩
set_option maxRecDepth 100000 in
set_option maxHeartbeats 1000000 in
theorem wcl_any (w0 : World) (v : Value) (l : List Int) (m : Cf.Mb) (cv hv : Value) (code pb : Nat) (w : World) (h : Wr w0 w v l) (hB : L3.Bs w0.heap.size w0 cv m.code) (hH : Kit.IsS 4 w0 hv m.hs.length (m.hs.flatMap hL)) (hc : 0 < m.code.length)
    (hl : l.length + 26 + m.code.length + 8 * m.hs.length ≤ 1099511627776) (hp : Cel w v pb code) :
    Calls Tryz.prog 95 #[v, mbV m cv hv, .pointer (some ⟨pb, 0, none⟩)] w (WP w0 w v (l ++ Cf.meB code m)) := by
  have HM := hid (fun W (k : Wr w0 W v l) => wmethod_any w0 v l m cv hv code W k hB hH hc hl)
  have HW := hid h
  obtain ⟨xa, xc, rfl⟩ := hB.len
  obtain ⟨ya, yc, rfl⟩ := hH.len
  obtain ⟨va, vc, rfl⟩ := h.form
  have hpb := hp.lt
  have hp0 := hp.at0
  obtain ⟨ac, nm, ds, st, lc, co, hs9⟩ := m
  unfold mbV at HM ⊢
  dsimp only at HM ⊢
  clear h hB hH hc hl hp
  go_enter Tryz.func95, Tryz.ntmps95
  go_wp2_with (go_at_call 96; refine (HM.out _ (HW.out.alloc _)).mono ?_; rintro e w1 ⟨v1, rfl, h1, g1⟩; have H1 := hid h1; have G1 := hid g1; obtain ⟨a1, k1, c1, rfl⟩ := own_form3 h1.1; clear h1 g1)
  go_ret
  exact WP.al ⟨_, rfl, H1.out, G1.out⟩
def wcFn (pb : Nat) : Value := .func (.func 95) #[] #[.pointer (some ⟨pb, 0, none⟩)]
theorem mes_len {code : Nat} {ms : List Cf.Mb} (hg : ∀ m ∈ ms, 0 < m.code.length ∧ m.code.length ≤ 4096 ∧ m.hs.length ≤ 64) : (ms.flatMap (Cf.meB code)).length ≤ ms.length * 4634 := by
  refine Cf.mem_len fun m hm => ?_
  obtain ⟨-, h2, h3⟩ := hg m hm
  have := Cf.attr_len m
  unfold Cf.meB
  simp only [List.length_append, Cf.w2_len, Cf.w4_len]
  omega
set_option maxRecDepth 100000 in
set_option maxHeartbeats 1000000 in
theorem wms_any (w0 : World) (v : Value) (l : List Int) (ms : List Cf.Mb) (mv : Value) (code pb : Nat) (w : World) (h : Wr w0 w v l) (hM : MsR w0 mv ms) (hg : ∀ m ∈ ms, 0 < m.code.length ∧ m.code.length ≤ 4096 ∧ m.hs.length ≤ 64) (hn : ms.length ≤ 256)
    (hl : l.length ≤ 1073741824) (hp : Cel w v pb code) :
    Calls Tryz.prog 91 #[v, mv, wcFn pb] w (WP w0 w v (l ++ Cf.w2 ms.length ++ ms.flatMap (Cf.meB code))) := by
  have HW := hid h
  have HS := hid hM
  have HL := hid hl
  have HP := hid hp
  have HGd := hid hg
  have HH := hid (fun (v : Value) (l : List Int) (m : Cf.Mb) (cv hv : Value) (w : World) h hB hH hc hl hp => wcl_any w0 v l m cv hv code pb w h hB hH hc hl hp)
  obtain ⟨a0, cp0, rfl⟩ := h.form
  obtain ⟨ha, hc, rfl⟩ := hM.len
  unfold wcFn
  unfold mbV at HH
  clear h hM hl hp hg
  go_enter Tryz.func91, Tryz.ntmps91
  go_wp2_with (go_at_call 90; refine (wu2_k w0 _ _ [(ms.length : Int)] _ _ 1 1 _ _ HW.out rfl (by have := HL.out; omega) rfl rfl).mono ?_; rintro e w1 ⟨v1, rfl, h1, g1⟩; rw [w2_one] at h1; have H1 := hid h1; have G1 := hid g1; obtain ⟨a1, k1, cp1, rfl⟩ := own_form3 h1.1; clear h1 g1)
  go_loopw [0, 16] (fun u i wr => ∃ k : Nat, k ≤ ms.length ∧ i = .int .i64 k ∧ Hid (Wr w0 wr u (l ++ Cf.w2 ms.length ++ (ms.take k).flatMap (Cf.meB code))) ∧ Hid (Kit.Grows w wr (.slice a0 l.length cp0) u)) (fun _ i _ => ms.length - (intOf i).toNat)
  case atStart => exact ⟨0, by omega, rfl, hid (by simpa using H1.out), G1⟩
  case round =>
    obtain ⟨k, hk, rfl, HR, HG⟩ := hrel
    obtain ⟨a2, k2, cp2, rfl⟩ := own_form3 HR.out.1
    by_cases hlt : k < ms.length
    · obtain ⟨⟨ac, nm, ds, st, lc, co, hs9⟩, hx⟩ : ∃ x, ms[k]? = some x := ⟨ms[k], List.getElem?_eq_getElem hlt⟩
      obtain ⟨b, o, cap', cv, hw, hv2, hbb, hB, hH, hcl, c0, c1, c2, c3, c4, c5, c6⟩ := (HS.out.below HR.out.2 (Nat.le_refl _)).at hx
      obtain ⟨b', o', cap'', cv', hw', hv3, hbb', hB0, hH0, -, -, -, -, -, -, d5, d6⟩ := HS.out.at hx
      obtain ⟨rfl, -, rfl⟩ := Value.slice.inj hv2
      have hv4 := Value.slice.inj hv3
      have hbo : b = b' ∧ o = o' := by simpa using hv4.1
      obtain ⟨rfl, rfl⟩ := hbo
      have e5 : cv = cv' := by
        have := (HR.out.2.cell (p := ⟨b, o + k * 7 + 5, none⟩) (by simpa using hbb')).symm.trans c5
        rw [d5] at this
        exact (Option.some.inj this).symm
      have e6 : hw = hw' := by
        have := (HR.out.2.cell (p := ⟨b, o + k * 7 + 6, none⟩) (by simpa using hbb')).symm.trans c6
        rw [d6] at this
        exact (Option.some.inj this).symm
      subst e5 e6
      have HX := hid hx
      have hki : (k : Int) < (ms.length : Int) := by omega
      have hgd := HGd.out _ (List.mem_of_getElem? hx)
      have hft := mes_len (code := code) (ms := ms.take k) (fun m hm => HGd.out m (List.mem_of_mem_take hm))
      have HLn := hid (show (l ++ Cf.w2 ms.length ++ (ms.take k).flatMap (Cf.meB code)).length + 26 + co.length + 8 * hs9.length ≤ 1099511627776 by
        rw [List.length_append, List.length_append, Cf.w2_len]; rw [List.length_take] at hft; have := HL.out; dsimp only at hgd; omega)
      have HGk := hid hgd
      dsimp only at c0 c1 c2 c3 c4 c5 c6 hB0 hH0
      have HB0 := hid hB0
      have HH0 := hid hH0
      obtain ⟨xa, xc, rfl⟩ := hB0.len
      obtain ⟨ya, yc, rfl⟩ := hH0.len
      clear hx hv2 hB hH hcl hv3 hv4 d5 d6 hgd hft hB0 hH0
      go_wp2_with (go_at_call 95; refine (HH.out _ _ ⟨ac, nm, ds, st, lc, co, hs9⟩ _ _ _ (HR.out.alloc _) HB0.out HH0.out HGk.out.1 HLn.out ((HP.out.grow HG.out).alloc _)).mono ?_; rintro e w2 ⟨v2, rfl, h2, g2⟩; have H2 := hid h2; have G2 := hid (grows_al (w := wr) g2); clear h2 g2)
      go_roundw
      case rel => exact ⟨k + 1, by omega, by go_num, hid (by rw [take_flat HX.out, ← List.append_assoc]; exact H2.out), hid (HG.out.trans G2.out)⟩
      case measure => simp [intOf]; omega
    · obtain rfl : k = ms.length := by omega
      have H9 := HR.out
      rw [List.take_length] at H9
      have H9 := hid H9
      go_wp2
      go_ret
      exact ⟨_, rfl, H9.out, HG.out⟩
end Go.Proofs.YtjnjnfhboafcgaaGreatDoor
namespace Go.Proofs.YtjnjnfhboafcgaaGreatDoor
open Go.RowKit

theorem putB_max {l : List L3.Cp.C} (h : L3.CkIs l 0) : (L3.putB l).length ≤ 2000000 := by
  have h1 := L3.ck_size h
  have h2 := L3.encT_len h1.2 (L3.told l l.length)
  have h3 := L3.told_len l l.length
  unfold L3.putB
  rw [List.length_append, L3.bytesN_len]
  omega
theorem putB_pos (l : List L3.Cp.C) : 0 < (L3.putB l).length := by
  unfold L3.putB
  rw [List.length_append, L3.bytesN_len]
  omega
theorem cl_bytes (c : Cf.Cl) : [] ++ Cf.w4 3405691582 ++ [c.mi, c.ma].flatMap Cf.w2 ++ L3.putB c.pool ++ [c.ac, c.th, c.su, 0].flatMap Cf.w2 ++ Cf.w2 c.fs.length ++ c.fs.flatMap Cf.fdB ++ Cf.w2 c.ms.length ++ c.ms.flatMap (Cf.meB (Cf.cix c.pool)) ++ [0].flatMap Cf.w2 = Cf.clB c := by
  unfold Cf.clB
  simp [List.append_assoc]
theorem st6_new {W5 w9 : World} {v : Value} {l : List Int} {base cx : Nat} (B9 : Below W5.heap.size W5 w9) (ho : L3.OwnI W5 base v l) : Below W5.heap.size W5 (w9.alloc (.cells #[.int .i64 (cx : Nat)] 3)) ∧ Cel (w9.alloc (.cells #[.int .i64 (cx : Nat)] 3)) v w9.heap.size cx := by
  refine ⟨B9.alloc B9.size _, ⟨by rw [World.size_alloc]; omega, ?_, fun k hk e => ?_⟩⟩
  · rw [(L3.BX.new w9 _ _).cell]; rfl
  · have := Kit.own_lt ho k hk
    have := B9.size
    omega
theorem st6_set {W5 w9 : World} {v : Value} {l : List Int} {base cx pb : Nat} {T : TypeId} (B9 : Below W5.heap.size W5 w9) (bP : L3.BX w9 pb #[.int .i64 0] T) (hp : W5.heap.size ≤ pb) (ho : L3.OwnI W5 base v l) : Below W5.heap.size W5 (w9.setCell ⟨pb, 0, none⟩ (.int .i64 (cx : Nat))) ∧ Cel (w9.setCell ⟨pb, 0, none⟩ (.int .i64 (cx : Nat))) v pb cx := by
  refine ⟨B9.setCell (p := ⟨pb, 0, none⟩) hp _, ⟨by rw [World.size_setCell]; exact bP.sz, ?_, fun k hk e => ?_⟩⟩
  · rw [(bP.set 0 _).cell]; rfl
  · have := Kit.own_lt ho k hk
    omega
set_option maxRecDepth 100000 in
set_option maxHeartbeats 4000000 in
theorem write_any (c : Cf.Cl) (vs : Array Value) (pv : Value) (pbase : Nat) (w : World) (h : ClR w vs c) (hk : L3.CkIs c.pool 0) (hf : c.fs.length ≤ 256) (hm : c.ms.length ≤ 256) (hg : ∀ m ∈ c.ms, 0 < m.code.length ∧ m.code.length ≤ 4096 ∧ m.hs.length ≤ 64)
    (hp : L3.OwnI w pbase pv (L3.putB c.pool)) :
    Calls Tryz.prog 45 #[.agg vs, pv] w fun e w' => ∃ v', e = .returned v' ∧ L3.OwnI w' w.heap.size v' (Cf.clB c) ∧ Below w.heap.size w w' := by
  obtain ⟨i0, hi, hz0, hz1, hz2⟩ := info_parts infoB
  obtain ⟨pg, pcap, rfl, hpg, hpc⟩ := own_some hp (putB_pos _)
  obtain ⟨cv, fv, mv, rfl, hP, hF, hM⟩ := h
  obtain ⟨pa, pc, rfl⟩ := hP.len
  obtain ⟨fa, fc, rfl⟩ := hF.len
  obtain ⟨ma2, mc, rfl⟩ := hM.len
  have HPC := hid hpc
  have HCb := hid (cl_bytes c)
  have HPm := hid (putB_max hk)
  have HPl := hid (show c.pool.length * 48 ≤ 140737488355328 by have := (L3.ck_size hk).1; omega)
  have HCl := hid (And.intro hP (And.intro hF hM))
  have HGd := hid hg
  obtain ⟨mi, ma, P, ac, th, su, fs, ms⟩ := c
  dsimp only at HPC HCb HPm HPl HCl HGd hf hm ⊢
  obtain ⟨pn, hpn⟩ : ∃ n, n = (L3.putB P).length := ⟨_, rfl⟩
  have HPn := hid hpn
  rw [← hpn]
  clear hk hg hp hpc hP hF hM hpn
  go_enter Tryz.func45, Tryz.ntmps45
  go_wp2_with fail
  have bX := L3.BX.new w #[.int .i64 mi, .int .i64 ma, .slice pa P.length pc, .int .i64 ac, .int .i64 th, .int .i64 su, .slice fa fs.length fc, .slice ma2 ms.length mc] 26
  have hb1 : Below w.heap.size w (w.alloc (.cells #[.int .i64 mi, .int .i64 ma, .slice pa P.length pc, .int .i64 ac, .int .i64 th, .int .i64 su, .slice fa fs.length fc, .slice ma2 ms.length mc] 26)) := (Below.refl _ _).alloc (Nat.le_refl _) _
  obtain ⟨W1, hW1⟩ : ∃ W1, W1 = w.alloc (.cells #[.int .i64 mi, .int .i64 ma, .slice pa P.length pc, .int .i64 ac, .int .i64 th, .int .i64 su, .slice fa fs.length fc, .slice ma2 ms.length mc] 26) := ⟨_, rfl⟩
  rw [← hW1] at bX hb1 ⊢
  have BX := hid bX
  have HB1 := hid hb1
  have HC1 := hid (show Kit.IsS 5 W1 (.slice pa P.length pc) P.length (P.flatMap L3.cL) ∧ MsR W1 (.slice fa fs.length fc) fs ∧ MsR W1 (.slice ma2 ms.length mc) ms from ⟨HCl.out.1.below hb1 (Nat.le_refl _), HCl.out.2.1.below hb1 (Nat.le_refl _), HCl.out.2.2.below hb1 (Nat.le_refl _)⟩)
  clear hW1 bX hb1
  go_wp2_with (first | (go_at_call 89; refine (wpo (wu4_wr W1 _ [] _ _ (Wr.nil W1 W1 (Below.refl _ _)) (by decide))).mono ?_; rintro e Wa ⟨v1, L1, rfl, h1, HL1, g1⟩; have HE1 := hid (show L1.length = 4 from by (rw [HL1.out]; rfl)); obtain ⟨a1, k1, c1, rfl⟩ := own_form3 h1.1; have HB9 := h1.2; have bX := BX.out.below HB9 BX.out.sz; have q0 := bX.cell 0; have q1 := bX.cell 1; have q2 := bX.cell 2; have q3 := bX.cell 3; have q4 := bX.cell 4; have q5 := bX.cell 5; have q6 := bX.cell 6; have q7 := bX.cell 7; simp at q0 q1 q2 q3 q4 q5 q6 q7; clear bX HB9; have HA1 := hid h1; clear h1 g1) | (go_at_call 90; have _g := HA3; (fail_if_success (have _g := HA4)); refine (wpo (wu2_k W1 _ _ [ac, th, su, 0] _ _ 4 4 _ _ HA3.out rfl (by (have := HE3.out; have := HPm.out; omega)) rfl rfl)).mono ?_; rintro e W4 ⟨v4, L4, rfl, h4, HL4, g4⟩; have HE4 := hid (show L4.length = 16 + (L3.putB P).length from by (have h9 := congrArg List.length HL4.out; rw [List.length_append, HE3.out] at h9; have h8 : ([ac, th, su, 0].flatMap Cf.w2).length = 8 := rfl; omega)); obtain ⟨a4, k4, c4, rfl⟩ := own_form3 h4.1; have HB9 := h4.2; have bX := BX.out.below HB9 BX.out.sz; have q0 := bX.cell 0; have q1 := bX.cell 1; have q2 := bX.cell 2; have q3 := bX.cell 3; have q4 := bX.cell 4; have q5 := bX.cell 5; have q6 := bX.cell 6; have q7 := bX.cell 7; simp at q0 q1 q2 q3 q4 q5 q6 q7; clear bX HB9; have HA4 := hid h4; clear h4 g4) | (go_at_call 90; (fail_if_success (have _g := HA2)); refine (wpo (wu2_k W1 _ _ [mi, ma] _ _ 2 2 _ _ HA1.out rfl (by (have := HE1.out; omega)) rfl rfl)).mono ?_; rintro e W2 ⟨v2, L2, rfl, h2, HL2, g2⟩; have HE2 := hid (show L2.length = 8 from by (have h9 := congrArg List.length HL2.out; rw [List.length_append, HE1.out] at h9; have h8 : ([mi, ma].flatMap Cf.w2).length = 4 := rfl; omega)); obtain ⟨a2, k2, c2, rfl⟩ := own_form3 h2.1; have HB9 := h2.2; have bX := BX.out.below HB9 BX.out.sz; have q0 := bX.cell 0; have q1 := bX.cell 1; have q2 := bX.cell 2; have q3 := bX.cell 3; have q4 := bX.cell 4; have q5 := bX.cell 5; have q6 := bX.cell 6; have q7 := bX.cell 7; simp at q0 q1 q2 q3 q4 q5 q6 q7; clear bX HB9; have HA2 := hid h2; clear h2 g2) | (at_builtin; (fail_if_success (have _g := HA3)); refine wpList_append_own_at _ rfl (.tmp 16) (.tmp 17) 22 rfl W1.heap.size 5 i0 _ 1 1 Tryz.underlying22 hi hz0 hz1 hz2 rfl (by decide) _ _ _ rfl HA2.out.1 ⟨pg, 0, none⟩ pn pcap ((L3.putB P).map (Value.int .u8)) rfl (by rw [List.length_map, HPn.out, Nat.mul_one]) (fun j u hj => by (have q9 := HPC.out j u hj; rw [add_at] at q9 ⊢; exact ((belows HB1.out HA2.out.2 HB1.out.size).cell (p := ⟨pg, 0 + j, none⟩) (by simpa using hpg)).trans q9)) (ones_i _) (by (have := HPm.out; have := HPn.out; have := HE2.out; unfold maxLen; omega)) (by (have := HPm.out; have := HPn.out; have := HE2.out; omega)) HA2.out.2.size ?_; intro v3 W3 ho3 hg3 _ hk3; obtain ⟨Lc, HL3, h3⟩ := Wr.opq (HA2.out.grow (own_app rfl HPn.out ho3) (Kit.grows_append (Below.refl _ _) hg3 hk3)); have HE3 := hid (show Lc.length = 8 + (L3.putB P).length from by (rw [HL3.out, List.length_append, HE2.out])); obtain ⟨a3, k3, c3, rfl⟩ := own_form3 h3.1; have HB9 := h3.2; have bX := BX.out.below HB9 BX.out.sz; have q0 := bX.cell 0; have q1 := bX.cell 1; have q2 := bX.cell 2; have q3 := bX.cell 3; have q4 := bX.cell 4; have q5 := bX.cell 5; have q6 := bX.cell 6; have q7 := bX.cell 7; simp at q0 q1 q2 q3 q4 q5 q6 q7; clear bX HB9; have HA3 := hid h3; clear h3 ho3 hg3 hk3) | (go_at_call 91; (fail_if_success (have _g := HA5)); refine (wpo (wfs_any W1 _ _ fs _ _ HA4.out HC1.out.2.1 (by (have := HPm.out; have := HE4.out; omega)))).mono ?_; rintro e W5 ⟨v5, L5, rfl, h5, HL5, g5⟩; have HE5 := hid (show L5.length = 18 + (L3.putB P).length + 8 * fs.length from by (rw [HL5.out, List.length_append, List.length_append, HE4.out, Cf.w2_len, fds_len]; omega)); obtain ⟨a5, k5, c5, rfl⟩ := own_form3 h5.1; have HB9 := h5.2; have bX := BX.out.below HB9 BX.out.sz; have q0 := bX.cell 0; have q1 := bX.cell 1; have q2 := bX.cell 2; have q3 := bX.cell 3; have q4 := bX.cell 4; have q5 := bX.cell 5; have q6 := bX.cell 6; have q7 := bX.cell 7; simp at q0 q1 q2 q3 q4 q5 q6 q7; clear bX HB9; have HA5 := hid h5; clear h5 g5))
  have hz5 := HA5.out.2.size
  have hzb := BX.out.sz
  have hzb5 : w.heap.size < W5.heap.size := by omega
  have HF := hid (fun W (k : Below W5.heap.size W5 W) => findCode_any P _ W (HC1.out.1.below (belows HA5.out.2 k HA5.out.2.size) (Nat.le_refl _)) HPl.out)
  have HUt := hid (fun W => utf8_any Cf.codeS W)
  have cfU := fun (u : Value) (w : World) => (show (callFunc 94 #[u]).run Tryz.prog w = .ok (.enter 94 #[u]) w by kernel_rfl)
  have cfF := fun (u v : Value) (w : World) => (show (callFunc 93 #[u, v]).run Tryz.prog w = .ok (.enter 93 #[u, v]) w by kernel_rfl)
  obtain ⟨cx, hcx⟩ : ∃ n, n = Cf.cix P := ⟨_, rfl⟩
  have HCx := hid hcx
  rw [← hcx] at HF
  clear hcx
  go_region_law (first
    | (have _g := hbU; refine Kit.step_call2 rfl 93 (.tmp 34) (.tmp 35) 23 56 rfl _ _ rfl rfl (cfF _ _ _) _ (HF.out _ ?_) ?_; (first | exact B8 | exact (by repeat' first | with_reducible exact Below.refl _ _ | with_reducible assumption | with_reducible refine belows_drewN ?_ _ | with_reducible refine Below.drew ?_ | with_reducible refine Below.setCell ?_ ?_ _ | with_reducible refine Below.alloc ?_ ?_ _ | omega | (simp; done) | (simp; omega))); rintro e w9 ⟨rfl, hbF⟩; refine ⟨_, rfl, ?_⟩; have B9 : Below W5.heap.size W5 w9 := (by first | exact belows B8 hbF B8.size | exact belows B8 (below_undrew hbF) B8.size | exact belows (B8.alloc hz8 _) hbF (by simp only [World.size_alloc]; omega) | exact belows (B8.alloc hz8 _) (below_undrew hbF) (by simp only [World.size_alloc]; omega)); (try (first | (have bP := (BXi.below hbF BXi.sz); have pc0 := bP.cell 0; have pf0 := bP.frozen 0; simp at pc0) | (have bP := (BXi.below (below_undrew hbF) BXi.sz); have pc0 := bP.cell 0; have pf0 := bP.frozen 0; simp at pc0) | (have bP := (L3.BX.new w8 #[.int .i64 0] 3).below hbF (by simp); have pc0 := bP.cell 0; have pf0 := bP.frozen 0; simp at pc0) | (have bP := (L3.BX.new w8 #[.int .i64 0] 3).below (below_undrew hbF) (by simp); have pc0 := bP.cell 0; have pf0 := bP.frozen 0; simp at pc0))))
    | (refine Kit.step_call1 rfl 94 (.const (.string ⟨#[67, 111, 100, 101]⟩)) 9 rfl _ rfl (cfU _ _) _ (HUt.out _) ?_; rintro e w8 ⟨rfl, hbU⟩; refine ⟨_, rfl, ?_⟩; have B8 : Below W5.heap.size W5 w8 := (by first | exact hbU | exact below_undrew hbU | exact belows ((Below.refl _ _).alloc (Nat.le_refl _) _) hbU (by simp only [World.size_alloc]; omega) | exact belows ((Below.refl _ _).alloc (Nat.le_refl _) _) (below_undrew hbU) (by simp only [World.size_alloc]; omega)); have hz8 := B8.size; have hzb8 : w.heap.size < w8.heap.size := (by (have := HA5.out.2.size; have := BX.out.sz; omega)); have q2 := (B8.cell (p := ⟨w.heap.size, 2, none⟩) (by (have := HA5.out.2.size; simp; omega))).trans q2; (try (first | (have BXi := (L3.BX.new W5 #[.int .i64 0] 3).below hbU (by simp)) | (have BXi := (L3.BX.new W5 #[.int .i64 0] 3).below (below_undrew hbU) (by simp))))))
  all_goals
    first
      | (have hs6 := st6_set (cx := cx) (pb := w8.heap.size) B9 bP (by omega) HA5.out.1; obtain ⟨W6, hW6⟩ : ∃ W, W = w9.setCell ⟨w8.heap.size, 0, none⟩ (.int .i64 (cx : Nat)) := ⟨_, rfl⟩; rw [← hW6] at hs6 ⊢; obtain ⟨B6, C6⟩ := hs6; obtain ⟨pb, hpb⟩ : ∃ n, n = w8.heap.size := ⟨_, rfl⟩; rw [← hpb] at C6 ⊢; clear hW6 hpb)
      | (have hs6 := st6_set (cx := cx) (pb := W5.heap.size) B9 bP (Nat.le_refl _) HA5.out.1; obtain ⟨W6, hW6⟩ : ∃ W, W = w9.setCell ⟨W5.heap.size, 0, none⟩ (.int .i64 (cx : Nat)) := ⟨_, rfl⟩; rw [← hW6] at hs6 ⊢; obtain ⟨B6, C6⟩ := hs6; obtain ⟨pb, hpb⟩ : ∃ n, n = W5.heap.size := ⟨_, rfl⟩; rw [← hpb] at C6 ⊢; clear hW6 hpb)
      | (have hs6 := st6_new (cx := cx) B9 HA5.out.1; obtain ⟨W6, hW6⟩ : ∃ W, W = w9.alloc (.cells #[.int .i64 (cx : Nat)] 3) := ⟨_, rfl⟩; rw [← hW6] at hs6 ⊢; obtain ⟨B6, C6⟩ := hs6; obtain ⟨pb, hpb⟩ : ∃ n, n = w9.heap.size := ⟨_, rfl⟩; rw [← hpb] at C6 ⊢; clear hW6 hpb)
    have CC := hid C6
    have HA6 := hid (HA5.out.below B6)
    have BX6 := BX.out.below HA6.out.2 BX.out.sz
    have q7 := BX6.cell 7
    simp at q7
    clear BX6 C6 B6 B9 HF HUt cfU cfF hz5 hzb hzb5
    (go_wp2_with (first | (go_at_call 91; (fail_if_success (have _g := HA7)); refine (wpo (wms_any W1 _ _ ms _ cx pb _ HA6.out HC1.out.2.2 HGd.out hm (by (have := HE5.out; have := HPm.out; omega)) CC.out)).mono ?_; rintro e W7 ⟨v7, L7, rfl, h7, HL7, g7⟩; have HE7 := hid (show L7.length ≤ 5000000 from by (have h9 := congrArg List.length HL7.out; rw [List.length_append, List.length_append, HE5.out, Cf.w2_len] at h9; have h8 := mes_len (code := cx) HGd.out; have := HPm.out; omega)); obtain ⟨a7, k7, c7, rfl⟩ := own_form3 h7.1; have HA7 := hid h7; clear h7 g7) | (go_at_call 90; have _g := HA7; (fail_if_success (have _g := HA8)); refine (wpo (wu2_k W1 _ _ [(0 : Int)] _ _ 1 1 _ _ HA7.out rfl (by (have := HE7.out; omega)) rfl rfl)).mono ?_; rintro e W8 ⟨v8, L8, rfl, h8, HL8, g8⟩; obtain ⟨a8, k8, c8, rfl⟩ := own_form3 h8.1; have HA8 := hid h8; clear h8 g8)); go_ret; exact ⟨_, rfl, by (have e9 : L8 = Cf.clB ⟨mi, ma, P, ac, th, su, fs, ms⟩ := (by rw [HL8.out, HL7.out, HCx.out, HL5.out, HL4.out, HL3.out, HL2.out, HL1.out]; exact HCb.out); rw [← e9]; exact L3.own_mono HA8.out.1 HB1.out.size), belows HB1.out HA8.out.2 HB1.out.size⟩)
end Go.Proofs.YtjnjnfhboafcgaaGreatDoor
namespace Go.Proofs.YtjnjnfhboafcgaaGreatDoor
open Go.RowKit

/-- What Encode answers. -/
def EnPost (c : Cf.Cl) (w : World) (e : Ending) (w' : World) : Prop :=
  ∃ er, Cf.ClIs c er ∧ (er ≠ 0 → e = .returned (.tuple #[.slice none 0 0, .int .i64 er])) ∧
    (er = 0 → (65536 < (Cf.clB c).length → e = .returned (.tuple #[.slice none 0 0, .int .i64 3])) ∧ ((Cf.clB c).length ≤ 65536 → ∃ v, e = .returned (.tuple #[v, .int .i64 0]) ∧ L3.OwnI w' w.heap.size v (Cf.clB c))) ∧ Below w.heap.size w w'
set_option maxRecDepth 100000 in
set_option maxHeartbeats 2000000 in
theorem encode_any (c : Cf.Cl) (vs : Array Value) (w : World) (hk : Ck w c) (h : ClR w vs c) : Calls Tryz.prog 15 #[.agg vs] w (EnPost c w) := by
  have HC := hid (fun W (k : Below w.heap.size w W) => check_any c vs W (hk.below k) (h.below k (Nat.le_refl _)))
  have HWr := hid (fun pv pbase W (k : Below w.heap.size w W) hck hf hm hg hp => write_any c vs pv pbase W (h.below k (Nat.le_refl _)) hck hf hm hg hp)
  obtain ⟨pv, fv, mv, rfl, hp, hf, hm⟩ := h
  have HP := hid (fun W (k : Below w.heap.size w W) => L3.put_any c.pool pv W (hk.t3.below k hk.t3.size) (hp.below k (Nat.le_refl _)) hk.ps)
  obtain ⟨pa, pc, rfl⟩ := hp.len
  obtain ⟨fa, fc, rfl⟩ := hf.len
  obtain ⟨ma2, mc, rfl⟩ := hm.len
  unfold EnPost
  unfold L3.PutPost at HP
  obtain ⟨B, hB⟩ : ∃ B, B = Cf.clB c := ⟨_, rfl⟩
  rw [← hB] at HWr ⊢
  clear hk hp hf hm hB
  by_cases hlen : 65536 < B.length
  · have hd : decide (65536 < (B.length : Int)) = true := by simp; omega
    have HLn := hid hlen
    clear hlen
    go_enter Tryz.func15, Tryz.ntmps15
    go_wp2_with (first | (go_at_call 17; refine (HC.out _ (by repeat' first | with_reducible exact Below.refl _ _ | with_reducible assumption | with_reducible refine belows_drewN ?_ _ | with_reducible refine Below.drew ?_ | with_reducible refine Below.setCell ?_ ?_ _ | with_reducible refine Below.alloc ?_ ?_ _ | omega | (simp; done) | (simp; omega))).mono ?_; rintro e w1 ⟨er, hR, rfl, hb1⟩; obtain ⟨bC, hzC, B1⟩ := belows1 hb1; have HR := hid hR; have q0 := bC.cell 0; have q1 := bC.cell 1; have q2 := bC.cell 2; have q3 := bC.cell 3; have q4 := bC.cell 4; have q5 := bC.cell 5; have q6 := bC.cell 6; have q7 := bC.cell 7; simp at q0 q1 q2 q3 q4 q5 q6 q7; have BC := hid bC; clear hb1 bC; by_cases hz : er = 0; all_goals (first | (subst hz; clear hR) | (have hdd : (er != 0) = true := (by simpa using hz); have HZ := hid hz; clear hz hR))) | (go_at_call 44; refine (HP.out _ B1).mono ?_; rintro e w2 ⟨pk, hck, -, h2, hb2⟩; obtain rfl := hck.det (Cf.cl_sizes HR.out).2.2.1; obtain ⟨v2, rfl, ho2⟩ := h2 rfl; obtain ⟨a2, k2, c2, rfl⟩ := own_form3 ho2; have HO2 := hid ho2; have B2 := belows B1 hb2 B1.size; have bC := BC.out.below hb2 BC.out.sz; have q0 := bC.cell 0; have q1 := bC.cell 1; have q2 := bC.cell 2; have q3 := bC.cell 3; have q4 := bC.cell 4; have q5 := bC.cell 5; have q6 := bC.cell 6; have q7 := bC.cell 7; simp at q0 q1 q2 q3 q4 q5 q6 q7; clear hck h2 ho2 hb2 bC) | (go_at_call 45; refine (HWr.out _ _ _ B2 (Cf.cl_sizes HR.out).2.2.1 (Cf.cl_sizes HR.out).1 (Cf.cl_sizes HR.out).2.1 (Cf.cl_sizes HR.out).2.2.2 HO2.out).mono ?_; rintro e w3 ⟨v3, rfl, ho3, hb3⟩; obtain ⟨a3, c3, rfl⟩ := L3.own_form ho3; have HO3 := hid ho3; have B3 := belows B2 hb3 B2.size; clear ho3 hb3))
    · go_ret2
      exact ⟨0, HR.out, fun e => absurd rfl e, fun _ => ⟨fun _ => rfl, fun e => absurd HLn.out (by omega)⟩, B3⟩
    · go_ret2
      exact ⟨er, HR.out, fun _ => rfl, fun e => absurd e HZ.out, B1⟩
  · have hd : decide (65536 < (B.length : Int)) = false := by simp; omega
    have HLn := hid hlen
    clear hlen
    go_enter Tryz.func15, Tryz.ntmps15
    go_wp2_with (first | (go_at_call 17; refine (HC.out _ (by repeat' first | with_reducible exact Below.refl _ _ | with_reducible assumption | with_reducible refine belows_drewN ?_ _ | with_reducible refine Below.drew ?_ | with_reducible refine Below.setCell ?_ ?_ _ | with_reducible refine Below.alloc ?_ ?_ _ | omega | (simp; done) | (simp; omega))).mono ?_; rintro e w1 ⟨er, hR, rfl, hb1⟩; obtain ⟨bC, hzC, B1⟩ := belows1 hb1; have HR := hid hR; have q0 := bC.cell 0; have q1 := bC.cell 1; have q2 := bC.cell 2; have q3 := bC.cell 3; have q4 := bC.cell 4; have q5 := bC.cell 5; have q6 := bC.cell 6; have q7 := bC.cell 7; simp at q0 q1 q2 q3 q4 q5 q6 q7; have BC := hid bC; clear hb1 bC; by_cases hz : er = 0; all_goals (first | (subst hz; clear hR) | (have hdd : (er != 0) = true := (by simpa using hz); have HZ := hid hz; clear hz hR))) | (go_at_call 44; refine (HP.out _ B1).mono ?_; rintro e w2 ⟨pk, hck, -, h2, hb2⟩; obtain rfl := hck.det (Cf.cl_sizes HR.out).2.2.1; obtain ⟨v2, rfl, ho2⟩ := h2 rfl; obtain ⟨a2, k2, c2, rfl⟩ := own_form3 ho2; have HO2 := hid ho2; have B2 := belows B1 hb2 B1.size; have bC := BC.out.below hb2 BC.out.sz; have q0 := bC.cell 0; have q1 := bC.cell 1; have q2 := bC.cell 2; have q3 := bC.cell 3; have q4 := bC.cell 4; have q5 := bC.cell 5; have q6 := bC.cell 6; have q7 := bC.cell 7; simp at q0 q1 q2 q3 q4 q5 q6 q7; clear hck h2 ho2 hb2 bC) | (go_at_call 45; refine (HWr.out _ _ _ B2 (Cf.cl_sizes HR.out).2.2.1 (Cf.cl_sizes HR.out).1 (Cf.cl_sizes HR.out).2.1 (Cf.cl_sizes HR.out).2.2.2 HO2.out).mono ?_; rintro e w3 ⟨v3, rfl, ho3, hb3⟩; obtain ⟨a3, c3, rfl⟩ := L3.own_form ho3; have HO3 := hid ho3; have B3 := belows B2 hb3 B2.size; clear ho3 hb3))
    · go_ret2
      exact ⟨0, HR.out, fun e => absurd rfl e, fun _ => ⟨fun e => absurd e HLn.out, fun _ => ⟨_, rfl, L3.own_mono HO3.out B2.size⟩⟩, B3⟩
    · go_ret2
      exact ⟨er, HR.out, fun _ => rfl, fun e => absurd e HZ.out, B1⟩
end Go.Proofs.YtjnjnfhboafcgaaGreatDoor
namespace Go.Proofs.YtjnjnfhboafcgaaGreatDoor
open Go.RowKit

set_option maxRecDepth 100000 in
set_option maxHeartbeats 400000 in
theorem rsc_any (l : List L3.Cp.C) (v u : Value) (w : World) (hv : Kit.IsS 5 w v l.length (l.flatMap L3.cL)) (hu : Kit.IsS 5 w u l.length (l.flatMap L3.cL)) :
    Calls Tryz.prog 42 #[v, u] w fun e w' => e = .returned (.bool true) ∧ Below w.heap.size w w' := by
  have HV := hid hv
  have HU := hid hu
  obtain ⟨a1, cap1, hv2⟩ := hv.len
  obtain ⟨a2, cap2, hu2⟩ := hu.len
  subst hv2 hu2
  have hlen := hv.2.1
  clear hv hu
  go_enter Tryz.func42, Tryz.ntmps42
  go_wp2
  go_loopw [5] (fun i wr => ∃ k : Nat, k ≤ l.length ∧ i = .int .i64 k ∧ Below w.heap.size w wr) (fun i _ => l.length - (intOf i).toNat)
  case atStart => exact ⟨0, by omega, rfl, (by repeat' first | with_reducible exact Below.refl _ _ | with_reducible assumption | with_reducible refine belows_drewN ?_ _ | with_reducible refine Below.drew ?_ | with_reducible refine Below.setCell ?_ ?_ _ | with_reducible refine Below.alloc ?_ ?_ _ | omega | (simp; done) | (simp; omega))⟩
  case round =>
    obtain ⟨k, hk, rfl, hbl⟩ := hrel
    have hbz := hbl.size
    by_cases hlt : k < l.length
    · obtain ⟨x, hx⟩ : ∃ x, l[k]? = some x := ⟨l[k], List.getElem?_eq_getElem hlt⟩
      obtain ⟨b, o, cap', hv, hb, c0, c1, c2, c3, c4⟩ := L3.c_at (HV.out.below hbl (Nat.le_refl _)) hx
      obtain ⟨rfl, -, rfl⟩ := Value.slice.inj hv
      obtain ⟨b', o', cap', hv', hb', d0, d1, d2, d3, d4⟩ := L3.c_at (HU.out.below hbl (Nat.le_refl _)) hx
      obtain ⟨rfl, -, rfl⟩ := Value.slice.inj hv'
      have i1 : (k : Int) < (l.length : Int) := by omega
      clear hx hv hv'
      go_wp2
      go_quiet (fail)
      go_wp2
      go_roundw
      case rel => exact ⟨k + 1, by omega, by go_num, (by repeat' first | with_reducible exact Below.refl _ _ | with_reducible assumption | with_reducible refine belows_drewN ?_ _ | with_reducible refine Below.drew ?_ | with_reducible refine Below.setCell ?_ ?_ _ | with_reducible refine Below.alloc ?_ ?_ _ | omega | (simp; done) | (simp; omega))⟩
      case measure => simp [intOf]; omega
    · obtain rfl : k = l.length := by omega
      go_wp2
      go_ret
      exact ⟨rfl, (by repeat' first | with_reducible exact Below.refl _ _ | with_reducible assumption | with_reducible refine belows_drewN ?_ _ | with_reducible refine Below.drew ?_ | with_reducible refine Below.setCell ?_ ?_ _ | with_reducible refine Below.alloc ?_ ?_ _ | omega | (simp; done) | (simp; omega))⟩
set_option maxRecDepth 100000 in
set_option maxHeartbeats 400000 in
theorem rsh_any (l : List Cf.Hn) (v u : Value) (w : World) (hv : Kit.IsS 4 w v l.length (l.flatMap hL)) (hu : Kit.IsS 4 w u l.length (l.flatMap hL)) :
    Calls Tryz.prog 84 #[v, u] w fun e w' => e = .returned (.bool true) ∧ Below w.heap.size w w' := by
  have HV := hid hv
  have HU := hid hu
  obtain ⟨a1, cap1, hv2⟩ := hv.len
  obtain ⟨a2, cap2, hu2⟩ := hu.len
  subst hv2 hu2
  have hlen := hv.2.1
  clear hv hu
  go_enter Tryz.func84, Tryz.ntmps84
  go_wp2
  go_loopw [5] (fun i wr => ∃ k : Nat, k ≤ l.length ∧ i = .int .i64 k ∧ Below w.heap.size w wr) (fun i _ => l.length - (intOf i).toNat)
  case atStart => exact ⟨0, by omega, rfl, (by repeat' first | with_reducible exact Below.refl _ _ | with_reducible assumption | with_reducible refine belows_drewN ?_ _ | with_reducible refine Below.drew ?_ | with_reducible refine Below.setCell ?_ ?_ _ | with_reducible refine Below.alloc ?_ ?_ _ | omega | (simp; done) | (simp; omega))⟩
  case round =>
    obtain ⟨k, hk, rfl, hbl⟩ := hrel
    have hbz := hbl.size
    by_cases hlt : k < l.length
    · obtain ⟨x, hx⟩ : ∃ x, l[k]? = some x := ⟨l[k], List.getElem?_eq_getElem hlt⟩
      obtain ⟨b, o, cap', hv, hb, c0, c1, c2, c3⟩ := h_at (HV.out.below hbl (Nat.le_refl _)) hx
      obtain ⟨rfl, -, rfl⟩ := Value.slice.inj hv
      obtain ⟨b', o', cap', hv', hb', d0, d1, d2, d3⟩ := h_at (HU.out.below hbl (Nat.le_refl _)) hx
      obtain ⟨rfl, -, rfl⟩ := Value.slice.inj hv'
      have i1 : (k : Int) < (l.length : Int) := by omega
      clear hx hv hv'
      go_wp2
      go_quiet (fail)
      go_wp2
      go_roundw
      case rel => exact ⟨k + 1, by omega, by go_num, (by repeat' first | with_reducible exact Below.refl _ _ | with_reducible assumption | with_reducible refine belows_drewN ?_ _ | with_reducible refine Below.drew ?_ | with_reducible refine Below.setCell ?_ ?_ _ | with_reducible refine Below.alloc ?_ ?_ _ | omega | (simp; done) | (simp; omega))⟩
      case measure => simp [intOf]; omega
    · obtain rfl : k = l.length := by omega
      go_wp2
      go_ret
      exact ⟨rfl, (by repeat' first | with_reducible exact Below.refl _ _ | with_reducible assumption | with_reducible refine belows_drewN ?_ _ | with_reducible refine Below.drew ?_ | with_reducible refine Below.setCell ?_ ?_ _ | with_reducible refine Below.alloc ?_ ?_ _ | omega | (simp; done) | (simp; omega))⟩
set_option maxRecDepth 100000 in
set_option maxHeartbeats 1000000 in
theorem rsm_any (ms : List Cf.Mb) (v u : Value) (w : World) (hv : MsR w v ms) (hu : MsR w u ms) :
    Calls Tryz.prog 43 #[v, u] w fun e w' => e = .returned (.bool true) ∧ Below w.heap.size w w' := by
  have HV := hid hv
  have HU := hid hu
  obtain ⟨a1, cap1, hv2⟩ := hv.len
  obtain ⟨a2, cap2, hu2⟩ := hu.len
  subst hv2 hu2
  have hlen := hv.size
  clear hv hu
  go_enter Tryz.func43, Tryz.ntmps43
  go_wp2
  go_loopw [5] (fun i wr => ∃ k : Nat, k ≤ ms.length ∧ i = .int .i64 k ∧ Below w.heap.size w wr) (fun i _ => ms.length - (intOf i).toNat)
  case atStart => exact ⟨0, by omega, rfl, (by repeat' first | with_reducible exact Below.refl _ _ | with_reducible assumption | with_reducible refine belows_drewN ?_ _ | with_reducible refine Below.drew ?_ | with_reducible refine Below.setCell ?_ ?_ _ | with_reducible refine Below.alloc ?_ ?_ _ | omega | (simp; done) | (simp; omega))⟩
  case round =>
    obtain ⟨k, hk, rfl, hbl⟩ := hrel
    have hbz := hbl.size
    by_cases hlt : k < ms.length
    · obtain ⟨⟨ac, nm, ds, st, lc, co, hs9⟩, hx⟩ : ∃ x, ms[k]? = some x := ⟨ms[k], List.getElem?_eq_getElem hlt⟩
      obtain ⟨b, o, cap', cv, hw, hv2, hbb, hB, hH, hcl, c0, c1, c2, c3, c4, c5, c6⟩ := (HV.out.below hbl (Nat.le_refl _)).at hx
      obtain ⟨b2, o2, cap2', cv2, hw2, hu2, hbb2, hB2, hH2, -, d0, d1, d2, d3, d4, d5, d6⟩ := (HU.out.below hbl (Nat.le_refl _)).at hx
      obtain ⟨rfl, -, rfl⟩ := Value.slice.inj hv2
      obtain ⟨rfl, -, rfl⟩ := Value.slice.inj hu2
      have hki : (k : Int) < (ms.length : Int) := by omega
      dsimp only at c0 c1 c2 c3 c4 c5 c6 d0 d1 d2 d3 d4 d5 d6 hB hH hB2 hH2
      have HHs := hid (fun W (k : Below wr.heap.size wr W) => rsh_any hs9 _ _ W (hH.below k (Nat.le_refl _)) (hH2.below k (Nat.le_refl _)))
      obtain ⟨xa, xc, rfl⟩ := hB.len
      obtain ⟨ya, yc, rfl⟩ := hH.len
      obtain ⟨xa2, xc2, rfl⟩ := hB2.len
      obtain ⟨ya2, yc2, rfl⟩ := hH2.len
      have B7 : Below wr.heap.size wr ((wr.alloc (.cells #[.int .i64 ac, .int .i64 nm, .int .i64 ds, .int .i64 st, .int .i64 lc, .slice xa co.length xc, .slice ya hs9.length yc] 42)).alloc (.cells #[.int .i64 ac, .int .i64 nm, .int .i64 ds, .int .i64 st, .int .i64 lc, .slice xa2 co.length xc2, .slice ya2 hs9.length yc2] 42)) := (by repeat' first | with_reducible exact Below.refl _ _ | with_reducible assumption | with_reducible refine belows_drewN ?_ _ | with_reducible refine Below.drew ?_ | with_reducible refine Below.setCell ?_ ?_ _ | with_reducible refine Below.alloc ?_ ?_ _ | omega | (simp; done) | (simp; omega))
      have hv7 := L3.bs_conv ((hB.below B7 (Nat.le_refl _)).mono B7.size)
      have hu7 := L3.bs_conv ((hB2.below B7 (Nat.le_refl _)).mono B7.size)
      clear hx hv2 hu2 hB hH hB2 hH2 hcl
      go_wp2_with (go_at_call 84; refine (HHs.out _ B7).mono ?_; rintro e W8 ⟨rfl, hb8⟩; have B8 := belows B7 hb8 B7.size)
      go_roundw
      case rel => exact ⟨k + 1, by omega, by go_num, belows hbl B8 hbz⟩
      case measure => simp [intOf]; omega
    · obtain rfl : k = ms.length := by omega
      go_wp2
      go_ret
      exact ⟨rfl, (by repeat' first | with_reducible exact Below.refl _ _ | with_reducible assumption | with_reducible refine belows_drewN ?_ _ | with_reducible refine Below.drew ?_ | with_reducible refine Below.setCell ?_ ?_ _ | with_reducible refine Below.alloc ?_ ?_ _ | omega | (simp; done) | (simp; omega))⟩
set_option maxRecDepth 100000 in
set_option maxHeartbeats 1000000 in
theorem rsame_any (c : Cf.Cl) (vs us : Array Value) (w : World) (hv : ClR w vs c) (hu : ClR w us c) :
    Calls Tryz.prog 14 #[.agg vs, .agg us] w fun e w' => e = .returned (.bool true) ∧ Below w.heap.size w w' := by
  obtain ⟨pv, fv, mv, rfl, hp, hf, hm⟩ := hv
  obtain ⟨qv, gv, nv, rfl, kp, kf, km⟩ := hu
  have HP := hid (fun W (k : Below w.heap.size w W) => rsc_any c.pool pv qv W (hp.below k (Nat.le_refl _)) (kp.below k (Nat.le_refl _)))
  have HF := hid (fun W (k : Below w.heap.size w W) => rsm_any c.fs fv gv W (hf.below k (Nat.le_refl _)) (kf.below k (Nat.le_refl _)))
  have HM := hid (fun W (k : Below w.heap.size w W) => rsm_any c.ms mv nv W (hm.below k (Nat.le_refl _)) (km.below k (Nat.le_refl _)))
  obtain ⟨pa, pc, rfl⟩ := hp.len
  obtain ⟨fa, fc, rfl⟩ := hf.len
  obtain ⟨ma2, mc, rfl⟩ := hm.len
  obtain ⟨pa', pc', rfl⟩ := kp.len
  obtain ⟨fa', fc', rfl⟩ := kf.len
  obtain ⟨ma2', mc', rfl⟩ := km.len
  clear hp hf hm kp kf km
  go_enter Tryz.func14, Tryz.ntmps14
  go_wp2_with (first | (go_at_call 42; refine (HP.out _ (by repeat' first | with_reducible exact Below.refl _ _ | with_reducible assumption | with_reducible refine belows_drewN ?_ _ | with_reducible refine Below.drew ?_ | with_reducible refine Below.setCell ?_ ?_ _ | with_reducible refine Below.alloc ?_ ?_ _ | omega | (simp; done) | (simp; omega))).mono ?_; rintro e w1 ⟨rfl, hb1⟩; obtain ⟨bC, bD, hz1, B1⟩ := boxes2 hb1; have q6 := bC.cell 6; have r6 := bD.cell 6; have q7 := bC.cell 7; have r7 := bD.cell 7; simp at q6 q7 r6 r7; have bC1 := bC; have bD1 := bD; clear hb1) | (go_at_call 43; have _g := B2; refine (HM.out _ B2).mono ?_; rintro e w3 ⟨rfl, hb3⟩; have B3 := belows B2 hb3 B2.size) | (go_at_call 43; refine (HF.out _ B1).mono ?_; rintro e w2 ⟨rfl, hb2⟩; have B2 := belows B1 hb2 B1.size; have bC := bC1.below hb2 bC1.sz; have bD := bD1.below hb2 bD1.sz; have q7 := bC.cell 7; have r7 := bD.cell 7; simp at q7 r7))
  go_ret
  exact ⟨rfl, B3⟩
end Go.Proofs.YtjnjnfhboafcgaaGreatDoor
namespace Go.Proofs.YtjnjnfhboafcgaaGreatDoor
open Go.RowKit

theorem code2 (W0 : World) (T : TypeId) : L3.Bs (W0.alloc (.cells #[.int .u8 4, .int .u8 172] T)).heap.size (W0.alloc (.cells #[.int .u8 4, .int .u8 172] T)) (.slice (some ⟨W0.heap.size, 0, none⟩) 2 2) [4, 172] := by
  refine ⟨by decide, .inr ⟨W0.heap.size, 0, 2, rfl, by decide, by rw [World.size_alloc]; omega, fun i c hi => ?_⟩⟩
  rw [(L3.BX.new W0 _ _).cell]
  match i, hi with
  | 0, hi => simp at hi; subst hi; rfl
  | 1, hi => simp at hi; subst hi; rfl
  | i + 2, hi => simp at hi
def NaPost (w : World) (e : Ending) (w' : World) : Prop := ∃ pa pc fa fc ma mc, e = .returned (.tuple #[.agg #[.int .i64 0, .int .i64 52, .slice pa 6 pc, .int .i64 33, .int .i64 3, .int .i64 5, .slice fa 0 fc, .slice ma 0 mc], .int .i64 0]) ∧
  ClR w' #[.int .i64 0, .int .i64 52, .slice pa 6 pc, .int .i64 33, .int .i64 3, .int .i64 5, .slice fa 0 fc, .slice ma 0 mc] Cf.kA ∧ Below w.heap.size w w'
theorem newA (w : World) (t3 : L3.Tabs w) : Calls Tryz.prog 30 #[.string ⟨#[65]⟩, .string ⟨#[106, 97, 118, 97, 47, 108, 97, 110, 103, 47, 79, 98, 106, 101, 99, 116]⟩] w (NaPost w) := by
  refine (new_any Cf.aS Cf.oS w t3).mono ?_
  rintro e w1 ⟨c, er, vs, hN, rfl, hR, -, hb⟩
  obtain ⟨rfl, rfl⟩ := NwIs.det hN Cf.nw_A
  have hR2 := hR
  obtain ⟨pv, fv, mv, rfl, hp, hf, hm⟩ := hR
  obtain ⟨pa, pc, rfl⟩ := hp.len
  obtain ⟨fa, fc, rfl⟩ := hf.len
  obtain ⟨ma, mc, rfl⟩ := hm.len
  exact ⟨pa, pc, fa, fc, ma, mc, rfl, hR2, hb⟩
def WfPost (w : World) (e : Ending) (w' : World) : Prop := ∃ pa pc fa fc ma mc, e = .returned (.tuple #[.agg #[.int .i64 0, .int .i64 52, .slice pa 8 pc, .int .i64 33, .int .i64 3, .int .i64 5, .slice fa 0 fc, .slice ma 1 mc], .int .i64 0]) ∧
  OCl w' w.heap.size #[.int .i64 0, .int .i64 52, .slice pa 8 pc, .int .i64 33, .int .i64 3, .int .i64 5, .slice fa 0 fc, .slice ma 1 mc] Cf.kF ∧ Below w.heap.size w w'
theorem szF : Cf.Sz Cf.kF := ⟨by show (8 : Nat) ≤ _; decide, by show (0 : Nat) ≤ _; decide, by show (1 : Nat) ≤ _; decide⟩
theorem szA : Cf.Szc Cf.kA := ⟨by decide +kernel, by decide, by decide, fun m hm => by (cases hm), fun m hm => by (cases hm)⟩
theorem pzA : PoolSz Cf.kA.pool := ⟨by decide +kernel, by decide +kernel⟩
theorem pzF : PoolSz Cf.kF.pool := ⟨by decide +kernel, by decide +kernel⟩
theorem withF (w : World) (t1 : L1.Tabs w) (t3 : L3.Tabs w) (vs : Array Value) (hR : ClR w vs Cf.kA) (g : Nat) (hB : L3.Bs w.heap.size w (.slice (some ⟨g, 0, none⟩) 2 2) [4, 172]) :
    Calls Tryz.prog 28 #[.agg vs, .string ⟨#[102]⟩, .string ⟨#[40, 41, 73]⟩, .agg #[.int .i64 8, .int .i64 0, .int .i64 0, .int .i64 1, .int .i64 0, .slice (some ⟨g, 0, none⟩) 2 2, .slice none 0 0]] w (WfPost w) := by
  refine (withMethod_any Cf.kA vs Cf.mF0 (.slice (some ⟨g, 0, none⟩) 2 2) (.slice none 0 0) Cf.fS Cf.dS w ⟨t1, t3, pzA.1, pzA.2⟩ hR szA pzA hB ⟨rfl, by decide, .inl ⟨rfl, none, 0, rfl⟩⟩ (by decide) (by decide) (by decide) (by decide) (by decide)).mono ?_
  rintro e w1 ⟨l1, i1, e1, l2, i2, e2, h1, h2, h3, hb⟩
  obtain ⟨rfl, rfl, rfl⟩ := h1.det Cf.ad7
  obtain ⟨rfl, rfl, rfl⟩ := h2.det Cf.ad8
  rcases h3 with ⟨h, -⟩ | ⟨-, ⟨-, vs', rfl, hO, -⟩ | ⟨er, hz, hc, -⟩⟩
  · exact absurd rfl h
  · have hR2 : ClR w1 vs' Cf.kF := hO.reads szF
    have hR3 : OCl w1 w.heap.size vs' Cf.kF := hO
    obtain ⟨pv, fv, mv, rfl, hp, hf, hm⟩ := hR2
    obtain ⟨pa, pc, rfl⟩ := hp.len
    obtain ⟨fa, fc, rfl⟩ := hf.len
    obtain ⟨ma, mc, rfl⟩ := hm.len
    exact ⟨pa, pc, fa, fc, ma, mc, rfl, hR3, hb⟩
  · exact absurd (Cf.ClIs.det hc Cf.cl_F) hz
theorem lenF : (Cf.clB Cf.kF).length = 98 := by decide +kernel
theorem headF : (Cf.clB Cf.kF)[0]? = some 202 := by decide +kernel
theorem bytF : L3.Byt (Cf.clB Cf.kF) := by unfold L3.Byt; decide +kernel
theorem i6F : ∀ x ∈ Cf.kF.pool, L3.I6 x.n := by unfold L3.I6; decide +kernel
theorem backF : Cf.clP (L3.bsOf (Cf.clB Cf.kF)) = .ok (Cf.kF, []) :=
  Cf.cl_back (Cf.cl_ranges Cf.cl_F i6F ⟨⟨by decide, by decide⟩, fun m hm => (by cases hm), fun m hm => (by
    obtain rfl := List.mem_singleton.1 hm
    exact ⟨by decide, by decide⟩)⟩)
def EfPost (w : World) (e : Ending) (w' : World) : Prop := ∃ g cap, e = .returned (.tuple #[.slice (some ⟨g, 0, none⟩) 98 cap, .int .i64 0]) ∧ L3.Bs w'.heap.size w' (.slice (some ⟨g, 0, none⟩) 98 cap) (L3.bsOf (Cf.clB Cf.kF)) ∧ w'.cell? ⟨g, 0, none⟩ = some (.int .u8 202) ∧ Below w.heap.size w w'
theorem encF (w : World) (t1 : L1.Tabs w) (t3 : L3.Tabs w) (vs : Array Value) (hR : ClR w vs Cf.kF) : Calls Tryz.prog 15 #[.agg vs] w (EfPost w) := by
  refine (encode_any Cf.kF vs w ⟨t1, t3, pzF.1, pzF.2⟩ hR).mono ?_
  rintro e w1 ⟨er, hc, -, h, hb⟩
  obtain rfl := Cf.ClIs.det hc Cf.cl_F
  obtain ⟨v, rfl, hO⟩ := (h rfl).2 (by rw [lenF]; decide)
  obtain ⟨g, cap, rfl, hg, hcl⟩ := own_some hO (by rw [lenF]; decide)
  have h0 := hcl 0 (.int .u8 202) (by rw [List.getElem?_map, headF]; rfl)
  rw [add_at] at h0
  have hbs := L3.bs_of_own hO bytF (by rw [lenF]; decide)
  rw [lenF] at hbs ⊢
  exact ⟨g, cap, rfl, hbs, h0, hb⟩
def DfPost (w : World) (e : Ending) (w' : World) : Prop := ∃ pa pc fa fc ma mc, e = .returned (.tuple #[.agg #[.int .i64 0, .int .i64 52, .slice pa 8 pc, .int .i64 33, .int .i64 3, .int .i64 5, .slice fa 0 fc, .slice ma 1 mc], .int .i64 0]) ∧
  ClR w' #[.int .i64 0, .int .i64 52, .slice pa 8 pc, .int .i64 33, .int .i64 3, .int .i64 5, .slice fa 0 fc, .slice ma 1 mc] Cf.kF ∧ Below w.heap.size w w'
theorem decF (w : World) (t1 : L1.Tabs w) (t3 : L3.Tabs w) (v : Value) (hv : L3.Bs w.heap.size w v (L3.bsOf (Cf.clB Cf.kF))) : Calls Tryz.prog 11 #[v] w (DfPost w) := by
  refine (decode_any _ v w t1 t3 hv).mono ?_
  rintro e w1 ⟨c, er, vs, hD, rfl, hR, -, -, hb⟩
  unfold Cf.DcIs at hD
  rw [if_neg (by rw [L3.bsOf_len, lenF]; decide), backF] at hD
  obtain ⟨e2, hc, hD⟩ := hD
  obtain rfl := Cf.ClIs.det hc Cf.cl_F
  rw [if_pos rfl] at hD
  obtain ⟨rfl, rfl⟩ := hD
  have hR3 := hR
  obtain ⟨pv, fv, mv, rfl, hp, hf, hm⟩ := hR
  obtain ⟨pa, pc, rfl⟩ := hp.len
  obtain ⟨fa, fc, rfl⟩ := hf.len
  obtain ⟨ma, mc, rfl⟩ := hm.len
  exact ⟨pa, pc, fa, fc, ma, mc, rfl, hR3, hb⟩
end Go.Proofs.YtjnjnfhboafcgaaGreatDoor
namespace Go.Proofs.YtjnjnfhboafcgaaGreatDoor
open Go.RowKit

set_option maxRecDepth 100000 in
set_option maxHeartbeats 1000000 in
theorem begun_any (w : World) (t1 : L1.Tabs w) (t3 : L3.Tabs w) : Calls Tryz.prog 13 #[] w fun e w' => e = .returned (.bool true) ∧ Below w.heap.size w w' := by
  have HT := hid (And.intro t1 t3)
  clear t1 t3
  go_enter Tryz.func13, Tryz.ntmps13
  go_wp2_with (first | (go_at_call 30; (fail_if_success (have _g := HB1)); refine (newA w HT.out.2).mono ?_; rintro e w1 ⟨pa, pc, fa, fc, ma, mc, rfl, hR, hb1⟩; have HR1 := hid hR; have HB1 := hid hb1; clear hR hb1) | (go_at_call 28; (fail_if_success (have _g := HB2)); go_loud (have B2 : Below w1.heap.size w1 ((w1.alloc (.cells #[.int .i64 0, .int .i64 52, .slice pa 6 pc, .int .i64 33, .int .i64 3, .int .i64 5, .slice fa 0 fc, .slice ma 0 mc] 26)).alloc (.cells #[.int .u8 4, .int .u8 172] 5)) := (by repeat' first | with_reducible exact Below.refl _ _ | with_reducible assumption | with_reducible refine belows_drewN ?_ _ | with_reducible refine Below.drew ?_ | with_reducible refine Below.setCell ?_ ?_ _ | with_reducible refine Below.alloc ?_ ?_ _ | omega | (simp; done) | (simp; omega)); have bC := BX.al (L3.BX.new w1 #[.int .i64 0, .int .i64 52, .slice pa 6 pc, .int .i64 33, .int .i64 3, .int .i64 5, .slice fa 0 fc, .slice ma 0 mc] 26) (.cells #[.int .u8 4, .int .u8 172] 5); have hcd := code2 (w1.alloc (.cells #[.int .i64 0, .int .i64 52, .slice pa 6 pc, .int .i64 33, .int .i64 3, .int .i64 5, .slice fa 0 fc, .slice ma 0 mc] 26)) 5; have hzc : (w1.alloc (.cells #[.int .i64 0, .int .i64 52, .slice pa 6 pc, .int .i64 33, .int .i64 3, .int .i64 5, .slice fa 0 fc, .slice ma 0 mc] 26)).heap.size = w1.heap.size + 1 := World.size_alloc _ _; rw [hzc] at hcd; obtain ⟨W2, hW2⟩ : ∃ W, W = (w1.alloc (.cells #[.int .i64 0, .int .i64 52, .slice pa 6 pc, .int .i64 33, .int .i64 3, .int .i64 5, .slice fa 0 fc, .slice ma 0 mc] 26)).alloc (.cells #[.int .u8 4, .int .u8 172] 5) := ⟨_, rfl⟩; rw [← hW2] at B2 bC hcd ⊢; have B20 := belows HB1.out B2 HB1.out.size; refine (withF W2 (HT.out.1.below B20 HT.out.1.size) (HT.out.2.below B20 HT.out.2.size) _ (HR1.out.below B2 (Nat.le_refl _)) _ hcd).mono ?_; rintro e w2 ⟨pa2, pc2, fa2, fc2, ma2, mc2, rfl, hO, hb2⟩; have bC2 := bC.below hb2 bC.sz; have HO2 := hid hO; have HC2 := hid bC2; have hcW : w1.heap.size < W2.heap.size := bC.sz; have B22 := belows B20 hb2 B20.size; have HB2 := hid B22; have hzw : w.heap.size ≤ w1.heap.size := HB1.out.size; have c0 := bC2.cell 0; have zc0 := bC2.frozen 0; have c1 := bC2.cell 1; have zc1 := bC2.frozen 1; have c2 := bC2.cell 2; have zc2 := bC2.frozen 2; have c3 := bC2.cell 3; have zc3 := bC2.frozen 3; have c4 := bC2.cell 4; have zc4 := bC2.frozen 4; have c5 := bC2.cell 5; have zc5 := bC2.frozen 5; have c6 := bC2.cell 6; have zc6 := bC2.frozen 6; have c7 := bC2.cell 7; have zc7 := bC2.frozen 7; simp at c0 c1 c2 c3 c4 c5 c6 c7; clear hW2 B2 B20 B22 bC bC2 hb2 hO hcd hzc)) | (go_at_call 15; (fail_if_success (have _g := HB3)); go_loud (have g8 := grown8 w2 w1.heap.size (.int .i64 0) (.int .i64 52) (.slice pa2 8 pc2) (.int .i64 33) (.int .i64 3) (.int .i64 5) (.slice fa2 0 fc2) (.slice ma2 1 mc2); have bC := put8 HC2.out rfl (.int .i64 0) (.int .i64 52) (.slice pa2 8 pc2) (.int .i64 33) (.int .i64 3) (.int .i64 5) (.slice fa2 0 fc2) (.slice ma2 1 mc2); have oC := HO2.out.grown g8 hcW; have B3 := nwB HB2.out g8 ⟨hzw, HB2.out.size⟩; obtain ⟨W3, hW3⟩ : ∃ W, W = ((((((((w2.setCell ⟨w1.heap.size, 0, none⟩ (.int .i64 0)).setCell ⟨w1.heap.size, 1, none⟩ (.int .i64 52)).setCell ⟨w1.heap.size, 2, none⟩ (.slice pa2 8 pc2)).setCell ⟨w1.heap.size, 3, none⟩ (.int .i64 33)).setCell ⟨w1.heap.size, 4, none⟩ (.int .i64 3)).setCell ⟨w1.heap.size, 5, none⟩ (.int .i64 5)).setCell ⟨w1.heap.size, 6, none⟩ (.slice fa2 0 fc2)).setCell ⟨w1.heap.size, 7, none⟩ (.slice ma2 1 mc2)) := ⟨_, rfl⟩; rw [← hW3] at bC oC B3 ⊢; have hR3 := oC.reads szF; refine (encF W3 (HT.out.1.below B3 HT.out.1.size) (HT.out.2.below B3 HT.out.2.size) _ hR3).mono ?_; rintro e w3 ⟨g, gc, rfl, hbs, h0, hb3⟩; have HR3 := hid (hR3.below hb3 (Nat.le_refl _)); have HC3 := hid (bC.below hb3 bC.sz); have B33 := belows B3 hb3 B3.size; have HB3 := hid B33; have HBs := hid hbs; have H0 := hid h0; clear c0 c1 c2 c3 c4 c5 c6 c7 zc0 zc1 zc2 zc3 zc4 zc5 zc6 zc7; have bC3 := HC3.out; have c0 := bC3.cell 0; have c1 := bC3.cell 1; have c2 := bC3.cell 2; have c3 := bC3.cell 3; have c4 := bC3.cell 4; have c5 := bC3.cell 5; have c6 := bC3.cell 6; have c7 := bC3.cell 7; simp at c0 c1 c2 c3 c4 c5 c6 c7; clear hW3 g8 bC oC B3 B33 hb3 hR3 hbs h0 bC3)) | (go_at_call 11; (fail_if_success (have _g := HB4)); go_loud (refine (decF w3 (HT.out.1.below HB3.out HT.out.1.size) (HT.out.2.below HB3.out HT.out.2.size) _ HBs.out).mono ?_; rintro e w4 ⟨pa4, pc4, fa4, fc4, ma4, mc4, rfl, hR4, hb4⟩; have HR4 := hid hR4; have HR3 := hid (HR3.out.below hb4 (Nat.le_refl _)); have B44 := belows HB3.out hb4 HB3.out.size; have HB4 := hid B44; have bC4 := HC3.out.below hb4 HC3.out.sz; have hcz4 : w1.heap.size < w4.heap.size := bC4.sz; obtain ⟨gb, hgb⟩ : ∃ x, x = g := ⟨_, rfl⟩; have hgz : g < w3.heap.size := World.block_lt_of_cell? w3 _ H0.out; have hgz4 : g < w4.heap.size := Nat.lt_of_lt_of_le hgz hb4.size; have h04 := (hb4.cell (p := ⟨g, 0, none⟩) hgz).trans H0.out; clear c0 c1 c2 c3 c4 c5 c6 c7; have c0 := bC4.cell 0; have c1 := bC4.cell 1; have c2 := bC4.cell 2; have c3 := bC4.cell 3; have c4 := bC4.cell 4; have c5 := bC4.cell 5; have c6 := bC4.cell 6; have c7 := bC4.cell 7; simp at c0 c1 c2 c3 c4 c5 c6 c7; clear hgb B44 bC4 hb4 hR4)) | (go_at_call 14; go_loud (have B5 : Below w4.heap.size w4 (w4.alloc (.cells #[.int .i64 0, .int .i64 52, .slice pa4 8 pc4, .int .i64 33, .int .i64 3, .int .i64 5, .slice fa4 0 fc4, .slice ma4 1 mc4] 26)) := (Below.refl _ _).alloc (Nat.le_refl _) _; refine (rsame_any Cf.kF _ _ _ (HR3.out.below B5 (Nat.le_refl _)) (HR4.out.below B5 (Nat.le_refl _))).mono ?_; rintro e w5 ⟨rfl, hb5⟩; have bD := (L3.BX.new w4 #[.int .i64 0, .int .i64 52, .slice pa4 8 pc4, .int .i64 33, .int .i64 3, .int .i64 5, .slice fa4 0 fc4, .slice ma4 1 mc4] 26).below hb5 (L3.BX.new w4 #[.int .i64 0, .int .i64 52, .slice pa4 8 pc4, .int .i64 33, .int .i64 3, .int .i64 5, .slice fa4 0 fc4, .slice ma4 1 mc4] 26).sz; have d7 := bD.cell 7; simp at d7; have B55 := belows (belows HB4.out B5 HB4.out.size) hb5 (by (have := HB4.out.size; rw [World.size_alloc]; omega)); have HB5 := hid B55; clear B5 hb5 bD B55)))
  go_ret
  exact ⟨rfl, HB5.out⟩
end Go.Proofs.YtjnjnfhboafcgaaGreatDoor
namespace Go.Proofs.YtjnjnfhboafcgaaGreatDoor
open Go.RowKit

theorem infoN : (Tryz.prog.info? 44).map (fun i => (i.zero, i.size, i.bytes)) = some (some (.agg #[.string ⟨#[]⟩, .string ⟨#[]⟩, .string ⟨#[]⟩]), 3, 48) := by kernel_rfl
def GrPost (Q : Cf.Cl → Prop) (w : World) (e : Ending) (w' : World) : Prop :=
  ((∃ er, er ≠ 0 ∧ e = .returned (.tuple #[K0V, .int .i64 er])) ∨ ∃ c vs, e = .returned (.tuple #[.agg vs, .int .i64 0]) ∧ OCl w' w.heap.size vs c ∧ Q c) ∧ Below w.heap.size w w'
theorem grf_any {c : Cf.Cl} {hf hm : List (ByteArray × ByteArray)} {vs : Array Value} {w : World} (t1 : L1.Tabs w) (t3 : L3.Tabs w) (g : Grw c hf hm 140737488355328) (h : ClR w vs c) {a b : ByteArray} (ha : a.size ≤ 140737488355328) (hb : b.size ≤ 140737488355328) :
    Calls Tryz.prog 26 #[.agg vs, .int .i64 1, .string a, .string b] w (GrPost (fun c' => Grw c' (hf ++ [(a, b)]) hm 140737488355328) w) := by
  have hl := g.len
  refine (withField_any c vs 1 a b w ⟨t1, t3, g.sz.1, g.sz.2⟩ h g.szc g.sz ha hb (by omega)).mono ?_
  rintro e w' ⟨l1, i1, e1, l2, i2, e2, h1, h2, h3, hb'⟩
  refine ⟨?_, hb'⟩
  rcases h3 with ⟨hz, he⟩ | ⟨rfl, ⟨hc, vs', he, hO, hz⟩ | ⟨er, hz, -, he⟩⟩
  · exact .inl ⟨e2, hz, he⟩
  · exact .inr ⟨_, vs', he, hO, grw_f g h1 h2 hc hz (Nat.zero_le _)⟩
  · exact .inl ⟨er, hz, he⟩
theorem grm_any {c : Cf.Cl} {hf hm : List (ByteArray × ByteArray)} {vs : Array Value} {w : World} {m : Cf.Mb} {cv hv : Value} (t1 : L1.Tabs w) (t3 : L3.Tabs w) (g : Grw c hf hm 140737488355328) (h : ClR w vs c) {a b : ByteArray} (ha : a.size ≤ 140737488355328) (hb : b.size ≤ 140737488355328)
    (hB : L3.Bs w.heap.size w cv m.code) (hH : Kit.IsS 4 w hv m.hs.length (m.hs.flatMap hL)) (hmc : m.code.length ≤ 140737488355328) (hmh : m.hs.length * 32 ≤ 140737488355328) :
    Calls Tryz.prog 28 #[.agg vs, .string a, .string b, mbV m cv hv] w (GrPost (fun c' => Grw c' hf (hm ++ [(a, b)]) 140737488355328) w) := by
  have hl := g.len
  refine (withMethod_any c vs m cv hv a b w ⟨t1, t3, g.sz.1, g.sz.2⟩ h g.szc g.sz hB hH hmc hmh ha hb (by omega)).mono ?_
  rintro e w' ⟨l1, i1, e1, l2, i2, e2, h1, h2, h3, hb'⟩
  refine ⟨?_, hb'⟩
  rcases h3 with ⟨hz, he⟩ | ⟨rfl, ⟨hc, vs', he, hO, hz⟩ | ⟨er, hz, -, he⟩⟩
  · exact .inl ⟨e2, hz, he⟩
  · exact .inr ⟨_, vs', he, hO, grw_m g h1 h2 hc hz hmh⟩
  · exact .inl ⟨er, hz, he⟩
def nms (l : List (ByteArray × ByteArray)) : List Value := (l.map hd3).flatMap nmL
theorem nms_snoc (l : List (ByteArray × ByteArray)) (x : ByteArray × ByteArray) : nms (l ++ [x]) = nms l ++ nmL (hd3 x) := by simp [nms, List.map_append, List.flatMap_append]
/-- What a loop of Grows keeps: a box of the member, a box of the class, a row of names that grows, another that stays. -/
structure Gi (w : World) (b9 lo : Nat) (mc : Array Value) (c : Cf.Cl) (vs : Array Value) (hf hm : List (ByteArray × ByteArray)) (lv : Value) (xs : List (ByteArray × ByteArray)) (lu : Value) (ys : List (ByteArray × ByteArray)) (wr : World) : Prop where
  b : Below w.heap.size w wr
  bm : L3.BX wr w.heap.size mc 42
  bc : L3.BX wr b9 vs 26
  lt : w.heap.size < b9 ∧ b9 < lo ∧ lo ≤ wr.heap.size
  cl : ClA (Bad b9 lv) wr vs c
  gr : Grw c hf hm 140737488355328
  row : wr.ownsRow lo 44 3 lv xs.length (nms xs)
  old : wr.ownsRow (b9 + 1) 44 3 lu ys.length (nms ys)
  olt : ∀ k, lu.ownBlock = some k → k < lo
theorem Gi.below {w : World} {b9 lo : Nat} {mc : Array Value} {c : Cf.Cl} {vs : Array Value} {hf hm : List (ByteArray × ByteArray)} {lv : Value} {xs : List (ByteArray × ByteArray)} {lu : Value} {ys : List (ByteArray × ByteArray)} {wr W : World}
    (h : Gi w b9 lo mc c vs hf hm lv xs lu ys wr) (k : Below wr.heap.size wr W) : Gi w b9 lo mc c vs hf hm lv xs lu ys W :=
  ⟨belows h.b k h.b.size, h.bm.below k h.bm.sz, h.bc.below k h.bc.sz, ⟨h.lt.1, h.lt.2.1, Nat.le_trans h.lt.2.2 k.size⟩, h.cl.step (Off.below k) (fun _ _ h => h), h.gr, Kit.owns_below h.row k (Nat.le_refl _), Kit.owns_below h.old k (Nat.le_refl _), h.olt⟩
theorem Gi.step {w : World} {b9 lo : Nat} {mc : Array Value} {c c' : Cf.Cl} {vs vs' : Array Value} {hf hm hf' hm' : List (ByteArray × ByteArray)} {lv lv' : Value} {xs : List (ByteArray × ByteArray)} {x : ByteArray × ByteArray} {lu : Value} {ys : List (ByteArray × ByteArray)} {wr W1 W2 W3 W : World}
    (h : Gi w b9 lo mc c vs hf hm lv xs lu ys wr) (k : Below wr.heap.size wr W1) (hO : OCl W1 wr.heap.size vs' c') (hg : Grw c' hf' hm' 140737488355328) (g8 : W1.grownBy W2 (some b9)) (hbx : L3.BX W2 b9 vs' 26)
    (k3 : Below W2.heap.size W2 W3) (hr : W3.grownBy W lv.ownBlock) (hown : W.ownsRow lo 44 3 lv' (xs.length + 1) (nms xs ++ nmL (hd3 x))) (hat : lv'.ownBlock = lv.ownBlock ∨ lv'.ownBlock = some W3.heap.size) :
    Gi w b9 lo mc c' vs' hf' hm' lv' (xs ++ [x]) lu ys W := by
  have h1 := h.below k
  have hlt := h.lt
  have hz1 := k.size
  have hz2 := g8.size
  have hz3 := k3.size
  have hz4 := hr.size
  have hge : ∀ i, lv.ownBlock = some i → lo ≤ i := Kit.own_base h.row
  have hrl : ∀ i, lv.ownBlock = some i → i < wr.heap.size := own_lt h.row
  have hS : ∀ i, Bad b9 lv i → i < wr.heap.size := fun i hi => by
    rcases hi with rfl | hi
    · exact h.bc.sz
    · exact hrl i hi
  have O3 : OCl W3 wr.heap.size vs' c' := (hO.grown g8 h.bc.sz).below k3 (Nat.le_refl _)
  have B3 : Below w.heap.size w W3 := belows (nwB h1.b g8 ⟨by omega, by omega⟩) k3 (by omega)
  have off : Off (Bad b9 lv) W1 W := (bad_box g8).trans ((Off.below k3).trans (bad_row hr))
  refine ⟨B3.grown hr (by omega) (fun i hi => by have := hge i hi; omega), ?_, ?_, ⟨hlt.1, hlt.2.1, by omega⟩, ?_, hg, ?_, ?_, h.olt⟩
  · exact ((((h1.bm.grown g8 (fun e => by have := Option.some.inj e; omega))).below k3 (by have := h1.bm.sz; omega)).grown hr (fun e => by have := hge _ e; omega))
  · exact (hbx.below k3 hbx.sz).grown hr (fun e => by have := hge _ e; omega)
  · refine (ClA.own O3 hg.sz2 hS).step (bad_row hr) fun i hi hb => ?_
    rcases hb with rfl | hb
    · exact .inl rfl
    · rcases hat with e | e
      · exact .inr (e ▸ hb)
      · rw [e] at hb
        have := Option.some.inj hb
        omega
  · rw [List.length_append, nms_snoc]
    exact hown
  · refine owns_off h1.old off fun i hi hb => ?_
    have h5 := h.olt i hi
    have h6 := Kit.own_base h.old i hi
    rcases hb with rfl | hb
    · omega
    · have := hge i hb
      omega
end Go.Proofs.YtjnjnfhboafcgaaGreatDoor
namespace Go.Proofs.YtjnjnfhboafcgaaGreatDoor
open Go.RowKit

theorem region_named {P : Program} {id : Nat} {ops : Array Oper} {b : Bool} {Q : Exit → Act → World → Prop} {a : Act} {w : World} (h : ∀ W, W = w → (Code.region id ops b).wp P Q a W) : (Code.region id ops b).wp P Q a w := h w rfl
end Go.Proofs.YtjnjnfhboafcgaaGreatDoor

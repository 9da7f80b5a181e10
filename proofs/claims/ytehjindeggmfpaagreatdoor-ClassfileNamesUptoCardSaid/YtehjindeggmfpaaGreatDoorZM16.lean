/- Own texts for the claim, part 16. -/
import Derived.Test.YtehjindeggmfpaaGreatDoorZM15
namespace Go.Proofs.YtehjindeggmfpaaGreatDoor
open Go.RowKit

theorem putB_max {l : List L3.Cp.C} (h : L3.CkIs l 0) : (L3.putB l).length ≤ 2000000 := by
  have h1 := L3.ck_size h
  have h2 := L3.encT_len h1.2 (L3.told l l.length)
  have h3 := L3.told_len l l.length
  unfold L3.putB
  rw [List.length_append, L3.bytesN_len]
  omega
theorem putB_pos (l : List L3.Cp.C) : 0 < (L3.putB l).length := by
  unfold L3.putB
  rw [List.length_append, L3.bytesN_len]
  omega
theorem cl_bytes (c : Cf.Cl) : [] ++ Cf.w4 3405691582 ++ [c.mi, c.ma].flatMap Cf.w2 ++ L3.putB c.pool ++ [c.ac, c.th, c.su, 0].flatMap Cf.w2 ++ Cf.w2 c.fs.length ++ c.fs.flatMap Cf.fdB ++ Cf.w2 c.ms.length ++ c.ms.flatMap (Cf.meB (Cf.cix c.pool)) ++ [0].flatMap Cf.w2 = Cf.clB c := by
  unfold Cf.clB
  simp [List.append_assoc]
theorem st6_new {W5 w9 : World} {v : Value} {l : List Int} {base cx : Nat} (B9 : Below W5.heap.size W5 w9) (ho : L3.OwnI W5 base v l) : Below W5.heap.size W5 (w9.alloc (.cells #[.int .i64 (cx : Nat)] 3)) ∧ Cel (w9.alloc (.cells #[.int .i64 (cx : Nat)] 3)) v w9.heap.size cx := by
  refine ⟨B9.alloc B9.size _, ⟨by rw [World.size_alloc]; omega, ?_, fun k hk e => ?_⟩⟩
  · rw [(L3.BX.new w9 _ _).cell]; rfl
  · have := Kit.own_lt ho k hk
    have := B9.size
    omega
theorem st6_set {W5 w9 : World} {v : Value} {l : List Int} {base cx pb : Nat} {T : TypeId} (B9 : Below W5.heap.size W5 w9) (bP : L3.BX w9 pb #[.int .i64 0] T) (hp : W5.heap.size ≤ pb) (ho : L3.OwnI W5 base v l) : Below W5.heap.size W5 (w9.setCell ⟨pb, 0, none⟩ (.int .i64 (cx : Nat))) ∧ Cel (w9.setCell ⟨pb, 0, none⟩ (.int .i64 (cx : Nat))) v pb cx := by
  refine ⟨B9.setCell (p := ⟨pb, 0, none⟩) hp _, ⟨by rw [World.size_setCell]; exact bP.sz, ?_, fun k hk e => ?_⟩⟩
  · rw [(bP.set 0 _).cell]; rfl
  · have := Kit.own_lt ho k hk
    omega
set_option maxRecDepth 100000 in
set_option maxHeartbeats 4000000 in
theorem write_any (c : Cf.Cl) (vs : Array Value) (pv : Value) (pbase : Nat) (w : World) (h : ClR w vs c) (hk : L3.CkIs c.pool 0) (hf : c.fs.length ≤ 256) (hm : c.ms.length ≤ 256) (hg : ∀ m ∈ c.ms, 0 < m.code.length ∧ m.code.length ≤ 4096 ∧ m.hs.length ≤ 64)
    (hp : L3.OwnI w pbase pv (L3.putB c.pool)) :
    Calls Tryz.prog 45 #[.agg vs, pv] w fun e w' => ∃ v', e = .returned v' ∧ L3.OwnI w' w.heap.size v' (Cf.clB c) ∧ Below w.heap.size w w' := by
  obtain ⟨i0, hi, hz0, hz1, hz2⟩ := info_parts infoB
  obtain ⟨pg, pcap, rfl, hpg, hpc⟩ := own_some hp (putB_pos _)
  obtain ⟨cv, fv, mv, rfl, hP, hF, hM⟩ := h
  obtain ⟨pa, pc, rfl⟩ := hP.len
  obtain ⟨fa, fc, rfl⟩ := hF.len
  obtain ⟨ma2, mc, rfl⟩ := hM.len
  have HPC := hid hpc
  have HCb := hid (cl_bytes c)
  have HPm := hid (putB_max hk)
  have HPl := hid (show c.pool.length * 48 ≤ 140737488355328 by have := (L3.ck_size hk).1; omega)
  have HCl := hid (And.intro hP (And.intro hF hM))
  have HGd := hid hg
  obtain ⟨mi, ma, P, ac, th, su, fs, ms⟩ := c
  dsimp only at HPC HCb HPm HPl HCl HGd hf hm ⊢
  obtain ⟨pn, hpn⟩ : ∃ n, n = (L3.putB P).length := ⟨_, rfl⟩
  have HPn := hid hpn
  rw [← hpn]
  clear hk hg hp hpc hP hF hM hpn
  go_enter Tryz.func45, Tryz.ntmps45
  go_wp2_with fail
  have bX := L3.BX.new w #[.int .i64 mi, .int .i64 ma, .slice pa P.length pc, .int .i64 ac, .int .i64 th, .int .i64 su, .slice fa fs.length fc, .slice ma2 ms.length mc] 26
  have hb1 : Below w.heap.size w (w.alloc (.cells #[.int .i64 mi, .int .i64 ma, .slice pa P.length pc, .int .i64 ac, .int .i64 th, .int .i64 su, .slice fa fs.length fc, .slice ma2 ms.length mc] 26)) := (Below.refl _ _).alloc (Nat.le_refl _) _
  obtain ⟨W1, hW1⟩ : ∃ W1, W1 = w.alloc (.cells #[.int .i64 mi, .int .i64 ma, .slice pa P.length pc, .int .i64 ac, .int .i64 th, .int .i64 su, .slice fa fs.length fc, .slice ma2 ms.length mc] 26) := ⟨_, rfl⟩
  rw [← hW1] at bX hb1 ⊢
  have BX := hid bX
  have HB1 := hid hb1
  have HC1 := hid (show Kit.IsS 5 W1 (.slice pa P.length pc) P.length (P.flatMap L3.cL) ∧ MsR W1 (.slice fa fs.length fc) fs ∧ MsR W1 (.slice ma2 ms.length mc) ms from ⟨HCl.out.1.below hb1 (Nat.le_refl _), HCl.out.2.1.below hb1 (Nat.le_refl _), HCl.out.2.2.below hb1 (Nat.le_refl _)⟩)
  clear hW1 bX hb1
  go_wp2_with (first | (go_at_call 89; refine (wpo (wu4_wr W1 _ [] _ _ (Wr.nil W1 W1 (Below.refl _ _)) (by decide))).mono ?_; rintro e Wa ⟨v1, L1, rfl, h1, HL1, g1⟩; have HE1 := hid (show L1.length = 4 from by (rw [HL1.out]; rfl)); obtain ⟨a1, k1, c1, rfl⟩ := own_form3 h1.1; have HB9 := h1.2; have bX := BX.out.below HB9 BX.out.sz; have q0 := bX.cell 0; have q1 := bX.cell 1; have q2 := bX.cell 2; have q3 := bX.cell 3; have q4 := bX.cell 4; have q5 := bX.cell 5; have q6 := bX.cell 6; have q7 := bX.cell 7; simp at q0 q1 q2 q3 q4 q5 q6 q7; clear bX HB9; have HA1 := hid h1; clear h1 g1) | (go_at_call 90; have _g := HA3; (fail_if_success (have _g := HA4)); refine (wpo (wu2_k W1 _ _ [ac, th, su, 0] _ _ 4 4 _ _ HA3.out rfl (by (have := HE3.out; have := HPm.out; omega)) rfl rfl)).mono ?_; rintro e W4 ⟨v4, L4, rfl, h4, HL4, g4⟩; have HE4 := hid (show L4.length = 16 + (L3.putB P).length from by (have h9 := congrArg List.length HL4.out; rw [List.length_append, HE3.out] at h9; have h8 : ([ac, th, su, 0].flatMap Cf.w2).length = 8 := rfl; omega)); obtain ⟨a4, k4, c4, rfl⟩ := own_form3 h4.1; have HB9 := h4.2; have bX := BX.out.below HB9 BX.out.sz; have q0 := bX.cell 0; have q1 := bX.cell 1; have q2 := bX.cell 2; have q3 := bX.cell 3; have q4 := bX.cell 4; have q5 := bX.cell 5; have q6 := bX.cell 6; have q7 := bX.cell 7; simp at q0 q1 q2 q3 q4 q5 q6 q7; clear bX HB9; have HA4 := hid h4; clear h4 g4) | (go_at_call 90; (fail_if_success (have _g := HA2)); refine (wpo (wu2_k W1 _ _ [mi, ma] _ _ 2 2 _ _ HA1.out rfl (by (have := HE1.out; omega)) rfl rfl)).mono ?_; rintro e W2 ⟨v2, L2, rfl, h2, HL2, g2⟩; have HE2 := hid (show L2.length = 8 from by (have h9 := congrArg List.length HL2.out; rw [List.length_append, HE1.out] at h9; have h8 : ([mi, ma].flatMap Cf.w2).length = 4 := rfl; omega)); obtain ⟨a2, k2, c2, rfl⟩ := own_form3 h2.1; have HB9 := h2.2; have bX := BX.out.below HB9 BX.out.sz; have q0 := bX.cell 0; have q1 := bX.cell 1; have q2 := bX.cell 2; have q3 := bX.cell 3; have q4 := bX.cell 4; have q5 := bX.cell 5; have q6 := bX.cell 6; have q7 := bX.cell 7; simp at q0 q1 q2 q3 q4 q5 q6 q7; clear bX HB9; have HA2 := hid h2; clear h2 g2) | (at_builtin; (fail_if_success (have _g := HA3)); refine wpList_append_own_at _ rfl (.tmp 16) (.tmp 17) 22 rfl W1.heap.size 5 i0 _ 1 1 Tryz.underlying22 hi hz0 hz1 hz2 rfl (by decide) _ _ _ rfl HA2.out.1 ⟨pg, 0, none⟩ pn pcap ((L3.putB P).map (Value.int .u8)) rfl (by rw [List.length_map, HPn.out, Nat.mul_one]) (fun j u hj => by (have q9 := HPC.out j u hj; rw [add_at] at q9 ⊢; exact ((belows HB1.out HA2.out.2 HB1.out.size).cell (p := ⟨pg, 0 + j, none⟩) (by simpa using hpg)).trans q9)) (ones_i _) (by (have := HPm.out; have := HPn.out; have := HE2.out; unfold maxLen; omega)) (by (have := HPm.out; have := HPn.out; have := HE2.out; omega)) HA2.out.2.size ?_; intro v3 W3 ho3 hg3 _ hk3; obtain ⟨Lc, HL3, h3⟩ := Wr.opq (HA2.out.grow (own_app rfl HPn.out ho3) (Kit.grows_append (Below.refl _ _) hg3 hk3)); have HE3 := hid (show Lc.length = 8 + (L3.putB P).length from by (rw [HL3.out, List.length_append, HE2.out])); obtain ⟨a3, k3, c3, rfl⟩ := own_form3 h3.1; have HB9 := h3.2; have bX := BX.out.below HB9 BX.out.sz; have q0 := bX.cell 0; have q1 := bX.cell 1; have q2 := bX.cell 2; have q3 := bX.cell 3; have q4 := bX.cell 4; have q5 := bX.cell 5; have q6 := bX.cell 6; have q7 := bX.cell 7; simp at q0 q1 q2 q3 q4 q5 q6 q7; clear bX HB9; have HA3 := hid h3; clear h3 ho3 hg3 hk3) | (go_at_call 91; (fail_if_success (have _g := HA5)); refine (wpo (wfs_any W1 _ _ fs _ _ HA4.out HC1.out.2.1 (by (have := HPm.out; have := HE4.out; omega)))).mono ?_; rintro e W5 ⟨v5, L5, rfl, h5, HL5, g5⟩; have HE5 := hid (show L5.length = 18 + (L3.putB P).length + 8 * fs.length from by (rw [HL5.out, List.length_append, List.length_append, HE4.out, Cf.w2_len, fds_len]; omega)); obtain ⟨a5, k5, c5, rfl⟩ := own_form3 h5.1; have HB9 := h5.2; have bX := BX.out.below HB9 BX.out.sz; have q0 := bX.cell 0; have q1 := bX.cell 1; have q2 := bX.cell 2; have q3 := bX.cell 3; have q4 := bX.cell 4; have q5 := bX.cell 5; have q6 := bX.cell 6; have q7 := bX.cell 7; simp at q0 q1 q2 q3 q4 q5 q6 q7; clear bX HB9; have HA5 := hid h5; clear h5 g5))
  have hz5 := HA5.out.2.size
  have hzb := BX.out.sz
  have hzb5 : w.heap.size < W5.heap.size := by omega
  have HF := hid (fun W (k : Below W5.heap.size W5 W) => findCode_any P _ W (HC1.out.1.below (belows HA5.out.2 k HA5.out.2.size) (Nat.le_refl _)) HPl.out)
  have HUt := hid (fun W => utf8_any Cf.codeS W)
  have cfU := fun (u : Value) (w : World) => (show (callFunc 94 #[u]).run Tryz.prog w = .ok (.enter 94 #[u]) w by kernel_rfl)
  have cfF := fun (u v : Value) (w : World) => (show (callFunc 93 #[u, v]).run Tryz.prog w = .ok (.enter 93 #[u, v]) w by kernel_rfl)
  obtain ⟨cx, hcx⟩ : ∃ n, n = Cf.cix P := ⟨_, rfl⟩
  have HCx := hid hcx
  rw [← hcx] at HF
  clear hcx
  go_region_law (first
    | (have _g := hbU; refine Kit.step_call2 rfl 93 (.tmp 34) (.tmp 35) 23 56 rfl _ _ rfl rfl (cfF _ _ _) _ (HF.out _ ?_) ?_; (first | exact B8 | exact (by repeat' first | with_reducible exact Below.refl _ _ | with_reducible assumption | with_reducible refine belows_drewN ?_ _ | with_reducible refine Below.drew ?_ | with_reducible refine Below.setCell ?_ ?_ _ | with_reducible refine Below.alloc ?_ ?_ _ | omega | (simp; done) | (simp; omega))); rintro e w9 ⟨rfl, hbF⟩; refine ⟨_, rfl, ?_⟩; have B9 : Below W5.heap.size W5 w9 := (by first | exact belows B8 hbF B8.size | exact belows B8 (below_undrew hbF) B8.size | exact belows (B8.alloc hz8 _) hbF (by simp only [World.size_alloc]; omega) | exact belows (B8.alloc hz8 _) (below_undrew hbF) (by simp only [World.size_alloc]; omega)); (try (first | (have bP := (BXi.below hbF BXi.sz); have pc0 := bP.cell 0; have pf0 := bP.frozen 0; simp at pc0) | (have bP := (BXi.below (below_undrew hbF) BXi.sz); have pc0 := bP.cell 0; have pf0 := bP.frozen 0; simp at pc0) | (have bP := (L3.BX.new w8 #[.int .i64 0] 3).below hbF (by simp); have pc0 := bP.cell 0; have pf0 := bP.frozen 0; simp at pc0) | (have bP := (L3.BX.new w8 #[.int .i64 0] 3).below (below_undrew hbF) (by simp); have pc0 := bP.cell 0; have pf0 := bP.frozen 0; simp at pc0))))
    | (refine Kit.step_call1 rfl 94 (.const (.string ⟨#[67, 111, 100, 101]⟩)) 9 rfl _ rfl (cfU _ _) _ (HUt.out _) ?_; rintro e w8 ⟨rfl, hbU⟩; refine ⟨_, rfl, ?_⟩; have B8 : Below W5.heap.size W5 w8 := (by first | exact hbU | exact below_undrew hbU | exact belows ((Below.refl _ _).alloc (Nat.le_refl _) _) hbU (by simp only [World.size_alloc]; omega) | exact belows ((Below.refl _ _).alloc (Nat.le_refl _) _) (below_undrew hbU) (by simp only [World.size_alloc]; omega)); have hz8 := B8.size; have hzb8 : w.heap.size < w8.heap.size := (by (have := HA5.out.2.size; have := BX.out.sz; omega)); have q2 := (B8.cell (p := ⟨w.heap.size, 2, none⟩) (by (have := HA5.out.2.size; simp; omega))).trans q2; (try (first | (have BXi := (L3.BX.new W5 #[.int .i64 0] 3).below hbU (by simp)) | (have BXi := (L3.BX.new W5 #[.int .i64 0] 3).below (below_undrew hbU) (by simp))))))
  all_goals
    first
      | (have hs6 := st6_set (cx := cx) (pb := w8.heap.size) B9 bP (by omega) HA5.out.1; obtain ⟨W6, hW6⟩ : ∃ W, W = w9.setCell ⟨w8.heap.size, 0, none⟩ (.int .i64 (cx : Nat)) := ⟨_, rfl⟩; rw [← hW6] at hs6 ⊢; obtain ⟨B6, C6⟩ := hs6; obtain ⟨pb, hpb⟩ : ∃ n, n = w8.heap.size := ⟨_, rfl⟩; rw [← hpb] at C6 ⊢; clear hW6 hpb)
      | (have hs6 := st6_set (cx := cx) (pb := W5.heap.size) B9 bP (Nat.le_refl _) HA5.out.1; obtain ⟨W6, hW6⟩ : ∃ W, W = w9.setCell ⟨W5.heap.size, 0, none⟩ (.int .i64 (cx : Nat)) := ⟨_, rfl⟩; rw [← hW6] at hs6 ⊢; obtain ⟨B6, C6⟩ := hs6; obtain ⟨pb, hpb⟩ : ∃ n, n = W5.heap.size := ⟨_, rfl⟩; rw [← hpb] at C6 ⊢; clear hW6 hpb)
      | (have hs6 := st6_new (cx := cx) B9 HA5.out.1; obtain ⟨W6, hW6⟩ : ∃ W, W = w9.alloc (.cells #[.int .i64 (cx : Nat)] 3) := ⟨_, rfl⟩; rw [← hW6] at hs6 ⊢; obtain ⟨B6, C6⟩ := hs6; obtain ⟨pb, hpb⟩ : ∃ n, n = w9.heap.size := ⟨_, rfl⟩; rw [← hpb] at C6 ⊢; clear hW6 hpb)
    have CC := hid C6
    have HA6 := hid (HA5.out.below B6)
    have BX6 := BX.out.below HA6.out.2 BX.out.sz
    have q7 := BX6.cell 7
    simp at q7
    clear BX6 C6 B6 B9 HF HUt cfU cfF hz5 hzb hzb5
    (go_wp2_with (first | (go_at_call 91; (fail_if_success (have _g := HA7)); refine (wpo (wms_any W1 _ _ ms _ cx pb _ HA6.out HC1.out.2.2 HGd.out hm (by (have := HE5.out; have := HPm.out; omega)) CC.out)).mono ?_; rintro e W7 ⟨v7, L7, rfl, h7, HL7, g7⟩; have HE7 := hid (show L7.length ≤ 5000000 from by (have h9 := congrArg List.length HL7.out; rw [List.length_append, List.length_append, HE5.out, Cf.w2_len] at h9; have h8 := mes_len (code := cx) HGd.out; have := HPm.out; omega)); obtain ⟨a7, k7, c7, rfl⟩ := own_form3 h7.1; have HA7 := hid h7; clear h7 g7) | (go_at_call 90; have _g := HA7; (fail_if_success (have _g := HA8)); refine (wpo (wu2_k W1 _ _ [(0 : Int)] _ _ 1 1 _ _ HA7.out rfl (by (have := HE7.out; omega)) rfl rfl)).mono ?_; rintro e W8 ⟨v8, L8, rfl, h8, HL8, g8⟩; obtain ⟨a8, k8, c8, rfl⟩ := own_form3 h8.1; have HA8 := hid h8; clear h8 g8)); go_ret; exact ⟨_, rfl, by (have e9 : L8 = Cf.clB ⟨mi, ma, P, ac, th, su, fs, ms⟩ := (by rw [HL8.out, HL7.out, HCx.out, HL5.out, HL4.out, HL3.out, HL2.out, HL1.out]; exact HCb.out); rw [← e9]; exact L3.own_mono HA8.out.1 HB1.out.size), belows HB1.out HA8.out.2 HB1.out.size⟩)
end Go.Proofs.YtehjindeggmfpaaGreatDoor
namespace Go.Proofs.YtehjindeggmfpaaGreatDoor
open Go.RowKit

/-- What Encode answers. -/
def EnPost (c : Cf.Cl) (w : World) (e : Ending) (w' : World) : Prop :=
  ∃ er, Cf.ClIs c er ∧ (er ≠ 0 → e = .returned (.tuple #[.slice none 0 0, .int .i64 er])) ∧
    (er = 0 → (65536 < (Cf.clB c).length → e = .returned (.tuple #[.slice none 0 0, .int .i64 3])) ∧ ((Cf.clB c).length ≤ 65536 → ∃ v, e = .returned (.tuple #[v, .int .i64 0]) ∧ L3.OwnI w' w.heap.size v (Cf.clB c))) ∧ Below w.heap.size w w'
set_option maxRecDepth 100000 in
set_option maxHeartbeats 2000000 in
theorem encode_any (c : Cf.Cl) (vs : Array Value) (w : World) (hk : Ck w c) (h : ClR w vs c) : Calls Tryz.prog 15 #[.agg vs] w (EnPost c w) := by
  have HC := hid (fun W (k : Below w.heap.size w W) => check_any c vs W (hk.below k) (h.below k (Nat.le_refl _)))
  have HWr := hid (fun pv pbase W (k : Below w.heap.size w W) hck hf hm hg hp => write_any c vs pv pbase W (h.below k (Nat.le_refl _)) hck hf hm hg hp)
  obtain ⟨pv, fv, mv, rfl, hp, hf, hm⟩ := h
  have HP := hid (fun W (k : Below w.heap.size w W) => L3.put_any c.pool pv W (hk.t3.below k hk.t3.size) (hp.below k (Nat.le_refl _)) hk.ps)
  obtain ⟨pa, pc, rfl⟩ := hp.len
  obtain ⟨fa, fc, rfl⟩ := hf.len
  obtain ⟨ma2, mc, rfl⟩ := hm.len
  unfold EnPost
  unfold L3.PutPost at HP
  obtain ⟨B, hB⟩ : ∃ B, B = Cf.clB c := ⟨_, rfl⟩
  rw [← hB] at HWr ⊢
  clear hk hp hf hm hB
  by_cases hlen : 65536 < B.length
  · have hd : decide (65536 < (B.length : Int)) = true := by simp; omega
    have HLn := hid hlen
    clear hlen
    go_enter Tryz.func15, Tryz.ntmps15
    go_wp2_with (first | (go_at_call 17; refine (HC.out _ (by repeat' first | with_reducible exact Below.refl _ _ | with_reducible assumption | with_reducible refine belows_drewN ?_ _ | with_reducible refine Below.drew ?_ | with_reducible refine Below.setCell ?_ ?_ _ | with_reducible refine Below.alloc ?_ ?_ _ | omega | (simp; done) | (simp; omega))).mono ?_; rintro e w1 ⟨er, hR, rfl, hb1⟩; obtain ⟨bC, hzC, B1⟩ := belows1 hb1; have HR := hid hR; have q0 := bC.cell 0; have q1 := bC.cell 1; have q2 := bC.cell 2; have q3 := bC.cell 3; have q4 := bC.cell 4; have q5 := bC.cell 5; have q6 := bC.cell 6; have q7 := bC.cell 7; simp at q0 q1 q2 q3 q4 q5 q6 q7; have BC := hid bC; clear hb1 bC; by_cases hz : er = 0; all_goals (first | (subst hz; clear hR) | (have hdd : (er != 0) = true := (by simpa using hz); have HZ := hid hz; clear hz hR))) | (go_at_call 44; refine (HP.out _ B1).mono ?_; rintro e w2 ⟨pk, hck, -, h2, hb2⟩; obtain rfl := hck.det (Cf.cl_sizes HR.out).2.2.1; obtain ⟨v2, rfl, ho2⟩ := h2 rfl; obtain ⟨a2, k2, c2, rfl⟩ := own_form3 ho2; have HO2 := hid ho2; have B2 := belows B1 hb2 B1.size; have bC := BC.out.below hb2 BC.out.sz; have q0 := bC.cell 0; have q1 := bC.cell 1; have q2 := bC.cell 2; have q3 := bC.cell 3; have q4 := bC.cell 4; have q5 := bC.cell 5; have q6 := bC.cell 6; have q7 := bC.cell 7; simp at q0 q1 q2 q3 q4 q5 q6 q7; clear hck h2 ho2 hb2 bC) | (go_at_call 45; refine (HWr.out _ _ _ B2 (Cf.cl_sizes HR.out).2.2.1 (Cf.cl_sizes HR.out).1 (Cf.cl_sizes HR.out).2.1 (Cf.cl_sizes HR.out).2.2.2 HO2.out).mono ?_; rintro e w3 ⟨v3, rfl, ho3, hb3⟩; obtain ⟨a3, c3, rfl⟩ := L3.own_form ho3; have HO3 := hid ho3; have B3 := belows B2 hb3 B2.size; clear ho3 hb3))
    · go_ret2
      exact ⟨0, HR.out, fun e => absurd rfl e, fun _ => ⟨fun _ => rfl, fun e => absurd HLn.out (by omega)⟩, B3⟩
    · go_ret2
      exact ⟨er, HR.out, fun _ => rfl, fun e => absurd e HZ.out, B1⟩
  · have hd : decide (65536 < (B.length : Int)) = false := by simp; omega
    have HLn := hid hlen
    clear hlen
    go_enter Tryz.func15, Tryz.ntmps15
    go_wp2_with (first | (go_at_call 17; refine (HC.out _ (by repeat' first | with_reducible exact Below.refl _ _ | with_reducible assumption | with_reducible refine belows_drewN ?_ _ | with_reducible refine Below.drew ?_ | with_reducible refine Below.setCell ?_ ?_ _ | with_reducible refine Below.alloc ?_ ?_ _ | omega | (simp; done) | (simp; omega))).mono ?_; rintro e w1 ⟨er, hR, rfl, hb1⟩; obtain ⟨bC, hzC, B1⟩ := belows1 hb1; have HR := hid hR; have q0 := bC.cell 0; have q1 := bC.cell 1; have q2 := bC.cell 2; have q3 := bC.cell 3; have q4 := bC.cell 4; have q5 := bC.cell 5; have q6 := bC.cell 6; have q7 := bC.cell 7; simp at q0 q1 q2 q3 q4 q5 q6 q7; have BC := hid bC; clear hb1 bC; by_cases hz : er = 0; all_goals (first | (subst hz; clear hR) | (have hdd : (er != 0) = true := (by simpa using hz); have HZ := hid hz; clear hz hR))) | (go_at_call 44; refine (HP.out _ B1).mono ?_; rintro e w2 ⟨pk, hck, -, h2, hb2⟩; obtain rfl := hck.det (Cf.cl_sizes HR.out).2.2.1; obtain ⟨v2, rfl, ho2⟩ := h2 rfl; obtain ⟨a2, k2, c2, rfl⟩ := own_form3 ho2; have HO2 := hid ho2; have B2 := belows B1 hb2 B1.size; have bC := BC.out.below hb2 BC.out.sz; have q0 := bC.cell 0; have q1 := bC.cell 1; have q2 := bC.cell 2; have q3 := bC.cell 3; have q4 := bC.cell 4; have q5 := bC.cell 5; have q6 := bC.cell 6; have q7 := bC.cell 7; simp at q0 q1 q2 q3 q4 q5 q6 q7; clear hck h2 ho2 hb2 bC) | (go_at_call 45; refine (HWr.out _ _ _ B2 (Cf.cl_sizes HR.out).2.2.1 (Cf.cl_sizes HR.out).1 (Cf.cl_sizes HR.out).2.1 (Cf.cl_sizes HR.out).2.2.2 HO2.out).mono ?_; rintro e w3 ⟨v3, rfl, ho3, hb3⟩; obtain ⟨a3, c3, rfl⟩ := L3.own_form ho3; have HO3 := hid ho3; have B3 := belows B2 hb3 B2.size; clear ho3 hb3))
    · go_ret2
      exact ⟨0, HR.out, fun e => absurd rfl e, fun _ => ⟨fun e => absurd e HLn.out, fun _ => ⟨_, rfl, L3.own_mono HO3.out B2.size⟩⟩, B3⟩
    · go_ret2
      exact ⟨er, HR.out, fun _ => rfl, fun e => absurd e HZ.out, B1⟩
end Go.Proofs.YtehjindeggmfpaaGreatDoor
namespace Go.Proofs.YtehjindeggmfpaaGreatDoor
open Go.RowKit

set_option maxRecDepth 100000 in
set_option maxHeartbeats 400000 in
theorem rsc_any (l : List L3.Cp.C) (v u : Value) (w : World) (hv : Kit.IsS 5 w v l.length (l.flatMap L3.cL)) (hu : Kit.IsS 5 w u l.length (l.flatMap L3.cL)) :
    Calls Tryz.prog 42 #[v, u] w fun e w' => e = .returned (.bool true) ∧ Below w.heap.size w w' := by
  have HV := hid hv
  have HU := hid hu
  obtain ⟨a1, cap1, hv2⟩ := hv.len
  obtain ⟨a2, cap2, hu2⟩ := hu.len
  subst hv2 hu2
  have hlen := hv.2.1
  clear hv hu
  go_enter Tryz.func42, Tryz.ntmps42
  go_wp2
  go_loopw [5] (fun i wr => ∃ k : Nat, k ≤ l.length ∧ i = .int .i64 k ∧ Below w.heap.size w wr) (fun i _ => l.length - (intOf i).toNat)
  case atStart => exact ⟨0, by omega, rfl, (by repeat' first | with_reducible exact Below.refl _ _ | with_reducible assumption | with_reducible refine belows_drewN ?_ _ | with_reducible refine Below.drew ?_ | with_reducible refine Below.setCell ?_ ?_ _ | with_reducible refine Below.alloc ?_ ?_ _ | omega | (simp; done) | (simp; omega))⟩
  case round =>
    obtain ⟨k, hk, rfl, hbl⟩ := hrel
    have hbz := hbl.size
    by_cases hlt : k < l.length
    · obtain ⟨x, hx⟩ : ∃ x, l[k]? = some x := ⟨l[k], List.getElem?_eq_getElem hlt⟩
      obtain ⟨b, o, cap', hv, hb, c0, c1, c2, c3, c4⟩ := L3.c_at (HV.out.below hbl (Nat.le_refl _)) hx
      obtain ⟨rfl, -, rfl⟩ := Value.slice.inj hv
      obtain ⟨b', o', cap', hv', hb', d0, d1, d2, d3, d4⟩ := L3.c_at (HU.out.below hbl (Nat.le_refl _)) hx
      obtain ⟨rfl, -, rfl⟩ := Value.slice.inj hv'
      have i1 : (k : Int) < (l.length : Int) := by omega
      clear hx hv hv'
      go_wp2
      go_quiet (fail)
      go_wp2
      go_roundw
      case rel => exact ⟨k + 1, by omega, by go_num, (by repeat' first | with_reducible exact Below.refl _ _ | with_reducible assumption | with_reducible refine belows_drewN ?_ _ | with_reducible refine Below.drew ?_ | with_reducible refine Below.setCell ?_ ?_ _ | with_reducible refine Below.alloc ?_ ?_ _ | omega | (simp; done) | (simp; omega))⟩
      case measure => simp [intOf]; omega
    · obtain rfl : k = l.length := by omega
      go_wp2
      go_ret
      exact ⟨rfl, (by repeat' first | with_reducible exact Below.refl _ _ | with_reducible assumption | with_reducible refine belows_drewN ?_ _ | with_reducible refine Below.drew ?_ | with_reducible refine Below.setCell ?_ ?_ _ | with_reducible refine Below.alloc ?_ ?_ _ | omega | (simp; done) | (simp; omega))⟩
set_option maxRecDepth 100000 in
set_option maxHeartbeats 400000 in
theorem rsh_any (l : List Cf.Hn) (v u : Value) (w : World) (hv : Kit.IsS 4 w v l.length (l.flatMap hL)) (hu : Kit.IsS 4 w u l.length (l.flatMap hL)) :
    Calls Tryz.prog 84 #[v, u] w fun e w' => e = .returned (.bool true) ∧ Below w.heap.size w w' := by
  have HV := hid hv
  have HU := hid hu
  obtain ⟨a1, cap1, hv2⟩ := hv.len
  obtain ⟨a2, cap2, hu2⟩ := hu.len
  subst hv2 hu2
  have hlen := hv.2.1
  clear hv hu
  go_enter Tryz.func84, Tryz.ntmps84
  go_wp2
  go_loopw [5] (fun i wr => ∃ k : Nat, k ≤ l.length ∧ i = .int .i64 k ∧ Below w.heap.size w wr) (fun i _ => l.length - (intOf i).toNat)
  case atStart => exact ⟨0, by omega, rfl, (by repeat' first | with_reducible exact Below.refl _ _ | with_reducible assumption | with_reducible refine belows_drewN ?_ _ | with_reducible refine Below.drew ?_ | with_reducible refine Below.setCell ?_ ?_ _ | with_reducible refine Below.alloc ?_ ?_ _ | omega | (simp; done) | (simp; omega))⟩
  case round =>
    obtain ⟨k, hk, rfl, hbl⟩ := hrel
    have hbz := hbl.size
    by_cases hlt : k < l.length
    · obtain ⟨x, hx⟩ : ∃ x, l[k]? = some x := ⟨l[k], List.getElem?_eq_getElem hlt⟩
      obtain ⟨b, o, cap', hv, hb, c0, c1, c2, c3⟩ := h_at (HV.out.below hbl (Nat.le_refl _)) hx
      obtain ⟨rfl, -, rfl⟩ := Value.slice.inj hv
      obtain ⟨b', o', cap', hv', hb', d0, d1, d2, d3⟩ := h_at (HU.out.below hbl (Nat.le_refl _)) hx
      obtain ⟨rfl, -, rfl⟩ := Value.slice.inj hv'
      have i1 : (k : Int) < (l.length : Int) := by omega
      clear hx hv hv'
      go_wp2
      go_quiet (fail)
      go_wp2
      go_roundw
      case rel => exact ⟨k + 1, by omega, by go_num, (by repeat' first | with_reducible exact Below.refl _ _ | with_reducible assumption | with_reducible refine belows_drewN ?_ _ | with_reducible refine Below.drew ?_ | with_reducible refine Below.setCell ?_ ?_ _ | with_reducible refine Below.alloc ?_ ?_ _ | omega | (simp; done) | (simp; omega))⟩
      case measure => simp [intOf]; omega
    · obtain rfl : k = l.length := by omega
      go_wp2
      go_ret
      exact ⟨rfl, (by repeat' first | with_reducible exact Below.refl _ _ | with_reducible assumption | with_reducible refine belows_drewN ?_ _ | with_reducible refine Below.drew ?_ | with_reducible refine Below.setCell ?_ ?_ _ | with_reducible refine Below.alloc ?_ ?_ _ | omega | (simp; done) | (simp; omega))⟩
set_option maxRecDepth 100000 in
set_option maxHeartbeats 1000000 in
theorem rsm_any (ms : List Cf.Mb) (v u : Value) (w : World) (hv : MsR w v ms) (hu : MsR w u ms) :
    Calls Tryz.prog 43 #[v, u] w fun e w' => e = .returned (.bool true) ∧ Below w.heap.size w w' := by
  have HV := hid hv
  have HU := hid hu
  obtain ⟨a1, cap1, hv2⟩ := hv.len
  obtain ⟨a2, cap2, hu2⟩ := hu.len
  subst hv2 hu2
  have hlen := hv.size
  clear hv hu
  go_enter Tryz.func43, Tryz.ntmps43
  go_wp2
  go_loopw [5] (fun i wr => ∃ k : Nat, k ≤ ms.length ∧ i = .int .i64 k ∧ Below w.heap.size w wr) (fun i _ => ms.length - (intOf i).toNat)
  case atStart => exact ⟨0, by omega, rfl, (by repeat' first | with_reducible exact Below.refl _ _ | with_reducible assumption | with_reducible refine belows_drewN ?_ _ | with_reducible refine Below.drew ?_ | with_reducible refine Below.setCell ?_ ?_ _ | with_reducible refine Below.alloc ?_ ?_ _ | omega | (simp; done) | (simp; omega))⟩
  case round =>
    obtain ⟨k, hk, rfl, hbl⟩ := hrel
    have hbz := hbl.size
    by_cases hlt : k < ms.length
    · obtain ⟨⟨ac, nm, ds, st, lc, co, hs9⟩, hx⟩ : ∃ x, ms[k]? = some x := ⟨ms[k], List.getElem?_eq_getElem hlt⟩
      obtain ⟨b, o, cap', cv, hw, hv2, hbb, hB, hH, hcl, c0, c1, c2, c3, c4, c5, c6⟩ := (HV.out.below hbl (Nat.le_refl _)).at hx
      obtain ⟨b2, o2, cap2', cv2, hw2, hu2, hbb2, hB2, hH2, -, d0, d1, d2, d3, d4, d5, d6⟩ := (HU.out.below hbl (Nat.le_refl _)).at hx
      obtain ⟨rfl, -, rfl⟩ := Value.slice.inj hv2
      obtain ⟨rfl, -, rfl⟩ := Value.slice.inj hu2
      have hki : (k : Int) < (ms.length : Int) := by omega
      dsimp only at c0 c1 c2 c3 c4 c5 c6 d0 d1 d2 d3 d4 d5 d6 hB hH hB2 hH2
      have HHs := hid (fun W (k : Below wr.heap.size wr W) => rsh_any hs9 _ _ W (hH.below k (Nat.le_refl _)) (hH2.below k (Nat.le_refl _)))
      obtain ⟨xa, xc, rfl⟩ := hB.len
      obtain ⟨ya, yc, rfl⟩ := hH.len
      obtain ⟨xa2, xc2, rfl⟩ := hB2.len
      obtain ⟨ya2, yc2, rfl⟩ := hH2.len
      have B7 : Below wr.heap.size wr ((wr.alloc (.cells #[.int .i64 ac, .int .i64 nm, .int .i64 ds, .int .i64 st, .int .i64 lc, .slice xa co.length xc, .slice ya hs9.length yc] 42)).alloc (.cells #[.int .i64 ac, .int .i64 nm, .int .i64 ds, .int .i64 st, .int .i64 lc, .slice xa2 co.length xc2, .slice ya2 hs9.length yc2] 42)) := (by repeat' first | with_reducible exact Below.refl _ _ | with_reducible assumption | with_reducible refine belows_drewN ?_ _ | with_reducible refine Below.drew ?_ | with_reducible refine Below.setCell ?_ ?_ _ | with_reducible refine Below.alloc ?_ ?_ _ | omega | (simp; done) | (simp; omega))
      have hv7 := L3.bs_conv ((hB.below B7 (Nat.le_refl _)).mono B7.size)
      have hu7 := L3.bs_conv ((hB2.below B7 (Nat.le_refl _)).mono B7.size)
      clear hx hv2 hu2 hB hH hB2 hH2 hcl
      go_wp2_with (go_at_call 84; refine (HHs.out _ B7).mono ?_; rintro e W8 ⟨rfl, hb8⟩; have B8 := belows B7 hb8 B7.size)
      go_roundw
      case rel => exact ⟨k + 1, by omega, by go_num, belows hbl B8 hbz⟩
      case measure => simp [intOf]; omega
    · obtain rfl : k = ms.length := by omega
      go_wp2
      go_ret
      exact ⟨rfl, (by repeat' first | with_reducible exact Below.refl _ _ | with_reducible assumption | with_reducible refine belows_drewN ?_ _ | with_reducible refine Below.drew ?_ | with_reducible refine Below.setCell ?_ ?_ _ | with_reducible refine Below.alloc ?_ ?_ _ | omega | (simp; done) | (simp; omega))⟩
set_option maxRecDepth 100000 in
set_option maxHeartbeats 1000000 in
theorem rsame_any (c : Cf.Cl) (vs us : Array Value) (w : World) (hv : ClR w vs c) (hu : ClR w us c) :
    Calls Tryz.prog 14 #[.agg vs, .agg us] w fun e w' => e = .returned (.bool true) ∧ Below w.heap.size w w' := by
  obtain ⟨pv, fv, mv, rfl, hp, hf, hm⟩ := hv
  obtain ⟨qv, gv, nv, rfl, kp, kf, km⟩ := hu
  have HP := hid (fun W (k : Below w.heap.size w W) => rsc_any c.pool pv qv W (hp.below k (Nat.le_refl _)) (kp.below k (Nat.le_refl _)))
  have HF := hid (fun W (k : Below w.heap.size w W) => rsm_any c.fs fv gv W (hf.below k (Nat.le_refl _)) (kf.below k (Nat.le_refl _)))
  have HM := hid (fun W (k : Below w.heap.size w W) => rsm_any c.ms mv nv W (hm.below k (Nat.le_refl _)) (km.below k (Nat.le_refl _)))
  obtain ⟨pa, pc, rfl⟩ := hp.len
  obtain ⟨fa, fc, rfl⟩ := hf.len
  obtain ⟨ma2, mc, rfl⟩ := hm.len
  obtain ⟨pa', pc', rfl⟩ := kp.len
  obtain ⟨fa', fc', rfl⟩ := kf.len
  obtain ⟨ma2', mc', rfl⟩ := km.len
  clear hp hf hm kp kf km
  go_enter Tryz.func14, Tryz.ntmps14
  go_wp2_with (first | (go_at_call 42; refine (HP.out _ (by repeat' first | with_reducible exact Below.refl _ _ | with_reducible assumption | with_reducible refine belows_drewN ?_ _ | with_reducible refine Below.drew ?_ | with_reducible refine Below.setCell ?_ ?_ _ | with_reducible refine Below.alloc ?_ ?_ _ | omega | (simp; done) | (simp; omega))).mono ?_; rintro e w1 ⟨rfl, hb1⟩; obtain ⟨bC, bD, hz1, B1⟩ := boxes2 hb1; have q6 := bC.cell 6; have r6 := bD.cell 6; have q7 := bC.cell 7; have r7 := bD.cell 7; simp at q6 q7 r6 r7; have bC1 := bC; have bD1 := bD; clear hb1) | (go_at_call 43; have _g := B2; refine (HM.out _ B2).mono ?_; rintro e w3 ⟨rfl, hb3⟩; have B3 := belows B2 hb3 B2.size) | (go_at_call 43; refine (HF.out _ B1).mono ?_; rintro e w2 ⟨rfl, hb2⟩; have B2 := belows B1 hb2 B1.size; have bC := bC1.below hb2 bC1.sz; have bD := bD1.below hb2 bD1.sz; have q7 := bC.cell 7; have r7 := bD.cell 7; simp at q7 r7))
  go_ret
  exact ⟨rfl, B3⟩
end Go.Proofs.YtehjindeggmfpaaGreatDoor
namespace Go.Proofs.YtehjindeggmfpaaGreatDoor
open Go.RowKit

theorem AdS.det {l : List L3.Cp.C} {er : Int} {c : L3.Cp.C} {m m' : List L3.Cp.C} {i i' : Nat} {e e' : Int} (h : AdS l er c m i e) (k : AdS l er c m' i' e') : m = m' ∧ i = i' ∧ e = e' := by
  rcases h with ⟨h1, rfl, rfl, rfl⟩ | ⟨rfl, h⟩ <;> rcases k with ⟨k1, rfl, rfl, rfl⟩ | ⟨k0, k⟩
  · exact ⟨rfl, rfl, rfl⟩
  · exact absurd k0 h1
  · exact absurd rfl k1
  · exact L3.AdIs.det h k
theorem NwIs.det {a b : ByteArray} {c c' : Cf.Cl} {er er' : Int} (h : NwIs a b c er) (k : NwIs a b c' er') : c = c' ∧ er = er' := by
  unfold NwIs at h k
  split at h
  · rename_i h1; rw [if_pos h1] at k; exact ⟨h.1.trans k.1.symm, h.2.trans k.2.symm⟩
  · rename_i h1
    rw [if_neg h1] at k
    split at h
    · rename_i h2; rw [if_pos h2] at k; exact ⟨h.1.trans k.1.symm, h.2.trans k.2.symm⟩
    · rename_i h2
      rw [if_neg h2] at k
      obtain ⟨m0, i0, e0, m1, i1, e1, m2, i2, e2, m3, i3, e3, m4, i4, e4, a0, a1, a2, a3, a4, h⟩ := h
      obtain ⟨m0', i0', e0', m1', i1', e1', m2', i2', e2', m3', i3', e3', m4', i4', e4', b0, b1, b2, b3, b4, k⟩ := k
      obtain ⟨rfl, rfl, rfl⟩ := a0.det b0
      obtain ⟨rfl, rfl, rfl⟩ := a1.det b1
      obtain ⟨rfl, rfl, rfl⟩ := a2.det b2
      obtain ⟨rfl, rfl, rfl⟩ := a3.det b3
      obtain ⟨rfl, rfl, rfl⟩ := a4.det b4
      split at h
      · rename_i h3; rw [if_pos h3] at k; exact ⟨h.1.trans k.1.symm, h.2.trans k.2.symm⟩
      · rename_i h3; rw [if_neg h3] at k; exact ⟨h.1.trans k.1.symm, h.2.trans k.2.symm⟩
theorem ad_new {l : List L3.Cp.C} {c : L3.Cp.C} (h1 : L3.CkIs l 0) (h2 : L3.ceOut c = 0) (h3 : (l.drop 1).all (fun x => decide (x ≠ c)) = true) (h4 : (L3.appE (L3.hdP l) c).length ≤ 4096) : AdS l 0 c (L3.appE (L3.hdP l) c) (L3.hdP l).length 0 := by
  refine .inr ⟨rfl, .inr ⟨h1, .inr ⟨h2, .inr ⟨.inl ⟨rfl, rfl, fun j hj _ he => ?_⟩, .inr ⟨h4, rfl, rfl, rfl⟩⟩⟩⟩⟩
  rw [List.all_eq_true] at h3
  have := h3 c (by
    rw [List.mem_iff_getElem?]
    exact ⟨j - 1, by rw [List.getElem?_drop, show 1 + (j - 1) = j by omega]; exact he⟩)
  simp at this
namespace Cf
def aS : ByteArray := ⟨#[65]⟩
def oS : ByteArray := ⟨#[106, 97, 118, 97, 47, 108, 97, 110, 103, 47, 79, 98, 106, 101, 99, 116]⟩
def fS : ByteArray := ⟨#[102]⟩
def dS : ByteArray := ⟨#[40, 41, 73]⟩
def p2 : List L3.Cp.C := [L3.Cp.C0, codeC]
def p3 : List L3.Cp.C := p2 ++ [⟨1, aS, 0, 0, 0⟩]
def p4 : List L3.Cp.C := p3 ++ [⟨7, ⟨#[]⟩, 0, 2, 0⟩]
def p5 : List L3.Cp.C := p4 ++ [⟨1, oS, 0, 0, 0⟩]
def p6 : List L3.Cp.C := p5 ++ [⟨7, ⟨#[]⟩, 0, 4, 0⟩]
def p7 : List L3.Cp.C := p6 ++ [⟨1, fS, 0, 0, 0⟩]
def p8 : List L3.Cp.C := p7 ++ [⟨1, dS, 0, 0, 0⟩]
def kA : Cl := ⟨0, 52, p6, 33, 3, 5, [], []⟩
def mF0 : Mb := ⟨8, 0, 0, 1, 0, [4, 172], []⟩
def mF : Mb := ⟨8, 6, 7, 1, 0, [4, 172], []⟩
def kF : Cl := ⟨0, 52, p8, 33, 3, 5, [], [mF]⟩
set_option maxRecDepth 100000
theorem ck0 : L3.CkIs [] 0 := L3.ck_all.2 ⟨by decide, by decide +kernel⟩
theorem ck2 : L3.CkIs p2 0 := L3.ck_all.2 ⟨by decide +kernel, by decide +kernel⟩
theorem ck3 : L3.CkIs p3 0 := L3.ck_all.2 ⟨by decide +kernel, by decide +kernel⟩
theorem ck4 : L3.CkIs p4 0 := L3.ck_all.2 ⟨by decide +kernel, by decide +kernel⟩
theorem ck5 : L3.CkIs p5 0 := L3.ck_all.2 ⟨by decide +kernel, by decide +kernel⟩
theorem ck6 : L3.CkIs p6 0 := L3.ck_all.2 ⟨by decide +kernel, by decide +kernel⟩
theorem ck7 : L3.CkIs p7 0 := L3.ck_all.2 ⟨by decide +kernel, by decide +kernel⟩
theorem ck8 : L3.CkIs p8 0 := L3.ck_all.2 ⟨by decide +kernel, by decide +kernel⟩
theorem ad2 : AdS [] 0 codeC p2 1 0 := ad_new ck0 (by decide +kernel) (by decide +kernel) (by decide +kernel)
theorem ad3 : AdS p2 0 ⟨1, aS, 0, 0, 0⟩ p3 2 0 := ad_new ck2 (by decide +kernel) (by decide +kernel) (by decide +kernel)
theorem ad4 : AdS p3 0 ⟨7, ⟨#[]⟩, 0, (2 : Nat), 0⟩ p4 3 0 := ad_new ck3 (by decide +kernel) (by decide +kernel) (by decide +kernel)
theorem ad5 : AdS p4 0 ⟨1, oS, 0, 0, 0⟩ p5 4 0 := ad_new ck4 (by decide +kernel) (by decide +kernel) (by decide +kernel)
theorem ad6 : AdS p5 0 ⟨7, ⟨#[]⟩, 0, (4 : Nat), 0⟩ p6 5 0 := ad_new ck5 (by decide +kernel) (by decide +kernel) (by decide +kernel)
theorem ad7 : AdS p6 0 ⟨1, fS, 0, 0, 0⟩ p7 6 0 := ad_new ck6 (by decide +kernel) (by decide +kernel) (by decide +kernel)
theorem ad8 : AdS p7 0 ⟨1, dS, 0, 0, 0⟩ p8 7 0 := ad_new ck7 (by decide +kernel) (by decide +kernel) (by decide +kernel)
theorem nw_A : NwIs aS oS kA 0 := by
  unfold NwIs
  rw [if_neg (by decide +kernel), if_neg (by decide +kernel)]
  exact ⟨p2, 1, 0, p3, 2, 0, p4, 3, 0, p5, 4, 0, p6, 5, 0, ad2, ad3, ad4, ad5, ad6, by rw [if_neg (by decide)]; exact ⟨rfl, rfl⟩⟩
theorem dec_F : ∃ l, L1.Op1.DecOut [4, 172] l 0 :=
  ⟨_, .ok (by decide) (by decide) (.snoc (.snoc .nil (by decide +kernel)) (by decide +kernel)) (by decide +kernel)⟩
theorem cl_F : ClIs kF 0 := by
  refine FstR.all fun k hk => ?_
  match k, hk with
  | 0, _ =>
    show HdIs kF 0
    unfold HdIs
    rw [if_neg (by decide +kernel)]
    refine ⟨0, ck8, ?_⟩
    rw [if_neg (by decide), if_neg (by decide +kernel), if_neg (by decide +kernel), if_neg (by decide +kernel), if_neg (by decide +kernel)]
  | 1, _ => exact FstR.all fun k hk => by cases hk
  | 2, _ =>
    refine FstR.all fun k hk => ?_
    obtain rfl : k = 0 := by have : k < 1 := hk; omega
    refine ⟨mF, rfl, ?_⟩
    unfold meIs
    rw [if_neg (by decide +kernel), if_neg (by decide +kernel), if_neg (by decide +kernel), if_neg (by decide +kernel), if_neg (by decide +kernel)]
    obtain ⟨l, hl⟩ := dec_F
    refine ⟨l, 0, hl, ?_⟩
    rw [if_neg (by decide), if_neg (by decide +kernel)]
    exact FstR.all fun k hk => by cases hk
  | 3, _ => exact ⟨_, _, cix_fi p8, by decide +kernel⟩
end Cf
end Go.Proofs.YtehjindeggmfpaaGreatDoor
namespace Go.Proofs.YtehjindeggmfpaaGreatDoor
open Go.RowKit

theorem code2 (W0 : World) (T : TypeId) : L3.Bs (W0.alloc (.cells #[.int .u8 4, .int .u8 172] T)).heap.size (W0.alloc (.cells #[.int .u8 4, .int .u8 172] T)) (.slice (some ⟨W0.heap.size, 0, none⟩) 2 2) [4, 172] := by
  refine ⟨by decide, .inr ⟨W0.heap.size, 0, 2, rfl, by decide, by rw [World.size_alloc]; omega, fun i c hi => ?_⟩⟩
  rw [(L3.BX.new W0 _ _).cell]
  match i, hi with
  | 0, hi => simp at hi; subst hi; rfl
  | 1, hi => simp at hi; subst hi; rfl
  | i + 2, hi => simp at hi
def NaPost (w : World) (e : Ending) (w' : World) : Prop := ∃ pa pc fa fc ma mc, e = .returned (.tuple #[.agg #[.int .i64 0, .int .i64 52, .slice pa 6 pc, .int .i64 33, .int .i64 3, .int .i64 5, .slice fa 0 fc, .slice ma 0 mc], .int .i64 0]) ∧
  ClR w' #[.int .i64 0, .int .i64 52, .slice pa 6 pc, .int .i64 33, .int .i64 3, .int .i64 5, .slice fa 0 fc, .slice ma 0 mc] Cf.kA ∧ Below w.heap.size w w'
theorem newA (w : World) (t3 : L3.Tabs w) : Calls Tryz.prog 30 #[.string ⟨#[65]⟩, .string ⟨#[106, 97, 118, 97, 47, 108, 97, 110, 103, 47, 79, 98, 106, 101, 99, 116]⟩] w (NaPost w) := by
  refine (new_any Cf.aS Cf.oS w t3).mono ?_
  rintro e w1 ⟨c, er, vs, hN, rfl, hR, -, hb⟩
  obtain ⟨rfl, rfl⟩ := NwIs.det hN Cf.nw_A
  have hR2 := hR
  obtain ⟨pv, fv, mv, rfl, hp, hf, hm⟩ := hR
  obtain ⟨pa, pc, rfl⟩ := hp.len
  obtain ⟨fa, fc, rfl⟩ := hf.len
  obtain ⟨ma, mc, rfl⟩ := hm.len
  exact ⟨pa, pc, fa, fc, ma, mc, rfl, hR2, hb⟩
def WfPost (w : World) (e : Ending) (w' : World) : Prop := ∃ pa pc fa fc ma mc, e = .returned (.tuple #[.agg #[.int .i64 0, .int .i64 52, .slice pa 8 pc, .int .i64 33, .int .i64 3, .int .i64 5, .slice fa 0 fc, .slice ma 1 mc], .int .i64 0]) ∧
  OCl w' w.heap.size #[.int .i64 0, .int .i64 52, .slice pa 8 pc, .int .i64 33, .int .i64 3, .int .i64 5, .slice fa 0 fc, .slice ma 1 mc] Cf.kF ∧ Below w.heap.size w w'
theorem szF : Cf.Sz Cf.kF := ⟨by show (8 : Nat) ≤ _; decide, by show (0 : Nat) ≤ _; decide, by show (1 : Nat) ≤ _; decide⟩
theorem szA : Cf.Szc Cf.kA := ⟨by decide +kernel, by decide, by decide, fun m hm => by (cases hm), fun m hm => by (cases hm)⟩
theorem pzA : PoolSz Cf.kA.pool := ⟨by decide +kernel, by decide +kernel⟩
theorem pzF : PoolSz Cf.kF.pool := ⟨by decide +kernel, by decide +kernel⟩
theorem withF (w : World) (t1 : L1.Tabs w) (t3 : L3.Tabs w) (vs : Array Value) (hR : ClR w vs Cf.kA) (g : Nat) (hB : L3.Bs w.heap.size w (.slice (some ⟨g, 0, none⟩) 2 2) [4, 172]) :
    Calls Tryz.prog 28 #[.agg vs, .string ⟨#[102]⟩, .string ⟨#[40, 41, 73]⟩, .agg #[.int .i64 8, .int .i64 0, .int .i64 0, .int .i64 1, .int .i64 0, .slice (some ⟨g, 0, none⟩) 2 2, .slice none 0 0]] w (WfPost w) := by
  refine (withMethod_any Cf.kA vs Cf.mF0 (.slice (some ⟨g, 0, none⟩) 2 2) (.slice none 0 0) Cf.fS Cf.dS w ⟨t1, t3, pzA.1, pzA.2⟩ hR szA pzA hB ⟨rfl, by decide, .inl ⟨rfl, none, 0, rfl⟩⟩ (by decide) (by decide) (by decide) (by decide) (by decide)).mono ?_
  rintro e w1 ⟨l1, i1, e1, l2, i2, e2, h1, h2, h3, hb⟩
  obtain ⟨rfl, rfl, rfl⟩ := h1.det Cf.ad7
  obtain ⟨rfl, rfl, rfl⟩ := h2.det Cf.ad8
  rcases h3 with ⟨h, -⟩ | ⟨-, ⟨-, vs', rfl, hO, -⟩ | ⟨er, hz, hc, -⟩⟩
  · exact absurd rfl h
  · have hR2 : ClR w1 vs' Cf.kF := hO.reads szF
    have hR3 : OCl w1 w.heap.size vs' Cf.kF := hO
    obtain ⟨pv, fv, mv, rfl, hp, hf, hm⟩ := hR2
    obtain ⟨pa, pc, rfl⟩ := hp.len
    obtain ⟨fa, fc, rfl⟩ := hf.len
    obtain ⟨ma, mc, rfl⟩ := hm.len
    exact ⟨pa, pc, fa, fc, ma, mc, rfl, hR3, hb⟩
  · exact absurd (Cf.ClIs.det hc Cf.cl_F) hz
theorem lenF : (Cf.clB Cf.kF).length = 98 := by decide +kernel
theorem headF : (Cf.clB Cf.kF)[0]? = some 202 := by decide +kernel
theorem bytF : L3.Byt (Cf.clB Cf.kF) := by unfold L3.Byt; decide +kernel
theorem i6F : ∀ x ∈ Cf.kF.pool, L3.I6 x.n := by unfold L3.I6; decide +kernel
theorem backF : Cf.clP (L3.bsOf (Cf.clB Cf.kF)) = .ok (Cf.kF, []) :=
  Cf.cl_back (Cf.cl_ranges Cf.cl_F i6F ⟨⟨by decide, by decide⟩, fun m hm => (by cases hm), fun m hm => (by
    obtain rfl := List.mem_singleton.1 hm
    exact ⟨by decide, by decide⟩)⟩)
def EfPost (w : World) (e : Ending) (w' : World) : Prop := ∃ g cap, e = .returned (.tuple #[.slice (some ⟨g, 0, none⟩) 98 cap, .int .i64 0]) ∧ L3.Bs w'.heap.size w' (.slice (some ⟨g, 0, none⟩) 98 cap) (L3.bsOf (Cf.clB Cf.kF)) ∧ w'.cell? ⟨g, 0, none⟩ = some (.int .u8 202) ∧ Below w.heap.size w w'
theorem encF (w : World) (t1 : L1.Tabs w) (t3 : L3.Tabs w) (vs : Array Value) (hR : ClR w vs Cf.kF) : Calls Tryz.prog 15 #[.agg vs] w (EfPost w) := by
  refine (encode_any Cf.kF vs w ⟨t1, t3, pzF.1, pzF.2⟩ hR).mono ?_
  rintro e w1 ⟨er, hc, -, h, hb⟩
  obtain rfl := Cf.ClIs.det hc Cf.cl_F
  obtain ⟨v, rfl, hO⟩ := (h rfl).2 (by rw [lenF]; decide)
  obtain ⟨g, cap, rfl, hg, hcl⟩ := own_some hO (by rw [lenF]; decide)
  have h0 := hcl 0 (.int .u8 202) (by rw [List.getElem?_map, headF]; rfl)
  rw [add_at] at h0
  have hbs := L3.bs_of_own hO bytF (by rw [lenF]; decide)
  rw [lenF] at hbs ⊢
  exact ⟨g, cap, rfl, hbs, h0, hb⟩
def DfPost (w : World) (e : Ending) (w' : World) : Prop := ∃ pa pc fa fc ma mc, e = .returned (.tuple #[.agg #[.int .i64 0, .int .i64 52, .slice pa 8 pc, .int .i64 33, .int .i64 3, .int .i64 5, .slice fa 0 fc, .slice ma 1 mc], .int .i64 0]) ∧
  ClR w' #[.int .i64 0, .int .i64 52, .slice pa 8 pc, .int .i64 33, .int .i64 3, .int .i64 5, .slice fa 0 fc, .slice ma 1 mc] Cf.kF ∧ Below w.heap.size w w'
theorem decF (w : World) (t1 : L1.Tabs w) (t3 : L3.Tabs w) (v : Value) (hv : L3.Bs w.heap.size w v (L3.bsOf (Cf.clB Cf.kF))) : Calls Tryz.prog 11 #[v] w (DfPost w) := by
  refine (decode_any _ v w t1 t3 hv).mono ?_
  rintro e w1 ⟨c, er, vs, hD, rfl, hR, -, -, hb⟩
  unfold Cf.DcIs at hD
  rw [if_neg (by rw [L3.bsOf_len, lenF]; decide), backF] at hD
  obtain ⟨e2, hc, hD⟩ := hD
  obtain rfl := Cf.ClIs.det hc Cf.cl_F
  rw [if_pos rfl] at hD
  obtain ⟨rfl, rfl⟩ := hD
  have hR3 := hR
  obtain ⟨pv, fv, mv, rfl, hp, hf, hm⟩ := hR
  obtain ⟨pa, pc, rfl⟩ := hp.len
  obtain ⟨fa, fc, rfl⟩ := hf.len
  obtain ⟨ma, mc, rfl⟩ := hm.len
  exact ⟨pa, pc, fa, fc, ma, mc, rfl, hR3, hb⟩
end Go.Proofs.YtehjindeggmfpaaGreatDoor
namespace Go.Proofs.YtehjindeggmfpaaGreatDoor
open Go.RowKit

set_option maxRecDepth 100000 in
set_option maxHeartbeats 1000000 in
theorem begun_any (w : World) (t1 : L1.Tabs w) (t3 : L3.Tabs w) : Calls Tryz.prog 13 #[] w fun e w' => e = .returned (.bool true) ∧ Below w.heap.size w w' := by
  have HT := hid (And.intro t1 t3)
  clear t1 t3
  go_enter Tryz.func13, Tryz.ntmps13
  go_wp2_with (first | (go_at_call 30; (fail_if_success (have _g := HB1)); refine (newA w HT.out.2).mono ?_; rintro e w1 ⟨pa, pc, fa, fc, ma, mc, rfl, hR, hb1⟩; have HR1 := hid hR; have HB1 := hid hb1; clear hR hb1) | (go_at_call 28; (fail_if_success (have _g := HB2)); go_loud (have B2 : Below w1.heap.size w1 ((w1.alloc (.cells #[.int .i64 0, .int .i64 52, .slice pa 6 pc, .int .i64 33, .int .i64 3, .int .i64 5, .slice fa 0 fc, .slice ma 0 mc] 26)).alloc (.cells #[.int .u8 4, .int .u8 172] 5)) := (by repeat' first | with_reducible exact Below.refl _ _ | with_reducible assumption | with_reducible refine belows_drewN ?_ _ | with_reducible refine Below.drew ?_ | with_reducible refine Below.setCell ?_ ?_ _ | with_reducible refine Below.alloc ?_ ?_ _ | omega | (simp; done) | (simp; omega)); have bC := BX.al (L3.BX.new w1 #[.int .i64 0, .int .i64 52, .slice pa 6 pc, .int .i64 33, .int .i64 3, .int .i64 5, .slice fa 0 fc, .slice ma 0 mc] 26) (.cells #[.int .u8 4, .int .u8 172] 5); have hcd := code2 (w1.alloc (.cells #[.int .i64 0, .int .i64 52, .slice pa 6 pc, .int .i64 33, .int .i64 3, .int .i64 5, .slice fa 0 fc, .slice ma 0 mc] 26)) 5; have hzc : (w1.alloc (.cells #[.int .i64 0, .int .i64 52, .slice pa 6 pc, .int .i64 33, .int .i64 3, .int .i64 5, .slice fa 0 fc, .slice ma 0 mc] 26)).heap.size = w1.heap.size + 1 := World.size_alloc _ _; rw [hzc] at hcd; obtain ⟨W2, hW2⟩ : ∃ W, W = (w1.alloc (.cells #[.int .i64 0, .int .i64 52, .slice pa 6 pc, .int .i64 33, .int .i64 3, .int .i64 5, .slice fa 0 fc, .slice ma 0 mc] 26)).alloc (.cells #[.int .u8 4, .int .u8 172] 5) := ⟨_, rfl⟩; rw [← hW2] at B2 bC hcd ⊢; have B20 := belows HB1.out B2 HB1.out.size; refine (withF W2 (HT.out.1.below B20 HT.out.1.size) (HT.out.2.below B20 HT.out.2.size) _ (HR1.out.below B2 (Nat.le_refl _)) _ hcd).mono ?_; rintro e w2 ⟨pa2, pc2, fa2, fc2, ma2, mc2, rfl, hO, hb2⟩; have bC2 := bC.below hb2 bC.sz; have HO2 := hid hO; have HC2 := hid bC2; have hcW : w1.heap.size < W2.heap.size := bC.sz; have B22 := belows B20 hb2 B20.size; have HB2 := hid B22; have hzw : w.heap.size ≤ w1.heap.size := HB1.out.size; have c0 := bC2.cell 0; have zc0 := bC2.frozen 0; have c1 := bC2.cell 1; have zc1 := bC2.frozen 1; have c2 := bC2.cell 2; have zc2 := bC2.frozen 2; have c3 := bC2.cell 3; have zc3 := bC2.frozen 3; have c4 := bC2.cell 4; have zc4 := bC2.frozen 4; have c5 := bC2.cell 5; have zc5 := bC2.frozen 5; have c6 := bC2.cell 6; have zc6 := bC2.frozen 6; have c7 := bC2.cell 7; have zc7 := bC2.frozen 7; simp at c0 c1 c2 c3 c4 c5 c6 c7; clear hW2 B2 B20 B22 bC bC2 hb2 hO hcd hzc)) | (go_at_call 15; (fail_if_success (have _g := HB3)); go_loud (have g8 := grown8 w2 w1.heap.size (.int .i64 0) (.int .i64 52) (.slice pa2 8 pc2) (.int .i64 33) (.int .i64 3) (.int .i64 5) (.slice fa2 0 fc2) (.slice ma2 1 mc2); have bC := put8 HC2.out rfl (.int .i64 0) (.int .i64 52) (.slice pa2 8 pc2) (.int .i64 33) (.int .i64 3) (.int .i64 5) (.slice fa2 0 fc2) (.slice ma2 1 mc2); have oC := HO2.out.grown g8 hcW; have B3 := nwB HB2.out g8 ⟨hzw, HB2.out.size⟩; obtain ⟨W3, hW3⟩ : ∃ W, W = ((((((((w2.setCell ⟨w1.heap.size, 0, none⟩ (.int .i64 0)).setCell ⟨w1.heap.size, 1, none⟩ (.int .i64 52)).setCell ⟨w1.heap.size, 2, none⟩ (.slice pa2 8 pc2)).setCell ⟨w1.heap.size, 3, none⟩ (.int .i64 33)).setCell ⟨w1.heap.size, 4, none⟩ (.int .i64 3)).setCell ⟨w1.heap.size, 5, none⟩ (.int .i64 5)).setCell ⟨w1.heap.size, 6, none⟩ (.slice fa2 0 fc2)).setCell ⟨w1.heap.size, 7, none⟩ (.slice ma2 1 mc2)) := ⟨_, rfl⟩; rw [← hW3] at bC oC B3 ⊢; have hR3 := oC.reads szF; refine (encF W3 (HT.out.1.below B3 HT.out.1.size) (HT.out.2.below B3 HT.out.2.size) _ hR3).mono ?_; rintro e w3 ⟨g, gc, rfl, hbs, h0, hb3⟩; have HR3 := hid (hR3.below hb3 (Nat.le_refl _)); have HC3 := hid (bC.below hb3 bC.sz); have B33 := belows B3 hb3 B3.size; have HB3 := hid B33; have HBs := hid hbs; have H0 := hid h0; clear c0 c1 c2 c3 c4 c5 c6 c7 zc0 zc1 zc2 zc3 zc4 zc5 zc6 zc7; have bC3 := HC3.out; have c0 := bC3.cell 0; have c1 := bC3.cell 1; have c2 := bC3.cell 2; have c3 := bC3.cell 3; have c4 := bC3.cell 4; have c5 := bC3.cell 5; have c6 := bC3.cell 6; have c7 := bC3.cell 7; simp at c0 c1 c2 c3 c4 c5 c6 c7; clear hW3 g8 bC oC B3 B33 hb3 hR3 hbs h0 bC3)) | (go_at_call 11; (fail_if_success (have _g := HB4)); go_loud (refine (decF w3 (HT.out.1.below HB3.out HT.out.1.size) (HT.out.2.below HB3.out HT.out.2.size) _ HBs.out).mono ?_; rintro e w4 ⟨pa4, pc4, fa4, fc4, ma4, mc4, rfl, hR4, hb4⟩; have HR4 := hid hR4; have HR3 := hid (HR3.out.below hb4 (Nat.le_refl _)); have B44 := belows HB3.out hb4 HB3.out.size; have HB4 := hid B44; have bC4 := HC3.out.below hb4 HC3.out.sz; have hcz4 : w1.heap.size < w4.heap.size := bC4.sz; obtain ⟨gb, hgb⟩ : ∃ x, x = g := ⟨_, rfl⟩; have hgz : g < w3.heap.size := World.block_lt_of_cell? w3 _ H0.out; have hgz4 : g < w4.heap.size := Nat.lt_of_lt_of_le hgz hb4.size; have h04 := (hb4.cell (p := ⟨g, 0, none⟩) hgz).trans H0.out; clear c0 c1 c2 c3 c4 c5 c6 c7; have c0 := bC4.cell 0; have c1 := bC4.cell 1; have c2 := bC4.cell 2; have c3 := bC4.cell 3; have c4 := bC4.cell 4; have c5 := bC4.cell 5; have c6 := bC4.cell 6; have c7 := bC4.cell 7; simp at c0 c1 c2 c3 c4 c5 c6 c7; clear hgb B44 bC4 hb4 hR4)) | (go_at_call 14; go_loud (have B5 : Below w4.heap.size w4 (w4.alloc (.cells #[.int .i64 0, .int .i64 52, .slice pa4 8 pc4, .int .i64 33, .int .i64 3, .int .i64 5, .slice fa4 0 fc4, .slice ma4 1 mc4] 26)) := (Below.refl _ _).alloc (Nat.le_refl _) _; refine (rsame_any Cf.kF _ _ _ (HR3.out.below B5 (Nat.le_refl _)) (HR4.out.below B5 (Nat.le_refl _))).mono ?_; rintro e w5 ⟨rfl, hb5⟩; have bD := (L3.BX.new w4 #[.int .i64 0, .int .i64 52, .slice pa4 8 pc4, .int .i64 33, .int .i64 3, .int .i64 5, .slice fa4 0 fc4, .slice ma4 1 mc4] 26).below hb5 (L3.BX.new w4 #[.int .i64 0, .int .i64 52, .slice pa4 8 pc4, .int .i64 33, .int .i64 3, .int .i64 5, .slice fa4 0 fc4, .slice ma4 1 mc4] 26).sz; have d7 := bD.cell 7; simp at d7; have B55 := belows (belows HB4.out B5 HB4.out.size) hb5 (by (have := HB4.out.size; rw [World.size_alloc]; omega)); have HB5 := hid B55; clear B5 hb5 bD B55)))
  go_ret
  exact ⟨rfl, HB5.out⟩
end Go.Proofs.YtehjindeggmfpaaGreatDoor
namespace Go.Proofs.YtehjindeggmfpaaGreatDoor
open Go Go.RowKit

theorem oneCell_of_bs {w : World} {lim : Nat} {v : Value} {bs : List UInt8} (h : L3.Bs lim w v bs) : v.oneCell' = true := by
  rcases h.2 with ⟨-, a, cap, rfl⟩ | ⟨b, o, cap, rfl, -⟩ <;> rfl
theorem oneCell_of_is {w : World} {s n : Nat} {v : Value} {xs : List Value} (h : Kit.IsS s w v n xs) : v.oneCell' = true := by
  obtain ⟨a, cap, rfl⟩ := h.len
  rfl
theorem MsC.ones {w : World} : ∀ {rs : List (List Value)} {ms : List Cf.Mb}, MsC w rs ms → ∀ u ∈ rs.flatten, u.oneCell' = true
  | [], [], _, u, hu => by simp at hu
  | r :: rs, m :: ms, h, u, hu => by
    rw [List.flatten_cons, List.mem_append] at hu
    rcases hu with hu | hu
    · obtain ⟨cv, hv, rfl, hB, hH, -⟩ := h.1
      have h1 := oneCell_of_bs hB
      have h2 := oneCell_of_is hH
      simp only [List.mem_cons, List.not_mem_nil, or_false] at hu
      rcases hu with rfl | rfl | rfl | rfl | rfl | rfl | rfl <;> first | rfl | assumption
    · exact h.2.ones u hu
  | [], _ :: _, h, _, _ => h.elim
  | _ :: _, [], h, _, _ => h.elim
theorem src_none7 (c : Nat) (w : World) : Src Tryz.prog 7 24 (.slice none 0 c) 0 [] w :=
  ⟨.inl ⟨_, Tryz.underlying24⟩, fun _ => rfl, rfl, rfl, rfl, fun u hu => by cases hu⟩
theorem step_mem {ops : Array Oper} {o : Oper} {a : Act} {w : World} {K : Act → World → Prop} {Q : Exit → Act → World → Prop} {E : Prop} (hgd : o.guard = none) (s x : Operand)
    (hop : o.op = Op.call { callee := Callee.builtin Builtin.append, args := #[s, x], argTypes := #[24, 24] })
    (B : Nat) (v : Value) (n : Nat) (xs : List Value) (hs : a.eval s = v) (hown : w.ownsRow B 42 7 v n xs) (hB : B ≤ w.heap.size)
    (xv : Value) (m : Nat) (news : List Value) (hx : a.eval x = xv) (hr : Kit.IsS 7 w xv m news) (h1 : ∀ u ∈ news, u.oneCell' = true) (hnm : n + m ≤ 10000000)
    (hK : ∀ b N c w', N = n + m → w'.ownsRow B 42 7 (.slice b N c) N (xs ++ news) → Below B w w' → K (a.put o.dst (.slice b N c)) w') :
    if Region.wanted o (yielded ops a.tmps) = true then Oper.wp Tryz.prog o a w K Q else E := by
  have hw : Region.wanted o (yielded ops a.tmps) = true := by simp [Region.wanted, hgd]
  rw [if_pos hw]
  obtain ⟨i0, hi, hz0, hz1, hz2⟩ := info_parts infoM
  have fin : ∀ v' w', w'.ownsRow B 42 7 v' (n + m) (xs ++ news) → Below B w w' → K (a.put o.dst v') w' := fun v' w' h2 h3 => by
    obtain ⟨N, hN⟩ : ∃ N, N = n + m := ⟨_, rfl⟩
    rw [← hN] at h2
    have hf : ∃ b c, v' = .slice b N c := by
      rcases h2.2 with ⟨h, h0⟩ | ⟨g, cap, cur, h, -⟩
      · exact ⟨none, 0, by rw [h0]; exact h⟩
      · exact ⟨_, _, h⟩
    obtain ⟨b, c, rfl⟩ := hf
    exact hK b N c w' hN h2 h3
  have some' : ∀ ad c, xv = .slice (some ad) m c → (∀ j u, news[j]? = some u → w.cell? (ad.add j) = some u) → Oper.wp Tryz.prog o a w K Q := fun ad c he hc => by
    subst he
    obtain ⟨v', w', hr', h2, h3, -, h5⟩ := run_append_own_at (P := Tryz.prog) w B 24 o.type 42 i0 _ 7 88 Tryz.underlying24 hi hz0 hz1 hz2 rfl (by decide) v n xs hown ad m c news hr.1 hc h1 (by unfold maxLen; omega) (by omega) hB
    unfold Oper.wp execOp
    simp only [hop, resolve, invoke, builtin, Sem.run_bind, Sem.run_pure, Result.andThen_ok, List.map_toArray, List.map_cons, List.map_nil, hs, hx, hr']
    exact fin _ _ h2 (Kit.below_grown (Below.refl _ _) h3 hB (Kit.own_base hown))
  rcases hr.2.2 with ⟨h0, ad, c, he⟩ | ⟨b, ofs, c, he, -, -, hc⟩
  · subst h0
    have hn : news = [] := List.eq_nil_of_length_eq_zero (by simpa using hr.1)
    cases ad with
    | some ad => exact some' ad c he (fun j u hj => by rw [hn] at hj; simp at hj)
    | none =>
      subst hn he
      have hcap : ∃ ad' n' c', v = .slice ad' n' c' ∧ n' ≤ c' := by
        rcases hown.2 with ⟨h, -⟩ | ⟨g, cap, cur, h, -, -, h4, -⟩
        · exact ⟨none, 0, 0, h, Nat.le_refl _⟩
        · exact ⟨_, _, _, h, h4⟩
      obtain ⟨ad', n', c', he', hle⟩ := hcap
      have hr' := run_append_nothing (P := Tryz.prog) w 24 24 o.type 42 i0 Tryz.underlying24 hi ad' n' c' hle (.slice none 0 c) (by rw [hz1]; exact src_none7 c w)
      rw [← he'] at hr'
      unfold Oper.wp execOp
      simp only [hop, resolve, invoke, builtin, Sem.run_bind, Sem.run_pure, Result.andThen_ok, List.map_toArray, List.map_cons, List.map_nil, hs, hx, hr']
      exact fin _ _ (by simpa using hown) (Below.refl _ _)
  · exact some' _ c he (fun j u hj => by rw [Go.WideShapes.add_plain]; exact hc j u hj)
theorem MsC.app {w : World} : ∀ {rs qs : List (List Value)} {ms ns : List Cf.Mb}, MsC w rs ms → MsC w qs ns → MsC w (rs ++ qs) (ms ++ ns)
  | [], _, [], _, _, k => k
  | _ :: _, _, _ :: _, _, h, k => ⟨h.1, h.2.app k⟩
  | [], _, _ :: _, _, h, _ => h.elim
  | _ :: _, _, [], _, h, _ => h.elim
end Go.Proofs.YtehjindeggmfpaaGreatDoor
namespace Go.Proofs.YtehjindeggmfpaaGreatDoor
open Go Go.RowKit

set_option maxRecDepth 100000 in
set_option maxHeartbeats 1000000 in
theorem names_law (c : Cf.Cl) (vs : Array Value) (w : World) (t1 : L1.Tabs w) (t3 : L3.Tabs w) (h : ClR w vs c) (hnf : c.fs.length ≤ 1048576) (hnm : c.ms.length ≤ 1048576) :
    Calls Tryz.prog 5 #[.agg vs] w fun e w' => e = .returned (.bool true) ∧ Below w.heap.size w w' := by
  have HT := hid (And.intro t1 t3)
  have HR0 := hid h
  have HN := hid (And.intro hnf hnm)
  obtain ⟨pv, fv, mv, rfl, hp, hf, hm⟩ := h
  obtain ⟨pa, pc, rfl⟩ := hp.len
  obtain ⟨fa, fc, rfl⟩ := hf.len
  obtain ⟨ma2, mc, rfl⟩ := hm.len
  obtain ⟨rsf, hcf, hif⟩ := hf
  obtain ⟨rsm, hcm, him⟩ := hm
  have HF := hid (And.intro hcf hif)
  have HM := hid (And.intro hcm him)
  obtain ⟨⟨s, se⟩, hs⟩ : ∃ x, x = L3.clO c.pool c.th := ⟨_, rfl⟩
  obtain ⟨⟨u, ue⟩, hu⟩ : ∃ x, x = L3.clO c.pool c.su := ⟨_, rfl⟩
  have H1' := fun W (k : Below w.heap.size w W) => this_any c _ W (HR0.out.below k (Nat.le_refl _))
  have H2' := fun W (k : Below w.heap.size w W) => rthis_any c _ W (HR0.out.below k (Nat.le_refl _))
  have H3' := fun W (k : Below w.heap.size w W) => super_any c _ W (HR0.out.below k (Nat.le_refl _))
  have H4' := fun W (k : Below w.heap.size w W) => rsuper_any c _ W (HR0.out.below k (Nat.le_refl _))
  rw [← hs] at H1' H2'
  rw [← hu] at H3' H4'
  dsimp only at H1' H2' H3' H4'
  have H1 := hid H1'
  have H2 := hid H2'
  have H3 := hid H3'
  have H4 := hid H4'
  clear t1 t3 hp hcf hif hcm him hnf hnm hs hu H1' H2' H3' H4'
  go_enter Tryz.func5, Tryz.ntmps5
  go_wp2_with (first | (go_at_call 20; refine (H1.out _ (by repeat' first | with_reducible exact Below.refl _ _ | with_reducible assumption | with_reducible refine belows_drewN ?_ _ | with_reducible refine Below.drew ?_ | with_reducible refine Below.setCell ?_ ?_ _ | with_reducible refine Below.alloc ?_ ?_ _ | omega | (simp; done) | (simp; omega))).mono ?_; rintro e w1 ⟨rfl, hb1⟩; obtain ⟨bC, hzC, B1⟩ := belows1 hb1; have BC1 := hid bC; have HB1 := hid B1; have q0 := bC.cell 0; have q1 := bC.cell 1; have q2 := bC.cell 2; have q3 := bC.cell 3; have q4 := bC.cell 4; have q5 := bC.cell 5; have q6 := bC.cell 6; have q7 := bC.cell 7; simp at q0 q1 q2 q3 q4 q5 q6 q7; clear hb1 bC B1) | (go_at_call 21; refine (H2.out _ HB1.out).mono ?_; rintro e w2 ⟨rfl, hb2⟩; have bC := BC1.out.below hb2 BC1.out.sz; have BC2 := hid bC; have HB2 := hid (belows HB1.out hb2 HB1.out.size); clear q0 q1 q2 q3 q4 q5 q6 q7; have q0 := bC.cell 0; have q1 := bC.cell 1; have q2 := bC.cell 2; have q3 := bC.cell 3; have q4 := bC.cell 4; have q5 := bC.cell 5; have q6 := bC.cell 6; have q7 := bC.cell 7; simp at q0 q1 q2 q3 q4 q5 q6 q7; clear bC hb2) | (go_at_call 22; refine (H3.out _ HB2.out).mono ?_; rintro e w3 ⟨rfl, hb3⟩; have bC := BC2.out.below hb3 BC2.out.sz; have BC3 := hid bC; have HB3 := hid (belows HB2.out hb3 HB2.out.size); clear q0 q1 q2 q3 q4 q5 q6 q7; have q0 := bC.cell 0; have q1 := bC.cell 1; have q2 := bC.cell 2; have q3 := bC.cell 3; have q4 := bC.cell 4; have q5 := bC.cell 5; have q6 := bC.cell 6; have q7 := bC.cell 7; simp at q0 q1 q2 q3 q4 q5 q6 q7; clear bC hb3) | (go_at_call 23; refine (H4.out _ HB3.out).mono ?_; rintro e w4 ⟨rfl, hb4⟩; have bC := BC3.out.below hb4 BC3.out.sz; have BC4 := hid bC; have HB4 := hid (belows HB3.out hb4 HB3.out.size); clear q0 q1 q2 q3 q4 q5 q6 q7; have q0 := bC.cell 0; have q1 := bC.cell 1; have q2 := bC.cell 2; have q3 := bC.cell 3; have q4 := bC.cell 4; have q5 := bC.cell 5; have q6 := bC.cell 6; have q7 := bC.cell 7; simp at q0 q1 q2 q3 q4 q5 q6 q7; clear bC hb4) | (go_at_call 13; refine (begun_any _ (HT.out.1.below HB4.out HT.out.1.size) (HT.out.2.below HB4.out HT.out.2.size)).mono ?_; rintro e w5 ⟨rfl, hb5⟩; have bC := BC4.out.below hb5 BC4.out.sz; have BC5 := hid bC; have HB5 := hid (belows HB4.out hb5 HB4.out.size); clear q0 q1 q2 q3 q4 q5 q6 q7; have q0 := bC.cell 0; have q1 := bC.cell 1; have q2 := bC.cell 2; have q3 := bC.cell 3; have q4 := bC.cell 4; have q5 := bC.cell 5; have q6 := bC.cell 6; have q7 := bC.cell 7; simp at q0 q1 q2 q3 q4 q5 q6 q7; clear bC hb5))
  have hB5 := HB5.out
  go_region_law (first
    | (refine step_mem rfl (.const (.slice none 0 0)) (.tmp 60) rfl w5.heap.size (.slice none 0 0) 0 [] rfl (⟨rfl, .inl ⟨rfl, rfl⟩⟩) (Nat.le_refl _) (.slice fa c.fs.length fc) c.fs.length rsf.flatten rfl (HF.out.2.below (by repeat' first | with_reducible exact Below.refl _ _ | with_reducible assumption | with_reducible refine belows_drewN ?_ _ | with_reducible refine Below.drew ?_ | with_reducible refine Below.setCell ?_ ?_ _ | with_reducible refine Below.alloc ?_ ?_ _ | omega | (simp; done) | (simp; omega)) (Nat.le_refl _)) HF.out.1.ones (by have := HN.out; omega) ?_; intro b6 N6 c6 w6 hN6 ho6 hb6'; have hb6 : Below w5.heap.size w5 w6 := belows ((Below.refl _ _).drew) hb6' (Nat.le_refl _); have bC := BC5.out.below hb6 BC5.out.sz; have HO6 := hid (And.intro hN6 ho6); have HB6 := hid hb6; have r6 := bC.cell 6; have r7 := bC.cell 7; simp at r6 r7; clear bC hN6 ho6 hb6 hb6')
    | (refine step_mem rfl (.tmp 61) (.tmp 63) rfl w5.heap.size (.slice b6 N6 c6) N6 _ rfl HO6.out.2 HB6.out.size (.slice ma2 c.ms.length mc) c.ms.length rsm.flatten rfl (HM.out.2.below (belows HB5.out HB6.out HB5.out.size) (Nat.le_refl _)) HM.out.1.ones (by have := HN.out; have := HO6.out.1; omega) ?_; intro b7 N7 c7 w7 hN7 ho7 hb7; have HO7 := hid (And.intro hN7 ho7); have HB7 := hid hb7; clear hN7 ho7 hb7))
  all_goals
    have B57 : Below w5.heap.size w5 w7 := HB6.out.trans HB7.out
    have B07 : Below w.heap.size w w7 := belows HB5.out B57 HB5.out.size
    have HC7 := hid (BC5.out.below B57 BC5.out.sz)
    have HMs : MsR w7 (.slice b7 N7 c7) (c.fs ++ c.ms) := ⟨rsf ++ rsm, (HF.out.1.below B07 (Nat.le_refl _)).app (HM.out.1.below B07 (Nat.le_refl _)), by
      have h1 := HO7.out.1
      have h2 := HO6.out.1
      have h3 := Kit.isS_of_owns HO7.out.2 (by have := HN.out; omega)
      rw [List.flatten_append, List.length_append]
      have e : N7 = c.fs.length + c.ms.length := by omega
      rw [e] at h3 ⊢
      simpa using h3⟩
    have HL : N7 = (c.fs ++ c.ms).length := by rw [List.length_append]; have := HO7.out.1; have := HO6.out.1; omega
    obtain ⟨l, hl⟩ : ∃ l, l = c.fs ++ c.ms := ⟨_, rfl⟩
    rw [← hl] at HMs HL
    subst HL
    have HV0 := hid HMs
    have HB7' := hid B07
    have HLn := hid (show l.length ≤ 140737488355328 from HMs.size)
    clear HO6 HO7 HMs hl hB5 B57 B07
    go_wp2_with fail
    go_simp
    go_loopw [66] (fun i wr => ∃ k : Nat, k ≤ l.length ∧ i = .int .i64 k ∧ Below w7.heap.size w7 wr) (fun i _ => l.length - (intOf i).toNat)
    case atStart => exact ⟨0, by omega, rfl, Below.refl _ _⟩
    case round =>
      obtain ⟨k, hk, rfl, hJ⟩ := hrel
      have HJ := hid hJ
      have hBr : Below w.heap.size w wr := belows HB7'.out hJ HB7'.out.size
      have HBr := hid hBr
      have hln := HLn.out
      have bC0 := HC7.out.below hJ HC7.out.sz
      have hzr : w.heap.size < wr.heap.size := bC0.sz
      have q0 := bC0.cell 0
      have q1 := bC0.cell 1
      have q2 := bC0.cell 2
      have q3 := bC0.cell 3
      have q4 := bC0.cell 4
      have q5 := bC0.cell 5
      have q6 := bC0.cell 6
      have q7 := bC0.cell 7
      simp at q0 q1 q2 q3 q4 q5 q6 q7
      clear bC0
      by_cases hlt : k < l.length
      · obtain ⟨⟨ac, nm, ds, st, lc, co, hs9⟩, hx⟩ : ∃ x, l[k]? = some x := ⟨l[k], List.getElem?_eq_getElem hlt⟩
        obtain ⟨b, o, cap', cv, hw, hv2, hbb, hB, hH, hl, c0, c1, c2, c3, c4, c5, c6⟩ := HV0.out.at hx
        have c0 := (hJ.cell (p := ⟨b, o + k * 7, none⟩) (by simpa using hbb)).trans c0
        have c1 := (hJ.cell (p := ⟨b, o + k * 7 + 1, none⟩) (by simpa using hbb)).trans c1
        have c2 := (hJ.cell (p := ⟨b, o + k * 7 + 2, none⟩) (by simpa using hbb)).trans c2
        have c3 := (hJ.cell (p := ⟨b, o + k * 7 + 3, none⟩) (by simpa using hbb)).trans c3
        have c4 := (hJ.cell (p := ⟨b, o + k * 7 + 4, none⟩) (by simpa using hbb)).trans c4
        have c5 := (hJ.cell (p := ⟨b, o + k * 7 + 5, none⟩) (by simpa using hbb)).trans c5
        have c6 := (hJ.cell (p := ⟨b, o + k * 7 + 6, none⟩) (by simpa using hbb)).trans c6
        obtain ⟨rfl, -, rfl⟩ := Value.slice.inj hv2
        have hki : (k : Int) < (l.length : Int) := by omega
        dsimp only at c0 c1 c2 c3 c4 c5 c6
        obtain ⟨xa, xc, rfl⟩ := hB.len
        obtain ⟨ya, yc, rfl⟩ := hH.len
        dsimp only at c5 c6
        have HA1 := fun W (q : Below w.heap.size w W) => member_any c _ ⟨ac, nm, ds, st, lc, co, hs9⟩ (.slice xa co.length xc) (.slice ya hs9.length yc) W (HR0.out.below q (Nat.le_refl _))
        have HA3 := fun W (q : Below w.heap.size w W) => rmember_any c _ ⟨ac, nm, ds, st, lc, co, hs9⟩ (.slice xa co.length xc) (.slice ya hs9.length yc) W (HR0.out.below q (Nat.le_refl _))
        obtain ⟨⟨⟨na, nb⟩, ne⟩, hne⟩ : ∃ x, x = Cf.mbO c.pool ⟨ac, nm, ds, st, lc, co, hs9⟩ := ⟨_, rfl⟩
        rw [← hne] at HA1 HA3
        unfold ndV mbV at HA1 HA3
        dsimp only at HA1 HA3
        have HA := hid HA1
        have HA2 := hid HA3
        clear hx hv2 hJ hB hH hl HA1 HA3 hne
        go_wp2_with (first | (go_at_call 24; refine (HA.out _ (by repeat' first | with_reducible exact Below.refl _ _ | with_reducible assumption | with_reducible refine belows_drewN ?_ _ | with_reducible refine Below.drew ?_ | with_reducible refine Below.setCell ?_ ?_ _ | with_reducible refine Below.alloc ?_ ?_ _ | omega | (simp; done) | (simp; omega))).mono ?_; rintro e W1 ⟨rfl, hb1⟩; obtain ⟨bM, hzM, B1r⟩ := belows1 hb1; have B1 : Below w.heap.size w W1 := belows HBr.out B1r HBr.out.size; have B17 : Below w7.heap.size w7 W1 := belows HJ.out B1r HJ.out.size; have bC := HC7.out.below B17 HC7.out.sz; have hzc : w.heap.size < W1.heap.size := bC.sz; have hzm : wr.heap.size < W1.heap.size := bM.sz; have s0 := bC.cell 0; have s1 := bC.cell 1; have s2 := bC.cell 2; have s3 := bC.cell 3; have s4 := bC.cell 4; have s5 := bC.cell 5; have s6 := bC.cell 6; have s7 := bC.cell 7; simp at s0 s1 s2 s3 s4 s5 s6 s7; have p0 := bM.cell 0; have p1 := bM.cell 1; have p2 := bM.cell 2; have p3 := bM.cell 3; have p4 := bM.cell 4; have p5 := bM.cell 5; have p6 := bM.cell 6; simp at p0 p1 p2 p3 p4 p5 p6; clear bM bC hb1 B1r hzM) | (go_at_call 25; refine (HA2.out _ (by repeat' first | with_reducible exact Below.refl _ _ | with_reducible assumption | with_reducible refine belows_drewN ?_ _ | with_reducible refine Below.drew ?_ | with_reducible refine Below.setCell ?_ ?_ _ | with_reducible refine Below.alloc ?_ ?_ _ | omega | (simp; done) | (simp; omega))).mono ?_; rintro e W2 ⟨rfl, hb2⟩; obtain ⟨bN, hzN, B2r⟩ := belows1 hb2; have B2 : Below w7.heap.size w7 W2 := belows B17 B2r B17.size; have hzn : W1.heap.size < W2.heap.size := bN.sz; have n0 := bN.cell 0; have n1 := bN.cell 1; have n2 := bN.cell 2; simp at n0 n1 n2; clear bN hb2 B2r hzN))
        go_roundw
        case rel => exact ⟨k + 1, by omega, by go_num, B2.alloc B2.size _⟩
        case measure => simp [intOf]; omega
      · obtain rfl : k = l.length := by omega
        have hki : ¬ ((l.length : Int) < (l.length : Int)) := by omega
        go_wp2_with fail
        go_ret
        exact ⟨rfl, hBr⟩
end Go.Proofs.YtehjindeggmfpaaGreatDoor
namespace Go.Proofs.YtehjindeggmfpaaGreatDoor
open Go.ChangeShapes Go.WideShapes Go.ChangeAt Go.RowKit Go.WideMaps Go.WideElems

theorem i6_wf {z : Int} (h : (Lit.int .i64 z).wf = true) : L3.I6 z := by
  simp [Lit.wf, IntKind.min, IntKind.max, IntKind.signed, IntKind.bits] at h
  unfold L3.I6
  omega
section
variable {H : Type} {enc : TypeId × Value → H}
theorem weights_allT {P : Program} {e : TypeId} : ∀ {ds : List (DataW H)} {d : DataW H}, d ∈ ds → (DataW.weightsAll P e ds).all (· ≤ reachBytes) = true → (d.weights P e).all (· ≤ reachBytes) = true
  | [], _, h, _ => by cases h
  | x :: r, d, h, hw => by
    simp only [DataW.weightsAll, List.all_append, Bool.and_eq_true] at hw
    rcases List.mem_cons.1 h with rfl | h
    · exact hw.1
    · exact weights_allT h hw.2
theorem bulk_pos (d : DataW H) : 1 ≤ Rows.uptoBulk d := by
  cases d with
  | lit l => cases l <;> simp [Rows.uptoBulk]
  | _ => simp [Rows.uptoBulk]
theorem bulk_len : ∀ l : List (DataW H), l.length ≤ Rows.uptoBulkAll l
  | [] => by simp [Rows.uptoBulkAll]
  | x :: r => by have h1 := bulk_pos x; have h2 := bulk_len r; simp only [Rows.uptoBulkAll, List.length_cons]; omega
theorem bulk_mem : ∀ {l : List (DataW H)} {d : DataW H}, d ∈ l → Rows.uptoBulk d ≤ Rows.uptoBulkAll l
  | [], _, h => by cases h
  | x :: r, d, h => by
    simp only [Rows.uptoBulkAll]
    rcases List.mem_cons.1 h with rfl | h
    · omega
    · have := bulk_mem h; omega
theorem bulk_all {l : List (DataW H)} (h : Rows.uptoSmall H l = true) : Rows.uptoBulkAll l ≤ 1048576 := of_decide_eq_true h
theorem A.cellsInt : Tryz.prog.cellsOf 3 = 1 := by kernel_rfl
theorem A.cellsI64 : Tryz.prog.cellsOf 2 = 1 := by kernel_rfl
theorem A.cellsStr : Tryz.prog.cellsOf 9 = 1 := by kernel_rfl
theorem A.cellsU8 : Tryz.prog.cellsOf 5 = 1 := by kernel_rfl
theorem A.bytesU8 : Tryz.prog.bytesOf 5 = 1 := by kernel_rfl
/-- Bytes in a cell. -/
theorem bs_cell {W : World} {n : Nat} {k : Value} {y : DataW H × List MemPlace} (h : DataW.trod enc Tryz.prog W 0 (fun _ => true) true n 22 [k] = some y) (hw : (y.1.weights Tryz.prog 22).all (· ≤ reachBytes) = true) :
    ∃ bs : List UInt8, L3.Bs W.heap.size W k bs ∧ bs.length ≤ 140737488351232 ∧ bs.length ≤ Rows.uptoBulk y.1 := by
  rcases open_ints Tryz.underlying22 Tryz.underlying5 A.cellsU8 h with ⟨hcs, rfl⟩ | ⟨a, len, cap, zs, hcs, _, hl, hm, hz, rfl, hcell, hwz⟩
  · obtain rfl : k = .slice none 0 0 := by simpa using hcs
    exact ⟨[], ⟨by simp, .inl ⟨rfl, none, 0, rfl⟩⟩, by simp, by simp⟩
  · obtain rfl : k = .slice (some a) len cap := by simpa using hcs
    simp only [if_true] at hz
    simp only [DataW.weights, Tryz.underlying22, List.all_cons, Bool.and_eq_true, decide_eq_true_eq, A.bytesU8, Nat.mul_one] at hw
    have hcap : cap ≤ 140737488351232 := by
      have := hw.1
      simp [lits, reachBytes] at this
      omega
    have hbl : len ≤ Rows.uptoBulk (.slice (lits .u8 (zs.take len)) (lits .u8 (zs.drop len)) : DataW H) := by
      have := bulk_len (lits (H := H) .u8 (zs.take len))
      simp only [Rows.uptoBulk]
      simp [lits] at this ⊢
      omega
    refine ⟨(zs.take len).map fun z => UInt8.ofNat z.toNat, ⟨by simp; omega, ?_⟩, by simp; omega, by simp only [List.length_map, List.length_take]; omega⟩
    have hlen : ((zs.take len).map fun z => UInt8.ofNat z.toNat).length = len := by simp; omega
    by_cases h0 : len = 0
    · exact .inl ⟨by rw [h0]; rfl, some a, cap, by rw [h0]⟩
    · obtain ⟨b, off, rfl, hc⟩ := ints_at hcell (by omega)
      refine .inr ⟨b, off, cap, by rw [hlen], by rw [hlen]; exact hl, ?_, fun i c hi => ?_⟩
      · exact World.block_lt_of_cell? W _ (hc 0 (by omega))
      · have hil : i < len := by
          rw [List.getElem?_eq_some_iff] at hi
          have := hi.1
          omega
        rw [show W.cell? ⟨b, off + i, none⟩ = _ from hc i (by omega)]
        have hzi : zs[i]? = some (zs.getD i 0) := by simp [show i < zs.length by omega]
        have h1 := bounds_u8 (hwz _ (List.mem_of_getElem? hzi))
        rw [List.getElem?_map, List.getElem?_take_of_lt hil, hzi] at hi
        simp only [Option.map_some, Option.some.injEq] at hi
        subst hi
        unfold L3.bv
        rw [UInt8.toNat_ofNat']
        congr 3
        omega
set_option maxRecDepth 100000 in
/-- A list of things of so many cells each, in a cell. -/
theorem list_cell {α : Type} {W : World} {n : Nat} {k : Value} {y : DataW H × List MemPlace} {tS tE : TypeId} {s by_ : Nat} (G : DataW H → List Value → α → Prop) (hG : ∀ d cs x, G d cs x → cs.length = s) (hs : 0 < s)
    (hu : Tryz.prog.underlying tS = some (.slice tE)) (hco : Tryz.prog.cellsOf tE = s) (hby : Tryz.prog.bytesOf tE = by_) (hb0 : 0 < by_)
    (he : ∀ (m : Nat) (cs : List Value) (z : DataW H × List MemPlace), DataW.trod enc Tryz.prog W 0 (fun _ => true) true m tE cs = some z → (z.1.weights Tryz.prog tE).all (· ≤ reachBytes) = true → ∃ x, G z.1 cs x)
    (h : DataW.trod enc Tryz.prog W 0 (fun _ => true) true n tS [k] = some y) (hw : (y.1.weights Tryz.prog tS).all (· ≤ reachBytes) = true) :
    ∃ (xs : List α) (rs : List (List Value)), rs.length = xs.length ∧ (∀ (i : Nat) (r : List Value) (x : α), rs[i]? = some r → xs[i]? = some x → ∃ d, G d r x ∧ Rows.uptoBulk d ≤ Rows.uptoBulk y.1) ∧ Kit.IsS s W k xs.length rs.flatten ∧ xs.length * by_ ≤ 140737488351232 ∧ xs.length ≤ Rows.uptoBulk y.1 := by
  rcases DataW.trod_slice hu h with ⟨hcs, rfl⟩ | ⟨a, len, cap, elems, rest, m, -, hcs, rfl, -, hl, hm, hel, hcells, hsp, -⟩
  · obtain rfl : k = .slice none 0 0 := by simpa using hcs
    exact ⟨[], [], rfl, fun i r x hr => by simp at hr, ⟨by simp, by simp, .inl ⟨rfl, none, 0, rfl⟩⟩, by simp, by simp⟩
  · obtain rfl : k = .slice (some a) len cap := by simpa using hcs
    simp only [DataW.weights, hu, List.all_cons, List.all_append, Bool.and_eq_true, decide_eq_true_eq, hby] at hw
    have hcap : len * by_ ≤ 140737488351232 := by
      have h1 := hw.1
      simp only [List.length_map, reachBytes] at h1
      rw [hel] at h1
      exact Nat.le_trans (Nat.mul_le_mul_right _ (Nat.le_add_right _ _)) h1
    have hbl : len ≤ Rows.uptoBulk (.slice (elems.map (·.1)) (rest.map (·.1)) : DataW H) := by
      have := bulk_len (elems.map (·.1))
      rw [List.length_map, hel] at this
      simp only [Rows.uptoBulk]
      omega
    have each : ∀ i, ∃ q : List Value × Option α, i < len → q.1.length = s ∧ (∀ j, j < s → W.cell? ((a.add (i * s)).add j) = q.1[j]?) ∧ ∃ x d, q.2 = some x ∧ G d q.1 x ∧ Rows.uptoBulk d ≤ Rows.uptoBulk (.slice (elems.map (·.1)) (rest.map (·.1)) : DataW H) := by
      intro i
      by_cases hi : i < len
      · have h1 := hcells i hi
        rw [hco, List.getElem?_eq_getElem (by omega), Option.bind_eq_some_iff] at h1
        obtain ⟨cs, hcs', htr⟩ := h1
        have hmem : elems[i].1 ∈ elems.map (·.1) := List.mem_map_of_mem (List.getElem_mem _)
        obtain ⟨x, hx⟩ := he _ _ _ htr (weights_allT hmem hw.2.1)
        refine ⟨(cs, some x), fun _ => ⟨hG _ _ _ hx, fun j hj => (World.cells?_some hcs').2.2 j hj, x, _, rfl, hx, ?_⟩⟩
        have := bulk_mem hmem
        simp only [Rows.uptoBulk]
        omega
      · exact ⟨([], none), fun h => absurd h hi⟩
    obtain ⟨f, hfx⟩ := Classical.skolem.1 each
    have hxs : ∃ xs : List α, xs.length = len ∧ ∀ i, i < len → xs[i]? = (f i).2 := by
      have : ∀ m, m ≤ len → ∃ xs : List α, xs.length = m ∧ ∀ i, i < m → xs[i]? = (f i).2 := by
        intro m
        induction m with
        | zero => intro _; exact ⟨[], rfl, fun i hi => by omega⟩
        | succ m ih =>
          intro hm
          obtain ⟨xs, h1, h2⟩ := ih (by omega)
          obtain ⟨-, -, x, d, hx, -⟩ := hfx m (by omega)
          refine ⟨xs ++ [x], by simp [h1], fun i hi => ?_⟩
          by_cases e : i < m
          · rw [List.getElem?_append_left (by omega)]; exact h2 i e
          · obtain rfl : i = m := by omega
            rw [List.getElem?_append_right (by omega), h1, Nat.sub_self, hx]
            rfl
      exact this len (Nat.le_refl _)
    obtain ⟨xs, hxl, hxe⟩ := hxs
    have hrl : ∀ r ∈ (List.range len).map (fun i => (f i).1), r.length = s := by
      intro r hr
      obtain ⟨i, hi, rfl⟩ := List.mem_map.1 hr
      exact (hfx i (List.mem_range.1 hi)).1
    have hfl : ∀ (rs : List (List Value)), (∀ r ∈ rs, r.length = s) → rs.flatten.length = rs.length * s ∧ ∀ i r, rs[i]? = some r → ∀ j, j < s → rs.flatten[i * s + j]? = r[j]? := by
      intro rs
      induction rs with
      | nil => intro _; exact ⟨by simp, fun i r hr => by simp at hr⟩
      | cons r0 rs ih =>
        intro hr
        obtain ⟨h1, h2⟩ := ih (fun r h => hr r (List.mem_cons_of_mem _ h))
        have h0 := hr r0 (by simp)
        refine ⟨by rw [List.flatten_cons, List.length_append, h0, h1, List.length_cons, Nat.succ_mul]; omega, fun i r hi j hj => ?_⟩
        match i, hi with
        | 0, hi =>
          simp at hi
          subst hi
          rw [List.flatten_cons, List.getElem?_append_left (by omega)]
          simp
        | i + 1, hi =>
          rw [List.flatten_cons, List.getElem?_append_right (by rw [h0, Nat.succ_mul]; omega), h0, ← h2 i r (by simpa using hi) j hj]
          congr 1
          rw [Nat.succ_mul]
          omega
    obtain ⟨hfl1, hfl2⟩ := hfl _ hrl
    have hrlen : ((List.range len).map (fun i => (f i).1)).length = len := by simp
    refine ⟨xs, (List.range len).map (fun i => (f i).1), by rw [hrlen, hxl], fun i r x hr hx => ?_, ⟨by rw [hfl1, hrlen, hxl], by rw [hxl]; exact Nat.le_trans (Nat.le_trans (Nat.le_mul_of_pos_right _ hb0) hcap) (by decide), ?_⟩, by rw [hxl]; exact hcap, by rw [hxl]; exact hbl⟩
    · have hi : i < len := by
        have := (List.getElem?_eq_some_iff.1 hx).1
        omega
      obtain ⟨-, -, x', d, hx', hg, hb⟩ := hfx i hi
      rw [hxe i hi, hx'] at hx
      cases hx
      rw [List.getElem?_map, List.getElem?_range hi] at hr
      simp only [Option.map_some, Option.some.injEq] at hr
      subst hr
      exact ⟨d, hg, hb⟩
    · by_cases h0 : len = 0
      · exact .inl ⟨by rw [hxl, h0], some a, cap, by rw [h0]⟩
      · obtain ⟨b, o, spot⟩ := a
        have hsp0 : ∃ u, W.cell? (((⟨b, o, spot⟩ : Addr).add (0 * s)).add 0) = some u := by
          obtain ⟨h1, h2, -⟩ := hfx 0 (by omega)
          refine ⟨(f 0).1[0]'(by omega), ?_⟩
          rw [h2 0 hs, List.getElem?_eq_getElem]
        obtain ⟨u0, hsp0⟩ := hsp0
        have hspot : spot = none := by
          have := World.cell?_spot hsp0
          simpa [Addr.add] using this
        subst hspot
        have hat : ∀ i j, ((⟨b, o, none⟩ : Addr).add i).add j = ⟨b, o + (i + j), none⟩ := by
          intro i j
          rw [add_plain, add_plain]; congr 1; omega
        refine .inr ⟨b, o, cap, by rw [hxl], by rw [hxl]; exact hl, ?_, fun i u hi => ?_⟩
        · have := World.block_lt_of_cell? W _ hsp0
          simpa [Addr.add] using this
        · have hil : i < len * s := by
            have := (List.getElem?_eq_some_iff.1 hi).1
            rw [hfl1, hrlen] at this
            exact this
          have hq : i / s < len := Nat.div_lt_of_lt_mul (by rw [Nat.mul_comm]; exact hil)
          have hr : i % s < s := Nat.mod_lt _ hs
          have e : i / s * s + i % s = i := by rw [Nat.mul_comm]; exact Nat.div_add_mod i s
          have hget : ((List.range len).map (fun i => (f i).1))[i / s]? = some (f (i / s)).1 := by rw [List.getElem?_map, List.getElem?_range hq]; rfl
          have h1 := hfl2 (i / s) _ hget (i % s) hr
          rw [e] at h1
          have h2 := (hfx (i / s) hq).2.1 (i % s) hr
          rw [hat, e] at h2
          rw [h2, ← h1]
          exact hi
end
end Go.Proofs.YtehjindeggmfpaaGreatDoor
namespace Go.Proofs.YtehjindeggmfpaaGreatDoor
open Go.ChangeShapes Go.WideShapes Go.ChangeAt Go.RowKit Go.WideMaps Go.WideElems

set_option maxRecDepth 100000
section
variable {H : Type} {enc : TypeId × Value → H}
theorem rs_map {α : Type} {f : α → List Value} {xs : List α} {rs : List (List Value)} (hl : rs.length = xs.length) (h : ∀ (i : Nat) (r : List Value) (x : α), rs[i]? = some r → xs[i]? = some x → r = f x) : rs.flatten = xs.flatMap f := by
  have e : rs = xs.map f := by
    apply List.ext_getElem?
    intro i
    rw [List.getElem?_map]
    by_cases hi : i < xs.length
    · have h1 : rs[i]? = some rs[i] := List.getElem?_eq_getElem (by omega)
      have h2 : xs[i]? = some xs[i] := List.getElem?_eq_getElem hi
      rw [h1, h2, h i _ _ h1 h2]
      rfl
    · rw [List.getElem?_eq_none (by omega), List.getElem?_eq_none (by omega)]
      rfl
  rw [e, List.flatMap_def]
theorem hn_cells {W : World} {n : Nat} {cs : List Value} {y : DataW H × List MemPlace} (h : DataW.trod enc Tryz.prog W 0 (fun _ => true) true n 58 cs = some y) : ∃ x : Cf.Hn, cs = hL x := by
  obtain ⟨xs, m, -, hy, hl, hlen, hf⟩ := DataW.trod_struct Tryz.underlying58 h
  have hl4 : cs.length = 4 := hl.trans (by kernel_rfl)
  have hx4 : xs.length = 4 := hlen
  match xs, hx4 with
  | [x0, x1, x2, x3], _ =>
  match cs, hl4 with
  | [k0, k1, k2, k3], _ =>
  obtain ⟨a, e0, -, -⟩ := DataW.trod_int Tryz.underlying3 (hf 0 _ rfl)
  obtain ⟨b, e1, -, -⟩ := DataW.trod_int Tryz.underlying3 (hf 1 _ rfl)
  obtain ⟨c, e2, -, -⟩ := DataW.trod_int Tryz.underlying3 (hf 2 _ rfl)
  obtain ⟨d, e3, -, -⟩ := DataW.trod_int Tryz.underlying3 (hf 3 _ rfl)
  have q0 : ([k0, k1, k2, k3].drop 0).take (Tryz.prog.cellsOf 3) = [.int .i64 a] := e0
  have q1 : ([k0, k1, k2, k3].drop 1).take (Tryz.prog.cellsOf 3) = [.int .i64 b] := e1
  have q2 : ([k0, k1, k2, k3].drop 2).take (Tryz.prog.cellsOf 3) = [.int .i64 c] := e2
  have q3 : ([k0, k1, k2, k3].drop 3).take (Tryz.prog.cellsOf 3) = [.int .i64 d] := e3
  rw [A.cellsInt] at q0 q1 q2 q3
  simp only [List.drop_zero, List.take_succ_cons, List.take_zero, List.cons.injEq, and_true, List.drop_succ_cons] at q0 q1 q2 q3
  subst q0 q1 q2 q3
  exact ⟨⟨a, b, c, d⟩, rfl⟩
theorem hs_cell {W : World} {n : Nat} {k : Value} {y : DataW H × List MemPlace} (h : DataW.trod enc Tryz.prog W 0 (fun _ => true) true n 40 [k] = some y) (hw : (y.1.weights Tryz.prog 40).all (· ≤ reachBytes) = true) :
    ∃ hs : List Cf.Hn, Kit.IsS 4 W k hs.length (hs.flatMap hL) ∧ hs.length * 32 ≤ 140737488351232 ∧ hs.length ≤ Rows.uptoBulk y.1 := by
  obtain ⟨xs, rs, h1, h2, h3, h4, h5⟩ := list_cell (s := 4) (by_ := 32) (tE := 58) (fun (_ : DataW H) cs (x : Cf.Hn) => cs = hL x) (fun _ _ x h => by rw [h]; rfl) (by decide) Tryz.underlying40 (by kernel_rfl) (by kernel_rfl) (by decide) (fun m cs z hz _ => hn_cells hz) h hw
  refine ⟨xs, ?_, h4, h5⟩
  rw [← rs_map h1 (fun i r x hr hx => by obtain ⟨d, hd, -⟩ := h2 i r x hr hx; exact hd)]
  exact h3
theorem A.cellsBs : Tryz.prog.cellsOf 22 = 1 := by kernel_rfl
theorem A.cellsHs : Tryz.prog.cellsOf 40 = 1 := by kernel_rfl
/-- What a machine's memory can hold as a member; how great it is. -/
structure GoodM (m : Cf.Mb) (B : Nat) : Prop where
  ac : L3.I6 m.ac
  hs : m.hs.length * 32 ≤ 140737488351232
  cb : m.code.length ≤ B
  hb : m.hs.length ≤ B
theorem mb_cells {W : World} {n : Nat} {cs : List Value} {y : DataW H × List MemPlace} (h : DataW.trod enc Tryz.prog W 0 (fun _ => true) true n 42 cs = some y) (hw : (y.1.weights Tryz.prog 42).all (· ≤ reachBytes) = true) :
    ∃ m : Cf.Mb, MbR W cs m ∧ GoodM m (Rows.uptoBulk y.1) := by
  obtain ⟨xs, m, -, hy, hl, hlen, hf⟩ := DataW.trod_struct Tryz.underlying42 h
  have hl7 : cs.length = 7 := hl.trans (by kernel_rfl)
  have hx7 : xs.length = 7 := hlen
  match xs, hx7 with
  | [x0, x1, x2, x3, x4, x5, x6], _ =>
  match cs, hl7 with
  | [k0, k1, k2, k3, k4, k5, k6], _ =>
  obtain ⟨a, e0, g0, w0⟩ := DataW.trod_int Tryz.underlying3 (hf 0 _ rfl)
  obtain ⟨b, e1, g1, -⟩ := DataW.trod_int Tryz.underlying3 (hf 1 _ rfl)
  obtain ⟨c, e2, g2, -⟩ := DataW.trod_int Tryz.underlying3 (hf 2 _ rfl)
  obtain ⟨d, e3, g3, -⟩ := DataW.trod_int Tryz.underlying3 (hf 3 _ rfl)
  obtain ⟨e, e4, g4, -⟩ := DataW.trod_int Tryz.underlying3 (hf 4 _ rfl)
  have q0 : ([k0, k1, k2, k3, k4, k5, k6].drop 0).take (Tryz.prog.cellsOf 3) = [.int .i64 a] := e0
  have q1 : ([k0, k1, k2, k3, k4, k5, k6].drop 1).take (Tryz.prog.cellsOf 3) = [.int .i64 b] := e1
  have q2 : ([k0, k1, k2, k3, k4, k5, k6].drop 2).take (Tryz.prog.cellsOf 3) = [.int .i64 c] := e2
  have q3 : ([k0, k1, k2, k3, k4, k5, k6].drop 3).take (Tryz.prog.cellsOf 3) = [.int .i64 d] := e3
  have q4 : ([k0, k1, k2, k3, k4, k5, k6].drop 4).take (Tryz.prog.cellsOf 3) = [.int .i64 e] := e4
  have f5 : DataW.trod enc Tryz.prog W 0 (fun _ => true) true m 22 (([k0, k1, k2, k3, k4, k5, k6].drop 5).take (Tryz.prog.cellsOf 22)) = some x5 := hf 5 _ rfl
  have f6 : DataW.trod enc Tryz.prog W 0 (fun _ => true) true m 40 (([k0, k1, k2, k3, k4, k5, k6].drop 6).take (Tryz.prog.cellsOf 40)) = some x6 := hf 6 _ rfl
  rw [A.cellsInt] at q0 q1 q2 q3 q4
  rw [A.cellsBs] at f5
  rw [A.cellsHs] at f6
  simp only [List.drop_zero, List.take_succ_cons, List.take_zero, List.cons.injEq, and_true, List.drop_succ_cons] at q0 q1 q2 q3 q4 f5 f6
  subst q0 q1 q2 q3 q4
  subst hy
  simp only [DataW.weights, Tryz.underlying42, List.map_cons, List.map_nil, DataW.weightsEach, List.all_append, Bool.and_eq_true] at hw
  obtain ⟨bs, hb1, hb2, hb3⟩ := bs_cell f5 (by simp_all)
  obtain ⟨hs, hh1, hh2, hh3⟩ := hs_cell f6 (by simp_all)
  refine ⟨⟨a, b, c, d, e, bs, hs⟩, ⟨k5, k6, rfl, hb1, hh1, by show bs.length ≤ _; omega⟩, ⟨i6_wf w0, hh2, ?_, ?_⟩⟩
  · show bs.length ≤ _
    simp only [Rows.uptoBulk, Rows.uptoBulkAll, List.map_cons, List.map_nil]
    omega
  · show hs.length ≤ _
    simp only [Rows.uptoBulk, Rows.uptoBulkAll, List.map_cons, List.map_nil]
    omega
theorem msC_of {W : World} : ∀ {rs : List (List Value)} {ms : List Cf.Mb}, rs.length = ms.length → (∀ (i : Nat) (r : List Value) (m : Cf.Mb), rs[i]? = some r → ms[i]? = some m → MbR W r m) → MsC W rs ms
  | [], [], _, _ => trivial
  | r :: rs, m :: ms, hl, h => ⟨h 0 r m rfl rfl, msC_of (by simpa using hl) fun i x y hx hy => h (i + 1) x y (by simpa using hx) (by simpa using hy)⟩
  | [], _ :: _, hl, _ => by simp at hl
  | _ :: _, [], hl, _ => by simp at hl
theorem ms_cell {W : World} {n : Nat} {k : Value} {y : DataW H × List MemPlace} (h : DataW.trod enc Tryz.prog W 0 (fun _ => true) true n 24 [k] = some y) (hw : (y.1.weights Tryz.prog 24).all (· ≤ reachBytes) = true) :
    ∃ ms : List Cf.Mb, MsR W k ms ∧ (∀ m ∈ ms, GoodM m (Rows.uptoBulk y.1)) ∧ ms.length * 88 ≤ 140737488351232 ∧ ms.length ≤ Rows.uptoBulk y.1 := by
  obtain ⟨xs, rs, h1, h2, h3, h4, h5⟩ := list_cell (s := 7) (by_ := 88) (tE := 42) (fun (d : DataW H) cs (m : Cf.Mb) => MbR W cs m ∧ GoodM m (Rows.uptoBulk d)) (fun _ _ x h => h.1.len) (by decide) Tryz.underlying24 (by kernel_rfl) (by kernel_rfl) (by decide) (fun m cs z hz hw => mb_cells hz hw) h hw
  refine ⟨xs, ⟨rs, msC_of h1 fun i r x hr hx => ?_, h3⟩, fun m hm => ?_, h4, h5⟩
  · obtain ⟨d, hd, -⟩ := h2 i r x hr hx
    exact hd.1
  · obtain ⟨i, hi⟩ := List.mem_iff_getElem?.1 hm
    have hlt : i < rs.length := by rw [h1]; exact (List.getElem?_eq_some_iff.1 hi).1
    obtain ⟨d, hd, hb⟩ := h2 i _ m (List.getElem?_eq_getElem hlt) hi
    exact ⟨hd.2.ac, hd.2.hs, Nat.le_trans hd.2.cb hb, Nat.le_trans hd.2.hb hb⟩
end
end Go.Proofs.YtehjindeggmfpaaGreatDoor

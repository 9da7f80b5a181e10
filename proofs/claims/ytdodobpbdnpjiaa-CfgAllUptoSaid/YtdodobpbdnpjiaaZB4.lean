/- Own texts for the claim, part 4. -/
import Derived.Test.YtdodobpbdnpjiaaZB3
import Derived.Laws.CopyOwn
import Derived.WalkLawsBesides
namespace Go.Proofs.Ytdodobpbdnpjiaa
open Go Go.RowKit
open Kit (natVals)
open Cf (Op5 Ca opL caL)

/-- A span: the block at which a catch goes on, from where to where. -/
abbrev Sp := Int × Int × Int
def spL (s : Sp) : List Value := [.int .i64 s.1, .int .i64 s.2.1, .int .i64 s.2.2]
theorem spL_len (s : Sp) : (spL s).length = 3 := rfl
def cfS (a b : Sp) : Int := if Lib.compareInt a.1 b.1 = 0 then Lib.compareInt a.2.1 b.2.1 else Lib.compareInt a.1 b.1
theorem cfS_lt (a b : Sp) : ltOf cfS a b = true ↔ a.1 < b.1 ∨ (a.1 = b.1 ∧ a.2.1 < b.2.1) := by
  unfold ltOf cfS
  rw [decide_eq_true_iff]
  by_cases h : Lib.compareInt a.1 b.1 = 0
  · rw [if_pos h, cmp_neg]
    rw [cmp_zero] at h
    omega
  · rw [if_neg h, cmp_neg]
    rw [cmp_zero] at h
    omega
theorem swoS : Sort.SWO (ltOf cfS) where
  irrefl x := by
    rw [Bool.eq_false_iff]
    intro h
    have := (cfS_lt x x).1 h
    omega
  trans x y z h1 h2 := (cfS_lt x z).2 (by
    have h1 := (cfS_lt x y).1 h1
    have h2 := (cfS_lt y z).1 h2
    omega)
  ntrans x y z h1 h2 := by
    rw [Bool.eq_false_iff] at *
    intro h
    have h := (cfS_lt x z).1 h
    have h1 : ¬ (x.1 < y.1 ∨ (x.1 = y.1 ∧ x.2.1 < y.2.1)) := fun k => h1 ((cfS_lt x y).2 k)
    have h2 : ¬ (y.1 < z.1 ∨ (y.1 = z.1 ∧ y.2.1 < z.2.1)) := fun k => h2 ((cfS_lt y z).2 k)
    omega
set_option maxRecDepth 100000 in
set_option maxHeartbeats 1000000 in
theorem spans1_any (a b : Sp) (w : World) : Calls Try.prog 59 #[.agg (spL a).toArray, .agg (spL b).toArray] w fun e w' => e = .returned (.int .i64 (cfS a b)) ∧ ∃ q o1 o2 o3, w' = (((w.drewN q).alloc o1).alloc o2).alloc o3 := by
  obtain ⟨a0, a1, a2⟩ := a
  obtain ⟨b0, b1, b2⟩ := b
  have HC1 := fun W => compare_any a0 b0 W
  have HC2 := fun W => compare_any a1 b1 W
  unfold cfS spL
  dsimp only
  obtain ⟨c, hc⟩ : ∃ c, Lib.compareInt a0 b0 = c := ⟨_, rfl⟩
  obtain ⟨d, hd⟩ : ∃ d, Lib.compareInt a1 b1 = d := ⟨_, rfl⟩
  rw [hc] at HC1 ⊢
  rw [hd] at HC2 ⊢
  have HH1 := hid HC1
  have HH2 := hid HC2
  have HOr := hid (fun W => or_any c d (w.heap.size + 1 + 1) 2 W)
  obtain ⟨r, hr⟩ : ∃ r, (if c = 0 then d else c) = r := ⟨_, rfl⟩
  rw [hr] at HOr ⊢
  clear hc hd HC1 HC2 hr
  go_enter Try.func59, Try.ntmps59
  go_wp2
  go_region_law (first
    | (refine Kit.step_call1 rfl 40 (.tmp 15) 34 rfl (.slice (some ⟨w.heap.size + 1 + 1, 0, none⟩) 2 2) (by first | with_reducible rfl | (simp [go_sem]; done) | rfl) (cf_or _ _) _ (HOr.out _ (by simp; rw [World.cell?_alloc_at _ _ _ _ (by simp)]; rfl) (by simp; rw [World.cell?_alloc_at _ _ _ _ (by simp)]; rfl)) ?_; rintro e w3 ⟨rfl, rfl⟩; refine ⟨_, rfl, ?_⟩)
    | (refine Kit.step_call2 rfl 41 (.tmp 6) (.tmp 8) 3 3 rfl (.int .i64 a0) (.int .i64 b0) (by first | with_reducible rfl | (simp [go_sem]; done) | rfl) (by first | with_reducible rfl | (simp [go_sem]; done) | rfl) (cf_cmp _ _ _) _ (HH1.out _) ?_; rintro e w3 ⟨rfl, rfl⟩; refine ⟨_, rfl, ?_⟩)
    | (refine Kit.step_call2 rfl 41 (.tmp 11) (.tmp 13) 3 3 rfl (.int .i64 a1) (.int .i64 b1) (by first | with_reducible rfl | (simp [go_sem]; done) | rfl) (by first | with_reducible rfl | (simp [go_sem]; done) | rfl) (cf_cmp _ _ _) _ (HH2.out _) ?_; rintro e w3 ⟨rfl, rfl⟩; refine ⟨_, rfl, ?_⟩))
  all_goals
    go_wp2
    go_ret
    exact ⟨rfl, _, _, _, _, rfl⟩
end Go.Proofs.Ytdodobpbdnpjiaa
namespace Go.Proofs.Ytdodobpbdnpjiaa
open Go Go.RowKit
open Kit (natVals)
open Cf (Op5 Ca opL caL)

/-- A row of any cells, put in order. -/
theorem put_own {w : World} {base blk n cap sz : Nat} {e : TypeId} {xs : List Value} (h : w.ownsRow base e sz (.slice (some ⟨blk, 0, none⟩) n cap) n xs) (m : Nat) (A : Array Value) (os : Array Obj) (hA : A.size = n * sz) :
    (Sort.grow (Sort.putRow id (Sort.ahead w m) blk 0 A) os).ownsRow base e sz (.slice (some ⟨blk, 0, none⟩) n cap) n A.toList := by
  refine ⟨by simp [hA], .inr ?_⟩
  rcases h.2 with ⟨h2, -⟩ | ⟨g', cap', cur, hv, hg, hh, h1, h2, h3, h4⟩
  · cases h2
  · obtain ⟨e1, -, rfl⟩ := Value.slice.inj hv
    obtain rfl : blk = g' := by simpa using e1
    have hlt := (Array.getElem?_eq_some_iff.1 hh).1
    have hnc : n * sz ≤ cap * sz := Nat.mul_le_mul_right _ h1
    refine ⟨blk, cap, Sort.putCells id 0 A cur, rfl, hg, ?_, h1, h2, by simp [Sort.putCells, h3], ?_⟩
    · rw [Sort.heap_grow_old _ _ (by rw [size_putRow]; exact hlt)]
      unfold Sort.putRow Sort.mapBlock
      simp only [Array.getElem?_modify]
      rw [if_pos trivial]
      show Option.map _ w.heap[blk]? = _
      rw [hh]
      rfl
    · apply List.ext_getElem?
      intro k
      rw [List.getElem?_take]
      by_cases hk : k < n * sz
      · rw [if_pos hk]
        have hk2 : k < A.size := by omega
        have hk3 : k < cur.size := by rw [h3]; omega
        rw [Array.getElem?_toList]
        unfold Sort.putCells
        rw [Array.getElem?_mapIdx, Array.getElem?_eq_getElem hk3, Option.map_some, if_pos ⟨by omega, by omega⟩, Array.getElem?_toList, Array.getElem?_eq_getElem hk2, Nat.sub_zero, getElem!_pos A k hk2]
        rfl
      · rw [if_neg hk, Array.getElem?_toList, Array.getElem?_eq_none (by omega)]
theorem put_chg {w : World} {blk : Nat} (m : Nat) (A : Array Value) (os : Array Obj) : Chg (fun i => i = blk) w (Sort.grow (Sort.putRow id (Sort.ahead w m) blk 0 A) os) := by
  refine ⟨rfl, rfl, rfl, ?_, fun k hk hne => ?_⟩
  · rw [Sort.size_grow, size_putRow]
    show w.heap.size ≤ w.heap.size + _
    omega
  · rw [Sort.heap_grow_old _ _ (by rw [size_putRow]; exact hk)]
    unfold Sort.putRow Sort.mapBlock
    simp only [Array.getElem?_modify]
    rw [if_neg (fun e => hne e.symm)]
    rfl
theorem flat_list {α : Type} [Inhabited α] {enc : α → List Value} {s : Nat} (hs : ∀ x, (enc x).length = s) (h0 : 0 < s) (d : Array α) : (Sort.flatK enc s d).toList = d.toList.flatMap enc := by
  apply List.ext_getElem?
  intro t
  by_cases ht : t < d.size * s
  · have hd : t / s < d.size := (Nat.div_lt_iff_lt_mul h0).2 ht
    have hm : t % s < s := Nat.mod_lt _ h0
    have h1 := Kit.flat_at hs (l := d.toList) (k := t / s) (x := d[t / s]) (by simp [hd]) (t % s) hm
    rw [show t / s * s + t % s = t by rw [Nat.mul_comm]; exact Nat.div_add_mod t s] at h1
    rw [h1, Array.getElem?_toList, Array.getElem?_eq_getElem (by rw [Sort.size_flatK]; exact ht), ← getElem!_pos, Sort.get_flatK _ _ _ _ ht, getElem!_pos d _ hd, getElem!_pos (enc d[t / s]) (t % s) (by rw [hs]; exact hm), List.getElem?_eq_getElem]
  · rw [List.getElem?_eq_none (by rw [Array.length_toList, Sort.size_flatK]; omega), List.getElem?_eq_none (by rw [Kit.flat_len hs, Array.length_toList]; omega)]
def SpR (w : World) (base : Nat) (v : Value) (S : List Sp) : Prop := w.ownsRow base 91 3 v S.length (S.flatMap spL)
theorem SpR.at {w : World} {base : Nat} {v : Value} {S : List Sp} (h : SpR w base v S) {i : Nat} {s : Sp} (hi : S[i]? = some s) : ∃ b cap, v = .slice (some ⟨b, 0, none⟩) S.length cap ∧ b < w.heap.size ∧ w.cell? ⟨b, i * 3, none⟩ = some (.int .i64 s.1) ∧ w.cell? ⟨b, i * 3 + 1, none⟩ = some (.int .i64 s.2.1) ∧ w.cell? ⟨b, i * 3 + 2, none⟩ = some (.int .i64 s.2.2) := by
  have hk := (List.getElem?_eq_some_iff.1 hi).1
  rcases h.2 with ⟨-, h2⟩ | ⟨g, cap, cur, h1, hg, hh, hc1, hc2, hc3, ht⟩
  · omega
  · refine ⟨g, cap, h1, (Array.getElem?_eq_some_iff.1 hh).1, ?_⟩
    have hat : ∀ j, j < 3 → w.cell? ⟨g, i * 3 + j, none⟩ = (spL s)[j]? := fun j hj => by
      have hx2 := Kit.flat_at spL_len hi j hj
      have : cur[i * 3 + j]? = (spL s)[j]? := by
        rw [← ht, List.getElem?_take_of_lt (by omega)] at hx2
        simpa using hx2
      simp [World.cell?, hh, this]
    exact ⟨hat 0 (by omega), hat 1 (by omega), hat 2 (by omega)⟩
/-- slices.SortFunc at spans: the same ones, in whatever order. -/
theorem sortS_any {w : World} {base : Nat} {v : Value} {S : List Sp} (h : SpR w base v S) (hl : S.length ≤ 4294967296) :
    Calls Try.prog 58 #[v, .func (.func 59) #[] #[]] w fun e w' => e = .returned (.tuple #[]) ∧ ∃ S', S'.length = S.length ∧ (∀ s ∈ S', s ∈ S) ∧ SpR w' base v S' ∧ Chg (fun i => v.ownBlock = some i) w w' := by
  rcases h.2 with ⟨rfl, h0⟩ | ⟨g, cap, cur, rfl, hg, hh, hc1, hc2, hc3, ht⟩
  · refine (AnyF.slices_SortFunc_none Sh.sortS none 0 _ w).mono ?_
    rintro e w' ⟨rfl, rfl⟩
    exact ⟨rfl, S, rfl, fun s hs => hs, h, Chg.refl _ _⟩
  · have hfl : (Sort.flatK spL 3 S.toArray).toList = S.flatMap spL := flat_list spL_len (by omega) _
    have hH : Sort.HoldsK spL 3 w g 0 S.toArray := by
      intro j hj
      rw [Sort.size_flatK] at hj
      have hj2 : j < S.length * 3 := by simpa using hj
      have hx : (Sort.flatK spL 3 S.toArray)[j]? = some ((Sort.flatK spL 3 S.toArray)[j]!) := by rw [getElem!_pos _ j (by rw [Sort.size_flatK]; exact hj), Array.getElem?_eq_getElem]
      have hcur : cur[j]? = some ((Sort.flatK spL 3 S.toArray)[j]!) := by
        have h3 : (S.flatMap spL)[j]? = some ((Sort.flatK spL 3 S.toArray)[j]!) := by rw [← hfl, Array.getElem?_toList, hx]
        rw [← ht, List.getElem?_take_of_lt hj2] at h3
        simpa using h3
      rw [Nat.zero_add]
      exact ⟨by simp [World.cell?, hh, hcur], by simp [World.frozen?, hh]⟩
    have hcmp : CmpLays Try.prog 59 #[] spL 3 cfS g 0 S.toArray.size w := by
      intro m os dk _ x y
      refine (spans1_any x y _).mono ?_
      rintro e w' ⟨rfl, q, o1, o2, o3, rfl⟩
      refine ⟨rfl, q, #[o1] ++ #[o2] ++ #[o3], ?_⟩
      rw [Sort.alloc_eq_grow, Sort.alloc_eq_grow, Sort.alloc_eq_grow, Sort.grow_grow, Sort.grow_grow, Array.append_assoc]
    have hcon := AnyQ.slices_SortFunc Sh.sortS 3 Try.isAgg91 Try.sizeOf91 spL spL_len (by intro x v hv; simp [spL] at hv; rcases hv with rfl | rfl | rfl <;> rfl) cfS swoS 59 #[] g 0 cap S.toArray w
      (enters_of Try.func59 (by kernel_rfl) rfl) hcmp hH (Array.getElem?_eq_some_iff.1 hh).1 (by simp; omega)
    change Calls Try.prog 58 _ _ _ at hcon
    refine hcon.mono ?_
    rintro e w' ⟨rfl, d', n, os, ⟨p1, -, p2⟩, -, rfl⟩
    have hds : d'.size = S.length := by simpa using p1
    have e1 : (d'.extract 0 S.toArray.size) = d' := by rw [← p1]; simp
    have e2 : (S.toArray.extract 0 S.toArray.size) = S.toArray := by simp
    rw [e1, e2] at p2
    have hfl2 : (Sort.flatK spL 3 d').toList = d'.toList.flatMap spL := flat_list spL_len (by omega) _
    have o1 := put_own (show w.ownsRow base 91 3 (.slice (some ⟨g, 0, none⟩) S.length cap) S.length (S.flatMap spL) from h) n (Sort.flatK spL 3 d') os (by rw [Sort.size_flatK, hds])
    rw [hfl2] at o1
    refine ⟨rfl, d'.toList, by simpa using hds, fun s hs => by have := p2.mem_iff.1 hs; simpa using this, ?_, (put_chg n (Sort.flatK spL 3 d') os).mono (fun i _ e => by rw [e]; rfl)⟩
    unfold SpR
    have e3 : d'.toList.length = S.length := by simpa using hds
    rw [e3]
    exact o1
theorem infoSp : (Try.prog.info? 91).map (fun i => (i.zero, i.size, i.bytes)) = some (some (.agg #[.int .i64 0, .int .i64 0, .int .i64 0]), 3, 24) := by kernel_rfl
/-- A span that may be. -/
def GoodS (k n : Nat) (s : Sp) : Prop := ∃ t f e : Nat, s = ((t : Int), (f : Int), (e : Int)) ∧ t < k ∧ f ≤ n ∧ e ≤ n
def SpI (w : World) (k n m : Nat) (v : Value) (S : List Sp) (W : World) : Prop := SpR W w.heap.size v S ∧ S.length ≤ m ∧ (∀ s ∈ S, GoodS k n s) ∧ Below w.heap.size w W
section
variable {cb : Nat} {cov pv : Value} {L : List Op5} {P : List Nat}
set_option maxRecDepth 100000
set_option maxHeartbeats 2000000
theorem spans_any (hP : Cf.Pl (Cf.adr L) L.length P) {base ob k : Nat} {B : Nat → Bool} {cv : Value} {C : List Ca} {w : World} (hC : Code w cb cov pv L P) (hcs : CaS w cv C) (hof : w.ownsRow base 3 1 (.slice (some ⟨ob, 0, none⟩) L.length L.length) L.length (ivals (Cf.ofN B) L.length)) (hn : L.length ≤ 1048576) (hm : C.length ≤ 1048576)
    (hk : ∀ i, i < L.length → Cf.ofB B i < k) :
    Calls Try.prog 48 #[.pointer (some ⟨cb, 0, none⟩), .slice (some ⟨ob, 0, none⟩) L.length L.length, cv] w fun e w' => ∃ v S, e = .returned v ∧ SpI w k L.length C.length v S w' := by
  obtain ⟨i0, hi, hy0, hy1, hy2⟩ := info_parts infoSp
  obtain ⟨ca, ccap, rfl⟩ := Kit.IsS.len hcs
  have HCd := hid (fun W (hb : Below w.heap.size w W) => hC.below hb)
  have HCs := hid (fun W (hb : Below w.heap.size w W) => hcs.below hb)
  have HOf := hid (fun W (hb : Below w.heap.size w W) => Kit.owns_below hof hb (Nat.le_refl _))
  have HFi := hid (fun t W (hb : Below w.heap.size w W) => find_any hP hn t W (hC.below hb))
  have HFr := hid (fun t W (hb : Below w.heap.size w W) => from_any hP hn t W (hC.below hb))
  have HKo := hid (fun t => (Cf.find_is hP t (k := kOf L P t) rfl).1)
  have HI : Hid (SpI w k L.length 0 Nil [] w) := ⟨⟨rfl, .inl ⟨rfl, rfl⟩⟩, by simp, fun s hs => by simp at hs, Below.refl _ _⟩
  have HK := hid hk
  clear hC hcs hof hP hk
  go_enter Try.func48, Try.ntmps48
  go_wp2
  go_loopw [15, 7] (fun v u wr => ∃ (m : Nat) (S : List Sp), v = .int .i64 (m : Int) ∧ m ≤ C.length ∧ Hid (SpI w k L.length m u S wr)) (fun v _ _ => C.length - (intOf v).toNat)
  case atStart => exact ⟨0, [], rfl, by omega, HI⟩
  case round =>
    clear HI
    obtain ⟨m, S, rfl, hmm, HI⟩ := hrel
    have hbl := HI.out.2.2.2
    by_cases hlt : m < C.length
    · obtain ⟨c, hcx⟩ : ∃ c, C[m]? = some c := ⟨_, List.getElem?_eq_getElem hlt⟩
      obtain ⟨b, o, p, hv, hob, hc⟩ := (HCs.out wr hbl).at (by omega)
      obtain ⟨rfl, -, rfl⟩ := Value.slice.inj hv
      obtain ⟨c0, c1, c2, c3⟩ := hc m c hcx
      obtain ⟨cf, ct, ca, cc⟩ := c
      dsimp only at c0 c1 c2 c3
      have HFx := hid (HFi.out ca)
      have HFf := hid (HFr.out cf)
      have HFt := hid (HFr.out ct)
      obtain ⟨r, hr⟩ : ∃ r, Cf.first L ca = r := ⟨_, rfl⟩
      rw [hr] at HFx
      have HR := hid hr
      have hkf := HKo.out cf
      have hkt := HKo.out ct
      unfold fst at HFx
      unfold fromV at HFf HFt
      obtain ⟨kf, hkf2⟩ : ∃ x, kOf L P cf = x := ⟨_, rfl⟩
      obtain ⟨kt, hkt2⟩ : ∃ x, kOf L P ct = x := ⟨_, rfl⟩
      rw [hkf2] at HFf hkf
      rw [hkt2] at HFt hkt
      obtain ⟨bf, hbf⟩ : ∃ x, (decide (kf < L.length) && decide (Cf.adr L (P[kf]?.getD 0) = cf)) = x := ⟨_, rfl⟩
      obtain ⟨bt, hbt⟩ : ∃ x, (decide (kt < L.length) && decide (Cf.adr L (P[kt]?.getD 0) = ct)) = x := ⟨_, rfl⟩
      rw [hbf] at HFf
      rw [hbt] at HFt
      have hws := hbl.size
      have BC := hid (BX.new wr #[.int .i64 cf, .int .i64 ct, .int .i64 ca, .int .i64 cc] 86)
      obtain ⟨ua, ucap, rfl⟩ := own_form HI.out.1
      have HOw := hid (fun X (hb : Below wr.heap.size wr X) => Kit.owns_below HI.out.1 hb (Nat.le_refl _))
      have hSl := HI.out.2.1
      clear hc hv hcx hr hkf2 hkt2 hbf hbt
      cases r with
      | none =>
        go_wp2_with (go_at_call 45; refine (HFx.out _ (belows (a := w) hbl ((Below.refl _ _).alloc (Nat.le_refl _) _) hbl.size)).mono ?_; rintro e w1 ⟨rfl, hb⟩; have HB1 := hid hb; clear hb)
        go_roundw
        case rel =>
          have hb1 : Below wr.heap.size wr w1 := belows ((Below.refl _ _).alloc (Nat.le_refl _) _) HB1.out (by simp)
          exact ⟨m + 1, S, by go_num, by omega, Kit.owns_below HI.out.1 hb1 (Nat.le_refl _), by omega, HI.out.2.2.1, belows hbl hb1 hbl.size⟩
        case measure => simp [intOf]; omega
      | some q =>
        have hqn : q < L.length := Cf.first_lt HR.out
        have hofk := HK.out q hqn
        obtain ⟨tq, htq⟩ : ∃ tq, Cf.ofB B q = tq := ⟨_, rfl⟩
        have HTQ := hid htq
        rw [htq] at hofk
        have hGood : Hid (GoodS k L.length ((tq : Int), (kf : Int), (kt : Int))) := ⟨tq, kf, kt, rfl, hofk, hkf, hkt⟩
        clear htq
        go_upto_region 9 with (first
          | (go_at_call 45; refine (HFx.out _ (belows (a := w) hbl ((Below.refl _ _).alloc (Nat.le_refl _) _) hbl.size)).mono ?_; rintro e w1 ⟨rfl, hb⟩; have B1 := BC.out.below hb; have HBX1 := hid B1; have d0 : w1.cell? ⟨wr.heap.size, 0, none⟩ = some (.int .i64 cf) := B1.cell 0; have hz1 : wr.heap.size < w1.heap.size := B1.sz; have hb1 : Below wr.heap.size wr w1 := belows ((Below.refl _ _).alloc (Nat.le_refl _) _) hb (by simp); have HB1 := hid hb1; have e0 := (own_cell (HOf.out w1 (belows hbl hb1 hbl.size)) (ivals_at hqn)).1; have e1 : w1.cell? ⟨ob, q, none⟩ = some (.int .i64 (Cf.ofB B q : Int)) := e0; rw [HTQ.out] at e1; clear hb B1 hb1 e0)
          | (go_at_call 57; refine (HFf.out _ (belows (belows hbl HB1.out hbl.size) ((Below.refl _ _).alloc (Nat.le_refl _) _) (by omega))).mono ?_; rintro e w2 ⟨rfl, hb⟩; have B2 := (BX.new w1 #[.int .i64 (tq : Int), .int .i64 0, .int .i64 0] 91).below hb; have HBX2 := hid B2; have f1 := B2.cell 1; have f2 : w2.cell? ⟨w1.heap.size, 1, none⟩ = some (.int .i64 0) := f1; have f3 := B2.frozen 1; have hz2 : w1.heap.size < w2.heap.size := B2.sz; have HBC2 := hid ((HBX1.out.below ((Below.refl _ _).alloc (Nat.le_refl _) _)).below hb); have HB2 : Hid (Below w1.heap.size w1 w2) := belows ((Below.refl _ _).alloc (Nat.le_refl _) _) hb (by simp); clear hb B2 f1))
        refine region_named fun W3 hW3 => ?_
        have B3 : BX W3 w1.heap.size #[.int .i64 (tq : Int), .int .i64 (kf : Int), .int .i64 0] 91 := by rw [hW3]; exact box_set HBX2.out 1 _
        have hc3 : Chg (fun i => i = w1.heap.size) w2 W3 := by rw [hW3]; exact (Chg.refl (fun i => i = w1.heap.size) w2).set (p := ⟨w1.heap.size, 1, none⟩) (.inl rfl) _
        have BC3 := HBC2.out.chg hc3 (by omega)
        have hb3 : Below w1.heap.size w1 W3 := HB2.out.trans (hc3.to_below (fun j e => by omega) HB2.out.size)
        have g1 : W3.cell? ⟨wr.heap.size, 1, none⟩ = some (.int .i64 ct) := BC3.cell 1
        have hz3 := B3.sz
        have HBX3 := hid B3
        have HB3 := hid (belows (belows hbl HB1.out hbl.size) hb3 (by omega))
        have HB3r := hid (belows HB1.out hb3 (Nat.le_of_lt hz1))
        clear hW3 hc3 BC3 hb3 B3 d0 e1 f2 f3
        go_upto_region 10 with (go_at_call 57; refine (HFt.out _ HB3.out).mono ?_; rintro e w4 ⟨rfl, hb⟩; have B4 := HBX3.out.below hb; have HBX4 := hid B4; have f1 := B4.cell 2; have f2 : w4.cell? ⟨w1.heap.size, 2, none⟩ = some (.int .i64 0) := f1; have f3 := B4.frozen 2; have HB4 := hid hb; clear hb B4 f1)
        refine region_named fun W5 hW5 => ?_
        have B5 : BX W5 w1.heap.size #[.int .i64 (tq : Int), .int .i64 (kf : Int), .int .i64 (kt : Int)] 91 := by rw [hW5]; exact box_set HBX4.out 2 _
        have hc5 : Chg (fun i => i = w1.heap.size) w4 W5 := by rw [hW5]; exact (Chg.refl (fun i => i = w1.heap.size) w4).set (p := ⟨w1.heap.size, 2, none⟩) (.inl rfl) _
        have hb5 : Below w1.heap.size w4 W5 := hc5.to_below (fun j e => by omega) (by have := HB4.out.size; omega)
        have hb5r : Below wr.heap.size wr W5 := (belows HB3r.out HB4.out (by omega)).trans (hb5.mono (Nat.le_of_lt hz1))
        obtain ⟨m0, m1, m2⟩ : W5.cell? ⟨w1.heap.size, 0, none⟩ = some (.int .i64 (tq : Int)) ∧ W5.cell? ⟨w1.heap.size, 1, none⟩ = some (.int .i64 (kf : Int)) ∧ W5.cell? ⟨w1.heap.size, 2, none⟩ = some (.int .i64 (kt : Int)) := ⟨B5.cell 0, B5.cell 1, B5.cell 2⟩
        have hz5 := B5.sz
        have HB5r := hid hb5r
        have hws5 := hb5r.size
        clear hW5 hc5 hb5 B5 g1 f2 f3 hb5r
        go_wp2_with (at_builtin; go_loud (refine wpList_append_own _ rfl (.tmp 49) (.tmp 51) 88 rfl w.heap.size 91 i0 _ 3 24 Try.underlying88 hi hy0 hy1 hy2 rfl (by decide) (.slice ua S.length ucap) S.length _ rfl (HOw.out _ (belows HB5r.out ((Below.refl _ _).alloc (Nat.le_refl _) _) (by omega))) ⟨W5.heap.size, 0, none⟩ 1 1 [.int .i64 (tq : Int), .int .i64 (kf : Int), .int .i64 (kt : Int)] rfl rfl (news_of _ _ _) (by intro u hu; simp at hu; rcases hu with rfl | rfl | rfl <;> rfl) (by unfold maxLen; omega) (by omega) (by simp only [World.size_alloc]; omega) ?_; intro v6 w6 ho6 hg6 _; have HO6 : Hid (SpR w6 w.heap.size v6 (S ++ [((tq : Int), (kf : Int), (kt : Int))])) := (by show World.ownsRow _ _ _ _ _ _ _; rw [List.length_append, List.flatMap_append]; exact ho6); have HB6 : Hid (Below w.heap.size w w6) := below_app (belows (belows hbl HB5r.out hbl.size) ((Below.refl _ _).alloc (Nat.le_refl _) _) (by omega)) hg6 (by simp only [World.size_alloc]; omega) (fun j e => Kit.own_base HI.out.1 j e); clear ho6 hg6))
        go_roundw
        case rel => exact ⟨m + 1, _, by go_num, by omega, HO6.out, by rw [List.length_append]; simp; omega, fun s hs => by
          rcases List.mem_append.1 hs with h | h
          · exact HI.out.2.2.1 s h
          · rw [List.mem_singleton] at h
            rw [h]
            exact hGood.out, HB6.out⟩
        case measure => simp [intOf]; omega
    · obtain rfl : m = C.length := by omega
      have hSl := HI.out.2.1
      have HS := hid (sortS_any HI.out.1 (by omega))
      go_wp2_with (go_at_call 58; refine HS.out.mono ?_; rintro e w3 ⟨rfl, S', h1, h2, h3, h4⟩; have H1 := hid h1; have H2 := hid h2; have H3 := hid h3; have H4 := hid h4; clear h1 h2 h3 h4)
      go_ret
      exact ⟨_, S', rfl, H3.out, by rw [H1.out]; exact hSl, fun s hs => HI.out.2.2.1 s (H2.out s hs), hbl.trans (H4.out.to_below (fun j e => Kit.own_base HI.out.1 j e) hbl.size)⟩
end
end Go.Proofs.Ytdodobpbdnpjiaa
namespace Go.Proofs.Ytdodobpbdnpjiaa
open Go Go.RowKit
open Kit (natVals)
open Cf (Op5 Ca opL caL)

/-- Where catch stands: the blocks, and the lists of handlers' blocks in rows of their own. -/
structure CaI (w2 : World) (base gb bb cap ob : Nat) (L : List Op5) (B : Nat → Bool) (k : Nat) (nv cv : Nat → Value) (cl : Nat → List Nat) (W : World) : Prop where
  gw : GW W base gb (.slice (some ⟨bb, 0, none⟩) k cap) (.slice (some ⟨ob, 0, none⟩) L.length L.length) k L.length (Cf.bkV B L.length nv cv) (Cf.ofN B)
  ca : ∀ x, x < k → W.ownsRow w2.heap.size 3 1 (cv x) (cl x).length (natVals (cl x))
  ap : ∀ x y, x < k → y < k → x ≠ y → ∀ j, (cv x).ownBlock = some j → (cv y).ownBlock ≠ some j
  lt : ∀ x, x < k → ∀ t, t ∈ cl x → t < k
  ch : Chg (fun i => i = bb) w2 W
section
variable {w2 W W' : World} {base gb bb cap ob : Nat} {L : List Op5} {B : Nat → Bool} {k : Nat} {nv cv : Nat → Value} {cl : Nat → List Nat}
theorem CaI.below (h : CaI w2 base gb bb cap ob L B k nv cv cl W) (hb : Below W.heap.size W W') : CaI w2 base gb bb cap ob L B k nv cv cl W' :=
  ⟨h.gw.below hb, fun x hx => Kit.owns_below (h.ca x hx) hb (Nat.le_refl _), h.ap, h.lt, h.ch.below hb⟩
theorem CaI.step {x t : Nat} {v2 : Value} {W2 w3 : World} (h : CaI w2 base gb bb cap ob L B k nv cv cl W) (hx : x < k) (ht : t < k) (hob : ob < w2.heap.size) (hbl : Below W.heap.size W W2) (hg : W2.grownBy w3 (cv x).ownBlock)
    (hk : v2.ownBlock = (cv x).ownBlock ∨ v2.ownBlock = some W2.heap.size) (ho3 : w3.ownsRow w2.heap.size 3 1 v2 ((cl x).length + 1) (natVals (cl x) ++ [.int .i64 (t : Int)])) :
    w3.cell? ⟨bb, x * 4 + 3, none⟩ = some (cv x) ∧ w3.frozen? ⟨bb, x * 4 + 3, none⟩ = false ∧ CaI w2 base gb bb cap ob L B k nv (upd cv x v2) (upd cl x (cl x ++ [t])) (w3.setCell ⟨bb, x * 4 + 3, none⟩ v2) ∧ Chg (fun i => (cv x).ownBlock = some i ∨ i = bb) W (w3.setCell ⟨bb, x * 4 + 3, none⟩ v2) := by
  obtain ⟨a1, a2, a3, a4, a5⟩ := h.gw.grow (i := 3) (v2 := v2) (R' := Cf.bkV B L.length nv (upd cv x v2)) (Cf.bkV_len _ _ _ _) hx (by omega) rfl (by unfold Cf.bkV; rw [upd_same]; rfl) (fun y _ hy => by unfold Cf.bkV; rw [upd_other _ _ hy]) (h.ca x hx) hob h.ch (Nat.le_refl _) hbl hg ho3
  have hc3 : Chg (fun i => (cv x).ownBlock = some i) W w3 := (Chg.of_below hbl).grown hg (fun k e => .inl e)
  have hc4 : Chg (fun i => i = bb) w3 (w3.setCell ⟨bb, x * 4 + 3, none⟩ v2) := (Chg.refl (fun i => i = bb) w3).set (p := ⟨bb, x * 4 + 3, none⟩) (.inl rfl) v2
  refine ⟨a1, a2, ⟨a3, fun y hy => ?_, fun y z hy hz hne j e => ?_, fun y hy s hs => ?_, a5⟩, (hc3.mono (T := fun i => (cv x).ownBlock = some i ∨ i = bb) (fun _ _ e => .inl e)).trans hc4 (fun i e => .inl (.inr e))⟩
  · by_cases e : y = x
    · subst e
      rw [upd_same, upd_same, List.length_append, Kit.natVals_snoc]
      exact a4
    · rw [upd_other _ _ e, upd_other _ _ e]
      have o3 := owns_chg (h.ca y hy) hc3 (fun j e1 e2 => h.ap y x hy hx e j e1 e2)
      exact owns_chg o3 hc4 (fun j e1 e2 => own_unlike (h.ca y hy) h.gw.bl (by decide) j e1 (by rw [e2]; rfl))
  · have hnew : ∀ u, u < k → ∀ j, (cv u).ownBlock = some j → j < W2.heap.size := fun u hu j e => Nat.lt_of_lt_of_le (Kit.own_lt (h.ca u hu) j e) hbl.size
    by_cases ey : y = x
    · subst ey
      rw [upd_same] at e
      rw [upd_other _ _ (fun e2 => hne e2.symm)]
      intro e2
      rcases hk with hk | hk
      · exact h.ap y z hy hz hne j (by rw [← hk]; exact e) e2
      · rw [hk] at e
        have := hnew z hz j e2
        have := Option.some.inj e
        omega
    · rw [upd_other _ _ ey] at e
      by_cases ez : z = x
      · subst ez
        rw [upd_same]
        intro e2
        rcases hk with hk | hk
        · exact h.ap y z hy hz hne j e (by rw [← hk]; exact e2)
        · rw [hk] at e2
          have := hnew y hy j e
          have := Option.some.inj e2
          omega
      · rw [upd_other _ _ ez]
        exact h.ap y z hy hz hne j e
  · by_cases e : y = x
    · subst e
      rw [upd_same] at hs
      rcases List.mem_append.1 hs with h1 | h1
      · exact h.lt y hy s h1
      · rw [List.mem_singleton] at h1; omega
    · rw [upd_other _ _ e] at hs
      exact h.lt y hy s hs
end
/-- What a call with a span has left: how long the lists are. -/
def LnJ (cl : Nat → List Nat) (k i t : Nat) : Prop := ∀ x, x < k → (cl x).length ≤ i ∨ ((cl x).length ≤ i + 1 ∧ (cl x).getLast? = some t)
theorem LnJ.step {cl : Nat → List Nat} {k i t x : Nat} (h : LnJ cl k i t) (hx : x < k) (hne : (cl x).getLast? ≠ some t) : LnJ (upd cl x (cl x ++ [t])) k i t := by
  intro y hy
  by_cases e : y = x
  · subst e
    rw [upd_same]
    rcases h y hy with h1 | h1
    · right
      simp
      exact h1
    · exact absurd h1.2 hne
  · rw [upd_other _ _ e]
    exact h y hy
/-- A graph's blocks and edges, in memory. -/
structure GB (W : World) (base gb bb cap ob : Nat) (L : List Op5) (B : Nat → Bool) (k : Nat) (nv cv : Nat → Value) (cl : Nat → List Nat) : Prop where
  gw : GW W base gb (.slice (some ⟨bb, 0, none⟩) k cap) (.slice (some ⟨ob, 0, none⟩) L.length L.length) k L.length (Cf.bkV B L.length nv cv) (Cf.ofN B)
  nx : ∀ x, x < k → W.ownsRow base 3 1 (nv x) (Cf.nxs L B x).length (natVals (Cf.nxs L B x))
  ca : ∀ x, x < k → W.ownsRow base 3 1 (cv x) (cl x).length (natVals (cl x))
  lt : ∀ x, x < k → ∀ t, t ∈ cl x → t < k
section
variable {cb : Nat} {cov pv : Value} {L : List Op5} {P : List Nat}
set_option maxRecDepth 100000
set_option maxHeartbeats 4000000
theorem catch_any (hP : Cf.Pl (Cf.adr L) L.length P) {base gb bb cap ob k : Nat} {B : Nat → Bool} {nv : Nat → Value} {cvv : Value} {C : List Ca} {w0 w : World} (h : GoI w0 base gb bb cap ob L B k k nv w) (hlow : ∀ X, Below base w X → Code X cb cov pv L P ∧ CaS X cvv C) (hbw : base ≤ w.heap.size) (hn : L.length ≤ 1048576) (hm : C.length ≤ 1048576) (hk : ∀ i, i < L.length → Cf.ofB B i < k) :
    Calls Try.prog 24 #[.pointer (some ⟨gb, 0, none⟩), .pointer (some ⟨cb, 0, none⟩), cvv] w fun e w' => e = .returned (.tuple #[]) ∧ Below base w w' ∧ ∃ cv cl, GB w' base gb bb cap ob L B k nv cv cl ∧ ∀ x, x < k → (cl x).length ≤ C.length := by
  obtain ⟨i0, hi, hy0, hy1, hy2⟩ := info_parts infoI
  have HI := hid h
  have HL := hid hlow
  obtain ⟨k0, k1, -⟩ := h.gw.cells
  have hgs := h.gw.box.sz
  have HE := hid (ends_any hP (hlow w (Below.refl _ _)).1 h.gw.of hn)
  have HS := hid (fun W (hb : Below w.heap.size w W) => spans_any (k := k) hP (hlow W (hb.mono hbw)).1 (hlow W (hb.mono hbw)).2 (Kit.owns_below h.gw.of hb (Nat.le_refl _)) hn hm hk)
  have HK := hid hk
  have HP := hid hP
  clear h hlow hP hk
  go_enter Try.func24, Try.ntmps24
  go_upto_block 1 with (first | (go_at_call 47; refine HE.out.mono ?_; rintro e w1 ⟨rfl, E, hE⟩; have HEn := hid hE; have hb1 := hE.2.2.1; have hb1' := hb1; have k0' := (HI.out.gw.below hb1).cells.1; have k1' := (HI.out.gw.below hb1).cells.2.1; clear hE) | (go_at_call 48; refine (HS.out _ hb1).mono ?_; rintro e w2 ⟨v2, S, rfl, hS⟩; have HSp := hid hS; obtain ⟨sa, scap, rfl⟩ := own_form hS.1; clear hS))
  have hb2 : Below w.heap.size w w2 := belows hb1 HSp.out.2.2.2 hb1.size
  have HB2 := hid hb2
  have HEw := hid (Kit.owns_below HEn.out.1 HSp.out.2.2.2 (Nat.le_refl _))
  have HC2 : Hid (CaI w2 base gb bb cap ob L B k nv (fun _ => Nil) (fun _ => []) w2) := ⟨HI.out.gw.below hb2, fun x _ => ⟨rfl, .inl ⟨rfl, rfl⟩⟩, fun x y _ _ _ j e => by simp [Value.ownBlock] at e, fun x _ t ht => by simp at ht, Chg.refl _ _⟩
  have HNx := hid (fun x hx => Kit.owns_below (HI.out.nx x hx) hb2 (Nat.le_refl _))
  have hob : ob < w2.heap.size := Nat.lt_of_lt_of_le (Kit.own_lt HI.out.gw.of ob rfl) hb2.size
  have HBs := hid (fun cv cl W (hc : CaI w2 base gb bb cap ob L B k nv cv cl W) => (belows (Below.refl base w) (hb2.mono (Nat.le_refl _)) hbw : Below base w w2).trans (hc.ch.to_below (fun j e => by rw [e]; exact Kit.own_base HI.out.gw.bl bb rfl) (Nat.le_trans hbw hb2.size)))
  have HEr := hid HEn.out.2.1
  have HBl2 := hid (Kit.owns_below HI.out.gw.bl hb2 (Nat.le_refl _))
  have HS1 := hid HSp.out.1
  have hSl := HSp.out.2.1
  have HSg := hid HSp.out.2.2.1
  have hz2 := hb2.size
  clear hb1 hb1' k0' k1' HEn HSp HS HE hb2 k0 k1
  go_loopw [28, 7, 8] (fun v tg dn wr => ∃ (i : Nat) (td : Int) (dd : Nat) (cv : Nat → Value) (cl : Nat → List Nat), v = .int .i64 (i : Int) ∧ tg = .int .i64 td ∧ dn = .int .i64 (dd : Int) ∧ dd ≤ L.length ∧ i ≤ S.length ∧ Hid (CaI w2 base gb bb cap ob L B k nv cv cl wr) ∧ Hid (∀ x, x < k → (cl x).length ≤ i)) (fun v _ _ _ => S.length - (intOf v).toNat)
  case atStart => exact ⟨0, -1, 0, _, _, rfl, rfl, rfl, by omega, by omega, HC2, fun x _ => by simp⟩
  case round =>
    clear HC2
    obtain ⟨i, td, dd, cv, cl, rfl, rfl, rfl, hdd, hin, HC, HLn⟩ := hrel
    by_cases hlt : i < S.length
    · obtain ⟨s, hs⟩ : ∃ s, S[i]? = some s := ⟨_, List.getElem?_eq_getElem hlt⟩
      obtain ⟨t, f, e, rfl, ht, hf, he⟩ := HSg.out s (List.mem_of_getElem? hs)
      have hSr : SpR wr _ (.slice sa S.length scap) S := owns_chg HS1.out HC.out.ch (fun j e1 e2 => own_unlike HS1.out HBl2.out (by decide) j e1 (by rw [e2]; rfl))
      obtain ⟨sb, sc, hsv, hsl, s0, s1, s2⟩ := hSr.at hs
      obtain ⟨rfl, -, rfl⟩ := Value.slice.inj hsv
      dsimp only at s0 s1 s2
      clear hsv hs
      go_upto_if 35 with fail
      go_cut [7, 8] (fun a b wx => a = .int .i64 (t : Int) ∧ ∃ d : Nat, d ≤ L.length ∧ b = .int .i64 (d : Int) ∧ wx = wr.alloc (.cells #[.int .i64 (t : Int), .int .i64 (f : Int), .int .i64 (e : Int)] 91))
      case first =>
        by_cases htd : (t : Int) = td
        · subst htd
          go_wp2
          go_meet
          exact ⟨rfl, dd, hdd, rfl, rfl⟩
        · go_wp2
          go_meet
          exact ⟨rfl, 0, by omega, rfl, rfl⟩
      case rest =>
        obtain ⟨rfl, d, hd, rfl, rfl⟩ := hcut
        go_upto_region 8 with fail
        obtain ⟨W1, hW1⟩ : ∃ W1, W1 = wr.alloc (.cells #[.int .i64 (t : Int), .int .i64 (f : Int), .int .i64 (e : Int)] 91) := ⟨_, rfl⟩
        have HC1 : Hid (CaI w2 base gb bb cap ob L B k nv cv cl W1) := by rw [hW1]; exact HC.out.below ((Below.refl _ _).alloc (Nat.le_refl _) _)
        have HX1 : Hid (BX W1 wr.heap.size #[.int .i64 (t : Int), .int .i64 (f : Int), .int .i64 (e : Int)] 91) := by rw [hW1]; exact BX.new wr _ _
        have HJ1 : Hid (LnJ cl k i t) := fun x hx => .inl (HLn.out x hx)
        have hwr := HC.out.ch.size
        rw [← hW1]
        obtain ⟨z, hz⟩ : ∃ z, wr.heap.size = z := ⟨_, rfl⟩
        rw [hz] at HX1 hwr ⊢
        clear hW1 hz s0 s1 s2 HC HLn hSr
        go_loopw [11] (fun v wx => ∃ (κ : Nat) (cv : Nat → Value) (cl : Nat → List Nat), v = .int .i64 (κ : Int) ∧ Hid (CaI w2 base gb bb cap ob L B k nv cv cl wx) ∧ Hid (LnJ cl k i t) ∧ Hid (BX wx z #[.int .i64 (t : Int), .int .i64 (f : Int), .int .i64 (e : Int)] 91)) (fun v _ => L.length + 1 - (intOf v).toNat)
        case atStart => exact ⟨max f d, cv, cl, congrArg _ (by omega), HC1, HJ1, HX1⟩
        case round =>
          clear HC1 HX1 HJ1
          obtain ⟨wx, rfl⟩ : ∃ wx : World, wx = wr := ⟨_, rfl⟩
          obtain ⟨κ, cv, cl, rfl, HC, HJ, HX⟩ := hrel
          have s2 := HX.out.cell 2
          have s3 : wx.cell? ⟨z, 2, none⟩ = some (.int .i64 (e : Int)) := s2
          by_cases hlt2 : κ < e
          · have hκn : κ < L.length := by omega
            have hCd := (HL.out wx (HBs.out cv cl wx HC.out)).1
            obtain ⟨pb, pc, hpv, hpl, hpc⟩ := own_at0 hCd.2.2.1 (by omega)
            obtain ⟨p, hp⟩ : ∃ p, P[κ]? = some p := ⟨_, List.getElem?_eq_getElem (by rw [HP.out.len]; exact hκn)⟩
            have hpn := (HP.out.mem p).1 (List.mem_of_getElem? hp)
            have p0 := (hpc κ _ (Kit.natVals_at hp)).1
            have q0 := hCd.1.cell 1
            have q1 : wx.cell? ⟨cb, 1, none⟩ = some (.slice (some ⟨pb, 0, none⟩) L.length pc) := by rw [← hpv]; exact q0
            obtain ⟨g0, g1, -⟩ := HC.out.gw.cells
            have o0 := (own_cell HC.out.gw.of (ivals_at hpn)).1
            have o1 : wx.cell? ⟨ob, p, none⟩ = some (.int .i64 (Cf.ofB B p : Int)) := o0
            have hxk := HK.out p hpn
            obtain ⟨x, hx⟩ : ∃ x, Cf.ofB B p = x := ⟨_, rfl⟩
            rw [hx] at o1 hxk
            obtain ⟨-, hat⟩ := HC.out.gw.at (Cf.bkV_len _ _ _ _) hxk
            have c3 := (hat 3 (cv x) (by omega) rfl).1
            have hEr := HEr.out κ (by omega) hκn
            have e0 := (own_cell (owns_chg HEw.out HC.out.ch (fun j e1 e2 => own_unlike HEw.out HBl2.out (by decide) j e1 (by rw [e2]; rfl))) (ivals_at hκn)).1
            obtain ⟨y, hy⟩ : ∃ y, E κ = y := ⟨_, rfl⟩
            rw [hy] at hEr e0
            have HY := hid hy
            obtain ⟨u, hu⟩ : ∃ u, cv x = u := ⟨_, rfl⟩
            have HU := hid hu
            rw [hu] at c3
            have hca := HC.out.ca x hxk
            rw [hu] at hca
            obtain ⟨ua, ucap, rfl⟩ := own_form hca
            have hlx := HJ.out x hxk
            have hll : (cl x).length ≤ 1048577 := by rcases hlx with h | h <;> omega
            obtain ⟨ln, hln⟩ : ∃ ln, (cl x).length = ln := ⟨_, rfl⟩
            have HLn := hid hln
            have HOw := hid (fun X (b : Below wx.heap.size wx X) => Kit.owns_below hca b (Nat.le_refl _))
            rw [hln] at c3 HOw hca hll HU
            have hws := HC.out.ch.size
            have hz1x : gb < wx.heap.size := HC.out.gw.box.sz
            have hz2x : bb < wx.heap.size := Kit.own_lt HC.out.gw.bl bb rfl
            have hz3x : z < wx.heap.size := HX.out.sz
            clear hat hpc hpv hp q0 o0 hx hu hlx hln hy hCd s2
            have HGo := hid (fun (v2 : Value) X Y (h1 : Below wx.heap.size wx X) h2 h3 h4 => HC.out.step (t := t) (v2 := v2) (W2 := X) (w3 := Y) hxk ht hob h1 h2 h3 h4)
            cases ln with
            | zero =>
              have HNe : Hid ((cl x).getLast? ≠ some t) := by show _ ≠ _; rw [List.length_eq_zero_iff.1 HLn.out]; simp
              go_wp2
              go_quiet (fail)
              go_upto_region 9 with (at_builtin; go_loud (refine wpList_append_own_at _ rfl (.tmp 91) (.tmp 93) 34 rfl w2.heap.size 3 i0 _ 1 8 Try.underlying34 hi hy0 hy1 hy2 rfl (by decide) (.slice ua (0) ucap) (0) _ rfl (HOw.out _ (by repeat' first | with_reducible exact Below.refl _ _ | with_reducible assumption | with_reducible refine belows_drewN ?_ _ | with_reducible refine Below.drew ?_ | with_reducible refine Below.setCell ?_ ?_ _ | with_reducible refine Below.alloc ?_ ?_ _ | omega | (simp; done) | (simp; omega))) ⟨wx.heap.size, 0, none⟩ 1 1 [.int .i64 (t : Int)] rfl rfl (Kit.news_one _ _ _) (Kit.ones_one rfl) (by unfold maxLen; omega) (by omega) (by first | omega | (simp; omega)) ?_; intro v2 w3 ho3 hg3 _ hk3; obtain ⟨c4, y4, hN, hcg⟩ := HGo.out v2 ((wx.drewN nq).alloc (.cells #[.int .i64 (t : Int)] 3)) _ (belows (below_drewN wx nq) ((Below.refl _ _).alloc (Nat.le_refl _) _) (Nat.le_refl _)) (by rw [HU.out]; exact hg3) (by rw [HU.out]; exact hk3) (by rw [HLn.out]; exact ho3); rw [HU.out] at c4; have HN := hid hN; have HXN := hid (HX.out.chg hcg (by rintro (e1 | e1); exact own_unlike_box (HC.out.ca x hxk) HX.out (by decide) e1; exact own_unlike_box HC.out.gw.bl HX.out (by decide) (by rw [e1]; rfl))); obtain ⟨b2, q2, rfl⟩ := own_form ho3; clear ho3 hg3 hk3 hN hcg))
              refine region_named fun W9 hW9 => ?_
              try rw [← hW9] at HN HXN
              have e9 := (own_cell (owns_chg HEw.out HN.out.ch (fun j e1 e2 => own_unlike HEw.out HBl2.out (by decide) j e1 (by rw [e2]; rfl))) (ivals_at hκn)).1
              rw [HY.out] at e9
              clear hW9
              go_wp2
              go_roundw
              case rel => exact ⟨y, _, _, rfl, HN, HJ.out.step hxk HNe.out, HXN⟩
              case measure => simp [intOf]; omega
            | succ l' =>
              obtain ⟨q, hq⟩ : ∃ q, (cl x)[l']? = some q := ⟨_, List.getElem?_eq_getElem (by rw [HLn.out]; omega)⟩
              have hlast : (cl x).getLast? = some q := by rw [List.getLast?_eq_getElem?, HLn.out]; exact hq
              obtain ⟨rb, rc, hrv, hrl, hrc⟩ := own_at0 hca (by omega)
              obtain ⟨rfl, -, rfl⟩ := Value.slice.inj hrv
              have r0 := (hrc l' _ (Kit.natVals_at hq)).1
              have hln0 : ¬ ((l' : Int) + 1 = 0) := by omega
              have hln1 : ((l' + 1 : Nat) : Int) - 1 = (l' : Int) := by omega
              have HLast := hid hlast
              clear hrv hrc hq hlast
              by_cases hqt : q = t
              · subst hqt
                go_wp2
                go_quiet (fail)
                go_wp2
                go_roundw
                case rel => exact ⟨y, cv, cl, rfl, HC.out.below (below_drewN wx _), HJ, HX.out.below (below_drewN wx _)⟩
                case measure => simp [intOf]; omega
              · have hqi : ((q : Int) != (t : Int)) = true := bne_iff_ne.2 (by omega)
                have HNe : Hid ((cl x).getLast? ≠ some t) := by show _ ≠ _; rw [HLast.out]; simpa using hqt
                go_wp2
                go_quiet (fail)
                go_upto_region 9 with (at_builtin; go_loud (refine wpList_append_own_at _ rfl (.tmp 91) (.tmp 93) 34 rfl w2.heap.size 3 i0 _ 1 8 Try.underlying34 hi hy0 hy1 hy2 rfl (by decide) (.slice (some ⟨rb, 0, none⟩) (l' + 1) ucap) (l' + 1) _ rfl (HOw.out _ (by repeat' first | with_reducible exact Below.refl _ _ | with_reducible assumption | with_reducible refine belows_drewN ?_ _ | with_reducible refine Below.drew ?_ | with_reducible refine Below.setCell ?_ ?_ _ | with_reducible refine Below.alloc ?_ ?_ _ | omega | (simp; done) | (simp; omega))) ⟨wx.heap.size, 0, none⟩ 1 1 [.int .i64 (t : Int)] rfl rfl (Kit.news_one _ _ _) (Kit.ones_one rfl) (by unfold maxLen; omega) (by omega) (by first | omega | (simp; omega)) ?_; intro v2 w3 ho3 hg3 _ hk3; obtain ⟨c4, y4, hN, hcg⟩ := HGo.out v2 ((wx.drewN nq).alloc (.cells #[.int .i64 (t : Int)] 3)) _ (belows (below_drewN wx nq) ((Below.refl _ _).alloc (Nat.le_refl _) _) (Nat.le_refl _)) (by rw [HU.out]; exact hg3) (by rw [HU.out]; exact hk3) (by rw [HLn.out]; exact ho3); rw [HU.out] at c4; have HN := hid hN; have HXN := hid (HX.out.chg hcg (by rintro (e1 | e1); exact own_unlike_box (HC.out.ca x hxk) HX.out (by decide) e1; exact own_unlike_box HC.out.gw.bl HX.out (by decide) (by rw [e1]; rfl))); obtain ⟨b2, q2, rfl⟩ := own_form ho3; clear ho3 hg3 hk3 hN hcg))
                refine region_named fun W9 hW9 => ?_
                try rw [← hW9] at HN HXN
                have e9 := (own_cell (owns_chg HEw.out HN.out.ch (fun j e1 e2 => own_unlike HEw.out HBl2.out (by decide) j e1 (by rw [e2]; rfl))) (ivals_at hκn)).1
                rw [HY.out] at e9
                clear hW9
                go_wp2
                go_roundw
                case rel => exact ⟨y, _, _, rfl, HN, HJ.out.step hxk HNe.out, HXN⟩
                case measure => simp [intOf]; omega
          · have HLN : Hid (∀ x, x < k → (cl x).length ≤ i + 1) := fun x hx => by rcases HJ.out x hx with h | h <;> omega
            go_wp2
            go_roundw
            case rel => exact ⟨i + 1, t, max d e, cv, cl, by go_num, rfl, congrArg _ (by omega), by omega, by omega, HC, HLN⟩
            case measure => simp [intOf]; omega
    · obtain rfl : i = S.length := by omega
      go_wp2
      refine bodyPost_end (results_none rfl _ _ _) rfl ?_
      refine ⟨rfl, HBs.out cv cl wr HC.out, cv, cl, ⟨HC.out.gw, fun x hx => owns_chg (by have := HNx.out x hx; rw [if_pos hx] at this; exact this) HC.out.ch (fun j e1 e2 => own_unlike (HNx.out x hx) HBl2.out (by decide) j e1 (by rw [e2]; rfl)), fun x hx => Kit.owns_mono (HC.out.ca x hx) (Nat.le_trans hbw hz2), HC.out.lt⟩, fun x hx => Nat.le_trans (HLn.out x hx) hSl⟩
end
end Go.Proofs.Ytdodobpbdnpjiaa
namespace Go.Proofs.Ytdodobpbdnpjiaa.Cf

/-- From a block on, depth first: which were entered, which were left, in order. -/
def vis (E : Nat → List Nat) : Nat → Nat → List Nat × List Nat → List Nat × List Nat
  | 0, _, s => s
  | m + 1, b, s => if b ∈ s.1 then s else
    let r := (E b).foldl (fun s t => vis E m t s) (b :: s.1, s.2)
    (r.1, r.2 ++ [b])
def visL (E : Nat → List Nat) (m : Nat) (T : List Nat) (s : List Nat × List Nat) : List Nat × List Nat := T.foldl (fun s t => vis E m t s) s
theorem visL_snoc (E : Nat → List Nat) (m : Nat) (T : List Nat) (t : Nat) (s : List Nat × List Nat) : visL E m (T ++ [t]) s = vis E m t (visL E m T s) := by unfold visL; rw [List.foldl_append]; rfl
theorem visL_cons (E : Nat → List Nat) (m : Nat) (t : Nat) (T : List Nat) (s : List Nat × List Nat) : visL E m (t :: T) s = visL E m T (vis E m t s) := rfl
theorem vis_in {E : Nat → List Nat} {m b : Nat} {s : List Nat × List Nat} (h : b ∈ s.1) : vis E m b s = s := by
  cases m with
  | zero => rfl
  | succ m => unfold vis; rw [if_pos h]
theorem vis_out {E : Nat → List Nat} {m b : Nat} {s : List Nat × List Nat} (h : b ∉ s.1) : vis E (m + 1) b s = ((visL E m (E b) (b :: s.1, s.2)).1, (visL E m (E b) (b :: s.1, s.2)).2 ++ [b]) := by
  rw [vis, if_neg h]
  rfl
inductive Rch (E : Nat → List Nat) : Nat → Nat → Prop
  | refl (a : Nat) : Rch E a a
  | step {a b c : Nat} : Rch E a b → c ∈ E b → Rch E a c
theorem Rch.trans {E : Nat → List Nat} {a b c : Nat} (h : Rch E a b) (k : Rch E b c) : Rch E a c := by
  induction k with
  | refl => exact h
  | step _ hc ih => exact .step ih hc
/-- What may be asked of one. -/
structure Ok (k : Nat) (s : List Nat × List Nat) : Prop where
  nd : s.1.Nodup
  lt : ∀ x ∈ s.1, x < k
  lnd : s.2.Nodup
  lsub : ∀ x ∈ s.2, x ∈ s.1
/-- What a walk has done. -/
structure VS (E : Nat → List Nat) (k : Nat) (T : List Nat) (s r : List Nat × List Nat) : Prop where
  ok : Ok k r
  sub : ∀ x ∈ s.1, x ∈ r.1
  all : ∀ t ∈ T, t ∈ r.1
  keep : ∃ q, r.2 = s.2 ++ q
  new : ∀ x ∈ r.1, x ∈ s.1 ∨ x ∈ r.2
  old : ∀ x ∈ r.2, x ∈ s.2 ∨ x ∉ s.1
  clo : ∀ x ∈ r.2, x ∉ s.2 → ∀ t ∈ E x, t ∈ r.1
  rch : ∀ x ∈ r.1, x ∈ s.1 ∨ ∃ t ∈ T, Rch E t x
theorem VS.len {E : Nat → List Nat} {k : Nat} {T : List Nat} {s r : List Nat × List Nat} (hs : Ok k s) (h : VS E k T s r) : s.1.length ≤ r.1.length := len_le hs.nd h.sub
theorem VS.refl {E : Nat → List Nat} {k : Nat} {T : List Nat} {s : List Nat × List Nat} (h : Ok k s) (hT : ∀ t ∈ T, t ∈ s.1) : VS E k T s s :=
  ⟨h, fun _ h => h, hT, ⟨[], by simp⟩, fun _ h => .inl h, fun _ h => .inl h, fun x h1 h2 => absurd h1 h2, fun _ h => .inl h⟩
theorem full {k : Nat} {l : List Nat} (h : l.Nodup) (hl : ∀ x ∈ l, x < k) (hk : k ≤ l.length) {b : Nat} (hb : b < k) : b ∈ l := by
  apply Classical.byContradiction
  intro hn
  have h1 : (b :: l).Nodup := List.nodup_cons.2 ⟨hn, h⟩
  have h2 := len_le (b := List.range k) h1 (fun x hx => by
    rcases List.mem_cons.1 hx with rfl | hx
    · exact List.mem_range.2 hb
    · exact List.mem_range.2 (hl x hx))
  rw [List.length_range, List.length_cons] at h2
  omega
theorem VS.cons {E : Nat → List Nat} {k t : Nat} {T : List Nat} {s r q : List Nat × List Nat} (h : VS E k [t] s r) (g : VS E k T r q) : VS E k (t :: T) s q := by
  refine ⟨g.ok, fun x hx => g.sub x (h.sub x hx), fun x hx => ?_, ?_, fun x hx => ?_, fun x hx => ?_, fun x hx hn => ?_, fun x hx => ?_⟩
  · rcases List.mem_cons.1 hx with rfl | hx
    · exact g.sub _ (h.all _ (by simp))
    · exact g.all x hx
  · obtain ⟨a, ha⟩ := h.keep
    obtain ⟨b, hb⟩ := g.keep
    exact ⟨a ++ b, by rw [hb, ha, List.append_assoc]⟩
  · rcases g.new x hx with h1 | h1
    · rcases h.new x h1 with h2 | h2
      · exact .inl h2
      · obtain ⟨b, hb⟩ := g.keep
        exact .inr (by rw [hb]; simp [h2])
    · exact .inr h1
  · rcases g.old x hx with h1 | h1
    · exact h.old x h1
    · exact .inr fun h2 => h1 (h.sub x h2)
  · by_cases h1 : x ∈ r.2
    · intro t ht
      exact g.sub t (h.clo x h1 hn t ht)
    · exact g.clo x hx h1
  · rcases g.rch x hx with h1 | ⟨u, hu, h1⟩
    · rcases h.rch x h1 with h2 | ⟨u, hu, h2⟩
      · exact .inl h2
      · exact .inr ⟨u, by rw [List.mem_singleton] at hu; simp [hu], h2⟩
    · exact .inr ⟨u, by simp [hu], h1⟩
/-- Each walk does what it should. -/
theorem visL_ok {E : Nat → List Nat} {k : Nat} (hE : ∀ b, b < k → ∀ t ∈ E b, t < k) : ∀ (m : Nat) (T : List Nat) (s : List Nat × List Nat), Ok k s → (∀ t ∈ T, t < k) → k ≤ s.1.length + m → VS E k T s (visL E m T s)
  | 0, T, s, hs, hT, hm => by
    have hall : ∀ t ∈ T, t ∈ s.1 := fun t ht => full hs.nd hs.lt (by omega) (hT t ht)
    have e : visL E 0 T s = s := by
      induction T generalizing s with
      | nil => rfl
      | cons t T ih =>
        rw [visL_cons]
        exact ih s hs (fun u hu => hT u (by simp [hu])) hm (fun u hu => hall u (by simp [hu]))
    rw [e]
    exact VS.refl hs hall
  | m + 1, T, s, hs, hT, hm => by
    induction T generalizing s with
    | nil => exact VS.refl hs (fun t ht => by simp at ht)
    | cons t T ih =>
      rw [visL_cons]
      have htk := hT t (by simp)
      have h1 : VS E k [t] s (vis E (m + 1) t s) := by
        by_cases ht : t ∈ s.1
        · rw [vis_in ht]
          exact VS.refl hs (fun u hu => by rw [List.mem_singleton] at hu; rw [hu]; exact ht)
        · rw [vis_out ht]
          have hs' : Ok k (t :: s.1, s.2) := ⟨List.nodup_cons.2 ⟨ht, hs.nd⟩, fun x hx => by
            rcases List.mem_cons.1 hx with rfl | hx
            · exact htk
            · exact hs.lt x hx, hs.lnd, fun x hx => List.mem_cons_of_mem _ (hs.lsub x hx)⟩
          have g := visL_ok hE m (E t) (t :: s.1, s.2) hs' (hE t htk) (by simp only [List.length_cons]; omega)
          obtain ⟨r, hr⟩ : ∃ r, visL E m (E t) (t :: s.1, s.2) = r := ⟨_, rfl⟩
          rw [hr] at g ⊢
          have htr : t ∈ r.1 := g.sub t (by simp)
          have htl : t ∉ r.2 := fun h => by
            rcases g.old t h with h1 | h1
            · exact ht (hs.lsub t h1)
            · exact h1 (by simp)
          refine ⟨⟨g.ok.nd, g.ok.lt, ?_, fun x hx => ?_⟩, fun x hx => g.sub x (by simp [hx]), fun u hu => by rw [List.mem_singleton] at hu; rw [hu]; exact htr, ?_, fun x hx => ?_, fun x hx => ?_, fun x hx hn => ?_, fun x hx => ?_⟩
          · show (r.2 ++ [t]).Nodup
            rw [List.nodup_append]
            exact ⟨g.ok.lnd, by simp, fun a ha b hb e => by rw [List.mem_singleton] at hb; rw [e, hb] at ha; exact htl ha⟩
          · rcases List.mem_append.1 hx with h | h
            · exact g.ok.lsub x h
            · rw [List.mem_singleton] at h; rw [h]; exact htr
          · obtain ⟨q, hq⟩ := g.keep
            exact ⟨q ++ [t], by show r.2 ++ [t] = _; rw [hq]; simp⟩
          · rcases g.new x hx with h | h
            · rcases List.mem_cons.1 h with rfl | h
              · exact .inr (by simp)
              · exact .inl h
            · exact .inr (by simp [h])
          · rcases List.mem_append.1 hx with h | h
            · rcases g.old x h with h2 | h2
              · exact .inl h2
              · exact .inr fun h3 => h2 (by simp [h3])
            · rw [List.mem_singleton] at h; rw [h]; exact .inr ht
          · rcases List.mem_append.1 hx with h | h
            · exact g.clo x h hn
            · rw [List.mem_singleton] at h; rw [h]; exact g.all
          · rcases g.rch x hx with h | ⟨u, hu, h⟩
            · rcases List.mem_cons.1 h with rfl | h
              · exact .inr ⟨x, by simp, .refl x⟩
              · exact .inl h
            · exact .inr ⟨t, by simp, Rch.trans (.step (.refl t) hu) h⟩
      refine h1.cons (ih (vis E (m + 1) t s) h1.ok (fun u hu => hT u (by simp [hu])) ?_)
      have := h1.len hs
      omega
/-- The order: the blocks to which a way goes, the one that was left last first. -/
def ord (E : Nat → List Nat) (k : Nat) : List Nat := if k = 0 then [] else (vis E k 0 ([], [])).2.reverse
theorem ord_ok {E : Nat → List Nat} {k : Nat} (hE : ∀ b, b < k → ∀ t ∈ E b, t < k) : (ord E k).Nodup ∧ (∀ x ∈ ord E k, x < k) ∧ (0 < k → 0 ∈ ord E k) ∧ (∀ x ∈ ord E k, ∀ t ∈ E x, t ∈ ord E k) ∧ ∀ x ∈ ord E k, Rch E 0 x := by
  unfold ord
  by_cases hk : k = 0
  · rw [if_pos hk]
    exact ⟨List.nodup_nil, fun x hx => by simp at hx, fun h => by omega, fun x hx => by simp at hx, fun x hx => by simp at hx⟩
  · rw [if_neg hk]
    have h := visL_ok hE k [0] ([], []) ⟨List.nodup_nil, fun x hx => by simp at hx, List.nodup_nil, fun x hx => by simp at hx⟩ (fun t ht => by rw [List.mem_singleton] at ht; omega) (by omega)
    rw [show visL E k [0] ([], []) = vis E k 0 ([], []) from rfl] at h
    obtain ⟨r, hr⟩ : ∃ r, vis E k 0 ([], []) = r := ⟨_, rfl⟩
    rw [hr] at h ⊢
    have hin : ∀ x, x ∈ r.1 → x ∈ r.2 := fun x hx => by
      rcases h.new x hx with h1 | h1
      · simp at h1
      · exact h1
    refine ⟨(List.reverse_perm _).nodup_iff.2 h.ok.lnd, fun x hx => h.ok.lt x (h.ok.lsub x (List.mem_reverse.1 hx)), fun _ => List.mem_reverse.2 (hin 0 (h.all 0 (by simp))), fun x hx t ht => List.mem_reverse.2 (hin t (h.clo x (List.mem_reverse.1 hx) (by simp) t ht)), fun x hx => ?_⟩
    rcases h.rch x (h.ok.lsub x (List.mem_reverse.1 hx)) with h1 | ⟨u, hu, h1⟩
    · simp at h1
    · rw [List.mem_singleton] at hu
      rw [← hu]; exact h1
end Go.Proofs.Ytdodobpbdnpjiaa.Cf
namespace Go.Proofs.Ytdodobpbdnpjiaa
open Go Go.RowKit
open Kit (natVals)
open Cf (Op5 Ca opL caL)

theorem bx_ne {w : World} {a b : Nat} {cs cs' : Array Value} {T T' : TypeId} (h : BX w a cs T) (h' : BX w b cs' T') (hT : T ≠ T') : a ≠ b := by
  rintro rfl
  unfold BX at h h'
  rw [h] at h'
  simp only [Option.some.injEq, Obj.cells.injEq] at h'
  exact hT h'.2.1
def enF (eb xb nb : Nat) : Value := .func (.func 49) #[] #[.pointer (some ⟨eb, 0, none⟩), .pointer (some ⟨xb, 0, none⟩), .pointer (some ⟨nb, 0, none⟩)]
/-- What stands while blocks are entered: the boxes that are captured, the blocks, their lists. -/
structure WkC (w1 : World) (gb eb xb nb rb base bb cap ob : Nat) (L : List Op5) (B : Nat → Bool) (k : Nat) (nv cv : Nat → Value) (cl : Nat → List Nat) : Prop where
  gbx : ∃ cs, BX w1 gb cs 56
  ebx : BX w1 eb #[.slice (some ⟨rb, 0, none⟩) k k] 51
  xbx : BX w1 xb #[.pointer (some ⟨gb, 0, none⟩)] 29
  nbx : BX w1 nb #[enF eb xb nb] 92
  row : ∃ xs, w1.ownsRow base 4 1 (.slice (some ⟨rb, 0, none⟩) k k) k xs
  bl : w1.ownsRow base 36 4 (.slice (some ⟨bb, 0, none⟩) k cap) k ((List.range k).flatMap (Cf.bkV B L.length nv cv))
  nx : ∀ x, x < k → w1.ownsRow base 3 1 (nv x) (Cf.nxs L B x).length (natVals (Cf.nxs L B x))
  ca : ∀ x, x < k → w1.ownsRow base 3 1 (cv x) (cl x).length (natVals (cl x))
  lo : base ≤ gb
  hb : base ≤ w1.heap.size
/-- Where it stands: who was entered, who was left. -/
structure WkI (w1 : World) (gb rb base bb cap ob n k : Nat) (en lf : List Nat) (ov : Value) (W : World) : Prop where
  box : BX W gb #[.slice (some ⟨bb, 0, none⟩) k cap, .slice (some ⟨ob, 0, none⟩) n n, ov, Nil, Nil, Nil] 56
  ord : W.ownsRow w1.heap.size 3 1 ov lf.length (natVals lf)
  row : W.ownsRow base 4 1 (.slice (some ⟨rb, 0, none⟩) k k) k (bvals (fun i => decide (i ∈ en)) k)
  ch : Chg (fun i => i = gb ∨ i = rb) w1 W
def edg (L : List Op5) (B : Nat → Bool) (cl : Nat → List Nat) (b : Nat) : List Nat := Cf.nxs L B b ++ cl b
section
variable {w1 W W' : World} {gb eb xb nb rb base bb cap ob n k : Nat} {L : List Op5} {B : Nat → Bool} {nv cv : Nat → Value} {cl : Nat → List Nat} {en lf : List Nat} {ov : Value}
theorem WkI.below (h : WkI w1 gb rb base bb cap ob n k en lf ov W) (hb : Below W.heap.size W W') : WkI w1 gb rb base bb cap ob n k en lf ov W' :=
  ⟨h.box.below hb, Kit.owns_below h.ord hb (Nat.le_refl _), Kit.owns_below h.row hb (Nat.le_refl _), h.ch.below hb⟩
/-- What has been there stays. -/
theorem WkC.boxes (c : WkC w1 gb eb xb nb rb base bb cap ob L B k nv cv cl) (hc : Chg (fun i => i = gb ∨ i = rb) w1 W) : W.cell? ⟨eb, 0, none⟩ = some (.slice (some ⟨rb, 0, none⟩) k k) ∧ W.cell? ⟨xb, 0, none⟩ = some (.pointer (some ⟨gb, 0, none⟩)) ∧ W.cell? ⟨nb, 0, none⟩ = some (enF eb xb nb) := by
  obtain ⟨cs, hg⟩ := c.gbx
  obtain ⟨xs, hr⟩ := c.row
  refine ⟨(c.ebx.chg hc ?_).cell 0, (c.xbx.chg hc ?_).cell 0, (c.nbx.chg hc ?_).cell 0⟩
  · rintro (e | e)
    · exact bx_ne c.ebx hg (by decide) e
    · exact own_unlike_box hr c.ebx (by decide) (by rw [e]; rfl)
  · rintro (e | e)
    · exact bx_ne c.xbx hg (by decide) e
    · exact own_unlike_box hr c.xbx (by decide) (by rw [e]; rfl)
  · rintro (e | e)
    · exact bx_ne c.nbx hg (by decide) e
    · exact own_unlike_box hr c.nbx (by decide) (by rw [e]; rfl)
theorem WkC.keep (c : WkC w1 gb eb xb nb rb base bb cap ob L B k nv cv cl) (hc : Chg (fun i => i = gb ∨ i = rb) w1 W) {b : Nat} {e : TypeId} {s m : Nat} {v : Value} {xs : List Value} (h : w1.ownsRow b e s v m xs) (h1 : e ≠ 56) (h2 : e ≠ 4) : W.ownsRow b e s v m xs := by
  obtain ⟨cs, hg⟩ := c.gbx
  obtain ⟨ys, hr⟩ := c.row
  refine owns_chg h hc fun j e1 => ?_
  rintro (rfl | rfl)
  · exact own_unlike_box h hg h1 e1
  · exact own_unlike h hr h2 j e1 rfl
/-- The cells of a block. -/
theorem WkC.at (c : WkC w1 gb eb xb nb rb base bb cap ob L B k nv cv cl) (hc : Chg (fun i => i = gb ∨ i = rb) w1 W) {b : Nat} (hb : b < k) : bb < w1.heap.size ∧ W.cell? ⟨bb, b * 4 + 2, none⟩ = some (nv b) ∧ W.cell? ⟨bb, b * 4 + 3, none⟩ = some (cv b) := by
  have h := c.keep hc c.bl (by decide) (by decide)
  have hl := Kit.own_lt c.bl bb rfl
  have hl2 := h.1
  rcases h.2 with ⟨e, -⟩ | ⟨g, cap', cur, e, hg, hh, hc1, hc2, hc3, ht⟩
  · cases e
  · obtain ⟨e1, -, rfl⟩ := Value.slice.inj e
    obtain rfl : bb = g := by simpa using e1
    have hat : ∀ i u, i < 4 → (Cf.bkV B L.length nv cv b)[i]? = some u → W.cell? ⟨bb, b * 4 + i, none⟩ = some u := fun i u hi hu => by
      have hx := (Kit.flat_at (Cf.bkV_len B L.length nv cv) (List.getElem?_range hb) i hi).trans hu
      rw [← ht, List.getElem?_take_of_lt (by have : b * 4 + 4 ≤ k * 4 := (by omega); omega)] at hx
      have : cur[b * 4 + i]? = some u := by simpa using hx
      simp [World.cell?, hh, this]
    exact ⟨hl, hat 2 _ (by omega) rfl, hat 3 _ (by omega) rfl⟩
/-- A block is entered. -/
theorem WkI.enter (c : WkC w1 gb eb xb nb rb base bb cap ob L B k nv cv cl) (h : WkI w1 gb rb base bb cap ob n k en lf ov W) (b : Nat) : WkI w1 gb rb base bb cap ob n k (b :: en) lf ov (W.setCell ⟨rb, b, none⟩ (.bool true)) := by
  have hc : Chg (fun i => i = rb) W (W.setCell ⟨rb, b, none⟩ (.bool true)) := (Chg.refl (fun i => i = rb) W).set (p := ⟨rb, b, none⟩) (.inl rfl) _
  refine ⟨h.box.chg hc (fun e => own_unlike_box h.row h.box (by decide) (by rw [e]; rfl)), owns_chg h.ord hc (fun j e e2 => own_unlike h.ord h.row (by decide) j e (by rw [e2]; rfl)), owns_set1 h.row b _ (bvals_set fun i _ => ?_), h.ch.trans hc (fun i e => .inl (.inr e))⟩
  by_cases e : i = b
  · simp [e]
  · simp [e]
/-- A block is left. -/
theorem WkI.leave {W2 w3 : World} {v2 : Value} {b : Nat} (c : WkC w1 gb eb xb nb rb base bb cap ob L B k nv cv cl) (h : WkI w1 gb rb base bb cap ob n k en lf ov W) (hbl : Below W.heap.size W W2) (hg : W2.grownBy w3 ov.ownBlock) (ho : w3.ownsRow w1.heap.size 3 1 v2 (lf.length + 1) (natVals lf ++ [.int .i64 (b : Int)])) :
    w3.cell? ⟨gb, 2, none⟩ = some ov ∧ w3.frozen? ⟨gb, 2, none⟩ = false ∧ WkI w1 gb rb base bb cap ob n k en (lf ++ [b]) v2 (w3.setCell ⟨gb, 2, none⟩ v2) ∧ w3.cell? ⟨xb, 0, none⟩ = some (.pointer (some ⟨gb, 0, none⟩)) := by
  have hc3 : Chg (fun i => ov.ownBlock = some i) W w3 := (Chg.of_below hbl).grown hg (fun k e => .inl e)
  have bx3 := h.box.chg hc3 (own_unlike_box h.ord h.box (by decide))
  have hc4 : Chg (fun i => i = gb) w3 (w3.setCell ⟨gb, 2, none⟩ v2) := (Chg.refl (fun i => i = gb) w3).set (p := ⟨gb, 2, none⟩) (.inl rfl) v2
  have r3 := owns_chg h.row hc3 (fun j e e2 => own_unlike h.row h.ord (by decide) j e e2)
  refine ⟨bx3.cell 2, bx3.frozen 2, ⟨box_set bx3 2 v2, ?_, owns_chg r3 hc4 (fun j e e2 => own_unlike_box r3 bx3 (by decide) (e2 ▸ e)), ?_⟩, (c.boxes (h.ch.trans hc3 (fun i e => .inr (Kit.own_base h.ord i e)))).2.1⟩
  · rw [List.length_append, Kit.natVals_snoc]
    exact owns_chg ho hc4 (fun j e e2 => own_unlike_box ho bx3 (by decide) (e2 ▸ e))
  · exact (h.ch.trans hc3 (fun i e => .inr (Kit.own_base h.ord i e))).trans hc4 (fun i e => .inl (.inl e))
set_option maxRecDepth 100000
set_option maxHeartbeats 4000000
theorem enter_any (c : WkC w1 gb eb xb nb rb base bb cap ob L B k nv cv cl) (hE : ∀ b, b < k → ∀ t ∈ edg L B cl b, t < k) (hl : ∀ b, b < k → (cl b).length ≤ 1048576) (hk : k ≤ 1048576) : ∀ (m b : Nat) (en lf : List Nat) (ov : Value) (W : World), b < k → Cf.Ok k (en, lf) → k ≤ en.length + m → WkI w1 gb rb base bb cap ob n k en lf ov W →
    Calls Try.prog 49 #[.int .i64 (b : Int), .pointer (some ⟨eb, 0, none⟩), .pointer (some ⟨xb, 0, none⟩), .pointer (some ⟨nb, 0, none⟩)] W fun e w' => e = .returned (.tuple #[]) ∧ ∃ ov', WkI w1 gb rb base bb cap ob n k (Cf.vis (edg L B cl) m b (en, lf)).1 (Cf.vis (edg L B cl) m b (en, lf)).2 ov' w' := by
  have hin : ∀ (m b : Nat) (en lf : List Nat) (ov : Value) (W : World), b < k → b ∈ en → WkI w1 gb rb base bb cap ob n k en lf ov W →
      Calls Try.prog 49 #[.int .i64 (b : Int), .pointer (some ⟨eb, 0, none⟩), .pointer (some ⟨xb, 0, none⟩), .pointer (some ⟨nb, 0, none⟩)] W fun e w' => e = .returned (.tuple #[]) ∧ ∃ ov', WkI w1 gb rb base bb cap ob n k (Cf.vis (edg L B cl) m b (en, lf)).1 (Cf.vis (edg L B cl) m b (en, lf)).2 ov' w' := by
    intro m b en lf ov W hb hen h
    obtain ⟨e0, -, -⟩ := c.boxes h.ch
    obtain ⟨r0, -⟩ := own_cell h.row (bvals_at hb)
    have hd : decide (b ∈ en) = true := by simpa using hen
    rw [hd] at r0
    rw [Cf.vis_in (s := (en, lf)) hen]
    have HH := hid h
    clear h hen hd hl hE
    go_enter Try.func49, Try.ntmps49
    go_wp2
    refine bodyPost_ret (results_none rfl _ _ _) rfl ?_
    exact ⟨rfl, ov, HH.out⟩
  intro m
  induction m with
  | zero =>
    intro b en lf ov W hb ho hm h
    exact hin 0 b en lf ov W hb (Cf.full ho.nd ho.lt (by omega) hb) h
  | succ m ih =>
    intro b en lf ov W hb ho hm h
    by_cases hen : b ∈ en
    · exact hin (m + 1) b en lf ov W hb hen h
    · obtain ⟨i0, hi, hy0, hy1, hy2⟩ := info_parts infoI
      obtain ⟨e0, -, -⟩ := c.boxes h.ch
      obtain ⟨r0, r1⟩ := own_cell h.row (bvals_at hb)
      have hd : decide (b ∈ en) = false := by simpa using hen
      rw [hd] at r0
      have HI := hid (h.enter c b)
      have HC := hid c
      rw [Cf.vis_out (s := (en, lf)) hen]
      have hs' : Cf.Ok k (b :: en, lf) := ⟨List.nodup_cons.2 ⟨hen, ho.nd⟩, fun x hx => by
        rcases List.mem_cons.1 hx with rfl | hx
        · exact hb
        · exact ho.lt x hx, ho.lnd, fun x hx => List.mem_cons_of_mem _ (ho.lsub x hx)⟩
      have HV := hid (fun (T : List Nat) (hT : ∀ t ∈ T, t ∈ edg L B cl b) => Cf.visL_ok hE m T (b :: en, lf) hs' (fun t ht => hE b hb t (hT t ht)) (by simp only [List.length_cons]; omega))
      have HIH : Hid (∀ (t : Nat) (T : List Nat), (∀ t ∈ T, t ∈ edg L B cl b) → t < k → ∀ (ov : Value) (W : World), WkI w1 gb rb base bb cap ob n k (Cf.visL (edg L B cl) m T (b :: en, lf)).1 (Cf.visL (edg L B cl) m T (b :: en, lf)).2 ov W → Calls Try.prog 49 #[.int .i64 (t : Int), .pointer (some ⟨eb, 0, none⟩), .pointer (some ⟨xb, 0, none⟩), .pointer (some ⟨nb, 0, none⟩)] W fun e w' => e = .returned (.tuple #[]) ∧ ∃ ov', WkI w1 gb rb base bb cap ob n k (Cf.visL (edg L B cl) m (T ++ [t]) (b :: en, lf)).1 (Cf.visL (edg L B cl) m (T ++ [t]) (b :: en, lf)).2 ov' w') := by
        intro t T hT ht ov W hw
        rw [Cf.visL_snoc]
        have hv := HV.out T hT
        obtain ⟨⟨s1, s2⟩, hs⟩ : ∃ s, Cf.visL (edg L B cl) m T (b :: en, lf) = s := ⟨_, rfl⟩
        rw [hs] at hv hw ⊢
        have hlen := hv.len hs'
        simp only [List.length_cons] at hlen
        exact ih t s1 s2 ov W ht hv.ok (by omega) hw
      have HEk := hid (hE b hb)
      have hlb := hl b hb
      have hnl := Cf.nxs_len L B b
      have eg := enters_of Try.func49 (by kernel_rfl) rfl
      clear h hen hd hl hE ih hin hs' ho hm c
      go_enter Try.func49, Try.ntmps49
      go_upto_region 2 with fail
      refine region_named fun W1 hW1 => ?_
      rw [← hW1] at HI
      clear hW1 r0 r1 e0
      obtain ⟨-, x0, -⟩ := HC.out.boxes HI.out.ch
      obtain ⟨-, c2, -⟩ := HC.out.at HI.out.ch hb
      have g0 : W1.cell? ⟨gb, 0, none⟩ = some (.slice (some ⟨bb, 0, none⟩) k cap) := HI.out.box.cell 0
      obtain ⟨na, nc, hnv⟩ := own_form (HC.out.nx b hb)
      rw [hnv] at c2
      have HNV := hid hnv
      obtain ⟨nl, hnl2⟩ : ∃ nl, (Cf.nxs L B b).length = nl := ⟨_, rfl⟩
      have HNL := hid hnl2
      rw [hnl2] at c2 HNV hnl
      clear hnv hnl2
      go_wp2
      go_loopw [25] (fun v wr => ∃ (j : Nat) (ov : Value), v = .int .i64 (j : Int) ∧ j ≤ nl ∧ Hid (WkI w1 gb rb base bb cap ob n k (Cf.visL (edg L B cl) m ((Cf.nxs L B b).take j) (b :: en, lf)).1 (Cf.visL (edg L B cl) m ((Cf.nxs L B b).take j) (b :: en, lf)).2 ov wr)) (fun v _ => nl - (intOf v).toNat)
      case atStart => exact ⟨0, ov, rfl, by omega, by rw [List.take_zero]; exact HI⟩
      case round =>
        clear HI x0 c2 g0
        obtain ⟨j, ov, rfl, hj, HI⟩ := hrel
        obtain ⟨-, x0, n0⟩ := HC.out.boxes HI.out.ch
        by_cases hlt : j < nl
        · obtain ⟨t, ht⟩ : ∃ t, (Cf.nxs L B b)[j]? = some t := ⟨_, List.getElem?_eq_getElem (by rw [HNL.out]; exact hlt)⟩
          have hrow := HC.out.keep HI.out.ch (HC.out.nx b hb) (by decide) (by decide)
          rw [HNV.out, HNL.out] at hrow
          obtain ⟨qb, qc, hqv, hqb, hqc⟩ := own_at0 hrow (by omega)
          obtain ⟨rfl, -, rfl⟩ := Value.slice.inj hqv
          have q0 := (hqc j _ (Kit.natVals_at ht)).1
          have htk := HEk.out t (List.mem_append_left _ (List.mem_of_getElem? ht))
          have HCall := hid (HIH.out t ((Cf.nxs L B b).take j) (fun u hu => List.mem_append_left _ (List.mem_of_mem_take hu)) htk ov wr HI.out)
          rw [← show (Cf.nxs L B b).take (j + 1) = (Cf.nxs L B b).take j ++ [t] by rw [List.take_add_one, ht]; rfl] at HCall
          unfold enF at n0
          clear hrow hqv hqc ht
          go_wp2_with (go_at_call 49; go_loud (refine HCall.out.mono ?_; rintro e w5 ⟨rfl, ov5, h5⟩; have H5 := hid h5; clear h5))
          go_roundw
          case rel => exact ⟨j + 1, ov5, by go_num, by omega, H5⟩
          case measure => simp [intOf]; omega
        · obtain rfl : j = nl := by omega
          have HI0 : Hid (WkI w1 gb rb base bb cap ob n k (Cf.visL (edg L B cl) m (Cf.nxs L B b ++ (cl b).take 0) (b :: en, lf)).1 (Cf.visL (edg L B cl) m (Cf.nxs L B b ++ (cl b).take 0) (b :: en, lf)).2 ov wr) := by
            have e := HI.out
            rw [List.take_of_length_le (by rw [HNL.out]; exact Nat.le_refl _)] at e
            rw [List.take_zero, List.append_nil]
            exact e
          obtain ⟨-, -, c3⟩ := HC.out.at HI.out.ch hb
          have g0 : wr.cell? ⟨gb, 0, none⟩ = some (.slice (some ⟨bb, 0, none⟩) k cap) := HI.out.box.cell 0
          obtain ⟨ca, cc, hcv⟩ := own_form (HC.out.ca b hb)
          rw [hcv] at c3
          have HCV := hid hcv
          obtain ⟨cn, hcn⟩ : ∃ cn, (cl b).length = cn := ⟨_, rfl⟩
          have HCN := hid hcn
          rw [hcn] at c3 HCV hlb
          clear hcv hcn HI
          obtain ⟨wo, rfl⟩ : ∃ wo : World, wo = wr := ⟨_, rfl⟩
          go_wp2
          go_loopw [42] (fun v wr => ∃ (j : Nat) (ov : Value), v = .int .i64 (j : Int) ∧ j ≤ cn ∧ Hid (WkI w1 gb rb base bb cap ob n k (Cf.visL (edg L B cl) m (Cf.nxs L B b ++ (cl b).take j) (b :: en, lf)).1 (Cf.visL (edg L B cl) m (Cf.nxs L B b ++ (cl b).take j) (b :: en, lf)).2 ov wr)) (fun v _ => cn - (intOf v).toNat)
          case atStart => exact ⟨0, ov, rfl, by omega, HI0⟩
          case round =>
            clear HI0 x0 n0 c3 g0
            obtain ⟨j, ov, rfl, hj, HI⟩ := hrel
            obtain ⟨-, x0, n0⟩ := HC.out.boxes HI.out.ch
            by_cases hlt : j < cn
            · obtain ⟨t, ht⟩ : ∃ t, (cl b)[j]? = some t := ⟨_, List.getElem?_eq_getElem (by rw [HCN.out]; exact hlt)⟩
              have hrow := HC.out.keep HI.out.ch (HC.out.ca b hb) (by decide) (by decide)
              rw [HCV.out, HCN.out] at hrow
              obtain ⟨qb, qc, hqv, hqb, hqc⟩ := own_at0 hrow (by omega)
              obtain ⟨rfl, -, rfl⟩ := Value.slice.inj hqv
              have q0 := (hqc j _ (Kit.natVals_at ht)).1
              have htk := HEk.out t (List.mem_append_right _ (List.mem_of_getElem? ht))
              have HCall := hid (HIH.out t (Cf.nxs L B b ++ (cl b).take j) (fun u hu => by
                rcases List.mem_append.1 hu with hu | hu
                · exact List.mem_append_left _ hu
                · exact List.mem_append_right _ (List.mem_of_mem_take hu)) htk ov wr HI.out)
              rw [List.append_assoc, ← show (cl b).take (j + 1) = (cl b).take j ++ [t] by rw [List.take_add_one, ht]; rfl] at HCall
              unfold enF at n0
              clear hrow hqv hqc ht
              go_wp2_with (go_at_call 49; refine HCall.out.mono ?_; rintro e w5 ⟨rfl, ov5, h5⟩; have H5 := hid h5; clear h5)
              go_roundw
              case rel => exact ⟨j + 1, ov5, by go_num, by omega, H5⟩
              case measure => simp [intOf]; omega
            · obtain rfl : j = cn := by omega
              have HF : Hid (WkI w1 gb rb base bb cap ob n k (Cf.visL (edg L B cl) m (edg L B cl b) (b :: en, lf)).1 (Cf.visL (edg L B cl) m (edg L B cl b) (b :: en, lf)).2 ov wr) := by
                have e := HI.out
                rw [List.take_of_length_le (by rw [HCN.out]; exact Nat.le_refl _)] at e
                exact e
              have hok := (HV.out _ (fun t ht => ht)).ok
              obtain ⟨⟨s1, s2⟩, hs⟩ : ∃ s, Cf.visL (edg L B cl) m (edg L B cl b) (b :: en, lf) = s := ⟨_, rfl⟩
              have HSQ := hid hs
              rw [hs] at HF hok
              dsimp only at HF
              have hs2 : s2.length ≤ k := Nat.le_trans (Cf.len_le hok.lnd (b := List.range k) (fun x hx => List.mem_range.2 (hok.lt x (hok.lsub x hx)))) (by simp)
              have g2 : wr.cell? ⟨gb, 2, none⟩ = some ov := HF.out.box.cell 2
              have hgs : gb < wr.heap.size := HF.out.box.sz
              obtain ⟨oa, oc, rfl⟩ := own_form HF.out.ord
              have HOw := hid (fun X (hb : Below wr.heap.size wr X) => Kit.owns_below HF.out.ord hb (Nat.le_refl _))
              have hws := HF.out.ch.size
              have hxs : xb < wr.heap.size := Nat.lt_of_lt_of_le HC.out.xbx.sz hws
              clear HI hs hok n0
              go_wp2
              go_region_law (refine Kit.step_append_own rfl (.tmp 54) (.tmp 56) 34 rfl w1.heap.size 3 i0 _ 1 8 Try.underlying34 hi hy0 hy1 hy2 rfl (by decide) (.slice oa s2.length oc) s2.length _ rfl (HOw.out _ (by repeat' first | with_reducible exact Below.refl _ _ | with_reducible assumption | with_reducible refine belows_drewN ?_ _ | with_reducible refine Below.drew ?_ | with_reducible refine Below.setCell ?_ ?_ _ | with_reducible refine Below.alloc ?_ ?_ _ | omega | (simp; done) | (simp; omega))) ⟨wr.heap.size, 0, none⟩ 1 1 [.int .i64 (b : Int)] rfl rfl (by intro j u hj; exact Kit.news_one _ _ 3 j u hj) (Kit.ones_one rfl) (by unfold maxLen; omega) (by omega) (by first | omega | (simp; omega)) ?_; intro v2 w3 ho3 hg3 hk3; obtain ⟨d0, d1, hN, d2⟩ := HF.out.leave HC.out (by repeat' first | with_reducible exact Below.refl _ _ | with_reducible assumption | with_reducible refine belows_drewN ?_ _ | with_reducible refine Below.drew ?_ | with_reducible refine Below.setCell ?_ ?_ _ | with_reducible refine Below.alloc ?_ ?_ _ | omega | (simp; done) | (simp; omega)) hg3 ho3; have HN := hid hN; obtain ⟨b2, q2, rfl⟩ := own_form ho3; clear ho3 hg3 hk3 hN)
              all_goals
                go_wp2
                refine bodyPost_end (results_none rfl _ _ _) rfl ?_
                refine ⟨rfl, .slice b2 (s2.length + 1) q2, ?_⟩
                rw [HSQ.out]
                exact HN.out
end
end Go.Proofs.Ytdodobpbdnpjiaa
namespace Go.Proofs.Ytdodobpbdnpjiaa
open Go Go.RowKit
open Kit (natVals)

/-- Cells that are numbers. -/
def IntL (cur : List Value) : Prop := ∀ u ∈ cur, ∃ x : Int, u = .int .i64 x
theorem IntL.one {cur : List Value} (h : IntL cur) : ∀ u ∈ cur, u.oneCell' = true := fun u hu => by obtain ⟨x, rfl⟩ := h u hu; rfl
theorem IntL.splice {L cs : List Value} (h : IntL L) (hc : IntL cs) (o : Nat) : IntL (splice L o cs) := by
  intro u hu
  unfold Go.splice at hu
  rcases List.mem_append.1 hu with h1 | h1
  · exact h u (List.mem_of_mem_take h1)
  · rcases List.mem_append.1 h1 with h2 | h2
    · exact hc u h2
    · exact h u (List.mem_of_mem_drop h2)
set_option maxRecDepth 100000
set_option maxHeartbeats 2000000
theorem repeat_any {sb : Nat} {c : Int} {k : Nat} {w : World} (h : w.cell? ⟨sb, 0, none⟩ = some (.int .i64 c)) (hk : k ≤ 1048576) :
    Calls Try.prog 51 #[.slice (some ⟨sb, 0, none⟩) 1 1, .int .i64 (k : Int)] w fun e w' => e = .returned (.slice (some ⟨w.heap.size, 0, none⟩) k k) ∧ ∃ cur, w'.ownsRow w.heap.size 3 1 (.slice (some ⟨w.heap.size, 0, none⟩) k k) k cur ∧ IntL cur ∧ Below w.heap.size w w' := by
  have hmk := fun W => run_make_row' (P := Try.prog) 34 3 (.int .i64 0) 8 (by kernel_rfl) (by kernel_rfl) rfl .i64 .i64 k (by omega) (by omega) W
  have hM := fun W => Sh.bits_Mul 1 k (by omega) (by omega) W
  rw [show 1 * k / 18446744073709551616 = 0 by omega, show 1 * k % 18446744073709551616 = k by omega] at hM
  have HM := hid hM
  have hkw : (k : Int) % 18446744073709551616 = (k : Int) := by omega
  have hsb := World.block_lt_of_cell? w _ h
  have hsz1 : (Try.prog.info? 3).map (·.size) = some 1 := by kernel_rfl
  clear hM
  have hrow : ∀ (W : World) (g : Nat) (cur : List Value), W.heap[g]? = some (.cells cur.toArray 3 (0, 0)) → ∀ j v, cur[j]? = some v → W.cell? ((⟨g, 0, none⟩ : Addr).add j) = some v := by
    intro W g cur hh j v hv
    rw [Go.WideShapes.add_plain, Nat.zero_add]
    simp [World.cell?, hh, hv]
  have hmade : ∀ W : World, (W.alloc (.cells (madeCells #[.int .i64 0] k) 3)).heap[W.heap.size]? = some (.cells (List.replicate k (.int .i64 0)).toArray 3 (0, 0)) := by
    intro W
    have e : madeCells #[.int .i64 0] k = (List.replicate k (.int .i64 0 : Value)).toArray := by
      rw [← toList_madeCells_one]
    rw [e]
    exact heap_alloc_new W _
  have hown : ∀ (W : World) (cur : List Value), cur.length = k → W.heap[w.heap.size]? = some (.cells cur.toArray 3 (0, 0)) → W.ownsRow w.heap.size 3 1 (.slice (some ⟨w.heap.size, 0, none⟩) k k) k cur := by
    intro W cur hl hh
    exact ⟨by omega, .inr ⟨w.heap.size, k, cur.toArray, rfl, Nat.le_refl _, hh, Nat.le_refl _, by unfold maxLen; omega, by simp [hl], by rw [Nat.mul_one, ← hl]; simp⟩⟩
  have HRow := hid hrow
  have HMade := hid hmade
  have HOwn := hid hown
  clear hrow hmade hown
  have hzero : IntL (List.replicate k (.int .i64 0)) := fun u hu => ⟨0, (List.mem_replicate.1 hu).2⟩
  have HZ := hid hzero
  clear hzero
  have HSrc : Hid (∀ (o : Obj) (j : Nat) (v : Value), [Value.int .i64 c][j]? = some v → (w.alloc o).cell? ((⟨sb, 0, none⟩ : Addr).add j) = some v) := by
    intro o j v hv
    match j, hv with
    | 0, hv =>
      simp at hv
      subst hv
      show (w.alloc o).cell? ⟨sb, 0, none⟩ = _
      rw [World.cell?_alloc_lt _ _ _ (by simpa using hsb)]
      exact h
    | j + 1, hv => simp at hv
  obtain ⟨w4, c1, cur0, hcp, HG4, HB4, HC1, HL4, HI4⟩ : ∃ (w4 : World) (c1 : Nat) (cur0 : List Value), (Builtin.copy_ #[34, 34] 3 #[.slice (some ⟨w.heap.size, 0, none⟩) k k, .slice (some ⟨sb, 0, none⟩) 1 1]).run Try.prog (w.alloc (.cells (madeCells #[.int .i64 0] k) 3)) = .ok (.int .i64 (c1 : Int)) w4 ∧ Hid (w4.heap[w.heap.size]? = some (.cells cur0.toArray 3 (0, 0))) ∧ Hid (Below w.heap.size w w4) ∧ Hid (c1 ≤ k ∧ (k = 0 ∨ 1 ≤ c1)) ∧ Hid (cur0.length = k) ∧ Hid (IntL cur0) := by
    by_cases hk0 : k = 0
    · exact ⟨_, 0, _, run_copy_none (P := Try.prog) _ _ _ _ 3 _ _ k k 1 1 Try.underlying34 hsz1 (by rw [hk0]; rfl), HMade.out w, (Below.refl _ _).alloc (Nat.le_refl _) _, ⟨by omega, .inl hk0⟩, (show _ = _ by simp), HZ.out⟩
    · have hr := run_copy_row (P := Try.prog) (w.alloc (.cells (madeCells #[.int .i64 0] k) 3)) 34 34 3 3 w.heap.size 0 k k ⟨sb, 0, none⟩ 1 1 (List.replicate k (.int .i64 0)).toArray 3 [.int .i64 c] Try.underlying34 hsz1 (HMade.out w) (by show 1 = min 1 k; omega) (HSrc.out _) (by simp; omega) (fun v hv => by simp at hv; rw [hv]; rfl)
      refine ⟨_, 1, splice (List.replicate k (.int .i64 0)) 0 [.int .i64 c], hr, ?_, below_setRow ((Below.refl _ _).alloc (Nat.le_refl _) _) (Nat.le_refl _) _, ⟨by omega, .inr (by omega)⟩, ?_, HZ.out.splice (fun u hu => by simp at hu; exact ⟨c, hu⟩) 0⟩
      · show _ = _
        simpa [splice] using setRow_heap _ _ _ _ _ _ (HMade.out w)
      · show _ = _
        rw [length_splice _ _ _ (by simp; omega)]; simp
  have hd1 : decide ((k : Int) < 0) = false := by simp
  have hd2 : decide (9223372036854775807 < (k : Int)) = false := by simp; omega
  clear HSrc h HZ
  go_enter Try.func51, Try.ntmps51
  go_wp2_with (go_at_call 60; refine (HM.out _).mono ?_; rintro e w1 ⟨rfl, rfl⟩)
  go_loopw [8] (fun v wr => ∃ (m : Nat) (cur : List Value), v = .int .i64 (m : Int) ∧ m ≤ k ∧ Hid (k = 0 ∨ 1 ≤ m) ∧ Hid (cur.length = k) ∧ Hid (IntL cur) ∧ Hid (wr.heap[w1.heap.size]? = some (.cells cur.toArray 3 (0, 0))) ∧ Hid (Below w1.heap.size w1 wr)) (fun v _ => k - (intOf v).toNat)
  case atStart => exact ⟨c1, cur0, rfl, HC1.out.1, HC1.out.2, HL4, HI4, HG4, HB4⟩
  case round =>
    clear HG4 HB4 HL4 HI4 hcp
    obtain ⟨m, cur, rfl, hmk, Hm1, HL, HI, HG, HB⟩ := hrel
    by_cases hlt : m < k
    · have hm1 : 1 ≤ m := by rcases Hm1.out with h | h <;> omega
      obtain ⟨cs, hcs⟩ : ∃ cs, cs = cur.take (min m (k - m)) := ⟨_, rfl⟩
      have hcl : cs.length = min m (k - m) := by rw [hcs, List.length_take, HL.out]; omega
      have HCI : Hid (IntL cs) := by rw [hcs]; exact fun u hu => HI.out u (List.mem_of_mem_take hu)
      have hCS : ∀ j v, cs[j]? = some v → cur[j]? = some v := fun j v hv => by
        rw [hcs, List.getElem?_take] at hv
        split at hv
        · exact hv
        · cases hv
      have hkm : ¬ k = m := by omega
      obtain ⟨w5, hcp, HG5, HB5⟩ : ∃ w5, (Builtin.copy_ #[34, 34] 3 #[.slice (some ⟨w1.heap.size, m, none⟩) (k - m) (k - m), .slice (some ⟨w1.heap.size, 0, none⟩) m k]).run Try.prog wr.drew = .ok (.int .i64 (cs.length : Int)) w5 ∧ Hid (w5.heap[w1.heap.size]? = some (.cells (splice cur m cs).toArray 3 (0, 0))) ∧ Hid (Below w1.heap.size w1 w5) := by
        have hr := run_copy_row (P := Try.prog) wr.drew 34 34 3 3 w1.heap.size m (k - m) (k - m) ⟨w1.heap.size, 0, none⟩ m k cur.toArray 3 cs Try.underlying34 hsz1 HG.out (by first | exact hcl | (rw [hcl]; rfl)) (fun j v hv => HRow.out wr _ _ HG.out j v (hCS j v hv)) (by rw [hcl]; first | (simp [HL.out]; done) | (simp [HL.out]; omega)) HCI.out.one
        refine ⟨_, hr, ?_, below_setRow (Below.drew HB.out) (Nat.le_refl _) _⟩
        show _ = _
        simpa [splice] using setRow_heap _ _ _ _ _ _ (show wr.drew.heap[w1.heap.size]? = _ from HG.out)
      have HL5 : Hid ((splice cur m cs).length = k) := by show _ = _; rw [length_splice _ _ _ (by rw [hcl, HL.out]; omega)]; exact HL.out
      obtain ⟨l, hl⟩ : ∃ l, cs.length = l := ⟨_, rfl⟩
      rw [hl] at hcp hcl
      have HIS := hid (HI.out.splice HCI.out m)
      clear hcs hCS hl
      go_wp2
      go_region
      go_wp2
      go_roundw
      case rel => exact ⟨m + l, _, by go_num, by omega, .inr (by omega), HL5, HIS, HG5, HB5⟩
      case measure => simp [intOf]; omega
    · obtain rfl : m = k := by omega
      go_wp2
      go_ret
      exact ⟨rfl, cur, HOwn.out _ cur HL.out HG.out, HI.out, HB.out⟩
end Go.Proofs.Ytdodobpbdnpjiaa

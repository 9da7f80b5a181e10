/- Own texts for the claim, part 2. -/
import Derived.Test.YtdodobpbdnpjiaaZF1
import Derived.Lib.AppendZerosOnto
import Derived.Deep.Upon
import Derived.Lib.QuietBelow
import Derived.Deep.RegionHeld3
import Derived.Shelf.SlCmpFuncs.None
import Derived.Shelf.SlSortCmp.NoneTotal
namespace Go.Proofs.Ytdodobpbdnpjiaa.Kit
open Go Go.RowKit

theorem firstCells_own {P : Program} {w : World} {g n cap s : Nat} {xs : List Value} (hl : xs.length = n * s) (h : ∀ j u, xs[j]? = some u → w.cell? ((⟨g, 0, none⟩ : Addr).add j) = some u) :
    (Builtin.firstCells s n (.slice (some ⟨g, 0, none⟩) n cap)).run P w = .ok xs.toArray w := run_firstCells_some (P := P) w s n ⟨g, 0, none⟩ n cap xs hl h
theorem run_zeros_own {P : Program} (w : World) (base : Nat) (t tn ty e : TypeId) (i : TypeInfo) (z : Value) (kn : IntKind) (size bytes : Nat) (ht : P.underlying t = some (.slice e)) (htn : P.underlying tn = some (.int kn)) (hi : P.info? e = some i) (hz : i.zero = some z)
    (hsize : i.size = size) (hby : i.bytes = bytes) (hzs : z.cells.size = size) (hz1 : ∀ u ∈ z.cells.toList, u.oneCell' = true) (hsz : 0 < size)
    (v : Value) (n : Nat) (xs : List Value) (hown : w.ownsRow base e size v n xs) (k : Nat) (h63 : n + k ≤ maxLen) (hbytes : (n + k) * bytes ≤ 140737488355328) (hbase : base ≤ w.heap.size) :
    ∃ v' w', (Builtin.append_ #[t, tn] ty #[v, .int .i64 (k : Int)]).run P w = .ok v' w' ∧ w'.ownsRow base e size v' (n + k) (xs ++ (Builtin.zeroCells z.cells k).toList) ∧ w.grownBy w' v.ownBlock ∧ (v'.ownBlock = v.ownBlock ∨ v'.ownBlock = some w.heap.size) := by
  subst hsize
  subst hby
  have hzl : (Builtin.zeroCells z.cells k).toList.length = k * i.size := by rw [Array.length_toList, size_zeroCells, hzs]
  have hlen : (xs ++ (Builtin.zeroCells z.cells k).toList).length = (n + k) * i.size := by rw [List.length_append, hown.1, hzl, Nat.add_mul]
  have hkb : k * i.bytes ≤ 140737488355328 := Nat.le_trans (Nat.mul_le_mul_right _ (Nat.le_add_left k n)) hbytes
  have hm63 : n + k ≤ 9223372036854775807 := by simp only [maxLen] at h63; omega
  have hw : IntKind.i64.wrap (k : Int) = k := by rw [IntKind.wrap_i64]; omega
  have hneg : ¬ ((k : Int) < 0) := by omega
  have h48i : ¬ (281474976710656 < (k : Int) * (i.bytes : Int)) := by rw [← Int.natCast_mul]; omega
  have h1z : ∀ u ∈ (Builtin.zeroCells z.cells k).toList, u.oneCell' = true := by
    intro u hu
    simp only [Builtin.zeroCells, Array.toList_map, List.mem_map, Array.toList_range, List.mem_range] at hu
    obtain ⟨j, hj, rfl⟩ := hu
    have hlt : j % z.cells.size < z.cells.size := Nat.mod_lt _ (by rw [hzs]; exact hsz)
    rw [getElem!_pos z.cells _ hlt]
    exact hz1 _ (by simp)
  have grown : ∀ (olds : List Value) (old : Nat), olds = xs → old < n + k → ∀ (row : Option Nat),
      (w.drew.alloc (.cells (olds.toArray ++ Builtin.zeroCells z.cells k ++ Builtin.zeroCells z.cells (grownCap w (n + k) old e - (n + k))) e)).ownsRow base e i.size
        (.slice (some ⟨w.heap.size, 0, none⟩) (n + k) (grownCap w (n + k) old e)) (n + k) (xs ++ (Builtin.zeroCells z.cells k).toList) ∧
      w.grownBy (w.drew.alloc (.cells (olds.toArray ++ Builtin.zeroCells z.cells k ++ Builtin.zeroCells z.cells (grownCap w (n + k) old e - (n + k))) e)) row := by
    intro olds old ho hlt row
    subst ho
    have hge := grownCap_ge w (n + k) old e
    have hcm : grownCap w (n + k) old e ≤ maxLen := grownCap_le_maxLen w (n + k) old e h63
    refine ⟨⟨hlen, .inr ⟨w.heap.size, _, _, rfl, hbase, heap_alloc_new w.drew _, hge, hcm, ?_, ?_⟩⟩, ⟨rfl, rfl, rfl, by simp, fun k hk _ => Below.heap_alloc w.drew _ k hk⟩⟩
    · simp only [Array.size_append, List.size_toArray, size_zeroCells, hzs, hown.1, ← Nat.add_mul]
      congr 1
      omega
    · simp only [Array.toList_append]
      rw [← hlen]
      exact List.take_left
  by_cases hk : k = 0
  · subst hk
    have hw0 : IntKind.i64.wrap 0 = 0 := by rw [IntKind.wrap_i64]; omega
    have hzn : (Builtin.zeroCells z.cells 0).toList = [] := by simp [Builtin.zeroCells]
    have hzn' : Builtin.zeroCells z.cells 0 = #[] := by simp [Builtin.zeroCells]
    rcases hown.2 with ⟨rfl, rfl⟩ | ⟨g, cap, cur, rfl, hbg, hg, hnc, hcm, hcs, htake⟩
    · refine ⟨.slice none 0 0, w, ?_, by rw [hzn, List.append_nil]; exact hown, ⟨rfl, rfl, rfl, Nat.le_refl _, fun _ _ _ => rfl⟩, .inl rfl⟩
      simp [Builtin.append_, run_underlying ht, run_underlying htn, sizeOf, typeInfo, zeroValue, hi, hz, asInt, asIntOf, hw0]
    · refine ⟨.slice (some ⟨g, 0, none⟩) n cap, w, ?_, by rw [hzn, List.append_nil]; exact hown, ⟨rfl, rfl, rfl, Nat.le_refl _, fun _ _ _ => rfl⟩, .inl rfl⟩
      simp [Builtin.append_, run_underlying ht, run_underlying htn, sizeOf, typeInfo, zeroValue, hi, hz, asInt, asIntOf, hw0, hnc, storeCells]
  · rcases hown.2 with ⟨rfl, rfl⟩ | ⟨g, cap, cur, rfl, hbg, hg, hnc, hcm, hcs, htake⟩
    · have hx : xs = [] := List.eq_nil_of_length_eq_zero (by simpa using hown.1)
      subst hx
      have hr := Lib.run_append_nil_zeros (P := P) w t tn ty e i z .i64 kn ht htn hi hz k (by omega) hsz (by omega) (by omega)
      have hgr := grown [] 0 rfl (by omega) (Value.ownBlock (.slice none 0 0))
      simp only [Nat.zero_add, List.nil_append, Array.empty_append] at hgr ⊢
      exact ⟨_, _, hr, hgr.1, hgr.2, .inr rfl⟩
    · by_cases hroom : n + k ≤ cap
      · have hfit : n * i.size + (Builtin.zeroCells z.cells k).toList.length ≤ cur.size := by rw [hzl, hcs, ← Nat.add_mul]; exact Nat.mul_le_mul_right _ hroom
        have hst := run_storeCells_at P g (n * i.size) e (Builtin.zeroCells z.cells k).toList 0 cur w hg (by simpa using hfit) h1z
        simp only [Nat.add_zero] at hst
        have hns : ¬ (k * i.size = 0) := Nat.mul_ne_zero hk (by omega)
        have hr : (Builtin.append_ #[t, tn] ty #[.slice (some ⟨g, 0, none⟩) n cap, .int .i64 (k : Int)]).run P w =
            .ok (.slice (some ⟨g, 0, none⟩) (n + k) cap) (w.setRow g (cur.toList.take (n * i.size) ++ (Builtin.zeroCells z.cells k).toList ++ cur.toList.drop (n * i.size + (Builtin.zeroCells z.cells k).toList.length)).toArray) := by
          simp [Builtin.append_, run_underlying ht, run_underlying htn, sizeOf, typeInfo, zeroValue, hi, hz, asInt, asIntOf, hw, hneg, h48i, hns, hroom, Addr.add_lit, hst]
        refine ⟨_, _, hr, ⟨hlen, .inr ⟨g, cap, _, rfl, hbg, setRow_heap w g cur _ e _ hg, hroom, hcm, ?_, ?_⟩⟩, ⟨rfl, rfl, rfl, by simp, fun k _ hk => setRow_other w g k _ (fun e => hk (by simp [Value.ownBlock, e]))⟩, .inl rfl⟩
        · simp only [List.size_toArray, List.length_append, List.length_take, List.length_drop, Array.length_toList]
          rw [Array.length_toList] at hfit
          omega
        · rw [htake, ← hlen]
          exact List.take_left
      · have holds : ∀ j u, xs[j]? = some u → w.cell? ((⟨g, 0, none⟩ : Addr).add j) = some u := hown.cells (g := g) rfl
        have hr := Lib.run_append_grow_zeros (P := P) w t tn ty e i z .i64 kn ht htn hi hz (some ⟨g, 0, none⟩) n cap xs (firstCells_own (w := w.drew) hown.1 holds) k (by omega) hsz (by omega) (by omega) (by omega) (growslice_fits (by omega) hbytes)
        have hgr := grown xs cap rfl (by omega) (Value.ownBlock (.slice (some ⟨g, 0, none⟩) n cap))
        exact ⟨_, _, hr, hgr.1, hgr.2, .inr rfl⟩
theorem wpList_zeros_own {P : Program} {w : World} {ops : Array Oper} {rest : List Oper} {o : Oper} {a : Act} {Q : Exit → Act → World → Prop} (hgd : o.guard = none) (s x : Operand) (t tn : TypeId)
    (ho : o.op = .call { callee := .builtin .append, args := #[s, x], argTypes := #[t, tn] })
    (base : Nat) (e : TypeId) (i : TypeInfo) (z : Value) (kn : IntKind) (size bytes : Nat) (ht : P.underlying t = some (.slice e)) (htn : P.underlying tn = some (.int kn)) (hi : P.info? e = some i) (hz : i.zero = some z)
    (hsize : i.size = size) (hby : i.bytes = bytes) (hzs : z.cells.size = size) (hz1 : ∀ u ∈ z.cells.toList, u.oneCell' = true) (hsz : 0 < size)
    (v : Value) (n : Nat) (xs : List Value) (hs : a.eval s = v) (hown : w.ownsRow base e size v n xs) (k : Nat) (hx : a.eval x = .int .i64 (k : Int)) (h63 : n + k ≤ maxLen) (hbytes : (n + k) * bytes ≤ 140737488355328) (hbase : base ≤ w.heap.size)
    (h : ∀ v' w', w'.ownsRow base e size v' (n + k) (xs ++ (Builtin.zeroCells z.cells k).toList) → w.grownBy w' v.ownBlock → (v'.ownBlock = v.ownBlock ∨ v'.ownBlock = some w.heap.size) → wpList P ops Q rest (a.put o.dst v') w') :
    wpList P ops Q (o :: rest) a w := by
  refine wpList_plain hgd fun K hK => ?_
  obtain ⟨v', w', hr, h2, h3, h4⟩ := run_zeros_own (P := P) w base t tn o.type e i z kn size bytes ht htn hi hz hsize hby hzs hz1 hsz v n xs hown k h63 hbytes hbase
  unfold Oper.wp execOp
  simp only [ho, resolve, invoke, builtin, Sem.run_bind, Sem.run_pure, Result.andThen_ok, List.map_toArray, List.map_cons, List.map_nil, hs, hx, hr]
  exact hK _ _ (h v' w' h2 h3 h4)
end Go.Proofs.Ytdodobpbdnpjiaa.Kit
namespace Go.Proofs.Ytdodobpbdnpjiaa
open Go Go.RowKit
open Kit (natVals)

def ClonePost (e : TypeId) (size n : Nat) (xs : List Value) (w : World) (en : Ending) (w' : World) : Prop := ∃ v, en = .returned v ∧ w'.ownsRow w.heap.size e size v n xs ∧ Below w.heap.size w w'
set_option maxRecDepth 100000 in
set_option maxHeartbeats 400000 in
theorem iclone_some (n : Nat) (xs : List Value) (ad : Addr) (cap : Nat) (w : World) (hx : xs.length = n * 1) (hn : n * 8 ≤ 140737488355328) (hc : ∀ j u, xs[j]? = some u → w.cell? (ad.add j) = some u) (h1c : ∀ u ∈ xs, u.oneCell' = true) : Calls Try.prog 14 #[.slice (some ad) n cap] w (ClonePost 3 1 n xs w) := by
  obtain ⟨i0, hi, hz0, hz1, hz2⟩ := info_parts infoI
  have hnil := fun (W : World) (a : Option Addr) (n c : Nat) => Lib.run_eql_slice_nil (P := Try.prog) W 34 3 a n c 0 0 Try.underlying34
  have hlt : ∀ j u, xs[j]? = some u → (w.alloc (.cells #[] 3)).cell? (ad.add j) = some u := fun j u h => by
    have h2 := hc j u h
    rw [World.cell?_alloc_lt _ _ _ (World.block_lt_of_cell? w _ h2)]
    exact h2
  have HL := hid hlt
  have HLen := hid hx
  have H1 := hid h1c
  clear hc hlt hx h1c
  go_enter Try.func14, Try.ntmps14
  go_wp2_with (at_builtin; go_loud (refine wpList_append_own _ rfl (.tmp 5) (.tmp 6) 34 rfl w.heap.size 3 i0 _ 1 8 Try.underlying34 hi hz0 hz1 hz2 rfl (by decide) _ 0 [] rfl (owns_empty (Nat.le_refl _)) ad n cap xs rfl HLen.out HL.out H1.out (by unfold maxLen; omega) (by omega) (by simp) ?_); intro v1 w1 hown1 hgrow1 _)
  go_ret
  refine ⟨_, rfl, by simpa using hown1, Kit.below_grown (by repeat' first | with_reducible exact Below.refl _ _ | with_reducible assumption | with_reducible refine belows_drewN ?_ _ | with_reducible refine Below.drew ?_ | with_reducible refine Below.setCell ?_ ?_ _ | with_reducible refine Below.alloc ?_ ?_ _ | omega | (simp; done) | (simp; omega)) hgrow1 (by simp) (fun k hk => ?_)⟩
  have : some w.heap.size = some k := hk
  exact Nat.le_of_eq (Option.some.inj this)
theorem iclone_nil (c : Nat) (w : World) : Calls Try.prog 14 #[.slice none 0 c] w (ClonePost 3 1 0 [] w) := by
  have hnil := fun (W : World) (a : Option Addr) (n c : Nat) => Lib.run_eql_slice_nil (P := Try.prog) W 34 3 a n c 0 0 Try.underlying34
  go_enter Try.func14, Try.ntmps14
  go_wp2
  go_ret
  exact ⟨_, rfl, ⟨rfl, .inl ⟨rfl, rfl⟩⟩, (by repeat' first | with_reducible exact Below.refl _ _ | with_reducible assumption | with_reducible refine belows_drewN ?_ _ | with_reducible refine Below.drew ?_ | with_reducible refine Below.setCell ?_ ?_ _ | with_reducible refine Below.alloc ?_ ?_ _ | omega | (simp; done) | (simp; omega))⟩
theorem iclone_any (n : Nat) (xs : List Value) (v : Value) (w : World) (hv : Kit.IsS 1 w v n xs) (hn : n * 8 ≤ 140737488355328) (h1c : ∀ u ∈ xs, u.oneCell' = true) : Calls Try.prog 14 #[v] w (ClonePost 3 1 n xs w) := by
  rcases hv.2.2 with ⟨rfl, a, cap, rfl⟩ | ⟨b, o, cap, rfl, hl, hlt, hc⟩
  · have hxs : xs = [] := List.length_eq_zero_iff.1 (by have := hv.1; omega)
    subst hxs
    cases a with
    | none => exact iclone_nil cap w
    | some ad => exact iclone_some 0 [] ad cap w rfl (by omega) (fun j u h => by simp at h) (fun u h => by cases h)
  · exact iclone_some n xs ⟨b, o, none⟩ cap w hv.1 hn (fun j u h => by rw [Go.WideShapes.add_plain]; exact hc j u h) h1c
theorem natVals_one (l : List Nat) : ∀ u ∈ natVals l, u.oneCell' = true := by
  intro u hu
  unfold natVals at hu
  obtain ⟨n, -, rfl⟩ := List.mem_map.1 hu
  rfl
end Go.Proofs.Ytdodobpbdnpjiaa
namespace Go.Proofs.Ytdodobpbdnpjiaa
open Go Go.RowKit
open Kit (natVals)

theorem src_none1 (c : Nat) (w : World) : Src Try.prog 1 34 (.slice none 0 c) 0 [] w :=
  ⟨.inl ⟨_, Try.underlying34⟩, fun _ => rfl, rfl, rfl, rfl, fun u hu => by cases hu⟩
/-- An append of numbers that are read. -/
theorem op_ints {o : Oper} {a : Act} {w : World} {K : Act → World → Prop} {Q : Exit → Act → World → Prop} (s x : Operand)
    (hop : o.op = Op.call { callee := Callee.builtin Builtin.append, args := #[s, x], argTypes := #[34, 34] })
    (B : Nat) (v : Value) (n : Nat) (xs : List Value) (hs : a.eval s = v) (hown : w.ownsRow B 3 1 v n xs) (hB : B ≤ w.heap.size)
    (xv : Value) (m : Nat) (news : List Value) (hx : a.eval x = xv) (hr : Kit.IsS 1 w xv m news) (h1 : ∀ u ∈ news, u.oneCell' = true) (hnm : n + m ≤ 10000000)
    (hK : ∀ v' w', w'.ownsRow B 3 1 v' (n + m) (xs ++ news) → w.grownBy w' v.ownBlock → (v'.ownBlock = v.ownBlock ∨ v'.ownBlock = some w.heap.size) → K (a.put o.dst v') w') :
    Oper.wp Try.prog o a w K Q := by
  obtain ⟨i0, hi, hz0, hz1, hz2⟩ := info_parts infoI
  have some' : ∀ ad c, xv = .slice (some ad) m c → (∀ j u, news[j]? = some u → w.cell? (ad.add j) = some u) → Oper.wp Try.prog o a w K Q := fun ad c he hc => by
    subst he
    obtain ⟨v', w', hr', h2, h3, -, h5⟩ := run_append_own_at (P := Try.prog) w B 34 o.type 3 i0 _ 1 8 Try.underlying34 hi hz0 hz1 hz2 rfl (by decide) v n xs hown ad m c news hr.1 hc h1 (by unfold maxLen; omega) (by omega) hB
    unfold Oper.wp execOp
    simp only [hop, resolve, invoke, builtin, Sem.run_bind, Sem.run_pure, Result.andThen_ok, List.map_toArray, List.map_cons, List.map_nil, hs, hx, hr']
    exact hK _ _ h2 h3 h5
  rcases hr.2.2 with ⟨h0, ad, c, he⟩ | ⟨b, ofs, c, he, -, -, hc⟩
  · subst h0
    have hn : news = [] := List.eq_nil_of_length_eq_zero (by simpa using hr.1)
    cases ad with
    | some ad => exact some' ad c he (fun j u hj => by rw [hn] at hj; simp at hj)
    | none =>
      subst hn he
      have hcap : ∃ ad' n' c', v = .slice ad' n' c' ∧ n' ≤ c' := by
        rcases hown.2 with ⟨h, -⟩ | ⟨g, cap, cur, h, -, -, h4, -⟩
        · exact ⟨none, 0, 0, h, Nat.le_refl _⟩
        · exact ⟨_, _, _, h, h4⟩
      obtain ⟨ad', n', c', he', hle⟩ := hcap
      have hr' := run_append_nothing (P := Try.prog) w 34 34 o.type 3 i0 Try.underlying34 hi ad' n' c' hle (.slice none 0 c) (by rw [hz1]; exact src_none1 c w)
      rw [← he'] at hr'
      unfold Oper.wp execOp
      simp only [hop, resolve, invoke, builtin, Sem.run_bind, Sem.run_pure, Result.andThen_ok, List.map_toArray, List.map_cons, List.map_nil, hs, hx, hr']
      exact hK _ _ (by simpa using hown) ⟨rfl, rfl, rfl, Nat.le_refl _, fun _ _ _ => rfl⟩ (.inl rfl)
  · exact some' _ c he (fun j u hj => by rw [Go.WideShapes.add_plain]; exact hc j u hj)
theorem wpList_ints {ops : Array Oper} {rest : List Oper} {o : Oper} {a : Act} {w : World} {Q : Exit → Act → World → Prop} (hgd : o.guard = none) (s x : Operand)
    (hop : o.op = Op.call { callee := Callee.builtin Builtin.append, args := #[s, x], argTypes := #[34, 34] })
    (B : Nat) (v : Value) (n : Nat) (xs : List Value) (hs : a.eval s = v) (hown : w.ownsRow B 3 1 v n xs) (hB : B ≤ w.heap.size)
    (xv : Value) (m : Nat) (news : List Value) (hx : a.eval x = xv) (hr : Kit.IsS 1 w xv m news) (h1 : ∀ u ∈ news, u.oneCell' = true) (hnm : n + m ≤ 10000000)
    (h : ∀ v' w', w'.ownsRow B 3 1 v' (n + m) (xs ++ news) → w.grownBy w' v.ownBlock → (v'.ownBlock = v.ownBlock ∨ v'.ownBlock = some w.heap.size) → wpList Try.prog ops Q rest (a.put o.dst v') w') :
    wpList Try.prog ops Q (o :: rest) a w := by
  refine wpList_plain hgd fun K hK => ?_
  exact op_ints s x hop B v n xs hs hown hB xv m news hx hr h1 hnm (fun v' w' h2 h3 h4 => hK _ _ (h v' w' h2 h3 h4))
set_option maxRecDepth 100000
set_option maxHeartbeats 2000000
theorem grow_any (n : Nat) (hn : n ≤ 10000000) (w : World) : Calls Try.prog 86 #[.slice none 0 0, .int .i64 (n : Int)] w fun e w' => ∃ v, e = .returned v ∧ w'.ownsRow w.heap.size 3 1 v 0 [] ∧ Below w.heap.size w w' := by
  obtain ⟨i0, hi, hz0, hz1, hz2⟩ := info_parts infoI
  by_cases h0 : n = 0
  · subst h0
    go_enter Try.func86, Try.ntmps86
    go_wp2
    go_ret
    exact ⟨_, rfl, ⟨rfl, .inl ⟨rfl, rfl⟩⟩, Below.refl _ _⟩
  · have hd1 : decide ((n : Int) < 0) = false := by simp
    have hd2 : (0 : Int) < (n : Int) := by omega
    go_enter Try.func86, Try.ntmps86
    go_wp2_with (at_builtin; refine Kit.wpList_zeros_own rfl (.tmp 20) (.tmp 21) 34 3 rfl w.heap.size 3 i0 _ .i64 1 8 Try.underlying34 Try.underlying3 hi hz0 hz1 hz2 rfl (fun u hu => by simp [Value.cells] at hu; rw [hu]; rfl) (by decide) (.slice none 0 0) 0 [] rfl ⟨rfl, .inl ⟨rfl, rfl⟩⟩ n rfl (by unfold maxLen; omega) (by omega) (Nat.le_refl _) ?_; intro v1 w1 ho1 hg1 _; have HO1 := hid ho1; have HB1 : Hid (Below w.heap.size w w1) := below_app0 hg1; obtain ⟨g1, c1, rfl, hgl⟩ := own_pos ho1 (by omega); clear ho1 hg1)
    go_ret
    refine ⟨_, rfl, ?_, HB1.out⟩
    have := owns_cut (m := 0) HO1.out (by omega)
    simpa using this
theorem natVals_app (a b : List Nat) : natVals (a ++ b) = natVals a ++ natVals b := by unfold natVals; rw [List.map_append]
theorem below_app2 {a b c : World} {v : Value} (h : Below a.heap.size a b) (hg : b.grownBy c v.ownBlock) (hv : ∀ k, v.ownBlock = some k → a.heap.size ≤ k) : Below a.heap.size a c := h.grown hg h.size hv
theorem concat_any {sb : Nat} {v1 v2 : Value} {l1 l2 : List Nat} {w : World} (c0 : w.cell? ⟨sb, 0, none⟩ = some v1) (c1 : w.cell? ⟨sb, 1, none⟩ = some v2) (h1 : Kit.IsS 1 w v1 l1.length (natVals l1)) (h2 : Kit.IsS 1 w v2 l2.length (natVals l2)) (hl1 : l1.length ≤ 2000000) (hl2 : l2.length ≤ 2000000) :
    Calls Try.prog 61 #[.slice (some ⟨sb, 0, none⟩) 2 2] w fun e w' => ∃ v, e = .returned v ∧ w'.ownsRow w.heap.size 3 1 v (l1 ++ l2).length (natVals (l1 ++ l2)) ∧ Below w.heap.size w w' := by
  obtain ⟨a1, p1, rfl⟩ := h1.len
  obtain ⟨a2, p2, rfl⟩ := h2.len
  have hsb := World.block_lt_of_cell? w _ c0
  have HG := hid (grow_any (l1.length + l2.length) (by omega) w)
  have H1 := hid (fun W (hb : Below w.heap.size w W) => h1.below hb (Nat.le_refl _))
  have H2 := hid (fun W (hb : Below w.heap.size w W) => h2.below hb (Nat.le_refl _))
  have HC0 := hid (fun W (hb : Below w.heap.size w W) => (hb.cell (p := ⟨sb, 0, none⟩) hsb).trans c0)
  have HC1 := hid (fun W (hb : Below w.heap.size w W) => (hb.cell (p := ⟨sb, 1, none⟩) hsb).trans c1)
  obtain ⟨n1, hn1⟩ : ∃ n, l1.length = n := ⟨_, rfl⟩
  obtain ⟨n2, hn2⟩ : ∃ n, l2.length = n := ⟨_, rfl⟩
  have HN1 := hid hn1
  have HN2 := hid hn2
  rw [hn1] at c0 HC0 H1 HG hl1
  rw [hn2] at c1 HC1 H2 HG hl2
  clear h1 h2 hn1 hn2
  go_enter Try.func61, Try.ntmps61
  go_wp2
  go_loopw [11, 3] (fun v s wr => ∃ j : Nat, v = .int .i64 (j : Int) ∧ j ≤ 2 ∧ wr = w ∧ s = .int .i64 ((if j = 0 then 0 else if j = 1 then n1 else n1 + n2 : Nat) : Int)) (fun v _ _ => 2 - (intOf v).toNat)
  case atStart => exact ⟨0, rfl, by omega, rfl, rfl⟩
  case round =>
    obtain ⟨j, rfl, hj, rfl, rfl⟩ := hrel
    match j, hj with
    | 0, _ =>
      have hd : decide ((n1 : Int) < 0) = false := by simp
      go_wp2
      go_roundw
      case rel => exact ⟨1, rfl, by omega, by first | rfl | trivial, by simp⟩
      case measure => simp [intOf]
    | 1, _ =>
      have hd : decide ((n1 : Int) + (n2 : Int) < 0) = false := by simp; omega
      go_wp2
      go_roundw
      case rel => exact ⟨2, rfl, by omega, by first | rfl | trivial, by simp⟩
      case measure => simp [intOf]
    | 2, _ =>
      go_wp2_with (go_at_call 86; refine HG.out.mono ?_; rintro e w1 ⟨v0, rfl, ho, hb⟩; have HO := hid ho; have HB := hid hb; clear ho hb)
      obtain ⟨wo, rfl⟩ : ∃ wo : World, wo = wr := ⟨_, rfl⟩
      go_loopw [27, 6] (fun v u wr => ∃ (j : Nat) (v6 : Value), v = .int .i64 (j : Int) ∧ u = v6 ∧ j ≤ 2 ∧ Hid (wr.ownsRow wo.heap.size 3 1 v6 (if j = 0 then [] else if j = 1 then l1 else l1 ++ l2).length (natVals (if j = 0 then [] else if j = 1 then l1 else l1 ++ l2))) ∧ Hid (Below wo.heap.size wo wr)) (fun v _ _ => 2 - (intOf v).toNat)
      case atStart => exact ⟨0, _, rfl, rfl, by omega, HO, HB⟩
      case round =>
        clear HO HB
        obtain ⟨wx, rfl⟩ : ∃ wx : World, wx = wr := ⟨_, rfl⟩
        obtain ⟨j, v6, rfl, hv6, hj, HO, HB⟩ := hrel
        match j, hj with
        | 0, _ =>
          have ho1 : wx.ownsRow wo.heap.size 3 1 v6 (0) (natVals []) := by simpa [] using HO.out
          have HO1 := hid ho1
          clear ho1
          obtain ⟨b6, q6, e6⟩ := own_form HO1.out
          rw [e6] at hv6 HO1
          clear e6 HO
          subst hv6
          have e0 := HC0.out wx HB.out
          have HSr := hid (H1.out wx HB.out)
          have hws := HB.out.size
          go_wp2_with (at_builtin; go_loud (refine wpList_ints rfl (.tmp 31) (.tmp 32) rfl wo.heap.size (.slice b6 (0) q6) (0) _ rfl HO1.out hws (.slice a1 n1 p1) n1 _ rfl HSr.out (natVals_one _) (by omega) ?_; intro v7 w7 ho7 hg7 hk7; have HO7 : Hid (w7.ownsRow wo.heap.size 3 1 v7 (l1).length (natVals (l1))) := (by show World.ownsRow _ _ _ _ _ _ _; rw [HN1.out]; simpa [natVals] using ho7); have HB7 : Hid (Below wo.heap.size wo w7) := below_app2 HB.out hg7 (fun k e => Kit.own_base HO1.out k e); clear ho7 hg7 hk7))
          go_roundw
          case rel => exact ⟨1, _, rfl, rfl, by omega, HO7, HB7⟩
          case measure => simp [intOf]
        | 1, _ =>
          have ho1 : wx.ownsRow wo.heap.size 3 1 v6 (n1) (natVals l1) := by simpa [HN1.out] using HO.out
          have HO1 := hid ho1
          clear ho1
          obtain ⟨b6, q6, e6⟩ := own_form HO1.out
          rw [e6] at hv6 HO1
          clear e6 HO
          subst hv6
          have e0 := HC1.out wx HB.out
          have HSr := hid (H2.out wx HB.out)
          have hws := HB.out.size
          go_wp2_with (at_builtin; go_loud (refine wpList_ints rfl (.tmp 31) (.tmp 32) rfl wo.heap.size (.slice b6 (n1) q6) (n1) _ rfl HO1.out hws (.slice a2 n2 p2) n2 _ rfl HSr.out (natVals_one _) (by omega) ?_; intro v7 w7 ho7 hg7 hk7; have HO7 : Hid (w7.ownsRow wo.heap.size 3 1 v7 (l1 ++ l2).length (natVals (l1 ++ l2))) := (by show World.ownsRow _ _ _ _ _ _ _; rw [natVals_app, List.length_append, HN1.out, HN2.out]; exact ho7); have HB7 : Hid (Below wo.heap.size wo w7) := below_app2 HB.out hg7 (fun k e => Kit.own_base HO1.out k e); clear ho7 hg7 hk7))
          go_roundw
          case rel => exact ⟨2, _, rfl, rfl, by omega, HO7, HB7⟩
          case measure => simp [intOf]
        | 2, _ =>
          subst hv6
          go_wp2
          go_ret
          exact ⟨_, rfl, by simpa using HO.out, HB.out⟩
end Go.Proofs.Ytdodobpbdnpjiaa
namespace Go.Proofs.Ytdodobpbdnpjiaa
open Go Go.RowKit
open Kit (natVals)
open Cf (Op5 Ca opL caL)

/-- Operations that read. -/
def OpS (w : World) (v : Value) (L : List Op5) : Prop := Kit.IsS 5 w v L.length (L.flatMap opL)
theorem OpS.below {w w' : World} {v : Value} {L : List Op5} (h : OpS w v L) (hb : Below w.heap.size w w') : OpS w' v L := Kit.IsS.below h hb (Nat.le_refl _)
theorem OpS.form {w : World} {v : Value} {L : List Op5} (h : OpS w v L) : ∃ a cap, v = .slice a L.length cap := Kit.IsS.len h
theorem OpS.at {w : World} {v : Value} {L : List Op5} (h : OpS w v L) (hn : 0 < L.length) : ∃ b o cap, v = .slice (some ⟨b, o, none⟩) L.length cap ∧ b < w.heap.size ∧ ∀ i x, L[i]? = some x →
    w.cell? ⟨b, o + i * 5, none⟩ = some (.int .i64 x.t) ∧ w.cell? ⟨b, o + i * 5 + 1, none⟩ = some (.int .i64 x.k) ∧ w.cell? ⟨b, o + i * 5 + 2, none⟩ = some (.int .i64 x.a) ∧ w.cell? ⟨b, o + i * 5 + 3, none⟩ = some (.int .i64 x.n) ∧ w.cell? ⟨b, o + i * 5 + 4, none⟩ = some (.int .i64 x.o) := by
  obtain ⟨b, o, cap, hv, -, hb, hc⟩ := Kit.IsS.some h hn
  refine ⟨b, o, cap, hv, hb, fun i x hx => ?_⟩
  have hat : ∀ j u, j < 5 → (opL x)[j]? = some u → w.cell? ⟨b, o + i * 5 + j, none⟩ = some u := fun j u hj hu => by
    rw [Nat.add_assoc]
    exact hc _ _ ((Kit.flat_at Cf.opL_len hx j hj).trans hu)
  exact ⟨hat 0 _ (by omega) rfl, hat 1 _ (by omega) rfl, hat 2 _ (by omega) rfl, hat 3 _ (by omega) rfl, hat 4 _ (by omega) rfl⟩
/-- Catches that read. -/
def CaS (w : World) (v : Value) (C : List Ca) : Prop := Kit.IsS 4 w v C.length (C.flatMap caL)
theorem CaS.below {w w' : World} {v : Value} {L : List Ca} (h : CaS w v L) (hb : Below w.heap.size w w') : CaS w' v L := Kit.IsS.below h hb (Nat.le_refl _)
theorem CaS.at {w : World} {v : Value} {L : List Ca} (h : CaS w v L) (hn : 0 < L.length) : ∃ b o cap, v = .slice (some ⟨b, o, none⟩) L.length cap ∧ b < w.heap.size ∧ ∀ i x, L[i]? = some x →
    w.cell? ⟨b, o + i * 4, none⟩ = some (.int .i64 x.f) ∧ w.cell? ⟨b, o + i * 4 + 1, none⟩ = some (.int .i64 x.t) ∧ w.cell? ⟨b, o + i * 4 + 2, none⟩ = some (.int .i64 x.a) ∧ w.cell? ⟨b, o + i * 4 + 3, none⟩ = some (.int .i64 x.c) := by
  obtain ⟨b, o, cap, hv, -, hb, hc⟩ := Kit.IsS.some h hn
  refine ⟨b, o, cap, hv, hb, fun i x hx => ?_⟩
  have hat : ∀ j u, j < 4 → (caL x)[j]? = some u → w.cell? ⟨b, o + i * 4 + j, none⟩ = some u := fun j u hj hu => by
    rw [Nat.add_assoc]
    exact hc _ _ ((Kit.flat_at Cf.caL_len hx j hj).trans hu)
  exact ⟨hat 0 _ (by omega) rfl, hat 1 _ (by omega) rfl, hat 2 _ (by omega) rfl, hat 3 _ (by omega) rfl⟩
/-- A method's cells. -/
structure Fc where
  a0 : Value
  a1 : Value
  a2 : Value
  a3 : Value
  a4 : Value
  a5 : Value
  a6 : Value
  a7 : Value
  a8 : Value
  ov : Value
  cv : Value
  a11 : Value
def Fc.cs (f : Fc) : Array Value := #[f.a0, f.a1, f.a2, f.a3, f.a4, f.a5, f.a6, f.a7, f.a8, f.ov, f.cv, f.a11]
section
variable {w : World} {f : Fc} {L : List Op5}
set_option maxRecDepth 100000
theorem cjumps_any (k : Int) (w : World) : Calls Try.prog 42 #[.int .i64 k] w fun e w' => e = .returned (.bool (Cf.jmp k)) ∧ w = w' := by
  unfold Cf.jmp
  by_cases h0 : k = 32
  · subst h0
    go_enter Try.func42, Try.ntmps42
    go_wp2; go_ret; exact ⟨by simp, rfl⟩
  by_cases h1 : k = 33
  · subst h1
    go_enter Try.func42, Try.ntmps42
    go_wp2; go_ret; exact ⟨by simp, rfl⟩
  by_cases h2 : k = 34
  · subst h2
    go_enter Try.func42, Try.ntmps42
    go_wp2; go_ret; exact ⟨by simp, rfl⟩
  by_cases h3 : k = 35
  · subst h3
    go_enter Try.func42, Try.ntmps42
    go_wp2; go_ret; exact ⟨by simp, rfl⟩
  by_cases h4 : k = 36
  · subst h4
    go_enter Try.func42, Try.ntmps42
    go_wp2; go_ret; exact ⟨by simp, rfl⟩
  go_enter Try.func42, Try.ntmps42
  go_wp2; go_ret; exact ⟨by simp [h0, h1, h2, h3, h4], rfl⟩
theorem cstops_any (k : Int) (w : World) : Calls Try.prog 43 #[.int .i64 k] w fun e w' => e = .returned (.bool (Cf.stp k)) ∧ w = w' := by
  unfold Cf.stp
  by_cases h0 : k = 36
  · subst h0
    go_enter Try.func43, Try.ntmps43
    go_wp2; go_ret; exact ⟨by simp, rfl⟩
  by_cases h1 : k = 37
  · subst h1
    go_enter Try.func43, Try.ntmps43
    go_wp2; go_ret; exact ⟨by simp, rfl⟩
  by_cases h2 : k = 48
  · subst h2
    go_enter Try.func43, Try.ntmps43
    go_wp2; go_ret; exact ⟨by simp, rfl⟩
  go_enter Try.func43, Try.ntmps43
  go_wp2; go_ret; exact ⟨by simp [h0, h1, h2], rfl⟩
/-- What a place's answer is. -/
def fst (r : Option Nat) : Value := .tuple #[.int .i64 ((r.getD 0 : Nat) : Int), .bool r.isSome]
end
end Go.Proofs.Ytdodobpbdnpjiaa
namespace Go.Proofs.Ytdodobpbdnpjiaa
open Go Go.RowKit
open Kit (natVals)
open Cf (Op5 Ca opL caL)

/-- The code: its box, its operations, its places. -/
def Code (w : World) (cb : Nat) (ov pv : Value) (L : List Op5) (P : List Nat) : Prop := BX w cb #[ov, pv] 80 ∧ OpS w ov L ∧ w.ownsRow 0 3 1 pv L.length (natVals P) ∧ (0 < L.length → ∀ b o p, ov = .slice (some ⟨b, o, none⟩) L.length p → pv.ownBlock ≠ some b)
theorem Code.below {w w' : World} {cb : Nat} {ov pv : Value} {L : List Op5} {P : List Nat} (h : Code w cb ov pv L P) (hb : Below w.heap.size w w') : Code w' cb ov pv L P :=
  ⟨h.1.below hb, h.2.1.below hb, Kit.owns_below h.2.2.1 hb (Nat.le_refl _), h.2.2.2⟩
def FindC (cb : Nat) (ov pv : Value) (L : List Op5) (P : List Nat) : Prop := ∀ (t : Int) (W : World), Code W cb ov pv L P → Calls Try.prog 45 #[.pointer (some ⟨cb, 0, none⟩), .int .i64 t] W fun e w' => e = .returned (fst (Cf.first L t)) ∧ Below W.heap.size W w'
def opA (x : Op5) : Value := .agg #[.int .i64 x.t, .int .i64 x.k, .int .i64 x.a, .int .i64 x.n, .int .i64 x.o]
def tgtO (L : List Op5) (x : Op5) : Option Nat := if Cf.jmp x.k = true then Cf.first L x.o else none
theorem tgt_at {L : List Op5} {i : Nat} {x : Op5} (h : L[i]? = some x) : Cf.tgt L i = tgtO L x := by
  unfold Cf.tgt tgtO
  rw [h]
section
variable {cb : Nat} {ov pv : Value} {L : List Op5} {P : List Nat}
set_option maxRecDepth 100000
theorem jump_any (HF : FindC cb ov pv L P) (x : Op5) (w : World) (h : Code w cb ov pv L P) : Calls Try.prog 44 #[.pointer (some ⟨cb, 0, none⟩), opA x] w fun e w' => e = .returned (fst (tgtO L x)) ∧ Below w.heap.size w w' := by
  have HJ := cjumps_any x.k
  have HFF := hid (HF x.o (w.alloc (.cells #[.int .i64 x.t, .int .i64 x.k, .int .i64 x.a, .int .i64 x.n, .int .i64 x.o] 70)) (h.below ((Below.refl _ _).alloc (Nat.le_refl _) _)))
  obtain ⟨t, k, a, n, o⟩ := x
  unfold tgtO opA
  dsimp only at HJ HFF ⊢
  clear HF h
  cases hj : Cf.jmp k with
  | false =>
    rw [hj] at HJ
    have e : (if false = true then Cf.first L o else none) = none := rfl
    rw [e]
    go_enter Try.func44, Try.ntmps44
    go_wp2_with (go_at_call 42; refine (HJ _).mono ?_; rintro e w' ⟨rfl, rfl⟩)
    go_ret2
    exact ⟨rfl, (by repeat' first | with_reducible exact Below.refl _ _ | with_reducible assumption | with_reducible refine belows_drewN ?_ _ | with_reducible refine Below.drew ?_ | with_reducible refine Below.setCell ?_ ?_ _ | with_reducible refine Below.alloc ?_ ?_ _ | omega | (simp; done) | (simp; omega))⟩
  | true =>
    rw [hj] at HJ
    have e : (if true = true then Cf.first L o else none) = Cf.first L o := rfl
    rw [e]
    obtain ⟨r, hr⟩ : ∃ r, Cf.first L o = r := ⟨_, rfl⟩
    rw [hr] at HFF ⊢
    clear hr hj e
    unfold fst at *
    go_enter Try.func44, Try.ntmps44
    go_wp2_with (first | (go_at_call 42; refine (HJ _).mono ?_; rintro e w' ⟨rfl, rfl⟩) | (go_at_call 45; refine HFF.out.mono ?_; rintro e w' ⟨rfl, hb⟩))
    go_ret2
    exact ⟨rfl, ((Below.refl _ _).alloc (Nat.le_refl _) _).trans (hb.mono (by simp))⟩
end
namespace Cf
/-- What begins a block by what stands ahead of it. -/
def bl (L : List Op5) (i : Nat) : Bool := decide (i = 0) || (match L[i - 1]? with | some x => jmp x.k || stp x.k | none => false)
def B1 (L : List Op5) (k i : Nat) : Bool := (decide (i < k) && bl L i) || (List.range k).any (fun j => decide (tgt L j = some i))
def B2 (L : List Op5) (C : List Ca) (m i : Nat) : Bool := B1 L L.length i || (C.take m).any (fun c => decide (first L c.a = some i))
/-- Whether a block begins at a place. -/
def Bg (L : List Op5) (C : List Ca) (i : Nat) : Bool := B2 L C C.length i
theorem B1_zero (L : List Op5) (i : Nat) : B1 L 0 i = false := by simp [B1]
theorem B1_succ (L : List Op5) (k i : Nat) : B1 L (k + 1) i = (B1 L k i || (decide (i = k) && bl L k) || decide (tgt L k = some i)) := by
  unfold B1
  rw [List.range_succ, List.any_append]
  have h : (decide (i < k + 1) && bl L i) = ((decide (i < k) && bl L i) || (decide (i = k) && bl L k)) := by
    by_cases h1 : i < k
    · have h2 : i < k + 1 := by omega
      have h3 : ¬ i = k := by omega
      simp [h1, h2, h3]
    · by_cases h3 : i = k
      · subst h3; simp
      · have h2 : ¬ i < k + 1 := by omega
        simp [h1, h2, h3]
  rw [h]
  simp only [List.any_cons, List.any_nil, Bool.or_false]
  cases (decide (i < k) && bl L i) <;> cases (decide (i = k) && bl L k) <;> cases ((List.range k).any fun j => decide (tgt L j = some i)) <;> simp
theorem B1_tt {L : List Op5} {k p : Nat} (hb : bl L k = true) (hr : tgt L k = some p) (i : Nat) : B1 L (k + 1) i = if i = p then true else if i = k then true else B1 L k i := by
  rw [B1_succ, hb, hr]
  by_cases h1 : i = p
  · rw [if_pos h1]; simp [h1]
  · rw [if_neg h1]
    have : ¬ p = i := fun e => h1 e.symm
    by_cases h2 : i = k <;> simp [h2, this]
theorem B1_tf {L : List Op5} {k : Nat} (hb : bl L k = true) (hr : tgt L k = none) (i : Nat) : B1 L (k + 1) i = if i = k then true else B1 L k i := by
  rw [B1_succ, hb, hr]
  by_cases h2 : i = k <;> simp [h2]
theorem B1_ft {L : List Op5} {k p : Nat} (hb : bl L k = false) (hr : tgt L k = some p) (i : Nat) : B1 L (k + 1) i = if i = p then true else B1 L k i := by
  rw [B1_succ, hb, hr]
  by_cases h1 : i = p
  · rw [if_pos h1]; simp [h1]
  · rw [if_neg h1]
    have : ¬ p = i := fun e => h1 e.symm
    simp [this]
theorem B1_ff {L : List Op5} {k : Nat} (hb : bl L k = false) (hr : tgt L k = none) (i : Nat) : B1 L k i = B1 L (k + 1) i := by
  rw [B1_succ, hb, hr]
  simp
theorem B2_t {L : List Op5} {C : List Ca} {m p : Nat} {c : Ca} (hc : C[m]? = some c) (hr : first L c.a = some p) (i : Nat) : B2 L C (m + 1) i = if i = p then true else B2 L C m i := by
  have e : B2 L C (m + 1) i = (B2 L C m i || decide (first L c.a = some i)) := by
    unfold B2
    rw [List.take_add_one, hc, List.any_append, Bool.or_assoc]
    simp
  rw [e, hr]
  by_cases h1 : i = p
  · rw [if_pos h1]; simp [h1]
  · rw [if_neg h1]
    have : ¬ p = i := fun e => h1 e.symm
    simp [this]
theorem B2_f {L : List Op5} {C : List Ca} {m : Nat} {c : Ca} (hc : C[m]? = some c) (hr : first L c.a = none) (i : Nat) : B2 L C m i = B2 L C (m + 1) i := by
  have e : B2 L C (m + 1) i = (B2 L C m i || decide (first L c.a = some i)) := by
    unfold B2
    rw [List.take_add_one, hc, List.any_append, Bool.or_assoc]
    simp
  rw [e, hr]
  simp
theorem B2_zero (L : List Op5) (C : List Ca) (i : Nat) : B2 L C 0 i = B1 L L.length i := by simp [B2]
theorem bl_succ {L : List Op5} {k : Nat} {x : Op5} (h : L[k]? = some x) : bl L (k + 1) = (jmp x.k || stp x.k) := by
  unfold bl
  rw [show k + 1 - 1 = k by omega, h]
  simp
theorem Bg_zero {L : List Op5} {C : List Ca} (h : 0 < L.length) : Bg L C 0 = true := by
  unfold Bg B2 B1 bl
  simp [h]
end Cf
section
variable {cb : Nat} {ov pv : Value} {L : List Op5} {P : List Nat}
/-- Where the loops of begins stand: the row of bools, all else as it was. -/
def BeI (w : World) (n : Nat) (F : Nat → Bool) (W : World) : Prop :=
  W.ownsRow w.heap.size 4 1 (.slice (some ⟨w.heap.size, 0, none⟩) n n) n (bvals F n) ∧ Below w.heap.size w W ∧ w.heap.size < W.heap.size
theorem BeI.below {w W W' : World} {n : Nat} {F : Nat → Bool} (h : BeI w n F W) (hb : Below W.heap.size W W') : BeI w n F W' :=
  ⟨Kit.owns_below h.1 hb (Nat.le_refl _), belows h.2.1 hb (Nat.le_of_lt h.2.2), Nat.lt_of_lt_of_le h.2.2 hb.size⟩
theorem BeI.set {w W : World} {n p : Nat} {F G : Nat → Bool} {b : Bool} (h : BeI w n F W) (hG : ∀ i, i < n → G i = if i = p then b else F i) : BeI w n G (W.setCell ⟨w.heap.size, p, none⟩ (.bool b)) :=
  ⟨owns_set1 h.1 p _ (bvals_set hG), Below.setCell h.2.1 (by simp) _, by simpa using h.2.2⟩
theorem BeI.same {w W : World} {n : Nat} {F G : Nat → Bool} (h : BeI w n F W) (hG : ∀ i, i < n → F i = G i) : BeI w n G W := by
  refine ⟨?_, h.2⟩
  rw [← bvals_same hG]
  exact h.1
theorem BeI.cell {w W : World} {n p : Nat} {F : Nat → Bool} (h : BeI w n F W) (hp : p < n) : W.cell? ⟨w.heap.size, p, none⟩ = some (.bool (F p)) ∧ W.frozen? ⟨w.heap.size, p, none⟩ = false := own_cell h.1 (bvals_at hp)
set_option maxRecDepth 100000 in
set_option maxHeartbeats 2000000 in
theorem begins_any (HF : FindC cb ov pv L P) {C : List Ca} {cv : Value} {w : World} (h : Code w cb ov pv L P) (hC : CaS w cv C) (hn : L.length ≤ 1048576) (hm : C.length ≤ 1048576) :
    Calls Try.prog 22 #[.pointer (some ⟨cb, 0, none⟩), cv] w fun e w' => e = .returned (.slice (some ⟨w.heap.size, 0, none⟩) L.length L.length) ∧ BeI w L.length (Cf.Bg L C) w' := by
  obtain ⟨oa, ocap, rfl⟩ := h.2.1.form
  obtain ⟨ca, ccap, rfl⟩ := Kit.IsS.len hC
  have hmk := fun W => run_make_row' (P := Try.prog) 51 4 (.bool false) 1 (by kernel_rfl) (by kernel_rfl) rfl .i64 .i64 L.length (by omega) (by omega) W
  have HB0 : Hid (BeI w L.length (Cf.B1 L 0) (w.alloc (.cells (madeCells #[.bool false] L.length) 4))) := by
    refine ⟨?_, (Below.refl _ _).alloc (Nat.le_refl _) _, by simp⟩
    have := owns_made w (Nat.le_refl _) (.bool false) L.length (by unfold maxLen; omega) 4
    rw [← bvals_no, bvals_same (g := Cf.B1 L 0) (fun i _ => (Cf.B1_zero L i).symm)] at this
    exact this
  have HH := hid (fun W (hb : Below w.heap.size w W) => h.below hb)
  have HCC := hid (fun W (hb : Below w.heap.size w W) => hC.below hb)
  have HJ := hid (fun x W (hb : Below w.heap.size w W) => jump_any HF x W (h.below hb))
  have HFd := hid (fun t W (hb : Below w.heap.size w W) => HF t W (h.below hb))
  have k0 := h.1.cell 0
  have k1 : w.cell? ⟨cb, 0, none⟩ = some (.slice oa L.length ocap) := k0
  have hcb := h.1.sz
  clear k0 h hC HF
  go_enter Try.func22, Try.ntmps22
  go_wp2
  go_loopw [25] (fun v wr => ∃ k : Nat, v = .int .i64 (k : Int) ∧ k ≤ L.length ∧ Hid (BeI w L.length (Cf.B1 L k) wr)) (fun v _ => L.length - (intOf v).toNat)
  case atStart => exact ⟨0, rfl, by omega, HB0⟩
  case round =>
    clear HB0
    obtain ⟨k, rfl, hk, HB⟩ := hrel
    have hbl := HB.out.2.1
    have hsz := HB.out.2.2
    have cbx : wr.cell? ⟨cb, 0, none⟩ = some (.slice oa L.length ocap) := (HH.out wr hbl).1.cell 0
    have hcr := (HH.out wr hbl).1.sz
    by_cases hlt : k < L.length
    · obtain ⟨x, hx⟩ : ∃ x, L[k]? = some x := ⟨_, List.getElem?_eq_getElem hlt⟩
      obtain ⟨b, o, p, hv, hob, hc⟩ := (HH.out wr hbl).2.1.at (by omega)
      obtain ⟨rfl, -, rfl⟩ := Value.slice.inj hv
      obtain ⟨c0, c1, c2, c3, c4⟩ := hc k x hx
      obtain ⟨xt, xk, xa, xn, xo⟩ := x
      dsimp only at c0 c1 c2 c3 c4
      have HJx := hid (HJ.out ⟨xt, xk, xa, xn, xo⟩)
      unfold opA at HJx
      dsimp only at HJx
      have HX := hid (tgt_at hx)
      obtain ⟨r, hr⟩ : ∃ r, tgtO L ⟨xt, xk, xa, xn, xo⟩ = r := ⟨_, rfl⟩
      rw [hr] at HX HJx
      unfold fst at HJx
      have hw0 := (HB.out.cell hlt)
      obtain ⟨z0, hz0⟩ : ∃ z, Cf.B1 L k k = z := ⟨_, rfl⟩
      rw [hz0] at hw0
      obtain ⟨s0, s1⟩ := hw0
      by_cases k0 : k = 0
      · subst k0
        simp only [Nat.zero_mul, Nat.add_zero] at c0 c1 c2 c3 c4
        have HBL : Hid (Cf.bl L 0 = true) := rfl
        clear hc hv hx hr hz0
        cases r with
        | none =>
          go_wp2_with (first | (go_at_call 44; refine (HJx.out _ (by repeat' first | with_reducible exact Below.refl _ _ | with_reducible assumption | with_reducible refine belows_drewN ?_ _ | with_reducible refine Below.drew ?_ | with_reducible refine Below.setCell ?_ ?_ _ | with_reducible refine Below.alloc ?_ ?_ _ | omega | (simp; done) | (simp; omega))).mono ?_; rintro e w' ⟨rfl, hb⟩))
          go_roundw
          case rel => exact ⟨1, by go_num, by omega, (((HB.out.set (fun i _ => Cf.B1_tf HBL.out HX.out i)).below ((Below.refl _ _).alloc (Nat.le_refl _) _)).below hb)⟩
          case measure => simp [intOf]; omega
        | some q =>
          have hql : q < L.length := Cf.tgt_lt HX.out
          go_wp2_with (first | (go_at_call 44; refine (HJx.out _ (by repeat' first | with_reducible exact Below.refl _ _ | with_reducible assumption | with_reducible refine belows_drewN ?_ _ | with_reducible refine Below.drew ?_ | with_reducible refine Below.setCell ?_ ?_ _ | with_reducible refine Below.alloc ?_ ?_ _ | omega | (simp; done) | (simp; omega))).mono ?_; rintro e w' ⟨rfl, hb⟩; have HE := hid (((HB.out.set (F := Cf.B1 L 0) (p := 0) (b := true) (G := fun i => if i = 0 then true else Cf.B1 L 0 i) (fun i _ => rfl)).below ((Below.refl _ _).alloc (Nat.le_refl _) _)).below hb); obtain ⟨t0, t1⟩ := HE.out.cell hql))
          go_roundw
          case rel => exact ⟨1, by go_num, by omega, HE.out.set (fun i _ => Cf.B1_tt HBL.out HX.out i)⟩
          case measure => simp [intOf]; omega
      · obtain ⟨j, rfl⟩ : ∃ j, k = j + 1 := ⟨k - 1, by omega⟩
        obtain ⟨y, hy⟩ : ∃ y, L[j]? = some y := ⟨_, List.getElem?_eq_getElem (by omega)⟩
        obtain ⟨-, d1, -, -, -⟩ := hc j y hy
        have HBL0 := Cf.bl_succ hy
        obtain ⟨yt, yk, ya, yn, yo⟩ := y
        dsimp only at d1 HBL0
        have HJ1 := hid (cjumps_any yk)
        have HS1 := hid (cstops_any yk)
        have hk0 : ¬ (((j : Int) + 1) = 0) := by omega
        obtain ⟨ju, hju⟩ : ∃ b, Cf.jmp yk = b := ⟨_, rfl⟩
        obtain ⟨st, hst⟩ : ∃ b, Cf.stp yk = b := ⟨_, rfl⟩
        rw [hju] at HJ1 HBL0
        rw [hst] at HS1 HBL0
        clear hc hv hx hr hz0 hy hju hst
        cases ju with
        | true =>
          have HBL : Hid (Cf.bl L (j + 1) = true) := HBL0
          clear HBL0
          cases r with
          | none =>
            go_wp2_with (first | (go_at_call 42; refine (HJ1.out _).mono ?_; rintro e w' ⟨rfl, rfl⟩) | (go_at_call 43; refine (HS1.out _).mono ?_; rintro e w' ⟨rfl, rfl⟩) | (go_at_call 44; refine (HJx.out _ (by repeat' first | with_reducible exact Below.refl _ _ | with_reducible assumption | with_reducible refine belows_drewN ?_ _ | with_reducible refine Below.drew ?_ | with_reducible refine Below.setCell ?_ ?_ _ | with_reducible refine Below.alloc ?_ ?_ _ | omega | (simp; done) | (simp; omega))).mono ?_; rintro e w' ⟨rfl, hb⟩))
            go_roundw
            case rel => exact ⟨j + 1 + 1, by go_num, by omega, (((HB.out.set (fun i _ => Cf.B1_tf HBL.out HX.out i)).below ((Below.refl _ _).alloc (Nat.le_refl _) _)).below hb)⟩
            case measure => simp [intOf]; omega
          | some q =>
            have hql : q < L.length := Cf.tgt_lt HX.out
            go_wp2_with (first | (go_at_call 42; refine (HJ1.out _).mono ?_; rintro e w' ⟨rfl, rfl⟩) | (go_at_call 43; refine (HS1.out _).mono ?_; rintro e w' ⟨rfl, rfl⟩) | (go_at_call 44; refine (HJx.out _ (by repeat' first | with_reducible exact Below.refl _ _ | with_reducible assumption | with_reducible refine belows_drewN ?_ _ | with_reducible refine Below.drew ?_ | with_reducible refine Below.setCell ?_ ?_ _ | with_reducible refine Below.alloc ?_ ?_ _ | omega | (simp; done) | (simp; omega))).mono ?_; rintro e w' ⟨rfl, hb⟩; have HE := hid (((HB.out.set (F := Cf.B1 L (j + 1)) (p := (j + 1)) (b := true) (G := fun i => if i = (j + 1) then true else Cf.B1 L (j + 1) i) (fun i _ => rfl)).below ((Below.refl _ _).alloc (Nat.le_refl _) _)).below hb); obtain ⟨t0, t1⟩ := HE.out.cell hql))
            go_roundw
            case rel => exact ⟨j + 1 + 1, by go_num, by omega, HE.out.set (fun i _ => Cf.B1_tt HBL.out HX.out i)⟩
            case measure => simp [intOf]; omega
        | false =>
          cases st with
          | true =>
            have HBL : Hid (Cf.bl L (j + 1) = true) := HBL0
            clear HBL0
            cases r with
            | none =>
              go_wp2_with (first | (go_at_call 42; refine (HJ1.out _).mono ?_; rintro e w' ⟨rfl, rfl⟩) | (go_at_call 43; refine (HS1.out _).mono ?_; rintro e w' ⟨rfl, rfl⟩) | (go_at_call 44; refine (HJx.out _ (by repeat' first | with_reducible exact Below.refl _ _ | with_reducible assumption | with_reducible refine belows_drewN ?_ _ | with_reducible refine Below.drew ?_ | with_reducible refine Below.setCell ?_ ?_ _ | with_reducible refine Below.alloc ?_ ?_ _ | omega | (simp; done) | (simp; omega))).mono ?_; rintro e w' ⟨rfl, hb⟩))
              go_roundw
              case rel => exact ⟨j + 1 + 1, by go_num, by omega, (((HB.out.set (fun i _ => Cf.B1_tf HBL.out HX.out i)).below ((Below.refl _ _).alloc (Nat.le_refl _) _)).below hb)⟩
              case measure => simp [intOf]; omega
            | some q =>
              have hql : q < L.length := Cf.tgt_lt HX.out
              go_wp2_with (first | (go_at_call 42; refine (HJ1.out _).mono ?_; rintro e w' ⟨rfl, rfl⟩) | (go_at_call 43; refine (HS1.out _).mono ?_; rintro e w' ⟨rfl, rfl⟩) | (go_at_call 44; refine (HJx.out _ (by repeat' first | with_reducible exact Below.refl _ _ | with_reducible assumption | with_reducible refine belows_drewN ?_ _ | with_reducible refine Below.drew ?_ | with_reducible refine Below.setCell ?_ ?_ _ | with_reducible refine Below.alloc ?_ ?_ _ | omega | (simp; done) | (simp; omega))).mono ?_; rintro e w' ⟨rfl, hb⟩; have HE := hid (((HB.out.set (F := Cf.B1 L (j + 1)) (p := (j + 1)) (b := true) (G := fun i => if i = (j + 1) then true else Cf.B1 L (j + 1) i) (fun i _ => rfl)).below ((Below.refl _ _).alloc (Nat.le_refl _) _)).below hb); obtain ⟨t0, t1⟩ := HE.out.cell hql))
              go_roundw
              case rel => exact ⟨j + 1 + 1, by go_num, by omega, HE.out.set (fun i _ => Cf.B1_tt HBL.out HX.out i)⟩
              case measure => simp [intOf]; omega
          | false =>
            have HBL : Hid (Cf.bl L (j + 1) = false) := HBL0
            clear HBL0
            cases r with
            | none =>
              go_wp2_with (first | (go_at_call 42; refine (HJ1.out _).mono ?_; rintro e w' ⟨rfl, rfl⟩) | (go_at_call 43; refine (HS1.out _).mono ?_; rintro e w' ⟨rfl, rfl⟩) | (go_at_call 44; refine (HJx.out _ (by repeat' first | with_reducible exact Below.refl _ _ | with_reducible assumption | with_reducible refine belows_drewN ?_ _ | with_reducible refine Below.drew ?_ | with_reducible refine Below.setCell ?_ ?_ _ | with_reducible refine Below.alloc ?_ ?_ _ | omega | (simp; done) | (simp; omega))).mono ?_; rintro e w' ⟨rfl, hb⟩))
              go_roundw
              case rel => exact ⟨j + 1 + 1, by go_num, by omega, ((HB.out.below ((Below.refl _ _).alloc (Nat.le_refl _) _)).below hb).same (fun i _ => Cf.B1_ff HBL.out HX.out i)⟩
              case measure => simp [intOf]; omega
            | some q =>
              have hql : q < L.length := Cf.tgt_lt HX.out
              go_wp2_with (first | (go_at_call 42; refine (HJ1.out _).mono ?_; rintro e w' ⟨rfl, rfl⟩) | (go_at_call 43; refine (HS1.out _).mono ?_; rintro e w' ⟨rfl, rfl⟩) | (go_at_call 44; refine (HJx.out _ (by repeat' first | with_reducible exact Below.refl _ _ | with_reducible assumption | with_reducible refine belows_drewN ?_ _ | with_reducible refine Below.drew ?_ | with_reducible refine Below.setCell ?_ ?_ _ | with_reducible refine Below.alloc ?_ ?_ _ | omega | (simp; done) | (simp; omega))).mono ?_; rintro e w' ⟨rfl, hb⟩; have HE := hid ((HB.out.below ((Below.refl _ _).alloc (Nat.le_refl _) _)).below hb); obtain ⟨t0, t1⟩ := HE.out.cell hql))
              go_roundw
              case rel => exact ⟨j + 1 + 1, by go_num, by omega, HE.out.set (fun i _ => Cf.B1_ft HBL.out HX.out i)⟩
              case measure => simp [intOf]; omega
    · obtain rfl : k = L.length := by omega
      have HB2 : Hid (BeI w L.length (Cf.B2 L C 0) wr) := HB.out.same (fun i _ => (Cf.B2_zero L C i).symm)
      clear HB
      obtain ⟨wo, rfl⟩ : ∃ wo : World, wo = wr := ⟨_, rfl⟩
      go_wp2
      go_loopw [72] (fun v wr => ∃ m : Nat, v = .int .i64 (m : Int) ∧ m ≤ C.length ∧ Hid (BeI w L.length (Cf.B2 L C m) wr)) (fun v _ => C.length - (intOf v).toNat)
      case atStart => exact ⟨0, rfl, by omega, HB2⟩
      case round =>
        clear HB2 hbl hsz cbx hcr
        obtain ⟨m, rfl, hmm, HB⟩ := hrel
        have hbl := HB.out.2.1
        have hsz := HB.out.2.2
        by_cases hlt : m < C.length
        · obtain ⟨c, hcx⟩ : ∃ c, C[m]? = some c := ⟨_, List.getElem?_eq_getElem hlt⟩
          obtain ⟨b, o, p, hv, hob, hc⟩ := (HCC.out wr hbl).at (by omega)
          obtain ⟨rfl, -, rfl⟩ := Value.slice.inj hv
          obtain ⟨c0, c1, c2, c3⟩ := hc m c hcx
          have H2t := hid (fun p (h : Cf.first L c.a = some p) => Cf.B2_t hcx h)
          have H2f := hid (fun (h : Cf.first L c.a = none) => Cf.B2_f (L := L) hcx h)
          obtain ⟨cf, ct, ca, cc⟩ := c
          dsimp only at c0 c1 c2 c3 H2t H2f
          have HFx := hid (HFd.out ca)
          obtain ⟨r, hr⟩ : ∃ r, Cf.first L ca = r := ⟨_, rfl⟩
          rw [hr] at HFx
          have HR := hid hr
          unfold fst at HFx
          clear hc hv hcx hr
          cases r with
          | none =>
            go_wp2_with (go_at_call 45; refine (HFx.out _ (by repeat' first | with_reducible exact Below.refl _ _ | with_reducible assumption | with_reducible refine belows_drewN ?_ _ | with_reducible refine Below.drew ?_ | with_reducible refine Below.setCell ?_ ?_ _ | with_reducible refine Below.alloc ?_ ?_ _ | omega | (simp; done) | (simp; omega))).mono ?_; rintro e w' ⟨rfl, hb⟩)
            go_roundw
            case rel => exact ⟨m + 1, by go_num, by omega, ((HB.out.below ((Below.refl _ _).alloc (Nat.le_refl _) _)).below hb).same (fun i _ => H2f.out HR.out i)⟩
            case measure => simp [intOf]; omega
          | some q =>
            have hql : q < L.length := Cf.first_lt HR.out
            go_wp2_with (go_at_call 45; refine (HFx.out _ (by repeat' first | with_reducible exact Below.refl _ _ | with_reducible assumption | with_reducible refine belows_drewN ?_ _ | with_reducible refine Below.drew ?_ | with_reducible refine Below.setCell ?_ ?_ _ | with_reducible refine Below.alloc ?_ ?_ _ | omega | (simp; done) | (simp; omega))).mono ?_; rintro e w' ⟨rfl, hb⟩; have HE := hid ((HB.out.below ((Below.refl _ _).alloc (Nat.le_refl _) _)).below hb); obtain ⟨t0, t1⟩ := HE.out.cell hql)
            go_roundw
            case rel => exact ⟨m + 1, by go_num, by omega, HE.out.set (fun i _ => H2t.out q HR.out i)⟩
            case measure => simp [intOf]; omega
        · obtain rfl : m = C.length := by omega
          go_wp2
          go_ret
          exact ⟨rfl, HB.out⟩
end
end Go.Proofs.Ytdodobpbdnpjiaa
namespace Go.Proofs.Ytdodobpbdnpjiaa
open Go Go.RowKit
open Kit (natVals)
open Cf (Op5 Ca opL caL)

set_option maxRecDepth 100000 in
theorem nan_any (x : Int) (w : World) : Calls Try.prog 56 #[.int .i64 x] w fun e w' => e = .returned (.bool false) ∧ w = w' := by
  go_enter Try.func56, Try.ntmps56
  go_wp2
  go_ret
  exact ⟨by simp, rfl⟩
set_option maxRecDepth 100000 in
theorem compare_any (x y : Int) (w : World) : Calls Try.prog 41 #[.int .i64 x, .int .i64 y] w fun e w' => e = .returned (.int .i64 (Lib.compareInt x y)) ∧ w = w' := by
  unfold Lib.compareInt
  have HN := fun x => nan_any x w
  by_cases h1 : x < y
  · rw [if_pos h1]
    go_enter Try.func41, Try.ntmps41
    go_wp2_with (go_at_call 56; refine (HN _).mono ?_; rintro e w' ⟨rfl, rfl⟩)
    go_ret
    exact ⟨rfl, rfl⟩
  · rw [if_neg h1]
    by_cases h2 : x > y
    · rw [if_pos h2]
      have h2' : y < x := h2
      go_enter Try.func41, Try.ntmps41
      go_wp2_with (go_at_call 56; refine (HN _).mono ?_; rintro e w' ⟨rfl, rfl⟩)
      go_ret
      exact ⟨rfl, rfl⟩
    · rw [if_neg h2]
      have h2' : ¬ y < x := h2
      go_enter Try.func41, Try.ntmps41
      go_wp2_with (go_at_call 56; refine (HN _).mono ?_; rintro e w' ⟨rfl, rfl⟩)
      go_ret
      exact ⟨rfl, rfl⟩
set_option maxRecDepth 100000 in
theorem or_any (c d : Int) (b cap : Nat) (w : World) (h0 : w.cell? ⟨b, 0, none⟩ = some (.int .i64 c)) (h1 : w.cell? ⟨b, 1, none⟩ = some (.int .i64 d)) :
    Calls Try.prog 40 #[.slice (some ⟨b, 0, none⟩) 2 cap] w fun e w' => e = .returned (.int .i64 (if c = 0 then d else c)) ∧ w = w' := by
  go_enter Try.func40, Try.ntmps40
  go_wp2
  go_loop [8] (fun i => ∃ k : Nat, i = .int .i64 (k : Int) ∧ k ≤ 2 ∧ Hid (1 ≤ k → c = 0) ∧ Hid (2 ≤ k → d = 0)) (fun i => 2 - (intOf i).toNat)
  case atStart => exact ⟨0, rfl, by omega, fun h => by omega, fun h => by omega⟩
  case round =>
    obtain ⟨k, rfl, hk, H1, H2⟩ := hrel
    by_cases k0 : k = 0
    · subst k0
      by_cases hc : c = 0
      · subst hc
        go_wp2
        go_round
        case rel => exact ⟨1, by go_num, by omega, fun _ => by first | rfl | trivial, fun h => by omega⟩
        case measure => simp [intOf]
      · go_wp2
        go_ret
        exact ⟨by simp, rfl⟩
    · by_cases k1 : k = 1
      · subst k1
        have hc : c = 0 := H1.out (by omega)
        subst hc
        by_cases hd : d = 0
        · subst hd
          go_wp2
          go_round
          case rel => exact ⟨2, by go_num, by omega, fun _ => by first | rfl | trivial, fun _ => by first | rfl | trivial⟩
          case measure => simp [intOf]
        · go_wp2
          go_ret
          exact ⟨by simp, rfl⟩
      · obtain rfl : k = 2 := by omega
        have hc : c = 0 := H1.out (by omega)
        have hd : d = 0 := H2.out (by omega)
        subst hc hd
        go_wp2
        go_ret
        exact ⟨by simp, rfl⟩
def cfO (D : Nat → Int) (a b : Nat) : Int := if Lib.compareInt (D a) (D b) = 0 then Lib.compareInt a b else Lib.compareInt (D a) (D b)
theorem cf_cmp (v : Value) (v' : Value) (w : World) : (callFunc 41 #[v, v']).run Try.prog w = .ok (.enter 41 #[v, v']) w := enters_of Try.func41 (by kernel_rfl) rfl _ _
theorem cf_or (v : Value) (w : World) : (callFunc 40 #[v]).run Try.prog w = .ok (.enter 40 #[v]) w := enters_of Try.func40 (by kernel_rfl) rfl _ _
set_option maxRecDepth 100000 in
set_option maxHeartbeats 1000000 in
theorem clo_any {w : World} {bb g o n p : Nat} (D : Nat → Int) (h0 : w.cell? ⟨bb, 0, none⟩ = some (.slice (some ⟨g, o, none⟩) n p)) (hs : ∀ k, k < n → w.cell? ⟨g, o + k * 5, none⟩ = some (.int .i64 (D k)))
    (a b : Nat) (ha : a < n) (hb' : b < n) : Calls Try.prog 39 #[.int .i64 (a : Int), .int .i64 (b : Int), .pointer (some ⟨bb, 0, none⟩)] w fun e w' => e = .returned (.int .i64 (cfO D a b)) ∧ ∃ q o, w' = (w.drewN q).alloc o := by
  have ca := hs a ha
  have cb := hs b hb'
  have HC1 := fun W => compare_any (D a) (D b) W
  have HC2 := fun W => compare_any (a : Int) (b : Int) W
  unfold cfO
  obtain ⟨c, hc⟩ : ∃ c, Lib.compareInt (D a) (D b) = c := ⟨_, rfl⟩
  obtain ⟨d, hd⟩ : ∃ d, Lib.compareInt (a : Int) (b : Int) = d := ⟨_, rfl⟩
  rw [hc] at HC1 ⊢
  rw [hd] at HC2 ⊢
  obtain ⟨x, hx⟩ : ∃ x, D a = x := ⟨_, rfl⟩
  obtain ⟨y, hy⟩ : ∃ y, D b = y := ⟨_, rfl⟩
  rw [hx] at ca HC1
  rw [hy] at cb HC1
  have HH1 := hid HC1
  have HH2 := hid HC2
  have hbg := World.block_lt_of_cell? w _ ca
  have HOr := hid (fun W => or_any c d w.heap.size 2 W)
  obtain ⟨r, hr⟩ : ∃ r, (if c = 0 then d else c) = r := ⟨_, rfl⟩
  rw [hr] at HOr ⊢
  clear hs hc hd hx hy HC1 HC2 hr
  go_enter Try.func39, Try.ntmps39
  go_wp2
  go_region_law (first
    | (refine Kit.step_call1 rfl 40 (.tmp 20) 34 rfl (.slice (some ⟨w.heap.size, 0, none⟩) 2 2) (by first | with_reducible rfl | (simp [go_sem]; done) | rfl) (cf_or _ _) _ (HOr.out _ (by simp) (by simp)) ?_; rintro e w3 ⟨rfl, rfl⟩; refine ⟨_, rfl, ?_⟩)
    | (refine Kit.step_call2 rfl 41 (.tmp 10) (.tmp 15) 3 3 rfl (.int .i64 x) (.int .i64 y) (by first | with_reducible rfl | (simp [go_sem]; done) | rfl) (by first | with_reducible rfl | (simp [go_sem]; done) | rfl) (cf_cmp _ _ _) _ (HH1.out _) ?_; rintro e w3 ⟨rfl, rfl⟩; refine ⟨_, rfl, ?_⟩)
    | (refine Kit.step_call2 rfl 41 (.tmp 17) (.tmp 18) 3 3 rfl (.int .i64 (a : Int)) (.int .i64 (b : Int)) (by first | with_reducible rfl | (simp [go_sem]; done) | rfl) (by first | with_reducible rfl | (simp [go_sem]; done) | rfl) (cf_cmp _ _ _) _ (HH2.out _) ?_; rintro e w3 ⟨rfl, rfl⟩; refine ⟨_, rfl, ?_⟩))
  all_goals
    go_wp2
    go_ret
    exact ⟨rfl, _, _, rfl⟩
end Go.Proofs.Ytdodobpbdnpjiaa
namespace Go.Proofs.Ytdodobpbdnpjiaa
open Go Go.RowKit
open Kit (natVals)
open Cf (Op5 Ca opL caL)

namespace Cf
def adr (L : List Op5) (i : Nat) : Int := match L[i]? with | some x => x.t | none => 0
def lex (D : Nat → Int) (a b : Nat) : Prop := D a < D b ∨ (D a = D b ∧ a < b)
/-- Places by their addresses. -/
structure Pl (D : Nat → Int) (n : Nat) (P : List Nat) : Prop where
  len : P.length = n
  mem : ∀ x, x ∈ P ↔ x < n
  ord : P.Pairwise (lex D)
theorem split_at {p : Nat → Bool} : ∀ {P : List Nat}, P.Pairwise (fun a b => p b = true → p a = true) → ∀ i, i < P.length → (p (P[i]?.getD 0) = true ↔ i < P.countP p)
  | [], _, i, hi => by simp at hi
  | a :: r, h, i, hi => by
    have hc := List.pairwise_cons.1 h
    by_cases ha : p a = true
    · rw [List.countP_cons_of_pos ha]
      cases i with
      | zero => simpa using ha
      | succ i =>
        have := split_at hc.2 i (by simpa using hi)
        rw [List.getElem?_cons_succ, this]
        omega
    · have h0 : r.countP p = 0 := List.countP_eq_zero.2 fun b hb e => ha (hc.1 b hb e)
      rw [List.countP_cons_of_neg ha, h0]
      simp only [Nat.not_lt_zero, iff_false]
      cases i with
      | zero => simpa using ha
      | succ i =>
        have hi' : i < r.length := by simpa using hi
        rw [List.getElem?_cons_succ, List.getElem?_eq_getElem hi']
        exact fun e => ha (hc.1 _ (List.getElem_mem hi') e)
/-- How many stand ahead of an address, and who is found there. -/
theorem find_is {L : List Op5} {P : List Nat} (h : Pl (adr L) L.length P) (t : Int) {k : Nat} (hk : k = P.countP (fun x => decide (adr L x < t))) :
    k ≤ L.length ∧ (k < L.length → adr L (P[k]?.getD 0) = t → first L t = some (P[k]?.getD 0)) ∧ ((k < L.length → adr L (P[k]?.getD 0) ≠ t) → first L t = none) := by
  have hsp := split_at (p := fun x => decide (adr L x < t)) (P := P) (h.ord.imp fun {a b} hab hb => by
    simp only [decide_eq_true_eq] at *
    rcases hab with hab | ⟨hab, -⟩ <;> omega)
  rw [← hk] at hsp
  simp only [decide_eq_true_eq] at hsp
  have hlen := h.len
  have hkl : k ≤ L.length := by rw [hk, ← hlen]; exact List.countP_le_length
  have hidx : ∀ j x, L[j]? = some x → x.t = t → ∃ m, m < P.length ∧ P[m]?.getD 0 = j ∧ k ≤ m ∧ adr L j = t := by
    intro j x hj ht
    have hjl := (List.getElem?_eq_some_iff.1 hj).1
    obtain ⟨m, hm, he⟩ := List.getElem_of_mem ((h.mem j).2 hjl)
    have e : P[m]?.getD 0 = j := by rw [List.getElem?_eq_getElem hm]; exact he
    have ha : adr L j = t := by unfold adr; rw [hj]; exact ht
    refine ⟨m, hm, e, ?_, ha⟩
    have := (hsp m hm).2
    rw [e, ha] at this
    omega
  refine ⟨hkl, fun hk2 he => ?_, fun hne => ?_⟩
  · obtain ⟨q, hq⟩ : ∃ q, P[k]?.getD 0 = q := ⟨_, rfl⟩
    rw [hq] at he ⊢
    have hqm : q ∈ P := by rw [← hq, List.getElem?_eq_getElem (by omega)]; exact List.getElem_mem _
    have hql := (h.mem q).1 hqm
    refine first_some.2 ⟨⟨L[q], List.getElem?_eq_getElem hql, by have := he; unfold adr at this; rw [List.getElem?_eq_getElem hql] at this; exact this⟩, fun j x hj hx ht => ?_⟩
    obtain ⟨m, hm, e, hkm, ha⟩ := hidx j x hx ht
    by_cases ekm : k = m
    · subst ekm; omega
    · have hp := (List.pairwise_iff_getElem.1 h.ord) k m (by omega) hm (by omega)
      have e1 : P[k]'(by omega) = q := by rw [← hq, List.getElem?_eq_getElem (by omega)]; rfl
      have e2 : P[m] = j := by rw [← e, List.getElem?_eq_getElem hm]; rfl
      rw [e1, e2] at hp
      rcases hp with hp | ⟨-, hp⟩ <;> omega
  · refine first_none.2 fun j x hx ht => ?_
    obtain ⟨m, hm, e, hkm, ha⟩ := hidx j x hx ht
    have hk3 : k < L.length := by omega
    have h1 := hsp k (by omega)
    refine hne hk3 ?_
    by_cases ekm : k = m
    · subst ekm; rw [e]; exact ha
    · have hp := (List.pairwise_iff_getElem.1 h.ord) k m (by omega) hm (by omega)
      have e1 : P[k]?.getD 0 = P[k]'(by omega) := by rw [List.getElem?_eq_getElem (by omega)]; rfl
      have e2 : P[m] = j := by rw [← e, List.getElem?_eq_getElem hm]; rfl
      rw [e2] at hp
      rw [e1] at h1 ⊢
      rcases hp with hp | ⟨hp, -⟩ <;> omega
end Cf
theorem cmp_neg (x y : Int) : (Lib.compareInt x y < 0) ↔ x < y := by
  unfold Lib.compareInt
  split <;> (try split) <;> omega
theorem cmp_zero (x y : Int) : (Lib.compareInt x y = 0) ↔ x = y := by
  unfold Lib.compareInt
  split <;> (try split) <;> omega
theorem cf_lex (D : Nat → Int) (a b : Nat) : (cfO D a b < 0) ↔ Cf.lex D a b := by
  unfold cfO Cf.lex
  by_cases h : Lib.compareInt (D a) (D b) = 0
  · rw [if_pos h, cmp_neg]
    rw [cmp_zero] at h
    omega
  · rw [if_neg h, cmp_neg]
    rw [cmp_zero] at h
    omega
/-- The numbers below n. -/
abbrev Cn (n : Nat) := { k : Nat // k < n }
def cfC (D : Nat → Int) {n : Nat} (a b : Cn n) : Int := cfO D a.1 b.1
theorem lt_lex (D : Nat → Int) {n : Nat} (a b : Cn n) : ltOf (cfC D) a b = true ↔ Cf.lex D a.1 b.1 := by
  unfold ltOf cfC
  rw [decide_eq_true_iff]
  exact cf_lex D a.1 b.1
theorem swo (D : Nat → Int) (n : Nat) : Sort.SWO (ltOf (cfC D (n := n))) where
  irrefl x := by
    rw [Bool.eq_false_iff]
    intro h
    have := (lt_lex D x x).1 h
    unfold Cf.lex at this
    omega
  trans x y z h1 h2 := (lt_lex D x z).2 (by
    have h1 := (lt_lex D x y).1 h1
    have h2 := (lt_lex D y z).1 h2
    unfold Cf.lex at *
    omega)
  ntrans x y z h1 h2 := by
    rw [Bool.eq_false_iff] at *
    intro h
    have h := (lt_lex D x z).1 h
    have h1 : ¬ Cf.lex D x.1 y.1 := fun k => h1 ((lt_lex D x y).2 k)
    have h2 : ¬ Cf.lex D y.1 z.1 := fun k => h2 ((lt_lex D y z).2 k)
    unfold Cf.lex at *
    omega
def cnR (n : Nat) : List (Cn n) := (List.range n).pmap (fun k hk => ⟨k, hk⟩) (fun _ h => List.mem_range.1 h)
theorem cnR_val (n : Nat) : (cnR n).map (·.1) = List.range n := by
  unfold cnR
  rw [List.map_pmap]
  exact List.pmap_eq_self.2 (fun _ _ => rfl)
theorem cnR_len (n : Nat) : (cnR n).length = n := by have := congrArg List.length (cnR_val n); simpa using this
def encC {n : Nat} (k : Cn n) : Value := .int .i64 (k.1 : Int)
theorem enc_vals {n : Nat} (l : List (Cn n)) : l.map encC = natVals (l.map (·.1)) := by
  unfold natVals
  rw [List.map_map]
  rfl
/-- What is sorted, is in order. -/
theorem sorted_pl {D : Nat → Int} {n : Nat} [Inhabited (Cn n)] {d' : Array (Cn n)} (hp : Sort.PermIn 0 (cnR n).toArray.size (cnR n).toArray d') (hs : Sort.SortedIn (ltOf (cfC D)) 0 (cnR n).toArray.size d') : Cf.Pl D n (d'.toList.map (·.1)) ∧ d'.size = n := by
  have hsz : (cnR n).toArray.size = n := by simp [cnR_len]
  obtain ⟨p1, -, p2⟩ := hp
  have e1 : (d'.extract 0 (cnR n).toArray.size) = d' := by rw [← p1]; simp
  have e2 : ((cnR n).toArray.extract 0 (cnR n).toArray.size) = (cnR n).toArray := by simp
  rw [e1, e2] at p2
  have p3 : (d'.toList.map (·.1)).Perm (List.range n) := by
    have := p2.map (·.1)
    rwa [show (cnR n).toArray.toList = cnR n from rfl, cnR_val] at this
  have hnd' : (d'.toList.map (·.1)).Nodup := p3.nodup_iff.2 List.nodup_range
  refine ⟨⟨by rw [p3.length_eq, List.length_range], fun x => p3.mem_iff.trans List.mem_range, ?_⟩, by rw [p1, hsz]⟩
  rw [List.pairwise_iff_getElem]
  intro i j hi hj hij
  have hi' : i < d'.size := by simpa using hi
  have hj' : j < d'.size := by simpa using hj
  have h1 := hs i j (by omega) hij (by rw [← p1]; exact hj')
  rw [getElem!_pos d' i hi', getElem!_pos d' j hj', Bool.eq_false_iff] at h1
  have h2 : ¬ Cf.lex D d'[j].1 d'[i].1 := fun k => h1 ((lt_lex D _ _).2 k)
  have h3 : d'[i].1 ≠ d'[j].1 := by
    have := (List.pairwise_iff_getElem.1 hnd') i j hi hj hij
    simpa using this
  simp only [List.getElem_map, Array.getElem_toList]
  unfold Cf.lex at *
  omega
theorem holdsC {n : Nat} [Inhabited (Cn n)] {w : World} {base g cap : Nat} (h : w.ownsRow base 3 1 (.slice (some ⟨g, 0, none⟩) n cap) n (natVals (List.range n))) : Sort.Holds (encC (n := n)) w g 0 (cnR n).toArray := by
  intro j hj
  have hjn : j < n := by simpa [cnR_len] using hj
  have e1 : ((cnR n).toArray[j]!).1 = j := by
    rw [getElem!_pos _ j hj]
    simp [cnR]
  have h1 := own_cell h (Kit.natVals_at (List.getElem?_range hjn))
  rw [Nat.zero_add]
  refine ⟨?_, h1.2⟩
  rw [h1.1]
  unfold encC
  rw [e1]
end Go.Proofs.Ytdodobpbdnpjiaa
namespace Go.Proofs.Ytdodobpbdnpjiaa
open Go Go.RowKit
open Kit (natVals)
open Cf (Op5 Ca opL caL)

section
variable {cb : Nat} {ov pv : Value} {L : List Op5} {P : List Nat}
set_option maxRecDepth 100000
/-- The comparison against an address. -/
theorem from1_any {w : World} {bb cb g o n p : Nat} {D : Nat → Int} (h0 : w.cell? ⟨bb, 0, none⟩ = some (.pointer (some ⟨cb, 0, none⟩))) (h1 : w.cell? ⟨cb, 0, none⟩ = some (.slice (some ⟨g, o, none⟩) n p)) (hs : ∀ k, k < n → w.cell? ⟨g, o + k * 5, none⟩ = some (.int .i64 (D k)))
    (a : Nat) (t : Int) (ha : a < n) : Calls Try.prog 82 #[.int .i64 (a : Int), .int .i64 t, .pointer (some ⟨bb, 0, none⟩)] w fun e w' => e = .returned (.int .i64 (Lib.compareInt (D a) t)) ∧ w' = w := by
  have ca := hs a ha
  obtain ⟨x, hx⟩ : ∃ x, D a = x := ⟨_, rfl⟩
  rw [hx] at ca ⊢
  have HC := hid (fun W => compare_any x t W)
  clear hs hx
  go_enter Try.func82, Try.ntmps82
  go_wp2_with (go_at_call 41; refine (HC.out _).mono ?_; rintro e w' ⟨rfl, rfl⟩)
  go_ret
  exact ⟨rfl, rfl⟩
theorem sortW_grow {α : Type} [Inhabited α] (enc : α → Value) {w : World} {blk : Nat} {d : Array α} (hH : Sort.Holds enc w blk 0 d) {w' : World} (h : SW enc w blk 0 d w') : Below w.heap.size w w' := by
  obtain ⟨m, os, rfl⟩ := h
  unfold sortWorld
  rw [Sort.putRow_self enc (Sort.ahead w m) blk 0 d (Sort.holds_ahead enc w m blk 0 d hH)]
  refine ⟨rfl, rfl, rfl, ?_, fun k hk => ?_⟩
  · rw [Sort.size_grow]; show w.heap.size ≤ w.heap.size + _; omega
  · exact Sort.heap_grow_old (w := Sort.ahead w m) os hk
def natC {n : Nat} (P : List Nat) (h : ∀ x ∈ P, x < n) : List (Cn n) := P.pmap (fun k hk => ⟨k, hk⟩) h
theorem natC_val {n : Nat} (O : List Nat) (h : ∀ x ∈ O, x < n) : (natC O h).map (·.1) = O := by
  unfold natC
  rw [List.map_pmap]
  exact List.pmap_eq_self.2 (fun _ _ => rfl)
theorem natC_at {n : Nat} [Inhabited (Cn n)] {P : List Nat} {h : ∀ x ∈ P, x < n} {j : Nat} (hj : j < P.length) : ((natC P h).toArray[j]!).1 = P[j]?.getD 0 := by
  rw [getElem!_pos _ j (by simpa [natC] using hj), List.getElem?_eq_getElem hj]
  simp [natC]
/-- How many stand ahead of an address, and whether one stands there. -/
def kOf (L : List Op5) (P : List Nat) (t : Int) : Nat := P.countP (fun x => decide (Cf.adr L x < t))
def fromV (L : List Op5) (P : List Nat) (t : Int) : Value := .tuple #[.int .i64 (kOf L P t : Int), .bool (decide (kOf L P t < L.length) && decide (Cf.adr L (P[kOf L P t]?.getD 0) = t))]
theorem from_any (hP : Cf.Pl (Cf.adr L) L.length P) (hn : L.length ≤ 1048576) (t : Int) (w : World) (h : Code w cb ov pv L P) :
    Calls Try.prog 57 #[.pointer (some ⟨cb, 0, none⟩), .int .i64 t] w fun e w' => e = .returned (fromV L P t) ∧ Below w.heap.size w w' := by
  have k1 : w.cell? ⟨cb, 1, none⟩ = some pv := h.1.cell 1
  have k0 : w.cell? ⟨cb, 0, none⟩ = some ov := h.1.cell 0
  have hcb := h.1.sz
  have hb0 : Below w.heap.size w (w.alloc (.cells #[.pointer (some ⟨cb, 0, none⟩)] 63)) := (Below.refl _ _).alloc (Nat.le_refl _) _
  unfold fromV
  obtain ⟨k, hk⟩ : ∃ k, kOf L P t = k := ⟨_, rfl⟩
  rw [hk]
  by_cases h0 : L.length = 0
  · have hp0 : P = [] := List.length_eq_zero_iff.1 (by rw [hP.len]; exact h0)
    have hpv : pv = .slice none 0 0 ∨ ∃ g cap, pv = .slice (some ⟨g, 0, none⟩) 0 cap := by
      rcases h.2.2.1.2 with ⟨e, -⟩ | ⟨g, cap, cur, e, -⟩
      · exact .inl e
      · exact .inr ⟨g, cap, by rw [e, h0]⟩
    have hx : ∃ a cap, pv = .slice a 0 cap := by
      rcases hpv with e | ⟨g, cap, e⟩
      · exact ⟨_, _, e⟩
      · exact ⟨_, _, e⟩
    obtain ⟨a, cap, rfl⟩ := hx
    have hk0 : k = 0 := by rw [← hk, hp0]; rfl
    subst hk0
    have HC := hid (fun W => Any.slices_BinarySearchFunc_none Sh.bsearch a cap (.int .i64 t) (.func (.func 82) #[] #[.pointer (some ⟨w.heap.size, 0, none⟩)]) W)
    have hd : decide (0 < L.length) = false := by simp [h0]
    rw [hd]
    clear hpv h hP hp0 k0 h0 hd hk
    go_enter Try.func57, Try.ntmps57
    go_wp2_with (go_at_call 81; refine (HC.out _).mono ?_; rintro e w1 ⟨rfl, rfl⟩)
    go_ret2
    exact ⟨rfl, hb0⟩
  · have hn0 : 0 < L.length := by omega
    haveI : Inhabited (Cn L.length) := ⟨⟨0, hn0⟩⟩
    obtain ⟨g, o, p, hov, hgb, hc⟩ := h.2.1.at hn0
    have hlt : ∀ x ∈ P, x < L.length := fun x hx => (hP.mem x).1 hx
    have hPl := hP.len
    obtain ⟨pb, pcap, hpv, hpb, hpc⟩ := own_at0 h.2.2.1 hn0
    have hnat : natVals P = natVals P := rfl
    have hH : Sort.Holds (encC (n := L.length)) (w.alloc (.cells #[.pointer (some ⟨cb, 0, none⟩)] 63)) pb 0 (natC P hlt).toArray := by
      intro j hj
      have hjP : j < P.length := by simpa [natC] using hj
      have h1 := hpc j (.int .i64 ((P[j] : Nat) : Int)) (Kit.natVals_at (List.getElem?_eq_getElem hjP))
      rw [Nat.zero_add, World.cell?_alloc_lt _ _ _ hpb, World.frozen?_alloc_past _ _ _ hpb]
      refine ⟨?_, h1.2⟩
      rw [h1.1]
      unfold encC
      rw [natC_at hjP, List.getElem?_eq_getElem hjP]
      rfl
    have hsz : (natC P hlt).toArray.size = L.length := by simp [natC, hPl]
    have hcmp : CmpLaysT Try.prog 82 #[.pointer (some ⟨w.heap.size, 0, none⟩)] (encC (n := L.length)) (.int .i64 t) (fun x => Lib.compareInt (Cf.adr L x.1) t) pb 0 (natC P hlt).toArray.size (w.alloc (.cells #[.pointer (some ⟨cb, 0, none⟩)] 63)) := by
      intro m os dk _ x
      have hch := sortW_chg (encC (n := L.length)) (w := w.alloc (.cells #[.pointer (some ⟨cb, 0, none⟩)] 63)) (blk := pb) m dk os
      have n1 : w.heap.size ≠ pb := by omega
      have n2 : cb ≠ pb := fun e => own_unlike_box h.2.2.1 h.1 (by decide) (by rw [hpv, e]; rfl)
      have n3 : g ≠ pb := fun e => h.2.2.2 hn0 g o p hov (by rw [hpv, e]; rfl)
      have f0 := (hch.cell (p := ⟨w.heap.size, 0, none⟩) (by simp) n1).trans ((BX.new w #[.pointer (some ⟨cb, 0, none⟩)] 63).cell 0)
      have f1 := (hch.cell (p := ⟨cb, 0, none⟩) (by simp; omega) n2).trans ((World.cell?_alloc_lt _ _ _ hcb).trans k0)
      rw [hov] at f1
      refine (from1_any (D := Cf.adr L) f0 f1 (fun j hj => (hch.cell (p := ⟨g, o + j * 5, none⟩) (by simp; omega) n3).trans ((World.cell?_alloc_lt _ _ _ hgb).trans ?_)) x.1 t x.2).mono ?_
      · obtain ⟨c0, -⟩ := hc j L[j] (List.getElem?_eq_getElem hj)
        rw [c0]
        unfold Cf.adr
        rw [List.getElem?_eq_getElem hj]
      · rintro e w' ⟨rfl, rfl⟩
        exact ⟨rfl, 0, #[], by rw [Sort.grow_empty]; rfl⟩
    have hcon := Any.slices_BinarySearchFunc Sh.bsearch (encC (n := L.length)) (fun _ => rfl) (.int .i64 t) (fun x => Lib.compareInt (Cf.adr L x.1) t) 82 #[.pointer (some ⟨w.heap.size, 0, none⟩)] pb 0 pcap (natC P hlt).toArray (w.alloc (.cells #[.pointer (some ⟨cb, 0, none⟩)] 63))
      (enters_of Try.func82 (by kernel_rfl) rfl) hcmp hH (by simp; omega) (by omega) (fun a b hab hb hlt2 => by
        rw [hsz] at hb
        rw [cmp_neg] at hlt2 ⊢
        rw [natC_at (by omega)] at hlt2 ⊢
        by_cases e : a = b
        · subst e; exact hlt2
        · have hp := (List.pairwise_iff_getElem.1 hP.ord) a b (by omega) (by omega) (by omega)
          rw [List.getElem?_eq_getElem (show a < P.length by omega)]
          rw [List.getElem?_eq_getElem (show b < P.length by omega)] at hlt2
          show Cf.adr L P[a] < t
          change Cf.adr L P[b] < t at hlt2
          rcases hp with hp | ⟨hp, -⟩ <;> omega)
    have hcount : (natC P hlt).toArray.toList.countP (fun x => decide (Lib.compareInt (Cf.adr L x.1) t < 0)) = k := by
      rw [← hk]
      unfold kOf
      conv => rhs; rw [← natC_val P hlt]
      rw [List.countP_map]
      apply List.countP_congr
      intro x _
      simp [cmp_neg]
    rw [hcount, hsz] at hcon
    have hkl : k ≤ L.length := by rw [← hk, ← hPl]; exact List.countP_le_length
    have hend : (decide (k < L.length) && decide (Lib.compareInt (Cf.adr L ((natC P hlt).toArray[k]!).1) t = 0)) = (decide (k < L.length) && decide (Cf.adr L (P[k]?.getD 0) = t)) := by
      by_cases e : k < L.length
      · rw [natC_at (by omega)]
        simp [cmp_zero]
      · simp [e]
    rw [hend] at hcon
    change Calls Try.prog 81 _ _ _ at hcon
    have HC := hid (hcon.mono (fun e w' h => (⟨h.1, belows hb0 (sortW_grow _ hH h.2) (by simp)⟩ : _ ∧ Below w.heap.size w w')))
    obtain ⟨r, hr⟩ : ∃ r, (decide (k < L.length) && decide (Cf.adr L (P[k]?.getD 0) = t)) = r := ⟨_, rfl⟩
    rw [hr] at HC ⊢
    rw [hpv] at k1
    clear hcon hcmp hH hr hend hcount hc h hP hsz hlt hpc hov hpv hk k0
    go_enter Try.func57, Try.ntmps57
    go_wp2_with (go_at_call 81; refine HC.out.mono ?_; rintro e w1 ⟨rfl, hb⟩)
    go_ret2
    exact ⟨rfl, hb⟩
theorem find_any (hP : Cf.Pl (Cf.adr L) L.length P) (hn : L.length ≤ 1048576) : FindC cb ov pv L P := by
  intro t w h
  have HF := hid (from_any hP hn t w h)
  have HCd := hid (fun W (hb : Below w.heap.size w W) => h.below hb)
  have HP := hid hP
  clear h hP
  go_enter Try.func45, Try.ntmps45
  go_wp2_with fail
  refine HF.out.mono ?_
  rintro e w1 ⟨rfl, hb⟩
  unfold fromV
  obtain ⟨k, hk⟩ : ∃ k, kOf L P t = k := ⟨_, rfl⟩
  rw [hk]
  have hf := Cf.find_is HP.out t (k := k) hk.symm
  have hC := HCd.out w1 hb
  have k1 : w1.cell? ⟨cb, 1, none⟩ = some pv := hC.1.cell 1
  by_cases hkl : k < L.length
  · obtain ⟨pb, pcap, hpv, hpb, hpc⟩ := own_at0 hC.2.2.1 (by omega)
    have hkP : k < P.length := by rw [HP.out.len]; exact hkl
    have c0 := (hpc k (.int .i64 ((P[k] : Nat) : Int)) (Kit.natVals_at (List.getElem?_eq_getElem hkP))).1
    have e0 : P[k]?.getD 0 = P[k] := by rw [List.getElem?_eq_getElem hkP]; rfl
    rw [e0] at hf ⊢
    obtain ⟨q, hq⟩ : ∃ q, P[k] = q := ⟨_, rfl⟩
    rw [hq] at c0 hf ⊢
    rw [hpv] at k1
    by_cases he : Cf.adr L q = t
    · have HE : Hid (Cf.first L t = some q) := hf.2.1 hkl he
      have hd : (decide (k < L.length) && decide (Cf.adr L q = t)) = true := by simp [hkl, he]
      rw [hd]
      clear hf he hpc hpv hk e0 hq hd hC
      go_wp2
      go_ret2
      exact ⟨by rw [HE.out]; rfl, hb⟩
    · have HE : Hid (Cf.first L t = none) := hf.2.2 (fun _ => he)
      have hd : (decide (k < L.length) && decide (Cf.adr L q = t)) = false := by simp [he]
      rw [hd]
      clear hf he hpc hpv hk e0 hq hd hC
      go_wp2
      go_ret2
      exact ⟨by rw [HE.out]; rfl, hb⟩
  · have HE : Hid (Cf.first L t = none) := hf.2.2 (fun h => absurd h hkl)
    have hd : (decide (k < L.length) && decide (Cf.adr L (P[k]?.getD 0) = t)) = false := by simp [hkl]
    rw [hd]
    clear hf hk hd hC
    go_wp2
    go_ret2
    exact ⟨by rw [HE.out]; rfl, hb⟩
end
end Go.Proofs.Ytdodobpbdnpjiaa
namespace Go.Proofs.Ytdodobpbdnpjiaa
open Go Go.RowKit
open Kit (natVals)
open Cf (Op5 Ca opL caL)

/-- Where byAddress' loop stands. -/
def ByI (w : World) (ov : Value) (n k : Nat) (W : World) : Prop :=
  W.ownsRow (w.heap.size + 1) 3 1 (.slice (some ⟨w.heap.size + 1, 0, none⟩) n n) n (ivals (fun i => if i < k then (i : Int) else 0) n) ∧ BX W w.heap.size #[ov] 25 ∧ BX W (w.heap.size + 2) #[ov, .slice (some ⟨w.heap.size + 1, 0, none⟩) n n] 80 ∧ Below w.heap.size w W
theorem ByI.step {w W : World} {ov : Value} {n k : Nat} (h : ByI w ov n k W) : ByI w ov n (k + 1) (W.setCell ⟨w.heap.size + 1, k, none⟩ (.int .i64 (k : Int))) := by
  obtain ⟨h1, h2, h3, h4⟩ := h
  have hc : Chg (fun i => i = w.heap.size + 1) W (W.setCell ⟨w.heap.size + 1, k, none⟩ (.int .i64 (k : Int))) := (Chg.refl (fun i => i = w.heap.size + 1) W).set (p := ⟨w.heap.size + 1, k, none⟩) (.inl rfl) _
  refine ⟨owns_set1 h1 k _ (ivals_set fun i _ => ?_), h2.chg hc (by omega), h3.chg hc (by omega), Below.setCell h4 (by simp) _⟩
  by_cases e : i = k
  · subst e; rw [if_pos (by omega), if_pos rfl]
  · rw [if_neg e]
    by_cases e2 : i < k
    · rw [if_pos e2, if_pos (by omega)]
    · rw [if_neg e2, if_neg (by omega)]
theorem ByI.below {w W W' : World} {ov : Value} {n k : Nat} (h : ByI w ov n k W) (hb : Below W.heap.size W W') : ByI w ov n k W' := by
  obtain ⟨h1, h2, h3, h4⟩ := h
  exact ⟨Kit.owns_below h1 hb (Nat.le_refl _), h2.below hb, h3.below hb, belows h4 hb h4.size⟩
theorem ByI.full {w W : World} {ov : Value} {n : Nat} (h : ByI w ov n n W) : W.ownsRow (w.heap.size + 1) 3 1 (.slice (some ⟨w.heap.size + 1, 0, none⟩) n n) n (natVals (List.range n)) := by
  have e := h.1
  rw [ivals_same (g := fun i => ((id i : Nat) : Int)) (fun i hi => by rw [if_pos hi]; rfl), ivals_nat, List.map_id] at e
  exact e
/-- The comparison, in each world that the sort passes through. -/
theorem ByI.cmp {w W : World} {oa : Option Addr} {ocap : Nat} {L : List Op5} (h : ByI w (.slice oa L.length ocap) L.length L.length W) (ho : OpS W (.slice oa L.length ocap) L) (hold : ∀ b o p, (.slice oa L.length ocap : Value) = .slice (some ⟨b, o, none⟩) L.length p → b < w.heap.size) (hn : 0 < L.length) [Inhabited (Cn L.length)] (size : Nat) :
    CmpLays1 Try.prog 39 #[.pointer (some ⟨w.heap.size, 0, none⟩)] (encC (n := L.length)) (cfC (Cf.adr L)) (w.heap.size + 1) 0 size W := by
  intro m os dk _ x y
  obtain ⟨g, o, p, hv, hgb, hc⟩ := ho.at hn
  have hgw := hold g o p hv
  have hch := sortW_chg (encC (n := L.length)) (w := W) (blk := w.heap.size + 1) m dk os
  have f0 := (hch.cell (p := ⟨w.heap.size, 0, none⟩) h.2.1.sz (by simp)).trans (h.2.1.cell 0)
  rw [hv] at f0
  refine (clo_any (Cf.adr L) f0 (fun j hj => (hch.cell (p := ⟨g, o + j * 5, none⟩) hgb (by show ¬ g = w.heap.size + 1; omega)).trans ?_) x.1 y.1 x.2 y.2).mono ?_
  · obtain ⟨c0, -⟩ := hc j L[j] (List.getElem?_eq_getElem hj)
    rw [c0]
    unfold Cf.adr
    rw [List.getElem?_eq_getElem hj]
  · rintro e w' ⟨rfl, q, o, rfl⟩
    exact ⟨rfl, q, #[o], Sort.alloc_eq_grow _ _⟩
set_option maxRecDepth 100000 in
set_option maxHeartbeats 1000000 in
theorem byAddress_any {w : World} {ov : Value} {L : List Op5} (h : OpS w ov L) (hn : L.length ≤ 1048576) :
    Calls Try.prog 20 #[ov] w fun e w' => e = .returned (.pointer (some ⟨w.heap.size + 2, 0, none⟩)) ∧ ∃ P pv, Code w' (w.heap.size + 2) ov pv L P ∧ Cf.Pl (Cf.adr L) L.length P ∧ Below w.heap.size w w' := by
  obtain ⟨oa, ocap, rfl⟩ := h.form
  have hmk := fun W => run_make_row' (P := Try.prog) 34 3 (.int .i64 0) 8 (by kernel_rfl) (by kernel_rfl) rfl .i64 .i64 L.length (by omega) (by omega) W
  have HH := hid (fun W (hb : Below w.heap.size w W) => h.below hb)
  have hold : ∀ b o p, (.slice oa L.length ocap : Value) = .slice (some ⟨b, o, none⟩) L.length p → 0 < L.length → b < w.heap.size := fun b o p e h0 => by
    obtain ⟨g, o', p', hv, hg, -⟩ := h.at h0
    rw [hv] at e
    obtain ⟨e1, -, -⟩ := Value.slice.inj e
    rw [Option.some.injEq, Addr.mk.injEq] at e1
    omega
  have HO := hid hold
  clear hold
  clear h
  have HB0 : Hid (ByI w (.slice oa L.length ocap) L.length 0 (((w.alloc (.cells #[.slice oa L.length ocap] 25)).alloc (.cells (madeCells #[.int .i64 0] L.length) 3)).alloc (.cells #[.slice oa L.length ocap, .slice (some ⟨w.heap.size + 1, 0, none⟩) L.length L.length] 80))) := by
    have o1 := owns_made (base := w.heap.size + 1) (w.alloc (.cells #[.slice oa L.length ocap] 25)) (by simp) (.int .i64 0) L.length (by unfold maxLen; omega) 3
    rw [← ivals_const, ivals_same (g := fun i => if i < 0 then (i : Int) else 0) (fun i _ => by rw [if_neg (by omega)])] at o1
    have b1 := BX.new w #[.slice oa L.length ocap] 25
    have b2 := BX.new ((w.alloc (.cells #[.slice oa L.length ocap] 25)).alloc (.cells (madeCells #[.int .i64 0] L.length) 3)) #[.slice oa L.length ocap, .slice (some ⟨w.heap.size + 1, 0, none⟩) L.length L.length] 80
    simp only [World.size_alloc] at o1 b2
    exact ⟨Kit.owns_below o1 ((Below.refl _ _).alloc (Nat.le_refl _) _) (Nat.le_refl _), (b1.below ((Below.refl _ _).alloc (Nat.le_refl _) _)).below ((Below.refl _ _).alloc (Nat.le_refl _) _), b2, (by repeat' first | with_reducible exact Below.refl _ _ | with_reducible assumption | with_reducible refine belows_drewN ?_ _ | with_reducible refine Below.drew ?_ | with_reducible refine Below.setCell ?_ ?_ _ | with_reducible refine Below.alloc ?_ ?_ _ | omega | (simp; done) | (simp; omega))⟩
  go_enter Try.func20, Try.ntmps20
  go_wp2
  go_region
  go_wp2
  go_loopw [13] (fun v wr => ∃ k : Nat, v = .int .i64 (k : Int) ∧ k ≤ L.length ∧ Hid (ByI w (.slice oa L.length ocap) L.length k wr)) (fun v _ => L.length - (intOf v).toNat)
  case atStart => exact ⟨0, rfl, by omega, HB0.out.below (Below.drew (Below.refl _ _))⟩
  case round =>
    clear HB0
    obtain ⟨k, rfl, hk, HB⟩ := hrel
    have c0 := HB.out.2.1.cell 0
    have d1 := HB.out.2.2.1.cell 1
    by_cases hlt : k < L.length
    · obtain ⟨e0, e1⟩ := own_cell HB.out.1 (ivals_at hlt)
      obtain ⟨z, hz⟩ : ∃ z, (if k < k then (k : Int) else 0) = z := ⟨_, rfl⟩
      rw [hz] at e0
      have HS := hid HB.out.step
      clear hz
      go_wp2
      go_roundw
      case rel => exact ⟨k + 1, by go_num, by omega, HS⟩
      case measure => simp [intOf]; omega
    · obtain rfl : k = L.length := by omega
      have hbl := HB.out.2.2.2
      have hF := HB.out.full
      by_cases h0 : L.length = 0
      · have HC := hid (AnyF.slices_SortFunc_none { Sh.sort with } (some ⟨w.heap.size + 1, 0, none⟩) L.length (.func (.func 39) #[] #[.pointer (some ⟨w.heap.size, 0, none⟩)]) wr)
        have hz : L = [] := List.length_eq_zero_iff.1 h0
        have HF := hid hF
        clear hF
        subst hz
        go_wp2_with (go_at_call 38; refine HC.out.mono ?_; rintro e w3 ⟨rfl, rfl⟩)
        go_ret
        exact ⟨rfl, [], _, ⟨HB.out.2.2.1, HH.out _ hbl, Kit.owns_mono HF.out (Nat.zero_le _), fun h => by simp at h⟩, ⟨rfl, fun x => by simp, List.Pairwise.nil⟩, hbl⟩
      · haveI : Inhabited (Cn L.length) := ⟨⟨0, by omega⟩⟩
        have hcon := Any.slices_SortFunc Sh.sort (encC (n := L.length)) (fun _ => rfl) (cfC (Cf.adr L)) (swo (Cf.adr L) L.length) 39 #[.pointer (some ⟨w.heap.size, 0, none⟩)] (w.heap.size + 1) 0 L.length (cnR L.length).toArray wr
          (enters_of Try.func39 (by kernel_rfl) rfl) (HB.out.cmp (HH.out _ hbl) (fun b o p e => HO.out b o p e (by omega)) (by omega) _) (holdsC hF) (by have := HB.out.2.2.1.sz; omega) (by simp [cnR_len]; omega)
        change Calls Try.prog 38 _ _ _ at hcon
        have hsz : (cnR L.length).toArray.size = L.length := by simp [cnR_len]
        have HCo := hid hcon
        rw [hsz] at HCo
        clear hcon
        have HF := hid hF
        clear hF
        go_wp2_with (go_at_call 38; refine HCo.out.mono ?_; rintro e w3 ⟨rfl, d', m, os, hp, hs, hw3⟩; have HW3 := hid hw3; have HP3 := hid hp; have HS3 := hid hs; clear hw3 hp hs)
        go_ret
        obtain ⟨hpl, hds⟩ := sorted_pl (D := Cf.adr L) (n := L.length) (d' := d') (by rw [hsz]; exact HP3.out) (by rw [hsz]; exact HS3.out)
        have hch := sortW_chg (encC (n := L.length)) (w := wr) (blk := w.heap.size + 1) m d' os
        have hro := sortW_own (encC (n := L.length)) HF.out m d' os hds
        rw [enc_vals] at hro
        rw [← HW3.out] at hch hro
        have hB3 := hbl.trans (hch.to_below (fun j e => by rw [e]; omega) hbl.size)
        refine ⟨rfl, _, _, ⟨HB.out.2.2.1.chg hch (by omega), HH.out _ hB3, Kit.owns_mono hro (Nat.zero_le _), fun _ b o p e => ?_⟩, hpl, hB3⟩
        have := HO.out b o p e (by omega)
        simp [Value.ownBlock]
        omega
end Go.Proofs.Ytdodobpbdnpjiaa

/- Contract of write. -/
import Derived.Test.YtihklojiionanaaDoorOpT
import Derived.Test.YtihklojiionanaaDoorGrow
namespace Go.Proofs.YtihklojiionanaaDoor
open Go.RowKit

def byteVals (bs : List UInt8) : List Value := bs.map fun b => .int .u8 ((b.toNat : Nat) : Int)
def OwnB (w : World) (base : Nat) (v : Value) (bs : List UInt8) : Prop := w.ownsRow base 5 1 v bs.length (byteVals bs)
def by8 (z : Int) : UInt8 := UInt8.ofNat (z % 256).toNat
theorem by8_nat (z : Int) : (((by8 z).toNat : Nat) : Int) = z % 256 := by
  unfold by8
  rw [UInt8.toNat_ofNat']
  omega
theorem wrap_by8 (z : Int) : Value.int .u8 (IntKind.u8.wrap z) = .int .u8 (((by8 z).toNat : Nat) : Int) := by
  rw [by8_nat, IntKind.wrap_u8]
theorem byteVals_app (a b : List UInt8) : byteVals (a ++ b) = byteVals a ++ byteVals b := by unfold byteVals; simp
theorem A.info5 : (Tryd.prog.info? 5).map (fun i => (i.zero, i.size, i.bytes)) = some (some (.int .u8 0), 1, 1) := by kernel_rfl
theorem news_two (w : World) (x y : Value) (t : TypeId) : ∀ j u, [x, y][j]? = some u → (w.alloc (.cells #[x, y] t)).cell? ((⟨w.heap.size, 0, none⟩ : Addr).add j) = some u := by
  intro j u h
  match j, h with
  | 0, h =>
    simp only [List.getElem?_cons_zero, Option.some.injEq] at h
    subst h
    show (w.alloc (.cells #[x, y] t)).cell? ⟨w.heap.size, 0, none⟩ = some x
    rw [World.cell?_alloc_new]; rfl
  | 1, h =>
    simp only [List.getElem?_cons_succ, List.getElem?_cons_zero, Option.some.injEq] at h
    subst h
    show (w.alloc (.cells #[x, y] t)).cell? ⟨w.heap.size, 1, none⟩ = some y
    rw [World.cell?_alloc_new]; rfl
  | j + 2, h => simp at h
theorem ones_two {x y : Value} (h : x.oneCell' = true) (h' : y.oneCell' = true) : ∀ u ∈ [x, y], u.oneCell' = true := by
  intro u hu
  simp only [List.mem_cons, List.not_mem_nil, or_false] at hu
  rcases hu with rfl | rfl
  · exact h
  · exact h'
/-- What an instruction of a form has behind its opcode. -/
def tail8 (f : Nat) (x : Op1.Ins) : List UInt8 :=
  if f = 1 ∨ f = 4 ∨ f = 8 ∨ f = 2 then [by8 x.a]
  else if f = 3 ∨ f = 5 then [by8 (x.a / 256), by8 x.a]
  else if f = 6 then [by8 (wrap64 (x.a - x.p) / 256), by8 (wrap64 (x.a - x.p))]
  else if f = 7 then [by8 x.a, by8 x.b] else []
def WritePost (B : Nat) (bs : List UInt8) (v : Value) (w : World) (e : Ending) (w' : World) : Prop := ∃ v', e = .returned v' ∧ OwnB w' B v' bs ∧ Kit.Grows w w' v v'

/-- What the append of the opcode leaves. -/
theorem write_first {x : Op1.Ins} {B : Nat} {v v1 : Value} {bs : List UInt8} {w w1 : World} {c : Value} (hown : OwnB w B v bs)
    (hg : World.grownBy ((w.alloc (.cells #[.int .i64 x.p, .int .i64 x.op, .int .i64 x.a, .int .i64 x.b] 35)).alloc (.cells #[c] 5)) w1 v.ownBlock)
    (hk1 : v1.ownBlock = v.ownBlock ∨ v1.ownBlock = some (((w.alloc (.cells #[.int .i64 x.p, .int .i64 x.op, .int .i64 x.a, .int .i64 x.b] 35)).alloc (.cells #[c] 5)).heap.size)) :
    Kit.Grows w w1 v v1 ∧ w.heap.size + 1 < w1.heap.size ∧ w1.cell? ⟨w.heap.size, 0, none⟩ = some (.int .i64 x.p) ∧ w1.cell? ⟨w.heap.size, 1, none⟩ = some (.int .i64 x.op) ∧ w1.cell? ⟨w.heap.size, 2, none⟩ = some (.int .i64 x.a) ∧ w1.cell? ⟨w.heap.size, 3, none⟩ = some (.int .i64 x.b) := by
  have hz := hg.size
  simp only [World.size_alloc] at hz
  have hk : ∀ j, w1.cell? ⟨w.heap.size, j, none⟩ = (#[Value.int .i64 x.p, .int .i64 x.op, .int .i64 x.a, .int .i64 x.b])[j]? := by
    intro j
    rw [World.cell?_of_block (hg.block w.heap.size (by simp only [World.size_alloc]; omega) (fun e => by have := Kit.own_lt hown _ e.symm; omega))]
    rw [World.cell?_alloc_past _ _ _ (by simp), World.cell?_alloc_at _ _ _ _ rfl]
  exact ⟨Kit.grows_append (by repeat' first | with_reducible exact Below.refl _ _ | with_reducible assumption | with_reducible refine belows_drewN ?_ _ | with_reducible refine Below.drew ?_ | with_reducible refine Below.setCell ?_ ?_ _ | with_reducible refine Below.alloc ?_ ?_ _ | omega | (simp; done) | (simp; omega)) hg hk1, by omega, hk 0, hk 1, hk 2, hk 3⟩
theorem ownB_app {w : World} {B : Nat} {v : Value} {bs cs : List UInt8} {n : Nat} {xs : List Value} (h : w.ownsRow B 5 1 v n xs) (hn : n = (bs ++ cs).length) (hx : xs = byteVals bs ++ byteVals cs) : OwnB w B v (bs ++ cs) := by
  unfold OwnB
  rw [byteVals_app, ← hx, ← hn]
  exact h
set_option maxRecDepth 100000 in
set_option maxHeartbeats 1000000 in
theorem write_zero (x : Op1.Ins) (B : Nat) (v : Value) (bs : List UInt8) (w : World) (hown : OwnB w B v bs) (hB : B ≤ w.heap.size) (hlen : bs.length ≤ 70368744177664) :
    Calls Tryd.prog 48 #[v, insV x, .int .i64 0] w (WritePost B (bs ++ by8 x.op :: []) v w) := by
  obtain ⟨i0, hi, hz0, hz1, hz2⟩ := info_parts A.info5
  obtain ⟨xp, xop, xa, xb⟩ := x
  unfold insV
  go_enter Tryd.func48, Tryd.ntmps48
  go_wp2_with (at_builtin; refine wpList_append_own_at _ rfl (.tmp 8) (.tmp 12) 29 rfl B 5 i0 _ 1 1 Tryd.underlying29 hi hz0 hz1 hz2 rfl (by decide) _ _ _ rfl ((hown.alloc _).alloc _) ⟨w.heap.size + 1, 0, none⟩ 1 1 [.int .u8 (xop % 256)] rfl rfl (by have := Kit.news_one (w.alloc (Obj.cells #[.int .i64 xp, .int .i64 xop, .int .i64 xa, .int .i64 xb] 35)) (.int .u8 (xop % 256)) 5; simpa using this) (Kit.ones_one rfl) (by unfold maxLen; omega) (by omega) (by simp only [World.size_alloc]; omega) ?_; intro v1 w1 hown1 hgrow1 _ hk1; obtain ⟨hb1, hz1', k0, k1, k2, k3⟩ := write_first (x := ⟨xp, xop, xa, xb⟩) hown hgrow1 hk1; dsimp only at k0 k1 k2 k3; clear hgrow1 hk1)
  go_ret
  exact ⟨_, rfl, ownB_app hown1 (by simp) (by simp [byteVals, by8_nat]), hb1⟩
set_option maxRecDepth 100000 in
set_option maxHeartbeats 1000000 in
theorem write_one (x : Op1.Ins) (f : Nat) (hf : f = 1 ∨ f = 4 ∨ f = 8 ∨ f = 2) (B : Nat) (v : Value) (bs : List UInt8) (w : World) (hown : OwnB w B v bs) (hB : B ≤ w.heap.size) (hlen : bs.length ≤ 70368744177664) :
    Calls Tryd.prog 48 #[v, insV x, .int .i64 f] w (WritePost B (bs ++ by8 x.op :: [by8 x.a]) v w) := by
  obtain ⟨i0, hi, hz0, hz1, hz2⟩ := info_parts A.info5
  obtain ⟨xp, xop, xa, xb⟩ := x
  unfold insV
  rcases hf with rfl | rfl | rfl | rfl
  all_goals
    go_enter Tryd.func48, Tryd.ntmps48
    go_wp2_with (first | (at_builtin; refine wpList_append_own_at _ rfl (.tmp 8) (.tmp 12) 29 rfl B 5 i0 _ 1 1 Tryd.underlying29 hi hz0 hz1 hz2 rfl (by decide) _ _ _ rfl ((hown.alloc _).alloc _) ⟨w.heap.size + 1, 0, none⟩ 1 1 [.int .u8 (xop % 256)] rfl rfl (by have := Kit.news_one (w.alloc (Obj.cells #[.int .i64 xp, .int .i64 xop, .int .i64 xa, .int .i64 xb] 35)) (.int .u8 (xop % 256)) 5; simpa using this) (Kit.ones_one rfl) (by unfold maxLen; omega) (by omega) (by simp only [World.size_alloc]; omega) ?_; intro v1 w1 hown1 hgrow1 _ hk1; obtain ⟨hb1, hz1', k0, k1, k2, k3⟩ := write_first (x := ⟨xp, xop, xa, xb⟩) hown hgrow1 hk1; dsimp only at k0 k1 k2 k3; clear hgrow1 hk1) | (at_builtin; refine wpList_append_own_at _ rfl (.tmp 20) (.tmp 24) 29 rfl B 5 i0 _ 1 1 Tryd.underlying29 hi hz0 hz1 hz2 rfl (by decide) _ _ _ rfl (hown1.alloc _) ⟨w1.heap.size, 0, none⟩ 1 1 [.int .u8 (xa % 256)] rfl rfl (Kit.news_one w1 (.int .u8 (xa % 256)) 5) (Kit.ones_one rfl) (by unfold maxLen; omega) (by omega) (by simp only [World.size_alloc]; omega) ?_; intro v2 w2 hown2 hgrow2 _ hk2))
    have hb2 := hb1.trans (Kit.grows_append ((Below.refl _ _).alloc (Nat.le_refl _) _) hgrow2 hk2)
    go_ret
    exact ⟨_, rfl, ownB_app hown2 (by simp) (by simp [byteVals, by8_nat]), hb2⟩
set_option maxRecDepth 100000 in
set_option maxHeartbeats 1000000 in
theorem write_word (x : Op1.Ins) (f : Nat) (hf : f = 3 ∨ f = 5) (B : Nat) (v : Value) (bs : List UInt8) (w : World) (hown : OwnB w B v bs) (hB : B ≤ w.heap.size) (hlen : bs.length ≤ 70368744177664) :
    Calls Tryd.prog 48 #[v, insV x, .int .i64 f] w (WritePost B (bs ++ by8 x.op :: [by8 (x.a / 256), by8 x.a]) v w) := by
  obtain ⟨i0, hi, hz0, hz1, hz2⟩ := info_parts A.info5
  obtain ⟨xp, xop, xa, xb⟩ := x
  unfold insV
  rcases hf with rfl | rfl
  all_goals
    go_enter Tryd.func48, Tryd.ntmps48
    go_wp2_with (first | (at_builtin; refine wpList_append_own_at _ rfl (.tmp 8) (.tmp 12) 29 rfl B 5 i0 _ 1 1 Tryd.underlying29 hi hz0 hz1 hz2 rfl (by decide) _ _ _ rfl ((hown.alloc _).alloc _) ⟨w.heap.size + 1, 0, none⟩ 1 1 [.int .u8 (xop % 256)] rfl rfl (by have := Kit.news_one (w.alloc (Obj.cells #[.int .i64 xp, .int .i64 xop, .int .i64 xa, .int .i64 xb] 35)) (.int .u8 (xop % 256)) 5; simpa using this) (Kit.ones_one rfl) (by unfold maxLen; omega) (by omega) (by simp only [World.size_alloc]; omega) ?_; intro v1 w1 hown1 hgrow1 _ hk1; obtain ⟨hb1, hz1', k0, k1, k2, k3⟩ := write_first (x := ⟨xp, xop, xa, xb⟩) hown hgrow1 hk1; dsimp only at k0 k1 k2 k3; clear hgrow1 hk1) | (at_builtin; refine wpList_append_own_at _ rfl (.tmp 29) (.tmp 37) 29 rfl B 5 i0 _ 1 1 Tryd.underlying29 hi hz0 hz1 hz2 rfl (by decide) _ _ _ rfl (hown1.alloc _) ⟨w1.heap.size, 0, none⟩ 2 2 [.int .u8 (xa / 256 % 256), .int .u8 (xa % 256)] rfl rfl (news_two w1 (.int .u8 (xa / 256 % 256)) (.int .u8 (xa % 256)) 5) (ones_two rfl rfl) (by unfold maxLen; omega) (by omega) (by simp only [World.size_alloc]; omega) ?_; intro v2 w2 hown2 hgrow2 _ hk2))
    have hb2 := hb1.trans (Kit.grows_append ((Below.refl _ _).alloc (Nat.le_refl _) _) hgrow2 hk2)
    go_ret
    exact ⟨_, rfl, ownB_app hown2 (by simp) (by simp [byteVals, by8_nat]), hb2⟩
set_option maxRecDepth 100000 in
set_option maxHeartbeats 1000000 in
theorem write_jump (x : Op1.Ins) (B : Nat) (v : Value) (bs : List UInt8) (w : World) (hown : OwnB w B v bs) (hB : B ≤ w.heap.size) (hlen : bs.length ≤ 70368744177664) :
    Calls Tryd.prog 48 #[v, insV x, .int .i64 6] w (WritePost B (bs ++ by8 x.op :: [by8 (wrap64 (x.a - x.p) / 256), by8 (wrap64 (x.a - x.p))]) v w) := by
  obtain ⟨i0, hi, hz0, hz1, hz2⟩ := info_parts A.info5
  obtain ⟨xp, xop, xa, xb⟩ := x
  unfold insV
  go_enter Tryd.func48, Tryd.ntmps48
  go_wp2_with (first | (at_builtin; refine wpList_append_own_at _ rfl (.tmp 8) (.tmp 12) 29 rfl B 5 i0 _ 1 1 Tryd.underlying29 hi hz0 hz1 hz2 rfl (by decide) _ _ _ rfl ((hown.alloc _).alloc _) ⟨w.heap.size + 1, 0, none⟩ 1 1 [.int .u8 (xop % 256)] rfl rfl (by have := Kit.news_one (w.alloc (Obj.cells #[.int .i64 xp, .int .i64 xop, .int .i64 xa, .int .i64 xb] 35)) (.int .u8 (xop % 256)) 5; simpa using this) (Kit.ones_one rfl) (by unfold maxLen; omega) (by omega) (by simp only [World.size_alloc]; omega) ?_; intro v1 w1 hown1 hgrow1 _ hk1; obtain ⟨hb1, hz1', k0, k1, k2, k3⟩ := write_first (x := ⟨xp, xop, xa, xb⟩) hown hgrow1 hk1; dsimp only at k0 k1 k2 k3; clear hgrow1 hk1) | (at_builtin; refine wpList_append_own_at _ rfl (.tmp 46) (.tmp 52) 29 rfl B 5 i0 _ 1 1 Tryd.underlying29 hi hz0 hz1 hz2 rfl (by decide) _ _ _ rfl (hown1.alloc _) ⟨w1.heap.size, 0, none⟩ 2 2 [.int .u8 (wrap64 (xa - xp) / 256 % 256), .int .u8 (wrap64 (xa - xp) % 256)] rfl rfl (news_two w1 (.int .u8 (wrap64 (xa - xp) / 256 % 256)) (.int .u8 (wrap64 (xa - xp) % 256)) 5) (ones_two rfl rfl) (by unfold maxLen; omega) (by omega) (by simp only [World.size_alloc]; omega) ?_; intro v2 w2 hown2 hgrow2 _ hk2))
  have hb2 := hb1.trans (Kit.grows_append ((Below.refl _ _).alloc (Nat.le_refl _) _) hgrow2 hk2)
  go_ret
  exact ⟨_, rfl, ownB_app hown2 (by simp) (by simp [byteVals, by8_nat]), hb2⟩
set_option maxRecDepth 100000 in
set_option maxHeartbeats 1000000 in
theorem write_inc (x : Op1.Ins) (B : Nat) (v : Value) (bs : List UInt8) (w : World) (hown : OwnB w B v bs) (hB : B ≤ w.heap.size) (hlen : bs.length ≤ 70368744177664) :
    Calls Tryd.prog 48 #[v, insV x, .int .i64 7] w (WritePost B (bs ++ by8 x.op :: [by8 x.a, by8 x.b]) v w) := by
  obtain ⟨i0, hi, hz0, hz1, hz2⟩ := info_parts A.info5
  obtain ⟨xp, xop, xa, xb⟩ := x
  unfold insV
  go_enter Tryd.func48, Tryd.ntmps48
  go_wp2_with (first | (at_builtin; refine wpList_append_own_at _ rfl (.tmp 8) (.tmp 12) 29 rfl B 5 i0 _ 1 1 Tryd.underlying29 hi hz0 hz1 hz2 rfl (by decide) _ _ _ rfl ((hown.alloc _).alloc _) ⟨w.heap.size + 1, 0, none⟩ 1 1 [.int .u8 (xop % 256)] rfl rfl (by have := Kit.news_one (w.alloc (Obj.cells #[.int .i64 xp, .int .i64 xop, .int .i64 xa, .int .i64 xb] 35)) (.int .u8 (xop % 256)) 5; simpa using this) (Kit.ones_one rfl) (by unfold maxLen; omega) (by omega) (by simp only [World.size_alloc]; omega) ?_; intro v1 w1 hown1 hgrow1 _ hk1; obtain ⟨hb1, hz1', k0, k1, k2, k3⟩ := write_first (x := ⟨xp, xop, xa, xb⟩) hown hgrow1 hk1; dsimp only at k0 k1 k2 k3; clear hgrow1 hk1) | (at_builtin; refine wpList_append_own_at _ rfl (.tmp 56) (.tmp 63) 29 rfl B 5 i0 _ 1 1 Tryd.underlying29 hi hz0 hz1 hz2 rfl (by decide) _ _ _ rfl (hown1.alloc _) ⟨w1.heap.size, 0, none⟩ 2 2 [.int .u8 (xa % 256), .int .u8 (xb % 256)] rfl rfl (news_two w1 (.int .u8 (xa % 256)) (.int .u8 (xb % 256)) 5) (ones_two rfl rfl) (by unfold maxLen; omega) (by omega) (by simp only [World.size_alloc]; omega) ?_; intro v2 w2 hown2 hgrow2 _ hk2))
  have hb2 := hb1.trans (Kit.grows_append ((Below.refl _ _).alloc (Nat.le_refl _) _) hgrow2 hk2)
  go_ret
  exact ⟨_, rfl, ownB_app hown2 (by simp) (by simp [byteVals, by8_nat]), hb2⟩
end Go.Proofs.YtihklojiionanaaDoor

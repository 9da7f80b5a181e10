/- Contract of bytes.Clone at bytes that the program made; an append of nothing. -/
import Derived.Test.YtljbcclfafndmaaDoorDb
import Derived.Lib.SliceRun
import Derived.Deep.Upon
namespace Go.Proofs.YtljbcclfafndmaaDoor
open Go.RowKit

def BClPost (zs : List Int) (w : World) (en : Ending) (w' : World) : Prop := ∃ v, en = .returned v ∧ OwnI w' w.heap.size v zs ∧ Below w.heap.size w w'
set_option maxRecDepth 100000 in
set_option maxHeartbeats 400000 in
theorem bclone_some (zs : List Int) (ad : Addr) (cap : Nat) (w : World) (hn : zs.length ≤ 140737488355328) (hc : ∀ j u, (zs.map (Value.int .u8))[j]? = some u → w.cell? (ad.add j) = some u) : Calls Tryd.prog 32 #[.slice (some ad) zs.length cap] w (BClPost zs w) := by
  obtain ⟨i0, hi, hz0, hz1, hz2⟩ := info_parts infoB
  have hnil := fun (W : World) (a : Option Addr) (n c : Nat) => Lib.run_eql_slice_nil (P := Tryd.prog) W 22 5 a n c 0 0 Tryd.underlying22
  have hlt : ∀ j u, (zs.map (Value.int .u8))[j]? = some u → (w.alloc (.cells #[] 5)).cell? (ad.add j) = some u := fun j u h => by
    have h2 := hc j u h
    rw [World.cell?_alloc_lt _ _ _ (World.block_lt_of_cell? w _ h2)]
    exact h2
  have HL := hid hlt
  have hlen : (zs.map (Value.int .u8)).length = zs.length * 1 := by simp
  have HLen := hid hlen
  have h1c : ∀ u ∈ zs.map (Value.int .u8), u.oneCell' = true := by
    intro u hu
    rw [List.mem_map] at hu
    obtain ⟨b, -, rfl⟩ := hu
    rfl
  have H1 := hid h1c
  clear hc hlt hlen h1c
  go_enter Tryd.func32, Tryd.ntmps32
  go_wp2_with (at_builtin; go_loud (refine wpList_append_own _ rfl (.tmp 5) (.tmp 6) 22 rfl w.heap.size 5 i0 _ 1 1 Tryd.underlying22 hi hz0 hz1 hz2 rfl (by decide) _ 0 [] rfl (owns_empty (Nat.le_refl _)) ad zs.length cap (zs.map (Value.int .u8)) rfl HLen.out HL.out H1.out (by unfold maxLen; omega) (by omega) (by simp) ?_); intro v1 w1 hown1 hgrow1 _)
  go_ret
  refine ⟨_, rfl, by unfold OwnI; simpa using hown1, Kit.below_grown (by repeat' first | with_reducible exact Below.refl _ _ | with_reducible assumption | with_reducible refine belows_drewN ?_ _ | with_reducible refine Below.drew ?_ | with_reducible refine Below.setCell ?_ ?_ _ | with_reducible refine Below.alloc ?_ ?_ _ | omega | (simp; done) | (simp; omega)) hgrow1 (by simp) (fun k hk => ?_)⟩
  have : some w.heap.size = some k := hk
  exact Nat.le_of_eq (Option.some.inj this)
theorem bclone_own (base : Nat) (zs : List Int) (g cap n : Nat) (w : World) (h : OwnI w base (.slice (some ⟨g, 0, none⟩) n cap) zs) (he : zs.length = n) (h0 : 0 < n) (hn : zs.length ≤ 140737488355328) : Calls Tryd.prog 32 #[.slice (some ⟨g, 0, none⟩) n cap] w (BClPost zs w) := by
  subst he
  have hi := Kit.isS_of_owns h hn
  obtain ⟨b, o, cap', hv, h1, h2, h3⟩ := hi.some h0
  obtain ⟨e1, -, rfl⟩ := Value.slice.inj hv
  obtain ⟨rfl, rfl, -⟩ := Addr.mk.inj (Option.some.inj e1)
  exact bclone_some zs ⟨g, 0, none⟩ cap w hn (fun j u hj => by rw [Go.WideShapes.add_plain]; exact h3 j u hj)
theorem src_none (c : Nat) (w : World) : Src Tryd.prog 1 22 (.slice none 0 c) 0 [] w :=
  ⟨.inl ⟨_, Tryd.underlying22⟩, fun _ => rfl, rfl, rfl, rfl, fun u hu => by cases hu⟩
/-- Nothing is appended. -/
theorem wpList_append_nothing {w : World} {ops : Array Oper} {rest : List Oper} {o : Oper} {a : Act} {Q : Exit → Act → World → Prop} (hgd : o.guard = none) (s x : Operand)
    (ho : o.op = .call { callee := .builtin .append, args := #[s, x], argTypes := #[22, 22] }) (ad : Option Addr) (n cap c : Nat) (hle : n ≤ cap)
    (hs : a.eval s = .slice ad n cap) (hx : a.eval x = .slice none 0 c) (h : wpList Tryd.prog ops Q rest (a.put o.dst (.slice ad n cap)) w) : wpList Tryd.prog ops Q (o :: rest) a w := by
  refine wpList_plain hgd fun K hK => ?_
  obtain ⟨i0, hi, -, hz1, -⟩ := info_parts infoB
  have hr := run_append_nothing (P := Tryd.prog) w 22 22 o.type 5 i0 Tryd.underlying22 hi ad n cap hle (.slice none 0 c) (by rw [hz1]; exact src_none c w)
  unfold Oper.wp execOp
  simp only [ho, resolve, invoke, builtin, Sem.run_bind, Sem.run_pure, Result.andThen_ok, List.map_toArray, List.map_cons, List.map_nil, hs, hx, hr]
  exact hK _ _ h
end Go.Proofs.YtljbcclfafndmaaDoor

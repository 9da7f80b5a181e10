/- Contract of the iterator of strings.SplitSeq at the mark /. -/
import Derived.Test.YthhjenmgcbmphaaDoorSeqBox
import Derived.Test.YthhjenmgcbmphaaDoorNc
namespace Go.Proofs.YthhjenmgcbmphaaDoor
open Go.RowKit

attribute [local go_sem] Oper.semAt_some

/-- A text that is not longer than any may be. -/
abbrev Sx := { x : ByteArray // x.size ≤ 9223372036854775000 }
def strE (x : Sx) : Array Value := #[.string x.1]
def bx (x : Sx) : List UInt8 := Ds.bl x.1
/-- How long the text is that is still to be told. -/
def restLen (b : Nat) (w : World) : Nat := match w.cell? ⟨b, 0, none⟩ with | some (.string r) => r.size | _ => 0
theorem restLen_of {b : Nat} {w : World} {r : ByteArray} (h : w.cell? ⟨b, 0, none⟩ = some (.string r)) : restLen b w = r.size := by unfold restLen; rw [h]
/-- The three boxes of the iterator. -/
structure Spl (w : World) (bp bs bz : Nat) (r : ByteArray) : Prop where
  sep : Boxed w bp 9 (.string ⟨#[47]⟩)
  str : Boxed w bs 9 (.string r)
  sav : Boxed w bz 3 (.int .i64 0)
theorem Boxed.below {W W' : World} {B n₀ : Nat} {t : TypeId} {v : Value} (h : Boxed W B t v) (hb : Below n₀ W W') (hB : B < n₀) : Boxed W' B t v := (hb.block B hB).trans h
theorem Spl.below {w w' : World} {bp bs bz n₀ : Nat} {r : ByteArray} (h : Spl w bp bs bz r) (hb : Below n₀ w w') (h1 : bp < n₀) (h2 : bs < n₀) (h3 : bz < n₀) : Spl w' bp bs bz r :=
  ⟨Boxed.below h.sep hb h1, Boxed.below h.str hb h2, Boxed.below h.sav hb h3⟩
theorem Spl.set {w : World} {bp bs bz : Nat} {r : ByteArray} (h : Spl w bp bs bz r) (q : ByteArray) (h1 : bp ≠ bs) (h3 : bz ≠ bs) : Spl (w.setCell ⟨bs, 0, none⟩ (.string q)) bp bs bz q :=
  ⟨h.sep.other h1 _, h.str.set _, h.sav.other h3 _⟩
set_option maxRecDepth 100000 in
set_option maxHeartbeats 2000000 in
theorem split1_box (t : ByteArray) (bp bs bz n₀ n : Nat) (w : World) (hn : 1 ≤ n) (hs : Spl w bp bs bz t) (h1 : bp < n₀) (h2 : bs < n₀) (h3 : bz < n₀) (hn0 : n₀ ≤ w.heap.size) (d1 : bp ≠ bs) (d3 : bz ≠ bs) (hts : t.size ≤ 9223372036854775000) :
    Kit.SeqBox n Tryd.prog 49 #[.pointer (some ⟨bp, 0, none⟩), .pointer (some ⟨bs, 0, none⟩), .pointer (some ⟨bz, 0, none⟩)] strE n₀
      (fun ys => ys.map bx = Ds.splitC 47 (Ds.bl t)) (fun ys => ys.map bx <+: Ds.splitC 47 (Ds.bl t)) (Ds.splitC 47 (Ds.bl t)).length bs w := fun l J Jx W hW hJ hJb hY h0 => by
  have hS := hs.below hW (Nat.lt_of_lt_of_le h1 hn0) (Nat.lt_of_lt_of_le h2 hn0) (Nat.lt_of_lt_of_le h3 hn0)
  have cp := hS.sep.cell
  refine callsIn_of_wp Tryd.func49 rfl trivial ?_ rfl
  simp only [Tryd.ntmps49, List.size_toArray, List.length_cons, List.length_nil, Nat.reduceAdd, Nat.reduceSub, Array.replicate_succ, Array.replicate_zero, List.push_toArray, List.append_toArray, List.nil_append, List.cons_append]
  gi_wp2
  clear cp
  gi_loopw [7] (fun _ wr => ∃ (pre : List Sx) (r : ByteArray), Spl wr bp bs bz r ∧ J pre wr ∧ r.size ≤ 9223372036854775000 ∧ Hid (Ds.splitC 47 (Ds.bl t) = pre.map bx ++ Ds.splitC 47 (Ds.bl r))) (fun _ wr => restLen bs wr)
  case atStart => exact ⟨[], t, hS, h0, hts, rfl⟩
  case round =>
    obtain ⟨pre, r, hSp, hJs, hrs, hsplit⟩ := hrel
    have cp := hSp.sep.cell
    have cs := hSp.str.cell
    have fs := hSp.str.frozen
    have cz := hSp.sav.cell
    have hlen : pre.length < (Ds.splitC 47 (Ds.bl t)).length := by
      rw [hsplit.out, List.length_append, List.length_map]
      have := List.length_pos_iff.2 (Ds.splitC_ne 47 (Ds.bl r))
      omega
    have HI := hid (Sh.strings_Index_one r 47 wr)
    cases hcut : Ds.cutC 47 (Ds.bl r) with
    | none =>
      have HF : Hid (Ds.splitC 47 (Ds.bl t) = (pre ++ [(⟨r, hrs⟩ : Sx)]).map bx) := by show _ = _; rw [hsplit.out, Ds.split_none hcut]; simp [bx]
      obtain ⟨fn, tmps, assign, body, hy, hR⟩ := hY pre (⟨r, hrs⟩ : Sx) wr hJs hlen
      have HI2 := HI.out
      rw [Ds.idx_none hcut] at HI2
      have HI3 := hid HI2
      unfold strE at hy
      clear HI HI2 hsplit hcut
      gi_wp2_with (refine ⟨trivial, ?_⟩; gi_at_call 51; refine (callsIn_wide.2 HI3.out).mono ?_; rintro e w1 ⟨rfl, rfl⟩)
      refine hR.mono ?_
      rintro e W3 (⟨rfl, hJ3, hk3⟩ | ⟨rfl, hJx3⟩)
      · gi_wp2
        go_end0
        exact ⟨⟨_, rfl⟩, .inl ⟨_, HF.out.symm, hJ3⟩⟩
      · gi_wp2
        go_end0
        exact ⟨⟨_, rfl⟩, .inr ⟨_, by rw [HF.out]; exact List.prefix_rfl, hJx3⟩⟩
    | some ab =>
      obtain ⟨a, b⟩ := ab
      obtain ⟨m, hm⟩ : ∃ m, a.length = m := ⟨_, rfl⟩
      have hal : m < r.size := by
        have := congrArg List.length (Ds.cut_eq hcut)
        rw [bl_len, List.length_append, List.length_cons] at this
        omega
      have hex : (r.extract 0 m).size ≤ 9223372036854775000 := by have := ext_size r 0 m; omega
      have hfr : Ds.bl (r.extract 0 m) = a := by
        rw [bl_ext, Ds.cut_eq hcut, ← hm]; simp
      have hre : Ds.bl (r.extract (m + 1) r.size) = b := by
        rw [bl_ext, ← bl_len, Ds.cut_eq hcut, ← hm]
        rw [show (a ++ 47 :: b).drop (a.length + 1) = b by rw [List.drop_append, List.drop_eq_nil_of_le (by omega)]; simp]
        exact List.take_of_length_le (by simp; omega)
      have HF : Hid (Ds.splitC 47 (Ds.bl t) = (pre ++ [(⟨r.extract 0 m, hex⟩ : Sx)]).map bx ++ Ds.splitC 47 (Ds.bl (r.extract (m + 1) r.size))) := by
        show _ = _
        rw [hsplit.out, Ds.split_some hcut, List.map_append, List.map_cons, List.map_nil, hre, show bx ⟨r.extract 0 m, hex⟩ = a from hfr]; simp
      obtain ⟨fn, tmps, assign, body, hy, hR⟩ := hY pre (⟨r.extract 0 m, hex⟩ : Sx) wr hJs hlen
      have HI2 := HI.out
      rw [Ds.idx_some hcut, hm] at HI2
      have HI3 := hid HI2
      unfold strE at hy
      have hal' : (m : Int) < r.size := by omega
      clear HI HI2 hsplit
      gi_wp2_with (refine ⟨trivial, ?_⟩; gi_at_call 51; refine (callsIn_wide.2 HI3.out).mono ?_; rintro e w1 ⟨rfl, rfl⟩)
      refine hR.mono ?_
      rintro e W3 (⟨rfl, hJ3, hk3⟩ | ⟨rfl, hJx3⟩)
      · have hS3 := hSp.below hk3 h1 h2 h3
        have cp3 := hS3.sep.cell
        have cs3 := hS3.str.cell
        have fs3 := hS3.str.frozen
        gi_wp2
        go_roundw
        case rel => exact ⟨pre ++ [⟨r.extract 0 m, hex⟩], r.extract (m + 1) r.size, hS3.set _ d1 d3, hJb _ _ _ hJ3, by have := ext_size r (m + 1) r.size; omega, HF⟩
        case measure =>
          rw [restLen_of (hS3.set (r.extract (m + 1) r.size) d1 d3).str.cell, restLen_of cs, ByteArray.size_extract]
          omega
      · gi_wp2
        refine bodyPost_ret (results_none rfl _ _ _) rfl ?_
        exact ⟨⟨_, rfl⟩, .inr ⟨_, by rw [HF.out]; exact List.prefix_append _ _, hJx3⟩⟩
end Go.Proofs.YthhjenmgcbmphaaDoor

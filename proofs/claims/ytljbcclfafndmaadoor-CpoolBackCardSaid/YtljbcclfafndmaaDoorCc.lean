/- Contracts of the reader's take, number, text. -/
import Derived.Test.YtljbcclfafndmaaDoorCb
namespace Go.Proofs.YtljbcclfafndmaaDoor
open Go.RowKit

abbrev bv (c : UInt8) : Value := .int .u8 (c.toNat : Int)
/-- A slice that reads as these bytes, in a block below a bound. -/
def Bs (lim : Nat) (w : World) (v : Value) (bs : List UInt8) : Prop :=
  bs.length ≤ 281474976710656 ∧ ((bs = [] ∧ ∃ a cap, v = .slice a 0 cap) ∨ ∃ b o cap, v = .slice (some ⟨b, o, none⟩) bs.length cap ∧ bs.length ≤ cap ∧ b < lim ∧ ∀ i c, bs[i]? = some c → w.cell? ⟨b, o + i, none⟩ = some (bv c))
theorem Bs.len {lim : Nat} {w : World} {v : Value} {bs : List UInt8} (h : Bs lim w v bs) : ∃ a cap, v = .slice a bs.length cap := by
  rcases h.2 with ⟨rfl, a, cap, rfl⟩ | ⟨b, o, cap, rfl, -⟩
  · exact ⟨a, cap, rfl⟩
  · exact ⟨_, cap, rfl⟩
theorem Bs.same {lim : Nat} {w w' : World} {v : Value} {bs : List UInt8} (h : Bs lim w v bs) (hc : ∀ b o, b < lim → w'.cell? ⟨b, o, none⟩ = w.cell? ⟨b, o, none⟩) : Bs lim w' v bs := by
  refine ⟨h.1, ?_⟩
  rcases h.2 with h | ⟨b, o, cap, hv, hl, hb, hr⟩
  · exact .inl h
  · exact .inr ⟨b, o, cap, hv, hl, hb, fun i c hi => (hc b _ hb).trans (hr i c hi)⟩
theorem Bs.below {lim B : Nat} {w w' : World} {v : Value} {bs : List UInt8} (h : Bs lim w v bs) (hb : Below B w w') (hB : lim ≤ B) : Bs lim w' v bs :=
  h.same fun b o hlt => hb.cell (p := ⟨b, o, none⟩) (by simp; omega)
theorem Bs.mono {lim lim' : Nat} {w : World} {v : Value} {bs : List UInt8} (h : Bs lim w v bs) (hl : lim ≤ lim') : Bs lim' w v bs := by
  refine ⟨h.1, ?_⟩
  rcases h.2 with h | ⟨b, o, cap, hv, hl2, hb, hr⟩
  · exact .inl h
  · exact .inr ⟨b, o, cap, hv, hl2, by omega, hr⟩
/-- A reader, and what is left of its bytes. -/
def Rdr (w : World) (pb : Nat) (bs : List UInt8) : Prop := ∃ v, w.heap[pb]? = some (.cells #[v] 57 (0, 0)) ∧ Bs pb w v bs
theorem Rdr.sz {w : World} {pb : Nat} {bs : List UInt8} (h : Rdr w pb bs) : pb < w.heap.size := by obtain ⟨v, h, -⟩ := h; exact (Array.getElem?_eq_some_iff.1 h).1
theorem Rdr.below {w w' : World} {pb n : Nat} {bs : List UInt8} (h : Rdr w pb bs) (hb : Below n w w') (hp : pb < n) : Rdr w' pb bs := by
  obtain ⟨v, h, k⟩ := h
  exact ⟨v, (hb.block pb hp).trans h, k.below hb (by omega)⟩
/-- The reader's box has turned, and nothing else below. -/
def Stp (pb : Nat) (bs : List UInt8) (w w' : World) : Prop := w.grownBy w' (some pb) ∧ Rdr w' pb bs
def pan (er : Int) : Ending := .panicked [{ v := .iface 24 (.int .i64 er), recovered := false }]
/-- It gives up. -/
def Bad (pb : Nat) (er : Int) (w : World) (e : Ending) (w' : World) : Prop := e = pan er ∧ w.grownBy w' (some pb)
theorem grownBy_setCell' (w : World) (p : Addr) (v : Value) : w.grownBy (w.setCell p v) (some p.block) := ⟨rfl, rfl, rfl, by simp, fun i _ hne => Below.heap_setCell _ _ _ i (fun e => hne (by rw [e]))⟩
theorem drop_at {bs : List UInt8} {k i : Nat} {c : UInt8} (h : (bs.drop k)[i]? = some c) : bs[k + i]? = some c := by rwa [List.getElem?_drop] at h
theorem take_at {bs : List UInt8} {k i : Nat} {c : UInt8} (h : (bs.take k)[i]? = some c) : bs[i]? = some c := by
  rw [List.getElem?_take] at h
  split at h
  · exact h
  · cases h
theorem bx_set {w : World} {pb : Nat} {v : Value} (h : w.heap[pb]? = some (.cells #[v] 57 (0, 0))) (u : Value) : (w.setCell ⟨pb, 0, none⟩ u).heap[pb]? = some (.cells #[u] 57 (0, 0)) := by
  obtain ⟨hlt, hk⟩ := Array.getElem?_eq_some_iff.1 h
  show (w.heap.modify pb _)[pb]? = _
  rw [Array.getElem?_eq_getElem (by rw [Array.size_modify]; exact hlt), Array.getElem_modify_self, hk]
  rfl
theorem set_cell_other (w : World) (pb b j : Nat) (u : Value) (h : b < pb) : (w.setCell ⟨pb, 0, none⟩ u).cell? ⟨b, j, none⟩ = w.cell? ⟨b, j, none⟩ :=
  World.cell?_setCell_other _ _ _ _ (fun e => by have := (Addr.mk.inj e).1; omega)
set_option maxRecDepth 100000 in
set_option maxHeartbeats 400000 in
theorem take_bad (pb k : Nat) (bs : List UInt8) (w : World) (hr : Rdr w pb bs) (h : bs.length < k) (_hk : k ≤ 281474976710656) :
    Calls Tryd.prog 62 #[.pointer (some ⟨pb, 0, none⟩), .int .i64 k] w fun e w' => e = pan 30 ∧ w = w' := by
  have hps := hr.sz
  obtain ⟨v, hb, hv⟩ := hr
  obtain ⟨a, cap, rfl⟩ := hv.len
  have cl : w.cell? ⟨pb, 0, none⟩ = some (.slice a bs.length cap) := by simp [World.cell?, hb]
  have hd : decide ((bs.length : Int) < (k : Int)) = true := by simp; omega
  have hl := hv.1
  unfold pan
  clear hb hv
  go_enter Tryd.func62, Tryd.ntmps62
  go_wp2
  exact ⟨rfl, rfl, rfl⟩
set_option maxRecDepth 100000 in
set_option maxHeartbeats 400000 in
theorem take_ok (pb k : Nat) (bs : List UInt8) (w : World) (hr : Rdr w pb bs) (h : k ≤ bs.length) :
    Calls Tryd.prog 62 #[.pointer (some ⟨pb, 0, none⟩), .int .i64 k] w fun e w' => ∃ v, e = .returned v ∧ Bs pb w' v (bs.take k) ∧ Stp pb (bs.drop k) w w' := by
  have hps := hr.sz
  obtain ⟨v, hb, hv⟩ := hr
  have hl := hv.1
  rcases hv.2 with ⟨rfl, a, cap, rfl⟩ | ⟨b, o, cap, rfl, hcap, hlim, hc⟩
  · obtain rfl : k = 0 := by simpa using h
    have cl : w.cell? ⟨pb, 0, none⟩ = some (.slice a 0 cap) := by simp [World.cell?, hb]
    have fz : w.frozen? ⟨pb, 0, none⟩ = false := by simp [World.frozen?, hb]
    clear hv h hl
    have Hb := hid hb
    clear hb
    cases a with
    | none =>
      go_enter Tryd.func62, Tryd.ntmps62
      go_wp2
      all_goals
        go_ret
        refine ⟨_, rfl, ⟨by simp, .inl ⟨rfl, _, _, rfl⟩⟩, grownBy_setCell' _ _ _, _, bx_set Hb.out _, by simp, .inl ⟨rfl, _, _, rfl⟩⟩
    | some ad =>
      go_enter Tryd.func62, Tryd.ntmps62
      go_wp2
      all_goals
        go_ret
        refine ⟨_, rfl, ⟨by simp, .inl ⟨rfl, _, _, rfl⟩⟩, grownBy_setCell' _ _ _, _, bx_set Hb.out _, by simp, .inl ⟨rfl, _, _, rfl⟩⟩
  · have cl : w.cell? ⟨pb, 0, none⟩ = some (.slice (some ⟨b, o, none⟩) bs.length cap) := by simp [World.cell?, hb]
    have fz : w.frozen? ⟨pb, 0, none⟩ = false := by simp [World.frozen?, hb]
    have hd : decide ((bs.length : Int) < (k : Int)) = false := by simp; omega
    have Hb := hid hb
    have HC := hid hc
    have HK := hid h
    clear hv hb hc
    go_enter Tryd.func62, Tryd.ntmps62
    go_wp2
    all_goals
      go_ret
      refine ⟨_, rfl, ?_, grownBy_setCell' _ _ _, _, bx_set Hb.out _, ?_⟩
    · refine ⟨by rw [List.length_take]; omega, .inr ⟨b, o, _, by rw [List.length_take, Nat.min_eq_left HK.out]; rfl, by rw [List.length_take]; omega, hlim, fun i c hi => ?_⟩⟩
      rw [set_cell_other _ _ _ _ _ hlim]
      exact HC.out i c (take_at hi)
    · have hk : bs.length = k := by have := HK.out; omega
      exact ⟨by rw [List.length_drop]; omega, .inl ⟨List.drop_eq_nil_of_le (by omega), _, _, by rw [hk, Nat.sub_self]⟩⟩
    · refine ⟨by rw [List.length_take]; omega, .inr ⟨b, o, _, by rw [List.length_take, Nat.min_eq_left HK.out]; rfl, by rw [List.length_take]; have := HK.out; omega, hlim, fun i c hi => ?_⟩⟩
      rw [set_cell_other _ _ _ _ _ hlim]
      exact HC.out i c (take_at hi)
    · refine ⟨by rw [List.length_drop]; omega, .inr ⟨b, o + k, _, by rw [List.length_drop], by rw [List.length_drop]; omega, hlim, fun i c hi => ?_⟩⟩
      rw [set_cell_other _ _ _ _ _ hlim, Nat.add_assoc]
      exact HC.out (k + i) c (drop_at hi)
theorem Bs.at {lim : Nat} {w : World} {a : Option Addr} {n cap : Nat} {bs : List UInt8} (h : Bs lim w (.slice a n cap) bs) {k : Nat} {c : UInt8} (hk : bs[k]? = some c) :
    ∃ b o, a = some ⟨b, o, none⟩ ∧ b < lim ∧ w.cell? ⟨b, o + k, none⟩ = some (bv c) := by
  rcases h.2 with ⟨rfl, -⟩ | ⟨b, o, cap', hv, -, hlim, hc⟩
  · simp at hk
  · obtain ⟨rfl, -, -⟩ := Value.slice.inj hv
    exact ⟨b, o, rfl, hlim, hc k c hk⟩
theorem numI_step {l : List UInt8} {k : Nat} {c : UInt8} (h : l[k]? = some c) : Cp.numI (l.take (k + 1)) = wrap64 (Cp.numI (l.take k) * 256 + (c.toNat : Int)) := by
  rw [List.take_add_one, h]
  exact Cp.numI_snoc _ _
set_option maxRecDepth 100000 in
set_option maxHeartbeats 400000 in
theorem number_bad (pb k : Nat) (bs : List UInt8) (w : World) (hr : Rdr w pb bs) (h : bs.length < k) (hk : k ≤ 281474976710656) :
    Calls Tryd.prog 58 #[.pointer (some ⟨pb, 0, none⟩), .int .i64 k] w fun e w' => e = pan 30 ∧ w = w' := by
  have HT := hid (take_bad pb k bs w hr h hk)
  unfold pan at HT ⊢
  clear hr h
  go_enter Tryd.func58, Tryd.ntmps58
  go_wp2_with (go_at_call 62; refine HT.out.mono ?_; rintro e w1 ⟨rfl, rfl⟩)
  exact ⟨rfl, rfl, rfl⟩
set_option maxRecDepth 100000 in
set_option maxHeartbeats 400000 in
theorem number_ok (pb k : Nat) (bs : List UInt8) (w : World) (hr : Rdr w pb bs) (h : k ≤ bs.length) :
    Calls Tryd.prog 58 #[.pointer (some ⟨pb, 0, none⟩), .int .i64 k] w fun e w' => e = .returned (.int .i64 (Cp.numI (bs.take k))) ∧ Stp pb (bs.drop k) w w' := by
  have HT := hid (take_ok pb k bs w hr h)
  have hl : (bs.take k).length = k := by rw [List.length_take]; omega
  have hbl : bs.length ≤ 281474976710656 := by obtain ⟨v, -, hv⟩ := hr; exact hv.1
  obtain ⟨xs, hxs⟩ : ∃ xs, xs = bs.take k := ⟨_, rfl⟩
  rw [← hxs] at HT hl ⊢
  have HX := hid hxs
  clear hxs hr
  go_enter Tryd.func58, Tryd.ntmps58
  go_wp2_with (go_at_call 62; refine HT.out.mono ?_; rintro e w1 ⟨v, rfl, hv, hs⟩; obtain ⟨a, cap, rfl⟩ := hv.len; have HV := hid hv; have HS := hid hs; rw [hl]; clear hv hs)
  go_loopw [5, 12] (fun n i wr => ∃ j : Nat, j ≤ k ∧ i = .int .i64 j ∧ n = .int .i64 (Cp.numI (xs.take j)) ∧ wr = w1) (fun _ i _ => k - (intOf i).toNat)
  case atStart => exact ⟨0, by omega, rfl, rfl, rfl⟩
  case round =>
    obtain ⟨j, hj, rfl, rfl, rfl⟩ := hrel
    by_cases hlt : j < k
    · obtain ⟨c, hc⟩ : ∃ c, xs[j]? = some c := ⟨xs[j], List.getElem?_eq_getElem (by omega)⟩
      obtain ⟨b, o, ha, hb, hcell⟩ := HV.out.at hc
      have HStep := hid (numI_step hc)
      obtain ⟨z, hz⟩ : ∃ z, z = Cp.numI (xs.take j) := ⟨_, rfl⟩
      rw [← hz] at HStep ⊢
      have hor : bits .or .i64 (wrap64 (z * 256)) (c.toNat : Int) = wrap64 (z * 256 + (c.toNat : Int)) := Cp.or_step z c.toNat (Cp.u8_lt c)
      subst ha
      have hji : (j : Int) < k := by omega
      clear hc hz
      go_wp2
      go_roundw
      case rel => exact ⟨j + 1, by omega, by go_num, by rw [HStep.out, ← hor, show wrap64 (c.toNat : Int) = (c.toNat : Int) by have := Cp.u8_lt c; unfold wrap64; omega], by trivial⟩
      case measure => simp [intOf]; omega
    · obtain rfl : j = k := by omega
      have HE := hid (show xs.take j = xs from List.take_of_length_le (by omega))
      go_wp2
      go_ret
      exact ⟨by show Ending.returned (.int .i64 (Cp.numI (xs.take j))) = _; rw [HE.out], HS.out⟩
end Go.Proofs.YtljbcclfafndmaaDoor

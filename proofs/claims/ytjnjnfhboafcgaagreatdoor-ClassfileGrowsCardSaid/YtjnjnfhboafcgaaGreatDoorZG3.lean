/- Own texts for the claim, part 3. -/
import Derived.Test.YtjnjnfhboafcgaaGreatDoorZG2
import Derived.Deep.WholeRow
import Derived.Deep.OwnRows
import Derived.Deep.LoopGhost
import Derived.Lib.SliceRun
import Derived.Test.YtjnjnfhboafcgaaGreatDoorChecked
namespace Go.Proofs.YtjnjnfhboafcgaaGreatDoor.L3
open Go.RowKit

set_option maxRecDepth 100000 in
set_option maxHeartbeats 400000 in
theorem get_any (lim : Nat) (bs : List UInt8) (v : Value) (w : World) (hv : Bs lim w v bs) :
    Calls Tryz.prog 82 #[v] w fun e w' => e = .returned (.int .i64 (Cp.numI bs)) ∧ w = w' := by
  have HV := hid hv
  have hl := hv.1
  obtain ⟨a, cap, rfl⟩ := hv.len
  clear hv
  go_enter Tryz.func82, Tryz.ntmps82
  go_wp2
  go_loopw [3, 4] (fun n i wr => ∃ j : Nat, j ≤ bs.length ∧ i = .int .i64 j ∧ n = .int .i64 (Cp.numI (bs.take j)) ∧ wr = w) (fun _ i _ => bs.length - (intOf i).toNat)
  case atStart => exact ⟨0, by omega, rfl, rfl, rfl⟩
  case round =>
    obtain ⟨j, hj, rfl, rfl, rfl⟩ := hrel
    by_cases hlt : j < bs.length
    · obtain ⟨c, hc⟩ : ∃ c, bs[j]? = some c := ⟨bs[j], List.getElem?_eq_getElem (by omega)⟩
      obtain ⟨b, o, ha, hb, hcell⟩ := HV.out.at hc
      have HStep := hid (numI_step hc)
      obtain ⟨z, hz⟩ : ∃ z, z = Cp.numI (bs.take j) := ⟨_, rfl⟩
      rw [← hz] at HStep ⊢
      have hor : bits .or .i64 (wrap64 (z * 256)) (c.toNat : Int) = wrap64 (z * 256 + (c.toNat : Int)) := Cp.or_step z c.toNat (Cp.u8_lt c)
      subst ha
      have hji : (j : Int) < bs.length := by omega
      clear hc hz
      go_wp2
      go_roundw
      case rel => exact ⟨j + 1, by omega, by go_num, by rw [HStep.out, ← hor, show wrap64 (c.toNat : Int) = (c.toNat : Int) by have := Cp.u8_lt c; unfold wrap64; omega], by trivial⟩
      case measure => simp [intOf]; omega
    · obtain rfl : j = bs.length := by omega
      have HE := hid (show bs.take bs.length = bs from List.take_length)
      go_wp2
      go_ret
      exact ⟨by show Ending.returned (.int .i64 (Cp.numI (bs.take bs.length))) = _; rw [HE.out], rfl⟩
set_option maxRecDepth 100000 in
set_option maxHeartbeats 400000 in
theorem known_any (t : Int) (w : World) : Calls Tryz.prog 139 #[.int .i64 t] w fun e w' => e = .returned (.bool (Cp.knownB t)) ∧ w = w' := by
  have H := hid (show (t == 1 || t == 3 || t == 5 || t == 7 || t == 9 || t == 10 || t == 12) = Cp.knownB t by
    unfold Cp.knownB
    rw [Bool.eq_iff_iff]
    simp [or_assoc])
  go_enter Tryz.func139, Tryz.ntmps139
  go_wp2
  all_goals go_ret
  all_goals first | exact ⟨by rw [← H.out]; rfl, rfl⟩ | exact ⟨by show Ending.returned (.bool true) = _; rw [← H.out]; simp [*], rfl⟩
/-- How many bytes an entry has behind its tag. -/
def szOf (t : Int) : Nat := if t = 1 ∨ t = 7 then 2 else if t = 5 then 8 else 4
set_option maxRecDepth 100000 in
set_option maxHeartbeats 400000 in
theorem size_any (t : Int) (w : World) : Calls Tryz.prog 140 #[.int .i64 t] w fun e w' => e = .returned (.int .i64 (szOf t)) ∧ w = w' := by
  unfold szOf
  by_cases h1 : t = 1
  · subst h1
    go_enter Tryz.func140, Tryz.ntmps140
    go_wp2
    go_ret
    exact ⟨rfl, rfl⟩
  by_cases h7 : t = 7
  · subst h7
    go_enter Tryz.func140, Tryz.ntmps140
    go_wp2
    go_ret
    exact ⟨rfl, rfl⟩
  rw [if_neg (by omega)]
  by_cases h5 : t = 5
  · subst h5
    go_enter Tryz.func140, Tryz.ntmps140
    go_wp2
    go_ret
    exact ⟨rfl, rfl⟩
  · rw [if_neg h5]
    go_enter Tryz.func140, Tryz.ntmps140
    go_wp2
    go_ret
    exact ⟨rfl, rfl⟩
set_option maxRecDepth 100000 in
set_option maxHeartbeats 400000 in
theorem texts_any (s : ByteArray) (w : World) (hs : s.size ≤ 140737488355328) :
    Calls Tryz.prog 141 #[.string s] w fun e w' => e = .returned (.bool (Cp.plainB (Cp.bl s) && decide (s.size ≤ 255))) ∧ w = w' := by
  unfold Cp.plainB
  obtain ⟨f, hf⟩ : ∃ f : UInt8 → Bool, f = fun c => decide (1 ≤ c.toNat) && decide (c.toNat ≤ 127) := ⟨_, rfl⟩
  rw [← hf]
  obtain ⟨r, hr⟩ : ∃ r, r = (Cp.bl s).all f := ⟨_, rfl⟩
  rw [← hr]
  have HR := hid hr
  clear hr
  go_enter Tryz.func141, Tryz.ntmps141
  go_wp2
  go_loop [3] (fun i => ∃ k : Nat, k ≤ s.size ∧ i = .int .i64 k ∧ Hid (((Cp.bl s).take k).all f = true)) (fun i => s.size - (intOf i).toNat)
  case atStart => exact ⟨0, Nat.zero_le _, rfl, rfl⟩
  case round =>
    obtain ⟨k, hk, rfl, hg⟩ := hrel
    by_cases hlt : k < s.size
    · have HF0 : f s[k] = (decide (1 ≤ s[k].toNat) && decide (s[k].toNat ≤ 127)) := by rw [hf]
      clear hf
      by_cases h1 : s[k].toNat = 0
      · have hd : ((s[k].toNat : Int) == 0) = true := by rw [beq_iff_eq]; omega
        have HF := hid (HR.out.trans <| all_bad (f := f) hlt (by rw [HF0]; simp; omega))
        clear HF0
        go_wp2
        go_ret
        exact ⟨by rw [HF.out]; rfl, rfl⟩
      · have hd : ((s[k].toNat : Int) == 0) = false := by rw [beq_eq_false_iff_ne]; omega
        by_cases h2 : 127 < (s[k].toNat : Int)
        · have hd2 : decide (127 < (s[k].toNat : Int)) = true := by simpa using h2
          have HF := hid (HR.out.trans <| all_bad (f := f) hlt (by rw [HF0]; simp; omega))
          clear HF0
          go_wp2
          go_ret
          exact ⟨by rw [HF.out]; rfl, rfl⟩
        · have hd2 : decide (127 < (s[k].toNat : Int)) = false := by simpa using h2
          have HF := hid (all_take_step hlt hg.out (by rw [HF0]; simp; omega))
          clear HF0
          go_wp2
          go_round
          case rel => exact ⟨k + 1, by omega, by go_num, HF⟩
          case measure => simp [intOf]; omega
    · obtain rfl : k = s.size := by omega
      have HF : Hid (r = true) := by
        have h := hg.out
        show r = true
        rw [HR.out]
        rwa [List.take_of_length_le (by rw [bl_len]; exact Nat.le_refl _)] at h
      go_wp2
      go_ret
      refine ⟨?_, rfl⟩
      rw [HF.out, Bool.true_and]
      have hdd : decide ((s.size : Int) ≤ 255) = decide (s.size ≤ 255) := by rw [decide_eq_decide]; omega
      show Ending.returned (.bool (decide ((s.size : Int) ≤ 255))) = _
      rw [hdd]
end Go.Proofs.YtjnjnfhboafcgaaGreatDoor.L3
namespace Go.Proofs.YtjnjnfhboafcgaaGreatDoor.L3
open Go.RowKit

theorem txP_0 (r : List UInt8) : txP 0 r = .ok ([], r) := by
  unfold txP
  rw [if_neg (by omega), List.take_zero, show Cp.numI [] = 0 from rfl, if_neg (by decide), if_neg (by omega), if_pos (by rfl)]
  rfl
theorem en_utf (room : Int) (r : List UInt8) : enP room (1 :: r) = match txP 2 r with | .error e => .error e | .ok (s, r1) => .ok (⟨1, ⟨s.toArray⟩, 0, 0, 0⟩, r1) := by
  unfold enP
  dsimp only
  rw [show ((1 : UInt8).toNat : Int) = 1 from rfl, show Cp.wd 1 = (2, 0, 0, 0) from rfl, if_neg (by rintro (h | h); exact absurd h (by decide); exact absurd h.1 (by decide))]
  dsimp only
  cases txP 2 r with
  | error e => rfl
  | ok y =>
    obtain ⟨s, r1⟩ := y
    dsimp only
    rw [if_neg (by omega), if_neg (by omega), if_neg (by omega)]
    rfl
theorem en_int (room : Int) (r : List UInt8) : enP room (3 :: r) = if r.length < 4 then .error 30 else .ok (⟨3, ⟨#[]⟩, IntKind.i32.wrap (Cp.numI (r.take 4)), 0, 0⟩, r.drop 4) := by
  unfold enP
  dsimp only
  rw [show ((3 : UInt8).toNat : Int) = 3 from rfl, show Cp.wd 3 = (0, 4, 0, 0) from rfl, if_neg (by rintro (h | h); exact absurd h (by decide); exact absurd h.1 (by decide))]
  dsimp only
  rw [txP_0]
  dsimp only
  by_cases h : r.length < 4
  · rw [if_pos h, if_pos h]
  · rw [if_neg h, if_neg h, if_neg (by omega), if_neg (by omega)]
    rfl
theorem numI_wrap (l : List UInt8) : IntKind.i64.wrap (Cp.numI l) = Cp.numI l := by
  rw [Cp.numI_U, IntWalk.i64_left]
  unfold Cp.W64 wrap64
  omega
theorem en_long (room : Int) (hroom : ¬ room < 2) (r : List UInt8) : enP room (5 :: r) = if r.length < 8 then .error 30 else .ok (⟨5, ⟨#[]⟩, Cp.numI (r.take 8), 0, 0⟩, r.drop 8) := by
  unfold enP
  dsimp only
  rw [show ((5 : UInt8).toNat : Int) = 5 from rfl, show Cp.wd 5 = (0, 8, 0, 0) from rfl, if_neg (by rintro (h | h); exact absurd h (by decide); exact hroom h.2)]
  dsimp only
  rw [txP_0]
  dsimp only
  by_cases h : r.length < 8
  · rw [if_pos h, if_pos h]
  · rw [if_neg h, if_neg h, if_neg (by omega), if_neg (by omega), show sgn (Cp.numI (r.take 8)) 8 = Cp.numI (r.take 8) from numI_wrap _]
    rfl
theorem en_class (room : Int) (r : List UInt8) : enP room (7 :: r) = if r.length < 2 then .error 30 else .ok (⟨7, ⟨#[]⟩, 0, Cp.numI (r.take 2), 0⟩, r.drop 2) := by
  unfold enP
  dsimp only
  rw [show ((7 : UInt8).toNat : Int) = 7 from rfl, show Cp.wd 7 = (0, 0, 2, 0) from rfl, if_neg (by rintro (h | h); exact absurd h (by decide); exact absurd h.1 (by decide))]
  dsimp only
  rw [txP_0]
  dsimp only
  rw [if_neg (by omega)]
  by_cases h : r.length < 2
  · rw [List.drop_zero, if_pos h, if_pos h]
  · rw [List.drop_zero, if_neg h, if_neg h, if_neg (by omega)]
    rfl
theorem en_two (room : Int) (c : UInt8) (r : List UInt8) (hc : (c.toNat : Int) = 9 ∨ (c.toNat : Int) = 10 ∨ (c.toNat : Int) = 12) : enP room (c :: r) = if r.length < 4 then .error 30 else .ok (⟨(c.toNat : Int), ⟨#[]⟩, 0, Cp.numI (r.take 2), Cp.numI ((r.drop 2).take 2)⟩, r.drop 4) := by
  unfold enP
  dsimp only
  have hk : Cp.knownB (c.toNat : Int) = true := by unfold Cp.knownB; rw [decide_eq_true_iff]; omega
  have hw : Cp.wd (c.toNat : Int) = (0, 0, 2, 2) := by unfold Cp.wd; rw [if_neg (by omega), if_neg (by omega), if_neg (by omega), if_neg (by omega), if_pos (by omega)]
  rw [hw, if_neg (by rw [hk]; rintro (h | h); exact absurd h (by decide); omega)]
  dsimp only
  rw [txP_0]
  dsimp only
  rw [if_neg (by omega), List.drop_zero]
  by_cases h2 : r.length < 2
  · rw [if_pos h2, if_pos (by omega)]
  · rw [if_neg h2]
    by_cases h : r.length < 4
    · rw [if_pos h, if_pos (by rw [List.length_drop]; omega)]
    · rw [if_neg h, if_neg (by rw [List.length_drop]; omega), List.drop_drop]
      rfl
/-- What one tells of the bytes. -/
def oneO (last : Bool) (bs : List UInt8) : Cp.C × Int × Int := match enP (if last then 1 else 2) bs with
  | .error e => (Cp.C0, 0, e)
  | .ok (c, r) => (c, (bs.length : Int) - (r.length : Int), 0)
theorem sub_bs {lim : Nat} {w : World} {b o n cap : Nat} {bs : List UInt8} (h : Bs lim w (.slice (some ⟨b, o, none⟩) n cap) bs) {i j : Nat} (hij : i ≤ j) (hj : j ≤ bs.length) :
    Bs lim w (.slice (some ⟨b, o + i, none⟩) (j - i) (cap - i)) ((bs.drop i).take (j - i)) := by
  have hl := h.1
  have hlen : ((bs.drop i).take (j - i)).length = j - i := by rw [List.length_take, List.length_drop]; omega
  refine ⟨by rw [hlen]; omega, ?_⟩
  by_cases h0 : j - i = 0
  · refine .inl ⟨List.eq_nil_of_length_eq_zero (by omega), _, _, by rw [h0]⟩
  · rcases h.2 with ⟨rfl, -⟩ | ⟨b', o', cap', hv, hcap, hb, hc⟩
    · simp at hj; omega
    · obtain ⟨h1, -, rfl⟩ := Value.slice.inj hv
      obtain ⟨rfl, rfl⟩ : b = b' ∧ o = o' := by simpa using h1
      refine .inr ⟨b, o + i, _, by rw [hlen], by rw [hlen]; omega, hb, fun k c hk => ?_⟩
      rw [Nat.add_assoc]
      exact hc (i + k) c (drop_at (take_at hk))
end Go.Proofs.YtjnjnfhboafcgaaGreatDoor.L3
namespace Go.Proofs.YtjnjnfhboafcgaaGreatDoor.L3
open Go.RowKit

def OnPost (o : Cp.C × Int × Int) (w : World) (e : Ending) (w' : World) : Prop := e = .returned (.tuple #[.agg (cC o.1), .int .i64 o.2.1, .int .i64 o.2.2]) ∧ Below w.heap.size w w'
theorem cf_get (v : Value) (w : World) : (callFunc 82 #[v]).run Tryz.prog w = .ok (.enter 82 #[v]) w := by kernel_rfl
set_option maxRecDepth 100000 in
set_option maxHeartbeats 400000 in
theorem one_nil (last : Bool) (v : Value) (w : World) (hv : Bs w.heap.size w v []) : Calls Tryz.prog 83 #[v, .bool last] w (OnPost (Cp.C0, 0, 30) w) := by
  unfold OnPost cC Cp.C0
  obtain ⟨a, cap, rfl⟩ := hv.len
  clear hv
  go_enter Tryz.func83, Tryz.ntmps83
  go_wp2
  exact bodyPost_ret (v := .tuple #[.agg #[.int .i64 0, .string ⟨#[]⟩, .int .i64 0, .int .i64 0, .int .i64 0], .int .i64 0, .int .i64 30]) (by simp [results, Tryz.results83, go_sem]) rfl ⟨rfl, (by repeat' first | with_reducible exact Below.refl _ _ | with_reducible assumption | with_reducible refine belows_drewN ?_ _ | with_reducible refine Below.drew ?_ | with_reducible refine Below.setCell ?_ ?_ _ | with_reducible refine Below.alloc ?_ ?_ _ | omega | (simp; done) | (simp; omega))⟩
set_option maxRecDepth 100000 in
set_option maxHeartbeats 400000 in
theorem one_tag (last : Bool) (c : UInt8) (r : List UInt8) (v : Value) (w : World) (hv : Bs w.heap.size w v (c :: r)) (hk : Cp.knownB (c.toNat : Int) = false ∨ ((c.toNat : Int) = 5 ∧ last = true)) : Calls Tryz.prog 83 #[v, .bool last] w (OnPost (Cp.C0, 0, 31) w) := by
  unfold OnPost cC Cp.C0
  have HK0 := fun W => known_any (c.toNat : Int) W
  obtain ⟨a, cap, rfl⟩ := hv.len
  obtain ⟨b, o, rfl, hb, hcell⟩ := hv.at (k := 0) (c := c) rfl
  have hn0 : (((c :: r).length : Int) == 0) = false := by rw [beq_eq_false_iff_ne, List.length_cons]; omega
  have hn1 : (0 : Int) < ((c :: r).length : Int) := by rw [List.length_cons]; omega
  obtain ⟨n, hn⟩ : ∃ n, n = (c :: r).length := ⟨_, rfl⟩
  rw [← hn] at hn0 hn1 ⊢
  have hcu := Cp.u8_lt c
  rw [Nat.add_zero] at hcell
  clear hv hn
  cases hkk : Cp.knownB (c.toNat : Int) with
  | false =>
    rw [hkk] at HK0
    have HK := hid HK0
    clear HK0 hkk hk
    go_enter Tryz.func83, Tryz.ntmps83
    go_wp2_with (go_at_call 139; refine (HK.out _).mono ?_; rintro e w1 ⟨rfl, rfl⟩)
    exact bodyPost_ret (v := .tuple #[.agg #[.int .i64 0, .string ⟨#[]⟩, .int .i64 0, .int .i64 0, .int .i64 0], .int .i64 0, .int .i64 31]) (by simp [results, Tryz.results83, go_sem]) rfl ⟨rfl, (by repeat' first | with_reducible exact Below.refl _ _ | with_reducible assumption | with_reducible refine belows_drewN ?_ _ | with_reducible refine Below.drew ?_ | with_reducible refine Below.setCell ?_ ?_ _ | with_reducible refine Below.alloc ?_ ?_ _ | omega | (simp; done) | (simp; omega))⟩
  | true =>
    rw [hkk] at HK0
    obtain ⟨h5, rfl⟩ := hk.resolve_left (by rw [hkk]; simp)
    have hc5 : ((c.toNat : Int) == 5) = true := by simpa using h5
    have HK := hid HK0
    clear HK0 hkk hk h5
    go_enter Tryz.func83, Tryz.ntmps83
    go_wp2_with (go_at_call 139; refine (HK.out _).mono ?_; rintro e w1 ⟨rfl, rfl⟩)
    exact bodyPost_ret (v := .tuple #[.agg #[.int .i64 0, .string ⟨#[]⟩, .int .i64 0, .int .i64 0, .int .i64 0], .int .i64 0, .int .i64 31]) (by simp [results, Tryz.results83, go_sem]) rfl ⟨rfl, (by repeat' first | with_reducible exact Below.refl _ _ | with_reducible assumption | with_reducible refine belows_drewN ?_ _ | with_reducible refine Below.drew ?_ | with_reducible refine Below.setCell ?_ ?_ _ | with_reducible refine Below.alloc ?_ ?_ _ | omega | (simp; done) | (simp; omega))⟩
set_option maxRecDepth 100000 in
set_option maxHeartbeats 400000 in
theorem one_short (last : Bool) (c : UInt8) (r : List UInt8) (v : Value) (w : World) (hv : Bs w.heap.size w v (c :: r)) (hk : Cp.knownB (c.toNat : Int) = true) (hlast : (c.toNat : Int) = 5 → last = false) (hs : r.length < szOf (c.toNat : Int)) : Calls Tryz.prog 83 #[v, .bool last] w (OnPost (Cp.C0, 0, 30) w) := by
  unfold OnPost cC Cp.C0
  have HK0 := fun W => known_any (c.toNat : Int) W
  rw [hk] at HK0
  have HK := hid HK0
  have HZ0 := fun W => size_any (c.toNat : Int) W
  have hz8 : szOf (c.toNat : Int) ≤ 8 := by unfold szOf; split; omega; split <;> omega
  obtain ⟨z, hz⟩ : ∃ z, z = szOf (c.toNat : Int) := ⟨_, rfl⟩
  rw [← hz] at HZ0 hs hz8
  have HZ := hid HZ0
  obtain ⟨a, cap, rfl⟩ := hv.len
  obtain ⟨b, o, rfl, hb, hcell⟩ := hv.at (k := 0) (c := c) rfl
  have hn0 : (((c :: r).length : Int) == 0) = false := by rw [beq_eq_false_iff_ne, List.length_cons]; omega
  have hn1 : (0 : Int) < ((c :: r).length : Int) := by rw [List.length_cons]; omega
  have hn2 : decide (((c :: r).length : Int) < 1 + (z : Int)) = true := by rw [List.length_cons, decide_eq_true_iff]; omega
  obtain ⟨n, hn⟩ : ∃ n, n = (c :: r).length := ⟨_, rfl⟩
  rw [← hn] at hn0 hn1 hn2 ⊢
  have hcu := Cp.u8_lt c
  rw [Nat.add_zero] at hcell
  have hl5 : ((c.toNat : Int) == 5) = false ∨ (((c.toNat : Int) == 5) = true ∧ last = false) := by
    by_cases h : (c.toNat : Int) = 5
    · exact .inr ⟨by simpa using h, hlast h⟩
    · exact .inl (by simpa using h)
  clear hv hn HK0 HZ0 hk hlast hs hz
  rcases hl5 with hl5 | ⟨hl5, rfl⟩
  · go_enter Tryz.func83, Tryz.ntmps83
    go_wp2_with (first | (go_at_call 139; refine (HK.out _).mono ?_; rintro e w1 ⟨rfl, rfl⟩) | (go_at_call 140; refine (HZ.out _).mono ?_; rintro e w1 ⟨rfl, rfl⟩))
    exact bodyPost_ret (v := .tuple #[.agg #[.int .i64 0, .string ⟨#[]⟩, .int .i64 0, .int .i64 0, .int .i64 0], .int .i64 0, .int .i64 30]) (by simp [results, Tryz.results83, go_sem]) rfl ⟨rfl, (by repeat' first | with_reducible exact Below.refl _ _ | with_reducible assumption | with_reducible refine belows_drewN ?_ _ | with_reducible refine Below.drew ?_ | with_reducible refine Below.setCell ?_ ?_ _ | with_reducible refine Below.alloc ?_ ?_ _ | omega | (simp; done) | (simp; omega))⟩
  · go_enter Tryz.func83, Tryz.ntmps83
    go_wp2_with (first | (go_at_call 139; refine (HK.out _).mono ?_; rintro e w1 ⟨rfl, rfl⟩) | (go_at_call 140; refine (HZ.out _).mono ?_; rintro e w1 ⟨rfl, rfl⟩))
    exact bodyPost_ret (v := .tuple #[.agg #[.int .i64 0, .string ⟨#[]⟩, .int .i64 0, .int .i64 0, .int .i64 0], .int .i64 0, .int .i64 30]) (by simp [results, Tryz.results83, go_sem]) rfl ⟨rfl, (by repeat' first | with_reducible exact Below.refl _ _ | with_reducible assumption | with_reducible refine belows_drewN ?_ _ | with_reducible refine Below.drew ?_ | with_reducible refine Below.setCell ?_ ?_ _ | with_reducible refine Below.alloc ?_ ?_ _ | omega | (simp; done) | (simp; omega))⟩
set_option maxRecDepth 100000 in
set_option maxHeartbeats 400000 in
theorem one_int (last : Bool) (r : List UInt8) (v : Value) (w : World) (hv : Bs w.heap.size w v (3 :: r)) (hs : 4 ≤ r.length) : Calls Tryz.prog 83 #[v, .bool last] w (OnPost (⟨3, ⟨#[]⟩, IntKind.i32.wrap (Cp.numI (r.take 4)), 0, 0⟩, 5, 0) w) := by
  unfold OnPost cC
  dsimp only
  have HK := hid (fun W => known_any 3 W)
  rw [show Cp.knownB 3 = true from rfl] at HK
  have HZ := hid (fun W => size_any 3 W)
  rw [show szOf 3 = 4 from rfl] at HZ
  obtain ⟨a, cap, rfl⟩ := hv.len
  obtain ⟨b, o, rfl, hb, hcell⟩ := hv.at (k := 0) (c := 3) rfl
  have hsub := sub_bs hv (i := 1) (j := 5) (by omega) (by rw [List.length_cons]; omega)
  rw [show ((3 :: r).drop 1).take (5 - 1) = r.take 4 from rfl, show 5 - 1 = 4 from rfl] at hsub
  have HG0 := fun W (h : Below w.heap.size w W) => get_any w.heap.size (r.take 4) _ W (hsub.below h (Nat.le_refl _))
  have hcap : (3 :: r).length ≤ cap := by
    rcases hv.2 with ⟨h, -⟩ | ⟨b', o', cap', h, hc, -⟩
    · cases h
    · obtain ⟨-, -, rfl⟩ := Value.slice.inj h; exact hc
  rw [List.length_cons] at hcap
  have hn0 : (((3 :: r).length : Int) == 0) = false := by rw [beq_eq_false_iff_ne, List.length_cons]; omega
  have hn1 : (0 : Int) < ((3 :: r).length : Int) := by rw [List.length_cons]; omega
  have hn2 : decide (((3 :: r).length : Int) < 5) = false := by rw [List.length_cons, decide_eq_false_iff_not]; omega
  obtain ⟨n, hn⟩ : ∃ n, n = (3 :: r).length := ⟨_, rfl⟩
  obtain ⟨z, hz⟩ : ∃ z, z = Cp.numI (r.take 4) := ⟨_, rfl⟩
  rw [← hn] at hn0 hn1 hn2 ⊢
  rw [← hz] at HG0 ⊢
  have hc1 : ¬ cap = 1 := by omega
  have hc5 : (5 : Int) ≤ (cap : Int) := by omega
  have HG := hid HG0
  rw [Nat.add_zero] at hcell
  clear hv hn hz hsub HG0 hs hcap
  go_enter Tryz.func83, Tryz.ntmps83
  go_wp2_with (first | (go_at_call 139; refine (HK.out _).mono ?_; rintro e w1 ⟨rfl, rfl⟩) | (go_at_call 140; refine (HZ.out _).mono ?_; rintro e w1 ⟨rfl, rfl⟩) | (go_at_call 82; refine (HG.out _ (by repeat' first | with_reducible exact Below.refl _ _ | with_reducible assumption | with_reducible refine belows_drewN ?_ _ | with_reducible refine Below.drew ?_ | with_reducible refine Below.setCell ?_ ?_ _ | with_reducible refine Below.alloc ?_ ?_ _ | omega | (simp; done) | (simp; omega))).mono ?_; rintro e w1 ⟨rfl, rfl⟩))
  have h32 : wrap64 (wrap32 z) = IntKind.i32.wrap z := by rw [IntKind.wrap_i32]; unfold wrap64 wrap32; omega
  exact bodyPost_ret (v := .tuple #[.agg #[.int .i64 3, .string ⟨#[]⟩, .int .i64 (wrap64 (wrap32 z)), .int .i64 0, .int .i64 0], .int .i64 5, .int .i64 0]) (by simp [results, Tryz.results83, go_sem]) rfl ⟨by rw [h32], (by repeat' first | with_reducible exact Below.refl _ _ | with_reducible assumption | with_reducible refine belows_drewN ?_ _ | with_reducible refine Below.drew ?_ | with_reducible refine Below.setCell ?_ ?_ _ | with_reducible refine Below.alloc ?_ ?_ _ | omega | (simp; done) | (simp; omega))⟩
set_option maxRecDepth 100000 in
set_option maxHeartbeats 400000 in
theorem one_long (r : List UInt8) (v : Value) (w : World) (hv : Bs w.heap.size w v (5 :: r)) (hs : 8 ≤ r.length) : Calls Tryz.prog 83 #[v, .bool false] w (OnPost (⟨5, ⟨#[]⟩, Cp.numI (r.take 8), 0, 0⟩, 9, 0) w) := by
  unfold OnPost cC
  dsimp only
  have HK := hid (fun W => known_any 5 W)
  rw [show Cp.knownB 5 = true from rfl] at HK
  have HZ := hid (fun W => size_any 5 W)
  rw [show szOf 5 = 8 from rfl] at HZ
  obtain ⟨a, cap, rfl⟩ := hv.len
  obtain ⟨b, o, rfl, hb, hcell⟩ := hv.at (k := 0) (c := 5) rfl
  have hsub := sub_bs hv (i := 1) (j := 9) (by omega) (by rw [List.length_cons]; omega)
  rw [show ((5 :: r).drop 1).take (9 - 1) = r.take 8 from rfl, show 9 - 1 = 8 from rfl] at hsub
  have HG0 := fun W (h : Below w.heap.size w W) => get_any w.heap.size (r.take 8) _ W (hsub.below h (Nat.le_refl _))
  have hcap : (5 :: r).length ≤ cap := by
    rcases hv.2 with ⟨h, -⟩ | ⟨b', o', cap', h, hc, -⟩
    · cases h
    · obtain ⟨-, -, rfl⟩ := Value.slice.inj h; exact hc
  rw [List.length_cons] at hcap
  have hn0 : (((5 :: r).length : Int) == 0) = false := by rw [beq_eq_false_iff_ne, List.length_cons]; omega
  have hn1 : (0 : Int) < ((5 :: r).length : Int) := by rw [List.length_cons]; omega
  have hn2 : decide (((5 :: r).length : Int) < 9) = false := by rw [List.length_cons, decide_eq_false_iff_not]; omega
  obtain ⟨n, hn⟩ : ∃ n, n = (5 :: r).length := ⟨_, rfl⟩
  obtain ⟨z, hz⟩ : ∃ z, z = Cp.numI (r.take 8) := ⟨_, rfl⟩
  rw [← hn] at hn0 hn1 hn2 ⊢
  rw [← hz] at HG0 ⊢
  have hc1 : ¬ cap = 1 := by omega
  have hc5 : (9 : Int) ≤ (cap : Int) := by omega
  have HG := hid HG0
  rw [Nat.add_zero] at hcell
  clear hv hn hz hsub HG0 hs hcap
  go_enter Tryz.func83, Tryz.ntmps83
  go_wp2_with (first | (go_at_call 139; refine (HK.out _).mono ?_; rintro e w1 ⟨rfl, rfl⟩) | (go_at_call 140; refine (HZ.out _).mono ?_; rintro e w1 ⟨rfl, rfl⟩) | (go_at_call 82; refine (HG.out _ (by repeat' first | with_reducible exact Below.refl _ _ | with_reducible assumption | with_reducible refine belows_drewN ?_ _ | with_reducible refine Below.drew ?_ | with_reducible refine Below.setCell ?_ ?_ _ | with_reducible refine Below.alloc ?_ ?_ _ | omega | (simp; done) | (simp; omega))).mono ?_; rintro e w1 ⟨rfl, rfl⟩))
  exact bodyPost_ret (v := .tuple #[.agg #[.int .i64 5, .string ⟨#[]⟩, .int .i64 z, .int .i64 0, .int .i64 0], .int .i64 9, .int .i64 0]) (by simp [results, Tryz.results83, go_sem]) rfl ⟨rfl, (by repeat' first | with_reducible exact Below.refl _ _ | with_reducible assumption | with_reducible refine belows_drewN ?_ _ | with_reducible refine Below.drew ?_ | with_reducible refine Below.setCell ?_ ?_ _ | with_reducible refine Below.alloc ?_ ?_ _ | omega | (simp; done) | (simp; omega))⟩
set_option maxRecDepth 100000 in
set_option maxHeartbeats 400000 in
theorem one_class (last : Bool) (r : List UInt8) (v : Value) (w : World) (hv : Bs w.heap.size w v (7 :: r)) (hs : 2 ≤ r.length) : Calls Tryz.prog 83 #[v, .bool last] w (OnPost (⟨7, ⟨#[]⟩, 0, Cp.numI (r.take 2), 0⟩, 3, 0) w) := by
  unfold OnPost cC
  dsimp only
  have HK := hid (fun W => known_any 7 W)
  rw [show Cp.knownB 7 = true from rfl] at HK
  have HZ := hid (fun W => size_any 7 W)
  rw [show szOf 7 = 2 from rfl] at HZ
  obtain ⟨a, cap, rfl⟩ := hv.len
  obtain ⟨b, o, rfl, hb, hcell⟩ := hv.at (k := 0) (c := 7) rfl
  have hsub := sub_bs hv (i := 1) (j := 3) (by omega) (by rw [List.length_cons]; omega)
  rw [show ((7 :: r).drop 1).take (3 - 1) = r.take 2 from rfl, show 3 - 1 = 2 from rfl] at hsub
  have HG0 := fun W (h : Below w.heap.size w W) => get_any w.heap.size (r.take 2) _ W (hsub.below h (Nat.le_refl _))
  have hcap : (7 :: r).length ≤ cap := by
    rcases hv.2 with ⟨h, -⟩ | ⟨b', o', cap', h, hc, -⟩
    · cases h
    · obtain ⟨-, -, rfl⟩ := Value.slice.inj h; exact hc
  rw [List.length_cons] at hcap
  have hn0 : (((7 :: r).length : Int) == 0) = false := by rw [beq_eq_false_iff_ne, List.length_cons]; omega
  have hn1 : (0 : Int) < ((7 :: r).length : Int) := by rw [List.length_cons]; omega
  have hn2 : decide (((7 :: r).length : Int) < 3) = false := by rw [List.length_cons, decide_eq_false_iff_not]; omega
  obtain ⟨n, hn⟩ : ∃ n, n = (7 :: r).length := ⟨_, rfl⟩
  obtain ⟨z, hz⟩ : ∃ z, z = Cp.numI (r.take 2) := ⟨_, rfl⟩
  rw [← hn] at hn0 hn1 hn2 ⊢
  rw [← hz] at HG0 ⊢
  have hc1 : ¬ cap = 1 := by omega
  have hc5 : (3 : Int) ≤ (cap : Int) := by omega
  have HG := hid HG0
  rw [Nat.add_zero] at hcell
  clear hv hn hz hsub HG0 hs hcap
  go_enter Tryz.func83, Tryz.ntmps83
  go_wp2_with (first | (go_at_call 139; refine (HK.out _).mono ?_; rintro e w1 ⟨rfl, rfl⟩) | (go_at_call 140; refine (HZ.out _).mono ?_; rintro e w1 ⟨rfl, rfl⟩) | (go_at_call 82; refine (HG.out _ (by repeat' first | with_reducible exact Below.refl _ _ | with_reducible assumption | with_reducible refine belows_drewN ?_ _ | with_reducible refine Below.drew ?_ | with_reducible refine Below.setCell ?_ ?_ _ | with_reducible refine Below.alloc ?_ ?_ _ | omega | (simp; done) | (simp; omega))).mono ?_; rintro e w1 ⟨rfl, rfl⟩))
  exact bodyPost_ret (v := .tuple #[.agg #[.int .i64 7, .string ⟨#[]⟩, .int .i64 0, .int .i64 z, .int .i64 0], .int .i64 3, .int .i64 0]) (by simp [results, Tryz.results83, go_sem]) rfl ⟨rfl, (by repeat' first | with_reducible exact Below.refl _ _ | with_reducible assumption | with_reducible refine belows_drewN ?_ _ | with_reducible refine Below.drew ?_ | with_reducible refine Below.setCell ?_ ?_ _ | with_reducible refine Below.alloc ?_ ?_ _ | omega | (simp; done) | (simp; omega))⟩
end Go.Proofs.YtjnjnfhboafcgaaGreatDoor.L3
namespace Go.Proofs.YtjnjnfhboafcgaaGreatDoor.L3
open Go.RowKit

set_option maxRecDepth 100000 in
set_option maxHeartbeats 400000 in
theorem one_two (last : Bool) (c : UInt8) (r : List UInt8) (v : Value) (w : World) (hv : Bs w.heap.size w v (c :: r)) (hs : 4 ≤ r.length) (hc : (c.toNat : Int) = 9 ∨ (c.toNat : Int) = 10 ∨ (c.toNat : Int) = 12) : Calls Tryz.prog 83 #[v, .bool last] w (OnPost (⟨(c.toNat : Int), ⟨#[]⟩, 0, Cp.numI (r.take 2), Cp.numI ((r.drop 2).take 2)⟩, 5, 0) w) := by
  unfold OnPost cC
  dsimp only
  have HK := hid (fun W => known_any (c.toNat : Int) W)
  rw [show Cp.knownB (c.toNat : Int) = true by unfold Cp.knownB; rw [decide_eq_true_iff]; omega] at HK
  have HZ := hid (fun W => size_any (c.toNat : Int) W)
  rw [show szOf (c.toNat : Int) = 4 by unfold szOf; rw [if_neg (by omega), if_neg (by omega)]] at HZ
  have e1 : ((c.toNat : Int) == 1) = false := by rw [beq_eq_false_iff_ne]; omega
  have e3 : ((c.toNat : Int) == 3) = false := by rw [beq_eq_false_iff_ne]; omega
  have e5 : ((c.toNat : Int) == 5) = false := by rw [beq_eq_false_iff_ne]; omega
  have e7 : ((c.toNat : Int) == 7) = false := by rw [beq_eq_false_iff_ne]; omega
  have hcu := Cp.u8_lt c
  obtain ⟨a, cap, rfl⟩ := hv.len
  obtain ⟨b, o, rfl, hb, hcell⟩ := hv.at (k := 0) (c := c) rfl
  have hsub := sub_bs hv (i := 1) (j := 3) (by omega) (by rw [List.length_cons]; omega)
  rw [show ((c :: r).drop 1).take (3 - 1) = r.take 2 from rfl, show 3 - 1 = 2 from rfl] at hsub
  have hsu2 := sub_bs hv (i := 3) (j := 5) (by omega) (by rw [List.length_cons]; omega)
  rw [show ((c :: r).drop 3).take (5 - 3) = (r.drop 2).take 2 from rfl, show 5 - 3 = 2 from rfl] at hsu2
  have HG0 := fun W (h : Below w.heap.size w W) => get_any w.heap.size (r.take 2) _ W (hsub.below h (Nat.le_refl _))
  have HJ0 := fun W (h : Below w.heap.size w W) => get_any w.heap.size ((r.drop 2).take 2) _ W (hsu2.below h (Nat.le_refl _))
  have hcap : (c :: r).length ≤ cap := by
    rcases hv.2 with ⟨h, -⟩ | ⟨b', o', cap', h, hc, -⟩
    · cases h
    · obtain ⟨-, -, rfl⟩ := Value.slice.inj h; exact hc
  rw [List.length_cons] at hcap
  have hn0 : (((c :: r).length : Int) == 0) = false := by rw [beq_eq_false_iff_ne, List.length_cons]; omega
  have hn1 : (0 : Int) < ((c :: r).length : Int) := by rw [List.length_cons]; omega
  have hn2 : decide (((c :: r).length : Int) < 5) = false := by rw [List.length_cons, decide_eq_false_iff_not]; omega
  obtain ⟨n, hn⟩ : ∃ n, n = (c :: r).length := ⟨_, rfl⟩
  obtain ⟨z, hz⟩ : ∃ z, z = Cp.numI (r.take 2) := ⟨_, rfl⟩
  obtain ⟨y, hy⟩ : ∃ y, y = Cp.numI ((r.drop 2).take 2) := ⟨_, rfl⟩
  rw [← hn] at hn0 hn1 hn2 ⊢
  rw [← hz] at HG0 ⊢
  rw [← hy] at HJ0 ⊢
  have hc3 : ¬ cap = 3 := by omega
  have hc3' : (3 : Int) ≤ (cap : Int) := by omega
  have HJ := hid HJ0
  have hc1 : ¬ cap = 1 := by omega
  have hc5 : (5 : Int) ≤ (cap : Int) := by omega
  have HG := hid HG0
  rw [Nat.add_zero] at hcell
  clear hv hn hz hy hsub hsu2 HG0 HJ0 hs hcap hc
  go_enter Tryz.func83, Tryz.ntmps83
  go_wp2_with (first | (go_at_call 139; refine (HK.out _).mono ?_; rintro e w1 ⟨rfl, rfl⟩) | (go_at_call 140; refine (HZ.out _).mono ?_; rintro e w1 ⟨rfl, rfl⟩))
  go_region_law (first
    | (refine Kit.step_call1 rfl 82 (.tmp 44) 22 rfl (.slice (some ⟨b, o + 1, none⟩) 2 (cap - 1)) rfl (cf_get _ _) _ (HG.out _ (by repeat' first | with_reducible exact Below.refl _ _ | with_reducible assumption | with_reducible refine belows_drewN ?_ _ | with_reducible refine Below.drew ?_ | with_reducible refine Below.setCell ?_ ?_ _ | with_reducible refine Below.alloc ?_ ?_ _ | omega | (simp; done) | (simp; omega))) ?_; rintro e w1 ⟨rfl, rfl⟩; refine ⟨_, rfl, ?_⟩)
    | (refine Kit.step_call1 rfl 82 (.tmp 47) 22 rfl (.slice (some ⟨b, o + 3, none⟩) 2 (cap - 3)) rfl (cf_get _ _) _ (HJ.out _ (by repeat' first | with_reducible exact Below.refl _ _ | with_reducible assumption | with_reducible refine belows_drewN ?_ _ | with_reducible refine Below.drew ?_ | with_reducible refine Below.setCell ?_ ?_ _ | with_reducible refine Below.alloc ?_ ?_ _ | omega | (simp; done) | (simp; omega))) ?_; rintro e w1 ⟨rfl, rfl⟩; refine ⟨_, rfl, ?_⟩))
  all_goals
    go_wp2
    exact bodyPost_ret (v := .tuple #[.agg #[.int .i64 c.toNat, .string ⟨#[]⟩, .int .i64 0, .int .i64 z, .int .i64 y], .int .i64 5, .int .i64 0]) (by simp [results, Tryz.results83, go_sem]) rfl ⟨rfl, (by repeat' first | with_reducible exact Below.refl _ _ | with_reducible assumption | with_reducible refine belows_drewN ?_ _ | with_reducible refine Below.drew ?_ | with_reducible refine Below.setCell ?_ ?_ _ | with_reducible refine Below.alloc ?_ ?_ _ | omega | (simp; done) | (simp; omega))⟩
/-- What one tells of a text's entry. -/
def utO (r : List UInt8) : Cp.C × Int × Int := match txP 2 r with
  | .error e => (Cp.C0, 0, e)
  | .ok (s, _) => (⟨1, ⟨s.toArray⟩, 0, 0, 0⟩, 3 + s.length, 0)
set_option maxRecDepth 100000 in
set_option maxHeartbeats 400000 in
theorem one_utf (last : Bool) (r : List UInt8) (v : Value) (w : World) (hv : Bs w.heap.size w v (1 :: r)) (hs : 2 ≤ r.length) : Calls Tryz.prog 83 #[v, .bool last] w (OnPost (utO r) w) := by
  unfold OnPost utO
  have hx : txP 2 r = (if 255 < Cp.numI (r.take 2) then .error 32 else if ((r.drop 2).length : Int) < Cp.numI (r.take 2) then .error 30 else if Cp.plainB ((r.drop 2).take (Cp.numI (r.take 2)).toNat) = true then .ok ((r.drop 2).take (Cp.numI (r.take 2)).toNat, (r.drop 2).drop (Cp.numI (r.take 2)).toNat) else .error 32) := by unfold txP; rw [if_neg (by omega)]
  have hrange : 0 ≤ Cp.numI (r.take 2) ∧ Cp.numI (r.take 2) < 65536 := numI_2 (by rw [List.length_take]; omega)
  have HK := hid (fun W => known_any 1 W)
  rw [show Cp.knownB 1 = true from rfl] at HK
  have HZ := hid (fun W => size_any 1 W)
  rw [show szOf 1 = 2 from rfl] at HZ
  have hbnd := hv.1
  obtain ⟨a, cap, rfl⟩ := hv.len
  obtain ⟨b, o, rfl, hb, hcell⟩ := hv.at (k := 0) (c := 1) rfl
  have hsub := sub_bs hv (i := 1) (j := 3) (by omega) (by rw [List.length_cons]; omega)
  rw [show ((1 :: r).drop 1).take (3 - 1) = r.take 2 from rfl, show 3 - 1 = 2 from rfl] at hsub
  have HG0 := fun W (h : Below w.heap.size w W) => get_any w.heap.size (r.take 2) _ W (hsub.below h (Nat.le_refl _))
  have hcap : (1 :: r).length ≤ cap := by
    rcases hv.2 with ⟨h, -⟩ | ⟨b', o', cap', h, hc, -⟩
    · cases h
    · obtain ⟨-, -, rfl⟩ := Value.slice.inj h; exact hc
  have hsb3 := fun j (h1 : 3 ≤ j) (h2 : j ≤ (1 :: r).length) => sub_bs hv (i := 3) (j := j) h1 h2
  rw [List.length_cons] at hcap
  rw [List.length_cons] at hbnd
  have hn0 : (((1 :: r).length : Int) == 0) = false := by rw [beq_eq_false_iff_ne, List.length_cons]; omega
  have hn1 : (0 : Int) < ((1 :: r).length : Int) := by rw [List.length_cons]; omega
  have hn2 : decide (((1 :: r).length : Int) < 3) = false := by rw [List.length_cons, decide_eq_false_iff_not]; omega
  obtain ⟨N, hN⟩ := Int.eq_ofNat_of_zero_le hrange.1
  rw [hN] at HG0 hx hrange
  rw [show ((N : Int)).toNat = N by omega] at hx
  have hc1 : ¬ cap = 1 := by omega
  have hc3 : (3 : Int) ≤ (cap : Int) := by omega
  have HG := hid HG0
  rw [Nat.add_zero] at hcell
  rw [hx]
  by_cases h255 : 255 < (N : Int)
  · rw [if_pos h255]
    have hd : decide (255 < (N : Int)) = true := by simpa using h255
    unfold cC Cp.C0
    dsimp only
    obtain ⟨n, hn⟩ : ∃ n, n = (1 :: r).length := ⟨_, rfl⟩
    rw [← hn] at hn0 hn1 hn2 ⊢
    clear hv hn hN hsub hsb3 HG0 hs hcap hx h255 hbnd
    go_enter Tryz.func83, Tryz.ntmps83; go_wp2_with (first | (go_at_call 139; refine (HK.out _).mono ?_; rintro e w1 ⟨rfl, rfl⟩) | (go_at_call 140; refine (HZ.out _).mono ?_; rintro e w1 ⟨rfl, rfl⟩) | (go_at_call 82; refine (HG.out _ (by repeat' first | with_reducible exact Below.refl _ _ | with_reducible assumption | with_reducible refine belows_drewN ?_ _ | with_reducible refine Below.drew ?_ | with_reducible refine Below.setCell ?_ ?_ _ | with_reducible refine Below.alloc ?_ ?_ _ | omega | (simp; done) | (simp; omega))).mono ?_; rintro e w1 ⟨rfl, rfl⟩) | (go_at_call 141; refine (HX.out _).mono ?_; rintro e w1 ⟨rfl, rfl⟩))
    exact bodyPost_ret (v := .tuple #[.agg #[.int .i64 0, .string ⟨#[]⟩, .int .i64 0, .int .i64 0, .int .i64 0], .int .i64 0, .int .i64 32]) (by simp [results, Tryz.results83, go_sem]) rfl ⟨rfl, (by repeat' first | with_reducible exact Below.refl _ _ | with_reducible assumption | with_reducible refine belows_drewN ?_ _ | with_reducible refine Below.drew ?_ | with_reducible refine Below.setCell ?_ ?_ _ | with_reducible refine Below.alloc ?_ ?_ _ | omega | (simp; done) | (simp; omega))⟩
  · rw [if_neg h255]
    have hd : decide (255 < (N : Int)) = false := by simp; omega
    by_cases hsh : ((r.drop 2).length : Int) < (N : Int)
    · rw [if_pos hsh]
      rw [List.length_drop] at hsh
      have hd2 : decide (((1 :: r).length : Int) < 3 + (N : Int)) = true := by rw [List.length_cons, decide_eq_true_iff]; omega
      unfold cC Cp.C0
      dsimp only
      obtain ⟨n, hn⟩ : ∃ n, n = (1 :: r).length := ⟨_, rfl⟩
      rw [← hn] at hn0 hn1 hn2 hd2 ⊢
      clear hv hn hN hsub hsb3 HG0 hs hcap hx h255 hbnd hsh
      go_enter Tryz.func83, Tryz.ntmps83; go_wp2_with (first | (go_at_call 139; refine (HK.out _).mono ?_; rintro e w1 ⟨rfl, rfl⟩) | (go_at_call 140; refine (HZ.out _).mono ?_; rintro e w1 ⟨rfl, rfl⟩) | (go_at_call 82; refine (HG.out _ (by repeat' first | with_reducible exact Below.refl _ _ | with_reducible assumption | with_reducible refine belows_drewN ?_ _ | with_reducible refine Below.drew ?_ | with_reducible refine Below.setCell ?_ ?_ _ | with_reducible refine Below.alloc ?_ ?_ _ | omega | (simp; done) | (simp; omega))).mono ?_; rintro e w1 ⟨rfl, rfl⟩) | (go_at_call 141; refine (HX.out _).mono ?_; rintro e w1 ⟨rfl, rfl⟩))
      exact bodyPost_ret (v := .tuple #[.agg #[.int .i64 0, .string ⟨#[]⟩, .int .i64 0, .int .i64 0, .int .i64 0], .int .i64 0, .int .i64 30]) (by simp [results, Tryz.results83, go_sem]) rfl ⟨rfl, (by repeat' first | with_reducible exact Below.refl _ _ | with_reducible assumption | with_reducible refine belows_drewN ?_ _ | with_reducible refine Below.drew ?_ | with_reducible refine Below.setCell ?_ ?_ _ | with_reducible refine Below.alloc ?_ ?_ _ | omega | (simp; done) | (simp; omega))⟩
    · rw [if_neg hsh]
      rw [List.length_drop] at hsh
      have hd2 : decide (((1 :: r).length : Int) < 3 + (N : Int)) = false := by rw [List.length_cons, decide_eq_false_iff_not]; omega
      have hb3 := hsb3 (3 + N) (by omega) (by rw [List.length_cons]; omega)
      rw [show ((1 :: r).drop 3) = r.drop 2 from rfl, show 3 + N - 3 = N by omega] at hb3
      obtain ⟨s, hss⟩ : ∃ s, s = (r.drop 2).take N := ⟨_, rfl⟩
      have hsl : s.length = N := by rw [hss, List.length_take, List.length_drop]; omega
      rw [← hss] at hb3 ⊢
      have hcv := bs_conv (hb3.below (B := w.heap.size) (w' := (w.alloc (.cells #[.int .i64 0, .string ⟨#[]⟩, .int .i64 0, .int .i64 0, .int .i64 0] 56)).alloc (.cells #[.int .i64 1, .string ⟨#[]⟩, .int .i64 0, .int .i64 0, .int .i64 0] 56)) (by repeat' first | with_reducible exact Below.refl _ _ | with_reducible assumption | with_reducible refine belows_drewN ?_ _ | with_reducible refine Below.drew ?_ | with_reducible refine Below.setCell ?_ ?_ _ | with_reducible refine Below.alloc ?_ ?_ _ | omega | (simp; done) | (simp; omega)) (Nat.le_refl _))
      have HX0 := fun W => texts_any ⟨s.toArray⟩ W (by rw [str_size]; omega)
      rw [str_size, show Cp.bl ⟨s.toArray⟩ = s from rfl, show decide (s.length ≤ 255) = true by rw [decide_eq_true_iff]; omega, Bool.and_true] at HX0
      have t1 : IntKind.i64.wrap ((3 : Int) + N) = 3 + N := IntWalk.i64_in _ (by omega)
      have t2 : (3 : Int) ≤ 3 + N := by omega
      have t3 : ((3 : Int) + N).toNat = 3 + N := by omega
      have t4 : (3 : Int) + N ≤ cap := by omega
      have HSl := hid hsl
      obtain ⟨st, hst⟩ : ∃ st : ByteArray, st = ⟨s.toArray⟩ := ⟨_, rfl⟩
      rw [← hst] at HX0 hcv
      have HSt := hid hst
      have hcv2 : (¬ cap = 3) ∨ (cap = 3 ∧ N = 0 ∧ (convert 22 9 (.slice (some ⟨b, o, none⟩) 0 0)).run Tryz.prog ((w.alloc (.cells #[.int .i64 0, .string ⟨#[]⟩, .int .i64 0, .int .i64 0, .int .i64 0] 56)).alloc (.cells #[.int .i64 1, .string ⟨#[]⟩, .int .i64 0, .int .i64 0, .int .i64 0] 56)) = .ok (.string st) ((w.alloc (.cells #[.int .i64 0, .string ⟨#[]⟩, .int .i64 0, .int .i64 0, .int .i64 0] 56)).alloc (.cells #[.int .i64 1, .string ⟨#[]⟩, .int .i64 0, .int .i64 0, .int .i64 0] 56))) := by
        by_cases h3 : cap = 3
        · have hN0 : N = 0 := by omega
          have hs0 : s = [] := List.eq_nil_of_length_eq_zero (by omega)
          refine .inr ⟨h3, hN0, ?_⟩
          rw [hst, hs0]
          exact bs_conv (lim := w.heap.size) (l := []) ⟨by simp, .inl ⟨rfl, _, _, rfl⟩⟩
        · exact .inl h3
      obtain ⟨n, hn⟩ : ∃ n, n = (1 :: r).length := ⟨_, rfl⟩
      rw [← hn] at hn0 hn1 hn2 hd2 ⊢
      cases hp : Cp.plainB s with
      | true =>
        rw [if_pos rfl]
        rw [hp] at HX0
        have HX := hid HX0
        dsimp only
        unfold cC
        dsimp only
        clear hv hn hN hsub hsb3 HG0 hs hcap hx h255 hbnd hsh hb3 hss hsl HX0 hp hst
        rcases hcv2 with hcap3 | ⟨rfl, rfl, hcv0⟩
        · go_enter Tryz.func83, Tryz.ntmps83; go_wp2_with (first | (go_at_call 139; refine (HK.out _).mono ?_; rintro e w1 ⟨rfl, rfl⟩) | (go_at_call 140; refine (HZ.out _).mono ?_; rintro e w1 ⟨rfl, rfl⟩) | (go_at_call 82; refine (HG.out _ (by repeat' first | with_reducible exact Below.refl _ _ | with_reducible assumption | with_reducible refine belows_drewN ?_ _ | with_reducible refine Below.drew ?_ | with_reducible refine Below.setCell ?_ ?_ _ | with_reducible refine Below.alloc ?_ ?_ _ | omega | (simp; done) | (simp; omega))).mono ?_; rintro e w1 ⟨rfl, rfl⟩) | (go_at_call 141; refine (HX.out _).mono ?_; rintro e w1 ⟨rfl, rfl⟩))
          exact bodyPost_ret (v := .tuple #[.agg #[.int .i64 1, .string st, .int .i64 0, .int .i64 0, .int .i64 0], .int .i64 (3 + N), .int .i64 0]) (by simp [results, Tryz.results83, go_sem]) rfl ⟨by rw [← HSt.out, HSl.out], (by repeat' first | with_reducible exact Below.refl _ _ | with_reducible assumption | with_reducible refine belows_drewN ?_ _ | with_reducible refine Below.drew ?_ | with_reducible refine Below.setCell ?_ ?_ _ | with_reducible refine Below.alloc ?_ ?_ _ | omega | (simp; done) | (simp; omega))⟩
        · go_enter Tryz.func83, Tryz.ntmps83; go_wp2_with (first | (go_at_call 139; refine (HK.out _).mono ?_; rintro e w1 ⟨rfl, rfl⟩) | (go_at_call 140; refine (HZ.out _).mono ?_; rintro e w1 ⟨rfl, rfl⟩) | (go_at_call 82; refine (HG.out _ (by repeat' first | with_reducible exact Below.refl _ _ | with_reducible assumption | with_reducible refine belows_drewN ?_ _ | with_reducible refine Below.drew ?_ | with_reducible refine Below.setCell ?_ ?_ _ | with_reducible refine Below.alloc ?_ ?_ _ | omega | (simp; done) | (simp; omega))).mono ?_; rintro e w1 ⟨rfl, rfl⟩) | (go_at_call 141; refine (HX.out _).mono ?_; rintro e w1 ⟨rfl, rfl⟩))
          exact bodyPost_ret (v := .tuple #[.agg #[.int .i64 1, .string st, .int .i64 0, .int .i64 0, .int .i64 0], .int .i64 3, .int .i64 0]) (by simp [results, Tryz.results83, go_sem]) rfl ⟨by rw [← HSt.out, HSl.out]; rfl, (by repeat' first | with_reducible exact Below.refl _ _ | with_reducible assumption | with_reducible refine belows_drewN ?_ _ | with_reducible refine Below.drew ?_ | with_reducible refine Below.setCell ?_ ?_ _ | with_reducible refine Below.alloc ?_ ?_ _ | omega | (simp; done) | (simp; omega))⟩
      | false =>
        rw [if_neg (by simp)]
        rw [hp] at HX0
        have HX := hid HX0
        dsimp only
        unfold cC Cp.C0
        dsimp only
        clear hv hn hN hsub hsb3 HG0 hs hcap hx h255 hbnd hsh hb3 hss hsl HX0 hp hst
        rcases hcv2 with hcap3 | ⟨rfl, rfl, hcv0⟩
        · go_enter Tryz.func83, Tryz.ntmps83; go_wp2_with (first | (go_at_call 139; refine (HK.out _).mono ?_; rintro e w1 ⟨rfl, rfl⟩) | (go_at_call 140; refine (HZ.out _).mono ?_; rintro e w1 ⟨rfl, rfl⟩) | (go_at_call 82; refine (HG.out _ (by repeat' first | with_reducible exact Below.refl _ _ | with_reducible assumption | with_reducible refine belows_drewN ?_ _ | with_reducible refine Below.drew ?_ | with_reducible refine Below.setCell ?_ ?_ _ | with_reducible refine Below.alloc ?_ ?_ _ | omega | (simp; done) | (simp; omega))).mono ?_; rintro e w1 ⟨rfl, rfl⟩) | (go_at_call 141; refine (HX.out _).mono ?_; rintro e w1 ⟨rfl, rfl⟩))
          exact bodyPost_ret (v := .tuple #[.agg #[.int .i64 0, .string ⟨#[]⟩, .int .i64 0, .int .i64 0, .int .i64 0], .int .i64 0, .int .i64 32]) (by simp [results, Tryz.results83, go_sem]) rfl ⟨rfl, (by repeat' first | with_reducible exact Below.refl _ _ | with_reducible assumption | with_reducible refine belows_drewN ?_ _ | with_reducible refine Below.drew ?_ | with_reducible refine Below.setCell ?_ ?_ _ | with_reducible refine Below.alloc ?_ ?_ _ | omega | (simp; done) | (simp; omega))⟩
        · go_enter Tryz.func83, Tryz.ntmps83; go_wp2_with (first | (go_at_call 139; refine (HK.out _).mono ?_; rintro e w1 ⟨rfl, rfl⟩) | (go_at_call 140; refine (HZ.out _).mono ?_; rintro e w1 ⟨rfl, rfl⟩) | (go_at_call 82; refine (HG.out _ (by repeat' first | with_reducible exact Below.refl _ _ | with_reducible assumption | with_reducible refine belows_drewN ?_ _ | with_reducible refine Below.drew ?_ | with_reducible refine Below.setCell ?_ ?_ _ | with_reducible refine Below.alloc ?_ ?_ _ | omega | (simp; done) | (simp; omega))).mono ?_; rintro e w1 ⟨rfl, rfl⟩) | (go_at_call 141; refine (HX.out _).mono ?_; rintro e w1 ⟨rfl, rfl⟩))
          exact bodyPost_ret (v := .tuple #[.agg #[.int .i64 0, .string ⟨#[]⟩, .int .i64 0, .int .i64 0, .int .i64 0], .int .i64 0, .int .i64 32]) (by simp [results, Tryz.results83, go_sem]) rfl ⟨rfl, (by repeat' first | with_reducible exact Below.refl _ _ | with_reducible assumption | with_reducible refine belows_drewN ?_ _ | with_reducible refine Below.drew ?_ | with_reducible refine Below.setCell ?_ ?_ _ | with_reducible refine Below.alloc ?_ ?_ _ | omega | (simp; done) | (simp; omega))⟩
/-- One, whatever the bytes. -/
theorem txP_len {k : Nat} {bs s r : List UInt8} (h : txP k bs = .ok (s, r)) : k + s.length + r.length = bs.length := by
  unfold txP at h
  repeat' split at h
  all_goals cases h
  simp only [List.length_take, List.length_drop]
  omega
end Go.Proofs.YtjnjnfhboafcgaaGreatDoor.L3
namespace Go.Proofs.YtjnjnfhboafcgaaGreatDoor.L3
open Go.RowKit

theorem suf_cons (x : UInt8) (l : List UInt8) (m : Nat) : ∃ j, 1 ≤ j ∧ j ≤ (x :: l).length ∧ l.drop m = (x :: l).drop j := by
  by_cases hm : m ≤ l.length
  · exact ⟨m + 1, by omega, by rw [List.length_cons]; omega, by rw [List.drop_succ_cons]⟩
  · exact ⟨l.length + 1, by omega, by rw [List.length_cons]; omega, by rw [List.drop_succ_cons, List.drop_eq_nil_of_le (by omega), List.drop_length]⟩
theorem txP_suf {k : Nat} {bs s r : List UInt8} (h : txP k bs = .ok (s, r)) : ∃ j, r = bs.drop j := by
  unfold txP at h
  repeat' split at h
  all_goals cases h
  exact ⟨_, List.drop_drop⟩
theorem enP_suf {room : Int} {l r : List UInt8} {c : Cp.C} (h : enP room l = .ok (c, r)) : ∃ j, 1 ≤ j ∧ j ≤ l.length ∧ r = l.drop j := by
  cases l with
  | nil => cases h
  | cons x l =>
    unfold enP at h
    dsimp only at h
    split at h
    · cases h
    · split at h
      · cases h
      · rename_i s r1 ht
        obtain ⟨j, hj⟩ := txP_suf ht
        repeat' split at h
        all_goals cases h
        rw [hj, List.drop_drop, List.drop_drop, List.drop_drop]
        exact suf_cons x l _
theorem u8_is1 {c : UInt8} (h : (c.toNat : Int) = 1) : c = 1 := UInt8.toNat_inj.1 (by rw [show (1 : UInt8).toNat = 1 from rfl]; omega)
theorem u8_is3 {c : UInt8} (h : (c.toNat : Int) = 3) : c = 3 := UInt8.toNat_inj.1 (by rw [show (3 : UInt8).toNat = 3 from rfl]; omega)
theorem u8_is5 {c : UInt8} (h : (c.toNat : Int) = 5) : c = 5 := UInt8.toNat_inj.1 (by rw [show (5 : UInt8).toNat = 5 from rfl]; omega)
theorem u8_is7 {c : UInt8} (h : (c.toNat : Int) = 7) : c = 7 := UInt8.toNat_inj.1 (by rw [show (7 : UInt8).toNat = 7 from rfl]; omega)
theorem one_any (last : Bool) (bs : List UInt8) (v : Value) (w : World) (hv : Bs w.heap.size w v bs) : Calls Tryz.prog 83 #[v, .bool last] w (OnPost (oneO last bs) w) := by
  have hroom : ((if last then 1 else 2 : Int) < 2) ↔ last = true := by cases last <;> simp
  unfold oneO
  cases bs with
  | nil => exact one_nil last v w hv
  | cons c r =>
    by_cases hbad : Cp.knownB (c.toNat : Int) = false ∨ ((c.toNat : Int) = 5 ∧ last = true)
    · have e : enP (if last then 1 else 2) (c :: r) = .error 31 := by
        unfold enP
        dsimp only
        rw [if_pos (by rw [hroom]; exact hbad)]
      rw [e]
      exact one_tag last c r v w hv hbad
    · have hk : Cp.knownB (c.toNat : Int) = true := by
        cases h : Cp.knownB (c.toNat : Int) with
        | true => rfl
        | false => exact absurd (.inl h) hbad
      have hlast : (c.toNat : Int) = 5 → last = false := fun h => by
        cases hl : last with
        | false => rfl
        | true => exact absurd (.inr ⟨h, hl⟩) hbad
      have hks := hk
      unfold Cp.knownB at hks
      rw [decide_eq_true_iff] at hks
      by_cases hs : r.length < szOf (c.toNat : Int)
      · have e : enP (if last then 1 else 2) (c :: r) = .error 30 := by
          rcases hks with h | h | h | h | h
          · obtain rfl := u8_is1 h
            rw [en_utf]
            have : txP 2 r = .error 30 := by unfold txP; rw [if_pos (show r.length < 2 from hs)]
            rw [this]
          · obtain rfl := u8_is3 h
            rw [en_int, if_pos (show r.length < 4 from hs)]
          · have hl := hlast h
            obtain rfl := u8_is5 h
            rw [en_long _ (by rw [hroom, hl]; simp), if_pos (show r.length < 8 from hs)]
          · obtain rfl := u8_is7 h
            rw [en_class, if_pos (show r.length < 2 from hs)]
          · rw [en_two _ _ _ h, if_pos (by unfold szOf at hs; rw [if_neg (by omega), if_neg (by omega)] at hs; exact hs)]
        rw [e]
        exact one_short last c r v w hv hk hlast hs
      · rcases hks with h | h | h | h | h
        · obtain rfl := u8_is1 h
          have hs2 : 2 ≤ r.length := by have : szOf (((1 : UInt8).toNat : Nat) : Int) = 2 := rfl; omega
          have := one_utf last r v w hv hs2
          rw [en_utf]
          unfold utO at this
          cases hx : txP 2 r with
          | error e => rw [hx] at this; exact this
          | ok y =>
            obtain ⟨s, r1⟩ := y
            rw [hx] at this
            have hl := txP_len hx
            dsimp only at this ⊢
            rw [List.length_cons, show (((r.length + 1 : Nat) : Int) - (r1.length : Int)) = 3 + s.length by omega]
            exact this
        · obtain rfl := u8_is3 h
          have hs2 : 4 ≤ r.length := by have : szOf (((3 : UInt8).toNat : Nat) : Int) = 4 := rfl; omega
          have := one_int last r v w hv hs2
          rw [en_int, if_neg (by omega)]
          dsimp only
          rw [List.length_cons, List.length_drop, show (((r.length + 1 : Nat) : Int) - ((r.length - 4 : Nat) : Int)) = 5 by omega]
          exact this
        · have hl := hlast h
          subst hl
          obtain rfl := u8_is5 h
          have hs2 : 8 ≤ r.length := by have : szOf (((5 : UInt8).toNat : Nat) : Int) = 8 := rfl; omega
          have := one_long r v w hv hs2
          rw [en_long _ (by simp), if_neg (by omega)]
          dsimp only
          rw [List.length_cons, List.length_drop, show (((r.length + 1 : Nat) : Int) - ((r.length - 8 : Nat) : Int)) = 9 by omega]
          exact this
        · obtain rfl := u8_is7 h
          have hs2 : 2 ≤ r.length := by have : szOf (((7 : UInt8).toNat : Nat) : Int) = 2 := rfl; omega
          have := one_class last r v w hv hs2
          rw [en_class, if_neg (by omega)]
          dsimp only
          rw [List.length_cons, List.length_drop, show (((r.length + 1 : Nat) : Int) - ((r.length - 2 : Nat) : Int)) = 3 by omega]
          exact this
        · have hs2 : 4 ≤ r.length := by
            have : szOf (c.toNat : Int) = 4 := by unfold szOf; rw [if_neg (by omega), if_neg (by omega)]
            omega
          have := one_two last c r v w hv hs2 h
          rw [en_two _ _ _ h, if_neg (by omega)]
          dsimp only
          rw [List.length_cons, List.length_drop, show (((r.length + 1 : Nat) : Int) - ((r.length - 4 : Nat) : Int)) = 5 by omega]
          exact this
end Go.Proofs.YtjnjnfhboafcgaaGreatDoor.L3
namespace Go.Proofs.YtjnjnfhboafcgaaGreatDoor.L3
open Go.RowKit

/-- A place in a pool. -/
theorem c_at {w : World} {v : Value} {l : List Cp.C} (h : Kit.IsS 5 w v l.length (l.flatMap cL)) {k : Nat} {x : Cp.C} (hx : l[k]? = some x) :
    ∃ b o cap, v = .slice (some ⟨b, o, none⟩) l.length cap ∧ b < w.heap.size ∧ w.cell? ⟨b, o + k * 5, none⟩ = some (.int .i64 x.t) ∧ w.cell? ⟨b, o + k * 5 + 1, none⟩ = some (.string x.s) ∧ w.cell? ⟨b, o + k * 5 + 2, none⟩ = some (.int .i64 x.n) ∧ w.cell? ⟨b, o + k * 5 + 3, none⟩ = some (.int .i64 x.a) ∧ w.cell? ⟨b, o + k * 5 + 4, none⟩ = some (.int .i64 x.b) := by
  have hk : k < l.length := by rw [List.getElem?_eq_some_iff] at hx; exact hx.1
  obtain ⟨b, o, cap, hv, -, hlt, hc⟩ := h.some (by omega)
  have f := fun j hj => Kit.flat_at cL_len hx j hj
  refine ⟨b, o, cap, hv, hlt, ?_, ?_, ?_, ?_, ?_⟩
  · exact hc (k * 5 + 0) _ (f 0 (by omega))
  · exact hc (k * 5 + 1) _ (f 1 (by omega))
  · exact hc (k * 5 + 2) _ (f 2 (by omega))
  · exact hc (k * 5 + 3) _ (f 3 (by omega))
  · exact hc (k * 5 + 4) _ (f 4 (by omega))
/-- Numbers as bytes in memory of its own. -/
def OwnI (w : World) (base : Nat) (v : Value) (l : List Int) : Prop := w.ownsRow base 5 1 v l.length (l.map (Value.int .u8))
theorem nilI (w : World) (base : Nat) : OwnI w base (.slice none 0 0) [] := ⟨rfl, .inl ⟨rfl, rfl⟩⟩
theorem OwnI.snoc {w : World} {base : Nat} {v : Value} {l : List Int} {z : Int} (h : w.ownsRow base 5 1 v (l.length + 1) (l.map (Value.int .u8) ++ [.int .u8 z])) : OwnI w base v (l ++ [z]) := by
  unfold OwnI
  rw [List.length_append, List.map_append]
  exact h
theorem infoB : (Tryz.prog.info? 5).map (fun i => (i.zero, i.size, i.bytes)) = some (some (.int .u8 0), 1, 1) := by kernel_rfl
/-- The byte at a place of a number of so many bytes. -/
def byteN (z : Int) (size k : Nat) : Int := (z / 2 ^ (8 * (size - 1 - k))) % 256
def bytesN (z : Int) (size : Nat) : List Int := (List.range size).map (byteN z size)
theorem bytesN_take {z : Int} {size k : Nat} (h : k < size) : (bytesN z size).take (k + 1) = (bytesN z size).take k ++ [byteN z size k] := by
  unfold bytesN
  rw [List.take_add_one, List.getElem?_map, List.getElem?_range h]
  rfl
theorem bytesN_len (z : Int) (size : Nat) : (bytesN z size).length = size := by unfold bytesN; simp
set_option maxRecDepth 100000 in
set_option maxHeartbeats 1000000 in
theorem write_any (base : Nat) (l : List Int) (v : Value) (z : Int) (size : Nat) (w : World) (ho : OwnI w base v l) (hb : base ≤ w.heap.size) (hl : l.length ≤ 1099511627776) (hs : size ≤ 8) :
    Calls Tryz.prog 86 #[v, .int .i64 z, .int .i64 size] w fun e w' => ∃ v', e = .returned v' ∧ OwnI w' base v' (l ++ bytesN z size) ∧ Kit.Grows w w' v v' := by
  have HO := hid ho
  obtain ⟨i0, hi, hz0, hz1, hz2⟩ := info_parts infoB
  clear ho
  go_enter Tryz.func86, Tryz.ntmps86
  go_wp2
  go_loopw [0, 9] (fun u i wr => ∃ k : Nat, k ≤ size ∧ i = .int .i64 k ∧ OwnI wr base u (l ++ (bytesN z size).take k) ∧ Kit.Grows w wr v u) (fun _ i _ => size - (intOf i).toNat)
  case atStart => exact ⟨0, by omega, rfl, by rw [List.take_zero, List.append_nil]; exact HO.out, Kit.Grows.refl _ _⟩
  case round =>
    obtain ⟨k, hk, rfl, hown, hgr⟩ := hrel
    have hzr := hgr.size
    have hlk : (l ++ (bytesN z size).take k).length ≤ 1099511627776 + 8 := by rw [List.length_append, List.length_take, bytesN_len]; omega
    by_cases hlt : k < size
    · have hki : (k : Int) < size := by omega
      have hw1 : IntKind.i64.wrap ((size : Int) - 1) = (size : Int) - 1 := IntWalk.i64_in _ (by omega)
      have hw2 : IntKind.i64.wrap ((size : Int) - 1 - k) = (size : Int) - 1 - k := IntWalk.i64_in _ (by omega)
      have hnn : ¬ ((size : Int) - 1 - k) * 8 < 0 := by omega
      have hBy := hid (bytesN_take (z := z) hlt)
      obtain ⟨m, hm⟩ : ∃ m : Nat, (size : Int) - 1 - k = m := ⟨size - 1 - k, by omega⟩
      have hB := hid (show byteN z size k = z / 2 ^ (8 * m) % 256 by unfold byteN; rw [show size - 1 - k = m by omega])
      go_wp2_with (at_builtin; refine wpList_append_own_at _ rfl (.tmp 12) (.tmp 21) 22 rfl base 5 i0 _ 1 1 Tryz.underlying22 hi hz0 hz1 hz2 rfl (by decide) _ _ _ rfl (World.ownsRow.alloc hown _) ⟨wr.heap.size, 0, none⟩ 1 1 [.int .u8 (z / 2 ^ (8 * m) % 256)] rfl rfl (Kit.news_one _ _ _) (Kit.ones_one rfl) (by unfold maxLen; omega) (by omega) (by simp only [World.size_alloc]; omega) ?_; intro v1 w1 ho1' hg1 _ hk1; have ho1 := OwnI.snoc ho1'; have G1 := Kit.grows_append ((Below.refl wr.heap.size wr).alloc (Nat.le_refl _) (.cells #[.int .u8 (z / 2 ^ (8 * m) % 256)] 5)) hg1 hk1; clear ho1' hg1 hk1)
      rw [← hB.out, List.append_assoc, ← hBy.out] at ho1
      go_roundw
      case rel => exact ⟨k + 1, by omega, by go_num, ho1, hgr.trans G1⟩
      case measure => simp [intOf]; omega
    · obtain rfl : k = size := by omega
      have HT := hid (show (bytesN z k).take k = bytesN z k from List.take_of_length_le (by rw [bytesN_len]; exact Nat.le_refl _))
      go_wp2
      go_ret
      exact ⟨_, rfl, by rw [← HT.out]; exact hown, hgr⟩
end Go.Proofs.YtjnjnfhboafcgaaGreatDoor.L3
namespace Go.Proofs.YtjnjnfhboafcgaaGreatDoor
open Go.RowKit

theorem hid {p : Prop} (h : p) : Hid p := h
theorem belows {B : Nat} {a b c : World} (h : Below B a b) (k : Below b.heap.size b c) (hB : B ≤ b.heap.size) : Below B a c := h.trans (k.mono hB)
theorem belows_drewN {B : Nat} {a b : World} (h : Below B a b) (n : Nat) : Below B a (b.drewN n) := ⟨h.os, h.tape, h.output, h.size, h.block⟩
theorem bcell {W w1 : World} (hb : Below W.heap.size W w1) : (∀ b o, b < W.heap.size → w1.cell? ⟨b, o, none⟩ = W.cell? ⟨b, o, none⟩) ∧ (∀ b o, b < W.heap.size → w1.frozen? ⟨b, o, none⟩ = W.frozen? ⟨b, o, none⟩) :=
  ⟨fun b o h => hb.cell (p := ⟨b, o, none⟩) h, fun b o h => hb.frozen (p := ⟨b, o, none⟩) h⟩
abbrev bl (s : ByteArray) : List UInt8 := s.data.toList
namespace Cf
/-- A handler, a member, a class. -/
structure Hn where
  f : Int
  t : Int
  a : Int
  y : Int
deriving DecidableEq
structure Mb where
  ac : Int
  nm : Int
  ds : Int
  st : Int
  lc : Int
  code : List UInt8
  hs : List Hn
deriving DecidableEq
structure Cl where
  mi : Int
  ma : Int
  pool : List L3.Cp.C
  ac : Int
  th : Int
  su : Int
  fs : List Mb
  ms : List Mb
deriving DecidableEq
def M0 : Mb := ⟨0, 0, 0, 0, 0, [], []⟩
def K0 : Cl := ⟨0, 0, [], 0, 0, 0, [], []⟩
def verB (mi ma : Int) : Bool := decide (mi = 0 ∧ 45 ≤ ma ∧ ma ≤ 52)
def codeS : ByteArray := ⟨#[67, 111, 100, 101]⟩
def codeC : L3.Cp.C := ⟨1, codeS, 0, 0, 0⟩
/-- What is read from the left: something, and what is left; or an error. -/
abbrev Ps (α : Type) := List UInt8 → Except Int (α × List UInt8)
def ret {α : Type} (a : α) : Ps α := fun l => .ok (a, l)
def bnd {α β : Type} (x : Ps α) (f : α → Ps β) : Ps β := fun l => match x l with
  | .error e => .error e
  | .ok (a, r) => f a r
theorem bnd_err {α β : Type} {x : Ps α} {f : α → Ps β} {l : List UInt8} {e : Int} (h : x l = .error e) : bnd x f l = .error e := by unfold bnd; rw [h]
theorem bnd_ok {α β : Type} {x : Ps α} {f : α → Ps β} {l r : List UInt8} {a : α} (h : x l = .ok (a, r)) : bnd x f l = f a r := by unfold bnd; rw [h]
def want (b : Bool) (e : Int) : Ps Unit := fun l => if b = true then .ok ((), l) else .error e
def u2 : Ps Int
  | a :: b :: r => .ok ((a.toNat : Int) * 256 + (b.toNat : Int), r)
  | _ => .error 30
def u4 : Ps Int := bnd u2 fun h => bnd u2 fun l => ret (h * 65536 + l)
def takeP (n : Nat) : Ps (List UInt8) := fun l => if n ≤ l.length then .ok (l.take n, l.drop n) else .error 30
def noneP : Ps Unit := bnd u2 fun n => want (n == 0) 43
def listP {α : Type} (p : Ps α) : Nat → Ps (List α)
  | 0 => ret []
  | n + 1 => bnd p fun a => bnd (listP p n) fun l => ret (a :: l)
/-- As many as the number ahead says. -/
def listN {α : Type} (p : Ps α) : Ps (List α) := bnd u2 fun k => listP p k.toNat
def hnP : Ps Hn := bnd u2 fun f => bnd u2 fun t => bnd u2 fun a => bnd u2 fun y => ret ⟨f, t, a, y⟩
def mbP : Ps Mb := bnd u2 fun a => bnd u2 fun n => bnd u2 fun d => ret ⟨a, n, d, 0, 0, [], []⟩
def fdP : Ps Mb := bnd mbP fun m => bnd noneP fun _ => ret m
/-- The Code index; nought: there is none. -/
def cix (P : List L3.Cp.C) : Nat := match (P.drop 1).findIdx? (fun c => c == codeC) with
  | some j => j + 1
  | none => 0
/-- A method's body, behind the number of its bytes; how many bytes it has had. -/
def bodyP (m : Mb) : Ps Mb := bnd u2 fun st => bnd u2 fun lc => bnd u4 fun n => bnd (takeP n.toNat) fun code => bnd (listN hnP) fun hs => bnd noneP fun _ => ret { m with st := st, lc := lc, code := code, hs := hs }
def sizedP (n : Int) (m : Mb) : Ps Mb := fun l => match bodyP m l with
  | .error e => .error e
  | .ok (x, r) => if n = (l.length : Int) - (r.length : Int) then .ok (x, r) else .error 43
def meP (code : Int) : Ps Mb := bnd mbP fun m => bnd u2 fun n => bnd (want (n == 1) 43) fun _ => bnd u2 fun i => bnd (want (decide (i = code ∧ i ≠ 0)) 43) fun _ => bnd u4 fun size => sizedP size m
def poolP : Ps (List L3.Cp.C) := fun l => L3.plP l
def leftP : Ps Unit := fun l => if l = [] then .ok ((), l) else .error 44
def clP : Ps Cl := bnd u4 fun mg => bnd (want (mg == 3405691582) 40) fun _ => bnd u2 fun mi => bnd u2 fun ma => bnd (want (verB mi ma) 41) fun _ => bnd poolP fun P =>
  bnd u2 fun ac => bnd u2 fun th => bnd u2 fun su => bnd noneP fun _ => bnd (listN fdP) fun fs => bnd (listN (meP (cix P))) fun ms => bnd noneP fun _ => bnd leftP fun _ =>
  ret ⟨mi, ma, P, ac, th, su, fs, ms⟩
end Cf
end Go.Proofs.YtjnjnfhboafcgaaGreatDoor
namespace Go.Proofs.YtjnjnfhboafcgaaGreatDoor.L1.Op1
/-- The rows: an opcode, its name's bytes, its form. -/
def rows : List (Nat × List UInt8 × Nat) := [
  (0, [110, 111, 112], 0),
  (1, [97, 99, 111, 110, 115, 116, 95, 110, 117, 108, 108], 0),
  (2, [105, 99, 111, 110, 115, 116, 95, 109, 49], 0),
  (3, [105, 99, 111, 110, 115, 116, 95, 48], 0),
  (4, [105, 99, 111, 110, 115, 116, 95, 49], 0),
  (5, [105, 99, 111, 110, 115, 116, 95, 50], 0),
  (6, [105, 99, 111, 110, 115, 116, 95, 51], 0),
  (7, [105, 99, 111, 110, 115, 116, 95, 52], 0),
  (8, [105, 99, 111, 110, 115, 116, 95, 53], 0),
  (9, [108, 99, 111, 110, 115, 116, 95, 48], 0),
  (10, [108, 99, 111, 110, 115, 116, 95, 49], 0),
  (16, [98, 105, 112, 117, 115, 104], 2),
  (17, [115, 105, 112, 117, 115, 104], 3),
  (18, [108, 100, 99], 4),
  (20, [108, 100, 99, 50, 95, 119], 5),
  (21, [105, 108, 111, 97, 100], 1),
  (22, [108, 108, 111, 97, 100], 1),
  (25, [97, 108, 111, 97, 100], 1),
  (26, [105, 108, 111, 97, 100, 95, 48], 0),
  (27, [105, 108, 111, 97, 100, 95, 49], 0),
  (28, [105, 108, 111, 97, 100, 95, 50], 0),
  (29, [105, 108, 111, 97, 100, 95, 51], 0),
  (30, [108, 108, 111, 97, 100, 95, 48], 0),
  (31, [108, 108, 111, 97, 100, 95, 49], 0),
  (32, [108, 108, 111, 97, 100, 95, 50], 0),
  (33, [108, 108, 111, 97, 100, 95, 51], 0),
  (42, [97, 108, 111, 97, 100, 95, 48], 0),
  (43, [97, 108, 111, 97, 100, 95, 49], 0),
  (44, [97, 108, 111, 97, 100, 95, 50], 0),
  (45, [97, 108, 111, 97, 100, 95, 51], 0),
  (46, [105, 97, 108, 111, 97, 100], 0),
  (47, [108, 97, 108, 111, 97, 100], 0),
  (50, [97, 97, 108, 111, 97, 100], 0),
  (54, [105, 115, 116, 111, 114, 101], 1),
  (55, [108, 115, 116, 111, 114, 101], 1),
  (58, [97, 115, 116, 111, 114, 101], 1),
  (59, [105, 115, 116, 111, 114, 101, 95, 48], 0),
  (60, [105, 115, 116, 111, 114, 101, 95, 49], 0),
  (61, [105, 115, 116, 111, 114, 101, 95, 50], 0),
  (62, [105, 115, 116, 111, 114, 101, 95, 51], 0),
  (63, [108, 115, 116, 111, 114, 101, 95, 48], 0),
  (64, [108, 115, 116, 111, 114, 101, 95, 49], 0),
  (65, [108, 115, 116, 111, 114, 101, 95, 50], 0),
  (66, [108, 115, 116, 111, 114, 101, 95, 51], 0),
  (75, [97, 115, 116, 111, 114, 101, 95, 48], 0),
  (76, [97, 115, 116, 111, 114, 101, 95, 49], 0),
  (77, [97, 115, 116, 111, 114, 101, 95, 50], 0),
  (78, [97, 115, 116, 111, 114, 101, 95, 51], 0),
  (79, [105, 97, 115, 116, 111, 114, 101], 0),
  (80, [108, 97, 115, 116, 111, 114, 101], 0),
  (83, [97, 97, 115, 116, 111, 114, 101], 0),
  (87, [112, 111, 112], 0),
  (89, [100, 117, 112], 0),
  (90, [100, 117, 112, 95, 120, 49], 0),
  (95, [115, 119, 97, 112], 0),
  (96, [105, 97, 100, 100], 0),
  (97, [108, 97, 100, 100], 0),
  (100, [105, 115, 117, 98], 0),
  (101, [108, 115, 117, 98], 0),
  (104, [105, 109, 117, 108], 0),
  (105, [108, 109, 117, 108], 0),
  (108, [105, 100, 105, 118], 0),
  (109, [108, 100, 105, 118], 0),
  (112, [105, 114, 101, 109], 0),
  (113, [108, 114, 101, 109], 0),
  (116, [105, 110, 101, 103], 0),
  (117, [108, 110, 101, 103], 0),
  (120, [105, 115, 104, 108], 0),
  (121, [108, 115, 104, 108], 0),
  (122, [105, 115, 104, 114], 0),
  (123, [108, 115, 104, 114], 0),
  (124, [105, 117, 115, 104, 114], 0),
  (125, [108, 117, 115, 104, 114], 0),
  (126, [105, 97, 110, 100], 0),
  (127, [108, 97, 110, 100], 0),
  (128, [105, 111, 114], 0),
  (129, [108, 111, 114], 0),
  (130, [105, 120, 111, 114], 0),
  (131, [108, 120, 111, 114], 0),
  (132, [105, 105, 110, 99], 7),
  (133, [105, 50, 108], 0),
  (136, [108, 50, 105], 0),
  (145, [105, 50, 98], 0),
  (146, [105, 50, 99], 0),
  (147, [105, 50, 115], 0),
  (148, [108, 99, 109, 112], 0),
  (153, [105, 102, 101, 113], 6),
  (154, [105, 102, 110, 101], 6),
  (155, [105, 102, 108, 116], 6),
  (156, [105, 102, 103, 101], 6),
  (157, [105, 102, 103, 116], 6),
  (158, [105, 102, 108, 101], 6),
  (159, [105, 102, 95, 105, 99, 109, 112, 101, 113], 6),
  (160, [105, 102, 95, 105, 99, 109, 112, 110, 101], 6),
  (161, [105, 102, 95, 105, 99, 109, 112, 108, 116], 6),
  (162, [105, 102, 95, 105, 99, 109, 112, 103, 101], 6),
  (163, [105, 102, 95, 105, 99, 109, 112, 103, 116], 6),
  (164, [105, 102, 95, 105, 99, 109, 112, 108, 101], 6),
  (165, [105, 102, 95, 97, 99, 109, 112, 101, 113], 6),
  (166, [105, 102, 95, 97, 99, 109, 112, 110, 101], 6),
  (167, [103, 111, 116, 111], 6),
  (172, [105, 114, 101, 116, 117, 114, 110], 0),
  (173, [108, 114, 101, 116, 117, 114, 110], 0),
  (176, [97, 114, 101, 116, 117, 114, 110], 0),
  (177, [114, 101, 116, 117, 114, 110], 0),
  (178, [103, 101, 116, 115, 116, 97, 116, 105, 99], 5),
  (179, [112, 117, 116, 115, 116, 97, 116, 105, 99], 5),
  (180, [103, 101, 116, 102, 105, 101, 108, 100], 5),
  (181, [112, 117, 116, 102, 105, 101, 108, 100], 5),
  (182, [105, 110, 118, 111, 107, 101, 118, 105, 114, 116, 117, 97, 108], 5),
  (183, [105, 110, 118, 111, 107, 101, 115, 112, 101, 99, 105, 97, 108], 5),
  (184, [105, 110, 118, 111, 107, 101, 115, 116, 97, 116, 105, 99], 5),
  (187, [110, 101, 119], 5),
  (188, [110, 101, 119, 97, 114, 114, 97, 121], 8),
  (189, [97, 110, 101, 119, 97, 114, 114, 97, 121], 5),
  (190, [97, 114, 114, 97, 121, 108, 101, 110, 103, 116, 104], 0),
  (191, [97, 116, 104, 114, 111, 119], 0),
  (192, [99, 104, 101, 99, 107, 99, 97, 115, 116], 5),
  (193, [105, 110, 115, 116, 97, 110, 99, 101, 111, 102], 5),
  (198, [105, 102, 110, 117, 108, 108], 6),
  (199, [105, 102, 110, 111, 110, 110, 117, 108, 108], 6)]
/-- Of each number its form and one more; nought: it is none. -/
def forms : List Nat := [1, 1, 1, 1, 1, 1, 1, 1, 1, 1, 1, 0, 0, 0, 0, 0, 3, 4, 5, 0, 6, 2, 2, 0, 0, 2, 1, 1, 1, 1, 1, 1, 1, 1, 0, 0, 0, 0, 0, 0, 0, 0, 1, 1, 1, 1, 1, 1, 0, 0, 1, 0, 0, 0, 2, 2, 0, 0, 2, 1, 1, 1, 1, 1, 1, 1, 1, 0, 0, 0, 0, 0, 0, 0, 0, 1, 1, 1, 1, 1, 1, 0, 0, 1, 0, 0, 0, 1, 0, 1, 1, 0, 0, 0, 0, 1, 1, 1, 0, 0, 1, 1, 0, 0, 1, 1, 0, 0, 1, 1, 0, 0, 1, 1, 0, 0, 1, 1, 0, 0, 1, 1, 1, 1, 1, 1, 1, 1, 1, 1, 1, 1, 8, 1, 0, 0, 1, 0, 0, 0, 0, 0, 0, 0, 0, 1, 1, 1, 1, 0, 0, 0, 0, 7, 7, 7, 7, 7, 7, 7, 7, 7, 7, 7, 7, 7, 7, 7, 0, 0, 0, 0, 1, 1, 0, 0, 1, 1, 6, 6, 6, 6, 6, 6, 6, 0, 0, 6, 9, 6, 1, 1, 6, 6, 0, 0, 0, 0, 7, 7]
/-- Of each number its name; none: it is empty. -/
def names : List (List UInt8) := [[110, 111, 112], [97, 99, 111, 110, 115, 116, 95, 110, 117, 108, 108], [105, 99, 111, 110, 115, 116, 95, 109, 49], [105, 99, 111, 110, 115, 116, 95, 48], [105, 99, 111, 110, 115, 116, 95, 49], [105, 99, 111, 110, 115, 116, 95, 50], [105, 99, 111, 110, 115, 116, 95, 51], [105, 99, 111, 110, 115, 116, 95, 52], [105, 99, 111, 110, 115, 116, 95, 53], [108, 99, 111, 110, 115, 116, 95, 48], [108, 99, 111, 110, 115, 116, 95, 49], [], [], [], [], [], [98, 105, 112, 117, 115, 104], [115, 105, 112, 117, 115, 104], [108, 100, 99], [], [108, 100, 99, 50, 95, 119], [105, 108, 111, 97, 100], [108, 108, 111, 97, 100], [], [], [97, 108, 111, 97, 100], [105, 108, 111, 97, 100, 95, 48], [105, 108, 111, 97, 100, 95, 49], [105, 108, 111, 97, 100, 95, 50], [105, 108, 111, 97, 100, 95, 51], [108, 108, 111, 97, 100, 95, 48], [108, 108, 111, 97, 100, 95, 49], [108, 108, 111, 97, 100, 95, 50], [108, 108, 111, 97, 100, 95, 51], [], [], [], [], [], [], [], [], [97, 108, 111, 97, 100, 95, 48], [97, 108, 111, 97, 100, 95, 49], [97, 108, 111, 97, 100, 95, 50], [97, 108, 111, 97, 100, 95, 51], [105, 97, 108, 111, 97, 100], [108, 97, 108, 111, 97, 100], [], [], [97, 97, 108, 111, 97, 100], [], [], [], [105, 115, 116, 111, 114, 101], [108, 115, 116, 111, 114, 101], [], [], [97, 115, 116, 111, 114, 101], [105, 115, 116, 111, 114, 101, 95, 48], [105, 115, 116, 111, 114, 101, 95, 49], [105, 115, 116, 111, 114, 101, 95, 50], [105, 115, 116, 111, 114, 101, 95, 51], [108, 115, 116, 111, 114, 101, 95, 48], [108, 115, 116, 111, 114, 101, 95, 49], [108, 115, 116, 111, 114, 101, 95, 50], [108, 115, 116, 111, 114, 101, 95, 51], [], [], [], [], [], [], [], [], [97, 115, 116, 111, 114, 101, 95, 48], [97, 115, 116, 111, 114, 101, 95, 49], [97, 115, 116, 111, 114, 101, 95, 50], [97, 115, 116, 111, 114, 101, 95, 51], [105, 97, 115, 116, 111, 114, 101], [108, 97, 115, 116, 111, 114, 101], [], [], [97, 97, 115, 116, 111, 114, 101], [], [], [], [112, 111, 112], [], [100, 117, 112], [100, 117, 112, 95, 120, 49], [], [], [], [], [115, 119, 97, 112], [105, 97, 100, 100], [108, 97, 100, 100], [], [], [105, 115, 117, 98], [108, 115, 117, 98], [], [], [105, 109, 117, 108], [108, 109, 117, 108], [], [], [105, 100, 105, 118], [108, 100, 105, 118], [], [], [105, 114, 101, 109], [108, 114, 101, 109], [], [], [105, 110, 101, 103], [108, 110, 101, 103], [], [], [105, 115, 104, 108], [108, 115, 104, 108], [105, 115, 104, 114], [108, 115, 104, 114], [105, 117, 115, 104, 114], [108, 117, 115, 104, 114], [105, 97, 110, 100], [108, 97, 110, 100], [105, 111, 114], [108, 111, 114], [105, 120, 111, 114], [108, 120, 111, 114], [105, 105, 110, 99], [105, 50, 108], [], [], [108, 50, 105], [], [], [], [], [], [], [], [], [105, 50, 98], [105, 50, 99], [105, 50, 115], [108, 99, 109, 112], [], [], [], [], [105, 102, 101, 113], [105, 102, 110, 101], [105, 102, 108, 116], [105, 102, 103, 101], [105, 102, 103, 116], [105, 102, 108, 101], [105, 102, 95, 105, 99, 109, 112, 101, 113], [105, 102, 95, 105, 99, 109, 112, 110, 101], [105, 102, 95, 105, 99, 109, 112, 108, 116], [105, 102, 95, 105, 99, 109, 112, 103, 101], [105, 102, 95, 105, 99, 109, 112, 103, 116], [105, 102, 95, 105, 99, 109, 112, 108, 101], [105, 102, 95, 97, 99, 109, 112, 101, 113], [105, 102, 95, 97, 99, 109, 112, 110, 101], [103, 111, 116, 111], [], [], [], [], [105, 114, 101, 116, 117, 114, 110], [108, 114, 101, 116, 117, 114, 110], [], [], [97, 114, 101, 116, 117, 114, 110], [114, 101, 116, 117, 114, 110], [103, 101, 116, 115, 116, 97, 116, 105, 99], [112, 117, 116, 115, 116, 97, 116, 105, 99], [103, 101, 116, 102, 105, 101, 108, 100], [112, 117, 116, 102, 105, 101, 108, 100], [105, 110, 118, 111, 107, 101, 118, 105, 114, 116, 117, 97, 108], [105, 110, 118, 111, 107, 101, 115, 112, 101, 99, 105, 97, 108], [105, 110, 118, 111, 107, 101, 115, 116, 97, 116, 105, 99], [], [], [110, 101, 119], [110, 101, 119, 97, 114, 114, 97, 121], [97, 110, 101, 119, 97, 114, 114, 97, 121], [97, 114, 114, 97, 121, 108, 101, 110, 103, 116, 104], [97, 116, 104, 114, 111, 119], [99, 104, 101, 99, 107, 99, 97, 115, 116], [105, 110, 115, 116, 97, 110, 99, 101, 111, 102], [], [], [], [], [105, 102, 110, 117, 108, 108], [105, 102, 110, 111, 110, 110, 117, 108, 108]]

def behinds : List Nat := [0, 1, 1, 2, 1, 2, 2, 2, 1]
/-- A form and one more; nought: it is no opcode. -/
def fm (op : Int) : Nat := if 0 ≤ op ∧ op < 200 then forms.getD op.toNat 0 else 0
def isOp (op : Int) : Bool := fm op != 0
def formOf (op : Int) : Nat := fm op - 1
def bh (f : Nat) : Nat := behinds.getD f 0
def szOf (op : Int) : Nat := if isOp op then 1 + bh (formOf op) else 0
theorem fm_le (op : Int) : fm op ≤ 9 := by
  unfold fm
  split
  · have h : ∀ k, k < 200 → forms.getD k 0 ≤ 9 := by decide +kernel
    exact h _ (by omega)
  · omega
theorem formOf_le (op : Int) : formOf op ≤ 8 := by have := fm_le op; unfold formOf; omega
theorem fm_out (op : Int) (h : ¬ (0 ≤ op ∧ op < 200)) : fm op = 0 := by unfold fm; rw [if_neg h]
theorem fm_nat (k : Nat) (h : k < 200) : fm (k : Int) = forms.getD k 0 := by unfold fm; rw [if_pos (by omega)]; rfl
end Go.Proofs.YtjnjnfhboafcgaaGreatDoor.L1.Op1
namespace Go.Proofs.YtjnjnfhboafcgaaGreatDoor.L1
open Go.RowKit

/-- The two tables of package opcode hold what their text says. -/
structure Tabs (w : World) : Prop where
  size : 5 < w.heap.size ∧ 1 < w.heap.size
  forms : ∀ k, k < 200 → w.cell? ⟨5, k, none⟩ = some (.int .u8 (Op1.forms.getD k 0 : Nat))
  behind : ∀ k, k < 9 → w.cell? ⟨1, k, none⟩ = some (.int .u8 (Op1.behinds.getD k 0 : Nat))
theorem hid {p : Prop} (h : p) : Hid p := h
theorem Tabs.below {B : Nat} {w w' : World} (h : Tabs w) (hb : Below B w w') (hB : 5 < B ∧ 1 < B) : Tabs w' :=
  ⟨⟨Nat.lt_of_lt_of_le h.size.1 hb.size, Nat.lt_of_lt_of_le h.size.2 hb.size⟩, fun k hk => (hb.cell (p := ⟨5, k, none⟩) (by simp; omega)).trans (h.forms k hk), fun k hk => (hb.cell (p := ⟨1, k, none⟩) (by simp; omega)).trans (h.behind k hk)⟩

def isV (op : Int) : Value := .tuple #[.int .i64 (Op1.formOf op : Nat), .bool (Op1.isOp op)]

set_option maxRecDepth 100000 in
theorem form_any (op : Int) (w : World) (ht : Tabs w) : Calls Tryz.prog 205 #[.int .i64 op] w fun e w' => e = .returned (isV op) ∧ w = w' := by
  by_cases h : 0 ≤ op ∧ op < 200
  · obtain ⟨k, rfl⟩ := Int.eq_ofNat_of_zero_le h.1
    have hk : k < 200 := by omega
    have hc := ht.forms k hk
    have hf := Op1.fm_nat k hk
    have hz9 := Op1.fm_le k
    obtain ⟨z, hz⟩ : ∃ z, z = Op1.forms.getD k 0 := ⟨_, rfl⟩
    rw [← hz] at hc hf
    have hV : isV (k : Int) = if z = 0 then .tuple #[.int .i64 0, .bool false] else .tuple #[.int .i64 ((z : Int) - 1), .bool true] := by
      unfold isV Op1.formOf Op1.isOp
      rw [hf]
      by_cases hz0 : z = 0
      · simp [hz0]
      · have : ((z - 1 : Nat) : Int) = (z : Int) - 1 := by omega
        simp [hz0, this]
    rw [hf] at hz9
    rw [hV]
    clear hf hz hV ht h
    by_cases hz0 : z = 0
    · subst hz0
      go_enter Tryz.func205, Tryz.ntmps205
      go_wp2
      all_goals go_ret2
      exact ⟨by simp, rfl⟩
    · have hzb : ((z : Int) == 0) = false := by simpa using hz0
      have hd : decide ((k : Int) < 0) = false := by simp
      have hd2 : decide (200 ≤ (k : Int)) = false := by simp; omega
      have hz1 : 0 < (z : Int) := by omega
      have hz2 : (z : Int) ≤ 9 := by omega
      go_enter Tryz.func205, Tryz.ntmps205
      go_wp2
      all_goals go_ret2
      exact ⟨by simp, rfl⟩
  · have hV : isV op = .tuple #[.int .i64 0, .bool false] := by
      unfold isV Op1.formOf Op1.isOp
      rw [Op1.fm_out op h]
      rfl
    rw [hV]
    clear hV ht
    by_cases h0 : op < 0
    all_goals
      go_enter Tryz.func205, Tryz.ntmps205
      go_wp2
      all_goals go_ret2
      all_goals exact ⟨rfl, rfl⟩

def szV (op : Int) : Value := .tuple #[.int .i64 (Op1.szOf op : Nat), .bool (Op1.isOp op)]
set_option maxRecDepth 100000 in
theorem size_any (op : Int) (w : World) (ht : Tabs w) : Calls Tryz.prog 192 #[.int .i64 op] w fun e w' => e = .returned (szV op) ∧ w = w' := by
  have hf8 := Op1.formOf_le op
  have hb := ht.behind (Op1.formOf op) (by omega)
  have hb2 : Op1.behinds.getD (Op1.formOf op) 0 ≤ 2 := (show ∀ k, k < 9 → Op1.behinds.getD k 0 ≤ 2 by decide +kernel) _ (by omega)
  have hV : szV op = if Op1.isOp op then .tuple #[.int .i64 (1 + (Op1.behinds.getD (Op1.formOf op) 0 : Nat) : Int), .bool true] else .tuple #[.int .i64 0, .bool false] := by
    unfold szV Op1.szOf Op1.bh
    cases Op1.isOp op <;> simp
  have hform := form_any op w ht
  unfold isV at hform
  rw [hV]
  generalize Op1.behinds.getD (Op1.formOf op) 0 = y at *
  generalize Op1.formOf op = x at *
  generalize Op1.isOp op = is at *
  clear hV
  have H := hid hform
  clear hform
  cases is
  all_goals
    go_enter Tryz.func192, Tryz.ntmps192
    go_wp2_with (go_at_call 205; refine H.out.mono ?_; rintro e w' ⟨rfl, rfl⟩)
    go_ret2
    exact ⟨by simp, rfl⟩
end Go.Proofs.YtjnjnfhboafcgaaGreatDoor.L1
namespace Go.Proofs.YtjnjnfhboafcgaaGreatDoor.L1
open Go.RowKit

theorem belows {B : Nat} {a b c : World} (h : Below B a b) (k : Below b.heap.size b c) (hB : B ≤ b.heap.size) : Below B a c := h.trans (k.mono hB)

end Go.Proofs.YtjnjnfhboafcgaaGreatDoor.L1
namespace Go.Proofs.YtjnjnfhboafcgaaGreatDoor.L1.Op1
structure Ins where
  p : Int
  op : Int
  a : Int
  b : Int
instance : DecidableEq Ins := fun x y => decidable_of_iff (x.p = y.p ∧ x.op = y.op ∧ x.a = y.a ∧ x.b = y.b)
  ⟨fun h => by cases x; cases y; simp_all, fun h => by subst h; exact ⟨rfl, rfl, rfl, rfl⟩⟩
def s8 (c : Nat) : Int := if 128 ≤ c then (c : Int) - 256 else c
def s16 (c : Nat) : Int := if 32768 ≤ c then (c : Int) - 65536 else c
/-- What stands behind an opcode of a form. -/
def abOf (f : Nat) (p : Int) (c d : Nat) : Int × Int :=
  if f = 1 ∨ f = 4 ∨ f = 8 then ((c : Int), 0) else if f = 2 then (s8 c, 0) else if f = 3 then (s16 (256 * c + d), 0) else if f = 5 then (((256 * c + d : Nat) : Int), 0)
  else if f = 6 then (p + s16 (256 * c + d), 0) else if f = 7 then ((c : Int), s8 d) else (0, 0)
def at8 (bs : List UInt8) (i : Nat) : Nat := (bs.getD i 0).toNat
theorem at8_lt (bs : List UInt8) (i : Nat) : at8 bs i < 256 := UInt8.toNat_lt _
def insAt (bs : List UInt8) (p : Nat) : Ins :=
  let ab := abOf (formOf (at8 bs p)) p (at8 bs (p + 1)) (at8 bs (p + 2))
  ⟨p, at8 bs p, ab.1, ab.2⟩
def noIns : Ins := ⟨0, 0, 0, 0⟩
/-- The instruction at an address, the address behind it, the error. -/
def one (bs : List UInt8) (p : Int) : Ins × Int × Int :=
  if p < 0 ∨ (bs.length : Int) ≤ p then (noIns, 0, 11)
  else if isOp (at8 bs p.toNat) = false then (noIns, 0, 10)
  else if (bs.length : Int) - p < szOf (at8 bs p.toNat) then (noIns, 0, 11)
  else if at8 bs p.toNat = 188 ∧ at8 bs (p.toNat + 1) ≠ 10 ∧ at8 bs (p.toNat + 1) ≠ 11 then (noIns, 0, 13)
  else (insAt bs p.toNat, p + szOf (at8 bs p.toNat), 0)
end Go.Proofs.YtjnjnfhboafcgaaGreatDoor.L1.Op1

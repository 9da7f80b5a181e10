/- Contract of Check. -/
import Derived.Test.YtljbcclfafndmaaDoorCt
namespace Go.Proofs.YtljbcclfafndmaaDoor
open Go.RowKit

/-- What is wrong with the entry at a place. -/
def errAt (l : List Cp.C) (i : Nat) : Int := match l[i]? with
  | none => 0
  | some c => if prevB l i = true then (if c = Cp.C0 then 0 else 31) else (if c.t = 5 ∧ i = l.length - 1 then 31 else ceOut c)
/-- The first thing that is wrong with a pool. -/
def CkIs (l : List Cp.C) (er : Int) : Prop := (4096 < l.length ∧ er = 3) ∨ (l.length ≤ 4096 ∧ ((er = 0 ∧ ∀ i, i < l.length → errAt l i = 0) ∨ (∃ i, i < l.length ∧ errAt l i = er ∧ er ≠ 0 ∧ ∀ j, j < i → errAt l j = 0)))
theorem CkIs.det {l : List Cp.C} {a b : Int} (h : CkIs l a) (k : CkIs l b) : a = b := by
  rcases h with ⟨h1, rfl⟩ | ⟨h1, h⟩
  · rcases k with ⟨-, rfl⟩ | ⟨k1, -⟩
    · rfl
    · omega
  · rcases k with ⟨k1, -⟩ | ⟨-, k⟩
    · omega
    · rcases h with ⟨rfl, h⟩ | ⟨i, hi, he, hn, h⟩
      · rcases k with ⟨rfl, -⟩ | ⟨j, hj, ke, kn, -⟩
        · rfl
        · exact absurd (ke.symm.trans (h j hj)) kn
      · rcases k with ⟨rfl, k⟩ | ⟨j, hj, ke, kn, k⟩
        · exact absurd (he.symm.trans (k i hi)) hn
        · rcases Nat.lt_trichotomy i j with hij | rfl | hij
          · exact absurd (he.symm.trans (k i hij)) hn
          · exact he.symm.trans ke
          · exact absurd (ke.symm.trans (h j hij)) kn
set_option maxRecDepth 100000 in
set_option maxHeartbeats 400000 in
theorem check_any (l : List Cp.C) (v : Value) (w : World) (ht : Tabs w) (hv : Kit.IsS 5 w v l.length (l.flatMap cL)) (hs : ∀ c ∈ l, c.s.size ≤ 140737488355328) :
    Calls Tryd.prog 17 #[v] w fun e w' => ∃ er, CkIs l er ∧ e = .returned (.int .i64 er) ∧ Below w.heap.size w w' := by
  have HT := hid (fun W (h : Below w.heap.size w W) => ht.below h ht.size)
  have HV := hid (fun W (h : Below w.heap.size w W) => hv.below h (Nat.le_refl _))
  have HS := hid hs
  have hlen := hv.2.1
  obtain ⟨a, cap, rfl⟩ := hv.len
  clear hv ht hs
  by_cases hbig : 4096 < l.length
  · have hd : decide (4096 < (l.length : Int)) = true := by simp; omega
    have HC := hid (show CkIs l 3 from .inl ⟨hbig, rfl⟩)
    clear hbig
    go_enter Tryd.func17, Tryd.ntmps17
    go_wp2
    go_ret
    exact ⟨3, HC.out, rfl, (by repeat' first | with_reducible exact Below.refl _ _ | with_reducible assumption | with_reducible refine belows_drewN ?_ _ | with_reducible refine Below.drew ?_ | with_reducible refine Below.setCell ?_ ?_ _ | with_reducible refine Below.alloc ?_ ?_ _ | omega | (simp; done) | (simp; omega))⟩
  · have hd : decide (4096 < (l.length : Int)) = false := by simp; omega
    have hsm : l.length ≤ 4096 := by omega
    clear hbig
    go_enter Tryd.func17, Tryd.ntmps17
    go_wp2
    go_loopw [10] (fun i wr => ∃ k : Nat, k ≤ l.length ∧ i = .int .i64 k ∧ Hid (∀ j, j < k → errAt l j = 0) ∧ Below w.heap.size w wr) (fun i _ => l.length - (intOf i).toNat)
    case atStart => exact ⟨0, by omega, rfl, fun j hj => absurd hj (by omega), (by repeat' first | with_reducible exact Below.refl _ _ | with_reducible assumption | with_reducible refine belows_drewN ?_ _ | with_reducible refine Below.drew ?_ | with_reducible refine Below.setCell ?_ ?_ _ | with_reducible refine Below.alloc ?_ ?_ _ | omega | (simp; done) | (simp; omega))⟩
    case round =>
      obtain ⟨k, hk, rfl, hz, hbl⟩ := hrel
      have hbz := hbl.size
      by_cases hlt : k < l.length
      · obtain ⟨c, hc⟩ : ∃ c, l[k]? = some c := ⟨l[k], List.getElem?_eq_getElem hlt⟩
        have HA0 : Calls Tryd.prog 42 #[.slice a l.length cap, .int .i64 k] wr fun e w' => e = .returned (.int .i64 (errAt l k)) ∧ Below wr.heap.size wr w' := by
          unfold errAt
          rw [hc]
          dsimp only
          cases hp : prevB l k with
          | true => rw [if_pos rfl]; exact checkAt_none l k c _ wr (HV.out wr hbl) hc hp
          | false => rw [if_neg (by simp)]; exact checkAt_some l k c _ wr (HT.out wr hbl) (HV.out wr hbl) hc hp (HS.out c (List.mem_of_getElem? hc))
        have hki : (k : Int) < l.length := by omega
        obtain ⟨er, her⟩ : ∃ er, er = errAt l k := ⟨_, rfl⟩
        rw [← her] at HA0
        have HA := hid HA0
        by_cases h0 : er = 0
        · have hnext := hid (fun j (hj : j < k + 1) => show errAt l j = 0 by
            rcases Nat.lt_or_ge j k with h | h
            · exact hz.out j h
            · rw [show j = k by omega, ← her, h0])
          have hd5 : (er != 0) = false := by simpa using h0
          clear HA0 hc her h0
          go_wp2_with (go_at_call 42; refine HA.out.mono ?_; rintro e w1 ⟨rfl, hb1⟩)
          go_roundw
          case rel => exact ⟨k + 1, by omega, by go_num, hnext, belows hbl hb1 hbz⟩
          case measure => simp [intOf]; omega
        · have HC := hid (show CkIs l er from .inr ⟨hsm, .inr ⟨k, hlt, her.symm, h0, hz.out⟩⟩)
          have hd5 : (er != 0) = true := by simpa using h0
          clear HA0 hc her h0
          go_wp2_with (go_at_call 42; refine HA.out.mono ?_; rintro e w1 ⟨rfl, hb1⟩)
          go_ret
          exact ⟨er, HC.out, rfl, belows hbl hb1 hbz⟩
      · obtain rfl : k = l.length := by omega
        have HC := hid (show CkIs l 0 from .inr ⟨hsm, .inl ⟨rfl, hz.out⟩⟩)
        go_wp2
        go_ret
        exact ⟨0, HC.out, rfl, hbl⟩
end Go.Proofs.YtljbcclfafndmaaDoor

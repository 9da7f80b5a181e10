/- Contract of the document's Check. -/
import Derived.Test.YtljbcclfafndmaaDoorDf
import Derived.Test.YtljbcclfafndmaaDoorCu
namespace Go.Proofs.YtljbcclfafndmaaDoor
open Go.RowKit

theorem prev_next {l : List Cp.C} {k : Nat} {c : Cp.C} (h : l[k]? = some c) : prevB l (k + 1) = (c.t == 5) := by
  unfold prevB
  dsimp only
  rw [h]
set_option maxRecDepth 100000 in
set_option maxHeartbeats 4000000 in
theorem rcheck_any (l : List Cp.C) (v : Value) (w : World) (hv : Kit.IsS 5 w v l.length (l.flatMap cL)) (hs : ∀ c ∈ l, c.s.size ≤ 140737488355328 ∧ I6 c.n) :
    Calls Tryd.prog 18 #[v] w fun e w' => ∃ er, CkIs l er ∧ e = .returned (.int .i64 er) ∧ Below w.heap.size w w' := by
  have HV := hid (fun W (h : Below w.heap.size w W) => hv.below h (Nat.le_refl _))
  have HS := hid hs
  have hlen := hv.2.1
  obtain ⟨a, cap, rfl⟩ := hv.len
  clear hv hs
  by_cases hbig : 4096 < l.length
  · have hd : decide (4096 < (l.length : Int)) = true := by simp; omega
    have HC := hid (show CkIs l 3 from .inl ⟨hbig, rfl⟩)
    clear hbig
    go_enter Tryd.func18, Tryd.ntmps18
    go_wp2
    go_ret
    exact ⟨3, HC.out, rfl, (by repeat' first | with_reducible exact Below.refl _ _ | with_reducible assumption | with_reducible refine belows_drewN ?_ _ | with_reducible refine Below.drew ?_ | with_reducible refine Below.setCell ?_ ?_ _ | with_reducible refine Below.alloc ?_ ?_ _ | omega | (simp; done) | (simp; omega))⟩
  · have hd : decide (4096 < (l.length : Int)) = false := by simp; omega
    have hsm : l.length ≤ 4096 := by omega
    clear hbig
    have hw1 : IntKind.i64.wrap ((l.length : Int) - 1) = (l.length : Int) - 1 := IntWalk.i64_in _ (by omega)
    go_enter Tryd.func18, Tryd.ntmps18
    go_wp2
    go_loopw [3, 4] (fun p i wr => ∃ k : Nat, k ≤ l.length ∧ i = .int .i64 k ∧ p = .bool (prevB l k) ∧ Hid (∀ j, j < k → errAt l j = 0) ∧ Below w.heap.size w wr) (fun _ i _ => l.length - (intOf i).toNat)
    case atStart => exact ⟨0, by omega, rfl, rfl, fun j hj => absurd hj (by omega), (by repeat' first | with_reducible exact Below.refl _ _ | with_reducible assumption | with_reducible refine belows_drewN ?_ _ | with_reducible refine Below.drew ?_ | with_reducible refine Below.setCell ?_ ?_ _ | with_reducible refine Below.alloc ?_ ?_ _ | omega | (simp; done) | (simp; omega))⟩
    case round =>
      obtain ⟨k, hk, rfl, rfl, hz, hbl⟩ := hrel
      have hbz := hbl.size
      by_cases hlt : k < l.length
      · obtain ⟨c, hc⟩ : ∃ c, l[k]? = some c := ⟨l[k], List.getElem?_eq_getElem hlt⟩
        obtain ⟨b, o, cap', hv', hb, c0, c1, c2, c3, c4⟩ := c_at (HV.out wr hbl) hc
        obtain ⟨rfl, -, rfl⟩ := Value.slice.inj hv'
        have hki : (k : Int) < l.length := by omega
        have hnx := prev_next hc
        have hE : errAt l k = if prevB l k = true then (if c = Cp.C0 then 0 else 31) else (if c.t = 5 ∧ k = l.length - 1 then 31 else ceOut c) := by unfold errAt; rw [hc]
        have HCe := hid (fun (er : Int) (h : errAt l k = er) (h0 : er ≠ 0) => show CkIs l er from .inr ⟨hsm, .inr ⟨k, hlt, h, h0, hz.out⟩⟩)
        have HNx := hid (fun (h : errAt l k = 0) j (hj : j < k + 1) => show errAt l j = 0 by
            rcases Nat.lt_or_ge j k with h1 | h1
            · exact hz.out j h1
            · rw [show j = k by omega, h])
        cases hp : prevB l k with
        | true =>
          rw [hp, if_pos rfl] at hE
          by_cases he : c = Cp.C0
          · rw [if_pos he] at hE
            subst he
            have HN := hid (HNx.out hE)
            have HP := hid hnx
            unfold Cp.C0 at c0 c1 c2 c3 c4
            dsimp only at c0 c1 c2 c3 c4
            clear hc hE hnx hp hv'
            go_wp2
            go_roundw
            case rel => exact ⟨k + 1, by omega, by go_num, by rw [HP.out]; rfl, HN, (by repeat' first | with_reducible exact Below.refl _ _ | with_reducible assumption | with_reducible refine belows_drewN ?_ _ | with_reducible refine Below.drew ?_ | with_reducible refine Below.setCell ?_ ?_ _ | with_reducible refine Below.alloc ?_ ?_ _ | omega | (simp; done) | (simp; omega))⟩
            case measure => simp [intOf]; omega
          · rw [if_neg he] at hE
            have HC := hid (HCe.out 31 hE (by decide))
            have hne := c0_ne he
            obtain ⟨t, s, n, a, bb⟩ := c
            dsimp only at c0 c1 c2 c3 c4 hne
            clear hc he hE hnx hp hv'
            rcases hne with h | ⟨rfl, h⟩ | ⟨rfl, rfl, h⟩ | ⟨rfl, rfl, rfl, h⟩ | ⟨rfl, rfl, rfl, rfl, h⟩
            all_goals go_wp2
            all_goals go_ret
            all_goals exact ⟨31, HC.out, rfl, (by repeat' first | with_reducible exact Below.refl _ _ | with_reducible assumption | with_reducible refine belows_drewN ?_ _ | with_reducible refine Below.drew ?_ | with_reducible refine Below.setCell ?_ ?_ _ | with_reducible refine Below.alloc ?_ ?_ _ | omega | (simp; done) | (simp; omega))⟩
        | false =>
          rw [hp, if_neg (by simp)] at hE
          have HR := hid (fun W => rentry_any c W (HS.out c (List.mem_of_getElem? hc)).1 (HS.out c (List.mem_of_getElem? hc)).2)
          by_cases hlast : c.t = 5 ∧ k = l.length - 1
          · rw [if_pos hlast] at hE
            have HC := hid (HCe.out 31 hE (by decide))
            have hd5 : (c.t == 5) = true := by simpa using hlast.1
            have hd6 : ((k : Int) == (l.length : Int) - 1) = true := by rw [beq_iff_eq]; omega
            clear hc hE hnx hp hv' hlast
            go_wp2
            go_ret
            exact ⟨31, HC.out, rfl, (by repeat' first | with_reducible exact Below.refl _ _ | with_reducible assumption | with_reducible refine belows_drewN ?_ _ | with_reducible refine Below.drew ?_ | with_reducible refine Below.setCell ?_ ?_ _ | with_reducible refine Below.alloc ?_ ?_ _ | omega | (simp; done) | (simp; omega))⟩
          · rw [if_neg hlast] at hE
            obtain ⟨er, her⟩ : ∃ er, er = ceOut c := ⟨_, rfl⟩
            rw [← her] at hE HR
            have hd6 : c.t = 5 → ((k : Int) == (l.length : Int) - 1) = false := by intro h; rw [beq_eq_false_iff_ne]; intro h2; exact hlast ⟨h, by omega⟩
            have HP := hid hnx
            have hsp : (c.t == 5) = false ∨ ((c.t == 5) = true ∧ ((k : Int) == (l.length : Int) - 1) = false) := by
              by_cases h : c.t = 5
              · exact .inr ⟨by simpa using h, hd6 h⟩
              · exact .inl (by simpa using h)
            by_cases h0 : er = 0
            · have HN := hid (HNx.out (hE.trans h0))
              have hd7 : (er != 0) = false := by simpa using h0
              unfold cC at HR
              clear hc hE hnx hp hv' hlast h0 her hd6
              rcases hsp with hd5 | ⟨hd5, hd6⟩
              all_goals go_wp2_with (go_at_call 43; refine (HR.out _).mono ?_; rintro e w1 ⟨rfl, hb1⟩; have k0 := hb1.cell (p := ⟨b, o + k * 5, none⟩) hb; rw [c0] at k0)
              all_goals go_roundw
              all_goals first
                | (case rel => exact ⟨k + 1, by omega, by go_num, by rw [HP.out, hd5], HN, belows hbl hb1 hbz⟩)
                | (case measure => simp [intOf]; omega)
            · have HC := hid (HCe.out er hE h0)
              have hd7 : (er != 0) = true := by simpa using h0
              unfold cC at HR
              clear hc hE hnx hp hv' hlast h0 her hd6
              rcases hsp with hd5 | ⟨hd5, hd6⟩
              all_goals go_wp2_with (go_at_call 43; refine (HR.out _).mono ?_; rintro e w1 ⟨rfl, hb1⟩)
              all_goals go_ret
              all_goals exact ⟨er, HC.out, rfl, belows hbl hb1 hbz⟩
      · obtain rfl : k = l.length := by omega
        have HC := hid (show CkIs l 0 from .inr ⟨hsm, .inl ⟨rfl, hz.out⟩⟩)
        go_wp2
        go_ret
        exact ⟨0, HC.out, rfl, hbl⟩
end Go.Proofs.YtljbcclfafndmaaDoor

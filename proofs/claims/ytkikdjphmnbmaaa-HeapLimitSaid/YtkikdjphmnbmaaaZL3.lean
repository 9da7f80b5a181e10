/- HeapLimit is true for every limit and every list of sizes, without a condition. -/
import Derived.Test.YtkikdjphmnbmaaaZL2
namespace Go.Proofs.Ytkikdjphmnbmaaa
open Go Go.RowKit

namespace Hp
def tA1 : Ty := ⟨4, ⟨#[65]⟩⟩
/-- What the law keeps: so many cells used, so many arrays. -/
theorem arr_yes {s : Hs} {n : Nat} (h : n + 1 ≤ s.lim - s.used) (hn : n ≤ 65536) : s.arr tA1 n = ((⟨s.lim, s.l ++ [⟨-1, [tA1], List.replicate n ⟨3, 0⟩⟩]⟩ : Hs), (s.l.length : Int) + 1, (0 : Int)) := by
  have h1 : ¬ ((n : Int) < 0) := by omega
  have h2 : ¬ (65536 < (n : Int) ∨ ¬ ((n : Int) < (s.lim : Int) - s.used)) := by omega
  unfold Hs.arr
  simp only [show zeroOf tA1 = some ⟨3, 0⟩ from rfl, if_neg h1, if_neg h2]
  simp
theorem arr_full {s : Hs} {n : Nat} (h : ¬ (n + 1 ≤ s.lim - s.used)) : s.arr tA1 n = (s, 0, 6) := by
  have h1 : ¬ ((n : Int) < 0) := by omega
  have h2 : 65536 < (n : Int) ∨ ¬ ((n : Int) < (s.lim : Int) - s.used) := by omega
  unfold Hs.arr
  simp only [show zeroOf tA1 = some ⟨3, 0⟩ from rfl, if_neg h1, if_pos h2]
end Hp
set_option maxRecDepth 100000 in
set_option maxHeartbeats 2000000 in
theorem limit_law (lim : Nat) (l : List Nat) (v : Value) (w : World) (hl : lim ≤ 65535) (hv : Kit.IsS 1 w v l.length (u16L l)) (hs : ∀ x ∈ l, x ≤ 65535) :
    Calls Try.prog 5 #[.int .u16 (lim : Int), v] w fun e w' => e = .returned (.bool true) ∧ Below w.heap.size w w' := by
  have HVl := hid (fun W (h : Below w.heap.size w W) => hv.below h (Nat.le_refl _))
  have HS := hid hs
  have hvl := hv.2.1
  obtain ⟨va0, vcap, rfl⟩ := hv.len
  clear hv hs
  go_enter Try.func5, Try.ntmps5
  go_wp2_with fail
  refine (New_any w.heap.size lim w (Nat.le_refl _) (by omega)).mono ?_
  rintro e w1 ⟨H, rfl, hR, hb1, -⟩
  rw [← flat_new] at hR
  go_wp2_with fail
  refine (begun_any w1).mono ?_
  rintro e w2 ⟨rfl, hb2⟩
  have hR2 := hid (hR.below hb2)
  have B2 : Below w.heap.size w w2 := belows hb1 hb2 hb1.size
  clear hR hb1 hb2
  go_wp2
  go_loopw [7, 8, 31] (fun u m i wr => ∃ (k : Nat) (s : Hp.Hs) (HH : HV), k ≤ l.length ∧ i = .int .i64 (k : Int) ∧ u = .int .i64 (s.used : Int) ∧ m = .int .i64 (s.l.length : Int) ∧ Hid (s.lim = lim) ∧ Hid s.Ok ∧ Hid (Rep wr w.heap.size HH s.flat) ∧ Hid (HH.hb = H.hb) ∧ Below w.heap.size w wr) (fun _ _ i _ => l.length - (intOf i).toNat)
  case atStart => exact ⟨0, ⟨lim, []⟩, H, by omega, rfl, rfl, rfl, rfl, Hp.new_ok (by omega), hR2.out, rfl, B2⟩
  case round =>
    obtain ⟨k, s, HH, hk, rfl, rfl, rfl, Hlim, Hok, HRp, Hhb, hbl⟩ := hrel
    have hbz := hbl.size
    have hu1 := Hok.out.used
    rw [Hlim.out] at hu1
    have hu2 : s.used = s.l.length + (s.l.map (·.vs)).flatten.length := rfl
    have hu3 : s.l.length ≤ 65535 := by omega
    clear hu2
    by_cases hlt : k < l.length
    · obtain ⟨n, hn⟩ : ∃ n, l[k]? = some n := ⟨_, List.getElem?_eq_getElem hlt⟩
      have hns := HS.out n (List.mem_of_getElem? hn)
      obtain ⟨b, o, cap, hsl, -, hbl2, hxx⟩ := (HVl.out _ hbl).some (by omega)
      obtain ⟨rfl, -, rfl⟩ := Value.slice.inj hsl
      have y0 := hxx k (.int .u16 (n : Int)) (by simp [u16L, hn])
      have hA := Array_any HRp.out Hok.out Hp.tA1 n (by omega)
      have hok2 := Hp.arr_ok Hok.out Hp.tA1 n
      rw [Hhb.out] at hA
      unfold OutPost tA Hp.tA1 at hA
      dsimp only at hA
      clear hsl hxx hn
      by_cases hf : n + 1 ≤ lim - s.used
      · have hd : decide ((n : Int) + 1 ≤ (lim : Int) - (s.used : Int)) = true := by simp; omega
        have e := Hp.arr_yes (s := s) (n := n) (by rw [Hlim.out]; exact hf) (by omega)
        unfold Hp.tA1 at e hok2
        rw [e] at hA hok2
        obtain ⟨s', hs'⟩ : ∃ s' : Hp.Hs, s' = ⟨s.lim, s.l ++ [⟨-1, [⟨4, ⟨#[65]⟩⟩], List.replicate n ⟨3, 0⟩⟩]⟩ := ⟨_, rfl⟩
        have hus : s'.used = s.used + (n + 1) := by rw [hs', Hp.used_snoc]; simp only [List.length_replicate]; show s.used + 1 + n = _; omega
        have hls : s'.l.length = s.l.length + 1 := by rw [hs']; simp
        have hlm : s'.lim = lim := by rw [hs']; exact Hlim.out
        rw [← hs'] at hA hok2
        have HA := hid hA
        have Hok2 := hid hok2
        have Hus := hid hus
        have Hls := hid hls
        have Hlm := hid hlm
        clear hA hok2 hus hls hlm e hs'
        go_wp2_with fail
        refine HA.out.mono ?_
        rintro e w3 ⟨H3, rfl, hW3⟩
        have B3 := hbl.trans (hW3.low HRp.out)
        obtain ⟨-, -, -, -, -, -, s7⟩ := Hok2.out.sizes
        have hU := Used_any hW3.rep (by omega)
        have hM := fun m => Many_any (hW3.rep.drewN m)
        have hL := fun m => Limit_any (hW3.rep.drewN m)
        rw [used_flat, Hus.out, hW3.hb, Hhb.out] at hU
        rw [flat_cs, Hls.out, hW3.hb, Hhb.out] at hM
        rw [show s'.flat.lim = s'.lim from rfl, Hlm.out, hW3.hb, Hhb.out] at hL
        have HU := hid hU
        have HM := hid hM
        have HL := hid hL
        have HR3 := hid hW3.rep
        have Hb3 := hid (hW3.hb.trans Hhb.out)
        clear hU hM hL hW3 s7
        go_wp2_with fail
        refine HU.out.mono ?_
        rintro e w5 ⟨rfl, m, rfl⟩
        go_wp2_with fail
        refine (HM.out m).mono ?_
        rintro e w5 ⟨rfl, rfl⟩
        go_wp2_with fail
        refine (HL.out m).mono ?_
        rintro e w5 ⟨rfl, rfl⟩
        go_wp2
        go_roundw
        case rel => exact ⟨k + 1, s', H3, by omega, by go_num, by rw [Hus.out]; go_num, by rw [Hls.out]; go_num, Hlm, Hok2, HR3.out.drewN m, Hb3, (by repeat' first | with_reducible exact Below.refl _ _ | with_reducible assumption | with_reducible refine belows_drewN ?_ _ | with_reducible refine Below.drew ?_ | with_reducible refine Below.setCell ?_ ?_ _ | with_reducible refine Below.alloc ?_ ?_ _ | omega | (simp; done) | (simp; omega))⟩
        case measure => simp [intOf] <;> omega
      · have hd : decide ((n : Int) + 1 ≤ (lim : Int) - (s.used : Int)) = false := by simp; omega
        have e := Hp.arr_full (s := s) (n := n) (by rw [Hlim.out]; exact hf)
        unfold Hp.tA1 at e hok2
        rw [e] at hA
        have HA := hid hA
        clear hA hok2 e
        go_wp2_with fail
        refine HA.out.mono ?_
        rintro e w3 ⟨H3, rfl, hW3⟩
        have B3 := hbl.trans (hW3.low HRp.out)
        obtain ⟨-, -, -, -, -, -, s7⟩ := Hok.out.sizes
        have hU := Used_any hW3.rep (by omega)
        have hM := fun m => Many_any (hW3.rep.drewN m)
        have hL := fun m => Limit_any (hW3.rep.drewN m)
        rw [used_flat, hW3.hb, Hhb.out] at hU
        rw [flat_cs, hW3.hb, Hhb.out] at hM
        rw [show s.flat.lim = s.lim from rfl, Hlim.out, hW3.hb, Hhb.out] at hL
        have HU := hid hU
        have HM := hid hM
        have HL := hid hL
        have HR3 := hid hW3.rep
        have Hb3 := hid (hW3.hb.trans Hhb.out)
        clear hU hM hL hW3 s7
        go_wp2_with fail
        refine HU.out.mono ?_
        rintro e w5 ⟨rfl, m, rfl⟩
        go_wp2_with fail
        refine (HM.out m).mono ?_
        rintro e w5 ⟨rfl, rfl⟩
        go_wp2_with fail
        refine (HL.out m).mono ?_
        rintro e w5 ⟨rfl, rfl⟩
        go_wp2
        go_roundw
        case rel => exact ⟨k + 1, s, H3, by omega, by go_num, rfl, rfl, Hlim, Hok, HR3.out.drewN m, Hb3, (by repeat' first | with_reducible exact Below.refl _ _ | with_reducible assumption | with_reducible refine belows_drewN ?_ _ | with_reducible refine Below.drew ?_ | with_reducible refine Below.setCell ?_ ?_ _ | with_reducible refine Below.alloc ?_ ?_ _ | omega | (simp; done) | (simp; omega))⟩
        case measure => simp [intOf] <;> omega
    · obtain rfl : k = l.length := by omega
      go_wp2
      go_ret
      exact ⟨rfl, hbl⟩
theorem limit16_law (x : Int) (l : List Nat) (v : Value) (w : World) (hx : (Lit.int .u16 x).wf = true) (hv : Kit.IsS 1 w v l.length (u16L l)) (hs : ∀ x ∈ l, x ≤ 65535) :
    Calls Try.prog 5 #[.int .u16 x, v] w fun e w' => e = .returned (.bool true) ∧ Below w.heap.size w w' := by
  simp [Lit.wf, IntKind.min, IntKind.max, IntKind.signed, IntKind.bits] at hx
  have h := limit_law x.toNat l v w (by omega) hv hs
  rw [Int.toNat_of_nonneg (by omega)] at h
  exact h
end Go.Proofs.Ytkikdjphmnbmaaa
namespace Go.Proofs.Ytkikdjphmnbmaaa.heapLimitCard
open Go.ChangeShapes Go.WideShapes Go.ChangeAt Go.RowKit
theorem own : ownKnob Try.prog.godebug = none := by kernel_rfl
set_option maxRecDepth 100000 in
theorem contract (H : Type) (enc : TypeId × Value → H) (W : World) (base : Nat) (args : Array Value) (ds gs : List (DataW H)) (before : List MemPlace)
    (hval : ∀ (j : Nat) t v, Try.f5.params[j]? = some t → args[j]? = some v → Value.okWide Try.prog W .any base t v)
    (hW : DataW.Whole enc Try.prog Try.f5.params.toList Rows.heapLimitSpec.vars false W args.toList ds gs before)
    (hsz : (DataW.weightsEach Try.prog (Try.f5.params.toList ++ (OpenSpec.ofChange Rows.heapLimitSpec).bare.plain.varTypes Try.prog) (ds ++ gs)).all (· ≤ reachBytes) = true) :
    Calls Try.prog 5 args W fun e W' => ∃ v, e = .returned v ∧ Rows.heapLimitSpec.post enc Try.prog Try.f5 false true false false W args v W' := by
  have hW' := hW
  obtain ⟨p, q, hA0, hV, rfl, hfz, hnd⟩ := hW
  have hA : DataW.TrodAll enc Try.prog W 0 (fun _ => true) true Try.f5.params.toList args.toList ds p := hA0
  rw [Try.params5] at hA hval hsz
  obtain ⟨v0, vs0, d0, ds0, p0, q0, hargs, rfl, rfl, h0, r0⟩ := trodAll_cons hA
  obtain ⟨v1, vs1, d1, ds1, p1, q1, rfl, rfl, rfl, h1, r1⟩ := trodAll_cons r0
  obtain ⟨rfl, rfl, rfl⟩ := trodAll_nil r1
  obtain rfl : args = #[v0, v1] := by cases args; simp_all
  obtain ⟨rfl, rfl⟩ := trodVars_none hV
  obtain ⟨x0, rfl, rfl, rfl, wx0⟩ := open_int Try.underlying53 (hval 0 53 v0 rfl rfl) h0
  obtain ⟨x1, wx1, wg1⟩ := open_u16 (hval 1 54 v1 rfl rfl) h1 (weights_eachT (j := 1) (t := 54) (d := d1) rfl rfl hsz)
  refine (limit16_law x0 x1 _ W wx0 wx1 wg1).mono fun e W' ⟨he, hb⟩ => ?_
  subst he
  exact ⟨_, rfl, Kit.law_post rfl rfl Try.underlying4 (by kernel_rfl) (by decide +kernel) hW' rfl hb⟩
theorem reads (os : Os) {H : Type} (enc : TypeId × Value → H) : ∃ places, DataW.whole enc Try.prog ((World.holding Try.prog os ⟨#[], #[], []⟩).forCall (fun _ _ => 0) ⟨#[], #[.int .u16 0, .slice none 0 0], []⟩).memory Try.f5.params.toList Rows.heapLimitSpec.vars false (#[.int .u16 0, .slice none 0 0] : Array Value).toList 8 = some ([.lit (.int .u16 0), .nil], [], places) :=
  ⟨[], by kernel_rfl⟩
theorem laid_met (os : Os) : laidMet Try.prog Rows.heapLimitRow.laid ((World.holding Try.prog os ⟨#[], #[], []⟩).forCall (fun _ _ => 0) ⟨#[], #[.int .u16 0, .slice none 0 0], []⟩).memory :=
  laidMet_of_run' 8 (by kernel_rfl) (by kernel_rfl)
set_option maxRecDepth 100000 in
theorem lifted (os : Os) (started : os.Started) (H : Type) (enc : TypeId × Value → H) (F : Stop.Interp) :
    ReturnsInHanded {} Try.checked os 5 .any ((OpenSpec.ofChange Rows.heapLimitSpec).preRow enc Try.prog Try.f5 Rows.heapLimitRow.domain false Rows.heapLimitRow.laid) (((OpenSpec.ofChange Rows.heapLimitSpec).at F).post enc Try.prog Try.f5 false true false false) := by
  obtain ⟨places, hx⟩ := reads os enc
  refine returnsInHanded_of_row (C := Try.checked) (s := (OpenSpec.ofChange Rows.heapLimitSpec)) own started (by kernel_rfl) Try.func5
    (witness_row_at (enc := enc) (C := Try.checked) false (World.holding Try.prog os ⟨#[], #[], []⟩) #[.int .u16 0, .slice none 0 0] rfl (by kernel_rfl) (by kernel_rfl) (by kernel_rfl)
      (OpenSpec.preRow_of_cond 8 hx (by kernel_rfl) (fun k hk => by cases hk) (by kernel_rfl) (laid_met os))) ?_
  intro W base args ds gs before hval hW _ _ hsz _ _ _
  exact contract H enc W base args ds gs before hval hW hsz
theorem proved : Rows.HeapLimitSaid :=
  OpenClaim.holds_of_cond 5 Try.f5 rfl rfl rfl rfl rfl rfl rfl ⟨rfl, rfl, rfl, rfl, rfl⟩ rfl rfl rfl rfl rfl (by kernel_rfl) Try.func5 (by kernel_rfl)
    (of_decide_eq_true (by kernel_rfl)) (by unfold Func.isWrapper; first | (rw [if_pos (by decide +kernel)]; kernel_rfl) | (rw [if_neg (by decide +kernel)]; exact ⟨rfl, rfl⟩))
    (fun os started H enc _ F => by rw [OpenClaim.pre_eq_preRow]; exact lifted os started H enc F)
end Go.Proofs.Ytkikdjphmnbmaaa.heapLimitCard

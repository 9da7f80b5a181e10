/- Contract of the reader's text. -/
import Derived.Test.YtljbcclfafndmaaDoorCc
import Derived.Laws.BytesArg
namespace Go.Proofs.YtljbcclfafndmaaDoor
open Go.RowKit

theorem bs_conv {lim : Nat} {w : World} {v : Value} {l : List UInt8} (h : Bs lim w v l) : (convert 22 9 v).run Tryd.prog w = .ok (.string ⟨l.toArray⟩) w := by
  rcases h.2 with ⟨rfl, a, cap, rfl⟩ | ⟨b, o, cap, rfl, hl, hb, hc⟩
  · cases a with
    | none => exact run_convert_bytes_nil w _ _ Tryd.underlying22 Tryd.underlying5 0 cap _ Tryd.underlying9
    | some ad =>
      rw [run_convert_bytes_string w _ _ _ _ 0 cap Tryd.underlying22 Tryd.underlying5 Tryd.underlying9, run_bytesToString w ad 0 cap [] rfl]
      rfl
  · have := run_convert_bytes_arg (P := Tryd.prog) w 22 5 Tryd.underlying22 Tryd.underlying5 b o l.length cap (l.map fun c => (c.toNat : Int)) (by simp) (fun i hi => by
      rw [hc i l[i] (List.getElem?_eq_getElem hi)]
      simp [hi]) 9 Tryd.underlying9
    rw [this]
    congr 2
    unfold strOfNums
    congr 2
    rw [List.map_map]
    conv => rhs; rw [← List.map_id l]
    refine List.map_congr_left fun c _ => ?_
    show UInt8.ofNat ((c.toNat : Int)).toNat = c
    simp
theorem grown_refl (w : World) (row : Option Nat) : w.grownBy w row := ⟨rfl, rfl, rfl, Nat.le_refl _, fun _ _ _ => rfl⟩
theorem grown_of_below {w w' : World} (h : Below w.heap.size w w') (row : Option Nat) : w.grownBy w' row := ⟨h.os, h.tape, h.output, h.size, fun i hi _ => h.block i hi⟩
theorem grown_trans {a b c : World} {r : Nat} (h : a.grownBy b (some r)) (k : b.grownBy c (some r)) : a.grownBy c (some r) :=
  ⟨k.os.trans h.os, k.tape.trans h.tape, k.output.trans h.output, Nat.le_trans h.size k.size, fun i hi hne => (k.block i (Nat.lt_of_lt_of_le hi h.size) hne).trans (h.block i hi hne)⟩
theorem numI_small {l : List UInt8} (h : l.length ≤ 7) : Cp.numI l = Cp.numU l := by
  have h1 := Cp.numU_range l
  have h2 : (256 : Int) ^ l.length ≤ 72057594037927936 := (show ∀ k : Nat, k < 8 → (256 : Int) ^ k ≤ 72057594037927936 by decide +kernel) _ (by omega)
  rw [Cp.numI_U, Cp.w64]
  omega
theorem numI_2 {l : List UInt8} (h : l.length ≤ 2) : 0 ≤ Cp.numI l ∧ Cp.numI l < 65536 := by
  have h1 := Cp.numU_range l
  have h2 : (256 : Int) ^ l.length ≤ 65536 := (show ∀ k : Nat, k < 3 → (256 : Int) ^ k ≤ 65536 by decide +kernel) _ (by omega)
  rw [numI_small (by omega)]
  omega
theorem str_size (l : List UInt8) : (⟨l.toArray⟩ : ByteArray).size = l.length := by show l.toArray.size = _; simp
/-- What text reads: its error, or the text and what is left. -/
def txP (k : Nat) (bs : List UInt8) : Except Int (List UInt8 × List UInt8) :=
  if bs.length < k then .error 30
  else if 255 < Cp.numI (bs.take k) then .error 32
  else if ((bs.drop k).length : Int) < Cp.numI (bs.take k) then .error 30
  else if Cp.plainB ((bs.drop k).take (Cp.numI (bs.take k)).toNat) = true then .ok ((bs.drop k).take (Cp.numI (bs.take k)).toNat, (bs.drop k).drop (Cp.numI (bs.take k)).toNat)
  else .error 32
def TxPost (pb : Nat) (x : Except Int (List UInt8 × List UInt8)) (w : World) (e : Ending) (w' : World) : Prop := match x with
  | .error er => Bad pb er w e w'
  | .ok (s, r) => e = .returned (.string ⟨s.toArray⟩) ∧ Stp pb r w w'
set_option maxRecDepth 100000 in
set_option maxHeartbeats 400000 in
theorem text_any (pb k : Nat) (bs : List UInt8) (w : World) (hr : Rdr w pb bs) (hk : k ≤ 2) :
    Calls Tryd.prog 63 #[.pointer (some ⟨pb, 0, none⟩), .int .i64 k] w (TxPost pb (txP k bs) w) := by
  have hbl : bs.length ≤ 281474976710656 := by obtain ⟨v, -, hv⟩ := hr; exact hv.1
  by_cases h1 : bs.length < k
  · rw [show txP k bs = .error 30 by unfold txP; rw [if_pos h1]]
    unfold TxPost Bad
    have HN := hid (number_bad pb k bs w hr h1 (by omega))
    unfold pan at HN ⊢
    clear hr h1
    go_enter Tryd.func63, Tryd.ntmps63
    go_wp2_with (go_at_call 58; refine HN.out.mono ?_; rintro e w1 ⟨rfl, rfl⟩)
    exact ⟨rfl, rfl, grown_refl _ _⟩
  · have HN := hid (number_ok pb k bs w hr (by omega))
    have hrange : 0 ≤ Cp.numI (bs.take k) ∧ Cp.numI (bs.take k) < 65536 := numI_2 (by rw [List.length_take]; omega)
    have hx : txP k bs = (if 255 < Cp.numI (bs.take k) then .error 32 else if ((bs.drop k).length : Int) < Cp.numI (bs.take k) then .error 30 else if Cp.plainB ((bs.drop k).take (Cp.numI (bs.take k)).toNat) = true then .ok ((bs.drop k).take (Cp.numI (bs.take k)).toNat, (bs.drop k).drop (Cp.numI (bs.take k)).toNat) else .error 32) := by unfold txP; rw [if_neg h1]
    have hdl : (bs.drop k).length ≤ 281474976710656 := by rw [List.length_drop]; omega
    obtain ⟨n, hn⟩ : ∃ n, n = Cp.numI (bs.take k) := ⟨_, rfl⟩
    obtain ⟨r, hrr⟩ : ∃ r, r = bs.drop k := ⟨_, rfl⟩
    rw [← hn] at HN hrange hx
    rw [← hrr] at HN hx hdl
    rw [hx]
    clear hx hn hrr hr h1
    obtain ⟨n, rfl⟩ := Int.eq_ofNat_of_zero_le hrange.1
    rw [show ((n : Int)).toNat = n by omega]
    by_cases h2 : 255 < (n : Int)
    · rw [if_pos h2]
      unfold TxPost Bad pan
      have hd : decide (255 < (n : Int)) = true := by simpa using h2
      clear h2
      go_enter Tryd.func63, Tryd.ntmps63
      go_wp2_with (go_at_call 58; refine HN.out.mono ?_; rintro e w1 ⟨rfl, hs1⟩)
      exact ⟨rfl, rfl, hs1.1⟩
    · rw [if_neg h2]
      have hd : decide (255 < (n : Int)) = false := by simp; omega
      by_cases h3 : ((r.length : Nat) : Int) < (n : Int)
      · rw [if_pos h3]
        unfold TxPost Bad
        have HT := hid (fun W (h : Rdr W pb r) => take_bad pb n r W h (by omega) (by omega))
        unfold pan at HT ⊢
        clear h2 h3
        go_enter Tryd.func63, Tryd.ntmps63
        go_wp2_with (first
          | (go_at_call 58; refine HN.out.mono ?_; rintro e w1 ⟨rfl, hs1⟩)
          | (go_at_call 62; refine (HT.out _ hs1.2).mono ?_; rintro e w2 ⟨rfl, rfl⟩))
        exact ⟨rfl, rfl, hs1.1⟩
      · rw [if_neg h3]
        have HT := hid (fun W (h : Rdr W pb r) => take_ok pb n r W h (by omega))
        have hl : (r.take n).length = n := by rw [List.length_take]; omega
        have HP0 := fun W => isPlain_any ⟨(r.take n).toArray⟩ W (by rw [str_size]; omega)
        rw [show Cp.bl ⟨(r.take n).toArray⟩ = r.take n from rfl] at HP0
        obtain ⟨s, hs⟩ : ∃ s, s = r.take n := ⟨_, rfl⟩
        rw [← hs] at HT HP0 hl ⊢
        cases hp : Cp.plainB s with
        | true =>
          rw [if_pos rfl]
          rw [hp] at HP0
          have HP := hid HP0
          unfold TxPost
          clear HP0 hp hs h2 h3
          go_enter Tryd.func63, Tryd.ntmps63
          go_wp2_with (first
            | (go_at_call 58; refine HN.out.mono ?_; rintro e w1 ⟨rfl, hs1⟩)
            | (go_at_call 62; refine (HT.out _ hs1.2).mono ?_; rintro e w2 ⟨v2, rfl, hv2, hs2⟩; obtain ⟨sa, sc, rfl⟩ := hv2.len; have hcv := bs_conv hv2; rw [hl] at hcv)
            | (go_at_call 57; refine (HP.out _).mono ?_; rintro e w3 ⟨rfl, rfl⟩))
          go_ret
          exact ⟨rfl, grown_trans hs1.1 hs2.1, hs2.2⟩
        | false =>
          rw [if_neg (by simp)]
          rw [hp] at HP0
          have HP := hid HP0
          unfold TxPost Bad pan
          clear HP0 hp hs h2 h3
          go_enter Tryd.func63, Tryd.ntmps63
          go_wp2_with (first
            | (go_at_call 58; refine HN.out.mono ?_; rintro e w1 ⟨rfl, hs1⟩)
            | (go_at_call 62; refine (HT.out _ hs1.2).mono ?_; rintro e w2 ⟨v2, rfl, hv2, hs2⟩; obtain ⟨sa, sc, rfl⟩ := hv2.len; have hcv := bs_conv hv2; rw [hl] at hcv)
            | (go_at_call 57; refine (HP.out _).mono ?_; rintro e w3 ⟨rfl, rfl⟩))
          exact ⟨rfl, rfl, grown_trans hs1.1 hs2.1⟩
end Go.Proofs.YtljbcclfafndmaaDoor

/- Plain mathematics: there and back. -/
import Derived.Test.YtihklojiionanaaDoorOpX
import Derived.Test.YtihklojiionanaaDoorOpP
namespace Go.Proofs.YtihklojiionanaaDoor
open Go.RowKit

theorem by8_of (c : Nat) (z : Int) (hz : z % 256 = (c : Int)) : (by8 z).toNat = c := by
  have := by8_nat z
  omega
theorem by8_eq (b : UInt8) (z : Int) (hz : z % 256 = (b.toNat : Int)) : by8 z = b := by
  apply UInt8.toNat_inj.1
  exact by8_of b.toNat z hz
theorem s8_mod (c : Nat) (h : c < 256) : Op1.s8 c % 256 = (c : Int) := by unfold Op1.s8; split <;> omega
theorem s16_mod (x : Nat) (h : x < 65536) : Op1.s16 x % 65536 = (x : Int) ∧ -32768 ≤ Op1.s16 x ∧ Op1.s16 x ≤ 32767 := by unfold Op1.s16; split <;> omega
/-- What stands behind an opcode, written again. -/
theorem tail_read (f : Nat) (hf : f ≤ 8) (p op : Int) (c d : UInt8) :
    tail8 f ⟨p, op, (Op1.abOf f p c.toNat d.toNat).1, (Op1.abOf f p c.toNat d.toNat).2⟩ = [c, d].take (Op1.bh f) := by
  have hc := UInt8.toNat_lt c
  have hd := UInt8.toNat_lt d
  have e8 := s8_mod c.toNat hc
  have e8d := s8_mod d.toNat hd
  obtain ⟨e16, l16, u16⟩ := s16_mod (256 * c.toNat + d.toNat) (by omega)
  have all : f = 0 ∨ f = 1 ∨ f = 2 ∨ f = 3 ∨ f = 4 ∨ f = 5 ∨ f = 6 ∨ f = 7 ∨ f = 8 := by omega
  rcases all with rfl | rfl | rfl | rfl | rfl | rfl | rfl | rfl | rfl
  · rfl
  · show [by8 _] = [c]
    rw [by8_eq c _ (by simp [Op1.abOf]; omega)]
  · show [by8 _] = [c]
    rw [by8_eq c _ (by simpa [Op1.abOf] using e8)]
  · show [by8 _, by8 _] = [c, d]
    rw [by8_eq c _ (by simp [Op1.abOf]; omega), by8_eq d _ (by simp [Op1.abOf]; omega)]
  · show [by8 _] = [c]
    rw [by8_eq c _ (by simp [Op1.abOf]; omega)]
  · show [by8 _, by8 _] = [c, d]
    rw [by8_eq c _ (by simp [Op1.abOf]; omega), by8_eq d _ (by simp [Op1.abOf]; omega)]
  · show [by8 _, by8 _] = [c, d]
    have hw : wrap64 ((p + Op1.s16 (256 * c.toNat + d.toNat)) - p) = Op1.s16 (256 * c.toNat + d.toNat) := by unfold wrap64; omega
    have h1 : by8 (wrap64 ((p + Op1.s16 (256 * c.toNat + d.toNat)) - p) / 256) = c := by rw [hw]; exact by8_eq c _ (by omega)
    have h2 : by8 (wrap64 ((p + Op1.s16 (256 * c.toNat + d.toNat)) - p)) = d := by rw [hw]; exact by8_eq d _ (by omega)
    simp only [Op1.abOf]
    exact List.cons_eq_cons.2 ⟨h1, List.cons_eq_cons.2 ⟨h2, rfl⟩⟩
  · show [by8 _, by8 _] = [c, d]
    rw [by8_eq c _ (by simp [Op1.abOf]; omega), by8_eq d _ (by simpa [Op1.abOf] using e8d)]
  · show [by8 _] = [c]
    rw [by8_eq c _ (by simp [Op1.abOf]; omega)]
theorem ab_irrel1 (f : Nat) (hf : f ≤ 8) (hb : Op1.bh f ≤ 1) (p : Int) (c d d' : Nat) : Op1.abOf f p c d = Op1.abOf f p c d' := by
  have all : f = 0 ∨ f = 1 ∨ f = 2 ∨ f = 3 ∨ f = 4 ∨ f = 5 ∨ f = 6 ∨ f = 7 ∨ f = 8 := by omega
  rcases all with rfl | rfl | rfl | rfl | rfl | rfl | rfl | rfl | rfl <;> first | rfl | exact absurd hb (by decide +kernel)
theorem ab_irrel0 (f : Nat) (hf : f ≤ 8) (hb : Op1.bh f ≤ 0) (p : Int) (c d c' d' : Nat) : Op1.abOf f p c d = Op1.abOf f p c' d' := by
  have all : f = 0 ∨ f = 1 ∨ f = 2 ∨ f = 3 ∨ f = 4 ∨ f = 5 ∨ f = 6 ∨ f = 7 ∨ f = 8 := by omega
  rcases all with rfl | rfl | rfl | rfl | rfl | rfl | rfl | rfl | rfl <;> first | rfl | exact absurd hb (by decide +kernel)
theorem at8_left {bs cs : List UInt8} {i : Nat} (h : i < bs.length) : Op1.at8 (bs ++ cs) i = Op1.at8 bs i := by
  unfold Op1.at8
  rw [List.getD_eq_getElem?_getD, List.getElem?_append_left h, List.getD_eq_getElem?_getD]
/-- What holds where there is an instruction. -/
theorem one_facts {bs : List UInt8} {p : Nat} (h : Op1.errAt bs p = 0) :
    p < bs.length ∧ Op1.isOp (Op1.at8 bs p) = true ∧ p + Op1.szOf (Op1.at8 bs p) ≤ bs.length ∧ ¬ (Op1.at8 bs p = 188 ∧ Op1.at8 bs (p + 1) ≠ 10 ∧ Op1.at8 bs (p + 1) ≠ 11) := by
  unfold Op1.errAt Op1.one at h
  split at h
  · cases h
  · rename_i h0
    simp only [Int.toNat_natCast] at h
    split at h
    · cases h
    · rename_i h1
      split at h
      · cases h
      · rename_i h2
        split at h
        · cases h
        · rename_i h3
          exact ⟨by omega, by simpa using h1, by omega, h3⟩
theorem one_of {bs : List UInt8} {p : Nat} (h0 : p < bs.length) (h1 : Op1.isOp (Op1.at8 bs p) = true) (h2 : p + Op1.szOf (Op1.at8 bs p) ≤ bs.length) (h3 : ¬ (Op1.at8 bs p = 188 ∧ Op1.at8 bs (p + 1) ≠ 10 ∧ Op1.at8 bs (p + 1) ≠ 11)) : Op1.errAt bs p = 0 := by
  unfold Op1.errAt Op1.one
  rw [if_neg (by omega)]
  simp only [Int.toNat_natCast]
  rw [if_neg (by rw [h1]; simp), if_neg (by omega), if_neg h3]
theorem sz_eq {k : Nat} (h : Op1.isOp (k : Int) = true) : Op1.szOf (k : Int) = 1 + Op1.bh (Op1.formOf (k : Int)) := by unfold Op1.szOf; rw [h]; rfl
/-- The instruction at an address where more bytes, or fewer, follow: as long as it is whole in both. -/
theorem one_same {bs cs : List UInt8} {p : Nat} (h : Op1.errAt bs p = 0) (hc : p + Op1.szOf (Op1.at8 bs p) ≤ cs.length) (hs : ∀ i, i < p + Op1.szOf (Op1.at8 bs p) → Op1.at8 cs i = Op1.at8 bs i) :
    Op1.errAt cs p = 0 ∧ Op1.insAt cs p = Op1.insAt bs p ∧ Op1.nxt cs p = Op1.nxt bs p := by
  obtain ⟨h0, h1, h2, h3⟩ := one_facts h
  have hsz := sz_eq h1
  have e0 : Op1.at8 cs p = Op1.at8 bs p := hs p (by omega)
  have hf8 := Op1.formOf_le (Op1.at8 bs p)
  have hn : Op1.nxt cs p = Op1.nxt bs p := by unfold Op1.nxt; rw [e0]
  have hbad : ¬ (Op1.at8 cs p = 188 ∧ Op1.at8 cs (p + 1) ≠ 10 ∧ Op1.at8 cs (p + 1) ≠ 11) := by
    intro hb
    rw [e0] at hb
    have hf : Op1.bh (Op1.formOf ((188 : Nat) : Int)) = 1 := by decide +kernel
    rw [hb.1, hf] at hsz
    rw [hs (p + 1) (by rw [hb.1]; omega)] at hb
    exact h3 hb
  refine ⟨one_of (by omega) (by rw [e0]; exact h1) (by rw [e0]; exact hc) hbad, ?_, hn⟩
  unfold Op1.insAt
  rw [e0]
  by_cases b0 : Op1.bh (Op1.formOf (Op1.at8 bs p)) ≤ 0
  · rw [ab_irrel0 _ (by omega) b0 _ _ _ (Op1.at8 bs (p + 1)) (Op1.at8 bs (p + 2))]
  · rw [hs (p + 1) (by omega)]
    by_cases b1 : Op1.bh (Op1.formOf (Op1.at8 bs p)) ≤ 1
    · rw [ab_irrel1 _ (by omega) b1 _ _ _ (Op1.at8 bs (p + 2))]
    · rw [hs (p + 2) (by omega)]
theorem Pre.app {bs : List UInt8} {l : List Op1.Ins} {p : Nat} (h : Op1.Pre bs l p) (cs : List UInt8) : Op1.Pre (bs ++ cs) l p := by
  induction h with
  | nil => exact .nil
  | @snoc l p _ he ih =>
    obtain ⟨h0, h1, h2, h3⟩ := one_facts he
    obtain ⟨a, b, c⟩ := one_same (cs := bs ++ cs) he (by rw [List.length_append]; omega) (fun i hi => at8_left (by omega))
    rw [← b, ← c]
    exact .snoc ih a
/-- What is written is walked through as it was. -/
theorem enc_pre : ∀ (l l0 : List Op1.Ins) (bs cs : List UInt8), encGo l bs = (cs, 0) → Op1.Pre bs l0 bs.length → Op1.Pre cs (l0 ++ l) cs.length
  | [], l0, bs, cs, h, hp => by
    unfold encGo at h
    split at h
    · cases h
    · obtain ⟨rfl, -⟩ := Prod.mk.inj h
      rw [List.append_nil]; exact hp
  | x :: l, l0, bs, cs, h, hp => by
    have e : encGo (x :: l) bs = if Op1.isOp x.op = false then ([], 10) else if goodI x bs.length = false then ([], 13) else encGo l (bs ++ enc1 x) := rfl
    rw [e] at h
    split at h
    · cases h
    · rename_i h1
      split at h
      · cases h
      · rename_i h2
        have hone := (one_written bs x (by simpa using h1)).1 (by simpa using h2)
        have he : Op1.errAt (bs ++ enc1 x) bs.length = 0 := by unfold Op1.errAt; rw [hone]
        obtain ⟨ho, -, -⟩ := Op1.one_ok he
        rw [hone] at ho
        obtain ⟨hx, hr⟩ := Prod.mk.inj ho
        obtain ⟨hq, -⟩ := Prod.mk.inj hr
        have hp2 := Op1.Pre.snoc (Pre.app hp (enc1 x)) he
        have hl : Op1.nxt (bs ++ enc1 x) bs.length = (bs ++ enc1 x).length := by
          rw [List.length_append, enc1_len]
          have hs : Op1.szOf x.op = 1 + Op1.bh (Op1.formOf x.op) := by unfold Op1.szOf; rw [show Op1.isOp x.op = true by simpa using h1]; rfl
          omega
        rw [← hx, hl] at hp2
        have := enc_pre l (l0 ++ [x]) (bs ++ enc1 x) cs h hp2
        rwa [List.append_assoc] at this
/-- What is read is written as it stood. -/
theorem enc1_read {bs : List UInt8} {p : Nat} (h : Op1.errAt bs p = 0) : Op1.isOp (Op1.insAt bs p).op = true ∧ goodI (Op1.insAt bs p) p = true ∧ bs.take p ++ enc1 (Op1.insAt bs p) = bs.take (Op1.nxt bs p) := by
  obtain ⟨h0, h1, h2, h3⟩ := one_facts h
  have hf8 := Op1.formOf_le (Op1.at8 bs p)
  have hsz := sz_eq h1
  have h256 := Op1.at8_lt bs p
  have hbd := bh_le (Op1.formOf (Op1.at8 bs p))
  have htl := tail_read (Op1.formOf (Op1.at8 bs p)) (by omega) (p : Int) (Op1.at8 bs p : Nat) (bs.getD (p + 1) 0) (bs.getD (p + 2) 0)
  have henc : enc1 (Op1.insAt bs p) = bs.getD p 0 :: [bs.getD (p + 1) 0, bs.getD (p + 2) 0].take (Op1.bh (Op1.formOf (Op1.at8 bs p))) := by
    unfold enc1 Op1.insAt
    rw [show by8 ((Op1.at8 bs p : Nat) : Int) = bs.getD p 0 from by8_eq _ _ (by unfold Op1.at8; have := UInt8.toNat_lt (bs.getD p 0); omega)]
    exact congrArg _ htl
  have hlist : ∀ n, p + n ≤ bs.length → n ≤ 3 → 1 ≤ n → bs.take p ++ [bs.getD p 0, bs.getD (p + 1) 0, bs.getD (p + 2) 0].take n = bs.take (p + n) := by
    intro n hn h3 h1
    have g : ∀ i, i < bs.length → bs.take i ++ [bs.getD i 0] = bs.take (i + 1) := by
      intro i hi
      rw [List.take_succ_eq_append_getElem hi, List.getD_eq_getElem?_getD, List.getElem?_eq_getElem hi]; rfl
    have all : n = 1 ∨ n = 2 ∨ n = 3 := by omega
    rcases all with rfl | rfl | rfl
    · exact g p (by omega)
    · show bs.take p ++ [bs.getD p 0, bs.getD (p + 1) 0] = _
      rw [show [bs.getD p 0, bs.getD (p + 1) 0] = [bs.getD p 0] ++ [bs.getD (p + 1) 0] from rfl, ← List.append_assoc, g p (by omega), g (p + 1) (by omega)]
    · show bs.take p ++ [bs.getD p 0, bs.getD (p + 1) 0, bs.getD (p + 2) 0] = _
      rw [show [bs.getD p 0, bs.getD (p + 1) 0, bs.getD (p + 2) 0] = [bs.getD p 0] ++ ([bs.getD (p + 1) 0] ++ [bs.getD (p + 2) 0]) from rfl, ← List.append_assoc, ← List.append_assoc, g p (by omega), g (p + 1) (by omega), g (p + 2) (by omega)]
  refine ⟨h1, ?_, ?_⟩
  · unfold goodI
    rw [Bool.and_eq_true, decide_eq_true_eq]
    refine ⟨rfl, ?_⟩
    have hc : ∀ j, j < Op1.bh (Op1.formOf (Op1.at8 bs p)) → ((tail8 (Op1.formOf (Op1.at8 bs p)) (Op1.insAt bs p)).getD j 0) = ([bs.getD (p + 1) 0, bs.getD (p + 2) 0].getD j 0) := by
      intro j hj
      have : tail8 (Op1.formOf (Op1.at8 bs p)) (Op1.insAt bs p) = [bs.getD (p + 1) 0, bs.getD (p + 2) 0].take (Op1.bh (Op1.formOf (Op1.at8 bs p))) := htl
      rw [this, List.getD_eq_getElem?_getD, List.getElem?_take_of_lt hj, ← List.getD_eq_getElem?_getD]
    have h188 : Op1.at8 bs p = 188 ↔ Op1.formOf (Op1.at8 bs p) = 8 := by
      have hr := (Op1.isOp_range h1).2
      exact (show ∀ k, k < 200 → (k = 188 ↔ Op1.formOf ((k : Nat) : Int) = 8) by decide +kernel) (Op1.at8 bs p) (by omega)
    have key : ∀ c d, (Op1.bh (Op1.formOf (Op1.at8 bs p)) ≥ 1 → c = Op1.at8 bs (p + 1)) → (Op1.bh (Op1.formOf (Op1.at8 bs p)) ≥ 2 → d = Op1.at8 bs (p + 2)) →
        (Op1.insAt bs p).a = (Op1.abOf (Op1.formOf (Op1.at8 bs p)) p c d).1 ∧ (Op1.insAt bs p).b = (Op1.abOf (Op1.formOf (Op1.at8 bs p)) p c d).2 ∧ ¬ (Op1.formOf (Op1.at8 bs p) = 8 ∧ c ≠ 10 ∧ c ≠ 11) := by
      intro c d hc hd
      have e : Op1.abOf (Op1.formOf (Op1.at8 bs p)) p c d = Op1.abOf (Op1.formOf (Op1.at8 bs p)) p (Op1.at8 bs (p + 1)) (Op1.at8 bs (p + 2)) := by
        by_cases b0 : Op1.bh (Op1.formOf (Op1.at8 bs p)) ≤ 0
        · exact ab_irrel0 _ (by omega) b0 _ _ _ _ _
        · rw [hc (by omega)]
          by_cases b1 : Op1.bh (Op1.formOf (Op1.at8 bs p)) ≤ 1
          · exact ab_irrel1 _ (by omega) b1 _ _ _ _
          · rw [hd (by omega)]
      rw [e]
      refine ⟨by simp only [Op1.insAt], by simp only [Op1.insAt], fun hb => ?_⟩
      have hb8 : Op1.bh 8 = 1 := by decide +kernel
      rw [hc (by rw [hb.1, hb8]; omega)] at hb
      exact h3 ⟨h188.2 hb.1, hb.2⟩
    obtain ⟨x, hx⟩ : ∃ x, x = Op1.insAt bs p := ⟨_, rfl⟩
    rw [← hx] at hc key ⊢
    obtain ⟨c, hcc⟩ : ∃ c, c = ((tail8 (Op1.formOf (Op1.at8 bs p)) x).getD 0 0).toNat := ⟨_, rfl⟩
    obtain ⟨d, hdd⟩ : ∃ d, d = ((tail8 (Op1.formOf (Op1.at8 bs p)) x).getD 1 0).toNat := ⟨_, rfl⟩
    have k := key c d (fun hb => by rw [hcc, hc 0 (by omega)]; rfl) (fun hb => by rw [hdd, hc 1 (by omega)]; rfl)
    have e : x.op = (Op1.at8 bs p : Nat) := by rw [hx]; rfl
    rw [e]
    exact (ab_fits (Op1.formOf (Op1.at8 bs p)) (by omega) x p c d hcc hdd (by rw [hx]; rfl)).2 k
  · have e3 : ∀ n, bs.getD p 0 :: [bs.getD (p + 1) 0, bs.getD (p + 2) 0].take n = [bs.getD p 0, bs.getD (p + 1) 0, bs.getD (p + 2) 0].take (1 + n) := fun n => by rw [Nat.add_comm 1 n, List.take_succ_cons]
    rw [henc, e3]
    have := hlist (1 + Op1.bh (Op1.formOf (Op1.at8 bs p))) (by omega) (by omega) (by omega)
    rw [this]
    unfold Op1.nxt
    rw [hsz]
theorem pre_enc {bs : List UInt8} {l : List Op1.Ins} {p : Nat} (h : Op1.Pre bs l p) : ∀ rest, encGo (l ++ rest) [] = encGo rest (bs.take p) := by
  induction h with
  | nil => intro rest; simp
  | @snoc l p hp he ih =>
    intro rest
    obtain ⟨h1, h2, h3⟩ := enc1_read he
    have hl : (bs.take p).length = p := by rw [List.length_take]; have := hp.le.1; omega
    rw [List.append_assoc, ih]
    show (if Op1.isOp (Op1.insAt bs p).op = false then (([], 10) : List UInt8 × Int) else if goodI (Op1.insAt bs p) (bs.take p).length = false then ([], 13) else encGo rest (bs.take p ++ enc1 (Op1.insAt bs p))) = _
    rw [if_neg (by rw [h1]; simp), hl, if_neg (by rw [h2]; simp), h3]
theorem dec_enc {bs : List UInt8} {l : List Op1.Ins} (h : Op1.DecOut bs l 0) : encGo l [] = (bs, 0) := by
  generalize hz : (0 : Int) = z at h
  cases h with
  | long => cases hz
  | none => cases hz
  | bad h1 h2 h3 h4 => exact absurd hz.symm h4
  | jump => cases hz
  | ok h1 h2 h3 h4 =>
    have := pre_enc h3 []
    rw [List.append_nil, List.take_length] at this
    rw [this]
    unfold encGo
    rw [if_neg (by omega)]
end Go.Proofs.YtihklojiionanaaDoor

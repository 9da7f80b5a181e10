/- Plain mathematics: what is written is read as it was, just if it fits. -/
import Derived.Test.YtihklojiionanaaDoorOpW
namespace Go.Proofs.YtihklojiionanaaDoor
open Go.RowKit

def enc1 (x : Op1.Ins) : List UInt8 := by8 x.op :: tail8 (Op1.formOf x.op) x
/-- Does what an instruction has fit its form? -/
def fitB (f : Nat) (x : Op1.Ins) : Bool :=
  if f = 7 then decide (0 ≤ x.a) && decide (x.a ≤ 255) && decide (-128 ≤ x.b) && decide (x.b ≤ 127)
  else decide (x.b = 0) && (
    if f = 1 ∨ f = 4 then decide (0 ≤ x.a) && decide (x.a ≤ 255)
    else if f = 2 then decide (-128 ≤ x.a) && decide (x.a ≤ 127)
    else if f = 3 then decide (-32768 ≤ x.a) && decide (x.a ≤ 32767)
    else if f = 5 then decide (0 ≤ x.a) && decide (x.a ≤ 65535)
    else if f = 6 then decide (max x.p 0 - 32768 ≤ x.a) && decide (x.a ≤ max x.p 0 + 32767)
    else if f = 8 then decide (10 ≤ x.a) && decide (x.a ≤ 11)
    else decide (x.a = 0))
def goodI (x : Op1.Ins) (n : Nat) : Bool := decide (x.p = (n : Int)) && fitB (Op1.formOf x.op) x
theorem tail_len (f : Nat) (x : Op1.Ins) (hf : f ≤ 8) : (tail8 f x).length = Op1.bh f := by
  have all : f = 0 ∨ f = 1 ∨ f = 2 ∨ f = 3 ∨ f = 4 ∨ f = 5 ∨ f = 6 ∨ f = 7 ∨ f = 8 := by omega
  rcases all with rfl | rfl | rfl | rfl | rfl | rfl | rfl | rfl | rfl <;> rfl
theorem at8_app (bs cs : List UInt8) (i : Nat) : Op1.at8 (bs ++ cs) (bs.length + i) = (cs.getD i 0).toNat := by
  unfold Op1.at8
  rw [List.getD_eq_getElem?_getD, List.getElem?_append_right (by omega), List.getD_eq_getElem?_getD]
  congr 3; omega
/-- The fields, form by form. -/
theorem ab_fits (f : Nat) (hf : f ≤ 8) (x : Op1.Ins) (n : Nat) (c d : Nat) (hc : c = ((tail8 f x).getD 0 0).toNat) (hd : d = ((tail8 f x).getD 1 0).toNat) (hp : x.p = (n : Int)) :
    (fitB f x = true ↔ (x.a = (Op1.abOf f n c d).1 ∧ x.b = (Op1.abOf f n c d).2 ∧ ¬ (f = 8 ∧ c ≠ 10 ∧ c ≠ 11))) := by
  have h1 := by8_nat x.a
  have h2 := by8_nat (x.a / 256)
  have h3 := by8_nat x.b
  have h4 := by8_nat (wrap64 (x.a - x.p))
  have h5 := by8_nat (wrap64 (x.a - x.p) / 256)
  have all : f = 0 ∨ f = 1 ∨ f = 2 ∨ f = 3 ∨ f = 4 ∨ f = 5 ∨ f = 6 ∨ f = 7 ∨ f = 8 := by omega
  have hmax : max x.p 0 = (n : Int) := by omega
  have hw : wrap64 (x.a - x.p) % 65536 = (x.a - x.p) % 65536 := by unfold wrap64; omega
  rcases all with rfl | rfl | rfl | rfl | rfl | rfl | rfl | rfl | rfl
  · simp [fitB, Op1.abOf]; omega
  · have e : c = (by8 x.a).toNat := hc
    simp [fitB, Op1.abOf]; omega
  · have e : c = (by8 x.a).toNat := hc
    simp [fitB, Op1.abOf, Op1.s8]; split <;> omega
  · have e : c = (by8 (x.a / 256)).toNat := hc
    have e' : d = (by8 x.a).toNat := hd
    simp [fitB, Op1.abOf, Op1.s16]; split <;> omega
  · have e : c = (by8 x.a).toNat := hc
    simp [fitB, Op1.abOf]; omega
  · have e : c = (by8 (x.a / 256)).toNat := hc
    have e' : d = (by8 x.a).toNat := hd
    simp [fitB, Op1.abOf]; omega
  · have e : c = (by8 (wrap64 (x.a - x.p) / 256)).toNat := hc
    have e' : d = (by8 (wrap64 (x.a - x.p))).toNat := hd
    clear hc hd
    generalize wrap64 (x.a - x.p) = far at *
    simp [fitB, Op1.abOf, Op1.s16]; split <;> omega
  · have e : c = (by8 x.a).toNat := hc
    have e' : d = (by8 x.b).toNat := hd
    simp [fitB, Op1.abOf, Op1.s8]; split <;> omega
  · have e : c = (by8 x.a).toNat := hc
    simp [fitB, Op1.abOf]; omega
/-- What One answers at what was just written. -/
theorem one_written (bs : List UInt8) (x : Op1.Ins) (hop : Op1.isOp x.op = true) :
    (goodI x bs.length = true → Op1.one (bs ++ enc1 x) bs.length = (x, ((bs.length + Op1.szOf x.op : Nat) : Int), 0)) ∧
    (goodI x bs.length = false → (Op1.one (bs ++ enc1 x) bs.length).2.2 ≠ 0 ∨ ((Op1.one (bs ++ enc1 x) bs.length).2.2 = 0 ∧ (Op1.one (bs ++ enc1 x) bs.length).1 ≠ x)) := by
  obtain ⟨xp, xop, xa, xb⟩ := x
  dsimp only at hop
  have hr := Op1.isOp_range hop
  obtain ⟨k, rfl⟩ := Int.eq_ofNat_of_zero_le hr.1
  have hk : k < 200 := by omega
  have hf8 := Op1.formOf_le (k : Int)
  obtain ⟨f, hf⟩ : ∃ f, f = Op1.formOf (k : Int) := ⟨_, rfl⟩
  have h188 : k = 188 ↔ f = 8 := by
    rw [hf]
    exact (show ∀ k, k < 200 → (k = 188 ↔ Op1.formOf ((k : Nat) : Int) = 8) by decide +kernel) k hk
  have hsz : Op1.szOf (k : Int) = 1 + Op1.bh f := by unfold Op1.szOf; rw [hop, hf]; rfl
  have htl := tail_len f ⟨xp, k, xa, xb⟩ (by omega)
  have henc : enc1 ⟨xp, k, xa, xb⟩ = by8 k :: tail8 f ⟨xp, k, xa, xb⟩ := by unfold enc1; rw [hf]
  have e0 : Op1.at8 (bs ++ enc1 ⟨xp, k, xa, xb⟩) bs.length = k := by
    have := at8_app bs (enc1 ⟨xp, k, xa, xb⟩) 0
    rw [Nat.add_zero] at this
    rw [this]
    have h8 := by8_nat (k : Int)
    show (by8 (k : Int)).toNat = k
    omega
  have e1 : Op1.at8 (bs ++ enc1 ⟨xp, k, xa, xb⟩) (bs.length + 1) = ((tail8 f ⟨xp, k, xa, xb⟩).getD 0 0).toNat := by
    rw [at8_app, henc, List.getD_cons_succ]
  have e2 : Op1.at8 (bs ++ enc1 ⟨xp, k, xa, xb⟩) (bs.length + 2) = ((tail8 f ⟨xp, k, xa, xb⟩).getD 1 0).toNat := by
    rw [at8_app, henc, List.getD_cons_succ]
  have hlen : (bs ++ enc1 ⟨xp, k, xa, xb⟩).length = bs.length + 1 + Op1.bh f := by
    rw [List.length_append]
    show bs.length + (List.length (tail8 (Op1.formOf (k : Int)) ⟨xp, k, xa, xb⟩) + 1) = _
    rw [← hf, htl]; omega
  have hone : Op1.one (bs ++ enc1 ⟨xp, k, xa, xb⟩) bs.length =
      if f = 8 ∧ ((tail8 f ⟨xp, k, xa, xb⟩).getD 0 0).toNat ≠ 10 ∧ ((tail8 f ⟨xp, k, xa, xb⟩).getD 0 0).toNat ≠ 11 then (Op1.noIns, 0, 13)
      else (⟨bs.length, k, (Op1.abOf f bs.length ((tail8 f ⟨xp, k, xa, xb⟩).getD 0 0).toNat ((tail8 f ⟨xp, k, xa, xb⟩).getD 1 0).toNat).1, (Op1.abOf f bs.length ((tail8 f ⟨xp, k, xa, xb⟩).getD 0 0).toNat ((tail8 f ⟨xp, k, xa, xb⟩).getD 1 0).toNat).2⟩, ((bs.length + Op1.szOf (k : Int) : Nat) : Int), 0) := by
    unfold Op1.one
    rw [if_neg (by rw [hlen]; omega)]
    simp only [Int.toNat_natCast]
    rw [e0, if_neg (by rw [hop]; simp), if_neg (by rw [hlen, hsz]; omega), e1]
    unfold Op1.insAt
    rw [e0, e1, e2, ← hf]
    simp only [h188]
    split
    · rfl
    · rw [Int.natCast_add]
  generalize hc : ((tail8 f ⟨xp, k, xa, xb⟩).getD 0 0).toNat = c at *
  generalize hd : ((tail8 f ⟨xp, k, xa, xb⟩).getD 1 0).toNat = d at *
  have hgood : goodI ⟨xp, k, xa, xb⟩ bs.length = true ↔ xp = (bs.length : Int) ∧ fitB f ⟨xp, k, xa, xb⟩ = true := by
    unfold goodI
    rw [Bool.and_eq_true, decide_eq_true_eq, hf]
  constructor
  · intro hg
    obtain ⟨hp, hfit⟩ := hgood.1 hg
    obtain ⟨ea, eb, hnb⟩ := (ab_fits f (by omega) ⟨xp, k, xa, xb⟩ bs.length c d hc.symm hd.symm hp).1 hfit
    dsimp only at ea eb hp
    rw [hone, if_neg hnb, ← ea, ← eb, ← hp]
  · intro hg
    rw [hone]
    split
    · left; decide
    · rename_i hnb
      right
      refine ⟨rfl, fun e => ?_⟩
      obtain ⟨h1, -, h2, h3⟩ := Op1.Ins.mk.inj e
      have := hgood.2 ⟨h1.symm, (ab_fits f (by omega) ⟨xp, k, xa, xb⟩ bs.length c d hc.symm hd.symm h1.symm).2 ⟨h2.symm, h3.symm, hnb⟩⟩
      rw [this] at hg; cases hg
/-- What Encode comes to. -/
def encGo : List Op1.Ins → List UInt8 → List UInt8 × Int
  | [], bs => if 4096 < bs.length then ([], 3) else (bs, 0)
  | x :: l, bs => if Op1.isOp x.op = false then ([], 10) else if goodI x bs.length = false then ([], 13) else encGo l (bs ++ enc1 x)
theorem enc1_len (x : Op1.Ins) : (enc1 x).length = 1 + Op1.bh (Op1.formOf x.op) := by
  unfold enc1
  rw [List.length_cons, tail_len _ _ (Op1.formOf_le _)]; omega
theorem bh_le (f : Nat) : Op1.bh f ≤ 2 := by
  by_cases h : f < 9
  · exact (show ∀ f, f < 9 → Op1.bh f ≤ 2 by decide +kernel) f h
  · unfold Op1.bh
    rw [List.getD_eq_getElem?_getD, List.getElem?_eq_none (by show 9 ≤ f; omega)]; decide
end Go.Proofs.YtihklojiionanaaDoor

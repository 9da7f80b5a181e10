/- Own texts for the claim, part 15. -/
import Derived.Test.YtjnjnfhboafcgaaGreatDoorZG14
namespace Go.Proofs.YtjnjnfhboafcgaaGreatDoor
open Go.RowKit
namespace Cf
theorem acc_in {x : Int} {k : Nat} (hk : k < 9223372036854775808) (h6 : L3.I6 x) (h : accB (k : Int) x = false) : 0 ≤ x ∧ x ≤ k := by
  unfold accB at h
  have h0 : bits .andNot .i64 x k = 0 := by simpa using h
  have h1 : IntKind.i64.wrap (((BitVec.ofInt 64 x &&& ~~~(BitVec.ofInt 64 (k : Int))).toNat : Nat) : Int) = 0 := h0
  have hb := (BitVec.ofInt 64 x &&& ~~~(BitVec.ofInt 64 (k : Int))).isLt
  rw [IntKind.wrap_i64] at h1
  have h2 : (BitVec.ofInt 64 x &&& ~~~(BitVec.ofInt 64 (k : Int))).toNat = 0 := by omega
  have h3 : BitVec.ofInt 64 x &&& ~~~(BitVec.ofInt 64 (k : Int)) = 0#64 := BitVec.eq_of_toNat_eq (by simpa using h2)
  have hx : BitVec.ofInt 64 x = BitVec.ofInt 64 x &&& BitVec.ofInt 64 (k : Int) := by
    apply BitVec.eq_of_getLsbD_eq
    intro i hi
    have h4 := congrArg (fun b => b.getLsbD i) h3
    simp only [BitVec.getLsbD_and, BitVec.getLsbD_not, hi, decide_true, Bool.true_and, BitVec.getLsbD_zero] at h4
    rw [BitVec.getLsbD_and]
    cases h5 : (BitVec.ofInt 64 x).getLsbD i <;> cases h7 : (BitVec.ofInt 64 (k : Int)).getLsbD i <;> simp_all
  have h4 := congrArg BitVec.toNat hx
  rw [BitVec.toNat_and] at h4
  have h5 : (BitVec.ofInt 64 x).toNat &&& (BitVec.ofInt 64 (k : Int)).toNat ≤ (BitVec.ofInt 64 (k : Int)).toNat := Nat.and_le_right
  rw [← h4, BitVec.toNat_ofInt, BitVec.toNat_ofInt] at h5
  unfold L3.I6 at h6
  have e1 : ((k : Int) % ((2 ^ 64 : Nat) : Int)).toNat = k := by omega
  rw [e1] at h5
  omega
theorem en_in {P : List L3.Cp.C} {i tag : Int} (h : L3.enA P i tag ≠ none) : 0 ≤ i ∧ i < P.length := by
  unfold L3.enA at h
  split at h
  · rename_i h1; exact h1
  · exact absurd rfl h
theorem tx_in {P : List L3.Cp.C} {i : Int} (h : (L3.txO P i).2 = 0) : 0 ≤ i ∧ i < P.length := by
  refine en_in (tag := 1) fun e => ?_
  unfold L3.txO at h
  rw [e] at h
  exact absurd h (by show ¬ ((33 : Int) = 0); decide)
theorem cl_in {P : List L3.Cp.C} {i : Int} (h : (L3.clO P i).2 = 0) : 0 ≤ i ∧ i < P.length := by
  refine en_in (tag := 7) fun e => ?_
  unfold L3.clO at h
  rw [e] at h
  exact absurd h (by show ¬ ((33 : Int) = 0); decide)
theorem cla_in {P : List L3.Cp.C} {i : Int} (h : claE P i = 0) : 0 ≤ i ∧ i < P.length := by
  unfold claE at h
  split at h
  · rename_i h1; exact absurd h h1
  · rename_i h1; exact cl_in (Decidable.not_not.1 h1)
theorem nm_in {P : List L3.Cp.C} {m : Mb} (h : (nmO P m).2 = 0) (h6 : L3.I6 m.ac) (hl : P.length ≤ 4096) : U2 m.ac ∧ U2 m.nm ∧ U2 m.ds := by
  unfold nmO at h
  split at h
  · cases h
  · rename_i h1
    have h1 : accB (9 : Nat) m.ac = false := by simpa using h1
    have h2 := acc_in (by decide) h6 h1
    split at h
    · rename_i h3; exact absurd h h3
    · rename_i h3
      have h3 := Decidable.not_not.1 h3
      unfold mbO at h3
      split at h3
      · rename_i h4; exact absurd h3 h4
      · rename_i h4
        have h4 := tx_in (Decidable.not_not.1 h4)
        split at h3
        · rename_i h5; exact absurd h3 h5
        · rename_i h5
          have h5 := tx_in (Decidable.not_not.1 h5)
          unfold U2
          omega
theorem dec_in {bs : List UInt8} {l : List L1.Op1.Ins} (h : L1.Op1.DecOut bs l 0) : bs.length ≤ 4096 ∧ 0 < bs.length ∧ ∀ x ∈ l, 0 ≤ x.p ∧ x.p < bs.length := by
  generalize he : (0 : Int) = er at h
  cases h with
  | long => cases he
  | none => cases he
  | bad h1 h2 h3 h4 => exact absurd he.symm h4
  | jump => cases he
  | ok h1 h2 h3 h4 => exact ⟨h1, h2, h3.le.2.2⟩
theorem beg_in {l : List L1.Op1.Ins} {n : Nat} (hl : ∀ x ∈ l, 0 ≤ x.p ∧ x.p < n) {p : Int} (h : begB l p = true) : 0 ≤ p ∧ p < n := by
  unfold begB at h
  rw [List.any_eq_true] at h
  obtain ⟨x, hx, he⟩ := h
  rw [← eq_of_beq he]
  exact hl x hx
theorem hd_in {P : List L3.Cp.C} {l : List L1.Op1.Ins} {n : Nat} {h : Hn} (hl : ∀ x ∈ l, 0 ≤ x.p ∧ x.p < n) (hn : n ≤ 4096) (hP : P.length ≤ 4096) (he : hdE P l n h = 0) : HnU h := by
  unfold hdE at he
  split at he
  · rename_i h1
    obtain ⟨h1, h2, h3, h4⟩ := h1
    have k2 := beg_in hl h2
    have k3 := beg_in hl h3
    have k4 : 0 ≤ h.t ∧ h.t ≤ n := by
      rcases h4 with h4 | h4
      · have := beg_in hl h4; omega
      · omega
    have k5 : 0 ≤ h.y ∧ h.y < 65536 := by
      split at he
      · omega
      · have := cla_in he; omega
    exact ⟨⟨by omega, by omega⟩, ⟨by omega, by omega⟩, ⟨by omega, by omega⟩, k5⟩
  · cases he
theorem fst_zero {R : Nat → Int → Prop} {n : Nat} (h : FstR R n 0) : ∀ k, k < n → R k 0 := by
  rcases h with ⟨-, h⟩ | ⟨h, -⟩
  · exact h
  · exact absurd rfl h
theorem fd_in {P : List L3.Cp.C} {ah : List (ByteArray × ByteArray)} {m : Mb} (h : fdE P ah m = 0) (h6 : L3.I6 m.ac) (hl : P.length ≤ 4096) : MbU m ∧ plainM m = true := by
  unfold fdE at h
  split at h
  · rename_i h1; exact absurd h h1
  · rename_i h1
    obtain ⟨k1, k2, k3⟩ := nm_in (Decidable.not_not.1 h1) h6 hl
    split at h
    · rename_i h2; exact absurd h h2
    · split at h
      · cases h
      · rename_i h3
        have hp : plainM m = true := by
          cases e : plainM m with
          | true => rfl
          | false => exact absurd (.inr e) h3
        have hq := hp
        unfold plainM at hq
        obtain ⟨q1, q2, q3, q4⟩ := of_decide_eq_true hq
        refine ⟨⟨k1, k2, k3, ⟨by omega, by omega⟩, ⟨by omega, by omega⟩, by omega, by omega, fun x hx => ?_⟩, hp⟩
        rw [List.length_eq_zero_iff.1 q4] at hx
        cases hx
theorem me_parts {P : List L3.Cp.C} {ah : List (ByteArray × ByteArray)} {m : Mb} (h : meIs P ah m 0) : (nmO P m).2 = 0 ∧ frE m (L2.mdOut (L2.Ds.bl (nmO P m).1.2)).1 = 0 ∧ CoIs P m 0 := by
  unfold meIs at h
  split at h
  · rename_i h1; exact absurd h.symm h1
  · rename_i h1
    split at h
    · rename_i h2; exact absurd h.symm h2
    · split at h
      · cases h
      · split at h
        · cases h
        · split at h
          · rename_i h5; exact absurd h.symm h5
          · rename_i h5
            exact ⟨Decidable.not_not.1 h1, Decidable.not_not.1 h5, h⟩
theorem co_parts {P : List L3.Cp.C} {m : Mb} (h : CoIs P m 0) : ∃ l, L1.Op1.DecOut m.code l 0 ∧ m.hs.length ≤ 64 ∧ FstR (HnIs P l m.code.length m.hs) m.hs.length 0 := by
  obtain ⟨l, d, hd, h⟩ := h
  split at h
  · rename_i h7; exact absurd h.symm h7
  · rename_i h7
    obtain rfl := Decidable.not_not.1 h7
    split at h
    · cases h
    · rename_i h8
      exact ⟨l, hd, by omega, h⟩
/-- How long a method's code and handlers are. -/
theorem me_sizes {P : List L3.Cp.C} {ah : List (ByteArray × ByteArray)} {m : Mb} (h : meIs P ah m 0) : 0 < m.code.length ∧ m.code.length ≤ 4096 ∧ m.hs.length ≤ 64 := by
  obtain ⟨l, hd, h1, -⟩ := co_parts (me_parts h).2.2
  obtain ⟨d1, d2, -⟩ := dec_in hd
  exact ⟨d2, d1, h1⟩
theorem me_in {P : List L3.Cp.C} {ah : List (ByteArray × ByteArray)} {m : Mb} (h : meIs P ah m 0) (h6 : L3.I6 m.ac) (hl : P.length ≤ 4096) : MbU m := by
  obtain ⟨q1, q2, q3⟩ := me_parts h
  obtain ⟨k1, k2, k3⟩ := nm_in q1 h6 hl
  obtain ⟨l, hd, h1, h2⟩ := co_parts q3
  obtain ⟨d1, d2, d3⟩ := dec_in hd
  unfold frE at q2
  split at q2
  · cases q2
  · rename_i h6
    refine ⟨k1, k2, k3, ⟨by omega, by omega⟩, ⟨by omega, by omega⟩, by omega, by omega, fun x hx => ?_⟩
    obtain ⟨k, hk⟩ := List.mem_iff_getElem?.1 hx
    have hlt : k < m.hs.length := (List.getElem?_eq_some_iff.1 hk).1
    obtain ⟨y, hy, he⟩ := fst_zero h2 k hlt
    rw [hk] at hy
    cases hy
    exact hd_in d3 d1 hl he.symm
theorem cix_le (P : List L3.Cp.C) : cix P ≤ P.length := by
  unfold cix
  split
  · rename_i j hj
    rw [List.findIdx?_eq_some_iff_getElem] at hj
    obtain ⟨h1, -⟩ := hj
    rw [List.length_drop] at h1
    omega
  · omega
/-- The numbers of access that memory holds. -/
def Ac6 (c : Cl) : Prop := L3.I6 c.ac ∧ (∀ m ∈ c.fs, L3.I6 m.ac) ∧ ∀ m ∈ c.ms, L3.I6 m.ac
theorem cl_parts {c : Cl} (h : ClIs c 0) : verB c.mi c.ma = true ∧ L3.CkIs c.pool 0 ∧ c.pool.length ≤ 4096 ∧ accB 33 c.ac = false ∧ claE c.pool c.th = 0 ∧ claE c.pool c.su = 0 ∧ c.fs.length ≤ 256 ∧ c.ms.length ≤ 256 ∧
    (∀ k m, c.fs[k]? = some m → fdE c.pool (ahead c.pool c.fs k) m = 0) ∧ (∀ k m, c.ms[k]? = some m → meIs c.pool (ahead c.pool c.ms k) m 0) ∧ (c.ms ≠ [] → cix c.pool ≠ 0) := by
  have h0 : HdIs c 0 := fst_zero h 0 (by decide)
  have h1 : FstR (FdIs c.pool c.fs) c.fs.length 0 := fst_zero h 1 (by decide)
  have h2 : FstR (MeIs c.pool c.ms) c.ms.length 0 := fst_zero h 2 (by decide)
  have h3 : CnIs c 0 := fst_zero h 3 (by decide)
  unfold HdIs at h0
  split at h0
  · cases h0
  · rename_i hv
    obtain ⟨pk, hpk, h0⟩ := h0
    split at h0
    · rename_i h4; exact absurd h0.symm h4
    · rename_i h4
      obtain rfl := Decidable.not_not.1 h4
      split at h0
      · cases h0
      · rename_i h5
        split at h0
        · rename_i h6; exact absurd h0.symm h6
        · rename_i h6
          split at h0
          · rename_i h7; exact absurd h0.symm h7
          · rename_i h7
            split at h0
            · cases h0
            · rename_i h8
              refine ⟨by simpa using hv, hpk, (L3.ck_all.1 hpk).1, by simpa using h5, Decidable.not_not.1 h6, Decidable.not_not.1 h7, by omega, by omega, fun k m hm => ?_, fun k m hm => ?_, fun hne => ?_⟩
              · obtain ⟨x, hx, he⟩ := fst_zero h1 k (List.getElem?_eq_some_iff.1 hm).1
                rw [hm] at hx
                cases hx
                exact he.symm
              · obtain ⟨x, hx, he⟩ := fst_zero h2 k (List.getElem?_eq_some_iff.1 hm).1
                rw [hm] at hx
                cases hx
                exact he
              · obtain ⟨r, b, hf, he⟩ := h3
                obtain ⟨rfl, rfl⟩ := fi_cix hf
                intro e
                have hl : 0 < c.ms.length := List.length_pos_iff.2 hne
                rw [if_pos ⟨by simpa using e, hl⟩] at he
                cases he
theorem cl_ranges {c : Cl} (h : ClIs c 0) (hn : ∀ x ∈ c.pool, L3.I6 x.n) (ha : Ac6 c) : ClU c := by
  obtain ⟨h1, h2, h3, h4, h5, h6, h7, h8, h9, h10, h11⟩ := cl_parts h
  have k4 := acc_in (k := 33) (by decide) ha.1 h4
  have k5 := cla_in h5
  have k6 := cla_in h6
  have kc := cix_le c.pool
  refine ⟨h1, ⟨by omega, by omega⟩, ⟨by omega, by omega⟩, ⟨by omega, by omega⟩, h2, hn, by omega, by omega, fun m hm => ?_, fun m hm => ?_, by omega, fun hne => Nat.one_le_iff_ne_zero.2 (h11 hne)⟩
  · obtain ⟨k, hk⟩ := List.mem_iff_getElem?.1 hm
    exact fd_in (h9 k m hk) (ha.2.1 m hm) h3
  · obtain ⟨k, hk⟩ := List.mem_iff_getElem?.1 hm
    exact me_in (h10 k m hk) (ha.2.2 m hm) h3
theorem cl_sizes {c : Cl} (h : ClIs c 0) : c.fs.length ≤ 256 ∧ c.ms.length ≤ 256 ∧ L3.CkIs c.pool 0 ∧ ∀ m ∈ c.ms, 0 < m.code.length ∧ m.code.length ≤ 4096 ∧ m.hs.length ≤ 64 := by
  obtain ⟨-, h2, -, -, -, -, h7, h8, -, h10, -⟩ := cl_parts h
  refine ⟨h7, h8, h2, fun m hm => ?_⟩
  obtain ⟨k, hk⟩ := List.mem_iff_getElem?.1 hm
  exact me_sizes (h10 k m hk)
/-- How long a class's bytes are, at most: far below what memory bears. -/
theorem mem_len {α : Type} {f : α → List Int} {b : Nat} : ∀ {l : List α}, (∀ x ∈ l, (f x).length ≤ b) → (l.flatMap f).length ≤ l.length * b
  | [], _ => by simp
  | x :: l, h => by
    rw [List.flatMap_cons, List.length_append, List.length_cons, Nat.succ_mul]
    have h1 := h x (by simp)
    have h2 := mem_len (l := l) (fun y hy => h y (List.mem_cons_of_mem _ hy))
    omega
end Cf
end Go.Proofs.YtjnjnfhboafcgaaGreatDoor
namespace Go.Proofs.YtjnjnfhboafcgaaGreatDoor
open Go.RowKit

theorem AdS.det {l : List L3.Cp.C} {er : Int} {c : L3.Cp.C} {m m' : List L3.Cp.C} {i i' : Nat} {e e' : Int} (h : AdS l er c m i e) (k : AdS l er c m' i' e') : m = m' ∧ i = i' ∧ e = e' := by
  rcases h with ⟨h1, rfl, rfl, rfl⟩ | ⟨rfl, h⟩ <;> rcases k with ⟨k1, rfl, rfl, rfl⟩ | ⟨k0, k⟩
  · exact ⟨rfl, rfl, rfl⟩
  · exact absurd k0 h1
  · exact absurd rfl k1
  · exact L3.AdIs.det h k
theorem NwIs.det {a b : ByteArray} {c c' : Cf.Cl} {er er' : Int} (h : NwIs a b c er) (k : NwIs a b c' er') : c = c' ∧ er = er' := by
  unfold NwIs at h k
  split at h
  · rename_i h1; rw [if_pos h1] at k; exact ⟨h.1.trans k.1.symm, h.2.trans k.2.symm⟩
  · rename_i h1
    rw [if_neg h1] at k
    split at h
    · rename_i h2; rw [if_pos h2] at k; exact ⟨h.1.trans k.1.symm, h.2.trans k.2.symm⟩
    · rename_i h2
      rw [if_neg h2] at k
      obtain ⟨m0, i0, e0, m1, i1, e1, m2, i2, e2, m3, i3, e3, m4, i4, e4, a0, a1, a2, a3, a4, h⟩ := h
      obtain ⟨m0', i0', e0', m1', i1', e1', m2', i2', e2', m3', i3', e3', m4', i4', e4', b0, b1, b2, b3, b4, k⟩ := k
      obtain ⟨rfl, rfl, rfl⟩ := a0.det b0
      obtain ⟨rfl, rfl, rfl⟩ := a1.det b1
      obtain ⟨rfl, rfl, rfl⟩ := a2.det b2
      obtain ⟨rfl, rfl, rfl⟩ := a3.det b3
      obtain ⟨rfl, rfl, rfl⟩ := a4.det b4
      split at h
      · rename_i h3; rw [if_pos h3] at k; exact ⟨h.1.trans k.1.symm, h.2.trans k.2.symm⟩
      · rename_i h3; rw [if_neg h3] at k; exact ⟨h.1.trans k.1.symm, h.2.trans k.2.symm⟩
theorem ad_new {l : List L3.Cp.C} {c : L3.Cp.C} (h1 : L3.CkIs l 0) (h2 : L3.ceOut c = 0) (h3 : (l.drop 1).all (fun x => decide (x ≠ c)) = true) (h4 : (L3.appE (L3.hdP l) c).length ≤ 4096) : AdS l 0 c (L3.appE (L3.hdP l) c) (L3.hdP l).length 0 := by
  refine .inr ⟨rfl, .inr ⟨h1, .inr ⟨h2, .inr ⟨.inl ⟨rfl, rfl, fun j hj _ he => ?_⟩, .inr ⟨h4, rfl, rfl, rfl⟩⟩⟩⟩⟩
  rw [List.all_eq_true] at h3
  have := h3 c (by
    rw [List.mem_iff_getElem?]
    exact ⟨j - 1, by rw [List.getElem?_drop, show 1 + (j - 1) = j by omega]; exact he⟩)
  simp at this
namespace Cf
def aS : ByteArray := ⟨#[65]⟩
def oS : ByteArray := ⟨#[106, 97, 118, 97, 47, 108, 97, 110, 103, 47, 79, 98, 106, 101, 99, 116]⟩
def fS : ByteArray := ⟨#[102]⟩
def dS : ByteArray := ⟨#[40, 41, 73]⟩
def p2 : List L3.Cp.C := [L3.Cp.C0, codeC]
def p3 : List L3.Cp.C := p2 ++ [⟨1, aS, 0, 0, 0⟩]
def p4 : List L3.Cp.C := p3 ++ [⟨7, ⟨#[]⟩, 0, 2, 0⟩]
def p5 : List L3.Cp.C := p4 ++ [⟨1, oS, 0, 0, 0⟩]
def p6 : List L3.Cp.C := p5 ++ [⟨7, ⟨#[]⟩, 0, 4, 0⟩]
def p7 : List L3.Cp.C := p6 ++ [⟨1, fS, 0, 0, 0⟩]
def p8 : List L3.Cp.C := p7 ++ [⟨1, dS, 0, 0, 0⟩]
def kA : Cl := ⟨0, 52, p6, 33, 3, 5, [], []⟩
def mF0 : Mb := ⟨8, 0, 0, 1, 0, [4, 172], []⟩
def mF : Mb := ⟨8, 6, 7, 1, 0, [4, 172], []⟩
def kF : Cl := ⟨0, 52, p8, 33, 3, 5, [], [mF]⟩
set_option maxRecDepth 100000
theorem ck0 : L3.CkIs [] 0 := L3.ck_all.2 ⟨by decide, by decide +kernel⟩
theorem ck2 : L3.CkIs p2 0 := L3.ck_all.2 ⟨by decide +kernel, by decide +kernel⟩
theorem ck3 : L3.CkIs p3 0 := L3.ck_all.2 ⟨by decide +kernel, by decide +kernel⟩
theorem ck4 : L3.CkIs p4 0 := L3.ck_all.2 ⟨by decide +kernel, by decide +kernel⟩
theorem ck5 : L3.CkIs p5 0 := L3.ck_all.2 ⟨by decide +kernel, by decide +kernel⟩
theorem ck6 : L3.CkIs p6 0 := L3.ck_all.2 ⟨by decide +kernel, by decide +kernel⟩
theorem ck7 : L3.CkIs p7 0 := L3.ck_all.2 ⟨by decide +kernel, by decide +kernel⟩
theorem ck8 : L3.CkIs p8 0 := L3.ck_all.2 ⟨by decide +kernel, by decide +kernel⟩
theorem ad2 : AdS [] 0 codeC p2 1 0 := ad_new ck0 (by decide +kernel) (by decide +kernel) (by decide +kernel)
theorem ad3 : AdS p2 0 ⟨1, aS, 0, 0, 0⟩ p3 2 0 := ad_new ck2 (by decide +kernel) (by decide +kernel) (by decide +kernel)
theorem ad4 : AdS p3 0 ⟨7, ⟨#[]⟩, 0, (2 : Nat), 0⟩ p4 3 0 := ad_new ck3 (by decide +kernel) (by decide +kernel) (by decide +kernel)
theorem ad5 : AdS p4 0 ⟨1, oS, 0, 0, 0⟩ p5 4 0 := ad_new ck4 (by decide +kernel) (by decide +kernel) (by decide +kernel)
theorem ad6 : AdS p5 0 ⟨7, ⟨#[]⟩, 0, (4 : Nat), 0⟩ p6 5 0 := ad_new ck5 (by decide +kernel) (by decide +kernel) (by decide +kernel)
theorem ad7 : AdS p6 0 ⟨1, fS, 0, 0, 0⟩ p7 6 0 := ad_new ck6 (by decide +kernel) (by decide +kernel) (by decide +kernel)
theorem ad8 : AdS p7 0 ⟨1, dS, 0, 0, 0⟩ p8 7 0 := ad_new ck7 (by decide +kernel) (by decide +kernel) (by decide +kernel)
theorem nw_A : NwIs aS oS kA 0 := by
  unfold NwIs
  rw [if_neg (by decide +kernel), if_neg (by decide +kernel)]
  exact ⟨p2, 1, 0, p3, 2, 0, p4, 3, 0, p5, 4, 0, p6, 5, 0, ad2, ad3, ad4, ad5, ad6, by rw [if_neg (by decide)]; exact ⟨rfl, rfl⟩⟩
theorem dec_F : ∃ l, L1.Op1.DecOut [4, 172] l 0 :=
  ⟨_, .ok (by decide) (by decide) (.snoc (.snoc .nil (by decide +kernel)) (by decide +kernel)) (by decide +kernel)⟩
theorem cl_F : ClIs kF 0 := by
  refine FstR.all fun k hk => ?_
  match k, hk with
  | 0, _ =>
    show HdIs kF 0
    unfold HdIs
    rw [if_neg (by decide +kernel)]
    refine ⟨0, ck8, ?_⟩
    rw [if_neg (by decide), if_neg (by decide +kernel), if_neg (by decide +kernel), if_neg (by decide +kernel), if_neg (by decide +kernel)]
  | 1, _ => exact FstR.all fun k hk => by cases hk
  | 2, _ =>
    refine FstR.all fun k hk => ?_
    obtain rfl : k = 0 := by have : k < 1 := hk; omega
    refine ⟨mF, rfl, ?_⟩
    unfold meIs
    rw [if_neg (by decide +kernel), if_neg (by decide +kernel), if_neg (by decide +kernel), if_neg (by decide +kernel), if_neg (by decide +kernel)]
    obtain ⟨l, hl⟩ := dec_F
    refine ⟨l, 0, hl, ?_⟩
    rw [if_neg (by decide), if_neg (by decide +kernel)]
    exact FstR.all fun k hk => by cases hk
  | 3, _ => exact ⟨_, _, cix_fi p8, by decide +kernel⟩
end Cf
end Go.Proofs.YtjnjnfhboafcgaaGreatDoor
namespace Go.Proofs.YtjnjnfhboafcgaaGreatDoor
open Go.RowKit

set_option maxRecDepth 100000 in
set_option maxHeartbeats 1000000 in
theorem cloneMember_any (m : Cf.Mb) (cv hv : Value) (w : World) (hB : L3.Bs w.heap.size w cv m.code) (hH : Kit.IsS 4 w hv m.hs.length (m.hs.flatMap hL)) (hc : m.code.length ≤ 140737488355328) (hh : m.hs.length * 32 ≤ 140737488355328) :
    Calls Tryz.prog 78 #[mbV m cv hv] w fun e w' => ∃ cv' hv', e = .returned (mbV m cv' hv') ∧ OMb w' w.heap.size (mL m cv' hv') m ∧ Below w.heap.size w w' := by
  have HBc := hid (fun W (k : Below w.heap.size w W) => bclone_any m.code.length (m.code.map L3.bv) cv W (isS_of_bs ((hB.below k (Nat.le_refl _)).mono k.size) hc) (by omega) (ones_b m.code))
  have HHc := hid (fun W (k : Below w.heap.size w W) => hclone_any m.hs.length (m.hs.flatMap hL) hv W (hH.below k (Nat.le_refl _)) hh (ones_hs m.hs))
  unfold ClonePost at HBc HHc
  obtain ⟨xa, xc, rfl⟩ := hB.len
  obtain ⟨ya, yc, rfl⟩ := hH.len
  obtain ⟨ac, nm, ds, st, lc, co, hs9⟩ := m
  unfold mbV mL
  dsimp only at HBc HHc hc hh ⊢
  have HSz := hid (And.intro hc hh)
  clear hB hH hc hh
  go_enter Tryz.func78, Tryz.ntmps78
  go_wp2_with (first
    | (go_at_call 129; refine (HBc.out _ (by repeat' first | with_reducible exact Below.refl _ _ | with_reducible assumption | with_reducible refine belows_drewN ?_ _ | with_reducible refine Below.drew ?_ | with_reducible refine Below.setCell ?_ ?_ _ | with_reducible refine Below.alloc ?_ ?_ _ | omega | (simp; done) | (simp; omega))).mono ?_; rintro e w1 ⟨v1, rfl, o1, hb1⟩; obtain ⟨ca, cc, rfl⟩ := L3.own_form o1; obtain ⟨bM, bR, hz1, B1⟩ := boxes2 hb1; simp only [World.size_alloc] at o1; have O1 := hid o1; have BM := hid bM; have BR := hid bR; have m0 := bM.cell 0; have m1 := bM.cell 1; have m2 := bM.cell 2; have m3 := bM.cell 3; have m4 := bM.cell 4; have m5 := bM.cell 5; have m6 := bM.cell 6; have g0 := bM.frozen 5; have g1 := bM.frozen 6; simp at m0 m1 m2 m3 m4 m5 m6; clear hb1 bM bR o1)
    | (go_at_call 130; have Bx : Below w.heap.size w (w1.setCell ⟨w.heap.size, 5, none⟩ (.slice ca co.length cc)) := (by repeat' first | with_reducible exact Below.refl _ _ | with_reducible assumption | with_reducible refine belows_drewN ?_ _ | with_reducible refine Below.drew ?_ | with_reducible refine Below.setCell ?_ ?_ _ | with_reducible refine Below.alloc ?_ ?_ _ | omega | (simp; done) | (simp; omega)); refine (HHc.out _ Bx).mono ?_; rintro e w2 ⟨v2, rfl, o2, hb2⟩; obtain ⟨ha, hc, rfl⟩ := L3.own_form o2; have B2 := belows Bx hb2 Bx.size; have hz2 := hb2.size; simp only [World.size_setCell] at hz2 o2; have O2 := hid o2; have O1b := hid (Kit.owns_below (Kit.owns_grown O1.out (L3.set_grown _ w.heap.size 5 _) (by omega)) hb2 (Nat.le_refl _)); have bM := (BM.out.set 5 (.slice ca co.length cc)).below hb2 (by simp only [World.size_setCell]; omega); have bR := (BR.out.grown (L3.set_grown w1 w.heap.size 5 (.slice ca co.length cc)) (fun e => by (have := Option.some.inj e; omega))).below hb2 (by simp only [World.size_setCell]; omega); have m0 := bM.cell 0; have m1 := bM.cell 1; have m2 := bM.cell 2; have m3 := bM.cell 3; have m4 := bM.cell 4; have m5 := bM.cell 5; have m6 := bM.cell 6; have g0 := bM.frozen 5; have g1 := bM.frozen 6; simp at m0 m1 m2 m3 m4 m5 m6; have r0 := bR.cell 0; have r1 := bR.cell 1; have r2 := bR.cell 2; have r3 := bR.cell 3; have r4 := bR.cell 4; have r5 := bR.cell 5; have r6 := bR.cell 6; simp at r0 r1 r2 r3 r4 r5 r6; have f0 := bR.frozen 0; have f1 := bR.frozen 1; have f2 := bR.frozen 2; have f3 := bR.frozen 3; have f4 := bR.frozen 4; have f5 := bR.frozen 5; have f6 := bR.frozen 6; clear hb2 o2 bM bR))
  refine bodyPost_ret (v := .agg #[.int .i64 ac, .int .i64 nm, .int .i64 ds, .int .i64 st, .int .i64 lc, .slice ca co.length cc, .slice ha hs9.length hc]) (by simp [results, Tryz.results78, go_sem, r0, r1, r2, r3, r4, r5, r6]) rfl ⟨_, _, rfl, ⟨_, _, rfl, ?_, ?_, HSz.out.1, by have := HSz.out.2; show hs9.length ≤ _; omega⟩, (by repeat' first | with_reducible exact Below.refl _ _ | with_reducible assumption | with_reducible refine belows_drewN ?_ _ | with_reducible refine Below.drew ?_ | with_reducible refine Below.setCell ?_ ?_ _ | with_reducible refine Below.alloc ?_ ?_ _ | omega | (simp; done) | (simp; omega))⟩
  · have hlt : w.heap.size + 1 < w.heap.size + 1 + 1 := by omega
    have hlt2 : w.heap.size < w.heap.size + 1 + 1 := by omega
    refine L3.own_mono (base := w.heap.size + 1 + 1) ?_ (by omega)
    (iterate 7 (refine Kit.owns_grown ?_ (L3.set_grown _ _ _ _) hlt))
    exact Kit.owns_grown O1b.out (L3.set_grown _ _ _ _) hlt2
  · have hlt : w.heap.size + 1 < w.heap.size + 1 + 1 := by omega
    have hlt2 : w.heap.size < w.heap.size + 1 + 1 := by omega
    refine L3.own_mono (base := w.heap.size + 1 + 1) ?_ (by omega)
    (iterate 7 (refine Kit.owns_grown ?_ (L3.set_grown _ _ _ _) hlt))
    exact Kit.owns_grown (L3.own_mono O2.out (by omega)) (L3.set_grown _ _ _ _) hlt2
end Go.Proofs.YtjnjnfhboafcgaaGreatDoor
namespace Go.Proofs.YtjnjnfhboafcgaaGreatDoor
open Go.RowKit

theorem owns_set {w : World} {base : Nat} {e : TypeId} {size g n cap : Nat} {xs : List Value} (h : w.ownsRow base e size (.slice (some ⟨g, 0, none⟩) n cap) n xs) (i : Nat) (u : Value) :
    (w.setCell ⟨g, i, none⟩ u).ownsRow base e size (.slice (some ⟨g, 0, none⟩) n cap) n (xs.set i u) := by
  refine ⟨by rw [List.length_set]; exact h.1, ?_⟩
  rcases h.2 with ⟨h2, -⟩ | ⟨g', cap', cur, hv, hg, hh, h1, h2, h3, h4⟩
  · cases h2
  · obtain ⟨e1, -, rfl⟩ := Value.slice.inj hv
    obtain rfl : g = g' := by simpa using e1
    refine .inr ⟨g, cap, cur.setIfInBounds i u, rfl, hg, ?_, h1, h2, by rw [Array.size_setIfInBounds]; exact h3, ?_⟩
    · obtain ⟨hlt, hk⟩ := Array.getElem?_eq_some_iff.1 hh
      show (w.heap.modify g _)[g]? = _
      rw [Array.getElem?_eq_getElem (by rw [Array.size_modify]; exact hlt), Array.getElem_modify_self, hk]
      rfl
    · rw [Array.toList_setIfInBounds, ← h4]
      exact List.take_set
theorem set7 {a0 a1 a2 a3 a4 a5 a6 : Value} : ∀ {rs : List (List Value)} {k : Nat}, (∀ r ∈ rs, r.length = 7) → k < rs.length →
    (((((((rs.flatten.set (k * 7) a0).set (k * 7 + 1) a1).set (k * 7 + 2) a2).set (k * 7 + 3) a3).set (k * 7 + 4) a4).set (k * 7 + 5) a5).set (k * 7 + 6) a6) = (rs.set k [a0, a1, a2, a3, a4, a5, a6]).flatten
  | [], k, _, hk => by simp at hk
  | r :: rs, 0, h, _ => by
    have hr := h r (by simp)
    match r, hr with
    | [x0, x1, x2, x3, x4, x5, x6], _ => simp
  | r :: rs, k + 1, h, hk => by
    have hr := h r (by simp)
    have ih := set7 (a0 := a0) (a1 := a1) (a2 := a2) (a3 := a3) (a4 := a4) (a5 := a5) (a6 := a6) (rs := rs) (k := k) (fun x hx => h x (by simp [hx])) (by simpa using hk)
    have hs : ∀ (l : List Value) (j : Nat) (u : Value), (r ++ l).set ((k + 1) * 7 + j) u = r ++ l.set (k * 7 + j) u := by
      intro l j u
      rw [List.set_append, if_neg (by omega), hr]
      congr 2
      omega
    have hs0 : ∀ (l : List Value) (u : Value), (r ++ l).set ((k + 1) * 7) u = r ++ l.set (k * 7) u := fun l u => hs l 0 u
    rw [List.flatten_cons, hs0, hs, hs, hs, hs, hs, hs, ih]
    simp
/-- Rows of which the first so many are own ones; the others read. -/
def Half (w0 w : World) (base : Nat) (ms : List Cf.Mb) (k : Nat) (rs : List (List Value)) : Prop := rs.length = ms.length ∧ ∀ j r m, rs[j]? = some r → ms[j]? = some m → (j < k → OMb w base r m) ∧ (k ≤ j → r.length = 7 ∧ MbR w0 r m)
theorem Half.lens {w0 w : World} {base : Nat} {ms : List Cf.Mb} {k : Nat} {rs : List (List Value)} (h : Half w0 w base ms k rs) : ∀ r ∈ rs, r.length = 7 := by
  intro r hr
  obtain ⟨j, hj⟩ := List.mem_iff_getElem?.1 hr
  have hlt : j < rs.length := (List.getElem?_eq_some_iff.1 hj).1
  have hm : ms[j]? = some (ms[j]'(by rw [← h.1]; exact hlt)) := List.getElem?_eq_getElem _
  by_cases e : j < k
  · exact ((h.2 j r _ hj hm).1 e).len
  · exact ((h.2 j r _ hj hm).2 (by omega)).1
theorem half_all {w0 w : World} {base : Nat} : ∀ {ms : List Cf.Mb} {rs : List (List Value)}, Half w0 w base ms ms.length rs → All2 (OMb w base) rs ms
  | [], [], _ => trivial
  | m :: ms, r :: rs, h => by
    refine ⟨(h.2 0 r m rfl rfl).1 (by simp), half_all (w0 := w0) ⟨by simpa using h.1, fun j x y hx hy => ⟨fun hj => (h.2 (j + 1) x y (by simpa using hx) (by simpa using hy)).1 (by simpa using hj), fun hj => ?_⟩⟩⟩
    have := (List.getElem?_eq_some_iff.1 hy).1
    omega
  | [], _ :: _, h => by have := h.1; simp at this
  | _ :: _, [], h => by have := h.1; simp at this
theorem half_new {w0 w : World} {base : Nat} : ∀ {ms : List Cf.Mb} {rs : List (List Value)}, MsC w0 rs ms → Half w0 w base ms 0 rs
  | [], [], _ => ⟨rfl, fun j r m h => by simp at h⟩
  | m :: ms, r :: rs, h => by
    obtain ⟨h1, h2⟩ := half_new (w := w) (base := base) h.2
    refine ⟨by simp [h1], fun j x y hx hy => ⟨fun hj => by omega, fun _ => ?_⟩⟩
    match j, hx, hy with
    | 0, hx, hy =>
      simp at hx hy
      subst hx hy
      exact ⟨h.1.len, h.1⟩
    | j + 1, hx, hy => exact (h2 j x y (by simpa using hx) (by simpa using hy)).2 (Nat.zero_le _)
  | [], _ :: _, h => h.elim
  | _ :: _, [], h => h.elim
end Go.Proofs.YtjnjnfhboafcgaaGreatDoor
namespace Go.Proofs.YtjnjnfhboafcgaaGreatDoor
open Go.RowKit

theorem ones_rows {w : World} : ∀ {rs : List (List Value)} {ms : List Cf.Mb}, MsC w rs ms → ∀ u ∈ rs.flatten, u.oneCell' = true
  | [], [], _, u, hu => by simp at hu
  | r :: rs, m :: ms, h, u, hu => by
    rw [List.flatten_cons, List.mem_append] at hu
    rcases hu with hu | hu
    · obtain ⟨cv, hv, rfl, hb, hh, -⟩ := h.1
      obtain ⟨a, c, rfl⟩ := hb.len
      obtain ⟨a2, c2, rfl⟩ := hh.len
      simp at hu
      rcases hu with rfl | rfl | rfl | rfl | rfl | rfl | rfl <;> rfl
    · exact ones_rows h.2 u hu
  | [], _ :: _, h, _, _ => h.elim
  | _ :: _, [], h, _, _ => h.elim
theorem Half.step {w0 w w' : World} {base k : Nat} {ms : List Cf.Mb} {rs : List (List Value)} {m : Cf.Mb} {r : List Value} (h : Half w0 w base ms k rs) (hm : ms[k]? = some m) (hr : OMb w' base r m) (hk : ∀ x y, OMb w base x y → OMb w' base x y) : Half w0 w' base ms (k + 1) (rs.set k r) := by
  refine ⟨by rw [List.length_set]; exact h.1, fun j x y hx hy => ?_⟩
  by_cases e : j = k
  · subst e
    rw [hm] at hy
    cases hy
    have hlt : j < rs.length := by rw [h.1]; exact (List.getElem?_eq_some_iff.1 hm).1
    rw [List.getElem?_set_self hlt] at hx
    cases hx
    exact ⟨fun _ => hr, fun hj => by omega⟩
  · rw [List.getElem?_set_ne (fun e2 => e e2.symm)] at hx
    obtain ⟨h1, h2⟩ := h.2 j x y hx hy
    exact ⟨fun hj => hk _ _ (h1 (by omega)), fun hj => h2 (by omega)⟩
theorem own_frozen {w : World} {base : Nat} {e : TypeId} {size g n cap : Nat} {xs : List Value} (h : w.ownsRow base e size (.slice (some ⟨g, 0, none⟩) n cap) n xs) (j : Nat) : w.frozen? ⟨g, j, none⟩ = false := by
  rcases h.2 with ⟨h1, -⟩ | ⟨g2, cap2, cur, h1, -, hh, -⟩
  · cases h1
  · obtain ⟨h2, -, -⟩ := Value.slice.inj h1
    obtain rfl : g = g2 := by simpa using h2
    simp [World.frozen?, hh]
theorem own_cells {w : World} {base : Nat} {e : TypeId} {size g n cap : Nat} {xs : List Value} (h : w.ownsRow base e size (.slice (some ⟨g, 0, none⟩) n cap) n xs) (j : Nat) (u : Value) (hj : xs[j]? = some u) : w.cell? ⟨g, j, none⟩ = some u := by
  have h2 := h.cells (g := g) rfl j u hj
  have h3 : (⟨g, 0, none⟩ : Addr).add j = ⟨g, j, none⟩ := by
    unfold Addr.add
    split <;> simp_all
  rwa [h3] at h2
theorem steps7 {W : World} {base : Nat} {e : TypeId} {size g n cap p : Nat} {xs : List Value} (h : W.ownsRow base e size (.slice (some ⟨g, 0, none⟩) n cap) n xs) (hp : p + 7 ≤ xs.length) (a0 a1 a2 a3 a4 a5 : Value) :
    ∃ x0 x1 x2 x3 x4 x5 x6, W.cell? ⟨g, p, none⟩ = some x0 ∧ (W.setCell ⟨g, p, none⟩ a0).cell? ⟨g, p + 1, none⟩ = some x1 ∧
      ((W.setCell ⟨g, p, none⟩ a0).setCell ⟨g, p + 1, none⟩ a1).cell? ⟨g, p + 2, none⟩ = some x2 ∧
      (((W.setCell ⟨g, p, none⟩ a0).setCell ⟨g, p + 1, none⟩ a1).setCell ⟨g, p + 2, none⟩ a2).cell? ⟨g, p + 3, none⟩ = some x3 ∧
      ((((W.setCell ⟨g, p, none⟩ a0).setCell ⟨g, p + 1, none⟩ a1).setCell ⟨g, p + 2, none⟩ a2).setCell ⟨g, p + 3, none⟩ a3).cell? ⟨g, p + 4, none⟩ = some x4 ∧
      (((((W.setCell ⟨g, p, none⟩ a0).setCell ⟨g, p + 1, none⟩ a1).setCell ⟨g, p + 2, none⟩ a2).setCell ⟨g, p + 3, none⟩ a3).setCell ⟨g, p + 4, none⟩ a4).cell? ⟨g, p + 5, none⟩ = some x5 ∧
      ((((((W.setCell ⟨g, p, none⟩ a0).setCell ⟨g, p + 1, none⟩ a1).setCell ⟨g, p + 2, none⟩ a2).setCell ⟨g, p + 3, none⟩ a3).setCell ⟨g, p + 4, none⟩ a4).setCell ⟨g, p + 5, none⟩ a5).cell? ⟨g, p + 6, none⟩ = some x6 := by
  have h1 := owns_set h p a0
  have h2 := owns_set h1 (p + 1) a1
  have h3 := owns_set h2 (p + 2) a2
  have h4 := owns_set h3 (p + 3) a3
  have h5 := owns_set h4 (p + 4) a4
  have h6 := owns_set h5 (p + 5) a5
  exact ⟨_, _, _, _, _, _, _, own_cells h p _ (List.getElem?_eq_getElem (by omega)), own_cells h1 (p + 1) _ (List.getElem?_eq_getElem (by simp only [List.length_set]; omega)), own_cells h2 (p + 2) _ (List.getElem?_eq_getElem (by simp only [List.length_set]; omega)), own_cells h3 (p + 3) _ (List.getElem?_eq_getElem (by simp only [List.length_set]; omega)), own_cells h4 (p + 4) _ (List.getElem?_eq_getElem (by simp only [List.length_set]; omega)), own_cells h5 (p + 5) _ (List.getElem?_eq_getElem (by simp only [List.length_set]; omega)), own_cells h6 (p + 6) _ (List.getElem?_eq_getElem (by simp only [List.length_set]; omega))⟩
theorem flat7_len : ∀ {rs : List (List Value)} {k : Nat}, (∀ x ∈ rs, x.length = 7) → k < rs.length → k * 7 + 7 ≤ rs.flatten.length
  | [], k, _, h => by simp at h
  | x :: rs, 0, hl, _ => by rw [List.flatten_cons, List.length_append, hl x (by simp)]; omega
  | x :: rs, k + 1, hl, h => by
    have := flat7_len (rs := rs) (k := k) (fun y hy => hl y (List.mem_cons_of_mem _ hy)) (by simpa using h)
    rw [List.flatten_cons, List.length_append, hl x (by simp)]
    omega
theorem half_put {w wr W2 : World} {base b n cap k : Nat} {ms : List Cf.Mb} {rs : List (List Value)} {m : Cf.Mb} {cv hv : Value} (h : Half w wr base ms k rs) (hm : ms[k]? = some m) (hb : Below wr.heap.size wr W2) (hw : base ≤ wr.heap.size) (ho : OMb W2 wr.heap.size (mL m cv hv) m)
    (hO : W2.ownsRow base 42 7 (.slice (some ⟨b, 0, none⟩) n cap) n rs.flatten) :
    Half w (((((((W2.setCell ⟨b, k * 7, none⟩ (.int .i64 m.ac)).setCell ⟨b, k * 7 + 1, none⟩ (.int .i64 m.nm)).setCell ⟨b, k * 7 + 2, none⟩ (.int .i64 m.ds)).setCell ⟨b, k * 7 + 3, none⟩ (.int .i64 m.st)).setCell ⟨b, k * 7 + 4, none⟩ (.int .i64 m.lc)).setCell ⟨b, k * 7 + 5, none⟩ cv).setCell ⟨b, k * 7 + 6, none⟩ hv) base ms (k + 1) (rs.set k (mL m cv hv)) ∧
      (((((((W2.setCell ⟨b, k * 7, none⟩ (.int .i64 m.ac)).setCell ⟨b, k * 7 + 1, none⟩ (.int .i64 m.nm)).setCell ⟨b, k * 7 + 2, none⟩ (.int .i64 m.ds)).setCell ⟨b, k * 7 + 3, none⟩ (.int .i64 m.st)).setCell ⟨b, k * 7 + 4, none⟩ (.int .i64 m.lc)).setCell ⟨b, k * 7 + 5, none⟩ cv).setCell ⟨b, k * 7 + 6, none⟩ hv).ownsRow base 42 7 (.slice (some ⟨b, 0, none⟩) n cap) n (rs.set k (mL m cv hv)).flatten := by
  have hlt : k < rs.length := by rw [h.1]; exact (List.getElem?_eq_some_iff.1 hm).1
  have hg : W2.grownBy (((((((W2.setCell ⟨b, k * 7, none⟩ (.int .i64 m.ac)).setCell ⟨b, k * 7 + 1, none⟩ (.int .i64 m.nm)).setCell ⟨b, k * 7 + 2, none⟩ (.int .i64 m.ds)).setCell ⟨b, k * 7 + 3, none⟩ (.int .i64 m.st)).setCell ⟨b, k * 7 + 4, none⟩ (.int .i64 m.lc)).setCell ⟨b, k * 7 + 5, none⟩ cv).setCell ⟨b, k * 7 + 6, none⟩ hv) (some b) :=
    L3.grown_trans (L3.grown_trans (L3.grown_trans (L3.grown_trans (L3.grown_trans (L3.grown_trans (L3.grownBy_setCell' _ _ _) (L3.grownBy_setCell' _ _ _)) (L3.grownBy_setCell' _ _ _)) (L3.grownBy_setCell' _ _ _)) (L3.grownBy_setCell' _ _ _)) (L3.grownBy_setCell' _ _ _)) (L3.grownBy_setCell' _ _ _)
  refine ⟨h.step hm ((ho.mono hw).apart hO (by simpa [Value.ownBlock] using hg)) fun x y hx => (hx.below hb (Nat.le_refl _)).apart hO (by simpa [Value.ownBlock] using hg), ?_⟩
  have h7 := owns_set (owns_set (owns_set (owns_set (owns_set (owns_set (owns_set hO (k * 7) (.int .i64 m.ac)) (k * 7 + 1) (.int .i64 m.nm)) (k * 7 + 2) (.int .i64 m.ds)) (k * 7 + 3) (.int .i64 m.st)) (k * 7 + 4) (.int .i64 m.lc)) (k * 7 + 5) cv) (k * 7 + 6) hv
  rw [set7 h.lens hlt] at h7
  exact h7
def cmFn : Value := .func (.func 78) #[] #[]
theorem flat7 {w0 w : World} {base k : Nat} {ms : List Cf.Mb} : ∀ {rs : List (List Value)} {j : Nat} {r : List Value}, (∀ x ∈ rs, x.length = 7) → rs[j]? = some r → ∀ i, i < 7 → rs.flatten[j * 7 + i]? = r[i]?
  | [], _, _, _, h, _, _ => by simp at h
  | x :: rs, 0, r, hl, h, i, hi => by
    simp at h
    subst h
    rw [List.flatten_cons, List.getElem?_append_left (by have := hl x (by simp); omega)]
    simp
  | x :: rs, j + 1, r, hl, h, i, hi => by
    have hx := hl x (by simp)
    rw [List.flatten_cons, List.getElem?_append_right (by omega), hx, ← flat7 (w0 := w0) (w := w) (base := base) (k := k) (ms := ms) (fun y hy => hl y (List.mem_cons_of_mem _ hy)) (by simpa using h) i hi]
    congr 1
    omega
set_option maxRecDepth 100000 in
set_option maxHeartbeats 2000000 in
theorem cloneEach_any (ms : List Cf.Mb) (v : Value) (w : World) (h : MsR w v ms) (hn : ms.length * 88 ≤ 140737488355328) (hh : ∀ m ∈ ms, m.hs.length * 32 ≤ 140737488355328) :
    Calls Tryz.prog 77 #[v, cmFn] w fun e w' => ∃ v', e = .returned v' ∧ OMs w' w.heap.size v' ms ∧ Below w.heap.size w w' := by
  obtain ⟨rs, hC, hS⟩ := h
  have HC := hid (mclone_any ms.length rs.flatten v w hS hn (ones_rows hC))
  have HN := hid (fun (W : World) => half_new (w := W) (base := w.heap.size) hC)
  have HH := hid hh
  unfold ClonePost at HC
  obtain ⟨a, cap, rfl⟩ := hS.len
  unfold cmFn
  clear hC hS hh
  go_enter Tryz.func77, Tryz.ntmps77
  go_wp2_with (go_at_call 128; refine HC.out.mono ?_; rintro e w1 ⟨v1, rfl, o1, hb1⟩; obtain ⟨g0, c0, rfl⟩ := L3.own_form o1)
  go_loopw [11] (fun i wr => ∃ (k : Nat) (rs' : List (List Value)), k ≤ ms.length ∧ i = .int .i64 k ∧ Half w wr w.heap.size ms k rs' ∧ wr.ownsRow w.heap.size 42 7 (.slice g0 ms.length c0) ms.length rs'.flatten ∧ Below w.heap.size w wr) (fun i _ => ms.length - (intOf i).toNat)
  case atStart => exact ⟨0, rs, by omega, rfl, HN.out _, o1, hb1⟩
  case round =>
    obtain ⟨k, rs', hk, rfl, hHf, hO, hbl⟩ := hrel
    have hzr := hbl.size
    by_cases hlt : k < ms.length
    · obtain ⟨m, hx⟩ : ∃ x, ms[k]? = some x := ⟨ms[k], List.getElem?_eq_getElem hlt⟩
      obtain ⟨r, hr⟩ : ∃ r, rs'[k]? = some r := ⟨rs'[k]'(by rw [hHf.1]; exact hlt), List.getElem?_eq_getElem _⟩
      obtain ⟨-, hrd⟩ := hHf.2 k r m hr hx
      obtain ⟨-, cv, hv, rfl, hB, hHs, hcl⟩ := hrd (Nat.le_refl _)
      obtain ⟨xa, xc, rfl⟩ := hB.len
      obtain ⟨ya, yc, rfl⟩ := hHs.len
      obtain ⟨b, o, cap', hv2, -, hbb, hc⟩ := (Kit.isS_of_owns hO (by omega)).some (by omega)
      obtain ⟨rfl, -, rfl⟩ := Value.slice.inj hv2
      have ho0 : o = 0 := by
        rcases hO.2 with ⟨h1, -⟩ | ⟨g', cap2, cur, h1, -⟩
        · cases h1
        · obtain ⟨h2, -, -⟩ := Value.slice.inj h1
          have h3 : b = g' ∧ o = 0 := by simpa using h2
          exact h3.2
      subst ho0
      have hf := fun i hi => flat7 (w0 := w) (w := wr) (base := w.heap.size) (k := k) (ms := ms) hHf.lens hr i hi
      simp only [Nat.zero_add] at hc
      have c0 := hc (k * 7) (.int .i64 m.ac) (by have := hf 0 (by omega); simpa using this)
      have c1 := hc (k * 7 + 1) (.int .i64 m.nm) (by have := hf 1 (by omega); simpa using this)
      have c2 := hc (k * 7 + 2) (.int .i64 m.ds) (by have := hf 2 (by omega); simpa using this)
      have c3 := hc (k * 7 + 3) (.int .i64 m.st) (by have := hf 3 (by omega); simpa using this)
      have c4 := hc (k * 7 + 4) (.int .i64 m.lc) (by have := hf 4 (by omega); simpa using this)
      have c5 := hc (k * 7 + 5) _ (by have := hf 5 (by omega); simpa using this)
      have c6 := hc (k * 7 + 6) _ (by have := hf 6 (by omega); simpa using this)
      have hki : (k : Int) < (ms.length : Int) := by omega
      have HCm := hid (fun W (q : Below w.heap.size w W) => cloneMember_any m _ _ W ((hB.below q (Nat.le_refl _)).mono q.size) (hHs.below q (Nat.le_refl _)) hcl (HH.out m (List.mem_of_getElem? hx)))
      unfold mbV at HCm
      have HX := hid hx
      have HHf := hid hHf
      have HO := hid hO
      have HL := hid (flat7_len hHf.lens (by rw [hHf.1]; exact hlt))
      have hgb : w.heap.size ≤ b := Kit.own_base hO b (by simp [Value.ownBlock])
      clear hr hrd hv2 hf hc hB hHs hx hHf hO
      go_wp2_with (go_at_call 78; refine (HCm.out _ (by repeat' first | with_reducible exact Below.refl _ _ | with_reducible assumption | with_reducible refine belows_drewN ?_ _ | with_reducible refine Below.drew ?_ | with_reducible refine Below.setCell ?_ ?_ _ | with_reducible refine Below.alloc ?_ ?_ _ | omega | (simp; done) | (simp; omega))).mono ?_; rintro e W2 ⟨cv2, hv2, rfl, hom, hb2⟩; have hsz2 := hb2.size; simp only [World.size_alloc] at hsz2; have Bw : Below wr.heap.size wr W2 := belows ((Below.refl _ _).alloc (Nat.le_refl _) _) hb2 (by simp only [World.size_alloc]; omega); have HO2 := hid (Kit.owns_below HO.out Bw (Nat.le_refl _)); have HOm := hid hom; have HBw := hid Bw; have fz : ∀ j, W2.frozen? ⟨b, j, none⟩ = false := own_frozen HO2.out; have hvs := HOm.out; obtain ⟨cv3, hv3, he3, oc, oh, -⟩ := hvs; obtain ⟨rfl, rfl⟩ : cv2 = cv3 ∧ hv2 = hv3 := (by simpa [mL] using he3); obtain ⟨g3, c3', rfl⟩ := L3.own_form oc; obtain ⟨g4, c4', rfl⟩ := L3.own_form oh; obtain ⟨x0, x1, x2, x3, x4, x5, x6, e0, e1, e2, e3, e4, e5, e6⟩ := steps7 HO2.out HL.out (.int .i64 m.ac) (.int .i64 m.nm) (.int .i64 m.ds) (.int .i64 m.st) (.int .i64 m.lc) (.slice g3 m.code.length c3'); clear hb2 hom Bw he3 oc oh)
      obtain ⟨hH2, hO2⟩ := half_put HHf.out HX.out HBw.out hbl.size (HOm.out.mono (by simp)) HO2.out
      have hbw : Below w.heap.size w W2 := belows hbl HBw.out hbl.size
      exact ⟨⟨k + 1, _, by omega, by simp, hH2, hO2, (by repeat' first | with_reducible exact Below.refl _ _ | with_reducible assumption | with_reducible refine belows_drewN ?_ _ | with_reducible refine Below.drew ?_ | with_reducible refine Below.setCell ?_ ?_ _ | with_reducible refine Below.alloc ?_ ?_ _ | omega | (simp; done) | (simp; omega))⟩, by simp [intOf]; omega⟩
    · obtain rfl : k = ms.length := by omega
      go_wp2
      go_ret
      exact ⟨_, rfl, ⟨rs', half_all hHf, hO⟩, hbl⟩
end Go.Proofs.YtjnjnfhboafcgaaGreatDoor
namespace Go.Proofs.YtjnjnfhboafcgaaGreatDoor
open Go.RowKit

/-- How long a class's lists may be to be cloned. -/
def Cf.Szc (c : Cf.Cl) : Prop := c.pool.length * 48 ≤ 140737488355328 ∧ c.fs.length * 88 ≤ 140737488355328 ∧ c.ms.length * 88 ≤ 140737488355328 ∧ (∀ m ∈ c.fs, m.hs.length * 32 ≤ 140737488355328) ∧ ∀ m ∈ c.ms, m.hs.length * 32 ≤ 140737488355328
theorem OMs.form {w : World} {base : Nat} {v : Value} {ms : List Cf.Mb} (h : OMs w base v ms) : ∃ a cap, v = .slice a ms.length cap := by
  obtain ⟨rs, -, h2⟩ := h
  exact L3.own_form h2
/-- Fields and methods lie apart. -/
def ApV (vs : Array Value) : Prop := ∀ k, (vs.getD 6 (.bool false)).ownBlock = some k → (vs.getD 7 (.bool false)).ownBlock ≠ some k
theorem OMs.lt {w : World} {base : Nat} {v : Value} {ms : List Cf.Mb} (h : OMs w base v ms) : ∀ k, v.ownBlock = some k → k < w.heap.size := by
  obtain ⟨rs, -, h2⟩ := h
  exact Kit.own_lt h2
theorem OMs.ge {w : World} {base : Nat} {v : Value} {ms : List Cf.Mb} (h : OMs w base v ms) : ∀ k, v.ownBlock = some k → base ≤ k := by
  obtain ⟨rs, -, h2⟩ := h
  exact Kit.own_base h2
set_option maxRecDepth 100000 in
set_option maxHeartbeats 2000000 in
theorem clone_any (c : Cf.Cl) (vs : Array Value) (w : World) (h : ClR w vs c) (hs : Cf.Szc c) :
    Calls Tryz.prog 33 #[.agg vs] w fun e w' => ∃ vs', e = .returned (.agg vs') ∧ OCl w' w.heap.size vs' c ∧ ApV vs' ∧ Below w.heap.size w w' := by
  obtain ⟨pv, fv, mv, rfl, hP, hF, hM⟩ := h
  have HP := hid (fun W (k : Below w.heap.size w W) => L3.cclone_any c.pool pv W (hP.below k (Nat.le_refl _)) hs.1)
  have HF := hid (fun W (k : Below w.heap.size w W) => cloneEach_any c.fs fv W (hF.below k (Nat.le_refl _)) hs.2.1 hs.2.2.2.1)
  have HM := hid (fun W (k : Below w.heap.size w W) => cloneEach_any c.ms mv W (hM.below k (Nat.le_refl _)) hs.2.2.1 hs.2.2.2.2)
  unfold L3.ClonePost at HP
  unfold cmFn at HF HM
  obtain ⟨xa, xc, rfl⟩ := hP.len
  obtain ⟨_, -, hf2⟩ := hF
  obtain ⟨ya, yc, rfl⟩ := hf2.len
  obtain ⟨_, -, hm2⟩ := hM
  obtain ⟨za, zc, rfl⟩ := hm2.len
  obtain ⟨mi, ma, pool, ac, th, su, fs, ms⟩ := c
  dsimp only at HP HF HM hs ⊢
  clear hP hf2 hm2 hs
  go_enter Tryz.func33, Tryz.ntmps33
  go_wp2_with (first
    | (go_at_call 77; have _g := O2; have Bx3 : Below w.heap.size w (w2.setCell ⟨w.heap.size, 6, none⟩ (.slice fa fs.length fc)) := (by repeat' first | with_reducible exact Below.refl _ _ | with_reducible assumption | with_reducible refine belows_drewN ?_ _ | with_reducible refine Below.drew ?_ | with_reducible refine Below.setCell ?_ ?_ _ | with_reducible refine Below.alloc ?_ ?_ _ | omega | (simp; done) | (simp; omega)); refine (HM.out _ Bx3).mono ?_; rintro e w3 ⟨v3, rfl, o3, hb3⟩; obtain ⟨ga, gc, rfl⟩ := OMs.form o3; have B3 := belows Bx3 hb3 Bx3.size; have hz3 := hb3.size; simp only [World.size_setCell] at hz3 o3; have O3 := hid o3; have O1c := hid (Kit.owns_below (Kit.owns_grown O1b.out (L3.set_grown _ w.heap.size 6 _) (by omega)) hb3 (Nat.le_refl _)); have O2c := hid ((O2.out.grown (L3.set_grown _ w.heap.size 6 _) (by omega)).below hb3 (Nat.le_refl _)); have bM := (BM2.out.set 6 (.slice fa fs.length fc)).below hb3 (by simp only [World.size_setCell]; omega); have bR := (BR2.out.grown (L3.set_grown w2 w.heap.size 6 (.slice fa fs.length fc)) (fun e => by (have := Option.some.inj e; omega))).below hb3 (by simp only [World.size_setCell]; omega); clear m0 m1 m2 m3 m4 m5 m6 m7 g6 g7; have m0 := bM.cell 0; have m1 := bM.cell 1; have m2 := bM.cell 2; have m3 := bM.cell 3; have m4 := bM.cell 4; have m5 := bM.cell 5; have m6 := bM.cell 6; have m7 := bM.cell 7; have g7 := bM.frozen 7; simp at m0 m1 m2 m3 m4 m5 m6 m7; have r0 := bR.cell 0; have r1 := bR.cell 1; have r2 := bR.cell 2; have r3 := bR.cell 3; have r4 := bR.cell 4; have r5 := bR.cell 5; have r6 := bR.cell 6; have r7 := bR.cell 7; simp at r0 r1 r2 r3 r4 r5 r6 r7; have f0 := bR.frozen 0; have f1 := bR.frozen 1; have f2 := bR.frozen 2; have f3 := bR.frozen 3; have f4 := bR.frozen 4; have f5 := bR.frozen 5; have f6 := bR.frozen 6; have f7 := bR.frozen 7; clear hb3 bM bR o3)
    | (go_at_call 77; have Bx : Below w.heap.size w (w1.setCell ⟨w.heap.size, 2, none⟩ (.slice pa pool.length pc)) := (by repeat' first | with_reducible exact Below.refl _ _ | with_reducible assumption | with_reducible refine belows_drewN ?_ _ | with_reducible refine Below.drew ?_ | with_reducible refine Below.setCell ?_ ?_ _ | with_reducible refine Below.alloc ?_ ?_ _ | omega | (simp; done) | (simp; omega)); refine (HF.out _ Bx).mono ?_; rintro e w2 ⟨v2, rfl, o2, hb2⟩; obtain ⟨fa, fc, rfl⟩ := OMs.form o2; have B2 := belows Bx hb2 Bx.size; have hz2 := hb2.size; simp only [World.size_setCell] at hz2 o2; have O2 := hid o2; have O1b := hid (Kit.owns_below (Kit.owns_grown O1.out (L3.set_grown _ w.heap.size 2 _) (by omega)) hb2 (Nat.le_refl _)); have bM := (BM.out.set 2 (.slice pa pool.length pc)).below hb2 (by simp only [World.size_setCell]; omega); have bR := (BR.out.grown (L3.set_grown w1 w.heap.size 2 (.slice pa pool.length pc)) (fun e => by (have := Option.some.inj e; omega))).below hb2 (by simp only [World.size_setCell]; omega); clear m0 m1 m2 m3 m4 m5 m6 m7 g2 g6 g7; have m0 := bM.cell 0; have m1 := bM.cell 1; have m2 := bM.cell 2; have m3 := bM.cell 3; have m4 := bM.cell 4; have m5 := bM.cell 5; have m6 := bM.cell 6; have m7 := bM.cell 7; have g6 := bM.frozen 6; have g7 := bM.frozen 7; simp at m0 m1 m2 m3 m4 m5 m6 m7; have BM2 := hid bM; have BR2 := hid bR; clear hb2 bM bR o2)
    | (go_at_call 76; refine (HP.out _ (by repeat' first | with_reducible exact Below.refl _ _ | with_reducible assumption | with_reducible refine belows_drewN ?_ _ | with_reducible refine Below.drew ?_ | with_reducible refine Below.setCell ?_ ?_ _ | with_reducible refine Below.alloc ?_ ?_ _ | omega | (simp; done) | (simp; omega))).mono ?_; rintro e w1 ⟨v1, rfl, o1, hb1⟩; obtain ⟨pa, pc, rfl⟩ := L3.own_form o1; obtain ⟨bM, bR, hz1, B1⟩ := boxes2 hb1; unfold L3.OwnC at o1; simp only [World.size_alloc] at o1; have O1 := hid o1; have BM := hid bM; have BR := hid bR; have m0 := bM.cell 0; have m1 := bM.cell 1; have m2 := bM.cell 2; have m3 := bM.cell 3; have m4 := bM.cell 4; have m5 := bM.cell 5; have m6 := bM.cell 6; have m7 := bM.cell 7; have g2 := bM.frozen 2; have g6 := bM.frozen 6; have g7 := bM.frozen 7; simp at m0 m1 m2 m3 m4 m5 m6 m7; clear hb1 bM bR o1))
  refine bodyPost_ret (v := .agg #[.int .i64 mi, .int .i64 ma, .slice pa pool.length pc, .int .i64 ac, .int .i64 th, .int .i64 su, .slice fa fs.length fc, .slice ga ms.length gc]) (by simp [results, Tryz.results33, go_sem, r0, r1, r2, r3, r4, r5, r6, r7]) rfl ⟨_, rfl, ⟨_, _, _, rfl, ?_, ?_, ?_⟩, fun k hk e9 => by (have q1 := OMs.lt O2.out k hk; have q2 := OMs.ge O3.out k e9; omega), (by repeat' first | with_reducible exact Below.refl _ _ | with_reducible assumption | with_reducible refine belows_drewN ?_ _ | with_reducible refine Below.drew ?_ | with_reducible refine Below.setCell ?_ ?_ _ | with_reducible refine Below.alloc ?_ ?_ _ | omega | (simp; done) | (simp; omega))⟩
  · have hlt2 : w.heap.size < w.heap.size + 1 + 1 := by omega
    have hlt : w.heap.size + 1 < w.heap.size + 1 + 1 := by omega
    refine L3.own_mono (base := w.heap.size + 1 + 1) ?_ (by omega)
    (iterate 8 (refine Kit.owns_grown ?_ (L3.set_grown _ _ _ _) hlt))
    exact Kit.owns_grown O1c.out (L3.set_grown _ _ _ _) hlt2
  · have hlt2 : w.heap.size < w1.heap.size := by omega
    have hlt : w.heap.size + 1 < w1.heap.size := by omega
    refine OMs.mono (base := w1.heap.size) ?_ (by omega)
    (iterate 8 (refine OMs.grown ?_ (L3.set_grown _ _ _ _) hlt))
    exact O2c.out.grown (L3.set_grown _ _ _ _) hlt2
  · have hlt2 : w.heap.size < w2.heap.size := by omega
    have hlt : w.heap.size + 1 < w2.heap.size := by omega
    refine OMs.mono (base := w2.heap.size) ?_ (by omega)
    (iterate 8 (refine OMs.grown ?_ (L3.set_grown _ _ _ _) hlt))
    exact O3.out.grown (L3.set_grown _ _ _ _) hlt2
end Go.Proofs.YtjnjnfhboafcgaaGreatDoor
namespace Go.Proofs.YtjnjnfhboafcgaaGreatDoor
open Go.RowKit

/-- What lies below the builder's blocks reads as it did. -/
theorem isS_low {size lo pb : Nat} {w W X : World} {v : Value} {n : Nat} {xs : List Value} (h : Kit.IsS size w v n xs) (hl : w.heap.size = lo) (hb : Below w.heap.size w W) (k : Kx lo pb W X) : Kit.IsS size X v n xs := by
  obtain ⟨h1, h2, h3⟩ := h
  refine ⟨h1, h2, ?_⟩
  rcases h3 with h3 | ⟨b, o, cap, hv, hc, hlt, hx⟩
  · exact .inl h3
  · refine .inr ⟨b, o, cap, hv, hc, Nat.lt_of_lt_of_le hlt (Nat.le_trans hb.size k.1), fun i u hu => ?_⟩
    have e : X.heap[b]? = w.heap[b]? := (k.2 b (Nat.lt_of_lt_of_le hlt hb.size) (.inl (by omega))).trans (hb.block b hlt)
    exact (World.cell?_of_block e).trans (hx i u hu)
theorem Bd.start {w W : World} {pb cap : Nat} {a : Option Addr} {l : List L3.Cp.C} (hS : Kit.IsS 5 w (.slice a l.length cap) l.length (l.flatMap L3.cL)) (hz : PoolSz l) (hb : Below w.heap.size w W) (hx : L3.BX W pb #[.slice a l.length cap, .int .i64 0] 95) (hp : w.heap.size ≤ pb) : Bd W w.heap.size pb l 0 :=
  ⟨⟨_, hx, fun _ k => isS_low hS rfl hb k⟩, hz, hp⟩
theorem Bd.set {w : World} {lo pb : Nat} {l : List L3.Cp.C} {er : Int} (h : Bd w lo pb l er) {r : Nat} (h1 : lo ≤ r) (h2 : r < pb) (j : Nat) (u : Value) : Bd (w.setCell ⟨r, j, none⟩ u) lo pb l er := by
  obtain ⟨v, hx, hs⟩ := h.box
  exact ⟨⟨v, L3.BX.grown (show L3.BX w pb _ _ from hx) (L3.set_grown w r j u) (fun e => by have := Option.some.inj e; omega), fun X k => hs X (((Kx.refl _ _ _).set ⟨h1, by omega⟩ u).trans k)⟩, h.sz, h.lo⟩
theorem BX.al {w : World} {B : Nat} {cs : Array Value} {T : TypeId} (h : L3.BX w B cs T) (o : Obj) : L3.BX (w.alloc o) B cs T := h.below (n := w.heap.size) ((Below.refl _ _).alloc (Nat.le_refl _) _) h.sz
theorem put7 {W : World} {b : Nat} {cs : Array Value} {T : TypeId} (h : L3.BX W b cs T) (hs : cs.size = 7) (a0 a1 a2 a3 a4 a5 a6 : Value) :
    L3.BX (((((((W.setCell ⟨b, 0, none⟩ a0).setCell ⟨b, 1, none⟩ a1).setCell ⟨b, 2, none⟩ a2).setCell ⟨b, 3, none⟩ a3).setCell ⟨b, 4, none⟩ a4).setCell ⟨b, 5, none⟩ a5).setCell ⟨b, 6, none⟩ a6) b #[a0, a1, a2, a3, a4, a5, a6] T := by
  obtain ⟨L⟩ := cs
  match L, hs with
  | [_, _, _, _, _, _, _], _ =>
    have h9 := (((((((h.set 0 a0).set 1 a1).set 2 a2).set 3 a3).set 4 a4).set 5 a5).set 6 a6)
    simp only [List.setIfInBounds_toArray, List.set_cons_zero, List.set_cons_succ] at h9
    exact h9
theorem put8 {W : World} {b : Nat} {cs : Array Value} {T : TypeId} (h : L3.BX W b cs T) (hs : cs.size = 8) (a0 a1 a2 a3 a4 a5 a6 a7 : Value) :
    L3.BX ((((((((W.setCell ⟨b, 0, none⟩ a0).setCell ⟨b, 1, none⟩ a1).setCell ⟨b, 2, none⟩ a2).setCell ⟨b, 3, none⟩ a3).setCell ⟨b, 4, none⟩ a4).setCell ⟨b, 5, none⟩ a5).setCell ⟨b, 6, none⟩ a6).setCell ⟨b, 7, none⟩ a7) b #[a0, a1, a2, a3, a4, a5, a6, a7] T := by
  obtain ⟨L⟩ := cs
  match L, hs with
  | [_, _, _, _, _, _, _, _], _ =>
    have h9 := ((((((((h.set 0 a0).set 1 a1).set 2 a2).set 3 a3).set 4 a4).set 5 a5).set 6 a6).set 7 a7)
    simp only [List.setIfInBounds_toArray, List.set_cons_zero, List.set_cons_succ] at h9
    exact h9
theorem grown7 (W : World) (b : Nat) (a0 a1 a2 a3 a4 a5 a6 : Value) :
    W.grownBy (((((((W.setCell ⟨b, 0, none⟩ a0).setCell ⟨b, 1, none⟩ a1).setCell ⟨b, 2, none⟩ a2).setCell ⟨b, 3, none⟩ a3).setCell ⟨b, 4, none⟩ a4).setCell ⟨b, 5, none⟩ a5).setCell ⟨b, 6, none⟩ a6) (some b) :=
  L3.grown_trans (L3.grown_trans (L3.grown_trans (L3.grown_trans (L3.grown_trans (L3.grown_trans (L3.set_grown _ _ _ _) (L3.set_grown _ _ _ _)) (L3.set_grown _ _ _ _)) (L3.set_grown _ _ _ _)) (L3.set_grown _ _ _ _)) (L3.set_grown _ _ _ _)) (L3.set_grown _ _ _ _)
theorem grown8 (W : World) (b : Nat) (a0 a1 a2 a3 a4 a5 a6 a7 : Value) :
    W.grownBy ((((((((W.setCell ⟨b, 0, none⟩ a0).setCell ⟨b, 1, none⟩ a1).setCell ⟨b, 2, none⟩ a2).setCell ⟨b, 3, none⟩ a3).setCell ⟨b, 4, none⟩ a4).setCell ⟨b, 5, none⟩ a5).setCell ⟨b, 6, none⟩ a6).setCell ⟨b, 7, none⟩ a7) (some b) :=
  L3.grown_trans (grown7 W b a0 a1 a2 a3 a4 a5 a6) (L3.set_grown _ _ _ _)
theorem Bd.grown {w W : World} {lo pb r : Nat} {l : List L3.Cp.C} {er : Int} (h : Bd w lo pb l er) (hg : w.grownBy W (some r)) (h1 : lo ≤ r) (h2 : r < pb) : Bd W lo pb l er := by
  obtain ⟨v, hx, hs⟩ := h.box
  exact ⟨⟨v, L3.BX.grown (show L3.BX w pb _ _ from hx) hg (fun e => by have := Option.some.inj e; omega), fun X k => hs X ((Kx.grown hg h1 (by omega)).trans k)⟩, h.sz, h.lo⟩
/-- Five boxes, made one behind the other. -/
theorem five {w : World} {c0 c1 c2 c3 c4 : Array Value} {T0 T1 T2 T3 T4 : TypeId} {W : World} (h : W = ((((w.alloc (.cells c0 T0)).alloc (.cells c1 T1)).alloc (.cells c2 T2)).alloc (.cells c3 T3)).alloc (.cells c4 T4)) :
    L3.BX W w.heap.size c0 T0 ∧ L3.BX W (w.heap.size + 1) c1 T1 ∧ L3.BX W (w.heap.size + 1 + 1) c2 T2 ∧ L3.BX W (w.heap.size + 1 + 1 + 1) c3 T3 ∧ L3.BX W (w.heap.size + 1 + 1 + 1 + 1) c4 T4 ∧ W.heap.size = w.heap.size + 5 ∧ Below w.heap.size w W := by
  subst h
  have b0 := BX.al (BX.al (BX.al (BX.al (L3.BX.new w c0 T0) (.cells c1 T1)) (.cells c2 T2)) (.cells c3 T3)) (.cells c4 T4)
  have b1 := BX.al (BX.al (BX.al (L3.BX.new (w.alloc (.cells c0 T0)) c1 T1) (.cells c2 T2)) (.cells c3 T3)) (.cells c4 T4)
  have b2 := BX.al (BX.al (L3.BX.new ((w.alloc (.cells c0 T0)).alloc (.cells c1 T1)) c2 T2) (.cells c3 T3)) (.cells c4 T4)
  have b3 := BX.al (L3.BX.new (((w.alloc (.cells c0 T0)).alloc (.cells c1 T1)).alloc (.cells c2 T2)) c3 T3) (.cells c4 T4)
  have b4 := L3.BX.new ((((w.alloc (.cells c0 T0)).alloc (.cells c1 T1)).alloc (.cells c2 T2)).alloc (.cells c3 T3)) c4 T4
  simp only [World.size_alloc] at b1 b2 b3 b4
  exact ⟨b0, b1, b2, b3, b4, by simp only [World.size_alloc], (by repeat' first | with_reducible exact Below.refl _ _ | with_reducible assumption | with_reducible refine belows_drewN ?_ _ | with_reducible refine Below.drew ?_ | with_reducible refine Below.setCell ?_ ?_ _ | with_reducible refine Below.alloc ?_ ?_ _ | omega | (simp; done) | (simp; omega))⟩
end Go.Proofs.YtjnjnfhboafcgaaGreatDoor
namespace Go.Proofs.YtjnjnfhboafcgaaGreatDoor
open Go.RowKit

theorem bP5lt {W : World} {b : Nat} {cs : Array Value} {T : TypeId} (h : L3.BX W b cs T) : b < W.heap.size := h.sz
theorem OMb.ren {w : World} {base : Nat} {m : Cf.Mb} {cv hv : Value} (h : OMb w base (mL m cv hv) m) (a b : Int) : OMb w base (mL { m with nm := a, ds := b } cv hv) { m with nm := a, ds := b } := by
  obtain ⟨cv', hv', he, h⟩ := h
  obtain ⟨rfl, rfl⟩ : cv = cv' ∧ hv = hv' := by simpa [mL] using he
  exact ⟨_, _, rfl, h⟩
def NdPost (c : Cf.Cl) (m : Cf.Mb) (a b : ByteArray) (w : World) (e : Ending) (w' : World) : Prop :=
  ∃ l1 i1 e1 l2 i2 e2, AdS c.pool 0 ⟨1, a, 0, 0, 0⟩ l1 i1 e1 ∧ AdS l1 e1 ⟨1, b, 0, 0, 0⟩ l2 i2 e2 ∧
    ((e2 ≠ 0 ∧ e = .returned (.tuple #[K0V, mbV Cf.M0 (.slice none 0 0) (.slice none 0 0), .int .i64 e2])) ∨
      (e2 = 0 ∧ ∃ vs' cv' hv', e = .returned (.tuple #[.agg vs', mbV { m with nm := (i1 : Nat), ds := (i2 : Nat) } cv' hv', .int .i64 0]) ∧ OCl w' w.heap.size vs' { c with pool := l2 } ∧ OMb w' w.heap.size (mL { m with nm := (i1 : Nat), ds := (i2 : Nat) } cv' hv') { m with nm := (i1 : Nat), ds := (i2 : Nat) } ∧ PoolSz l2 ∧ ApV vs')) ∧
    Below w.heap.size w w'
set_option maxRecDepth 100000 in
set_option maxHeartbeats 4000000 in
theorem named_any (c : Cf.Cl) (vs : Array Value) (m : Cf.Mb) (cv hv : Value) (a b : ByteArray) (w : World) (ht : L3.Tabs w) (h : ClR w vs c) (hs : Cf.Szc c) (hz : PoolSz c.pool) (hB : L3.Bs w.heap.size w cv m.code) (hH : Kit.IsS 4 w hv m.hs.length (m.hs.flatMap hL))
    (hmc : m.code.length ≤ 140737488355328) (hmh : m.hs.length * 32 ≤ 140737488355328) (ha : a.size ≤ 140737488355328) (hb : b.size ≤ 140737488355328) :
    Calls Tryz.prog 65 #[.agg vs, mbV m cv hv, .string a, .string b] w (NdPost c m a b w) := by
  have HT := hid ht
  have HCm := hid (fun W (k : Below w.heap.size w W) => cloneMember_any m cv hv W ((hB.below k (Nat.le_refl _)).mono k.size) (hH.below k (Nat.le_refl _)) hmc hmh)
  obtain ⟨pv, fv, mv, rfl, hp, hf, hm⟩ := h
  obtain ⟨pa, pc, rfl⟩ := hp.len
  obtain ⟨fa, fc, rfl⟩ := hf.len
  obtain ⟨ma2, mc, rfl⟩ := hm.len
  obtain ⟨xa, xc, rfl⟩ := hB.len
  obtain ⟨ya, yc, rfl⟩ := hH.len
  have HIn := hid (And.intro hp (And.intro hf hm))
  have HSz := hid hs
  have HPz := hid hz
  have HAa := hid ha
  have HBb := hid hb
  obtain ⟨mi, ma, P, ac, th, su, fs, ms⟩ := c
  obtain ⟨mac, mnm, mds, mst, mlc, co, hs9⟩ := m
  unfold mbV at HCm ⊢
  dsimp only at HCm HIn HSz HPz ⊢
  clear ht hp hf hm hB hH hmc hmh ha hb hs hz
  go_enter Tryz.func65, Tryz.ntmps65
  go_wp2_with fail
  obtain ⟨W1, hW1⟩ : ∃ W1, W1 = (((((w.alloc (.cells #[.int .i64 mi, .int .i64 ma, .slice pa P.length pc, .int .i64 ac, .int .i64 th, .int .i64 su, .slice fa fs.length fc, .slice ma2 ms.length mc] 26)).alloc (.cells #[.int .i64 mac, .int .i64 mnm, .int .i64 mds, .int .i64 mst, .int .i64 mlc, .slice xa co.length xc, .slice ya hs9.length yc] 42)).alloc (.cells #[.int .i64 0, .int .i64 0, .slice none 0 0, .int .i64 0, .int .i64 0, .int .i64 0, .slice none 0 0, .slice none 0 0] 26)).alloc (.cells #[.int .i64 0, .int .i64 0, .int .i64 0, .int .i64 0, .int .i64 0, .slice none 0 0, .slice none 0 0] 42)).alloc (.cells #[.slice pa P.length pc, .int .i64 0] 95)) := ⟨_, rfl⟩
  obtain ⟨bC, bM, bR, bS, bP, hzW, B1⟩ := five hW1
  rw [← hW1]
  have hBd := Bd.start HIn.out.1 HPz.out B1 bP (by omega)
  have HB1 := hid B1
  have HBd1 := hid hBd
  have BC1 := hid bC
  have BM1 := hid bM
  have BR1 := hid bR
  have BS1 := hid bS
  have HT1 := hid (HT.out.below B1 HT.out.size)
  clear hW1 bC bM bR bS bP hBd B1
  go_wp2_with (first | (go_at_call 78; refine (HCm.out _ HB1.out).mono ?_; rintro e w2 ⟨cv2, hv2, rfl, oM, hb2⟩; obtain ⟨cv3, hv3, he3, oc, oh, hl1, hl2⟩ := oM; obtain ⟨rfl, rfl⟩ : cv2 = cv3 ∧ hv2 = hv3 := (by simpa [mL] using he3); obtain ⟨xa2, xc2, rfl⟩ := L3.own_form oc; obtain ⟨ya2, yc2, rfl⟩ := L3.own_form oh; have OM2 := hid (show OMb w2 W1.heap.size (mL ⟨mac, mnm, mds, mst, mlc, co, hs9⟩ (.slice xa2 co.length xc2) (.slice ya2 hs9.length yc2)) ⟨mac, mnm, mds, mst, mlc, co, hs9⟩ from ⟨_, _, rfl, oc, oh, hl1, hl2⟩); have HB2 := hid hb2; have bM := BM1.out.below hb2 BM1.out.sz; have m0 := bM.cell 0; have fm0 := bM.frozen 0; have m1 := bM.cell 1; have fm1 := bM.frozen 1; have m2 := bM.cell 2; have fm2 := bM.frozen 2; have m3 := bM.cell 3; have fm3 := bM.frozen 3; have m4 := bM.cell 4; have fm4 := bM.frozen 4; have m5 := bM.cell 5; have fm5 := bM.frozen 5; have m6 := bM.cell 6; have fm6 := bM.frozen 6; simp at m0 m1 m2 m3 m4 m5 m6; clear bM hb2 oc oh he3) | (go_at_call 69; have _g := HB2; (fail_if_success (have _g := HS1)); have g2 := grown7 w2 (w.heap.size + 1) (.int .i64 mac) (.int .i64 mnm) (.int .i64 mds) (.int .i64 mst) (.int .i64 mlc) (.slice xa2 co.length xc2) (.slice ya2 hs9.length yc2); have bM := put7 (BM1.out.below HB2.out BM1.out.sz) rfl (.int .i64 mac) (.int .i64 mnm) (.int .i64 mds) (.int .i64 mst) (.int .i64 mlc) (.slice xa2 co.length xc2) (.slice ya2 hs9.length yc2); obtain ⟨W2, hW2⟩ : ∃ W, W = (((((((w2.setCell ⟨w.heap.size + 1, 0, none⟩ (.int .i64 mac)).setCell ⟨w.heap.size + 1, 1, none⟩ (.int .i64 mnm)).setCell ⟨w.heap.size + 1, 2, none⟩ (.int .i64 mds)).setCell ⟨w.heap.size + 1, 3, none⟩ (.int .i64 mst)).setCell ⟨w.heap.size + 1, 4, none⟩ (.int .i64 mlc)).setCell ⟨w.heap.size + 1, 5, none⟩ (.slice xa2 co.length xc2)).setCell ⟨w.heap.size + 1, 6, none⟩ (.slice ya2 hs9.length yc2)) := ⟨_, rfl⟩; rw [← hW2] at g2 bM ⊢; have bC := (BC1.out.below HB2.out BC1.out.sz).grown g2 (fun e => by (have := Option.some.inj e; omega)); have bR := (BR1.out.below HB2.out BR1.out.sz).grown g2 (fun e => by (have := Option.some.inj e; omega)); have bS := (BS1.out.below HB2.out BS1.out.sz).grown g2 (fun e => by (have := Option.some.inj e; omega)); have hBd := (HBd1.out.below HB2.out).grown g2 (by omega) (by omega); have oM := OM2.out.grown g2 (by omega); have B2 : Below w.heap.size w W2 := nwB (belows HB1.out HB2.out HB1.out.size) g2 ⟨by omega, by (have := HB1.out.size; have := HB2.out.size; omega)⟩; refine (btext_any w.heap.size (w.heap.size + 1 + 1 + 1 + 1) P 0 a W2 (HT.out.below B2 HT.out.size) hBd HAa.out).mono ?_; rintro e w3 ⟨l1, i1, e1, hS1, rfl, hg3, hB3⟩; have HS1 := hid hS1; have HBd3 := hid hB3; have bC := bC.grown hg3 (fun e => by (have := Option.some.inj e; omega)); have bM := bM.grown hg3 (fun e => by (have := Option.some.inj e; omega)); have bR := bR.grown hg3 (fun e => by (have := Option.some.inj e; omega)); have bS := bS.grown hg3 (fun e => by (have := Option.some.inj e; omega)); have oM := oM.grown hg3 (by omega); have B3 : Below w.heap.size w w3 := nwB B2 hg3 ⟨by omega, B2.size⟩; have HB3 := hid B3; have BC3 := hid bC; have BM3 := hid bM; have BR3 := hid bR; have BS3 := hid bS; have OM3 := hid oM; clear m0 m1 m2 m3 m4 m5 m6 fm0 fm1 fm2 fm3 fm4 fm5 fm6; have m1 := bM.cell 1; have fm1 := bM.frozen 1; simp at m1; clear hW2 g2 bM bC bR bS hBd oM B2 B3 hS1 hg3 hB3) | (go_at_call 69; have _g := HS1; (fail_if_success (have _g := HS2)); have g2 := L3.set_grown w3 (w.heap.size + 1) 1 (.int .i64 (i1 : Nat)); have bM := BM3.out.set 1 (.int .i64 (i1 : Nat)); obtain ⟨W2, hW2⟩ : ∃ W, W = w3.setCell ⟨w.heap.size + 1, 1, none⟩ (.int .i64 (i1 : Nat)) := ⟨_, rfl⟩; rw [← hW2] at g2 bM ⊢; have bC := BC3.out.grown g2 (fun e => by (have := Option.some.inj e; omega)); have bR := BR3.out.grown g2 (fun e => by (have := Option.some.inj e; omega)); have bS := BS3.out.grown g2 (fun e => by (have := Option.some.inj e; omega)); have hBd := HBd3.out.grown g2 (by omega) (by omega); have oM := OM3.out.grown g2 (by omega); have B2 : Below w.heap.size w W2 := nwB HB3.out g2 ⟨by omega, HB3.out.size⟩; refine (btext_any w.heap.size (w.heap.size + 1 + 1 + 1 + 1) l1 e1 b W2 (HT.out.below B2 HT.out.size) hBd HBb.out).mono ?_; rintro e w4 ⟨l2, i2, e2, hS2, rfl, hg4, hB4⟩; have HS2 := hid hS2; have HBd4 := hid hB4; have bC := bC.grown hg4 (fun e => by (have := Option.some.inj e; omega)); have bM := bM.grown hg4 (fun e => by (have := Option.some.inj e; omega)); have bR := bR.grown hg4 (fun e => by (have := Option.some.inj e; omega)); have bS := bS.grown hg4 (fun e => by (have := Option.some.inj e; omega)); have oM := oM.grown hg4 (by omega); have B4 : Below w.heap.size w w4 := nwB B2 hg4 ⟨by omega, B2.size⟩; have HB4 := hid B4; have BC4 := hid bC; have BM4 := hid bM; have BR4 := hid bR; have BS4 := hid bS; have OM4 := hid oM; clear m1 fm1; have m2 := bM.cell 2; have fm2 := bM.frozen 2; simp at m2; obtain ⟨ba, bcap, d0, d1, hSt⟩ := bd_cells hB4; have HSt := hid hSt; clear hSt; have c2 := bC.cell 2; have fc2 := bC.frozen 2; simp at c2; clear hW2 g2 bM bC bR bS hBd oM B2 B4 hS2 hg4 hB4; by_cases hz : e2 = 0; all_goals (first | subst hz | (have hdd : (e2 != 0) = true := (by simpa using hz); have HZ := hid hz; clear hz))))
  · have g5 := L3.set_grown w4 (w.heap.size + 1) 2 (.int .i64 (i2 : Nat))
    have g6 := L3.set_grown (w4.setCell ⟨w.heap.size + 1, 2, none⟩ (.int .i64 (i2 : Nat))) w.heap.size 2 (.slice ba l2.length bcap)
    have bC := (BC4.out.grown g5 (fun e => by (have := Option.some.inj e; omega))).set 2 (.slice ba l2.length bcap)
    have bM := (BM4.out.set 2 (.int .i64 (i2 : Nat))).grown g6 (fun e => by (have := Option.some.inj e; omega))
    have bR := (BR4.out.grown g5 (fun e => by (have := Option.some.inj e; omega))).grown g6 (fun e => by (have := Option.some.inj e; omega))
    have bS := (BS4.out.grown g5 (fun e => by (have := Option.some.inj e; omega))).grown g6 (fun e => by (have := Option.some.inj e; omega))
    have oM := (OM4.out.grown g5 (by omega)).grown g6 (by omega)
    have B5 : Below w.heap.size w ((w4.setCell ⟨w.heap.size + 1, 2, none⟩ (.int .i64 (i2 : Nat))).setCell ⟨w.heap.size, 2, none⟩ (.slice ba l2.length bcap)) := nwB (nwB HB4.out g5 ⟨by omega, HB4.out.size⟩) g6 ⟨Nat.le_refl _, by rw [World.size_setCell]; exact HB4.out.size⟩
    have hP5 := HSt.out _ (((Kx.refl w.heap.size (w.heap.size + 1 + 1 + 1 + 1) w4).set ⟨by omega, by omega⟩ (.int .i64 (i2 : Nat)) (r := w.heap.size + 1) (j := 2)).set ⟨Nat.le_refl _, by omega⟩ (.slice ba l2.length bcap) (r := w.heap.size) (j := 2))
    obtain ⟨W5, hW5⟩ : ∃ W, W = (w4.setCell ⟨w.heap.size + 1, 2, none⟩ (.int .i64 (i2 : Nat))).setCell ⟨w.heap.size, 2, none⟩ (.slice ba l2.length bcap) := ⟨_, rfl⟩
    rw [← hW5] at bC bM bR bS oM B5 hP5 ⊢
    simp only [List.setIfInBounds_toArray, List.set_cons_zero, List.set_cons_succ] at bC bM
    have HR5 := hid (show ClR W5 #[.int .i64 mi, .int .i64 ma, .slice ba l2.length bcap, .int .i64 ac, .int .i64 th, .int .i64 su, .slice fa fs.length fc, .slice ma2 ms.length mc] ⟨mi, ma, l2, ac, th, su, fs, ms⟩ from ⟨_, _, _, rfl, hP5, HIn.out.2.1.below B5 (Nat.le_refl _), HIn.out.2.2.below B5 (Nat.le_refl _)⟩)
    have HSz5 := hid (show Cf.Szc ⟨mi, ma, l2, ac, th, su, fs, ms⟩ from ⟨HBd4.out.sz.1, HSz.out.2⟩)
    have HCl := hid (fun W (k : Below W5.heap.size W5 W) => clone_any ⟨mi, ma, l2, ac, th, su, fs, ms⟩ _ W (HR5.out.below k (Nat.le_refl _)) HSz5.out)
    have cfC := fun (u : Value) (w : World) => (show (callFunc 33 #[u]).run Tryz.prog w = .ok (.enter 33 #[u]) w by kernel_rfl)
    have BM5 := hid bM
    have BR5 := hid bR
    have BS5 := hid bS
    have OM5 := hid oM
    have HB5 := hid B5
    have hzb5 := bP5lt bS
    have c0 := bC.cell 0; have c1 := bC.cell 1; have c2 := bC.cell 2; have c3 := bC.cell 3; have c4 := bC.cell 4; have c5 := bC.cell 5; have c6 := bC.cell 6; have c7 := bC.cell 7; simp at c0 c1 c2 c3 c4 c5 c6 c7
    have n0 := bM.cell 0; have n1 := bM.cell 1; have n2 := bM.cell 2; have n3 := bM.cell 3; have n4 := bM.cell 4; have n5 := bM.cell 5; have n6 := bM.cell 6; simp at n0 n1 n2 n3 n4 n5 n6
    clear hW5 bC bM bR bS oM B5 hP5 g5 g6 d0 d1 m2 fm2
    go_region_law (refine Kit.step_call1 rfl 33 (.tmp 33) 26 rfl _ rfl (cfC _ _) _ (HCl.out _ (by repeat' first | with_reducible exact Below.refl _ _ | with_reducible assumption | with_reducible refine belows_drewN ?_ _ | with_reducible refine Below.drew ?_ | with_reducible refine Below.setCell ?_ ?_ _ | with_reducible refine Below.alloc ?_ ?_ _ | omega | (simp; done) | (simp; omega))) ?_; rintro e w9 ⟨vs9, rfl, oC, hap, hb9⟩; refine ⟨_, rfl, ?_⟩; have B9 : Below W5.heap.size W5 w9 := (by first | exact hb9 | exact below_undrew hb9); have oC := hid (oC.mono (base' := W5.heap.size) (by simp)); obtain ⟨pv9, fv9, mv9, rfl, o1, o2, o3⟩ := oC.out; obtain ⟨pa9, pc9, rfl⟩ := L3.own_form o1; obtain ⟨fa9, fc9, rfl⟩ := OMs.form o2; obtain ⟨ma9, mc9, rfl⟩ := OMs.form o3; clear o1 o2 o3; have bM9 := BM5.out.below B9 BM5.out.sz; have bR9 := BR5.out.below B9 BR5.out.sz; have bS9 := BS5.out.below B9 BS5.out.sz; clear n0 n1 n2 n3 n4 n5 n6; have n0 := bM9.cell 0; have n1 := bM9.cell 1; have n2 := bM9.cell 2; have n3 := bM9.cell 3; have n4 := bM9.cell 4; have n5 := bM9.cell 5; have n6 := bM9.cell 6; simp at n0 n1 n2 n3 n4 n5 n6; have r0 := bR9.cell 0; have fr0 := bR9.frozen 0; have r1 := bR9.cell 1; have fr1 := bR9.frozen 1; have r2 := bR9.cell 2; have fr2 := bR9.frozen 2; have r3 := bR9.cell 3; have fr3 := bR9.frozen 3; have r4 := bR9.cell 4; have fr4 := bR9.frozen 4; have r5 := bR9.cell 5; have fr5 := bR9.frozen 5; have r6 := bR9.cell 6; have fr6 := bR9.frozen 6; have r7 := bR9.cell 7; have fr7 := bR9.frozen 7; simp at r0 r1 r2 r3 r4 r5 r6 r7; have s0 := bS9.cell 0; have fs0 := bS9.frozen 0; have s1 := bS9.cell 1; have fs1 := bS9.frozen 1; have s2 := bS9.cell 2; have fs2 := bS9.frozen 2; have s3 := bS9.cell 3; have fs3 := bS9.frozen 3; have s4 := bS9.cell 4; have fs4 := bS9.frozen 4; have s5 := bS9.cell 5; have fs5 := bS9.frozen 5; have s6 := bS9.cell 6; have fs6 := bS9.frozen 6; simp at s0 s1 s2 s3 s4 s5 s6)
    all_goals
      have g8 := grown8 w9 (w.heap.size + 1 + 1) (.int .i64 mi) (.int .i64 ma) (.slice pa9 l2.length pc9) (.int .i64 ac) (.int .i64 th) (.int .i64 su) (.slice fa9 fs.length fc9) (.slice ma9 ms.length mc9)
      have g7 := grown7 ((((((((w9.setCell ⟨w.heap.size + 1 + 1, 0, none⟩ (.int .i64 mi)).setCell ⟨w.heap.size + 1 + 1, 1, none⟩ (.int .i64 ma)).setCell ⟨w.heap.size + 1 + 1, 2, none⟩ (.slice pa9 l2.length pc9)).setCell ⟨w.heap.size + 1 + 1, 3, none⟩ (.int .i64 ac)).setCell ⟨w.heap.size + 1 + 1, 4, none⟩ (.int .i64 th)).setCell ⟨w.heap.size + 1 + 1, 5, none⟩ (.int .i64 su)).setCell ⟨w.heap.size + 1 + 1, 6, none⟩ (.slice fa9 fs.length fc9)).setCell ⟨w.heap.size + 1 + 1, 7, none⟩ (.slice ma9 ms.length mc9)) (w.heap.size + 1 + 1 + 1) (.int .i64 mac) (.int .i64 (i1 : Nat)) (.int .i64 (i2 : Nat)) (.int .i64 mst) (.int .i64 mlc) (.slice xa2 co.length xc2) (.slice ya2 hs9.length yc2)
      have bR := (put8 bR9 rfl (.int .i64 mi) (.int .i64 ma) (.slice pa9 l2.length pc9) (.int .i64 ac) (.int .i64 th) (.int .i64 su) (.slice fa9 fs.length fc9) (.slice ma9 ms.length mc9)).grown g7 (fun e => by (have := Option.some.inj e; omega))
      have bS := put7 (bS9.grown g8 (fun e => by (have := Option.some.inj e; omega))) rfl (.int .i64 mac) (.int .i64 (i1 : Nat)) (.int .i64 (i2 : Nat)) (.int .i64 mst) (.int .i64 mlc) (.slice xa2 co.length xc2) (.slice ya2 hs9.length yc2)
      have oC := ((oC.out.grown g8 (by omega)).grown g7 (by omega)).mono (base' := w.heap.size) (by omega)
      have oM := ((((OM5.out.below B9 (Nat.le_refl _)).grown g8 (by omega)).grown g7 (by omega)).mono (base' := w.heap.size) (by omega)).ren (i1 : Nat) (i2 : Nat)
      have B10 := nwB (nwB (belows HB5.out B9 HB5.out.size) g8 ⟨by omega, by (have := HB5.out.size; have := B9.size; omega)⟩) g7 ⟨by omega, by (have := HB5.out.size; have := B9.size; have := g8.size; omega)⟩
      clear r0 r1 r2 r3 r4 r5 r6 r7 s0 s1 s2 s3 s4 s5 s6 n0 n1 n2 n3 n4 n5 n6 fr0 fr1 fr2 fr3 fr4 fr5 fr6 fr7 fs0 fs1 fs2 fs3 fs4 fs5 fs6
      obtain ⟨W10, hW10⟩ : ∃ W, W = (((((((((((((((w9.setCell ⟨w.heap.size + 1 + 1, 0, none⟩ (.int .i64 mi)).setCell ⟨w.heap.size + 1 + 1, 1, none⟩ (.int .i64 ma)).setCell ⟨w.heap.size + 1 + 1, 2, none⟩ (.slice pa9 l2.length pc9)).setCell ⟨w.heap.size + 1 + 1, 3, none⟩ (.int .i64 ac)).setCell ⟨w.heap.size + 1 + 1, 4, none⟩ (.int .i64 th)).setCell ⟨w.heap.size + 1 + 1, 5, none⟩ (.int .i64 su)).setCell ⟨w.heap.size + 1 + 1, 6, none⟩ (.slice fa9 fs.length fc9)).setCell ⟨w.heap.size + 1 + 1, 7, none⟩ (.slice ma9 ms.length mc9)).setCell ⟨w.heap.size + 1 + 1 + 1, 0, none⟩ (.int .i64 mac)).setCell ⟨w.heap.size + 1 + 1 + 1, 1, none⟩ (.int .i64 (i1 : Nat))).setCell ⟨w.heap.size + 1 + 1 + 1, 2, none⟩ (.int .i64 (i2 : Nat))).setCell ⟨w.heap.size + 1 + 1 + 1, 3, none⟩ (.int .i64 mst)).setCell ⟨w.heap.size + 1 + 1 + 1, 4, none⟩ (.int .i64 mlc)).setCell ⟨w.heap.size + 1 + 1 + 1, 5, none⟩ (.slice xa2 co.length xc2)).setCell ⟨w.heap.size + 1 + 1 + 1, 6, none⟩ (.slice ya2 hs9.length yc2)) := ⟨_, rfl⟩
      rw [← hW10] at bR bS oC oM B10 ⊢
      clear hW10 g8 g7
      have r0 := bR.cell 0; have r1 := bR.cell 1; have r2 := bR.cell 2; have r3 := bR.cell 3; have r4 := bR.cell 4; have r5 := bR.cell 5; have r6 := bR.cell 6; have r7 := bR.cell 7; simp at r0 r1 r2 r3 r4 r5 r6 r7
      have s0 := bS.cell 0; have s1 := bS.cell 1; have s2 := bS.cell 2; have s3 := bS.cell 3; have s4 := bS.cell 4; have s5 := bS.cell 5; have s6 := bS.cell 6; simp at s0 s1 s2 s3 s4 s5 s6
      go_wp2
      exact bodyPost_ret (v := .tuple #[.agg #[.int .i64 mi, .int .i64 ma, .slice pa9 l2.length pc9, .int .i64 ac, .int .i64 th, .int .i64 su, .slice fa9 fs.length fc9, .slice ma9 ms.length mc9], .agg #[.int .i64 mac, .int .i64 (i1 : Nat), .int .i64 (i2 : Nat), .int .i64 mst, .int .i64 mlc, .slice xa2 co.length xc2, .slice ya2 hs9.length yc2], .int .i64 0]) (by simp [results, Tryz.results65, go_sem, r0, r1, r2, r3, r4, r5, r6, r7, s0, s1, s2, s3, s4, s5, s6]) rfl (by unfold NdPost; exact ⟨l1, i1, e1, l2, i2, 0, HS1.out, HS2.out,   .inr ⟨rfl, _, _, _, rfl, oC, oM, HBd4.out.sz, hap⟩, B10⟩)
  · have g5 := L3.set_grown w4 (w.heap.size + 1) 2 (.int .i64 (i2 : Nat))
    have bR := BR4.out.grown g5 (fun e => by (have := Option.some.inj e; omega))
    have bS := BS4.out.grown g5 (fun e => by (have := Option.some.inj e; omega))
    have B5 : Below w.heap.size w (w4.setCell ⟨w.heap.size + 1, 2, none⟩ (.int .i64 (i2 : Nat))) := nwB HB4.out g5 ⟨by omega, HB4.out.size⟩
    have d15 := (World.cell?_of_block (a := ⟨w.heap.size + 1 + 1 + 1 + 1, 1, none⟩) (g5.block (w.heap.size + 1 + 1 + 1 + 1) HBd4.out.lt (fun e => by (have := Option.some.inj e; omega)))).trans d1
    obtain ⟨W5, hW5⟩ : ∃ W, W = w4.setCell ⟨w.heap.size + 1, 2, none⟩ (.int .i64 (i2 : Nat)) := ⟨_, rfl⟩
    rw [← hW5] at bR bS B5 d15 ⊢
    have r0 := bR.cell 0; have fr0 := bR.frozen 0; have r1 := bR.cell 1; have fr1 := bR.frozen 1; have r2 := bR.cell 2; have fr2 := bR.frozen 2; have r3 := bR.cell 3; have fr3 := bR.frozen 3; have r4 := bR.cell 4; have fr4 := bR.frozen 4; have r5 := bR.cell 5; have fr5 := bR.frozen 5; have r6 := bR.cell 6; have fr6 := bR.frozen 6; have r7 := bR.cell 7; have fr7 := bR.frozen 7; simp at r0 r1 r2 r3 r4 r5 r6 r7
    have s0 := bS.cell 0; have fs0 := bS.frozen 0; have s1 := bS.cell 1; have fs1 := bS.frozen 1; have s2 := bS.cell 2; have fs2 := bS.frozen 2; have s3 := bS.cell 3; have fs3 := bS.frozen 3; have s4 := bS.cell 4; have fs4 := bS.frozen 4; have s5 := bS.cell 5; have fs5 := bS.frozen 5; have s6 := bS.cell 6; have fs6 := bS.frozen 6; simp at s0 s1 s2 s3 s4 s5 s6
    clear hW5 g5 d0 d1 m2 fm2
    go_region
    all_goals
      have g8 := grown8 W5 (w.heap.size + 1 + 1) (.int .i64 0) (.int .i64 0) (.slice none 0 0) (.int .i64 0) (.int .i64 0) (.int .i64 0) (.slice none 0 0) (.slice none 0 0)
      have g7 := grown7 ((((((((W5.setCell ⟨w.heap.size + 1 + 1, 0, none⟩ (.int .i64 0)).setCell ⟨w.heap.size + 1 + 1, 1, none⟩ (.int .i64 0)).setCell ⟨w.heap.size + 1 + 1, 2, none⟩ (.slice none 0 0)).setCell ⟨w.heap.size + 1 + 1, 3, none⟩ (.int .i64 0)).setCell ⟨w.heap.size + 1 + 1, 4, none⟩ (.int .i64 0)).setCell ⟨w.heap.size + 1 + 1, 5, none⟩ (.int .i64 0)).setCell ⟨w.heap.size + 1 + 1, 6, none⟩ (.slice none 0 0)).setCell ⟨w.heap.size + 1 + 1, 7, none⟩ (.slice none 0 0)) (w.heap.size + 1 + 1 + 1) (.int .i64 0) (.int .i64 0) (.int .i64 0) (.int .i64 0) (.int .i64 0) (.slice none 0 0) (.slice none 0 0)
      have bR := (put8 bR rfl (.int .i64 0) (.int .i64 0) (.slice none 0 0) (.int .i64 0) (.int .i64 0) (.int .i64 0) (.slice none 0 0) (.slice none 0 0)).grown g7 (fun e => by (have := Option.some.inj e; omega))
      have bS := put7 (bS.grown g8 (fun e => by (have := Option.some.inj e; omega))) rfl (.int .i64 0) (.int .i64 0) (.int .i64 0) (.int .i64 0) (.int .i64 0) (.slice none 0 0) (.slice none 0 0)
      have B10 := nwB (nwB B5 g8 ⟨by omega, B5.size⟩) g7 ⟨by omega, by (have := B5.size; have := g8.size; omega)⟩
      clear r0 r1 r2 r3 r4 r5 r6 r7 s0 s1 s2 s3 s4 s5 s6 fr0 fr1 fr2 fr3 fr4 fr5 fr6 fr7 fs0 fs1 fs2 fs3 fs4 fs5 fs6
      obtain ⟨W10, hW10⟩ : ∃ W, W = (((((((((((((((W5.setCell ⟨w.heap.size + 1 + 1, 0, none⟩ (.int .i64 0)).setCell ⟨w.heap.size + 1 + 1, 1, none⟩ (.int .i64 0)).setCell ⟨w.heap.size + 1 + 1, 2, none⟩ (.slice none 0 0)).setCell ⟨w.heap.size + 1 + 1, 3, none⟩ (.int .i64 0)).setCell ⟨w.heap.size + 1 + 1, 4, none⟩ (.int .i64 0)).setCell ⟨w.heap.size + 1 + 1, 5, none⟩ (.int .i64 0)).setCell ⟨w.heap.size + 1 + 1, 6, none⟩ (.slice none 0 0)).setCell ⟨w.heap.size + 1 + 1, 7, none⟩ (.slice none 0 0)).setCell ⟨w.heap.size + 1 + 1 + 1, 0, none⟩ (.int .i64 0)).setCell ⟨w.heap.size + 1 + 1 + 1, 1, none⟩ (.int .i64 0)).setCell ⟨w.heap.size + 1 + 1 + 1, 2, none⟩ (.int .i64 0)).setCell ⟨w.heap.size + 1 + 1 + 1, 3, none⟩ (.int .i64 0)).setCell ⟨w.heap.size + 1 + 1 + 1, 4, none⟩ (.int .i64 0)).setCell ⟨w.heap.size + 1 + 1 + 1, 5, none⟩ (.slice none 0 0)).setCell ⟨w.heap.size + 1 + 1 + 1, 6, none⟩ (.slice none 0 0)) := ⟨_, rfl⟩
      rw [← hW10] at bR bS B10 ⊢
      clear hW10 g8 g7
      have r0 := bR.cell 0; have r1 := bR.cell 1; have r2 := bR.cell 2; have r3 := bR.cell 3; have r4 := bR.cell 4; have r5 := bR.cell 5; have r6 := bR.cell 6; have r7 := bR.cell 7; simp at r0 r1 r2 r3 r4 r5 r6 r7
      have s0 := bS.cell 0; have s1 := bS.cell 1; have s2 := bS.cell 2; have s3 := bS.cell 3; have s4 := bS.cell 4; have s5 := bS.cell 5; have s6 := bS.cell 6; simp at s0 s1 s2 s3 s4 s5 s6
      go_wp2
      exact bodyPost_ret (v := .tuple #[.agg #[.int .i64 0, .int .i64 0, .slice none 0 0, .int .i64 0, .int .i64 0, .int .i64 0, .slice none 0 0, .slice none 0 0], .agg #[.int .i64 0, .int .i64 0, .int .i64 0, .int .i64 0, .int .i64 0, .slice none 0 0, .slice none 0 0], .int .i64 e2]) (by simp [results, Tryz.results65, go_sem, r0, r1, r2, r3, r4, r5, r6, r7, s0, s1, s2, s3, s4, s5, s6]) rfl (by unfold NdPost; exact ⟨l1, i1, e1, l2, i2, e2, HS1.out, HS2.out, .inl ⟨HZ.out, rfl⟩, (by repeat' first | with_reducible exact Below.refl _ _ | with_reducible assumption | with_reducible refine belows_drewN ?_ _ | with_reducible refine Below.drew ?_ | with_reducible refine Below.setCell ?_ ?_ _ | with_reducible refine Below.alloc ?_ ?_ _ | omega | (simp; done) | (simp; omega))⟩)
end Go.Proofs.YtjnjnfhboafcgaaGreatDoor

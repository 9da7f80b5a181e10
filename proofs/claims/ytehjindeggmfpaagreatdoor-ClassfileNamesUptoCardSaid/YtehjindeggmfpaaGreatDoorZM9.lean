/- Own texts for the claim, part 9. -/
import Derived.Test.YtehjindeggmfpaaGreatDoorZM8
namespace Go.Proofs.YtehjindeggmfpaaGreatDoor.L2
open Go.RowKit

theorem tyC_len (y : Ds.Ty) : (tyC y).length = 2 := rfl
theorem ty_at {w : World} {v : Value} {l : List Ds.Ty} (h : Kit.IsS 2 w v l.length (l.flatMap tyC)) {k : Nat} {x : Ds.Ty} (hx : l[k]? = some x) :
    ∃ b o cap, v = .slice (some ⟨b, o, none⟩) l.length cap ∧ b < w.heap.size ∧ w.cell? ⟨b, o + k * 2, none⟩ = some (.int .i64 x.1) ∧ w.cell? ⟨b, o + k * 2 + 1, none⟩ = some (.string ⟨x.2.toArray⟩) := by
  have hk : k < l.length := by rw [List.getElem?_eq_some_iff] at hx; exact hx.1
  obtain ⟨b, o, cap, hv, -, hlt, hc⟩ := h.some (by omega)
  have f := fun j hj => Kit.flat_at tyC_len hx j hj
  refine ⟨b, o, cap, hv, hlt, ?_, ?_⟩
  · exact hc (k * 2 + 0) _ (f 0 (by omega))
  · exact hc (k * 2 + 1) _ (f 1 (by omega))
def longs (l : List Ds.Ty) : Nat := (l.filter fun y => y.1 == 2).length
theorem longs_le (l : List Ds.Ty) : longs l ≤ l.length := List.length_filter_le _ _
theorem longs_step {l : List Ds.Ty} {k : Nat} {x : Ds.Ty} (h : l[k]? = some x) : longs (l.take (k + 1)) = longs (l.take k) + if x.1 == 2 then 1 else 0 := by
  unfold longs
  rw [List.take_add_one, h, List.filter_append, List.length_append]
  congr 1
  simp only [Option.toList_some, List.filter_cons, List.filter_nil]
  split <;> rfl
def slotsOf (l : List Ds.Ty) : Int := l.length + longs l
set_option maxRecDepth 100000 in
set_option maxHeartbeats 400000 in
theorem slots_any (l : List Ds.Ty) (v : Value) (w : World) (hv : Kit.IsS 2 w v l.length (l.flatMap tyC)) :
    Calls Tryz.prog 152 #[v] w fun e w' => e = .returned (.int .i64 (slotsOf l)) ∧ Below w.heap.size w w' := by
  have HV := hid hv
  obtain ⟨a, cap, hv2⟩ := hv.len
  subst hv2
  have hlen := hv.2.1
  clear hv
  go_enter Tryz.func152, Tryz.ntmps152
  go_wp2
  go_loopw [3, 10] (fun n i wr => ∃ k : Nat, k ≤ l.length ∧ i = .int .i64 k ∧ n = .int .i64 ((l.length : Int) + longs (l.take k)) ∧ Below w.heap.size w wr) (fun _ i _ => l.length - (intOf i).toNat)
  case atStart => exact ⟨0, by omega, rfl, rfl, (by repeat' first | with_reducible exact Below.refl _ _ | with_reducible assumption | with_reducible refine belows_drewN ?_ _ | with_reducible refine Below.drew ?_ | with_reducible refine Below.setCell ?_ ?_ _ | with_reducible refine Below.alloc ?_ ?_ _ | omega | (simp; done) | (simp; omega))⟩
  case round =>
    obtain ⟨k, hk, rfl, rfl, hbl⟩ := hrel
    have hbz := hbl.size
    by_cases hlt : k < l.length
    · obtain ⟨x, hx⟩ : ∃ x, l[k]? = some x := ⟨l[k], List.getElem?_eq_getElem hlt⟩
      obtain ⟨b, o, cap', hv, hb, c0, c1⟩ := ty_at (HV.out.below hbl (Nat.le_refl _)) hx
      obtain ⟨rfl, -, rfl⟩ := Value.slice.inj hv
      have HStep := hid (longs_step hx)
      have hlg := longs_le (l.take k)
      rw [List.length_take] at hlg
      obtain ⟨c, hc⟩ : ∃ c, c = longs (l.take k) := ⟨_, rfl⟩
      rw [← hc] at hlg HStep ⊢
      obtain ⟨xk, xm⟩ := x
      dsimp only at c0 c1 HStep
      have hlt' : (k : Int) < l.length := by omega
      clear hx hv hc
      by_cases h2 : xk = 2
      · subst h2
        have HS := hid (show longs (l.take (k + 1)) = c + 1 from HStep.out)
        clear HStep
        go_wp2
        go_roundw
        case rel => exact ⟨k + 1, by omega, by go_num, by rw [HS.out]; go_num, (by repeat' first | with_reducible exact Below.refl _ _ | with_reducible assumption | with_reducible refine belows_drewN ?_ _ | with_reducible refine Below.drew ?_ | with_reducible refine Below.setCell ?_ ?_ _ | with_reducible refine Below.alloc ?_ ?_ _ | omega | (simp; done) | (simp; omega))⟩
        case measure => simp [intOf]; omega
      · have h2' : (xk == 2) = false := by simpa using h2
        have HS0 := HStep.out
        rw [h2', if_neg (by simp)] at HS0
        have HS := hid HS0
        clear HS0
        clear HStep h2
        go_wp2
        go_roundw
        case rel => exact ⟨k + 1, by omega, by go_num, by rw [HS.out]; go_num, (by repeat' first | with_reducible exact Below.refl _ _ | with_reducible assumption | with_reducible refine belows_drewN ?_ _ | with_reducible refine Below.drew ?_ | with_reducible refine Below.setCell ?_ ?_ _ | with_reducible refine Below.alloc ?_ ?_ _ | omega | (simp; done) | (simp; omega))⟩
        case measure => simp [intOf]; omega
    · obtain rfl : k = l.length := by omega
      rw [List.take_length]
      have HS := hid (show slotsOf l = (l.length : Int) + longs l from rfl)
      go_wp2
      go_ret
      exact ⟨by rw [HS.out]; rfl, (by repeat' first | with_reducible exact Below.refl _ _ | with_reducible assumption | with_reducible refine belows_drewN ?_ _ | with_reducible refine Below.drew ?_ | with_reducible refine Below.setCell ?_ ?_ _ | with_reducible refine Below.alloc ?_ ?_ _ | omega | (simp; done) | (simp; omega))⟩
end Go.Proofs.YtehjindeggmfpaaGreatDoor.L2
namespace Go.Proofs.YtehjindeggmfpaaGreatDoor.L2
open Go.RowKit

/-- What letters answers, as read. -/
def lD : DataW Unit := ((DataW.map []).put (.int .i64 1) (.lit (.int .u8 73))).put (.int .i64 2) (.lit (.int .u8 74))
def LMap (w : World) (mb : Nat) : Prop := w.ownsMap Tryz.prog 3 (plainElem (H := Unit) Tryz.prog 5) mb 2 lD
theorem LMap.below {w w' : World} {mb n₀ : Nat} (h : LMap w mb) (hb : Below n₀ w w') (hm : mb < n₀) : LMap w' mb := by
  obtain ⟨es, clock, h1, h2, h3, h4⟩ := h
  exact ⟨es, clock, (hb.block mb hm).trans h1, h2, h3, h4⟩
end Go.Proofs.YtehjindeggmfpaaGreatDoor.L2
namespace Go.Proofs.YtehjindeggmfpaaGreatDoor.L2
open Go.RowKit

theorem A.strI (w : World) : (convert 5 9 (.int .u8 73)).run Tryz.prog w = .ok (.string ⟨#[73]⟩) w := by kernel_rfl
end Go.Proofs.YtehjindeggmfpaaGreatDoor.L2
namespace Go.Proofs.YtehjindeggmfpaaGreatDoor.L2
open Go.RowKit

theorem RB.grown {w w' : World} {B : Nat} {row : Option Nat} (h : RB w B) (hg : w.grownBy w' row) (hne : row ≠ some B) : RB w' B := (hg.block B h.sz (fun e => hne e.symm)).trans h
theorem argsF_len : ∀ (f : Nat) (l : List UInt8) (a : List Ds.Ty) (r : List UInt8), Ds.argsF f l = some (a, r) → a.length ≤ l.length
  | 0, _, _, _, h => by cases h
  | _ + 1, [], _, _, h => by cases h
  | f + 1, c :: l, a, r, h => by
    unfold Ds.argsF at h
    split at h
    · simp only [Option.some.injEq, Prod.mk.injEq] at h
      obtain ⟨rfl, -⟩ := h
      simp
    · cases hr : Ds.rd (c :: l) with
      | none => rw [hr] at h; cases h
      | some x =>
        obtain ⟨k, m, n⟩ := x
        rw [hr] at h
        dsimp only at h
        have hl := Ds.rd_len hr
        cases hg : Ds.argsF f ((c :: l).drop n) with
        | none => rw [hg] at h; cases h
        | some x =>
          obtain ⟨a', r'⟩ := x
          rw [hg] at h
          simp only [Option.some.injEq, Prod.mk.injEq] at h
          obtain ⟨rfl, -⟩ := h
          have := argsF_len f _ _ _ hg
          rw [List.length_drop] at this
          rw [List.length_cons]
          omega
theorem mdOut_len {s : List UInt8} {a : List Ds.Ty} {r : Ds.Ty} {er : Int} (h : mdOut s = (a, r, er)) : a.length ≤ 140737488355328 := by
  unfold mdOut at h
  split at h
  · simp only [Prod.mk.injEq] at h
    obtain ⟨rfl, -⟩ := h
    simp
  · rename_i hs
    split at h
    · rename_i x xs y hm
      simp only [Prod.mk.injEq] at h
      obtain ⟨rfl, -, -⟩ := h
      cases s with
      | nil => cases hm
      | cons c l =>
        unfold Ds.md at hm
        dsimp only at hm
        split at hm
        · unfold Ds.mdA at hm
          cases hg : Ds.argsF (l.length + 1) l with
          | none => rw [hg] at hm; cases hm
          | some x =>
            obtain ⟨a', r'⟩ := x
            rw [hg] at hm
            dsimp only at hm
            unfold Ds.retM at hm
            cases hr : Ds.retF r' with
            | none => rw [hr] at hm; cases hm
            | some x =>
              obtain ⟨y', s'⟩ := x
              rw [hr] at hm
              simp only [Option.some.injEq, Prod.mk.injEq, List.nil_append] at hm
              obtain ⟨rfl, -, -⟩ := hm
              have := argsF_len _ _ _ _ hg
              rw [List.length_cons] at hs
              omega
        · cases hm
    · simp only [Prod.mk.injEq] at h
      obtain ⟨rfl, -⟩ := h
      simp
end Go.Proofs.YtehjindeggmfpaaGreatDoor.L2
namespace Go.Proofs.YtehjindeggmfpaaGreatDoor.L2
open Go.RowKit

set_option maxRecDepth 100000 in
theorem memberName_any (s : ByteArray) (w : World) :
    Calls Tryz.prog 147 #[.string s] w fun e w' => e = .returned (.int .i64 (memE (Ds.bl s))) ∧ Below w.heap.size w w' := by
  unfold memE
  rw [bl_len]
  by_cases h1 : 255 < s.size
  · rw [if_pos h1]
    have hd : decide (255 < (s.size : Int)) = true := by simp; omega
    go_enter Tryz.func147, Tryz.ntmps147
    go_wp2
    go_ret
    exact ⟨rfl, (by repeat' first | with_reducible exact Below.refl _ _ | with_reducible assumption | with_reducible refine belows_drewN ?_ _ | with_reducible refine Below.drew ?_ | with_reducible refine Below.setCell ?_ ?_ _ | with_reducible refine Below.alloc ?_ ?_ _ | omega | (simp; done) | (simp; omega))⟩
  · rw [if_neg h1]
    have hd : decide (255 < (s.size : Int)) = false := by simp; omega
    have HC := isPart_any s w (by unfold maxLen; omega)
    by_cases hi : Ds.bl s = initL
    · rw [if_pos (.inr hi)]
      have hq : (s.toList == [60, 105, 110, 105, 116, 62]) = true := by rw [beq_iff_eq, str_eq]; exact hi
      clear hi HC
      go_enter Tryz.func147, Tryz.ntmps147
      go_wp2
      go_ret
      exact ⟨rfl, (by repeat' first | with_reducible exact Below.refl _ _ | with_reducible assumption | with_reducible refine belows_drewN ?_ _ | with_reducible refine Below.drew ?_ | with_reducible refine Below.setCell ?_ ?_ _ | with_reducible refine Below.alloc ?_ ?_ _ | omega | (simp; done) | (simp; omega))⟩
    · have hq : (s.toList == [60, 105, 110, 105, 116, 62]) = false := by rw [beq_eq_false_iff_ne, ne_eq, str_eq]; exact hi
      cases hp : Ds.partB (Ds.bl s) with
      | true =>
        rw [if_pos (.inl rfl)]
        rw [hp] at HC
        have HC2 := hid HC
        clear HC hp hi
        go_enter Tryz.func147, Tryz.ntmps147
        go_wp2_with (go_at_call 123; refine HC2.out.mono ?_; rintro e w1 ⟨rfl, rfl⟩)
        go_ret
        exact ⟨rfl, (by repeat' first | with_reducible exact Below.refl _ _ | with_reducible assumption | with_reducible refine belows_drewN ?_ _ | with_reducible refine Below.drew ?_ | with_reducible refine Below.setCell ?_ ?_ _ | with_reducible refine Below.alloc ?_ ?_ _ | omega | (simp; done) | (simp; omega))⟩
      | false =>
        rw [if_neg (by simp [hi])]
        rw [hp] at HC
        have HC2 := hid HC
        clear HC hp hi
        go_enter Tryz.func147, Tryz.ntmps147
        go_wp2_with (go_at_call 123; refine HC2.out.mono ?_; rintro e w1 ⟨rfl, rfl⟩)
        go_ret
        exact ⟨rfl, (by repeat' first | with_reducible exact Below.refl _ _ | with_reducible assumption | with_reducible refine belows_drewN ?_ _ | with_reducible refine Below.drew ?_ | with_reducible refine Below.setCell ?_ ?_ _ | with_reducible refine Below.alloc ?_ ?_ _ | omega | (simp; done) | (simp; omega))⟩
end Go.Proofs.YtehjindeggmfpaaGreatDoor.L2
namespace Go.Proofs.YtehjindeggmfpaaGreatDoor
open Go.RowKit

namespace Cf
/-- The first that is not nought of so many numbers, which a relation tells. -/
def FstR (R : Nat → Int → Prop) (n : Nat) (er : Int) : Prop := (er = 0 ∧ ∀ k, k < n → R k 0) ∨ (er ≠ 0 ∧ ∃ k, k < n ∧ R k er ∧ ∀ j, j < k → R j 0)
theorem FstR.det {R : Nat → Int → Prop} {n : Nat} {e e' : Int} (hR : ∀ k x y, R k x → R k y → x = y) (h : FstR R n e) (h' : FstR R n e') : e = e' := by
  rcases h with ⟨rfl, h⟩ | ⟨h0, k, hk, h1, h2⟩ <;> rcases h' with ⟨rfl, h'⟩ | ⟨h0', k', hk', h1', h2'⟩
  · rfl
  · exact hR _ _ _ (h k' hk') h1'
  · exact hR _ _ _ h1 (h' k hk)
  · rcases Nat.lt_trichotomy k k' with hl | rfl | hl
    · exact absurd (hR _ _ _ h1 (h2' k hl)) h0
    · exact hR _ _ _ h1 h1'
    · exact absurd (hR _ _ _ h1' (h2 k' hl)) h0'
theorem FstR.all {R : Nat → Int → Prop} {n : Nat} (h : ∀ k, k < n → R k 0) : FstR R n 0 := .inl ⟨rfl, h⟩
theorem FstR.at {R : Nat → Int → Prop} {n k : Nat} {er : Int} (h : ∀ j, j < k → R j 0) (hk : k < n) (h1 : R k er) (h0 : er ≠ 0) : FstR R n er := .inr ⟨h0, k, hk, h1, h⟩
/-- Are there other bits than some? -/
def accB (k x : Int) : Bool := bits .andNot .i64 x k != 0
/-- A member's name and descriptor; its name, with what is asked ahead of it. -/
def mbO (P : List L3.Cp.C) (m : Mb) : (ByteArray × ByteArray) × Int :=
  if (L3.txO P m.nm).2 ≠ 0 then ((⟨#[]⟩, ⟨#[]⟩), (L3.txO P m.nm).2) else if (L3.txO P m.ds).2 ≠ 0 then ((⟨#[]⟩, ⟨#[]⟩), (L3.txO P m.ds).2)
  else (((L3.txO P m.nm).1, (L3.txO P m.ds).1), 0)
def nmO (P : List L3.Cp.C) (m : Mb) : (ByteArray × ByteArray) × Int :=
  if accB 9 m.ac = true then ((⟨#[]⟩, ⟨#[]⟩), 42) else if (mbO P m).2 ≠ 0 then ((⟨#[]⟩, ⟨#[]⟩), (mbO P m).2) else ((mbO P m).1, L2.memE (L2.Ds.bl (mbO P m).1.1))
/-- A class's index. -/
def claE (P : List L3.Cp.C) (i : Int) : Int := if (L3.clO P i).2 ≠ 0 then (L3.clO P i).2 else L2.nameE (L2.Ds.bl (L3.clO P i).1)
def HdIs (c : Cl) (er : Int) : Prop :=
  if verB c.mi c.ma = false then er = 41 else ∃ pk, L3.CkIs c.pool pk ∧ (if pk ≠ 0 then er = pk else if accB 33 c.ac = true then er = 42 else if claE c.pool c.th ≠ 0 then er = claE c.pool c.th
    else if claE c.pool c.su ≠ 0 then er = claE c.pool c.su else if 256 < c.fs.length ∨ 256 < c.ms.length then er = 3 else er = 0)
/-- The names of the members ahead of one. -/
def ahead (P : List L3.Cp.C) (ms : List Mb) (k : Nat) : List (ByteArray × ByteArray) := (ms.take k).map fun m => (mbO P m).1
/-- Is a name among some? -/
def inB (n : ByteArray × ByteArray) (ah : List (ByteArray × ByteArray)) : Bool := ah.any fun x => decide (x.1 = n.1 ∧ x.2 = n.2)
def plainM (m : Mb) : Bool := decide (m.st = 0 ∧ m.lc = 0 ∧ m.code.length = 0 ∧ m.hs.length = 0)
def initS : ByteArray := ⟨#[60, 105, 110, 105, 116, 62]⟩
def fdE (P : List L3.Cp.C) (ah : List (ByteArray × ByteArray)) (m : Mb) : Int :=
  if (nmO P m).2 ≠ 0 then (nmO P m).2 else if (L2.fdOut (L2.Ds.bl (nmO P m).1.2)).2 ≠ 0 then (L2.fdOut (L2.Ds.bl (nmO P m).1.2)).2
  else if (nmO P m).1.1 = initS ∨ plainM m = false then 45 else if inB (nmO P m).1 ah = true then 5 else 0
def FdIs (P : List L3.Cp.C) (ms : List Mb) (k : Nat) (er : Int) : Prop := ∃ m, ms[k]? = some m ∧ er = fdE P (ahead P ms k) m
/-- Does an instruction begin at an address? -/
def begB (l : List L1.Op1.Ins) (p : Int) : Bool := l.any fun x => x.p == p
def hdE (P : List L3.Cp.C) (l : List L1.Op1.Ins) (n : Nat) (h : Hn) : Int :=
  if (h.f < h.t ∧ begB l h.f = true ∧ begB l h.a = true ∧ (begB l h.t = true ∨ h.t = (n : Int))) then (if h.y = 0 then 0 else claE P h.y) else 46
def HnIs (P : List L3.Cp.C) (l : List L1.Op1.Ins) (n : Nat) (hs : List Hn) (k : Nat) (er : Int) : Prop := ∃ h, hs[k]? = some h ∧ er = hdE P l n h
def CoIs (P : List L3.Cp.C) (m : Mb) (er : Int) : Prop := ∃ l d, L1.Op1.DecOut m.code l d ∧ (if d ≠ 0 then er = d else if 64 < m.hs.length then er = 3 else FstR (HnIs P l m.code.length m.hs) m.hs.length er)
def statB (m : Mb) : Bool := bits .and .i64 m.ac 8 != 0
def frE (m : Mb) (args : List L2.Ds.Ty) : Int :=
  if m.st < 0 ∨ 64 < m.st ∨ m.lc < 0 ∨ 64 < m.lc then 3 else if m.lc < L2.slotsOf args + (if statB m = true then 0 else 1) then 45 else 0
def meIs (P : List L3.Cp.C) (ah : List (ByteArray × ByteArray)) (m : Mb) (er : Int) : Prop :=
  if (nmO P m).2 ≠ 0 then er = (nmO P m).2 else if (L2.mdOut (L2.Ds.bl (nmO P m).1.2)).2.2 ≠ 0 then er = (L2.mdOut (L2.Ds.bl (nmO P m).1.2)).2.2
  else if inB (nmO P m).1 ah = true then er = 5
  else if (nmO P m).1.1 = initS ∧ (statB m = true ∨ (L2.mdOut (L2.Ds.bl (nmO P m).1.2)).2.1.1 ≠ 0) then er = 45
  else if frE m (L2.mdOut (L2.Ds.bl (nmO P m).1.2)).1 ≠ 0 then er = frE m (L2.mdOut (L2.Ds.bl (nmO P m).1.2)).1 else CoIs P m er
def MeIs (P : List L3.Cp.C) (ms : List Mb) (k : Nat) (er : Int) : Prop := ∃ m, ms[k]? = some m ∧ meIs P (ahead P ms k) m er
def CnIs (c : Cl) (er : Int) : Prop := ∃ r b, L3.FiIs c.pool codeC r b ∧ er = if b = false ∧ 0 < c.ms.length then 43 else 0
def AskIs (c : Cl) : Nat → Int → Prop
  | 0, er => HdIs c er
  | 1, er => FstR (FdIs c.pool c.fs) c.fs.length er
  | 2, er => FstR (MeIs c.pool c.ms) c.ms.length er
  | _, er => CnIs c er
/-- What is wrong with a class first. -/
def ClIs (c : Cl) (er : Int) : Prop := FstR (AskIs c) 4 er
theorem HdIs.det {c : Cl} {e e' : Int} (h : HdIs c e) (h' : HdIs c e') : e = e' := by
  unfold HdIs at h h'
  split at h
  · rename_i hv; rw [if_pos hv] at h'; rw [h, h']
  · rename_i hv
    rw [if_neg hv] at h'
    obtain ⟨p, hp, h⟩ := h
    obtain ⟨p', hp', h'⟩ := h'
    obtain rfl := L3.CkIs.det hp hp'
    (repeat' split at h) <;> simp_all
theorem FdIs.det {P : List L3.Cp.C} {ms : List Mb} (k : Nat) (x y : Int) (h : FdIs P ms k x) (h' : FdIs P ms k y) : x = y := by
  obtain ⟨m, hm, rfl⟩ := h
  obtain ⟨m', hm', rfl⟩ := h'
  rw [hm] at hm'; cases hm'; rfl
theorem HnIs.det {P : List L3.Cp.C} {l : List L1.Op1.Ins} {n : Nat} {hs : List Hn} (k : Nat) (x y : Int) (h : HnIs P l n hs k x) (h' : HnIs P l n hs k y) : x = y := by
  obtain ⟨m, hm, rfl⟩ := h
  obtain ⟨m', hm', rfl⟩ := h'
  rw [hm] at hm'; cases hm'; rfl
theorem CoIs.det {P : List L3.Cp.C} {m : Mb} {e e' : Int} (h : CoIs P m e) (h' : CoIs P m e') : e = e' := by
  obtain ⟨l, d, hd, h⟩ := h
  obtain ⟨l', d', hd', h'⟩ := h'
  obtain ⟨rfl, rfl⟩ := L1.Op1.DecOut.det hd hd'
  split at h
  · rename_i h1; rw [if_pos h1] at h'; rw [h, h']
  · rename_i h1
    rw [if_neg h1] at h'
    split at h
    · rename_i h2; rw [if_pos h2] at h'; rw [h, h']
    · rename_i h2; rw [if_neg h2] at h'; exact FstR.det HnIs.det h h'
theorem meIs.det {P : List L3.Cp.C} {ah : List (ByteArray × ByteArray)} {m : Mb} {e e' : Int} (h : meIs P ah m e) (h' : meIs P ah m e') : e = e' := by
  unfold meIs at h h'
  split at h
  · rename_i h1; rw [if_pos h1] at h'; rw [h, h']
  · rename_i h1
    rw [if_neg h1] at h'
    split at h
    · rename_i h2; rw [if_pos h2] at h'; rw [h, h']
    · rename_i h2
      rw [if_neg h2] at h'
      split at h
      · rename_i h3; rw [if_pos h3] at h'; rw [h, h']
      · rename_i h3
        rw [if_neg h3] at h'
        split at h
        · rename_i h4; rw [if_pos h4] at h'; rw [h, h']
        · rename_i h4
          rw [if_neg h4] at h'
          split at h
          · rename_i h5; rw [if_pos h5] at h'; rw [h, h']
          · rename_i h5; rw [if_neg h5] at h'; exact CoIs.det h h'
theorem MeIs.det {P : List L3.Cp.C} {ms : List Mb} (k : Nat) (x y : Int) (h : MeIs P ms k x) (h' : MeIs P ms k y) : x = y := by
  obtain ⟨m, hm, h⟩ := h
  obtain ⟨m', hm', h'⟩ := h'
  rw [hm] at hm'; cases hm'; exact meIs.det h h'
theorem CnIs.det {c : Cl} {e e' : Int} (h : CnIs c e) (h' : CnIs c e') : e = e' := by
  obtain ⟨r, b, hf, rfl⟩ := h
  obtain ⟨r', b', hf', rfl⟩ := h'
  obtain ⟨rfl, rfl⟩ := L3.FiIs.det hf hf'
  rfl
theorem AskIs.det {c : Cl} (k : Nat) (x y : Int) (h : AskIs c k x) (h' : AskIs c k y) : x = y := by
  match k, h, h' with
  | 0, h, h' => exact HdIs.det h h'
  | 1, h, h' => exact FstR.det FdIs.det h h'
  | 2, h, h' => exact FstR.det MeIs.det h h'
  | _ + 3, h, h' => exact CnIs.det h h'
theorem ClIs.det {c : Cl} {e e' : Int} (h : ClIs c e) (h' : ClIs c e') : e = e' := FstR.det AskIs.det h h'
end Cf
end Go.Proofs.YtehjindeggmfpaaGreatDoor
namespace Go.Proofs.YtehjindeggmfpaaGreatDoor.Cf
open Go.RowKit

/-- What Decode answers. -/
def DcIs (bs : List UInt8) (c : Cl) (er : Int) : Prop := if 65536 < bs.length then c = K0 ∧ er = 3 else match clP bs with
  | .error e => c = K0 ∧ er = e
  | .ok (d, _) => ∃ e, ClIs d e ∧ (if e = 0 then c = d ∧ er = 0 else c = K0 ∧ er = e)
theorem DcIs.det {bs : List UInt8} {c d : Cl} {e f : Int} (h : DcIs bs c e) (k : DcIs bs d f) : c = d ∧ e = f := by
  unfold DcIs at h k
  split at h
  · rename_i h1; rw [if_pos h1] at k; exact ⟨h.1.trans k.1.symm, h.2.trans k.2.symm⟩
  · rename_i h1
    rw [if_neg h1] at k
    cases hx : clP bs with
    | error er => rw [hx] at h k; exact ⟨h.1.trans k.1.symm, h.2.trans k.2.symm⟩
    | ok y =>
      rw [hx] at h k
      obtain ⟨e1, he, h⟩ := h
      obtain ⟨e2, ke, k⟩ := k
      obtain rfl := ClIs.det he ke
      split at h
      · rename_i h2; rw [if_pos h2] at k; exact ⟨h.1.trans k.1.symm, h.2.trans k.2.symm⟩
      · rename_i h2; rw [if_neg h2] at k; exact ⟨h.1.trans k.1.symm, h.2.trans k.2.symm⟩
/-- Numbers as bytes. -/
def w2 (n : Int) : List Int := [n / 256 % 256, n % 256]
def w4 (n : Int) : List Int := w2 (n / 65536) ++ w2 n
theorem w2_len (n : Int) : (w2 n).length = 2 := rfl
theorem w4_len (n : Int) : (w4 n).length = 4 := rfl
def cB (l : List UInt8) : List Int := l.map fun c => (c.toNat : Int)
def hnB (h : Hn) : List Int := w2 h.f ++ w2 h.t ++ w2 h.a ++ w2 h.y
def fdB (m : Mb) : List Int := w2 m.ac ++ w2 m.nm ++ w2 m.ds ++ w2 0
def attrB (m : Mb) : List Int := w2 m.st ++ w2 m.lc ++ w4 m.code.length ++ cB m.code ++ w2 m.hs.length ++ m.hs.flatMap hnB ++ w2 0
def meB (code : Nat) (m : Mb) : List Int := w2 m.ac ++ w2 m.nm ++ w2 m.ds ++ w2 1 ++ w2 code ++ w4 (attrB m).length ++ attrB m
def clB (c : Cl) : List Int := w4 3405691582 ++ w2 c.mi ++ w2 c.ma ++ L3.putB c.pool ++ w2 c.ac ++ w2 c.th ++ w2 c.su ++ w2 0 ++ w2 c.fs.length ++ c.fs.flatMap fdB ++ w2 c.ms.length ++ c.ms.flatMap (meB (cix c.pool)) ++ w2 0
theorem cix_fi (P : List L3.Cp.C) : L3.FiIs P codeC (cix P) (decide (cix P ≠ 0)) := by
  unfold cix
  cases h : (P.drop 1).findIdx? (fun c => c == codeC) with
  | none =>
    refine .inl ⟨by simp, rfl, fun j hj _ he => ?_⟩
    rw [List.findIdx?_eq_none_iff] at h
    have := h codeC (by
      rw [List.mem_iff_getElem?]
      exact ⟨j - 1, by rw [List.getElem?_drop, show 1 + (j - 1) = j by omega]; exact he⟩)
    simp at this
  | some j =>
    rw [List.findIdx?_eq_some_iff_getElem] at h
    obtain ⟨hlt, h1, h2⟩ := h
    refine .inr ⟨by simp, by simp, by decide, ?_, fun i hi hij he => ?_⟩
    · show P[j + 1]? = some codeC
      have h3 := List.getElem?_eq_getElem hlt
      rw [List.getElem?_drop, Nat.add_comm] at h3
      rw [h3, eq_of_beq h1]
    · have hij' : i < j + 1 := hij
      have h3 := h2 (i - 1) (by omega)
      have h4 : (P.drop 1)[i - 1]? = some codeC := by rw [List.getElem?_drop, show 1 + (i - 1) = i by omega]; exact he
      rw [List.getElem?_eq_some_iff] at h4
      obtain ⟨h5, h6⟩ := h4
      rw [h6] at h3
      simp at h3
theorem fi_cix {P : List L3.Cp.C} {r : Nat} {b : Bool} (h : L3.FiIs P codeC r b) : r = cix P ∧ b = decide (cix P ≠ 0) := L3.FiIs.det h (cix_fi P)
end Go.Proofs.YtehjindeggmfpaaGreatDoor.Cf
namespace Go.Proofs.YtehjindeggmfpaaGreatDoor
open Go.RowKit

theorem belows1 {w w1 : World} {c : Array Value} {T : TypeId} (hb : Below (w.alloc (.cells c T)).heap.size (w.alloc (.cells c T)) w1) : L3.BX w1 w.heap.size c T ∧ w.heap.size + 1 ≤ w1.heap.size ∧ Below w.heap.size w w1 := by
  have hz := hb.size
  simp only [World.size_alloc] at hz
  exact ⟨(L3.BX.new w c T).below hb (by simp), hz, belows ((Below.refl _ w).alloc (Nat.le_refl _) _) hb (by simp)⟩
theorem boxes2 {w w1 : World} {c m : Array Value} {T U : TypeId} (hb : Below ((w.alloc (.cells c T)).alloc (.cells m U)).heap.size ((w.alloc (.cells c T)).alloc (.cells m U)) w1) :
    L3.BX w1 w.heap.size c T ∧ L3.BX w1 (w.heap.size + 1) m U ∧ w.heap.size + 1 + 1 ≤ w1.heap.size ∧ Below w.heap.size w w1 := by
  obtain ⟨h1, h2, h3⟩ := belows1 hb
  simp only [World.size_alloc] at h1 h2 h3
  obtain ⟨k1, k2, k3⟩ := belows1 (w := w) (c := c) (T := T) (w1 := w1) (by simpa using h3)
  exact ⟨k1, h1, h2, k3⟩
theorem boxes3 {w w1 : World} {c m n : Array Value} {T U V : TypeId} (hb : Below (((w.alloc (.cells c T)).alloc (.cells m U)).alloc (.cells n V)).heap.size (((w.alloc (.cells c T)).alloc (.cells m U)).alloc (.cells n V)) w1) :
    L3.BX w1 w.heap.size c T ∧ L3.BX w1 (w.heap.size + 1) m U ∧ L3.BX w1 (w.heap.size + 1 + 1) n V ∧ w.heap.size + 1 + 1 + 1 ≤ w1.heap.size ∧ Below w.heap.size w w1 := by
  obtain ⟨h1, h2, h3⟩ := belows1 hb
  simp only [World.size_alloc] at h1 h2 h3
  obtain ⟨k1, k2, k3, k4⟩ := boxes2 (w := w) (c := c) (m := m) (T := T) (U := U) (w1 := w1) (by simpa using h3)
  exact ⟨k1, k2, h1, h2, k4⟩
theorem isVersion_any (mi ma : Int) (w : World) : Calls Tryz.prog 99 #[.int .i64 mi, .int .i64 ma] w fun e w' => e = .returned (.bool (Cf.verB mi ma)) ∧ w = w' := by
  unfold Cf.verB
  go_enter Tryz.func99, Tryz.ntmps99
  go_wp2
  all_goals go_ret
  all_goals exact ⟨by first | (simp [*]; done) | (simp [*]; intros; omega), rfl⟩
set_option maxRecDepth 100000 in
theorem checkClassAt_any (P : List L3.Cp.C) (i : Int) (v : Value) (w : World) (hv : Kit.IsS 5 w v P.length (P.flatMap L3.cL)) :
    Calls Tryz.prog 102 #[v, .int .i64 i] w fun e w' => e = .returned (.int .i64 (Cf.claE P i)) ∧ Below w.heap.size w w' := by
  have HC0 := fun W (h : Below w.heap.size w W) => L3.class_at P i v W (hv.below h (Nat.le_refl _))
  unfold Cf.claE
  obtain ⟨⟨s, er⟩, hx⟩ : ∃ x, x = L3.clO P i := ⟨_, rfl⟩
  rw [← hx] at HC0 ⊢
  have HC := hid HC0
  have HN := hid (fun W => L2.className_any s W)
  obtain ⟨a, cap, rfl⟩ := hv.len
  clear HC0 hv hx
  dsimp only
  by_cases h : er = 0
  · subst h
    rw [if_neg (by decide)]
    go_enter Tryz.func102, Tryz.ntmps102
    go_wp2_with (first
      | (go_at_call 61; (with_reducible refine (HC.out _ (by repeat' first | with_reducible exact Below.refl _ _ | with_reducible assumption | with_reducible refine belows_drewN ?_ _ | with_reducible refine Below.drew ?_ | with_reducible refine Below.setCell ?_ ?_ _ | with_reducible refine Below.alloc ?_ ?_ _ | omega | (simp; done) | (simp; omega))).mono ?_); rintro e w1 ⟨rfl, hb1⟩)
      | (go_at_call 68; refine (HN.out _).mono ?_; rintro e w2 ⟨rfl, hb2⟩))
    go_ret
    exact ⟨rfl, belows hb1 hb2 hb1.size⟩
  · rw [if_pos h]
    have hd : (er != 0) = true := by simpa using h
    clear h
    go_enter Tryz.func102, Tryz.ntmps102
    go_wp2_with (go_at_call 61; (with_reducible refine (HC.out _ (by repeat' first | with_reducible exact Below.refl _ _ | with_reducible assumption | with_reducible refine belows_drewN ?_ _ | with_reducible refine Below.drew ?_ | with_reducible refine Below.setCell ?_ ?_ _ | with_reducible refine Below.alloc ?_ ?_ _ | omega | (simp; done) | (simp; omega))).mono ?_); rintro e w1 ⟨rfl, hb1⟩)
    go_ret
    exact ⟨rfl, hb1⟩
def ndV (n : ByteArray × ByteArray) : Value := .agg #[.string ⟨#[]⟩, .string n.1, .string n.2]
def mbV (m : Cf.Mb) (cv hv : Value) : Value := .agg #[.int .i64 m.ac, .int .i64 m.nm, .int .i64 m.ds, .int .i64 m.st, .int .i64 m.lc, cv, hv]
set_option maxRecDepth 100000 in
set_option maxHeartbeats 1000000 in
theorem member_any (c : Cf.Cl) (vs : Array Value) (m : Cf.Mb) (cv hv : Value) (w : World) (h : ClR w vs c) :
    Calls Tryz.prog 24 #[.agg vs, mbV m cv hv] w fun e w' => e = .returned (.tuple #[ndV (Cf.mbO c.pool m).1, .int .i64 (Cf.mbO c.pool m).2]) ∧ Below w.heap.size w w' := by
  obtain ⟨pv, fv, mv, rfl, hp, -, -⟩ := h
  have HA0 := fun W (h : Below w.heap.size w W) => L3.text_at c.pool m.nm pv W (hp.below h (Nat.le_refl _))
  have HB0 := fun W (h : Below w.heap.size w W) => L3.text_at c.pool m.ds pv W (hp.below h (Nat.le_refl _))
  unfold Cf.mbO ndV mbV
  obtain ⟨⟨s, er⟩, hx⟩ : ∃ x, x = L3.txO c.pool m.nm := ⟨_, rfl⟩
  obtain ⟨⟨t, fr⟩, hy⟩ : ∃ x, x = L3.txO c.pool m.ds := ⟨_, rfl⟩
  rw [← hx] at HA0 ⊢
  rw [← hy] at HB0 ⊢
  have HA := hid HA0
  have HB := hid HB0
  obtain ⟨a, cap, rfl⟩ := hp.len
  clear HA0 HB0 hp hx hy
  obtain ⟨n, hn⟩ : ∃ n, n = c.pool.length := ⟨_, rfl⟩
  rw [← hn] at HA HB ⊢
  clear hn
  dsimp only
  by_cases h : er = 0
  · subst h
    rw [if_neg (by decide)]
    by_cases h2 : fr = 0
    · subst h2
      rw [if_neg (by decide)]
      (go_enter Tryz.func24, Tryz.ntmps24; go_wp2_with (first | (go_at_call 63; have _g := B1; (with_reducible refine (HB.out _ B1).mono ?_); rintro e w2 ⟨rfl, hb2⟩; have B2 := belows B1 hb2 (by omega); have bN2 := bN.below hb2 bN.sz; have hz2 := hb2.size; have n0 := bN2.cell 0; have n1 := bN2.cell 1; have n2 := bN2.cell 2; have f0 := bN2.frozen 0; have f1 := bN2.frozen 1; have f2 := bN2.frozen 2; simp at n0 n1 n2; clear hb2) | (go_at_call 63; (with_reducible refine (HA.out _ (by repeat' first | with_reducible exact Below.refl _ _ | with_reducible assumption | with_reducible refine belows_drewN ?_ _ | with_reducible refine Below.drew ?_ | with_reducible refine Below.setCell ?_ ?_ _ | with_reducible refine Below.alloc ?_ ?_ _ | omega | (simp; done) | (simp; omega))).mono ?_); rintro e w1 ⟨rfl, hb1⟩; obtain ⟨bC, bM, bN, hz1, B1⟩ := boxes3 hb1; have c2 := bC.cell 2; have m2 := bM.cell 2; have n0 := bN.cell 0; have n1 := bN.cell 1; have n2 := bN.cell 2; have f0 := bN.frozen 0; have f1 := bN.frozen 1; have f2 := bN.frozen 2; simp at c2 m2 n0 n1 n2; clear bC bM hb1)))
      exact bodyPost_ret (v := .tuple #[.agg #[.string ⟨#[]⟩, .string s, .string t], .int .i64 0]) (by simp [results, Tryz.results24, go_sem, n0, n1, n2]) rfl ⟨rfl, (by repeat' first | with_reducible exact Below.refl _ _ | with_reducible assumption | with_reducible refine belows_drewN ?_ _ | with_reducible refine Below.drew ?_ | with_reducible refine Below.setCell ?_ ?_ _ | with_reducible refine Below.alloc ?_ ?_ _ | omega | (simp; done) | (simp; omega))⟩
    · rw [if_pos h2]
      have hd : (fr != 0) = true := by simpa using h2
      clear h2
      (go_enter Tryz.func24, Tryz.ntmps24; go_wp2_with (first | (go_at_call 63; have _g := B1; (with_reducible refine (HB.out _ B1).mono ?_); rintro e w2 ⟨rfl, hb2⟩; have B2 := belows B1 hb2 (by omega); have bN2 := bN.below hb2 bN.sz; have hz2 := hb2.size; have n0 := bN2.cell 0; have n1 := bN2.cell 1; have n2 := bN2.cell 2; have f0 := bN2.frozen 0; have f1 := bN2.frozen 1; have f2 := bN2.frozen 2; simp at n0 n1 n2; clear hb2) | (go_at_call 63; (with_reducible refine (HA.out _ (by repeat' first | with_reducible exact Below.refl _ _ | with_reducible assumption | with_reducible refine belows_drewN ?_ _ | with_reducible refine Below.drew ?_ | with_reducible refine Below.setCell ?_ ?_ _ | with_reducible refine Below.alloc ?_ ?_ _ | omega | (simp; done) | (simp; omega))).mono ?_); rintro e w1 ⟨rfl, hb1⟩; obtain ⟨bC, bM, bN, hz1, B1⟩ := boxes3 hb1; have c2 := bC.cell 2; have m2 := bM.cell 2; have n0 := bN.cell 0; have n1 := bN.cell 1; have n2 := bN.cell 2; have f0 := bN.frozen 0; have f1 := bN.frozen 1; have f2 := bN.frozen 2; simp at c2 m2 n0 n1 n2; clear bC bM hb1)))
      exact bodyPost_ret (v := .tuple #[.agg #[.string ⟨#[]⟩, .string ⟨#[]⟩, .string ⟨#[]⟩], .int .i64 fr]) (by simp [results, Tryz.results24, go_sem, n0, n1, n2]) rfl ⟨rfl, (by repeat' first | with_reducible exact Below.refl _ _ | with_reducible assumption | with_reducible refine belows_drewN ?_ _ | with_reducible refine Below.drew ?_ | with_reducible refine Below.setCell ?_ ?_ _ | with_reducible refine Below.alloc ?_ ?_ _ | omega | (simp; done) | (simp; omega))⟩
  · rw [if_pos h]
    have hd : (er != 0) = true := by simpa using h
    clear h
    (go_enter Tryz.func24, Tryz.ntmps24; go_wp2_with (first | (go_at_call 63; have _g := B1; (with_reducible refine (HB.out _ B1).mono ?_); rintro e w2 ⟨rfl, hb2⟩; have B2 := belows B1 hb2 (by omega); have bN2 := bN.below hb2 bN.sz; have hz2 := hb2.size; have n0 := bN2.cell 0; have n1 := bN2.cell 1; have n2 := bN2.cell 2; have f0 := bN2.frozen 0; have f1 := bN2.frozen 1; have f2 := bN2.frozen 2; simp at n0 n1 n2; clear hb2) | (go_at_call 63; (with_reducible refine (HA.out _ (by repeat' first | with_reducible exact Below.refl _ _ | with_reducible assumption | with_reducible refine belows_drewN ?_ _ | with_reducible refine Below.drew ?_ | with_reducible refine Below.setCell ?_ ?_ _ | with_reducible refine Below.alloc ?_ ?_ _ | omega | (simp; done) | (simp; omega))).mono ?_); rintro e w1 ⟨rfl, hb1⟩; obtain ⟨bC, bM, bN, hz1, B1⟩ := boxes3 hb1; have c2 := bC.cell 2; have m2 := bM.cell 2; have n0 := bN.cell 0; have n1 := bN.cell 1; have n2 := bN.cell 2; have f0 := bN.frozen 0; have f1 := bN.frozen 1; have f2 := bN.frozen 2; simp at c2 m2 n0 n1 n2; clear bC bM hb1)))
    exact bodyPost_ret (v := .tuple #[.agg #[.string ⟨#[]⟩, .string ⟨#[]⟩, .string ⟨#[]⟩], .int .i64 er]) (by simp [results, Tryz.results24, go_sem, n0, n1, n2]) rfl ⟨rfl, (by repeat' first | with_reducible exact Below.refl _ _ | with_reducible assumption | with_reducible refine belows_drewN ?_ _ | with_reducible refine Below.drew ?_ | with_reducible refine Below.setCell ?_ ?_ _ | with_reducible refine Below.alloc ?_ ?_ _ | omega | (simp; done) | (simp; omega))⟩
set_option maxRecDepth 100000 in
set_option maxHeartbeats 1000000 in
theorem rmember_any (c : Cf.Cl) (vs : Array Value) (m : Cf.Mb) (cv hv : Value) (w : World) (h : ClR w vs c) :
    Calls Tryz.prog 25 #[.agg vs, mbV m cv hv] w fun e w' => e = .returned (.tuple #[ndV (Cf.mbO c.pool m).1, .int .i64 (Cf.mbO c.pool m).2]) ∧ Below w.heap.size w w' := by
  obtain ⟨pv, fv, mv, rfl, hp, -, -⟩ := h
  have HA0 := fun W (h : Below w.heap.size w W) => L3.rtext_at c.pool m.nm pv W (hp.below h (Nat.le_refl _))
  have HB0 := fun W (h : Below w.heap.size w W) => L3.rtext_at c.pool m.ds pv W (hp.below h (Nat.le_refl _))
  unfold Cf.mbO ndV mbV
  obtain ⟨⟨s, er⟩, hx⟩ : ∃ x, x = L3.txO c.pool m.nm := ⟨_, rfl⟩
  obtain ⟨⟨t, fr⟩, hy⟩ : ∃ x, x = L3.txO c.pool m.ds := ⟨_, rfl⟩
  rw [← hx] at HA0 ⊢
  rw [← hy] at HB0 ⊢
  have HA := hid HA0
  have HB := hid HB0
  obtain ⟨a, cap, rfl⟩ := hp.len
  clear HA0 HB0 hp hx hy
  obtain ⟨n, hn⟩ : ∃ n, n = c.pool.length := ⟨_, rfl⟩
  rw [← hn] at HA HB ⊢
  clear hn
  dsimp only
  by_cases h : er = 0
  · subst h
    rw [if_neg (by decide)]
    by_cases h2 : fr = 0
    · subst h2
      rw [if_neg (by decide)]
      (go_enter Tryz.func25, Tryz.ntmps25; go_wp2_with (first | (go_at_call 64; have _g := B1; (with_reducible refine (HB.out _ B1).mono ?_); rintro e w2 ⟨rfl, hb2⟩; have B2 := belows B1 hb2 (by omega); have bN2 := bN.below hb2 bN.sz; have hz2 := hb2.size; have n0 := bN2.cell 0; have n1 := bN2.cell 1; have n2 := bN2.cell 2; have f0 := bN2.frozen 0; have f1 := bN2.frozen 1; have f2 := bN2.frozen 2; simp at n0 n1 n2; clear hb2) | (go_at_call 64; (with_reducible refine (HA.out _ (by repeat' first | with_reducible exact Below.refl _ _ | with_reducible assumption | with_reducible refine belows_drewN ?_ _ | with_reducible refine Below.drew ?_ | with_reducible refine Below.setCell ?_ ?_ _ | with_reducible refine Below.alloc ?_ ?_ _ | omega | (simp; done) | (simp; omega))).mono ?_); rintro e w1 ⟨rfl, hb1⟩; obtain ⟨bC, bM, bN, hz1, B1⟩ := boxes3 hb1; have c2 := bC.cell 2; have m2 := bM.cell 2; have n0 := bN.cell 0; have n1 := bN.cell 1; have n2 := bN.cell 2; have f0 := bN.frozen 0; have f1 := bN.frozen 1; have f2 := bN.frozen 2; simp at c2 m2 n0 n1 n2; clear bC bM hb1)))
      exact bodyPost_ret (v := .tuple #[.agg #[.string ⟨#[]⟩, .string s, .string t], .int .i64 0]) (by simp [results, Tryz.results25, go_sem, n0, n1, n2]) rfl ⟨rfl, (by repeat' first | with_reducible exact Below.refl _ _ | with_reducible assumption | with_reducible refine belows_drewN ?_ _ | with_reducible refine Below.drew ?_ | with_reducible refine Below.setCell ?_ ?_ _ | with_reducible refine Below.alloc ?_ ?_ _ | omega | (simp; done) | (simp; omega))⟩
    · rw [if_pos h2]
      have hd : (fr != 0) = true := by simpa using h2
      clear h2
      (go_enter Tryz.func25, Tryz.ntmps25; go_wp2_with (first | (go_at_call 64; have _g := B1; (with_reducible refine (HB.out _ B1).mono ?_); rintro e w2 ⟨rfl, hb2⟩; have B2 := belows B1 hb2 (by omega); have bN2 := bN.below hb2 bN.sz; have hz2 := hb2.size; have n0 := bN2.cell 0; have n1 := bN2.cell 1; have n2 := bN2.cell 2; have f0 := bN2.frozen 0; have f1 := bN2.frozen 1; have f2 := bN2.frozen 2; simp at n0 n1 n2; clear hb2) | (go_at_call 64; (with_reducible refine (HA.out _ (by repeat' first | with_reducible exact Below.refl _ _ | with_reducible assumption | with_reducible refine belows_drewN ?_ _ | with_reducible refine Below.drew ?_ | with_reducible refine Below.setCell ?_ ?_ _ | with_reducible refine Below.alloc ?_ ?_ _ | omega | (simp; done) | (simp; omega))).mono ?_); rintro e w1 ⟨rfl, hb1⟩; obtain ⟨bC, bM, bN, hz1, B1⟩ := boxes3 hb1; have c2 := bC.cell 2; have m2 := bM.cell 2; have n0 := bN.cell 0; have n1 := bN.cell 1; have n2 := bN.cell 2; have f0 := bN.frozen 0; have f1 := bN.frozen 1; have f2 := bN.frozen 2; simp at c2 m2 n0 n1 n2; clear bC bM hb1)))
      exact bodyPost_ret (v := .tuple #[.agg #[.string ⟨#[]⟩, .string ⟨#[]⟩, .string ⟨#[]⟩], .int .i64 fr]) (by simp [results, Tryz.results25, go_sem, n0, n1, n2]) rfl ⟨rfl, (by repeat' first | with_reducible exact Below.refl _ _ | with_reducible assumption | with_reducible refine belows_drewN ?_ _ | with_reducible refine Below.drew ?_ | with_reducible refine Below.setCell ?_ ?_ _ | with_reducible refine Below.alloc ?_ ?_ _ | omega | (simp; done) | (simp; omega))⟩
  · rw [if_pos h]
    have hd : (er != 0) = true := by simpa using h
    clear h
    (go_enter Tryz.func25, Tryz.ntmps25; go_wp2_with (first | (go_at_call 64; have _g := B1; (with_reducible refine (HB.out _ B1).mono ?_); rintro e w2 ⟨rfl, hb2⟩; have B2 := belows B1 hb2 (by omega); have bN2 := bN.below hb2 bN.sz; have hz2 := hb2.size; have n0 := bN2.cell 0; have n1 := bN2.cell 1; have n2 := bN2.cell 2; have f0 := bN2.frozen 0; have f1 := bN2.frozen 1; have f2 := bN2.frozen 2; simp at n0 n1 n2; clear hb2) | (go_at_call 64; (with_reducible refine (HA.out _ (by repeat' first | with_reducible exact Below.refl _ _ | with_reducible assumption | with_reducible refine belows_drewN ?_ _ | with_reducible refine Below.drew ?_ | with_reducible refine Below.setCell ?_ ?_ _ | with_reducible refine Below.alloc ?_ ?_ _ | omega | (simp; done) | (simp; omega))).mono ?_); rintro e w1 ⟨rfl, hb1⟩; obtain ⟨bC, bM, bN, hz1, B1⟩ := boxes3 hb1; have c2 := bC.cell 2; have m2 := bM.cell 2; have n0 := bN.cell 0; have n1 := bN.cell 1; have n2 := bN.cell 2; have f0 := bN.frozen 0; have f1 := bN.frozen 1; have f2 := bN.frozen 2; simp at c2 m2 n0 n1 n2; clear bC bM hb1)))
    exact bodyPost_ret (v := .tuple #[.agg #[.string ⟨#[]⟩, .string ⟨#[]⟩, .string ⟨#[]⟩], .int .i64 er]) (by simp [results, Tryz.results25, go_sem, n0, n1, n2]) rfl ⟨rfl, (by repeat' first | with_reducible exact Below.refl _ _ | with_reducible assumption | with_reducible refine belows_drewN ?_ _ | with_reducible refine Below.drew ?_ | with_reducible refine Below.setCell ?_ ?_ _ | with_reducible refine Below.alloc ?_ ?_ _ | omega | (simp; done) | (simp; omega))⟩
end Go.Proofs.YtehjindeggmfpaaGreatDoor
namespace Go.Proofs.YtehjindeggmfpaaGreatDoor
open Go.RowKit
theorem A.laid : laidOutB Tryz.prog = true := by kernel_rfl
theorem A.keyT : Tryz.prog.keyType 44 = true := by kernel_rfl
theorem A.keyed : Maps.Keyed Tryz.prog 44 := Maps.Keyed.of_law (deep_law_laid A.laid (m := 3) (by omega) (of_decide_eq_true (by kernel_rfl)) (by kernel_rfl) (by kernel_rfl))
theorem A.tsz : ∃ k, Tryz.prog.types.size + 1 = k + 2 := ⟨Tryz.prog.types.size - 1, by have : 1 ≤ Tryz.prog.types.size := of_decide_eq_true (by kernel_rfl); omega⟩
theorem A.litsN (a b c : ByteArray) (h1 : a.size ≤ maxLen) (h2 : b.size ≤ maxLen) (h3 : c.size ≤ maxLen) : Tryz.prog.keyLits (Tryz.prog.types.size + 1) 44 [.string a, .string b, .string c] = some [.string a.data.toList, .string b.data.toList, .string c.data.toList] := by
  obtain ⟨k, hk⟩ := A.tsz
  have c1 : Tryz.prog.cellsOf 44 = 3 := by kernel_rfl
  have c2 : Tryz.prog.cellsOf 9 = 1 := by kernel_rfl
  rw [hk]
  simp [Program.keyLits, Tryz.underlying44, Tryz.underlying9, c1, c2, h1, h2, h3]
theorem A.keyN (a b c : ByteArray) (h1 : a.size ≤ maxLen) (h2 : b.size ≤ maxLen) (h3 : c.size ≤ maxLen) : keyOf Tryz.prog 44 (.agg #[.string a, .string b, .string c]) = some (.string (keyBytes [.string a.data.toList, .string b.data.toList, .string c.data.toList])) := by
  have c1 : Tryz.prog.cellsOf 44 = 3 := by kernel_rfl
  unfold keyOf
  rw [Tryz.underlying44]
  dsimp only
  rw [if_pos (by simp [A.keyT, Value.formed, Tryz.underlying44, c1])]
  show Option.map _ (Tryz.prog.keyLits (Tryz.prog.types.size + 1) 44 [.string a, .string b, .string c]) = _
  rw [A.litsN a b c h1 h2 h3]
  rfl
theorem A.zeroUnit (w : World) : (zeroValue 178).run Tryz.prog w = .ok (.agg #[]) w := by kernel_rfl
/-- A name as a key. -/
def kl (n : ByteArray × ByteArray) : Lit := .string (keyBytes [.string [], .string n.1.data.toList, .string n.2.data.toList])
def Fits (n : ByteArray × ByteArray) : Prop := n.1.size ≤ maxLen ∧ n.2.size ≤ maxLen
theorem key_of (n : ByteArray × ByteArray) (h : Fits n) : keyOf Tryz.prog 44 (ndV n) = some (kl n) := A.keyN ⟨#[]⟩ n.1 n.2 (by unfold maxLen; decide) h.1 h.2
theorem ba_eq {a b : ByteArray} (h : a.data.toList = b.data.toList) : a = b := by
  cases a; cases b
  simp only [ByteArray.mk.injEq]
  exact Array.toList_inj.1 h
theorem kl_inj {n m : ByteArray × ByteArray} (hn : Fits n) (hm : Fits m) (h : kl n = kl m) : n = m := by
  have h1 := A.litsN ⟨#[]⟩ n.1 n.2 (by unfold maxLen; decide) hn.1 hn.2
  have h2 := A.litsN ⟨#[]⟩ m.1 m.2 (by unfold maxLen; decide) hm.1 hm.2
  have h3 := keyLits_inj h1 h2 (Lit.string.inj h)
  simp only [List.cons.injEq, Lit.string.injEq, and_true, true_and] at h3
  exact Prod.ext (ba_eq h3.1) (ba_eq h3.2)
/-- A map that is the set of some names. -/
def NmM (w : World) (mb : Nat) (ah : List (ByteArray × ByteArray)) : Prop := ∃ D : DataW Unit, w.ownsMap Tryz.prog 44 unitElem mb ah.length D ∧ (∀ n, Fits n → Maps.has D (kl n) = Cf.inB n ah) ∧ ∀ n ∈ ah, Fits n
theorem NmM.new (w : World) : NmM (w.alloc (.map #[] 0)) w.heap.size [] := ⟨.map [], World.ownsMap_made w _ _ _, fun _ _ => rfl, fun _ h => by cases h⟩
theorem NmM.keep {w w' : World} {mb : Nat} {ah : List (ByteArray × ByteArray)} (h : NmM w mb ah) (hb : w'.heap[mb]? = w.heap[mb]?) : NmM w' mb ah := by
  obtain ⟨D, ⟨es, clock, h1, h2, h3, h4⟩, hd⟩ := h
  exact ⟨D, ⟨es, clock, hb.trans h1, h2, h3, h4⟩, hd⟩
theorem NmM.lt {w : World} {mb : Nat} {ah : List (ByteArray × ByteArray)} (h : NmM w mb ah) : mb < w.heap.size := by
  obtain ⟨D, ⟨es, clock, h1, -⟩, -⟩ := h
  exact (Array.getElem?_eq_some_iff.1 h1).1
theorem inB_snoc (n m : ByteArray × ByteArray) (ah : List (ByteArray × ByteArray)) : Cf.inB n (ah ++ [m]) = (Cf.inB n ah || decide (m.1 = n.1 ∧ m.2 = n.2)) := by
  unfold Cf.inB
  rw [List.any_append]
  simp
theorem NmM.look {w : World} {mb : Nat} {ah : List (ByteArray × ByteArray)} (h : NmM w mb ah) (n : ByteArray × ByteArray) (hn : Fits n) :
    (Instr.lookup 129 (.map (some mb)) (ndV n) true).run Tryz.prog w = .ok (.tuple #[.agg #[], .bool (Cf.inB n ah)]) w := by
  obtain ⟨D, h1, h2, -⟩ := h
  obtain ⟨v, ps, hrun, hv⟩ := h1.look_ok A.keyed Tryz.underlying129 (A.zeroUnit w) unitElem_mk (key_of n hn)
  obtain ⟨rfl, -⟩ := unitElem_inv hv
  rw [hrun, h2 n hn]
theorem NmM.put {w : World} {mb : Nat} {ah : List (ByteArray × ByteArray)} (h : NmM w mb ah) (n : ByteArray × ByteArray) (hn : Fits n) (hl : ah.length < maxLen) :
    ∃ w', (Instr.mapUpdate 129 (.map (some mb)) (ndV n) (.agg #[])).run Tryz.prog w = .ok () w' ∧ NmM w' mb (ah ++ [n]) ∧ w.grownBy w' (some mb) := by
  obtain ⟨D, h1, h2, h3⟩ := h
  obtain ⟨w', hr, ho, hg⟩ := h1.update A.keyed Tryz.underlying129 hl (key_of n hn) unitElem_mk
  refine ⟨w', hr, ⟨_, by rw [List.length_append]; exact ho, fun m hm => ?_, fun m hm => ?_⟩, hg⟩
  · rw [inB_snoc]
    by_cases e : m = n
    · subst e
      rw [Maps.has_put_same h1.isMap (by trivial) _]
      simp
    · rw [Maps.has_put_other (fun k => e (kl_inj hm hn k)), h2 m hm]
      have : decide (n.1 = m.1 ∧ n.2 = m.2) = false := by
        rw [decide_eq_false_iff_not]
        exact fun k => e (Prod.ext k.1.symm k.2.symm)
      rw [this, Bool.or_false]
  · rcases List.mem_append.1 hm with hm | hm
    · exact h3 m hm
    · rw [List.mem_singleton] at hm; subst hm; exact hn
end Go.Proofs.YtehjindeggmfpaaGreatDoor
namespace Go.Proofs.YtehjindeggmfpaaGreatDoor
open Go.RowKit

/-- A reader, what is left of its bytes, and its Code index. -/
def Rdr (w : World) (pb : Nat) (code : Int) (bs : List UInt8) : Prop := ∃ v, w.heap[pb]? = some (.cells #[v, .int .i64 code] 60 (0, 0)) ∧ L3.Bs pb w v bs
theorem Rdr.sz {w : World} {pb : Nat} {code : Int} {bs : List UInt8} (h : Rdr w pb code bs) : pb < w.heap.size := by obtain ⟨v, h, -⟩ := h; exact (Array.getElem?_eq_some_iff.1 h).1
theorem Rdr.below {w w' : World} {pb n : Nat} {code : Int} {bs : List UInt8} (h : Rdr w pb code bs) (hb : Below n w w') (hp : pb < n) : Rdr w' pb code bs := by
  obtain ⟨v, h, k⟩ := h
  exact ⟨v, (hb.block pb hp).trans h, k.below hb (by omega)⟩
theorem Rdr.grown {w w' : World} {pb : Nat} {code : Int} {bs : List UInt8} {row : Option Nat} (h : Rdr w pb code bs) (hg : w.grownBy w' row) (hne : ∀ k, row = some k → pb < k) : Rdr w' pb code bs := by
  have hs := h.sz
  obtain ⟨v, h, k⟩ := h
  have hb := fun b (hb : b ≤ pb) => hg.block b (by omega) (fun e => by have := hne b e.symm; omega)
  exact ⟨v, (hb pb (Nat.le_refl _)).trans h, k.same fun b o hl => World.cell?_of_block (hb b (by omega))⟩
def Stp (pb : Nat) (code : Int) (bs : List UInt8) (w w' : World) : Prop := w.grownBy w' (some pb) ∧ Rdr w' pb code bs
/-- What a method of the reader leaves: it gives up, or it has read something. -/
def RP {α : Type} (pb : Nat) (code : Int) (x : Except Int (α × List UInt8)) (V : World → Nat → Value → α → Prop) (w : World) (e : Ending) (w' : World) : Prop :=
  (∃ er, x = .error er ∧ e = L3.pan er ∧ w.grownBy w' (some pb)) ∨ (∃ a r v, x = .ok (a, r) ∧ e = .returned v ∧ V w' w.heap.size v a ∧ Stp pb code r w w')
def VI (_ : World) (_ : Nat) (v : Value) (n : Int) : Prop := v = .int .i64 n
def VU (_ : World) (_ : Nat) (v : Value) (_ : Unit) : Prop := v = .tuple #[]
def VB (pb : Nat) (w : World) (_ : Nat) (v : Value) (l : List UInt8) : Prop := L3.Bs pb w v l
theorem want_yes (pb : Nat) (er : Int) (w : World) : Calls Tryz.prog 131 #[.pointer (some ⟨pb, 0, none⟩), .bool true, .int .i64 er] w fun e w' => e = .returned (.tuple #[]) ∧ w = w' := by
  go_enter Tryz.func131, Tryz.ntmps131
  go_wp2
  exact bodyPost_end (results_none rfl _ _ _) rfl ⟨rfl, rfl⟩
theorem want_no (pb : Nat) (er : Int) (w : World) : Calls Tryz.prog 131 #[.pointer (some ⟨pb, 0, none⟩), .bool false, .int .i64 er] w fun e w' => e = L3.pan er ∧ w = w' := by
  unfold L3.pan
  go_enter Tryz.func131, Tryz.ntmps131
  go_wp2
  exact ⟨rfl, rfl, rfl⟩
theorem bx_set {w : World} {pb : Nat} {v x : Value} (h : w.heap[pb]? = some (.cells #[v, x] 60 (0, 0))) (u : Value) : (w.setCell ⟨pb, 0, none⟩ u).heap[pb]? = some (.cells #[u, x] 60 (0, 0)) := by
  obtain ⟨hlt, hk⟩ := Array.getElem?_eq_some_iff.1 h
  show (w.heap.modify pb _)[pb]? = _
  rw [Array.getElem?_eq_getElem (by rw [Array.size_modify]; exact hlt), Array.getElem_modify_self, hk]
  rfl
set_option maxRecDepth 100000 in
theorem take_bad (pb k : Nat) (code : Int) (bs : List UInt8) (w : World) (hr : Rdr w pb code bs) (h : bs.length < k) :
    Calls Tryz.prog 165 #[.pointer (some ⟨pb, 0, none⟩), .int .i64 k] w fun e w' => e = L3.pan 30 ∧ w = w' := by
  obtain ⟨v, hb, hv⟩ := hr
  obtain ⟨a, cap, rfl⟩ := hv.len
  have cl : w.cell? ⟨pb, 0, none⟩ = some (.slice a bs.length cap) := by simp [World.cell?, hb]
  have hd : decide ((k : Int) ≤ (bs.length : Int)) = false := by simp; omega
  have hd2 : decide (k ≤ bs.length) = false := by simp; omega
  have hl := hv.1
  have HN := hid (want_no pb 30)
  unfold L3.pan at HN ⊢
  clear hb hv h
  go_enter Tryz.func165, Tryz.ntmps165
  go_wp2_with (go_at_call 131; (with_reducible refine (HN.out _).mono ?_); rintro e w1 ⟨rfl, rfl⟩)
  exact ⟨rfl, rfl, rfl⟩
set_option maxRecDepth 100000 in
set_option maxHeartbeats 400000 in
theorem take_ok (pb k : Nat) (code : Int) (bs : List UInt8) (w : World) (hr : Rdr w pb code bs) (h : k ≤ bs.length) :
    Calls Tryz.prog 165 #[.pointer (some ⟨pb, 0, none⟩), .int .i64 k] w fun e w' => ∃ v, e = .returned v ∧ L3.Bs pb w' v (bs.take k) ∧ Stp pb code (bs.drop k) w w' := by
  obtain ⟨v, hb, hv⟩ := hr
  have hl := hv.1
  have HN := hid (want_yes pb 30)
  rcases hv.2 with ⟨rfl, a, cap, rfl⟩ | ⟨b, o, cap, rfl, hcap, hlim, hc⟩
  · obtain rfl : k = 0 := by simpa using h
    have cl : w.cell? ⟨pb, 0, none⟩ = some (.slice a 0 cap) := by simp [World.cell?, hb]
    have fz : w.frozen? ⟨pb, 0, none⟩ = false := by simp [World.frozen?, hb]
    clear hv h hl
    have Hb := hid hb
    clear hb
    cases a with
    | none =>
      go_enter Tryz.func165, Tryz.ntmps165
      go_wp2_with (go_at_call 131; refine (HN.out _).mono ?_; rintro e w1 ⟨rfl, rfl⟩)
      all_goals
        go_ret
        refine ⟨_, rfl, ⟨by simp, .inl ⟨rfl, _, _, rfl⟩⟩, L3.grownBy_setCell' _ _ _, _, bx_set Hb.out _, by simp, .inl ⟨rfl, _, _, rfl⟩⟩
    | some ad =>
      go_enter Tryz.func165, Tryz.ntmps165
      go_wp2_with (go_at_call 131; refine (HN.out _).mono ?_; rintro e w1 ⟨rfl, rfl⟩)
      all_goals
        go_ret
        refine ⟨_, rfl, ⟨by simp, .inl ⟨rfl, _, _, rfl⟩⟩, L3.grownBy_setCell' _ _ _, _, bx_set Hb.out _, by simp, .inl ⟨rfl, _, _, rfl⟩⟩
  · have cl : w.cell? ⟨pb, 0, none⟩ = some (.slice (some ⟨b, o, none⟩) bs.length cap) := by simp [World.cell?, hb]
    have fz : w.frozen? ⟨pb, 0, none⟩ = false := by simp [World.frozen?, hb]
    have hd : decide ((k : Int) ≤ (bs.length : Int)) = true := by simp; omega
    have Hb := hid hb
    have HC := hid hc
    have HK := hid h
    clear hv hb hc
    go_enter Tryz.func165, Tryz.ntmps165
    go_wp2_with (go_at_call 131; refine (HN.out _).mono ?_; rintro e w1 ⟨rfl, rfl⟩)
    all_goals
      go_ret
      refine ⟨_, rfl, ?_, L3.grownBy_setCell' _ _ _, _, bx_set Hb.out _, ?_⟩
    · refine ⟨by rw [List.length_take]; omega, .inr ⟨b, o, _, by rw [List.length_take, Nat.min_eq_left HK.out]; rfl, by rw [List.length_take]; omega, hlim, fun i c hi => ?_⟩⟩
      rw [L3.set_cell_other _ _ _ _ _ hlim]
      exact HC.out i c (L3.take_at hi)
    · have hk : bs.length = k := by have := HK.out; omega
      exact ⟨by rw [List.length_drop]; omega, .inl ⟨List.drop_eq_nil_of_le (by omega), _, _, by rw [hk, Nat.sub_self]⟩⟩
    · refine ⟨by rw [List.length_take]; omega, .inr ⟨b, o, _, by rw [List.length_take, Nat.min_eq_left HK.out]; rfl, by rw [List.length_take]; have := HK.out; omega, hlim, fun i c hi => ?_⟩⟩
      rw [L3.set_cell_other _ _ _ _ _ hlim]
      exact HC.out i c (L3.take_at hi)
    · refine ⟨by rw [List.length_drop]; omega, .inr ⟨b, o + k, _, by rw [List.length_drop], by rw [List.length_drop]; omega, hlim, fun i c hi => ?_⟩⟩
      rw [L3.set_cell_other _ _ _ _ _ hlim, Nat.add_assoc]
      exact HC.out (k + i) c (L3.drop_at hi)
theorem grown_refl' (w : World) (row : Option Nat) : w.grownBy w row := ⟨rfl, rfl, rfl, Nat.le_refl _, fun _ _ _ => rfl⟩
theorem take_any (pb k : Nat) (code : Int) (bs : List UInt8) (w : World) (hr : Rdr w pb code bs) :
    Calls Tryz.prog 165 #[.pointer (some ⟨pb, 0, none⟩), .int .i64 k] w (RP pb code (Cf.takeP k bs) (VB pb) w) := by
  unfold Cf.takeP
  by_cases h : k ≤ bs.length
  · rw [if_pos h]
    refine (take_ok pb k code bs w hr h).mono ?_
    rintro e w' ⟨v, rfl, h1, h2⟩
    exact .inr ⟨_, _, v, rfl, rfl, h1, h2⟩
  · rw [if_neg h]
    refine (take_bad pb k code bs w hr (by omega)).mono ?_
    rintro e w' ⟨rfl, rfl⟩
    exact .inl ⟨_, rfl, rfl, grown_refl' _ _⟩
theorem shl8 (a b : Nat) (ha : a < 256) (hb : b < 256) : bits .or .i64 ((a : Int) * 256) (b : Int) = (a : Int) * 256 + (b : Int) := by
  have h := L3.Cp.or_step (a : Int) b hb
  rw [L3.Cp.w64, L3.Cp.w64] at h
  rw [show ((a : Int) * 256 + 9223372036854775808) % 18446744073709551616 - 9223372036854775808 = (a : Int) * 256 by omega] at h
  rw [h]
  omega
set_option maxRecDepth 100000 in
set_option maxHeartbeats 400000 in
theorem u2_any (pb : Nat) (code : Int) (bs : List UInt8) (w : World) (hr : Rdr w pb code bs) :
    Calls Tryz.prog 133 #[.pointer (some ⟨pb, 0, none⟩)] w (RP pb code (Cf.u2 bs) VI w) := by
  by_cases h : 2 ≤ bs.length
  · match bs, h with
    | a :: b :: r, h =>
    have HT0 := take_ok pb 2 code (a :: b :: r) w hr h
    have HT := hid HT0
    have hab := shl8 a.toNat b.toNat (L3.Cp.u8_lt a) (L3.Cp.u8_lt b)
    have ha := L3.Cp.u8_lt a
    have hb := L3.Cp.u8_lt b
    clear HT0 hr
    unfold RP
    go_enter Tryz.func133, Tryz.ntmps133
    go_wp2_with (go_at_call 165; refine HT.out.mono ?_; rintro e w1 ⟨v, rfl, hv, hs⟩; obtain ⟨bb, o, cap, rfl, hbb, c0⟩ := (show ∃ bb o cap, v = .slice (some ⟨bb, o, none⟩) 2 cap ∧ bb < pb ∧ (w1.cell? ⟨bb, o, none⟩ = some (.int .u8 (a.toNat : Int)) ∧ w1.cell? ⟨bb, o + 1, none⟩ = some (.int .u8 (b.toNat : Int))) from (by (rcases hv.2 with ⟨h9, -⟩ | ⟨bb, o, cap, hv1, -, hlim, hc⟩); (· simp at h9); (· exact ⟨bb, o, cap, hv1, hlim, hc 0 a rfl, hc 1 b rfl⟩))); obtain ⟨c0, c1⟩ := c0; have HS := hid hs; clear hv hs)
    go_quiet (fail)
    go_wp2
    go_ret
    refine .inr ⟨_, _, _, rfl, rfl, ?_, ?_⟩
    · unfold VI; simp
    · have h1 := HS.out
      exact ⟨⟨h1.1.os, h1.1.tape, h1.1.output, h1.1.size, h1.1.block⟩, h1.2.below (n := w1.heap.size) (by repeat' first | with_reducible exact Below.refl _ _ | with_reducible assumption | with_reducible refine belows_drewN ?_ _ | with_reducible refine Below.drew ?_ | with_reducible refine Below.setCell ?_ ?_ _ | with_reducible refine Below.alloc ?_ ?_ _ | omega | (simp; done) | (simp; omega)) (by have := h1.2.sz; omega)⟩
  · have hx : Cf.u2 bs = .error 30 := by
      match bs, h with
      | [], _ => rfl
      | [_], _ => rfl
      | _ :: _ :: _, h => simp at h
    have HT := hid (take_bad pb 2 code bs w hr (by omega))
    unfold L3.pan at HT
    clear hr h
    unfold RP L3.pan
    go_enter Tryz.func133, Tryz.ntmps133
    go_wp2_with (go_at_call 165; refine HT.out.mono ?_; rintro e w1 ⟨rfl, rfl⟩)
    exact ⟨rfl, .inl ⟨_, hx, rfl, grown_refl' _ _⟩⟩
end Go.Proofs.YtehjindeggmfpaaGreatDoor
namespace Go.Proofs.YtehjindeggmfpaaGreatDoor
open Go.RowKit

theorem grown_al {w W : World} {r : Option Nat} (h : w.grownBy W r) (o : Obj) : w.grownBy (W.alloc o) r :=
  ⟨h.os, h.tape, h.output, by rw [World.size_alloc]; have := h.size; omega, fun i hi hne => ((((Below.refl W.heap.size W).alloc (Nat.le_refl _) o).block i (Nat.lt_of_lt_of_le hi h.size))).trans (h.block i hi hne)⟩
theorem grown_dr {w W : World} {r : Option Nat} (h : w.grownBy W r) : w.grownBy W.drew r := ⟨h.os, h.tape, h.output, h.size, h.block⟩
theorem Cf.u2_range {bs r : List UInt8} {n : Int} (h : Cf.u2 bs = .ok (n, r)) : 0 ≤ n ∧ n < 65536 := by
  match bs, h with
  | a :: b :: _, h =>
    obtain ⟨rfl, -⟩ := Prod.mk.inj (Except.ok.inj h)
    have := L3.Cp.u8_lt a
    have := L3.Cp.u8_lt b
    omega
  | [], h => cases h
  | [_], h => cases h
theorem or16 (a b : Int) (ha : 0 ≤ a ∧ a < 65536) (hb : 0 ≤ b ∧ b < 65536) : bits .or .i64 (a * 65536) b = a * 65536 + b := by
  obtain ⟨m, rfl⟩ := Int.eq_ofNat_of_zero_le ha.1
  obtain ⟨x, rfl⟩ := Int.eq_ofNat_of_zero_le hb.1
  have e1 : (BitVec.ofInt 64 ((m : Int) * 65536)).toNat = m * 65536 := by
    rw [BitVec.toNat_ofInt]
    have : ((m : Int) * 65536) % ((2 ^ 64 : Nat) : Int) = ((m * 65536 : Nat) : Int) := by omega
    rw [this]; omega
  have e2 : (BitVec.ofInt 64 (x : Int)).toNat = x := by
    rw [BitVec.toNat_ofInt]
    have : (x : Int) % ((2 ^ 64 : Nat) : Int) = (x : Int) := by omega
    rw [this]; omega
  have e3 : m * 65536 ||| x = m * 65536 + x := by
    have := Nat.shiftLeft_add_eq_or_of_lt (i := 16) (b := x) (by omega) m
    rw [Nat.shiftLeft_eq] at this
    simp only [Nat.reducePow] at this
    exact this.symm
  show IntKind.i64.wrap ((BitVec.ofInt 64 ((m : Int) * 65536) ||| BitVec.ofInt 64 (x : Int)).toNat : Int) = _
  rw [BitVec.toNat_or, e1, e2, e3]
  exact IntWalk.i64_in _ (by omega)
set_option maxRecDepth 100000 in
set_option maxHeartbeats 400000 in
theorem u4_any (pb : Nat) (code : Int) (bs : List UInt8) (w : World) (hr : Rdr w pb code bs) :
    Calls Tryz.prog 132 #[.pointer (some ⟨pb, 0, none⟩)] w (RP pb code (Cf.u4 bs) VI w) := by
  have HU := hid (fun bs W (h : Rdr W pb code bs) => u2_any pb code bs W h)
  have HR := hr
  have HG := grown_refl' w (some pb)
  obtain ⟨X, HE⟩ : ∃ X, Cf.u4 bs = X := ⟨_, rfl⟩
  rw [HE]
  unfold Cf.u4 at HE
  unfold RP L3.pan VI at HU ⊢
  clear hr
  go_enter Tryz.func132, Tryz.ntmps132
  go_wp2_with (go_at_call 133; refine (HU.out _ _ (by first | exact HR | exact HR.below (n := pb + 1) (by repeat' first | with_reducible exact Below.refl _ _ | with_reducible assumption | with_reducible refine belows_drewN ?_ _ | with_reducible refine Below.drew ?_ | with_reducible refine Below.setCell ?_ ?_ _ | with_reducible refine Below.alloc ?_ ?_ _ | omega | (simp; done) | (simp; omega)) (Nat.lt_succ_self pb))).mono ?_; rintro e W h; rcases h with ⟨er, hx, rfl, hg⟩ | ⟨n, r, v, hx, rfl, rfl, hs⟩; all_goals (first | (rw [Cf.bnd_err hx] at HE; have HG : w.grownBy W (some pb) := L3.grown_trans (by repeat' first | with_reducible assumption | with_reducible exact grown_refl' _ _ | with_reducible refine L3.grown_set ?_ ?_ _ _ | with_reducible refine grown_al ?_ _ | with_reducible refine grown_dr ?_ | omega | (simp only [World.size_alloc, World.size_setCell]; omega)) hg) | (have hn := Cf.u2_range hx; rw [Cf.bnd_ok hx] at HE; have HG : w.grownBy W (some pb) := L3.grown_trans (by repeat' first | with_reducible assumption | with_reducible exact grown_refl' _ _ | with_reducible refine L3.grown_set ?_ ?_ _ _ | with_reducible refine grown_al ?_ _ | with_reducible refine grown_dr ?_ | omega | (simp only [World.size_alloc, World.size_setCell]; omega)) hs.1; have HR := hs.2; have hz := HG.size; have hp := HR.sz)); clear hx)
  · (exact ⟨rfl, .inl ⟨_, HE.symm, rfl, HG⟩⟩)
  · (exact ⟨rfl, .inl ⟨_, HE.symm, rfl, HG⟩⟩)
  · go_ret
    exact .inr ⟨_, _, _, HE.symm, rfl, by simp; exact or16 _ _ (by assumption) (by assumption), HG, HR⟩
set_option maxRecDepth 100000 in
set_option maxHeartbeats 400000 in
theorem none_any (pb : Nat) (code : Int) (bs : List UInt8) (w : World) (hr : Rdr w pb code bs) :
    Calls Tryz.prog 135 #[.pointer (some ⟨pb, 0, none⟩)] w (RP pb code (Cf.noneP bs) VU w) := by
  have HU := hid (fun bs W (h : Rdr W pb code bs) => u2_any pb code bs W h)
  have HR := hr
  have HG := grown_refl' w (some pb)
  obtain ⟨X, HE⟩ : ∃ X, Cf.noneP bs = X := ⟨_, rfl⟩
  rw [HE]
  have HY := hid (want_yes pb 43)
  have HN := hid (want_no pb 43)
  unfold Cf.noneP at HE
  unfold RP L3.pan VI VU at *
  clear hr
  go_enter Tryz.func135, Tryz.ntmps135
  go_wp2_with (first | (go_at_call 133; refine (HU.out _ _ (by first | exact HR | exact HR.below (n := pb + 1) (by repeat' first | with_reducible exact Below.refl _ _ | with_reducible assumption | with_reducible refine belows_drewN ?_ _ | with_reducible refine Below.drew ?_ | with_reducible refine Below.setCell ?_ ?_ _ | with_reducible refine Below.alloc ?_ ?_ _ | omega | (simp; done) | (simp; omega)) (Nat.lt_succ_self pb))).mono ?_; rintro e W h; rcases h with ⟨er, hx, rfl, hg⟩ | ⟨n, r, v, hx, rfl, rfl, hs⟩; all_goals (first | (rw [Cf.bnd_err hx] at HE; have HG : w.grownBy W (some pb) := L3.grown_trans (by repeat' first | with_reducible assumption | with_reducible exact grown_refl' _ _ | with_reducible refine L3.grown_set ?_ ?_ _ _ | with_reducible refine grown_al ?_ _ | with_reducible refine grown_dr ?_ | omega | (simp only [World.size_alloc, World.size_setCell]; omega)) hg) | (have hn := Cf.u2_range hx; rw [Cf.bnd_ok hx] at HE; have HG : w.grownBy W (some pb) := L3.grown_trans (by repeat' first | with_reducible assumption | with_reducible exact grown_refl' _ _ | with_reducible refine L3.grown_set ?_ ?_ _ _ | with_reducible refine grown_al ?_ _ | with_reducible refine grown_dr ?_ | omega | (simp only [World.size_alloc, World.size_setCell]; omega)) hs.1; have HR := hs.2; have hz := HG.size; have hp := HR.sz)); clear hx) | (go_at_call 131; obtain ⟨x, hx⟩ : ∃ x, x = (n == 0) := ⟨_, rfl⟩; rw [← hx] at HE ⊢; clear hx; cases x; all_goals (first | ((with_reducible refine (HN.out _).mono ?_); rintro e w1 ⟨rfl, rfl⟩) | ((with_reducible refine (HY.out _).mono ?_); rintro e w1 ⟨rfl, rfl⟩))))
  · (exact ⟨rfl, .inl ⟨_, HE.symm, rfl, HG⟩⟩)
  · (exact ⟨rfl, .inl ⟨_, HE.symm, rfl, HG⟩⟩)
  · (refine bodyPost_end (results_none rfl _ _ _) rfl ?_; exact .inr ⟨_, _, _, HE.symm, rfl, rfl, HG, HR⟩)
end Go.Proofs.YtehjindeggmfpaaGreatDoor
namespace Go.Proofs.YtehjindeggmfpaaGreatDoor
open Go.RowKit

def mbV0 (m : Cf.Mb) : Value := .agg #[.int .i64 m.ac, .int .i64 m.nm, .int .i64 m.ds, .int .i64 0, .int .i64 0, .slice none 0 0, .slice none 0 0]
def VM0 (_ : World) (_ : Nat) (v : Value) (m : Cf.Mb) : Prop := v = mbV0 m ∧ m.st = 0 ∧ m.lc = 0 ∧ m.code = [] ∧ m.hs = []
def hnV (h : Cf.Hn) : Value := .agg #[.int .i64 h.f, .int .i64 h.t, .int .i64 h.a, .int .i64 h.y]
def VH (_ : World) (_ : Nat) (v : Value) (h : Cf.Hn) : Prop := v = hnV h
theorem Rdr.keep {w w' : World} {pb : Nat} {code : Int} {bs : List UInt8} (h : Rdr w pb code bs) (hb : Below (pb + 1) w w') : Rdr w' pb code bs := h.below hb (Nat.lt_succ_self pb)
set_option maxRecDepth 100000 in
set_option maxHeartbeats 400000 in
theorem mem_any (pb : Nat) (code : Int) (bs : List UInt8) (w : World) (hr : Rdr w pb code bs) :
    Calls Tryz.prog 167 #[.pointer (some ⟨pb, 0, none⟩)] w (RP pb code (Cf.mbP bs) VM0 w) := by
  have HU := hid (fun bs W (h : Rdr W pb code bs) => u2_any pb code bs W h)
  have HR := hr
  have HG := grown_refl' w (some pb)
  have hp0 := hr.sz
  obtain ⟨X, HE⟩ : ∃ X, Cf.mbP bs = X := ⟨_, rfl⟩
  rw [HE]
  unfold Cf.mbP at HE
  unfold RP L3.pan VI at HU
  unfold RP L3.pan VM0 mbV0
  clear hr
  go_enter Tryz.func167, Tryz.ntmps167
  go_wp2_with ((go_at_call 133; refine (HU.out _ _ (by first | exact HR | exact HR.below (n := pb + 1) (by repeat' first | with_reducible exact Below.refl _ _ | with_reducible assumption | with_reducible refine belows_drewN ?_ _ | with_reducible refine Below.drew ?_ | with_reducible refine Below.setCell ?_ ?_ _ | with_reducible refine Below.alloc ?_ ?_ _ | omega | (simp; done) | (simp; omega)) (Nat.lt_succ_self pb))).mono ?_; rintro e W h; rcases h with ⟨er, hx, rfl, hg⟩ | ⟨n, r, v, hx, rfl, rfl, hs⟩; all_goals (first | (rw [Cf.bnd_err hx] at HE; have HG : w.grownBy W (some pb) := L3.grown_trans (by repeat' first | with_reducible assumption | with_reducible exact grown_refl' _ _ | with_reducible refine L3.grown_set ?_ ?_ _ _ | with_reducible refine grown_al ?_ _ | with_reducible refine grown_dr ?_ | omega | (simp only [World.size_alloc, World.size_setCell]; omega)) hg) | (have hn := Cf.u2_range hx; rw [Cf.bnd_ok hx] at HE; have HG : w.grownBy W (some pb) := L3.grown_trans (by repeat' first | with_reducible assumption | with_reducible exact grown_refl' _ _ | with_reducible refine L3.grown_set ?_ ?_ _ _ | with_reducible refine grown_al ?_ _ | with_reducible refine grown_dr ?_ | omega | (simp only [World.size_alloc, World.size_setCell]; omega)) hs.1; have HR := hs.2; have hz := HG.size; have hp := HR.sz)); clear hx); all_goals (try (have HX := (show L3.BX W w.heap.size #[.int .i64 0, .int .i64 0, .int .i64 0, .int .i64 0, .int .i64 0, .slice none 0 0, .slice none 0 0] 42 from (by first | exact L3.BX.grown HX hs.1 (fun e => by have := Option.some.inj e; omega) | exact L3.BX.grown (L3.BX.new w _ _) hs.1 (fun e => by have := Option.some.inj e; omega))); have x0 := HX.cell 0; have x1 := HX.cell 1; have x2 := HX.cell 2; have x3 := HX.cell 3; have x4 := HX.cell 4; have x5 := HX.cell 5; have x6 := HX.cell 6; simp at x0 x1 x2 x3 x4 x5 x6; have y0 := HX.frozen 0; have y1 := HX.frozen 1; have y2 := HX.frozen 2; have y3 := HX.frozen 3; have y4 := HX.frozen 4; have y5 := HX.frozen 5; have y6 := HX.frozen 6)))
  · (exact ⟨rfl, .inl ⟨_, HE.symm, rfl, HG⟩⟩)
  · (exact ⟨rfl, .inl ⟨_, HE.symm, rfl, HG⟩⟩)
  · (exact ⟨rfl, .inl ⟨_, HE.symm, rfl, HG⟩⟩)
  · exact bodyPost_ret (v := .agg #[.int .i64 _, .int .i64 _, .int .i64 n, .int .i64 0, .int .i64 0, .slice none 0 0, .slice none 0 0]) (by simp [results, Tryz.results167, go_sem, x0, x1, x2, x3, x4, x5, x6]) rfl (.inr ⟨_, _, _, HE.symm, rfl, ⟨rfl, rfl, rfl, rfl, rfl⟩, (by repeat' first | with_reducible assumption | with_reducible exact grown_refl' _ _ | with_reducible refine L3.grown_set ?_ ?_ _ _ | with_reducible refine grown_al ?_ _ | with_reducible refine grown_dr ?_ | omega | (simp only [World.size_alloc, World.size_setCell]; omega)), HR.keep (by repeat' first | with_reducible exact Below.refl _ _ | with_reducible assumption | with_reducible refine belows_drewN ?_ _ | with_reducible refine Below.drew ?_ | with_reducible refine Below.setCell ?_ ?_ _ | with_reducible refine Below.alloc ?_ ?_ _ | omega | (simp; done) | (simp; omega))⟩)
set_option maxRecDepth 100000 in
set_option maxHeartbeats 400000 in
theorem handler_any (pb : Nat) (code : Int) (bs : List UInt8) (w : World) (hr : Rdr w pb code bs) :
    Calls Tryz.prog 169 #[.pointer (some ⟨pb, 0, none⟩)] w (RP pb code (Cf.hnP bs) VH w) := by
  have HU := hid (fun bs W (h : Rdr W pb code bs) => u2_any pb code bs W h)
  have HR := hr
  have HG := grown_refl' w (some pb)
  have hp0 := hr.sz
  obtain ⟨X, HE⟩ : ∃ X, Cf.hnP bs = X := ⟨_, rfl⟩
  rw [HE]
  unfold Cf.hnP at HE
  unfold RP L3.pan VI at HU
  unfold RP L3.pan VH hnV
  clear hr
  go_enter Tryz.func169, Tryz.ntmps169
  go_wp2_with ((go_at_call 133; refine (HU.out _ _ (by first | exact HR | exact HR.below (n := pb + 1) (by repeat' first | with_reducible exact Below.refl _ _ | with_reducible assumption | with_reducible refine belows_drewN ?_ _ | with_reducible refine Below.drew ?_ | with_reducible refine Below.setCell ?_ ?_ _ | with_reducible refine Below.alloc ?_ ?_ _ | omega | (simp; done) | (simp; omega)) (Nat.lt_succ_self pb))).mono ?_; rintro e W h; rcases h with ⟨er, hx, rfl, hg⟩ | ⟨n, r, v, hx, rfl, rfl, hs⟩; all_goals (first | (rw [Cf.bnd_err hx] at HE; have HG : w.grownBy W (some pb) := L3.grown_trans (by repeat' first | with_reducible assumption | with_reducible exact grown_refl' _ _ | with_reducible refine L3.grown_set ?_ ?_ _ _ | with_reducible refine grown_al ?_ _ | with_reducible refine grown_dr ?_ | omega | (simp only [World.size_alloc, World.size_setCell]; omega)) hg) | (have hn := Cf.u2_range hx; rw [Cf.bnd_ok hx] at HE; have HG : w.grownBy W (some pb) := L3.grown_trans (by repeat' first | with_reducible assumption | with_reducible exact grown_refl' _ _ | with_reducible refine L3.grown_set ?_ ?_ _ _ | with_reducible refine grown_al ?_ _ | with_reducible refine grown_dr ?_ | omega | (simp only [World.size_alloc, World.size_setCell]; omega)) hs.1; have HR := hs.2; have hz := HG.size; have hp := HR.sz)); clear hx); all_goals (try (have HX := (show L3.BX W w.heap.size #[.int .i64 0, .int .i64 0, .int .i64 0, .int .i64 0] 58 from (by first | exact L3.BX.grown HX hs.1 (fun e => by have := Option.some.inj e; omega) | exact L3.BX.grown (L3.BX.new w _ _) hs.1 (fun e => by have := Option.some.inj e; omega))); have x0 := HX.cell 0; have x1 := HX.cell 1; have x2 := HX.cell 2; have x3 := HX.cell 3; simp at x0 x1 x2 x3; have y0 := HX.frozen 0; have y1 := HX.frozen 1; have y2 := HX.frozen 2; have y3 := HX.frozen 3)))
  · (exact ⟨rfl, .inl ⟨_, HE.symm, rfl, HG⟩⟩)
  · (exact ⟨rfl, .inl ⟨_, HE.symm, rfl, HG⟩⟩)
  · (exact ⟨rfl, .inl ⟨_, HE.symm, rfl, HG⟩⟩)
  · (exact ⟨rfl, .inl ⟨_, HE.symm, rfl, HG⟩⟩)
  · exact bodyPost_ret (v := .agg #[.int .i64 _, .int .i64 _, .int .i64 _, .int .i64 n]) (by simp [results, Tryz.results169, go_sem, x0, x1, x2, x3]) rfl (.inr ⟨_, _, _, HE.symm, rfl, rfl, (by repeat' first | with_reducible assumption | with_reducible exact grown_refl' _ _ | with_reducible refine L3.grown_set ?_ ?_ _ _ | with_reducible refine grown_al ?_ _ | with_reducible refine grown_dr ?_ | omega | (simp only [World.size_alloc, World.size_setCell]; omega)), HR.keep (by repeat' first | with_reducible exact Below.refl _ _ | with_reducible assumption | with_reducible refine belows_drewN ?_ _ | with_reducible refine Below.drew ?_ | with_reducible refine Below.setCell ?_ ?_ _ | with_reducible refine Below.alloc ?_ ?_ _ | omega | (simp; done) | (simp; omega))⟩)
end Go.Proofs.YtehjindeggmfpaaGreatDoor
namespace Go.Proofs.YtehjindeggmfpaaGreatDoor
open Go.RowKit

/-- Lists held against each other, one by one. -/
def All2 {α β : Type} (R : α → β → Prop) : List α → List β → Prop
  | [], [] => True
  | a :: l, b :: m => R a b ∧ All2 R l m
  | _, _ => False
theorem All2.mono {α β : Type} {R S : α → β → Prop} (h : ∀ a b, R a b → S a b) : ∀ {l : List α} {m : List β}, All2 R l m → All2 S l m
  | [], [], _ => trivial
  | _ :: _, _ :: _, k => ⟨h _ _ k.1, k.2.mono h⟩
  | [], _ :: _, k => k.elim
  | _ :: _, [], k => k.elim
theorem All2.append {α β : Type} {R : α → β → Prop} : ∀ {l : List α} {m : List β} {a : α} {b : β}, All2 R l m → R a b → All2 R (l ++ [a]) (m ++ [b])
  | [], [], _, _, _, h => ⟨h, trivial⟩
  | _ :: _, _ :: _, _, _, h, k => ⟨h.1, h.2.append k⟩
  | [], _ :: _, _, _, h, _ => h.elim
  | _ :: _, [], _, _, h, _ => h.elim
/-- A member's cells; code and handlers in rows of the call's own. -/
def OMb (w : World) (base : Nat) (cs : List Value) (m : Cf.Mb) : Prop :=
  ∃ cv hv, cs = [.int .i64 m.ac, .int .i64 m.nm, .int .i64 m.ds, .int .i64 m.st, .int .i64 m.lc, cv, hv] ∧ w.ownsRow base 5 1 cv m.code.length (m.code.map L3.bv) ∧ w.ownsRow base 58 4 hv m.hs.length (m.hs.flatMap hL) ∧
    m.code.length ≤ 140737488355328 ∧ m.hs.length ≤ 140737488355328
theorem OMb.len {w : World} {base : Nat} {cs : List Value} {m : Cf.Mb} (h : OMb w base cs m) : cs.length = 7 := by obtain ⟨cv, hv, rfl, -⟩ := h; rfl
/-- A row of another sort than what has grown. -/
theorem owns_apart {w w' : World} {base base' : Nat} {e e' : TypeId} {size size' : Nat} {v v' : Value} {n n' : Nat} {xs xs' : List Value} (h : w.ownsRow base e size v n xs) (k : w.ownsRow base' e' size' v' n' xs') (hne : e ≠ e') (hg : w.grownBy w' v'.ownBlock) : w'.ownsRow base e size v n xs := by
  refine ⟨h.1, ?_⟩
  rcases h.2 with h2 | ⟨g, cap, cur, hv, hge, hh, r⟩
  · exact .inl h2
  · refine .inr ⟨g, cap, cur, hv, hge, ?_, r⟩
    rw [hg.block g (Array.getElem?_eq_some_iff.1 hh).1 ?_]
    · exact hh
    · intro e2
      rcases k.2 with ⟨rfl, -⟩ | ⟨g', cap', cur', hv', -, hh', -⟩
      · simp [Value.ownBlock] at e2
      · rw [hv'] at e2
        simp only [Value.ownBlock, Option.some.injEq] at e2
        subst e2
        rw [hh] at hh'
        have := Obj.cells.inj (Option.some.inj hh')
        exact hne this.2.1
theorem OMb.below {w w' : World} {base B : Nat} {cs : List Value} {m : Cf.Mb} (h : OMb w base cs m) (hb : Below B w w') (hB : w.heap.size ≤ B) : OMb w' base cs m := by
  obtain ⟨cv, hv, h1, h2, h3, h4⟩ := h
  exact ⟨cv, hv, h1, Kit.owns_below h2 hb hB, Kit.owns_below h3 hb hB, h4⟩
theorem OMb.grown {w w' : World} {base r : Nat} {cs : List Value} {m : Cf.Mb} (h : OMb w base cs m) (hg : w.grownBy w' (some r)) (hr : r < base) : OMb w' base cs m := by
  obtain ⟨cv, hv, h1, h2, h3, h4⟩ := h
  exact ⟨cv, hv, h1, Kit.owns_grown h2 hg hr, Kit.owns_grown h3 hg hr, h4⟩
theorem OMb.mono {w : World} {base base' : Nat} {cs : List Value} {m : Cf.Mb} (h : OMb w base cs m) (hb : base' ≤ base) : OMb w base' cs m := by
  obtain ⟨cv, hv, h1, h2, h3, h4⟩ := h
  exact ⟨cv, hv, h1, L3.own_mono h2 hb, L3.own_mono h3 hb, h4⟩
theorem OMb.apart {w w' : World} {base base' : Nat} {cs : List Value} {m : Cf.Mb} {v' : Value} {n' : Nat} {xs' : List Value} (h : OMb w base cs m) (k : w.ownsRow base' 42 7 v' n' xs') (hg : w.grownBy w' v'.ownBlock) : OMb w' base cs m := by
  obtain ⟨cv, hv, h1, h2, h3, h4⟩ := h
  exact ⟨cv, hv, h1, owns_apart h2 k (by decide) hg, owns_apart h3 k (by decide) hg, h4⟩
/-- Members in rows of the call's own. -/
def OMs (w : World) (base : Nat) (v : Value) (ms : List Cf.Mb) : Prop := ∃ rs, All2 (OMb w base) rs ms ∧ w.ownsRow base 42 7 v ms.length rs.flatten
theorem OMs.below {w w' : World} {base B : Nat} {v : Value} {ms : List Cf.Mb} (h : OMs w base v ms) (hb : Below B w w') (hB : w.heap.size ≤ B) : OMs w' base v ms := by
  obtain ⟨rs, h1, h2⟩ := h
  exact ⟨rs, h1.mono fun _ _ k => k.below hb hB, Kit.owns_below h2 hb hB⟩
theorem OMs.grown {w w' : World} {base r : Nat} {v : Value} {ms : List Cf.Mb} (h : OMs w base v ms) (hg : w.grownBy w' (some r)) (hr : r < base) : OMs w' base v ms := by
  obtain ⟨rs, h1, h2⟩ := h
  exact ⟨rs, h1.mono fun _ _ k => k.grown hg hr, Kit.owns_grown h2 hg hr⟩
theorem OMs.mono {w : World} {base base' : Nat} {v : Value} {ms : List Cf.Mb} (h : OMs w base v ms) (hb : base' ≤ base) : OMs w base' v ms := by
  obtain ⟨rs, h1, h2⟩ := h
  exact ⟨rs, h1.mono fun _ _ k => k.mono hb, L3.own_mono h2 hb⟩
theorem OMs.nil (w : World) (base : Nat) : OMs w base (.slice none 0 0) [] := ⟨[], trivial, rfl, .inl ⟨rfl, rfl⟩⟩
theorem OMs.len {w : World} {base : Nat} {v : Value} {ms : List Cf.Mb} (h : OMs w base v ms) : ∃ a cap, v = .slice a ms.length cap := by
  obtain ⟨rs, h1, h2⟩ := h
  exact L3.own_form h2
/-- As they read. -/
theorem bs_of_owns {w : World} {base : Nat} {v : Value} {l : List UInt8} (h : w.ownsRow base 5 1 v l.length (l.map L3.bv)) (hl : l.length ≤ 140737488355328) : L3.Bs w.heap.size w v l := by
  refine ⟨by omega, ?_⟩
  rcases (Kit.isS_of_owns h hl).2.2 with ⟨h0, a, cap, rfl⟩ | ⟨b, o, cap, rfl, hcap, hlt, hc⟩
  · exact .inl ⟨List.length_eq_zero_iff.1 h0, a, cap, rfl⟩
  · exact .inr ⟨b, o, cap, rfl, hcap, hlt, fun i c hi => hc i _ (by rw [List.getElem?_map, hi]; rfl)⟩
theorem OMb.reads {w : World} {base : Nat} {cs : List Value} {m : Cf.Mb} (h : OMb w base cs m) : MbR w cs m := by
  obtain ⟨cv, hv, h1, h2, h3, h4, h5⟩ := h
  exact ⟨cv, hv, h1, bs_of_owns h2 h4, Kit.isS_of_owns h3 h5, h4⟩
theorem reads_all {w : World} : ∀ {rs : List (List Value)} {ms : List Cf.Mb}, All2 (MbR w) rs ms → MsC w rs ms
  | [], [], _ => trivial
  | _ :: _, _ :: _, h => ⟨h.1, reads_all h.2⟩
  | [], _ :: _, h => h.elim
  | _ :: _, [], h => h.elim
theorem OMs.reads {w : World} {base : Nat} {v : Value} {ms : List Cf.Mb} (h : OMs w base v ms) (hl : ms.length ≤ 140737488355328) : MsR w v ms := by
  obtain ⟨rs, h1, h2⟩ := h
  exact ⟨rs, reads_all (h1.mono fun _ _ k => k.reads), Kit.isS_of_owns h2 hl⟩
/-- A class in rows of the call's own. -/
def OCl (w : World) (base : Nat) (vs : Array Value) (c : Cf.Cl) : Prop :=
  ∃ pv fv mv, vs = #[.int .i64 c.mi, .int .i64 c.ma, pv, .int .i64 c.ac, .int .i64 c.th, .int .i64 c.su, fv, mv] ∧ L3.OwnC w base pv c.pool ∧ OMs w base fv c.fs ∧ OMs w base mv c.ms
theorem OCl.below {w w' : World} {base B : Nat} {vs : Array Value} {c : Cf.Cl} (h : OCl w base vs c) (hb : Below B w w') (hB : w.heap.size ≤ B) : OCl w' base vs c := by
  obtain ⟨pv, fv, mv, h1, h2, h3, h4⟩ := h
  exact ⟨pv, fv, mv, h1, Kit.owns_below h2 hb hB, h3.below hb hB, h4.below hb hB⟩
theorem OCl.grown {w w' : World} {base r : Nat} {vs : Array Value} {c : Cf.Cl} (h : OCl w base vs c) (hg : w.grownBy w' (some r)) (hr : r < base) : OCl w' base vs c := by
  obtain ⟨pv, fv, mv, h1, h2, h3, h4⟩ := h
  exact ⟨pv, fv, mv, h1, Kit.owns_grown h2 hg hr, h3.grown hg hr, h4.grown hg hr⟩
theorem OCl.mono {w : World} {base base' : Nat} {vs : Array Value} {c : Cf.Cl} (h : OCl w base vs c) (hb : base' ≤ base) : OCl w base' vs c := by
  obtain ⟨pv, fv, mv, h1, h2, h3, h4⟩ := h
  exact ⟨pv, fv, mv, h1, L3.own_mono h2 hb, h3.mono hb, h4.mono hb⟩
/-- How long lists may be to be read. -/
def Cf.Sz (c : Cf.Cl) : Prop := c.pool.length ≤ 140737488355328 ∧ c.fs.length ≤ 140737488355328 ∧ c.ms.length ≤ 140737488355328
theorem OCl.reads {w : World} {base : Nat} {vs : Array Value} {c : Cf.Cl} (h : OCl w base vs c) (hs : Cf.Sz c) : ClR w vs c := by
  obtain ⟨pv, fv, mv, h1, h2, h3, h4⟩ := h
  exact ⟨pv, fv, mv, h1, Kit.isS_of_owns h2 hs.1, h3.reads hs.2.1, h4.reads hs.2.2⟩
/-- What a list in the course of being read comes to. -/
def Cf.listA {α : Type} (p : Cf.Ps α) (k : Nat) (xs : List α) : Cf.Ps (List α) := fun l => match Cf.listP p k l with
  | .error e => .error e
  | .ok (ys, r) => .ok (xs ++ ys, r)
theorem Cf.listA_nil {α : Type} (p : Cf.Ps α) (k : Nat) (l : List UInt8) : Cf.listA p k [] l = Cf.listP p k l := by
  unfold Cf.listA
  cases Cf.listP p k l <;> rfl
theorem Cf.listA_zero {α : Type} (p : Cf.Ps α) (xs : List α) (l : List UInt8) : Cf.listA p 0 xs l = .ok (xs, l) := by
  unfold Cf.listA Cf.listP Cf.ret
  dsimp only
  rw [List.append_nil]
theorem Cf.listA_err {α : Type} {p : Cf.Ps α} {k : Nat} {xs : List α} {l : List UInt8} {e : Int} (h : p l = .error e) : Cf.listA p (k + 1) xs l = .error e := by
  unfold Cf.listA Cf.listP
  rw [Cf.bnd_err h]
theorem Cf.listA_ok {α : Type} {p : Cf.Ps α} {k : Nat} {xs : List α} {l r : List UInt8} {a : α} (h : p l = .ok (a, r)) : Cf.listA p (k + 1) xs l = Cf.listA p k (xs ++ [a]) r := by
  unfold Cf.listA
  rw [Cf.listP, Cf.bnd_ok h]
  unfold Cf.bnd Cf.ret
  cases Cf.listP p k r with
  | error e => rfl
  | ok y =>
    obtain ⟨ys, r2⟩ := y
    dsimp only
    rw [List.append_assoc, List.singleton_append]
theorem infoH : (Tryz.prog.info? 58).map (fun i => (i.zero, i.size, i.bytes)) = some (some (.agg #[.int .i64 0, .int .i64 0, .int .i64 0, .int .i64 0]), 4, 32) := by kernel_rfl
theorem infoM : (Tryz.prog.info? 42).map (fun i => (i.zero, i.size, i.bytes)) = some (some (.agg #[.int .i64 0, .int .i64 0, .int .i64 0, .int .i64 0, .int .i64 0, .slice none 0 0, .slice none 0 0]), 7, 88) := by kernel_rfl
end Go.Proofs.YtehjindeggmfpaaGreatDoor
namespace Go.Proofs.YtehjindeggmfpaaGreatDoor
open Go.RowKit

theorem news_h (w : World) (h : Cf.Hn) : ∀ j u, (hL h)[j]? = some u → (w.alloc (.cells #[.int .i64 h.f, .int .i64 h.t, .int .i64 h.a, .int .i64 h.y] 58)).cell? ((⟨w.heap.size, 0, none⟩ : Addr).add j) = some u := by
  intro j u hj
  match j, hj with
  | 0, hj | 1, hj | 2, hj | 3, hj => simp [hL] at hj; subst hj; simp [Addr.add, go_sem]
  | j + 4, hj => simp [hL] at hj
theorem ones_h (h : Cf.Hn) : ∀ u ∈ hL h, u.oneCell' = true := by
  intro u hu
  simp [hL] at hu
  rcases hu with rfl | rfl | rfl | rfl <;> rfl
/-- The row of a list that has grown by an append: what else was written is new. -/
theorem grown_row {w W w' : World} {pb : Nat} {v : Value} {e : TypeId} {size n : Nat} {xs : List Value} (h : w.grownBy W (some pb)) (ho : W.ownsRow w.heap.size e size v n xs) (hg : W.grownBy w' v.ownBlock) : w.grownBy w' (some pb) :=
  ⟨hg.os.trans h.os, hg.tape.trans h.tape, hg.output.trans h.output, Nat.le_trans h.size hg.size, fun i hi hne =>
    (hg.block i (Nat.lt_of_lt_of_le hi h.size) (fun e => by have := Kit.own_base ho i e.symm; omega)).trans (h.block i hi hne)⟩
theorem Rdr.row {w W w' : World} {pb : Nat} {code : Int} {bs : List UInt8} {v : Value} {e : TypeId} {size n : Nat} {xs : List Value} (h : Rdr W pb code bs) (hp : pb < w.heap.size) (ho : W.ownsRow w.heap.size e size v n xs) (hg : W.grownBy w' v.ownBlock) : Rdr w' pb code bs :=
  h.grown hg (fun k e => by have := Kit.own_base ho k e; omega)
def handlerFn : Value := .func (.func 169) #[] #[]
def VHs (w : World) (base : Nat) (v : Value) (hs : List Cf.Hn) : Prop := w.ownsRow base 58 4 v hs.length (hs.flatMap hL) ∧ hs.length ≤ 65535
set_option maxRecDepth 100000 in
set_option maxHeartbeats 1000000 in
theorem hlist_any (pb : Nat) (code : Int) (bs : List UInt8) (w : World) (hr : Rdr w pb code bs) :
    Calls Tryz.prog 168 #[.pointer (some ⟨pb, 0, none⟩), handlerFn] w (RP pb code (Cf.listN Cf.hnP bs) VHs w) := by
  have HU := hid (fun bs W (h : Rdr W pb code bs) => u2_any pb code bs W h)
  have HH := hid (fun bs W (h : Rdr W pb code bs) => handler_any pb code bs W h)
  obtain ⟨i0, hi, hz0, hz1, hz2⟩ := info_parts infoH
  have HR := hr
  have HG := grown_refl' w (some pb)
  have hp0 := hr.sz
  obtain ⟨X, HE⟩ : ∃ X, Cf.listN Cf.hnP bs = X := ⟨_, rfl⟩
  rw [HE]
  unfold Cf.listN at HE
  unfold RP L3.pan VI at HU
  unfold RP L3.pan VH hnV at HH
  unfold RP L3.pan VHs handlerFn
  clear hr
  go_enter Tryz.func168, Tryz.ntmps168
  go_wp2_with (go_at_call 133; refine (HU.out _ _ (by first | exact HR | exact HR.below (n := pb + 1) (by repeat' first | with_reducible exact Below.refl _ _ | with_reducible assumption | with_reducible refine belows_drewN ?_ _ | with_reducible refine Below.drew ?_ | with_reducible refine Below.setCell ?_ ?_ _ | with_reducible refine Below.alloc ?_ ?_ _ | omega | (simp; done) | (simp; omega)) (Nat.lt_succ_self pb))).mono ?_; rintro e W h; rcases h with ⟨er, hx, rfl, hg⟩ | ⟨n, r, v, hx, rfl, rfl, hs⟩; all_goals (first | (rw [Cf.bnd_err hx] at HE; have HG : w.grownBy W (some pb) := L3.grown_trans (by repeat' first | with_reducible assumption | with_reducible exact grown_refl' _ _ | with_reducible refine L3.grown_set ?_ ?_ _ _ | with_reducible refine grown_al ?_ _ | with_reducible refine grown_dr ?_ | omega | (simp only [World.size_alloc, World.size_setCell]; omega)) hg) | (have hn := Cf.u2_range hx; rw [Cf.bnd_ok hx] at HE; have HG : w.grownBy W (some pb) := L3.grown_trans (by repeat' first | with_reducible assumption | with_reducible exact grown_refl' _ _ | with_reducible refine L3.grown_set ?_ ?_ _ _ | with_reducible refine grown_al ?_ _ | with_reducible refine grown_dr ?_ | omega | (simp only [World.size_alloc, World.size_setCell]; omega)) hs.1; have HR := hs.2; have hz := HG.size; have hp := HR.sz)); clear hx)
  · (exact ⟨rfl, .inl ⟨_, HE.symm, rfl, HG⟩⟩)
  · obtain ⟨N, rfl⟩ := Int.eq_ofNat_of_zero_le hn.1
    rw [← Cf.listA_nil, Int.toNat_natCast] at HE
    go_loopw [6, 10] (fun v i wr => ∃ (xs : List Cf.Hn) (j : Nat) (rest : List UInt8), i = .int .i64 j ∧ j ≤ N ∧ xs.length = j ∧ wr.ownsRow w.heap.size 58 4 v xs.length (xs.flatMap hL) ∧ w.grownBy wr (some pb) ∧ Rdr wr pb code rest ∧ Cf.listA Cf.hnP (N - j) xs rest = X) (fun _ i _ => N - (intOf i).toNat)
    case atStart => exact ⟨[], 0, r, rfl, by omega, rfl, ⟨rfl, .inl ⟨rfl, rfl⟩⟩, HG, HR, HE⟩
    case round =>
      obtain ⟨xs, j, rest, rfl, hj, hxl, HO, HG, HR, HE⟩ := hrel
      have hz := HG.size
      obtain ⟨a0, cap0, rfl⟩ := L3.own_form HO
      by_cases hlt : j < N
      · obtain ⟨k, hk⟩ : ∃ k, N - j = k + 1 := ⟨N - j - 1, by omega⟩
        rw [hk] at HE
        have hji : (j : Int) < N := by omega
        have HXL := hid hxl
        clear hxl
        go_wp2_with (first | (go_at_call 169; refine (HH.out _ _ (by first | exact HR | exact HR.below (n := pb + 1) (by repeat' first | with_reducible exact Below.refl _ _ | with_reducible assumption | with_reducible refine belows_drewN ?_ _ | with_reducible refine Below.drew ?_ | with_reducible refine Below.setCell ?_ ?_ _ | with_reducible refine Below.alloc ?_ ?_ _ | omega | (simp; done) | (simp; omega)) (Nat.lt_succ_self pb))).mono ?_; rintro e W h; rcases h with ⟨er, hx, rfl, hg⟩ | ⟨x, r, v, hx, rfl, rfl, hs⟩; all_goals (first | (rw [Cf.listA_err hx] at HE; have HG : w.grownBy W (some pb) := L3.grown_trans (by repeat' first | with_reducible assumption | with_reducible exact grown_refl' _ _ | with_reducible refine L3.grown_set ?_ ?_ _ _ | with_reducible refine grown_al ?_ _ | with_reducible refine grown_dr ?_ | omega | (simp only [World.size_alloc, World.size_setCell]; omega)) hg) | (rw [Cf.listA_ok hx] at HE; have HG : w.grownBy W (some pb) := L3.grown_trans (by repeat' first | with_reducible assumption | with_reducible exact grown_refl' _ _ | with_reducible refine L3.grown_set ?_ ?_ _ _ | with_reducible refine grown_al ?_ _ | with_reducible refine grown_dr ?_ | omega | (simp only [World.size_alloc, World.size_setCell]; omega)) hs.1; have HR := hs.2; have hz := HG.size; have hp := HR.sz; have HO := Kit.owns_grown HO hs.1 (by omega))); clear hx) | (at_builtin; refine wpList_append_own_at _ rfl (.tmp 12) (.tmp 16) 40 rfl w.heap.size 58 i0 _ 4 32 Tryz.underlying40 hi hz0 hz1 hz2 rfl (by decide) _ _ _ rfl (HO.alloc _) ⟨W.heap.size, 0, none⟩ 1 1 (hL x) rfl rfl (news_h W x) (ones_h x) (by (have := HXL.out; unfold maxLen; omega)) (by (have := HXL.out; omega)) (by simp only [World.size_alloc]; omega) ?_; intro v' w' hown' hgrow' _ hbk'))
        · (exact ⟨rfl, .inl ⟨_, HE.symm, rfl, HG⟩⟩)
        · go_roundw
          case rel => exact ⟨xs ++ [x], j + 1, r, by go_num, by omega, by simp [HXL.out], by simpa [hL] using hown', grown_row (by repeat' first | with_reducible assumption | with_reducible exact grown_refl' _ _ | with_reducible refine L3.grown_set ?_ ?_ _ _ | with_reducible refine grown_al ?_ _ | with_reducible refine grown_dr ?_ | omega | (simp only [World.size_alloc, World.size_setCell]; omega)) (HO.alloc _) hgrow', (HR.keep (w' := W.alloc _) (by repeat' first | with_reducible exact Below.refl _ _ | with_reducible assumption | with_reducible refine belows_drewN ?_ _ | with_reducible refine Below.drew ?_ | with_reducible refine Below.setCell ?_ ?_ _ | with_reducible refine Below.alloc ?_ ?_ _ | omega | (simp; done) | (simp; omega))).row hp0 (HO.alloc _) hgrow', by rw [show N - (j + 1) = k by omega]; exact HE⟩
          case measure => simp [intOf]; omega
      · obtain rfl : j = N := by omega
        rw [Nat.sub_self, Cf.listA_zero] at HE
        go_wp2
        go_ret
        exact .inr ⟨_, _, _, HE.symm, rfl, ⟨HO, by omega⟩, HG, HR⟩
end Go.Proofs.YtehjindeggmfpaaGreatDoor

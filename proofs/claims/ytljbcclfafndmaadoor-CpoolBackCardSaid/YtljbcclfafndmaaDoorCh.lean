/- Contract of the reader's pool. -/
import Derived.Test.YtljbcclfafndmaaDoorCg
namespace Go.Proofs.YtljbcclfafndmaaDoor
open Go.RowKit

/-- Entries read behind those that are there, until there are n. -/
def plGo : Nat → Nat → List Cp.C → List UInt8 → Except Int (List Cp.C × List UInt8)
  | 0, _, l, r => .ok (l, r)
  | f + 1, n, l, r => if l.length < n then match enP ((n : Int) - (l.length : Int)) r with
      | .error e => .error e
      | .ok (c, r') => plGo f n (appE l c) r'
    else .ok (l, r)
def plP (bs : List UInt8) : Except Int (List Cp.C × List UInt8) :=
  if bs.length < 2 then .error 30
  else if 4096 < Cp.numI (bs.take 2) then .error 3
  else if Cp.numI (bs.take 2) = 0 then .ok ([], bs.drop 2)
  else plGo (Cp.numI (bs.take 2)).toNat (Cp.numI (bs.take 2)).toNat [Cp.C0] (bs.drop 2)
def PlPost (pb : Nat) (x : Except Int (List Cp.C × List UInt8)) (w : World) (e : Ending) (w' : World) : Prop := match x with
  | .error er => Bad pb er w e w'
  | .ok (l, r) => ∃ v, e = .returned v ∧ OwnC w' w.heap.size v l ∧ Stp pb r w w'
def lenV : Value → Nat
  | .slice _ n _ => n
  | _ => 0
theorem own_form {w : World} {base : Nat} {e : TypeId} {size : Nat} {v : Value} {n : Nat} {xs : List Value} (h : w.ownsRow base e size v n xs) : ∃ a cap, v = .slice a n cap := by
  rcases h.2 with ⟨rfl, rfl⟩ | ⟨g, cap, cur, rfl, -⟩
  · exact ⟨none, 0, rfl⟩
  · exact ⟨_, cap, rfl⟩
theorem appE_len (l : List Cp.C) (c : Cp.C) : l.length + 1 ≤ (appE l c).length ∧ (appE l c).length ≤ l.length + 2 := by
  unfold appE
  split <;> simp
theorem own_newC (w : World) (base : Nat) (hb : base ≤ w.heap.size) : OwnC (w.alloc (.cells #[.int .i64 0, .string ⟨#[]⟩, .int .i64 0, .int .i64 0, .int .i64 0] 46)) base (.slice (some ⟨w.heap.size, 0, none⟩) 1 1) [Cp.C0] :=
  ⟨rfl, .inr ⟨w.heap.size, 1, #[.int .i64 0, .string ⟨#[]⟩, .int .i64 0, .int .i64 0, .int .i64 0], rfl, hb, BX.new _ _ _, Nat.le_refl _, by unfold maxLen; omega, rfl, rfl⟩⟩
set_option maxRecDepth 100000 in
set_option maxHeartbeats 400000 in
theorem pool_loop (pb n : Nat) (bs : List UInt8) (w : World) (hp : 1 ≤ pb) (ht : Tabs w) (hr : Rdr w pb bs) (h2 : 2 ≤ bs.length) (hn : Cp.numI (bs.take 2) = n) (hn1 : 1 ≤ n) (hn2 : n ≤ 4096) :
    Calls Tryd.prog 50 #[.pointer (some ⟨pb, 0, none⟩)] w (PlPost pb (plGo n n [Cp.C0] (bs.drop 2)) w) := by
  have hps := hr.sz
  have HN0 := number_ok pb 2 bs w hr h2
  rw [hn] at HN0
  have HN := hid HN0
  have HTb := hid (fun W (h : w.grownBy W (some pb)) => ht.grown h (fun k e => by have := Option.some.inj e; omega))
  have hd1 : decide (4096 < (n : Int)) = false := by simp; omega
  have hd2 : ((n : Int) == 0) = false := by rw [beq_eq_false_iff_ne]; omega
  obtain ⟨x, hx⟩ : ∃ x, x = plGo n n [Cp.C0] (bs.drop 2) := ⟨_, rfl⟩
  rw [← hx]
  have HX := hid hx
  clear HN0 hn hr h2 ht hx
  go_enter Tryd.func50, Tryd.ntmps50
  go_wp2_with (go_at_call 58; refine HN.out.mono ?_; rintro e w1 ⟨rfl, hs1⟩; have hz1 := hs1.1.size; have HS1 := hid hs1; clear hs1)
  go_loopw [4] (fun v wr => ∃ (xs : List Cp.C) (r : List UInt8) (f : Nat), OwnC wr w.heap.size v xs ∧ Stp pb r w wr ∧ n - xs.length < f ∧ xs.length ≤ n + 1 ∧ Hid (x = plGo f n xs r)) (fun v _ => n - lenV v)
  case atStart =>
    refine ⟨[Cp.C0], bs.drop 2, n, own_newC w1 w.heap.size hz1, ⟨grown_trans HS1.out.1 (grown_of_below ((Below.refl _ _).alloc (Nat.le_refl _) _) _), HS1.out.2.below ((Below.refl _ _).alloc (Nat.le_refl _) _) (by omega)⟩, ?_, ?_, HX.out⟩
    · rw [List.length_singleton]; omega
    · rw [List.length_singleton]; omega
  case round =>
    obtain ⟨xs, r, f, hown, hst, hf, hxl, hxe⟩ := hrel
    obtain ⟨f, rfl⟩ : ∃ f', f = f' + 1 := ⟨f - 1, by omega⟩
    obtain ⟨sa, sc, rfl⟩ := own_form hown
    by_cases hlt : xs.length < n
    · have hlti : (xs.length : Int) < (n : Int) := by omega
      have hroom : IntKind.i64.wrap ((n : Int) - (xs.length : Int)) = (n : Int) - (xs.length : Int) := IntWalk.i64_in _ (by omega)
      have HE0 := fun W (h : w.grownBy W (some pb)) (hR : Rdr W pb r) => entry_any pb ((n : Int) - (xs.length : Int)) r W hp (HTb.out W h) hR
      have hxe1 := hxe.out
      unfold plGo at hxe1
      rw [if_pos hlt] at hxe1
      unfold EnPost at HE0
      cases he : enP ((n : Int) - (xs.length : Int)) r with
      | error er =>
        rw [he] at HE0 hxe1
        dsimp only at HE0 hxe1
        unfold Bad pan at HE0
        have HE := hid HE0
        have HXE := hid hxe1
        have HST := hid hst
        have HZ := hst.1.size
        clear HE0 hxe1 he hst
        go_wp2_with (go_at_call 59; refine (HE.out _ HST.out.1 HST.out.2).mono ?_; rintro e w2 ⟨rfl, hg2⟩)
        exact ⟨rfl, by rw [HXE.out]; exact ⟨rfl, grown_trans HST.out.1 hg2⟩⟩
      | ok y =>
        obtain ⟨c, r'⟩ := y
        rw [he] at HE0 hxe1
        dsimp only at HE0 hxe1
        have HE := hid HE0
        have HXE := hid hxe1
        have HST := hid hst
        have HZ := hst.1.size
        have HO := hid hown
        clear HE0 hxe1 he hst hown
        go_wp2_with (first
          | (go_at_call 48; have _g := hs2; refine (appendEntry_any w.heap.size xs _ c _ (Kit.owns_grown HO.out hs2.1 hps) (by omega) (by omega)).mono ?_; rintro e w3 ⟨v3, rfl, ho3, hG3⟩)
          | (go_at_call 59; refine (HE.out _ HST.out.1 HST.out.2).mono ?_; rintro e w2 ⟨rfl, hs2⟩; have hz2 := hs2.1.size))
        obtain ⟨sb, scb, rfl⟩ := own_form ho3
        have hal := appE_len xs c
        have hbase : ∀ k, (Value.slice sa xs.length sc).ownBlock = some k → w.heap.size ≤ k := Kit.own_base HO.out
        go_roundw
        case rel => exact ⟨appE xs c, r', f, ho3, ⟨Kit.grown_own (grown_trans HST.out.1 hs2.1) hG3.grown hbase, hs2.2.grown hG3.grown (fun k e => by have := hbase k e; omega)⟩, by omega, by omega, HXE.out⟩
        case measure => show n - (appE xs c).length < n - xs.length; omega
    · have hxe1 := hxe.out
      unfold plGo at hxe1
      rw [if_neg hlt] at hxe1
      have HXE := hid hxe1
      have hge : decide ((xs.length : Int) < (n : Int)) = false := by simp; omega
      have HST := hid hst
      have HO := hid hown
      clear hxe1 hst hown
      go_wp2
      go_ret
      rw [HXE.out]
      exact ⟨_, rfl, HO.out, HST.out⟩
set_option maxRecDepth 100000 in
set_option maxHeartbeats 400000 in
theorem pool_any (pb : Nat) (bs : List UInt8) (w : World) (hp : 1 ≤ pb) (ht : Tabs w) (hr : Rdr w pb bs) :
    Calls Tryd.prog 50 #[.pointer (some ⟨pb, 0, none⟩)] w (PlPost pb (plP bs) w) := by
  unfold plP
  by_cases h2 : bs.length < 2
  · rw [if_pos h2]
    unfold PlPost Bad
    have HN := hid (number_bad pb 2 bs w hr h2 (by omega))
    unfold pan at HN ⊢
    clear hr ht h2
    go_enter Tryd.func50, Tryd.ntmps50
    go_wp2_with (go_at_call 58; refine HN.out.mono ?_; rintro e w1 ⟨rfl, rfl⟩)
    exact ⟨rfl, rfl, grown_refl _ _⟩
  · rw [if_neg h2]
    have HN0 := number_ok pb 2 bs w hr (by omega)
    obtain ⟨hr0, hr1⟩ := numI_2 (l := bs.take 2) (by rw [List.length_take]; omega)
    obtain ⟨n, hn⟩ : ∃ n, n = Cp.numI (bs.take 2) := ⟨_, rfl⟩
    rw [← hn] at HN0 hr0 hr1 ⊢
    by_cases hb : 4096 < n
    · rw [if_pos hb]
      unfold PlPost Bad
      have HN := hid HN0
      have hd : decide (4096 < n) = true := by simpa using hb
      unfold pan
      clear HN0 hr ht h2 hn hb
      go_enter Tryd.func50, Tryd.ntmps50
      go_wp2_with (go_at_call 58; refine HN.out.mono ?_; rintro e w1 ⟨rfl, hs1⟩)
      exact ⟨rfl, rfl, hs1.1⟩
    · rw [if_neg hb]
      by_cases h0 : n = 0
      · rw [if_pos h0]
        subst h0
        unfold PlPost
        have HN := hid HN0
        clear HN0 hr ht h2 hn hb
        go_enter Tryd.func50, Tryd.ntmps50
        go_wp2_with (go_at_call 58; refine HN.out.mono ?_; rintro e w1 ⟨rfl, hs1⟩)
        go_ret
        exact ⟨_, rfl, nilC _ _, hs1⟩
      · rw [if_neg h0]
        obtain ⟨m, rfl⟩ := Int.eq_ofNat_of_zero_le hr0
        rw [show ((m : Int)).toNat = m by omega]
        exact pool_loop pb m bs w hp ht hr (by omega) hn.symm (by omega) (by omega)
end Go.Proofs.YtljbcclfafndmaaDoor

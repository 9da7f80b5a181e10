/- Own texts for the claim, part 7. -/
import Derived.Test.YtjnjnfhboafcgaaGreatDoorZG6
import Derived.Maps.Own
import Derived.Maps.OwnOps
import Derived.Maps.OwnSet
import Derived.Lib.Bytealg
import Derived.Lib.IndexLaws
import Derived.Lib.IndexBytes
import Derived.Lib.IndexAny
import Derived.Lib.Strings
import Derived.Shelf.Small.Strs
import Derived.Shelf.Strings.Search1
import Derived.Shelf.Strings.Search2
import Derived.Shelf.Strings.Search3
namespace Go.Proofs.YtjnjnfhboafcgaaGreatDoor.L3
open Go.RowKit

theorem bytesN_succ (z : Int) (k : Nat) : bytesN z (k + 1) = bytesN (z / 256) k ++ [z % 256] := by
  unfold bytesN
  rw [List.range_succ, List.map_append]
  congr 1
  · refine List.map_congr_left fun i hi => ?_
    have hi' := List.mem_range.1 hi
    unfold byteN
    rw [show k + 1 - 1 - i = (k - 1 - i) + 1 by omega, show 8 * ((k - 1 - i) + 1) = 8 + 8 * (k - 1 - i) by omega, Int.pow_add, show (2 : Int) ^ 8 = 256 from rfl, Int.ediv_ediv, if_neg (by omega), Int.sub_zero]
  · simp [byteN]
theorem bsOf_app (a b : List Int) : bsOf (a ++ b) = bsOf a ++ bsOf b := by unfold bsOf; rw [List.map_append]
theorem bsOf_one (z : Int) : bsOf [z] = [UInt8.ofNat z.toNat] := rfl
theorem u8_back (c : UInt8) : UInt8.ofNat ((c.toNat : Int)).toNat = c := by simp
theorem u8_val {z : Int} (h : 0 ≤ z ∧ z < 256) : ((UInt8.ofNat z.toNat).toNat : Int) = z := by
  rw [UInt8.toNat_ofNat']
  omega
theorem bsOf_text (l : List UInt8) : bsOf (l.map fun b => (b.toNat : Int)) = l := by
  unfold bsOf
  rw [List.map_map]
  conv => rhs; rw [← List.map_id l]
  exact List.map_congr_left fun c _ => u8_back c
/-- The bytes of what bytes say are these bytes. -/
theorem bytes_num (l : List UInt8) : bsOf (bytesN (Cp.numU l) l.length) = l := by
  refine Cp.rev_ind (P := fun l => bsOf (bytesN (Cp.numU l) l.length) = l) rfl (fun l c ih => ?_) l
  have hc := Cp.u8_lt c
  rw [List.length_append, show [c].length = 1 from rfl, bytesN_succ, Cp.numU_snoc, show (Cp.numU l * 256 + (c.toNat : Int)) / 256 = Cp.numU l by omega, show (Cp.numU l * 256 + (c.toNat : Int)) % 256 = (c.toNat : Int) by omega, bsOf_app, ih, bsOf_one, u8_back]
/-- What is a multiple more has the same bytes. -/
theorem bytesN_add (k : Nat) : ∀ (z m : Int), bytesN (z + 256 ^ k * m) k = bytesN z k := by
  induction k with
  | zero => intro z m; rfl
  | succ k ih =>
    intro z m
    have e : z + 256 ^ (k + 1) * m = z + 256 * (256 ^ k * m) := by rw [Int.pow_succ, Int.mul_comm (256 ^ k) 256, Int.mul_assoc]
    rw [bytesN_succ, bytesN_succ, e, show (z + 256 * (256 ^ k * m)) / 256 = z / 256 + 256 ^ k * m by omega, show (z + 256 * (256 ^ k * m)) % 256 = z % 256 by omega, ih]
theorem mod_step (z P : Int) (hP : 0 < P) : z / 256 % P * 256 + z % 256 = z % (P * 256) := by
  have h1 : 0 ≤ z / 256 % P := Int.emod_nonneg _ (by omega)
  have h2 : z / 256 % P < P := Int.emod_lt_of_pos _ hP
  have h3 := Int.emod_add_mul_ediv (z / 256) P
  have h4 : z = 256 * (z / 256) + z % 256 := by omega
  have h5 : 0 ≤ z % 256 ∧ z % 256 < 256 := by omega
  generalize z / 256 % P = A at *
  generalize z / 256 / P = Y at *
  generalize z % 256 = S at *
  have e : z = (A * 256 + S) + (P * 256) * Y := by
    rw [Int.mul_assoc, Int.mul_left_comm]
    omega
  rw [e, Int.add_mul_emod_self_left, Int.emod_eq_of_lt (by omega) (by omega)]
/-- What a number's bytes say. -/
theorem num_bytes (k : Nat) : ∀ z : Int, Cp.numU (bsOf (bytesN z k)) = z % 256 ^ k := by
  induction k with
  | zero => intro z; show (0 : Int) = z % 1; omega
  | succ k ih =>
    intro z
    rw [bytesN_succ, bsOf_app, bsOf_one, Cp.numU_snoc, ih, u8_val (by omega), Int.pow_succ]
    exact mod_step z (256 ^ k) (Int.pow_pos (by decide))
theorem numI_4 {l : List UInt8} (h : l.length ≤ 4) : Cp.numI l = Cp.numU l := by
  have hr := Cp.numU_range l
  have hp : (256 : Int) ^ l.length ≤ 4294967296 := by
    match l.length, h with
    | 0, _ => decide
    | 1, _ => decide
    | 2, _ => decide
    | 3, _ => decide
    | 4, _ => decide
  rw [Cp.numI_U, Cp.w64]
  omega
theorem num2 (z : Int) (h : 0 ≤ z ∧ z ≤ 65535) : Cp.numI (bsOf (bytesN z 2)) = z := by
  rw [numI_4 (by rw [bsOf_len, bytesN_len]; omega), num_bytes]
  show z % 65536 = z
  omega
theorem num4 (z : Int) (h : z = IntKind.i32.wrap z) : IntKind.i32.wrap (Cp.numI (bsOf (bytesN z 4))) = z := by
  rw [numI_4 (by rw [bsOf_len, bytesN_len]; omega), num_bytes]
  show IntKind.i32.wrap (z % 4294967296) = z
  rw [IntKind.wrap_i32] at h ⊢
  omega
theorem num8 (z : Int) (h : I6 z) : Cp.numI (bsOf (bytesN z 8)) = z := by
  unfold I6 at h
  rw [Cp.numI_U, num_bytes, Cp.w64]
  show (z % 18446744073709551616 + 9223372036854775808) % 18446744073709551616 - 9223372036854775808 = z
  omega
theorem back2 {l : List UInt8} (h : l.length = 2) : bsOf (bytesN (Cp.numI l) 2) = l := by
  have := bytes_num l
  rw [h] at this
  rw [numI_4 (by omega), this]
theorem back4 {l : List UInt8} (h : l.length = 4) : bsOf (bytesN (IntKind.i32.wrap (Cp.numI l)) 4) = l := by
  have h1 := bytes_num l
  rw [h] at h1
  rw [numI_4 (by omega)]
  have e : IntKind.i32.wrap (Cp.numU l) = Cp.numU l + 256 ^ 4 * ((IntKind.i32.wrap (Cp.numU l) - Cp.numU l) / 4294967296) := by
    show _ = _ + 4294967296 * _
    rw [IntKind.wrap_i32]
    omega
  rw [e, bytesN_add, h1]
theorem back8 {l : List UInt8} (h : l.length = 8) : bsOf (bytesN (Cp.numI l) 8) = l := by
  have h1 := bytes_num l
  rw [h] at h1
  rw [Cp.numI_U]
  have e : Cp.W64 (Cp.numU l) = Cp.numU l + 256 ^ 8 * ((Cp.W64 (Cp.numU l) - Cp.numU l) / 18446744073709551616) := by
    show _ = _ + 18446744073709551616 * _
    rw [Cp.w64]
    omega
  rw [e, bytesN_add, h1]
theorem num2_range {l : List UInt8} (h : l.length = 2) : 0 ≤ Cp.numI l ∧ Cp.numI l ≤ 65535 := by
  rw [numI_4 (by omega)]
  have := Cp.numU_range l
  rw [h] at this
  have e : (256 : Int) ^ 2 = 65536 := rfl
  omega

theorem ce_zero {t : Int} {s : ByteArray} {n a b : Int} (hk : Cp.knownB t = true) (hn : I6 n) (h : eOk t s n a b) (hs : s.size ≤ 255) (hp : Cp.plainB (Cp.bl s) = true) : ceOut ⟨t, s, n, a, b⟩ = 0 := by
  rw [ce_yes hk hn h, hp]
  simp [hs]
theorem tx_back {s : ByteArray} (hs : s.size ≤ 255) (hp : Cp.plainB (Cp.bl s) = true) (r : List UInt8) : txP 2 (bsOf (bytesN s.size 2) ++ (Cp.bl s ++ r)) = .ok (Cp.bl s, r) := by
  have l2 : (bsOf (bytesN s.size 2)).length = 2 := by rw [bsOf_len, bytesN_len]
  have lb : (Cp.bl s).length = s.size := bl_len s
  unfold txP
  rw [List.take_left' l2, List.drop_left' l2, num2 s.size (by omega), if_neg (by rw [List.length_append]; omega), if_neg (by omega), if_neg (by rw [List.length_append]; omega), Int.toNat_natCast, List.take_left' lb, List.drop_left' lb, if_pos hp]
/-- An entry's bytes are read as this entry. -/
theorem en_back {c : Cp.C} {room : Int} (hc : ceOut c = 0) (hn : I6 c.n) (hr : ¬ (c.t = 5 ∧ room < 2)) (r : List UInt8) : enP room (bsOf (encE c) ++ r) = .ok (c, r) := by
  obtain ⟨h1, h2, h3, h4⟩ := ce_size hc
  obtain ⟨t, s, n, a, b⟩ := c
  dsimp only at h1 h2 h3 h4 hn hr
  obtain ⟨e1, e2, e3, e4⟩ := (cut_ok h1 hn).1 h2
  rcases of_decide_eq_true h1 with rfl | rfl | rfl | rfl | ht
  · obtain rfl : n = 0 := by omega
    obtain rfl : a = 0 := by omega
    obtain rfl : b = 0 := by omega
    rw [enc_text s 0 0 0 rfl, bsOf_app, bsOf_app, bsOf_text, show bsOf [1 % 256] = [1] from rfl, List.append_assoc, List.append_assoc]
    show enP room (1 :: (bsOf (bytesN s.size 2) ++ (Cp.bl s ++ r))) = _
    rw [en_utf, tx_back h3 h4]
  · obtain rfl : s = ⟨#[]⟩ := e4.resolve_left (by omega)
    obtain rfl : a = 0 := by omega
    obtain rfl : b = 0 := by omega
    have hw : n = IntKind.i32.wrap n := by
      rcases e1 with rfl | h | ⟨-, h⟩
      · rfl
      · omega
      · exact h
    have l4 : (bsOf (bytesN n 4)).length = 4 := by rw [bsOf_len, bytesN_len]
    rw [enc_num (t := 3) n 0 0 4 rfl, bsOf_app, show bsOf [3 % 256] = [3] from rfl, List.append_assoc]
    show enP room (3 :: (bsOf (bytesN n 4) ++ r)) = _
    rw [en_int, if_neg (by rw [List.length_append]; omega), List.take_left' l4, List.drop_left' l4, num4 n hw]
  · obtain rfl : s = ⟨#[]⟩ := e4.resolve_left (by omega)
    obtain rfl : a = 0 := by omega
    obtain rfl : b = 0 := by omega
    have l8 : (bsOf (bytesN n 8)).length = 8 := by rw [bsOf_len, bytesN_len]
    rw [enc_num (t := 5) n 0 0 8 rfl, bsOf_app, show bsOf [5 % 256] = [5] from rfl, List.append_assoc]
    show enP room (5 :: (bsOf (bytesN n 8) ++ r)) = _
    rw [en_long room (fun h => hr ⟨rfl, h⟩), if_neg (by rw [List.length_append]; omega), List.take_left' l8, List.drop_left' l8, num8 n hn]
  · obtain rfl : s = ⟨#[]⟩ := e4.resolve_left (by omega)
    obtain rfl : n = 0 := by omega
    obtain rfl : b = 0 := by omega
    have l2 : (bsOf (bytesN a 2)).length = 2 := by rw [bsOf_len, bytesN_len]
    rw [enc_one (t := 7) 0 a 0 rfl, bsOf_app, show bsOf [7 % 256] = [7] from rfl, List.append_assoc]
    show enP room (7 :: (bsOf (bytesN a 2) ++ r)) = _
    rw [en_class, if_neg (by rw [List.length_append]; omega), List.take_left' l2, List.drop_left' l2, num2 a (by omega)]
  · obtain rfl : s = ⟨#[]⟩ := e4.resolve_left (by omega)
    obtain rfl : n = 0 := by omega
    have l2 : (bsOf (bytesN a 2)).length = 2 := by rw [bsOf_len, bytesN_len]
    have l3 : (bsOf (bytesN b 2)).length = 2 := by rw [bsOf_len, bytesN_len]
    have l4 : (bsOf (bytesN a 2) ++ bsOf (bytesN b 2)).length = 4 := by rw [List.length_append]; omega
    rw [enc_two (t := t) 0 a b ht, bsOf_app, bsOf_app, List.append_assoc, List.append_assoc]
    have key : ∀ x : UInt8, (x.toNat : Int) = t → enP room ([x] ++ (bsOf (bytesN a 2) ++ (bsOf (bytesN b 2) ++ r))) = .ok (⟨t, ⟨#[]⟩, 0, a, b⟩, r) := by
      intro x hx
      show enP room (x :: (bsOf (bytesN a 2) ++ (bsOf (bytesN b 2) ++ r))) = _
      rw [en_two room x _ (by omega), if_neg (by simp only [List.length_append]; omega), List.take_left' l2, List.drop_left' l2, List.take_left' l3, ← List.append_assoc, List.drop_left' l4, num2 a (by omega), num2 b (by omega), hx]
    exact key _ (u8_val (z := t % 256) (by omega) |>.trans (by omega))
theorem u8_is {x : UInt8} {k : Nat} (h : (x.toNat : Int) = k) (_ : k < 256) : x = UInt8.ofNat k := by
  have e : x.toNat = k := by omega
  rw [← e]
  simp
/-- What is read as an entry are its bytes. -/
theorem en_forth {room : Int} {bs r : List UInt8} {c : Cp.C} (h : enP room bs = .ok (c, r)) : ceOut c = 0 ∧ I6 c.n ∧ bs = bsOf (encE c) ++ r ∧ ¬ (c.t = 5 ∧ room < 2) := by
  cases bs with
  | nil => cases h
  | cons x q =>
    have hk : Cp.knownB (x.toNat : Int) = true ∧ ¬ ((x.toNat : Int) = 5 ∧ room < 2) := by
      unfold enP at h
      dsimp only at h
      by_cases hb : Cp.knownB (x.toNat : Int) = false ∨ ((x.toNat : Int) = 5 ∧ room < 2)
      · rw [if_pos hb] at h; cases h
      · refine ⟨?_, fun e => hb (.inr e)⟩
        cases he : Cp.knownB (x.toNat : Int) with
        | true => rfl
        | false => exact absurd (.inl he) hb
    obtain ⟨hk, hr⟩ := hk
    have z6 : I6 0 := by unfold I6; omega
    rcases of_decide_eq_true hk with hx | hx | hx | hx | hx
    · obtain rfl : x = 1 := u8_is (k := 1) hx (by decide)
      rw [en_utf] at h
      cases htx : txP 2 q with
      | error e => rw [htx] at h; cases h
      | ok y =>
        obtain ⟨s, r1⟩ := y
        rw [htx] at h
        dsimp only at h
        obtain ⟨rfl, rfl⟩ := Prod.mk.inj (Except.ok.inj h)
        unfold txP at htx
        by_cases g1 : q.length < 2
        · rw [if_pos g1] at htx; cases htx
        · rw [if_neg g1] at htx
          have l2 : (q.take 2).length = 2 := by rw [List.length_take]; omega
          have hnr := num2_range l2
          obtain ⟨N, hN⟩ : ∃ N : Nat, Cp.numI (q.take 2) = N := ⟨(Cp.numI (q.take 2)).toNat, by omega⟩
          have hb2 := back2 l2
          rw [hN] at htx hb2
          by_cases g2 : (255 : Int) < N
          · rw [if_pos g2] at htx; cases htx
          · rw [if_neg g2] at htx
            by_cases g3 : ((q.drop 2).length : Int) < N
            · rw [if_pos g3] at htx; cases htx
            · rw [if_neg g3, Int.toNat_natCast] at htx
              by_cases g4 : Cp.plainB ((q.drop 2).take N) = true
              · rw [if_pos g4] at htx
                obtain ⟨rfl, rfl⟩ := Prod.mk.inj (Except.ok.inj htx)
                have hsz : (⟨((q.drop 2).take N).toArray⟩ : ByteArray).size = N := by
                  show ((q.drop 2).take N).toArray.size = N
                  rw [List.size_toArray, List.length_take]
                  omega
                have hbl : Cp.bl (⟨((q.drop 2).take N).toArray⟩ : ByteArray) = (q.drop 2).take N := by simp [Cp.bl]
                refine ⟨ce_zero (by decide) z6 ⟨.inl rfl, .inl rfl, .inl rfl, .inl rfl⟩ (by rw [hsz]; omega) (by rw [hbl]; exact g4), z6, ?_, hr⟩
                rw [enc_text _ 0 0 0 rfl, bsOf_app, bsOf_app, bsOf_text, hsz, hb2, hbl, show bsOf [1 % 256] = [1] from rfl]
                simp only [List.append_assoc, List.cons_append, List.nil_append]
                rw [List.take_append_drop, List.take_append_drop]
              · rw [if_neg g4] at htx; cases htx
    · obtain rfl : x = 3 := u8_is (k := 3) hx (by decide)
      rw [en_int] at h
      by_cases g1 : q.length < 4
      · rw [if_pos g1] at h; cases h
      · rw [if_neg g1] at h
        obtain ⟨rfl, rfl⟩ := Prod.mk.inj (Except.ok.inj h)
        have l4 : (q.take 4).length = 4 := by rw [List.length_take]; omega
        have hb := back4 l4
        have hw : IntKind.i32.wrap (Cp.numI (q.take 4)) = IntKind.i32.wrap (IntKind.i32.wrap (Cp.numI (q.take 4))) := by
          rw [IntKind.wrap_i32, IntKind.wrap_i32]; omega
        have h6 : I6 (IntKind.i32.wrap (Cp.numI (q.take 4))) := by unfold I6; rw [IntKind.wrap_i32]; omega
        refine ⟨ce_zero (by decide) h6 ⟨.inr (.inr ⟨rfl, hw⟩), .inl rfl, .inl rfl, .inr rfl⟩ (by decide) (by decide), h6, ?_, hr⟩
        rw [enc_num (t := 3) _ 0 0 4 rfl, bsOf_app, hb, show bsOf [3 % 256] = [3] from rfl]
        simp
    · obtain rfl : x = 5 := u8_is (k := 5) hx (by decide)
      rw [en_long room (fun e => hr ⟨rfl, e⟩)] at h
      by_cases g1 : q.length < 8
      · rw [if_pos g1] at h; cases h
      · rw [if_neg g1] at h
        obtain ⟨rfl, rfl⟩ := Prod.mk.inj (Except.ok.inj h)
        have l8 : (q.take 8).length = 8 := by rw [List.length_take]; omega
        have hb := back8 l8
        have h6 : I6 (Cp.numI (q.take 8)) := by unfold I6; rw [Cp.numI_U, Cp.w64]; omega
        refine ⟨ce_zero (by decide) h6 ⟨.inr (.inl rfl), .inl rfl, .inl rfl, .inr rfl⟩ (by decide) (by decide), h6, ?_, hr⟩
        rw [enc_num (t := 5) _ 0 0 8 rfl, bsOf_app, hb, show bsOf [5 % 256] = [5] from rfl]
        simp
    · obtain rfl : x = 7 := u8_is (k := 7) hx (by decide)
      rw [en_class] at h
      by_cases g1 : q.length < 2
      · rw [if_pos g1] at h; cases h
      · rw [if_neg g1] at h
        obtain ⟨rfl, rfl⟩ := Prod.mk.inj (Except.ok.inj h)
        have l2 : (q.take 2).length = 2 := by rw [List.length_take]; omega
        have hb := back2 l2
        have hnr := num2_range l2
        refine ⟨ce_zero (by decide) z6 ⟨.inl rfl, by omega, .inl rfl, .inr rfl⟩ (by decide) (by decide), z6, ?_, hr⟩
        rw [enc_one (t := 7) 0 _ 0 rfl, bsOf_app, hb, show bsOf [7 % 256] = [7] from rfl]
        simp
    · rw [en_two room x q hx] at h
      by_cases g1 : q.length < 4
      · rw [if_pos g1] at h; cases h
      · rw [if_neg g1] at h
        obtain ⟨rfl, rfl⟩ := Prod.mk.inj (Except.ok.inj h)
        have l2 : (q.take 2).length = 2 := by rw [List.length_take]; omega
        have l3 : ((q.drop 2).take 2).length = 2 := by rw [List.length_take, List.length_drop]; omega
        have hb := back2 l2
        have hb3 := back2 l3
        have hnr := num2_range l2
        have hnr3 := num2_range l3
        refine ⟨ce_zero hk z6 ⟨.inl rfl, by omega, by omega, .inr rfl⟩ (by decide) (by decide), z6, ?_, hr⟩
        rw [enc_two (t := (x.toNat : Int)) 0 _ _ hx, bsOf_app, bsOf_app, hb, hb3, bsOf_one, show (x.toNat : Int) % 256 = (x.toNat : Int) by omega, u8_back]
        have e4 : q.drop 4 = (q.drop 2).drop 2 := by rw [List.drop_drop]
        rw [e4]
        simp only [List.append_assoc, List.cons_append, List.nil_append]
        rw [List.take_append_drop, List.take_append_drop]
end Go.Proofs.YtjnjnfhboafcgaaGreatDoor.L3
namespace Go.Proofs.YtjnjnfhboafcgaaGreatDoor.L3
open Go.RowKit

theorem plGo_len : ∀ {f n : Nat} {l l' : List Cp.C} {r r' : List UInt8}, plGo f n l r = .ok (l', r') → l.length ≤ n + 1 → l'.length ≤ n + 1
  | 0, n, l, l', r, r', h, hl => by
    unfold plGo at h
    obtain ⟨rfl, -⟩ := Prod.mk.inj (Except.ok.inj h)
    exact hl
  | f + 1, n, l, l', r, r', h, hl => by
    unfold plGo at h
    by_cases h1 : l.length < n
    · rw [if_pos h1] at h
      cases hx : enP ((n : Int) - (l.length : Int)) r with
      | error e => rw [hx] at h; cases h
      | ok y =>
        obtain ⟨c, r1⟩ := y
        rw [hx] at h
        have h2 := (appE_len l c).2
        exact plGo_len h (by omega)
    · rw [if_neg h1] at h
      obtain ⟨rfl, -⟩ := Prod.mk.inj (Except.ok.inj h)
      exact hl
theorem plP_len {bs r : List UInt8} {l : List Cp.C} (h : plP bs = .ok (l, r)) : l.length ≤ 4097 := by
  unfold plP at h
  by_cases h1 : bs.length < 2
  · rw [if_pos h1] at h; cases h
  · rw [if_neg h1] at h
    by_cases h2 : 4096 < Cp.numI (bs.take 2)
    · rw [if_pos h2] at h; cases h
    · rw [if_neg h2] at h
      by_cases h3 : Cp.numI (bs.take 2) = 0
      · rw [if_pos h3] at h
        obtain ⟨rfl, -⟩ := Prod.mk.inj (Except.ok.inj h)
        simp
      · rw [if_neg h3] at h
        have h4 := plGo_len h (by simp)
        omega
end Go.Proofs.YtjnjnfhboafcgaaGreatDoor.L3
namespace Go.Proofs.YtjnjnfhboafcgaaGreatDoor.L3
open Go.RowKit

/-- The bytes of a list of entries. -/
def encF (l : List Cp.C) : List Int := l.flatMap fun c => if c.t = 0 then [] else encE c
theorem encF_app (a b : List Cp.C) : encF (a ++ b) = encF a ++ encF b := by unfold encF; rw [List.flatMap_append]
theorem encF_one {c : Cp.C} (h : c.t ≠ 0) : encF [c] = encE c := by
  unfold encF
  simp [h]
theorem encF_none {c : Cp.C} (h : c.t = 0) : encF [c] = [] := by
  unfold encF
  simp [h]
theorem encT_F (l : List Cp.C) : ∀ k, k ≤ l.length → encT (told l k) = encF (l.take k)
  | 0, _ => rfl
  | k + 1, hk => by
    obtain ⟨c, hc⟩ : ∃ c, l[k]? = some c := ⟨l[k]'(by omega), List.getElem?_eq_getElem _⟩
    rw [List.take_add_one, hc, encF_app]
    show _ = _ ++ encF [c]
    by_cases h0 : c.t = 0
    · rw [told_no hc h0, encF_none h0, List.append_nil]
      exact encT_F l k (by omega)
    · rw [told_yes hc h0, encT_snoc, encF_one h0, encT_F l k (by omega)]
theorem putB_F (l : List Cp.C) : putB l = bytesN l.length 2 ++ encF l := by
  unfold putB
  rw [encT_F l l.length (Nat.le_refl _), List.take_length]
theorem err_none {l : List Cp.C} {k : Nat} {c : Cp.C} (h : errAt l k = 0) (hc : l[k]? = some c) (hp : prevB l k = true) : c = Cp.C0 := by
  unfold errAt at h
  rw [hc] at h
  dsimp only at h
  rw [hp, if_pos rfl] at h
  by_cases e : c = Cp.C0
  · exact e
  · rw [if_neg e] at h; omega
theorem err_some {l : List Cp.C} {k : Nat} {c : Cp.C} (h : errAt l k = 0) (hc : l[k]? = some c) (hp : prevB l k = false) : ceOut c = 0 ∧ ¬ (c.t = 5 ∧ k = l.length - 1) := by
  unfold errAt at h
  rw [hc] at h
  dsimp only at h
  rw [hp, if_neg (by simp)] at h
  by_cases e : c.t = 5 ∧ k = l.length - 1
  · rw [if_pos e] at h; omega
  · rw [if_neg e] at h
    exact ⟨h, e⟩
theorem ce_t {c : Cp.C} (h : ceOut c = 0) : c.t ≠ 0 := by
  intro e
  have := (ce_size h).1
  rw [e] at this
  cases this
/-- What stands from a place on is read. -/
theorem go_back {l : List Cp.C} (h : CkIs l 0) (hn : ∀ c ∈ l, I6 c.n) (r : List UInt8) : ∀ (f k : Nat), k ≤ l.length → l.length - k ≤ f → prevB l k = false ∨ k = l.length → plGo f l.length (l.take k) (bsOf (encF (l.drop k)) ++ r) = .ok (l, r)
  | 0, k, hk, hf, _ => by
    obtain rfl : k = l.length := by omega
    rw [List.take_length, List.drop_length]
    rfl
  | f + 1, k, hk, hf, hp => by
    unfold plGo
    by_cases hlt : k < l.length
    · have hl : (l.take k).length = k := by rw [List.length_take]; omega
      have hp := hp.resolve_right (by omega)
      obtain ⟨c, hc⟩ : ∃ c, l[k]? = some c := ⟨l[k], List.getElem?_eq_getElem hlt⟩
      have hall := (ck_all.1 h).2
      obtain ⟨hce, h5⟩ := err_some (hall k hlt) hc hp
      have hd : l.drop k = c :: l.drop (k + 1) := by rw [List.drop_eq_getElem_cons hlt, show l[k] = c from Option.some.inj ((List.getElem?_eq_getElem hlt).symm.trans hc)]
      have hnx : prevB l (k + 1) = (c.t == 5) := by unfold prevB; dsimp only; rw [hc]
      rw [hl, if_pos hlt, hd, show (c :: l.drop (k + 1)) = [c] ++ l.drop (k + 1) from rfl, encF_app, encF_one (ce_t hce), bsOf_app, List.append_assoc, en_back hce (hn c (List.mem_of_getElem? hc)) (by rintro ⟨e1, e2⟩; exact h5 ⟨e1, by omega⟩)]
      dsimp only
      have ht1 : l.take (k + 1) = l.take k ++ [c] := by rw [List.take_add_one, hc]; rfl
      unfold appE
      by_cases e5 : c.t = 5
      · rw [if_pos e5]
        have hk2 : k + 1 < l.length := by
          rcases Nat.lt_or_ge (k + 1) l.length with h1 | h1
          · exact h1
          · exact absurd ⟨e5, by omega⟩ h5
        obtain ⟨d, hd2⟩ : ∃ d, l[k + 1]? = some d := ⟨l[k + 1], List.getElem?_eq_getElem hk2⟩
        obtain rfl := err_none (hall (k + 1) hk2) hd2 (by rw [hnx]; simpa using e5)
        have hdr : l.drop (k + 1) = Cp.C0 :: l.drop (k + 2) := by rw [List.drop_eq_getElem_cons hk2, show l[k + 1] = Cp.C0 from Option.some.inj ((List.getElem?_eq_getElem hk2).symm.trans hd2)]
        have ht2 : l.take (k + 2) = l.take k ++ [c] ++ [Cp.C0] := by rw [List.take_add_one, hd2, ht1]; rfl
        rw [hdr, show (Cp.C0 :: l.drop (k + 2)) = [Cp.C0] ++ l.drop (k + 2) from rfl, encF_app, encF_none rfl, List.nil_append, ← ht2]
        refine go_back h hn r f (k + 2) (by omega) (by omega) (.inl ?_)
        unfold prevB
        dsimp only
        rw [hd2]
        rfl
      · rw [if_neg e5, ← ht1]
        exact go_back h hn r f (k + 1) (by omega) (by omega) (.inl (by rw [hnx]; simpa using e5))
    · obtain rfl : k = l.length := by omega
      rw [List.take_length, if_neg (by omega), List.drop_length]
      rfl
/-- A good pool's bytes are read as this pool. -/
theorem pl_back {l : List Cp.C} (h : CkIs l 0) (hn : ∀ c ∈ l, I6 c.n) (r : List UInt8) : plP (bsOf (putB l) ++ r) = .ok (l, r) := by
  have hl4 := (ck_size h).1
  have l2 : (bsOf (bytesN l.length 2)).length = 2 := by rw [bsOf_len, bytesN_len]
  rw [putB_F, bsOf_app, List.append_assoc]
  unfold plP
  rw [List.take_left' l2, List.drop_left' l2, num2 l.length (by omega), if_neg (by rw [List.length_append]; omega), if_neg (by omega)]
  by_cases h0 : l.length = 0
  · obtain rfl := List.length_eq_zero_iff.1 h0
    exact if_pos rfl
  · rw [if_neg (by omega), Int.toNat_natCast]
    obtain ⟨c, hc⟩ : ∃ c, l[0]? = some c := ⟨l[0]'(by omega), List.getElem?_eq_getElem _⟩
    obtain rfl := err_none ((ck_all.1 h).2 0 (by omega)) hc rfl
    have ht : l.take 1 = [Cp.C0] := by rw [List.take_add_one, hc]; rfl
    have hd : l = [Cp.C0] ++ l.drop 1 := by rw [← ht, List.take_append_drop]
    have e : encF l = encF (l.drop 1) := by
      conv => lhs; rw [hd]
      rw [encF_app, encF_none rfl, List.nil_append]
    rw [e, ← ht]
    exact go_back h hn r l.length 1 (by omega) (by omega) (.inl (by unfold prevB; dsimp only; rw [hc]; rfl))
theorem hd_same {l : List Cp.C} (h : l.length ≠ 0) : hdP l = l := by unfold hdP; rw [if_neg h]
/-- What is read is good, and its bytes are what was read. -/
theorem go_forth {n : Nat} (hn : n ≤ 4096) : ∀ (f : Nat) (l l' : List Cp.C) (q r : List UInt8), plGo f n l q = .ok (l', r) → CkIs l 0 → l.length ≠ 0 → l.length ≤ n → n - l.length ≤ f → (∀ c ∈ l, I6 c.n) →
    CkIs l' 0 ∧ l'.length = n ∧ (∀ c ∈ l', I6 c.n) ∧ ∃ t, l' = l ++ t ∧ q = bsOf (encF t) ++ r
  | 0, l, l', q, r, h, hc, h0, hl, hf, hi => by
    unfold plGo at h
    obtain ⟨rfl, rfl⟩ := Prod.mk.inj (Except.ok.inj h)
    exact ⟨hc, by omega, hi, [], by simp, by rfl⟩
  | f + 1, l, l', q, r, h, hc, h0, hl, hf, hi => by
    unfold plGo at h
    by_cases hlt : l.length < n
    · rw [if_pos hlt] at h
      cases he : enP ((n : Int) - (l.length : Int)) q with
      | error e => rw [he] at h; cases h
      | ok y =>
        obtain ⟨c, q'⟩ := y
        rw [he] at h
        dsimp only at h
        obtain ⟨hce, hci, hq, hr⟩ := en_forth he
        have hal : (appE l c).length ≤ n := by
          unfold appE
          by_cases e5 : c.t = 5
          · rw [if_pos e5, List.length_append, List.length_append]
            have : ¬ ((n : Int) - (l.length : Int) < 2) := fun e => hr ⟨e5, e⟩
            simp only [List.length_cons, List.length_nil]
            omega
          · rw [if_neg e5, List.length_append]
            simp only [List.length_cons, List.length_nil]
            omega
        have hck := app_ok hc hce (by rw [hd_same h0]; omega)
        rw [hd_same h0] at hck
        have hlen := (appE_len l c).1
        have hai : ∀ x ∈ appE l c, I6 x.n := by
          intro x hx
          have z6 : I6 Cp.C0.n := by show I6 0; unfold I6; omega
          unfold appE at hx
          by_cases e5 : c.t = 5
          · rw [if_pos e5] at hx
            rcases List.mem_append.1 hx with hx | hx
            · rcases List.mem_append.1 hx with hx | hx
              · exact hi x hx
              · obtain rfl : x = c := by simpa using hx
                exact hci
            · obtain rfl : x = Cp.C0 := by simpa using hx
              exact z6
          · rw [if_neg e5] at hx
            rcases List.mem_append.1 hx with hx | hx
            · exact hi x hx
            · obtain rfl : x = c := by simpa using hx
              exact hci
        obtain ⟨g1, g2, g3, t, g4, g5⟩ := go_forth hn f (appE l c) l' q' r h hck (by omega) hal (by omega) hai
        refine ⟨g1, g2, g3, ?_⟩
        unfold appE at g4
        by_cases e5 : c.t = 5
        · rw [if_pos e5] at g4
          refine ⟨[c] ++ [Cp.C0] ++ t, by rw [g4]; simp, ?_⟩
          rw [encF_app, encF_app, encF_one (ce_t hce), encF_none rfl, List.append_nil, bsOf_app, List.append_assoc, ← g5]
          exact hq
        · rw [if_neg e5] at g4
          refine ⟨[c] ++ t, by rw [g4]; simp, ?_⟩
          rw [encF_app, encF_one (ce_t hce), bsOf_app, List.append_assoc, ← g5]
          exact hq
    · rw [if_neg hlt] at h
      obtain ⟨rfl, rfl⟩ := Prod.mk.inj (Except.ok.inj h)
      exact ⟨hc, by omega, hi, [], by simp, by rfl⟩
theorem pl_forth {bs r : List UInt8} {l : List Cp.C} (h : plP bs = .ok (l, r)) : CkIs l 0 ∧ (∀ c ∈ l, I6 c.n) ∧ bs = bsOf (putB l) ++ r := by
  unfold plP at h
  by_cases h1 : bs.length < 2
  · rw [if_pos h1] at h; cases h
  · rw [if_neg h1] at h
    have l2 : (bs.take 2).length = 2 := by rw [List.length_take]; omega
    have hnr := num2_range l2
    obtain ⟨n, hn⟩ : ∃ n : Nat, Cp.numI (bs.take 2) = n := ⟨(Cp.numI (bs.take 2)).toNat, by omega⟩
    have hb2 := back2 l2
    rw [hn] at h hb2
    by_cases h2 : (4096 : Int) < n
    · rw [if_pos h2] at h; cases h
    · rw [if_neg h2] at h
      have ck1 : CkIs [Cp.C0] 0 := by
        refine ck_all.2 ⟨by simp, fun i hi => ?_⟩
        obtain rfl : i = 0 := by simpa using hi
        simp [errAt, prevB]
      by_cases h3 : (n : Int) = 0
      · rw [if_pos h3] at h
        obtain ⟨rfl, rfl⟩ := Prod.mk.inj (Except.ok.inj h)
        obtain rfl : n = 0 := by omega
        refine ⟨ck_all.2 ⟨by simp, fun i hi => absurd hi (by simp)⟩, (fun c hc => absurd hc (by simp)), ?_⟩
        rw [putB_F, show encF [] = [] from rfl, List.append_nil, show (([] : List Cp.C).length) = 0 from rfl, hb2, List.take_append_drop]
      · rw [if_neg h3, Int.toNat_natCast] at h
        obtain ⟨g1, g2, g3, t, g4, g5⟩ := go_forth (n := n) (by omega) n [Cp.C0] l _ r h ck1 (by simp) (by simp; omega) (by simp) (by
          intro c hc
          obtain rfl : c = Cp.C0 := by simpa using hc
          show I6 0
          unfold I6
          omega)
        refine ⟨g1, g3, ?_⟩
        rw [putB_F, g2, g4, encF_app, encF_none rfl, List.nil_append, bsOf_app, hb2, List.append_assoc, ← g5, List.take_append_drop]
end Go.Proofs.YtjnjnfhboafcgaaGreatDoor.L3
namespace Go.Proofs.YtjnjnfhboafcgaaGreatDoor.L3
open Go.RowKit

def BClPost (zs : List Int) (w : World) (en : Ending) (w' : World) : Prop := ∃ v, en = .returned v ∧ OwnI w' w.heap.size v zs ∧ Below w.heap.size w w'
set_option maxRecDepth 100000 in
set_option maxHeartbeats 400000 in
theorem bclone_some (zs : List Int) (ad : Addr) (cap : Nat) (w : World) (hn : zs.length ≤ 140737488355328) (hc : ∀ j u, (zs.map (Value.int .u8))[j]? = some u → w.cell? (ad.add j) = some u) : Calls Tryz.prog 129 #[.slice (some ad) zs.length cap] w (BClPost zs w) := by
  obtain ⟨i0, hi, hz0, hz1, hz2⟩ := info_parts infoB
  have hnil := fun (W : World) (a : Option Addr) (n c : Nat) => Lib.run_eql_slice_nil (P := Tryz.prog) W 22 5 a n c 0 0 Tryz.underlying22
  have hlt : ∀ j u, (zs.map (Value.int .u8))[j]? = some u → (w.alloc (.cells #[] 5)).cell? (ad.add j) = some u := fun j u h => by
    have h2 := hc j u h
    rw [World.cell?_alloc_lt _ _ _ (World.block_lt_of_cell? w _ h2)]
    exact h2
  have HL := hid hlt
  have hlen : (zs.map (Value.int .u8)).length = zs.length * 1 := by simp
  have HLen := hid hlen
  have h1c : ∀ u ∈ zs.map (Value.int .u8), u.oneCell' = true := by
    intro u hu
    rw [List.mem_map] at hu
    obtain ⟨b, -, rfl⟩ := hu
    rfl
  have H1 := hid h1c
  clear hc hlt hlen h1c
  go_enter Tryz.func129, Tryz.ntmps129
  go_wp2_with (at_builtin; go_loud (refine wpList_append_own _ rfl (.tmp 5) (.tmp 6) 22 rfl w.heap.size 5 i0 _ 1 1 Tryz.underlying22 hi hz0 hz1 hz2 rfl (by decide) _ 0 [] rfl (owns_empty (Nat.le_refl _)) ad zs.length cap (zs.map (Value.int .u8)) rfl HLen.out HL.out H1.out (by unfold maxLen; omega) (by omega) (by simp) ?_); intro v1 w1 hown1 hgrow1 _)
  go_ret
  refine ⟨_, rfl, by unfold OwnI; simpa using hown1, Kit.below_grown (by repeat' first | with_reducible exact Below.refl _ _ | with_reducible assumption | with_reducible refine belows_drewN ?_ _ | with_reducible refine Below.drew ?_ | with_reducible refine Below.setCell ?_ ?_ _ | with_reducible refine Below.alloc ?_ ?_ _ | omega | (simp; done) | (simp; omega)) hgrow1 (by simp) (fun k hk => ?_)⟩
  have : some w.heap.size = some k := hk
  exact Nat.le_of_eq (Option.some.inj this)
end Go.Proofs.YtjnjnfhboafcgaaGreatDoor.L3
namespace Go.Proofs.YtjnjnfhboafcgaaGreatDoor.Kit
open Go Go.RowKit

/-- What is said abides a store into box b. -/
def AbidesBox {β : Type} (b : Nat) (J : β → World → Prop) : Prop := ∀ s W v, J s W → J s (W.setCell ⟨b, 0, none⟩ v)
/-- An iterator's contract, its own state lying in box b: all of xs have come, or a part, a round having said 'no more'. -/
def SeqBox {α : Type} (n : Nat) (P : Program) (g : Nat) (lb : Array Value) (encs : α → Array Value) (n₀ : Nat) (S Sp : List α → Prop) (N b : Nat) (w : World) : Prop :=
  ∀ (l : Nat) (J Jx : List α → World → Prop) (W : World), Below w.heap.size w W → AbidesFrom W.heap.size J → AbidesBox b J →
    (∀ pre x W1, J pre W1 → pre.length < N → YieldAt Fence.wide (n - 1) P l (encs x) W1 fun e W' =>
      (e = .returned (.bool true) ∧ J (pre ++ [x]) W' ∧ Below n₀ W1 W') ∨ (e = .returned (.bool false) ∧ Jx (pre ++ [x]) W')) →
    J [] W → CallsIn Fence.wide n P g (#[.func (.yield l) #[] #[]] ++ lb) W fun e W' => (∃ v, e = .returned v) ∧ ((∃ xs, S xs ∧ J xs W') ∨ (∃ pre, Sp pre ∧ Jx pre W'))

/-- How the caller's body may be left: it goes on, or it returns. -/
def boxPost {α : Type} (B n₀ : Nat) (I Ix : List α → World → Prop) (xs : List α) (W : World) : Exit → Act → World → Prop
  | .normal, _, W' => KeepsFrom B W W' ∧ Below n₀ W W' ∧ I xs W'
  | .ret, _, W' => KeepsFrom B W W' ∧ Ix xs W'
  | _, _, _ => False

section
variable {n : Nat} {P : Program}
theorem range_box {α : Type} {g : Operand} {ps : Array Tmp} {assign body : Code} {Q : Exit → Act → World → Prop} {a : Act} {w : World}
    (h1 : 1 ≤ n) {gf : Nat} {lb : Array Value} (hg : a.eval g = .func (.func gf) #[] lb) (eg : ∀ args w, (callFunc gf args).run P w = .ok (.enter gf args) w)
    {encs : α → Array Value} {n₀ : Nat} {S Sp : List α → Prop} {N b : Nat} {w0 : World} (hseq : SeqBox (n - 1) P gf lb encs n₀ S Sp N b w0) (hn₀ : n₀ ≤ w.heap.size) (hb0 : Below w0.heap.size w0 w) (hps : ∀ x, (encs x).size = ps.size)
    (I Ix : List α → World → Prop) (hI : OwnFrom w.heap.size I) (hIx : OwnFrom w.heap.size Ix) (hIb : AbidesBox b I) (h0 : I [] w) (a₁ : α → Act)
    (hassign : ∀ (l : Nat) (x : α) (W : World) (K : Act → World → Prop), K (a₁ x) W →
      assign.wpIn (Fence.wide.inRound l) (n - 1 - 1) P (Exit.then K (fun _ _ _ => False)) { tmps := (ps.zip (encs x)).foldl (fun t (p, v) => t.setIfInBounds p v) a.tmps, defers := [] } W)
    (hbody : ∀ (l : Nat) (pre : List α) (x : α) (W : World), I pre W → pre.length < N → body.wpIn (Fence.wide.inRound l) (n - 1 - 1) P (boxPost w.heap.size n₀ I Ix (pre ++ [x]) W) (a₁ x) W)
    (hdone : ∀ (D : Nat) (xs : List α) (W : World), w.heap.size ≤ D → S xs → I xs W → W.heap[D]? = some (.deferred (some [])) → Q .normal { a with defers := { target := .collected D, args := #[] } :: a.defers } W)
    (hstop : ∀ (D : Nat) (pre : List α) (W : World), w.heap.size ≤ D → Sp pre → Ix pre W → W.heap[D]? = some (.deferred (some [])) → Code.ret.wpIn Fence.wide n P Q { a with defers := { target := .collected D, args := #[] } :: a.defers } W) :
    (Code.rangeFunc g ps assign body).wpIn Fence.wide n P Q a w := by
  refine wpIn_rangeFunc fun fn hfn => ?_
  -- the loop's record, in a state; the block for deferred calls lies ahead of it
  let R : LoopState → Option Code → Obj := fun st j => .loop { state := st, pending := j, fn, tmps := a.tmps, params := ps, assign, body, defers := w.heap.size }
  let D := w.heap.size
  let L := w.heap.size + 1
  -- what holds between two rounds, and behind the last
  let J : List α → World → Prop := fun pre W => I pre W ∧ W.heap[L]? = some (R .ready none) ∧ W.heap[D]? = some (.deferred (some []))
  let Jx : List α → World → Prop := fun pre W => Ix pre W ∧ W.heap[L]? = some (R .done (some .ret)) ∧ W.heap[D]? = some (.deferred (some []))
  have hmk : ((w.alloc (.deferred (some []))).alloc (R .ready none)).heap[L]? = some (R .ready none) := by
    have := World.alloc_heap_new (w.alloc (.deferred (some []))) (R .ready none)
    rwa [World.size_alloc] at this
  have hmd : ((w.alloc (.deferred (some []))).alloc (R .ready none)).heap[D]? = some (.deferred (some [])) := (Below.heap_alloc _ _ _ (by simp [D])).trans (World.alloc_heap_new w _)
  have hlarge : w.heap.size ≤ ((w.alloc (.deferred (some []))).alloc (R .ready none)).heap.size := by simp only [World.size_alloc]; omega
  have stays : ∀ {A B : World} {row : Option Nat} {k : Nat} {o : Obj}, A.grownBy B row → (∀ r, row = some r → ((w.alloc (.deferred (some []))).alloc (R .ready none)).heap.size ≤ r ∧ ∃ o : Obj, A.heap[r]? = some o ∧ o.isWalk = true) → A.heap[k]? = some o → o.isWalk = false → B.heap[k]? = some o :=
    fun hg' hr hk ho => (grownBy_keeps hg' (fun r e => (hr r e).2) hk ho).trans hk
  have fromI : ∀ {A : World} {row : Option Nat}, (∀ r, row = some r → ((w.alloc (.deferred (some []))).alloc (R .ready none)).heap.size ≤ r ∧ ∃ o : Obj, A.heap[r]? = some o ∧ o.isWalk = true) → ∀ r, row = some r → w.heap.size ≤ r ∧ ∃ o : Obj, A.heap[r]? = some o ∧ o.isCells = false :=
    fun hr r e => by obtain ⟨hB, o, ho, hw⟩ := hr r e; exact ⟨Nat.le_trans hlarge hB, o, ho, Obj.not_cells_of_walk hw⟩
  refine ⟨L, [{ target := .collected D, args := #[] }], (w.alloc (.deferred (some []))).alloc (R .ready none), { target := .fn (.func gf) lb, args := #[.func (.yield L) #[] #[]] }, (w.alloc (.deferred (some []))).alloc (R .ready none), gf, #[.func (.yield L) #[] #[]] ++ lb, (w.alloc (.deferred (some []))).alloc (R .ready none), run_enterLoop_outer _ _ _ _ _, ?_, fun f' _ => trivial, ?_, fun _ => h1, ?_⟩
  · simp only [resolve, hg]
    simp [go_sem]
  · simp [invoke, go_sem, eg]
  refine (hseq L J Jx _ (hb0.trans ((((Below.refl _ w).alloc (Nat.le_refl _) _).alloc (by simp) _).mono hb0.size))
    (fun s A B row hs hg' hr => ⟨hI s A B row hs.1 hg' (fromI hr), stays hg' hr hs.2.1 rfl, stays hg' hr hs.2.2 rfl⟩)
    (fun s A v hs => ⟨hIb s A v hs.1, (KeepsOthers.setCell A _ v).same _ _ hs.2.1 rfl, (KeepsOthers.setCell A _ v).same _ _ hs.2.2 rfl⟩)
    ?_ ⟨hI.alloc _ (hI.alloc _ h0), hmk, hmd⟩).mono ?_
  · -- one round
    rintro pre x W ⟨hi, hl, hd⟩ hlen
    have hlt : L < W.heap.size := (Array.getElem?_eq_some_iff.1 hl).1
    refine ⟨fn, _, assign, body, run_yield (args := encs x) hl (hps x), roundIn_of_wpIn hfn (hassign _ x W _ ⟨_, run_beginRound hl rfl, ?_⟩)⟩
    have hl2 : (W.putObj L (R .busy none)).heap[L]? = some (R .busy none) := World.putObj_heap_same hlt
    have hd2 : (W.putObj L (R .busy none)).heap[D]? = some (.deferred (some [])) := (World.putObj_heap_other (by simp [D, L])).trans hd
    have hk2 : Below n₀ W (W.putObj L (R .busy none)) := belowK_b hn₀ W L _ _ (by simp [L]) hl rfl rfl
    refine wpIn_mono (hbody _ pre x _ (hI.putObj _ hi (by simp [L]) hl rfl) hlen) ?_
    have fin : ∀ (jump : Option Code) (W3 : World), KeepsFrom w.heap.size (W.putObj L (R .busy none)) W3 →
        (Instr.endRound L jump).run P W3 = .ok (.bool jump.isNone) (W3.putObj L (R (if jump.isNone then .ready else .done) jump)) ∧ W3.heap[L]? = some (R .busy none) ∧
        (W3.putObj L (R (if jump.isNone then .ready else .done) jump)).heap[L]? = some (R (if jump.isNone then .ready else .done) jump) ∧ (W3.putObj L (R (if jump.isNone then .ready else .done) jump)).heap[D]? = some (.deferred (some [])) := fun jump W3 hk3 => by
      have hl3 := hk3.same _ _ (by simp [L]) hl2 rfl
      exact ⟨run_endRound jump hl3, hl3, World.putObj_heap_same (Array.getElem?_eq_some_iff.1 hl3).1, (World.putObj_heap_other (by simp [D, L])).trans (hk3.same _ _ (Nat.le_refl _) hd2 rfl)⟩
    rintro e a3 W3 hp
    cases e with
    | normal =>
      obtain ⟨hk3, hb3, hi3⟩ := hp
      obtain ⟨hr, hl3, hl4, hd4⟩ := fin none W3 hk3
      exact ⟨_, _, hr, .inl ⟨rfl, ⟨hI.putObj _ hi3 (by simp [L]) hl3 rfl, hl4, hd4⟩, (hk2.trans hb3).trans (belowK_b hn₀ W3 L _ _ (by simp [L]) hl3 rfl rfl)⟩⟩
    | ret =>
      obtain ⟨hk3, hi3⟩ := hp
      obtain ⟨hr, hl3, hl4, hd4⟩ := fin (some .ret) W3 hk3
      exact ⟨_, _, hr, .inr ⟨rfl, hIx.putObj _ hi3 (by simp [L]) hl3 rfl, hl4, hd4⟩⟩
    | exit id => exact hp.elim
    | goto t => exact hp.elim
    | panic ch => exact hp.elim
    | outgrown => exact hp.elim
  · -- behind the iterator
    rintro e W2 ⟨⟨v, rfl⟩, (⟨xs, hS, hi, hl, hd⟩ | ⟨pre, hSp, hi, hl, hd⟩)⟩
    · exact ⟨none, _, run_endLoop hl (by simp), hdone _ xs _ (Nat.le_refl _) hS (hI.putObj _ hi (by simp [L]) hl rfl) ((World.putObj_heap_other (by simp [D, L])).trans hd)⟩
    · exact ⟨some .ret, _, run_endLoop hl (by simp), hstop _ pre _ (Nat.le_refl _) hSp (hIx.putObj _ hi (by simp [L]) hl rfl) ((World.putObj_heap_other (by simp [D, L])).trans hd)⟩
end
end Go.Proofs.YtjnjnfhboafcgaaGreatDoor.Kit
namespace Go.Proofs.YtjnjnfhboafcgaaGreatDoor.L2
open Go.RowKit

theorem hid {p : Prop} (h : p) : Hid p := h
theorem belows {B : Nat} {a b c : World} (h : Below B a b) (k : Below b.heap.size b c) (hB : B ≤ b.heap.size) : Below B a c := h.trans (k.mono hB)
theorem belows_drewN {B : Nat} {a b : World} (h : Below B a b) (n : Nat) : Below B a (b.drewN n) := ⟨h.os, h.tape, h.output, h.size, h.block⟩
theorem bcell {W w1 : World} (hb : Below W.heap.size W w1) : (∀ b o, b < W.heap.size → w1.cell? ⟨b, o, none⟩ = W.cell? ⟨b, o, none⟩) ∧ (∀ b o, b < W.heap.size → w1.frozen? ⟨b, o, none⟩ = W.frozen? ⟨b, o, none⟩) :=
  ⟨fun b o h => hb.cell (p := ⟨b, o, none⟩) h, fun b o h => hb.frozen (p := ⟨b, o, none⟩) h⟩
end Go.Proofs.YtjnjnfhboafcgaaGreatDoor.L2
namespace Go.Proofs.YtjnjnfhboafcgaaGreatDoor.L2
open Go.RowKit

/-- What kinds answers, as read. -/
def kD : DataW Unit := ((DataW.map []).put (.int .u8 73) (.lit (.int .i64 1))).put (.int .u8 74) (.lit (.int .i64 2))
def KMap (w : World) (mb : Nat) : Prop := w.ownsMap Tryz.prog 5 (plainElem (H := Unit) Tryz.prog 3) mb 2 kD
theorem KMap.below {w w' : World} {mb n₀ : Nat} (h : KMap w mb) (hb : Below n₀ w w') (hm : mb < n₀) : KMap w' mb := by
  obtain ⟨es, clock, h1, h2, h3, h4⟩ := h
  exact ⟨es, clock, (hb.block mb hm).trans h1, h2, h3, h4⟩
def kindOf (c : UInt8) : Int := if c = 73 then 1 else if c = 74 then 2 else 0
def isK (c : UInt8) : Bool := c == 73 || c == 74
theorem A.zeroInt (w : World) : (zeroValue 3).run Tryz.prog w = .ok (.int .i64 0) w := by kernel_rfl
set_option maxRecDepth 100000 in
theorem kinds_any (w : World) : Calls Tryz.prog 172 #[] w fun e w' => e = .returned (.map (some w.heap.size)) ∧ KMap w' w.heap.size ∧ Below w.heap.size w w' ∧ w.heap.size < w'.heap.size := by
  have hmm := @run_makeMap Tryz.prog
  have h0 := World.ownsMap_made w Tryz.prog 5 (plainElem (H := Unit) Tryz.prog 3)
  obtain ⟨w1, hr1, ho1, hg1⟩ := h0.update (Maps.int_keyed Tryz.underlying5) Tryz.underlying206 (by decide) (Maps.keyOf_int_mk Tryz.underlying5 (a := 73) (by decide)) (plainElem_int Tryz.underlying3 (a := 1) (by decide))
  obtain ⟨w2, hr2, ho2, hg2⟩ := ho1.update (Maps.int_keyed Tryz.underlying5) Tryz.underlying206 (by decide) (Maps.keyOf_int_mk Tryz.underlying5 (a := 74) (by decide)) (plainElem_int Tryz.underlying3 (a := 2) (by decide))
  have HO := hid ho2
  have hb : Below w.heap.size w w2 := ((((Below.refl _ w).alloc (Nat.le_refl _) _).grown hg1 (by simp) (fun k e => by cases e; exact Nat.le_refl _)).grown hg2 (by have := hg1.size; simp at this; omega) (fun k e => by cases e; exact Nat.le_refl _))
  have hz := hg1.size
  have hz2 := hg2.size
  simp only [World.size_alloc] at hz
  clear h0 ho1 ho2 hg1 hg2
  go_enter Tryz.func172, Tryz.ntmps172
  go_wp2
  go_ret
  exact ⟨rfl, HO.out, hb, by omega⟩
theorem kD_eq : kD = .map [(.int .u8 73, .lit (.int .i64 1)), (.int .u8 74, .lit (.int .i64 2))] := rfl
theorem kmap_look {w : World} {mb : Nat} (h : KMap w mb) (c : UInt8) :
    (Instr.lookup 206 (.map (some mb)) (.int .u8 (c.toNat : Nat)) true).run Tryz.prog w = .ok (.tuple #[.int .i64 (kindOf c), .bool (isK c)]) w := by
  have hc := UInt8.toNat_lt c
  have hwf : (Lit.int .u8 ((c.toNat : Nat) : Int)).wf = true := by
    simp [Lit.wf, IntKind.min, IntKind.max, IntKind.signed, IntKind.bits]; omega
  obtain ⟨v, ps, hrun, hv⟩ := World.ownsMap.look_ok h (Maps.int_keyed Tryz.underlying5) Tryz.underlying206 (A.zeroInt w) (plainElem_int Tryz.underlying3 (a := 0) (by decide)) (Maps.keyOf_int_mk Tryz.underlying5 hwf)
  obtain ⟨a, rfl, ha, -⟩ := plainElem_int_inv Tryz.underlying3 hv
  rw [hrun]
  have e1 : (73 : UInt8).toNat = 73 := rfl
  have e2 : (74 : UInt8).toNat = 74 := rfl
  have hh : a = kindOf c ∧ Maps.has kD (.int .u8 ((c.toNat : Nat) : Int)) = isK c := by
    rw [kD_eq] at ha ⊢
    unfold kindOf isK
    by_cases h1 : c = 73
    · subst h1
      rw [e1] at ha ⊢
      simp [DataW.atKey, Lit.sameKey] at ha
      simp [Maps.has, Lit.sameKey, ha.1]
    · by_cases h2 : c = 74
      · subst h2
        rw [e2] at ha ⊢
        simp [DataW.atKey, Lit.sameKey] at ha
        simp [Maps.has, Lit.sameKey, ha.1]
      · have n1 : ¬ c.toNat = 73 := fun e => h1 (UInt8.toNat_inj.1 (by omega))
        have n2 : ¬ c.toNat = 74 := fun e => h2 (UInt8.toNat_inj.1 (by omega))
        have m1 : ¬ (73 : Int) = (c.toNat : Int) := by omega
        have m2 : ¬ (74 : Int) = (c.toNat : Int) := by omega
        simp [DataW.atKey, Lit.sameKey, m1, m2] at ha
        simp [Maps.has, Lit.sameKey, m1, m2, ha.1, h1, h2]
  rw [hh.1, hh.2]
end Go.Proofs.YtjnjnfhboafcgaaGreatDoor.L2
namespace Go.Proofs.YtjnjnfhboafcgaaGreatDoor.L2.Ds

abbrev bl (s : ByteArray) : List UInt8 := s.data.toList
def badC : List UInt8 := [46, 59, 91, 47, 60, 62]
def goodC (c : UInt8) : Bool := decide (33 ≤ c.toNat) && decide (c.toNat ≤ 126) && !badC.contains c
def partB (l : List UInt8) : Bool := !l.isEmpty && l.all goodC
/-- The text ahead of a byte, and the one behind it. -/
def cutC (c : UInt8) : List UInt8 → Option (List UInt8 × List UInt8)
  | [] => none
  | x :: l => if x = c then some ([], l) else match cutC c l with | none => none | some (a, b) => some (x :: a, b)
def splitC (c : UInt8) : List UInt8 → List (List UInt8)
  | [] => [[]]
  | x :: l => if x = c then [] :: splitC c l else match splitC c l with | [] => [[x]] | h :: t => (x :: h) :: t
def classB (l : List UInt8) : Bool := (splitC 47 l).all partB
theorem splitC_ne (c : UInt8) (l : List UInt8) : splitC c l ≠ [] := by
  cases l with
  | nil => simp [splitC]
  | cons x l =>
    unfold splitC
    split
    · simp
    · split <;> simp
theorem split_none {c : UInt8} : ∀ {l : List UInt8}, cutC c l = none → splitC c l = [l]
  | [], _ => rfl
  | x :: l, h => by
    unfold cutC at h
    split at h
    · cases h
    · rename_i hx
      have h2 : cutC c l = none := by
        cases h3 : cutC c l with
        | none => rfl
        | some ab => rw [h3] at h; cases h
      unfold splitC
      rw [if_neg hx, split_none h2]
theorem split_some {c : UInt8} : ∀ {l a b : List UInt8}, cutC c l = some (a, b) → splitC c l = a :: splitC c b
  | [], _, _, h => by cases h
  | x :: l, a, b, h => by
    unfold cutC at h
    split at h
    · rename_i hx
      simp only [Option.some.injEq, Prod.mk.injEq] at h
      obtain ⟨rfl, rfl⟩ := h
      conv => lhs; unfold splitC
      rw [if_pos hx]
    · rename_i hx
      cases h3 : cutC c l with
      | none => rw [h3] at h; cases h
      | some ab =>
        obtain ⟨a', b'⟩ := ab
        rw [h3] at h
        simp only [Option.some.injEq, Prod.mk.injEq] at h
        obtain ⟨rfl, rfl⟩ := h
        conv => lhs; unfold splitC
        rw [if_neg hx, split_some h3]
theorem cut_eq {c : UInt8} : ∀ {l a b : List UInt8}, cutC c l = some (a, b) → l = a ++ c :: b
  | [], _, _, h => by cases h
  | x :: l, a, b, h => by
    unfold cutC at h
    split at h
    · rename_i hx
      simp only [Option.some.injEq, Prod.mk.injEq] at h
      obtain ⟨rfl, rfl⟩ := h
      rw [hx]; rfl
    · cases h3 : cutC c l with
      | none => rw [h3] at h; cases h
      | some ab =>
        obtain ⟨a', b'⟩ := ab
        rw [h3] at h
        simp only [Option.some.injEq, Prod.mk.injEq] at h
        obtain ⟨rfl, rfl⟩ := h
        rw [cut_eq h3]; rfl
theorem idx_none {c : UInt8} : ∀ {l : List UInt8}, cutC c l = none → Lib.indexByte l c = -1
  | [], _ => rfl
  | x :: l, h => by
    unfold cutC at h
    split at h
    · cases h
    · rename_i hx
      have h2 : cutC c l = none := by
        cases h3 : cutC c l with
        | none => rfl
        | some ab => rw [h3] at h; cases h
      unfold Lib.indexByte
      rw [if_neg (by simpa using hx), idx_none h2]
      rfl
theorem idx_some {c : UInt8} : ∀ {l a b : List UInt8}, cutC c l = some (a, b) → Lib.indexByte l c = (a.length : Nat)
  | [], _, _, h => by cases h
  | x :: l, a, b, h => by
    unfold cutC at h
    split at h
    · rename_i hx
      simp only [Option.some.injEq, Prod.mk.injEq] at h
      obtain ⟨rfl, rfl⟩ := h
      unfold Lib.indexByte
      rw [if_pos (by simpa using hx)]
      rfl
    · rename_i hx
      cases h3 : cutC c l with
      | none => rw [h3] at h; cases h
      | some ab =>
        obtain ⟨a', b'⟩ := ab
        rw [h3] at h
        simp only [Option.some.injEq, Prod.mk.injEq] at h
        obtain ⟨rfl, rfl⟩ := h
        have ih := idx_some h3
        unfold Lib.indexByte
        rw [if_neg (by simpa using hx), ih, if_neg (by rw [beq_iff_eq]; omega)]
        simp
theorem idx_bad (c : UInt8) : (decide (0 ≤ Lib.indexByte badC c)) = badC.contains c := (Lib.contains_iff_indexByte badC c).symm
end Go.Proofs.YtjnjnfhboafcgaaGreatDoor.L2.Ds
namespace Go.Proofs.YtjnjnfhboafcgaaGreatDoor.L2
open Go.Shelf
def Sh.lays137_ren : Go.Shelf.Ren := ⟨fun | 137 => 162 | 217 => 186 | 266 => 199 | n => n, fun | 9 => 9 | 5 => 5 | 3 => 3 | n => n, fun | n => n⟩
theorem Sh.lays137 : Go.Proofs.Lays.n137 Tryz.prog Sh.lays137_ren := {
  mixed := by kernel_rfl
  f137 := Tryz.func162.trans (congrArg some (by kernel_rfl))
  f217 := Tryz.func186.trans (congrArg some (by kernel_rfl))
  f266 := Tryz.func199.trans (congrArg some (by kernel_rfl))
  t3 := Tryz.underlying3
  a3 := Tryz.isAgg3
  z3 := Tryz.sizeOf3
  v3 := Tryz.zeroValue3
  t5 := Tryz.underlying5
  a5 := Tryz.isAgg5
  z5 := Tryz.sizeOf5
  v5 := Tryz.zeroValue5
  t9 := Tryz.underlying9
  a9 := Tryz.isAgg9
  z9 := Tryz.sizeOf9
  v9 := Tryz.zeroValue9 }
open Go.RowKit in
theorem Sh.strings_IndexByte (s : ByteArray) (c : Int) (w : World) :
    Calls Tryz.prog 162 #[.string s, .int .u8 c] w fun e w' => e = .returned (.int .i64 (Lib.indexByte s.data.toList c.toNat.toUInt8)) ∧ w' = w := Any.strings_IndexByte Sh.lays137 s c w
def Sh.lays219_ren : Go.Shelf.Ren := ⟨fun | 219 => 198 | 217 => 186 | 225 => 210 | 224 => 211 | 267 => 212 | 266 => 199 | 314 => 216 | n => n, fun | 9 => 9 | 3 => 3 | 4 => 4 | 5 => 5 | 46 => 107 | 146 => 251 | 51 => 250 | n => n, fun | 1 => 4 | n => n⟩
theorem Sh.lays219 : Go.Proofs.Lays.n219 Tryz.prog Sh.lays219_ren := {
  mixed := by kernel_rfl
  f217 := Tryz.func186.trans (congrArg some (by kernel_rfl))
  f219 := Tryz.func198.trans (congrArg some (by kernel_rfl))
  f224 := Tryz.func211.trans (congrArg some (by kernel_rfl))
  f225 := Tryz.func210.trans (congrArg some (by kernel_rfl))
  f266 := Tryz.func199.trans (congrArg some (by kernel_rfl))
  f267 := Tryz.func212.trans (congrArg some (by kernel_rfl))
  f314 := Tryz.func216.trans (congrArg some (by kernel_rfl))
  t3 := Tryz.underlying3
  a3 := Tryz.isAgg3
  z3 := Tryz.sizeOf3
  v3 := Tryz.zeroValue3
  t4 := Tryz.underlying4
  a4 := Tryz.isAgg4
  z4 := Tryz.sizeOf4
  v4 := Tryz.zeroValue4
  t5 := Tryz.underlying5
  a5 := Tryz.isAgg5
  z5 := Tryz.sizeOf5
  v5 := Tryz.zeroValue5
  t9 := Tryz.underlying9
  a9 := Tryz.isAgg9
  z9 := Tryz.sizeOf9
  v9 := Tryz.zeroValue9
  t46 := Tryz.underlying107
  a46 := Tryz.isAgg107
  z46 := Tryz.sizeOf107
  v46 := Tryz.zeroValue107
  t51 := Tryz.underlying250
  a51 := Tryz.isAgg250
  z51 := Tryz.sizeOf250
  v51 := Tryz.zeroValue250
  t146 := Tryz.underlying251
  a146 := Tryz.isAgg251
  z146 := Tryz.sizeOf251
  v146 := Tryz.zeroValue251
  g1 := by kernel_rfl }
open Go.RowKit Go.Lib in
theorem Sh.stringslite_Index_one (s : ByteArray) (c : UInt8) (w : World) :
    Calls Tryz.prog 198 #[.string s, .string ⟨#[c]⟩] w fun e w' => e = .returned (.int .i64 (Lib.indexByte s.data.toList c)) ∧ w' = w := Any.stringslite_Index_one Sh.lays219 s c w
def Sh.lays143_ren : Go.Shelf.Ren := ⟨fun | 143 => 185 | 219 => 198 | 217 => 186 | 225 => 210 | 224 => 211 | 267 => 212 | 266 => 199 | 314 => 216 | n => n, fun | 9 => 9 | 3 => 3 | 4 => 4 | 5 => 5 | 46 => 107 | 146 => 251 | 51 => 250 | n => n, fun | 1 => 4 | n => n⟩
theorem Sh.lays143 : Go.Proofs.Lays.n143 Tryz.prog Sh.lays143_ren := {
  mixed := by kernel_rfl
  f143 := Tryz.func185.trans (congrArg some (by kernel_rfl))
  f217 := Tryz.func186.trans (congrArg some (by kernel_rfl))
  f219 := Tryz.func198.trans (congrArg some (by kernel_rfl))
  f224 := Tryz.func211.trans (congrArg some (by kernel_rfl))
  f225 := Tryz.func210.trans (congrArg some (by kernel_rfl))
  f266 := Tryz.func199.trans (congrArg some (by kernel_rfl))
  f267 := Tryz.func212.trans (congrArg some (by kernel_rfl))
  f314 := Tryz.func216.trans (congrArg some (by kernel_rfl))
  t3 := Tryz.underlying3
  a3 := Tryz.isAgg3
  z3 := Tryz.sizeOf3
  v3 := Tryz.zeroValue3
  t4 := Tryz.underlying4
  a4 := Tryz.isAgg4
  z4 := Tryz.sizeOf4
  v4 := Tryz.zeroValue4
  t5 := Tryz.underlying5
  a5 := Tryz.isAgg5
  z5 := Tryz.sizeOf5
  v5 := Tryz.zeroValue5
  t9 := Tryz.underlying9
  a9 := Tryz.isAgg9
  z9 := Tryz.sizeOf9
  v9 := Tryz.zeroValue9
  t46 := Tryz.underlying107
  a46 := Tryz.isAgg107
  z46 := Tryz.sizeOf107
  v46 := Tryz.zeroValue107
  t51 := Tryz.underlying250
  a51 := Tryz.isAgg250
  z51 := Tryz.sizeOf250
  v51 := Tryz.zeroValue250
  t146 := Tryz.underlying251
  a146 := Tryz.isAgg251
  z146 := Tryz.sizeOf251
  v146 := Tryz.zeroValue251
  g1 := by kernel_rfl }
open Go.RowKit Go.Lib in
theorem Sh.strings_Index_one (s : ByteArray) (c : UInt8) (w : World) :
    Calls Tryz.prog 185 #[.string s, .string ⟨#[c]⟩] w fun e w' => e = .returned (.int .i64 (Lib.indexByte s.data.toList c)) ∧ w' = w := Any.strings_Index_one Sh.lays143 s c w
end Go.Proofs.YtjnjnfhboafcgaaGreatDoor.L2
namespace Go.Proofs.YtjnjnfhboafcgaaGreatDoor.L2
open Go.RowKit

theorem bl_at (s : ByteArray) (k : Nat) (h : k < s.size) : (Ds.bl s)[k]? = some s[k] := by
  have : k < s.data.toList.length := by simpa using h
  rw [List.getElem?_eq_getElem this]; rfl
theorem bl_len (s : ByteArray) : (Ds.bl s).length = s.size := by simp [Ds.bl]
theorem take_at (s : ByteArray) (k : Nat) (h : k < s.size) : (Ds.bl s).take (k + 1) = (Ds.bl s).take k ++ [s[k]] := by
  rw [List.take_succ_eq_append_getElem (by simpa [Ds.bl] using h)]; rfl
theorem all_bad {s : ByteArray} {k : Nat} (h : k < s.size) {f : UInt8 → Bool} (hf : f s[k] = false) : (Ds.bl s).all f = false := by
  rw [List.all_eq_false]
  exact ⟨s[k], List.mem_of_getElem? (bl_at s k h), by simp [hf]⟩
theorem part_empty (s : ByteArray) : (Ds.bl s).isEmpty = decide (s.size = 0) := by
  rw [Bool.eq_iff_iff, List.isEmpty_iff, ← List.length_eq_zero_iff, bl_len]; simp
theorem idxbad_any (c : UInt8) (w : World) : Calls Tryz.prog 162 #[.string ⟨#[46, 59, 91, 47, 60, 62]⟩, .int .u8 (c.toNat : Nat)] w fun e w' => e = .returned (.int .i64 (Lib.indexByte Ds.badC c)) ∧ w = w' := by
  refine (Sh.strings_IndexByte _ _ w).mono ?_
  rintro e w' ⟨rfl, rfl⟩
  refine ⟨?_, rfl⟩
  rw [show ((c.toNat : Nat) : Int).toNat.toUInt8 = c by simp]
  rfl
theorem all_good {s : ByteArray} {k : Nat} (h : k < s.size) (ha : ((Ds.bl s).take k).all Ds.goodC = true) (hg : Ds.goodC s[k] = true) : Hid (((Ds.bl s).take (k + 1)).all Ds.goodC = true) := by
  show _ = _
  rw [take_at s k h, List.all_append, ha]; simp [hg]
theorem part_no {s : ByteArray} (h : (Ds.bl s).all Ds.goodC = false) : Ds.partB (Ds.bl s) = false := by unfold Ds.partB; rw [h]; simp
set_option maxRecDepth 100000 in
set_option maxHeartbeats 400000 in
theorem isPart_any (s : ByteArray) (w : World) (hs : s.size ≤ maxLen) :
    Calls Tryz.prog 123 #[.string s] w fun e w' => e = .returned (.bool (Ds.partB (Ds.bl s))) ∧ w = w' := by
  unfold maxLen at hs
  go_enter Tryz.func123, Tryz.ntmps123
  go_wp2
  go_loop [6] (fun i => ∃ k : Nat, k ≤ s.size ∧ i = .int .i64 k ∧ Hid (((Ds.bl s).take k).all Ds.goodC = true)) (fun i => s.size - (intOf i).toNat)
  case atStart => exact ⟨0, Nat.zero_le _, rfl, rfl⟩
  case round =>
    obtain ⟨k, hk, rfl, hg⟩ := hrel
    by_cases hlt : k < s.size
    · have HG : Hid (Ds.goodC s[k] = (decide (33 ≤ s[k].toNat) && decide (s[k].toNat ≤ 126) && !decide (0 ≤ Lib.indexByte Ds.badC s[k]))) := by show _ = _; unfold Ds.goodC; rw [Ds.idx_bad]
      by_cases h1 : (s[k].toNat : Int) < 33
      · have HF := hid (part_no (all_bad (f := Ds.goodC) hlt (by rw [HG.out]; simp; omega)))
        have hd : decide ((s[k].toNat : Int) < 33) = true := by simpa using h1
        go_wp2
        go_ret
        exact ⟨by rw [HF.out]; rfl, rfl⟩
      · have hd : decide ((s[k].toNat : Int) < 33) = false := by simpa using h1
        by_cases h2 : 126 < (s[k].toNat : Int)
        · have HF := hid (part_no (all_bad (f := Ds.goodC) hlt (by rw [HG.out]; simp; omega)))
          have hd2 : decide (126 < (s[k].toNat : Int)) = true := by simpa using h2
          go_wp2
          go_ret
          exact ⟨by rw [HF.out]; rfl, rfl⟩
        · have hd2 : decide (126 < (s[k].toNat : Int)) = false := by simpa using h2
          have HC := hid (idxbad_any s[k])
          by_cases h3 : 0 ≤ Lib.indexByte Ds.badC s[k]
          · have HF := hid (part_no (all_bad (f := Ds.goodC) hlt (by rw [HG.out]; simp [h3])))
            have hd3 : decide (0 ≤ Lib.indexByte Ds.badC s[k]) = true := by simpa using h3
            go_wp2_with (go_at_call 162; refine (HC.out _).mono ?_; rintro e w' ⟨rfl, rfl⟩)
            go_ret
            exact ⟨by rw [HF.out]; rfl, rfl⟩
          · have hd3 : decide (0 ≤ Lib.indexByte Ds.badC s[k]) = false := by simpa using h3
            have HF := all_good hlt hg.out (by rw [HG.out, hd3]; simp; omega)
            go_wp2_with (go_at_call 162; refine (HC.out _).mono ?_; rintro e w' ⟨rfl, rfl⟩)
            go_round
            case rel => exact ⟨k + 1, by omega, by go_num, HF⟩
            case measure => simp [intOf]; omega
    · obtain rfl : k = s.size := by omega
      have HF : Hid (Ds.partB (Ds.bl s) = !decide (s.size = 0)) := by
        have h := hg.out
        rw [List.take_of_length_le (by rw [bl_len]; exact Nat.le_refl _)] at h
        show _ = _
        unfold Ds.partB
        rw [h, part_empty]; simp
      by_cases h0 : s.size = 0
      · have hb : (s.toList.isEmpty) = true := by rw [ByteArray.toList_eq]; have := part_empty s; unfold Ds.bl at this; rw [this]; simpa using h0
        have HF2 := HF.out
        rw [decide_eq_true h0] at HF2
        have HF3 := hid HF2
        clear HF HF2
        go_wp2
        go_ret
        exact ⟨by rw [HF3.out]; rfl, rfl⟩
      · have hb : (s.toList.isEmpty) = false := by rw [ByteArray.toList_eq]; have := part_empty s; unfold Ds.bl at this; rw [this]; simpa using h0
        have HF2 := HF.out
        rw [decide_eq_false h0] at HF2
        have HF3 := hid HF2
        clear HF HF2 h0
        go_wp2
        trace_state
        go_ret
        exact ⟨by rw [HF3.out]; rfl, rfl⟩
end Go.Proofs.YtjnjnfhboafcgaaGreatDoor.L2
namespace Go.Proofs.YtjnjnfhboafcgaaGreatDoor.L2
open Go.RowKit

theorem bl_ext (s : ByteArray) (a b : Nat) : Ds.bl (s.extract a b) = ((Ds.bl s).drop a).take (b - a) := Lib.extract_data s a b
theorem ext_size (s : ByteArray) (a b : Nat) : (s.extract a b).size ≤ s.size := by rw [ByteArray.size_extract]; omega
/-- What ClassName answers, and what MemberName does. -/
def nameE (l : List UInt8) : Int := if 255 < l.length then 3 else if Ds.classB l = true then 0 else 21
def initL : List UInt8 := [60, 105, 110, 105, 116, 62]
def memE (l : List UInt8) : Int := if 255 < l.length then 3 else if Ds.partB l = true ∨ l = initL then 0 else 21
theorem str_eq (s : ByteArray) (l : List UInt8) : (s.toList = l) = (Ds.bl s = l) := by rw [ByteArray.toList_eq]
end Go.Proofs.YtjnjnfhboafcgaaGreatDoor.L2
namespace Go.Proofs.YtjnjnfhboafcgaaGreatDoor.L2
open Go.RowKit

attribute [local go_sem] Oper.semAt_some

/-- A text that is not longer than any may be. -/
abbrev Sx := { x : ByteArray // x.size ≤ 9223372036854775000 }
def strE (x : Sx) : Array Value := #[.string x.1]
def bx (x : Sx) : List UInt8 := Ds.bl x.1
/-- How long the text is that is still to be told. -/
def restLen (b : Nat) (w : World) : Nat := match w.cell? ⟨b, 0, none⟩ with | some (.string r) => r.size | _ => 0
theorem restLen_of {b : Nat} {w : World} {r : ByteArray} (h : w.cell? ⟨b, 0, none⟩ = some (.string r)) : restLen b w = r.size := by unfold restLen; rw [h]
/-- The three boxes of the iterator. -/
structure Spl (w : World) (bp bs bz : Nat) (r : ByteArray) : Prop where
  sep : Boxed w bp 9 (.string ⟨#[47]⟩)
  str : Boxed w bs 9 (.string r)
  sav : Boxed w bz 3 (.int .i64 0)
theorem Boxed.below {W W' : World} {B n₀ : Nat} {t : TypeId} {v : Value} (h : Boxed W B t v) (hb : Below n₀ W W') (hB : B < n₀) : Boxed W' B t v := (hb.block B hB).trans h
theorem Spl.below {w w' : World} {bp bs bz n₀ : Nat} {r : ByteArray} (h : Spl w bp bs bz r) (hb : Below n₀ w w') (h1 : bp < n₀) (h2 : bs < n₀) (h3 : bz < n₀) : Spl w' bp bs bz r :=
  ⟨Boxed.below h.sep hb h1, Boxed.below h.str hb h2, Boxed.below h.sav hb h3⟩
theorem Spl.set {w : World} {bp bs bz : Nat} {r : ByteArray} (h : Spl w bp bs bz r) (q : ByteArray) (h1 : bp ≠ bs) (h3 : bz ≠ bs) : Spl (w.setCell ⟨bs, 0, none⟩ (.string q)) bp bs bz q :=
  ⟨h.sep.other h1 _, h.str.set _, h.sav.other h3 _⟩
set_option maxRecDepth 100000 in
set_option maxHeartbeats 2000000 in
theorem split1_box (t : ByteArray) (bp bs bz n₀ n : Nat) (w : World) (hn : 1 ≤ n) (hs : Spl w bp bs bz t) (h1 : bp < n₀) (h2 : bs < n₀) (h3 : bz < n₀) (hn0 : n₀ ≤ w.heap.size) (d1 : bp ≠ bs) (d3 : bz ≠ bs) (hts : t.size ≤ 9223372036854775000) :
    Kit.SeqBox n Tryz.prog 183 #[.pointer (some ⟨bp, 0, none⟩), .pointer (some ⟨bs, 0, none⟩), .pointer (some ⟨bz, 0, none⟩)] strE n₀
      (fun ys => ys.map bx = Ds.splitC 47 (Ds.bl t)) (fun ys => ys.map bx <+: Ds.splitC 47 (Ds.bl t)) (Ds.splitC 47 (Ds.bl t)).length bs w := fun l J Jx W hW hJ hJb hY h0 => by
  have hS := hs.below hW (Nat.lt_of_lt_of_le h1 hn0) (Nat.lt_of_lt_of_le h2 hn0) (Nat.lt_of_lt_of_le h3 hn0)
  have cp := hS.sep.cell
  refine callsIn_of_wp Tryz.func183 rfl trivial ?_ rfl
  simp only [Tryz.ntmps183, List.size_toArray, List.length_cons, List.length_nil, Nat.reduceAdd, Nat.reduceSub, Array.replicate_succ, Array.replicate_zero, List.push_toArray, List.append_toArray, List.nil_append, List.cons_append]
  gi_wp2
  clear cp
  gi_loopw [7] (fun _ wr => ∃ (pre : List Sx) (r : ByteArray), Spl wr bp bs bz r ∧ J pre wr ∧ r.size ≤ 9223372036854775000 ∧ Hid (Ds.splitC 47 (Ds.bl t) = pre.map bx ++ Ds.splitC 47 (Ds.bl r))) (fun _ wr => restLen bs wr)
  case atStart => exact ⟨[], t, hS, h0, hts, rfl⟩
  case round =>
    obtain ⟨pre, r, hSp, hJs, hrs, hsplit⟩ := hrel
    have cp := hSp.sep.cell
    have cs := hSp.str.cell
    have fs := hSp.str.frozen
    have cz := hSp.sav.cell
    have hlen : pre.length < (Ds.splitC 47 (Ds.bl t)).length := by
      rw [hsplit.out, List.length_append, List.length_map]
      have := List.length_pos_iff.2 (Ds.splitC_ne 47 (Ds.bl r))
      omega
    have HI := hid (Sh.strings_Index_one r 47 wr)
    cases hcut : Ds.cutC 47 (Ds.bl r) with
    | none =>
      have HF : Hid (Ds.splitC 47 (Ds.bl t) = (pre ++ [(⟨r, hrs⟩ : Sx)]).map bx) := by show _ = _; rw [hsplit.out, Ds.split_none hcut]; simp [bx]
      obtain ⟨fn, tmps, assign, body, hy, hR⟩ := hY pre (⟨r, hrs⟩ : Sx) wr hJs hlen
      have HI2 := HI.out
      rw [Ds.idx_none hcut] at HI2
      have HI3 := hid HI2
      unfold strE at hy
      clear HI HI2 hsplit hcut
      gi_wp2_with (refine ⟨trivial, ?_⟩; gi_at_call 185; refine (callsIn_wide.2 HI3.out).mono ?_; rintro e w1 ⟨rfl, rfl⟩)
      refine hR.mono ?_
      rintro e W3 (⟨rfl, hJ3, hk3⟩ | ⟨rfl, hJx3⟩)
      · gi_wp2
        go_end0
        exact ⟨⟨_, rfl⟩, .inl ⟨_, HF.out.symm, hJ3⟩⟩
      · gi_wp2
        go_end0
        exact ⟨⟨_, rfl⟩, .inr ⟨_, by rw [HF.out]; exact List.prefix_rfl, hJx3⟩⟩
    | some ab =>
      obtain ⟨a, b⟩ := ab
      obtain ⟨m, hm⟩ : ∃ m, a.length = m := ⟨_, rfl⟩
      have hal : m < r.size := by
        have := congrArg List.length (Ds.cut_eq hcut)
        rw [bl_len, List.length_append, List.length_cons] at this
        omega
      have hex : (r.extract 0 m).size ≤ 9223372036854775000 := by have := ext_size r 0 m; omega
      have hfr : Ds.bl (r.extract 0 m) = a := by
        rw [bl_ext, Ds.cut_eq hcut, ← hm]; simp
      have hre : Ds.bl (r.extract (m + 1) r.size) = b := by
        rw [bl_ext, ← bl_len, Ds.cut_eq hcut, ← hm]
        rw [show (a ++ 47 :: b).drop (a.length + 1) = b by rw [List.drop_append, List.drop_eq_nil_of_le (by omega)]; simp]
        exact List.take_of_length_le (by simp; omega)
      have HF : Hid (Ds.splitC 47 (Ds.bl t) = (pre ++ [(⟨r.extract 0 m, hex⟩ : Sx)]).map bx ++ Ds.splitC 47 (Ds.bl (r.extract (m + 1) r.size))) := by
        show _ = _
        rw [hsplit.out, Ds.split_some hcut, List.map_append, List.map_cons, List.map_nil, hre, show bx ⟨r.extract 0 m, hex⟩ = a from hfr]; simp
      obtain ⟨fn, tmps, assign, body, hy, hR⟩ := hY pre (⟨r.extract 0 m, hex⟩ : Sx) wr hJs hlen
      have HI2 := HI.out
      rw [Ds.idx_some hcut, hm] at HI2
      have HI3 := hid HI2
      unfold strE at hy
      have hal' : (m : Int) < r.size := by omega
      clear HI HI2 hsplit
      gi_wp2_with (refine ⟨trivial, ?_⟩; gi_at_call 185; refine (callsIn_wide.2 HI3.out).mono ?_; rintro e w1 ⟨rfl, rfl⟩)
      refine hR.mono ?_
      rintro e W3 (⟨rfl, hJ3, hk3⟩ | ⟨rfl, hJx3⟩)
      · have hS3 := hSp.below hk3 h1 h2 h3
        have cp3 := hS3.sep.cell
        have cs3 := hS3.str.cell
        have fs3 := hS3.str.frozen
        gi_wp2
        go_roundw
        case rel => exact ⟨pre ++ [⟨r.extract 0 m, hex⟩], r.extract (m + 1) r.size, hS3.set _ d1 d3, hJb _ _ _ hJ3, by have := ext_size r (m + 1) r.size; omega, HF⟩
        case measure =>
          rw [restLen_of (hS3.set (r.extract (m + 1) r.size) d1 d3).str.cell, restLen_of cs, ByteArray.size_extract]
          omega
      · gi_wp2
        refine bodyPost_ret (results_none rfl _ _ _) rfl ?_
        exact ⟨⟨_, rfl⟩, .inr ⟨_, by rw [HF.out]; exact List.prefix_append _ _, hJx3⟩⟩
end Go.Proofs.YtjnjnfhboafcgaaGreatDoor.L2
namespace Go.Proofs.YtjnjnfhboafcgaaGreatDoor.L2
open Go.RowKit

attribute [local go_sem] Oper.semAt_some

theorem splitSeq_any (s sep : ByteArray) (w : World) : Calls Tryz.prog 122 #[.string s, .string sep] w fun e w' =>
    e = .returned (.func (.func 183) #[] #[.pointer (some ⟨w.heap.size + 1, 0, none⟩), .pointer (some ⟨w.heap.size, 0, none⟩), .pointer (some ⟨w.heap.size + 1 + 1, 0, none⟩)]) ∧
    w' = ((w.alloc (.cells #[.string s] 9)).alloc (.cells #[.string sep] 9)).alloc (.cells #[.int .i64 0] 3) := by
  go_enter Tryz.func122, Tryz.ntmps122
  go_wp2
  go_ret
  exact ⟨rfl, rfl⟩
set_option maxRecDepth 100000 in
set_option maxHeartbeats 2000000 in
theorem className_any (s : ByteArray) (w : World) :
    Calls Tryz.prog 68 #[.string s] w fun e w' => e = .returned (.int .i64 (nameE (Ds.bl s))) ∧ Below w.heap.size w w' := by
  unfold nameE
  rw [bl_len]
  by_cases h1 : 255 < s.size
  · rw [if_pos h1]
    have hd : decide (255 < (s.size : Int)) = true := by simp; omega
    go_enter Tryz.func68, Tryz.ntmps68
    go_wp2
    exact bodyPost_ret (v := .int .i64 3) (by simp [results, Tryz.results68, go_sem]) rfl ⟨rfl, (by repeat' first | with_reducible exact Below.refl _ _ | with_reducible assumption | with_reducible refine belows_drewN ?_ _ | with_reducible refine Below.drew ?_ | with_reducible refine Below.setCell ?_ ?_ _ | with_reducible refine Below.alloc ?_ ?_ _ | omega | (simp; done) | (simp; omega))⟩
  · rw [if_neg h1]
    have hd : decide (255 < (s.size : Int)) = false := by simp; omega
    obtain ⟨er, her⟩ : ∃ er : Int, er = if Ds.classB (Ds.bl s) = true then 0 else 21 := ⟨_, rfl⟩
    rw [← her]
    have HER := hid her
    clear her
    refine (callsIn_wide (n := 5)).1 ?_
    refine callsIn_of_wp_marks Tryz.func68 rfl trivial ?_ rfl
    simp only [Tryz.ntmps68, List.size_toArray, List.length_cons, List.length_nil, Nat.reduceAdd, Nat.reduceSub, Array.replicate_succ, Array.replicate_zero, List.push_toArray, List.append_toArray, List.nil_append, List.cons_append]
    gi_wp2_with (refine ⟨trivial, ?_⟩; gi_at_call 122; refine (callsIn_wide.2 (splitSeq_any _ _ _)).mono ?_; rintro e w1 ⟨rfl, rfl⟩)
    have b0 := (((Boxed.new w 27 (.int .i64 0)).alloc (.cells #[.string s] 9)).alloc (.cells #[.string ⟨#[47]⟩] 9)).alloc (.cells #[.int .i64 0] 3)
    have b1 := ((Boxed.new (w.alloc (.cells #[.int .i64 0] 27)) 9 (.string s)).alloc (.cells #[.string ⟨#[47]⟩] 9)).alloc (.cells #[.int .i64 0] 3)
    have b2 := (Boxed.new ((w.alloc (.cells #[.int .i64 0] 27)).alloc (.cells #[.string s] 9)) 9 (.string ⟨#[47]⟩)).alloc (.cells #[.int .i64 0] 3)
    have b3 := Boxed.new (((w.alloc (.cells #[.int .i64 0] 27)).alloc (.cells #[.string s] 9)).alloc (.cells #[.string ⟨#[47]⟩] 9)) 3 (.int .i64 0)
    simp only [World.size_alloc] at b0 b1 b2 b3
    have hB0 : Below w.heap.size w ((((w.alloc (.cells #[.int .i64 0] 27)).alloc (.cells #[.string s] 9)).alloc (.cells #[.string ⟨#[47]⟩] 9)).alloc (.cells #[.int .i64 0] 3)) := ((((Below.refl _ w).alloc (Nat.le_refl _) _).alloc (by simp only [World.size_alloc]; omega) _).alloc (by simp only [World.size_alloc]; omega) _).alloc (by simp only [World.size_alloc]; omega) _
    have hsz : ((((w.alloc (.cells #[.int .i64 0] 27)).alloc (.cells #[.string s] 9)).alloc (.cells #[.string ⟨#[47]⟩] 9)).alloc (.cells #[.int .i64 0] 3)).heap.size = w.heap.size + 4 := by simp only [World.size_alloc]
    obtain ⟨W0, hW0⟩ : ∃ W0, (((w.alloc (.cells #[.int .i64 0] 27)).alloc (.cells #[.string s] 9)).alloc (.cells #[.string ⟨#[47]⟩] 9)).alloc (.cells #[.int .i64 0] 3) = W0 := ⟨_, rfl⟩
    rw [hW0] at b0 b1 b2 b3 hB0 hsz ⊢
    clear hW0
    refine Kit.range_box (n₀ := W0.heap.size) (by omega) (gf := 183) (lb := #[.pointer (some ⟨w.heap.size + 1 + 1, 0, none⟩), .pointer (some ⟨w.heap.size + 1, 0, none⟩), .pointer (some ⟨w.heap.size + 1 + 1 + 1, 0, none⟩)]) rfl (enters_of Tryz.func183 (by kernel_rfl) rfl)
      (split1_box s (w.heap.size + 1 + 1) (w.heap.size + 1) (w.heap.size + 1 + 1 + 1) W0.heap.size (5 - 1) W0 (by omega) ⟨b2, b1, b3⟩ (by omega) (by omega) (by omega) (Nat.le_refl _) (by omega) (by omega) (by omega)) (Nat.le_refl _) (Below.refl _ _) (fun _ => rfl)
      (fun pre W => (Boxed W w.heap.size 27 (.int .i64 0) ∧ Hid (∀ x ∈ pre, Ds.partB (bx x) = true)) ∧ Below w.heap.size w W)
      (fun pre W => (Boxed W w.heap.size 27 (.int .i64 21) ∧ Hid (∃ x ∈ pre, Ds.partB (bx x) = false)) ∧ Below w.heap.size w W)
      (OwnFrom.and (OwnFrom.and (Own.from (boxed_own _ _ _) _) (ownFrom_pure _ (fun pre : List Sx => Hid (∀ x ∈ pre, Ds.partB (bx x) = true)))) (ownFrom_below (Nat.le_refl _) (by omega)))
      (OwnFrom.and (OwnFrom.and (Own.from (boxed_own _ _ _) _) (ownFrom_pure _ (fun pre : List Sx => Hid (∃ x ∈ pre, Ds.partB (bx x) = false)))) (ownFrom_below (Nat.le_refl _) (by omega)))
      (fun pre W v ⟨⟨i0, ip⟩, iB⟩ => ⟨⟨i0.other (by omega) v, ip⟩, iB.setCell (p := ⟨w.heap.size + 1, 0, none⟩) (by show w.heap.size ≤ w.heap.size + 1; omega) v⟩)
      ⟨⟨b0, hid (fun x hx => by simp at hx)⟩, hB0⟩
      (fun x => { tmps := #[.string s, undef, .pointer (some ⟨w.heap.size, 0, none⟩), .string x.1, .string s, .int .i64 s.size, .bool false, .string s, .func (.func 183) #[] #[.pointer (some ⟨w.heap.size + 1 + 1, 0, none⟩), .pointer (some ⟨w.heap.size + 1, 0, none⟩), .pointer (some ⟨w.heap.size + 1 + 1 + 1, 0, none⟩)], .string x.1, undef, undef, undef], defers := [] }) ?assign ?body ?done ?stop
    case assign =>
      intro l x W K hK
      unfold strE
      gi_wp2
      exact hK
    case body =>
      rintro l pre ⟨x, hx⟩ W ⟨⟨i0, ip⟩, iB⟩ _
      have c0 := i0.cell
      have f0 := i0.frozen
      have HP := isPart_any x W (by unfold maxLen; omega)
      cases hp : Ds.partB (Ds.bl x) with
      | true =>
        have HN : Hid (∀ y ∈ pre ++ [(⟨x, hx⟩ : Sx)], Ds.partB (bx y) = true) := fun y hy => by
          rcases List.mem_append.1 hy with hy | hy
          · exact ip.out y hy
          · rw [List.mem_singleton.1 hy]; exact hp
        rw [hp] at HP
        have HP2 := hid HP
        clear HP hp
        gi_wp2_with (refine ⟨trivial, ?_⟩; gi_at_call 123; refine (CallsIn.inRound l (callsIn_wide.2 HP2.out)).mono ?_; rintro e w1 ⟨rfl, rfl⟩)
        exact ⟨KeepsFrom.refl _ _, Below.refl _ _, ⟨i0, HN⟩, iB⟩
      | false =>
        have HN : Hid (∃ y ∈ pre ++ [(⟨x, hx⟩ : Sx)], Ds.partB (bx y) = false) := ⟨⟨x, hx⟩, by simp, hp⟩
        rw [hp] at HP
        have HP2 := hid HP
        clear HP hp
        gi_wp2_with (refine ⟨trivial, ?_⟩; gi_at_call 123; refine (CallsIn.inRound l (callsIn_wide.2 HP2.out)).mono ?_; rintro e w1 ⟨rfl, rfl⟩)
        exact ⟨(KeepsOthers.setCell _ _ _).from _, ⟨i0.set _, HN⟩, iB.setCell (p := ⟨w.heap.size, 0, none⟩) (Nat.le_refl _) _⟩
    case done =>
      rintro D ys W hD hys ⟨⟨i0, ip⟩, iB⟩ hK
      have hc : Ds.classB (Ds.bl s) = true := by
        unfold Ds.classB
        rw [← hys, List.all_map, List.all_eq_true]
        exact ip.out
      have HC := hid hc
      have c0 := i0.cell
      have f0 := i0.frozen
      clear hc
      gi_wp2
      have hK' := (KeepsOthers.setCell W ⟨w.heap.size, 0, none⟩ (.int .i64 0)).same D _ hK rfl
      refine ⟨by simp, .inl ⟨_, _, rfl, run_takeDeferred hK', ?_⟩⟩
      have hc5 := Go.cell_kept (World.cell?_setCell_same' W ⟨w.heap.size, 0, none⟩ (.int .i64 0) (by rw [c0]; rfl)) (grownBy_putObj' _ D (.deferred none)) (fun r e => by cases e; exact ⟨_, hK', rfl⟩)
      refine ⟨.int .i64 0, ?_, by rw [HER.out, if_pos HC.out], (iB.setCell (p := ⟨w.heap.size, 0, none⟩) (Nat.le_refl _) _).trans (belowK_b (w := w) (Nat.le_refl _) _ D _ _ (by omega) hK' rfl rfl)⟩
      simp [results, Tryz.f68, go_sem, hc5]
    case stop =>
      rintro D pre W hD hpre ⟨⟨i0, ip⟩, iB⟩ hK
      have hc : Ds.classB (Ds.bl s) = false := by
        obtain ⟨x, hx, hp⟩ := ip.out
        unfold Ds.classB
        rw [List.all_eq_false]
        exact ⟨bx x, hpre.subset (List.mem_map_of_mem hx), by simp [hp]⟩
      have HC := hid hc
      clear hc
      gi_wp2
      refine ⟨by simp, .inl ⟨_, _, rfl, run_takeDeferred hK, ?_⟩⟩
      have hc5 := Go.cell_kept i0.cell (grownBy_putObj' _ D (.deferred none)) (fun r e => by cases e; exact ⟨_, hK, rfl⟩)
      refine ⟨.int .i64 21, ?_, by rw [HER.out, if_neg (by rw [HC.out]; simp)], iB.trans (belowK_b (w := w) (Nat.le_refl _) _ D _ _ (by omega) hK rfl rfl)⟩
      simp [results, Tryz.f68, go_sem, hc5]
end Go.Proofs.YtjnjnfhboafcgaaGreatDoor.L2
namespace Go.Proofs.YtjnjnfhboafcgaaGreatDoor.L2
open Go.RowKit

/-- A reader: what is left of its text; the map of letters lies ahead of it. -/
structure Rd (w : World) (pb mb : Nat) (t : ByteArray) : Prop where
  cells : w.heap[pb]? = some (.cells #[.string t, .map (some mb)] 209 (0, 0))
  kmap : KMap w mb
  lt : mb < pb
theorem Rd.sz {w : World} {pb mb : Nat} {t : ByteArray} (h : Rd w pb mb t) : pb < w.heap.size := (Array.getElem?_eq_some_iff.1 h.cells).1
theorem Rd.left {w : World} {pb mb : Nat} {t : ByteArray} (h : Rd w pb mb t) : w.cell? ⟨pb, 0, none⟩ = some (.string t) := by simp [World.cell?, h.cells]
theorem Rd.kinds {w : World} {pb mb : Nat} {t : ByteArray} (h : Rd w pb mb t) : w.cell? ⟨pb, 1, none⟩ = some (.map (some mb)) := by simp [World.cell?, h.cells]
theorem Rd.frozen {w : World} {pb mb : Nat} {t : ByteArray} (h : Rd w pb mb t) (j : Nat) : w.frozen? ⟨pb, j, none⟩ = false := by simp [World.frozen?, h.cells]
theorem Rd.below {w w' : World} {pb mb n₀ : Nat} {t : ByteArray} (h : Rd w pb mb t) (hb : Below n₀ w w') (hp : pb < n₀) : Rd w' pb mb t := ⟨(hb.block pb hp).trans h.cells, h.kmap.below hb (by have := h.lt; omega), h.lt⟩
theorem Rd.set {w : World} {pb mb : Nat} {t : ByteArray} (h : Rd w pb mb t) (q : ByteArray) : Rd (w.setCell ⟨pb, 0, none⟩ (.string q)) pb mb q := by
  refine ⟨?_, h.kmap.below (n₀ := pb) ((Below.refl _ w).setCell (p := ⟨pb, 0, none⟩) (Nat.le_refl _) _) h.lt, h.lt⟩
  obtain ⟨hlt, hk⟩ := Array.getElem?_eq_some_iff.1 h.cells
  show (w.heap.modify pb _)[pb]? = _
  rw [Array.getElem?_eq_getElem (by rw [Array.size_modify]; exact hlt), Array.getElem_modify_self, hk]
  rfl
/-- What can't be read. -/
def bad : Ending := .panicked [{ v := .iface 27 (.int .i64 20), recovered := false }]
theorem size_pos {t : ByteArray} {c : UInt8} {l : List UInt8} (h : Ds.bl t = c :: l) : 0 < t.size := by rw [← bl_len, h]; simp
theorem first_at {t : ByteArray} {c : UInt8} {l : List UInt8} (h : Ds.bl t = c :: l) : t[0]'(size_pos h) = c := by
  have := bl_at t 0 (size_pos h)
  rw [h] at this
  simpa using this.symm
theorem rest_at {t : ByteArray} {c : UInt8} {l : List UInt8} (h : Ds.bl t = c :: l) : Ds.bl (t.extract 1 t.size) = l := by
  rw [bl_ext, h, ← bl_len, h]; simp
set_option maxRecDepth 100000 in
theorem take_bad (pb mb : Nat) (t : ByteArray) (w : World) (hr : Rd w pb mb t) (h : Ds.bl t = []) : Calls Tryz.prog 173 #[.pointer (some ⟨pb, 0, none⟩)] w fun e w' => e = bad ∧ w = w' := by
  have cl := hr.left
  have h0 : (t.toList.isEmpty) = true := by rw [ByteArray.toList_eq]; exact List.isEmpty_iff.2 h
  clear h hr
  unfold bad
  go_enter Tryz.func173, Tryz.ntmps173
  go_wp2
  exact ⟨rfl, rfl, rfl⟩
set_option maxRecDepth 100000 in
theorem take_ok (pb mb : Nat) (t : ByteArray) (c : UInt8) (l : List UInt8) (w : World) (hr : Rd w pb mb t) (h : Ds.bl t = c :: l) : Calls Tryz.prog 173 #[.pointer (some ⟨pb, 0, none⟩)] w fun e w' => e = .returned (.int .u8 (c.toNat : Nat)) ∧ w' = w.setCell ⟨pb, 0, none⟩ (.string (t.extract 1 t.size)) := by
  have cl := hr.left
  have fl := hr.frozen 0
  have h1 := size_pos h
  have h1' : (0 : Int) < t.size := by omega
  have HC : Hid (t[0]'h1 = c) := first_at h
  have h0 : (t.toList.isEmpty) = false := by
    rw [ByteArray.toList_eq]
    have : t.data.toList = c :: l := h
    rw [this]; rfl
  clear h hr
  go_enter Tryz.func173, Tryz.ntmps173
  go_wp2
  go_ret
  exact ⟨by rw [← HC.out]; rfl, rfl⟩
set_option maxRecDepth 100000 in
theorem skip_none (pb mb : Nat) (t : ByteArray) (z : Int) (w : World) (hr : Rd w pb mb t) (h : Ds.bl t = []) : Calls Tryz.prog 177 #[.pointer (some ⟨pb, 0, none⟩), .int .u8 z] w fun e w' => e = .returned (.bool false) ∧ w = w' := by
  have cl := hr.left
  have h0 : (t.toList.isEmpty) = true := by rw [ByteArray.toList_eq]; exact List.isEmpty_iff.2 h
  clear h hr
  go_enter Tryz.func177, Tryz.ntmps177
  go_wp2
  go_ret
  exact ⟨rfl, rfl⟩
set_option maxRecDepth 100000 in
theorem skip_other (pb mb : Nat) (t : ByteArray) (c : UInt8) (l : List UInt8) (z : Int) (w : World) (hr : Rd w pb mb t) (h : Ds.bl t = c :: l) (hne : ¬ (c.toNat : Int) = z) : Calls Tryz.prog 177 #[.pointer (some ⟨pb, 0, none⟩), .int .u8 z] w fun e w' => e = .returned (.bool false) ∧ w = w' := by
  have cl := hr.left
  have h1 := size_pos h
  have h1' : (0 : Int) < t.size := by omega
  have HC : t[0]'h1 = c := first_at h
  have hq : (((t[0]'h1).toNat : Int) != z) = true := by rw [HC]; simpa using hne
  have h0 : (t.toList.isEmpty) = false := by
    rw [ByteArray.toList_eq]
    have : t.data.toList = c :: l := h
    rw [this]; rfl
  clear h hr hne HC
  go_enter Tryz.func177, Tryz.ntmps177
  go_wp2
  go_ret
  exact ⟨rfl, rfl⟩
set_option maxRecDepth 100000 in
theorem skip_yes (pb mb : Nat) (t : ByteArray) (c : UInt8) (l : List UInt8) (z : Int) (w : World) (hr : Rd w pb mb t) (h : Ds.bl t = c :: l) (he : (c.toNat : Int) = z) : Calls Tryz.prog 177 #[.pointer (some ⟨pb, 0, none⟩), .int .u8 z] w fun e w' => e = .returned (.bool true) ∧ w' = w.setCell ⟨pb, 0, none⟩ (.string (t.extract 1 t.size)) := by
  have cl := hr.left
  have h1 := size_pos h
  have h1' : (0 : Int) < t.size := by omega
  have HC : t[0]'h1 = c := first_at h
  have hq : (((t[0]'h1).toNat : Int) != z) = false := by rw [HC]; simpa using he
  have h0 : (t.toList.isEmpty) = false := by
    rw [ByteArray.toList_eq]
    have : t.data.toList = c :: l := h
    rw [this]; rfl
  have HT := hid (take_ok pb mb t c l w hr h)
  clear h hr he HC
  go_enter Tryz.func177, Tryz.ntmps177
  go_wp2_with (go_at_call 173; refine HT.out.mono ?_; rintro e w1 ⟨rfl, rfl⟩)
  go_ret
  exact ⟨rfl, rfl⟩
end Go.Proofs.YtjnjnfhboafcgaaGreatDoor.L2

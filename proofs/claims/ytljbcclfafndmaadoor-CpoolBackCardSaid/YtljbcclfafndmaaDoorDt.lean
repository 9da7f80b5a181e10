/- Plain mathematics: numbers as bytes, there and back. -/
import Derived.Test.YtljbcclfafndmaaDoorDs
import Derived.Test.YtljbcclfafndmaaDoorCm
import Derived.Test.YtljbcclfafndmaaDoorDi
namespace Go.Proofs.YtljbcclfafndmaaDoor
open Go.RowKit

theorem bytesN_succ (z : Int) (k : Nat) : bytesN z (k + 1) = bytesN (z / 256) k ++ [z % 256] := by
  unfold bytesN
  rw [List.range_succ, List.map_append]
  congr 1
  · refine List.map_congr_left fun i hi => ?_
    have hi' := List.mem_range.1 hi
    unfold byteN
    rw [show k + 1 - 1 - i = (k - 1 - i) + 1 by omega, show 8 * ((k - 1 - i) + 1) = 8 + 8 * (k - 1 - i) by omega, Int.pow_add, show (2 : Int) ^ 8 = 256 from rfl, Int.ediv_ediv, if_neg (by omega), Int.sub_zero]
  · simp [byteN]
theorem bsOf_app (a b : List Int) : bsOf (a ++ b) = bsOf a ++ bsOf b := by unfold bsOf; rw [List.map_append]
theorem bsOf_one (z : Int) : bsOf [z] = [UInt8.ofNat z.toNat] := rfl
theorem bsOf_cons (z : Int) (l : List Int) : bsOf (z :: l) = UInt8.ofNat z.toNat :: bsOf l := rfl
theorem u8_back (c : UInt8) : UInt8.ofNat ((c.toNat : Int)).toNat = c := by simp
theorem u8_val {z : Int} (h : 0 ≤ z ∧ z < 256) : ((UInt8.ofNat z.toNat).toNat : Int) = z := by
  rw [UInt8.toNat_ofNat']
  omega
theorem bsOf_text (l : List UInt8) : bsOf (l.map fun b => (b.toNat : Int)) = l := by
  unfold bsOf
  rw [List.map_map]
  conv => rhs; rw [← List.map_id l]
  exact List.map_congr_left fun c _ => u8_back c
/-- The bytes of what bytes say are these bytes. -/
theorem bytes_num (l : List UInt8) : bsOf (bytesN (Cp.numU l) l.length) = l := by
  refine Cp.rev_ind (P := fun l => bsOf (bytesN (Cp.numU l) l.length) = l) rfl (fun l c ih => ?_) l
  have hc := Cp.u8_lt c
  rw [List.length_append, show [c].length = 1 from rfl, bytesN_succ, Cp.numU_snoc, show (Cp.numU l * 256 + (c.toNat : Int)) / 256 = Cp.numU l by omega, show (Cp.numU l * 256 + (c.toNat : Int)) % 256 = (c.toNat : Int) by omega, bsOf_app, ih, bsOf_one, u8_back]
/-- What is a multiple more has the same bytes. -/
theorem bytesN_add (k : Nat) : ∀ (z m : Int), bytesN (z + 256 ^ k * m) k = bytesN z k := by
  induction k with
  | zero => intro z m; rfl
  | succ k ih =>
    intro z m
    have e : z + 256 ^ (k + 1) * m = z + 256 * (256 ^ k * m) := by rw [Int.pow_succ, Int.mul_comm (256 ^ k) 256, Int.mul_assoc]
    rw [bytesN_succ, bytesN_succ, e, show (z + 256 * (256 ^ k * m)) / 256 = z / 256 + 256 ^ k * m by omega, show (z + 256 * (256 ^ k * m)) % 256 = z % 256 by omega, ih]
theorem mod_step (z P : Int) (hP : 0 < P) : z / 256 % P * 256 + z % 256 = z % (P * 256) := by
  have h1 : 0 ≤ z / 256 % P := Int.emod_nonneg _ (by omega)
  have h2 : z / 256 % P < P := Int.emod_lt_of_pos _ hP
  have h3 := Int.emod_add_mul_ediv (z / 256) P
  have h4 : z = 256 * (z / 256) + z % 256 := by omega
  have h5 : 0 ≤ z % 256 ∧ z % 256 < 256 := by omega
  generalize z / 256 % P = A at *
  generalize z / 256 / P = Y at *
  generalize z % 256 = S at *
  have e : z = (A * 256 + S) + (P * 256) * Y := by
    rw [Int.mul_assoc, Int.mul_left_comm]
    omega
  rw [e, Int.add_mul_emod_self_left, Int.emod_eq_of_lt (by omega) (by omega)]
/-- What a number's bytes say. -/
theorem num_bytes (k : Nat) : ∀ z : Int, Cp.numU (bsOf (bytesN z k)) = z % 256 ^ k := by
  induction k with
  | zero => intro z; show (0 : Int) = z % 1; omega
  | succ k ih =>
    intro z
    rw [bytesN_succ, bsOf_app, bsOf_one, Cp.numU_snoc, ih, u8_val (by omega), Int.pow_succ]
    exact mod_step z (256 ^ k) (Int.pow_pos (by decide))
theorem numI_4 {l : List UInt8} (h : l.length ≤ 4) : Cp.numI l = Cp.numU l := by
  have hr := Cp.numU_range l
  have hp : (256 : Int) ^ l.length ≤ 4294967296 := by
    match l.length, h with
    | 0, _ => decide
    | 1, _ => decide
    | 2, _ => decide
    | 3, _ => decide
    | 4, _ => decide
  rw [Cp.numI_U, Cp.w64]
  omega
theorem num2 (z : Int) (h : 0 ≤ z ∧ z ≤ 65535) : Cp.numI (bsOf (bytesN z 2)) = z := by
  rw [numI_4 (by rw [bsOf_len, bytesN_len]; omega), num_bytes]
  show z % 65536 = z
  omega
theorem num4 (z : Int) (h : z = IntKind.i32.wrap z) : IntKind.i32.wrap (Cp.numI (bsOf (bytesN z 4))) = z := by
  rw [numI_4 (by rw [bsOf_len, bytesN_len]; omega), num_bytes]
  show IntKind.i32.wrap (z % 4294967296) = z
  rw [IntKind.wrap_i32] at h ⊢
  omega
theorem num8 (z : Int) (h : I6 z) : Cp.numI (bsOf (bytesN z 8)) = z := by
  unfold I6 at h
  rw [Cp.numI_U, num_bytes, Cp.w64]
  show (z % 18446744073709551616 + 9223372036854775808) % 18446744073709551616 - 9223372036854775808 = z
  omega
theorem back2 {l : List UInt8} (h : l.length = 2) : bsOf (bytesN (Cp.numI l) 2) = l := by
  have := bytes_num l
  rw [h] at this
  rw [numI_4 (by omega), this]
theorem back4 {l : List UInt8} (h : l.length = 4) : bsOf (bytesN (IntKind.i32.wrap (Cp.numI l)) 4) = l := by
  have h1 := bytes_num l
  rw [h] at h1
  rw [numI_4 (by omega)]
  have e : IntKind.i32.wrap (Cp.numU l) = Cp.numU l + 256 ^ 4 * ((IntKind.i32.wrap (Cp.numU l) - Cp.numU l) / 4294967296) := by
    show _ = _ + 4294967296 * _
    rw [IntKind.wrap_i32]
    omega
  rw [e, bytesN_add, h1]
theorem back8 {l : List UInt8} (h : l.length = 8) : bsOf (bytesN (Cp.numI l) 8) = l := by
  have h1 := bytes_num l
  rw [h] at h1
  rw [Cp.numI_U]
  have e : Cp.W64 (Cp.numU l) = Cp.numU l + 256 ^ 8 * ((Cp.W64 (Cp.numU l) - Cp.numU l) / 18446744073709551616) := by
    show _ = _ + 18446744073709551616 * _
    rw [Cp.w64]
    omega
  rw [e, bytesN_add, h1]
theorem num2_range {l : List UInt8} (h : l.length = 2) : 0 ≤ Cp.numI l ∧ Cp.numI l ≤ 65535 := by
  rw [numI_4 (by omega)]
  have := Cp.numU_range l
  rw [h] at this
  have e : (256 : Int) ^ 2 = 65536 := rfl
  omega

theorem ce_zero {t : Int} {s : ByteArray} {n a b : Int} (hk : Cp.knownB t = true) (hn : I6 n) (h : eOk t s n a b) (hs : s.size ≤ 255) (hp : Cp.plainB (Cp.bl s) = true) : ceOut ⟨t, s, n, a, b⟩ = 0 := by
  rw [ce_yes hk hn h, hp]
  simp [hs]
theorem bl_back (s : ByteArray) : (⟨(Cp.bl s).toArray⟩ : ByteArray) = s := by
  cases s
  simp [Cp.bl]
theorem tx_back {s : ByteArray} (hs : s.size ≤ 255) (hp : Cp.plainB (Cp.bl s) = true) (r : List UInt8) : txP 2 (bsOf (bytesN s.size 2) ++ (Cp.bl s ++ r)) = .ok (Cp.bl s, r) := by
  have l2 : (bsOf (bytesN s.size 2)).length = 2 := by rw [bsOf_len, bytesN_len]
  have lb : (Cp.bl s).length = s.size := bl_len s
  unfold txP
  rw [List.take_left' l2, List.drop_left' l2, num2 s.size (by omega), if_neg (by rw [List.length_append]; omega), if_neg (by omega), if_neg (by rw [List.length_append]; omega), Int.toNat_natCast, List.take_left' lb, List.drop_left' lb, if_pos hp]
/-- An entry's bytes are read as this entry. -/
theorem en_back {c : Cp.C} {room : Int} (hc : ceOut c = 0) (hn : I6 c.n) (hr : ¬ (c.t = 5 ∧ room < 2)) (r : List UInt8) : enP room (bsOf (encE c) ++ r) = .ok (c, r) := by
  obtain ⟨h1, h2, h3, h4⟩ := ce_size hc
  obtain ⟨t, s, n, a, b⟩ := c
  dsimp only at h1 h2 h3 h4 hn hr
  obtain ⟨e1, e2, e3, e4⟩ := (cut_ok h1 hn).1 h2
  rcases of_decide_eq_true h1 with rfl | rfl | rfl | rfl | ht
  · obtain rfl : n = 0 := by omega
    obtain rfl : a = 0 := by omega
    obtain rfl : b = 0 := by omega
    rw [enc_text s 0 0 0 rfl, bsOf_app, bsOf_app, bsOf_text, show bsOf [1 % 256] = [1] from rfl, List.append_assoc, List.append_assoc]
    show enP room (1 :: (bsOf (bytesN s.size 2) ++ (Cp.bl s ++ r))) = _
    rw [en_utf, tx_back h3 h4]
  · obtain rfl : s = ⟨#[]⟩ := e4.resolve_left (by omega)
    obtain rfl : a = 0 := by omega
    obtain rfl : b = 0 := by omega
    have hw : n = IntKind.i32.wrap n := by
      rcases e1 with rfl | h | ⟨-, h⟩
      · rfl
      · omega
      · exact h
    have l4 : (bsOf (bytesN n 4)).length = 4 := by rw [bsOf_len, bytesN_len]
    rw [enc_num (t := 3) n 0 0 4 rfl, bsOf_app, show bsOf [3 % 256] = [3] from rfl, List.append_assoc]
    show enP room (3 :: (bsOf (bytesN n 4) ++ r)) = _
    rw [en_int, if_neg (by rw [List.length_append]; omega), List.take_left' l4, List.drop_left' l4, num4 n hw]
  · obtain rfl : s = ⟨#[]⟩ := e4.resolve_left (by omega)
    obtain rfl : a = 0 := by omega
    obtain rfl : b = 0 := by omega
    have l8 : (bsOf (bytesN n 8)).length = 8 := by rw [bsOf_len, bytesN_len]
    rw [enc_num (t := 5) n 0 0 8 rfl, bsOf_app, show bsOf [5 % 256] = [5] from rfl, List.append_assoc]
    show enP room (5 :: (bsOf (bytesN n 8) ++ r)) = _
    rw [en_long room (fun h => hr ⟨rfl, h⟩), if_neg (by rw [List.length_append]; omega), List.take_left' l8, List.drop_left' l8, num8 n hn]
  · obtain rfl : s = ⟨#[]⟩ := e4.resolve_left (by omega)
    obtain rfl : n = 0 := by omega
    obtain rfl : b = 0 := by omega
    have l2 : (bsOf (bytesN a 2)).length = 2 := by rw [bsOf_len, bytesN_len]
    rw [enc_one (t := 7) 0 a 0 rfl, bsOf_app, show bsOf [7 % 256] = [7] from rfl, List.append_assoc]
    show enP room (7 :: (bsOf (bytesN a 2) ++ r)) = _
    rw [en_class, if_neg (by rw [List.length_append]; omega), List.take_left' l2, List.drop_left' l2, num2 a (by omega)]
  · obtain rfl : s = ⟨#[]⟩ := e4.resolve_left (by omega)
    obtain rfl : n = 0 := by omega
    have l2 : (bsOf (bytesN a 2)).length = 2 := by rw [bsOf_len, bytesN_len]
    have l3 : (bsOf (bytesN b 2)).length = 2 := by rw [bsOf_len, bytesN_len]
    have l4 : (bsOf (bytesN a 2) ++ bsOf (bytesN b 2)).length = 4 := by rw [List.length_append]; omega
    rw [enc_two (t := t) 0 a b ht, bsOf_app, bsOf_app, List.append_assoc, List.append_assoc]
    have key : ∀ x : UInt8, (x.toNat : Int) = t → enP room ([x] ++ (bsOf (bytesN a 2) ++ (bsOf (bytesN b 2) ++ r))) = .ok (⟨t, ⟨#[]⟩, 0, a, b⟩, r) := by
      intro x hx
      show enP room (x :: (bsOf (bytesN a 2) ++ (bsOf (bytesN b 2) ++ r))) = _
      rw [en_two room x _ (by omega), if_neg (by simp only [List.length_append]; omega), List.take_left' l2, List.drop_left' l2, List.take_left' l3, ← List.append_assoc, List.drop_left' l4, num2 a (by omega), num2 b (by omega), hx]
    exact key _ (u8_val (z := t % 256) (by omega) |>.trans (by omega))
theorem u8_is {x : UInt8} {k : Nat} (h : (x.toNat : Int) = k) (_ : k < 256) : x = UInt8.ofNat k := by
  have e : x.toNat = k := by omega
  rw [← e]
  simp
/-- What is read as an entry are its bytes. -/
theorem en_forth {room : Int} {bs r : List UInt8} {c : Cp.C} (h : enP room bs = .ok (c, r)) : ceOut c = 0 ∧ I6 c.n ∧ bs = bsOf (encE c) ++ r ∧ ¬ (c.t = 5 ∧ room < 2) := by
  cases bs with
  | nil => cases h
  | cons x q =>
    have hk : Cp.knownB (x.toNat : Int) = true ∧ ¬ ((x.toNat : Int) = 5 ∧ room < 2) := by
      unfold enP at h
      dsimp only at h
      by_cases hb : Cp.knownB (x.toNat : Int) = false ∨ ((x.toNat : Int) = 5 ∧ room < 2)
      · rw [if_pos hb] at h; cases h
      · refine ⟨?_, fun e => hb (.inr e)⟩
        cases he : Cp.knownB (x.toNat : Int) with
        | true => rfl
        | false => exact absurd (.inl he) hb
    obtain ⟨hk, hr⟩ := hk
    have z6 : I6 0 := by unfold I6; omega
    rcases of_decide_eq_true hk with hx | hx | hx | hx | hx
    · obtain rfl : x = 1 := u8_is (k := 1) hx (by decide)
      rw [en_utf] at h
      cases htx : txP 2 q with
      | error e => rw [htx] at h; cases h
      | ok y =>
        obtain ⟨s, r1⟩ := y
        rw [htx] at h
        dsimp only at h
        obtain ⟨rfl, rfl⟩ := Prod.mk.inj (Except.ok.inj h)
        unfold txP at htx
        by_cases g1 : q.length < 2
        · rw [if_pos g1] at htx; cases htx
        · rw [if_neg g1] at htx
          have l2 : (q.take 2).length = 2 := by rw [List.length_take]; omega
          have hnr := num2_range l2
          obtain ⟨N, hN⟩ : ∃ N : Nat, Cp.numI (q.take 2) = N := ⟨(Cp.numI (q.take 2)).toNat, by omega⟩
          have hb2 := back2 l2
          rw [hN] at htx hb2
          by_cases g2 : (255 : Int) < N
          · rw [if_pos g2] at htx; cases htx
          · rw [if_neg g2] at htx
            by_cases g3 : ((q.drop 2).length : Int) < N
            · rw [if_pos g3] at htx; cases htx
            · rw [if_neg g3, Int.toNat_natCast] at htx
              by_cases g4 : Cp.plainB ((q.drop 2).take N) = true
              · rw [if_pos g4] at htx
                obtain ⟨rfl, rfl⟩ := Prod.mk.inj (Except.ok.inj htx)
                have hsz : (⟨((q.drop 2).take N).toArray⟩ : ByteArray).size = N := by
                  show ((q.drop 2).take N).toArray.size = N
                  rw [List.size_toArray, List.length_take]
                  omega
                have hbl : Cp.bl (⟨((q.drop 2).take N).toArray⟩ : ByteArray) = (q.drop 2).take N := by simp [Cp.bl]
                refine ⟨ce_zero (by decide) z6 ⟨.inl rfl, .inl rfl, .inl rfl, .inl rfl⟩ (by rw [hsz]; omega) (by rw [hbl]; exact g4), z6, ?_, hr⟩
                rw [enc_text _ 0 0 0 rfl, bsOf_app, bsOf_app, bsOf_text, hsz, hb2, hbl, show bsOf [1 % 256] = [1] from rfl]
                simp only [List.append_assoc, List.cons_append, List.nil_append]
                rw [List.take_append_drop, List.take_append_drop]
              · rw [if_neg g4] at htx; cases htx
    · obtain rfl : x = 3 := u8_is (k := 3) hx (by decide)
      rw [en_int] at h
      by_cases g1 : q.length < 4
      · rw [if_pos g1] at h; cases h
      · rw [if_neg g1] at h
        obtain ⟨rfl, rfl⟩ := Prod.mk.inj (Except.ok.inj h)
        have l4 : (q.take 4).length = 4 := by rw [List.length_take]; omega
        have hb := back4 l4
        have hw : IntKind.i32.wrap (Cp.numI (q.take 4)) = IntKind.i32.wrap (IntKind.i32.wrap (Cp.numI (q.take 4))) := by
          rw [IntKind.wrap_i32, IntKind.wrap_i32]; omega
        have h6 : I6 (IntKind.i32.wrap (Cp.numI (q.take 4))) := by unfold I6; rw [IntKind.wrap_i32]; omega
        refine ⟨ce_zero (by decide) h6 ⟨.inr (.inr ⟨rfl, hw⟩), .inl rfl, .inl rfl, .inr rfl⟩ (by decide) (by decide), h6, ?_, hr⟩
        rw [enc_num (t := 3) _ 0 0 4 rfl, bsOf_app, hb, show bsOf [3 % 256] = [3] from rfl]
        simp
    · obtain rfl : x = 5 := u8_is (k := 5) hx (by decide)
      rw [en_long room (fun e => hr ⟨rfl, e⟩)] at h
      by_cases g1 : q.length < 8
      · rw [if_pos g1] at h; cases h
      · rw [if_neg g1] at h
        obtain ⟨rfl, rfl⟩ := Prod.mk.inj (Except.ok.inj h)
        have l8 : (q.take 8).length = 8 := by rw [List.length_take]; omega
        have hb := back8 l8
        have h6 : I6 (Cp.numI (q.take 8)) := by unfold I6; rw [Cp.numI_U, Cp.w64]; omega
        refine ⟨ce_zero (by decide) h6 ⟨.inr (.inl rfl), .inl rfl, .inl rfl, .inr rfl⟩ (by decide) (by decide), h6, ?_, hr⟩
        rw [enc_num (t := 5) _ 0 0 8 rfl, bsOf_app, hb, show bsOf [5 % 256] = [5] from rfl]
        simp
    · obtain rfl : x = 7 := u8_is (k := 7) hx (by decide)
      rw [en_class] at h
      by_cases g1 : q.length < 2
      · rw [if_pos g1] at h; cases h
      · rw [if_neg g1] at h
        obtain ⟨rfl, rfl⟩ := Prod.mk.inj (Except.ok.inj h)
        have l2 : (q.take 2).length = 2 := by rw [List.length_take]; omega
        have hb := back2 l2
        have hnr := num2_range l2
        refine ⟨ce_zero (by decide) z6 ⟨.inl rfl, by omega, .inl rfl, .inr rfl⟩ (by decide) (by decide), z6, ?_, hr⟩
        rw [enc_one (t := 7) 0 _ 0 rfl, bsOf_app, hb, show bsOf [7 % 256] = [7] from rfl]
        simp
    · rw [en_two room x q hx] at h
      by_cases g1 : q.length < 4
      · rw [if_pos g1] at h; cases h
      · rw [if_neg g1] at h
        obtain ⟨rfl, rfl⟩ := Prod.mk.inj (Except.ok.inj h)
        have l2 : (q.take 2).length = 2 := by rw [List.length_take]; omega
        have l3 : ((q.drop 2).take 2).length = 2 := by rw [List.length_take, List.length_drop]; omega
        have hb := back2 l2
        have hb3 := back2 l3
        have hnr := num2_range l2
        have hnr3 := num2_range l3
        refine ⟨ce_zero hk z6 ⟨.inl rfl, by omega, by omega, .inr rfl⟩ (by decide) (by decide), z6, ?_, hr⟩
        rw [enc_two (t := (x.toNat : Int)) 0 _ _ hx, bsOf_app, bsOf_app, hb, hb3, bsOf_one, show (x.toNat : Int) % 256 = (x.toNat : Int) by omega, u8_back]
        have e4 : q.drop 4 = (q.drop 2).drop 2 := by rw [List.drop_drop]
        rw [e4]
        simp only [List.append_assoc, List.cons_append, List.nil_append]
        rw [List.take_append_drop, List.take_append_drop]
end Go.Proofs.YtljbcclfafndmaaDoor
